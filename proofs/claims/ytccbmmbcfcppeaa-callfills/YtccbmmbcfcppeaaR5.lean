/- How many of the first units are whose, by the document: walked. -/
import Derived.Test.YtccbmmbcfcppeaaR4
namespace Go.Proofs.Ytccbmmbcfcppeaa
open Go.RowKit

/-- Where shares stands: i wants are gone through, m units are left. -/
structure ShI (X : List It) (K : Nat → Int) (n k i m : Nat) (g : Nat → Nat) : Prop where
  e : ∀ j, shR X k j = g j + shR (X.drop i) m j
  z : ∀ t, i ≤ t → t < n → g (og K n t) = 0
theorem ShI.next {bs : Bool} {L : List Wt} {k i m c : Nat} {g : Nat → Nat} (h : ShI (itX bs L) (keyX bs L) L.length k i m g) (hi : i < L.length) (hc : c = min m (kW L (og (keyX bs L) L.length i))) : ShI (itX bs L) (keyX bs L) L.length k (i + 1) (m - c) (upN g (og (keyX bs L) L.length i) c) := by
  refine ⟨fun j => ?_, fun t h1 h2 => ?_⟩
  · rw [h.e j, List.drop_eq_getElem_cons (by rw [itX_len]; exact hi), itX_at hi, shR]
    dsimp only
    rw [← hc]
    unfold upN
    by_cases e : og (keyX bs L) L.length i = j
    · rw [if_pos e, if_pos e, ← e, h.z i (Nat.le_refl _) hi]
      omega
    · rw [if_neg e, if_neg e]
      omega
  · unfold upN
    rw [if_neg, h.z t (by omega) h2]
    intro e
    have := og_srt (keyX bs L) L.length i t (Nat.zero_le _) (by omega) h2
    rw [e] at this
    exact this.irr

set_option maxRecDepth 100000 in
set_option maxHeartbeats 8000000 in
theorem rshares_any (bs : Bool) (ao vo : Option Addr) (ca cp : Nat) (L : List Wt) (k : Nat) (w : World) (hS : WC w ao L) (hO : OkW L) (hN : NumsC .i64 w vo (dl L.length (og (keyX bs L) L.length))) (hk : k ≤ 1000000) :
    Calls Try.prog 27 #[.agg #[.slice ao L.length ca, .slice vo L.length cp], .int .i64 (k : Int)] w fun e w' => ∃ b, e = .returned (.slice (some ⟨b, 0, none⟩) L.length L.length) ∧ Own .i64 3 w' b (dl L.length (shR (itX bs L) k)) ∧ Old w w' ∧ w.heap.size ≤ b := by
  have oA : Old w (w.alloc (.cells #[.slice ao L.length ca, .slice vo L.length cp] 61)) := (Old.refl w).alloc _
  have c0 := new_cell w #[.slice ao L.length ca, .slice vo L.length cp] 61 0 (.slice ao L.length ca) rfl
  have c1 := new_cell w #[.slice ao L.length ca, .slice vo L.length cp] 61 1 (.slice vo L.length cp) rfl
  have kS := hid (hS.old oA)
  have kN := hid (hN.old oA)
  have kO := hid hO
  have koA := hid oA
  have hfew := hO.few
  have hmk := make_i L.length (by omega)
  have hz1 := alloc_size w (.cells #[.slice ao L.length ca, .slice vo L.length cp] 61)
  clear hS hN hO oA
  go_enter Try.func27, Try.ntmps27
  go_wp2_with fail
  generalize w.alloc (.cells #[.slice ao L.length ca, .slice vo L.length cp] 61) = W1 at *
  obtain ⟨s, hs⟩ : ∃ s, w.heap.size = s := ⟨_, rfl⟩
  rw [hs] at c0 c1 hz1
  simp only [hs]
  have khs := hid hs
  clear hs hmk
  have hW0 : Hid (Own .i64 3 (W1.alloc (.cells (Array.replicate L.length (Value.int .i64 0)) 3)) W1.heap.size (dl L.length (fun _ => 0)) ∧ Old W1 (W1.alloc (.cells (Array.replicate L.length (Value.int .i64 0)) 3))) := ⟨own_zero (heap_new _ _), (Old.refl W1).alloc _⟩
  generalize W1.alloc (.cells (Array.replicate L.length (Value.int .i64 0)) 3) = W2 at *
  rw [hz1] at hW0
  obtain ⟨b, hb⟩ : ∃ b, s + 1 = b := ⟨_, rfl⟩
  rw [hb] at hW0 ⊢
  have hbz : Hid (W1.heap.size ≤ b ∧ b ≠ s ∧ w.heap.size ≤ b) := ⟨by omega, by omega, by have := khs.out; omega⟩
  clear hb hz1
  go_loopw [1, 6, 7] (fun t1 t6 _ wr => ∃ i m : Nat, (i ≤ L.length ∧ m ≤ 1000000) ∧ t1 = .int .i64 (m : Int) ∧ t6 = .int .i64 (i : Int) ∧ Hid (∃ g, (Own .i64 3 wr b (dl L.length g) ∧ Old W1 wr) ∧ ShI (itX bs L) (keyX bs L) L.length k i m g)) (fun _ t6 _ _ => L.length - (intOf t6).toNat)
  case atStart => exact ⟨0, k, by omega, rfl, rfl, hid ⟨_, hW0.out, fun j => by rw [List.drop_zero, Nat.zero_add], fun t _ _ => rfl⟩⟩
  case round =>
    clear hW0
    obtain ⟨i, m, him, rfl, rfl, hG⟩ := hrel
    obtain ⟨g, hW1, hSh⟩ := hG.out
    have hW := hid hW1
    have c0 := hW1.2.cell c0
    have c1 := hW1.2.cell c1
    by_cases hlt : i < L.length
    · have hlt' : (i : Int) < (L.length : Int) := by omega
      obtain ⟨gb, ob, rfl, d3⟩ := dl_num (kN.out.old hW1.2) hlt
      have hxl := og_lt (K := keyX bs L) hlt
      obtain ⟨ga, oa, rfl, -, d2⟩ := kS.out.old hW1.2 _ hxl
      rw [kO.out.cnt hxl] at d2
      have ok := kO.out.ok _ hxl
      have hnx0 := hid (fun c hc => hSh.next (c := c) hlt hc)
      obtain ⟨x, hx⟩ : ∃ x, og (keyX bs L) L.length i = x := ⟨_, rfl⟩
      rw [hx] at d3 d2 hxl ok hnx0
      obtain ⟨kx, hkx⟩ : ∃ kx, kW L x = kx := ⟨_, rfl⟩
      rw [hkx] at d2 ok hnx0
      have hxl' : (x : Int) < (L.length : Int) := by omega
      clear hx hkx hG hW1 hSh
      by_cases hle : kx < m
      · have hnx := hid (hnx0.out kx (by omega))
        have hle' : (kx : Int) < (m : Int) := by omega
        have hmin : min (m : Int) (kx : Int) = (kx : Int) := by omega
        clear hnx0
        go_upto_region 5 with fail
        go_quiet (fail)
        have oQ : Old wr (wr.drewN nq) := (Old.refl wr).drewN nq
        have hO2 := hid (hW.out.1.kept oQ (fun h => h))
        have c0 := oQ.cell c0
        have c1 := oQ.cell c1
        have d3 := oQ.cell d3
        have ho2 := hid (hW.out.2.trans oQ)
        have q0 := hO2.out.cell (i := x) (by rw [dl_len]; exact hxl)
        have hst := hid (hO2.out.set x (kx : Int))
        rw [dl_up] at hst
        have hfr := hid (Frm.trans ho2.out (frm_set (wr.drewN nq) b x (.int .i64 (kx : Int))) (fun i hi e => by have := hbz.out; omega))
        generalize (dl L.length g)[x]'(by rw [dl_len]; exact hxl) = y0 at q0
        obtain ⟨q1, q2⟩ := q0
        clear oQ hW hO2 ho2 d2
        generalize wr.drewN nq = wq at *
        go_wp2_with fail
        go_roundw
        case rel => exact ⟨i + 1, m - kx, by omega, by simp; try omega, by go_num, hid ⟨_, ⟨hst.out, hfr.out⟩, hnx.out⟩⟩
        case measure => simp [intOf]; omega
      · have hnx := hid (hnx0.out m (by omega))
        have hle' : ¬ (kx : Int) < (m : Int) := by omega
        have hmin : min (m : Int) (kx : Int) = (m : Int) := by omega
        clear hnx0
        go_upto_region 5 with fail
        go_quiet (fail)
        have oQ : Old wr (wr.drewN nq) := (Old.refl wr).drewN nq
        have hO2 := hid (hW.out.1.kept oQ (fun h => h))
        have c0 := oQ.cell c0
        have c1 := oQ.cell c1
        have d3 := oQ.cell d3
        have ho2 := hid (hW.out.2.trans oQ)
        have q0 := hO2.out.cell (i := x) (by rw [dl_len]; exact hxl)
        have hst := hid (hO2.out.set x (m : Int))
        rw [dl_up] at hst
        have hfr := hid (Frm.trans ho2.out (frm_set (wr.drewN nq) b x (.int .i64 (m : Int))) (fun i hi e => by have := hbz.out; omega))
        generalize (dl L.length g)[x]'(by rw [dl_len]; exact hxl) = y0 at q0
        obtain ⟨q1, q2⟩ := q0
        clear oQ hW hO2 ho2 d2
        generalize wr.drewN nq = wq at *
        go_wp2_with fail
        go_roundw
        case rel => exact ⟨i + 1, m - m, by omega, by simp; try omega, by go_num, hid ⟨_, ⟨hst.out, hfr.out⟩, hnx.out⟩⟩
        case measure => simp [intOf]; omega
    · obtain rfl : i = L.length := by omega
      have hlt' : ¬ (L.length : Int) < (L.length : Int) := by omega
      have kz : Hid (dl L.length g = dl L.length (shR (itX bs L) k)) := by
        show _ = _
        unfold dl
        apply List.map_congr_left
        intro j hj
        rw [hSh.e j, List.drop_of_length_le (by rw [itX_len]; exact Nat.le_refl _)]
        simp [shR]
      have kW1 := hid hW1.1
      have kW2 := hid hW1.2
      rw [kz.out] at kW1
      clear hG hW1 hSh hW
      go_wp2_with fail
      go_ret
      exact ⟨b, rfl, kW1.out, koA.out.trans kW2.out, hbz.out.2.2⟩
end Go.Proofs.Ytccbmmbcfcppeaa
