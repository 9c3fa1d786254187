/- A side by the document: whose its units are: walked. -/
import Derived.Test.YtccbmmbcfcppeaaR3
import Derived.BigQuiet
import Derived.Deep.QuietTactic
namespace Go.Proofs.Ytccbmmbcfcppeaa
open Go.RowKit

theorem OI.nums {w w' : World} {v : Value} {L : Nat → Int} {n : Nat} {g : Dat} (h : OI w w' v L n g) : ∃ vo cp, v = .slice vo n cp ∧ NumsC .i64 w' vo (dl n (og L n)) ∧ ∀ ad, vo = some ad → w.heap.size ≤ ad.block := by
  have e : dl n g = dl n (og L n) := by
    unfold dl
    apply List.map_congr_left
    intro t ht
    rw [og_uniq h.re h.srt t (List.mem_range.1 ht)]
  rcases h.row.form with ⟨rfl, rfl⟩ | ⟨b, cap, rfl, hr, hb⟩
  · exact ⟨none, 0, rfl, fun i hi => by rw [dl_len] at hi; omega, fun ad e => by cases e⟩
  · refine ⟨_, cap, rfl, ?_, fun ad e => ?_⟩
    · rw [← e]
      exact hr.nums
    · simp only [Option.some.injEq] at e
      rw [← e]
      exact hb

/-- The wants of a side in order. -/
def itX (b : Bool) (L : List Wt) : List It := itK L (ordK (keyX b L) L.length)
theorem itX_len (b : Bool) (L : List Wt) : (itX b L).length = L.length := by unfold itX; rw [it_len, ord_len]
theorem itX_at {b : Bool} {L : List Wt} {t : Nat} (h : t < L.length) : (itX b L)[t]'(by rw [itX_len]; exact h) = ⟨og (keyX b L) L.length t, cW L (og (keyX b L) L.length t), kW L (og (keyX b L) L.length t)⟩ := by
  unfold itX
  rw [it_at (by rw [ord_len]; exact h), og_at h]
/-- Whose the k-th unit is, as a number. -/
def unZ (X : List It) (k : Nat) : Int := match unR X k with
  | some z => (z.i : Int)
  | none => -1

set_option maxRecDepth 100000 in
set_option maxHeartbeats 4000000 in
theorem rside_any (bs : Bool) (ao : Option Addr) (cap : Nat) (L : List Wt) (w : World) (hS : WC w ao L) (hl : L.length ≤ 4096) :
    Calls Try.prog 25 #[.slice ao L.length cap, .bool bs] w fun e w' => ∃ vo cp, e = .returned (.agg #[.slice ao L.length cap, .slice vo L.length cp]) ∧ NumsC .i64 w' vo (dl L.length (og (keyX bs L) L.length)) ∧ Old w w' ∧ ∀ ad, vo = some ad → w.heap.size ≤ ad.block := by
  have oA : Old w (w.alloc (.cells #[.slice none 0 0, .slice none 0 0] 61)) := (Old.refl w).alloc _
  have n0 := heap_new w (.cells #[.slice none 0 0, .slice none 0 0] 61)
  have kO := hid (rorder_any bs ao cap L _ (hS.old oA) hl)
  have koA := hid oA
  have hz := alloc_size w (.cells #[.slice none 0 0, .slice none 0 0] 61)
  clear hS oA
  go_enter Try.func25, Try.ntmps25
  go_wp2_with fail
  generalize w.alloc (.cells #[.slice none 0 0, .slice none 0 0] 61) = W1 at *
  obtain ⟨s, hs⟩ : ∃ s, w.heap.size = s := ⟨_, rfl⟩
  rw [hs] at n0 hz
  simp only [hs]
  have khs := hid hs
  clear hs
  refine kO.out.mono ?_
  rintro e w2 ⟨v, g, rfl, hOI⟩
  obtain ⟨vo, cp, rfl, hN, hNb⟩ := hOI.nums
  have kNb : Hid (∀ ad, vo = some ad → s < ad.block) := fun ad e => by have := hNb ad e; omega
  clear hNb
  have n0 := blk_frm n0 hOI.old (fun h => h)
  have kN := hid hN
  have ko2 := hid (koA.out.trans hOI.old)
  have y0 := blk_cells (i := 0) (v := .slice none 0 0) n0 rfl
  have y1 := blk_cells (i := 1) (v := .slice none 0 0) n0 rfl
  have yf := fun i => blk_fz n0 i
  have kb := hid (show ((w2.setCell ⟨s, 0, none⟩ (.slice ao L.length cap)).setCell ⟨s, 1, none⟩ (.slice vo L.length cp)).heap[s]? = some (.cells #[.slice ao L.length cap, .slice vo L.length cp] 61 (0, 0)) from by rw [heap_set _ (heap_set _ n0)]; rfl)
  have kf := hid (Frm.trans (frm_set w2 s 0 (.slice ao L.length cap)) (frm_set _ s 1 (.slice vo L.length cp)) (fun _ _ h => h))
  clear kO hOI hN n0 koA
  go_wp2_with fail
  have e0 := blk_cells (i := 0) (v := .slice ao L.length cap) kb.out rfl
  have e1 := blk_cells (i := 1) (v := .slice vo L.length cp) kb.out rfl
  refine bodyPost_ret (v := .agg #[.slice ao L.length cap, .slice vo L.length cp]) (by simp [results, Try.results25, go_sem, e0, e1]) rfl ⟨vo, cp, rfl, ?_, ?_, fun ad e => by have := kNb.out ad e; have := khs.out; omega⟩
  · intro i hi
    obtain ⟨gg, o, e, hc⟩ := kN.out i hi
    exact ⟨gg, o, e, frm_cell kf.out hc (fun e2 => by have := kNb.out ⟨gg, o, none⟩ e; dsimp only at this e2; omega)⟩
  · exact Frm.trans ko2.out kf.out (fun i hi e => by have := khs.out; omega)

set_option maxRecDepth 100000 in
set_option maxHeartbeats 4000000 in
theorem runit_any (bs : Bool) (ao vo : Option Addr) (ca cp : Nat) (L : List Wt) (k : Nat) (w : World) (hS : WC w ao L) (hO : OkW L) (hN : NumsC .i64 w vo (dl L.length (og (keyX bs L) L.length))) (hk : 1 ≤ k ∧ k ≤ 1000000) :
    Calls Try.prog 28 #[.agg #[.slice ao L.length ca, .slice vo L.length cp], .int .i64 (k : Int)] w fun e w' => e = .returned (.int .i64 (unZ (itX bs L) k)) ∧ Old w w' := by
  have oA : Old w (w.alloc (.cells #[.slice ao L.length ca, .slice vo L.length cp] 61)) := (Old.refl w).alloc _
  have c0 := new_cell w #[.slice ao L.length ca, .slice vo L.length cp] 61 0 (.slice ao L.length ca) rfl
  have c1 := new_cell w #[.slice ao L.length ca, .slice vo L.length cp] 61 1 (.slice vo L.length cp) rfl
  have kS := hid (hS.old oA)
  have kN := hid (hN.old oA)
  have kO := hid hO
  have koA := hid oA
  have hfew := hO.few
  clear hS hN hO oA
  go_enter Try.func28, Try.ntmps28
  go_wp2_with fail
  generalize w.alloc (.cells #[.slice ao L.length ca, .slice vo L.length cp] 61) = W1 at *
  generalize w.heap.size = s at *
  go_loopw [1, 5] (fun t1 t5 wr => ∃ i m : Nat, (i ≤ L.length ∧ 1 ≤ m ∧ m ≤ 1000000) ∧ t1 = .int .i64 (m : Int) ∧ t5 = .int .i64 (i : Int) ∧ Hid (unZ (itX bs L) k = unZ ((itX bs L).drop i) m) ∧ Hid (Old W1 wr)) (fun _ t5 _ => L.length - (intOf t5).toNat)
  case atStart => exact ⟨0, k, by omega, rfl, rfl, hid (by rw [List.drop_zero]), hid (Old.refl _)⟩
  case round =>
    obtain ⟨i, m, him, rfl, rfl, hU, ho⟩ := hrel
    have c0 := ho.out.cell c0
    have c1 := ho.out.cell c1
    by_cases hlt : i < L.length
    · have hlt' : (i : Int) < (L.length : Int) := by omega
      obtain ⟨gb, ob, rfl, d3⟩ := dl_num (kN.out.old ho.out) hlt
      have hxl := og_lt (K := keyX bs L) hlt
      obtain ⟨ga, oa, rfl, -, d2⟩ := kS.out.old ho.out _ hxl
      rw [kO.out.cnt hxl] at d2
      have ok := kO.out.ok _ hxl
      have hdr : Hid ((itX bs L).drop i = ⟨og (keyX bs L) L.length i, cW L (og (keyX bs L) L.length i), kW L (og (keyX bs L) L.length i)⟩ :: (itX bs L).drop (i + 1)) := by
        show _ = _
        rw [List.drop_eq_getElem_cons (by rw [itX_len]; exact hlt), itX_at hlt]
      obtain ⟨x, hx⟩ : ∃ x, og (keyX bs L) L.length i = x := ⟨_, rfl⟩
      rw [hx] at d3 d2 hxl ok hdr
      obtain ⟨kx, hkx⟩ : ∃ kx, kW L x = kx := ⟨_, rfl⟩
      rw [hkx] at d2 ok hdr
      have hxl' : (x : Int) < (L.length : Int) := by omega
      clear hx hkx
      by_cases hle : m ≤ kx
      · have kz : Hid (unZ (itX bs L) k = (x : Int)) := by
          show _ = _
          rw [hU.out, hdr.out]
          unfold unZ
          rw [unR_first hle]
        have hle' : (m : Int) - (kx : Int) ≤ 0 := by omega
        clear hU hdr
        go_upto_region 4 with fail
        go_quiet (fail)
        go_wp2_with fail
        go_ret
        exact ⟨by rw [kz.out]; rfl, koA.out.trans (ho.out.drewN _)⟩
      · obtain ⟨m2, hm2⟩ : ∃ m2, m2 = m - kx := ⟨_, rfl⟩
        have kz : Hid (unZ (itX bs L) k = unZ ((itX bs L).drop (i + 1)) m2) := by
          show _ = _
          rw [hU.out, hdr.out, hm2]
          unfold unZ
          rw [unR, if_neg hle]
        have hm3 : (m : Int) - (kx : Int) = (m2 : Int) := by omega
        have hle' : ¬ (m2 : Int) ≤ 0 := by omega
        have hm4 : 1 ≤ m2 ∧ m2 ≤ 1000000 := by omega
        clear hU hdr hm2 hle
        go_upto_region 4 with fail
        go_quiet (fail)
        go_wp2_with fail
        go_roundw
        case rel => exact ⟨i + 1, m2, by omega, by simp, by go_num, kz, hid (ho.out.drewN _)⟩
        case measure => simp [intOf]; omega
    · obtain rfl : i = L.length := by omega
      have hlt' : ¬ (L.length : Int) < (L.length : Int) := by omega
      have kz : Hid (unZ (itX bs L) k = -1) := by
        show _ = _
        rw [hU.out, List.drop_of_length_le (by rw [itX_len]; exact Nat.le_refl _)]
        rfl
      go_wp2_with fail
      go_ret
      exact ⟨by rw [kz.out]; rfl, koA.out.trans ho.out⟩

/-- How many units there are. -/
def alN (L : List Wt) : Nat → Nat
  | 0 => 0
  | n + 1 => alN L n + kW L n
theorem alN_le {L : List Wt} (h : OkW L) : ∀ {n : Nat}, n ≤ L.length → alN L n ≤ 64 * n
  | 0, _ => Nat.le_refl _
  | n + 1, hn => by
    have := alN_le h (n := n) (by omega)
    have := h.ok n (by omega)
    rw [alN]
    omega
set_option maxRecDepth 100000 in
set_option maxHeartbeats 4000000 in
theorem rall_any (ao vo : Option Addr) (ca nv cp : Nat) (L : List Wt) (w : World) (hS : WC w ao L) (hO : OkW L) :
    Calls Try.prog 42 #[.agg #[.slice ao L.length ca, .slice vo nv cp]] w fun e w' => e = .returned (.int .i64 ((alN L L.length : Nat) : Int)) ∧ Old w w' := by
  have oA : Old w (w.alloc (.cells #[.slice ao L.length ca, .slice vo nv cp] 61)) := (Old.refl w).alloc _
  have c0 := new_cell w #[.slice ao L.length ca, .slice vo nv cp] 61 0 (.slice ao L.length ca) rfl
  have kS := hid (hS.old oA)
  have kO := hid hO
  have koA := hid oA
  have hfew := hO.few
  clear hS hO oA
  go_enter Try.func42, Try.ntmps42
  go_wp2_with fail
  generalize w.alloc (.cells #[.slice ao L.length ca, .slice vo nv cp] 61) = W1 at *
  generalize w.heap.size = s at *
  go_loop [3, 4] (fun t3 t4 => ∃ i z : Nat, (i ≤ L.length ∧ z ≤ 64 * i) ∧ t3 = .int .i64 (z : Int) ∧ t4 = .int .i64 (i : Int) ∧ Hid (z = alN L i)) (fun _ t4 => L.length - (intOf t4).toNat)
  case atStart => exact ⟨0, 0, by omega, rfl, rfl, rfl⟩
  case round =>
    obtain ⟨i, z, hiz, rfl, rfl, hz⟩ := hrel
    by_cases hlt : i < L.length
    · have hlt' : (i : Int) < (L.length : Int) := by omega
      obtain ⟨ga, oa, rfl, -, d2⟩ := kS.out i hlt
      rw [kO.out.cnt hlt] at d2
      have ok := kO.out.ok i hlt
      have hst : Hid (alN L (i + 1) = alN L i + kW L i) := rfl
      rw [← hz.out] at hst
      obtain ⟨kx, hkx⟩ : ∃ kx, kW L i = kx := ⟨_, rfl⟩
      rw [hkx] at d2 ok hst
      clear hkx hz
      go_wp2_with fail
      go_round
      case rel => exact ⟨i + 1, z + kx, by omega, by go_num, by go_num, hid hst.out.symm⟩
      case measure => simp [intOf]; omega
    · obtain rfl : i = L.length := by omega
      have hlt' : ¬ (L.length : Int) < (L.length : Int) := by omega
      go_wp2_with fail
      go_ret
      exact ⟨by rw [← hz.out]; rfl, koA.out⟩
end Go.Proofs.Ytccbmmbcfcppeaa
