/- What is left over; units at a price; the split: walked. -/
import Derived.Test.YtccbmmbcfcppeaaP4
import Derived.BigQuiet
import Derived.Deep.QuietTactic
namespace Go.Proofs.Ytccbmmbcfcppeaa
open Go.RowKit

theorem dl_num {w : World} {ro : Option Addr} {n : Nat} {g : Dat} (h : NumsC .i64 w ro (dl n g)) {k : Nat} (hk : k < n) : ∃ b o, ro = some ⟨b, o, none⟩ ∧ w.cell? ⟨b, o + k, none⟩ = some (.int .i64 (g k : Int)) := by
  obtain ⟨b, o, e, hc⟩ := h k (by rw [dl_len]; exact hk)
  rw [dl_at hk] at hc
  exact ⟨b, o, e, hc⟩

set_option maxRecDepth 100000 in
set_option maxHeartbeats 4000000 in
theorem mostLeft_any (ao ro : Option Addr) (ca cr : Nat) (L : List Wt) (g : Dat) (w : World) (hL : WC w ao L) (hO : OkW L) (hG : NumsC .i64 w ro (dl L.length g)) :
    Calls Try.prog 22 #[.slice ao L.length ca, .slice ro L.length cr] w fun e w' => e = .returned (.int .i64 (mostL L g L.length)) ∧ Old w w' := by
  have hfew := hO.few
  have kL := hid hL
  have kO := hid hO
  have kG := hid hG
  clear hL hO hG
  go_enter Try.func22, Try.ntmps22
  go_wp2_with fail
  go_loopw [5, 6, 7, 10] (fun t5 _ _ t wr => ∃ (k : Nat) (z : Int), k ≤ L.length ∧ t = .int .i64 (k : Int) ∧ t5 = .int .i64 z ∧ Hid (z = mostL L g k) ∧ Hid (Old w wr)) (fun _ _ _ t _ => L.length - (intOf t).toNat)
  case atStart => exact ⟨0, _, Nat.zero_le _, rfl, rfl, rfl, Old.refl _⟩
  case round =>
    obtain ⟨k, z, hk, rfl, rfl, hz, hw⟩ := hrel
    by_cases hlt : k < L.length
    · have hlt' : (k : Int) < (L.length : Int) := by omega
      obtain ⟨ga, oa, rfl, d1, d2⟩ := kL.out k hlt
      rw [← cW_at hlt] at d1
      rw [kO.out.cnt hlt] at d2
      have ok := kO.out.ok k hlt
      obtain ⟨gb, ob, rfl, d3⟩ := dl_num kG.out hlt
      have d1 := hw.out.cell d1
      have d2 := hw.out.cell d2
      have hst : Hid (mostL L g (k + 1) = if g k < kW L k then max (mostL L g k) (cW L k) else mostL L g k) := rfl
      rw [← hz.out] at hst
      obtain ⟨cx, hcx⟩ : ∃ cx, cW L k = cx := ⟨_, rfl⟩
      obtain ⟨kx, hkx⟩ : ∃ kx, kW L k = kx := ⟨_, rfl⟩
      rw [hcx] at d1 ok hst
      rw [hkx] at d2 ok hst
      have oA : Old wr (wr.alloc (.cells #[.int .i64 cx, .int .i64 (kx : Int)] 51)) := (Old.refl wr).alloc _
      have n1 := new_cell wr #[.int .i64 cx, .int .i64 (kx : Int)] 51 0 (.int .i64 cx) rfl
      have n2 := new_cell wr #[.int .i64 cx, .int .i64 (kx : Int)] 51 1 (.int .i64 (kx : Int)) rfl
      have d3 := oA.cell (hw.out.cell d3)
      have kw := hid (hw.out.trans oA)
      obtain ⟨gk, hgk⟩ : ∃ gk, g k = gk := ⟨_, rfl⟩
      rw [hgk] at d3 hst
      clear hcx hkx hgk oA hz
      obtain ⟨r, hr⟩ : ∃ r, max z cx = r := ⟨_, rfl⟩
      rw [hr] at hst
      by_cases hg : gk < kx
      · have hg' : (gk : Int) < (kx : Int) := by omega
        rw [if_pos hg] at hst
        go_upto_region 5 with fail
        generalize wr.alloc (.cells #[.int .i64 cx, .int .i64 (kx : Int)] 51) = W1 at *
        go_quiet (fail)
        go_wp2_with fail
        go_roundw
        case rel => exact ⟨k + 1, r, by omega, by go_num, by simp, hid hst.out.symm, hid (kw.out.drewN _)⟩
        case measure => simp [intOf]; omega
      · have hg' : ¬ (gk : Int) < (kx : Int) := by omega
        rw [if_neg hg] at hst
        go_upto_region 5 with fail
        generalize wr.alloc (.cells #[.int .i64 cx, .int .i64 (kx : Int)] 51) = W1 at *
        go_quiet (fail)
        go_wp2_with fail
        go_roundw
        case rel => exact ⟨k + 1, z, by omega, by go_num, rfl, hid hst.out.symm, hid (kw.out.drewN _)⟩
        case measure => simp [intOf]; omega
    · obtain rfl : k = L.length := by omega
      have hlt' : ¬ (L.length : Int) < (L.length : Int) := by omega
      go_wp2_with fail
      go_ret
      exact ⟨by rw [← hz.out]; rfl, hw.out⟩
set_option maxRecDepth 100000 in
set_option maxHeartbeats 4000000 in
theorem leastLeft_any (ao ro : Option Addr) (ca cr : Nat) (L : List Wt) (g : Dat) (w : World) (hL : WC w ao L) (hO : OkW L) (hG : NumsC .i64 w ro (dl L.length g)) :
    Calls Try.prog 23 #[.slice ao L.length ca, .slice ro L.length cr] w fun e w' => e = .returned (.int .i64 (leastL L g L.length)) ∧ Old w w' := by
  have hfew := hO.few
  have kL := hid hL
  have kO := hid hO
  have kG := hid hG
  clear hL hO hG
  go_enter Try.func23, Try.ntmps23
  go_wp2_with fail
  go_loopw [5, 6, 7, 10] (fun t5 _ _ t wr => ∃ (k : Nat) (z : Int), k ≤ L.length ∧ t = .int .i64 (k : Int) ∧ t5 = .int .i64 z ∧ Hid (z = leastL L g k) ∧ Hid (Old w wr)) (fun _ _ _ t _ => L.length - (intOf t).toNat)
  case atStart => exact ⟨0, _, Nat.zero_le _, rfl, rfl, rfl, Old.refl _⟩
  case round =>
    obtain ⟨k, z, hk, rfl, rfl, hz, hw⟩ := hrel
    by_cases hlt : k < L.length
    · have hlt' : (k : Int) < (L.length : Int) := by omega
      obtain ⟨ga, oa, rfl, d1, d2⟩ := kL.out k hlt
      rw [← cW_at hlt] at d1
      rw [kO.out.cnt hlt] at d2
      have ok := kO.out.ok k hlt
      obtain ⟨gb, ob, rfl, d3⟩ := dl_num kG.out hlt
      have d1 := hw.out.cell d1
      have d2 := hw.out.cell d2
      have hst : Hid (leastL L g (k + 1) = if g k < kW L k then min (leastL L g k) (cW L k) else leastL L g k) := rfl
      rw [← hz.out] at hst
      obtain ⟨cx, hcx⟩ : ∃ cx, cW L k = cx := ⟨_, rfl⟩
      obtain ⟨kx, hkx⟩ : ∃ kx, kW L k = kx := ⟨_, rfl⟩
      rw [hcx] at d1 ok hst
      rw [hkx] at d2 ok hst
      have oA : Old wr (wr.alloc (.cells #[.int .i64 cx, .int .i64 (kx : Int)] 51)) := (Old.refl wr).alloc _
      have n1 := new_cell wr #[.int .i64 cx, .int .i64 (kx : Int)] 51 0 (.int .i64 cx) rfl
      have n2 := new_cell wr #[.int .i64 cx, .int .i64 (kx : Int)] 51 1 (.int .i64 (kx : Int)) rfl
      have d3 := oA.cell (hw.out.cell d3)
      have kw := hid (hw.out.trans oA)
      obtain ⟨gk, hgk⟩ : ∃ gk, g k = gk := ⟨_, rfl⟩
      rw [hgk] at d3 hst
      clear hcx hkx hgk oA hz
      obtain ⟨r, hr⟩ : ∃ r, min z cx = r := ⟨_, rfl⟩
      rw [hr] at hst
      by_cases hg : gk < kx
      · have hg' : (gk : Int) < (kx : Int) := by omega
        rw [if_pos hg] at hst
        go_upto_region 5 with fail
        generalize wr.alloc (.cells #[.int .i64 cx, .int .i64 (kx : Int)] 51) = W1 at *
        go_quiet (fail)
        go_wp2_with fail
        go_roundw
        case rel => exact ⟨k + 1, r, by omega, by go_num, by simp, hid hst.out.symm, hid (kw.out.drewN _)⟩
        case measure => simp [intOf]; omega
      · have hg' : ¬ (gk : Int) < (kx : Int) := by omega
        rw [if_neg hg] at hst
        go_upto_region 5 with fail
        generalize wr.alloc (.cells #[.int .i64 cx, .int .i64 (kx : Int)] 51) = W1 at *
        go_quiet (fail)
        go_wp2_with fail
        go_roundw
        case rel => exact ⟨k + 1, z, by omega, by go_num, rfl, hid hst.out.symm, hid (kw.out.drewN _)⟩
        case measure => simp [intOf]; omega
    · obtain rfl : k = L.length := by omega
      have hlt' : ¬ (L.length : Int) < (L.length : Int) := by omega
      go_wp2_with fail
      go_ret
      exact ⟨by rw [← hz.out]; rfl, hw.out⟩

/-- Units of those whose coins are such. -/
def unL (p : Int → Bool) (L : List Wt) : Nat → Nat
  | 0 => 0
  | n + 1 => unL p L n + if p (cW L n) = true then kW L n else 0
theorem unL_le {p : Int → Bool} {L : List Wt} (h : OkW L) : ∀ {n : Nat}, n ≤ L.length → unL p L n ≤ 64 * n
  | 0, _ => Nat.le_refl _
  | n + 1, hn => by
    have := unL_le (p := p) h (n := n) (by omega)
    have := h.ok n (by omega)
    rw [unL]
    split <;> omega

set_option maxRecDepth 100000 in
theorem at1_any (b : Nat) (p c : Int) (w : World) (h : w.cell? ⟨b, 0, none⟩ = some (.int .i64 p)) : Calls Try.prog 31 #[.int .i64 c, .pointer (some ⟨b, 0, none⟩)] w fun e w' => e = .returned (.bool (decide (c ≥ p))) ∧ w' = w := by
  go_enter Try.func31, Try.ntmps31
  go_wp2
  go_ret
  exact ⟨rfl, rfl⟩
set_option maxRecDepth 100000 in
set_option maxHeartbeats 4000000 in
theorem units_ge (ao : Option Addr) (ca : Nat) (L : List Wt) (b : Nat) (p : Int) (w : World) (hL : WC w ao L) (hO : OkW L) (hb : w.cell? ⟨b, 0, none⟩ = some (.int .i64 p)) :
    Calls Try.prog 30 #[.slice ao L.length ca, .func (.func 31) #[] #[.pointer (some ⟨b, 0, none⟩)]] w fun e w' => e = .returned (.int .i64 ((unL (fun c => decide (c ≥ p)) L L.length : Nat) : Int)) ∧ Old w w' := by
  have hfew := hO.few
  have kL := hid hL
  have kO := hid hO
  have kA := hid (fun c w h => at1_any b p c w h)
  have kb := hid hb
  clear hL hO hb
  go_enter Try.func30, Try.ntmps30
  go_wp2_with fail
  go_loopw [5, 7, 10] (fun t5 _ t wr => ∃ (k z : Nat), (k ≤ L.length ∧ z ≤ 64 * k) ∧ t = .int .i64 (k : Int) ∧ t5 = .int .i64 (z : Int) ∧ Hid (z = unL (fun c => decide (c ≥ p)) L k) ∧ Hid (Old w wr)) (fun _ _ t _ => L.length - (intOf t).toNat)
  case atStart => exact ⟨0, 0, by omega, rfl, rfl, rfl, Old.refl _⟩
  case round =>
    obtain ⟨k, z, hk, rfl, rfl, hz, hw⟩ := hrel
    by_cases hlt : k < L.length
    · have hlt' : (k : Int) < (L.length : Int) := by omega
      obtain ⟨ga, oa, rfl, d1, d2⟩ := kL.out k hlt
      rw [← cW_at hlt] at d1
      rw [kO.out.cnt hlt] at d2
      have ok := kO.out.ok k hlt
      have d1 := hw.out.cell d1
      have d2 := hw.out.cell d2
      have hst : Hid (unL (fun c => decide (c ≥ p)) L (k + 1) = unL (fun c => decide (c ≥ p)) L k + if decide (cW L k ≥ p) = true then kW L k else 0) := rfl
      rw [← hz.out] at hst
      obtain ⟨cx, hcx⟩ : ∃ cx, cW L k = cx := ⟨_, rfl⟩
      obtain ⟨kx, hkx⟩ : ∃ kx, kW L k = kx := ⟨_, rfl⟩
      rw [hcx] at d1 ok hst
      rw [hkx] at d2 ok hst
      have oA : Old wr (wr.alloc (.cells #[.int .i64 cx, .int .i64 (kx : Int)] 51)) := (Old.refl wr).alloc _
      have n1 := new_cell wr #[.int .i64 cx, .int .i64 (kx : Int)] 51 0 (.int .i64 cx) rfl
      have n2 := new_cell wr #[.int .i64 cx, .int .i64 (kx : Int)] 51 1 (.int .i64 (kx : Int)) rfl
      have kw := hid (hw.out.trans oA)
      have kc := hid (kA.out cx _ (kw.out.cell kb.out))
      clear hcx hkx oA hz
      by_cases hg : cx ≥ p
      · rw [if_pos (decide_eq_true hg)] at hst
        rw [decide_eq_true hg] at kc
        go_wp2_with fail
        refine kc.out.mono ?_
        rintro e w' ⟨rfl, e2⟩
        rw [e2]
        clear e2 kc
        go_wp2_with fail
        go_roundw
        case rel => exact ⟨k + 1, z + kx, by omega, by go_num, by go_num, hid hst.out.symm, kw⟩
        case measure => simp [intOf]; omega
      · rw [if_neg (by simpa using hg)] at hst
        rw [decide_eq_false hg] at kc
        go_wp2_with fail
        refine kc.out.mono ?_
        rintro e w' ⟨rfl, e2⟩
        rw [e2]
        clear e2 kc
        go_wp2_with fail
        go_roundw
        case rel => exact ⟨k + 1, z, by omega, by go_num, rfl, hid hst.out.symm, kw⟩
        case measure => simp [intOf]; omega
    · obtain rfl : k = L.length := by omega
      have hlt' : ¬ (L.length : Int) < (L.length : Int) := by omega
      go_wp2_with fail
      go_ret
      exact ⟨by rw [← hz.out]; rfl, hw.out⟩
set_option maxRecDepth 100000 in
theorem at2_any (b : Nat) (p c : Int) (w : World) (h : w.cell? ⟨b, 0, none⟩ = some (.int .i64 p)) : Calls Try.prog 32 #[.int .i64 c, .pointer (some ⟨b, 0, none⟩)] w fun e w' => e = .returned (.bool (decide (c ≤ p))) ∧ w' = w := by
  go_enter Try.func32, Try.ntmps32
  go_wp2
  go_ret
  exact ⟨rfl, rfl⟩
set_option maxRecDepth 100000 in
set_option maxHeartbeats 4000000 in
theorem units_le (ao : Option Addr) (ca : Nat) (L : List Wt) (b : Nat) (p : Int) (w : World) (hL : WC w ao L) (hO : OkW L) (hb : w.cell? ⟨b, 0, none⟩ = some (.int .i64 p)) :
    Calls Try.prog 30 #[.slice ao L.length ca, .func (.func 32) #[] #[.pointer (some ⟨b, 0, none⟩)]] w fun e w' => e = .returned (.int .i64 ((unL (fun c => decide (c ≤ p)) L L.length : Nat) : Int)) ∧ Old w w' := by
  have hfew := hO.few
  have kL := hid hL
  have kO := hid hO
  have kA := hid (fun c w h => at2_any b p c w h)
  have kb := hid hb
  clear hL hO hb
  go_enter Try.func30, Try.ntmps30
  go_wp2_with fail
  go_loopw [5, 7, 10] (fun t5 _ t wr => ∃ (k z : Nat), (k ≤ L.length ∧ z ≤ 64 * k) ∧ t = .int .i64 (k : Int) ∧ t5 = .int .i64 (z : Int) ∧ Hid (z = unL (fun c => decide (c ≤ p)) L k) ∧ Hid (Old w wr)) (fun _ _ t _ => L.length - (intOf t).toNat)
  case atStart => exact ⟨0, 0, by omega, rfl, rfl, rfl, Old.refl _⟩
  case round =>
    obtain ⟨k, z, hk, rfl, rfl, hz, hw⟩ := hrel
    by_cases hlt : k < L.length
    · have hlt' : (k : Int) < (L.length : Int) := by omega
      obtain ⟨ga, oa, rfl, d1, d2⟩ := kL.out k hlt
      rw [← cW_at hlt] at d1
      rw [kO.out.cnt hlt] at d2
      have ok := kO.out.ok k hlt
      have d1 := hw.out.cell d1
      have d2 := hw.out.cell d2
      have hst : Hid (unL (fun c => decide (c ≤ p)) L (k + 1) = unL (fun c => decide (c ≤ p)) L k + if decide (cW L k ≤ p) = true then kW L k else 0) := rfl
      rw [← hz.out] at hst
      obtain ⟨cx, hcx⟩ : ∃ cx, cW L k = cx := ⟨_, rfl⟩
      obtain ⟨kx, hkx⟩ : ∃ kx, kW L k = kx := ⟨_, rfl⟩
      rw [hcx] at d1 ok hst
      rw [hkx] at d2 ok hst
      have oA : Old wr (wr.alloc (.cells #[.int .i64 cx, .int .i64 (kx : Int)] 51)) := (Old.refl wr).alloc _
      have n1 := new_cell wr #[.int .i64 cx, .int .i64 (kx : Int)] 51 0 (.int .i64 cx) rfl
      have n2 := new_cell wr #[.int .i64 cx, .int .i64 (kx : Int)] 51 1 (.int .i64 (kx : Int)) rfl
      have kw := hid (hw.out.trans oA)
      have kc := hid (kA.out cx _ (kw.out.cell kb.out))
      clear hcx hkx oA hz
      by_cases hg : cx ≤ p
      · rw [if_pos (decide_eq_true hg)] at hst
        rw [decide_eq_true hg] at kc
        go_wp2_with fail
        refine kc.out.mono ?_
        rintro e w' ⟨rfl, e2⟩
        rw [e2]
        clear e2 kc
        go_wp2_with fail
        go_roundw
        case rel => exact ⟨k + 1, z + kx, by omega, by go_num, by go_num, hid hst.out.symm, kw⟩
        case measure => simp [intOf]; omega
      · rw [if_neg (by simpa using hg)] at hst
        rw [decide_eq_false hg] at kc
        go_wp2_with fail
        refine kc.out.mono ?_
        rintro e w' ⟨rfl, e2⟩
        rw [e2]
        clear e2 kc
        go_wp2_with fail
        go_roundw
        case rel => exact ⟨k + 1, z, by omega, by go_num, rfl, hid hst.out.symm, kw⟩
        case measure => simp [intOf]; omega
    · obtain rfl : k = L.length := by omega
      have hlt' : ¬ (L.length : Int) < (L.length : Int) := by omega
      go_wp2_with fail
      go_ret
      exact ⟨by rw [← hz.out]; rfl, hw.out⟩

/-- What At says. -/
def atE (L M : List Wt) (p : Int) : Int := if chZ L M ≠ 0 then chZ L M else if coB p = true then 0 else 2
def atA (L M : List Wt) (p : Int) : Nat := if atE L M p = 0 then unL (fun c => decide (c ≥ p)) L L.length else 0
def atB (L M : List Wt) (p : Int) : Nat := if atE L M p = 0 then unL (fun c => decide (c ≤ p)) M M.length else 0

set_option maxRecDepth 100000 in
set_option maxHeartbeats 4000000 in
theorem at_any (ao bo : Option Addr) (ca cb : Nat) (L M : List Wt) (p : Int) (w : World) (hL : WC w ao L) (hM : WC w bo M) (h1 : L.length ≤ 9223372036854775807) (h2 : M.length ≤ 9223372036854775807) :
    Calls Try.prog 12 #[.slice ao L.length ca, .slice bo M.length cb, .int .i64 p] w fun e w' => e = .returned (.tuple #[.int .i64 (atA L M p : Int), .int .i64 (atB L M p : Int), .int .i64 (atE L M p)]) ∧ Old w w' := by
  have hmf : ∀ (fn : Fn) (first cap : Array Value) (w : World), (Instr.makeFunc fn first cap).run Try.prog w = .ok (.func fn first cap) w := fun _ _ _ _ => rfl
  have oA : Old w (w.alloc (.cells #[.int .i64 p] 2)) := (Old.refl w).alloc _
  have c0 := new_cell w #[.int .i64 p] 2 0 (.int .i64 p) rfl
  have kC := hid (check_any ao bo ca cb L M _ (hL.old oA) (hM.old oA) h1 h2)
  have kL := hid (hL.old oA)
  have kM := hid (hM.old oA)
  have kA := hid oA
  have kP := hid (isCoins_any p)
  clear hL hM oA
  by_cases hz : chZ L M = 0
  · obtain ⟨oL, oM⟩ := chZ_ok hz
    have kO : Hid (OkW L ∧ OkW M) := ⟨oL, oM⟩
    rw [hz] at kC
    clear oL oM
    cases hp : coB p
    · have ke : Hid (atE L M p = 2) := by show _ = _; unfold atE; rw [if_neg (by simpa using hz), hp]; rfl
      have ka : Hid (atA L M p = 0) := by show _ = _; unfold atA; rw [ke.out]; rfl
      have kb : Hid (atB L M p = 0) := by show _ = _; unfold atB; rw [ke.out]; rfl
      rw [hp] at kP
      clear hz
      go_enter Try.func12, Try.ntmps12
      go_wp2_with fail
      generalize w.alloc (.cells #[.int .i64 p] 2) = W1 at *
      generalize w.heap.size = s at *
      refine kC.out.mono ?_
      rintro e w2 ⟨rfl, o2⟩
      have c0 := o2.cell c0
      have ko := hid (kA.out.trans o2)
      clear o2 kC
      go_wp2_with (go_at_call 29; refine (kP.out _).mono ?_; rintro e w' ⟨rfl, e2⟩; rw [e2]; clear e2)
      go_ret3
      exact ⟨by rw [ke.out, ka.out, kb.out]; rfl, ko.out⟩
    · have ke : Hid (atE L M p = 0) := by show _ = _; unfold atE; rw [if_neg (by simpa using hz), hp]; rfl
      have ka : Hid (atA L M p = unL (fun c => decide (c ≥ p)) L L.length) := by show _ = _; unfold atA; rw [if_pos ke.out]
      have kb : Hid (atB L M p = unL (fun c => decide (c ≤ p)) M M.length) := by show _ = _; unfold atB; rw [if_pos ke.out]
      rw [hp] at kP
      clear hz
      go_enter Try.func12, Try.ntmps12
      go_wp2_with fail
      generalize w.alloc (.cells #[.int .i64 p] 2) = W1 at *
      generalize w.heap.size = s at *
      refine kC.out.mono ?_
      rintro e w2 ⟨rfl, o2⟩
      have c0 := o2.cell c0
      have ko := hid (kA.out.trans o2)
      have kL := hid (kL.out.old o2)
      have kM := hid (kM.out.old o2)
      have k1 := hid (units_ge ao ca L s p w2 kL.out kO.out.1 c0)
      generalize unL (fun c => decide (c ≥ p)) L L.length = za at *
      clear o2 kC kA
      go_wp2_with (go_at_call 29; refine (kP.out _).mono ?_; rintro e w' ⟨rfl, e2⟩; rw [e2]; clear e2)
      refine k1.out.mono ?_
      rintro e w3 ⟨rfl, o3⟩
      have c0 := o3.cell c0
      have ko := hid (ko.out.trans o3)
      have kM := hid (kM.out.old o3)
      have k2 := hid (units_le bo cb M s p w3 kM.out kO.out.2 c0)
      generalize unL (fun c => decide (c ≤ p)) M M.length = zb at *
      clear o3 k1
      go_wp2_with fail
      refine k2.out.mono ?_
      rintro e w4 ⟨rfl, o4⟩
      have ko := hid (ko.out.trans o4)
      clear o4 k2
      go_wp2_with fail
      go_ret3
      exact ⟨by rw [ke.out, ka.out, kb.out]; rfl, ko.out⟩
  · have ke : Hid (atE L M p = chZ L M) := by show _ = _; unfold atE; rw [if_pos hz]
    have ka : Hid (atA L M p = 0) := by show _ = _; unfold atA; rw [if_neg (by rw [ke.out]; exact hz)]
    have kb : Hid (atB L M p = 0) := by show _ = _; unfold atB; rw [if_neg (by rw [ke.out]; exact hz)]
    obtain ⟨z, hzz⟩ : ∃ z, chZ L M = z := ⟨_, rfl⟩
    rw [hzz] at kC ke hz
    have hz' : (z != 0) = true := by simpa using hz
    clear hzz
    go_enter Try.func12, Try.ntmps12
    go_wp2_with fail
    refine kC.out.mono ?_
    rintro e w2 ⟨rfl, o2⟩
    have ko := hid (kA.out.trans o2)
    clear o2 kC
    go_wp2_with fail
    go_ret3
    exact ⟨by rw [ke.out, ka.out, kb.out]; rfl, ko.out⟩

/-- A call, as it is told. -/
def calV (p t l h : Int) (bo so : Option Addr) (nb cb ns cs : Nat) : Value := .agg #[.int .i64 p, .int .i64 t, .int .i64 l, .int .i64 h, .slice bo nb cb, .slice so ns cs]

end Go.Proofs.Ytccbmmbcfcppeaa
