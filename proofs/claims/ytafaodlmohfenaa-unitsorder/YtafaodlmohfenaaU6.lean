/- Sell, Spent, Check, Wanted: walked. -/
import Derived.Test.YtafaodlmohfenaaU5
namespace Go.Proofs.Ytafaodlmohfenaa
open Go.RowKit

/-- What is known of bids that may be. -/
structure OkF (count fl : Int) (B : List (List Int)) : Prop where
  ok : OkB B
  cnt : 1 ≤ count ∧ count ≤ 64
  floor : coB fl = true
  len : ∀ i, i < B.length → ((bd B i).length : Int) ≤ count
  coin : ∀ i, i < B.length → ∀ p, p < (bd B i).length → coB (ct (bd B i) p) = true
  low : ∀ i, i < B.length → ∀ p, p < (bd B i).length → fl ≤ ct (bd B i) p

theorem bad_le {L : List Int} (h : anyB (badAt L) L.length = false) : ∀ q p, p ≤ q → q < L.length → ct L q ≤ ct L p
  | 0, p, h1, _ => by
    have : p = 0 := by omega
    subst this; omega
  | q + 1, p, h1, h2 => by
    by_cases e : p = q + 1
    · subst e; omega
    · have h3 := bad_le h q p (by omega) (by omega)
      have h4 := (anyB_false.1 h) (q + 1) h2
      simp only [badAt, Bool.or_eq_false_iff, Bool.and_eq_false_iff, decide_eq_false_iff_not, Nat.add_sub_cancel] at h4
      omega
theorem bd_out {B : List (List Int)} {i : Nat} (h : ¬ i < B.length) : bd B i = [] := by
  unfold bd
  rw [List.getD_eq_getElem?_getD, List.getElem?_eq_none (by omega)]
  rfl
theorem ok_of {count fl : Int} {B : List (List Int)} (h : rfZ count fl B = 0) (hf : Few B) : OkF count fl B := by
  unfold rfZ at h
  split at h
  · cases h
  · rename_i h1
    split at h
    · cases h
    · rename_i h2
      split at h
      · cases h
      · rename_i h3
        have h2 : anyB (fun i => wrB count (bd B i)) B.length = false := by simpa using h2
        have h3 : anyB (fun i => lowB fl (bd B i)) B.length = false := by simpa using h3
        rw [anyB_false] at h2 h3
        simp only [hdB, Bool.or_eq_true, decide_eq_true_eq, Bool.not_eq_true', not_or] at h1
        obtain ⟨⟨⟨c1, c2⟩, c3⟩, c4⟩ := h1
        have hw : ∀ i, i < B.length → ¬ (bd B i).length < 1 ∧ ¬ count < ((bd B i).length : Int) ∧ anyB (badAt (bd B i)) (bd B i).length = false := fun i hi => by
          have := h2 i hi
          simp only [wrB, Bool.or_eq_false_iff, decide_eq_false_iff_not] at this
          exact ⟨this.1.1, this.1.2, this.2⟩
        refine ⟨⟨hf.few, hf.row, fun i hi => by have := (hw i hi).1; omega, fun i p q hpq hq => ?_⟩, by omega, by simpa using c3, fun i hi => by have := (hw i hi).2.1; omega, fun i hi p hp => ?_, fun i hi p hp => ?_⟩
        · by_cases hi : i < B.length
          · exact bad_le (hw i hi).2.2 q p hpq hq
          · rw [bd_out hi] at hq; simp at hq
        · have := (anyB_false.1 (hw i hi).2.2) p hp
          simp only [badAt, Bool.or_eq_false_iff] at this
          simpa using this.1
        · have := h3 i hi
          simp only [lowB] at this
          have := (anyB_false.1 this) p hp
          simp only [decide_eq_false_iff_not] at this
          omega

/-- A list in new memory. -/
def WonO (w0 w : World) (ao : Option Addr) (L : List Int) : Prop := 0 < L.length → ∃ b, ao = some ⟨b, 0, none⟩ ∧ w0.heap.size ≤ b ∧ Own .i64 3 w b L
theorem WonO.old {w0 w w' : World} {ao : Option Addr} {L : List Int} (h : WonO w0 w ao L) (o : Old w w') : WonO w0 w' ao L := fun hl => by
  obtain ⟨b, h1, h2, h3⟩ := h hl
  exact ⟨b, h1, h2, h3.kept o (fun h => h)⟩
theorem WonO.nums {w0 w : World} {ao : Option Addr} {L : List Int} (h : WonO w0 w ao L) : NumsC .i64 w ao L := fun i hi => by
  obtain ⟨b, h1, h2, h3⟩ := h (by omega)
  rw [h1]
  exact h3.nums i hi
def saleV (p : Int) (ao : Option Addr) (n : Nat) (x : Int) : Value := .agg #[.int .i64 p, .slice ao n n, .int .i64 x]
/-- What Sell tells. -/
def SellP (w w' : World) (z p x : Int) (L : List Int) (e : Ending) : Prop := ∃ ao, e = .returned (.tuple #[saleV p ao L.length x, .int .i64 z]) ∧ WonO w w' ao L

def seP (count fl : Int) (B : List (List Int)) : Int := if rfZ count fl B = 0 then saP count.toNat fl (ordU B) else 0
def seX (count fl : Int) (B : List (List Int)) : Int := if rfZ count fl B = 0 then saN count.toNat (ordU B) else 0
def seL (count fl : Int) (B : List (List Int)) : List Int := if rfZ count fl B = 0 then wonL ((ordU B).take count.toNat) B.length else []

theorem Old.look {W w1 : World} (h : Old W w1) : (∀ b o, b < W.heap.size → w1.cell? ⟨b, o, none⟩ = W.cell? ⟨b, o, none⟩) ∧ (∀ b o, b < W.heap.size → w1.frozen? ⟨b, o, none⟩ = W.frozen? ⟨b, o, none⟩) :=
  ⟨fun b o k => h.below.cell (p := ⟨b, o, none⟩) k, fun b o k => h.below.frozen (p := ⟨b, o, none⟩) k⟩
def zeroS : Obj := .cells #[.int .i64 0, .slice none 0 0, .int .i64 0] 30
def sets3 (w : World) (b : Nat) (x y z : Value) : World := ((w.setCell ⟨b, 0, none⟩ x).setCell ⟨b, 1, none⟩ y).setCell ⟨b, 2, none⟩ z
theorem frm_sets3 (w : World) (b : Nat) (x y z : Value) : Frm (fun k => k = b) w (sets3 w b x y z) :=
  Frm.trans (Frm.trans (frm_set w b 0 x) (frm_set _ b 1 y) (fun _ _ h => h)) (frm_set _ b 2 z) (fun _ _ h => h)
theorem sets3_cells {w : World} {b : Nat} {x0 y0 z0 x y z : Value} (h0 : w.cell? ⟨b, 0, none⟩ = some x0) (h1 : w.cell? ⟨b, 1, none⟩ = some y0) (h2 : w.cell? ⟨b, 2, none⟩ = some z0) :
    (sets3 w b x y z).cell? ⟨b, 0, none⟩ = some x ∧ (sets3 w b x y z).cell? ⟨b, 1, none⟩ = some y ∧ (sets3 w b x y z).cell? ⟨b, 2, none⟩ = some z :=
  ⟨set_oth (set_oth (set_same h0) (by omega)) (by omega), set_oth (set_same (set_oth h1 (by omega))) (by omega), set_same (set_oth (set_oth h2 (by omega)) (by omega))⟩
theorem zeroS_at {w : World} {b : Nat} (h : w.heap[b]? = some zeroS) : w.cell? ⟨b, 0, none⟩ = some (.int .i64 0) ∧ w.cell? ⟨b, 1, none⟩ = some (.slice none 0 0) ∧ w.cell? ⟨b, 2, none⟩ = some (.int .i64 0) ∧ ∀ j, w.frozen? ⟨b, j, none⟩ = false :=
  ⟨blk_cells h rfl, blk_cells h rfl, blk_cells h rfl, fun j => blk_fz h j⟩

set_option maxRecDepth 100000 in
set_option maxHeartbeats 4000000 in
theorem sell_any (count fl : Int) (ao : Option Addr) (cp : Nat) (B : List (List Int)) (w : World) (hC : BidsC w ao B) (hf : Few B) :
    Calls Try.prog 12 #[.int .i64 count, .int .i64 fl, .slice ao B.length cp] w fun e w' => SellP w w' (rfZ count fl B) (seP count fl B) (seX count fl B) (seL count fl B) e ∧ Old w w' := by
  have o1 : Old w (w.alloc zeroS) := (Old.refl w).alloc _
  have kR := hid (refusal_any count fl ao cp B (w.alloc zeroS) (hC.old o1) hf)
  have hz := heap_new w zeroS
  have kC := hid (hC.old o1)
  have ko := hid o1
  clear hC o1
  obtain ⟨z0, z1, z2, zf⟩ := zeroS_at hz
  have hlt := blk_lt hz
  by_cases h0 : rfZ count fl B = 0
  · have hok := ok_of h0 hf
    obtain ⟨cn, hcn⟩ : ∃ cn : Nat, count = (cn : Int) := ⟨count.toNat, by have := hok.cnt; omega⟩
    have ke : Hid (seP count fl B = saP cn fl (ordU B) ∧ seX count fl B = saN cn (ordU B) ∧ seL count fl B = wonL ((ordU B).take cn) B.length) := by
      have ht : count.toNat = cn := by omega
      unfold seP seX seL
      rw [if_pos h0, if_pos h0, if_pos h0, ht]
      exact ⟨rfl, rfl, rfl⟩
    have kO := hid (outcome_any cn fl ao cp B (w.alloc zeroS) hok.ok kC.out (by have := hok.cnt; omega))
    rw [← hcn] at kO
    rw [h0] at kR ⊢
    clear h0 hok hcn hz
    unfold zeroS at *
    go_enter Try.func12, Try.ntmps12
    go_wp2_with fail
    generalize w.alloc (.cells #[.int .i64 0, .slice none 0 0, .int .i64 0] 30) = w1 at *
    refine kR.out.mono ?_
    rintro e w' ⟨rfl, e2⟩
    rw [e2]
    clear e2 kR
    go_wp2_with fail
    refine kO.out.mono ?_
    rintro e w2 ⟨⟨wb, rfl, hw, hwb⟩, o2⟩
    obtain ⟨s, hs⟩ : ∃ s, w.heap.size = s := ⟨_, rfl⟩
    rw [hs] at z0 z1 z2 zf hlt ⊢
    have q0 := o2.cell z0
    have q1 := o2.cell z1
    have q2 := o2.cell z2
    have qf := fun j => frm_frozen o2 (p := ⟨s, j, none⟩) hlt (zf j) (fun h => h)
    have kw := hid hw
    have kwb : Hid (s < wb) := by show s < wb; omega
    have kf := hid (frm_sets3 w2 s (.int .i64 (saP cn fl (ordU B))) (.slice (some ⟨wb, 0, none⟩) (wonL ((ordU B).take cn) B.length).length (wonL ((ordU B).take cn) B.length).length) (.int .i64 (saN cn (ordU B))))
    have kol := hid (Frm.trans (ko.out.trans o2) kf.out (fun i hi e => by omega))
    obtain ⟨y0, y1, y2⟩ := sets3_cells (x := .int .i64 (saP cn fl (ordU B))) (y := .slice (some ⟨wb, 0, none⟩) (wonL ((ordU B).take cn) B.length).length (wonL ((ordU B).take cn) B.length).length) (z := .int .i64 (saN cn (ordU B))) q0 q1 q2
    unfold sets3 at kf kol y0 y1 y2
    have ks := hid hs
    clear z0 z1 z2 zf hlt o2 hw hwb kO ko kC hs
    go_wp2_with fail
    refine bodyPost_ret (v := .tuple #[.agg #[.int .i64 (saP cn fl (ordU B)), .slice (some ⟨wb, 0, none⟩) (wonL ((ordU B).take cn) B.length).length (wonL ((ordU B).take cn) B.length).length, .int .i64 (saN cn (ordU B))], .int .i64 0]) (by simp [results, Try.results12, go_sem, y0, y1, y2]) rfl ⟨⟨some ⟨wb, 0, none⟩, ?_, fun _ => ⟨wb, rfl, ?_, ?_⟩⟩, kol.out⟩
    · rw [ke.out.1, ke.out.2.1, ke.out.2.2]; rfl
    · have := ks.out; have := kwb.out; omega
    · rw [ke.out.2.2]
      exact kw.out.kept kf.out (by have := kwb.out; omega)
  · have ke : Hid (seP count fl B = 0 ∧ seX count fl B = 0 ∧ seL count fl B = []) := by
      unfold seP seX seL
      rw [if_neg h0, if_neg h0, if_neg h0]
      exact ⟨rfl, rfl, rfl⟩
    obtain ⟨z, hz1⟩ : ∃ z, rfZ count fl B = z := ⟨_, rfl⟩
    rw [hz1] at kR h0 ⊢
    have hne : (z != 0) = true := by simpa using h0
    clear hz h0 hz1
    unfold zeroS at *
    go_enter Try.func12, Try.ntmps12
    go_wp2_with fail
    have kf := hid (frm_sets3 (w.alloc (.cells #[.int .i64 0, .slice none 0 0, .int .i64 0] 30)) w.heap.size (.int .i64 0) (.slice none 0 0) (.int .i64 0))
    have kol := hid (Frm.trans ko.out kf.out (fun i hi e => by omega))
    generalize w.alloc (.cells #[.int .i64 0, .slice none 0 0, .int .i64 0] 30) = w1 at *
    refine kR.out.mono ?_
    rintro e w' ⟨rfl, e2⟩
    rw [e2]
    clear e2 kR
    obtain ⟨y0, y1, y2⟩ := sets3_cells (x := .int .i64 0) (y := .slice none 0 0) (z := .int .i64 0) z0 z1 z2
    unfold sets3 at kf kol y0 y1 y2
    go_wp2_with fail
    refine bodyPost_ret (v := .tuple #[.agg #[.int .i64 0, .slice none 0 0, .int .i64 0], .int .i64 z]) (by simp [results, Try.results12, go_sem, y0, y1, y2]) rfl ⟨⟨none, ?_, fun h => ?_⟩, kol.out⟩
    · rw [ke.out.1, ke.out.2.1, ke.out.2.2]; rfl
    · rw [ke.out.2.2] at h; simp at h
end Go.Proofs.Ytafaodlmohfenaa
