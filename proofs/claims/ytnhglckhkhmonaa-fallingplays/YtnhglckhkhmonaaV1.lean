/- A lot that may not be there, the program's and the document's; what it tells. -/
import Derived.Test.YtnhglckhkhmonaaQ2
import Derived.Test.YtnhglckhkhmonaaK1
namespace Go.Proofs.Ytnhglckhkhmonaa
open Go.RowKit

def FP (w : World) (p : Value) (l : Lt) : Option Sl → Prop
  | none => p = .pointer none
  | some so => lotB l = true ∧ ∃ b, p = .pointer (some ⟨b, 0, none⟩) ∧ Fal w b l so

def RP (w : World) (q : Value) (l : Lt) : Option Sl → Prop
  | none => q = .pointer none
  | some so => lotB l = true ∧ ∃ b, q = .pointer (some ⟨b, 0, none⟩) ∧ Ref w b l so

theorem FP.frm {T : Nat → Prop} {w w' : World} {p : Value} {l : Lt} {st : Option Sl} (h : FP w p l st) (hf : Frm T w w') (h1 : ∀ b, p = .pointer (some ⟨b, 0, none⟩) → ¬ T b) (h2 : ∀ b arr, T b → w.heap[b]? ≠ some (.cells arr 83 (0, 0))) : FP w' p l st := by
  cases st with
  | none => exact h
  | some so =>
    obtain ⟨h0, b, rfl, sp, h3, h4⟩ := h
    refine ⟨h0, b, rfl, sp, h3.frm hf (h1 b rfl), ?_⟩
    cases so with
    | none => exact h4
    | some s =>
      obtain ⟨g, rfl, h5⟩ := h4
      refine ⟨g, rfl, ?_⟩
      rw [hf.block g (blk_lt h5) (fun e => h2 g _ e h5)]
      exact h5

theorem RP.frm {T : Nat → Prop} {w w' : World} {p : Value} {l : Lt} {st : Option Sl} (h : RP w p l st) (hf : Frm T w w') (h1 : ∀ b, p = .pointer (some ⟨b, 0, none⟩) → ¬ T b) : RP w' p l st := by
  cases st with
  | none => exact h
  | some so =>
    obtain ⟨h0, b, rfl, h3⟩ := h
    exact ⟨h0, b, rfl, h3.frm hf (h1 b rfl)⟩

theorem FP.old {w w' : World} {p : Value} {l : Lt} {st : Option Sl} (h : FP w p l st) (hf : Old w w') : FP w' p l st := h.frm hf (fun _ _ h => h) (fun _ _ h => h.elim)
theorem RP.old {w w' : World} {p : Value} {l : Lt} {st : Option Sl} (h : RP w p l st) (hf : Old w w') : RP w' p l st := h.frm hf (fun _ _ h => h)

def bE (l : Lt) (st : Option Sl) (x t c f : Int) : Int := match st with
  | none => 1
  | some so => bdE l so x t c f
def bZ (l : Lt) (st : Option Sl) (x t c f : Int) : Int := match st with
  | none => 0
  | some so => bdZ l so x t c f
def bS (l : Lt) (st : Option Sl) (x t c f : Int) : Option Sl := match st with
  | none => none
  | some so => some (bdS l so x t c f)

theorem bidF (l : Lt) (st : Option Sl) (p : Value) (x t c f : Int) (w : World) (h : FP w p l st) : Calls Try.prog 21 #[p, .int .i64 x, .int .i64 t, .int .i64 c, .int .i64 f] w fun e w' => e = .returned (.tuple #[.int .i64 (bZ l st x t c f), .int .i64 (bE l st x t c f)]) ∧ FP w' p l (bS l st x t c f) ∧ Frm (fun k => p = .pointer (some ⟨k, 0, none⟩)) w w' := by
  cases st with
  | none =>
    obtain rfl : p = .pointer none := h
    refine (bid_nil x t c f w).mono fun e w' ⟨h1, h2⟩ => ?_
    subst h2
    exact ⟨h1, rfl, Frm.refl _ _⟩
  | some so =>
    obtain ⟨h0, b, rfl, h3⟩ := h
    refine (bid_fal l so b x t c f w h0 h3).mono fun e w' ⟨h1, h2, h4⟩ => ?_
    exact ⟨h1, ⟨h0, b, rfl, h2⟩, Frm.mono h4 (fun i _ e => by rw [e])⟩

theorem bid_rnil (x t c f : Int) (w : World) : Calls Try.prog 22 #[.pointer none, .int .i64 x, .int .i64 t, .int .i64 c, .int .i64 f] w fun e w' => e = .returned (.tuple #[.int .i64 0, .int .i64 1]) ∧ w' = w := by
  go_enter Try.func22, Try.ntmps22
  go_wp2_with fail
  exact bodyPost_ret (v := .tuple #[.int .i64 0, .int .i64 1]) (by simp [results, Try.results22, go_sem]) rfl ⟨rfl, rfl⟩

theorem bidR (l : Lt) (st : Option Sl) (p : Value) (x t c f : Int) (w : World) (h : RP w p l st) : Calls Try.prog 22 #[p, .int .i64 x, .int .i64 t, .int .i64 c, .int .i64 f] w fun e w' => e = .returned (.tuple #[.int .i64 (bZ l st x t c f), .int .i64 (bE l st x t c f)]) ∧ RP w' p l (bS l st x t c f) ∧ Frm (fun k => p = .pointer (some ⟨k, 0, none⟩)) w w' := by
  cases st with
  | none =>
    obtain rfl : p = .pointer none := h
    refine (bid_rnil x t c f w).mono fun e w' ⟨h1, h2⟩ => ?_
    subst h2
    exact ⟨h1, rfl, Frm.refl _ _⟩
  | some so =>
    obtain ⟨h0, b, rfl, h3⟩ := h
    refine (rbid_fal l so b x t c f w h0 h3).mono fun e w' ⟨h1, h2, h4⟩ => ?_
    exact ⟨h1, ⟨h0, b, rfl, h2⟩, Frm.mono h4 (fun i _ e => by rw [e])⟩

theorem copyF (l : Lt) (st : Option Sl) (p : Value) (w : World) (h : FP w p l st) : Calls Try.prog 23 #[p] w fun e w' => ∃ p', e = .returned p' ∧ FP w' p' l st ∧ (∀ b, p' = .pointer (some ⟨b, 0, none⟩) → w.heap.size ≤ b) ∧ Old w w' := by
  cases st with
  | none =>
    obtain rfl : p = .pointer none := h
    refine (copy_nil w).mono fun e w' ⟨h1, h2⟩ => ?_
    subst h2
    exact ⟨_, h1, rfl, (fun b e => by cases e), Old.refl _⟩
  | some so =>
    obtain ⟨h0, b, rfl, h3⟩ := h
    refine (copy_fal l so b w h0 h3).mono fun e w' ⟨c, h1, h2, h4, h5⟩ => ?_
    exact ⟨_, h1, ⟨h0, c, rfl, h4⟩, (fun b e => by cases e; exact h2), h5⟩

theorem copyR (l : Lt) (st : Option Sl) (p : Value) (w : World) (h : RP w p l st) : Calls Try.prog 24 #[p] w fun e w' => ∃ p', e = .returned p' ∧ RP w' p' l st ∧ (∀ b, p' = .pointer (some ⟨b, 0, none⟩) → w.heap.size ≤ b) ∧ Old w w' := by
  cases st with
  | none =>
    obtain rfl : p = .pointer none := h
    refine (rcopy_nil w).mono fun e w' ⟨h1, h2⟩ => ?_
    subst h2
    exact ⟨_, h1, rfl, (fun b e => by cases e), Old.refl _⟩
  | some so =>
    obtain ⟨h0, b, rfl, h3⟩ := h
    refine (rcopy_fal l so b w h3).mono fun e w' ⟨c, h1, h2, h4, h5⟩ => ?_
    exact ⟨_, h1, ⟨h0, c, rfl, h4⟩, (fun b e => by cases e; exact h2), h5⟩

set_option maxRecDepth 100000 in
set_option maxHeartbeats 4000000 in
theorem tells_nil (t : Int) (w : World) : Calls Try.prog 25 #[.pointer none, .pointer none, .int .i64 t] w fun e w' => e = .returned (.bool true) ∧ Old w w' := by
  have kS := hid (fun w => sold_nil w)
  have kA := hid (fun w => at_nil t w)
  have kB := hid (fun w => rat_nil t w)
  unfold soV at kS
  dsimp only at kS
  go_enter Try.func25, Try.ntmps25
  go_wp2_with fail
  refine (kS.out _).mono ?_
  rintro e w1 ⟨rfl, rfl⟩
  go_wp2_with fail
  refine (kA.out _).mono ?_
  rintro e w1 ⟨rfl, rfl⟩
  go_wp2_with fail
  refine (kB.out _).mono ?_
  rintro e w1 ⟨rfl, rfl⟩
  go_wp2_with fail
  go_ret
  exact ⟨rfl, Old.refl _⟩

set_option maxRecDepth 100000 in
set_option maxHeartbeats 4000000 in
theorem tells_fal (l : Lt) (so : Sl) (b d : Nat) (t : Int) (w : World) (hl : lotB l = true) (h : Fal w b l so) (k : Ref w d l so) : Calls Try.prog 25 #[.pointer (some ⟨b, 0, none⟩), .pointer (some ⟨d, 0, none⟩), .int .i64 t] w fun e w' => e = .returned (.bool true) ∧ Old w w' := by
  have kS := hid (fun w h => sold_fal l so b w hl h)
  have kA := hid (fun w h => at_fal l so b t w hl h)
  have kB := hid (fun w h => rat_fal l so d t w hl h)
  rw [show soV so = .tuple #[.int .i64 (so1 so), .int .i64 (so2 so), .int .i64 (so3 so), .bool (soB so)] by cases so <;> rfl] at kS
  have kf := hid h
  have kr := hid k
  clear h k hl
  generalize atZ l so t = az at *
  generalize atB l so t = ab at *
  go_enter Try.func25, Try.ntmps25
  go_wp2_with fail
  refine (kS.out _ kf.out).mono ?_
  rintro e w1 ⟨rfl, o1⟩
  have ko1 := hid o1
  clear o1
  go_wp2_with fail
  refine (kA.out _ (kf.out.old ko1.out)).mono ?_
  rintro e w2 ⟨rfl, o2⟩
  have ko2 := hid (ko1.out.trans o2)
  clear o2
  go_wp2_with fail
  refine (kB.out _ (kr.out.old ko2.out)).mono ?_
  rintro e w3 ⟨rfl, o3⟩
  have ko3 := hid (ko2.out.trans o3)
  obtain ⟨r0, r1, r2, r3⟩ := (kr.out.old ko3.out).sale
  have rl := cell_lt r0
  clear o3
  generalize so1 so = s1 at *
  generalize so2 so = s2 at *
  generalize so3 so = s3 at *
  generalize soB so = s0 at *
  go_wp2_with fail
  go_ret
  exact ⟨rfl, ko3.out⟩

theorem tells_any (l : Lt) (st : Option Sl) (p q : Value) (t : Int) (w : World) (h : FP w p l st) (k : RP w q l st) : Calls Try.prog 25 #[p, q, .int .i64 t] w fun e w' => e = .returned (.bool true) ∧ Old w w' := by
  cases st with
  | none =>
    obtain rfl : p = .pointer none := h
    obtain rfl : q = .pointer none := k
    exact tells_nil t w
  | some so =>
    obtain ⟨h0, b, rfl, h3⟩ := h
    obtain ⟨_, d, rfl, h4⟩ := k
    exact tells_fal l so b d t w h0 h3 h4

end Go.Proofs.Ytnhglckhkhmonaa
