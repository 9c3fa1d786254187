/- Begins, Sorted; how much of a name is enough. -/
import Derived.Test.YtjkgijfddgppjaaN18
import Derived.Deep.LoopGhost
import Derived.WalkMore
namespace Go.Proofs.Ytjkgijfddgppjaa
open Go.RowKit Go.Shelf Go.Maps Go.Sort

set_option maxRecDepth 100000 in
theorem begins_any (hb tb mb : Nat) (v : Value) (most : Int) (L : List (List UInt8)) (x : List UInt8) (w : World) (h : Nms w hb tb mb v most L) (hL : L.length ≤ 1048576) :
    Calls Try.prog 22 #[.pointer (some ⟨hb, 0, none⟩), .string ⟨x.toArray⟩] w fun e w' => ∃ vr R, e = .returned vr ∧ InOrd L (begN L x L.length) R ∧ ListOf w w' vr R ∧ Old w w' := by
  have c0 := h.c0
  have kn := hid (none_some hb tb w c0)
  have kb := hid (tbegins_any tb mb v most L x w h.t hL)
  clear h
  go_enter Try.func22, Try.ntmps22
  go_wp2_with fail
  refine kn.out.mono ?_
  rintro e w' ⟨rfl, e1⟩
  rw [e1]
  clear e1 w'
  go_wp2_with fail
  refine kb.out.mono ?_
  rintro e w' ⟨vr, R, rfl, h1, h2, h3⟩
  have k1 := hid h1
  have k2 := hid h2
  have k3 := hid h3
  clear h1 h2 h3
  go_wp2_with fail
  go_ret
  exact ⟨vr, R, rfl, k1.out, k2.out, k3.out⟩

set_option maxRecDepth 100000 in
theorem sorted_any (hb tb mb : Nat) (v : Value) (most : Int) (L : List (List UInt8)) (w : World) (h : Nms w hb tb mb v most L) (hL : L.length ≤ 1048576) :
    Calls Try.prog 18 #[.pointer (some ⟨hb, 0, none⟩)] w fun e w' => ∃ vr R, e = .returned vr ∧ InOrd L (begN L [] L.length) R ∧ ListOf w w' vr R ∧ Old w w' := by
  have kb := hid (begins_any hb tb mb v most L [] w h hL)
  clear h
  go_enter Try.func18, Try.ntmps18
  go_wp2_with fail
  refine kb.out.mono ?_
  rintro e w' ⟨vr, R, rfl, h1, h2, h3⟩
  have k1 := hid h1
  have k2 := hid h2
  have k3 := hid h3
  clear h1 h2 h3
  go_wp2_with fail
  go_ret
  exact ⟨vr, R, rfl, k1.out, k2.out, k3.out⟩

/-- No name among the first k but that of n begins with e of its bytes, and with one less one does. -/
structure Shr (L : List (List UInt8)) (x : List UInt8) (n k e : Nat) : Prop where
  lo : 1 ≤ e
  hi : e ≤ x.length
  no : ∀ m, m < k → m ≠ n → ¬ x.take e <+: L.getD m []
  so : e = 1 ∨ ∃ m, m < k ∧ m ≠ n ∧ x.take (e - 1) <+: L.getD m []

/-- How much is enough. -/
def Short (L : List (List UInt8)) (n e : Nat) : Prop :=
  ((∃ m, m < L.length ∧ m ≠ n ∧ L.getD n [] <+: L.getD m []) ∧ e = (L.getD n []).length) ∨ Shr L (L.getD n []) n L.length e

theorem take_mono {x y : List UInt8} {a b : Nat} (h : a ≤ b) (hp : x.take b <+: y) : x.take a <+: y := (List.take_prefix_take_left h).trans hp

theorem Shr.same {L : List (List UInt8)} {x : List UInt8} {n e : Nat} (h : Shr L x n n e) : Shr L x n (n + 1) e :=
  ⟨h.lo, h.hi, fun m hm hn => h.no m (by omega) hn, h.so.imp id (fun ⟨m, hm, hn, hp⟩ => ⟨m, by omega, hn, hp⟩)⟩

theorem Shr.next {L : List (List UInt8)} {x : List UInt8} {n k e i : Nat} (h : Shr L x n k e) (hk : k ≠ n) (hi : i < x.length) (h1 : x.take i <+: L.getD k []) (h2 : ¬ x.take (i + 1) <+: L.getD k []) : Shr L x n (k + 1) (max e (i + 1)) := by
  have lo := h.lo
  have hh := h.hi
  refine ⟨by omega, by omega, ?_, ?_⟩
  · intro m hm hn hp
    by_cases e1 : m = k
    · subst e1
      exact h2 (take_mono (by omega) hp)
    · exact h.no m (by omega) hn (take_mono (by omega) hp)
  · rcases Nat.le_total e (i + 1) with hle | hle
    · rw [Nat.max_eq_right hle]
      exact Or.inr ⟨k, by omega, hk, by simpa using h1⟩
    · rw [Nat.max_eq_left hle]
      exact h.so.imp id (fun ⟨m, hm, hn, hp⟩ => ⟨m, by omega, hn, hp⟩)

theorem take_succ_prefix {x y : List UInt8} {i : Nat} (hi : i < x.length) (hp : x.take i <+: y) : x.take (i + 1) <+: y ↔ ∃ h : i < y.length, x[i] = y[i] := by
  obtain ⟨t, rfl⟩ := hp
  have hl : (x.take i).length = i := by simp; omega
  rw [List.take_succ_eq_append_getElem hi]
  constructor
  · intro h
    have h2 := (List.prefix_append_right_inj _).1 h
    cases t with
    | nil => simp at h2
    | cons b t =>
      have h3 : x[i] = b := by
        obtain ⟨r, hr⟩ := h2
        simp at hr
        exact hr.1
      refine ⟨by simp; omega, ?_⟩
      rw [List.getElem_append_right (by omega)]
      simp [hl, h3]
  · rintro ⟨h, he⟩
    rw [List.prefix_append_right_inj]
    cases t with
    | nil => simp at h; omega
    | cons b t =>
      rw [List.getElem_append_right (by omega)] at he
      simp [hl] at he
      exact ⟨t, by simp [he]⟩
end Go.Proofs.Ytjkgijfddgppjaa
