/- Two calendars side by side. -/
import Derived.Test.YtbaibikpdaphoaaK2
import Derived.Test.YtbaibikpdaphoaaJ1
import Derived.Laws.AppendOwnNone
import Derived.OwnWalk
namespace Go.Proofs.Ytbaibikpdaphoaa
open Go.RowKit Go.Lib Go.Maps

/-- Two calendars in blocks that are new since w, and apart. -/
def TwoS (w wr : World) (a b : Nat) (n1 n2 : Int) (R1 R2 : List Due) : Prop :=
  ∃ F1 F2, TkS wr a F1 n1 R1 ∧ TkS wr b F2 n2 R2 ∧ (∀ k, F1 k → ¬ F2 k) ∧ (∀ k, F1 k → w.heap.size ≤ k ∧ k < wr.heap.size) ∧ (∀ k, F2 k → w.heap.size ≤ k ∧ k < wr.heap.size) ∧ Old w wr

theorem TwoS.swap {w wr : World} {a b : Nat} {n1 n2 : Int} {R1 R2 : List Due} (h : TwoS w wr a b n1 n2 R1 R2) : TwoS w wr b a n2 n1 R2 R1 := by
  obtain ⟨F1, F2, h1, h2, h3, h4, h5, h6⟩ := h
  exact ⟨F2, F1, h2, h1, fun k a b => h3 k b a, h5, h4, h6⟩

theorem TwoS.old {w wr w' : World} {a b : Nat} {n1 n2 : Int} {R1 R2 : List Due} (h : TwoS w wr a b n1 n2 R1 R2) (ho : Old wr w') : TwoS w w' a b n1 n2 R1 R2 := by
  obtain ⟨F1, F2, h1, h2, h3, h4, h5, h6⟩ := h
  have := ho.size
  exact ⟨F1, F2, h1.old ho, h2.old ho, h3, fun k hk => by have := h4 k hk; omega, fun k hk => by have := h5 k hk; omega, h6.trans ho⟩

theorem TwoS.new {w w1 : World} {a b : Nat} {n1 n2 : Int} {R1 : List Due} (h : KS w w1 a n1 R1) {w2 : World} {F2 : Nat → Prop} (h2 : TkS w2 b F2 n2 []) (ho : Old w1 w2) (hF : ∀ k, F2 k → w1.heap.size ≤ k ∧ k < w2.heap.size) : TwoS w w2 a b n1 n2 R1 [] := by
  obtain ⟨F1, g1, g2, g3⟩ := h
  have s1 := ho.size
  have s2 := g2.size
  exact ⟨F1, F2, g1.old ho, h2, fun k a b => by have := g3 k a; have := hF k b; omega, fun k hk => by have := g3 k hk; omega, fun k hk => by have := hF k hk; omega, g2.trans ho⟩

theorem refE_ok {now t n : Int} (hn : 0 ≤ n) : refE now (t, n) = 0 ↔ (tickB t = true ∧ now ≤ t) := by
  unfold refE
  by_cases h : tickB t = true
  · rw [if_pos ⟨h, hn⟩]
    by_cases h2 : t < now
    · rw [if_pos h2]; simp [h]; omega
    · rw [if_neg h2]; simp [h]; omega
  · rw [if_neg (fun hh => h hh.1)]; simp [h]

def okB (now t : Int) : Bool := decide (tickB t = true ∧ now ≤ t)

theorem TwoS.set {w wr : World} {a b : Nat} {n1 n2 n t : Int} {R1 R2 : List Due} (h : TwoS w wr a b n1 n2 R1 R2) (hl : R1.length < 1000000000) (hn : 0 ≤ n) (hn2 : n ≤ 1000000000) :
    Calls Try.prog 18 #[.pointer (some ⟨a, 0, none⟩), .int .i64 n, .int .i64 t] wr fun e w' => ∃ z, e = .returned (.int .i64 z) ∧ TwoS w w' a b n1 n2 (addR (okB n1) R1 (t, n)) R2 := by
  obtain ⟨F1, F2, h1, h2, h3, h4, h5, h6⟩ := id h
  by_cases hz : refE n1 (t, n) = 0
  · have hok : okB n1 t = true := decide_eq_true ((refE_ok hn).1 hz)
    refine (set_good a F1 n1 n t R1 wr h1 hz hl (by unfold i64ok; omega)).mono ?_
    rintro e w' ⟨rfl, F', a1, a2, a3⟩
    have hs := a2.size
    have hs6 := h6.size
    refine ⟨0, rfl, ?_⟩
    unfold addR
    rw [if_pos hok]
    refine ⟨F', F2, a1, h2.kept a2 (fun k hk hF => h3 k hF hk), fun k hk hk2 => ?_, fun k hk => ?_, fun k hk => by have := h5 k hk; omega, Frm.trans h6 a2 (fun k hk hF => by have := (h4 k hF).1; omega)⟩
    · rcases (a3 k hk).1 with h7 | h7
      · exact h3 k h7 hk2
      · have := h5 k hk2; omega
    · have h8 := (a3 k hk).2
      rcases (a3 k hk).1 with h7 | h7
      · have := h4 k h7; omega
      · omega
  · have hok : ¬ okB n1 t = true := fun h => hz ((refE_ok hn).2 (of_decide_eq_true h))
    refine (set_bad a F1 n1 n t R1 wr h1 hz).mono ?_
    rintro e w' ⟨rfl, ho⟩
    refine ⟨_, rfl, ?_⟩
    unfold addR
    rw [if_neg hok]
    exact h.old ho

/-- The same, apart from some blocks X. -/
def TwoX (w wr : World) (a b : Nat) (n1 n2 : Int) (R1 R2 : List Due) (X : Nat → Prop) : Prop :=
  ∃ F1 F2, TkS wr a F1 n1 R1 ∧ TkS wr b F2 n2 R2 ∧ (∀ k, F1 k → ¬ F2 k) ∧ (∀ k, F1 k → w.heap.size ≤ k ∧ k < wr.heap.size) ∧ (∀ k, F2 k → w.heap.size ≤ k ∧ k < wr.heap.size) ∧ Old w wr ∧ ∀ k, X k → ¬ F1 k ∧ ¬ F2 k

theorem TwoX.swap {w wr : World} {a b : Nat} {n1 n2 : Int} {R1 R2 : List Due} {X : Nat → Prop} (h : TwoX w wr a b n1 n2 R1 R2 X) : TwoX w wr b a n2 n1 R2 R1 X := by
  obtain ⟨F1, F2, h1, h2, h3, h4, h5, h6, h7⟩ := h
  exact ⟨F2, F1, h2, h1, fun k a b => h3 k b a, h5, h4, h6, fun k hk => ⟨(h7 k hk).2, (h7 k hk).1⟩⟩

theorem TwoS.x {w wr : World} {a b : Nat} {n1 n2 : Int} {R1 R2 : List Due} (h : TwoS w wr a b n1 n2 R1 R2) : TwoX w wr a b n1 n2 R1 R2 (fun _ => False) := by
  obtain ⟨F1, F2, h1, h2, h3, h4, h5, h6⟩ := h
  exact ⟨F1, F2, h1, h2, h3, h4, h5, h6, fun _ h => h.elim⟩

theorem TwoX.s {w wr : World} {a b : Nat} {n1 n2 : Int} {R1 R2 : List Due} {X : Nat → Prop} (h : TwoX w wr a b n1 n2 R1 R2 X) : TwoS w wr a b n1 n2 R1 R2 := by
  obtain ⟨F1, F2, h1, h2, h3, h4, h5, h6, _⟩ := h
  exact ⟨F1, F2, h1, h2, h3, h4, h5, h6⟩

/-- What Upto of one of them leaves. -/
def UpX (w wr : World) (a b : Nat) (t n2 : Int) (D R1 R2 : List Due) (X : Nat → Prop) (e : Ending) (w' : World) : Prop :=
  ∃ told, e = .returned (.tuple #[told, .int .i64 0]) ∧ w'.ownsRow w.heap.size 26 2 told D.length (flatD D) ∧ TwoX w w' a b t n2 R1 R2 (fun k => X k ∨ told.ownBlock = some k) ∧ ∀ B v n L, wr.ownsRow B 26 2 v n L → (∀ k, v.ownBlock = some k → X k) → w'.ownsRow B 26 2 v n L

theorem owns_base {w : World} {B B' e k n : Nat} {v : Value} {xs : List Value} (h : w.ownsRow B e k v n xs) (hB : B' ≤ B) : w.ownsRow B' e k v n xs := by
  obtain ⟨h1, h2⟩ := h
  refine ⟨h1, ?_⟩
  rcases h2 with h2 | ⟨g, cap, cur, rfl, h3, r⟩
  · exact Or.inl h2
  · exact Or.inr ⟨g, cap, cur, rfl, by omega, r⟩

theorem TwoX.upto {w wr : World} {a b : Nat} {n1 n2 t : Int} {R1 R2 : List Due} {X : Nat → Prop} (h : TwoX w wr a b n1 n2 R1 R2 X) (hl : R1.length ≤ 1000000) (ht : tickB t = true) (hnt : n1 ≤ t) :
    Calls Try.prog 20 #[.pointer (some ⟨a, 0, none⟩), .int .i64 t] wr fun e w' => UpX w wr a b t n2 (due t R1) (rest t R1) R2 X e w' := by
  obtain ⟨F1, F2, h1, h2, h3, h4, h5, h6, hX⟩ := id h
  refine (upto_good a F1 n1 t R1 wr h1 ((refE_ok (by omega)).2 ⟨ht, hnt⟩) hl).mono ?_
  rintro e w' ⟨told, F', rfl, a1, a2, a3, a4⟩
  have hs := a3.size
  have hs6 := h6.size
  have hge := owns_ge a1
  refine ⟨told, rfl, owns_base a1 hs6, ⟨F', F2, a2, h2.kept a3 (fun k hk hF => h3 k hF hk), fun k hk => h3 k (a4 k hk).1, fun k hk => ?_, fun k hk => by have := h5 k hk; omega, Frm.trans h6 a3 (fun k hk hF => by have := (h4 k hF).1; omega), fun k hk => ?_⟩, fun B v n L hv hk => owns_frm hv a3 (fun k h8 => (hX k (hk k h8)).1)⟩
  · have h7 := a4 k hk
    have h8 := h4 k h7.1
    omega
  · rcases hk with hk | hk
    · exact ⟨fun h9 => (hX k hk).1 (a4 k h9).1, (hX k hk).2⟩
    · have h10 := (hge k hk).1
      exact ⟨fun h9 => by have := (a4 k h9).2; omega, fun h9 => by have := (h5 k h9).2; omega⟩

theorem flat_one : ∀ (L : List Due), ∀ u ∈ flatD L, u.oneCell' = true
  | [], u, h => by simp [flatD] at h
  | d :: L, u, h => by
    simp only [flatD, List.mem_cons] at h
    rcases h with rfl | rfl | h
    · rfl
    · rfl
    · exact flat_one L u h

/-- One list behind another one. -/
theorem wpApp {ops : Array Oper} {rest : List Oper} {o : Oper} {a : Act} {Q : Exit → Act → World → Prop} {w : World} (hgd : o.guard = none) (s x : Operand) (ho : o.op = .call { callee := .builtin .append, args := #[s, x], argTypes := #[22, 22] })
    (B B2 : Nat) (v v2 : Value) (L1 L2 : List Due) (hs : a.eval s = v) (hx : a.eval x = v2) (hown : w.ownsRow B 26 2 v L1.length (flatD L1)) (hown2 : w.ownsRow B2 26 2 v2 L2.length (flatD L2)) (hl : L1.length + L2.length ≤ 1000000) (hB : B ≤ w.heap.size)
    (h : ∀ v' w', w'.ownsRow B 26 2 v' (L1 ++ L2).length (flatD (L1 ++ L2)) → w.grownBy w' v.ownBlock → wpList Try.prog ops Q rest (a.put o.dst v') w') : wpList Try.prog ops Q (o :: rest) a w := by
  obtain ⟨i0, hi0, hz0, hz1, hz2⟩ := info_parts info26
  have hlen := hown2.1
  rw [flatD_length] at hlen
  rcases hown2.2 with ⟨rfl, h3⟩ | ⟨g, cap, arr, rfl, hb, hg, h4, h5, h6, h7⟩
  · have hM : L2 = [] := List.eq_nil_of_length_eq_zero (by omega)
    subst hM
    refine wpList_append_own_none hgd s x 22 ho B 26 i0 2 Try.underlying22 hi0 v L1.length (flatD L1) hs hown hx ?_
    refine h v w (by simpa using hown) ⟨rfl, rfl, rfl, Nat.le_refl _, fun _ _ _ => rfl⟩
  · refine wpList_append_own _ hgd s x 22 ho B 26 i0 _ 2 16 Try.underlying22 hi0 hz0 hz1 hz2 rfl (by omega) v L1.length (flatD L1) hs hown ⟨g, 0, none⟩ L2.length cap (flatD L2) hx (by rw [flatD_length]; omega) (fun j u hu => ?_) (flat_one L2) (by unfold maxLen; omega) (by omega) hB (fun v' w' h8 h9 _ => h v' w' (by rw [List.length_append, flatD_append]; exact h8) h9)
    have hadd : (⟨g, 0, none⟩ : Addr).add j = ⟨g, j, none⟩ := by unfold Addr.add; split <;> simp_all
    rw [hadd]
    have hj : j < (flatD L2).length := (List.getElem?_eq_some_iff.1 hu).1
    rw [flatD_length] at hj
    rw [← h7, List.getElem?_take, if_pos (by omega)] at hu
    simp only [World.cell?, hg]
    simpa using hu
end Go.Proofs.Ytbaibikpdaphoaa
