/- Any step of the play; how it begins; calendars in lists. -/
import Derived.Test.YtbaibikpdaphoaaP6
namespace Go.Proofs.Ytbaibikpdaphoaa
open Go.RowKit Go.Lib Go.Maps

theorem step_any (w0 w : World) (wb N : Nat) (kind on n tick : Int) (hX : PX w0 w wb N) (hN : N ≤ 900) (hn : i64ok n) :
    Calls Try.prog 15 #[.pointer (some ⟨wb, 0, none⟩), .agg #[.int .i64 kind, .int .i64 on, .int .i64 n, .int .i64 tick]] w fun e w' => e = .returned (.bool true) ∧ PX w0 w' wb (N + 1) := by
  by_cases h1 : kind = 1
  · subst h1; exact step_set w0 w wb N on n tick hX hN hn
  by_cases h2 : kind = 2
  · subst h2; exact step_drop w0 w wb N on n tick hX hN hn
  by_cases h3 : kind = 3
  · subst h3; exact step_at w0 w wb N on n tick hX hN hn
  by_cases h4 : kind = 4
  · subst h4; exact step_upto w0 w wb N on n tick hX hN
  by_cases h5 : kind = 5
  · subst h5; exact step_told w0 w wb N on n tick hX hN
  by_cases h6 : kind = 6
  · subst h6; exact step_copy w0 w wb N on n tick hX hN
  exact step_other w0 w wb N on n tick hX kind h1 h2 h3 h4 h5 h6

set_option maxRecDepth 100000 in
set_option maxHeartbeats 1000000 in
theorem new_bad (now : Int) (w : World) (hb : tickB now = false) : Calls Try.prog 8 #[.int .i64 now] w fun e w' => e = .returned (.tuple #[.pointer none, .int .i64 2]) ∧ w' = w := by
  have kO := hid (of_tick none 0 0 now w hb)
  go_enter Try.func8, Try.ntmps8
  go_wp2_with fail
  refine kO.out.mono ?_
  rintro e w2 ⟨rfl, e2⟩
  rw [e2]
  go_wp2
  go_ret2
  exact ⟨rfl, rfl⟩

/-- One of two. -/
def two {α : Type} (a b : α) : Nat → α := fun k => if k = 0 then a else b

/-- Where a thing lies, told apart from the others. -/
structure Apart (w0 W : World) (F0 F1 Z : Nat → Prop) (r0 r1 wb : Nat) : Prop where
  f0 : ∀ x, F0 x → ¬ F1 x ∧ ¬ Z x ∧ x ≠ r0 ∧ x ≠ r1 ∧ x ≠ wb ∧ w0.heap.size ≤ x ∧ x < W.heap.size
  f1 : ∀ x, F1 x → ¬ Z x ∧ x ≠ r0 ∧ x ≠ r1 ∧ x ≠ wb ∧ w0.heap.size ≤ x ∧ x < W.heap.size
  z : ∀ x, Z x → x ≠ r0 ∧ x ≠ r1 ∧ x ≠ wb ∧ w0.heap.size ≤ x ∧ x < W.heap.size
  r : r0 ≠ r1 ∧ r0 ≠ wb ∧ r1 ≠ wb ∧ w0.heap.size ≤ r0 ∧ w0.heap.size ≤ r1 ∧ w0.heap.size ≤ wb

theorem PX.init {w0 W : World} {a b r0 r1 wb N : Nat} {F0 F1 Z : Nat → Prop} {now : Int} {R1 : List Due} (hA : Apart w0 W F0 F1 Z r0 r1 wb) (h0 : TkS W a F0 now []) (h1 : TkS W b F1 now R1) (d0 : Doc W r0 Z now []) (d1 : Doc W r1 Z now R1)
    (hw : W.heap[wb]? = some (.cells #[.pointer (some ⟨a, 0, none⟩), .pointer (some ⟨b, 0, none⟩), .pointer (some ⟨r0, 0, none⟩), .pointer (some ⟨r1, 0, none⟩), .slice none 0 0, .slice none 0 0] 45 (0, 0))) (hold : Old w0 W) (hl : R1.length ≤ N) : PX w0 W wb N := by
  obtain ⟨τ, t1, t2, t3, t4, t5, t8, tb⟩ : ∃ τ : Nat → Nat, (∀ x, F0 x → τ x = 1) ∧ (∀ x, F1 x → τ x = 2) ∧ τ r0 = 3 ∧ τ r1 = 4 ∧ τ wb = 5 ∧ (∀ x, Z x → τ x = 8) ∧ ∀ x, τ x ≠ 0 → F0 x ∨ F1 x ∨ x = r0 ∨ x = r1 ∨ x = wb ∨ Z x := by
    refine ⟨fun x => @ite _ (F0 x) (Classical.propDecidable _) 1 (@ite _ (F1 x) (Classical.propDecidable _) 2 (if x = r0 then 3 else if x = r1 then 4 else if x = wb then 5 else @ite _ (Z x) (Classical.propDecidable _) 8 0)), ?_, ?_, ?_, ?_, ?_, ?_, ?_⟩
    · intro x hx; simp only [if_pos hx]
    · intro x hx; simp only [if_neg (fun h => (hA.f0 x h).1 hx), if_pos hx]
    · simp only [if_neg (fun h => (hA.f0 _ h).2.2.1 rfl), if_neg (fun h => (hA.f1 _ h).2.1 rfl), if_true]
    · simp only [if_neg (fun h => (hA.f0 _ h).2.2.2.1 rfl), if_neg (fun h => (hA.f1 _ h).2.2.1 rfl), if_neg (Ne.symm hA.r.1), if_true]
    · simp only [if_neg (fun h => (hA.f0 _ h).2.2.2.2.1 rfl), if_neg (fun h => (hA.f1 _ h).2.2.2.1 rfl), if_neg (Ne.symm hA.r.2.1), if_neg (Ne.symm hA.r.2.2.1), if_true]
    · intro x hx
      have hz := hA.z x hx
      simp only [if_neg (fun h => (hA.f0 x h).2.1 hx), if_neg (fun h => (hA.f1 x h).1 hx), if_neg hz.1, if_neg hz.2.1, if_neg hz.2.2.1, if_pos hx]
    · intro x hx
      by_cases e0 : F0 x
      · exact Or.inl e0
      by_cases e1 : F1 x
      · exact Or.inr (Or.inl e1)
      by_cases e2 : x = r0
      · exact Or.inr (Or.inr (Or.inl e2))
      by_cases e3 : x = r1
      · exact Or.inr (Or.inr (Or.inr (Or.inl e3)))
      by_cases e4 : x = wb
      · exact Or.inr (Or.inr (Or.inr (Or.inr (Or.inl e4))))
      by_cases e5 : Z x
      · exact Or.inr (Or.inr (Or.inr (Or.inr (Or.inr e5))))
      · exact absurd (by simp only [if_neg e0, if_neg e1, if_neg e2, if_neg e3, if_neg e4, if_neg e5]) hx
  have hwl := (Array.getElem?_eq_some_iff.1 hw).1
  refine ⟨τ, two a b, two r0 r1, fun _ => now, two [] R1, .slice none 0 0, .slice none 0 0, [], ⟨hw, t5, fun k hk => ?_, fun k hk => ?_, fun k hk => ?_, by simpa [ptrs] using World.ownsRow_nil _ _ _ _, by simpa [ptrs] using World.ownsRow_nil _ _ _ _, fun q hq => by simp [Value.ownBlock] at hq, fun q hq => by simp [Value.ownBlock] at hq, fun p hp => by simp at hp, fun x hx => ?_, hold, fun k hk => ?_, fun k hk => ?_⟩, by simp⟩
  · match k, hk with
    | 0, _ => exact h0.mono t1
    | 1, _ => exact h1.mono t2
  · match k, hk with
    | 0, _ => exact d0.mono (fun x _ hx => t8 x hx)
    | 1, _ => exact d1.mono (fun x _ hx => t8 x hx)
  · match k, hk with
    | 0, _ => exact t3
    | 1, _ => exact t4
  · rcases tb x hx with h | h | h | h | h | h
    · exact ⟨(hA.f0 x h).2.2.2.2.2.1, (hA.f0 x h).2.2.2.2.2.2⟩
    · exact ⟨(hA.f1 x h).2.2.2.2.1, (hA.f1 x h).2.2.2.2.2⟩
    · rw [h]; exact ⟨hA.r.2.2.2.1, d0.lt⟩
    · rw [h]; exact ⟨hA.r.2.2.2.2.1, d1.lt⟩
    · rw [h]; exact ⟨hA.r.2.2.2.2.2, hwl⟩
    · exact ⟨(hA.z x h).2.2.2.1, (hA.z x h).2.2.2.2⟩
  · match k, hk with
    | 0, _ => simp [two]
    | 1, _ => simpa [two] using hl
  · match k, hk with
    | 0, _ => simp [two]
    | 1, _ => simpa [two] using hl

/-- A list of pointers, cell by cell. -/
theorem owns_ptr {w : World} {B t : Nat} {v : Value} {ps : List Nat} (h : w.ownsRow B t 1 v ps.length (ptrs ps)) : ∃ ao cap, v = .slice ao ps.length cap ∧ ∀ i (hi : i < ps.length), ∃ g, ao = some ⟨g, 0, none⟩ ∧ w.cell? ⟨g, i, none⟩ = some (.pointer (some ⟨ps[i], 0, none⟩)) := by
  obtain ⟨h1, h2⟩ := h
  rcases h2 with ⟨rfl, h3⟩ | ⟨g, cap, arr, rfl, hb, hg, h3, h4, h5, h6⟩
  · exact ⟨none, 0, by rw [h3], fun i hi => by omega⟩
  · refine ⟨_, _, rfl, fun i hi => ⟨g, rfl, ?_⟩⟩
    have hl : (ptrs ps)[i]? = some (.pointer (some ⟨ps[i], 0, none⟩)) := by simp [ptrs, hi]
    rw [Nat.mul_one] at h6
    rw [← h6, List.getElem?_take] at hl
    rw [if_pos hi] at hl
    simp only [World.cell?, hg]
    simpa using hl
end Go.Proofs.Ytbaibikpdaphoaa

/- TicksPlay: the ways on which nothing is played. -/
namespace Go.Proofs.Ytbaibikpdaphoaa
open Go.RowKit Go.Lib Go.Maps

theorem wpAppE {ops : Array Oper} {rest : List Oper} {o : Oper} {a : Act} {Q : Exit → Act → World → Prop} {w : World} (hgd : o.guard = none) (s x : Operand) (ho : o.op = .call { callee := .builtin .append, args := #[s, x], argTypes := #[22, 22] })
    (B : Nat) (v : Value) (ao : Option Addr) (m c : Nat) (L1 L2 : List Due) (hs : a.eval s = v) (hx : a.eval x = .slice ao m c) (hm : L2.length = m) (hc : ao = none → c = 0) (hown : w.ownsRow B 26 2 v L1.length (flatD L1)) (hD : DueC w ao L2) (hl : L1.length + L2.length ≤ 1000000) (hB : B ≤ w.heap.size)
    (h : ∀ v' w', w'.ownsRow B 26 2 v' (L1 ++ L2).length (flatD (L1 ++ L2)) → w.grownBy w' v.ownBlock → wpList Try.prog ops Q rest (a.put o.dst v') w') : wpList Try.prog ops Q (o :: rest) a w := by
  by_cases hsp : ∀ q, ao = some q → q.spot = none
  · exact wpAppD hgd s x ho B v ao m c L1 L2 hs hx hm hc hsp hown hD hl hB h
  · cases ao with
    | none => exact absurd (fun q e => by cases e) hsp
    | some q =>
      have hM : L2 = [] := by
        cases L2 with
        | nil => rfl
        | cons y L2 =>
          obtain ⟨g, o, e, _⟩ := hD 0 (by simp)
          cases e
          exact absurd (fun q e => by cases e; rfl) hsp
      subst hM
      obtain rfl : m = 0 := by simpa using hm.symm
      obtain ⟨i0, hi0, hz0, hz1, hz2⟩ := info_parts info26
      refine wpList_append_own _ hgd s x 22 ho B 26 i0 _ 2 16 Try.underlying22 hi0 hz0 hz1 hz2 rfl (by omega) v L1.length (flatD L1) hs hown q 0 c [] hx (by simp) (fun j u hu => by simp at hu) (by simp) (by unfold maxLen; simp at hl; omega) (by simp at hl; omega) hB (fun v' w' h8 h9 _ => h v' w' (by simpa using h8) h9)

theorem mlist {w w1 w3 : World} {v1 : Value} {n g cm : Nat} {L : List Due} {o : Obj} (hn : L.length = n) (ho : Old w w1) (hown1 : w1.ownsRow w.heap.size 26 2 v1 n (flatD L)) (hgrow : (w1.alloc o).grownBy w3 v1.ownBlock)
    (hown3 : w3.ownsRow w.heap.size 26 2 (.slice (some ⟨g, 0, none⟩) (n + 1) cm) (n + 1) (flatD L ++ [.int .i64 0, .int .i64 4242])) : Old w w3 ∧ w.heap.size ≤ g ∧ Row w3 g cm (L ++ [(0, 4242)]) ∧ n + 1 ≤ cm := by
  have hr : Row w3 g cm (L ++ [(0, 4242)]) := (row_of_owns (n := n + 1) (base := w.heap.size) (by rw [flatD_append]; exact hown3)).1
  refine ⟨Frm.grown (ho.alloc _) hgrow (fun j hj => Or.inl (owns_ge hown1 j hj).1), (owns_ge hown3 g (by simp [Value.ownBlock])).1, hr, ?_⟩
  have := hr.le
  rw [List.length_append, hn] at this
  simpa using this

set_option maxRecDepth 100000 in
set_option maxHeartbeats 4000000 in
theorem play_great (now : Int) (ao so : Option Addr) (n cap ns cs : Nat) (w : World) (hN : 100 < n) (hN2 : n ≤ 9223372036854775807) :
    Calls Try.prog 3 #[.int .i64 now, .slice ao n cap, .slice so ns cs] w fun e w' => e = .returned (.bool true) ∧ Old w w' := by
  have kK := hid known_any
  have d1 : decide (100 < (n : Int)) = true := by simp; omega
  go_enter Try.func3, Try.ntmps3
  go_wp2_with fail
  refine (kK.out _).mono ?_
  rintro e w2 ⟨rfl, h2⟩
  have k2 := hid h2
  clear h2
  go_wp2
  go_ret
  exact ⟨rfl, k2.out⟩

set_option maxRecDepth 100000 in
set_option maxHeartbeats 4000000 in
theorem play_tick (now : Int) (ao so : Option Addr) (n cap ns cs : Nat) (L : List Due) (w : World) (ha : DueC w ao L) (hn : L.length = n) (hN : n ≤ 100) (hcz : ao = none → cap = 0) (hok : ∀ d ∈ L, i64ok d.2) (hb : tickB now = false) :
    Calls Try.prog 3 #[.int .i64 now, .slice ao n cap, .slice so ns cs] w fun e w' => e = .returned (.bool true) ∧ Old w w' := by
  obtain ⟨i0, hi0, hz0, hz1, hz2⟩ := info_parts info26
  have kK := hid known_any
  have d1 : decide (100 < (n : Int)) = false := by simp; omega
  have kA := hid ha
  have kn := hid hn
  have kok := hid hok
  clear ha hn hok
  go_enter Try.func3, Try.ntmps3
  go_wp2_with (first
    | (at_builtin; refine wpAppE (by rfl) _ _ (by rfl) w.heap.size (.slice none 0 0) ao n cap [] L (by rfl) (by rfl) kn.out hcz (by simpa [flatD] using World.ownsRow_nil _ _ _ _) kA.out (by rw [kn.out]; simp; omega) (Nat.le_refl _) ?_; intro v1 w1 hown1 hgrow1; rw [List.nil_append] at hown1; have o1 := hid (show Old w w1 from Frm.grown (Old.refl w) hgrow1 (fun k hk => by simp [Value.ownBlock] at hk)); have hs1 := o1.out.size; rw [kn.out] at hown1; clear hgrow1)
    | (at_builtin; refine wpList_append_lies _ (by rfl) _ _ 22 (by rfl) w.heap.size 26 i0 _ 2 16 Try.underlying22 hi0 hz0 hz1 hz2 rfl (by omega) v1 n (flatD L) (by rfl) (World.ownsRow.alloc hown1 _) ⟨_, 0, none⟩ 1 1 [.int .i64 0, .int .i64 4242] (by rfl) (by rfl) (World.news_of_block (heap_new _ _)) (by simp [Value.oneCell']) (by omega) (by unfold maxLen; omega) (by omega) (Nat.le_trans hs1 (by simp)) _ rfl ?_; intro g cm w3 hown3 hgrow3 hat3 hlt3; have hml := mlist kn.out o1.out hown1 hgrow3 hown3; have o3 := hid hml.1; have hg3 := hid hml.2.1; have hr3 := hid hml.2.2.1; have hcm := hml.2.2.2; clear hml hown1 hown3 hgrow3 hat3)
    | fail)
  refine (new_bad now w3 hb).mono ?_
  rintro e w4 ⟨rfl, e4⟩
  rw [e4]
  clear e4 w4
  go_wp2_with fail
  refine (of_tick (some ⟨g, 0, none⟩) cm n now w3 hb).mono ?_
  rintro e w4 ⟨rfl, e4⟩
  rw [e4]
  clear e4 w4
  go_wp2_with fail
  refine (refnew_bad now w3 hb).mono ?_
  rintro e w4 ⟨rfl, e4⟩
  rw [e4]
  clear e4 w4
  go_wp2_with fail
  refine (refof_tick ao cap n now w3 hb).mono ?_
  rintro e w4 ⟨rfl, e4⟩
  rw [e4]
  clear e4 w4
  have hLn : Hid (L = (L ++ [((0 : Int), (4242 : Int))]).take n) := hid (by rw [← kn.out]; simp)
  have hD1 : Hid (DueC w3 (some ⟨g, 0, none⟩) L) := by
    have h8 := (hr3).out.dues.take n
    rw [← hLn.out] at h8; exact h8
  have kS := hid (same_any (some ⟨g, 0, none⟩) ao cm cap L w3 hD1.out (kA.out.old (o3).out) (by rw [kn.out]; omega))
  rw [kn.out] at kS
  have h42 : (w3).cell? ⟨g, 2 * n + 1, none⟩ = some (.int .i64 4242) := by
    have h8 := ((hr3).out.cell (i := n) (by rw [List.length_append, kn.out]; simp)).2
    rw [at_eq (show n < (L ++ [((0 : Int), (4242 : Int))]).length by rw [List.length_append, kn.out]; simp)] at h8
    rw [h8]
    simp [← kn.out]
  have e2 : n * 2 = 2 * n := by omega
  go_wp2_with fail
  refine kS.out.mono ?_
  rintro e w5 ⟨rfl, m5, e5⟩
  rw [e5]
  clear e5
  obtain ⟨W5, hW5⟩ : ∃ W5, (w3).drewN m5 = W5 := ⟨_, rfl⟩
  have o5 : Hid (Old w3 W5) := by rw [← hW5]; exact (Old.refl _).drewN m5
  rw [hW5]
  replace h42 := o5.out.cell h42
  clear hW5
  go_wp2_with fail
  go_loopw [16] (fun s wr => ∃ i : Nat, i ≤ n ∧ s = .int .i64 (i : Int) ∧ ∃ M, M.length = n + 1 ∧ Row wr g cm M ∧ Frm (fun b => b = g) W5 wr) (fun s _ => n - (intOf s).toNat)
  case atStart => exact ⟨0, Nat.zero_le _, rfl, L ++ [(0, 4242)], by rw [List.length_append, kn.out]; rfl, (hr3).out.kept o5.out (fun h => h), Frm.refl _ _⟩
  case round =>
  obtain ⟨i, hi, rfl, M, hM, hRow, hfr⟩ := hrel
  have kM := hid hM
  have kR := hid hRow
  have kf := hid hfr
  clear hM hfr h42
  by_cases hin : i < n
  · obtain ⟨v0, v1⟩ := hRow.cell (i := i) (by rw [kM.out]; omega)
    have fz0 := hRow.frozen (2 * i)
    have fz1 := hRow.frozen (2 * i + 1)
    have hset := hid (hRow.set (i := i) (by rw [kM.out]; omega) (0, 7))
    have e1 : i * 2 = 2 * i := by omega
    clear hRow
    go_wp2_with fail
    refine ⟨⟨i + 1, by omega, by go_num, M.set i (0, 7), by rw [List.length_set]; exact kM.out, hset.out, Frm.setCell (S := fun b => b = g) (Frm.setCell (S := fun b => b = g) kf.out ⟨g, 2 * i, none⟩ (Or.inr rfl) _) ⟨g, 2 * i + 1, none⟩ (Or.inr rfl) _⟩, by simp [intOf]; omega⟩
  obtain rfl : i = n := by omega
  clear hRow
  · go_wp2_with fail
    refine (kK.out _).mono ?_
    rintro e w6 ⟨rfl, h6⟩
    have k6 := hid h6
    clear h6
    go_wp2
    go_ret
    have h7 : Old w wr := Frm.trans o3.out (Frm.trans (S := fun b => b = g) (Frm.mono o5.out (fun _ _ h => h.elim)) kf.out (fun _ _ h => h)) (fun b hb2 e => by have := hg3.out; omega)
    exact ⟨rfl, h7.trans k6.out⟩
end Go.Proofs.Ytbaibikpdaphoaa

/- The end of the play: all calendars in two lists. -/
namespace Go.Proofs.Ytbaibikpdaphoaa
open Go.RowKit Go.Lib Go.Maps

/-- So many of the two are put to those put aside. -/
def PY (w0 w : World) (wb i : Nat) : Prop := ∃ τ t r nw R vo vw olds, PS w0 w wb τ t r nw nw R R vo vw (olds.map Prod.fst ++ (List.range i).map t) (olds.map Prod.snd ++ (List.range i).map r) olds 400 ∧ olds.length ≤ 10

theorem PX.py {w0 w : World} {wb N : Nat} (h : PX w0 w wb N) (hN : N ≤ 400) : PY w0 w wb 0 := by
  obtain ⟨τ, t, r, nw, R, vo, vw, olds, h1, h2⟩ := h
  exact ⟨τ, t, r, nw, R, vo, vw, olds, by simpa using h1.up hN, h2⟩

/-- The calendars to be asked, one by one. -/
structure PZ (w : World) (wb m : Nat) (po pw : List Nat) (ao ao' : Option Addr) (cap cap' : Nat) : Prop where
  lo : po.length = m
  lw : pw.length = m
  c4 : w.cell? ⟨wb, 4, none⟩ = some (.slice ao m cap)
  c5 : w.cell? ⟨wb, 5, none⟩ = some (.slice ao' m cap')
  ro : ∀ i (hi : i < po.length), ∃ g, ao = some ⟨g, 0, none⟩ ∧ w.cell? ⟨g, i, none⟩ = some (.pointer (some ⟨po[i], 0, none⟩))
  rw : ∀ i (hi : i < pw.length), ∃ g, ao' = some ⟨g, 0, none⟩ ∧ w.cell? ⟨g, i, none⟩ = some (.pointer (some ⟨pw[i], 0, none⟩))
  each : ∀ i (hi : i < po.length) (hi' : i < pw.length), ∃ now L F Z, TkS w po[i] F now L ∧ Doc w pw[i] Z now L ∧ L.length ≤ 1000

theorem PY.pz {w0 w : World} {wb : Nat} (h : PY w0 w wb 2) : ∃ m po pw ao ao' cap cap', m ≤ 12 ∧ Old w0 w ∧ PZ w wb m po pw ao ao' cap cap' := by
  obtain ⟨τ, t, r, nw, R, vo, vw, olds, h1, h2⟩ := h
  have hr2 : List.range 2 = [0, 1] := rfl
  rw [hr2] at h1
  simp only [List.map_cons, List.map_nil] at h1
  obtain ⟨ao, cap, rfl, hro⟩ := owns_ptr h1.rowo
  obtain ⟨ao', cap', rfl, hrw⟩ := owns_ptr h1.roww
  have l1 : (olds.map Prod.fst ++ [t 0, t 1]).length = olds.length + 2 := by simp
  have l2 : (olds.map Prod.snd ++ [r 0, r 1]).length = olds.length + 2 := by simp
  refine ⟨olds.length + 2, _, _, ao, ao', cap, cap', by omega, h1.old, ⟨l1, l2, by rw [← l1]; exact h1.cells.2.1, by rw [← l2]; exact h1.cells.2.2.1, hro, hrw, fun i hi hi' => ?_⟩⟩
  by_cases hlt : i < olds.length
  · obtain ⟨now, L, a1, a2, _, a4⟩ := h1.each olds[i] (List.getElem_mem hlt)
    refine ⟨now, L, (fun b => τ b = 8), (fun b => τ b = 8), ?_, ?_, a4⟩
    · rw [List.getElem_append_left (by simpa using hlt), List.getElem_map]; exact a1
    · rw [List.getElem_append_left (by simpa using hlt), List.getElem_map]; exact a2
  · rw [l1] at hi
    have hk : i - olds.length < 2 := by omega
    have e1 : (olds.map Prod.fst ++ [t 0, t 1])[i]'(by rw [l1]; exact hi) = t (i - olds.length) := by
      rw [List.getElem_append_right (by simp; omega)]
      simp only [List.length_map]
      rcases Nat.lt_or_ge (i - olds.length) 1 with h3 | h3
      · have : i - olds.length = 0 := by omega
        simp [this]
      · have : i - olds.length = 1 := by omega
        simp [this]
    have e2 : (olds.map Prod.snd ++ [r 0, r 1])[i]'(by rw [l2]; exact hi) = r (i - olds.length) := by
      rw [List.getElem_append_right (by simp; omega)]
      simp only [List.length_map]
      rcases Nat.lt_or_ge (i - olds.length) 1 with h3 | h3
      · have : i - olds.length = 0 := by omega
        simp [this]
      · have : i - olds.length = 1 := by omega
        simp [this]
    refine ⟨nw (i - olds.length), R (i - olds.length), (fun b => τ b = 1 + (i - olds.length)), (fun b => τ b = 8), by rw [e1]; exact h1.cal _ hk, by rw [e2]; exact h1.doc _ hk, by have := h1.lenR _ hk; omega⟩

theorem PZ.old {w w' : World} {wb m : Nat} {po pw : List Nat} {ao ao' : Option Addr} {cap cap' : Nat} (h : PZ w wb m po pw ao ao' cap cap') (ho : Old w w') : PZ w' wb m po pw ao ao' cap cap' :=
  ⟨h.lo, h.lw, ho.cell h.c4, ho.cell h.c5, fun i hi => by obtain ⟨g, e, c⟩ := h.ro i hi; exact ⟨g, e, ho.cell c⟩, fun i hi => by obtain ⟨g, e, c⟩ := h.rw i hi; exact ⟨g, e, ho.cell c⟩, fun i hi hi' => by
    obtain ⟨now, L, F, Z, a, b, c⟩ := h.each i hi hi'
    exact ⟨now, L, F, Z, a.old ho, b.old ho, c⟩⟩

/-- The steps of a play, in memory. -/
def StepC (w : World) (so : Option Addr) (S : List (Int × Int × Int × Int)) : Prop := ∀ i (hi : i < S.length), ∃ g o, so = some ⟨g, o, none⟩ ∧ w.cell? ⟨g, o + 4 * i, none⟩ = some (.int .i64 S[i].1) ∧ w.cell? ⟨g, o + 4 * i + 1, none⟩ = some (.int .i64 S[i].2.1) ∧ w.cell? ⟨g, o + 4 * i + 2, none⟩ = some (.int .i64 S[i].2.2.1) ∧ w.cell? ⟨g, o + 4 * i + 3, none⟩ = some (.int .i64 S[i].2.2.2)
end Go.Proofs.Ytbaibikpdaphoaa
