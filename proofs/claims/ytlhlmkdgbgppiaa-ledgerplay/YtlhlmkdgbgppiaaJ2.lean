/- A table: a name comes; found. -/
import Derived.Test.YtlhlmkdgbgppiaaJ1
namespace Go.Proofs.Ytlhlmkdgbgppiaa
open Go.RowKit Go.Shelf Go.Maps

theorem info9 : (Try.prog.info? 9).map (fun i => (i.zero, i.size, i.bytes)) = some (some (.string .empty), 1, 16) := by kernel_rfl

set_option maxRecDepth 100000 in
set_option maxHeartbeats 4000000 in
theorem tadd_any (tb mb : Nat) (v : Value) (most : Int) (L : List (List UInt8)) (x : List UInt8) (w : World) (h : Tbl w tb mb v most L) (hL : L.length ≤ 1048576) (hx : x.length ≤ 64) (hm : x ∉ L) :
    Calls Try.prog 69 #[.pointer (some ⟨tb, 0, none⟩), .string ⟨x.toArray⟩] w fun e w' => e = .returned (.int .i64 (L.length : Int)) ∧ ∃ v', Tbl w' tb mb v' most (L ++ [x]) ∧ Frm (fun k => k = tb ∨ k = mb ∨ v.ownBlock = some k) w w' ∧ (∀ k, v'.ownBlock = some k → v.ownBlock = some k ∨ w.heap.size ≤ k) ∧ w.heap.size ≤ w'.heap.size := by
  obtain ⟨i0, hi, hz0, hz1, hz2⟩ := info_parts info9
  have c1 := h.cell1
  obtain ⟨ao, cap, hv⟩ := h.form
  have kC := hid (clone_any x w (by omega))
  have kh := hid h
  rw [hv] at c1
  clear h
  go_enter Try.func69, Try.ntmps69
  go_wp2_with (go_at_call 80; refine kC.out.mono ?_)
  rintro e w1 ⟨rfl, o1⟩
  have h1 := kh.out.old o1
  have d1 := h1.cell1
  rw [hv] at d1
  have hrow := h1.row.alloc (.cells #[.string ⟨x.toArray⟩] 9)
  have lt := blk_lt h1.blk
  have lm := h1.km.lt
  have n3 := h1.ne3
  have n2 := h1.ne2
  have n1 := h1.ne1
  rw [hv] at hrow n3 n2
  have kb := hid h1.blk
  have kk := hid h1.km
  have k1 := hid o1
  clear h1 kC o1 c1
  go_wp2_with (at_builtin; refine wpList_append_lies _ rfl _ _ 33 rfl 0 9 i0 (.string .empty) 1 16 Try.underlying33 hi hz0 hz1 hz2 rfl (by decide) _ _ _ rfl hrow ⟨w1.heap.size, 0, none⟩ 1 1 [.string ⟨x.toArray⟩] rfl rfl ?c1 ?c2 (by decide) ?c3 ?c4 ?c5 _ rfl ?_)
  case c1 =>
    intro j u hj
    match j, hj with
    | 0, hj => simp at hj; subst hj; simp [Addr.add]
  case c2 => intro u hu; simp at hu; subst hu; rfl
  case c3 => unfold maxLen; omega
  case c4 => omega
  case c5 => omega
  intro g cap' w2 hown hgrow hat hlt
  have hz1' := alloc_size w1 (.cells #[.string ⟨x.toArray⟩] 9)
  have f2 : Frm (fun k => (Value.slice ao L.length cap).ownBlock = some k) w1 w2 := Frm.trans ((Frm.refl _ w1).alloc _) (⟨hgrow.os, hgrow.tape, hgrow.output, hgrow.size, fun q hq hn => hgrow.block q hq (fun e => hn e.symm)⟩ : Frm (fun k => (Value.slice ao L.length cap).ownBlock = some k) _ w2) (fun _ _ h => h)
  have hb2 : w2.heap[tb]? = some (.cells #[.int .i64 most, v, .map (some mb)] 124 (0, 0)) := by rw [f2.block tb lt (fun e => n3 e)]; exact kb.out
  have e1 : w2.cell? ⟨tb, 1, none⟩ = some v := blk_cells hb2 rfl
  have z1 : w2.frozen? ⟨tb, 1, none⟩ = false := blk_fz hb2 1
  have gt : g ≠ tb := fun e => by
    rcases hat with h | h
    · exact n3 (by rw [h, e])
    · omega
  have gm : g ≠ mb := fun e => by
    rcases hat with h | h
    · exact n2 (by rw [h, e])
    · omega
  have f3 := frm_set w2 tb 1 (.slice (some ⟨g, 0, none⟩) (L.length + 1) cap')
  have hb3 := heap_set (i := 1) (.slice (some ⟨g, 0, none⟩) (L.length + 1) cap') hb2
  have e2 : (w2.setCell ⟨tb, 1, none⟩ (.slice (some ⟨g, 0, none⟩) (L.length + 1) cap')).cell? ⟨tb, 2, none⟩ = some (.map (some mb)) := blk_cells hb3 rfl
  have km3 := (kk.out.kept f2 (fun e => n2 e)).kept f3 (fun e => n1 e.symm)
  obtain ⟨w4, hput, km4, f4⟩ := km3.put (x := x) (by have : maxLen = 9223372036854775807 := rfl; omega) (by simp [idx, hm]) L.length (by have : maxLen = 9223372036854775807 := rfl; omega)
  simp only [strV] at hput
  have ko := hid hown
  have kf2 := hid f2
  have kb3 := hid hb3
  have km := hid km4
  have kf4 := hid f4
  clear hown f2 hb3 km4 f4 km3 hrow hb2 hgrow kb kk f3
  go_wp2_with fail
  go_ret
  have fA : Frm (fun k => k = tb ∨ k = mb ∨ v.ownBlock = some k) w1 w4 := Frm.trans (Frm.trans (Frm.mono kf2.out (fun _ _ h => Or.inr (Or.inr (by rw [hv]; exact h)))) (frm_set w2 tb 1 _) (fun _ _ h => Or.inl h)) kf4.out (fun _ _ h => Or.inr (Or.inl h))
  refine ⟨rfl, .slice (some ⟨g, 0, none⟩) (L.length + 1) cap', ⟨?_, ?_, ?_⟩, ?_, ?_, Nat.le_trans k1.out.size fA.size⟩
  · rw [kf4.out.block tb (by rw [(show (w2.setCell ⟨tb, 1, none⟩ (.slice (some ⟨g, 0, none⟩) (L.length + 1) cap')).heap.size = w2.heap.size from by simp [World.setCell])]; exact Nat.lt_of_lt_of_le lt kf2.out.size) n1]
    exact kb3.out
  · rw [List.length_append, strs_snoc]
    refine owns_kept (owns_kept ko.out (fun k hk => (frm_set w2 tb 1 _).block k ?_ ?_)) (fun k hk => kf4.out.block k ?_ ?_)
    · simp [Value.ownBlock] at hk; omega
    · simp [Value.ownBlock] at hk; omega
    · simp [Value.ownBlock] at hk; simp [World.setCell]; omega
    · simp [Value.ownBlock] at hk; omega
  · rw [List.length_append, idx_snoc L x hm]
    exact km.out
  · exact Frm.trans (Frm.mono k1.out (fun _ _ h => h.elim)) fA (fun _ _ h => h)
  · intro k hk
    simp [Value.ownBlock] at hk
    subst hk
    have := k1.out.size
    rcases hat with h | h
    · exact Or.inl (by rw [hv]; exact h)
    · exact Or.inr (by omega)

set_option maxRecDepth 100000 in
set_option maxHeartbeats 1000000 in
theorem add_good (hb tb mb : Nat) (v : Value) (most : Int) (L : List (List UInt8)) (x : List UInt8) (w : World) (h : Nms w hb tb mb v most L) (hL : L.length ≤ 1048576) (hr : refZ L most x = 0) :
    Calls Try.prog 41 #[.pointer (some ⟨hb, 0, none⟩), .string ⟨x.toArray⟩] w fun e w' => e = .returned (.tuple #[.int .i64 (L.length : Int), .int .i64 0]) ∧ ∃ v', Nms w' hb tb mb v' most (L ++ [x]) ∧ Frm (fun k => k = tb ∨ k = mb ∨ v.ownBlock = some k) w w' ∧ (∀ k, v'.ownBlock = some k → v.ownBlock = some k ∨ w.heap.size ≤ k) := by
  have hx : chkZ x = 0 ∧ x ∉ L := by
    unfold refZ at hr
    split at hr
    · omega
    · split at hr
      · omega
      · rename_i h1 h2
        exact ⟨by simpa using h1, h2⟩
  have hx2 : x.length ≤ 64 := by
    have := hx.1
    unfold chkZ at this
    split at this <;> omega
  have c0 := h.c0
  have kn := hid (none_some hb tb w c0)
  have kR := hid (refusal_any tb mb v most L x w h.t hL)
  rw [hr] at kR
  have kA := fun n => hid (tadd_any tb mb v most L x (w.drewN n) (h.t.old ((Old.refl w).drewN n)) hL hx2 hx.2)
  have kh := hid h
  clear h
  go_enter Try.func41, Try.ntmps41
  go_wp2_with (go_at_call 67; refine kn.out.mono ?_; rintro e w' ⟨rfl, rfl⟩)
  refine kR.out.mono ?_
  rintro e w1 ⟨rfl, n, rfl⟩
  go_wp2_with fail
  refine (kA n).out.mono ?_
  rintro e w2 ⟨rfl, v', hT, hf, hv, _⟩
  go_wp2_with fail
  go_ret2
  have hf' : Frm (fun k => k = tb ∨ k = mb ∨ v.ownBlock = some k) _ w2 := Frm.trans ((Frm.refl _ _).drewN n) hf (fun _ _ h => h)
  obtain ⟨m1, m2, m3⟩ := kh.out.ne0
  refine ⟨rfl, v', ⟨?_, hT⟩, hf', hv⟩
  rw [hf'.block hb (blk_lt kh.out.hd) (fun h => h.elim m1 (fun h => h.elim m2 m3))]
  exact kh.out.hd

set_option maxRecDepth 100000 in
set_option maxHeartbeats 1000000 in
theorem add_bad (hb tb mb : Nat) (v : Value) (most : Int) (L : List (List UInt8)) (x : List UInt8) (w : World) (h : Nms w hb tb mb v most L) (hL : L.length ≤ 1048576) (hr : refZ L most x ≠ 0) :
    Calls Try.prog 41 #[.pointer (some ⟨hb, 0, none⟩), .string ⟨x.toArray⟩] w fun e w' => e = .returned (.tuple #[.int .i64 0, .int .i64 (refZ L most x)]) ∧ Old w w' := by
  have c0 := h.c0
  have kn := hid (none_some hb tb w c0)
  have kR := hid (refusal_any tb mb v most L x w h.t hL)
  clear h
  generalize refZ L most x = r at *
  go_enter Try.func41, Try.ntmps41
  go_wp2_with (go_at_call 67; refine kn.out.mono ?_; rintro e w' ⟨rfl, rfl⟩)
  refine kR.out.mono ?_
  rintro e w1 ⟨rfl, n, rfl⟩
  go_wp2_with fail
  go_ret2
  exact ⟨rfl, (Old.refl _).drewN n⟩

set_option maxRecDepth 100000 in
theorem find_any (hb tb mb : Nat) (v : Value) (most : Int) (L : List (List UInt8)) (x : List UInt8) (w : World) (h : Nms w hb tb mb v most L) (hx : x.length ≤ maxLen) :
    Calls Try.prog 56 #[.pointer (some ⟨hb, 0, none⟩), .string ⟨x.toArray⟩] w fun e w' => e = .returned (.tuple #[numV (idx L x), .bool (idx L x).isSome]) ∧ w' = w := by
  have c0 := h.c0
  have c2 := h.t.cell2
  have kn := hid (none_some hb tb w c0)
  have hl := h.t.km.look hx
  simp only [strV, numV] at hl ⊢
  clear h
  go_enter Try.func56, Try.ntmps56
  go_wp2_with (go_at_call 67; refine kn.out.mono ?_; rintro e w' ⟨rfl, rfl⟩)
  go_ret2
  exact ⟨rfl, rfl⟩
end Go.Proofs.Ytlhlmkdgbgppiaa

/- A table that is there: Len, Name; the order of names. -/
namespace Go.Proofs.Ytlhlmkdgbgppiaa
open Go.RowKit Go.Shelf Go.Maps

set_option maxRecDepth 100000 in
theorem len_any (hb tb mb : Nat) (v : Value) (most : Int) (L : List (List UInt8)) (w : World) (h : Nms w hb tb mb v most L) :
    Calls Try.prog 61 #[.pointer (some ⟨hb, 0, none⟩)] w fun e w' => e = .returned (.int .i64 (L.length : Int)) ∧ w' = w := by
  have c0 := h.c0
  have c1 := h.t.cell1
  obtain ⟨ao, cap, rfl⟩ := h.t.form
  have kn := hid (none_some hb tb w c0)
  clear h
  go_enter Try.func61, Try.ntmps61
  go_wp2_with (go_at_call 67; refine kn.out.mono ?_; rintro e w' ⟨rfl, rfl⟩)
  go_ret
  exact ⟨rfl, rfl⟩

set_option maxRecDepth 100000 in
theorem has_any (hb tb mb : Nat) (v : Value) (most : Int) (L : List (List UInt8)) (w : World) (h : Nms w hb tb mb v most L) (n : Int) :
    Calls Try.prog 79 #[.pointer (some ⟨hb, 0, none⟩), .int .i64 n] w fun e w' => e = .returned (.bool (decide (0 ≤ n ∧ n < L.length))) ∧ w' = w := by
  have hk := hid (len_any hb tb mb v most L w h)
  clear h
  generalize L.length = m at *
  by_cases h0 : 0 ≤ n
  · by_cases h1 : n < m
    · rw [decide_eq_true ⟨h0, h1⟩]
      go_enter Try.func79, Try.ntmps79
      go_wp2_with (go_at_call 61; refine hk.out.mono ?_; rintro e w' ⟨rfl, rfl⟩)
      go_ret
      exact ⟨rfl, rfl⟩
    · rw [decide_eq_false (fun h => h1 h.2)]
      have hd : decide (n < (m : Int)) = false := decide_eq_false h1
      go_enter Try.func79, Try.ntmps79
      go_wp2_with (go_at_call 61; refine hk.out.mono ?_; rintro e w' ⟨rfl, rfl⟩)
      go_ret
      exact ⟨rfl, rfl⟩
  · rw [decide_eq_false (fun h => h0 h.1)]
    go_enter Try.func79, Try.ntmps79
    go_wp2
    go_ret
    exact ⟨rfl, rfl⟩

set_option maxRecDepth 100000 in
theorem name_good (hb tb mb : Nat) (v : Value) (most : Int) (L : List (List UInt8)) (w : World) (h : Nms w hb tb mb v most L) (k : Nat) (hk : k < L.length) (hL : L[k].length ≤ 64) :
    Calls Try.prog 58 #[.pointer (some ⟨hb, 0, none⟩), .int .i64 (k : Int)] w fun e w' => e = .returned (.tuple #[.string ⟨(L[k]).toArray⟩, .bool true]) ∧ Old w w' := by
  have kH := hid (has_any hb tb mb v most L w h k)
  rw [decide_eq_true ⟨by omega, by omega⟩] at kH
  have c0 := h.c0
  have c1 := h.t.cell1
  obtain ⟨g, cap, rfl, ci⟩ := h.t.nth hk
  have kC := hid (clone_any L[k] w (by omega))
  simp only [strV] at ci
  have hk' : (k : Int) < (L.length : Int) := by omega
  clear h
  generalize L[k] = x at *
  go_enter Try.func58, Try.ntmps58
  go_wp2_with fail
  refine kH.out.mono ?_
  rintro e w' ⟨rfl, e1⟩
  rw [e1]
  clear e1 w'
  go_wp2_with fail
  refine kC.out.mono ?_
  rintro e w2 ⟨rfl, o2⟩
  have k2 := hid o2
  clear o2
  go_wp2_with fail
  go_ret2
  exact ⟨rfl, k2.out⟩

set_option maxRecDepth 100000 in
theorem name_bad (hb tb mb : Nat) (v : Value) (most : Int) (L : List (List UInt8)) (w : World) (h : Nms w hb tb mb v most L) (n : Int) (hn : ¬ (0 ≤ n ∧ n < L.length)) :
    Calls Try.prog 58 #[.pointer (some ⟨hb, 0, none⟩), .int .i64 n] w fun e w' => e = .returned (.tuple #[.string ⟨#[]⟩, .bool false]) ∧ w' = w := by
  have kH := hid (has_any hb tb mb v most L w h n)
  rw [decide_eq_false hn] at kH
  clear h hn
  go_enter Try.func58, Try.ntmps58
  go_wp2_with fail
  refine kH.out.mono ?_
  rintro e w' ⟨rfl, e1⟩
  rw [e1]
  clear e1 w'
  go_wp2_with fail
  go_ret2
  exact ⟨rfl, rfl⟩

end Go.Proofs.Ytlhlmkdgbgppiaa

/- Accounts and postings in plain words. -/
namespace Go.Proofs.Ytlhlmkdgbgppiaa

/-- An account's least, and what it has; an entry by its account's number; an entry by its account's name. -/
abbrev Ac := Int × Int
abbrev En := Nat × Int
abbrev Es := List UInt8 × Int

def sumE : List En → Nat → Int
  | [], _ => 0
  | e :: p, k => (if e.1 = k then e.2 else 0) + sumE p k
def sumC : List Int → Int
  | [] => 0
  | c :: p => c + sumC p
def addA (A : List Ac) (e : En) : List Ac := A.set e.1 ((A.getD e.1 (0, 0)).1, (A.getD e.1 (0, 0)).2 + e.2)
def postA (A : List Ac) (p : List En) : List Ac := p.foldl addA A
def total (A : List Ac) : Int := sumC (A.map Prod.snd)

theorem sumE_append : ∀ (p q : List En) (k : Nat), sumE (p ++ q) k = sumE p k + sumE q k
  | [], q, k => by simp [sumE]
  | e :: p, q, k => by simp only [List.cons_append, sumE, sumE_append p q k]; omega
theorem sumC_append : ∀ (p q : List Int), sumC (p ++ q) = sumC p + sumC q
  | [], q => by simp [sumC]
  | e :: p, q => by simp only [List.cons_append, sumC, sumC_append p q]; omega
theorem addA_len (A : List Ac) (e : En) : (addA A e).length = A.length := by simp [addA]
theorem postA_len : ∀ (p : List En) (A : List Ac), (postA A p).length = A.length
  | [], A => rfl
  | e :: p, A => by show (postA (addA A e) p).length = _; rw [postA_len p, addA_len]
theorem postA_snoc (A : List Ac) (p : List En) (e : En) : postA A (p ++ [e]) = addA (postA A p) e := by simp [postA]
theorem getD_get {α : Type} {A : List α} {d : α} {i : Nat} (h : i < A.length) : A.getD i d = A[i] := by simp [List.getD_eq_getElem?_getD, h]
theorem addA_at (A : List Ac) (e : En) (i : Nat) (h : i < A.length) : (addA A e).getD i (0, 0) = ((A.getD i (0, 0)).1, (A.getD i (0, 0)).2 + if e.1 = i then e.2 else 0) := by
  unfold addA
  rw [getD_get (by simpa using h), List.getElem_set]
  by_cases hi : e.1 = i
  · subst hi
    simp
  · rw [if_neg hi, if_neg hi, getD_get h]
    simp
theorem postA_at : ∀ (p : List En) (A : List Ac) (i : Nat), i < A.length → (postA A p).getD i (0, 0) = ((A.getD i (0, 0)).1, (A.getD i (0, 0)).2 + sumE p i)
  | [], A, i, h => by simp [postA, sumE]
  | e :: p, A, i, h => by
    show (postA (addA A e) p).getD i (0, 0) = _
    rw [postA_at p (addA A e) i (by rw [addA_len]; exact h), addA_at A e i h]
    simp only [sumE, Prod.mk.injEq, true_and]
    omega
theorem sum_set : ∀ (A : List Ac) (i : Nat) (a : Ac), i < A.length → total (A.set i a) = total A - (A.getD i (0, 0)).2 + a.2
  | [], i, a, h => by simp at h
  | b :: A, 0, a, h => by simp [total, sumC]; omega
  | b :: A, i + 1, a, h => by
    have := sum_set A i a (by simpa using h)
    simp only [total, List.set_cons_succ, List.map_cons, sumC, List.getD_cons_succ] at this ⊢
    omega
theorem total_add (A : List Ac) (e : En) (h : e.1 < A.length) : total (addA A e) = total A + e.2 := by
  unfold addA
  rw [sum_set A _ _ h]
  simp only
  omega
theorem total_post : ∀ (p : List En) (A : List Ac), (∀ e ∈ p, e.1 < A.length) → total (postA A p) = total A + sumC (p.map Prod.snd)
  | [], A, _ => by simp [postA, sumC]
  | e :: p, A, h => by
    show total (postA (addA A e) p) = _
    rw [total_post p (addA A e) (fun x hx => by rw [addA_len]; exact h x (by simp [hx])), total_add A e (h e (by simp))]
    simp only [List.map_cons, sumC]
    omega

/-- Accounts that may stand. -/
structure OkA (A : List Ac) : Prop where
  len : A.length ≤ 65536
  each : ∀ a ∈ A, -70368744177664 ≤ a.1 ∧ a.1 ≤ 0 ∧ a.1 ≤ a.2
  sum : total A = 0
/-- A posting that may be. -/
structure OkP (n : Nat) (p : List En) : Prop where
  len : 1 ≤ p.length ∧ p.length ≤ 128
  each : ∀ e ∈ p, e.1 < n ∧ e.2 ≠ 0 ∧ -70368744177664 ≤ e.2 ∧ e.2 ≤ 70368744177664
  sum : sumC (p.map Prod.snd) = 0

theorem low_sum : ∀ (A : List Ac), (∀ a ∈ A, -70368744177664 ≤ a.2) → -(70368744177664 * (A.length : Int)) ≤ total A
  | [], _ => by simp [total, sumC]
  | b :: A, h => by
    have h1 := low_sum A (fun a ha => h a (by simp [ha]))
    have h2 := h b (by simp)
    simp only [total, List.map_cons, sumC, List.length_cons] at h1 ⊢
    omega
theorem high_of : ∀ (A : List Ac), (∀ a ∈ A, -70368744177664 ≤ a.2) → ∀ a ∈ A, a.2 ≤ total A + 70368744177664 * (A.length : Int)
  | [], _, a, ha => by cases ha
  | b :: A, h, a, ha => by
    have hl := low_sum A (fun a ha => h a (by simp [ha]))
    have h2 := h b (by simp)
    rcases List.mem_cons.1 ha with rfl | ha
    · simp only [total, List.map_cons, sumC, List.length_cons] at hl ⊢
      omega
    · have := high_of A (fun a ha => h a (by simp [ha])) a ha
      simp only [total, List.map_cons, sumC, List.length_cons] at this ⊢
      omega
theorem OkA.bnd {A : List Ac} (h : OkA A) {a : Ac} (ha : a ∈ A) : -70368744177664 ≤ a.1 ∧ a.1 ≤ 0 ∧ -70368744177664 ≤ a.2 ∧ a.2 ≤ 4611686018427387904 := by
  obtain ⟨h1, h2, h3⟩ := h.each a ha
  have := high_of A (fun a ha => by have := h.each a ha; omega) a ha
  rw [h.sum] at this
  have := h.len
  exact ⟨h1, h2, by omega, by omega⟩
theorem OkA.at {A : List Ac} (h : OkA A) (i : Nat) : -70368744177664 ≤ (A.getD i (0, 0)).1 ∧ (A.getD i (0, 0)).1 ≤ 0 ∧ -70368744177664 ≤ (A.getD i (0, 0)).2 ∧ (A.getD i (0, 0)).2 ≤ 4611686018427387904 := by
  by_cases hi : i < A.length
  · rw [getD_get hi]
    exact h.bnd (List.getElem_mem hi)
  · rw [List.getD_eq_getElem?_getD, List.getElem?_eq_none (by omega)]
    simp

theorem sumE_bnd : ∀ (p : List En) (k : Nat), (∀ e ∈ p, -70368744177664 ≤ e.2 ∧ e.2 ≤ 70368744177664) → -(70368744177664 * (p.length : Int)) ≤ sumE p k ∧ sumE p k ≤ 70368744177664 * (p.length : Int)
  | [], k, _ => by simp [sumE]
  | e :: p, k, h => by
    have h1 := sumE_bnd p k (fun a ha => h a (by simp [ha]))
    have h2 := h e (by simp)
    simp only [sumE, List.length_cons]
    split <;> omega
theorem sumC_bnd : ∀ (p : List Int), (∀ e ∈ p, -70368744177664 ≤ e ∧ e ≤ 70368744177664) → -(70368744177664 * (p.length : Int)) ≤ sumC p ∧ sumC p ≤ 70368744177664 * (p.length : Int)
  | [], _ => by simp [sumC]
  | e :: p, h => by
    have h1 := sumC_bnd p (fun a ha => h a (by simp [ha]))
    have h2 := h e (by simp)
    simp only [sumC, List.length_cons]
    omega
theorem sumE_zero : ∀ (p : List En) (k : Nat), (∀ e ∈ p, e.1 ≠ k) → sumE p k = 0
  | [], k, _ => rfl
  | e :: p, k, h => by
    simp only [sumE, if_neg (h e (by simp)), sumE_zero p k (fun a ha => h a (by simp [ha]))]
    omega

/-- Would an account have less than its least? -/
def lowE (A : List Ac) (p : List En) (e : En) : Bool := decide ((A.getD e.1 (0, 0)).2 + sumE p e.1 < (A.getD e.1 (0, 0)).1)
def lowB (A : List Ac) (p : List En) : Bool := p.any (lowE A p)

theorem OkA.post {A : List Ac} {p : List En} (h : OkA A) (hp : OkP A.length p) (hl : lowB A p = false) : OkA (postA A p) := by
  refine ⟨by rw [postA_len]; exact h.len, fun a ha => ?_, ?_⟩
  · obtain ⟨i, hi, rfl⟩ := List.mem_iff_getElem.1 ha
    rw [postA_len] at hi
    have := postA_at p A i hi
    rw [getD_get (by rw [postA_len]; exact hi)] at this
    rw [this]
    have hb := h.each A[i] (List.getElem_mem hi)
    rw [getD_get hi]
    refine ⟨hb.1, hb.2.1, ?_⟩
    simp only
    by_cases hm : ∃ e ∈ p, e.1 = i
    · obtain ⟨e, he, rfl⟩ := hm
      have := List.any_eq_false.1 hl e he
      simp only [lowE, decide_eq_true_eq, getD_get hi] at this
      omega
    · rw [sumE_zero p i (fun e he hei => hm ⟨e, he, hei⟩)]
      omega
  · rw [total_post p A (fun e he => (hp.each e he).1), h.sum, hp.sum]
    rfl
theorem OkA.opened {A : List Ac} (h : OkA A) (hl : A.length < 65536) {b : Int} (hb : -70368744177664 ≤ b ∧ b ≤ 0) : OkA (A ++ [(b, 0)]) := by
  refine ⟨by simp; omega, fun a ha => ?_, ?_⟩
  · rcases List.mem_append.1 ha with ha | ha
    · exact h.each a ha
    · rw [List.mem_singleton.1 ha]
      exact ⟨hb.1, hb.2, hb.2⟩
  · have := h.sum
    simp only [total, List.map_append, sumC_append] at this ⊢
    simp [sumC, this]
theorem OkP.more {n m : Nat} {p : List En} (h : OkP n p) (hm : n ≤ m) : OkP m p := ⟨h.len, fun e he => by have := h.each e he; exact ⟨by omega, this.2⟩, h.sum⟩

/-- What entries come to. -/
def mayB (e : Es) : Bool := decide (chkZ e.1 = 0 ∧ e.2 ≠ 0 ∧ -70368744177664 ≤ e.2 ∧ e.2 ≤ 70368744177664)
def planP (L : List (List UInt8)) (E : List Es) : List En := E.map (fun e => ((idx L e.1).getD 0, e.2))
def planZ (L : List (List UInt8)) (A : List Ac) (E : List Es) : Int :=
  if E.length < 1 ∨ 128 < E.length then 2 else if ¬ (∀ e ∈ E, mayB e = true) then 2 else if sumC (E.map Prod.snd) ≠ 0 then 2 else if ∃ e ∈ E, idx L e.1 = none then 4 else if lowB A (planP L E) = true then 7 else 0

theorem planP_coins (L : List (List UInt8)) (E : List Es) : (planP L E).map Prod.snd = E.map Prod.snd := by simp [planP]
theorem planP_ok {L : List (List UInt8)} {A : List Ac} {E : List Es} (hl : L.length = A.length) (h : planZ L A E = 0) : OkP A.length (planP L E) ∧ lowB A (planP L E) = false := by
  unfold planZ at h
  split at h
  · cases h
  · rename_i h1
    split at h
    · cases h
    · rename_i h2
      split at h
      · cases h
      · rename_i h3
        split at h
        · cases h
        · rename_i h4
          split at h
          · cases h
          · rename_i h5
            simp only [Decidable.not_not] at h2 h3
            refine ⟨⟨by simp [planP]; omega, fun e he => ?_, by rw [planP_coins]; exact h3⟩, by simpa using h5⟩
            obtain ⟨x, hx, rfl⟩ := List.mem_map.1 he
            have hm := h2 x hx
            simp only [mayB, decide_eq_true_eq] at hm
            refine ⟨?_, hm.2⟩
            simp only
            cases hi : idx L x.1 with
            | none => exact absurd ⟨x, hx, hi⟩ h4
            | some k =>
              simp only [idx] at hi
              split at hi
              · rename_i hmem
                simp only [Option.some.injEq] at hi
                rw [Option.getD_some, ← hi, ← hl]
                exact List.idxOf_lt_length_of_mem hmem
              · cases hi

/-- The accounts as a function. -/
def lkA (A : List Ac) : Int → Option Ac := fun x => if 0 ≤ x then A[x.toNat]? else none
theorem lkA_at (A : List Ac) {k : Nat} (h : k < A.length) : lkA A (k : Int) = some (A.getD k (0, 0)) := by
  simp [lkA, List.getD_eq_getElem?_getD, h]
theorem lkA_getD (A : List Ac) (k : Nat) : (lkA A (k : Int)).getD (0, 0) = A.getD k (0, 0) := by
  simp [lkA, List.getD_eq_getElem?_getD]
theorem lkA_set {A : List Ac} {k : Nat} (a : Ac) (h : k < A.length) : (fun y => if y = (k : Int) then some a else lkA A y) = lkA (A.set k a) := by
  funext y
  unfold lkA
  by_cases e : y = (k : Int)
  · subst e
    simp [h]
  · rw [if_neg e]
    by_cases h0 : 0 ≤ y
    · rw [if_pos h0, if_pos h0, List.getElem?_set_ne (by omega)]
    · rw [if_neg h0, if_neg h0]
theorem lkA_snoc {A : List Ac} (a : Ac) : (fun y => if y = (A.length : Int) then some a else lkA A y) = lkA (A ++ [a]) := by
  funext y
  unfold lkA
  by_cases e : y = (A.length : Int)
  · subst e
    simp
  · rw [if_neg e]
    by_cases h0 : 0 ≤ y
    · rw [if_pos h0, if_pos h0, List.getElem?_append]
      by_cases h1 : y.toNat < A.length
      · rw [if_pos h1]
      · rw [if_neg h1, List.getElem?_eq_none (by omega)]
        have : y.toNat - A.length ≠ 0 := by omega
        rw [List.getElem?_eq_none (by simp; omega)]
    · rw [if_neg h0, if_neg h0]
end Go.Proofs.Ytlhlmkdgbgppiaa
