/- What comes of bids: walked. -/
import Derived.Test.YtafaodlmohfenaaU4
import Derived.Test.YtafaodlmohfenaaRB
import Derived.Test.YtafaodlmohfenaaS1
namespace Go.Proofs.Ytafaodlmohfenaa
open Go.RowKit Go.Lib Go.Shelf
attribute [local go_sem] Oper.semAt_some


/-- How many units each bid has among these. -/
def cntU (P : List Un) (i : Nat) : Nat := P.countP (fun u => decide (u.b = i))
def wonL (P : List Un) (n : Nat) : List Int := (List.range n).map (fun i => (cntU P i : Int))
theorem wonL_len (P : List Un) (n : Nat) : (wonL P n).length = n := by simp [wonL]
theorem wonL_at {P : List Un} {n i : Nat} (h : i < n) : (wonL P n)[i]'(by rw [wonL_len]; exact h) = (cntU P i : Int) := by simp [wonL]
theorem wonL_nil (n : Nat) : wonL [] n = List.replicate n 0 := by
  apply List.ext_getElem
  · simp [wonL_len]
  · intro i h1 h2
    rw [wonL_at (by rw [wonL_len] at h1; exact h1)]
    simp [cntU]
theorem cntU_snoc (P : List Un) (u : Un) (i : Nat) : cntU (P ++ [u]) i = cntU P i + if u.b = i then 1 else 0 := by
  unfold cntU
  rw [List.countP_append]
  by_cases e : u.b = i <;> simp [e]
theorem wonL_snoc {P : List Un} {u : Un} {n : Nat} : (wonL P n).set u.b ((cntU P u.b : Int) + 1) = wonL (P ++ [u]) n := by
  apply List.ext_getElem
  · simp [wonL_len]
  · intro i h1 h2
    have hi : i < n := by rw [wonL_len] at h2; exact h2
    rw [wonL_at hi, cntU_snoc, List.getElem_set]
    by_cases e : u.b = i
    · subst e; simp
    · rw [if_neg e, if_neg e, wonL_at hi]; simp
theorem cntU_le (P : List Un) (i : Nat) : cntU P i ≤ P.length := List.countP_le_length
def saP (cn : Nat) (fl : Int) (O : List Un) : Int := if cn < O.length then (hg O cn).c else fl
def saN (cn : Nat) (O : List Un) : Int := if cn < O.length then ((hg O cn).b : Int) else -1

theorem inOrder_any (ao : Option Addr) (n cp : Nat) (w : World) : Calls Try.prog 31 #[.slice ao n cp] w fun e w' => e = .returned (.func (.func 39) #[] #[.pointer (some ⟨w.heap.size, 0, none⟩)]) ∧ w' = w.alloc (.cells #[.slice ao n cp] 22) := by
  go_enter Try.func31, Try.ntmps31
  go_wp2
  go_ret
  exact ⟨rfl, rfl⟩

/-- Units in order, as a function over which one ranges. -/
theorem order_stops (d : Nat) (hd : 1 ≤ d) (cb L : Nat) (ao : Option Addr) (cp : Nat) (T : Nat → Prop) (B : List (List Int)) (w : World) (hB : OkB B) (hTb : ∀ k, T k → L ≤ k ∧ k < w.heap.size) (hTc : ¬ T cb) (hL : L ≤ w.heap.size)
    (hc : w.cell? ⟨cb, 0, none⟩ = some (.slice ao B.length cp)) (hN : BidsN L w ao B) :
    SeqP Try.prog d 39 #[.pointer (some ⟨cb, 0, none⟩)] encU (KeptC T) (fun q => ∃ k, k ≤ (ordU B).length ∧ q = (ordU B).take k) (fun q => q = ordU B) (fun q => ∃ k, k ≤ (ordU B).length ∧ q = (ordU B).take k) w := by
  intro lp J Jx W hbe hJ hJx hY h0
  have hold : Old w W := Old.of_below hbe
  exact in1_good d hd lp cb L ao cp T B hB w.heap.size hTb hTc J Jx hY W hold.size (Nat.le_trans hL hold.size) (hold.cell hc) (hN.old hold) hJ h0

/-- What came of bids: a struct with its list in new memory. -/
def SaleP (w w' : World) (p x : Int) (L : List Int) (e : Ending) : Prop := ∃ wb, e = .returned (.agg #[.int .i64 p, .slice (some ⟨wb, 0, none⟩) L.length L.length, .int .i64 x]) ∧ Own .i64 3 w' wb L ∧ w.heap.size ≤ wb

/-- Where outcome stands. -/
structure OI (w : World) (s n cn : Nat) (p x : Int) (q : List Un) (Y : World) : Prop where
  cnt : Boxed Y s 3 (.int .i64 (cn : Int))
  res : Y.heap[s + 1]? = some (.cells #[.int .i64 0, .slice none 0 0, .int .i64 0] 30 (0, 0))
  won : Own .i64 3 Y (s + 2) (wonL q n)
  sale : Y.heap[s + 3]? = some (.cells #[.int .i64 p, .slice (some ⟨s + 2, 0, none⟩) n n, .int .i64 x] 30 (0, 0))
  sold : Boxed Y (s + 4) 3 (.int .i64 (q.length : Int))
  old : Old w Y
theorem blk_frm {S : Nat → Prop} {w w' : World} {b : Nat} {o : Obj} (h : w.heap[b]? = some o) (f : Frm S w w') (hS : ¬ S b) : w'.heap[b]? = some o := by rw [f.block b (blk_lt h) hS]; exact h
theorem OI.next {w : World} {s n cn : Nat} {p x : Int} {q : List Un} {Y : World} (h : OI w s n cn p x q Y) {u : Un} (hs : w.heap.size = s) : OI w s n cn p x (q ++ [u]) ((Y.setCell ⟨s + 2, u.b, none⟩ (.int .i64 ((cntU q u.b : Int) + 1))).setCell ⟨s + 4, 0, none⟩ (.int .i64 ((q.length : Int) + 1))) := by
  have f1 := frm_set Y (s + 2) u.b (.int .i64 ((cntU q u.b : Int) + 1))
  have f2 := frm_set (Y.setCell ⟨s + 2, u.b, none⟩ (.int .i64 ((cntU q u.b : Int) + 1))) (s + 4) 0 (.int .i64 ((q.length : Int) + 1))
  refine ⟨boxed_frm (boxed_frm h.cnt f1 (by omega)) f2 (by omega), blk_frm (blk_frm h.res f1 (by omega)) f2 (by omega), ?_, blk_frm (blk_frm h.sale f1 (by omega)) f2 (by omega), ?_, Frm.trans (Frm.trans h.old f1 (fun i hi e => by omega)) f2 (fun i hi e => by omega)⟩
  · have := (h.won.set u.b ((cntU q u.b : Int) + 1)).kept f2 (by omega)
    rwa [wonL_snoc] at this
  · have := Boxed.set (.int .i64 ((q.length : Int) + 1)) (boxed_frm h.sold f1 (by omega))
    rwa [List.length_append, List.length_singleton, show ((q.length + 1 : Nat) : Int) = (q.length : Int) + 1 by omega]
theorem OI.frm {S : Nat → Prop} {w : World} {s n cn : Nat} {p x : Int} {q : List Un} {X Y : World} (h : OI w s n cn p x q X) (f : Frm S X Y) (hs : w.heap.size = s) (hS : ∀ j, S j → s + 5 ≤ j) : OI w s n cn p x q Y :=
  ⟨boxed_frm h.cnt f (fun e => by have := hS _ e; omega), blk_frm h.res f (fun e => by have := hS _ e; omega), h.won.kept f (fun e => by have := hS _ e; omega), blk_frm h.sale f (fun e => by have := hS _ e; omega), boxed_frm h.sold f (fun e => by have := hS _ e; omega), Frm.trans h.old f (fun i hi e => by have := hS _ e; omega)⟩

theorem OI.brk {w : World} {s n cn : Nat} {p x : Int} {q : List Un} {Y : World} (h : OI w s n cn p x q Y) (p' x' : Int) (hs : w.heap.size = s) : OI w s n cn p' x' q ((Y.drew.setCell ⟨s + 3, 0, none⟩ (.int .i64 p')).setCell ⟨s + 3, 2, none⟩ (.int .i64 x')) := by
  have o : Old Y Y.drew := (Old.refl Y).drewN 1
  have h1 := h.frm o hs (fun _ e => e.elim)
  generalize Y.drew = Z at *
  have f1 := frm_set Z (s + 3) 0 (.int .i64 p')
  have f2 := frm_set (Z.setCell ⟨s + 3, 0, none⟩ (.int .i64 p')) (s + 3) 2 (.int .i64 x')
  have f := Frm.trans f1 f2 (fun _ _ h => h)
  refine ⟨boxed_frm h1.cnt f (by omega), blk_frm h1.res f (by omega), h1.won.kept f (by omega), ?_, boxed_frm h1.sold f (by omega), Frm.trans h1.old f (fun i hi e => by omega)⟩
  rw [heap_set _ (heap_set _ h1.sale)]
  rfl
theorem pre_next {O : List Un} {k k' : Nat} {x : Un} (hk : k ≤ O.length) (hk' : k' ≤ O.length) (h : O.take k ++ [x] = O.take k') : ∃ hlt : k < O.length, x = O[k] ∧ k' = k + 1 := by
  have hlen := congrArg List.length h
  simp at hlen
  have e : k' = k + 1 := by omega
  subst e
  have hlt : k < O.length := by omega
  rw [List.take_succ_eq_append_getElem hlt] at h
  have := List.append_cancel_left h
  exact ⟨hlt, by simpa using this, rfl⟩
theorem keeps_frm {S : Nat → Prop} {B : Nat} {X Z : World} (f : Frm S X Z) (hS : ∀ j, S j → j < B) : KeepsFrom B X Z := ⟨f.size, fun k ob hB hk _ => by rw [f.block k (Array.getElem?_eq_some_iff.1 hk).1 (fun e => by have := hS k e; omega)]; exact hk⟩

theorem made_ints (k : IntKind) (n : Nat) : madeCells (Value.int k 0).cells n = Array.replicate n (Value.int k 0) := by
  unfold madeCells
  apply Array.ext
  · simp
  · intro i h1 h2
    simp [Value.cells, Nat.mod_one]
theorem info_i : (Try.prog.info? 3).map (fun i => (i.zero, i.bytes, i.size)) = some (some (.int .i64 0), 8, 1) := by kernel_rfl
def zeroI (n : Nat) : Obj := .cells (Array.replicate n (.int .i64 0)) 3
theorem make_i (n : Nat) (hn : n ≤ 1048576) (w : World) : (Instr.makeSlice 28 (.int .i64 (n : Int)) (.int .i64 (n : Int))).run Try.prog w = .ok (.slice (some ⟨w.heap.size, 0, none⟩) n n) (w.alloc (zeroI n)) := by
  obtain ⟨i, hi, h2⟩ := Option.map_eq_some_iff.1 info_i
  simp only [Prod.mk.injEq] at h2
  obtain ⟨hz, hb, hs⟩ := h2
  have h := run_make (P := Try.prog) w 28 3 i (.int .i64 0) Try.underlying28 hi hz .i64 .i64 n n (by omega) (by omega) (by rw [hb]; omega) (by omega)
  rw [h, hs]
  simp only [Int.toNat_natCast, Nat.mul_one, made_ints]
  rfl
theorem own_made (w : World) (n : Nat) : Own .i64 3 (w.alloc (zeroI n)) w.heap.size (wonL [] n) := by
  refine ⟨?_⟩
  rw [heap_new, wonL_nil]
  unfold zeroI
  simp

def saleO (p : Int) (b n : Nat) (x : Int) : Obj := .cells #[.int .i64 p, .slice (some ⟨b, 0, none⟩) n n, .int .i64 x] 30

theorem five_size (w : World) (o1 o2 o3 o4 o5 : Obj) : (((((w.alloc o1).alloc o2).alloc o3).alloc o4).alloc o5).heap.size = w.heap.size + 5 := by simp only [alloc_size]
theorem heap_up {w : World} {o : Obj} {b : Nat} {x : Obj} (h : w.heap[b]? = some x) : (w.alloc o).heap[b]? = some x := (Below.heap_alloc _ _ _ (blk_lt h)).trans h
theorem OI.new (w : World) (cn : Nat) (fl : Int) (n : Nat) : OI w w.heap.size n cn fl (-1) [] (((((w.alloc (.cells #[.int .i64 (cn : Int)] 3)).alloc (.cells #[.int .i64 0, .slice none 0 0, .int .i64 0] 30)).alloc (zeroI n)).alloc (.cells #[.int .i64 fl, .slice (some ⟨w.heap.size + 1 + 1, 0, none⟩) n n, .int .i64 (-1)] 30)).alloc (.cells #[.int .i64 0] 3)) := by
  have e1 := alloc_size w (.cells #[.int .i64 (cn : Int)] 3)
  have k1 := heap_new w (.cells #[.int .i64 (cn : Int)] 3)
  generalize hw1 : w.alloc (.cells #[.int .i64 (cn : Int)] 3) = w1 at *
  have e2 := alloc_size w1 (.cells #[.int .i64 0, .slice none 0 0, .int .i64 0] 30)
  have k2 := heap_new w1 (.cells #[.int .i64 0, .slice none 0 0, .int .i64 0] 30)
  have o1 : Old w w1 := by rw [← hw1]; exact (Old.refl w).alloc _
  clear hw1
  have o2 := o1.alloc (.cells #[.int .i64 0, .slice none 0 0, .int .i64 0] 30)
  have k1' := heap_up (o := .cells #[.int .i64 0, .slice none 0 0, .int .i64 0] 30) k1
  generalize w1.alloc (.cells #[.int .i64 0, .slice none 0 0, .int .i64 0] 30) = w2 at *
  have e3 := alloc_size w2 (zeroI n)
  have k3 := own_made w2 n
  have o3 := o2.alloc (zeroI n)
  have k1 := heap_up (o := zeroI n) k1'
  have k2 := heap_up (o := zeroI n) k2
  generalize w2.alloc (zeroI n) = w3 at *
  have e4 := alloc_size w3 (.cells #[.int .i64 fl, .slice (some ⟨w.heap.size + 1 + 1, 0, none⟩) n n, .int .i64 (-1)] 30)
  have k4 := heap_new w3 (.cells #[.int .i64 fl, .slice (some ⟨w.heap.size + 1 + 1, 0, none⟩) n n, .int .i64 (-1)] 30)
  have o4 := o3.alloc (.cells #[.int .i64 fl, .slice (some ⟨w.heap.size + 1 + 1, 0, none⟩) n n, .int .i64 (-1)] 30)
  have k1 := heap_up (o := .cells #[.int .i64 fl, .slice (some ⟨w.heap.size + 1 + 1, 0, none⟩) n n, .int .i64 (-1)] 30) k1
  have k2 := heap_up (o := .cells #[.int .i64 fl, .slice (some ⟨w.heap.size + 1 + 1, 0, none⟩) n n, .int .i64 (-1)] 30) k2
  have k3 := k3.kept ((Old.refl w3).alloc (.cells #[.int .i64 fl, .slice (some ⟨w.heap.size + 1 + 1, 0, none⟩) n n, .int .i64 (-1)] 30)) (fun h => h)
  generalize w3.alloc (.cells #[.int .i64 fl, .slice (some ⟨w.heap.size + 1 + 1, 0, none⟩) n n, .int .i64 (-1)] 30) = w4 at *
  have k5 := Boxed.new w4 3 (.int .i64 0)
  rw [e1] at k2 e2
  rw [e2] at k3 e3
  rw [e3] at k4 e4
  rw [e4] at k5
  exact ⟨heap_up k1, heap_up k2, k3.kept ((Old.refl w4).alloc _) (fun h => h), heap_up k4, k5, o4.alloc _⟩

set_option maxRecDepth 100000 in
set_option maxHeartbeats 16000000 in
theorem outcome_any (cn : Nat) (fl : Int) (ao : Option Addr) (cp : Nat) (B : List (List Int)) (w : World) (hB : OkB B) (hC : BidsC w ao B) (hcn : 1 ≤ cn ∧ cn ≤ 64) :
    Calls Try.prog 28 #[.int .i64 (cn : Int), .int .i64 fl, .slice ao B.length cp] w fun e w' => SaleP w w' (saP cn fl (ordU B)) (saN cn (ordU B)) (wonL ((ordU B).take cn) B.length) e ∧ Old w w' := by
  have hfew := hB.few
  have hM := fun w => make_i B.length (by omega) w
  have kI := hid (fun w => inOrder_any ao B.length cp w)
  have kB := hid hB
  have kN := hid hC.low
  clear hB hC
  refine (callsIn_wide (n := 5)).1 ?_
  refine callsIn_of_wp_marks Try.func28 rfl trivial ?_ rfl
  simp only [Try.ntmps28, List.size_toArray, List.length_cons, List.length_nil, Nat.reduceAdd, Nat.reduceSub, Array.replicate_succ, Array.replicate_zero, List.push_toArray, List.append_toArray, List.nil_append, List.cons_append]
  gi_wp2_with fail
  refine ⟨trivial, ?_⟩
  refine (callsIn_wide.2 (kI.out _)).mono ?_
  rintro e W5 ⟨rfl, hW5⟩
  have hO := hid (OI.new w cn fl B.length)
  have hsz := hid (five_size w (.cells #[.int .i64 (cn : Int)] 3) (.cells #[.int .i64 0, .slice none 0 0, .int .i64 0] 30) (zeroI B.length) (.cells #[.int .i64 fl, .slice (some ⟨w.heap.size + 1 + 1, 0, none⟩) B.length B.length, .int .i64 (-1)] 30) (.cells #[.int .i64 0] 3))
  generalize ((((w.alloc (.cells #[.int .i64 (cn : Int)] 3)).alloc (.cells #[.int .i64 0, .slice none 0 0, .int .i64 0] 30)).alloc (zeroI B.length)).alloc (.cells #[.int .i64 fl, .slice (some ⟨w.heap.size + 1 + 1, 0, none⟩) B.length B.length, .int .i64 (-1)] 30)).alloc (.cells #[.int .i64 0] 3) = W4 at *
  rw [hsz.out]
  have hc5 : Hid (W5.cell? ⟨w.heap.size + 5, 0, none⟩ = some (.slice ao B.length cp)) := by
    show _ = _
    rw [hW5, ← hsz.out]
    exact new_cell _ _ _ 0 _ rfl
  have hO5 : Hid (OI w w.heap.size B.length cn fl (-1) [] W5) := by
    show OI _ _ _ _ _ _ _ _
    rw [hW5]
    exact hO.out.frm ((Old.refl W4).alloc _) rfl (fun _ e => e.elim)
  have hz5 : Hid (W5.heap.size = w.heap.size + 6) := by
    show _ = _
    rw [hW5, alloc_size, hsz.out]
  have kN5 := hid (kN.out.old hO5.out.old)
  clear hW5 hO hsz hM kI kN
  obtain ⟨s, hs⟩ : ∃ s, w.heap.size = s := ⟨_, rfl⟩
  have ks := hid hs
  rw [hs] at hc5 hO5 hz5 kN5
  simp only [hs, Nat.add_assoc, Nat.reduceAdd]
  clear hs
  have h5z := hz5.out
  gi_wp2_with fail
  refine wpIn_wide.2 ?_
  refine range_joinB (n := 5) (by omega) (gf := 39) (lb := #[.pointer (some ⟨s + 5, 0, none⟩)]) rfl (enters_of Try.func39 (by kernel_rfl) rfl)
    (order_stops 4 (by omega) (s + 5) s ao cp (fun k => k = s + 2 ∨ k = s + 3 ∨ k = s + 4) B W5 kB.out (fun k e => by omega) (by omega) (by omega) hc5.out kN5.out)
    (fun h k => h.trans k) (fun W o => KeptC.alloc W o) (fun W l o o' _ h1 h2 => KeptC.put W l o o' h1 h2) (fun _ => rfl) 0
    (fun p Y => ∃ k, p = (ordU B).take k ∧ k ≤ (ordU B).length ∧ k ≤ cn ∧ OI w s B.length cn fl (-1) ((ordU B).take k) Y)
    (fun p Y => cn < (ordU B).length ∧ OI w s B.length cn (hg (ordU B) cn).c ((hg (ordU B) cn).b : Int) ((ordU B).take cn) Y)
    (fun _ Y => OI w s B.length cn (saP cn fl (ordU B)) (saN cn (ordU B)) ((ordU B).take cn) Y)
    (fun p X Y ⟨k, h1, h2, h3, h4⟩ hf => ⟨k, h1, h2, h3, h4.frm hf ks.out (fun j e => by omega)⟩)
    (fun p X Y ⟨h1, h2⟩ hf => ⟨h1, h2.frm hf ks.out (fun j e => by omega)⟩)
    ⟨0, by rw [List.take_zero], Nat.zero_le _, Nat.zero_le _, by rw [List.take_zero]; exact hO5.out⟩
    (fun x => .cells #[.int .i64 (x.b : Int), .int .i64 (x.p : Int), .int .i64 x.c] 55)
    (fun x m t => (t.setIfInBounds 17 (.agg #[.int .i64 (x.b : Int), .int .i64 (x.p : Int), .int .i64 x.c])).setIfInBounds 9 (.pointer (some ⟨m, 0, none⟩))) ?assign ?body
    (fun q Y hq ⟨k, h1, h2, h3, h4⟩ => by
      have hk : k = (ordU B).length := by
        have := congrArg List.length (hq.symm.trans h1)
        rw [List.length_take] at this
        omega
      subst hk
      have e1 : saP cn fl (ordU B) = fl := by unfold saP; rw [if_neg (by omega)]
      have e2 : saN cn (ordU B) = -1 := by unfold saN; rw [if_neg (by omega)]
      have e3 : (ordU B).take cn = (ordU B).take (ordU B).length := by rw [List.take_of_length_le h3, List.take_length]
      rw [e1, e2, e3]
      exact h4)
    (fun q Y hq ⟨h1, h2⟩ => by
      have e1 : saP cn fl (ordU B) = (hg (ordU B) cn).c := by unfold saP; rw [if_pos h1]
      have e2 : saN cn (ordU B) = ((hg (ordU B) cn).b : Int) := by unfold saN; rw [if_pos h1]
      rw [e1, e2]
      exact h2) ?hQ ?fin
  case assign =>
    intro l' x W K hK
    simp only [encU]
    simp only [List.setIfInBounds_toArray, List.set_cons_zero, List.set_cons_succ] at hK
    gi_wp2
    exact hK
  case hQ =>
    intro b W h
    exact inBlock_both (Or.inr rfl) h
  case body =>
    rintro l' p x m Y ⟨k, rfl, hkl, hkc, hI⟩ ⟨k', hk', hpk⟩ hOb hm
    obtain ⟨hlt, rfl, rfl⟩ := pre_next hkl hk' hpk
    have hmem := mem_ord.1 (List.getElem_mem hlt)
    have hes : Hid ((ordU B).take k ++ [(ordU B)[k]] = (ordU B).take (k + 1)) := by
      show _ = _
      rw [List.take_succ_eq_append_getElem hlt]
    have hgk := hid (hg_eq hlt)
    have hlen : ((ordU B).take k).length = k := by rw [List.length_take]; omega
    have hcl := cntU_le ((ordU B).take k) (ordU B)[k].b
    rw [hlen] at hcl
    obtain ⟨⟨ub, up, uc⟩, hx⟩ : ∃ x, (ordU B)[k] = x := ⟨_, rfl⟩
    rw [hx] at hes hOb hgk hmem hcl ⊢
    dsimp only at hOb hmem hcl ⊢
    have c0 := blk_cells (i := 0) (v := .int .i64 (ub : Int)) hOb rfl
    have c2 := blk_cells (i := 2) (v := .int .i64 uc) hOb rfl
    have kc0 := hI.cnt.cell
    have sd0 := hI.sold.cell
    have sdf := hI.sold.frozen
    rw [hlen] at sd0
    have sl0 := blk_cells (i := 0) (v := .int .i64 fl) hI.sale rfl
    have sl1 := blk_cells (i := 1) (v := .slice (some ⟨s + 2, 0, none⟩) B.length B.length) hI.sale rfl
    have sl2 := blk_cells (i := 2) (v := .int .i64 (-1)) hI.sale rfl
    have slf := fun i => blk_fz hI.sale i
    obtain ⟨wn0, wnf⟩ := hI.won.cell (i := ub) (by rw [wonL_len]; exact hmem.1)
    rw [wonL_at hmem.1] at wn0
    have hub' : (ub : Int) < (B.length : Int) := by omega
    have kI := hid hI
    have khl := hid hlen
    have kO := hid hOb
    simp only [List.setIfInBounds_toArray, List.set_cons_zero, List.set_cons_succ]
    clear hI hOb hpk hk' hx hlen hmem
    by_cases hkc2 : k = cn
    · subst hkc2
      have hbr := hid (kI.out.brk uc (ub : Int) ks.out)
      have hns : m ≠ s + 3 := by omega
      clear wn0 wnf sd0 sdf kc0 sl1
      have oY : Old Y Y.drew := (Old.refl Y).drewN 1
      have kc0 : Y.cell? ⟨s, 0, none⟩ = some (.int .i64 (k : Int)) := kI.out.cnt.cell
      have sd0 : Y.cell? ⟨s + 4, 0, none⟩ = some (.int .i64 (k : Int)) := by have := kI.out.sold.cell; rwa [khl.out] at this
      gi_wp2_with fail
      refine region_round (S := fun W => W.cell? ⟨m, 0, none⟩ = some (.int .i64 (ub : Int)) ∧ W.cell? ⟨m, 2, none⟩ = some (.int .i64 uc)) (by kernel_rfl) (by kernel_rfl) ⟨oY.cell c0, oY.cell c2⟩ (fun hHeld => ?_)
      have q0 := oY.cell sl0
      have q2 := oY.cell sl2
      have qf := fun i => frm_frozen oY (cell_lt sl0) (slf i) (fun h => h)
      have qc0 := oY.cell c0
      have qc2 := oY.cell c2
      have hfr := hid (show Frm (fun j => j = s + 3) Y ((Y.drew.setCell ⟨s + 3, 0, none⟩ (.int .i64 uc)).setCell ⟨s + 3, 2, none⟩ (.int .i64 (ub : Int))) from Frm.trans (Frm.trans (oY.mono (fun _ _ h => h.elim)) (frm_set Y.drew (s + 3) 0 _) (fun _ _ h => h)) (frm_set _ (s + 3) 2 _) (fun _ _ h => h))
      clear c0 c2 sl0 sl2 slf oY
      generalize Y.drew = Y1 at *
      refine' wpAnyH_take (i := 0) rfl (by kernel_rfl) (by kernel_rfl) (by kernel_rfl) (fun _ _ _ h => h) (Or.inl ⟨by rfl, ?_⟩) hHeld ?_
      rotate_left
      · intro W hSw
        obtain ⟨r1, r2⟩ := hSw
        simp only [List.getElem_toArray, List.getElem_cons_zero]
        go_simp
        all_goals with_reducible rfl
      simp only [List.getElem_toArray, List.getElem_cons_zero, Act.put, List.setIfInBounds_toArray, List.set_cons_zero, List.set_cons_succ]
      refine' wpAnyH_take (i := 1) rfl (by kernel_rfl) (by kernel_rfl) (by kernel_rfl) (fun _ _ _ h => h) (Or.inl ⟨by rfl, ?_⟩) hHeld ?_
      rotate_left
      · intro W hSw
        obtain ⟨r1, r2⟩ := hSw
        simp only [List.getElem_toArray, List.getElem_cons_zero, List.getElem_cons_succ]
        go_simp
        all_goals with_reducible rfl
      simp only [List.getElem_toArray, List.getElem_cons_zero, List.getElem_cons_succ, Act.put, List.setIfInBounds_toArray, List.set_cons_zero, List.set_cons_succ]
      refine' wpAnyH_take (i := 2) rfl (by kernel_rfl) (by kernel_rfl) (by kernel_rfl) (fun _ _ _ h => h) (Or.inl ⟨by rfl, ?_⟩) hHeld ?_
      rotate_left
      · intro W hSw
        obtain ⟨r1, r2⟩ := hSw
        simp only [List.getElem_toArray, List.getElem_cons_zero, List.getElem_cons_succ]
        go_simp
        all_goals with_reducible rfl
      simp only [List.getElem_toArray, List.getElem_cons_zero, List.getElem_cons_succ, Act.put, List.setIfInBounds_toArray, List.set_cons_zero, List.set_cons_succ]
      refine' wpAnyH_take (i := 3) rfl (by kernel_rfl) (by kernel_rfl) (by kernel_rfl) (fun _ _ _ h => h) (Or.inl ⟨by rfl, ?_⟩) hHeld ?_
      rotate_left
      · intro W hSw
        obtain ⟨r1, r2⟩ := hSw
        simp only [List.getElem_toArray, List.getElem_cons_zero, List.getElem_cons_succ]
        go_simp
        all_goals with_reducible rfl
      simp only [List.getElem_toArray, List.getElem_cons_zero, List.getElem_cons_succ, Act.put, List.setIfInBounds_toArray, List.set_cons_zero, List.set_cons_succ]
      refine' wpAnyH_take (i := 4) rfl (by kernel_rfl) (by kernel_rfl) (by kernel_rfl) (fun _ _ _ h => h) (Or.inl ⟨by rfl, ?_⟩) hHeld ?_
      rotate_left
      · intro W hSw
        obtain ⟨r1, r2⟩ := hSw
        simp only [List.getElem_toArray, List.getElem_cons_zero, List.getElem_cons_succ]
        go_simp
        all_goals with_reducible rfl
      simp only [List.getElem_toArray, List.getElem_cons_zero, List.getElem_cons_succ, Act.put, List.setIfInBounds_toArray, List.set_cons_zero, List.set_cons_succ]
      refine wpAnyH_ready (rs := [5]) (by kernel_rfl) (by simp) ?_
      refine AllReadyH.cons (o := _) rfl (fun K hK => ?_) AllReadyH.nil
      simp only [List.getElem_toArray, List.getElem_cons_zero, List.getElem_cons_succ]
      go_simp
      have n1 := hid (frm_cell (frm_set Y1 (s + 3) 0 (.int .i64 uc)) qc0 hns)
      have n2 := hid (frm_cell (frm_set Y1 (s + 3) 0 (.int .i64 uc)) qc2 hns)
      refine hK.out _ _ (⟨n1.out, n2.out⟩) (fun hHeld2 => ?_)
      clear hHeld hK
      have hHeld := hHeld2
      clear hHeld2
      try simp only [Act.put, List.setIfInBounds_toArray, List.set_cons_zero, List.set_cons_succ]
      refine' wpAnyH_take (i := 6) rfl (by kernel_rfl) (by kernel_rfl) (by kernel_rfl) (fun _ _ _ h => h) (Or.inl ⟨by rfl, ?_⟩) hHeld ?_
      rotate_left
      · intro W hSw
        obtain ⟨r1, r2⟩ := hSw
        simp only [List.getElem_toArray, List.getElem_cons_zero, List.getElem_cons_succ]
        go_simp
        all_goals with_reducible rfl
      simp only [List.getElem_toArray, List.getElem_cons_zero, List.getElem_cons_succ, Act.put, List.setIfInBounds_toArray, List.set_cons_zero, List.set_cons_succ]
      refine wpAnyH_ready (rs := [7]) (by kernel_rfl) (by simp) ?_
      refine AllReadyH.cons (o := _) rfl (fun K hK => ?_) AllReadyH.nil
      simp only [List.getElem_toArray, List.getElem_cons_zero, List.getElem_cons_succ]
      go_simp
      have n3 := hid (frm_cell (frm_set (Y1.setCell ⟨s + 3, 0, none⟩ (.int .i64 uc)) (s + 3) 2 (.int .i64 (ub : Int))) n1.out hns)
      have n4 := hid (frm_cell (frm_set (Y1.setCell ⟨s + 3, 0, none⟩ (.int .i64 uc)) (s + 3) 2 (.int .i64 (ub : Int))) n2.out hns)
      refine hK.out _ _ (⟨n3.out, n4.out⟩) (fun hHeld2 => ?_)
      clear hHeld hK
      have hHeld := hHeld2
      clear hHeld2
      try simp only [Act.put, List.setIfInBounds_toArray, List.set_cons_zero, List.set_cons_succ]
      refine wpAnyH_done (by kernel_rfl) ?_ _
      refine OnlyN.normal ?_
      clear hHeld
      gi_wp2
      refine ⟨keeps_frm hfr.out (fun j h => by omega), rfl, hlt, ?_⟩
      rw [hgk.out]
      exact hbr.out
    · have hne : ((k : Int) == (cn : Int)) = false := by rw [beq_eq_false_iff_ne]; omega
      obtain ⟨z, hz⟩ : ∃ z : Nat, cntU ((ordU B).take k) ub = z := ⟨_, rfl⟩
      rw [hz] at wn0 hcl
      have hst := hid (kI.out.next (u := ⟨ub, up, uc⟩) ks.out)
      rw [khl.out, hes.out, hz] at hst
      dsimp only at hst
      clear hz
      have hfr := hid (show Frm (fun j => j = s + 2 ∨ j = s + 3 ∨ j = s + 4) Y ((Y.setCell ⟨s + 2, ub, none⟩ (.int .i64 ((z : Int) + 1))).setCell ⟨s + 4, 0, none⟩ (.int .i64 ((k : Int) + 1))) from Frm.trans ((frm_set Y (s + 2) ub _).mono (fun _ _ h => Or.inl h)) (frm_set _ (s + 4) 0 _) (fun _ _ h => Or.inr (Or.inr h)))
      gi_wp2
      exact ⟨keeps_frm hfr.out (fun j h => by omega), KeptC.of_frm hfr.out, k + 1, hes.out, by omega, by omega, hst.out⟩
  case fin =>
    rintro D q Y hD hI hK
    refine inBlock_both (Or.inl rfl) ?_
    dsimp only
    have sl0 := blk_cells (i := 0) (v := .int .i64 (saP cn fl (ordU B))) hI.sale rfl
    have sl1 := blk_cells (i := 1) (v := .slice (some ⟨s + 2, 0, none⟩) B.length B.length) hI.sale rfl
    have sl2 := blk_cells (i := 2) (v := .int .i64 (saN cn (ordU B))) hI.sale rfl
    have rs0 := blk_cells (i := 0) (v := .int .i64 0) hI.res rfl
    have rs1 := blk_cells (i := 1) (v := .slice none 0 0) hI.res rfl
    have rs2 := blk_cells (i := 2) (v := .int .i64 0) hI.res rfl
    have rsf := fun i => blk_fz hI.res i
    have kI := hid hI
    have kK := hid hK
    have hDl := hid (blk_lt hK)
    obtain ⟨pp, hpp⟩ : ∃ pp, saP cn fl (ordU B) = pp := ⟨_, rfl⟩
    obtain ⟨nn, hnn⟩ : ∃ nn, saN cn (ordU B) = nn := ⟨_, rfl⟩
    rw [hpp] at kI sl0
    rw [hnn] at kI sl2
    have kpp := hid hpp
    have knn := hid hnn
    clear hI hK hpp hnn
    gi_wp2
    have f1 := frm_set Y (s + 1) 0 (.int .i64 pp)
    have f2 := frm_set (Y.setCell ⟨s + 1, 0, none⟩ (.int .i64 pp)) (s + 1) 1 (.slice (some ⟨s + 2, 0, none⟩) B.length B.length)
    have f3 := frm_set ((Y.setCell ⟨s + 1, 0, none⟩ (.int .i64 pp)).setCell ⟨s + 1, 1, none⟩ (.slice (some ⟨s + 2, 0, none⟩) B.length B.length)) (s + 1) 2 (.int .i64 nn)
    have f := Frm.trans (Frm.trans f1 f2 (fun _ _ h => h)) f3 (fun _ _ h => h)
    have g0 := set_oth (i := 2) (u := .int .i64 nn) (set_oth (i := 1) (u := .slice (some ⟨s + 2, 0, none⟩) B.length B.length) (set_same (u := .int .i64 pp) rs0) (by omega)) (by omega)
    have g1 := set_oth (i := 2) (u := .int .i64 nn) (set_same (u := .slice (some ⟨s + 2, 0, none⟩) B.length B.length) (set_oth (i := 0) (u := .int .i64 pp) rs1 (by omega))) (by omega)
    have g2 := set_same (u := .int .i64 nn) (set_oth (i := 1) (u := .slice (some ⟨s + 2, 0, none⟩) B.length B.length) (set_oth (i := 0) (u := .int .i64 pp) rs2 (by omega)) (by omega))
    generalize ((Y.setCell ⟨s + 1, 0, none⟩ (.int .i64 pp)).setCell ⟨s + 1, 1, none⟩ (.slice (some ⟨s + 2, 0, none⟩) B.length B.length)).setCell ⟨s + 1, 2, none⟩ (.int .i64 nn) = Z at *
    refine leave_marks [D] _ ⟨by simp, fun r hr => ?_⟩ (fun W' hW' => ?_)
    · obtain rfl : r = D := by simpa using hr
      rw [f.block r hDl.out (by omega)]
      exact kK.out
    · have hge : ∀ r ∈ [D], s + 6 ≤ r := fun r hr => by
        obtain rfl : r = D := by simpa using hr
        omega
      have e0 := frm_cell hW' g0 (fun h => by have := hge _ h; simp at this)
      have e1 := frm_cell hW' g1 (fun h => by have := hge _ h; simp at this)
      have e2 := frm_cell hW' g2 (fun h => by have := hge _ h; simp at this)
      refine ⟨.agg #[.int .i64 pp, .slice (some ⟨s + 2, 0, none⟩) B.length B.length, .int .i64 nn], ?_, ⟨s + 2, ?_, ?_, ?_⟩, ?_⟩
      · simp [results, Try.f28, go_sem, e0, e1, e2]
      · rw [wonL_len, kpp.out, knn.out]
      · exact (kI.out.won.kept f (by omega)).kept hW' (fun h => by have := hge _ h; omega)
      · have := ks.out; omega
      · exact Frm.trans (Frm.trans kI.out.old f (fun i hi e => by have := ks.out; omega)) hW' (fun i hi e => by have := ks.out; have := hge _ e; omega)
end Go.Proofs.Ytafaodlmohfenaa
