/- Steps, and what works: walked. -/
import Derived.Test.YtfiogkmgenodgaaDoorKV
import Derived.Test.YtfiogkmgenodgaaDoorJ4
namespace Go.Proofs.YtfiogkmgenodgaaDoor
open Go.RowKit Go.Lib Go.Shelf

/-- goods.Copy, of an instance that may have no lists. -/
theorem copy_any (gd : Int) (bo : Option Addr) (cap : Nat) (B : Ins) (w : World) (hn : bo = none → cap = 0) (h : InsV w bo B) (hl : B.length ≤ 1048576) (hll : ∀ i, i < B.length → (B.getD i []).length ≤ 1048576) :
    Calls Tryd.prog 48 #[.agg #[.int .i64 gd, .slice bo B.length cap]] w fun e w' => ∃ v, e = .returned (.agg #[.int .i64 gd, v]) ∧ NewI w.heap.size w' v B ∧ Old w w' := by
  cases bo with
  | none =>
    obtain ⟨V, hV, hR, -⟩ := h
    have h0 : B = [] := by
      have := hR.nil
      rw [this] at hV
      exact List.eq_nil_of_length_eq_zero hV.symm
    subst h0
    obtain rfl := hn rfl
    refine (copy_nil gd w).mono ?_
    rintro e w' ⟨rfl, o⟩
    exact ⟨_, rfl, Or.inl ⟨rfl, rfl⟩, o⟩
  | some ad =>
    refine (copy_some gd ad cap B w h hl hll).mono ?_
    rintro e w' ⟨v, rfl, hv, o, -⟩
    exact ⟨v, rfl, hv, o⟩

/-- What Steps answers. -/
def StpP (gd : Int) (B : Ins) (w : World) (e : Ending) (w' : World) : Prop := Old w w' ∧ ((insZ gd B = 0 ∧ ∃ s v, e = .returned (.tuple #[.func (.func 49) #[] #[.pointer (some ⟨s, 0, none⟩)], .int .i64 0]) ∧ w.heap.size = s ∧ w'.heap[s]? = some (.cells #[.int .i64 gd, v] 38 (0, 0)) ∧ NewI (s + 1) w' v B) ∨ (insZ gd B ≠ 0 ∧ e = .returned (.tuple #[.nilFunc, .int .i64 (insZ gd B)])))

theorem NewI.frm {lo : Nat} {S : Nat → Prop} {w w' : World} {v : Value} {B : Ins} (h : NewI lo w v B) (hf : Frm S w w') (hS : ∀ k, S k → k < lo) : NewI lo w' v B := by
  rcases h with h | ⟨g, V, h1, h2, h3, h4, h5, h6⟩
  · exact Or.inl h
  · refine Or.inr ⟨g, V, h1, h2, ?_, h4, fun i hi => (h5 i hi).frm hf (fun k hk => by have := hS k hk; omega), h6⟩
    rw [hf.block g (blk_lt h3) (fun e => by have := hS g e; omega)]
    exact h3
theorem NewI.low {lo lo' : Nat} {w : World} {v : Value} {B : Ins} (h : NewI lo w v B) (hl : lo' ≤ lo) : NewI lo' w v B := by
  rcases h with h | ⟨g, V, h1, h2, h3⟩
  · exact Or.inl h
  · exact Or.inr ⟨g, V, h1, by omega, h3⟩
theorem NewI.form {lo : Nat} {w : World} {v : Value} {B : Ins} (h : NewI lo w v B) : ∃ a n c, v = .slice a n c := by
  rcases h with ⟨rfl, _⟩ | ⟨g, V, rfl, _⟩
  · exact ⟨_, _, _, rfl⟩
  · exact ⟨_, _, _, rfl⟩

theorem ins_small {gd : Int} {B : Ins} (h : insZ gd B = 0) : B.length ≤ 32 ∧ ∀ i, i < B.length → (B.getD i []).length ≤ 8 := by
  unfold insZ at h
  split at h
  · cases h
  · split at h
    · cases h
    · rename_i h1
      have h2 : B.length ≤ 32 := Nat.le_of_not_lt (fun e => h1 (Or.inl e))
      refine ⟨h2, fun i hi => ?_⟩
      have h3 : ¬ lgB B = true := fun e => h1 (Or.inr e)
      apply Nat.le_of_not_lt
      intro h4
      apply h3
      unfold lgB
      rw [List.any_eq_true]
      refine ⟨B.getD i [], ?_, decide_eq_true h4⟩
      rw [List.getD_eq_getElem?_getD, List.getElem?_eq_getElem hi]
      exact List.getElem_mem hi

set_option maxRecDepth 100000 in
set_option maxHeartbeats 4000000 in
theorem steps_any (gd : Int) (bo : Option Addr) (cap : Nat) (B : Ins) (w : World) (hn : bo = none → cap = 0) (h : InsC w bo B) (hV : InsV w bo B) (hl : B.length ≤ 9223372036854775807) :
    Calls Tryd.prog 25 #[.agg #[.int .i64 gd, .slice bo B.length cap]] w (StpP gd B w) := by
  have o1 : Old w (w.alloc (.cells #[.int .i64 gd, .slice bo B.length cap] 38)) := (Old.refl w).alloc _
  have b1 := heap_new w (.cells #[.int .i64 gd, .slice bo B.length cap] 38)
  have kI := hid (instance_any gd bo cap B _ (h.old o1) hl)
  have kV := hid hV
  have ko := hid o1
  clear o1 h hV
  obtain ⟨s, hs⟩ : ∃ s, w.heap.size = s := ⟨_, rfl⟩
  have kss := hid hs
  have c0 := blk_cells (i := 0) b1 rfl
  have c1 := blk_cells (i := 1) b1 rfl
  go_enter Tryd.func25, Tryd.ntmps25
  go_wp2_with fail
  generalize w.alloc (.cells #[.int .i64 gd, .slice bo B.length cap] 38) = w1 at *
  rw [hs] at b1 c0 c1
  have kb1 := hid b1
  clear hs b1
  refine kI.out.mono ?_
  rintro e w2 ⟨rfl, o2⟩
  have ko2 := hid (ko.out.trans o2)
  have kb2 := hid ((o2.block s (blk_lt kb1.out) (fun h => h)).trans kb1.out)
  have c0 := o2.cell c0
  have c1 := o2.cell c1
  clear o2 kI
  by_cases hz : insZ gd B = 0
  · obtain ⟨hB, hBl⟩ := ins_small hz
    have kz := hid hz
    rw [hz]
    clear hz
    have kC := hid (copy_any gd bo cap B w2 hn (by
      obtain ⟨V, h1, h2, h3⟩ := kV.out
      exact ⟨V, h1, h2.old ko2.out, fun i hi => (h3 i hi).old ko2.out⟩) (by omega) (fun i hi => by have := hBl i hi; omega))
    clear hB hBl
    go_wp2_with fail
    refine kC.out.mono ?_
    rintro e w3 ⟨v, rfl, hv, o3⟩
    have ko3 := hid (ko2.out.trans o3)
    have kb3 := hid ((o3.block s (blk_lt kb2.out) (fun h => h)).trans kb2.out)
    have hlo := hid (blk_lt kb2.out)
    have kv := hid hv
    obtain ⟨va, vn, vc, rfl⟩ := hv.form
    have c0 := o3.cell c0
    have c1 := o3.cell c1
    have q0 := blk_fz kb3.out 0
    have q1 := blk_fz kb3.out 1
    have g1 := set_oth (i := 0) (j := 1) (u := .int .i64 gd) c1 (by decide)
    have z1 : (w3.setCell ⟨s, 0, none⟩ (.int .i64 gd)).frozen? ⟨s, 1, none⟩ = false := by simp [q1]
    have kb4 := hid (heap_set (i := 1) (.slice va vn vc) (heap_set (i := 0) (.int .i64 gd) kb3.out))
    have kf4 : Hid (Frm (fun k => k = s) w3 ((w3.setCell ⟨s, 0, none⟩ (.int .i64 gd)).setCell ⟨s, 1, none⟩ (.slice va vn vc))) := Frm.trans (frm_set _ _ _ _) (frm_set _ _ _ _) (fun _ _ e => e)
    clear o3 kC hv
    go_wp2_with fail
    go_ret2
    refine ⟨Frm.trans ko3.out kf4.out (fun i hi e => by have := kss.out; omega), Or.inl ⟨kz.out, s, .slice va vn vc, rfl, kss.out, kb4.out, ?_⟩⟩
    exact (kv.out.low (by have := hlo.out; omega)).frm kf4.out (fun k e => by omega)
  · have hzb : (insZ gd B != 0) = true := by simpa using hz
    have kz := hid hz
    clear hz
    go_wp2_with fail
    go_ret2
    exact ⟨ko2.out, Or.inr ⟨kz.out, rfl⟩⟩

theorem off_blk {w : World} {b : Nat} {t : TypeId} {L : List Off} (h : w.heap[b]? = some (.cells (flatO L).toArray t (0, 0))) : OffC w (some ⟨b, 0, none⟩) L := (own_blk h).off

set_option maxRecDepth 100000 in
set_option maxHeartbeats 4000000 in
theorem two_any (w : World) : Calls Tryd.prog 34 #[] w fun e w' => ∃ b, e = .returned (.agg #[.int .i64 2, .slice (some ⟨b, 0, none⟩) 2 2]) ∧ InsC w' (some ⟨b, 0, none⟩) T2 ∧ InsV w' (some ⟨b, 0, none⟩) T2 ∧ Old w w' := by
  go_enter Tryd.func34, Tryd.ntmps34
  go_wp2_with fail
  obtain ⟨s, hs⟩ : ∃ s, w.heap.size = s := ⟨_, rfl⟩
  rw [hs]
  have o1 : Old w (w.alloc (.cells #[.int .i64 2, .slice (some ⟨s + 1 + 1 + 1, 0, none⟩) 2 2] 38)) := (Old.refl w).alloc _
  have h1 := heap_new w (.cells #[.int .i64 2, .slice (some ⟨s + 1 + 1 + 1, 0, none⟩) 2 2] 38)
  have z1 := alloc_size w (.cells #[.int .i64 2, .slice (some ⟨s + 1 + 1 + 1, 0, none⟩) 2 2] 38)
  generalize w.alloc (.cells #[.int .i64 2, .slice (some ⟨s + 1 + 1 + 1, 0, none⟩) 2 2] 38) = w1 at *
  have o2 : Old w1 (w1.alloc (.cells #[.int .u32 1, .int .i64 6, .int .u32 3, .int .i64 9] 29)) := (Old.refl w1).alloc _
  have h2 := heap_new w1 (.cells #[.int .u32 1, .int .i64 6, .int .u32 3, .int .i64 9] 29)
  have z2 := alloc_size w1 (.cells #[.int .u32 1, .int .i64 6, .int .u32 3, .int .i64 9] 29)
  generalize w1.alloc (.cells #[.int .u32 1, .int .i64 6, .int .u32 3, .int .i64 9] 29) = w2 at *
  have o3 : Old w2 (w2.alloc (.cells #[.int .u32 2, .int .i64 5] 29)) := (Old.refl w2).alloc _
  have h3 := heap_new w2 (.cells #[.int .u32 2, .int .i64 5] 29)
  have z3 := alloc_size w2 (.cells #[.int .u32 2, .int .i64 5] 29)
  generalize w2.alloc (.cells #[.int .u32 2, .int .i64 5] 29) = w3 at *
  have o4 : Old w3 (w3.alloc (.cells #[.slice (some ⟨s + 1, 0, none⟩) 2 2, .slice (some ⟨s + 1 + 1, 0, none⟩) 1 1] 23)) := (Old.refl w3).alloc _
  have h4 := heap_new w3 (.cells #[.slice (some ⟨s + 1, 0, none⟩) 2 2, .slice (some ⟨s + 1 + 1, 0, none⟩) 1 1] 23)
  generalize w3.alloc (.cells #[.slice (some ⟨s + 1, 0, none⟩) 2 2, .slice (some ⟨s + 1 + 1, 0, none⟩) 1 1] 23) = w4 at *
  rw [z3, z2, z1, hs] at h4
  rw [z2, z1, hs] at h3
  rw [z1, hs] at h2
  rw [hs] at h1
  have r0 := ((o2.trans o3).trans o4).cell (blk_cells (i := 0) h1 rfl)
  have r1 := ((o2.trans o3).trans o4).cell (blk_cells (i := 1) h1 rfl)
  have f1 : OffC w4 (some ⟨s + 1, 0, none⟩) [(1, 6), (3, 9)] := (off_blk (L := [(1, 6), (3, 9)]) h2).old (o3.trans o4)
  have f2 : OffC w4 (some ⟨s + 1 + 1, 0, none⟩) [(2, 5)] := (off_blk (L := [(2, 5)]) h3).old o4
  refine bodyPost_ret (v := .agg #[.int .i64 2, .slice (some ⟨s + 1 + 1 + 1, 0, none⟩) 2 2]) (by simp [results, Tryd.results34, go_sem, r0, r1]) rfl ?_
  refine ⟨s + 1 + 1 + 1, rfl, fun i hi => ?_, ?_, ((o1.trans o2).trans o3).trans o4⟩
  · match i, hi with
    | 0, _ => exact ⟨s + 1 + 1 + 1, 0, some ⟨s + 1, 0, none⟩, 2, rfl, blk_cells h4 rfl, f1, (by show ([(1, 6), (3, 9)] : List Off).length ≤ 9223372036854775807; decide), (by show ∀ x ∈ ([(1, 6), (3, 9)] : List Off), x.1 < 4294967296; decide)⟩
    | 1, _ => exact ⟨s + 1 + 1 + 1, 0, some ⟨s + 1 + 1, 0, none⟩, 1, rfl, blk_cells h4 rfl, f2, (by show ([(2, 5)] : List Off).length ≤ 9223372036854775807; decide), (by show ∀ x ∈ ([(2, 5)] : List Off), x.1 < 4294967296; decide)⟩
  · refine ⟨[.slice (some ⟨s + 1, 0, none⟩) 2 2, .slice (some ⟨s + 1 + 1, 0, none⟩) 1 1], rfl, fun i hi => ?_, fun i hi => ?_⟩
    · match i, hi with
      | 0, _ => exact ⟨s + 1 + 1 + 1, 0, rfl, blk_cells h4 rfl, rfl⟩
      | 1, _ => exact ⟨s + 1 + 1 + 1, 0, rfl, blk_cells h4 rfl, rfl⟩
    · match i, hi with
      | 0, _ => exact ⟨some ⟨s + 1, 0, none⟩, 2, rfl, f1, fun h => by cases h⟩
      | 1, _ => exact ⟨some ⟨s + 1 + 1, 0, none⟩, 1, rfl, f2, fun h => by cases h⟩

set_option maxRecDepth 100000 in
set_option maxHeartbeats 8000000 in
theorem works_any (w : World) (hT : Tabs w) : Calls Tryd.prog 8 #[] w fun e w' => e = .returned (.bool true) ∧ Old w w' := by
  have hfn : ∀ (p : Value) (w : World), (binOp BinOp.neq 55 (.func (.func 49) #[] #[p]) .nilFunc).run Tryd.prog w = .ok (.bool true) w := fun _ _ => by kernel_rfl
  have k2 := hid two_any
  have kT := hid hT
  have kNum := hid (num_any 0)
  clear hT
  go_enter Tryd.func8, Tryd.ntmps8
  go_wp2_with fail
  refine (k2.out _).mono ?_
  rintro e w1 ⟨b1, rfl, i1, -, o1⟩
  have q1 : Old w1 (w1.alloc (.cells #[.int .i64 5, .int .i64 4] 2)) := (Old.refl w1).alloc _
  have n1 := nums_blk (k := .i64) (L := [5, 4]) (heap_new w1 (.cells #[.int .i64 5, .int .i64 4] 2))
  have kB := hid (pbound_any 2 (some ⟨b1, 0, none⟩) (some ⟨w1.heap.size, 0, none⟩) 2 2 T2 [5, 4] _ (i1.old q1) (by decide) (by decide) n1 (by decide) (kT.out.old (o1.trans q1)))
  rw [bnd_k] at kB
  have ko1 := hid (o1.trans q1)
  clear i1 o1 q1 n1
  go_wp2_with fail
  refine kB.out.mono ?_
  rintro e w2 ⟨rfl, o2⟩
  have ko2 := hid (ko1.out.trans o2)
  clear o2 kB ko1
  go_wp2_with fail
  refine (k2.out _).mono ?_
  rintro e w3 ⟨b3, rfl, i3, -, o3⟩
  have ko3 := hid (ko2.out.trans o3)
  have kD := hid (descend_any 2 (some ⟨b3, 0, none⟩) 2 T2 w3 i3 (by decide) (kT.out.old ko3.out))
  clear i3 o3 ko2
  go_wp2_with fail
  refine kD.out.mono ?_
  rintro e w4 ⟨o4, (⟨-, v4, rfl, -⟩ | ⟨h0, -⟩)⟩
  · rw [end_k]
    have ko4 := hid (ko3.out.trans o4)
    clear o4 kD ko3
    go_wp2_with fail
    refine (k2.out _).mono ?_
    rintro e w5 ⟨b5, rfl, i5, -, o5⟩
    have q5 : Old w5 (w5.alloc (.cells #[.int .i64 0, .int .i64 0] 3)) := (Old.refl w5).alloc _
    have n5 := nums_blk (k := .i64) (L := [0, 0]) (heap_new w5 (.cells #[.int .i64 0, .int .i64 0] 3))
    have q6 : Old (w5.alloc (.cells #[.int .i64 0, .int .i64 0] 3)) ((w5.alloc (.cells #[.int .i64 0, .int .i64 0] 3)).alloc (.cells #[.int .i64 5, .int .i64 4] 2)) := (Old.refl _).alloc _
    have n6 := nums_blk (k := .i64) (L := [5, 4]) (heap_new (w5.alloc (.cells #[.int .i64 0, .int .i64 0] 3)) (.cells #[.int .i64 5, .int .i64 4] 2))
    rw [alloc_size] at n6
    have ko6 := hid (((ko4.out.trans o5).trans q5).trans q6)
    have kS := hid (supports_any 2 (some ⟨b5, 0, none⟩) (some ⟨w5.heap.size, 0, none⟩) (some ⟨w5.heap.size + 1, 0, none⟩) 2 2 2 T2 [0, 0] [5, 4] _ ((i5.old q5).old q6) (by decide) (by decide) (n5.old q6) (by decide) n6 (by decide) (kT.out.old ko6.out))
    rw [sup_k] at kS
    clear i5 o5 q5 q6 n5 n6 ko4
    go_wp2_with fail
    refine kS.out.mono ?_
    rintro e w7 ⟨rfl, o7⟩
    have ko7 := hid (ko6.out.trans o7)
    clear o7 kS ko6
    go_wp2_with fail
    refine (k2.out _).mono ?_
    rintro e w8 ⟨b8, rfl, i8, v8, o8⟩
    have ko8 := hid (ko7.out.trans o8)
    have kSt := hid (steps_any 2 (some ⟨b8, 0, none⟩) 2 T2 w8 (fun h => by cases h) i8 v8 (by decide))
    clear i8 v8 o8 ko7
    go_wp2_with fail
    refine kSt.out.mono ?_
    rintro e w9 ⟨o9, (⟨-, s9, v9, rfl, -⟩ | ⟨h0, -⟩)⟩
    · have ko9 := hid (ko8.out.trans o9)
      clear o9 kSt
      go_wp2_with (first | (go_at_call 22; refine (kNum.out _).mono ?_; rintro e w' ⟨rfl, e1⟩; rw [e1]; clear e1) | fail)
      go_ret
      exact ⟨rfl, ko9.out⟩
    · exact absurd ins_k h0
  · exact absurd ins_k h0
end Go.Proofs.YtfiogkmgenodgaaDoor
