/- A winner's payment lowered: walked. -/
import Derived.Test.YtfoadheepmgbfaaGreatDoorJ23
import Derived.Test.YtfoadheepmgbfaaGreatDoorK5
import Derived.Laws.AppendOwnNone
import Derived.Deep.WholeRow
namespace Go.Proofs.YtfoadheepmgbfaaGreatDoor
open Go.RowKit Go.Lib Go.Shelf
attribute [local go_sem] Oper.semAt_some



theorem info_64 : (Tryz.prog.info? 2).map (fun i => (i.zero, i.bytes, i.size)) = some (some (.int .i64 0), 8, 1) := by kernel_rfl
theorem parts_64 : ∃ i, Tryz.prog.info? 2 = some i ∧ i.zero = some (.int .i64 0) ∧ i.size = 1 ∧ i.bytes = 8 := by
  obtain ⟨i, hi, h2⟩ := Option.map_eq_some_iff.1 info_64
  simp only [Prod.mk.injEq] at h2
  exact ⟨i, hi, h2.1, h2.2.2, h2.2.1⟩

set_option maxRecDepth 100000 in
set_option maxHeartbeats 2000000 in
theorem lclone_any (g o cap : Nat) (L : List Int) (w : World) (h : NumsC .i64 w (some ⟨g, o, none⟩) L) (hl : L.length ≤ 100000) :
    Calls Tryz.prog 45 #[.slice (some ⟨g, o, none⟩) L.length cap] w fun e w' => ∃ b c, e = .returned (.slice (some ⟨b, 0, none⟩) L.length c) ∧ w.heap.size ≤ b ∧ (∃ cur, w'.heap[b]? = some (.cells cur 2 (0, 0)) ∧ cur.toList.take L.length = L.map (Value.int .i64)) ∧ Old w w' := by
  have q22 : ∀ (w : World) (a : Option Addr) (n c n' c' : Nat), (binOp .eql 25 (.slice a n c) (.slice none n' c')).run Tryz.prog w = .ok (.bool a.isNone) w := fun w a n c n' c' => Lib.run_eql_slice_nil w _ _ a n c n' c' Tryz.underlying25
  have o1 : Old w (w.alloc (.cells #[] 2)) := (Old.refl w).alloc _
  have hc' := num_cells (h.old o1)
  have ow0 : (w.alloc (.cells #[] 2)).ownsRow w.heap.size 2 1 (.slice (some ⟨w.heap.size, 0, none⟩) 0 0) ([] : List Value).length [] := ⟨rfl, Or.inr ⟨w.heap.size, 0, #[], rfl, Nat.le_refl _, heap_new w _, Nat.le_refl _, by unfold maxLen; omega, by simp, by simp⟩⟩
  have ko := hid o1
  have h1 := ints_one L
  obtain ⟨i0, hi0, hz0, hz1, hz2⟩ := parts_64
  clear o1 h
  go_enter Tryz.func45, Tryz.ntmps45
  go_wp2_with (at_builtin; refine wpList_append_own _ (by rfl) _ _ 25 (by rfl) w.heap.size 2 i0 _ 1 8 Tryz.underlying25 hi0 hz0 hz1 hz2 rfl (by omega) (.slice (some ⟨w.heap.size, 0, none⟩) 0 0) 0 [] (by rfl) ow0 ⟨g, o, none⟩ L.length cap (L.map (Value.int .i64)) (by rfl) (by simp) hc' h1 (by unfold maxLen; omega) (by omega) (by simp) ?_)
  intro v2 w2 r2 g2 hnil
  have o2 : Hid (Old w w2) := by
    have f2 : Frm (fun q => q = w.heap.size) (w.alloc (.cells #[] 2)) w2 := Frm.grown (Frm.refl _ _) g2 (fun q hq => Or.inr (by simp [Value.ownBlock] at hq; exact hq.symm))
    exact Frm.trans ko.out f2 (fun i hi e => by omega)
  have r3 : w2.ownsRow w.heap.size 2 1 v2 L.length (L.map (Value.int .i64)) := by simpa using r2
  have kr : Hid (∃ b c, v2 = .slice (some ⟨b, 0, none⟩) L.length c ∧ w.heap.size ≤ b ∧ ∃ cur, w2.heap[b]? = some (.cells cur 2 (0, 0)) ∧ cur.toList.take L.length = L.map (Value.int .i64)) := by
    rcases r3.2 with ⟨e1, e0⟩ | ⟨b, c, cur, rfl, h3, h4, h5, h6, h7, h8⟩
    · exact absurd e1 hnil
    · exact ⟨b, c, rfl, h3, cur, h4, by simpa using h8⟩
  clear r2 r3 g2 ow0 hc' h1 hnil
  go_wp2_with fail
  go_ret
  obtain ⟨b, c, e1, e2, e3⟩ := kr.out
  exact ⟨b, c, by rw [← e1]; rfl, e2, e3, o2.out⟩

/-- Payments in a row behind a variable. -/
structure PayR (X : World) (pp pb pc : Nat) (P : List Int) : Prop where
  v : X.heap[pp]? = some (.cells #[.slice (some ⟨pb, 0, none⟩) P.length pc] 25 (0, 0))
  r : ∃ cur, X.heap[pb]? = some (.cells cur 2 (0, 0)) ∧ cur.toList.take P.length = P.map (Value.int .i64)
theorem PayR.nums {X : World} {pp pb pc : Nat} {P : List Int} (h : PayR X pp pb pc P) : NumsC .i64 X (some ⟨pb, 0, none⟩) P := fun i hi => by
  obtain ⟨cur, h3, h4⟩ := h.r
  refine ⟨pb, 0, rfl, ?_⟩
  have e2 : (cur.toList.take P.length)[i]? = (P.map (Value.int .i64))[i]? := by rw [h4]
  rw [List.getElem?_take_of_lt hi, List.getElem?_map, List.getElem?_eq_getElem hi] at e2
  rw [Nat.zero_add]
  exact blk_cells h3 (by simpa using e2)
theorem PayR.frm {X Y : World} {S : Nat → Prop} {pp pb pc : Nat} {P : List Int} (h : PayR X pp pb pc P) (hf : Frm S X Y) (h1 : ¬ S pp) (h2 : ¬ S pb) : PayR Y pp pb pc P := by
  obtain ⟨cur, h3, h4⟩ := h.r
  exact ⟨(hf.block _ (blk_lt h.v) h1).trans h.v, cur, (hf.block _ (blk_lt h3) h2).trans h3, h4⟩
theorem PayR.ne {X : World} {pp pb pc : Nat} {P : List Int} (h : PayR X pp pb pc P) : pp ≠ pb := fun e => by
  obtain ⟨cur, h3, -⟩ := h.r
  have h1 := h.v
  rw [e, h3] at h1
  simp only [Option.some.injEq, Obj.cells.injEq] at h1
  exact absurd h1.2.1 (by decide)
theorem PayR.set {X : World} {pp pb pc : Nat} {P : List Int} (h : PayR X pp pb pc P) (i : Nat) (z : Int) : PayR (X.setCell ⟨pb, i, none⟩ (.int .i64 z)) pp pb pc (P.set i z) := by
  have hne := h.ne
  obtain ⟨cur, h3, h4⟩ := h.r
  refine ⟨?_, cur.setIfInBounds i (.int .i64 z), heap_set (i := i) (.int .i64 z) h3, ?_⟩
  · rw [(frm_set X pb i (.int .i64 z)).block _ (blk_lt h.v) hne, h.v, List.length_set]
  · rw [List.length_set, List.map_set, ← h4]
    simp [List.take_set]

set_option maxRecDepth 100000 in
set_option maxHeartbeats 8000000 in
theorem lowr_any (gd : Int) (bo co : Option Addr) (cap cc pc sb pp pb : Nat) (B : Ins) (c C P : List Int) (i : Nat) (hi : i < B.length) (w : World) (hs : w.heap[sb]? = some (.cells (wonA gd (.slice bo B.length cap) c (.slice co C.length cc)) 65 (0, 0))) (hR : PayR w pp pb pc P) (hI : InsC w bo B) (hC : NumsC .i64 w co C) (hb : PayB B C P) (hz : insZ gd B = 0) (hT : Tabs w) :
    Calls Tryz.prog 46 #[.int .i64 (i : Int), .pointer (some ⟨sb, 0, none⟩), .pointer (some ⟨pp, 0, none⟩)] w fun e w' => ∃ b n, e = .returned (.slice (some ⟨b, 0, none⟩) P.length n) ∧ w.heap.size ≤ b ∧ NewL w.heap.size w' (.slice (some ⟨b, 0, none⟩) P.length n) (P.set i (leZ B (allZ gd).1 C P i)) ∧ PayR w' pp pb pc (P.set i (leZ B (allZ gd).1 C P i)) ∧ Frm (fun q => q = pb) w w' := by
  have kL := hid (fun W (o : Old w W) => cleast_any gd bo co (some ⟨pb, 0, none⟩) cap cc pc B c C P i hi W ⟨hI.old o, hC.old o, hR.nums.old o⟩ hb hz (hT.old o))
  obtain ⟨A, hA⟩ : ∃ A, wonA gd (.slice bo B.length cap) c (.slice co C.length cc) = A := ⟨_, rfl⟩
  have kAi : Hid ((Tryz.prog.info? 65).map (·.size) = some A.size) := by rw [← hA]; exact wonA_info ..
  rw [hA] at hs kL
  have x0 := blk_cell hR.v
  have kR := hid hR
  have kb := hid hb
  have hiP : i < P.length := by have := hb.lenP; omega
  have hiP' : (i : Int) < (P.length : Int) := by omega
  have hlP : P.length ≤ 32 := by have := hb.lenP; have := hb.few; omega
  generalize leZ B (allZ gd).1 C P i = z at *
  clear hA hR hI hC hb hz hT
  go_enter Tryz.func46, Tryz.ntmps46
  go_upto_region 1 with fail
  refine wp_region_noPanic ?_
  have koV : Hid (Old w w.drew) := (Old.refl w).drewN 1
  refine wp_region_held_drew (S := fun W => W.cell? ⟨pp, 0, none⟩ = some (.slice (some ⟨pb, 0, none⟩) P.length pc) ∧ W.heap[sb]? = some (.cells A 65 (0, 0))) (by kernel_rfl) ⟨koV.out.cell x0, (koV.out.block _ (blk_lt hs) (fun h => h)).trans hs⟩ (fun hHeld => ?_)
  generalize w.drew = V at *
  refine' qtk (i := 0) rfl (fun _ _ _ h => h) (Or.inl ⟨by rfl, ?_⟩) hHeld ?_
  rotate_left
  · intro W hSw
    obtain ⟨r1, -⟩ := hSw
    simp only [qqa, qqb]
    go_simp
    all_goals with_reducible rfl
  simp only [qqa, qqb, Act.put, qqd, qqe, qqf]
  refine' qtk (i := 1) rfl (fun _ _ _ h => h) (Or.inl ⟨by rfl, ?_⟩) hHeld ?_
  rotate_left
  · intro W hSw
    obtain ⟨r1, -⟩ := hSw
    simp only [qqa, qqb, qqc]
    go_simp
    all_goals with_reducible rfl
  simp only [qqa, qqb, qqc, Act.put, qqd, qqe, qqf]
  refine' qtk (i := 3) rfl (fun _ _ _ h => h) (Or.inl ⟨by rfl, ?_⟩) hHeld ?_
  rotate_left
  · intro W hSw
    obtain ⟨r1, -⟩ := hSw
    simp only [qqa, qqb, qqc]
    go_simp
    all_goals with_reducible rfl
  simp only [qqa, qqb, qqc, Act.put, qqd, qqe, qqf]
  refine' qtk (i := 4) rfl (fun _ _ _ h => h) (Or.inl ⟨by rfl, ?_⟩) hHeld ?_
  rotate_left
  · intro W hSw
    obtain ⟨r1, -⟩ := hSw
    simp only [qqa, qqb, qqc]
    go_simp
    all_goals with_reducible rfl
  simp only [qqa, qqb, qqc, Act.put, qqd, qqe, qqf]
  refine' wpAnyH_take (i := 2) (v := .agg A) rfl (by kernel_rfl) (by kernel_rfl) (by kernel_rfl) (fun _ _ _ h => h) (Or.inl ⟨by rfl, ?_⟩) hHeld ?_
  · intro W hSw
    obtain ⟨-, r2⟩ := hSw
    simp only [qqa, qqb, qqc]
    unfold execOp
    simp only [Act.eval, Array.getD_eq_getD_getElem?, List.getElem?_toArray, List.getElem?_cons_succ, List.getElem?_cons_zero, Option.getD_some, Instr.loadAt, Instr.sureAddr, Sem.run_bind, Sem.run_pure, Result.andThen_ok, run_loadVar_row W sb 65 65 A (0, 0) _ r2 Tryz.underlying65 rfl kAi.out]
  simp only [qqa, qqb, qqc, Act.put, qqd, qqe, qqf]
  refine wpAnyH_ready (rs := [5]) (by kernel_rfl) (by simp) ?_
  refine AllReadyH.cons (o := _) rfl (fun K hK => ?_) AllReadyH.nil
  simp only [qqa, qqb, qqc]
  go_simp
  refine (kL.out V koV.out).mono ?_
  rintro e V2 ⟨rfl, o2⟩
  have ko2 := hid (koV.out.trans o2)
  refine hK.out _ _ (⟨o2.cell hHeld.1, (o2.block _ (blk_lt hHeld.2) (fun h => h)).trans hHeld.2⟩) (fun hHeld2 => ?_)
  clear hHeld hK
  have hHeld := hHeld2
  clear hHeld2
  try simp only [Act.put, qqd, qqe, qqf]
  refine' qtk (i := 6) rfl (fun _ _ _ h => h) (Or.inl ⟨by rfl, ?_⟩) hHeld ?_
  rotate_left
  · intro W hSw
    obtain ⟨r1, -⟩ := hSw
    simp only [qqa, qqb, qqc]
    go_simp
    all_goals with_reducible rfl
  simp only [qqa, qqb, qqc, Act.put, qqd, qqe, qqf]
  have kR2 := hid (kR.out.frm ko2.out (fun h => h) (fun h => h))
  obtain ⟨gx, ox, hx, n1⟩ := kR2.out.nums i hiP
  simp only [Option.some.injEq, Addr.mk.injEq, and_true] at hx
  obtain ⟨rfl, rfl⟩ := hx
  rw [Nat.zero_add] at n1
  obtain ⟨cur, hcur, -⟩ := kR2.out.r
  have n2 := blk_fz hcur i
  have kR3 := hid (kR2.out.set i z)
  have fS := frm_set V2 pb i (.int .i64 z)
  have hne := hid kR2.out.ne
  have hsne : Hid (sb ≠ pb) := fun e => by
    have h1 := hHeld.2
    rw [e, hcur] at h1
    simp only [Option.some.injEq, Obj.cells.injEq] at h1
    exact absurd h1.2.1 (by decide)
  have kf3 : Hid (Frm (fun q => q = pb) w (V2.setCell ⟨pb, i, none⟩ (.int .i64 z))) := Frm.trans (Frm.mono ko2.out (fun _ _ h => h.elim)) fS (fun _ _ e => e)
  generalize P[i] = xo at *
  refine wpAnyH_ready (rs := [7]) (by kernel_rfl) (by simp) ?_
  refine AllReadyH.cons (o := _) rfl (fun K hK => ?_) AllReadyH.nil
  simp only [qqa, qqb, qqc]
  go_simp
  refine hK.out _ _ ⟨frm_cell fS hHeld.1 hne.out, (fS.block _ (blk_lt hHeld.2) hsne.out).trans hHeld.2⟩ (fun _ => ?_)
  try simp only [Act.put]
  refine wpAnyH_done (by kernel_rfl) ?_ _
  refine NoPanic.normal ?_
  clear hHeld hK x0 n1 n2 fS hcur
  generalize V2.setCell ⟨pb, i, none⟩ (.int .i64 z) = V3 at *
  have y0 := blk_cell kR3.out.v
  have hpl : (P.set i z).length = P.length := List.length_set
  have kcl := hid (lclone_any pb 0 pc (P.set i z) V3 kR3.out.nums (by omega))
  rw [hpl] at y0 kcl
  have khpl := hid hpl
  clear hpl
  go_wp2_with fail
  refine kcl.out.mono ?_
  rintro e V4 ⟨b, n, rfl, hb, ⟨cur2, h4, h5⟩, o4⟩
  have kN : Hid (NewL w.heap.size V4 (.slice (some ⟨b, 0, none⟩) P.length n) (P.set i z)) := ⟨_, n, by rw [khpl.out], .inr ⟨b, cur2, rfl, Nat.le_trans kf3.out.size hb, h4, by rw [khpl.out]; exact h5⟩⟩
  have kR4 := hid (kR3.out.frm o4 (fun h => h) (fun h => h))
  have kf4 : Hid (Frm (fun q => q = pb) w V4) := Frm.trans kf3.out o4 (fun _ _ h => h.elim)
  have khb : Hid (w.heap.size ≤ b) := Nat.le_trans kf3.out.size hb
  clear h4 h5 o4 hb y0
  go_wp2_with fail
  go_ret
  exact ⟨b, n, rfl, khb.out, kN.out, kR4.out, kf4.out⟩
end Go.Proofs.YtfoadheepmgbfaaGreatDoor

/- Whether these are payments: walked. -/
namespace Go.Proofs.YtfoadheepmgbfaaGreatDoor
open Go.RowKit Go.Lib Go.Shelf
attribute [local go_sem] Oper.semAt_some

/-- Are these payments, up to the k-th? -/
def paB (C P : List Int) (k : Nat) : Bool := (List.range k).all (fun i => decide (0 ≤ P.getD i 0) && decide (P.getD i 0 ≤ C.getD i 0))
theorem paB_succ (C P : List Int) (k : Nat) : paB C P (k + 1) = (paB C P k && (decide (0 ≤ P.getD k 0) && decide (P.getD k 0 ≤ C.getD k 0))) := by
  unfold paB
  rw [List.range_succ, List.all_append]
  simp
theorem paB_of {C P : List Int} {k : Nat} (h : paB C P k = true) {i : Nat} (hi : i < k) : 0 ≤ P.getD i 0 ∧ P.getD i 0 ≤ C.getD i 0 := by
  unfold paB at h
  rw [List.all_eq_true] at h
  have := h i (by simpa using hi)
  simpa using this
theorem paB_false {C P : List Int} {k n : Nat} (hk : k < n) (h : ¬ (0 ≤ P.getD k 0 ∧ P.getD k 0 ≤ C.getD k 0)) : paB C P n = false := by
  by_cases e : paB C P n = true
  · exact absurd (paB_of e hk) h
  · simpa using e
theorem paB_le {C P : List Int} (hl : P.length = C.length) (h : paB C P C.length = true) : LeP C C P := LeP.of rfl hl (fun _ hi => ⟨(paB_of h hi).1, (paB_of h hi).2, Int.le_refl _⟩)
theorem paB_iff {C P : List Int} (hl : P.length = C.length) : paB C P C.length = true ↔ LeP C C P := by
  refine ⟨paB_le hl, fun h => ?_⟩
  unfold paB
  rw [List.all_eq_true]
  intro i hi
  have := h.at i (by simpa using hi)
  simp only [Bool.and_eq_true, decide_eq_true_eq]
  exact ⟨this.1, this.2.1⟩
/-- The error of payments. -/
def pyZ (gd : Int) (B : Ins) (P : List Int) : Int := if insZ gd B ≠ 0 then insZ gd B else if P.length = B.length ∧ paB (wonL B (cosC gd B)) P B.length = true then 0 else 2
/-- What paying answers. -/
def PyP (gd : Int) (bo : Option Addr) (cap : Nat) (B : Ins) (P : List Int) (w : World) (e : Ending) (w' : World) : Prop := Old w w' ∧ ((pyZ gd B P = 0 ∧ ∃ y, e = .returned (.tuple #[.agg (wonA gd (.slice bo B.length cap) (cosC gd B) y), .int .i64 0]) ∧ NewL w.heap.size w' y (wonL B (cosC gd B))) ∨ (pyZ gd B P ≠ 0 ∧ e = .returned (.tuple #[.agg (wonA 0 nilS [] nilS), .int .i64 (pyZ gd B P)])))


set_option maxRecDepth 100000 in
set_option maxHeartbeats 8000000 in
theorem paying_any (gd : Int) (bo po : Option Addr) (cap pc : Nat) (B : Ins) (P : List Int) (w : World) (h : InsC w bo B) (hcap : B.length ≤ cap) (hl : B.length ≤ 9223372036854775807) (hP : NumsC .i64 w po P) (hT : Tabs w) :
    Calls Tryz.prog 22 #[.agg #[.int .i64 gd, .slice bo B.length cap], .slice po P.length pc] w (PyP gd bo cap B P w) := by
  have o1 : Old w (w.alloc (.cells #[.int .i64 gd, .slice bo B.length cap] 24)) := (Old.refl w).alloc _
  have b1 := heap_new w (.cells #[.int .i64 gd, .slice bo B.length cap] 24)
  have z1 := alloc_size w (.cells #[.int .i64 gd, .slice bo B.length cap] 24)
  have o2 : Old (w.alloc (.cells #[.int .i64 gd, .slice bo B.length cap] 24)) ((w.alloc (.cells #[.int .i64 gd, .slice bo B.length cap] 24)).alloc (.cells (wonA 0 nilS [] nilS) 65)) := (Old.refl _).alloc _
  have b2 := heap_new (w.alloc (.cells #[.int .i64 gd, .slice bo B.length cap] 24)) (.cells (wonA 0 nilS [] nilS) 65)
  obtain ⟨s, hs⟩ : ∃ s, w.heap.size = s := ⟨_, rfl⟩
  have kss := hid hs
  rw [hs] at b1 z1
  rw [z1] at b2
  have b1 := (o2.block s (blk_lt b1) (fun h => h)).trans b1
  have x0 := blk_cells (i := 0) b1 rfl
  have x1 := blk_cells (i := 1) b1 rfl
  simp only [qqa, qqb, qqc] at x0 x1
  have kbR := hid b2
  have ko := hid (o1.trans o2)
  have kh := hid h
  have kP := hid hP
  have kC := hid (fun V (o : Old w V) => clearing_any gd bo cap B V (h.old o) hcap hl (hT.old o))
  have klt := hid (ins_lt h)
  have kpz : Hid (pyZ gd B P = if insZ gd B ≠ 0 then insZ gd B else if P.length = B.length ∧ paB (wonL B (cosC gd B)) P B.length = true then 0 else 2) := rfl
  clear o1 o2 b1 b2 z1 h hT hP
  go_enter Tryz.func22, Tryz.ntmps22
  go_upto_region 1 with fail
  rw [zeroW]
  generalize (w.alloc (.cells #[.int .i64 gd, .slice bo B.length cap] 24)).alloc (.cells (wonA 0 nilS [] nilS) 65) = w1 at *
  go_wp2_with fail
  refine (kC.out _ ko.out).mono ?_
  rintro e w2 ⟨o2, h2⟩
  have kbR := hid ((o2.block _ (blk_lt kbR.out) (fun h => h)).trans kbR.out)
  have ko2 := hid (ko.out.trans o2)
  obtain ⟨hz, y, rfl, hy, -⟩ | ⟨hz, rfl⟩ := h2
  · have hy := hy.up ko.out.size
    rw [if_neg (by simp [hz])] at kpz
    obtain ⟨ca, cc, rfl, -⟩ := id hy
    obtain ⟨A, hA⟩ : ∃ A, wonA gd (.slice bo B.length cap) (cosC gd B) (.slice ca (wonL B (cosC gd B)).length cc) = A := ⟨_, rfl⟩
    have kA := hid hA
    have kAi : Hid ((Tryz.prog.info? 65).map (·.size) = some A.size) := by rw [← hA]; exact wonA_info ..
    have kAs : Hid (A.size = 35) := by rw [← hA]; exact wonA_size ..
    have kA1 : Hid (A.all (·.oneCell') = true) := by rw [← hA]; exact wonA_one _ _ _ _ rfl rfl
    have kA34 : Hid (A[34]? = some (.slice ca (wonL B (cosC gd B)).length cc)) := by rw [← hA]; exact wonA_34 ..
    have kwl := hid (won_len B (cosC gd B))
    rw [hA]
    clear hA
    have hfewB := (win_of hz klt.out).few
    generalize hCe : wonL B (cosC gd B) = C at *
    have kCe := hid hCe
    have hfewC : C.length ≤ 32 := by have := kwl.out; omega
    clear hCe
    have q2 : Old w2 (w2.alloc (.cells A 65)) := (Old.refl w2).alloc _
    have b2 := heap_new w2 (.cells A 65)
    go_upto_region 2 with (refine wpList_store_row rfl 65 _ _ rfl w2.heap.size _ rfl rfl 65 _ (heap_new w2 _) kAi.out (by rw [kAs.out]; rfl) kA1.out ?_)
    rw [World.setRow_alloc_new]
    generalize w2.alloc (.cells A 65) = w3 at *
    generalize w2.heap.size = wb at *
    have y34 := blk_cells b2 kA34.out
    have kb2 := hid b2
    have kbR := hid ((q2.block _ (blk_lt kbR.out) (fun h => h)).trans kbR.out)
    have ko3 := hid (ko2.out.trans q2)
    have kC3 := hid (hy.old q2)
    have kp3 := hid (kP.out.old ko3.out)
    have kN := hid kC3.out.nums
    clear q2 b2 x0 x1 o2
    by_cases hln : P.length = C.length
    · have hlnb : ((P.length : Int) != (C.length : Int)) = false := by simp [hln]
      have khln := hid hln
      clear hln
      go_upto_region 6 with fail
      go_wp2_with fail
      go_loopw [28] (fun t wr => ∃ k : Nat, k ≤ P.length ∧ t = .int .i64 (k : Int) ∧ wr = w3 ∧ Hid (paB C P k = true)) (fun t _ => P.length - (intOf t).toNat)
      case atStart => exact ⟨0, Nat.zero_le _, rfl, by trivial, rfl⟩
      case round =>
        obtain ⟨k, hk, rfl, hwr, hX⟩ := hrel
        obtain rfl := hwr.symm
        by_cases hlt : k < P.length
        · have hlt' : (k : Int) < (P.length : Int) := by omega
          have hkC : k < C.length := by have := khln.out; omega
          have hkC' : (k : Int) < (C.length : Int) := by omega
          have hk32 : k < 32 := by omega
          obtain ⟨pg, po', rfl, p1⟩ := kp3.out k hlt
          obtain ⟨cg, co', rfl, c1⟩ := kN.out k hkC
          have hgP : P.getD k 0 = P[k] := by rw [List.getD_eq_getElem?_getD, List.getElem?_eq_getElem hlt]; rfl
          have hgC : C.getD k 0 = C[k] := by rw [List.getD_eq_getElem?_getD, List.getElem?_eq_getElem hkC]; rfl
          have kps := hid (paB_succ C P k)
          have kpf := hid (fun n (hn : k < n) => paB_false (C := C) (P := P) hn)
          rw [hgP, hgC] at kps kpf
          generalize P[k] = xp at *
          generalize C[k] = xc at *
          clear hgP hgC
          by_cases h0 : 0 ≤ xp
          · have h0' : ¬ xp < 0 := by omega
            have h0b : decide (xp < 0) = false := by simpa using h0
            by_cases h1 : xp ≤ xc
            · have h1' : ¬ xp > xc := by omega
              have h1b : decide (xp > xc) = false := by simpa using h1
              go_wp2_with fail
              go_roundw
              case rel => exact ⟨k + 1, by omega, by go_num, by trivial, by show _ = _; rw [kps.out, hX.out]; simp [h0, h1]⟩
              case measure => simp [intOf]; omega
            · have h1' : xp > xc := by omega
              have kpz2 : Hid (pyZ gd B P = 2) := by
                show _ = _
                rw [kpz.out, if_neg]
                rintro ⟨h2, h3⟩
                rw [kpf.out B.length (by have := kwl.out; omega) (fun h => h1 h.2)] at h3
                cases h3
              go_upto_region 10 with fail
              refine wp_region_lit ?_
              refine wpList_buildW rfl rfl ?_
              simp only [Act.put, qqd, qqe, qqf]
              go_wp2_with (refine wpList_store_row rfl 65 _ _ rfl (s + 1) _ rfl rfl 65 _ (kbR.out) (wonA_info ..) (by rw [wonA_size]) (wonA_one _ _ _ _ rfl rfl) ?_)
              have oS := frm_setRow w3 (s + 1) (wonA 0 nilS [] nilS)
              refine bodyPost_ret (results_cell_slot rfl _ _ (s + 1) 65 _ (0, 0) _ rfl (setRow_heap _ _ _ _ _ _ (kbR.out)) Tryz.underlying65 rfl (wonA_info ..)) rfl ?_
              exact ⟨Frm.trans ko3.out oS (fun i hi e => by have := kss.out; omega), .inr ⟨by rw [kpz2.out]; decide, by rw [kpz2.out]; rfl⟩⟩
          · have h0' : xp < 0 := by omega
            have kpz2 : Hid (pyZ gd B P = 2) := by
              show _ = _
              rw [kpz.out, if_neg]
              rintro ⟨h2, h3⟩
              rw [kpf.out B.length (by have := kwl.out; omega) (fun h => h0 h.1)] at h3
              cases h3
            go_upto_region 10 with fail
            refine wp_region_lit ?_
            refine wpList_buildW rfl rfl ?_
            simp only [Act.put, qqd, qqe, qqf]
            go_wp2_with (refine wpList_store_row rfl 65 _ _ rfl (s + 1) _ rfl rfl 65 _ (kbR.out) (wonA_info ..) (by rw [wonA_size]) (wonA_one _ _ _ _ rfl rfl) ?_)
            have oS := frm_setRow w3 (s + 1) (wonA 0 nilS [] nilS)
            refine bodyPost_ret (results_cell_slot rfl _ _ (s + 1) 65 _ (0, 0) _ rfl (setRow_heap _ _ _ _ _ _ (kbR.out)) Tryz.underlying65 rfl (wonA_info ..)) rfl ?_
            exact ⟨Frm.trans ko3.out oS (fun i hi e => by have := kss.out; omega), .inr ⟨by rw [kpz2.out]; decide, by rw [kpz2.out]; rfl⟩⟩
        · obtain rfl : k = P.length := by omega
          have hlt' : ¬ (P.length : Int) < (P.length : Int) := by omega
          have kpz2 : Hid (pyZ gd B P = 0) := by
            show _ = _
            have h1 := kwl.out
            have h2 := khln.out
            have h3 := hX.out
            rw [kpz.out, if_pos ⟨by omega, by rw [← h1, ← h2]; exact h3⟩]
          go_upto_region 12 with fail
          refine wp_region_lit ?_
          refine wpList_load_row rfl 65 _ rfl wb rfl 65 _ (0, 0) _ kb2.out Tryz.underlying65 rfl kAi.out ?_
          simp only [Act.put, qqd, qqe, qqf]
          refine wpList_store_row rfl 65 _ _ rfl (s + 1) _ rfl rfl 65 _ kbR.out kAi.out (by rw [wonA_size, kAs.out]) kA1.out ?_
          simp only [Act.put]
          go_wp2_with fail
          have oS := frm_setRow w3 (s + 1) A
          refine bodyPost_ret (results_cell_slot rfl _ _ (s + 1) 65 _ (0, 0) _ rfl (setRow_heap _ _ _ _ _ _ kbR.out) Tryz.underlying65 rfl kAi.out) rfl ?_
          refine ⟨Frm.trans ko3.out oS (fun i hi e => by have := kss.out; omega), .inl ⟨kpz2.out, _, by rw [kA.out]; rfl, ?_⟩⟩
          rw [kCe.out]
          exact kC3.out.frm5 oS kbR.out (by decide)
    · have hlnb : ((P.length : Int) != (C.length : Int)) = true := by simp; omega
      have kpz2 : Hid (pyZ gd B P = 2) := by
        show _ = _
        rw [kpz.out, if_neg (fun h => hln (by have := kwl.out; omega))]
      clear hln
      go_upto_region 5 with fail
      refine wp_region_lit ?_
      refine wpList_buildW rfl rfl ?_
      simp only [Act.put, qqd, qqe, qqf]
      go_wp2_with (refine wpList_store_row rfl 65 _ _ rfl (s + 1) _ rfl rfl 65 _ (kbR.out) (wonA_info ..) (by rw [wonA_size]) (wonA_one _ _ _ _ rfl rfl) ?_)
      have oS := frm_setRow w3 (s + 1) (wonA 0 nilS [] nilS)
      refine bodyPost_ret (results_cell_slot rfl _ _ (s + 1) 65 _ (0, 0) _ rfl (setRow_heap _ _ _ _ _ _ (kbR.out)) Tryz.underlying65 rfl (wonA_info ..)) rfl ?_
      exact ⟨Frm.trans ko3.out oS (fun i hi e => by have := kss.out; omega), .inr ⟨by rw [kpz2.out]; decide, by rw [kpz2.out]; rfl⟩⟩
  · have hzb : (insZ gd B != 0) = true := by simpa using hz
    have kpz2 : Hid (pyZ gd B P = insZ gd B) := by show _ = _; rw [kpz.out, if_pos hz]
    have khz := hid hz
    have b2 := heap_new w2 (.cells (wonA 0 nilS [] nilS) 65)
    have q2 : Old w2 (w2.alloc (.cells (wonA 0 nilS [] nilS) 65)) := (Old.refl w2).alloc _
    clear hz x0 x1 o2
    go_upto_region 2 with (refine wpList_store_row rfl 65 _ _ rfl w2.heap.size _ rfl rfl 65 _ (heap_new w2 _) (wonA_info ..) (by rw [wonA_size]; rfl) (wonA_one _ _ _ _ rfl rfl) ?_)
    rw [World.setRow_alloc_new]
    have kbR := hid ((q2.block _ (blk_lt kbR.out) (fun h => h)).trans kbR.out)
    have ko3 := hid (ko2.out.trans q2)
    generalize w2.alloc (.cells (wonA 0 nilS [] nilS) 65) = w3 at *
    clear b2 q2
    go_upto_region 3 with fail
    refine wp_region_lit ?_
    refine wpList_buildW rfl rfl ?_
    simp only [Act.put, qqd, qqe, qqf]
    go_wp2_with (refine wpList_store_row rfl 65 _ _ rfl (s + 1) _ rfl rfl 65 _ (kbR.out) (wonA_info ..) (by rw [wonA_size]) (wonA_one _ _ _ _ rfl rfl) ?_)
    have oS := frm_setRow w3 (s + 1) (wonA 0 nilS [] nilS)
    refine bodyPost_ret (results_cell_slot rfl _ _ (s + 1) 65 _ (0, 0) _ rfl (setRow_heap _ _ _ _ _ _ (kbR.out)) Tryz.underlying65 rfl (wonA_info ..)) rfl ?_
    exact ⟨Frm.trans ko3.out oS (fun i hi e => by have := kss.out; omega), .inr ⟨by rw [kpz2.out]; exact khz.out, by rw [kpz2.out]; rfl⟩⟩
end Go.Proofs.YtfoadheepmgbfaaGreatDoor
