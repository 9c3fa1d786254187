/- A number is set. -/
import Derived.Test.YtbaibikpdaphoaaD2
namespace Go.Proofs.Ytbaibikpdaphoaa
open Go.RowKit Go.Lib Go.Maps

/-- What is put into a calendar. -/
def PutP (w : World) (bt : Nat) (F : Nat → Prop) (now : Int) (R : List Due) (w' : World) : Prop := ∃ F', TkS w' bt F' now R ∧ Frm F w w' ∧ ∀ k, F' k → (F k ∨ w.heap.size ≤ k) ∧ k < w'.heap.size

/-- The same, the blocks of the calendar and of its map named. -/
def PutM (w : World) (bt bc bm : Nat) (F : Nat → Prop) (now : Int) (R : List Due) (w' : World) : Prop := ∃ F', (∃ v G P, Tk w' bt F' now R bc bm v G P) ∧ Frm F w w' ∧ ∀ k, F' k → (F k ∨ w.heap.size ≤ k) ∧ k < w'.heap.size

theorem PutM.put {w w' : World} {bt bc bm : Nat} {F : Nat → Prop} {now : Int} {R : List Due} (h : PutM w bt bc bm F now R w') : PutP w bt F now R w' := by
  obtain ⟨F', ⟨v, G, P, h1⟩, h2⟩ := h
  exact ⟨F', ⟨bc, bm, v, G, P, h1⟩, h2⟩

theorem Sl.lt {w : World} {bc : Nat} {v : Value} {G : List Due} (h : Sl w bc v G) : ∀ k, v.ownBlock = some k → k < w.heap.size := by
  intro k hk
  rcases h with ⟨rfl, _⟩ | ⟨hb, cap, rfl, h1, _⟩
  · simp [Value.ownBlock] at hk
  · simp [Value.ownBlock] at hk
    rw [← hk]; exact h1.lt

theorem put_any (bt bc bm : Nat) (v : Value) (F : Nat → Prop) (now : Int) (R G : List Due) (P : Int → Option Nat) (d : Due) (w : World) (h : Tk w bt F now R bc bm v G P) (hl : R.length < 1000000000) (hd : i64ok d.2) :
    Calls Try.prog 28 #[.pointer (some ⟨bc, 0, none⟩), .agg #[.int .i64 d.1, .int .i64 d.2]] w fun e w' => e = .returned (.tuple #[]) ∧ PutM w bt bc bm F now (setR R d) w' := by
  have hlen := h.perm.length_eq
  have htl := (Array.getElem?_eq_some_iff.1 h.top).1
  have hcl := h.cal.lt
  have hml := h.cal.map.lt
  have hvl := h.cal.sl.lt
  cases hp : P d.2 with
  | none =>
    obtain ⟨ao, cap, hv⟩ := h.len
    refine (put_new bc bm G.length v now G P d w h.cal rfl (by omega) hd hp ⟨ao, cap, by rw [hlen]; exact hv⟩).mono ?_
    rintro e w' ⟨rfl, hb, cap', G', P', hC, hper, hwh, hf⟩
    have hsz := hf.size
    have hnt := h.nt
    have htop : w'.heap[bt]? = some (.cells #[.pointer (some ⟨bc, 0, none⟩)] 67 (0, 0)) := by
      rw [hf.block bt htl (by rintro (e | e | e); exact hnt.1 e; exact hnt.2.1 e; exact hnt.2.2 e)]; exact h.top
    refine ⟨rfl, fun k => k = bt ∨ k = bc ∨ k = bm ∨ k = hb, ⟨_, G', P', htop, hC, hper.trans (set_new h.cal.pl hp h.perm), setR_srt h.srt d, Or.inl rfl, Or.inr (Or.inl rfl), Or.inr (Or.inr (Or.inl rfl)), fun k hk => ?_, hnt.1, hnt.2.1, ?_⟩, Frm.mono hf (fun k _ hk => ?_), fun k hk => ?_⟩
    · simp [Value.ownBlock] at hk
      exact Or.inr (Or.inr (Or.inr hk.symm))
    · simp [Value.ownBlock]
      rcases hwh with h1 | h1
      · intro e; rw [e] at h1; exact hnt.2.2 h1
      · omega
    · rcases hk with e | e | e
      · rw [e]; exact h.fc
      · rw [e]; exact h.fm
      · exact h.fv k e
    · have hhb := hC.sl.lt hb rfl
      rcases hk with e | e | e | e
      · exact ⟨Or.inl (by rw [e]; exact h.ft), by omega⟩
      · exact ⟨Or.inl (by rw [e]; exact h.fc), by omega⟩
      · exact ⟨Or.inl (by rw [e]; exact h.fm), by omega⟩
      · refine ⟨?_, by rw [e]; exact hhb⟩
        rcases hwh with h1 | h1
        · exact Or.inl (by rw [e]; exact h.fv hb h1)
        · exact Or.inr (by omega)
  | some p =>
    obtain ⟨i, hi, hat⟩ := h.cal.pl.no d.2 (by rw [hp]; simp)
    have hpi := h.cal.pl.pl i hi
    rw [hat, hp] at hpi
    obtain rfl : p = i := Option.some.inj hpi
    rcases h.cal.sl with ⟨_, rfl⟩ | ⟨hb, cap, rfl, hR, hne, hcm⟩
    · simp at hi
    · refine (put_set bc hb bm cap G.length now G P d p w h.cal rfl (by omega) hd hp hi hat hR hne).mono ?_
      rintro e w' ⟨rfl, G', P', r1, r2, r3, r4, r5, r6⟩
      have hsz := r6.size
      have hnt := h.nt
      have hl2 : G'.length = G.length := by rw [r3.length_eq]; simp
      have hnb : hb ≠ bt := by
        intro e
        exact hnt.2.2 (by simp [Value.ownBlock, e])
      have hbm : bc ≠ bm := ne_of_cell h.cal.map h.cal.cells.1
      have htop : w'.heap[bt]? = some (.cells #[.pointer (some ⟨bc, 0, none⟩)] 67 (0, 0)) := by
        rw [r6.block bt htl (by rintro (e | e); exact hnb e.symm; exact hnt.2.1 e)]; exact h.top
      have hC : Cal w' bc bm (.slice (some ⟨hb, 0, none⟩) G.length cap) now G' P' := by
        refine ⟨?_, Or.inr ⟨hb, cap, by rw [hl2], r1, hne, hcm⟩, by rw [hl2]; exact r4, r5, r2, ?_, ?_⟩
        · rw [r6.block bc hcl (by rintro (e | e); exact hne e.symm; exact hbm e)]; exact h.cal.blk
        · exact (Mv.set h.cal.heap h.cal.nd h.cal.pl hi hat).nd.perm r3
        · intro x hx
          rcases List.mem_or_eq_of_mem_set (r3.mem_iff.1 hx) with h1 | h1
          · exact h.cal.ok x h1
          · rw [h1]; exact hd
      refine ⟨rfl, fun k => k = bt ∨ k = bc ∨ k = bm ∨ k = hb, ⟨_, G', P', htop, hC, r3.trans (set_there hi h.cal.nd hat h.perm), setR_srt h.srt d, Or.inl rfl, Or.inr (Or.inl rfl), Or.inr (Or.inr (Or.inl rfl)), fun k hk => ?_, hnt⟩, Frm.mono r6 (fun k _ hk => ?_), fun k hk => ?_⟩
      · simp [Value.ownBlock] at hk
        exact Or.inr (Or.inr (Or.inr hk.symm))
      · rcases hk with e | e
        · rw [e]; exact h.fv hb rfl
        · rw [e]; exact h.fm
      · have hhb := hR.lt
        rcases hk with e | e | e | e
        · exact ⟨Or.inl (by rw [e]; exact h.ft), by omega⟩
        · exact ⟨Or.inl (by rw [e]; exact h.fc), by omega⟩
        · exact ⟨Or.inl (by rw [e]; exact h.fm), by omega⟩
        · exact ⟨Or.inl (by rw [e]; exact h.fv hb rfl), by omega⟩

set_option maxRecDepth 100000 in
set_option maxHeartbeats 4000000 in
theorem set_bad (bt : Nat) (F : Nat → Prop) (now n t : Int) (R : List Due) (w : World) (h : TkS w bt F now R) (hz : refE now (t, n) ≠ 0) :
    Calls Try.prog 18 #[.pointer (some ⟨bt, 0, none⟩), .int .i64 n, .int .i64 t] w fun e w' => e = .returned (.int .i64 (refE now (t, n))) ∧ Old w w' := by
  obtain ⟨w1, e1, g1, b1, b2⟩ : ∃ w1, w.alloc (.cells #[.int .i64 t, .int .i64 n] 26) = w1 ∧ Old w w1 ∧ w1.cell? ⟨w.heap.size, 0, none⟩ = some (.int .i64 t) ∧ w1.cell? ⟨w.heap.size, 1, none⟩ = some (.int .i64 n) :=
    ⟨_, rfl, (Old.refl w).alloc _, new_cell _ _ _ _ _ rfl, new_cell _ _ _ _ _ rfl⟩
  obtain ⟨bc, bm, v, G, P, h⟩ := h
  have hk := hid (kept_any bt _ w h.cell)
  have c0 := g1.cell h.cal.cells.1
  have kh := hid h
  have kg := hid g1
  clear h g1
  generalize hzz : refE now (t, n) = z at *
  have kzz := hid hzz
  clear hzz
  have hb : (z == 0) = false := by rw [beq_eq_false_iff_ne]; exact hz
  go_enter Try.func18, Try.ntmps18
  go_wp2_with fail
  refine hk.out.mono ?_
  rintro e w2 ⟨rfl, e2⟩
  rw [e2]
  clear e2 w2
  go_wp2_with fail
  try rw [e1]
  clear e1
  generalize w.heap.size = s at *
  refine wp_region_noPanic ?_
  refine wp_region_held_drew (S := fun W => Old w1 W) (by kernel_rfl) ((Old.refl w1).drewN 1) (fun hHeld => ?_)
  generalize w1.drew = W0 at *
  refine' wpAnyH_take (i := 0) rfl (by kernel_rfl) (by kernel_rfl) (by kernel_rfl) (fun _ _ _ h => h) (Or.inl ⟨by rfl, ?_⟩) hHeld ?_
  rotate_left
  · intro W hSw
    have hSv : Old w1 W := hSw
    clear hSw
    skip
    simp only [List.getElem_toArray, List.getElem_cons_zero]
    go_simp
    all_goals with_reducible rfl
  simp only [List.getElem_toArray, List.getElem_cons_zero, Act.put, List.setIfInBounds_toArray, List.set_cons_zero, List.set_cons_succ]
  refine' wpAnyH_take (i := 1) rfl (by kernel_rfl) (by kernel_rfl) (by kernel_rfl) (fun _ _ _ h => h) (Or.inl ⟨by rfl, ?_⟩) hHeld ?_
  rotate_left
  · intro W hSw
    have hSv : Old w1 W := hSw
    clear hSw
    skip
    simp only [List.getElem_toArray, List.getElem_cons_zero, List.getElem_cons_succ]
    go_simp
    all_goals with_reducible rfl
  simp only [List.getElem_toArray, List.getElem_cons_zero, List.getElem_cons_succ, Act.put, List.setIfInBounds_toArray, List.set_cons_zero, List.set_cons_succ]
  refine' wpAnyH_take (i := 2) rfl (by kernel_rfl) (by kernel_rfl) (by kernel_rfl) (fun _ _ _ h => h) (Or.inl ⟨by rfl, ?_⟩) hHeld ?_
  rotate_left
  · intro W hSw
    have hSv : Old w1 W := hSw
    clear hSw
    skip
    simp only [List.getElem_toArray, List.getElem_cons_zero, List.getElem_cons_succ]
    go_simp
    all_goals with_reducible rfl
  simp only [List.getElem_toArray, List.getElem_cons_zero, List.getElem_cons_succ, Act.put, List.setIfInBounds_toArray, List.set_cons_zero, List.set_cons_succ]
  refine' wpAnyH_take (i := 3) rfl (by kernel_rfl) (by kernel_rfl) (by kernel_rfl) (fun _ _ _ h => h) (Or.inl ⟨by rfl, ?_⟩) hHeld ?_
  rotate_left
  · intro W hSw
    have hSv : Old w1 W := hSw
    clear hSw
    have q1 := hSv.cell c0; have q2 := hSv.cell b1; have q3 := hSv.cell b2
    simp only [List.getElem_toArray, List.getElem_cons_zero, List.getElem_cons_succ]
    go_simp
    all_goals with_reducible rfl
  simp only [List.getElem_toArray, List.getElem_cons_zero, List.getElem_cons_succ, Act.put, List.setIfInBounds_toArray, List.set_cons_zero, List.set_cons_succ]
  refine' wpAnyH_take (i := 4) rfl (by kernel_rfl) (by kernel_rfl) (by kernel_rfl) (fun _ _ _ h => h) (Or.inl ⟨by rfl, ?_⟩) hHeld ?_
  rotate_left
  · intro W hSw
    have hSv : Old w1 W := hSw
    clear hSw
    have q1 := hSv.cell c0; have q2 := hSv.cell b1; have q3 := hSv.cell b2
    simp only [List.getElem_toArray, List.getElem_cons_zero, List.getElem_cons_succ]
    go_simp
    all_goals with_reducible rfl
  simp only [List.getElem_toArray, List.getElem_cons_zero, List.getElem_cons_succ, Act.put, List.setIfInBounds_toArray, List.set_cons_zero, List.set_cons_succ]
  refine wpAnyH_ready (rs := [5]) (by kernel_rfl) (by simp) ?_
  refine AllReadyH.cons (o := _) rfl (fun K hK => ?_) AllReadyH.nil
  simp only [List.getElem_toArray, List.getElem_cons_zero, List.getElem_cons_succ]
  go_simp
  refine hK.out _ _ (hHeld.alloc _) (fun _ => ?_)
  clear hK K
  try simp only [Act.put, List.setIfInBounds_toArray, List.set_cons_zero, List.set_cons_succ]
  refine wpAnyH_ready (rs := [6]) (by kernel_rfl) (by simp) ?_
  refine AllReadyH.cons (o := _) rfl (fun K hK => ?_) AllReadyH.nil
  simp only [List.getElem_toArray, List.getElem_cons_zero, List.getElem_cons_succ]
  go_simp
  refine (refusal_any W0.heap.size now (t, n) _ (new_cell _ _ _ _ _ rfl) (new_cell _ _ _ _ _ rfl)).mono ?_
  rintro e w3 ⟨rfl, h3⟩
  refine hK.out _ _ ((hHeld.alloc _).trans h3) (fun _ => ?_)
  have hH2 := (hHeld.alloc _).trans h3
  clear hK K hHeld h3
  have hHeld := hH2
  clear hH2
  try simp only [Act.put, List.setIfInBounds_toArray, List.set_cons_zero, List.set_cons_succ]
  refine wpAnyH_ready (rs := [7]) (by kernel_rfl) (by simp) ?_
  refine AllReadyH.cons (o := _) rfl (fun K hK => ?_) AllReadyH.nil
  simp only [List.getElem_toArray, List.getElem_cons_zero, List.getElem_cons_succ]
  go_simp
  refine hK.out _ _ hHeld (fun _ => ?_)
  clear hK K
  try simp only [Act.put, List.setIfInBounds_toArray, List.set_cons_zero, List.set_cons_succ]
  refine wpAnyH_done (by kernel_rfl) ?_ _
  refine NoPanic.normal ?_
  rw [kzz.out]
  go_wp2
  go_ret
  exact ⟨rfl, kg.out.trans hHeld⟩

set_option maxRecDepth 100000 in
set_option maxHeartbeats 4000000 in
theorem set_m (bt bc bm : Nat) (v : Value) (G : List Due) (P : Int → Option Nat) (F : Nat → Prop) (now n t : Int) (R : List Due) (w : World) (h : Tk w bt F now R bc bm v G P) (hz : refE now (t, n) = 0) (hl : R.length < 1000000000) (hn : i64ok n) :
    Calls Try.prog 18 #[.pointer (some ⟨bt, 0, none⟩), .int .i64 n, .int .i64 t] w fun e w' => e = .returned (.int .i64 0) ∧ PutM w bt bc bm F now (setR R (t, n)) w' := by
  obtain ⟨w1, e1, g1, b1, b2⟩ : ∃ w1, w.alloc (.cells #[.int .i64 t, .int .i64 n] 26) = w1 ∧ Old w w1 ∧ w1.cell? ⟨w.heap.size, 0, none⟩ = some (.int .i64 t) ∧ w1.cell? ⟨w.heap.size, 1, none⟩ = some (.int .i64 n) :=
    ⟨_, rfl, (Old.refl w).alloc _, new_cell _ _ _ _ _ rfl, new_cell _ _ _ _ _ rfl⟩
  have hk := hid (kept_any bt _ w h.cell)
  have c0 := g1.cell h.cal.cells.1
  have kh := hid h
  have kg := hid g1
  clear h g1
  have kz := hid hz
  have kp := hid (fun W (hW : Old w W) => put_any bt bc bm v F now R G P (t, n) W (kh.out.kept hW (fun _ _ h => h)) hl hn)
  clear hz
  go_enter Try.func18, Try.ntmps18
  go_wp2_with fail
  refine hk.out.mono ?_
  rintro e w2 ⟨rfl, e2⟩
  rw [e2]
  clear e2 w2
  go_wp2_with fail
  try rw [e1]
  clear e1
  generalize w.heap.size = s at *
  refine wp_region_noPanic ?_
  refine wp_region_held_drew (S := fun W => Old w1 W) (by kernel_rfl) ((Old.refl w1).drewN 1) (fun hHeld => ?_)
  generalize w1.drew = W0 at *
  refine' wpAnyH_take (i := 0) rfl (by kernel_rfl) (by kernel_rfl) (by kernel_rfl) (fun _ _ _ h => h) (Or.inl ⟨by rfl, ?_⟩) hHeld ?_
  rotate_left
  · intro W hSw
    have hSv : Old w1 W := hSw
    clear hSw
    skip
    simp only [List.getElem_toArray, List.getElem_cons_zero]
    go_simp
    all_goals with_reducible rfl
  simp only [List.getElem_toArray, List.getElem_cons_zero, Act.put, List.setIfInBounds_toArray, List.set_cons_zero, List.set_cons_succ]
  refine' wpAnyH_take (i := 1) rfl (by kernel_rfl) (by kernel_rfl) (by kernel_rfl) (fun _ _ _ h => h) (Or.inl ⟨by rfl, ?_⟩) hHeld ?_
  rotate_left
  · intro W hSw
    have hSv : Old w1 W := hSw
    clear hSw
    skip
    simp only [List.getElem_toArray, List.getElem_cons_zero, List.getElem_cons_succ]
    go_simp
    all_goals with_reducible rfl
  simp only [List.getElem_toArray, List.getElem_cons_zero, List.getElem_cons_succ, Act.put, List.setIfInBounds_toArray, List.set_cons_zero, List.set_cons_succ]
  refine' wpAnyH_take (i := 2) rfl (by kernel_rfl) (by kernel_rfl) (by kernel_rfl) (fun _ _ _ h => h) (Or.inl ⟨by rfl, ?_⟩) hHeld ?_
  rotate_left
  · intro W hSw
    have hSv : Old w1 W := hSw
    clear hSw
    skip
    simp only [List.getElem_toArray, List.getElem_cons_zero, List.getElem_cons_succ]
    go_simp
    all_goals with_reducible rfl
  simp only [List.getElem_toArray, List.getElem_cons_zero, List.getElem_cons_succ, Act.put, List.setIfInBounds_toArray, List.set_cons_zero, List.set_cons_succ]
  refine' wpAnyH_take (i := 3) rfl (by kernel_rfl) (by kernel_rfl) (by kernel_rfl) (fun _ _ _ h => h) (Or.inl ⟨by rfl, ?_⟩) hHeld ?_
  rotate_left
  · intro W hSw
    have hSv : Old w1 W := hSw
    clear hSw
    have q1 := hSv.cell c0; have q2 := hSv.cell b1; have q3 := hSv.cell b2
    simp only [List.getElem_toArray, List.getElem_cons_zero, List.getElem_cons_succ]
    go_simp
    all_goals with_reducible rfl
  simp only [List.getElem_toArray, List.getElem_cons_zero, List.getElem_cons_succ, Act.put, List.setIfInBounds_toArray, List.set_cons_zero, List.set_cons_succ]
  refine' wpAnyH_take (i := 4) rfl (by kernel_rfl) (by kernel_rfl) (by kernel_rfl) (fun _ _ _ h => h) (Or.inl ⟨by rfl, ?_⟩) hHeld ?_
  rotate_left
  · intro W hSw
    have hSv : Old w1 W := hSw
    clear hSw
    have q1 := hSv.cell c0; have q2 := hSv.cell b1; have q3 := hSv.cell b2
    simp only [List.getElem_toArray, List.getElem_cons_zero, List.getElem_cons_succ]
    go_simp
    all_goals with_reducible rfl
  simp only [List.getElem_toArray, List.getElem_cons_zero, List.getElem_cons_succ, Act.put, List.setIfInBounds_toArray, List.set_cons_zero, List.set_cons_succ]
  refine wpAnyH_ready (rs := [5]) (by kernel_rfl) (by simp) ?_
  refine AllReadyH.cons (o := _) rfl (fun K hK => ?_) AllReadyH.nil
  simp only [List.getElem_toArray, List.getElem_cons_zero, List.getElem_cons_succ]
  go_simp
  refine hK.out _ _ (hHeld.alloc _) (fun _ => ?_)
  clear hK K
  try simp only [Act.put, List.setIfInBounds_toArray, List.set_cons_zero, List.set_cons_succ]
  refine wpAnyH_ready (rs := [6]) (by kernel_rfl) (by simp) ?_
  refine AllReadyH.cons (o := _) rfl (fun K hK => ?_) AllReadyH.nil
  simp only [List.getElem_toArray, List.getElem_cons_zero, List.getElem_cons_succ]
  go_simp
  refine (refusal_any W0.heap.size now (t, n) _ (new_cell _ _ _ _ _ rfl) (new_cell _ _ _ _ _ rfl)).mono ?_
  rintro e w3 ⟨rfl, h3⟩
  refine hK.out _ _ ((hHeld.alloc _).trans h3) (fun _ => ?_)
  have hH2 := (hHeld.alloc _).trans h3
  clear hK K hHeld h3
  have hHeld := hH2
  clear hH2
  try simp only [Act.put, List.setIfInBounds_toArray, List.set_cons_zero, List.set_cons_succ]
  refine wpAnyH_ready (rs := [7]) (by kernel_rfl) (by simp) ?_
  refine AllReadyH.cons (o := _) rfl (fun K hK => ?_) AllReadyH.nil
  simp only [List.getElem_toArray, List.getElem_cons_zero, List.getElem_cons_succ]
  go_simp
  refine hK.out _ _ hHeld (fun _ => ?_)
  clear hK K
  try simp only [Act.put, List.setIfInBounds_toArray, List.set_cons_zero, List.set_cons_succ]
  refine wpAnyH_done (by kernel_rfl) ?_ _
  refine NoPanic.normal ?_
  rw [kz.out]
  have y1 := hHeld.cell b1
  have y2 := hHeld.cell b2
  have kW := hid (kg.out.trans hHeld)
  clear hHeld b1 b2 c0
  go_wp2_with fail
  refine (kp.out _ kW.out).mono ?_
  rintro e w5 ⟨rfl, F', a1, a2, a3⟩
  have kk := hid (show PutM w bt bc bm F now (setR R (t, n)) w5 from ⟨F', a1, Frm.trans (Frm.mono kW.out (fun _ _ h => h.elim)) a2 (fun _ _ h => h), fun k hk => ⟨(a3 k hk).1.elim Or.inl (fun h => Or.inr (Nat.le_trans kW.out.size h)), (a3 k hk).2⟩⟩)
  clear a1 a2 a3
  go_wp2
  go_ret
  exact ⟨rfl, kk.out⟩

theorem set_good (bt : Nat) (F : Nat → Prop) (now n t : Int) (R : List Due) (w : World) (h : TkS w bt F now R) (hz : refE now (t, n) = 0) (hl : R.length < 1000000000) (hn : i64ok n) :
    Calls Try.prog 18 #[.pointer (some ⟨bt, 0, none⟩), .int .i64 n, .int .i64 t] w fun e w' => e = .returned (.int .i64 0) ∧ PutP w bt F now (setR R (t, n)) w' := by
  obtain ⟨bc, bm, v, G, P, h⟩ := h
  exact (set_m bt bc bm v G P F now n t R w h hz hl hn).mono (fun _ _ h => ⟨h.1, h.2.put⟩)
end Go.Proofs.Ytbaibikpdaphoaa
