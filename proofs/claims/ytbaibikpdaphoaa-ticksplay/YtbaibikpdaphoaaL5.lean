/- A due is laid into the heap. -/
import Derived.Test.YtbaibikpdaphoaaL4
namespace Go.Proofs.Ytbaibikpdaphoaa
open Go.RowKit Go.Lib Go.Maps

/-- What the call of turn reads, and leaves. -/
def Lay4 (W : World) (s bc hb n cap : Nat) (d0 d1 : Int) : Prop := W.cell? ⟨s, 0, none⟩ = some (.pointer (some ⟨bc, 0, none⟩)) ∧ W.cell? ⟨s + 1, 0, none⟩ = some (.int .i64 d0) ∧ W.cell? ⟨s + 1, 1, none⟩ = some (.int .i64 d1) ∧ W.cell? ⟨bc, 1, none⟩ = some (.slice (some ⟨hb, 0, none⟩) n cap)

set_option maxRecDepth 100000 in
set_option maxHeartbeats 8000000 in
theorem lay_any (bc hb bm cap n N : Nat) (d : Due) (M G0 : List Due) (f0 : Nat) (P : Int → Option Nat) (w : World) (h1 : w.cell? ⟨bc, 1, none⟩ = some (.slice (some ⟨hb, 0, none⟩) n cap)) (h2 : w.cell? ⟨bc, 2, none⟩ = some (.map (some bm)))
    (hrow : Row w hb cap M) (hmap : PM w bm N P) (hlen : M.length = n) (hbc : hb ≠ bc) (hMv : Mv G0 d (P d.2) M G0 f0 P) (hG : G0.length = n) (hn : n ≤ 1000000000) (hN : N ≤ 1000000000) (hI : ∀ x ∈ G0, i64ok x.2) :
    Calls Try.prog 41 #[.pointer (some ⟨bc, 0, none⟩), .int .i64 (f0 : Int), .agg #[.int .i64 d.1, .int .i64 d.2]] w fun e w' =>
      e = .returned (.tuple #[]) ∧ ∃ G' P', Row w' hb cap G' ∧ IsHeap G' ∧ G'.Perm G0 ∧ PM w' bm (moreN N (P d.2)) P' ∧ Pl G' P' ∧ Frm (fun k => k = hb ∨ k = bm) w w' := by
  have hmf : ∀ (fn : Fn) (first cap : Array Value) (w : World), (Instr.makeFunc fn first cap).run Try.prog w = .ok (.func fn first cap) w := fun _ _ _ _ => rfl
  obtain ⟨w2, e2, g2, b1, b2, b3⟩ : ∃ w2, (w.alloc (.cells #[.pointer (some ⟨bc, 0, none⟩)] 65)).alloc (.cells #[.int .i64 d.1, .int .i64 d.2] 26) = w2 ∧ Gr w w2 ∧ w2.cell? ⟨w.heap.size, 0, none⟩ = some (.pointer (some ⟨bc, 0, none⟩)) ∧ w2.cell? ⟨w.heap.size + 1, 0, none⟩ = some (.int .i64 d.1) ∧ w2.cell? ⟨w.heap.size + 1, 1, none⟩ = some (.int .i64 d.2) := by
    refine ⟨_, rfl, ((Gr.refl w).alloc _).alloc _, ((Gr.refl _).alloc _).cell (new_cell _ _ _ _ _ rfl), ?_, ?_⟩
    · have := new_cell (w.alloc (.cells #[.pointer (some ⟨bc, 0, none⟩)] 65)) #[.int .i64 d.1, .int .i64 d.2] 26 0 _ rfl
      rwa [alloc_size] at this
    · have := new_cell (w.alloc (.cells #[.pointer (some ⟨bc, 0, none⟩)] 65)) #[.int .i64 d.1, .int .i64 d.2] 26 1 _ rfl
      rwa [alloc_size] at this
  have hlt := hrow.lt
  have kt := hid (fun W (h : Gr w2 W) => turn_any w.heap.size bc hb bm cap n N d M G0 f0 P W (h.cell b1) (h.cell (g2.cell h1)) (h.cell (g2.cell h2)) (hrow.kept (g2.trans h).old (fun h => h)) (hmap.kept (g2.trans h).old (fun h => h)) hlen (by omega) hbc hMv hG hn hN hI)
  have kg := hid g2
  have kmap := hid (fun W (h : Gr w2 W) => hmap.kept (g2.trans h).old (fun h => h))
  replace h1 := g2.cell h1
  obtain ⟨d0, d1⟩ := d
  clear hrow hmap hMv hI h2 g2
  go_enter Try.func41, Try.ntmps41
  go_wp2_with fail
  try rw [e2]
  clear e2
  generalize w.heap.size = s at *
  refine wp_region_noPanic ?_
  have hg0 := hid ((Gr.refl w2).drew)
  refine wp_region_held_drew (S := fun W => Lay4 W s bc hb n cap d0 d1) (by kernel_rfl) ⟨hg0.out.cell b1, hg0.out.cell b2, hg0.out.cell b3, hg0.out.cell h1⟩ (fun hHeld => ?_)
  generalize w2.drew = W0 at *
  refine' wpAnyH_take (i := 0) rfl (by kernel_rfl) (by kernel_rfl) (by kernel_rfl) (fun _ _ _ h => h) (Or.inl ⟨by rfl, ?_⟩) hHeld ?_
  rotate_left
  · intro W hSw
    have hSv : Lay4 W s bc hb n cap d0 d1 := hSw
    clear hSw
    obtain ⟨q1, q2, q3, q4⟩ := hSv
    simp only [List.getElem_toArray, List.getElem_cons_zero]
    go_simp
    all_goals with_reducible rfl
  simp only [List.getElem_toArray, List.getElem_cons_zero, Act.put, List.setIfInBounds_toArray, List.set_cons_zero, List.set_cons_succ]
  refine' wpAnyH_take (i := 1) rfl (by kernel_rfl) (by kernel_rfl) (by kernel_rfl) (fun _ _ _ h => h) (Or.inl ⟨by rfl, ?_⟩) hHeld ?_
  rotate_left
  · intro W hSw
    have hSv : Lay4 W s bc hb n cap d0 d1 := hSw
    clear hSw
    skip
    simp only [List.getElem_toArray, List.getElem_cons_zero, List.getElem_cons_succ]
    go_simp
    all_goals with_reducible rfl
  simp only [List.getElem_toArray, List.getElem_cons_zero, List.getElem_cons_succ, Act.put, List.setIfInBounds_toArray, List.set_cons_zero, List.set_cons_succ]
  refine' wpAnyH_take (i := 2) rfl (by kernel_rfl) (by kernel_rfl) (by kernel_rfl) (fun _ _ _ h => h) (Or.inl ⟨by rfl, ?_⟩) hHeld ?_
  rotate_left
  · intro W hSw
    have hSv : Lay4 W s bc hb n cap d0 d1 := hSw
    clear hSw
    skip
    simp only [List.getElem_toArray, List.getElem_cons_zero, List.getElem_cons_succ]
    go_simp
    all_goals with_reducible rfl
  simp only [List.getElem_toArray, List.getElem_cons_zero, List.getElem_cons_succ, Act.put, List.setIfInBounds_toArray, List.set_cons_zero, List.set_cons_succ]
  refine' wpAnyH_take (i := 3) rfl (by kernel_rfl) (by kernel_rfl) (by kernel_rfl) (fun _ _ _ h => h) (Or.inl ⟨by rfl, ?_⟩) hHeld ?_
  rotate_left
  · intro W hSw
    have hSv : Lay4 W s bc hb n cap d0 d1 := hSw
    clear hSw
    obtain ⟨q1, q2, q3, q4⟩ := hSv
    simp only [List.getElem_toArray, List.getElem_cons_zero, List.getElem_cons_succ]
    go_simp
    all_goals with_reducible rfl
  simp only [List.getElem_toArray, List.getElem_cons_zero, List.getElem_cons_succ, Act.put, List.setIfInBounds_toArray, List.set_cons_zero, List.set_cons_succ]
  refine' wpAnyH_take (i := 4) rfl (by kernel_rfl) (by kernel_rfl) (by kernel_rfl) (fun _ _ _ h => h) (Or.inl ⟨by rfl, ?_⟩) hHeld ?_
  rotate_left
  · intro W hSw
    have hSv : Lay4 W s bc hb n cap d0 d1 := hSw
    clear hSw
    skip
    simp only [List.getElem_toArray, List.getElem_cons_zero, List.getElem_cons_succ]
    go_simp
    all_goals with_reducible rfl
  simp only [List.getElem_toArray, List.getElem_cons_zero, List.getElem_cons_succ, Act.put, List.setIfInBounds_toArray, List.set_cons_zero, List.set_cons_succ]
  refine' wpAnyH_take (i := 5) rfl (by kernel_rfl) (by kernel_rfl) (by kernel_rfl) (fun _ _ _ h => h) (Or.inl ⟨by rfl, ?_⟩) hHeld ?_
  rotate_left
  · intro W hSw
    have hSv : Lay4 W s bc hb n cap d0 d1 := hSw
    clear hSw
    obtain ⟨q1, q2, q3, q4⟩ := hSv
    simp only [List.getElem_toArray, List.getElem_cons_zero, List.getElem_cons_succ]
    go_simp
    all_goals with_reducible rfl
  simp only [List.getElem_toArray, List.getElem_cons_zero, List.getElem_cons_succ, Act.put, List.setIfInBounds_toArray, List.set_cons_zero, List.set_cons_succ]
  refine' wpAnyH_take (i := 6) rfl (by kernel_rfl) (by kernel_rfl) (by kernel_rfl) (fun _ _ _ h => h) (Or.inl ⟨by rfl, ?_⟩) hHeld ?_
  rotate_left
  · intro W hSw
    have hSv : Lay4 W s bc hb n cap d0 d1 := hSw
    clear hSw
    skip
    simp only [List.getElem_toArray, List.getElem_cons_zero, List.getElem_cons_succ]
    go_simp
    all_goals with_reducible rfl
  simp only [List.getElem_toArray, List.getElem_cons_zero, List.getElem_cons_succ, Act.put, List.setIfInBounds_toArray, List.set_cons_zero, List.set_cons_succ]
  refine wpAnyH_ready (rs := [7]) (by kernel_rfl) (by simp) ?_
  refine AllReadyH.cons (o := _) rfl (fun K hK => ?_) AllReadyH.nil
  simp only [List.getElem_toArray, List.getElem_cons_zero, List.getElem_cons_succ]
  go_simp
  refine (kt.out _ hg0.out).mono ?_
  rintro e w1 ⟨rfl, G', P', r1, r2, r3, r4, r5, r6⟩
  have hS1 : Lay4 w1 s bc hb n cap d0 d1 := by
    obtain ⟨q1, q2, q3, q4⟩ := hHeld
    have k : ∀ {b o : Nat} {v : Value}, W0.cell? ⟨b, o, none⟩ = some v → hb ≠ b → w1.cell? ⟨b, o, none⟩ = some v := by
      intro b o v hc h1
      refine frm_cell r6 hc (fun e => ?_)
      rcases e with e | e
      · exact h1 e.symm
      · exact ne_of_cell (kmap.out _ hg0.out) hc e
    exact ⟨k q1 (by omega), k q2 (by omega), k q3 (by omega), k q4 hbc⟩
  refine hK.out _ _ hS1 (fun _ => ?_)
  clear hK K hHeld
  have kk := hid (show ∃ G' P', Row w1 hb cap G' ∧ IsHeap G' ∧ G'.Perm G0 ∧ PM w1 bm (moreN N (P d1)) P' ∧ Pl G' P' ∧ Frm (fun k => k = hb ∨ k = bm) w w1 from ⟨G', P', r1, r2, r3, r4, r5, Frm.trans (Frm.mono (kg.out.trans hg0.out).old (fun _ _ h => h.elim)) r6 (fun _ _ h => h)⟩)
  clear r1 r2 r3 r4 r5 r6
  try simp only [Act.put, List.setIfInBounds_toArray, List.set_cons_zero, List.set_cons_succ]
  refine wpAnyH_done (by kernel_rfl) ?_ _
  refine NoPanic.normal ?_
  go_wp2
  go_end0
  exact ⟨rfl, kk.out⟩
end Go.Proofs.Ytbaibikpdaphoaa
