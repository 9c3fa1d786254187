/- A keeper's job, done for the first time. -/
import Derived.Test.YtkihcejhjmpijaaO10
namespace Go.Proofs.Ytkihcejhjmpijaa
open Go.RowKit Go.Maps

theorem e5 : ∀ args w, (callFunc 5 args).run Try.prog w = .ok (.enter 5 args) w := enters_of Try.func5 (by kernel_rfl) rfl
theorem e12 : ∀ args w, (callFunc 12 args).run Try.prog w = .ok (.enter 12 args) w := enters_of Try.func12 (by kernel_rfl) rfl
theorem e31 : ∀ args w, (callFunc 31 args).run Try.prog w = .ok (.enter 31 args) w := enters_of Try.func31 (by kernel_rfl) rfl

theorem key_good (kk kb mb N b bj s s2 : Nat) (runs v : Int) (f : List UInt8 → Option Nat) (w : World) (o : OutM w b 0 0 0 0 0) (h : KeepS w kb mb runs N f) (hs : w.cell? ⟨s, 0, none⟩ = some (.pointer (some ⟨kk, 0, none⟩))) (hkk : w.cell? ⟨kk, 0, none⟩ = some (.pointer (some ⟨kb, 0, none⟩))) (hs2 : w.cell? ⟨s2, 0, none⟩ = some (.pointer (some ⟨b, 0, none⟩))) (j : JobS w bj v 0) (hr : IntKind.i64.wrap (runs + 1) = runs + 1)
    (n1 : b ≠ kb ∧ bj ≠ b ∧ bj ≠ kb) (n2 : s ≠ kb ∧ s ≠ b ∧ s ≠ bj) (n3 : kk ≠ kb ∧ kk ≠ b ∧ kk ≠ bj) (n4 : s2 ≠ kb ∧ s2 ≠ b ∧ s2 ≠ bj) :
    Calls Try.prog 15 #[.pointer (some ⟨b, 0, none⟩), .func (.func 5) #[.pointer (some ⟨bj, 0, none⟩)] #[], .func (.func 31) #[] #[.pointer (some ⟨s, 0, none⟩), .pointer (some ⟨s2, 0, none⟩)]] w fun e' w' => e' = .returned (.tuple #[.int .i64 v, .bool true, .int .i64 0]) ∧ Frm (fun k => k = b ∨ k = kb ∨ k = bj) w w' ∧ KeepS w' kb mb (runs + 1) N f ∧ OutM w' b 1 0 1 v 0 ∧ JobS w' bj v 1 := by
  have lo := o.lt
  have lj := j.lt
  have lk := h.lt
  have nb : mb ≠ b := fun e => by
    have := h.km.noCell 0
    rw [e, o.c0] at this
    cases this
  have nj : mb ≠ bj := fun e => by
    have := h.km.noCell 0
    rw [e, j.c0] at this
    cases this
  have nk : mb ≠ kb := fun e => h.ne e.symm
  refine (first_first b _ _ _ _ 0 0 0 v 0 w o (fun W2 W' => Frm (fun k => k = b ∨ k = kb ∨ k = bj) W2 W' ∧ OutM W' b 0 1 1 v 0 ∧ KeepS W' kb mb (runs + 1) N f ∧ JobS W' bj v 1) ?_).mono ?_
  · intro W2 I
    have zI := I.size
    have j2 := j.frm I.frm n1.2.1
    have h2 := h.frm I.frm (fun e => n1.1 e.symm) nb
    have d1 := frm_cell I.frm hs n2.2.1
    have d2 := frm_cell I.frm hkk n3.2.1
    have d3 := frm_cell I.frm hs2 n4.2.1
    have f0 := frm_set W2 b 5 (.int .i64 150)
    have z5 : (W2.setCell ⟨b, 5, none⟩ (.int .i64 150)).heap.size = W2.heap.size := by simp [World.setCell]
    obtain ⟨E, hE⟩ : ∃ E, Value.func (.func 31) #[] #[.pointer (some ⟨s, 0, none⟩), .pointer (some ⟨s2, 0, none⟩)] = E := ⟨_, rfl⟩
    have cE := new_cell (W2.setCell ⟨b, 5, none⟩ (.int .i64 150)) #[E] 1 0 _ rfl
    have oA : Old (W2.setCell ⟨b, 5, none⟩ (.int .i64 150)) ((W2.setCell ⟨b, 5, none⟩ (.int .i64 150)).alloc (.cells #[E] 1)) := (Old.refl _).alloc _
    have oJ := (I.out.s5 150).frm oA (fun h => h)
    have jJ := (j2.frm f0 n1.2.1).frm oA (fun h => h)
    have fJ : Frm (fun k => k = b ∨ k = bj) W2 ((W2.setCell ⟨b, 5, none⟩ (.int .i64 150)).alloc (.cells #[E] 1)) := Frm.trans (Frm.mono f0 (fun _ _ h => Or.inl h)) oA (fun _ _ h => h.elim)
    rw [z5] at cE
    obtain ⟨J0, x0⟩ : ∃ J0, (W2.setCell ⟨b, 5, none⟩ (.int .i64 150)).alloc (.cells #[E] 1) = J0 := ⟨_, rfl⟩
    rw [x0] at cE oJ jJ fJ
    refine run_good b _ _ _ _ 0 1 0 0 0 v W2 I.out e5 e31 (fun X => Frm (fun k => k = b ∨ k = bj) W2 X ∧ OutM X b 0 1 0 0 150 ∧ X.cell? ⟨W2.heap.size, 0, none⟩ = some E ∧ JobS X bj v 1) _ (fun X hX => ⟨hX.2.1, by rw [hE]; exact hX.2.2.1⟩) ?_ ?_
    · rw [hE, x0]
      refine (job_do bj v _ jJ.c0 jJ.c1 (jJ.fz 1)).mono ?_
      rintro e' X ⟨rfl, rfl⟩
      have g2 := frm_set J0 bj 1 (.int .i64 1)
      exact ⟨rfl, Frm.trans fJ g2 (fun k _ h => Or.inr h), oJ.frm g2 (fun e => n1.2.1 e.symm), frm_cell g2 cE (by simp only; omega), jJ.s1 1⟩
    · rintro X ⟨fX, oX, cX, jX⟩
      have g1 := frm_set X b 4 (.int .i64 v)
      have g2 := frm_set (X.setCell ⟨b, 4, none⟩ (.int .i64 v)) b 5 (.int .i64 0)
      have oY := (oX.s4 v).s5 0
      have gY : Frm (fun k => k = b ∨ k = bj) W2 ((X.setCell ⟨b, 4, none⟩ (.int .i64 v)).setCell ⟨b, 5, none⟩ (.int .i64 0)) := Frm.trans (Frm.trans fX g1 (fun k _ h => Or.inl h)) g2 (fun k _ h => Or.inl h)
      have jY := (jX.frm g1 n1.2.1).frm g2 n1.2.1
      obtain ⟨Y, xY⟩ : ∃ Y, (X.setCell ⟨b, 4, none⟩ (.int .i64 v)).setCell ⟨b, 5, none⟩ (.int .i64 0) = Y := ⟨_, rfl⟩
      rw [xY] at oY gY jY ⊢
      refine (end1_any s s2 kk kb mb N b runs 0 1 0 v 0 f Y (frm_cell gY d1 (by simp only; omega)) (frm_cell gY d2 (by simp only; omega)) (frm_cell gY d3 (by simp only; omega)) (h2.frm gY (by omega) (by omega)) oY n1.1 hr ⟨n2.1, n2.2.1⟩ ⟨n3.1, n3.2.1⟩ ⟨n4.1, n4.2.1⟩).mono ?_
      rintro e' W' ⟨rfl, fE, kE, oE⟩
      have fZ : Frm (fun k => k = b ∨ k = kb ∨ k = bj) W2 W' := Frm.trans (Frm.mono gY (fun k _ h => by omega)) fE (fun k _ h => by omega)
      exact ⟨rfl, ⟨⟨_, oE⟩, fun k h1 h2 => fZ.block k (by omega) (by omega)⟩, fZ, oE, kE, jY.frm fE (by omega)⟩
  · rintro e' w' ⟨rfl, W2, W', I, r, ⟨fQ, oQ, kQ, jQ⟩, oL⟩
    obtain ⟨a1, a2⟩ := out_left oQ oL
    exact ⟨rfl, Frm.trans (Frm.trans (Frm.mono I.frm (fun k _ h => Or.inl h)) fQ (fun _ _ h => h)) a2 (fun k _ h => Or.inl h), kQ.frm a2 (fun e => n1.1 e.symm) nb, a1, jQ.frm a2 n1.2.1⟩

theorem key_wrong (kk kb mb N b s s2 : Nat) (runs : Int) (f : List UInt8 → Option Nat) (w : World) (o : OutM w b 0 0 0 0 0) (h : KeepS w kb mb runs N f) (hs : w.cell? ⟨s, 0, none⟩ = some (.pointer (some ⟨kk, 0, none⟩))) (hkk : w.cell? ⟨kk, 0, none⟩ = some (.pointer (some ⟨kb, 0, none⟩))) (hs2 : w.cell? ⟨s2, 0, none⟩ = some (.pointer (some ⟨b, 0, none⟩))) (hr : IntKind.i64.wrap (runs + 1) = runs + 1)
    (n1 : b ≠ kb) (n2 : s ≠ kb ∧ s ≠ b) (n3 : kk ≠ kb ∧ kk ≠ b) (n4 : s2 ≠ kb ∧ s2 ≠ b) :
    Calls Try.prog 15 #[.pointer (some ⟨b, 0, none⟩), .func (.func 12) #[] #[], .func (.func 31) #[] #[.pointer (some ⟨s, 0, none⟩), .pointer (some ⟨s2, 0, none⟩)]] w fun e' w' => e' = .returned (.tuple #[.int .i64 0, .bool true, .int .i64 150]) ∧ Frm (fun k => k = b ∨ k = kb) w w' ∧ KeepS w' kb mb (runs + 1) N f ∧ OutM w' b 1 0 1 0 150 := by
  have lo := o.lt
  have lk := h.lt
  have nb : mb ≠ b := fun e => by
    have := h.km.noCell 0
    rw [e, o.c0] at this
    cases this
  have nk : mb ≠ kb := fun e => h.ne e.symm
  refine (first_first b _ _ _ _ 0 0 0 0 150 w o (fun W2 W' => Frm (fun k => k = b ∨ k = kb) W2 W' ∧ OutM W' b 0 1 1 0 150 ∧ KeepS W' kb mb (runs + 1) N f) ?_).mono ?_
  · intro W2 I
    have zI := I.size
    have h2 := h.frm I.frm (fun e => n1 e.symm) nb
    have d1 := frm_cell I.frm hs n2.2
    have d2 := frm_cell I.frm hkk n3.2
    have d3 := frm_cell I.frm hs2 n4.2
    have f0 := frm_set W2 b 5 (.int .i64 150)
    have z5 : (W2.setCell ⟨b, 5, none⟩ (.int .i64 150)).heap.size = W2.heap.size := by simp [World.setCell]
    obtain ⟨E, hE⟩ : ∃ E, Value.func (.func 31) #[] #[.pointer (some ⟨s, 0, none⟩), .pointer (some ⟨s2, 0, none⟩)] = E := ⟨_, rfl⟩
    have cE := new_cell (W2.setCell ⟨b, 5, none⟩ (.int .i64 150)) #[E] 1 0 _ rfl
    have oA : Old (W2.setCell ⟨b, 5, none⟩ (.int .i64 150)) ((W2.setCell ⟨b, 5, none⟩ (.int .i64 150)).alloc (.cells #[E] 1)) := (Old.refl _).alloc _
    have oJ := (I.out.s5 150).frm oA (fun h => h)
    have fJ : Frm (fun k => k = b) W2 ((W2.setCell ⟨b, 5, none⟩ (.int .i64 150)).alloc (.cells #[E] 1)) := Frm.trans f0 oA (fun _ _ h => h.elim)
    rw [z5] at cE
    obtain ⟨J0, x0⟩ : ∃ J0, (W2.setCell ⟨b, 5, none⟩ (.int .i64 150)).alloc (.cells #[E] 1) = J0 := ⟨_, rfl⟩
    rw [x0] at cE oJ fJ
    refine run_wrong b _ _ _ _ 0 1 0 0 0 9 oops W2 I.out e12 e31 (fun X => Frm (fun k => k = b) W2 X ∧ OutM X b 0 1 0 0 150 ∧ X.cell? ⟨W2.heap.size, 0, none⟩ = some E) _ (fun X hX => by rw [hE]; exact hX.2.2) ?_ ?_
    · rw [hE, x0]
      refine (wrong_any J0).mono ?_
      rintro e' X ⟨rfl, rfl⟩
      exact ⟨rfl, fJ, oJ, cE⟩
    · rintro X ⟨fX, oX, cX⟩
      refine (end1_any s s2 kk kb mb N b runs 0 1 0 0 150 f X (frm_cell fX d1 n2.2) (frm_cell fX d2 n3.2) (frm_cell fX d3 n4.2) (h2.frm fX (fun e => n1 e.symm) nb) oX n1 hr n2 n3 n4).mono ?_
      rintro e' W' ⟨rfl, fE, kE, oE⟩
      have fZ : Frm (fun k => k = b ∨ k = kb) W2 W' := Frm.trans (Frm.mono fX (fun k _ h => Or.inl h)) fE (fun k _ h => by omega)
      exact ⟨rfl, ⟨⟨_, oE⟩, fun k h1 h2 => fZ.block k (by omega) (by omega)⟩, fZ, oE, kE⟩
  · rintro e' w' ⟨rfl, W2, W', I, r, ⟨fQ, oQ, kQ⟩, oL⟩
    obtain ⟨a1, a2⟩ := out_left oQ oL
    exact ⟨rfl, Frm.trans (Frm.trans (Frm.mono I.frm (fun k _ h => Or.inl h)) fQ (fun _ _ h => h)) a2 (fun k _ h => Or.inl h), kQ.frm a2 (fun e => n1 e.symm) nb, a1⟩

theorem keep_none (kk kb : Nat) (w : World) (h : w.cell? ⟨kk, 0, none⟩ = some (.pointer (some ⟨kb, 0, none⟩))) : Calls Try.prog 29 #[.pointer (some ⟨kk, 0, none⟩)] w fun e w' => e = .returned (.bool false) ∧ w' = w := by
  go_enter Try.func29, Try.ntmps29
  go_wp2
  go_ret
  exact ⟨rfl, rfl⟩

set_option maxRecDepth 100000 in
set_option maxHeartbeats 4000000 in
theorem do_any (kk kb b f : Nat) (fc : Array Value) (x : List UInt8) (v e : Int) (ran : Bool) (w : World) (hkk : w.cell? ⟨kk, 0, none⟩ = some (.pointer (some ⟨kb, 0, none⟩))) (TA TF : World → Prop)
    (hA : Calls Try.prog 30 #[.pointer (some ⟨kb, 0, none⟩), .string ⟨x.toArray⟩] (w.alloc (.cells #[.pointer (some ⟨kk, 0, none⟩)] 58)) fun e' W => e' = .returned (.pointer (some ⟨b, 0, none⟩)) ∧ TA W)
    (hF : ∀ W, TA W → Calls Try.prog 15 #[.pointer (some ⟨b, 0, none⟩), .func (.func f) fc #[], .func (.func 31) #[] #[.pointer (some ⟨w.heap.size, 0, none⟩), .pointer (some ⟨W.heap.size, 0, none⟩)]] (W.alloc (.cells #[.pointer (some ⟨b, 0, none⟩)] 66)) fun e' W' => e' = .returned (.tuple #[.int .i64 v, .bool ran, .int .i64 e]) ∧ TF W') :
    Calls Try.prog 20 #[.pointer (some ⟨kk, 0, none⟩), .string ⟨x.toArray⟩, .func (.func f) fc #[]] w fun e' w' => e' = .returned (.tuple #[.int .i64 v, .bool ran, .int .i64 e]) ∧ TF w' := by
  have hq := func_nil 29 rfl f fc #[] (w.alloc (.cells #[.pointer (some ⟨kk, 0, none⟩)] 58))
  have hk1 := ((Old.refl w).alloc (.cells #[.pointer (some ⟨kk, 0, none⟩)] 58)).cell hkk
  have kn := hid (keep_none kk kb _ hk1)
  have kA := hid hA
  have kF := hid hF
  clear hA hF
  go_enter Try.func20, Try.ntmps20
  go_wp2_with (go_at_call 29; refine kn.out.mono ?_; rintro e w' ⟨rfl, rfl⟩)
  refine kA.out.mono ?_
  rintro e' W ⟨rfl, ta⟩
  go_wp2_with fail
  refine (kF.out W ta).mono ?_
  rintro e' W' ⟨rfl, tf⟩
  go_wp2_with fail
  refine bodyPost_ret (v := .tuple #[.int .i64 v, .bool ran, .int .i64 e]) ?_ rfl ⟨rfl, tf⟩
  simp [results, Try.f20, go_sem]
end Go.Proofs.Ytkihcejhjmpijaa
