/- A late one: its value, asked for the first time and again; made. -/
import Derived.Test.YtkihcejhjmpijaaO6
namespace Go.Proofs.Ytkihcejhjmpijaa
open Go.RowKit

/-- A job that counts how often it was done. -/
structure JobS (w : World) (bj : Nat) (v t : Int) : Prop where
  c0 : w.cell? ⟨bj, 0, none⟩ = some (.int .i64 v)
  c1 : w.cell? ⟨bj, 1, none⟩ = some (.int .i64 t)
  fz : ∀ i, w.frozen? ⟨bj, i, none⟩ = false

theorem JobS.lt {w : World} {bj : Nat} {v t : Int} (h : JobS w bj v t) : bj < w.heap.size := World.block_lt_of_cell? w _ h.c0
theorem JobS.frm {S : Nat → Prop} {w w' : World} {bj : Nat} {v t : Int} (h : JobS w bj v t) (hf : Frm S w w') (hS : ¬ S bj) : JobS w' bj v t :=
  ⟨frm_cell hf h.c0 hS, frm_cell hf h.c1 hS, fun i => frm_frozen hf h.lt (h.fz i) hS⟩
theorem JobS.s1 {w : World} {bj : Nat} {v t : Int} (h : JobS w bj v t) (x : Int) : JobS (w.setCell ⟨bj, 1, none⟩ (.int .i64 x)) bj v x :=
  ⟨set_oth h.c0 (by omega), set_same h.c1, set_fz h.fz⟩

/-- What is left of a first one, as the once leaves it. -/
theorem out_left {b : Nat} {ov v e : Int} {W' w' : World} (o : OutM W' b 0 1 ov v e) (h : Old ((W'.drew.setCell ⟨b, 0, none⟩ (.int .u32 1)).setCell ⟨b, 1, none⟩ (.int .i32 0)) w') : OutM w' b 1 0 ov v e ∧ Frm (fun k => k = b) W' w' :=
  ⟨((o.drew.s0 1).s1 0).frm h (fun h => h), Frm.trans (Frm.trans (Frm.trans ((Frm.refl (fun k => k = b) W').drew) (frm_set _ b 0 _) (fun _ _ h => h)) (frm_set _ b 1 _) (fun _ _ h => h)) h (fun _ _ h => h.elim)⟩

theorem e16 : ∀ args w, (callFunc 16 args).run Try.prog w = .ok (.enter 16 args) w := enters_of Try.func16 (by kernel_rfl) rfl
theorem e17 : ∀ args w, (callFunc 17 args).run Try.prog w = .ok (.enter 17 args) w := enters_of Try.func17 (by kernel_rfl) rfl

theorem value_good (lb wb bj : Nat) (v : Int) (w : World) (h : w.cell? ⟨lb, 0, none⟩ = some (.pointer (some ⟨wb, 0, none⟩))) (o : OutM w wb 0 0 0 0 0) (h6 : w.cell? ⟨wb, 6, none⟩ = some (.func (.func 5) #[.pointer (some ⟨bj, 0, none⟩)] #[])) (j : JobS w bj v 0) (n : bj ≠ wb) :
    Calls Try.prog 9 #[.pointer (some ⟨lb, 0, none⟩)] w fun e' w' => e' = .returned (.tuple #[.int .i64 v, .bool true, .int .i64 0]) ∧ Frm (fun k => k = wb ∨ k = bj) w w' ∧ OutM w' wb 1 0 1 v 0 ∧ JobS w' bj v 1 := by
  have lo := o.lt
  have lj := j.lt
  refine value_any lb wb v 0 true w h (fun k => k = wb ∨ k = bj) (fun k hk => by omega) (fun w' => OutM w' wb 1 0 1 v 0 ∧ JobS w' bj v 1) ?_
  intro W oW cb
  have sW := World.block_lt_of_cell? W _ cb
  simp only at sW
  have zW := oW.size
  refine (first_first wb _ _ _ _ 0 0 0 v 0 W (o.frm oW (fun h => h)) (fun W2 W' => Frm (fun k => k = wb ∨ k = bj) W2 W' ∧ OutM W' wb 0 1 1 v 0 ∧ JobS W' bj v 1) ?_).mono ?_
  · intro W2 I
    have zI := I.size
    have j2 := (j.frm oW (fun h => h)).frm I.frm n
    have c6 := I.tail 6 _ (by omega) (oW.cell h6)
    have cb2 := frm_cell I.frm cb (by simp only; omega)
    have f0 := frm_set W2 wb 5 (.int .i64 150)
    have fJ : Frm (fun k => k = wb ∨ k = bj) W2 ((W2.setCell ⟨wb, 5, none⟩ (.int .i64 150)).alloc (.cells #[.func (.func 17) #[] #[.pointer (some ⟨w.heap.size, 0, none⟩)]] 1)) := (Frm.mono f0 (fun k _ h => Or.inl h)).alloc _
    have z5 : (W2.setCell ⟨wb, 5, none⟩ (.int .i64 150)).heap.size = W2.heap.size := by simp [World.setCell]
    have cE := new_cell (W2.setCell ⟨wb, 5, none⟩ (.int .i64 150)) #[.func (.func 17) #[] #[.pointer (some ⟨w.heap.size, 0, none⟩)]] 1 0 _ rfl
    have oA : Old (W2.setCell ⟨wb, 5, none⟩ (.int .i64 150)) ((W2.setCell ⟨wb, 5, none⟩ (.int .i64 150)).alloc (.cells #[.func (.func 17) #[] #[.pointer (some ⟨w.heap.size, 0, none⟩)]] 1)) := (Old.refl _).alloc _
    have oJ : OutM ((W2.setCell ⟨wb, 5, none⟩ (.int .i64 150)).alloc (.cells #[.func (.func 17) #[] #[.pointer (some ⟨w.heap.size, 0, none⟩)]] 1)) wb 0 1 0 0 150 := (I.out.s5 150).frm oA (fun h => h)
    have jJ : JobS ((W2.setCell ⟨wb, 5, none⟩ (.int .i64 150)).alloc (.cells #[.func (.func 17) #[] #[.pointer (some ⟨w.heap.size, 0, none⟩)]] 1)) bj v 0 := (j2.frm f0 n).frm oA (fun h => h)
    have cJ := oA.cell (set_oth (u := .int .i64 150) (i := 5) c6 (by omega))
    rw [z5] at cE
    refine run_good wb _ _ _ _ 0 1 0 0 0 v W2 I.out e16 e17 (fun X => Frm (fun k => k = wb ∨ k = bj) W2 X ∧ OutM X wb 0 1 0 0 150 ∧ X.cell? ⟨W2.heap.size, 0, none⟩ = some (.func (.func 17) #[] #[.pointer (some ⟨w.heap.size, 0, none⟩)]) ∧ JobS X bj v 1) _ (fun X hX => ⟨hX.2.1, hX.2.2.1⟩) ?_ ?_
    · refine (last_good wb bj v _ n cJ (oJ.fz 6) jJ.c0 jJ.c1 (jJ.fz 1)).mono ?_
      rintro e' X ⟨rfl, rfl⟩
      have g1 := frm_set ((W2.setCell ⟨wb, 5, none⟩ (.int .i64 150)).alloc (.cells #[.func (.func 17) #[] #[.pointer (some ⟨w.heap.size, 0, none⟩)]] 1)) wb 6 .nilFunc
      have g2 := frm_set (((W2.setCell ⟨wb, 5, none⟩ (.int .i64 150)).alloc (.cells #[.func (.func 17) #[] #[.pointer (some ⟨w.heap.size, 0, none⟩)]] 1)).setCell ⟨wb, 6, none⟩ .nilFunc) bj 1 (.int .i64 1)
      refine ⟨rfl, Frm.trans (Frm.trans fJ g1 (fun k _ h => Or.inl h)) g2 (fun k _ h => Or.inr h), (oJ.s6 _).frm g2 (fun e => n e.symm), frm_cell g2 (frm_cell g1 cE (by simp only; omega)) (by simp only; omega), (jJ.frm g1 n).s1 1⟩
    · rintro X ⟨fX, oX, cX, jX⟩
      have g1 := frm_set X wb 4 (.int .i64 v)
      have g2 := frm_set (X.setCell ⟨wb, 4, none⟩ (.int .i64 v)) wb 5 (.int .i64 0)
      have oY := (oX.s4 v).s5 0
      have cY := frm_cell g2 (frm_cell g1 (frm_cell fX cb2 (by simp only; omega)) (by simp only; omega)) (by simp only; omega)
      refine (over_any wb w.heap.size _ _ cY oY.c3 (oY.fz 3)).mono ?_
      rintro e' W' ⟨rfl, rfl⟩
      have g3 := frm_set ((X.setCell ⟨wb, 4, none⟩ (.int .i64 v)).setCell ⟨wb, 5, none⟩ (.int .i64 0)).drew wb 3 (.int .u32 1)
      have gd : Frm (fun k => k = wb) ((X.setCell ⟨wb, 4, none⟩ (.int .i64 v)).setCell ⟨wb, 5, none⟩ (.int .i64 0)) ((X.setCell ⟨wb, 4, none⟩ (.int .i64 v)).setCell ⟨wb, 5, none⟩ (.int .i64 0)).drew := (Frm.refl _ _).drew
      have gz : Frm (fun k => k = wb) X (((X.setCell ⟨wb, 4, none⟩ (.int .i64 v)).setCell ⟨wb, 5, none⟩ (.int .i64 0)).drew.setCell ⟨wb, 3, none⟩ (.int .u32 1)) := Frm.trans (Frm.trans (Frm.trans g1 g2 (fun _ _ h => h)) gd (fun _ _ h => h)) g3 (fun _ _ h => h)
      have fZ : Frm (fun k => k = wb ∨ k = bj) W2 (((X.setCell ⟨wb, 4, none⟩ (.int .i64 v)).setCell ⟨wb, 5, none⟩ (.int .i64 0)).drew.setCell ⟨wb, 3, none⟩ (.int .u32 1)) := Frm.trans fX gz (fun k _ h => Or.inl h)
      have oZ := oY.drew.s3 1
      exact ⟨rfl, ⟨⟨_, oZ⟩, fun k h1 h2 => fZ.block k (by omega) (by omega)⟩, fZ, oZ, jX.frm gz n⟩
  · rintro e' w' ⟨rfl, W2, W', I, r, ⟨fQ, oQ, jQ⟩, oL⟩
    obtain ⟨a1, a2⟩ := out_left oQ oL
    exact ⟨rfl, Frm.trans (Frm.trans (Frm.mono I.frm (fun k _ h => Or.inl h)) fQ (fun _ _ h => h)) a2 (fun k _ h => Or.inl h), a1, jQ.frm a2 n⟩

theorem value_wrong (lb wb : Nat) (w : World) (h : w.cell? ⟨lb, 0, none⟩ = some (.pointer (some ⟨wb, 0, none⟩))) (o : OutM w wb 0 0 0 0 0) (h6 : w.cell? ⟨wb, 6, none⟩ = some (.func (.func 12) #[] #[])) :
    Calls Try.prog 9 #[.pointer (some ⟨lb, 0, none⟩)] w fun e' w' => e' = .returned (.tuple #[.int .i64 0, .bool true, .int .i64 150]) ∧ Frm (fun k => k = wb) w w' ∧ OutM w' wb 1 0 1 0 150 := by
  have lo := o.lt
  refine value_any lb wb 0 150 true w h (fun k => k = wb) (fun k hk => by omega) (fun w' => OutM w' wb 1 0 1 0 150) ?_
  intro W oW cb
  have sW := World.block_lt_of_cell? W _ cb
  simp only at sW
  have zW := oW.size
  refine (first_first wb _ _ _ _ 0 0 0 0 150 W (o.frm oW (fun h => h)) (fun W2 W' => Frm (fun k => k = wb) W2 W' ∧ OutM W' wb 0 1 1 0 150) ?_).mono ?_
  · intro W2 I
    have zI := I.size
    have c6 := I.tail 6 _ (by omega) (oW.cell h6)
    have cb2 := frm_cell I.frm cb (by simp only; omega)
    have f0 := frm_set W2 wb 5 (.int .i64 150)
    have fJ : Frm (fun k => k = wb) W2 ((W2.setCell ⟨wb, 5, none⟩ (.int .i64 150)).alloc (.cells #[.func (.func 17) #[] #[.pointer (some ⟨w.heap.size, 0, none⟩)]] 1)) := f0.alloc _
    have z5 : (W2.setCell ⟨wb, 5, none⟩ (.int .i64 150)).heap.size = W2.heap.size := by simp [World.setCell]
    have cE := new_cell (W2.setCell ⟨wb, 5, none⟩ (.int .i64 150)) #[.func (.func 17) #[] #[.pointer (some ⟨w.heap.size, 0, none⟩)]] 1 0 _ rfl
    have oA : Old (W2.setCell ⟨wb, 5, none⟩ (.int .i64 150)) ((W2.setCell ⟨wb, 5, none⟩ (.int .i64 150)).alloc (.cells #[.func (.func 17) #[] #[.pointer (some ⟨w.heap.size, 0, none⟩)]] 1)) := (Old.refl _).alloc _
    have oJ : OutM ((W2.setCell ⟨wb, 5, none⟩ (.int .i64 150)).alloc (.cells #[.func (.func 17) #[] #[.pointer (some ⟨w.heap.size, 0, none⟩)]] 1)) wb 0 1 0 0 150 := (I.out.s5 150).frm oA (fun h => h)
    have cJ := oA.cell (set_oth (u := .int .i64 150) (i := 5) c6 (by omega))
    rw [z5] at cE
    refine run_wrong wb _ _ _ _ 0 1 0 0 0 9 oops W2 I.out e16 e17 (fun X => Frm (fun k => k = wb) W2 X ∧ OutM X wb 0 1 0 0 150 ∧ X.cell? ⟨W2.heap.size, 0, none⟩ = some (.func (.func 17) #[] #[.pointer (some ⟨w.heap.size, 0, none⟩)])) _ (fun X hX => hX.2.2) ?_ ?_
    · refine (last_wrong wb _ cJ (oJ.fz 6)).mono ?_
      rintro e' X ⟨rfl, rfl⟩
      have g1 := frm_set ((W2.setCell ⟨wb, 5, none⟩ (.int .i64 150)).alloc (.cells #[.func (.func 17) #[] #[.pointer (some ⟨w.heap.size, 0, none⟩)]] 1)) wb 6 .nilFunc
      exact ⟨rfl, Frm.trans fJ g1 (fun k _ h => h), oJ.s6 _, frm_cell g1 cE (by simp only; omega)⟩
    · rintro X ⟨fX, oX, cX⟩
      have cY := frm_cell fX cb2 (by simp only; omega)
      refine (over_any wb w.heap.size _ _ cY oX.c3 (oX.fz 3)).mono ?_
      rintro e' W' ⟨rfl, rfl⟩
      have fZ : Frm (fun k => k = wb) W2 (X.drew.setCell ⟨wb, 3, none⟩ (.int .u32 1)) := Frm.trans fX.drew (frm_set X.drew wb 3 (.int .u32 1)) (fun _ _ h => h)
      have oZ := oX.drew.s3 1
      exact ⟨rfl, ⟨⟨_, oZ⟩, fun k h1 h2 => fZ.block k (by omega) (by omega)⟩, fZ, oZ⟩
  · rintro e' w' ⟨rfl, W2, W', I, r, ⟨fQ, oQ⟩, oL⟩
    obtain ⟨a1, a2⟩ := out_left oQ oL
    exact ⟨rfl, Frm.trans (Frm.trans I.frm fQ (fun _ _ h => h)) a2 (fun k _ h => h), a1⟩

theorem value_again (lb wb : Nat) (v e : Int) (w : World) (h : w.cell? ⟨lb, 0, none⟩ = some (.pointer (some ⟨wb, 0, none⟩))) (o : OutM w wb 1 0 1 v e) :
    Calls Try.prog 9 #[.pointer (some ⟨lb, 0, none⟩)] w fun e' w' => e' = .returned (.tuple #[.int .i64 v, .bool false, .int .i64 e]) ∧ Old w w' := by
  refine (value_any lb wb v e false w h (fun _ => False) (fun k hk => hk.elim) (fun _ => True) ?_).mono ?_
  · intro W oW cb
    refine (first_done wb _ _ _ _ 1 v e W (o.frm oW (fun h => h))).mono ?_
    rintro e' w' ⟨rfl, h⟩
    exact ⟨rfl, h, trivial⟩
  · rintro e' w' ⟨rfl, h, _⟩
    exact ⟨rfl, h⟩

theorem func_nil (t : TypeId) (ht : t = 29) (f : Nat) (fc gc : Array Value) (w : World) : (binOp BinOp.eql t (.func (.func f) fc gc) .nilFunc).run Try.prog w = .ok (.bool false) w := by subst ht; kernel_rfl
theorem nil_nil (t : TypeId) (ht : t = 29) (w : World) : (binOp BinOp.eql t .nilFunc .nilFunc).run Try.prog w = .ok (.bool true) w := by subst ht; kernel_rfl

theorem new_out {w : World} {b : Nat} {arr : Array Value} {t : TypeId} (h : w.heap[b]? = some (.cells arr t (0, 0))) {d m ov v e : Int} (h0 : arr[0]? = some (.int .u32 d)) (h1 : arr[1]? = some (.int .i32 m)) (h3 : arr[3]? = some (.int .u32 ov)) (h4 : arr[4]? = some (.int .i64 v)) (h5 : arr[5]? = some (.int .i64 e)) : OutM w b d m ov v e :=
  ⟨by simp only [World.cell?, h]; exact h0, by simp only [World.cell?, h]; exact h1, by simp only [World.cell?, h]; exact h3, by simp only [World.cell?, h]; exact h4, by simp only [World.cell?, h]; exact h5, fun i => blk_fz h i⟩

set_option maxRecDepth 100000 in
theorem late_new (f : Nat) (fc : Array Value) (w : World) :
    Calls Try.prog 4 #[.func (.func f) fc #[]] w fun e' w' => e' = .returned (.tuple #[.pointer (some ⟨w.heap.size + 1, 0, none⟩), .int .i64 0]) ∧ Old w w' ∧ w'.cell? ⟨w.heap.size + 1, 0, none⟩ = some (.pointer (some ⟨w.heap.size, 0, none⟩)) ∧ OutM w' w.heap.size 0 0 0 0 0 ∧ w'.cell? ⟨w.heap.size, 6, none⟩ = some (.func (.func f) fc #[]) := by
  have hq := func_nil 29 rfl f fc #[] w
  go_enter Try.func4, Try.ntmps4
  go_wp2
  refine bodyPost_ret ?_ rfl ⟨rfl, ((Old.refl w).alloc _).alloc _, ?_, ?_, ?_⟩
  · simp [results, Try.f4, go_sem]
  · have := new_cell (w.alloc (.cells #[.int .u32 0, .int .i32 0, .int .u32 0, .int .u32 0, .int .i64 0, .int .i64 0, .func (.func f) fc #[]] 55)) #[.pointer (some ⟨w.heap.size, 0, none⟩)] 38 0 _ rfl
    rw [alloc_size] at this
    exact this
  · refine (new_out (heap_new w (.cells #[.int .u32 0, .int .i32 0, .int .u32 0, .int .u32 0, .int .i64 0, .int .i64 0, .func (.func f) fc #[]] 55)) rfl rfl rfl rfl rfl).frm ((Old.refl _).alloc _) (fun h => h)
  · exact ((Old.refl _).alloc _).cell (new_cell w #[.int .u32 0, .int .i32 0, .int .u32 0, .int .u32 0, .int .i64 0, .int .i64 0, .func (.func f) fc #[]] 55 6 _ rfl)

set_option maxRecDepth 100000 in
theorem late_new_nil (w : World) :
    Calls Try.prog 4 #[.nilFunc] w fun e' w' => e' = .returned (.tuple #[.pointer none, .int .i64 1]) ∧ w' = w := by
  have hq := nil_nil 29 rfl w
  go_enter Try.func4, Try.ntmps4
  go_wp2
  refine bodyPost_ret (v := .tuple #[.pointer none, .int .i64 1]) ?_ rfl ⟨rfl, rfl⟩
  simp [results, Try.f4, go_sem]
end Go.Proofs.Ytkihcejhjmpijaa
