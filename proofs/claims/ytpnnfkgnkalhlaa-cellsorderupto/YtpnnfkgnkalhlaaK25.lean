/- A count: an Add. -/
import Derived.Test.YtpnnfkgnkalhlaaK24
namespace Go.Proofs.Ytpnnfkgnkalhlaa
open Go.RowKit Go.Lib

theorem relay_whole (bm bs bl bk bx g mb nb lb sb : Nat) (n c k : Nat) (x : Int) (L : List Int) (G : Array Value) (w : World)
    (h0 : ListAt w bl (some ⟨g, 0, none⟩) n n) (hG : w.heap[g]? = some (.cells G 2 (0, 0))) (hGn : G.size = n)
    (h5 : w.heap[bs]? = some (.cells #[.pointer none] 81 (0, 0))) (hC : CountS w mb nb lb (some ⟨sb, 0, none⟩) n c)
    (hL : ∀ j v, (L.map (Value.int .i64))[j]? = some v → w.cell? ⟨sb, j, none⟩ = some v) (hLn : L.length = n) (hk : w.cell? ⟨bk, 0, none⟩ = some (.int .i64 k)) (hkn : k < n)
    (hx : w.cell? ⟨bx, 0, none⟩ = some (.int .i64 x)) (hm : w.cell? ⟨bm, 0, none⟩ = some (.pointer (some ⟨mb, 0, none⟩)))
    (dg : bl ≠ g ∧ bs ≠ g ∧ lb ≠ g ∧ bk ≠ g ∧ bx ≠ g ∧ bm ≠ g ∧ mb ≠ g ∧ nb ≠ g) (dn : bl ≠ nb ∧ bs ≠ nb ∧ bk ≠ nb ∧ bx ≠ nb ∧ bm ≠ nb) (ds : bl ≠ bs ∧ g ≠ bs ∧ lb ≠ bs ∧ sb ≠ bs ∧ bk ≠ bs ∧ bx ≠ bs ∧ bm ≠ bs ∧ mb ≠ bs ∧ nb ≠ bs) :
    Calls Try.prog 33 #[.func (.func 56) #[] #[.pointer (some ⟨bm, 0, none⟩), .pointer (some ⟨bs, 0, none⟩)], .func (.func 57) #[] #[.pointer (some ⟨bl, 0, none⟩), .pointer (some ⟨bs, 0, none⟩), .pointer (some ⟨bk, 0, none⟩), .pointer (some ⟨bx, 0, none⟩), .pointer (some ⟨bm, 0, none⟩)]] w fun e w' => e = .returned (ans (IntKind.i64.wrap (L[k]! + x)) true) ∧ Frm (fun k => k = bs ∨ k = g ∨ k = nb) w w' ∧ w'.heap[g]? = some (.cells ((L.set k (IntKind.i64.wrap (L[k]! + x))).map (Value.int .i64)).toArray 2 (0, 0)) ∧ ∃ t, w'.heap[nb]? = some (.cells #[.pointer (some ⟨bl, 0, none⟩)] t (0, 0)) := by
  have e1 : ∀ args w, (callFunc 56 args).run Try.prog w = .ok (.enter 56 args) w := enters_of Try.func56 (by kernel_rfl) rfl
  have e2 : ∀ args w, (callFunc 57 args).run Try.prog w = .ok (.enter 57 args) w := enters_of Try.func57 (by kernel_rfl) rfl
  have lls : ∀ (b : Nat) (obj : Obj), w.heap[b]? = some obj → b < w.heap.size := fun b obj h => (Array.getElem?_eq_some_iff.1 h).1
  have l5 := lls _ _ h5
  have lG := lls _ _ hG
  have l0 := lls _ _ h0
  obtain ⟨tn, hn⟩ := hC.num
  have ln := lls _ _ hn
  refine (whole_two 56 57 _ _ 0 (IntKind.i64.wrap (L[k]! + x)) false true w (fun W' => Frm (fun k => k = bs) w W' ∧ W'.heap[bs]? = some (.cells #[.pointer (some ⟨lb, 0, none⟩)] 81 (0, 0))) (fun W' => Frm (fun k => k = bs ∨ k = g ∨ k = nb) w W' ∧ W'.heap[g]? = some (.cells ((L.set k (IntKind.i64.wrap (L[k]! + x))).map (Value.int .i64)).toArray 2 (0, 0)) ∧ ∃ t, W'.heap[nb]? = some (.cells #[.pointer (some ⟨bl, 0, none⟩)] t (0, 0))) e2 e1 ?_ ?_).mono ?_
  · intro W hW
    refine (relay_look bm mb nb lb bs _ none n c W (hW.cell hm) (hC.frm hW (fun h => h) (fun h => h) (fun h => h)) ((hW.block bs l5 (fun h => h)).trans h5)).mono ?_
    rintro e W' ⟨rfl, hf, hb⟩
    exact ⟨rfl, Frm.mono hf (fun k _ e => by omega), Frm.trans (Frm.mono hW (fun _ _ h => h.elim)) hf (fun _ _ h => h), hb⟩
  · rintro W W' ⟨hf, hb⟩ hn'
    have hW : Frm (fun k => k = bs) w W' := Frm.trans hf hn' (fun k hk h => by omega)
    have lb' : bs < W.heap.size := Nat.lt_of_lt_of_le l5 hf.size
    have hb' := (hn'.block bs lb' (by omega)).trans hb
    refine (relay_put bl bs bk bx bm mb nb lb sb g n c k x L G W' ((hW.block bl l0 ds.1).trans h0) ((hW.block g lG ds.2.1).trans hG) hGn (cell_of hb') (hC.frm hW ds.2.2.2.2.2.2.2.1 ds.2.2.2.2.2.2.2.2 ds.2.2.1) (fun j v hv => frm_cell hW (hL j v hv) ds.2.2.2.1) hLn (frm_cell hW hk ds.2.2.2.2.1) hkn (frm_cell hW hx ds.2.2.2.2.2.1) (frm_cell hW hm ds.2.2.2.2.2.2.1) dg dn).mono ?_
    rintro e W'' ⟨rfl, hf2, hb2, hb3⟩
    exact ⟨rfl, Frm.mono hf2 (fun k _ e => by omega), Frm.trans (Frm.mono hW (fun _ _ h => Or.inl h)) hf2 (fun _ _ h => Or.inr h), hb2, hb3⟩
  · rintro e w' ⟨rfl, W', ⟨hf, hb, t, hb2⟩, hn'⟩
    exact ⟨rfl, Frm.trans hf hn' (fun k hk h => by omega), (hn'.block g (Nat.lt_of_lt_of_le lG hf.size) (by omega)).trans hb, t, (hn'.block nb (Nat.lt_of_lt_of_le ln hf.size) (by omega)).trans hb2⟩

theorem field_a (x z : Int) (y : Bool) (W : World) : (Instr.field 52 (.agg #[.int .i64 x, .bool y, .int .i64 z]) 0).run Try.prog W = .ok (.int .i64 x) W := by kernel_rfl

/-- A count at mb whose stripes are L. -/
def CountV (w : World) (mb nb : Nat) (L : List Int) : Prop := ∃ lb sb c, CountS w mb nb lb (some ⟨sb, 0, none⟩) L.length c ∧ (∃ t, w.heap[sb]? = some (.cells (L.map (Value.int .i64)).toArray t (0, 0))) ∧ sb ≠ nb

set_option maxRecDepth 100000 in
set_option maxHeartbeats 4000000 in
theorem count_add (mb nb k : Nat) (x : Int) (L : List Int) (w : World) (h : CountV w mb nb L) (hL : L.length ≤ 64) (hk : k < L.length) :
    Calls Try.prog 14 #[.pointer (some ⟨mb, 0, none⟩), .int .i64 k, .int .i64 x] w fun e w' => e = .returned (.tuple #[.int .i64 (IntKind.i64.wrap (L[k]! + x)), .int .i64 0]) ∧ Frm (fun k => k = nb) w w' ∧ CountV w' mb nb (L.set k (IntKind.i64.wrap (L[k]! + x))) := by
  obtain ⟨m, hm⟩ : ∃ m, IntKind.i64.wrap (L[k]! + x) = m := ⟨_, rfl⟩
  rw [hm]
  have km := hid hm
  clear hm
  obtain ⟨lb, sb, c, hC, ⟨ts, hS⟩, hne⟩ := h
  obtain ⟨n, hn⟩ : ∃ n, L.length = n := ⟨_, rfl⟩
  rw [hn] at hC hL hk
  have d1 : decide ((n : Int) = 0) = false := by simp; omega
  have d2 : decide ((k : Int) < 0) = false := by simp
  have d3 : decide (n ≤ k) = false := by simp; omega
  have kW := hid (count_width mb nb lb _ n c w hC)
  have kR := hid (count_relay mb nb lb _ n c k x w hC hL)
  have kC := hid hC
  have kS := hid hS
  clear hC hS
  go_enter Try.func14, Try.ntmps14
  go_wp2_with (go_at_call 32; refine kW.out.mono ?_; rintro e w2 ⟨rfl, e2⟩; subst e2)
  refine kR.out.mono ?_
  rintro e w3 ⟨rfl, o3, ⟨t1, a1⟩, ⟨t2, a2⟩, ⟨t3, a3⟩, a4, a5, a6, a7⟩
  clear kR kW
  have lls : ∀ (b : Nat) (obj : Obj), w2.heap[b]? = some obj → b < w2.heap.size := fun b obj h => (Array.getElem?_eq_some_iff.1 h).1
  have l1 := World.block_lt_of_cell? w2 _ kC.out.ptr
  obtain ⟨tn, hnn⟩ := kC.out.num
  have l2 := lls _ _ hnn
  have l3 := lls _ _ kC.out.list
  have l4 := lls _ _ kS.out
  have c1 := kC.out.ne
  have c2 := kC.out.ne2
  simp only at l1
  have hLc : ∀ j v, (L.map (Value.int .i64))[j]? = some v → w3.cell? ⟨sb, j, none⟩ = some v := fun j v hv => o3.cell (cells_of kS.out (by simpa using hv))
  have kX := hid (relay_whole w2.heap.size (w2.heap.size + 3) (w2.heap.size + 5) (w2.heap.size + 1) (w2.heap.size + 2) (w2.heap.size + 4) mb nb lb sb n c k x L (Array.replicate n (.int .i64 0)) w3 a6 a5 (by simp) a4 (kC.out.frm o3 (fun h => h) (fun h => h) (fun h => h)) hLc hn (cell_of a2) hk (cell_of a3) (cell_of a1) (by omega) (by omega) (by omega))
  have ko := hid o3
  have k6 := hid a6
  have k7 := hid a7
  clear o3 a1 a2 a3 a4 a5 a6 a7 hLc lls
  go_wp2_with fail
  refine kX.out.mono ?_
  rintro e w4 ⟨rfl, f4, b4, ⟨t4, b5⟩⟩
  rw [km.out] at b4 ⊢
  have z3 := k7.out
  have fz : Frm (fun k => k = nb) w2 w4 := Frm.trans (Frm.mono ko.out (fun _ _ h => h.elim)) f4 (fun k hk h => by omega)
  have hV : CountV w4 mb nb (L.set k m) := by
    refine ⟨w2.heap.size + 5, w2.heap.size + 4, n, ?_, ⟨_, b4⟩, by omega⟩
    have hl6 := k6.out
    rw [List.length_set, hn]
    exact ⟨frm_cell fz kC.out.ptr (by simp only; omega), ⟨t4, b5⟩, (f4.block _ (by omega) (by omega)).trans hl6, c1, by omega⟩
  have kf := hid fz
  have kV := hid hV
  clear fz hV f4 b4 b5 kX z3
  unfold ans
  go_wp2
  rw [field_a]
  go_wp2
  refine bodyPost_ret (v := .tuple #[.int .i64 m, .int .i64 0]) ?_ rfl ⟨rfl, kf.out, kV.out⟩
  simp [results, Try.f14, go_sem]
end Go.Proofs.Ytpnnfkgnkalhlaa
