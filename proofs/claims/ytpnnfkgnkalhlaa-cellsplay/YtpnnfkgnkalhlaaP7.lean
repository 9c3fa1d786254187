/- CellsPlay, walked. -/
import Derived.Test.YtpnnfkgnkalhlaaJ15
import Derived.Test.YtpnnfkgnkalhlaaG2
namespace Go.Proofs.Ytpnnfkgnkalhlaa
open Go.RowKit Go.Lib Go.Maps




/-- The numbers of the document's stripes, in a slice. -/
theorem doc_nums {w : World} {db sb : Nat} {s : St} (h : DocX w db sb s) : NumsC .i64 w (some ⟨sb, 0, none⟩) s.L := fun i hi => by
  obtain ⟨t, hr⟩ := h.row
  exact ⟨sb, 0, rfl, by simp [World.cell?, hr, hi]⟩
theorem CP.goes {w W : World} {s0 wb db : Nat} {B : N5} {mk gt ts M : Int} {s : St} (h : CP w W s0 wb db B mk gt ts M s) : ∃ sb c, W.cell? ⟨db, 0, none⟩ = some (.slice (some ⟨sb, 0, none⟩) s.L.length c) ∧ ∀ X leave, Old W X → Calls Try.prog 17 #[.pointer (some ⟨B.c, 0, none⟩), .slice (some ⟨sb, 0, none⟩) s.L.length c, .int .i64 leave] X fun e w' => e = .returned (.bool true) ∧ Old X w' := by
  obtain ⟨τ, h1, h2, h3⟩ := h.ex
  obtain ⟨sb, hx, _⟩ := h3
  obtain ⟨c, q0, _⟩ := hx.cells
  refine ⟨sb, c, q0, fun X leave o => ?_⟩
  obtain ⟨nb, lb, sb2, hc, _⟩ := (h2.old o).cnt
  have hx' := hx.frm o (fun h => h) (fun h => h)
  exact goes_any B.c (some ⟨sb, 0, none⟩) c s.L leave X (AllF.of hc h.bnd.len) (doc_nums hx') (fun a e => by cases e; exact hx'.lt.2) h.bnd.len
theorem CP.stands {w W : World} {s0 wb db : Nat} {B : N5} {mk gt ts M : Int} {s : St} (h : CP w W s0 wb db B mk gt ts M s) : Calls Try.prog 18 #[.pointer (some ⟨wb, 0, none⟩), .int .i64 ts] W fun e w' => e = .returned (endV s) ∧ Old W w' := by
  obtain ⟨τ, h1, h2, h3⟩ := h.ex
  rw [← h.ts']
  exact stands_any wb τ B s W h2 h1.wld h.one h.bnd.len h.bnd.tk0 h.bnd.tkt h.bnd.tsM
theorem CP.dend {w W : World} {s0 wb db : Nat} {B : N5} {mk gt ts M : Int} {s : St} (h : CP w W s0 wb db B mk gt ts M s) : Calls Try.prog 19 #[.pointer (some ⟨db, 0, none⟩)] W fun e w' => e = .returned (endV s) ∧ Old W w' := by
  obtain ⟨τ, h1, h2, sb, hx, _⟩ := h.ex
  exact doc_end db sb s W hx h.bnd.len
theorem CP.addbad {w W : World} {s0 wb db : Nat} {B : N5} {mk gt ts M : Int} {s : St} (h : CP w W s0 wb db B mk gt ts M s) (k x : Int) (hk : k < 0 ∨ (s.L.length : Int) ≤ k) : Calls Try.prog 14 #[.pointer (some ⟨B.c, 0, none⟩), .int .i64 k, .int .i64 x] W fun e w' => e = .returned (.tuple #[.int .i64 0, .int .i64 2]) ∧ w' = W := by
  obtain ⟨τ, h1, ⟨nb, lb, sb, hx, _⟩, h3⟩ : ∃ τ, CB w W τ s0 wb B mk gt ts ∧ CntT W τ B.c s.L ∧ DocT W τ db s := by
    obtain ⟨τ, h1, h2, h3⟩ := h.ex
    exact ⟨τ, h1, h2.cnt, h3⟩
  exact count_add_bad B.c nb k x s.L W hx.v h.one hk
theorem CP.cell {w W : World} {s0 wb db : Nat} {B : N5} {mk gt ts M : Int} {s : St} (h : CP w W s0 wb db B mk gt ts M s) : W.cell? ⟨s0, 2, none⟩ = some (.int .i64 ts) := by
  obtain ⟨τ, h1, _⟩ := h.ex
  exact blk_cells h1.bx rfl
theorem CP.o {w W : World} {s0 wb db : Nat} {B : N5} {mk gt ts M : Int} {s : St} (h : CP w W s0 wb db B mk gt ts M s) : Old w W := by
  obtain ⟨τ, h1, _⟩ := h.ex
  exact h1.old

/-- Six pieces that are new, one behind the other, told apart. -/
theorem cp_begin {w W : World} {s0 cm mm bm gm tm db wb : Nat} {mk gt ts : Int} {n : Nat} (h1 : 1 ≤ n) (h2 : n ≤ 64) (ht : 0 ≤ ts) (hts : ts ≤ 9223372036854775807) (o : Old w W) (hbx : W.heap[s0]? = some (.cells #[.int .i64 mk, .int .i64 gt, .int .i64 ts] 23 (0, 0)))
    (hw : W.heap[wb]? = some (.cells #[.pointer (some ⟨cm, 0, none⟩), .pointer (some ⟨mm, 0, none⟩), .pointer (some ⟨bm, 0, none⟩), .pointer (some ⟨gm, 0, none⟩), .pointer (some ⟨tm, 0, none⟩)] 46 (0, 0)))
    (τ : Nat → Nat) (hC : CntT W τ cm (List.replicate n 0)) (hM : MrkT W τ mm mk) (hB : BstT W τ bm none) (hG : GteT W τ gm gt 0) (hT : TksT W τ tm ts 0) (hD : DocT W τ db ⟨List.replicate n 0, mk, none, 0, gt, 0, ts⟩) (t1 : τ s0 = 6) (t2 : τ wb = 6) (t0 : ∀ k, k < w.heap.size → τ k = 0) :
    CP w W s0 wb db ⟨cm, mm, bm, gm, tm⟩ mk gt ts 0 ⟨List.replicate n 0, mk, none, 0, gt, 0, ts⟩ :=
  ⟨⟨τ, ⟨hw, t2, hbx, t1, o, t0⟩, ⟨hC, hM, hB, hG, hT⟩, hD⟩, ⟨by simpa using h2, by simp, by simp, by simp, by simpa using ht, by simpa using hts⟩, rfl, by simpa using h1⟩


theorem cnt_newT (n : Nat) (τ : Nat → Nat) (w : World) (h1 : 1 ≤ n) (h2 : n ≤ 64) : Calls Try.prog 6 #[.int .i64 n] w fun e w' => ∃ mb, e = .returned (.tuple #[.pointer (some ⟨mb, 0, none⟩), .int .i64 0]) ∧ Old w w' ∧ ∃ τ', (∀ k, k < w.heap.size → τ' k = τ k) ∧ CntT w' τ' mb (List.replicate n 0) := by
  refine (count_new n w h1 h2).mono ?_
  rintro e w' ⟨mb, nb, lb, sb, rfl, o, hc, g1, g2, g3, g4, hr⟩
  have hne : sb ≠ nb := fun e => by
    obtain ⟨t, hn⟩ := hc.num
    rw [← e, hr] at hn
    simp only [Option.some.injEq, Obj.cells.injEq] at hn
    have := congrArg (fun a : Array Value => a[0]?) hn.1
    simp [show 0 < n from h1] at this
  exact ⟨mb, rfl, o, tagN w τ 1, fun k hk => tagN_old hk, nb, lb, sb, ⟨⟨n, by rw [List.length_replicate]; exact hc⟩, ⟨2, by rw [hr]; simp⟩, hne⟩, tagN_new g1, tagN_new g2, tagN_new g3, tagN_new g4⟩
theorem gte_newT (x : Int) (τ : Nat → Nat) (w : World) (h : 1 ≤ x) : Calls Try.prog 7 #[.int .i64 x] w fun e w' => ∃ mb, e = .returned (.tuple #[.pointer (some ⟨mb, 0, none⟩), .int .i64 0]) ∧ Old w w' ∧ ∃ τ', (∀ k, k < w.heap.size → τ' k = τ k) ∧ GteT w' τ' mb x 0 := by
  refine (gate_new x w h).mono ?_
  rintro e w' ⟨mb, nb, rfl, o, hc, g1, g2⟩
  exact ⟨mb, rfl, o, tagN w τ 4, fun k hk => tagN_old hk, nb, hc, tagN_new g1, tagN_new g2⟩
theorem tks_newT (x : Int) (τ : Nat → Nat) (w : World) (h : 0 ≤ x) : Calls Try.prog 8 #[.int .i64 x] w fun e w' => ∃ mb, e = .returned (.tuple #[.pointer (some ⟨mb, 0, none⟩), .int .i64 0]) ∧ Old w w' ∧ ∃ τ', (∀ k, k < w.heap.size → τ' k = τ k) ∧ TksT w' τ' mb x 0 := by
  refine (tick_new x w h).mono ?_
  rintro e w' ⟨mb, nb, rfl, o, hc, g1, g2⟩
  exact ⟨mb, rfl, o, tagN w τ 5, fun k hk => tagN_old hk, nb, hc, tagN_new g1, tagN_new g2⟩
theorem mrk_newT (x : Int) (τ : Nat → Nat) (w : World) : Calls Try.prog 12 #[.int .i64 x] w fun e w' => ∃ mb, e = .returned (.pointer (some ⟨mb, 0, none⟩)) ∧ Old w w' ∧ ∃ τ', (∀ k, k < w.heap.size → τ' k = τ k) ∧ MrkT w' τ' mb x := by
  refine (mark_new x w).mono ?_
  rintro e w' ⟨mb, nb, rfl, o, hc, g1, g2⟩
  exact ⟨mb, rfl, o, tagN w τ 2, fun k hk => tagN_old hk, nb, hc, tagN_new g1, tagN_new g2⟩
theorem bst_newT (τ : Nat → Nat) (w : World) : Calls Try.prog 13 #[] w fun e w' => ∃ mb, e = .returned (.pointer (some ⟨mb, 0, none⟩)) ∧ Old w w' ∧ ∃ τ', (∀ k, k < w.heap.size → τ' k = τ k) ∧ BstT w' τ' mb none := by
  refine (best_new w).mono ?_
  rintro e w' ⟨mb, nb, rfl, o, hc, g1, g2⟩
  obtain ⟨t, p, hn, hv⟩ := hc.num
  have hp : p = none := hv
  subst hp
  exact ⟨mb, rfl, o, tagN w τ 3, fun k hk => tagN_old hk, nb, none, ⟨hc.ptr, ⟨t, hn⟩, hv, hc.ne⟩, tagN_new g1, tagN_new g2, fun a ha => by cases ha⟩
theorem doc_newT (a b d : Int) (n : Nat) (τ : Nat → Nat) (w : World) (h1 : 1 ≤ n) (h2 : n ≤ 64) (hb : 1 ≤ b) (hd : 0 ≤ d) : Calls Try.prog 10 #[.agg #[.int .i64 a, .int .i64 b, .int .i64 d], .int .i64 n] w fun e w' => ∃ db, e = .returned (.tuple #[.pointer (some ⟨db, 0, none⟩), .int .i64 0]) ∧ Old w w' ∧ ∃ τ', (∀ k, k < w.heap.size → τ' k = τ k) ∧ DocT w' τ' db ⟨List.replicate n 0, a, none, 0, b, 0, d⟩ := by
  refine (doc_newX a b d n w h1 h2 hb hd).mono ?_
  rintro e w' ⟨db, rfl, o, sb, hc, g1, g2⟩
  exact ⟨db, rfl, o, tagN w τ 8, fun k hk => tagN_old hk, sb, hc, tagN_new g1, tagN_new g2⟩
theorem Tg.of {w w' : World} {τ τ' : Nat → Nat} {i : Nat} (o : Old w w') (ht : ∀ k, k < w.heap.size → τ' k = τ k) : Tg w w' τ τ' (fun _ => False) i := ⟨o, fun _ _ h => h.elim, ht⟩


set_option maxRecDepth 100000 in
set_option maxHeartbeats 16000000 in
theorem cplay_good (mk gt ts : Int) (n : Nat) (sa : Option Addr) (m cap : Nat) (L : List Sp) (w : World) (hS : StpC w sa L) (hm : L.length = m) (hmb : m ≤ 4611686018427387904) (h1 : 1 ≤ n) (h2 : n ≤ 64) (hg : 1 ≤ gt) (ht : 0 ≤ ts) (hts : ts ≤ 9223372036854775807) :
    Calls Try.prog 3 #[.agg #[.int .i64 mk, .int .i64 gt, .int .i64 ts], .int .i64 n, .slice sa m cap] w fun e w' => e = .returned (.bool true) ∧ Old w w' := by
  have dn1 : decide ((n : Int) < 1) = false := by simp; omega
  have dn2 : decide (64 < (n : Int)) = false := by simp; omega
  have dn3 : decide (64 < n) = false := by simp; omega
  have dg1 : decide (gt < 1) = false := by simp; omega
  have dt1 : decide (ts < 0) = false := by simp; omega
  have kh1 := hid h1
  have kh2 := hid h2
  have khg := hid hg
  have kht := hid ht
  have khts := hid hts
  have kS := hid hS
  have kmm := hid hm
  clear h1 h2 hg ht hts hS hm
  go_enter Try.func3, Try.ntmps3
  go_wp2_with fail
  have o1 : Old w (w.alloc (.cells #[.int .i64 mk, .int .i64 gt, .int .i64 ts] 23)) := (Old.refl w).alloc _
  have nb := heap_new w (.cells #[.int .i64 mk, .int .i64 gt, .int .i64 ts] 23)
  have hz1 : (w.alloc (.cells #[.int .i64 mk, .int .i64 gt, .int .i64 ts] 23)).heap.size = w.heap.size + 1 := alloc_size _ _
  have hT1 : ∃ τ1 : Nat → Nat, (∀ k, k < w.heap.size → τ1 k = 0) ∧ τ1 w.heap.size = 6 := ⟨tagN w (fun _ => 0) 6, fun k hk => tagN_old hk, tagN_new (Nat.le_refl _)⟩
  obtain ⟨τ1, t10, t11⟩ := hT1
  obtain ⟨s0, hs0⟩ : ∃ s0, w.heap.size = s0 := ⟨_, rfl⟩
  have ks0 := hid hs0
  rw [hs0] at nb hz1 t10 t11
  try rw [hs0]
  clear hs0
  have kt10 := hid t10
  have kt11 := hid t11
  clear t10 t11
  generalize w.alloc (.cells #[.int .i64 mk, .int .i64 gt, .int .i64 ts] 23) = w1 at *
  have kz1 := hid hz1
  clear hz1
  refine (cnt_newT n τ1 w1 kh1.out kh2.out).mono ?_
  rintro e w2 ⟨pc, rfl, o2, τ2, t2, cC⟩
  have ko2 := hid (o1.trans o2)
  have kt2 := hid t2
  have kz2 := hid o2.size
  have cC2 := hid cC
  replace nb := (o2.block _ (blk_lt nb) (fun h => h)).trans nb
  have c1 : w2.cell? ⟨s0, 1, none⟩ = some (.int .i64 gt) := blk_cells nb rfl
  clear o1 o2 t2 cC
  go_wp2_with fail
  refine (gte_newT gt τ2 w2 khg.out).mono ?_
  rintro e w3 ⟨pg, rfl, o3, τ3, t3, cG⟩
  have ko3 := hid (ko2.out.trans o3)
  have kt3 := hid t3
  have kz3 := hid o3.size
  have cG3 := hid cG
  have cC3 := hid (cC2.out.keep (Tg.of o3 t3))
  replace nb := (o3.block _ (blk_lt nb) (fun h => h)).trans nb
  clear c1 o3 ko2 t3 cG cC2
  have c2 : w3.cell? ⟨s0, 2, none⟩ = some (.int .i64 ts) := blk_cells nb rfl
  go_wp2_with fail
  refine (tks_newT ts τ3 w3 kht.out).mono ?_
  rintro e w4 ⟨pt, rfl, o4, τ4, t4, cT⟩
  have ko4 := hid (ko3.out.trans o4)
  have kt4 := hid t4
  have kz4 := hid o4.size
  have cT4 := hid cT
  have cC4 := hid (cC3.out.keep (Tg.of o4 t4))
  have cG4 := hid (cG3.out.keep (Tg.of o4 t4))
  replace nb := (o4.block _ (blk_lt nb) (fun h => h)).trans nb
  clear c2 o4 ko3 t4 cT cC3 cG3
  have c0 : w4.cell? ⟨s0, 0, none⟩ = some (.int .i64 mk) := blk_cells nb rfl
  have c1 : w4.cell? ⟨s0, 1, none⟩ = some (.int .i64 gt) := blk_cells nb rfl
  have c2 : w4.cell? ⟨s0, 2, none⟩ = some (.int .i64 ts) := blk_cells nb rfl
  have kt40 : Hid (∀ k, k < w.heap.size → τ4 k = 0) := fun k hk => by
    have a := ks0.out
    have b := kz1.out
    have c := kz2.out
    have d := kz3.out
    rw [kt4.out k (by omega), kt3.out k (by omega), kt2.out k (by omega), kt10.out k (by omega)]
  have kt41 : Hid (τ4 s0 = 6) := by
    have a := ks0.out
    have b := kz1.out
    have c := kz2.out
    have d := kz3.out
    rw [Hid, kt4.out _ (by omega), kt3.out _ (by omega), kt2.out _ (by omega), kt11.out]
  clear kt4 kt3 kt2 kt10 kt11
  go_wp2_with fail
  go_quiet (exact Calls.quiet_of_same (num_any _ _))
  go_wp2_with fail
  have oq : Old w4 (w4.drewN nq) := (Old.refl w4).drewN nq
  have cC := cC4.out.keep (Tg.of (τ' := τ4) oq (fun _ _ => rfl))
  have cG := cG4.out.keep (Tg.of (τ' := τ4) oq (fun _ _ => rfl))
  have cT := cT4.out.keep (Tg.of (τ' := τ4) oq (fun _ _ => rfl))
  have ko5 := hid (ko4.out.trans oq)
  have hz5 : w4.heap.size ≤ (w4.drewN nq).heap.size := oq.size
  have nb5 := hid ((oq.block _ (blk_lt nb) (fun h => h)).trans nb)
  have kCC := hid cC
  have kGG := hid cG
  have kTT := hid cT
  clear c0 c1 c2 nb cC cG cT cC4 cG4 cT4 ko4 oq
  generalize w4.drewN nq = w5 at *
  refine (doc_newT mk gt ts n τ4 w5 kh1.out kh2.out khg.out kht.out).mono ?_
  rintro e w6 ⟨db, rfl, o6, τ6, t6, cD⟩
  have ko6 := hid (ko5.out.trans o6)
  have cD6 := hid cD
  have cC6 := hid (kCC.out.keep (Tg.of o6 t6))
  have cG6 := hid (kGG.out.keep (Tg.of o6 t6))
  have cT6 := hid (kTT.out.keep (Tg.of o6 t6))
  have nb6 := hid ((o6.block _ (blk_lt nb5.out) (fun h => h)).trans nb5.out)
  have kz6 := hid o6.size
  have kt60 : Hid (∀ k, k < w.heap.size → τ6 k = 0) := fun k hk => by
    have := ko5.out.size
    rw [t6 k (by omega)]
    exact kt40.out k hk
  have kt61 : Hid (τ6 s0 = 6) := by
    rw [Hid, t6 _ (blk_lt nb5.out)]
    exact kt41.out
  have c0 : w6.cell? ⟨s0, 0, none⟩ = some (.int .i64 mk) := blk_cells nb6.out rfl
  clear o6 cD t6 kCC kGG kTT nb5 ko5 kt40 kt41 kz2 kz3 kz4 kz1 hz5
  go_wp2_with fail
  refine (mrk_newT mk τ6 w6).mono ?_
  rintro e w7 ⟨mm, rfl, o7, τ7, t7, cM⟩
  go_wp2_with fail
  refine (bst_newT τ7 w7).mono ?_
  rintro e w8 ⟨bm, rfl, o8, τ8, t8, cB⟩
  have ko8 := hid ((ko6.out.trans o7).trans o8)
  have cM8 := hid (cM.keep (Tg.of o8 t8))
  have cB8 := hid cB
  have cD8 := hid ((cD6.out.keep (Tg.of o7 t7)).keep (Tg.of o8 t8))
  have cC8 := hid ((cC6.out.keep (Tg.of o7 t7)).keep (Tg.of o8 t8))
  have cG8 := hid ((cG6.out.keep (Tg.of o7 t7)).keep (Tg.of o8 t8))
  have cT8 := hid ((cT6.out.keep (Tg.of o7 t7)).keep (Tg.of o8 t8))
  have nb8 := hid (((o7.trans o8).block _ (blk_lt nb6.out) (fun h => h)).trans nb6.out)
  have kt80 : Hid (∀ k, k < w.heap.size → τ8 k = 0) := fun k hk => by
    have := ko6.out.size
    have := o7.size
    rw [t8 k (by omega), t7 k (by omega)]
    exact kt60.out k hk
  have kt81 : Hid (τ8 s0 = 6) := by
    have := blk_lt nb6.out
    have := o7.size
    rw [Hid, t8 _ (by omega), t7 _ (by omega)]
    exact kt61.out
  clear c0 o7 o8 t7 t8 cM cB cD6 cC6 cG6 cT6 nb6 ko6 kt60 kt61 kz6
  go_upto_region 10 with fail
  have oA : Old w8 (w8.alloc (.cells #[.pointer (some ⟨pc, 0, none⟩), .pointer (some ⟨mm, 0, none⟩), .pointer (some ⟨bm, 0, none⟩), .pointer (some ⟨pg, 0, none⟩), .pointer (some ⟨pt, 0, none⟩)] 46)) := (Old.refl w8).alloc _
  have nA := heap_new w8 (.cells #[.pointer (some ⟨pc, 0, none⟩), .pointer (some ⟨mm, 0, none⟩), .pointer (some ⟨bm, 0, none⟩), .pointer (some ⟨pg, 0, none⟩), .pointer (some ⟨pt, 0, none⟩)] 46)
  obtain ⟨τ9, t9, t9n⟩ : ∃ τ9 : Nat → Nat, (∀ k, k < w8.heap.size → τ9 k = τ8 k) ∧ τ9 w8.heap.size = 6 := ⟨tagN w8 τ8 6, fun k hk => tagN_old hk, tagN_new (Nat.le_refl _)⟩
  have hCP : Hid (CP w (w8.alloc (.cells #[.pointer (some ⟨pc, 0, none⟩), .pointer (some ⟨mm, 0, none⟩), .pointer (some ⟨bm, 0, none⟩), .pointer (some ⟨pg, 0, none⟩), .pointer (some ⟨pt, 0, none⟩)] 46)) s0 w8.heap.size db ⟨pc, mm, bm, pg, pt⟩ mk gt ts 0 ⟨List.replicate n 0, mk, none, 0, gt, 0, ts⟩) := by
    have hsz := ko8.out.size
    exact cp_begin kh1.out kh2.out kht.out khts.out (ko8.out.trans oA) ((oA.block _ (blk_lt nb8.out) (fun h => h)).trans nb8.out) nA τ9 (cC8.out.keep (Tg.of oA t9)) (cM8.out.keep (Tg.of oA t9)) (cB8.out.keep (Tg.of oA t9)) (cG8.out.keep (Tg.of oA t9)) (cT8.out.keep (Tg.of oA t9)) (cD8.out.keep (Tg.of oA t9)) (by rw [t9 _ (blk_lt nb8.out)]; exact kt81.out) t9n (fun k hk => by rw [t9 k (by omega)]; exact kt80.out k hk)
  have p1 : (w8.alloc (.cells #[.pointer (some ⟨pc, 0, none⟩), .pointer (some ⟨mm, 0, none⟩), .pointer (some ⟨bm, 0, none⟩), .pointer (some ⟨pg, 0, none⟩), .pointer (some ⟨pt, 0, none⟩)] 46)).cell? ⟨w8.heap.size, 1, none⟩ = some (.pointer (some ⟨mm, 0, none⟩)) := blk_cells nA rfl
  have p2 : (w8.alloc (.cells #[.pointer (some ⟨pc, 0, none⟩), .pointer (some ⟨mm, 0, none⟩), .pointer (some ⟨bm, 0, none⟩), .pointer (some ⟨pg, 0, none⟩), .pointer (some ⟨pt, 0, none⟩)] 46)).cell? ⟨w8.heap.size, 2, none⟩ = some (.pointer (some ⟨bm, 0, none⟩)) := blk_cells nA rfl
  obtain ⟨wb, hwb⟩ : ∃ wb, w8.heap.size = wb := ⟨_, rfl⟩
  rw [hwb] at hCP p1 p2 ⊢
  clear hwb oA nA t9 t9n cC8 cM8 cB8 cG8 cT8 cD8 nb8 kt80 kt81 ko8
  generalize w8.alloc (.cells #[.pointer (some ⟨pc, 0, none⟩), .pointer (some ⟨mm, 0, none⟩), .pointer (some ⟨bm, 0, none⟩), .pointer (some ⟨pg, 0, none⟩), .pointer (some ⟨pt, 0, none⟩)] 46) = w9 at *
  go_wp2_with fail
  clear p1 p2 dn1 dn2 dn3 dg1 dt1 kh1 kh2 khg kht khts
  have hln0 : Hid ((List.replicate n (0 : Int)).length = n) := List.length_replicate
  go_loopw [16] (fun t wr => ∃ i : Nat, i ≤ m ∧ t = .int .i64 (i : Int) ∧ ∃ s, Hid (CP w wr s0 wb db ⟨pc, mm, bm, pg, pt⟩ mk gt ts i s) ∧ Hid (s.L.length = n)) (fun t _ => m - (intOf t).toNat)
  case atStart => exact ⟨0, Nat.zero_le _, rfl, _, hCP, hln0⟩
  case round =>
    clear hCP hln0
    obtain ⟨i, hi, rfl, s, hCP0, hln⟩ := hrel
    have hM : (i : Int) < 9223372036854775807 := by omega
    by_cases hlt : i < m
    · have hlt' : (i : Int) < (m : Int) := by omega
      have hil : i < L.length := by rw [kmm.out]; exact hlt
      obtain ⟨g, og, rfl, c0, c1, c2⟩ := (kS.out.old hCP0.out.o) i hil
      generalize L[i]'hil = z at c0 c1 c2
      obtain ⟨kd, who, x⟩ := z
      dsimp only at c0 c1 c2
      clear hil
      have hzx : Hid (∀ kd', (wr.alloc (.cells #[.int .i64 kd', .int .i64 who, .int .i64 x] 48)).heap[wr.heap.size]? = some (.cells #[.int .i64 kd', .int .i64 who, .int .i64 x] 48 (0, 0))) := fun kd' => heap_new wr _
      by_cases hk1 : kd = 1
      · subst hk1
        by_cases hout : who < 0 ∨ (n : Int) ≤ who
        · have kA := hid ((hCP0.out.old ((Old.refl wr).alloc (.cells #[.int .i64 1, .int .i64 who, .int .i64 x] 48))).addbad who x (by rw [hln.out]; exact hout))
          have hfin := hid ((hCP0.out.old ((Old.refl wr).alloc (.cells #[.int .i64 1, .int .i64 who, .int .i64 x] 48))).more (show (i : Int) ≤ ((i + 1 : Nat) : Int) by omega))
          by_cases hw0 : who < 0
          · have dw : decide (who < 0) = true := by simpa using hw0
            clear hout hw0
            go_wp2_with fail
            refine kA.out.mono ?_
            rintro e w' ⟨rfl, ew⟩
            rw [ew]
            clear ew w' kA
            go_wp2_with fail
            refine (num_any _ _).mono ?_
            rintro e w' ⟨rfl, ew⟩
            rw [ew]
            clear ew w'
            go_wp2_with fail
            go_roundw
            case rel => exact ⟨i + 1, by omega, by go_num, s, hfin, hln⟩
            case measure => simp [intOf]; omega
          · have dw : decide (who < 0) = false := by simpa using hw0
            have dw2 : decide ((n : Int) ≤ who) = true := by simp; omega
            clear hout hw0
            go_wp2_with fail
            refine kA.out.mono ?_
            rintro e w' ⟨rfl, ew⟩
            rw [ew]
            clear ew w' kA
            go_wp2_with fail
            refine (num_any _ _).mono ?_
            rintro e w' ⟨rfl, ew⟩
            rw [ew]
            clear ew w'
            go_wp2_with fail
            go_roundw
            case rel => exact ⟨i + 1, by omega, by go_num, s, hfin, hln⟩
            case measure => simp [intOf]; omega
        · have dw : decide (who < 0) = false := by simp; omega
          have dw2 : decide ((n : Int) ≤ who) = false := by simp; omega
          have kOp := hid (hCP0.out.op hM who 1 x (Or.inl ⟨rfl, by omega, by rw [hln.out]; omega⟩) (.cells #[.int .i64 1, .int .i64 who, .int .i64 x] 48))
          have hln' : Hid ((opS s who 1 x).1.L.length = n) := by rw [Hid, opS_len]; exact hln.out
          obtain ⟨⟨s', a, y⟩, hop⟩ : ∃ z, opS s who 1 x = z := ⟨_, rfl⟩
          rw [hop] at kOp hln'
          dsimp only at kOp hln'
          have kbx : Hid ((wr.alloc (.cells #[.int .i64 1, .int .i64 who, .int .i64 x] 48)).drew.heap[wr.heap.size]? = some (.cells #[.int .i64 1, .int .i64 who, .int .i64 x] 48 (0, 0))) := hzx.out 1
          clear hout hop
          go_wp2_with fail
          clear c0 c1 c2 dw dw2
          obtain ⟨xb, hxb⟩ : ∃ xb, wr.heap.size = xb := ⟨_, rfl⟩
          rw [hxb] at kOp kbx ⊢
          clear hxb hzx
          generalize wr.alloc (.cells #[.int .i64 1, .int .i64 who, .int .i64 x] 48) = w10 at *
          refine wp_region_noPanic ?_
          refine wp_region_held_drew (S := fun X => X.heap[xb]? = some (.cells #[.int .i64 1, .int .i64 who, .int .i64 x] 48 (0, 0))) (by kernel_rfl) kbx.out (fun hHeld => ?_)
          generalize w10.drew = W0 at *
          refine' wpAnyH_take (i := 0) rfl (by kernel_rfl) (by kernel_rfl) (by kernel_rfl) (fun _ _ _ h => h) (Or.inl ⟨by rfl, ?_⟩) hHeld ?_
          rotate_left
          · intro W hSw
            clear hSw
            simp only [List.getElem_toArray, List.getElem_cons_zero]
            go_simp
            all_goals with_reducible rfl
          simp only [List.getElem_toArray, List.getElem_cons_zero, Act.put, List.setIfInBounds_toArray, List.set_cons_zero, List.set_cons_succ]
          refine' wpAnyH_take (i := 1) rfl (by kernel_rfl) (by kernel_rfl) (by kernel_rfl) (fun _ _ _ h => h) (Or.inl ⟨by rfl, ?_⟩) hHeld ?_
          rotate_left
          · intro W hSw
            have hSv : W.heap[xb]? = some (.cells #[.int .i64 1, .int .i64 who, .int .i64 x] 48 (0, 0)) := hSw
            clear hSw
            (have r0 := blk_cells (i := 0) hSv rfl; have r1 := blk_cells (i := 1) hSv rfl; have r2 := blk_cells (i := 2) hSv rfl; clear hSv)
            simp only [List.getElem_toArray, List.getElem_cons_zero, List.getElem_cons_succ]
            go_simp
            all_goals with_reducible rfl
          simp only [List.getElem_toArray, List.getElem_cons_zero, List.getElem_cons_succ, Act.put, List.setIfInBounds_toArray, List.set_cons_zero, List.set_cons_succ]
          refine' wpAnyH_take (i := 3) rfl (by kernel_rfl) (by kernel_rfl) (by kernel_rfl) (fun _ _ _ h => h) (Or.inl ⟨by rfl, ?_⟩) hHeld ?_
          rotate_left
          · intro W hSw
            have hSv : W.heap[xb]? = some (.cells #[.int .i64 1, .int .i64 who, .int .i64 x] 48 (0, 0)) := hSw
            clear hSw
            (have r0 := blk_cells (i := 0) hSv rfl; have r1 := blk_cells (i := 1) hSv rfl; have r2 := blk_cells (i := 2) hSv rfl; clear hSv)
            simp only [List.getElem_toArray, List.getElem_cons_zero, List.getElem_cons_succ]
            go_simp
            all_goals with_reducible rfl
          simp only [List.getElem_toArray, List.getElem_cons_zero, List.getElem_cons_succ, Act.put, List.setIfInBounds_toArray, List.set_cons_zero, List.set_cons_succ]
          refine' wpAnyH_take (i := 4) rfl (by kernel_rfl) (by kernel_rfl) (by kernel_rfl) (fun _ _ _ h => h) (Or.inl ⟨by rfl, ?_⟩) hHeld ?_
          rotate_left
          · intro W hSw
            have hSv : W.heap[xb]? = some (.cells #[.int .i64 1, .int .i64 who, .int .i64 x] 48 (0, 0)) := hSw
            clear hSw
            (have r0 := blk_cells (i := 0) hSv rfl; have r1 := blk_cells (i := 1) hSv rfl; have r2 := blk_cells (i := 2) hSv rfl; clear hSv)
            simp only [List.getElem_toArray, List.getElem_cons_zero, List.getElem_cons_succ]
            go_simp
            all_goals with_reducible rfl
          simp only [List.getElem_toArray, List.getElem_cons_zero, List.getElem_cons_succ, Act.put, List.setIfInBounds_toArray, List.set_cons_zero, List.set_cons_succ]
          refine' wpAnyH_take (i := 5) rfl (by kernel_rfl) (by kernel_rfl) (by kernel_rfl) (fun _ _ _ h => h) (Or.inl ⟨by rfl, ?_⟩) hHeld ?_
          rotate_left
          · intro W hSw
            have hSv : W.heap[xb]? = some (.cells #[.int .i64 1, .int .i64 who, .int .i64 x] 48 (0, 0)) := hSw
            clear hSw
            (have r0 := blk_cells (i := 0) hSv rfl; have r1 := blk_cells (i := 1) hSv rfl; have r2 := blk_cells (i := 2) hSv rfl; clear hSv)
            simp only [List.getElem_toArray, List.getElem_cons_zero, List.getElem_cons_succ]
            go_simp
            all_goals with_reducible rfl
          simp only [List.getElem_toArray, List.getElem_cons_zero, List.getElem_cons_succ, Act.put, List.setIfInBounds_toArray, List.set_cons_zero, List.set_cons_succ]
          refine' wpAnyH_take (i := 6) rfl (by kernel_rfl) (by kernel_rfl) (by kernel_rfl) (fun _ _ _ h => h) (Or.inl ⟨by rfl, ?_⟩) hHeld ?_
          rotate_left
          · intro W hSw
            have hSv : W.heap[xb]? = some (.cells #[.int .i64 1, .int .i64 who, .int .i64 x] 48 (0, 0)) := hSw
            clear hSw
            (have r0 := blk_cells (i := 0) hSv rfl; have r1 := blk_cells (i := 1) hSv rfl; have r2 := blk_cells (i := 2) hSv rfl; clear hSv)
            simp only [List.getElem_toArray, List.getElem_cons_zero, List.getElem_cons_succ]
            go_simp
            all_goals with_reducible rfl
          simp only [List.getElem_toArray, List.getElem_cons_zero, List.getElem_cons_succ, Act.put, List.setIfInBounds_toArray, List.set_cons_zero, List.set_cons_succ]
          refine' wpAnyH_take (i := 7) rfl (by kernel_rfl) (by kernel_rfl) (by kernel_rfl) (fun _ _ _ h => h) (Or.inl ⟨by rfl, ?_⟩) hHeld ?_
          rotate_left
          · intro W hSw
            have hSv : W.heap[xb]? = some (.cells #[.int .i64 1, .int .i64 who, .int .i64 x] 48 (0, 0)) := hSw
            clear hSw
            (have r0 := blk_cells (i := 0) hSv rfl; have r1 := blk_cells (i := 1) hSv rfl; have r2 := blk_cells (i := 2) hSv rfl; clear hSv)
            simp only [List.getElem_toArray, List.getElem_cons_zero, List.getElem_cons_succ]
            go_simp
            all_goals with_reducible rfl
          simp only [List.getElem_toArray, List.getElem_cons_zero, List.getElem_cons_succ, Act.put, List.setIfInBounds_toArray, List.set_cons_zero, List.set_cons_succ]
          refine' wpAnyH_take (i := 8) rfl (by kernel_rfl) (by kernel_rfl) (by kernel_rfl) (fun _ _ _ h => h) (Or.inl ⟨by rfl, ?_⟩) hHeld ?_
          rotate_left
          · intro W hSw
            have hSv : W.heap[xb]? = some (.cells #[.int .i64 1, .int .i64 who, .int .i64 x] 48 (0, 0)) := hSw
            clear hSw
            (have r0 := blk_cells (i := 0) hSv rfl; have r1 := blk_cells (i := 1) hSv rfl; have r2 := blk_cells (i := 2) hSv rfl; clear hSv)
            simp only [List.getElem_toArray, List.getElem_cons_zero, List.getElem_cons_succ]
            go_simp
            all_goals with_reducible rfl
          simp only [List.getElem_toArray, List.getElem_cons_zero, List.getElem_cons_succ, Act.put, List.setIfInBounds_toArray, List.set_cons_zero, List.set_cons_succ]
          refine' wpAnyH_take (i := 9) rfl (by kernel_rfl) (by kernel_rfl) (by kernel_rfl) (fun _ _ _ h => h) (Or.inl ⟨by rfl, ?_⟩) hHeld ?_
          rotate_left
          · intro W hSw
            have hSv : W.heap[xb]? = some (.cells #[.int .i64 1, .int .i64 who, .int .i64 x] 48 (0, 0)) := hSw
            clear hSw
            (have r0 := blk_cells (i := 0) hSv rfl; have r1 := blk_cells (i := 1) hSv rfl; have r2 := blk_cells (i := 2) hSv rfl; clear hSv)
            simp only [List.getElem_toArray, List.getElem_cons_zero, List.getElem_cons_succ]
            go_simp
            all_goals with_reducible rfl
          simp only [List.getElem_toArray, List.getElem_cons_zero, List.getElem_cons_succ, Act.put, List.setIfInBounds_toArray, List.set_cons_zero, List.set_cons_succ]
          refine' wpAnyH_take (i := 10) rfl (by kernel_rfl) (by kernel_rfl) (by kernel_rfl) (fun _ _ _ h => h) (Or.inl ⟨by rfl, ?_⟩) hHeld ?_
          rotate_left
          · intro W hSw
            have hSv : W.heap[xb]? = some (.cells #[.int .i64 1, .int .i64 who, .int .i64 x] 48 (0, 0)) := hSw
            clear hSw
            (have r0 := blk_cells (i := 0) hSv rfl; have r1 := blk_cells (i := 1) hSv rfl; have r2 := blk_cells (i := 2) hSv rfl; clear hSv)
            simp only [List.getElem_toArray, List.getElem_cons_zero, List.getElem_cons_succ]
            go_simp
            all_goals with_reducible rfl
          simp only [List.getElem_toArray, List.getElem_cons_zero, List.getElem_cons_succ, Act.put, List.setIfInBounds_toArray, List.set_cons_zero, List.set_cons_succ]
          refine wpAnyH_ready (rs := [2]) (by kernel_rfl) (by simp) ?_
          refine AllReadyH.cons (o := _) rfl (fun K hK => ?_) AllReadyH.nil
          simp only [List.getElem_toArray, List.getElem_cons_zero, List.getElem_cons_succ]
          go_simp
          refine kOp.out.mono ?_
          rintro e V ⟨rfl, hb, k2⟩
          refine hK.out _ _ hb (fun hHeld => ?_)
          have kk2 := hid k2
          clear hK K hb k2 kOp
          try simp only [Act.put, List.setIfInBounds_toArray, List.set_cons_zero, List.set_cons_succ]
          refine wpAnyH_ready (rs := [11]) (by kernel_rfl) (by simp) ?_
          refine AllReadyH.cons (o := _) rfl (fun K hK => ?_) AllReadyH.nil
          simp only [List.getElem_toArray, List.getElem_cons_zero, List.getElem_cons_succ]
          go_simp
          refine kk2.out.mono ?_
          rintro e V' ⟨rfl, hb, hCP'⟩
          refine hK.out _ _ hb (fun hHeld => ?_)
          have kCP' := hid hCP'
          clear hK K hb hCP' kk2
          unfold ans
          try simp only [Act.put, List.setIfInBounds_toArray, List.set_cons_zero, List.set_cons_succ]
          have hya : (a != a) = false := by simp
          have hyy : (y != y) = false := by simp
          refine' wpAnyH_take (i := 12) rfl (by kernel_rfl) (by kernel_rfl) (by kernel_rfl) (fun _ _ _ h => h) (Or.inl ⟨by rfl, ?_⟩) hHeld ?_
          rotate_left
          · intro W hSw
            have hSv : W.heap[xb]? = some (.cells #[.int .i64 1, .int .i64 who, .int .i64 x] 48 (0, 0)) := hSw
            clear hSw
            (have r0 := blk_cells (i := 0) hSv rfl; have r1 := blk_cells (i := 1) hSv rfl; have r2 := blk_cells (i := 2) hSv rfl; clear hSv)
            simp only [List.getElem_toArray, List.getElem_cons_zero, List.getElem_cons_succ]
            go_simp
            all_goals with_reducible rfl
          simp only [List.getElem_toArray, List.getElem_cons_zero, List.getElem_cons_succ, Act.put, List.setIfInBounds_toArray, List.set_cons_zero, List.set_cons_succ]
          refine wpAnyH_done (by kernel_rfl) ?_ _
          refine NoPanic.normal ?_
          clear hHeld hya hyy
          go_wp2_with fail
          go_roundw
          case rel => exact ⟨i + 1, by omega, by go_num, s', hid (by rw [show ((i + 1 : Nat) : Int) = (i : Int) + 1 from by omega]; exact kCP'.out), hln'.out⟩
          case measure => simp [intOf]; omega
      · have hk1' : (kd == 1) = false := by simpa using hk1
        by_cases hk5 : 1 ≤ kd ∧ kd ≤ 5
        · have dk1 : decide (1 ≤ kd) = true := by simp; omega
          have dk5 : decide (kd ≤ 5) = true := by simp; omega
          have kOp := hid (hCP0.out.op hM who kd x (Or.inr (by omega)) (.cells #[.int .i64 kd, .int .i64 who, .int .i64 x] 48))
          have hln' : Hid ((opS s who kd x).1.L.length = n) := by rw [Hid, opS_len]; exact hln.out
          obtain ⟨⟨s', a, y⟩, hop⟩ : ∃ z, opS s who kd x = z := ⟨_, rfl⟩
          rw [hop] at kOp hln'
          dsimp only at kOp hln'
          have kbx : Hid ((wr.alloc (.cells #[.int .i64 kd, .int .i64 who, .int .i64 x] 48)).drew.heap[wr.heap.size]? = some (.cells #[.int .i64 kd, .int .i64 who, .int .i64 x] 48 (0, 0))) := hzx.out kd
          clear hk5 hk1 hop
          go_wp2_with fail
          clear c0 c1 c2 dk1 dk5 hk1'
          obtain ⟨xb, hxb⟩ : ∃ xb, wr.heap.size = xb := ⟨_, rfl⟩
          rw [hxb] at kOp kbx ⊢
          clear hxb hzx
          generalize wr.alloc (.cells #[.int .i64 kd, .int .i64 who, .int .i64 x] 48) = w10 at *
          refine wp_region_noPanic ?_
          refine wp_region_held_drew (S := fun X => X.heap[xb]? = some (.cells #[.int .i64 kd, .int .i64 who, .int .i64 x] 48 (0, 0))) (by kernel_rfl) kbx.out (fun hHeld => ?_)
          generalize w10.drew = W0 at *
          refine' wpAnyH_take (i := 0) rfl (by kernel_rfl) (by kernel_rfl) (by kernel_rfl) (fun _ _ _ h => h) (Or.inl ⟨by rfl, ?_⟩) hHeld ?_
          rotate_left
          · intro W hSw
            clear hSw
            simp only [List.getElem_toArray, List.getElem_cons_zero]
            go_simp
            all_goals with_reducible rfl
          simp only [List.getElem_toArray, List.getElem_cons_zero, Act.put, List.setIfInBounds_toArray, List.set_cons_zero, List.set_cons_succ]
          refine' wpAnyH_take (i := 1) rfl (by kernel_rfl) (by kernel_rfl) (by kernel_rfl) (fun _ _ _ h => h) (Or.inl ⟨by rfl, ?_⟩) hHeld ?_
          rotate_left
          · intro W hSw
            have hSv : W.heap[xb]? = some (.cells #[.int .i64 kd, .int .i64 who, .int .i64 x] 48 (0, 0)) := hSw
            clear hSw
            (have r0 := blk_cells (i := 0) hSv rfl; have r1 := blk_cells (i := 1) hSv rfl; have r2 := blk_cells (i := 2) hSv rfl; clear hSv)
            simp only [List.getElem_toArray, List.getElem_cons_zero, List.getElem_cons_succ]
            go_simp
            all_goals with_reducible rfl
          simp only [List.getElem_toArray, List.getElem_cons_zero, List.getElem_cons_succ, Act.put, List.setIfInBounds_toArray, List.set_cons_zero, List.set_cons_succ]
          refine' wpAnyH_take (i := 3) rfl (by kernel_rfl) (by kernel_rfl) (by kernel_rfl) (fun _ _ _ h => h) (Or.inl ⟨by rfl, ?_⟩) hHeld ?_
          rotate_left
          · intro W hSw
            have hSv : W.heap[xb]? = some (.cells #[.int .i64 kd, .int .i64 who, .int .i64 x] 48 (0, 0)) := hSw
            clear hSw
            (have r0 := blk_cells (i := 0) hSv rfl; have r1 := blk_cells (i := 1) hSv rfl; have r2 := blk_cells (i := 2) hSv rfl; clear hSv)
            simp only [List.getElem_toArray, List.getElem_cons_zero, List.getElem_cons_succ]
            go_simp
            all_goals with_reducible rfl
          simp only [List.getElem_toArray, List.getElem_cons_zero, List.getElem_cons_succ, Act.put, List.setIfInBounds_toArray, List.set_cons_zero, List.set_cons_succ]
          refine' wpAnyH_take (i := 4) rfl (by kernel_rfl) (by kernel_rfl) (by kernel_rfl) (fun _ _ _ h => h) (Or.inl ⟨by rfl, ?_⟩) hHeld ?_
          rotate_left
          · intro W hSw
            have hSv : W.heap[xb]? = some (.cells #[.int .i64 kd, .int .i64 who, .int .i64 x] 48 (0, 0)) := hSw
            clear hSw
            (have r0 := blk_cells (i := 0) hSv rfl; have r1 := blk_cells (i := 1) hSv rfl; have r2 := blk_cells (i := 2) hSv rfl; clear hSv)
            simp only [List.getElem_toArray, List.getElem_cons_zero, List.getElem_cons_succ]
            go_simp
            all_goals with_reducible rfl
          simp only [List.getElem_toArray, List.getElem_cons_zero, List.getElem_cons_succ, Act.put, List.setIfInBounds_toArray, List.set_cons_zero, List.set_cons_succ]
          refine' wpAnyH_take (i := 5) rfl (by kernel_rfl) (by kernel_rfl) (by kernel_rfl) (fun _ _ _ h => h) (Or.inl ⟨by rfl, ?_⟩) hHeld ?_
          rotate_left
          · intro W hSw
            have hSv : W.heap[xb]? = some (.cells #[.int .i64 kd, .int .i64 who, .int .i64 x] 48 (0, 0)) := hSw
            clear hSw
            (have r0 := blk_cells (i := 0) hSv rfl; have r1 := blk_cells (i := 1) hSv rfl; have r2 := blk_cells (i := 2) hSv rfl; clear hSv)
            simp only [List.getElem_toArray, List.getElem_cons_zero, List.getElem_cons_succ]
            go_simp
            all_goals with_reducible rfl
          simp only [List.getElem_toArray, List.getElem_cons_zero, List.getElem_cons_succ, Act.put, List.setIfInBounds_toArray, List.set_cons_zero, List.set_cons_succ]
          refine' wpAnyH_take (i := 6) rfl (by kernel_rfl) (by kernel_rfl) (by kernel_rfl) (fun _ _ _ h => h) (Or.inl ⟨by rfl, ?_⟩) hHeld ?_
          rotate_left
          · intro W hSw
            have hSv : W.heap[xb]? = some (.cells #[.int .i64 kd, .int .i64 who, .int .i64 x] 48 (0, 0)) := hSw
            clear hSw
            (have r0 := blk_cells (i := 0) hSv rfl; have r1 := blk_cells (i := 1) hSv rfl; have r2 := blk_cells (i := 2) hSv rfl; clear hSv)
            simp only [List.getElem_toArray, List.getElem_cons_zero, List.getElem_cons_succ]
            go_simp
            all_goals with_reducible rfl
          simp only [List.getElem_toArray, List.getElem_cons_zero, List.getElem_cons_succ, Act.put, List.setIfInBounds_toArray, List.set_cons_zero, List.set_cons_succ]
          refine' wpAnyH_take (i := 7) rfl (by kernel_rfl) (by kernel_rfl) (by kernel_rfl) (fun _ _ _ h => h) (Or.inl ⟨by rfl, ?_⟩) hHeld ?_
          rotate_left
          · intro W hSw
            have hSv : W.heap[xb]? = some (.cells #[.int .i64 kd, .int .i64 who, .int .i64 x] 48 (0, 0)) := hSw
            clear hSw
            (have r0 := blk_cells (i := 0) hSv rfl; have r1 := blk_cells (i := 1) hSv rfl; have r2 := blk_cells (i := 2) hSv rfl; clear hSv)
            simp only [List.getElem_toArray, List.getElem_cons_zero, List.getElem_cons_succ]
            go_simp
            all_goals with_reducible rfl
          simp only [List.getElem_toArray, List.getElem_cons_zero, List.getElem_cons_succ, Act.put, List.setIfInBounds_toArray, List.set_cons_zero, List.set_cons_succ]
          refine' wpAnyH_take (i := 8) rfl (by kernel_rfl) (by kernel_rfl) (by kernel_rfl) (fun _ _ _ h => h) (Or.inl ⟨by rfl, ?_⟩) hHeld ?_
          rotate_left
          · intro W hSw
            have hSv : W.heap[xb]? = some (.cells #[.int .i64 kd, .int .i64 who, .int .i64 x] 48 (0, 0)) := hSw
            clear hSw
            (have r0 := blk_cells (i := 0) hSv rfl; have r1 := blk_cells (i := 1) hSv rfl; have r2 := blk_cells (i := 2) hSv rfl; clear hSv)
            simp only [List.getElem_toArray, List.getElem_cons_zero, List.getElem_cons_succ]
            go_simp
            all_goals with_reducible rfl
          simp only [List.getElem_toArray, List.getElem_cons_zero, List.getElem_cons_succ, Act.put, List.setIfInBounds_toArray, List.set_cons_zero, List.set_cons_succ]
          refine' wpAnyH_take (i := 9) rfl (by kernel_rfl) (by kernel_rfl) (by kernel_rfl) (fun _ _ _ h => h) (Or.inl ⟨by rfl, ?_⟩) hHeld ?_
          rotate_left
          · intro W hSw
            have hSv : W.heap[xb]? = some (.cells #[.int .i64 kd, .int .i64 who, .int .i64 x] 48 (0, 0)) := hSw
            clear hSw
            (have r0 := blk_cells (i := 0) hSv rfl; have r1 := blk_cells (i := 1) hSv rfl; have r2 := blk_cells (i := 2) hSv rfl; clear hSv)
            simp only [List.getElem_toArray, List.getElem_cons_zero, List.getElem_cons_succ]
            go_simp
            all_goals with_reducible rfl
          simp only [List.getElem_toArray, List.getElem_cons_zero, List.getElem_cons_succ, Act.put, List.setIfInBounds_toArray, List.set_cons_zero, List.set_cons_succ]
          refine' wpAnyH_take (i := 10) rfl (by kernel_rfl) (by kernel_rfl) (by kernel_rfl) (fun _ _ _ h => h) (Or.inl ⟨by rfl, ?_⟩) hHeld ?_
          rotate_left
          · intro W hSw
            have hSv : W.heap[xb]? = some (.cells #[.int .i64 kd, .int .i64 who, .int .i64 x] 48 (0, 0)) := hSw
            clear hSw
            (have r0 := blk_cells (i := 0) hSv rfl; have r1 := blk_cells (i := 1) hSv rfl; have r2 := blk_cells (i := 2) hSv rfl; clear hSv)
            simp only [List.getElem_toArray, List.getElem_cons_zero, List.getElem_cons_succ]
            go_simp
            all_goals with_reducible rfl
          simp only [List.getElem_toArray, List.getElem_cons_zero, List.getElem_cons_succ, Act.put, List.setIfInBounds_toArray, List.set_cons_zero, List.set_cons_succ]
          refine wpAnyH_ready (rs := [2]) (by kernel_rfl) (by simp) ?_
          refine AllReadyH.cons (o := _) rfl (fun K hK => ?_) AllReadyH.nil
          simp only [List.getElem_toArray, List.getElem_cons_zero, List.getElem_cons_succ]
          go_simp
          refine kOp.out.mono ?_
          rintro e V ⟨rfl, hb, k2⟩
          refine hK.out _ _ hb (fun hHeld => ?_)
          have kk2 := hid k2
          clear hK K hb k2 kOp
          try simp only [Act.put, List.setIfInBounds_toArray, List.set_cons_zero, List.set_cons_succ]
          refine wpAnyH_ready (rs := [11]) (by kernel_rfl) (by simp) ?_
          refine AllReadyH.cons (o := _) rfl (fun K hK => ?_) AllReadyH.nil
          simp only [List.getElem_toArray, List.getElem_cons_zero, List.getElem_cons_succ]
          go_simp
          refine kk2.out.mono ?_
          rintro e V' ⟨rfl, hb, hCP'⟩
          refine hK.out _ _ hb (fun hHeld => ?_)
          have kCP' := hid hCP'
          clear hK K hb hCP' kk2
          unfold ans
          try simp only [Act.put, List.setIfInBounds_toArray, List.set_cons_zero, List.set_cons_succ]
          have hya : (a != a) = false := by simp
          have hyy : (y != y) = false := by simp
          refine' wpAnyH_take (i := 12) rfl (by kernel_rfl) (by kernel_rfl) (by kernel_rfl) (fun _ _ _ h => h) (Or.inl ⟨by rfl, ?_⟩) hHeld ?_
          rotate_left
          · intro W hSw
            have hSv : W.heap[xb]? = some (.cells #[.int .i64 kd, .int .i64 who, .int .i64 x] 48 (0, 0)) := hSw
            clear hSw
            (have r0 := blk_cells (i := 0) hSv rfl; have r1 := blk_cells (i := 1) hSv rfl; have r2 := blk_cells (i := 2) hSv rfl; clear hSv)
            simp only [List.getElem_toArray, List.getElem_cons_zero, List.getElem_cons_succ]
            go_simp
            all_goals with_reducible rfl
          simp only [List.getElem_toArray, List.getElem_cons_zero, List.getElem_cons_succ, Act.put, List.setIfInBounds_toArray, List.set_cons_zero, List.set_cons_succ]
          refine wpAnyH_done (by kernel_rfl) ?_ _
          refine NoPanic.normal ?_
          clear hHeld hya hyy
          go_wp2_with fail
          go_roundw
          case rel => exact ⟨i + 1, by omega, by go_num, s', hid (by rw [show ((i + 1 : Nat) : Int) = (i : Int) + 1 from by omega]; exact kCP'.out), hln'.out⟩
          case measure => simp [intOf]; omega
        · have hk5' : Hid (¬ (1 ≤ kd ∧ kd ≤ 5)) := hk5
          clear hk5
          by_cases hk6 : kd = 6
          · subst hk6
            have hCP1 := hid (hCP0.out.old ((Old.refl wr).alloc (.cells #[.int .i64 6, .int .i64 who, .int .i64 x] 48)))
            obtain ⟨sb, cc, q0, hgo⟩ := hCP1.out.goes
            have kgo : Hid (∀ X, Old (wr.alloc (.cells #[.int .i64 6, .int .i64 who, .int .i64 x] 48)) X → Calls Try.prog 17 #[.pointer (some ⟨pc, 0, none⟩), .slice (some ⟨sb, 0, none⟩) s.L.length cc, .int .i64 x] X fun e w' => e = .returned (.bool true) ∧ Old X w') := fun X o => hgo X x o
            have kq0 := hid q0
            have kbx := hid (hzx.out 6)
            clear hgo q0 hk1 hk5' hzx
            go_wp2_with fail
            clear c0 c1 c2 hk1'
            obtain ⟨xb, hxb⟩ : ∃ xb, wr.heap.size = xb := ⟨_, rfl⟩
            rw [hxb] at kbx ⊢
            clear hxb
            generalize wr.alloc (.cells #[.int .i64 6, .int .i64 who, .int .i64 x] 48) = w10 at *
            refine wp_region_noPanic ?_
            refine wp_region_held_drew (S := fun X => Old w10 X) (by kernel_rfl) ((Old.refl w10).drewN 1) (fun hHeld => ?_)
            generalize w10.drew = W0 at *
            refine' wpAnyH_take (i := 0) rfl (by kernel_rfl) (by kernel_rfl) (by kernel_rfl) (fun _ _ _ h => h) (Or.inl ⟨by rfl, ?_⟩) hHeld ?_
            rotate_left
            · intro W hSw
              clear hSw
              simp only [List.getElem_toArray, List.getElem_cons_zero]
              go_simp
              all_goals with_reducible rfl
            simp only [List.getElem_toArray, List.getElem_cons_zero, Act.put, List.setIfInBounds_toArray, List.set_cons_zero, List.set_cons_succ]
            refine' wpAnyH_take (i := 1) rfl (by kernel_rfl) (by kernel_rfl) (by kernel_rfl) (fun _ _ _ h => h) (Or.inl ⟨by rfl, ?_⟩) hHeld ?_
            rotate_left
            · intro W hSw
              have hSv : Old w10 W := hSw
              clear hSw
              (have q1 := hSv.cell kq0.out; have r2 : W.cell? ⟨xb, 2, none⟩ = some (.int .i64 x) := hSv.cell (blk_cells kbx.out rfl); clear hSv)
              simp only [List.getElem_toArray, List.getElem_cons_zero, List.getElem_cons_succ]
              go_simp
              all_goals with_reducible rfl
            simp only [List.getElem_toArray, List.getElem_cons_zero, List.getElem_cons_succ, Act.put, List.setIfInBounds_toArray, List.set_cons_zero, List.set_cons_succ]
            refine' wpAnyH_take (i := 2) rfl (by kernel_rfl) (by kernel_rfl) (by kernel_rfl) (fun _ _ _ h => h) (Or.inl ⟨by rfl, ?_⟩) hHeld ?_
            rotate_left
            · intro W hSw
              have hSv : Old w10 W := hSw
              clear hSw
              (have q1 := hSv.cell kq0.out; have r2 : W.cell? ⟨xb, 2, none⟩ = some (.int .i64 x) := hSv.cell (blk_cells kbx.out rfl); clear hSv)
              simp only [List.getElem_toArray, List.getElem_cons_zero, List.getElem_cons_succ]
              go_simp
              all_goals with_reducible rfl
            simp only [List.getElem_toArray, List.getElem_cons_zero, List.getElem_cons_succ, Act.put, List.setIfInBounds_toArray, List.set_cons_zero, List.set_cons_succ]
            refine' wpAnyH_take (i := 3) rfl (by kernel_rfl) (by kernel_rfl) (by kernel_rfl) (fun _ _ _ h => h) (Or.inl ⟨by rfl, ?_⟩) hHeld ?_
            rotate_left
            · intro W hSw
              have hSv : Old w10 W := hSw
              clear hSw
              (have q1 := hSv.cell kq0.out; have r2 : W.cell? ⟨xb, 2, none⟩ = some (.int .i64 x) := hSv.cell (blk_cells kbx.out rfl); clear hSv)
              simp only [List.getElem_toArray, List.getElem_cons_zero, List.getElem_cons_succ]
              go_simp
              all_goals with_reducible rfl
            simp only [List.getElem_toArray, List.getElem_cons_zero, List.getElem_cons_succ, Act.put, List.setIfInBounds_toArray, List.set_cons_zero, List.set_cons_succ]
            refine' wpAnyH_take (i := 4) rfl (by kernel_rfl) (by kernel_rfl) (by kernel_rfl) (fun _ _ _ h => h) (Or.inl ⟨by rfl, ?_⟩) hHeld ?_
            rotate_left
            · intro W hSw
              have hSv : Old w10 W := hSw
              clear hSw
              (have q1 := hSv.cell kq0.out; have r2 : W.cell? ⟨xb, 2, none⟩ = some (.int .i64 x) := hSv.cell (blk_cells kbx.out rfl); clear hSv)
              simp only [List.getElem_toArray, List.getElem_cons_zero, List.getElem_cons_succ]
              go_simp
              all_goals with_reducible rfl
            simp only [List.getElem_toArray, List.getElem_cons_zero, List.getElem_cons_succ, Act.put, List.setIfInBounds_toArray, List.set_cons_zero, List.set_cons_succ]
            refine' wpAnyH_take (i := 5) rfl (by kernel_rfl) (by kernel_rfl) (by kernel_rfl) (fun _ _ _ h => h) (Or.inl ⟨by rfl, ?_⟩) hHeld ?_
            rotate_left
            · intro W hSw
              have hSv : Old w10 W := hSw
              clear hSw
              (have q1 := hSv.cell kq0.out; have r2 : W.cell? ⟨xb, 2, none⟩ = some (.int .i64 x) := hSv.cell (blk_cells kbx.out rfl); clear hSv)
              simp only [List.getElem_toArray, List.getElem_cons_zero, List.getElem_cons_succ]
              go_simp
              all_goals with_reducible rfl
            simp only [List.getElem_toArray, List.getElem_cons_zero, List.getElem_cons_succ, Act.put, List.setIfInBounds_toArray, List.set_cons_zero, List.set_cons_succ]
            refine' wpAnyH_take (i := 6) rfl (by kernel_rfl) (by kernel_rfl) (by kernel_rfl) (fun _ _ _ h => h) (Or.inl ⟨by rfl, ?_⟩) hHeld ?_
            rotate_left
            · intro W hSw
              have hSv : Old w10 W := hSw
              clear hSw
              (have q1 := hSv.cell kq0.out; have r2 : W.cell? ⟨xb, 2, none⟩ = some (.int .i64 x) := hSv.cell (blk_cells kbx.out rfl); clear hSv)
              simp only [List.getElem_toArray, List.getElem_cons_zero, List.getElem_cons_succ]
              go_simp
              all_goals with_reducible rfl
            simp only [List.getElem_toArray, List.getElem_cons_zero, List.getElem_cons_succ, Act.put, List.setIfInBounds_toArray, List.set_cons_zero, List.set_cons_succ]
            refine wpAnyH_ready (rs := [7]) (by kernel_rfl) (by simp) ?_
            refine AllReadyH.cons (o := _) rfl (fun K hK => ?_) AllReadyH.nil
            simp only [List.getElem_toArray, List.getElem_cons_zero, List.getElem_cons_succ]
            go_simp
            refine (kgo.out _ hHeld).mono ?_
            rintro e X ⟨rfl, oX⟩
            have kX := hid (hHeld.trans oX)
            refine hK.out _ _ (hHeld.trans oX) (fun hHeld => ?_)
            clear hK K oX kgo
            try simp only [Act.put, List.setIfInBounds_toArray, List.set_cons_zero, List.set_cons_succ]
            refine' wpAnyH_take (i := 8) rfl (by kernel_rfl) (by kernel_rfl) (by kernel_rfl) (fun _ _ _ h => h) (Or.inl ⟨by rfl, ?_⟩) hHeld ?_
            rotate_left
            · intro W hSw
              have hSv : Old w10 W := hSw
              clear hSw
              (have q1 := hSv.cell kq0.out; have r2 : W.cell? ⟨xb, 2, none⟩ = some (.int .i64 x) := hSv.cell (blk_cells kbx.out rfl); clear hSv)
              simp only [List.getElem_toArray, List.getElem_cons_zero, List.getElem_cons_succ]
              go_simp
              all_goals with_reducible rfl
            simp only [List.getElem_toArray, List.getElem_cons_zero, List.getElem_cons_succ, Act.put, List.setIfInBounds_toArray, List.set_cons_zero, List.set_cons_succ]
            refine wpAnyH_done (by kernel_rfl) ?_ _
            refine NoPanic.normal ?_
            clear hHeld
            have hfin := hid ((hCP1.out.old kX.out).more (show (i : Int) ≤ ((i + 1 : Nat) : Int) by omega))
            clear hCP1 kq0 kbx kX
            go_wp2_with fail
            go_roundw
            case rel => exact ⟨i + 1, by omega, by go_num, s, hfin, hln⟩
            case measure => simp [intOf]; omega
          by_cases hk7 : kd = 7
          · subst hk7
            have hCP1 := hid (hCP0.out.old ((Old.refl wr).alloc (.cells #[.int .i64 7, .int .i64 who, .int .i64 x] 48)))
            have kst := hid hCP1.out.stands
            have kce := hCP1.out.cell
            clear hk1 hk5' hzx hk6
            obtain ⟨e0, e1, e2, e3, e4, e5, e6, e7, he⟩ : ∃ (e0 e1 e2 e3 : Int) (e4 : Bool) (e5 : Int) (e6 : Bool) (e7 : Int), endV s = .agg #[.int .i64 e0, .int .i64 e1, .int .i64 e2, .int .i64 e3, .bool e4, .int .i64 e5, .bool e6, .int .i64 e7] := ⟨_, _, _, _, _, _, _, _, rfl⟩
            rw [he] at kst
            have khe := hid he
            clear he
            go_wp2_with fail
            clear c0 c1 c2 hk1' kce
            generalize wr.alloc (.cells #[.int .i64 7, .int .i64 who, .int .i64 x] 48) = w10 at *
            refine kst.out.mono ?_
            rintro e w11 ⟨rfl, o11⟩
            have hCP2 := hid (hCP1.out.old o11)
            have kde := hid hCP2.out.dend
            rw [khe.out] at kde
            clear o11 kst hCP1
            go_wp2_with fail
            refine kde.out.mono ?_
            rintro e w12 ⟨rfl, o12⟩
            have hfin := hid ((hCP2.out.old o12).more (show (i : Int) ≤ ((i + 1 : Nat) : Int) by omega))
            clear o12 kde hCP2 khe
            have f0 : (e0 != e0) = false := by simp
            have f1 : (e1 != e1) = false := by simp
            have f2 : (e2 != e2) = false := by simp
            have f3 : (e3 != e3) = false := by simp
            have f4 : (e4 != e4) = false := by simp
            have f5 : (e5 != e5) = false := by simp
            have f6 : (e6 != e6) = false := by simp
            have f7 : (e7 != e7) = false := by simp
            go_wp2_with fail
            go_roundw
            case rel => exact ⟨i + 1, by omega, by go_num, s, hfin, hln⟩
            case measure => simp [intOf]; omega
          have hk6' : (kd == 6) = false := by simpa using hk6
          have hk7' : (kd == 7) = false := by simpa using hk7
          have hfin := hid ((hCP0.out.old ((Old.refl wr).alloc (.cells #[.int .i64 kd, .int .i64 who, .int .i64 x] 48))).more (show (i : Int) ≤ ((i + 1 : Nat) : Int) by omega))
          clear hzx hCP0 hk6 hk7 hk1
          by_cases hkl : 1 ≤ kd
          · have dk1 : decide (1 ≤ kd) = true := by simpa using hkl
            have dk5 : decide (kd ≤ 5) = false := by have := hk5'.out; simp; omega
            clear hkl hk5'
            go_wp2_with fail
            go_roundw
            case rel => exact ⟨i + 1, by omega, by go_num, s, hfin, hln⟩
            case measure => simp [intOf]; omega
          · have dk1 : decide (1 ≤ kd) = false := by simpa using hkl
            clear hkl hk5'
            go_wp2_with fail
            go_roundw
            case rel => exact ⟨i + 1, by omega, by go_num, s, hfin, hln⟩
            case measure => simp [intOf]; omega
    · obtain rfl : i = m := by omega
      have hlt' : ¬ (i : Int) < (i : Int) := by omega
      have kst := hid hCP0.out.stands
      have kce := hCP0.out.cell
      obtain ⟨e0, e1, e2, e3, e4, e5, e6, e7, he⟩ : ∃ (e0 e1 e2 e3 : Int) (e4 : Bool) (e5 : Int) (e6 : Bool) (e7 : Int), endV s = .agg #[.int .i64 e0, .int .i64 e1, .int .i64 e2, .int .i64 e3, .bool e4, .int .i64 e5, .bool e6, .int .i64 e7] := ⟨_, _, _, _, _, _, _, _, rfl⟩
      rw [he] at kst
      have khe := hid he
      clear he hlt hi
      go_wp2_with fail
      clear kce
      refine kst.out.mono ?_
      rintro e w11 ⟨rfl, o11⟩
      have hCP2 := hid (hCP0.out.old o11)
      have kde := hid hCP2.out.dend
      rw [khe.out] at kde
      clear o11 kst
      go_wp2_with fail
      refine kde.out.mono ?_
      rintro e w12 ⟨rfl, o12⟩
      have hCP3 := hid (hCP2.out.old o12)
      clear o12 kde hCP2 khe
      obtain ⟨sb, cc, q0, hgo⟩ := hCP3.out.goes
      have kgo : Hid (Calls Try.prog 17 #[.pointer (some ⟨pc, 0, none⟩), .slice (some ⟨sb, 0, none⟩) s.L.length cc, .int .i64 0] w12 fun e w' => e = .returned (.bool true) ∧ Old w12 w') := hgo w12 0 (Old.refl _)
      clear hgo
      have f0 : (e0 == e0) = true := by simp
      have f1 : (e1 == e1) = true := by simp
      have f2 : (e2 == e2) = true := by simp
      have f3 : (e3 == e3) = true := by simp
      have f4 : (e4 == e4) = true := by simp
      have f5 : (e5 == e5) = true := by simp
      have f6 : (e6 == e6) = true := by simp
      have f7 : (e7 == e7) = true := by simp
      go_wp2_with fail
      refine kgo.out.mono ?_
      rintro e w13 ⟨rfl, o13⟩
      have ko13 := hid (hCP3.out.o.trans o13)
      clear o13 kgo q0 hCP3
      go_wp2_with fail
      refine (known_any w13).mono ?_
      rintro e w14 ⟨rfl, o14⟩
      have ko14 := hid (ko13.out.trans o14)
      clear o14 ko13
      go_wp2_with fail
      go_ret
      exact ⟨rfl, ko14.out⟩
end Go.Proofs.Ytpnnfkgnkalhlaa
