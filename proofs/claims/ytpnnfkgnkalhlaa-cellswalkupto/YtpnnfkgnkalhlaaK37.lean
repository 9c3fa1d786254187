/- What stands at a bench. -/
import Derived.Test.YtpnnfkgnkalhlaaK36
namespace Go.Proofs.Ytpnnfkgnkalhlaa
open Go.RowKit Go.Lib Go.Maps



/-- What was offered best, and by whom. -/
def bestV : Option (Int × Int) → Int × Int × Bool
  | none => (0, 0, false)
  | some v => (v.1, v.2, true)

/-- What stands. -/
def endV (s : St) : Value := .agg #[.int .i64 (sumW (evs s.L s.L.length)), .int .i64 s.mr, .int .i64 (bestV s.bs).1, .int .i64 (bestV s.bs).2.1, .bool (bestV s.bs).2.2, .int .i64 s.ar, .bool (decide (s.gt ≤ s.ar)), .int .i64 s.tk]

/-- While what stands is asked: nothing has turned but where it is laid down. -/
def EndS (w2 : World) (sr : Nat) (X : World) : Prop := Frm (fun k => k = sr) w2 X ∧ ∃ a0 a1 a2 a3 a4 a5 a6 a7 : Value, X.heap[sr]? = some (.cells #[a0, a1, a2, a3, a4, a5, a6, a7] 63 (0, 0))

theorem EndS.old {w2 X Y : World} {sr : Nat} (h : EndS w2 sr X) (o : Old X Y) : EndS w2 sr Y := by
  obtain ⟨f, a0, a1, a2, a3, a4, a5, a6, a7, hb⟩ := h
  exact ⟨Frm.trans f o (fun _ _ h => h.elim), a0, a1, a2, a3, a4, a5, a6, a7, (o.block sr (Array.getElem?_eq_some_iff.1 hb).1 (fun h => h)).trans hb⟩

theorem set_eight {w : World} {s : Nat} {a0 a1 a2 a3 a4 a5 a6 a7 : Value} {t : TypeId} (b0 b1 b2 b3 b4 b5 b6 b7 : Value) (h : w.heap[s]? = some (.cells #[a0, a1, a2, a3, a4, a5, a6, a7] t (0, 0))) : ((((((((w.setCell ⟨s, 0, none⟩ b0).setCell ⟨s, 1, none⟩ b1).setCell ⟨s, 2, none⟩ b2).setCell ⟨s, 3, none⟩ b3).setCell ⟨s, 4, none⟩ b4).setCell ⟨s, 5, none⟩ b5).setCell ⟨s, 6, none⟩ b6).setCell ⟨s, 7, none⟩ b7).heap[s]? = some (.cells #[b0, b1, b2, b3, b4, b5, b6, b7] t (0, 0)) ∧ Frm (fun k => k = s) w ((((((((w.setCell ⟨s, 0, none⟩ b0).setCell ⟨s, 1, none⟩ b1).setCell ⟨s, 2, none⟩ b2).setCell ⟨s, 3, none⟩ b3).setCell ⟨s, 4, none⟩ b4).setCell ⟨s, 5, none⟩ b5).setCell ⟨s, 6, none⟩ b6).setCell ⟨s, 7, none⟩ b7) := by
  refine ⟨by simp [World.setCell, Array.getElem?_modify, h], ?_⟩
  have f : ∀ (X : World) (i : Nat) (v : Value), Frm (fun k => k = s) w X → Frm (fun k => k = s) w (X.setCell ⟨s, i, none⟩ v) := fun X i v hX => Frm.setCell hX ⟨s, i, none⟩ (Or.inr rfl) v
  exact f _ _ _ (f _ _ _ (f _ _ _ (f _ _ _ (f _ _ _ (f _ _ _ (f _ _ _ (f _ _ _ (Frm.refl _ w))))))))

theorem BenchS.best {w : World} {τ : Nat → Nat} {B : Names} {p : Option Addr} {s : St} (h : BenchS w τ B p s) : BestS w B.qm B.qn s.bs := by
  obtain ⟨t, ht⟩ := h.bn
  exact ⟨h.bp, ⟨t, p, ht, h.bv⟩, h.be⟩

theorem best_get (mb nb : Nat) (o : Option (Int × Int)) (w : World) (h : BestS w mb nb o) :
    Calls Try.prog 37 #[.pointer (some ⟨mb, 0, none⟩)] w fun e w' => e = .returned (.tuple #[.int .i64 (bestV o).1, .int .i64 (bestV o).2.1, .bool (bestV o).2.2]) ∧ Old w w' := by
  cases o with
  | none =>
    refine (best_get_none mb nb w h).mono ?_
    rintro e w' ⟨rfl, rfl⟩
    exact ⟨rfl, Old.refl _⟩
  | some v => exact best_get_some mb nb v w h

theorem BenchS.frm {w w' : World} {S : Nat → Prop} {τ : Nat → Nat} {B : Names} {p : Option Addr} {s : St} (h : BenchS w τ B p s) (f : Frm S w w') (hS : ∀ k, S k → k < w.heap.size → τ k = 0 ∨ 7 < τ k) : BenchS w' τ B p s := by
  have hb : ∀ k obj, w.heap[k]? = some obj → (τ k ≠ 0 ∧ τ k ≤ 7) → w'.heap[k]? = some obj := fun k obj hk ht => (f.block k (Array.getElem?_eq_some_iff.1 hk).1 (fun e => by have := hS k e (Array.getElem?_eq_some_iff.1 hk).1; omega)).trans hk
  have hc : ∀ k i v, w.cell? ⟨k, i, none⟩ = some v → (τ k ≠ 0 ∧ τ k ≤ 7) → w'.cell? ⟨k, i, none⟩ = some v := fun k i v hv ht => frm_cell f hv (fun e => by have := hS k e (World.block_lt_of_cell? w _ hv); omega)
  have hn : ∀ k, (τ k ≠ 0 ∧ τ k ≤ 7) → k < w.heap.size → ¬ S k := fun k ht hk e => by have := hS k e hk; omega
  obtain ⟨lb, sb, hx, t1, t2⟩ := h.cnt
  obtain ⟨c, hcs⟩ := hx.cnt
  obtain ⟨tr, hr⟩ := hx.row
  obtain ⟨tb, hbn⟩ := h.bn
  have hlb : lb < w.heap.size := (Array.getElem?_eq_some_iff.1 (show w.heap[lb]? = _ from hcs.list)).1
  have hcm : B.cm < w.heap.size := World.block_lt_of_cell? w ⟨B.cm, 0, none⟩ hcs.ptr
  have hcn : B.cn < w.heap.size := (Array.getElem?_eq_some_iff.1 hcs.num.choose_spec).1
  have hsb : sb < w.heap.size := (Array.getElem?_eq_some_iff.1 hr).1
  have u1 := h.t1
  have u2 := h.t2
  have u3 := h.t3
  have u4 := h.t4
  have u5 := h.t5
  have u6 := h.t6
  refine ⟨hc _ _ _ h.c0 (by omega), hc _ _ _ h.c1 (by omega), hc _ _ _ h.c2 (by omega), hc _ _ _ h.c3 (by omega), hc _ _ _ h.c4 (by omega), hc _ _ _ h.c5 (by omega), h.dd.kept f (hn _ (by omega) h.dd.lt), h.t6, ⟨lb, sb, hx.frm f (hn _ (by omega) hcm) (hn _ (by omega) hcn) (hn _ (by omega) hlb) (hn _ (by omega) hsb), t1, t2⟩, h.t1, ⟨hc _ _ _ h.mrk.ptr (by omega), ⟨_, hb _ _ h.mrk.num.choose_spec (by omega)⟩, h.mrk.ne⟩, h.t2, hc _ _ _ h.bp (by omega), ⟨_, hb _ _ hbn (by omega)⟩, h.bv.frm f (fun a ha => hn _ (by have := u3.2.2 a ha; omega) (h.bv.lt a ha)), h.be, h.t3, ⟨hc _ _ _ h.gte.ptr (by omega), hc _ _ _ h.gte.opens (by omega), ⟨_, hb _ _ h.gte.num.choose_spec (by omega)⟩, h.gte.ne⟩, h.t4, ⟨hc _ _ _ h.tks.ptr (by omega), hc _ _ _ h.tks.many (by omega), ⟨_, hb _ _ h.tks.num.choose_spec (by omega)⟩, h.tks.ne⟩, h.t5⟩

theorem BenchS.old {w w' : World} {τ : Nat → Nat} {B : Names} {p : Option Addr} {s : St} (h : BenchS w τ B p s) (f : Old w w') : BenchS w' τ B p s := h.frm f (fun _ h _ => h.elim)

set_option maxRecDepth 100000 in
set_option maxHeartbeats 16000000 in
theorem bench_end (B : Names) (τ : Nat → Nat) (p : Option Addr) (s : St) (mk0 : Int) (w : World) (h : BenchS w τ B p s) (h1 : 1 ≤ s.L.length) (h2 : s.L.length ≤ 64) (h3 : 0 ≤ s.tk) (h4 : s.tk ≤ s.ts) (h5 : s.ts ≤ 9223372036854775807) :
    Calls Try.prog 46 #[.pointer (some ⟨B.bb, 0, none⟩), .agg #[.int .i64 mk0, .int .i64 s.gt, .int .i64 s.ts]] w fun e w' => e = .returned (endV s) ∧ Old w w' := by
  obtain ⟨lb, sb, hx, tx1, tx2⟩ := h.cnt
  obtain ⟨cc, hcs⟩ := hx.cnt
  obtain ⟨tr, hrw⟩ := hx.row
  obtain ⟨n, hn⟩ : ∃ n, s.L.length = n := ⟨_, rfl⟩
  rw [hn] at hcs h1 h2
  have hrow : ∀ i, i < n → w.cell? ⟨sb, 0 + i, none⟩ = some (.int .i64 (s.L[i]?.getD 0)) := fun i hi => by
    have hi' : i < s.L.length := by omega
    simp [World.cell?, hrw, hi']
  have lbb : B.bb < w.heap.size := World.block_lt_of_cell? w ⟨B.bb, 0, none⟩ h.c0
  have hw1 : IntKind.i64.wrap (s.ts - s.tk) = s.ts - s.tk := by rw [IntKind.wrap_i64]; omega
  obtain ⟨zr, hzr⟩ : ∃ zr, decide (s.gt ≤ s.ar) = zr := ⟨_, rfl⟩
  obtain ⟨o, ho⟩ : ∃ o, bestV s.bs = o := ⟨_, rfl⟩
  obtain ⟨o1, o2, o3⟩ := o
  have kBest := hid (fun W (hW : Old w W) => best_get B.qm B.qn s.bs W (h.old hW).best)
  rw [ho] at kBest
  have oA : Old w ((w.alloc (.cells #[.int .i64 mk0, .int .i64 s.gt, .int .i64 s.ts] 23)).alloc (.cells #[.int .i64 0, .int .i64 0, .int .i64 0, .int .i64 0, .bool false, .int .i64 0, .bool false, .int .i64 0] 63)) := ((Old.refl w).alloc _).alloc _
  obtain ⟨nA, nB, zA⟩ := two_news w (.cells #[.int .i64 mk0, .int .i64 s.gt, .int .i64 s.ts] 23) (.cells #[.int .i64 0, .int .i64 0, .int .i64 0, .int .i64 0, .bool false, .int .i64 0, .bool false, .int .i64 0] 63)
  obtain ⟨w1, x1⟩ : ∃ w1, (w.alloc (.cells #[.int .i64 mk0, .int .i64 s.gt, .int .i64 s.ts] 23)).alloc (.cells #[.int .i64 0, .int .i64 0, .int .i64 0, .int .i64 0, .bool false, .int .i64 0, .bool false, .int .i64 0] 63) = w1 := ⟨_, rfl⟩
  rw [x1] at oA nA nB zA
  have kx := hid x1
  have f2 := h.c2
  have kh := hid h
  have ko := hid oA
  have knA := hid nA
  have knB := hid nB
  have kzA := hid zA
  have kcs := hid hcs
  have krow := hid hrow
  have ktx := hid (And.intro tx1 tx2)
  have kn := hid hn
  have ke : Hid (endV s = .agg #[.int .i64 (sumW (evs s.L n)), .int .i64 s.mr, .int .i64 o1, .int .i64 o2, .bool o3, .int .i64 s.ar, .bool zr, .int .i64 s.tk]) := by unfold Hid endV; rw [hn, ho, hzr]
  have kzr := hid hzr
  have kw1 := hid hw1
  have kbd := hid (And.intro h3 (And.intro h4 h5))
  clear x1 oA nA nB zA h hcs hrow tx1 tx2 hn ho hzr hw1 hx hrw h3 h4 h5
  go_enter Try.func46, Try.ntmps46
  go_wp2_with fail
  rw [kx.out]
  clear kx f2
  refine (kBest.out w1 ko.out).mono ?_
  rintro e w2 ⟨rfl, o2'⟩
  go_wp2_with fail
  obtain ⟨sr, hsr⟩ : ∃ sr, w.heap.size + 1 = sr := ⟨_, rfl⟩
  have zA := kzA.out
  have sz2 := o2'.size
  have oW2 := Old.trans ko.out o2'
  have nB2 := (o2'.block (w.heap.size + 1) (by omega) (fun h => h)).trans knB.out
  have nA2 := (o2'.block w.heap.size (by omega) (fun h => h)).trans knA.out
  have e2 : w2.cell? ⟨w.heap.size, 2, none⟩ = some (.int .i64 s.ts) := by simp only [World.cell?, nA2]; rfl
  have hB2 := kh.out.old oW2
  have c0 := hB2.c0
  have c1 := hB2.c1
  have c3 := hB2.c3
  have c4 := hB2.c4
  have hfw : ∀ X, Frm (fun k => k = sr) w2 X → Frm (fun k => w.heap.size ≤ k) w X := fun X hX => Frm.trans (Frm.mono oW2 (fun _ _ h => h.elim)) hX (fun k _ h => by omega)
  have hBX : ∀ X, Frm (fun k => k = sr) w2 X → BenchS X τ B p s := fun X hX => kh.out.frm (hfw X hX) (fun k hk hl => by omega)
  have kC1 : Hid (∀ X, Frm (fun k => k = sr) w2 X → Calls Try.prog 29 #[.pointer (some ⟨B.cm, 0, none⟩)] X fun e w' => e = .returned (.int .i64 (sumW (evs s.L n))) ∧ Old X w') := fun X hX => by
    have hl : lb < w.heap.size := (Array.getElem?_eq_some_iff.1 (show w.heap[lb]? = _ from kcs.out.list)).1
    have hcm : B.cm < w.heap.size := World.block_lt_of_cell? w ⟨B.cm, 0, none⟩ kcs.out.ptr
    have hcn : B.cn < w.heap.size := (Array.getElem?_eq_some_iff.1 kcs.out.num.choose_spec).1
    have hsb : sb < w.heap.size := World.block_lt_of_cell? w ⟨sb, 0 + 0, none⟩ (krow.out 0 (by omega))
    exact count_sum B.cm B.cn lb sb 0 n cc s.L X (kcs.out.frm (hfw X hX) (by omega) (by omega) (by omega)) (fun i hi => frm_cell (hfw X hX) (krow.out i hi) (by simp only; omega)) h1 h2
  have kC2 : Hid (∀ X, Frm (fun k => k = sr) w2 X → Calls Try.prog 38 #[.pointer (some ⟨B.mm, 0, none⟩)] X fun e w' => e = .returned (.int .i64 s.mr) ∧ w' = X) := fun X hX => mark_get B.mm B.mn s.mr X (hBX X hX).mrk
  have kC3 : Hid (∀ X, Frm (fun k => k = sr) w2 X → Calls Try.prog 39 #[.pointer (some ⟨B.gm, 0, none⟩)] X fun e w' => e = .returned (.int .i64 s.ar) ∧ w' = X) := fun X hX => gate_arrived B.gm B.gn s.gt s.ar X (hBX X hX).gte
  have kC4 : Hid (∀ X, Frm (fun k => k = sr) w2 X → Calls Try.prog 40 #[.pointer (some ⟨B.gm, 0, none⟩)] X fun e w' => e = .returned (.bool zr) ∧ Old X w') := fun X hX => by rw [← kzr.out]; exact gate_open B.gm B.gn s.gt s.ar X (hBX X hX).gte
  have kC5 : Hid (∀ X, Frm (fun k => k = sr) w2 X → Calls Try.prog 41 #[.pointer (some ⟨B.tm, 0, none⟩)] X fun e w' => e = .returned (.int .i64 (s.ts - s.tk)) ∧ Old X w') := fun X hX => tick_left B.tm B.tn s.ts s.tk X (hBX X hX).tks kw1.out
  have khs : Hid (IntKind.i64.wrap (s.ts - (s.ts - s.tk)) = s.tk) := by obtain ⟨q1, q2, q3⟩ := kbd.out; unfold Hid; rw [IntKind.wrap_i64]; omega
  have knB2 : Hid (w2.heap[sr]? = some (.cells #[.int .i64 0, .int .i64 0, .int .i64 0, .int .i64 0, .bool false, .int .i64 0, .bool false, .int .i64 0] 63 (0, 0))) := by unfold Hid; rw [← hsr]; exact nB2
  obtain ⟨sa, hsa⟩ : ∃ sa, w.heap.size = sa := ⟨_, rfl⟩
  have kfw := hid hfw
  have ksa := hid hsa
  have lsr : sr ≠ sa := by omega
  have lsb : sa ≠ B.bb ∧ sr ≠ B.bb := by omega
  have kow := hid oW2
  clear hBX hB2 hfw nA2 nB2 o2' oW2 kh kcs krow ktx kbd kzr kw1 kBest ko knA knB kzA zA sz2
  rw [hsr]
  rw [hsa] at e2 ⊢
  clear hsr hsa lbb
  refine wp_region_noPanic ?_
  refine wp_region_held_drew (S := fun X => EndS w2 sr X) (by kernel_rfl) ⟨(Frm.refl (fun k => k = sr) w2).drew, _, _, _, _, _, _, _, _, knB2.out⟩ (fun hHeld => ?_)
  obtain ⟨W0, hW0⟩ : ∃ W0, w2.drew = W0 := ⟨_, rfl⟩
  rw [hW0] at hHeld ⊢
  clear hW0
  refine' wpAnyH_take (i := 0) rfl (by kernel_rfl) (by kernel_rfl) (by kernel_rfl) (fun _ _ _ h => h) (Or.inl ⟨by rfl, ?_⟩) hHeld ?_
  rotate_left
  · intro W hSw
    have hSv : EndS w2 sr W := hSw
    clear hSw
    skip
    simp only [List.getElem_toArray, List.getElem_cons_zero]
    go_simp
    all_goals with_reducible rfl
  simp only [List.getElem_toArray, List.getElem_cons_zero, Act.put, List.setIfInBounds_toArray, List.set_cons_zero, List.set_cons_succ]
  refine' wpAnyH_take (i := 1) rfl (by kernel_rfl) (by kernel_rfl) (by kernel_rfl) (fun _ _ _ h => h) (Or.inl ⟨by rfl, ?_⟩) hHeld ?_
  rotate_left
  · intro W hSw
    have hSv : EndS w2 sr W := hSw
    clear hSw
    skip
    simp only [List.getElem_toArray, List.getElem_cons_zero, List.getElem_cons_succ]
    go_simp
    all_goals with_reducible rfl
  simp only [List.getElem_toArray, List.getElem_cons_zero, List.getElem_cons_succ, Act.put, List.setIfInBounds_toArray, List.set_cons_zero, List.set_cons_succ]
  refine' wpAnyH_take (i := 2) rfl (by kernel_rfl) (by kernel_rfl) (by kernel_rfl) (fun _ _ _ h => h) (Or.inl ⟨by rfl, ?_⟩) hHeld ?_
  rotate_left
  · intro W hSw
    have hSv : EndS w2 sr W := hSw
    clear hSw
    skip
    simp only [List.getElem_toArray, List.getElem_cons_zero, List.getElem_cons_succ]
    go_simp
    all_goals with_reducible rfl
  simp only [List.getElem_toArray, List.getElem_cons_zero, List.getElem_cons_succ, Act.put, List.setIfInBounds_toArray, List.set_cons_zero, List.set_cons_succ]
  refine' wpAnyH_take (i := 3) rfl (by kernel_rfl) (by kernel_rfl) (by kernel_rfl) (fun _ _ _ h => h) (Or.inl ⟨by rfl, ?_⟩) hHeld ?_
  rotate_left
  · intro W hSw
    have hSv : EndS w2 sr W := hSw
    clear hSw
    have zz := frm_cell hSv.1 c0 (by simp only; omega)
    simp only [List.getElem_toArray, List.getElem_cons_zero, List.getElem_cons_succ]
    go_simp
    all_goals with_reducible rfl
  simp only [List.getElem_toArray, List.getElem_cons_zero, List.getElem_cons_succ, Act.put, List.setIfInBounds_toArray, List.set_cons_zero, List.set_cons_succ]
  refine' wpAnyH_take (i := 5) rfl (by kernel_rfl) (by kernel_rfl) (by kernel_rfl) (fun _ _ _ h => h) (Or.inl ⟨by rfl, ?_⟩) hHeld ?_
  rotate_left
  · intro W hSw
    have hSv : EndS w2 sr W := hSw
    clear hSw
    skip
    simp only [List.getElem_toArray, List.getElem_cons_zero, List.getElem_cons_succ]
    go_simp
    all_goals with_reducible rfl
  simp only [List.getElem_toArray, List.getElem_cons_zero, List.getElem_cons_succ, Act.put, List.setIfInBounds_toArray, List.set_cons_zero, List.set_cons_succ]
  refine' wpAnyH_take (i := 6) rfl (by kernel_rfl) (by kernel_rfl) (by kernel_rfl) (fun _ _ _ h => h) (Or.inl ⟨by rfl, ?_⟩) hHeld ?_
  rotate_left
  · intro W hSw
    have hSv : EndS w2 sr W := hSw
    clear hSw
    skip
    simp only [List.getElem_toArray, List.getElem_cons_zero, List.getElem_cons_succ]
    go_simp
    all_goals with_reducible rfl
  simp only [List.getElem_toArray, List.getElem_cons_zero, List.getElem_cons_succ, Act.put, List.setIfInBounds_toArray, List.set_cons_zero, List.set_cons_succ]
  refine' wpAnyH_take (i := 7) rfl (by kernel_rfl) (by kernel_rfl) (by kernel_rfl) (fun _ _ _ h => h) (Or.inl ⟨by rfl, ?_⟩) hHeld ?_
  rotate_left
  · intro W hSw
    have hSv : EndS w2 sr W := hSw
    clear hSw
    skip
    simp only [List.getElem_toArray, List.getElem_cons_zero, List.getElem_cons_succ]
    go_simp
    all_goals with_reducible rfl
  simp only [List.getElem_toArray, List.getElem_cons_zero, List.getElem_cons_succ, Act.put, List.setIfInBounds_toArray, List.set_cons_zero, List.set_cons_succ]
  refine' wpAnyH_take (i := 8) rfl (by kernel_rfl) (by kernel_rfl) (by kernel_rfl) (fun _ _ _ h => h) (Or.inl ⟨by rfl, ?_⟩) hHeld ?_
  rotate_left
  · intro W hSw
    have hSv : EndS w2 sr W := hSw
    clear hSw
    have zz := frm_cell hSv.1 c1 (by simp only; omega)
    simp only [List.getElem_toArray, List.getElem_cons_zero, List.getElem_cons_succ]
    go_simp
    all_goals with_reducible rfl
  simp only [List.getElem_toArray, List.getElem_cons_zero, List.getElem_cons_succ, Act.put, List.setIfInBounds_toArray, List.set_cons_zero, List.set_cons_succ]
  refine' wpAnyH_take (i := 10) rfl (by kernel_rfl) (by kernel_rfl) (by kernel_rfl) (fun _ _ _ h => h) (Or.inl ⟨by rfl, ?_⟩) hHeld ?_
  rotate_left
  · intro W hSw
    have hSv : EndS w2 sr W := hSw
    clear hSw
    skip
    simp only [List.getElem_toArray, List.getElem_cons_zero, List.getElem_cons_succ]
    go_simp
    all_goals with_reducible rfl
  simp only [List.getElem_toArray, List.getElem_cons_zero, List.getElem_cons_succ, Act.put, List.setIfInBounds_toArray, List.set_cons_zero, List.set_cons_succ]
  refine' wpAnyH_take (i := 11) rfl (by kernel_rfl) (by kernel_rfl) (by kernel_rfl) (fun _ _ _ h => h) (Or.inl ⟨by rfl, ?_⟩) hHeld ?_
  rotate_left
  · intro W hSw
    have hSv : EndS w2 sr W := hSw
    clear hSw
    skip
    simp only [List.getElem_toArray, List.getElem_cons_zero, List.getElem_cons_succ]
    go_simp
    all_goals with_reducible rfl
  simp only [List.getElem_toArray, List.getElem_cons_zero, List.getElem_cons_succ, Act.put, List.setIfInBounds_toArray, List.set_cons_zero, List.set_cons_succ]
  refine' wpAnyH_take (i := 12) rfl (by kernel_rfl) (by kernel_rfl) (by kernel_rfl) (fun _ _ _ h => h) (Or.inl ⟨by rfl, ?_⟩) hHeld ?_
  rotate_left
  · intro W hSw
    have hSv : EndS w2 sr W := hSw
    clear hSw
    skip
    simp only [List.getElem_toArray, List.getElem_cons_zero, List.getElem_cons_succ]
    go_simp
    all_goals with_reducible rfl
  simp only [List.getElem_toArray, List.getElem_cons_zero, List.getElem_cons_succ, Act.put, List.setIfInBounds_toArray, List.set_cons_zero, List.set_cons_succ]
  refine' wpAnyH_take (i := 13) rfl (by kernel_rfl) (by kernel_rfl) (by kernel_rfl) (fun _ _ _ h => h) (Or.inl ⟨by rfl, ?_⟩) hHeld ?_
  rotate_left
  · intro W hSw
    have hSv : EndS w2 sr W := hSw
    clear hSw
    skip
    simp only [List.getElem_toArray, List.getElem_cons_zero, List.getElem_cons_succ]
    go_simp
    all_goals with_reducible rfl
  simp only [List.getElem_toArray, List.getElem_cons_zero, List.getElem_cons_succ, Act.put, List.setIfInBounds_toArray, List.set_cons_zero, List.set_cons_succ]
  refine' wpAnyH_take (i := 14) rfl (by kernel_rfl) (by kernel_rfl) (by kernel_rfl) (fun _ _ _ h => h) (Or.inl ⟨by rfl, ?_⟩) hHeld ?_
  rotate_left
  · intro W hSw
    have hSv : EndS w2 sr W := hSw
    clear hSw
    skip
    simp only [List.getElem_toArray, List.getElem_cons_zero, List.getElem_cons_succ]
    go_simp
    all_goals with_reducible rfl
  simp only [List.getElem_toArray, List.getElem_cons_zero, List.getElem_cons_succ, Act.put, List.setIfInBounds_toArray, List.set_cons_zero, List.set_cons_succ]
  refine' wpAnyH_take (i := 15) rfl (by kernel_rfl) (by kernel_rfl) (by kernel_rfl) (fun _ _ _ h => h) (Or.inl ⟨by rfl, ?_⟩) hHeld ?_
  rotate_left
  · intro W hSw
    have hSv : EndS w2 sr W := hSw
    clear hSw
    skip
    simp only [List.getElem_toArray, List.getElem_cons_zero, List.getElem_cons_succ]
    go_simp
    all_goals with_reducible rfl
  simp only [List.getElem_toArray, List.getElem_cons_zero, List.getElem_cons_succ, Act.put, List.setIfInBounds_toArray, List.set_cons_zero, List.set_cons_succ]
  refine' wpAnyH_take (i := 16) rfl (by kernel_rfl) (by kernel_rfl) (by kernel_rfl) (fun _ _ _ h => h) (Or.inl ⟨by rfl, ?_⟩) hHeld ?_
  rotate_left
  · intro W hSw
    have hSv : EndS w2 sr W := hSw
    clear hSw
    have zz := frm_cell hSv.1 c3 (by simp only; omega)
    simp only [List.getElem_toArray, List.getElem_cons_zero, List.getElem_cons_succ]
    go_simp
    all_goals with_reducible rfl
  simp only [List.getElem_toArray, List.getElem_cons_zero, List.getElem_cons_succ, Act.put, List.setIfInBounds_toArray, List.set_cons_zero, List.set_cons_succ]
  refine' wpAnyH_take (i := 18) rfl (by kernel_rfl) (by kernel_rfl) (by kernel_rfl) (fun _ _ _ h => h) (Or.inl ⟨by rfl, ?_⟩) hHeld ?_
  rotate_left
  · intro W hSw
    have hSv : EndS w2 sr W := hSw
    clear hSw
    skip
    simp only [List.getElem_toArray, List.getElem_cons_zero, List.getElem_cons_succ]
    go_simp
    all_goals with_reducible rfl
  simp only [List.getElem_toArray, List.getElem_cons_zero, List.getElem_cons_succ, Act.put, List.setIfInBounds_toArray, List.set_cons_zero, List.set_cons_succ]
  refine' wpAnyH_take (i := 19) rfl (by kernel_rfl) (by kernel_rfl) (by kernel_rfl) (fun _ _ _ h => h) (Or.inl ⟨by rfl, ?_⟩) hHeld ?_
  rotate_left
  · intro W hSw
    have hSv : EndS w2 sr W := hSw
    clear hSw
    skip
    simp only [List.getElem_toArray, List.getElem_cons_zero, List.getElem_cons_succ]
    go_simp
    all_goals with_reducible rfl
  simp only [List.getElem_toArray, List.getElem_cons_zero, List.getElem_cons_succ, Act.put, List.setIfInBounds_toArray, List.set_cons_zero, List.set_cons_succ]
  refine' wpAnyH_take (i := 20) rfl (by kernel_rfl) (by kernel_rfl) (by kernel_rfl) (fun _ _ _ h => h) (Or.inl ⟨by rfl, ?_⟩) hHeld ?_
  rotate_left
  · intro W hSw
    have hSv : EndS w2 sr W := hSw
    clear hSw
    skip
    simp only [List.getElem_toArray, List.getElem_cons_zero, List.getElem_cons_succ]
    go_simp
    all_goals with_reducible rfl
  simp only [List.getElem_toArray, List.getElem_cons_zero, List.getElem_cons_succ, Act.put, List.setIfInBounds_toArray, List.set_cons_zero, List.set_cons_succ]
  refine' wpAnyH_take (i := 21) rfl (by kernel_rfl) (by kernel_rfl) (by kernel_rfl) (fun _ _ _ h => h) (Or.inl ⟨by rfl, ?_⟩) hHeld ?_
  rotate_left
  · intro W hSw
    have hSv : EndS w2 sr W := hSw
    clear hSw
    have zz := frm_cell hSv.1 c3 (by simp only; omega)
    simp only [List.getElem_toArray, List.getElem_cons_zero, List.getElem_cons_succ]
    go_simp
    all_goals with_reducible rfl
  simp only [List.getElem_toArray, List.getElem_cons_zero, List.getElem_cons_succ, Act.put, List.setIfInBounds_toArray, List.set_cons_zero, List.set_cons_succ]
  refine' wpAnyH_take (i := 23) rfl (by kernel_rfl) (by kernel_rfl) (by kernel_rfl) (fun _ _ _ h => h) (Or.inl ⟨by rfl, ?_⟩) hHeld ?_
  rotate_left
  · intro W hSw
    have hSv : EndS w2 sr W := hSw
    clear hSw
    skip
    simp only [List.getElem_toArray, List.getElem_cons_zero, List.getElem_cons_succ]
    go_simp
    all_goals with_reducible rfl
  simp only [List.getElem_toArray, List.getElem_cons_zero, List.getElem_cons_succ, Act.put, List.setIfInBounds_toArray, List.set_cons_zero, List.set_cons_succ]
  refine' wpAnyH_take (i := 24) rfl (by kernel_rfl) (by kernel_rfl) (by kernel_rfl) (fun _ _ _ h => h) (Or.inl ⟨by rfl, ?_⟩) hHeld ?_
  rotate_left
  · intro W hSw
    have hSv : EndS w2 sr W := hSw
    clear hSw
    have zz := frm_cell hSv.1 e2 (by simp only; omega)
    simp only [List.getElem_toArray, List.getElem_cons_zero, List.getElem_cons_succ]
    go_simp
    all_goals with_reducible rfl
  simp only [List.getElem_toArray, List.getElem_cons_zero, List.getElem_cons_succ, Act.put, List.setIfInBounds_toArray, List.set_cons_zero, List.set_cons_succ]
  refine' wpAnyH_take (i := 25) rfl (by kernel_rfl) (by kernel_rfl) (by kernel_rfl) (fun _ _ _ h => h) (Or.inl ⟨by rfl, ?_⟩) hHeld ?_
  rotate_left
  · intro W hSw
    have hSv : EndS w2 sr W := hSw
    clear hSw
    skip
    simp only [List.getElem_toArray, List.getElem_cons_zero, List.getElem_cons_succ]
    go_simp
    all_goals with_reducible rfl
  simp only [List.getElem_toArray, List.getElem_cons_zero, List.getElem_cons_succ, Act.put, List.setIfInBounds_toArray, List.set_cons_zero, List.set_cons_succ]
  refine' wpAnyH_take (i := 26) rfl (by kernel_rfl) (by kernel_rfl) (by kernel_rfl) (fun _ _ _ h => h) (Or.inl ⟨by rfl, ?_⟩) hHeld ?_
  rotate_left
  · intro W hSw
    have hSv : EndS w2 sr W := hSw
    clear hSw
    skip
    simp only [List.getElem_toArray, List.getElem_cons_zero, List.getElem_cons_succ]
    go_simp
    all_goals with_reducible rfl
  simp only [List.getElem_toArray, List.getElem_cons_zero, List.getElem_cons_succ, Act.put, List.setIfInBounds_toArray, List.set_cons_zero, List.set_cons_succ]
  refine' wpAnyH_take (i := 27) rfl (by kernel_rfl) (by kernel_rfl) (by kernel_rfl) (fun _ _ _ h => h) (Or.inl ⟨by rfl, ?_⟩) hHeld ?_
  rotate_left
  · intro W hSw
    have hSv : EndS w2 sr W := hSw
    clear hSw
    skip
    simp only [List.getElem_toArray, List.getElem_cons_zero, List.getElem_cons_succ]
    go_simp
    all_goals with_reducible rfl
  simp only [List.getElem_toArray, List.getElem_cons_zero, List.getElem_cons_succ, Act.put, List.setIfInBounds_toArray, List.set_cons_zero, List.set_cons_succ]
  refine' wpAnyH_take (i := 28) rfl (by kernel_rfl) (by kernel_rfl) (by kernel_rfl) (fun _ _ _ h => h) (Or.inl ⟨by rfl, ?_⟩) hHeld ?_
  rotate_left
  · intro W hSw
    have hSv : EndS w2 sr W := hSw
    clear hSw
    have zz := frm_cell hSv.1 c4 (by simp only; omega)
    simp only [List.getElem_toArray, List.getElem_cons_zero, List.getElem_cons_succ]
    go_simp
    all_goals with_reducible rfl
  simp only [List.getElem_toArray, List.getElem_cons_zero, List.getElem_cons_succ, Act.put, List.setIfInBounds_toArray, List.set_cons_zero, List.set_cons_succ]
  refine wpAnyH_ready (rs := [4]) (by kernel_rfl) (by simp) ?_
  refine AllReadyH.cons (o := _) rfl (fun K hK => ?_) AllReadyH.nil
  simp only [List.getElem_toArray, List.getElem_cons_zero, List.getElem_cons_succ]
  go_simp
  refine (kC1.out _ hHeld.1).mono ?_
  rintro e' X1 ⟨rfl, oX⟩
  go_simp
  refine hK.out _ _ (hHeld.old oX) (fun hHeld => ?_)
  clear hK K
  try simp only [Act.put, List.setIfInBounds_toArray, List.set_cons_zero, List.set_cons_succ]
  refine wpAnyH_ready (rs := [9]) (by kernel_rfl) (by simp) ?_
  refine AllReadyH.cons (o := _) rfl (fun K hK => ?_) AllReadyH.nil
  simp only [List.getElem_toArray, List.getElem_cons_zero, List.getElem_cons_succ]
  go_simp
  refine (kC2.out _ hHeld.1).mono ?_
  rintro e' X1 ⟨rfl, oX⟩
  rw [oX]
  clear oX X1
  go_simp
  refine hK.out _ _ hHeld (fun hHeld => ?_)
  clear hK K
  try simp only [Act.put, List.setIfInBounds_toArray, List.set_cons_zero, List.set_cons_succ]
  refine wpAnyH_ready (rs := [17]) (by kernel_rfl) (by simp) ?_
  refine AllReadyH.cons (o := _) rfl (fun K hK => ?_) AllReadyH.nil
  simp only [List.getElem_toArray, List.getElem_cons_zero, List.getElem_cons_succ]
  go_simp
  refine (kC3.out _ hHeld.1).mono ?_
  rintro e' X1 ⟨rfl, oX⟩
  rw [oX]
  clear oX X1
  go_simp
  refine hK.out _ _ hHeld (fun hHeld => ?_)
  clear hK K
  try simp only [Act.put, List.setIfInBounds_toArray, List.set_cons_zero, List.set_cons_succ]
  refine wpAnyH_ready (rs := [22]) (by kernel_rfl) (by simp) ?_
  refine AllReadyH.cons (o := _) rfl (fun K hK => ?_) AllReadyH.nil
  simp only [List.getElem_toArray, List.getElem_cons_zero, List.getElem_cons_succ]
  go_simp
  refine (kC4.out _ hHeld.1).mono ?_
  rintro e' X1 ⟨rfl, oX⟩
  go_simp
  refine hK.out _ _ (hHeld.old oX) (fun hHeld => ?_)
  clear hK K
  try simp only [Act.put, List.setIfInBounds_toArray, List.set_cons_zero, List.set_cons_succ]
  refine wpAnyH_ready (rs := [29]) (by kernel_rfl) (by simp) ?_
  refine AllReadyH.cons (o := _) rfl (fun K hK => ?_) AllReadyH.nil
  simp only [List.getElem_toArray, List.getElem_cons_zero, List.getElem_cons_succ]
  go_simp
  refine (kC5.out _ hHeld.1).mono ?_
  rintro e' X1 ⟨rfl, oX⟩
  go_simp
  refine hK.out _ _ (hHeld.old oX) (fun hHeld => ?_)
  clear hK K
  try simp only [Act.put, List.setIfInBounds_toArray, List.set_cons_zero, List.set_cons_succ]
  refine' wpAnyH_take (i := 30) rfl (by kernel_rfl) (by kernel_rfl) (by kernel_rfl) (fun _ _ _ h => h) (Or.inl ⟨by rfl, ?_⟩) hHeld ?_
  rotate_left
  · intro W hSw
    have hSv : EndS w2 sr W := hSw
    clear hSw
    skip
    simp only [List.getElem_toArray, List.getElem_cons_zero, List.getElem_cons_succ]
    go_simp
    all_goals with_reducible rfl
  simp only [List.getElem_toArray, List.getElem_cons_zero, List.getElem_cons_succ, Act.put, List.setIfInBounds_toArray, List.set_cons_zero, List.set_cons_succ]
  refine' wpAnyH_take (i := 31) rfl (by kernel_rfl) (by kernel_rfl) (by kernel_rfl) (fun _ _ _ h => h) (Or.inl ⟨by rfl, ?_⟩) hHeld ?_
  rotate_left
  · intro W hSw
    have hSv : EndS w2 sr W := hSw
    clear hSw
    skip
    simp only [List.getElem_toArray, List.getElem_cons_zero, List.getElem_cons_succ]
    go_simp
    all_goals with_reducible rfl
  simp only [List.getElem_toArray, List.getElem_cons_zero, List.getElem_cons_succ, Act.put, List.setIfInBounds_toArray, List.set_cons_zero, List.set_cons_succ]
  refine wpAnyH_ready (rs := [32]) (by kernel_rfl) (by simp) ?_
  refine AllReadyH.cons (o := _) rfl (fun K hK => ?_) AllReadyH.nil
  simp only [List.getElem_toArray, List.getElem_cons_zero, List.getElem_cons_succ]
  obtain ⟨fH, a0, a1, a2, a3, a4, a5, a6, a7, hb⟩ := hHeld
  have g : ∀ i v, (#[a0, a1, a2, a3, a4, a5, a6, a7] : Array Value)[i]? = some v → X1.cell? ⟨sr, i, none⟩ = some v := fun i v hv => by simp only [World.cell?, hb]; exact hv
  have g0 := g 0 _ rfl
  have g1 := g 1 _ rfl
  have g2 := g 2 _ rfl
  have g3 := g 3 _ rfl
  have g4 := g 4 _ rfl
  have g5 := g 5 _ rfl
  have g6 := g 6 _ rfl
  have g7 := g 7 _ rfl
  have gz : ∀ i, X1.frozen? ⟨sr, i, none⟩ = false := fun i => by simp [World.frozen?, hb]
  have z0 := gz 0
  have z1 := gz 1
  have z2 := gz 2
  have z3 := gz 3
  have z4 := gz 4
  have z5 := gz 5
  have z6 := gz 6
  have z7 := gz 7
  go_simp
  obtain ⟨q1, q2⟩ := set_eight (.int .i64 (sumW (evs s.L n))) (.int .i64 s.mr) (.int .i64 o1) (.int .i64 o2) (.bool o3) (.int .i64 s.ar) (.bool zr) (.int .i64 s.tk) hb
  rw [khs.out]
  obtain ⟨X3, x3⟩ : ∃ X3, (((((((X1.setCell ⟨sr, 0, none⟩ (.int .i64 (sumW (evs s.L n)))).setCell ⟨sr, 1, none⟩ (.int .i64 s.mr)).setCell ⟨sr, 2, none⟩ (.int .i64 o1)).setCell ⟨sr, 3, none⟩ (.int .i64 o2)).setCell ⟨sr, 4, none⟩ (.bool o3)).setCell ⟨sr, 5, none⟩ (.int .i64 s.ar)).setCell ⟨sr, 6, none⟩ (.bool zr)).setCell ⟨sr, 7, none⟩ (.int .i64 s.tk) = X3 := ⟨_, rfl⟩
  rw [x3] at q1 q2 ⊢
  refine hK.out _ _ ⟨Frm.trans fH q2 (fun _ _ h => h), _, _, _, _, _, _, _, _, q1⟩ (fun hHeld => ?_)
  have kq1 := hid q1
  have kH := hid hHeld.1
  clear hK K g g0 g1 g2 g3 g4 g5 g6 g7 gz z0 z1 z2 z3 z4 z5 z6 z7 q1 q2 x3 hb fH hHeld
  try simp only [Act.put, List.setIfInBounds_toArray, List.set_cons_zero, List.set_cons_succ]
  refine wpAnyH_done (by kernel_rfl) ?_ _
  refine NoPanic.normal ?_
  go_wp2
  have g : ∀ i v, (#[.int .i64 (sumW (evs s.L n)), .int .i64 s.mr, .int .i64 o1, .int .i64 o2, .bool o3, .int .i64 s.ar, .bool zr, .int .i64 s.tk] : Array Value)[i]? = some v → X3.cell? ⟨sr, i, none⟩ = some v := fun i v hv => by simp only [World.cell?, kq1.out]; exact hv
  have g0 := g 0 _ rfl
  have g1 := g 1 _ rfl
  have g2 := g 2 _ rfl
  have g3 := g 3 _ rfl
  have g4 := g 4 _ rfl
  have g5 := g 5 _ rfl
  have g6 := g 6 _ rfl
  have g7 := g 7 _ rfl
  have hsa := ksa.out
  refine bodyPost_ret (v := .agg #[.int .i64 (sumW (evs s.L n)), .int .i64 s.mr, .int .i64 o1, .int .i64 o2, .bool o3, .int .i64 s.ar, .bool zr, .int .i64 s.tk]) ?_ rfl ⟨by rw [ke.out], ?_⟩
  · simp [results, Try.f46, go_sem, g0, g1, g2, g3, g4, g5, g6, g7]
  · exact Frm.mono (kfw.out X3 kH.out) (fun k hk h => by omega)
end Go.Proofs.Ytpnnfkgnkalhlaa
