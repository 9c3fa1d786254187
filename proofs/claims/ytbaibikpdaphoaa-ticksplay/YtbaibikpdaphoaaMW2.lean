/- TicksMeanwhile: the way on which all is told. -/
import Derived.Test.YtbaibikpdaphoaaMW1
import Derived.Test.YtbaibikpdaphoaaRR
namespace Go.Proofs.Ytbaibikpdaphoaa
open Go.RowKit Go.Lib Go.Shelf
attribute [local go_sem] Oper.semAt_some

set_option maxRecDepth 100000 in
theorem due_neq (a b c d : Int) (w : World) : (binOp .neq 26 (.agg #[.int .i64 a, .int .i64 b]) (.agg #[.int .i64 c, .int .i64 d])).run Try.prog w = .ok (.bool (!(decide (a = c) && decide (b = d)))) w := by
  go_simp
  by_cases h1 : a = c <;> by_cases h2 : b = d <;> simp [h1, h2]

theorem last_told {R : List Due} {pre : List {x : Due // x ∈ R}} {x : {x : Due // x ∈ R}} {k : Nat} (hk : pre.length = k) (hl : k < R.length) (h : (pre ++ [x]).map Subtype.val = R.take (pre ++ [x]).length) : x.1 = at' R k := by
  rw [List.length_append, hk, List.length_singleton, take_due hl, List.map_append] at h
  have h2 := List.append_inj' h rfl
  simpa using h2.2

theorem keeps_old {B : Nat} {W W' : World} (h : Old W W') : KeepsFrom B W W' := ⟨h.size, fun k o _ hk _ => by rw [h.block k (Array.getElem?_eq_some_iff.1 hk).1 (fun h => h)]; exact hk⟩

theorem keeps_low {B b : Nat} {W : World} (hb : b < B) (o : Nat) (u : Value) : KeepsFrom B W (W.setCell ⟨b, o, none⟩ u) := by
  have hf := frm_set W b o u
  exact ⟨hf.size, fun k ob hB hk _ => by rw [hf.block k (Array.getElem?_eq_some_iff.1 hk).1 (by omega)]; exact hk⟩

theorem told_old {w w' w'' : World} {v : Value} {R : List Due} (h : Told w w' v R) (ho : Old w' w'') : Told w w'' v R := by
  rcases h with h | ⟨g, cap, h1, h2, h3, h4⟩
  · exact Or.inl h
  · exact Or.inr ⟨g, cap, h1, h2, Nat.lt_of_lt_of_le h3 ho.size, h4.old ho⟩

set_option maxRecDepth 100000 in
set_option maxHeartbeats 4000000 in
theorem mw_good (ao bo : Option Addr) (cap n capm nm : Nat) (L M : List Due) (w : World) (ha : DueC w ao L) (hn : L.length = n) (hN : n ≤ 100) (hz : refL 0 L = 0) (hok : ∀ d ∈ L, i64ok d.2) (hb : DueC w bo M) (hm : M.length = nm) (hokM : ∀ d ∈ M, i64ok d.2) :
    Calls Try.prog 4 #[.slice ao n cap, .slice bo nm capm] w fun e w' => e = .returned (.bool true) ∧ Old w w' := by
  have hfn : ∀ (p : Value) (w : World), (binOp BinOp.eql 52 (.func (.func 48) #[] #[p]) .nilFunc).run Try.prog w = .ok (.bool false) w := fun _ _ => by kernel_rfl
  have kK := hid known_any
  have d1 : decide (100 < (n : Int)) = false := by simp; omega
  have kO := hid (fun W (hW : Old w W) => of_good ao cap n 0 L W (by decide) (ha.old hW) hn (by omega) hz hok)
  have kR := hid (fun W (hW : Old w W) => refof_any ao cap n 0 L W (by decide) (ha.old hW) hn (by omega))
  have kz := hid hz
  have hRl : (ofR L).length ≤ 100 := by have := ofR_len L; omega
  have kb := hid (boxed_two w (.slice bo nm capm) (.bool false) 22 4)
  have o1 : Hid (Old w ((w.alloc (.cells #[.slice bo nm capm] 22)).alloc (.cells #[.bool false] 4))) := ((Old.refl w).alloc _).alloc _
  have z1 : ((w.alloc (.cells #[.slice bo nm capm] 22)).alloc (.cells #[.bool false] 4)).heap.size = w.heap.size + 1 + 1 := by simp
  unfold OfD at kR
  generalize ofR L = R at *
  have kA := hid (fun bt F W (h : TkS W bt F 0 R) => all_any bt F 0 R W h (by omega))
  clear hz ha
  refine (callsIn_wide (n := 5)).1 ?_
  refine callsIn_of_wp_marks Try.func4 rfl trivial ?_ rfl
  simp only [Try.ntmps4, List.size_toArray, List.length_cons, List.length_nil, Nat.reduceAdd, Nat.reduceSub, Array.replicate_succ, Array.replicate_zero, List.push_toArray, List.append_toArray, List.nil_append, List.cons_append]
  gi_wp2_with (first
    | (refine ⟨trivial, ?_⟩; gi_at_call 9; refine (callsIn_wide.2 (kO.out _ o1.out)).mono ?_; rintro e w2 ⟨bt, rfl, F, ⟨bc, bm, v, G, P, hT⟩, h2, hF⟩; have y2 := hid h2; have kF := hid hF; have o2 := hid ((o1.out.trans h2).alloc (.cells #[.pointer (some ⟨bt, 0, none⟩)] 27)); have b2 := hid (Boxed.new w2 27 (.pointer (some ⟨bt, 0, none⟩))); have kT := hid hT; have z2 := World.size_alloc w2 (.cells #[.pointer (some ⟨bt, 0, none⟩)] 27); clear h2 hF hT)
    | (refine ⟨trivial, ?_⟩; gi_at_call 11; refine (callsIn_wide.2 (kR.out _ o2.out)).mono ?_; rintro e w3 (⟨_, rb, rfl, hD, h3, hr⟩ | ⟨h3, _⟩); rotate_left; exact absurd kz.out h3; have y3 := hid h3; have hrl := hD.lt; have o3 := hid ((o2.out.trans h3).alloc (.cells #[.pointer (some ⟨rb, 0, none⟩)] 32)); have b3 := hid (Boxed.new w3 32 (.pointer (some ⟨rb, 0, none⟩))); have b4 := hid ((boxed_olds b2.out h3).alloc (.cells #[.pointer (some ⟨rb, 0, none⟩)] 32)); have e3 := b3.out.cell; have e4 := b4.out.cell; have kD := hid ((hD.mono (Z' := fun k => (w2.alloc (.cells #[.pointer (some ⟨bt, 0, none⟩)] 27)).heap.size ≤ k ∧ k < w3.heap.size) (fun k hk h => ⟨h.1, hk⟩)).old ((Old.refl w3).alloc (.cells #[.pointer (some ⟨rb, 0, none⟩)] 32))); have z3 := World.size_alloc w3 (.cells #[.pointer (some ⟨rb, 0, none⟩)] 32); have kT3 := hid (kT.out.kept ((((Old.refl w2).alloc (.cells #[.pointer (some ⟨bt, 0, none⟩)] 27)).trans h3).alloc (.cells #[.pointer (some ⟨rb, 0, none⟩)] 32)) (fun _ _ h => h)); clear h3 hD)
    | (refine ⟨trivial, ?_⟩; gi_at_call 17; refine (callsIn_wide.2 (kA.out bt F _ ⟨bc, bm, v, G, P, kT3.out⟩)).mono ?_; rintro e w4 ⟨B, v', rfl, q1, q2, q3, q4, q5⟩; have p1 := hid q1; have p4 := hid q4; have p5 := hid q5; clear q1 q4 q5)
    | fail)
  have oC : Old (w3.alloc (.cells #[.pointer (some ⟨rb, 0, none⟩)] 32)) (w4.alloc (.cells #[.int .i64 0] 3)) := p5.out.alloc _
  have oA : Old ((w.alloc (.cells #[.slice bo nm capm] 22)).alloc (.cells #[.bool false] 4)) (w4.alloc (.cells #[.int .i64 0] 3)) := (((y2.out.alloc _).trans y3.out).alloc _).trans oC
  have c3 := boxed_olds kb.out.1 oA
  have c4 := boxed_olds kb.out.2 oA
  have c5 := boxed_olds b4.out oC
  have c7 := boxed_olds b3.out oC
  have c10 := Boxed.new w4 3 (.int .i64 0)
  have cD := kD.out.old oC
  have cT := kT3.out.kept oC (fun _ _ h => h)
  have cM := hb.old (o1.out.trans oA)
  have cO := o1.out.trans oA
  have cB := ((Old.refl w4).alloc (.cells #[.int .i64 0] 3)).cell p1.out
  have cK := told_old p4.out ((Old.refl w4).alloc (.cells #[.int .i64 0] 3))
  have hs2 := y2.out.size
  have hs3 := y3.out.size
  have hs4 := p5.out.size
  have hFF := kF.out
  obtain ⟨W0, hW0⟩ : ∃ W0, w4.alloc (.cells #[.int .i64 0] 3) = W0 := ⟨_, rfl⟩
  have hS0 : W0.heap.size = w4.heap.size + 1 := by rw [← hW0]; simp
  have hTg : ∀ g, v'.ownBlock = some g → w3.heap.size + 1 ≤ g ∧ g < W0.heap.size ∧ g ≠ w4.heap.size := by
    intro g hg
    rcases p4.out with ⟨rfl, _⟩ | ⟨g', c, rfl, e1, e2, _⟩
    · simp [Value.ownBlock] at hg
    · simp [Value.ownBlock] at hg
      omega
  rw [hW0] at c3 c4 c5 c7 c10 cD cT cM cO cB cK ⊢
  have hFB : FB W0.heap.size bt bc bm F := ⟨fun k hk => by have := hFF k hk; omega, cT.ft, cT.fc, cT.fm⟩
  rw [z1] at hFF hs2
  rw [z2] at hr hs3 cD
  rw [z3] at hs4 q2
  have kM := hid hb
  clear hW0 kT3 kD p5 p4 p1 b3 b4 b2 y2 y3 kb o1 o2 o3 kT kF kO kR kA e3 e4 oA oC z1 z2 z3 hb
  generalize w4.heap.size = s10 at *
  generalize w3.heap.size = s7 at *
  generalize w2.heap.size = s5 at *
  obtain ⟨s, hs⟩ : ∃ s, w.heap.size = s := ⟨_, rfl⟩
  rw [hs] at c3 c4 hFF hs2 ⊢
  refine wpIn_rangeFunc_ownH rfl (by omega) (gf := 48) (lb := #[.pointer (some ⟨B, 0, none⟩)]) rfl trivial (enters_of Try.func48 (by kernel_rfl) rfl)
    (told_stops 4 (by omega) B v' R (by omega) _ W0 (by omega) cB cK (fun A C => ∀ k, k < W0.heap.size → ¬ F k → k ≠ s10 → C.heap[k]? = A.heap[k]?) (fun A C hAC g hg => hAC g (hTg g hg).2.1 (fun h => by have := hTg g hg; have := hFF g h; omega) (hTg g hg).2.2))
    (fun h k i a b c => (k i a b c).trans (h i a b c)) (fun W l o o' hl _ _ _ k hk _ _ => World.putObj_heap_other (by omega)) (Below.refl _ _) (fun _ => rfl)
    (fun p W => (Frm (fun k => F k ∨ k = s10) W0 W ∧ ∃ R', R'.length ≤ R.length + p.length ∧ TB W0.heap.size bt bc bm F bt 0 R' W) ∧ Boxed W s10 3 (.int .i64 (p.length : Int)))
    (fun _ p _ => ¬ p.map Subtype.val = R.take p.length)
    (fun p X Y row ⟨⟨h1, R', h2, h3⟩, h4⟩ hg hr => ⟨⟨Frm.grown h1 hg (fun k e => Or.inl (hr k e).1), R', h2, TB.own1 hFB h3 hg hr⟩, boxed_own _ _ (fun _ : Unit => _) () X Y row h4 hg (fun r e => (hr r e).2)⟩)
    (fun _ _ _ _ _ h _ _ => h)
    ⟨⟨Frm.refl _ _, R, by simp, cT.tb⟩, c10⟩
    (fun x a' W => ∃ q c R', a' = { tmps := #[Value.slice ao n cap, Value.slice bo nm capm, undef, Value.pointer (some ⟨s, 0, none⟩), Value.pointer (some ⟨s + 1, 0, none⟩), Value.pointer (some ⟨s5, 0, none⟩), Value.int .i64 0, Value.pointer (some ⟨s7, 0, none⟩), Value.int .i64 0, Value.func (.func 48) #[] #[.pointer (some ⟨B, 0, none⟩)], Value.pointer (some ⟨s10, 0, none⟩), Value.pointer (some ⟨q, 0, none⟩), Value.slice ao n cap, Value.int .i64 n, Value.bool false, undef, Value.tuple #[.pointer (some ⟨bt, 0, none⟩), .int .i64 0], Value.slice ao n cap, Value.tuple #[.pointer (some ⟨bt, 0, none⟩), .int .i64 0], Value.pointer (some ⟨bt, 0, none⟩), Value.int .i64 0, Value.tuple #[.pointer (some ⟨rb, 0, none⟩), .int .i64 0], Value.slice ao n cap, Value.tuple #[.pointer (some ⟨rb, 0, none⟩), .int .i64 0], Value.pointer (some ⟨rb, 0, none⟩), Value.int .i64 0, Value.int .i64 0, Value.int .i64 0, Value.bool false, Value.bool false, Value.pointer (some ⟨bt, 0, none⟩), Value.bool false, Value.pointer (some ⟨rb, 0, none⟩), Value.bool false, Value.bool false, Value.bool false, Value.pointer (some ⟨bt, 0, none⟩), Value.bool false, undef, Value.pointer (some ⟨bt, 0, none⟩), Value.func (.func 48) #[] #[.pointer (some ⟨B, 0, none⟩)], Value.func (.func 48) #[] #[.pointer (some ⟨B, 0, none⟩)], Value.bool false, Value.func (.func 48) #[] #[.pointer (some ⟨B, 0, none⟩)], Value.agg #[.int .i64 x.1.1, .int .i64 x.1.2], undef, undef, undef, undef, undef, undef, undef, undef, undef, undef, undef, undef, undef, undef, undef, undef, undef, undef, undef, undef, undef, undef, undef, undef, undef, undef, undef, undef, undef, undef, undef, undef, undef, undef, undef, undef, undef, undef, undef, undef, undef, undef, undef, undef, undef, undef, undef, undef, undef, undef], defers := [] } ∧ W0.heap.size ≤ q ∧ q < W.heap.size ∧ W.cell? ⟨q, 0, none⟩ = some (.int .i64 x.1.1) ∧ W.cell? ⟨q, 1, none⟩ = some (.int .i64 x.1.2) ∧ Boxed W s10 3 (.int .i64 c) ∧ (R'.length : Int) ≤ R.length + c ∧ TB W0.heap.size bt bc bm F q 0 R' W)
    (fun x a' _ X Y row ⟨q, c, R', e, h1, h2, h3, h4, h5, h6, h7⟩ hg hr => ⟨q, c, R', e, h1, Nat.lt_of_lt_of_le h2 hg.size, cell_kept h3 hg (fun r e => (hr r e).2), cell_kept h4 hg (fun r e => (hr r e).2), boxed_own _ _ (fun _ : Unit => _) () X Y row h5 hg (fun r e => (hr r e).2), h6, TB.own1 hFB h7 hg hr⟩) ?assign ?body ?done ?stop
  case assign =>
    rintro l pre x W K ⟨⟨h1, R', h2, h3⟩, h4⟩ hK
    gi_wp2
    have hO : Old W (W.alloc (.cells #[.int .i64 x.1.1, .int .i64 x.1.2] 26)) := (Old.refl W).alloc _
    have hsz := h1.size
    exact hK _ _ ⟨hO.size, fun k o _ hk _ => by rw [hO.block k (Array.getElem?_eq_some_iff.1 hk).1 (fun h => h)]; exact hk⟩ (fun k hk _ _ => hO.block k (by omega) (fun h => h)) ⟨⟨Frm.trans h1 hO (fun _ _ h => h.elim), R', h2, h3.old hO⟩, h4.alloc _⟩
      ⟨W.heap.size, pre.length, R', rfl, hsz, by simp, new_cell _ _ _ _ _ rfl, new_cell _ _ _ _ _ rfl, h4.alloc _, by omega, (h3.new (Nat.le_refl _)).old hO⟩
  case body =>
    rintro l pre x a' Y hl hr' ⟨⟨f1, _⟩, e10⟩ ⟨q, c, R', rfl, hq0, hq, n0, n1, e10', hlen', hTB⟩ hlen
    have hd2 : 1 ≤ 5 - 1 - 1 := by omega
    have hsz := f1.size
    have hc : c = (pre.length : Int) := by
      unfold Boxed at e10 e10'
      rw [e10] at e10'
      simpa using e10'.symm
    subst hc
    have nF : ∀ k, s5 ≤ k → ¬ F k := fun k hk h => by have := hFF k h; omega
    have g3 := boxed_frm c3 f1 (by rintro (h | h); · have := hFF _ h; omega
                                   · omega)
    have g4 := boxed_frm c4 f1 (by rintro (h | h); · have := hFF _ h; omega
                                   · omega)
    have g5 := boxed_frm c5 f1 (by rintro (h | h); · exact nF _ (Nat.le_refl _) h
                                   · omega)
    have g7 := boxed_frm c7 f1 (by rintro (h | h); · exact nF _ (by omega) h
                                   · omega)
    have gD := cD.kept f1 (by rintro (h | h); · exact nF _ (by omega) h
                              · omega) (fun k hk h => by
      rcases h with h | h
      · exact nF k (by omega) h
      · omega)
    have gM : DueC Y bo M := by
      intro i hi
      obtain ⟨g, o, e, r0, r1⟩ := kM.out i hi
      have hgl := World.block_lt_of_cell? w _ r0
      simp only at hgl
      have hno : ¬ (F g ∨ g = s10) := by
        rintro (h | h)
        · have := hFF _ h; omega
        · omega
      exact ⟨g, o, e, frm_cell f1 (cO.cell r0) hno, frm_cell f1 (cO.cell r1) hno⟩
    obtain ⟨ao2, cap2, m1, m2, m3⟩ := gD
    have m4 := (two_cells m1).2
    obtain ⟨g2, o2, hao, y0, y1⟩ := m2 pre.length hlen
    obtain ⟨y, hy⟩ : ∃ y, at' R pre.length = y := ⟨_, rfl⟩
    obtain ⟨ya, yb⟩ := y
    rw [hy] at y0 y1
    subst hao
    have d3 := g3.cell
    have d5 := g5.cell
    have d7 := g7.cell
    have d10 := e10.cell
    have f10 := e10.frozen
    have f4 := g4.frozen
    have d4 := g4.cell
    obtain ⟨k, hk⟩ : ∃ k, pre.length = k := ⟨_, rfl⟩
    rw [hk] at y0 y1 d10 hlen hlen' hy
    have e2 : k * 2 = 2 * k := by omega
    obtain ⟨⟨x1, x2⟩, hx⟩ := x
    simp only at n0 n1
    have hd1 : decide (R.length ≤ k) = false := by simp; omega
    have hTB' := hid hTB
    have hlen2 := hid hlen'
    have gM' := hid gM
    have e10h := hid e10
    have f1h := hid f1
    have hyh := hid hy
    have hxh := hid hx
    have hkh := hid hk
    have hlenh := hid hlen
    have hRlh := hid hRl
    have hk100 : k < 100 := by omega
    have hokR := hid (show i64ok x2 from cT.cal.ok _ (cT.perm.mem_iff.2 hx))
    have gs := hid (And.intro g3 (And.intro g4 (And.intro g5 g7)))
    have hszh := hid (And.intro hsz (And.intro hq0 hq))
    have g4n : s + 1 ≠ q := by omega
    clear hTB hlen' gM e10 f1 hy m1 m2 m3 g3 g4 g5 g7 e10' hk hlen
    clear cK cB cT cD hTg c3 c4 c5 c7 c10 hRl hsz hq0 hq hl hr' cM hok hn hfn d1
    have hkr := hlenh.out
    obtain ⟨rn, hrn⟩ : ∃ rn, R.length = rn := ⟨_, rfl⟩
    rw [hrn] at m4 hd1 hkr
    have hrnh := hid hrn
    clear hrn
    have hneq := due_neq x1 x2 ya yb
    obtain ⟨b, hb⟩ : ∃ b, (!(decide (x1 = ya) && decide (x2 = yb))) = b := ⟨_, rfl⟩
    have hbh := hid hb
    simp only [hb] at hneq
    clear hb
    have hokM' := hid hokM
    have hmh := hid hm
    clear hokM hm
    gi_wp2_with fail
    refine region_round (S := fun X => Old Y X) (by kernel_rfl) (by kernel_rfl) ((Old.refl Y).drewN 1) (fun hHeld => ?_)
    generalize Y.drew = W1 at *
    refine' wpAnyH_take (i := 0) rfl (by kernel_rfl) (by kernel_rfl) (by kernel_rfl) (fun _ _ _ h => h) (Or.inl ⟨by rfl, ?_⟩) hHeld ?_
    rotate_left
    · intro W hSw
      have hSv : Old Y W := hSw
      clear hSw
      have q1 := hSv.cell d10
      simp only [List.getElem_toArray, List.getElem_cons_zero]
      go_simp
      all_goals with_reducible rfl
    simp only [List.getElem_toArray, List.getElem_cons_zero, Act.put, List.setIfInBounds_toArray, List.set_cons_zero, List.set_cons_succ]
    refine' wpAnyH_take (i := 1) rfl (by kernel_rfl) (by kernel_rfl) (by kernel_rfl) (fun _ _ _ h => h) (Or.inl ⟨by rfl, ?_⟩) hHeld ?_
    rotate_left
    · intro W hSw
      have hSv : Old Y W := hSw
      clear hSw
      have q1 := hSv.cell d7
      simp only [List.getElem_toArray, List.getElem_cons_zero, List.getElem_cons_succ]
      go_simp
      all_goals with_reducible rfl
    simp only [List.getElem_toArray, List.getElem_cons_zero, List.getElem_cons_succ, Act.put, List.setIfInBounds_toArray, List.set_cons_zero, List.set_cons_succ]
    refine' wpAnyH_take (i := 2) rfl (by kernel_rfl) (by kernel_rfl) (by kernel_rfl) (fun _ _ _ h => h) (Or.inl ⟨by rfl, ?_⟩) hHeld ?_
    rotate_left
    · intro W hSw
      have hSv : Old Y W := hSw
      clear hSw
      skip
      simp only [List.getElem_toArray, List.getElem_cons_zero, List.getElem_cons_succ]
      go_simp
      all_goals with_reducible rfl
    simp only [List.getElem_toArray, List.getElem_cons_zero, List.getElem_cons_succ, Act.put, List.setIfInBounds_toArray, List.set_cons_zero, List.set_cons_succ]
    refine' wpAnyH_take (i := 3) rfl (by kernel_rfl) (by kernel_rfl) (by kernel_rfl) (fun _ _ _ h => h) (Or.inl ⟨by rfl, ?_⟩) hHeld ?_
    rotate_left
    · intro W hSw
      have hSv : Old Y W := hSw
      clear hSw
      skip
      simp only [List.getElem_toArray, List.getElem_cons_zero, List.getElem_cons_succ]
      go_simp
      all_goals with_reducible rfl
    simp only [List.getElem_toArray, List.getElem_cons_zero, List.getElem_cons_succ, Act.put, List.setIfInBounds_toArray, List.set_cons_zero, List.set_cons_succ]
    refine' wpAnyH_take (i := 4) rfl (by kernel_rfl) (by kernel_rfl) (by kernel_rfl) (fun _ _ _ h => h) (Or.inl ⟨by rfl, ?_⟩) hHeld ?_
    rotate_left
    · intro W hSw
      have hSv : Old Y W := hSw
      clear hSw
      have q1 := hSv.cell m4
      simp only [List.getElem_toArray, List.getElem_cons_zero, List.getElem_cons_succ]
      go_simp
      all_goals with_reducible rfl
    simp only [List.getElem_toArray, List.getElem_cons_zero, List.getElem_cons_succ, Act.put, List.setIfInBounds_toArray, List.set_cons_zero, List.set_cons_succ]
    refine' wpAnyH_take (i := 5) rfl (by kernel_rfl) (by kernel_rfl) (by kernel_rfl) (fun _ _ _ h => h) (Or.inl ⟨by rfl, ?_⟩) hHeld ?_
    rotate_left
    · intro W hSw
      have hSv : Old Y W := hSw
      clear hSw
      skip
      simp only [List.getElem_toArray, List.getElem_cons_zero, List.getElem_cons_succ]
      go_simp
      all_goals with_reducible rfl
    simp only [List.getElem_toArray, List.getElem_cons_zero, List.getElem_cons_succ, Act.put, List.setIfInBounds_toArray, List.set_cons_zero, List.set_cons_succ]
    refine' wpAnyH_take (i := 6) rfl (by kernel_rfl) (by kernel_rfl) (by kernel_rfl) (fun _ _ _ h => h) (Or.inl ⟨by rfl, ?_⟩) hHeld ?_
    rotate_left
    · intro W hSw
      have hSv : Old Y W := hSw
      clear hSw
      skip
      simp only [List.getElem_toArray, List.getElem_cons_zero, List.getElem_cons_succ]
      go_simp
      all_goals with_reducible rfl
    simp only [List.getElem_toArray, List.getElem_cons_zero, List.getElem_cons_succ, Act.put, List.setIfInBounds_toArray, List.set_cons_zero, List.set_cons_succ]
    refine' wpAnyH_take (i := 7) rfl (by kernel_rfl) (by kernel_rfl) (by kernel_rfl) (fun _ _ _ h => h) (Or.inl ⟨by rfl, ?_⟩) hHeld ?_
    rotate_left
    · intro W hSw
      have hSv : Old Y W := hSw
      clear hSw
      skip
      simp only [List.getElem_toArray, List.getElem_cons_zero, List.getElem_cons_succ]
      go_simp
      all_goals with_reducible rfl
    simp only [List.getElem_toArray, List.getElem_cons_zero, List.getElem_cons_succ, Act.put, List.setIfInBounds_toArray, List.set_cons_zero, List.set_cons_succ]
    refine' wpAnyH_take (i := 8) rfl (by kernel_rfl) (by kernel_rfl) (by kernel_rfl) (fun _ _ _ h => h) (Or.inl ⟨by rfl, ?_⟩) hHeld ?_
    rotate_left
    · intro W hSw
      have hSv : Old Y W := hSw
      clear hSw
      have q1 := hSv.cell n0; have q2 := hSv.cell n1
      simp only [List.getElem_toArray, List.getElem_cons_zero, List.getElem_cons_succ]
      go_simp
      all_goals with_reducible rfl
    simp only [List.getElem_toArray, List.getElem_cons_zero, List.getElem_cons_succ, Act.put, List.setIfInBounds_toArray, List.set_cons_zero, List.set_cons_succ]
    refine' wpAnyH_take (i := 9) rfl (by kernel_rfl) (by kernel_rfl) (by kernel_rfl) (fun _ _ _ h => h) (Or.inl ⟨by rfl, ?_⟩) hHeld ?_
    rotate_left
    · intro W hSw
      have hSv : Old Y W := hSw
      clear hSw
      have q1 := hSv.cell d7
      simp only [List.getElem_toArray, List.getElem_cons_zero, List.getElem_cons_succ]
      go_simp
      all_goals with_reducible rfl
    simp only [List.getElem_toArray, List.getElem_cons_zero, List.getElem_cons_succ, Act.put, List.setIfInBounds_toArray, List.set_cons_zero, List.set_cons_succ]
    refine' wpAnyH_take (i := 10) rfl (by kernel_rfl) (by kernel_rfl) (by kernel_rfl) (fun _ _ _ h => h) (Or.inl ⟨by rfl, ?_⟩) hHeld ?_
    rotate_left
    · intro W hSw
      have hSv : Old Y W := hSw
      clear hSw
      skip
      simp only [List.getElem_toArray, List.getElem_cons_zero, List.getElem_cons_succ]
      go_simp
      all_goals with_reducible rfl
    simp only [List.getElem_toArray, List.getElem_cons_zero, List.getElem_cons_succ, Act.put, List.setIfInBounds_toArray, List.set_cons_zero, List.set_cons_succ]
    refine' wpAnyH_take (i := 11) rfl (by kernel_rfl) (by kernel_rfl) (by kernel_rfl) (fun _ _ _ h => h) (Or.inl ⟨by rfl, ?_⟩) hHeld ?_
    rotate_left
    · intro W hSw
      have hSv : Old Y W := hSw
      clear hSw
      skip
      simp only [List.getElem_toArray, List.getElem_cons_zero, List.getElem_cons_succ]
      go_simp
      all_goals with_reducible rfl
    simp only [List.getElem_toArray, List.getElem_cons_zero, List.getElem_cons_succ, Act.put, List.setIfInBounds_toArray, List.set_cons_zero, List.set_cons_succ]
    refine' wpAnyH_take (i := 12) rfl (by kernel_rfl) (by kernel_rfl) (by kernel_rfl) (fun _ _ _ h => h) (Or.inl ⟨by rfl, ?_⟩) hHeld ?_
    rotate_left
    · intro W hSw
      have hSv : Old Y W := hSw
      clear hSw
      have q1 := hSv.cell m4
      simp only [List.getElem_toArray, List.getElem_cons_zero, List.getElem_cons_succ]
      go_simp
      all_goals with_reducible rfl
    simp only [List.getElem_toArray, List.getElem_cons_zero, List.getElem_cons_succ, Act.put, List.setIfInBounds_toArray, List.set_cons_zero, List.set_cons_succ]
    refine' wpAnyH_take (i := 13) rfl (by kernel_rfl) (by kernel_rfl) (by kernel_rfl) (fun _ _ _ h => h) (Or.inl ⟨by rfl, ?_⟩) hHeld ?_
    rotate_left
    · intro W hSw
      have hSv : Old Y W := hSw
      clear hSw
      have q1 := hSv.cell d10
      simp only [List.getElem_toArray, List.getElem_cons_zero, List.getElem_cons_succ]
      go_simp
      all_goals with_reducible rfl
    simp only [List.getElem_toArray, List.getElem_cons_zero, List.getElem_cons_succ, Act.put, List.setIfInBounds_toArray, List.set_cons_zero, List.set_cons_succ]
    refine' wpAnyH_take (i := 14) rfl (by kernel_rfl) (by kernel_rfl) (by kernel_rfl) (fun _ _ _ h => h) (Or.inl ⟨by rfl, ?_⟩) hHeld ?_
    rotate_left
    · intro W hSw
      have hSv : Old Y W := hSw
      clear hSw
      skip
      simp only [List.getElem_toArray, List.getElem_cons_zero, List.getElem_cons_succ]
      go_simp
      all_goals with_reducible rfl
    simp only [List.getElem_toArray, List.getElem_cons_zero, List.getElem_cons_succ, Act.put, List.setIfInBounds_toArray, List.set_cons_zero, List.set_cons_succ]
    refine' wpAnyH_take (i := 15) rfl (by kernel_rfl) (by kernel_rfl) (by kernel_rfl) (fun _ _ _ h => h) (Or.inl ⟨by rfl, ?_⟩) hHeld ?_
    rotate_left
    · intro W hSw
      have hSv : Old Y W := hSw
      clear hSw
      have q1 := hSv.cell y0; have q2 := hSv.cell y1
      simp only [List.getElem_toArray, List.getElem_cons_zero, List.getElem_cons_succ]
      go_simp
      all_goals with_reducible rfl
    simp only [List.getElem_toArray, List.getElem_cons_zero, List.getElem_cons_succ, Act.put, List.setIfInBounds_toArray, List.set_cons_zero, List.set_cons_succ]
    refine' wpAnyH_take (i := 16) rfl (by kernel_rfl) (by kernel_rfl) (by kernel_rfl) (fun _ _ _ h => h) (Or.inl ⟨by rfl, ?_⟩) hHeld ?_
    rotate_left
    · intro W hSw
      have hSv : Old Y W := hSw
      clear hSw
      skip
      simp only [List.getElem_toArray, List.getElem_cons_zero, List.getElem_cons_succ]
      go_simp
      all_goals with_reducible rfl
    simp only [List.getElem_toArray, List.getElem_cons_zero, List.getElem_cons_succ, Act.put, List.setIfInBounds_toArray, List.set_cons_zero, List.set_cons_succ]
    refine' wpAnyH_take (i := 17) rfl (by kernel_rfl) (by kernel_rfl) (by kernel_rfl) (fun _ _ _ h => h) (Or.inl ⟨by rfl, ?_⟩) hHeld ?_
    rotate_left
    · intro W hSw
      have hSv : Old Y W := hSw
      clear hSw
      skip
      simp only [List.getElem_toArray, List.getElem_cons_zero, List.getElem_cons_succ]
      go_simp
      all_goals with_reducible rfl
    simp only [List.getElem_toArray, List.getElem_cons_zero, List.getElem_cons_succ, Act.put, List.setIfInBounds_toArray, List.set_cons_zero, List.set_cons_succ]
    refine wpAnyH_done (by kernel_rfl) ?_ _
    refine OnlyN.normal ?_
    have k1 := hid hHeld
    have v3 := boxed_olds gs.out.1 hHeld
    have v4 := boxed_olds gs.out.2.1 hHeld
    have v5 := boxed_olds gs.out.2.2.1 hHeld
    have v10 := boxed_olds e10h.out hHeld
    rw [hkh.out] at v10
    have hs1 := hHeld.size
    clear hHeld y0 y1 m4 d3 d4 d5 d7 d10 f10 f4 hneq
    cases b with
    | true =>
      have d4 := v4.cell
      have f4 := v4.frozen
      have v3h := hid v3
      have v5h := hid v5
      have v10h := hid v10
      clear v3 v5 v10
      gi_wp2
      refine ⟨(keeps_old k1.out).trans (keeps_low (by omega) _ _), fun h => ?_⟩
      have h2 := last_told hkh.out hlenh.out h
      rw [hyh.out] at h2
      simp only [Prod.mk.injEq] at h2
      have h3 := hbh.out
      simp [h2.1, h2.2] at h3
    | false =>
      have d3 := v3.cell
      have d5 := v5.cell
      have d10 := v10.cell
      have f10 := v10.frozen
      by_cases hkm : k < nm
      · have hd5 : decide (k < nm) = true := by simp; exact hkm
        obtain ⟨gm, om, hbo, r0, r1⟩ := gM'.out k (by rw [hmh.out]; exact hkm)
        have hgl := World.block_lt_of_cell? Y _ r0
        simp only at hgl
        have hgs : Hid (gm < s) := by
          obtain ⟨gm', om', hbo', r0', _⟩ := kM.out k (by rw [hmh.out]; exact hkm)
          rw [hbo] at hbo'
          cases hbo'
          have := World.block_lt_of_cell? w _ r0'
          rw [← hs]; exact this
        obtain ⟨m, hmx⟩ : ∃ m, at' M k = m := ⟨_, rfl⟩
        have hmok : Hid (i64ok m.2) := by rw [← hmx]; exact hokM'.out _ (at_mem (by rw [hmh.out]; exact hkm))
        rw [hmx] at r0 r1
        obtain ⟨mt, mn⟩ := m
        simp only at r0 r1
        subst hbo
        have r0' := k1.out.cell r0
        have r1' := k1.out.cell r1
        have hsx : Hid (W0.heap.size = s10 + 1) := hS0
        have nS : ∀ j, j < s + 1 + 1 ∨ (s5 ≤ j ∧ j < W0.heap.size) → ¬ (F j ∨ (W0.heap.size ≤ j ∧ j ≠ q)) := by
          rintro j hj (h | h)
          · have := hFF j h; omega
          · omega
        have nSh := hid nS
        have hTB2 := hid (hTB'.out.old k1.out)
        have n1' := k1.out.cell n1
        clear r0 r1 n0 n1 hmx nS
        gi_wp2_with fail
        refine region_round (S := fun X => Frm (fun j => F j ∨ (W0.heap.size ≤ j ∧ j ≠ q)) W1 X) (by kernel_rfl) (by kernel_rfl) (Frm.drewN (Frm.refl _ W1) 1) (fun hHeld => ?_)
        have hTB3 := hid (hTB2.out.old ((Old.refl W1).drewN 1))
        have k2 := hid ((Old.refl W1).drewN 1)
        generalize hW2 : W1.drew = W2 at *
        rw [show W1.drewN 1 = W2 from hW2] at hTB3 k2
        clear hW2
        have w3 := nSh.out s (by omega)
        have w5 := nSh.out s5 (by omega)
        have w10 := nSh.out s10 (by have := hsx.out; omega)
        have wm := nSh.out gm (by have := hgs.out; omega)
        refine' wpAnyH_take (i := 0) rfl (by kernel_rfl) (by kernel_rfl) (by kernel_rfl) (fun _ _ _ h => h) (Or.inl ⟨by rfl, ?_⟩) hHeld ?_
        rotate_left
        · intro W hSw
          have hSv : Frm (fun j => F j ∨ (W0.heap.size ≤ j ∧ j ≠ q)) W1 W := hSw
          clear hSw
          have q1 := frm_cell hSv d5 w5
          simp only [List.getElem_toArray, List.getElem_cons_zero]
          go_simp
          all_goals with_reducible rfl
        simp only [List.getElem_toArray, List.getElem_cons_zero, Act.put, List.setIfInBounds_toArray, List.set_cons_zero, List.set_cons_succ]
        refine' wpAnyH_take (i := 1) rfl (by kernel_rfl) (by kernel_rfl) (by kernel_rfl) (fun _ _ _ h => h) (Or.inl ⟨by rfl, ?_⟩) hHeld ?_
        rotate_left
        · intro W hSw
          have hSv : Frm (fun j => F j ∨ (W0.heap.size ≤ j ∧ j ≠ q)) W1 W := hSw
          clear hSw
          have q1 := frm_cell hSv d3 w3
          simp only [List.getElem_toArray, List.getElem_cons_zero, List.getElem_cons_succ]
          go_simp
          all_goals with_reducible rfl
        simp only [List.getElem_toArray, List.getElem_cons_zero, List.getElem_cons_succ, Act.put, List.setIfInBounds_toArray, List.set_cons_zero, List.set_cons_succ]
        refine' wpAnyH_take (i := 2) rfl (by kernel_rfl) (by kernel_rfl) (by kernel_rfl) (fun _ _ _ h => h) (Or.inl ⟨by rfl, ?_⟩) hHeld ?_
        rotate_left
        · intro W hSw
          have hSv : Frm (fun j => F j ∨ (W0.heap.size ≤ j ∧ j ≠ q)) W1 W := hSw
          clear hSw
          have q1 := frm_cell hSv d10 w10
          simp only [List.getElem_toArray, List.getElem_cons_zero, List.getElem_cons_succ]
          go_simp
          all_goals with_reducible rfl
        simp only [List.getElem_toArray, List.getElem_cons_zero, List.getElem_cons_succ, Act.put, List.setIfInBounds_toArray, List.set_cons_zero, List.set_cons_succ]
        refine' wpAnyH_take (i := 3) rfl (by kernel_rfl) (by kernel_rfl) (by kernel_rfl) (fun _ _ _ h => h) (Or.inl ⟨by rfl, ?_⟩) hHeld ?_
        rotate_left
        · intro W hSw
          have hSv : Frm (fun j => F j ∨ (W0.heap.size ≤ j ∧ j ≠ q)) W1 W := hSw
          clear hSw
          skip
          simp only [List.getElem_toArray, List.getElem_cons_zero, List.getElem_cons_succ]
          go_simp
          all_goals with_reducible rfl
        simp only [List.getElem_toArray, List.getElem_cons_zero, List.getElem_cons_succ, Act.put, List.setIfInBounds_toArray, List.set_cons_zero, List.set_cons_succ]
        refine' wpAnyH_take (i := 4) rfl (by kernel_rfl) (by kernel_rfl) (by kernel_rfl) (fun _ _ _ h => h) (Or.inl ⟨by rfl, ?_⟩) hHeld ?_
        rotate_left
        · intro W hSw
          have hSv : Frm (fun j => F j ∨ (W0.heap.size ≤ j ∧ j ≠ q)) W1 W := hSw
          clear hSw
          skip
          simp only [List.getElem_toArray, List.getElem_cons_zero, List.getElem_cons_succ]
          go_simp
          all_goals with_reducible rfl
        simp only [List.getElem_toArray, List.getElem_cons_zero, List.getElem_cons_succ, Act.put, List.setIfInBounds_toArray, List.set_cons_zero, List.set_cons_succ]
        refine' wpAnyH_take (i := 5) rfl (by kernel_rfl) (by kernel_rfl) (by kernel_rfl) (fun _ _ _ h => h) (Or.inl ⟨by rfl, ?_⟩) hHeld ?_
        rotate_left
        · intro W hSw
          have hSv : Frm (fun j => F j ∨ (W0.heap.size ≤ j ∧ j ≠ q)) W1 W := hSw
          clear hSw
          have q1 := frm_cell hSv r1' wm
          simp only [List.getElem_toArray, List.getElem_cons_zero, List.getElem_cons_succ]
          go_simp
          all_goals with_reducible rfl
        simp only [List.getElem_toArray, List.getElem_cons_zero, List.getElem_cons_succ, Act.put, List.setIfInBounds_toArray, List.set_cons_zero, List.set_cons_succ]
        refine' wpAnyH_take (i := 6) rfl (by kernel_rfl) (by kernel_rfl) (by kernel_rfl) (fun _ _ _ h => h) (Or.inl ⟨by rfl, ?_⟩) hHeld ?_
        rotate_left
        · intro W hSw
          have hSv : Frm (fun j => F j ∨ (W0.heap.size ≤ j ∧ j ≠ q)) W1 W := hSw
          clear hSw
          have q1 := frm_cell hSv d3 w3
          simp only [List.getElem_toArray, List.getElem_cons_zero, List.getElem_cons_succ]
          go_simp
          all_goals with_reducible rfl
        simp only [List.getElem_toArray, List.getElem_cons_zero, List.getElem_cons_succ, Act.put, List.setIfInBounds_toArray, List.set_cons_zero, List.set_cons_succ]
        refine' wpAnyH_take (i := 7) rfl (by kernel_rfl) (by kernel_rfl) (by kernel_rfl) (fun _ _ _ h => h) (Or.inl ⟨by rfl, ?_⟩) hHeld ?_
        rotate_left
        · intro W hSw
          have hSv : Frm (fun j => F j ∨ (W0.heap.size ≤ j ∧ j ≠ q)) W1 W := hSw
          clear hSw
          have q1 := frm_cell hSv d10 w10
          simp only [List.getElem_toArray, List.getElem_cons_zero, List.getElem_cons_succ]
          go_simp
          all_goals with_reducible rfl
        simp only [List.getElem_toArray, List.getElem_cons_zero, List.getElem_cons_succ, Act.put, List.setIfInBounds_toArray, List.set_cons_zero, List.set_cons_succ]
        refine' wpAnyH_take (i := 8) rfl (by kernel_rfl) (by kernel_rfl) (by kernel_rfl) (fun _ _ _ h => h) (Or.inl ⟨by rfl, ?_⟩) hHeld ?_
        rotate_left
        · intro W hSw
          have hSv : Frm (fun j => F j ∨ (W0.heap.size ≤ j ∧ j ≠ q)) W1 W := hSw
          clear hSw
          skip
          simp only [List.getElem_toArray, List.getElem_cons_zero, List.getElem_cons_succ]
          go_simp
          all_goals with_reducible rfl
        simp only [List.getElem_toArray, List.getElem_cons_zero, List.getElem_cons_succ, Act.put, List.setIfInBounds_toArray, List.set_cons_zero, List.set_cons_succ]
        refine' wpAnyH_take (i := 9) rfl (by kernel_rfl) (by kernel_rfl) (by kernel_rfl) (fun _ _ _ h => h) (Or.inl ⟨by rfl, ?_⟩) hHeld ?_
        rotate_left
        · intro W hSw
          have hSv : Frm (fun j => F j ∨ (W0.heap.size ≤ j ∧ j ≠ q)) W1 W := hSw
          clear hSw
          skip
          simp only [List.getElem_toArray, List.getElem_cons_zero, List.getElem_cons_succ]
          go_simp
          all_goals with_reducible rfl
        simp only [List.getElem_toArray, List.getElem_cons_zero, List.getElem_cons_succ, Act.put, List.setIfInBounds_toArray, List.set_cons_zero, List.set_cons_succ]
        refine' wpAnyH_take (i := 10) rfl (by kernel_rfl) (by kernel_rfl) (by kernel_rfl) (fun _ _ _ h => h) (Or.inl ⟨by rfl, ?_⟩) hHeld ?_
        rotate_left
        · intro W hSw
          have hSv : Frm (fun j => F j ∨ (W0.heap.size ≤ j ∧ j ≠ q)) W1 W := hSw
          clear hSw
          have q1 := frm_cell hSv r0' wm
          simp only [List.getElem_toArray, List.getElem_cons_zero, List.getElem_cons_succ]
          go_simp
          all_goals with_reducible rfl
        simp only [List.getElem_toArray, List.getElem_cons_zero, List.getElem_cons_succ, Act.put, List.setIfInBounds_toArray, List.set_cons_zero, List.set_cons_succ]
        refine wpAnyH_ready (rs := [11]) (by kernel_rfl) (by simp) ?_
        refine AllReadyH.cons (o := _) rfl (fun K hK => ?_) AllReadyH.nil
        simp only [List.getElem_toArray, List.getElem_cons_zero, List.getElem_cons_succ]
        go_simp
        have hsz2 := k2.out.size
        refine (hTB3.out.set (n := mn) (t := mt) hFB (by have := hszh.out; omega) (by have := hszh.out; omega) (by have := hlen2.out; have := hRlh.out; have := hlenh.out; omega) hmok.out).mono ?_
        rintro e W3 ⟨z, R2, rfl, hR2, t1, t2, t3⟩
        refine hK.out _ _ (Frm.trans hHeld t3 (fun _ _ h => h)) (fun _ => ?_)
        clear hK K hHeld
        have t1h := hid t1
        have t2h := hid t2
        have t3h := hid (Frm.trans (Frm.mono k2.out (fun _ _ h => h.elim)) t3 (fun _ _ h => h))
        clear t1 t2 t3
        try simp only [Act.put, List.setIfInBounds_toArray, List.set_cons_zero, List.set_cons_succ]
        refine wpAnyH_done (by kernel_rfl) ?_ _
        refine OnlyN.normal ?_
        have wq : ¬ (F q ∨ (W0.heap.size ≤ q ∧ q ≠ q)) := by
          rintro (h | h)
          · have := hFB.lt q h; have := hszh.out; omega
          · exact h.2 rfl
        have a5 := frm_cell t3h.out d5 w5
        have a10 := frm_cell t3h.out d10 w10
        have aq := frm_cell t3h.out n1' wq
        have hsz3 := t3h.out.size
        have hRx : Hid (R2.length ≤ 1000000000) := by have := hlen2.out; have := hRlh.out; have := hlenh.out; unfold Hid; omega
        have hR2h := hid hR2
        clear d3 d5 d10 r0' r1' n1' f10 hR2
        gi_wp2_with (refine ⟨trivial, ?_⟩; gi_at_call 19; refine (CallsIn.inRound l (callsIn_wide.2 (t1h.out.drop hFB (by have := hszh.out; omega) (by have := hszh.out; omega) hRx.out hokR.out))).mono ?_; rintro e W4 ⟨z2, R3, rfl, hR3, t1, t2, t3⟩; have t4h := hid t1; have t5h := hid t2; have t6h := hid (Frm.trans t3h.out t3 (fun _ _ h => h)); have b10 := boxed_frm v10 t6h.out w10; have b10c := b10.cell; have b10f := b10.frozen; clear t1 t2 t3 a5 a10 aq)
        have fr : Frm (fun j => F j ∨ W0.heap.size ≤ j ∨ j = s10) Y (W4.setCell ⟨s10, 0, none⟩ (.int .i64 ((k : Int) + 1))) := by
          refine Frm.setCell ?_ _ (Or.inr (Or.inr (Or.inr rfl))) _
          refine Frm.trans (Frm.mono k1.out (fun _ _ h => h.elim)) (Frm.mono t6h.out (fun j _ h => ?_)) (fun _ _ h => h)
          exact h.elim Or.inl (fun h => Or.inr (Or.inl h.1))
        refine ⟨((((keeps_old k1.out).trans (keeps_old k2.out)).trans t2h.out).trans t5h.out).trans (keeps_low (by have := hsx.out; omega) _ _), fun j hj h1 h2 => fr.block j (by have := hszh.out; omega) ?_, ⟨Frm.trans f1h.out fr (fun j hj h => ?_), R3, ?_, TB.far hFB (t4h.out.low (hFB.lt _ hFB.t)) (frm_set _ _ _ _) (fun j hj e => ?_) (fun j hj e => ?_)⟩, ?_⟩
        · rintro (h | h | h)
          · exact h1 h
          · omega
          · exact h2 h
        · rcases h with h | h | h
          · exact Or.inl h
          · omega
          · exact Or.inr h
        · have h1 := hlen2.out
          have h2 := hR2h.out
          have h3 := hkh.out
          rw [List.length_append, List.length_singleton, h3]
          omega
        · have := hFF j hj; omega
        · have := hsx.out; omega
        · rw [List.length_append, List.length_singleton, hkh.out]
          exact Boxed.set _ b10
      · have hd5 : decide (k < nm) = false := by simp; omega
        have hsx : Hid (W0.heap.size = s10 + 1) := hS0
        have v10h := hid v10
        clear v10
        gi_wp2
        have fr : Frm (fun j => F j ∨ j = s10) Y (W1.setCell ⟨s10, 0, none⟩ (.int .i64 ((k : Int) + 1))) :=
          Frm.setCell (Frm.mono k1.out (fun _ _ h => h.elim)) _ (Or.inr (Or.inr rfl)) _
        refine ⟨(keeps_old k1.out).trans (keeps_low (by have := hsx.out; omega) _ _), fun j hj h1 h2 => fr.block j (by have := hszh.out; omega) ?_, ⟨Frm.trans f1h.out fr (fun j hj h => h), R', ?_, TB.far hFB ((hTB'.out.old k1.out).low (hFB.lt _ hFB.t)) (frm_set _ _ _ _) (fun j hj e => ?_) (fun j hj e => ?_)⟩, ?_⟩
        · rintro (h | h)
          · exact h1 h
          · exact h2 h
        · have h1 := hlen2.out
          have h3 := hkh.out
          rw [List.length_append, List.length_singleton, h3]
          omega
        · have := hFF j hj; omega
        · have := hsx.out; omega
        · rw [List.length_append, List.length_singleton, hkh.out]
          exact Boxed.set _ v10h.out
  case done =>
    rintro D ys Y hD hys ⟨⟨f1, R', _, hTB⟩, e10⟩ hK
    have hl9 : ys.length = R.length := by
      have := congrArg List.length hys
      rwa [List.length_map] at this
    rw [hl9] at e10
    have nF : ∀ k, s5 ≤ k → ¬ F k := fun k hk h => by have := hFF k h; omega
    have g4 := boxed_frm c4 f1 (by rintro (h | h); · have := hFF _ h; omega
                                   · omega)
    have g7 := boxed_frm c7 f1 (by rintro (h | h); · exact nF _ (by omega) h
                                   · omega)
    have gD := cD.kept f1 (by rintro (h | h); · exact nF _ (by omega) h
                              · omega) (fun k hk h => by
      rcases h with h | h
      · exact nF k (by omega) h
      · omega)
    obtain ⟨ao2, cap2, m1, m2, m3⟩ := gD
    have m4 := (two_cells m1).2
    have d7 := g7.cell
    have d10 := e10.cell
    have g4h := hid g4
    have f1h := hid f1
    have hKh := hid hK
    have hDh := hid hD
    have hsz := f1.size
    have cOh := hid cO
    have hFFh := hid hFF
    have hsx : Hid (W0.heap.size = s10 + 1) := hS0
    clear g4 g7 e10 f1 hK m1 m2 m3 hTB cK cB cT cD hTg c3 c4 c5 c7 c10 cM hok hn hfn d1 hys hl9 hD cO hFF nF hokM hm
    generalize R.length = rn at m4 d10 hRl
    gi_wp2_with fail
    refine wpIn_wide.2 ?_
    refine wp_region_noPanic ?_
    refine wp_region_held_drew (S := fun X => Frm (fun j => j = s + 1) Y X) (by kernel_rfl) (Frm.drewN (Frm.refl _ Y) 1) (fun hHeld => ?_)
    have k1 := hid ((Old.refl Y).drewN 1)
    generalize hW1 : Y.drew = W1 at *
    rw [show Y.drewN 1 = W1 from hW1] at k1
    clear hW1
    have w10 : ¬ s10 = s + 1 := by omega
    have w7 : ¬ s7 = s + 1 := by omega
    have wr : ¬ rb = s + 1 := by omega
    refine' wpAnyH_take (i := 0) rfl (by kernel_rfl) (by kernel_rfl) (by kernel_rfl) (fun _ _ _ h => h) (Or.inl ⟨by rfl, ?_⟩) hHeld ?_
    rotate_left
    · intro W hSw
      have hSv : Frm (fun j => j = s + 1) Y W := hSw
      clear hSw
      have q1 := frm_cell hSv d10 w10
      simp only [List.getElem_toArray, List.getElem_cons_zero]
      go_simp
      all_goals with_reducible rfl
    simp only [List.getElem_toArray, List.getElem_cons_zero, Act.put, List.setIfInBounds_toArray, List.set_cons_zero, List.set_cons_succ]
    refine' wpAnyH_take (i := 1) rfl (by kernel_rfl) (by kernel_rfl) (by kernel_rfl) (fun _ _ _ h => h) (Or.inl ⟨by rfl, ?_⟩) hHeld ?_
    rotate_left
    · intro W hSw
      have hSv : Frm (fun j => j = s + 1) Y W := hSw
      clear hSw
      have q1 := frm_cell hSv d7 w7
      simp only [List.getElem_toArray, List.getElem_cons_zero, List.getElem_cons_succ]
      go_simp
      all_goals with_reducible rfl
    simp only [List.getElem_toArray, List.getElem_cons_zero, List.getElem_cons_succ, Act.put, List.setIfInBounds_toArray, List.set_cons_zero, List.set_cons_succ]
    refine' wpAnyH_take (i := 2) rfl (by kernel_rfl) (by kernel_rfl) (by kernel_rfl) (fun _ _ _ h => h) (Or.inl ⟨by rfl, ?_⟩) hHeld ?_
    rotate_left
    · intro W hSw
      have hSv : Frm (fun j => j = s + 1) Y W := hSw
      clear hSw
      skip
      simp only [List.getElem_toArray, List.getElem_cons_zero, List.getElem_cons_succ]
      go_simp
      all_goals with_reducible rfl
    simp only [List.getElem_toArray, List.getElem_cons_zero, List.getElem_cons_succ, Act.put, List.setIfInBounds_toArray, List.set_cons_zero, List.set_cons_succ]
    refine' wpAnyH_take (i := 3) rfl (by kernel_rfl) (by kernel_rfl) (by kernel_rfl) (fun _ _ _ h => h) (Or.inl ⟨by rfl, ?_⟩) hHeld ?_
    rotate_left
    · intro W hSw
      have hSv : Frm (fun j => j = s + 1) Y W := hSw
      clear hSw
      skip
      simp only [List.getElem_toArray, List.getElem_cons_zero, List.getElem_cons_succ]
      go_simp
      all_goals with_reducible rfl
    simp only [List.getElem_toArray, List.getElem_cons_zero, List.getElem_cons_succ, Act.put, List.setIfInBounds_toArray, List.set_cons_zero, List.set_cons_succ]
    refine' wpAnyH_take (i := 4) rfl (by kernel_rfl) (by kernel_rfl) (by kernel_rfl) (fun _ _ _ h => h) (Or.inl ⟨by rfl, ?_⟩) hHeld ?_
    rotate_left
    · intro W hSw
      have hSv : Frm (fun j => j = s + 1) Y W := hSw
      clear hSw
      have q1 := frm_cell hSv m4 wr
      simp only [List.getElem_toArray, List.getElem_cons_zero, List.getElem_cons_succ]
      go_simp
      all_goals with_reducible rfl
    simp only [List.getElem_toArray, List.getElem_cons_zero, List.getElem_cons_succ, Act.put, List.setIfInBounds_toArray, List.set_cons_zero, List.set_cons_succ]
    refine' wpAnyH_take (i := 5) rfl (by kernel_rfl) (by kernel_rfl) (by kernel_rfl) (fun _ _ _ h => h) (Or.inl ⟨by rfl, ?_⟩) hHeld ?_
    rotate_left
    · intro W hSw
      have hSv : Frm (fun j => j = s + 1) Y W := hSw
      clear hSw
      skip
      simp only [List.getElem_toArray, List.getElem_cons_zero, List.getElem_cons_succ]
      go_simp
      all_goals with_reducible rfl
    simp only [List.getElem_toArray, List.getElem_cons_zero, List.getElem_cons_succ, Act.put, List.setIfInBounds_toArray, List.set_cons_zero, List.set_cons_succ]
    refine' wpAnyH_take (i := 6) rfl (by kernel_rfl) (by kernel_rfl) (by kernel_rfl) (fun _ _ _ h => h) (Or.inl ⟨by rfl, ?_⟩) hHeld ?_
    rotate_left
    · intro W hSw
      have hSv : Frm (fun j => j = s + 1) Y W := hSw
      clear hSw
      skip
      simp only [List.getElem_toArray, List.getElem_cons_zero, List.getElem_cons_succ]
      go_simp
      all_goals with_reducible rfl
    simp only [List.getElem_toArray, List.getElem_cons_zero, List.getElem_cons_succ, Act.put, List.setIfInBounds_toArray, List.set_cons_zero, List.set_cons_succ]
    refine' wpAnyH_take (i := 7) rfl (by kernel_rfl) (by kernel_rfl) (by kernel_rfl) (fun _ _ _ h => h) (Or.inl ⟨by rfl, ?_⟩) hHeld ?_
    rotate_left
    · intro W hSw
      have hSv : Frm (fun j => j = s + 1) Y W := hSw
      clear hSw
      skip
      simp only [List.getElem_toArray, List.getElem_cons_zero, List.getElem_cons_succ]
      go_simp
      all_goals with_reducible rfl
    simp only [List.getElem_toArray, List.getElem_cons_zero, List.getElem_cons_succ, Act.put, List.setIfInBounds_toArray, List.set_cons_zero, List.set_cons_succ]
    refine wpAnyH_ready (rs := [8]) (by kernel_rfl) (by simp) ?_
    refine AllReadyH.cons (o := _) rfl (fun K hK => ?_) AllReadyH.nil
    simp only [List.getElem_toArray, List.getElem_cons_zero, List.getElem_cons_succ]
    go_simp
    refine (kK.out _).mono ?_
    rintro e W2 ⟨rfl, h2⟩
    refine hK.out _ _ (Frm.trans hHeld h2 (fun _ _ h => h.elim)) (fun hHeld => ?_)
    have v4 := boxed_olds (boxed_olds g4h.out k1.out) h2
    clear hK K h2
    try simp only [Act.put, List.setIfInBounds_toArray, List.set_cons_zero, List.set_cons_succ]
    refine' wpAnyH_take (i := 9) rfl (by kernel_rfl) (by kernel_rfl) (by kernel_rfl) (fun _ _ _ h => h) (Or.inl ⟨by rfl, ?_⟩) hHeld ?_
    rotate_left
    · intro W hSw
      have hSv : Frm (fun j => j = s + 1) Y W := hSw
      clear hSw
      skip
      simp only [List.getElem_toArray, List.getElem_cons_zero, List.getElem_cons_succ]
      go_simp
      all_goals with_reducible rfl
    simp only [List.getElem_toArray, List.getElem_cons_zero, List.getElem_cons_succ, Act.put, List.setIfInBounds_toArray, List.set_cons_zero, List.set_cons_succ]
    refine wpAnyH_ready (rs := [10]) (by kernel_rfl) (by simp) ?_
    refine AllReadyH.cons (o := _) rfl (fun K hK => ?_) AllReadyH.nil
    have d4 := v4.cell
    have f4 := v4.frozen
    simp only [List.getElem_toArray, List.getElem_cons_zero, List.getElem_cons_succ]
    go_simp
    have fr : Frm (fun j => j = s + 1) Y (W2.setCell ⟨s + 1, 0, none⟩ (.bool true)) := Frm.setCell hHeld _ (Or.inr rfl) _
    have v5 := hid (Boxed.set (.bool true) v4)
    refine hK.out _ _ fr (fun _ => ?_)
    clear hK K
    have frh := hid fr
    clear fr
    try simp only [Act.put, List.setIfInBounds_toArray, List.set_cons_zero, List.set_cons_succ]
    refine wpAnyH_done (by kernel_rfl) ?_ _
    refine NoPanic.normal ?_
    gi_wp2
    have hDl : D < Y.heap.size := (Array.getElem?_eq_some_iff.1 hKh.out).1
    have hK' : (W2.setCell ⟨s + 1, 0, none⟩ (.bool true)).heap[D]? = some (.deferred (some [])) := by
      rw [frh.out.block D hDl (by have := hDh.out; have := hsx.out; omega)]; exact hKh.out
    refine ⟨by simp, .inl ⟨_, _, rfl, run_takeDeferred hK', ?_⟩⟩
    have hg := grownBy_putObj' (W2.setCell ⟨s + 1, 0, none⟩ (.bool true)) D (.deferred none)
    have hc5 := cell_kept v5.out.cell hg (fun r e => by cases e; exact ⟨_, hK', rfl⟩)
    refine ⟨.bool true, ?_, rfl, ?_⟩
    · simp [results, Try.f4, go_sem, hc5]
    · have hf : Frm (fun k => k = D) (W2.setCell ⟨s + 1, 0, none⟩ (.bool true)) ((W2.setCell ⟨s + 1, 0, none⟩ (.bool true)).putObj D (.deferred none)) :=
        ⟨hg.os, hg.tape, hg.output, hg.size, fun k hk hne => hg.block k hk (fun e => hne (by cases e; rfl))⟩
      refine Frm.trans (Frm.trans (Frm.trans cOh.out f1h.out (fun k hk h => ?_)) frh.out (fun k hk h => ?_)) hf (fun k hk h => ?_)
      · rcases h with h | h
        · have := hFFh.out k h; omega
        · have := hsx.out; omega
      · omega
      · have := hDh.out; have := hsx.out; omega
  case stop =>
    rintro D cd pre W hD ⟨k, hk, e⟩ hx _
    refine (hx ?_).elim
    have hl : pre.length = k := by
      have := congrArg List.length e
      rw [List.length_map, List.length_take] at this
      omega
    rw [hl]; exact e

theorem meanwhile_any (ao bo : Option Addr) (cap n capm nm : Nat) (L M : List Due) (w : World) (ha : DueC w ao L) (hn : L.length = n) (hn2 : n ≤ 9223372036854775807) (hok : ∀ d ∈ L, i64ok d.2) (hb : DueC w bo M) (hm : M.length = nm) (hokM : ∀ d ∈ M, i64ok d.2) :
    Calls Try.prog 4 #[.slice ao n cap, .slice bo nm capm] w fun e w' => e = .returned (.bool true) ∧ Below w.heap.size w w' := by
  have key : Calls Try.prog 4 #[.slice ao n cap, .slice bo nm capm] w fun e w' => e = .returned (.bool true) ∧ Old w w' := by
    rcases Nat.lt_or_ge 100 n with h1 | h1
    · exact mw_great ao bo cap n capm nm w h1 hn2
    · by_cases hz : refL 0 L = 0
      · exact mw_good ao bo cap n capm nm L M w ha hn h1 hz hok hb hm hokM
      · exact mw_bad ao bo cap n capm nm L w ha hn h1 hz
  exact key.mono fun _ _ ⟨he, ho⟩ => ⟨he, ho.below⟩
end Go.Proofs.Ytbaibikpdaphoaa
