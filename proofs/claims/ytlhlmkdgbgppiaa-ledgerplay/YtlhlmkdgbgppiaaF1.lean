/- The law's told: walked. -/
import Derived.Test.YtlhlmkdgbgppiaaJ18
namespace Go.Proofs.Ytlhlmkdgbgppiaa
open Go.RowKit Go.Lib Go.Shelf Go.Maps
attribute [local go_sem] Oper.semAt_some


set_option maxRecDepth 100000 in
set_option maxHeartbeats 16000000 in
theorem lawtold_any (x : Lx) (rb : Nat) (D : Nat → Prop) (B : List Int) (P : List (List Es)) (leave : Int) (w : World) (h : Ldg w x) (hk : OkL x) (hd : Doc w rb D x.L B P) (hPl : P = x.P.map (entsOf x.L)) (hP : x.P.length ≤ 200) (hok : ∀ p ∈ P, OkN p) (hB : B = x.A.map Prod.fst) (hhas : ∀ k, k < x.A.length → (x.A.getD k (0, 0)).2 = ofN P (x.L.getD k [])) (hD : ∀ k, D k → k < w.heap.size) :
    Calls Try.prog 8 #[x.ptr, .pointer (some ⟨rb, 0, none⟩), .int .i64 leave] w fun e w' => e = .returned (.bool true) ∧ Old w w' := by
  have kL := hid (fun W (o : Old w W) => llen_any x W (h.old o))
  have kA := hid (fun W (o : Old w W) => accounts_any x W (h.old o))
  have kB := hid (fun W (o : Old w W) => allA_any x W (h.old o))
  have hrb : rb < w.heap.size := by obtain ⟨nv, lv, qv, hb, -⟩ := hd; exact blk_lt hb
  have hxa := hid (fun k (hk : x.all k) => (h.tag hk).1)
  have kD := hid hD
  have kh := hid h
  have kd := hid hd
  have kk := hid hk
  have kPl := hid hPl
  have kok := hid hok
  have kB0 := hid hB
  have khas := hid hhas
  unfold Lx.ptr at *
  clear h hk hd hPl hok hB hhas hD
  refine (callsIn_wide (n := 5)).1 ?_
  refine callsIn_of_wp_marks Try.func8 rfl trivial ?_ rfl
  simp only [Try.ntmps8, List.size_toArray, List.length_cons, List.length_nil, Nat.reduceAdd, Nat.reduceSub, Array.replicate_succ, Array.replicate_zero, List.push_toArray, List.append_toArray, List.nil_append, List.cons_append]
  refine wpIn_wide.2 ?_
  go_upto_region 1 with fail
  have b1 := hid (three_boxes w (.pointer (some ⟨rb, 0, none⟩)) (.int .i64 leave) (.bool false) 26 2 4)
  have o1 : Hid (Old w (((w.alloc (.cells #[.pointer (some ⟨rb, 0, none⟩)] 26)).alloc (.cells #[.int .i64 leave] 2)).alloc (.cells #[.bool false] 4))) := (((Old.refl w).alloc _).alloc _).alloc _
  have z1 : Hid ((((w.alloc (.cells #[.pointer (some ⟨rb, 0, none⟩)] 26)).alloc (.cells #[.int .i64 leave] 2)).alloc (.cells #[.bool false] 4)).heap.size = w.heap.size + 3) := by show _ = _; simp only [alloc_size]
  generalize ((w.alloc (.cells #[.pointer (some ⟨rb, 0, none⟩)] 26)).alloc (.cells #[.int .i64 leave] 2)).alloc (.cells #[.bool false] 4) = W1 at *
  go_wp2_with fail
  refine (kL.out W1 o1.out).mono ?_
  rintro e Wa ⟨rfl, nq, ea⟩
  have oa : Old W1 Wa := by rw [ea]; exact (Old.refl W1).drewN nq
  have koa := hid (o1.out.trans oa)
  have b2 := hid (show _ ∧ _ ∧ _ from ⟨boxed_olds b1.out.1 oa, boxed_olds b1.out.2.1 oa, boxed_olds b1.out.2.2 oa⟩)
  clear ea oa b1 o1
  go_wp2_with fail
  refine (kA.out Wa koa.out).mono ?_
  rintro e Wb ⟨a1, a2, a0, am, rfl, hAc, ob, hz⟩
  have kob := hid (koa.out.trans ob)
  have kAc := hid hAc
  have b3 := hid (show _ ∧ _ ∧ _ from ⟨boxed_olds b2.out.1 ob, boxed_olds b2.out.2.1 ob, boxed_olds b2.out.2.2 ob⟩)
  clear hAc ob b2 koa hz
  go_wp2_with fail
  refine (kB.out Wb kob.out).mono ?_
  rintro e W2 ⟨p1, p2, rfl, hp1, hp2, oc, -, -⟩
  have ko2 := hid (kob.out.trans oc)
  have kAc := hid (kAc.out.old oc)
  have kp1 := hid hp1
  have kp2 := hid hp2
  have b4 := hid (show _ ∧ _ ∧ _ from ⟨boxed_olds b3.out.1 oc, boxed_olds b3.out.2.1 oc, boxed_olds b3.out.2.2 oc⟩)
  clear oc b3 kob hp1 hp2 kA kB kL
  obtain ⟨s0, hs0⟩ : ∃ s0, w.heap.size = s0 := ⟨_, rfl⟩
  have kss := hid hs0
  rw [hs0] at b4 z1 hrb kD hxa ⊢
  have kls : Hid (s0 + 3 ≤ W2.heap.size) := b4.out.2.2.lt
  have kTT : Hid (TT rb leave W2 s0 W2) := ⟨b4.out.1, b4.out.2.1, b4.out.2.2, Old.refl _⟩
  have kd2 := hid (kd.out.old ko2.out)
  have kh2 := hid (kh.out.old ko2.out)
  clear kd kh
  have q0 := b4.out.1.cell
  obtain ⟨nv, lv, qv, hb, ⟨no, nc, rfl, -⟩, -, ⟨po, pc, rfl, -⟩⟩ := kd2.out
  have q1 : W2.cell? ⟨rb, 0, none⟩ = some (.slice no x.L.length nc) := blk_cells hb rfl
  have q2 : W2.cell? ⟨rb, 2, none⟩ = some (.slice po P.length pc) := blk_cells hb rfl
  have hPn : P.length = x.P.length := by rw [kPl.out]; simp
  rw [hPn] at q2
  obtain ⟨n, hn⟩ : ∃ n, x.L.length = n := ⟨_, rfl⟩
  obtain ⟨N, hN⟩ : ∃ N, x.P.length = N := ⟨_, rfl⟩
  rw [hn] at q1
  rw [hN] at q2 hP hPn
  have kn := hid hn
  have kN := hid hN
  have kPn := hid hPn
  rw [hn, hN]
  have hnn : ((n : Int) != (n : Int)) = false := by simp
  have hNN : ((N : Int) != (N : Int)) = false := by simp
  have hf1 : (binOp BinOp.eql 97 (.func (.func 64) #[] #[.pointer (some ⟨a1, 0, none⟩), .pointer (some ⟨a2, 0, none⟩)]) .nilFunc).run Try.prog W2 = .ok (.bool false) W2 := by kernel_rfl
  have hf2 : (binOp BinOp.eql 100 (.func (.func 66) #[] #[.pointer (some ⟨p1, 0, none⟩), .pointer (some ⟨p2, 0, none⟩)]) .nilFunc).run Try.prog W2 = .ok (.bool false) W2 := by kernel_rfl
  clear hs0 b4 z1 hb hn hN hPn
  go_wp2_with fail
  clear q0 q1 q2 hf1 hf2
  have fbt := hid (Boxed.new W2 3 (.int .i64 0))
  have kT9 := hid (kTT.out.olds ((Old.refl W2).alloc (.cells #[.int .i64 0] 3)))
  have hz9 : Hid ((W2.alloc (.cells #[.int .i64 0] 3)).heap.size = W2.heap.size + 1) := alloc_size _ _
  obtain ⟨W9, h9⟩ : ∃ W9, W2.alloc (.cells #[.int .i64 0] 3) = W9 := ⟨_, rfl⟩
  rw [h9] at fbt kT9 hz9 ⊢
  obtain ⟨bt, hbt⟩ : ∃ bt, W2.heap.size = bt := ⟨_, rfl⟩
  have kbt := hid hbt
  rw [hbt] at fbt hz9 ⊢
  clear h9 kTT
  have hbt' : W2.heap.size ≤ bt := by omega
  clear hbt
  refine wp_loop_rounds 3 ?_
  rw [rounds_succ]
  have bc0 := fbt.out.cell
  go_wp2_with fail
  have hzA : Hid (((W9.alloc (.cells #[.int .i64 0] 3)).alloc (.cells #[.int .i64 0] 3)).heap.size = bt + 3) := by
    show _ = _
    rw [alloc_size, alloc_size, hz9.out]
  have oA : Old W9 ((W9.alloc (.cells #[.int .i64 0] 3)).alloc (.cells #[.int .i64 0] 3)) := ((Old.refl W9).alloc _).alloc _
  have kbx := hid (boxed_two W9 (.int .i64 0) (.int .i64 0) 3 3)
  rw [hz9.out] at kbx ⊢
  have kS0 : Hid (TM [] rb leave W2 s0 bt (bt + 1) (bt + 1 + 1) 0 0 0 ((W9.alloc (.cells #[.int .i64 0] 3)).alloc (.cells #[.int .i64 0] 3))) := ⟨⟨boxed_olds fbt.out oA, kbx.out.1, kbx.out.2, kT9.out.olds oA⟩, fun r hr => by cases hr⟩
  clear oA kbx bc0 fbt kT9
  generalize (W9.alloc (.cells #[.int .i64 0] 3)).alloc (.cells #[.int .i64 0] 3) = WA at *
  have h5 : bt < bt + 1 := by omega
  have h6 : bt + 1 < bt + 1 + 1 := by omega
  rw [show bt + 3 = bt + 1 + 1 + 1 from rfl] at hzA
  generalize bt + 1 = kb at *
  generalize kb + 1 = mb at *
  have hacs := hid (kAc.out.old kS0.out.s.t.oW)
  have e1 := hzA.out
  have kLs : Hid (∀ r ∈ ([] : List Nat), r < WA.heap.size) := hid (fun r hr => (Array.getElem?_eq_some_iff.1 (kS0.out.ms r hr)).1)
  refine range_joinNb (n := 5) (by omega) (gf := 64) (lb := #[.pointer (some ⟨a1, 0, none⟩), .pointer (some ⟨a2, 0, none⟩)]) rfl (enters_of Try.func64 (by kernel_rfl) rfl)
    (accounts2_N 4 (by omega) a1 a2 a0 am x.v x.L x.A kk.out.len kk.out.oka (fun nm hm => by
      have hc := kk.out.chk nm hm
      unfold chkZ at hc
      split at hc
      · omega
      · cases hc) (fun k => k = kb) WA hacs.out (fun k h e => by omega) ?t1 ?t2 ?t3 ?t4)
    (fun h k => h.trans k) (fun W o => KeptM.old ((Old.refl W).alloc o)) (fun W o o' h1 h2 => KeptM.put o' ?t5 h1 h2) (fun _ => rfl) 2
    (fun q Y => ∃ k, k ≤ n ∧ q = (acL x.L x.A).take k ∧ TM [] rb leave W2 s0 bt kb mb 0 k 0 Y)
    (fun q Y => ∃ k : Nat, TM [] rb leave W2 s0 bt kb mb 0 k 0 Y ∧ ((0 : Int) = 0 ∧ (k : Int) = leave))
    (fun q Y => ∃ k : Nat, TM [] rb leave W2 s0 bt kb mb 0 k 0 Y ∧ FinJ 0 leave n k)
    ?i1 ?i2 ⟨0, Nat.zero_le _, by simp, kS0.out⟩
    (fun y => .cells #[.string ⟨y.2.1.toArray⟩, .int .i64 y.2.2.1, .int .i64 y.2.2.2] 82)
    (fun y mm t => (((t.setIfInBounds 58 (.int .i64 (y.1 : Int))).setIfInBounds 59 (.agg #[.string ⟨y.2.1.toArray⟩, .int .i64 y.2.2.1, .int .i64 y.2.2.2])).setIfInBounds 14 (.int .i64 (y.1 : Int))).setIfInBounds 15 (.pointer (some ⟨mm, 0, none⟩)))
    ?assign1 ?body1 ?fin1 ?fin2 ?hQ1 ?end1
  case t1 =>
    have : a1 < W2.heap.size := World.block_lt_of_cell? W2 _ kAc.out.c1
    omega
  case t2 =>
    have : a2 < W2.heap.size := World.block_lt_of_cell? W2 _ kAc.out.c2
    omega
  case t3 =>
    have : a0 < W2.heap.size := World.block_lt_of_cell? W2 _ kAc.out.c0
    omega
  case t4 =>
    intro q hq e
    have := hxa.out q (Or.inr (Or.inr (Or.inr (Or.inr (Or.inr (Or.inr (Or.inl hq)))))))
    have := kls.out
    omega
  case t5 =>
    have := kAc.out.am.lt
    omega
  case i1 =>
    rintro p X Y ⟨k, h1, h2, h3⟩ hf
    exact ⟨k, h1, h2, h3.far hf (fun b e => by omega) (fun r hr e => by have := kLs.out r hr; omega) kls.out hbt' (by omega) (by omega)⟩
  case i2 =>
    rintro p X Y ⟨k, h3, h4⟩ hf
    exact ⟨k, h3.far hf (fun b e => by omega) (fun r hr e => by have := kLs.out r hr; omega) kls.out hbt' (by omega) (by omega), h4⟩
  case assign1 =>
    intro l p y W K hpre hK
    simp only [encA]
    simp only [List.setIfInBounds_toArray, List.set_cons_zero, List.set_cons_succ] at hK
    have kK := hid hK
    clear hK
    gi_wp2_with fail
    exact kK.out
  case body1 =>
    rintro l p y mm Y ⟨k, hk1, hp, hS⟩ ⟨k', hk', hpk⟩ hmm hml
    obtain ⟨hlt, rfl, hnext⟩ := acL_at (by rw [kn.out]; exact hk1) hk' hp hpk
    dsimp only at hmm
    have kS := hid hS
    have hkA : k < x.A.length := by rw [← kk.out.len]; exact hlt
    have kdd := hid (fun X (o : Old Y X) => dacc_good rb D x.L B P k X ((kd2.out.old hS.s.t.oW).old o) hlt (by rw [kB0.out, List.length_map]; exact kk.out.len.symm) (by have := kPn.out; omega) kok.out)
    have hBk : B.getD k 0 = (x.A.getD k (0, 0)).1 := by rw [kB0.out, getD_get (by rw [List.length_map]; exact hkA), getD_get hkA, List.getElem_map]
    have hof : ofN P x.L[k] = (x.A.getD k (0, 0)).2 := by rw [khas.out k hkA, getD_get hlt]
    rw [hBk, hof] at kdd
    rw [show x.L[k] = x.L.getD k [] from (getD_get hlt).symm] at kdd
    rw [kn.out] at hlt
    obtain ⟨nm, hnm⟩ : ∃ nm, x.L.getD k [] = nm := ⟨_, rfl⟩
    obtain ⟨⟨c1, c2⟩, hc⟩ : ∃ c, x.A.getD k (0, 0) = c := ⟨_, rfl⟩
    rw [hnm, hc] at hnext hmm kdd ⊢
    dsimp only at hmm kdd ⊢
    have knext := hid hnext
    have kmm := hid hmm
    have r0 := hS.s.t.r.cell
    have k0 := hS.s.kk.cell
    have hkI : (k : Int) < (n : Int) := by omega
    clear hnext hpk hp hS hBk hof hnm hc hmm
    simp only [List.setIfInBounds_toArray, List.set_cons_zero, List.set_cons_succ]
    gi_wp2_with fail
    refine ⟨trivial, ?_⟩
    refine (CallsIn.inRound l (callsIn_wide.2 (kdd.out Y (Old.refl Y)))).mono ?_
    rintro e Y1 ⟨rfl, o1⟩
    have oz : Old Y1 (Y1.alloc (.cells #[.string ⟨nm.toArray⟩, .int .i64 c1, .int .i64 c2] 82)) := (Old.refl Y1).alloc _
    have kY2 := hid (o1.trans oz)
    have kw := hid (heap_new Y1 (.cells #[.string ⟨nm.toArray⟩, .int .i64 c1, .int .i64 c2] 82))
    clear r0 k0 o1 oz kdd
    gi_wp2_with fail
    generalize Y1.alloc (.cells #[.string ⟨nm.toArray⟩, .int .i64 c1, .int .i64 c2] 82) = Y2 at *
    generalize Y1.heap.size = wm at *
    have hm2 := (kY2.out.block mm (blk_lt kmm.out) (fun h => h)).trans kmm.out
    have v0 := blk_cells (i := 0) hm2 rfl
    have v1 := blk_cells (i := 1) hm2 rfl
    have v2 := blk_cells (i := 2) hm2 rfl
    have v3 := blk_cells (i := 0) kw.out rfl
    have v4 := blk_cells (i := 1) kw.out rfl
    have v5 := blk_cells (i := 2) kw.out rfl
    simp only [qqa, qqb, qqc] at v0 v1 v2 v3 v4 v5
    have kS2 := hid (kS.out.olds kY2.out)
    have v6 := kS2.out.s.kk.cell
    have v7 := kS2.out.s.t.r.cell
    obtain ⟨nv, lv, qv, hb, ⟨no, nc, rfl, -⟩, -, -⟩ := kd2.out.old kS2.out.s.t.oW
    have v8 : Y2.cell? ⟨rb, 0, none⟩ = some (.slice no x.L.length nc) := blk_cells hb rfl
    rw [kn.out] at v8
    have hq1 : ((k : Int) != (k : Int)) = false := by simp
    have hq2 : decide (n ≤ k) = false := by simp; omega
    have hq3 : (c1 == c1) = true := by simp
    have hq4 : (c2 == c2) = true := by simp
    clear hb hm2 kw kmm
    refine region_round (S := fun X => Old Y2 X) (by kernel_rfl) (by kernel_rfl) ((Old.refl Y2).drewN 1) (fun hHeld => ?_)
    generalize Y2.drew = V0 at *
    refine' wpAnyH_take (i := 0) rfl (by kernel_rfl) (by kernel_rfl) (by kernel_rfl) (fun _ _ _ h => h) (Or.inl ⟨by rfl, ?_⟩) hHeld ?_
    rotate_left
    · intro W hSw
      simp only [List.getElem_toArray, List.getElem_cons_zero]
      go_simp
      all_goals with_reducible rfl
    simp only [qqa, qqb, Act.put, qqd, qqe, qqf]
    refine' wpAnyH_take (i := 1) rfl (by kernel_rfl) (by kernel_rfl) (by kernel_rfl) (fun _ _ _ h => h) (Or.inl ⟨by rfl, ?_⟩) hHeld ?_
    rotate_left
    · intro W hSw
      have u0 := Old.cell hSw v0
      have u1 := Old.cell hSw v1
      have u2 := Old.cell hSw v2
      have u3 := Old.cell hSw v3
      have u4 := Old.cell hSw v4
      have u5 := Old.cell hSw v5
      have u6 := Old.cell hSw v6
      have u7 := Old.cell hSw v7
      have u8 := Old.cell hSw v8
      clear hSw
      simp only [qqa, qqb, qqc]
      go_simp
      all_goals with_reducible rfl
    simp only [qqa, qqb, qqc, Act.put, qqd, qqe, qqf]
    refine' wpAnyH_take (i := 2) rfl (by kernel_rfl) (by kernel_rfl) (by kernel_rfl) (fun _ _ _ h => h) (Or.inl ⟨by rfl, ?_⟩) hHeld ?_
    rotate_left
    · intro W hSw
      have u0 := Old.cell hSw v0
      have u1 := Old.cell hSw v1
      have u2 := Old.cell hSw v2
      have u3 := Old.cell hSw v3
      have u4 := Old.cell hSw v4
      have u5 := Old.cell hSw v5
      have u6 := Old.cell hSw v6
      have u7 := Old.cell hSw v7
      have u8 := Old.cell hSw v8
      clear hSw
      simp only [qqa, qqb, qqc]
      go_simp
      all_goals with_reducible rfl
    simp only [qqa, qqb, qqc, Act.put, qqd, qqe, qqf]
    refine' wpAnyH_take (i := 3) rfl (by kernel_rfl) (by kernel_rfl) (by kernel_rfl) (fun _ _ _ h => h) (Or.inl ⟨by rfl, ?_⟩) hHeld ?_
    rotate_left
    · intro W hSw
      have u0 := Old.cell hSw v0
      have u1 := Old.cell hSw v1
      have u2 := Old.cell hSw v2
      have u3 := Old.cell hSw v3
      have u4 := Old.cell hSw v4
      have u5 := Old.cell hSw v5
      have u6 := Old.cell hSw v6
      have u7 := Old.cell hSw v7
      have u8 := Old.cell hSw v8
      clear hSw
      simp only [qqa, qqb, qqc]
      go_simp
      all_goals with_reducible rfl
    simp only [qqa, qqb, qqc, Act.put, qqd, qqe, qqf]
    refine' wpAnyH_take (i := 4) rfl (by kernel_rfl) (by kernel_rfl) (by kernel_rfl) (fun _ _ _ h => h) (Or.inl ⟨by rfl, ?_⟩) hHeld ?_
    rotate_left
    · intro W hSw
      have u0 := Old.cell hSw v0
      have u1 := Old.cell hSw v1
      have u2 := Old.cell hSw v2
      have u3 := Old.cell hSw v3
      have u4 := Old.cell hSw v4
      have u5 := Old.cell hSw v5
      have u6 := Old.cell hSw v6
      have u7 := Old.cell hSw v7
      have u8 := Old.cell hSw v8
      clear hSw
      simp only [qqa, qqb, qqc]
      go_simp
      all_goals with_reducible rfl
    simp only [qqa, qqb, qqc, Act.put, qqd, qqe, qqf]
    refine' wpAnyH_take (i := 5) rfl (by kernel_rfl) (by kernel_rfl) (by kernel_rfl) (fun _ _ _ h => h) (Or.inl ⟨by rfl, ?_⟩) hHeld ?_
    rotate_left
    · intro W hSw
      have u0 := Old.cell hSw v0
      have u1 := Old.cell hSw v1
      have u2 := Old.cell hSw v2
      have u3 := Old.cell hSw v3
      have u4 := Old.cell hSw v4
      have u5 := Old.cell hSw v5
      have u6 := Old.cell hSw v6
      have u7 := Old.cell hSw v7
      have u8 := Old.cell hSw v8
      clear hSw
      simp only [qqa, qqb, qqc]
      go_simp
      all_goals with_reducible rfl
    simp only [qqa, qqb, qqc, Act.put, qqd, qqe, qqf]
    refine' wpAnyH_take (i := 6) rfl (by kernel_rfl) (by kernel_rfl) (by kernel_rfl) (fun _ _ _ h => h) (Or.inl ⟨by rfl, ?_⟩) hHeld ?_
    rotate_left
    · intro W hSw
      have u0 := Old.cell hSw v0
      have u1 := Old.cell hSw v1
      have u2 := Old.cell hSw v2
      have u3 := Old.cell hSw v3
      have u4 := Old.cell hSw v4
      have u5 := Old.cell hSw v5
      have u6 := Old.cell hSw v6
      have u7 := Old.cell hSw v7
      have u8 := Old.cell hSw v8
      clear hSw
      simp only [qqa, qqb, qqc]
      go_simp
      all_goals with_reducible rfl
    simp only [qqa, qqb, qqc, Act.put, qqd, qqe, qqf]
    refine' wpAnyH_take (i := 7) rfl (by kernel_rfl) (by kernel_rfl) (by kernel_rfl) (fun _ _ _ h => h) (Or.inl ⟨by rfl, ?_⟩) hHeld ?_
    rotate_left
    · intro W hSw
      have u0 := Old.cell hSw v0
      have u1 := Old.cell hSw v1
      have u2 := Old.cell hSw v2
      have u3 := Old.cell hSw v3
      have u4 := Old.cell hSw v4
      have u5 := Old.cell hSw v5
      have u6 := Old.cell hSw v6
      have u7 := Old.cell hSw v7
      have u8 := Old.cell hSw v8
      clear hSw
      simp only [qqa, qqb, qqc]
      go_simp
      all_goals with_reducible rfl
    simp only [qqa, qqb, qqc, Act.put, qqd, qqe, qqf]
    refine' wpAnyH_take (i := 8) rfl (by kernel_rfl) (by kernel_rfl) (by kernel_rfl) (fun _ _ _ h => h) (Or.inl ⟨by rfl, ?_⟩) hHeld ?_
    rotate_left
    · intro W hSw
      have u0 := Old.cell hSw v0
      have u1 := Old.cell hSw v1
      have u2 := Old.cell hSw v2
      have u3 := Old.cell hSw v3
      have u4 := Old.cell hSw v4
      have u5 := Old.cell hSw v5
      have u6 := Old.cell hSw v6
      have u7 := Old.cell hSw v7
      have u8 := Old.cell hSw v8
      clear hSw
      simp only [qqa, qqb, qqc]
      go_simp
      all_goals with_reducible rfl
    simp only [qqa, qqb, qqc, Act.put, qqd, qqe, qqf]
    refine' wpAnyH_take (i := 9) rfl (by kernel_rfl) (by kernel_rfl) (by kernel_rfl) (fun _ _ _ h => h) (Or.inl ⟨by rfl, ?_⟩) hHeld ?_
    rotate_left
    · intro W hSw
      have u0 := Old.cell hSw v0
      have u1 := Old.cell hSw v1
      have u2 := Old.cell hSw v2
      have u3 := Old.cell hSw v3
      have u4 := Old.cell hSw v4
      have u5 := Old.cell hSw v5
      have u6 := Old.cell hSw v6
      have u7 := Old.cell hSw v7
      have u8 := Old.cell hSw v8
      clear hSw
      simp only [qqa, qqb, qqc]
      go_simp
      all_goals with_reducible rfl
    simp only [qqa, qqb, qqc, Act.put, qqd, qqe, qqf]
    refine' wpAnyH_take (i := 10) rfl (by kernel_rfl) (by kernel_rfl) (by kernel_rfl) (fun _ _ _ h => h) (Or.inl ⟨by rfl, ?_⟩) hHeld ?_
    rotate_left
    · intro W hSw
      have u0 := Old.cell hSw v0
      have u1 := Old.cell hSw v1
      have u2 := Old.cell hSw v2
      have u3 := Old.cell hSw v3
      have u4 := Old.cell hSw v4
      have u5 := Old.cell hSw v5
      have u6 := Old.cell hSw v6
      have u7 := Old.cell hSw v7
      have u8 := Old.cell hSw v8
      clear hSw
      simp only [qqa, qqb, qqc]
      go_simp
      all_goals with_reducible rfl
    simp only [qqa, qqb, qqc, Act.put, qqd, qqe, qqf]
    refine' wpAnyH_take (i := 11) rfl (by kernel_rfl) (by kernel_rfl) (by kernel_rfl) (fun _ _ _ h => h) (Or.inl ⟨by rfl, ?_⟩) hHeld ?_
    rotate_left
    · intro W hSw
      have u0 := Old.cell hSw v0
      have u1 := Old.cell hSw v1
      have u2 := Old.cell hSw v2
      have u3 := Old.cell hSw v3
      have u4 := Old.cell hSw v4
      have u5 := Old.cell hSw v5
      have u6 := Old.cell hSw v6
      have u7 := Old.cell hSw v7
      have u8 := Old.cell hSw v8
      clear hSw
      simp only [qqa, qqb, qqc]
      go_simp
      all_goals with_reducible rfl
    simp only [qqa, qqb, qqc, Act.put, qqd, qqe, qqf]
    refine' wpAnyH_take (i := 12) rfl (by kernel_rfl) (by kernel_rfl) (by kernel_rfl) (fun _ _ _ h => h) (Or.inl ⟨by rfl, ?_⟩) hHeld ?_
    rotate_left
    · intro W hSw
      have u0 := Old.cell hSw v0
      have u1 := Old.cell hSw v1
      have u2 := Old.cell hSw v2
      have u3 := Old.cell hSw v3
      have u4 := Old.cell hSw v4
      have u5 := Old.cell hSw v5
      have u6 := Old.cell hSw v6
      have u7 := Old.cell hSw v7
      have u8 := Old.cell hSw v8
      clear hSw
      simp only [qqa, qqb, qqc]
      go_simp
      all_goals with_reducible rfl
    simp only [qqa, qqb, qqc, Act.put, qqd, qqe, qqf]
    refine' wpAnyH_take (i := 13) rfl (by kernel_rfl) (by kernel_rfl) (by kernel_rfl) (fun _ _ _ h => h) (Or.inl ⟨by rfl, ?_⟩) hHeld ?_
    rotate_left
    · intro W hSw
      have u0 := Old.cell hSw v0
      have u1 := Old.cell hSw v1
      have u2 := Old.cell hSw v2
      have u3 := Old.cell hSw v3
      have u4 := Old.cell hSw v4
      have u5 := Old.cell hSw v5
      have u6 := Old.cell hSw v6
      have u7 := Old.cell hSw v7
      have u8 := Old.cell hSw v8
      clear hSw
      simp only [qqa, qqb, qqc]
      go_simp
      all_goals with_reducible rfl
    simp only [qqa, qqb, qqc, Act.put, qqd, qqe, qqf]
    refine' wpAnyH_take (i := 14) rfl (by kernel_rfl) (by kernel_rfl) (by kernel_rfl) (fun _ _ _ h => h) (Or.inl ⟨by rfl, ?_⟩) hHeld ?_
    rotate_left
    · intro W hSw
      have u0 := Old.cell hSw v0
      have u1 := Old.cell hSw v1
      have u2 := Old.cell hSw v2
      have u3 := Old.cell hSw v3
      have u4 := Old.cell hSw v4
      have u5 := Old.cell hSw v5
      have u6 := Old.cell hSw v6
      have u7 := Old.cell hSw v7
      have u8 := Old.cell hSw v8
      clear hSw
      simp only [qqa, qqb, qqc]
      go_simp
      all_goals with_reducible rfl
    simp only [qqa, qqb, qqc, Act.put, qqd, qqe, qqf]
    refine' wpAnyH_take (i := 15) rfl (by kernel_rfl) (by kernel_rfl) (by kernel_rfl) (fun _ _ _ h => h) (Or.inl ⟨by rfl, ?_⟩) hHeld ?_
    rotate_left
    · intro W hSw
      have u0 := Old.cell hSw v0
      have u1 := Old.cell hSw v1
      have u2 := Old.cell hSw v2
      have u3 := Old.cell hSw v3
      have u4 := Old.cell hSw v4
      have u5 := Old.cell hSw v5
      have u6 := Old.cell hSw v6
      have u7 := Old.cell hSw v7
      have u8 := Old.cell hSw v8
      clear hSw
      simp only [qqa, qqb, qqc]
      go_simp
      all_goals with_reducible rfl
    simp only [qqa, qqb, qqc, Act.put, qqd, qqe, qqf]
    refine' wpAnyH_take (i := 16) rfl (by kernel_rfl) (by kernel_rfl) (by kernel_rfl) (fun _ _ _ h => h) (Or.inl ⟨by rfl, ?_⟩) hHeld ?_
    rotate_left
    · intro W hSw
      have u0 := Old.cell hSw v0
      have u1 := Old.cell hSw v1
      have u2 := Old.cell hSw v2
      have u3 := Old.cell hSw v3
      have u4 := Old.cell hSw v4
      have u5 := Old.cell hSw v5
      have u6 := Old.cell hSw v6
      have u7 := Old.cell hSw v7
      have u8 := Old.cell hSw v8
      clear hSw
      simp only [qqa, qqb, qqc]
      go_simp
      all_goals with_reducible rfl
    simp only [qqa, qqb, qqc, Act.put, qqd, qqe, qqf]
    refine wpAnyH_done (by kernel_rfl) ?_ _
    refine OnlyN.normal ?_
    have kYV := hid (kY2.out.trans hHeld)
    have kS3 := hid (kS2.out.olds hHeld)
    clear hHeld v0 v1 v2 v3 v4 v5 v6 v7 v8 hq1 hq2 hq3 hq4 kS2 kY2
    have x0 := kS3.out.s.kk.cell
    have x1 := kS3.out.s.kk.frozen
    have x2 := kS3.out.s.turn.cell
    have hk9 : (k : Int) ≤ 1099511627776 := by have := kk.out.oka.len; have := kk.out.len; have := kn.out; omega
    have hfx := frm_set V0 kb 0 (.int .i64 ((k : Int) + 1))
    have y1 := (boxed_frm kS3.out.s.t.lea hfx (by have := kls.out; omega)).cell
    have y2 := (boxed_frm kS3.out.s.turn hfx (by omega)).cell
    have knx := hid (kS3.out.nextk kls.out hbt' h5 h6)
    have kkf : Hid (KeepsFrom WA.heap.size Y (V0.setCell ⟨kb, 0, none⟩ (.int .i64 ((k : Int) + 1)))) := (keeps_old kYV.out).trans (keeps_box _ (by omega))
    have kkm : Hid (KeptM (fun k => k = kb) am Y (V0.setCell ⟨kb, 0, none⟩ (.int .i64 ((k : Int) + 1)))) := (KeptM.old kYV.out).trans ⟨KeptC.of_frm hfx, fun hm => hfx.block am hm (by have := kAc.out.am.lt; omega)⟩
    clear hfx
    by_cases hlv : (k : Int) + 1 = leave
    · have hlb : ((k : Int) + 1 == leave) = true := by simpa using hlv
      have khl := hid hlv
      clear hlv
      gi_wp2_with fail
      exact ⟨kkf.out, rfl, k + 1, knx.out, by trivial, khl.out⟩
    · have hlb : ((k : Int) + 1 == leave) = false := by simpa using hlv
      clear hlv
      gi_wp2_with fail
      exact ⟨kkf.out, kkm.out, k + 1, by omega, knext.out, knx.out⟩
  case fin1 =>
    rintro q W hq ⟨k, h1, h2, h3⟩
    refine ⟨k, h3, Or.inl ?_⟩
    have := congrArg List.length (h2.symm.trans hq)
    rw [List.length_take, acL_len, kn.out] at this
    omega
  case fin2 =>
    rintro q W - ⟨k, h3, h4⟩
    exact ⟨k, h3, Or.inr h4⟩
  case hQ1 =>
    intro b W h
    exact inBlock_both (Or.inr rfl) h
  case end1 =>
    rintro D1 q WB hD1 ⟨k, hTM, hfin⟩ hK1
    have kK1 := hid hK1
    have kfk := hid hfin
    have kS0 : Hid (TM [D1] rb leave W2 s0 bt kb mb 0 k 0 WB) := ⟨hTM.s, fun r hr => by simp only [List.mem_cons, List.not_mem_nil, or_false] at hr; subst hr; exact hK1⟩
    clear hTM hfin hK1
    refine inBlock_both (Or.inl rfl) ?_
    dsimp only
    go_wp2_with fail
    have kLs : Hid (∀ r ∈ ([D1] : List Nat), r < WB.heap.size) := hid (fun r hr => (Array.getElem?_eq_some_iff.1 (kS0.out.ms r hr)).1)
    have hLd := hid (kh2.out.old kS0.out.s.t.oW)
    have hc1 := hid (kS0.out.s.t.oW.cell kp1.out)
    have hc2 := hid (kS0.out.s.t.oW.cell kp2.out)
    have hlp := hid (World.block_lt_of_cell? W2 _ kp2.out)
    have hxl : Hid (∀ k, x.all k → k < W2.heap.size) := hid (fun k hk => by have := hxa.out k hk; have := kls.out; omega)
    have e1 : mb < WB.heap.size := kS0.out.s.mm.lt
    have e2 : W2.heap.size ≤ WB.heap.size := by omega
    refine range_joinX (n := 5) (by omega) (gf := 66) (lb := #[.pointer (some ⟨p1, 0, none⟩), .pointer (some ⟨p2, 0, none⟩)]) rfl (enters_of Try.func66 (by kernel_rfl) rfl)
      (all2_X 4 (by omega) p1 p2 WB.heap.size x kk.out (by have := kN.out; omega) WB hLd.out hc1.out hc2.out (Nat.le_refl _))
      (fun y W l o o' hl h1 h2 hp => hp.put h1 h2) (fun h k a => k (h a)) (fun W l o o' hl h1 h2 => KpA.put (Nat.le_trans e2 hl) hlp.out hxl.out h1 h2) (fun _ => rfl) 4
      (fun q Y => ∃ m, m ≤ N ∧ psF q = (psL x.L x.P).take m ∧ TM [D1] rb leave W2 s0 bt kb mb 0 k m Y)
      (fun q Y => ∃ m : Nat, TM [D1] rb leave W2 s0 bt kb mb 0 k m Y ∧ ((0 : Int) = 0 ∧ (m : Int) = leave))
      (fun q Y => ∃ m : Nat, TM [D1] rb leave W2 s0 bt kb mb 0 k m Y ∧ FinJ 0 leave N m)
      (fun q A B ⟨m, h1, h2, h3⟩ hf => ⟨m, h1, h2, h3.far hf (fun b e => by omega) (fun r hr e => by have := kLs.out r hr; omega) kls.out hbt' h5 h6⟩)
      (fun q A B ⟨m, h3, h4⟩ hf => ⟨m, h3.far hf (fun b e => by omega) (fun r hr e => by have := kLs.out r hr; omega) kls.out hbt' h5 h6, h4⟩)
      ⟨0, Nat.zero_le _, by simp [psF], kS0.out⟩
      (fun y t => (((t.setIfInBounds 93 (.int .i64 (y.1 : Int))).setIfInBounds 94 (.slice (some ⟨y.2.1, 0, none⟩) y.2.2.length y.2.2.length)).setIfInBounds 18 (.int .i64 (y.1 : Int))).setIfInBounds 19 (.slice (some ⟨y.2.1, 0, none⟩) y.2.2.length y.2.2.length))
      ?assign1 ?body1 ?fin1 ?fin2 ?hQ1 ?end1
    case assign1 =>
      intro l y W K hK
      simp only [encP]
      simp only [List.setIfInBounds_toArray, List.set_cons_zero, List.set_cons_succ] at hK
      have kK := hid hK
      clear hK
      gi_wp2_with fail
      exact kK.out
    case body1 =>
      rintro l p y Y ⟨m, hm1, hp, hS⟩ ⟨m', hm', hpm⟩ ⟨hlo, hown⟩
      obtain ⟨hlt, hy1, hy2, hnext⟩ := psF_snoc (by rw [kN.out]; exact hm1) hm' hp hpm
      obtain ⟨y1, g, E⟩ := y
      dsimp only at hlo hown hy1 hy2 hnext ⊢
      subst hy1
      obtain ⟨nv, lv, qv, hb, ⟨no, nc, rfl, -⟩, -, ⟨po, pc, rfl, -, -, hpos⟩⟩ := kd2.out.old hS.s.t.oW
      have hltP : y1 < P.length := by rw [kPn.out, ← kN.out]; exact hlt
      obtain ⟨pg, pof, u, rfl, hu, ⟨ao, c, rfl, hes, -⟩⟩ := hpos y1 hltP
      have hPE : P[y1] = E := by
        have h1 : P[y1]? = some (entsOf x.L x.P[y1]) := by
          rw [kPl.out, List.getElem?_map, List.getElem?_eq_getElem hlt]
          rfl
        rw [List.getElem?_eq_getElem hltP] at h1
        rw [hy2, getD_get hlt]
        simpa using h1
      rw [hPE] at hu hes
      have hEl : E.length ≤ 1048576 := by
        rw [hy2]
        have := (kk.out.ps (x.P.getD y1 []) (by rw [getD_get hlt]; exact List.getElem_mem hlt)).len.2
        unfold entsOf
        rw [List.length_map]
        omega
      have ksm := hid (fun X (o : Old Y X) => dsameE_any (some ⟨g, 0, none⟩) ao E.length c E E X (hown.esc.old o) (hes.old o) hEl hEl)
      have kov := hid (fun X (o : Old Y X) => over_any g E.length E.length (flatS E).toArray X ((OwnS.frm hown o (fun h => h) : OwnS X g E)) (by simp [flatS_length]) hEl)
      rw [decide_eq_true (rfl : E = E)] at ksm
      have kS := hid hS
      have kown := hid hown
      have knext := hid hnext
      rw [kN.out] at hlt
      have v0 := hS.s.mm.cell
      have v1 := hS.s.t.r.cell
      have v2 : Y.cell? ⟨rb, 2, none⟩ = some (.slice (some ⟨pg, pof, none⟩) P.length pc) := blk_cells hb rfl
      rw [kPn.out] at v2
      have v3 := hu
      have hq1 : ((y1 : Int) != (y1 : Int)) = false := by simp
      have hq2 : decide (N ≤ y1) = false := by simp; omega
      have hmI : (y1 : Int) < (N : Int) := by omega
      have hm0 : (0 : Int) ≤ (y1 : Int) := by omega
      have hmg : mb < g := by omega
      clear hb hpos hu hes hown hy2 hPE hp hpm hnext hS hltP
      simp only [List.setIfInBounds_toArray, List.set_cons_zero, List.set_cons_succ]
      gi_wp2_with fail
      refine region_round (S := fun X => Old Y X) (by kernel_rfl) (by kernel_rfl) ((Old.refl Y).drewN 1) (fun hHeld => ?_)
      generalize Y.drew = V0 at *
      refine' wpAnyH_take (i := 0) rfl (by kernel_rfl) (by kernel_rfl) (by kernel_rfl) (fun _ _ _ h => h) (Or.inl ⟨by rfl, ?_⟩) hHeld ?_
      rotate_left
      · intro W hSw
        simp only [List.getElem_toArray, List.getElem_cons_zero]
        go_simp
        all_goals with_reducible rfl
      simp only [qqa, qqb, Act.put, qqd, qqe, qqf]
      refine' wpAnyH_take (i := 1) rfl (by kernel_rfl) (by kernel_rfl) (by kernel_rfl) (fun _ _ _ h => h) (Or.inl ⟨by rfl, ?_⟩) hHeld ?_
      rotate_left
      · intro W hSw
        have u0 := Old.cell hSw v0
        have u1 := Old.cell hSw v1
        have u2 := Old.cell hSw v2
        have u3 := Old.cell hSw v3
        clear hSw
        simp only [qqa, qqb, qqc]
        go_simp
        all_goals with_reducible rfl
      simp only [qqa, qqb, qqc, Act.put, qqd, qqe, qqf]
      refine' wpAnyH_take (i := 2) rfl (by kernel_rfl) (by kernel_rfl) (by kernel_rfl) (fun _ _ _ h => h) (Or.inl ⟨by rfl, ?_⟩) hHeld ?_
      rotate_left
      · intro W hSw
        have u0 := Old.cell hSw v0
        have u1 := Old.cell hSw v1
        have u2 := Old.cell hSw v2
        have u3 := Old.cell hSw v3
        clear hSw
        simp only [qqa, qqb, qqc]
        go_simp
        all_goals with_reducible rfl
      simp only [qqa, qqb, qqc, Act.put, qqd, qqe, qqf]
      refine' wpAnyH_take (i := 3) rfl (by kernel_rfl) (by kernel_rfl) (by kernel_rfl) (fun _ _ _ h => h) (Or.inl ⟨by rfl, ?_⟩) hHeld ?_
      rotate_left
      · intro W hSw
        have u0 := Old.cell hSw v0
        have u1 := Old.cell hSw v1
        have u2 := Old.cell hSw v2
        have u3 := Old.cell hSw v3
        clear hSw
        simp only [qqa, qqb, qqc]
        go_simp
        all_goals with_reducible rfl
      simp only [qqa, qqb, qqc, Act.put, qqd, qqe, qqf]
      refine' wpAnyH_take (i := 4) rfl (by kernel_rfl) (by kernel_rfl) (by kernel_rfl) (fun _ _ _ h => h) (Or.inl ⟨by rfl, ?_⟩) hHeld ?_
      rotate_left
      · intro W hSw
        have u0 := Old.cell hSw v0
        have u1 := Old.cell hSw v1
        have u2 := Old.cell hSw v2
        have u3 := Old.cell hSw v3
        clear hSw
        simp only [qqa, qqb, qqc]
        go_simp
        all_goals with_reducible rfl
      simp only [qqa, qqb, qqc, Act.put, qqd, qqe, qqf]
      refine' wpAnyH_take (i := 5) rfl (by kernel_rfl) (by kernel_rfl) (by kernel_rfl) (fun _ _ _ h => h) (Or.inl ⟨by rfl, ?_⟩) hHeld ?_
      rotate_left
      · intro W hSw
        have u0 := Old.cell hSw v0
        have u1 := Old.cell hSw v1
        have u2 := Old.cell hSw v2
        have u3 := Old.cell hSw v3
        clear hSw
        simp only [qqa, qqb, qqc]
        go_simp
        all_goals with_reducible rfl
      simp only [qqa, qqb, qqc, Act.put, qqd, qqe, qqf]
      refine' wpAnyH_take (i := 6) rfl (by kernel_rfl) (by kernel_rfl) (by kernel_rfl) (fun _ _ _ h => h) (Or.inl ⟨by rfl, ?_⟩) hHeld ?_
      rotate_left
      · intro W hSw
        have u0 := Old.cell hSw v0
        have u1 := Old.cell hSw v1
        have u2 := Old.cell hSw v2
        have u3 := Old.cell hSw v3
        clear hSw
        simp only [qqa, qqb, qqc]
        go_simp
        all_goals with_reducible rfl
      simp only [qqa, qqb, qqc, Act.put, qqd, qqe, qqf]
      refine' wpAnyH_take (i := 7) rfl (by kernel_rfl) (by kernel_rfl) (by kernel_rfl) (fun _ _ _ h => h) (Or.inl ⟨by rfl, ?_⟩) hHeld ?_
      rotate_left
      · intro W hSw
        have u0 := Old.cell hSw v0
        have u1 := Old.cell hSw v1
        have u2 := Old.cell hSw v2
        have u3 := Old.cell hSw v3
        clear hSw
        simp only [qqa, qqb, qqc]
        go_simp
        all_goals with_reducible rfl
      simp only [qqa, qqb, qqc, Act.put, qqd, qqe, qqf]
      refine' wpAnyH_take (i := 8) rfl (by kernel_rfl) (by kernel_rfl) (by kernel_rfl) (fun _ _ _ h => h) (Or.inl ⟨by rfl, ?_⟩) hHeld ?_
      rotate_left
      · intro W hSw
        have u0 := Old.cell hSw v0
        have u1 := Old.cell hSw v1
        have u2 := Old.cell hSw v2
        have u3 := Old.cell hSw v3
        clear hSw
        simp only [qqa, qqb, qqc]
        go_simp
        all_goals with_reducible rfl
      simp only [qqa, qqb, qqc, Act.put, qqd, qqe, qqf]
      refine' wpAnyH_take (i := 9) rfl (by kernel_rfl) (by kernel_rfl) (by kernel_rfl) (fun _ _ _ h => h) (Or.inl ⟨by rfl, ?_⟩) hHeld ?_
      rotate_left
      · intro W hSw
        have u0 := Old.cell hSw v0
        have u1 := Old.cell hSw v1
        have u2 := Old.cell hSw v2
        have u3 := Old.cell hSw v3
        clear hSw
        simp only [qqa, qqb, qqc]
        go_simp
        all_goals with_reducible rfl
      simp only [qqa, qqb, qqc, Act.put, qqd, qqe, qqf]
      refine' wpAnyH_take (i := 10) rfl (by kernel_rfl) (by kernel_rfl) (by kernel_rfl) (fun _ _ _ h => h) (Or.inl ⟨by rfl, ?_⟩) hHeld ?_
      rotate_left
      · intro W hSw
        have u0 := Old.cell hSw v0
        have u1 := Old.cell hSw v1
        have u2 := Old.cell hSw v2
        have u3 := Old.cell hSw v3
        clear hSw
        simp only [qqa, qqb, qqc]
        go_simp
        all_goals with_reducible rfl
      simp only [qqa, qqb, qqc, Act.put, qqd, qqe, qqf]
      refine' wpAnyH_take (i := 11) rfl (by kernel_rfl) (by kernel_rfl) (by kernel_rfl) (fun _ _ _ h => h) (Or.inl ⟨by rfl, ?_⟩) hHeld ?_
      rotate_left
      · intro W hSw
        have u0 := Old.cell hSw v0
        have u1 := Old.cell hSw v1
        have u2 := Old.cell hSw v2
        have u3 := Old.cell hSw v3
        clear hSw
        simp only [qqa, qqb, qqc]
        go_simp
        all_goals with_reducible rfl
      simp only [qqa, qqb, qqc, Act.put, qqd, qqe, qqf]
      refine' wpAnyH_take (i := 12) rfl (by kernel_rfl) (by kernel_rfl) (by kernel_rfl) (fun _ _ _ h => h) (Or.inl ⟨by rfl, ?_⟩) hHeld ?_
      rotate_left
      · intro W hSw
        have u0 := Old.cell hSw v0
        have u1 := Old.cell hSw v1
        have u2 := Old.cell hSw v2
        have u3 := Old.cell hSw v3
        clear hSw
        simp only [qqa, qqb, qqc]
        go_simp
        all_goals with_reducible rfl
      simp only [qqa, qqb, qqc, Act.put, qqd, qqe, qqf]
      refine' wpAnyH_take (i := 13) rfl (by kernel_rfl) (by kernel_rfl) (by kernel_rfl) (fun _ _ _ h => h) (Or.inl ⟨by rfl, ?_⟩) hHeld ?_
      rotate_left
      · intro W hSw
        have u0 := Old.cell hSw v0
        have u1 := Old.cell hSw v1
        have u2 := Old.cell hSw v2
        have u3 := Old.cell hSw v3
        clear hSw
        simp only [qqa, qqb, qqc]
        go_simp
        all_goals with_reducible rfl
      simp only [qqa, qqb, qqc, Act.put, qqd, qqe, qqf]
      refine' wpAnyH_take (i := 14) rfl (by kernel_rfl) (by kernel_rfl) (by kernel_rfl) (fun _ _ _ h => h) (Or.inl ⟨by rfl, ?_⟩) hHeld ?_
      rotate_left
      · intro W hSw
        have u0 := Old.cell hSw v0
        have u1 := Old.cell hSw v1
        have u2 := Old.cell hSw v2
        have u3 := Old.cell hSw v3
        clear hSw
        simp only [qqa, qqb, qqc]
        go_simp
        all_goals with_reducible rfl
      simp only [qqa, qqb, qqc, Act.put, qqd, qqe, qqf]
      refine' wpAnyH_take (i := 15) rfl (by kernel_rfl) (by kernel_rfl) (by kernel_rfl) (fun _ _ _ h => h) (Or.inl ⟨by rfl, ?_⟩) hHeld ?_
      rotate_left
      · intro W hSw
        have u0 := Old.cell hSw v0
        have u1 := Old.cell hSw v1
        have u2 := Old.cell hSw v2
        have u3 := Old.cell hSw v3
        clear hSw
        simp only [qqa, qqb, qqc]
        go_simp
        all_goals with_reducible rfl
      simp only [qqa, qqb, qqc, Act.put, qqd, qqe, qqf]
      refine' wpAnyH_take (i := 16) rfl (by kernel_rfl) (by kernel_rfl) (by kernel_rfl) (fun _ _ _ h => h) (Or.inl ⟨by rfl, ?_⟩) hHeld ?_
      rotate_left
      · intro W hSw
        have u0 := Old.cell hSw v0
        have u1 := Old.cell hSw v1
        have u2 := Old.cell hSw v2
        have u3 := Old.cell hSw v3
        clear hSw
        simp only [qqa, qqb, qqc]
        go_simp
        all_goals with_reducible rfl
      simp only [qqa, qqb, qqc, Act.put, qqd, qqe, qqf]
      refine' wpAnyH_take (i := 17) rfl (by kernel_rfl) (by kernel_rfl) (by kernel_rfl) (fun _ _ _ h => h) (Or.inl ⟨by rfl, ?_⟩) hHeld ?_
      rotate_left
      · intro W hSw
        have u0 := Old.cell hSw v0
        have u1 := Old.cell hSw v1
        have u2 := Old.cell hSw v2
        have u3 := Old.cell hSw v3
        clear hSw
        simp only [qqa, qqb, qqc]
        go_simp
        all_goals with_reducible rfl
      simp only [qqa, qqb, qqc, Act.put, qqd, qqe, qqf]
      refine' wpAnyH_take (i := 18) rfl (by kernel_rfl) (by kernel_rfl) (by kernel_rfl) (fun _ _ _ h => h) (Or.inl ⟨by rfl, ?_⟩) hHeld ?_
      rotate_left
      · intro W hSw
        have u0 := Old.cell hSw v0
        have u1 := Old.cell hSw v1
        have u2 := Old.cell hSw v2
        have u3 := Old.cell hSw v3
        clear hSw
        simp only [qqa, qqb, qqc]
        go_simp
        all_goals with_reducible rfl
      simp only [qqa, qqb, qqc, Act.put, qqd, qqe, qqf]
      refine' wpAnyH_take (i := 19) rfl (by kernel_rfl) (by kernel_rfl) (by kernel_rfl) (fun _ _ _ h => h) (Or.inl ⟨by rfl, ?_⟩) hHeld ?_
      rotate_left
      · intro W hSw
        have u0 := Old.cell hSw v0
        have u1 := Old.cell hSw v1
        have u2 := Old.cell hSw v2
        have u3 := Old.cell hSw v3
        clear hSw
        simp only [qqa, qqb, qqc]
        go_simp
        all_goals with_reducible rfl
      simp only [qqa, qqb, qqc, Act.put, qqd, qqe, qqf]
      refine' wpAnyH_take (i := 20) rfl (by kernel_rfl) (by kernel_rfl) (by kernel_rfl) (fun _ _ _ h => h) (Or.inl ⟨by rfl, ?_⟩) hHeld ?_
      rotate_left
      · intro W hSw
        have u0 := Old.cell hSw v0
        have u1 := Old.cell hSw v1
        have u2 := Old.cell hSw v2
        have u3 := Old.cell hSw v3
        clear hSw
        simp only [qqa, qqb, qqc]
        go_simp
        all_goals with_reducible rfl
      simp only [qqa, qqb, qqc, Act.put, qqd, qqe, qqf]
      refine wpAnyH_ready (rs := [21]) (by kernel_rfl) (by simp) ?_
      refine AllReadyH.cons (o := _) rfl (fun K hK => ?_) AllReadyH.nil
      simp only [qqa, qqb, qqc]
      go_simp
      refine (ksm.out V0 hHeld).mono ?_
      rintro e V1 ⟨rfl, dn, ed⟩
      have o : Old V0 V1 := by rw [ed]; exact (Old.refl V0).drewN dn
      clear ed
      have hHeld2 := hHeld.trans o
      refine hK.out _ _ hHeld2 (fun _ => ?_)
      clear hK K hHeld o
      have hHeld := hHeld2
      clear hHeld2
      try simp only [Act.put, qqd, qqe, qqf]
      refine' wpAnyH_take (i := 22) rfl (by kernel_rfl) (by kernel_rfl) (by kernel_rfl) (fun _ _ _ h => h) (Or.inl ⟨by rfl, ?_⟩) hHeld ?_
      rotate_left
      · intro W hSw
        have u0 := Old.cell hSw v0
        have u1 := Old.cell hSw v1
        have u2 := Old.cell hSw v2
        have u3 := Old.cell hSw v3
        clear hSw
        simp only [qqa, qqb, qqc]
        go_simp
        all_goals with_reducible rfl
      simp only [qqa, qqb, qqc, Act.put, qqd, qqe, qqf]
      refine' wpAnyH_take (i := 23) rfl (by kernel_rfl) (by kernel_rfl) (by kernel_rfl) (fun _ _ _ h => h) (Or.inl ⟨by rfl, ?_⟩) hHeld ?_
      rotate_left
      · intro W hSw
        have u0 := Old.cell hSw v0
        have u1 := Old.cell hSw v1
        have u2 := Old.cell hSw v2
        have u3 := Old.cell hSw v3
        clear hSw
        simp only [qqa, qqb, qqc]
        go_simp
        all_goals with_reducible rfl
      simp only [qqa, qqb, qqc, Act.put, qqd, qqe, qqf]
      refine wpAnyH_done (by kernel_rfl) ?_ _
      refine OnlyN.normal ?_
      have kYV := hid hHeld
      clear hHeld v0 v1 v2 v3 hq1 hq2 hmI hm0 ksm
      gi_wp2_with fail
      refine ⟨trivial, ?_⟩
      refine (CallsIn.inRound l (callsIn_wide.2 (kov.out V1 kYV.out))).mono ?_
      rintro e V2 ⟨rfl, hov⟩
      have ko1 := hid (OwnS.frm kown.out kYV.out (fun h => h))
      have kS2 := hid ((kS.out.olds kYV.out).over hov ko1.out hmg kls.out hbt' h5 h6)
      have kf2 : Hid (KeepsFrom WB.heap.size Y V2) := (keeps_old kYV.out).trans (keeps_over ko1.out hov)
      have kp2' : Hid (KpA x p2 WB.heap.size Y V2) := hid (fun a => KpA.overs ko1.out hov (Nat.le_trans e2 hlo) hlp.out hxl.out (KpA.old kYV.out a))
      clear hov kov kS ko1
      have x0 := kS2.out.s.mm.cell
      have x1 := kS2.out.s.mm.frozen
      have x2 := kS2.out.s.turn.cell
      have hk9 : (y1 : Int) ≤ 1099511627776 := by have := kN.out; omega
      have hfx := frm_set V2 mb 0 (.int .i64 ((y1 : Int) + 1))
      have z1 := (boxed_frm kS2.out.s.t.lea hfx (by have := kls.out; omega)).cell
      have z2 := (boxed_frm kS2.out.s.turn hfx (by omega)).cell
      have knx := hid (kS2.out.nextm kls.out hbt' h5 h6)
      have kkf : Hid (KeepsFrom WB.heap.size Y (V2.setCell ⟨mb, 0, none⟩ (.int .i64 ((y1 : Int) + 1)))) := kf2.out.trans (keeps_box _ e1)
      have kkp : Hid (KpA x p2 WB.heap.size Y (V2.setCell ⟨mb, 0, none⟩ (.int .i64 ((y1 : Int) + 1)))) := hid (fun a => KpA.box _ kS2.out.s.mm (by decide) (by omega) hlp.out hxl.out (kp2'.out a))
      clear hfx
      by_cases hlv : (y1 : Int) + 1 = leave
      · have hlb : ((y1 : Int) + 1 == leave) = true := by simpa using hlv
        have khl := hid hlv
        clear hlv
        gi_wp2_with fail
        exact ⟨kkf.out, rfl, y1 + 1, knx.out, by trivial, khl.out⟩
      · have hlb : ((y1 : Int) + 1 == leave) = false := by simpa using hlv
        clear hlv
        gi_wp2_with fail
        exact ⟨kkf.out, kkp.out, y1 + 1, by omega, knext.out, knx.out⟩
    case fin1 =>
      rintro q W hq ⟨m, h1, h2, h3⟩
      refine ⟨m, h3, Or.inl ?_⟩
      have := congrArg List.length (h2.symm.trans hq)
      rw [List.length_take, psL_len, kN.out] at this
      omega
    case fin2 =>
      rintro q W - ⟨m, h3, h4⟩
      exact ⟨m, h3, Or.inr h4⟩
    case hQ1 =>
      intro b W h
      exact inBlock_both (Or.inr rfl) h
    case end1 =>
      rintro D2 q WC hD2 ⟨m, hTM, hfin⟩ hK2
      have hd21 : D1 < D2 := Nat.lt_of_lt_of_le (kLs.out D1 (by simp)) hD2
      have kfm := hid hfin
      have kSC : Hid (TM (D2 :: [D1]) rb leave W2 s0 bt kb mb 0 k m WC) := ⟨hTM.s, fun r hr => by
        rcases List.mem_cons.1 hr with rfl | hr
        · exact hK2
        · exact hTM.ms r hr⟩
      clear hTM hfin hK2
      refine inBlock_both (Or.inl rfl) ?_
      dsimp only
      obtain ⟨nv, lv, qv, hb, ⟨no, nc, rfl, -⟩, -, ⟨po, pc, rfl, -⟩⟩ := kd2.out.old kSC.out.s.t.oW
      have v0 := kSC.out.s.turn.cell
      have v1 := kSC.out.s.kk.cell
      have v2 := kSC.out.s.t.r.cell
      have v3 : WC.cell? ⟨rb, 0, none⟩ = some (.slice no x.L.length nc) := blk_cells hb rfl
      rw [kn.out] at v3
      have v4 := kSC.out.s.mm.cell
      have v5 : WC.cell? ⟨rb, 2, none⟩ = some (.slice po P.length pc) := blk_cells hb rfl
      rw [kPn.out] at v5
      have v6 := kSC.out.s.t.lea.cell
      clear hb
      go_wp2_with fail
      refine region_midZ [130, 131, 132, 133, 134, 135, 136, 137, 138, 139, 140, 141, 142, 143, 144, 145, 146, 147, 148, 149, 150, 151, 152, 153, 154, 155, 156, 157, 158, 159, 160, 161, 162, 163, 164, 165, 166, 167, 168, 169, 170, 171, 172, 173, 174, 175, 176, 177, 178, 179, 180, 181] (fun z w' => z 181 = .bool false ∧ Old WC w') ?h25 ?h26
      case h25 =>
        by_cases hkn : k = n
        · have hkq : ((k : Int) != (n : Int)) = false := by simp [hkn]
          by_cases hmn : m = N
          · have hmq : ((m : Int) != (N : Int)) = false := by simp [hmn]
            refine wp_region_noPanic ?_
            refine wp_region_held_drew (S := fun X => Old WC X) (by kernel_rfl) ((Old.refl WC).drewN 1) (fun hHeld => ?_)
            generalize WC.drew = V0 at *
            refine' wpAnyH_take (i := 0) rfl (by kernel_rfl) (by kernel_rfl) (by kernel_rfl) (fun _ _ _ h => h) (Or.inl ⟨by rfl, ?_⟩) hHeld ?_
            rotate_left
            · intro W hSw
              have u0 := Old.cell hSw v0
              clear hSw
              simp only [List.getElem_toArray, List.getElem_cons_zero]
              go_simp
              all_goals with_reducible rfl
            simp only [qqa, qqb, Act.put, qqd, qqe, qqf]
            refine' wpAnyH_take (i := 1) rfl (by kernel_rfl) (by kernel_rfl) (by kernel_rfl) (fun _ _ _ h => h) (Or.inl ⟨by rfl, ?_⟩) hHeld ?_
            rotate_left
            · intro W hSw
              have u0 := Old.cell hSw v0
              have u1 := Old.cell hSw v1
              have u2 := Old.cell hSw v2
              have u3 := Old.cell hSw v3
              have u4 := Old.cell hSw v4
              have u5 := Old.cell hSw v5
              have u6 := Old.cell hSw v6
              clear hSw
              simp only [qqa, qqb, qqc]
              go_simp
              all_goals with_reducible rfl
            simp only [qqa, qqb, qqc, Act.put, qqd, qqe, qqf]
            refine' wpAnyH_take (i := 2) rfl (by kernel_rfl) (by kernel_rfl) (by kernel_rfl) (fun _ _ _ h => h) (Or.inl ⟨by rfl, ?_⟩) hHeld ?_
            rotate_left
            · intro W hSw
              have u0 := Old.cell hSw v0
              have u1 := Old.cell hSw v1
              have u2 := Old.cell hSw v2
              have u3 := Old.cell hSw v3
              have u4 := Old.cell hSw v4
              have u5 := Old.cell hSw v5
              have u6 := Old.cell hSw v6
              clear hSw
              simp only [qqa, qqb, qqc]
              go_simp
              all_goals with_reducible rfl
            simp only [qqa, qqb, qqc, Act.put, qqd, qqe, qqf]
            refine' wpAnyH_take (i := 3) rfl (by kernel_rfl) (by kernel_rfl) (by kernel_rfl) (fun _ _ _ h => h) (Or.inr ⟨by rfl, rfl⟩) hHeld ?_
            simp only [qqa, qqb, qqc, Act.put, qqd, qqe, qqf]
            refine' wpAnyH_take (i := 4) rfl (by kernel_rfl) (by kernel_rfl) (by kernel_rfl) (fun _ _ _ h => h) (Or.inr ⟨by rfl, rfl⟩) hHeld ?_
            simp only [qqa, qqb, qqc, Act.put, qqd, qqe, qqf]
            refine' wpAnyH_take (i := 5) rfl (by kernel_rfl) (by kernel_rfl) (by kernel_rfl) (fun _ _ _ h => h) (Or.inr ⟨by rfl, rfl⟩) hHeld ?_
            simp only [qqa, qqb, qqc, Act.put, qqd, qqe, qqf]
            refine' wpAnyH_take (i := 6) rfl (by kernel_rfl) (by kernel_rfl) (by kernel_rfl) (fun _ _ _ h => h) (Or.inr ⟨by rfl, rfl⟩) hHeld ?_
            simp only [qqa, qqb, qqc, Act.put, qqd, qqe, qqf]
            refine' wpAnyH_take (i := 7) rfl (by kernel_rfl) (by kernel_rfl) (by kernel_rfl) (fun _ _ _ h => h) (Or.inr ⟨by rfl, rfl⟩) hHeld ?_
            simp only [qqa, qqb, qqc, Act.put, qqd, qqe, qqf]
            refine' wpAnyH_take (i := 8) rfl (by kernel_rfl) (by kernel_rfl) (by kernel_rfl) (fun _ _ _ h => h) (Or.inr ⟨by rfl, rfl⟩) hHeld ?_
            simp only [qqa, qqb, qqc, Act.put, qqd, qqe, qqf]
            refine' wpAnyH_take (i := 9) rfl (by kernel_rfl) (by kernel_rfl) (by kernel_rfl) (fun _ _ _ h => h) (Or.inr ⟨by rfl, rfl⟩) hHeld ?_
            simp only [qqa, qqb, qqc, Act.put, qqd, qqe, qqf]
            refine' wpAnyH_take (i := 10) rfl (by kernel_rfl) (by kernel_rfl) (by kernel_rfl) (fun _ _ _ h => h) (Or.inr ⟨by rfl, rfl⟩) hHeld ?_
            simp only [qqa, qqb, qqc, Act.put, qqd, qqe, qqf]
            refine' wpAnyH_take (i := 11) rfl (by kernel_rfl) (by kernel_rfl) (by kernel_rfl) (fun _ _ _ h => h) (Or.inr ⟨by rfl, rfl⟩) hHeld ?_
            simp only [qqa, qqb, qqc, Act.put, qqd, qqe, qqf]
            refine' wpAnyH_take (i := 12) rfl (by kernel_rfl) (by kernel_rfl) (by kernel_rfl) (fun _ _ _ h => h) (Or.inr ⟨by rfl, rfl⟩) hHeld ?_
            simp only [qqa, qqb, qqc, Act.put, qqd, qqe, qqf]
            refine' wpAnyH_take (i := 13) rfl (by kernel_rfl) (by kernel_rfl) (by kernel_rfl) (fun _ _ _ h => h) (Or.inr ⟨by rfl, rfl⟩) hHeld ?_
            simp only [qqa, qqb, qqc, Act.put, qqd, qqe, qqf]
            refine' wpAnyH_take (i := 14) rfl (by kernel_rfl) (by kernel_rfl) (by kernel_rfl) (fun _ _ _ h => h) (Or.inr ⟨by rfl, rfl⟩) hHeld ?_
            simp only [qqa, qqb, qqc, Act.put, qqd, qqe, qqf]
            refine' wpAnyH_take (i := 15) rfl (by kernel_rfl) (by kernel_rfl) (by kernel_rfl) (fun _ _ _ h => h) (Or.inr ⟨by rfl, rfl⟩) hHeld ?_
            simp only [qqa, qqb, qqc, Act.put, qqd, qqe, qqf]
            refine' wpAnyH_take (i := 16) rfl (by kernel_rfl) (by kernel_rfl) (by kernel_rfl) (fun _ _ _ h => h) (Or.inr ⟨by rfl, rfl⟩) hHeld ?_
            simp only [qqa, qqb, qqc, Act.put, qqd, qqe, qqf]
            refine' wpAnyH_take (i := 17) rfl (by kernel_rfl) (by kernel_rfl) (by kernel_rfl) (fun _ _ _ h => h) (Or.inr ⟨by rfl, rfl⟩) hHeld ?_
            simp only [qqa, qqb, qqc, Act.put, qqd, qqe, qqf]
            refine' wpAnyH_take (i := 18) rfl (by kernel_rfl) (by kernel_rfl) (by kernel_rfl) (fun _ _ _ h => h) (Or.inr ⟨by rfl, rfl⟩) hHeld ?_
            simp only [qqa, qqb, qqc, Act.put, qqd, qqe, qqf]
            refine' wpAnyH_take (i := 19) rfl (by kernel_rfl) (by kernel_rfl) (by kernel_rfl) (fun _ _ _ h => h) (Or.inl ⟨by rfl, ?_⟩) hHeld ?_
            rotate_left
            · intro W hSw
              have u0 := Old.cell hSw v0
              have u1 := Old.cell hSw v1
              have u2 := Old.cell hSw v2
              have u3 := Old.cell hSw v3
              have u4 := Old.cell hSw v4
              have u5 := Old.cell hSw v5
              have u6 := Old.cell hSw v6
              clear hSw
              simp only [qqa, qqb, qqc]
              go_simp
              all_goals with_reducible rfl
            simp only [qqa, qqb, qqc, Act.put, qqd, qqe, qqf]
            refine' wpAnyH_take (i := 20) rfl (by kernel_rfl) (by kernel_rfl) (by kernel_rfl) (fun _ _ _ h => h) (Or.inl ⟨by rfl, ?_⟩) hHeld ?_
            rotate_left
            · intro W hSw
              have u0 := Old.cell hSw v0
              have u1 := Old.cell hSw v1
              have u2 := Old.cell hSw v2
              have u3 := Old.cell hSw v3
              have u4 := Old.cell hSw v4
              have u5 := Old.cell hSw v5
              have u6 := Old.cell hSw v6
              clear hSw
              simp only [qqa, qqb, qqc]
              go_simp
              all_goals with_reducible rfl
            simp only [qqa, qqb, qqc, Act.put, qqd, qqe, qqf]
            refine' wpAnyH_take (i := 21) rfl (by kernel_rfl) (by kernel_rfl) (by kernel_rfl) (fun _ _ _ h => h) (Or.inl ⟨by rfl, ?_⟩) hHeld ?_
            rotate_left
            · intro W hSw
              have u0 := Old.cell hSw v0
              have u1 := Old.cell hSw v1
              have u2 := Old.cell hSw v2
              have u3 := Old.cell hSw v3
              have u4 := Old.cell hSw v4
              have u5 := Old.cell hSw v5
              have u6 := Old.cell hSw v6
              clear hSw
              simp only [qqa, qqb, qqc]
              go_simp
              all_goals with_reducible rfl
            simp only [qqa, qqb, qqc, Act.put, qqd, qqe, qqf]
            refine' wpAnyH_take (i := 22) rfl (by kernel_rfl) (by kernel_rfl) (by kernel_rfl) (fun _ _ _ h => h) (Or.inl ⟨by rfl, ?_⟩) hHeld ?_
            rotate_left
            · intro W hSw
              have u0 := Old.cell hSw v0
              have u1 := Old.cell hSw v1
              have u2 := Old.cell hSw v2
              have u3 := Old.cell hSw v3
              have u4 := Old.cell hSw v4
              have u5 := Old.cell hSw v5
              have u6 := Old.cell hSw v6
              clear hSw
              simp only [qqa, qqb, qqc]
              go_simp
              all_goals with_reducible rfl
            simp only [qqa, qqb, qqc, Act.put, qqd, qqe, qqf]
            refine' wpAnyH_take (i := 23) rfl (by kernel_rfl) (by kernel_rfl) (by kernel_rfl) (fun _ _ _ h => h) (Or.inl ⟨by rfl, ?_⟩) hHeld ?_
            rotate_left
            · intro W hSw
              have u0 := Old.cell hSw v0
              have u1 := Old.cell hSw v1
              have u2 := Old.cell hSw v2
              have u3 := Old.cell hSw v3
              have u4 := Old.cell hSw v4
              have u5 := Old.cell hSw v5
              have u6 := Old.cell hSw v6
              clear hSw
              simp only [qqa, qqb, qqc]
              go_simp
              all_goals with_reducible rfl
            simp only [qqa, qqb, qqc, Act.put, qqd, qqe, qqf]
            refine' wpAnyH_take (i := 24) rfl (by kernel_rfl) (by kernel_rfl) (by kernel_rfl) (fun _ _ _ h => h) (Or.inl ⟨by rfl, ?_⟩) hHeld ?_
            rotate_left
            · intro W hSw
              have u0 := Old.cell hSw v0
              have u1 := Old.cell hSw v1
              have u2 := Old.cell hSw v2
              have u3 := Old.cell hSw v3
              have u4 := Old.cell hSw v4
              have u5 := Old.cell hSw v5
              have u6 := Old.cell hSw v6
              clear hSw
              simp only [qqa, qqb, qqc]
              go_simp
              all_goals with_reducible rfl
            simp only [qqa, qqb, qqc, Act.put, qqd, qqe, qqf]
            refine' wpAnyH_take (i := 25) rfl (by kernel_rfl) (by kernel_rfl) (by kernel_rfl) (fun _ _ _ h => h) (Or.inl ⟨by rfl, ?_⟩) hHeld ?_
            rotate_left
            · intro W hSw
              have u0 := Old.cell hSw v0
              have u1 := Old.cell hSw v1
              have u2 := Old.cell hSw v2
              have u3 := Old.cell hSw v3
              have u4 := Old.cell hSw v4
              have u5 := Old.cell hSw v5
              have u6 := Old.cell hSw v6
              clear hSw
              simp only [qqa, qqb, qqc]
              go_simp
              all_goals with_reducible rfl
            simp only [qqa, qqb, qqc, Act.put, qqd, qqe, qqf]
            refine' wpAnyH_take (i := 26) rfl (by kernel_rfl) (by kernel_rfl) (by kernel_rfl) (fun _ _ _ h => h) (Or.inl ⟨by rfl, ?_⟩) hHeld ?_
            rotate_left
            · intro W hSw
              have u0 := Old.cell hSw v0
              have u1 := Old.cell hSw v1
              have u2 := Old.cell hSw v2
              have u3 := Old.cell hSw v3
              have u4 := Old.cell hSw v4
              have u5 := Old.cell hSw v5
              have u6 := Old.cell hSw v6
              clear hSw
              simp only [qqa, qqb, qqc]
              go_simp
              all_goals with_reducible rfl
            simp only [qqa, qqb, qqc, Act.put, qqd, qqe, qqf]
            refine' wpAnyH_take (i := 27) rfl (by kernel_rfl) (by kernel_rfl) (by kernel_rfl) (fun _ _ _ h => h) (Or.inl ⟨by rfl, ?_⟩) hHeld ?_
            rotate_left
            · intro W hSw
              have u0 := Old.cell hSw v0
              have u1 := Old.cell hSw v1
              have u2 := Old.cell hSw v2
              have u3 := Old.cell hSw v3
              have u4 := Old.cell hSw v4
              have u5 := Old.cell hSw v5
              have u6 := Old.cell hSw v6
              clear hSw
              simp only [qqa, qqb, qqc]
              go_simp
              all_goals with_reducible rfl
            simp only [qqa, qqb, qqc, Act.put, qqd, qqe, qqf]
            refine' wpAnyH_take (i := 28) rfl (by kernel_rfl) (by kernel_rfl) (by kernel_rfl) (fun _ _ _ h => h) (Or.inl ⟨by rfl, ?_⟩) hHeld ?_
            rotate_left
            · intro W hSw
              have u0 := Old.cell hSw v0
              have u1 := Old.cell hSw v1
              have u2 := Old.cell hSw v2
              have u3 := Old.cell hSw v3
              have u4 := Old.cell hSw v4
              have u5 := Old.cell hSw v5
              have u6 := Old.cell hSw v6
              clear hSw
              simp only [qqa, qqb, qqc]
              go_simp
              all_goals with_reducible rfl
            simp only [qqa, qqb, qqc, Act.put, qqd, qqe, qqf]
            refine' wpAnyH_take (i := 29) rfl (by kernel_rfl) (by kernel_rfl) (by kernel_rfl) (fun _ _ _ h => h) (Or.inl ⟨by rfl, ?_⟩) hHeld ?_
            rotate_left
            · intro W hSw
              have u0 := Old.cell hSw v0
              have u1 := Old.cell hSw v1
              have u2 := Old.cell hSw v2
              have u3 := Old.cell hSw v3
              have u4 := Old.cell hSw v4
              have u5 := Old.cell hSw v5
              have u6 := Old.cell hSw v6
              clear hSw
              simp only [qqa, qqb, qqc]
              go_simp
              all_goals with_reducible rfl
            simp only [qqa, qqb, qqc, Act.put, qqd, qqe, qqf]
            refine' wpAnyH_take (i := 30) rfl (by kernel_rfl) (by kernel_rfl) (by kernel_rfl) (fun _ _ _ h => h) (Or.inl ⟨by rfl, ?_⟩) hHeld ?_
            rotate_left
            · intro W hSw
              have u0 := Old.cell hSw v0
              have u1 := Old.cell hSw v1
              have u2 := Old.cell hSw v2
              have u3 := Old.cell hSw v3
              have u4 := Old.cell hSw v4
              have u5 := Old.cell hSw v5
              have u6 := Old.cell hSw v6
              clear hSw
              simp only [qqa, qqb, qqc]
              go_simp
              all_goals with_reducible rfl
            simp only [qqa, qqb, qqc, Act.put, qqd, qqe, qqf]
            refine' wpAnyH_take (i := 31) rfl (by kernel_rfl) (by kernel_rfl) (by kernel_rfl) (fun _ _ _ h => h) (Or.inl ⟨by rfl, ?_⟩) hHeld ?_
            rotate_left
            · intro W hSw
              have u0 := Old.cell hSw v0
              have u1 := Old.cell hSw v1
              have u2 := Old.cell hSw v2
              have u3 := Old.cell hSw v3
              have u4 := Old.cell hSw v4
              have u5 := Old.cell hSw v5
              have u6 := Old.cell hSw v6
              clear hSw
              simp only [qqa, qqb, qqc]
              go_simp
              all_goals with_reducible rfl
            simp only [qqa, qqb, qqc, Act.put, qqd, qqe, qqf]
            refine' wpAnyH_take (i := 32) rfl (by kernel_rfl) (by kernel_rfl) (by kernel_rfl) (fun _ _ _ h => h) (Or.inr ⟨by rfl, rfl⟩) hHeld ?_
            simp only [qqa, qqb, qqc, Act.put, qqd, qqe, qqf]
            refine' wpAnyH_take (i := 33) rfl (by kernel_rfl) (by kernel_rfl) (by kernel_rfl) (fun _ _ _ h => h) (Or.inr ⟨by rfl, rfl⟩) hHeld ?_
            simp only [qqa, qqb, qqc, Act.put, qqd, qqe, qqf]
            refine' wpAnyH_take (i := 34) rfl (by kernel_rfl) (by kernel_rfl) (by kernel_rfl) (fun _ _ _ h => h) (Or.inr ⟨by rfl, rfl⟩) hHeld ?_
            simp only [qqa, qqb, qqc, Act.put, qqd, qqe, qqf]
            refine' wpAnyH_take (i := 35) rfl (by kernel_rfl) (by kernel_rfl) (by kernel_rfl) (fun _ _ _ h => h) (Or.inl ⟨by rfl, ?_⟩) hHeld ?_
            rotate_left
            · intro W hSw
              have u0 := Old.cell hSw v0
              have u1 := Old.cell hSw v1
              have u2 := Old.cell hSw v2
              have u3 := Old.cell hSw v3
              have u4 := Old.cell hSw v4
              have u5 := Old.cell hSw v5
              have u6 := Old.cell hSw v6
              clear hSw
              simp only [qqa, qqb, qqc]
              go_simp
              all_goals with_reducible rfl
            simp only [qqa, qqb, qqc, Act.put, qqd, qqe, qqf]
            refine' wpAnyH_take (i := 36) rfl (by kernel_rfl) (by kernel_rfl) (by kernel_rfl) (fun _ _ _ h => h) (Or.inl ⟨by rfl, ?_⟩) hHeld ?_
            rotate_left
            · intro W hSw
              have u0 := Old.cell hSw v0
              have u1 := Old.cell hSw v1
              have u2 := Old.cell hSw v2
              have u3 := Old.cell hSw v3
              have u4 := Old.cell hSw v4
              have u5 := Old.cell hSw v5
              have u6 := Old.cell hSw v6
              clear hSw
              simp only [qqa, qqb, qqc]
              go_simp
              all_goals with_reducible rfl
            simp only [qqa, qqb, qqc, Act.put, qqd, qqe, qqf]
            refine' wpAnyH_take (i := 37) rfl (by kernel_rfl) (by kernel_rfl) (by kernel_rfl) (fun _ _ _ h => h) (Or.inl ⟨by rfl, ?_⟩) hHeld ?_
            rotate_left
            · intro W hSw
              have u0 := Old.cell hSw v0
              have u1 := Old.cell hSw v1
              have u2 := Old.cell hSw v2
              have u3 := Old.cell hSw v3
              have u4 := Old.cell hSw v4
              have u5 := Old.cell hSw v5
              have u6 := Old.cell hSw v6
              clear hSw
              simp only [qqa, qqb, qqc]
              go_simp
              all_goals with_reducible rfl
            simp only [qqa, qqb, qqc, Act.put, qqd, qqe, qqf]
            refine' wpAnyH_take (i := 38) rfl (by kernel_rfl) (by kernel_rfl) (by kernel_rfl) (fun _ _ _ h => h) (Or.inl ⟨by rfl, ?_⟩) hHeld ?_
            rotate_left
            · intro W hSw
              have u0 := Old.cell hSw v0
              have u1 := Old.cell hSw v1
              have u2 := Old.cell hSw v2
              have u3 := Old.cell hSw v3
              have u4 := Old.cell hSw v4
              have u5 := Old.cell hSw v5
              have u6 := Old.cell hSw v6
              clear hSw
              simp only [qqa, qqb, qqc]
              go_simp
              all_goals with_reducible rfl
            simp only [qqa, qqb, qqc, Act.put, qqd, qqe, qqf]
            refine' wpAnyH_take (i := 39) rfl (by kernel_rfl) (by kernel_rfl) (by kernel_rfl) (fun _ _ _ h => h) (Or.inl ⟨by rfl, ?_⟩) hHeld ?_
            rotate_left
            · intro W hSw
              have u0 := Old.cell hSw v0
              have u1 := Old.cell hSw v1
              have u2 := Old.cell hSw v2
              have u3 := Old.cell hSw v3
              have u4 := Old.cell hSw v4
              have u5 := Old.cell hSw v5
              have u6 := Old.cell hSw v6
              clear hSw
              simp only [qqa, qqb, qqc]
              go_simp
              all_goals with_reducible rfl
            simp only [qqa, qqb, qqc, Act.put, qqd, qqe, qqf]
            refine' wpAnyH_take (i := 40) rfl (by kernel_rfl) (by kernel_rfl) (by kernel_rfl) (fun _ _ _ h => h) (Or.inl ⟨by rfl, ?_⟩) hHeld ?_
            rotate_left
            · intro W hSw
              have u0 := Old.cell hSw v0
              have u1 := Old.cell hSw v1
              have u2 := Old.cell hSw v2
              have u3 := Old.cell hSw v3
              have u4 := Old.cell hSw v4
              have u5 := Old.cell hSw v5
              have u6 := Old.cell hSw v6
              clear hSw
              simp only [qqa, qqb, qqc]
              go_simp
              all_goals with_reducible rfl
            simp only [qqa, qqb, qqc, Act.put, qqd, qqe, qqf]
            refine' wpAnyH_take (i := 41) rfl (by kernel_rfl) (by kernel_rfl) (by kernel_rfl) (fun _ _ _ h => h) (Or.inl ⟨by rfl, ?_⟩) hHeld ?_
            rotate_left
            · intro W hSw
              have u0 := Old.cell hSw v0
              have u1 := Old.cell hSw v1
              have u2 := Old.cell hSw v2
              have u3 := Old.cell hSw v3
              have u4 := Old.cell hSw v4
              have u5 := Old.cell hSw v5
              have u6 := Old.cell hSw v6
              clear hSw
              simp only [qqa, qqb, qqc]
              go_simp
              all_goals with_reducible rfl
            simp only [qqa, qqb, qqc, Act.put, qqd, qqe, qqf]
            refine' wpAnyH_take (i := 42) rfl (by kernel_rfl) (by kernel_rfl) (by kernel_rfl) (fun _ _ _ h => h) (Or.inl ⟨by rfl, ?_⟩) hHeld ?_
            rotate_left
            · intro W hSw
              have u0 := Old.cell hSw v0
              have u1 := Old.cell hSw v1
              have u2 := Old.cell hSw v2
              have u3 := Old.cell hSw v3
              have u4 := Old.cell hSw v4
              have u5 := Old.cell hSw v5
              have u6 := Old.cell hSw v6
              clear hSw
              simp only [qqa, qqb, qqc]
              go_simp
              all_goals with_reducible rfl
            simp only [qqa, qqb, qqc, Act.put, qqd, qqe, qqf]
            refine' wpAnyH_take (i := 43) rfl (by kernel_rfl) (by kernel_rfl) (by kernel_rfl) (fun _ _ _ h => h) (Or.inl ⟨by rfl, ?_⟩) hHeld ?_
            rotate_left
            · intro W hSw
              have u0 := Old.cell hSw v0
              have u1 := Old.cell hSw v1
              have u2 := Old.cell hSw v2
              have u3 := Old.cell hSw v3
              have u4 := Old.cell hSw v4
              have u5 := Old.cell hSw v5
              have u6 := Old.cell hSw v6
              clear hSw
              simp only [qqa, qqb, qqc]
              go_simp
              all_goals with_reducible rfl
            simp only [qqa, qqb, qqc, Act.put, qqd, qqe, qqf]
            refine' wpAnyH_take (i := 44) rfl (by kernel_rfl) (by kernel_rfl) (by kernel_rfl) (fun _ _ _ h => h) (Or.inl ⟨by rfl, ?_⟩) hHeld ?_
            rotate_left
            · intro W hSw
              have u0 := Old.cell hSw v0
              have u1 := Old.cell hSw v1
              have u2 := Old.cell hSw v2
              have u3 := Old.cell hSw v3
              have u4 := Old.cell hSw v4
              have u5 := Old.cell hSw v5
              have u6 := Old.cell hSw v6
              clear hSw
              simp only [qqa, qqb, qqc]
              go_simp
              all_goals with_reducible rfl
            simp only [qqa, qqb, qqc, Act.put, qqd, qqe, qqf]
            refine' wpAnyH_take (i := 45) rfl (by kernel_rfl) (by kernel_rfl) (by kernel_rfl) (fun _ _ _ h => h) (Or.inr ⟨by rfl, rfl⟩) hHeld ?_
            simp only [qqa, qqb, qqc, Act.put, qqd, qqe, qqf]
            refine' wpAnyH_take (i := 46) rfl (by kernel_rfl) (by kernel_rfl) (by kernel_rfl) (fun _ _ _ h => h) (Or.inr ⟨by rfl, rfl⟩) hHeld ?_
            simp only [qqa, qqb, qqc, Act.put, qqd, qqe, qqf]
            refine' wpAnyH_take (i := 47) rfl (by kernel_rfl) (by kernel_rfl) (by kernel_rfl) (fun _ _ _ h => h) (Or.inr ⟨by rfl, rfl⟩) hHeld ?_
            simp only [qqa, qqb, qqc, Act.put, qqd, qqe, qqf]
            refine' wpAnyH_take (i := 48) rfl (by kernel_rfl) (by kernel_rfl) (by kernel_rfl) (fun _ _ _ h => h) (Or.inl ⟨by rfl, ?_⟩) hHeld ?_
            rotate_left
            · intro W hSw
              have u0 := Old.cell hSw v0
              have u1 := Old.cell hSw v1
              have u2 := Old.cell hSw v2
              have u3 := Old.cell hSw v3
              have u4 := Old.cell hSw v4
              have u5 := Old.cell hSw v5
              have u6 := Old.cell hSw v6
              clear hSw
              simp only [qqa, qqb, qqc]
              go_simp
              all_goals with_reducible rfl
            simp only [qqa, qqb, qqc, Act.put, qqd, qqe, qqf]
            refine' wpAnyH_take (i := 49) rfl (by kernel_rfl) (by kernel_rfl) (by kernel_rfl) (fun _ _ _ h => h) (Or.inl ⟨by rfl, ?_⟩) hHeld ?_
            rotate_left
            · intro W hSw
              have u0 := Old.cell hSw v0
              have u1 := Old.cell hSw v1
              have u2 := Old.cell hSw v2
              have u3 := Old.cell hSw v3
              have u4 := Old.cell hSw v4
              have u5 := Old.cell hSw v5
              have u6 := Old.cell hSw v6
              clear hSw
              simp only [qqa, qqb, qqc]
              go_simp
              all_goals with_reducible rfl
            simp only [qqa, qqb, qqc, Act.put, qqd, qqe, qqf]
            refine' wpAnyH_take (i := 50) rfl (by kernel_rfl) (by kernel_rfl) (by kernel_rfl) (fun _ _ _ h => h) (Or.inl ⟨by rfl, ?_⟩) hHeld ?_
            rotate_left
            · intro W hSw
              have u0 := Old.cell hSw v0
              have u1 := Old.cell hSw v1
              have u2 := Old.cell hSw v2
              have u3 := Old.cell hSw v3
              have u4 := Old.cell hSw v4
              have u5 := Old.cell hSw v5
              have u6 := Old.cell hSw v6
              clear hSw
              simp only [qqa, qqb, qqc]
              go_simp
              all_goals with_reducible rfl
            simp only [qqa, qqb, qqc, Act.put, qqd, qqe, qqf]
            refine' wpAnyH_take (i := 51) rfl (by kernel_rfl) (by kernel_rfl) (by kernel_rfl) (fun _ _ _ h => h) (Or.inl ⟨by rfl, ?_⟩) hHeld ?_
            rotate_left
            · intro W hSw
              have u0 := Old.cell hSw v0
              have u1 := Old.cell hSw v1
              have u2 := Old.cell hSw v2
              have u3 := Old.cell hSw v3
              have u4 := Old.cell hSw v4
              have u5 := Old.cell hSw v5
              have u6 := Old.cell hSw v6
              clear hSw
              simp only [qqa, qqb, qqc]
              go_simp
              all_goals with_reducible rfl
            simp only [qqa, qqb, qqc, Act.put, qqd, qqe, qqf]
            refine wpAnyH_done (by kernel_rfl) ?_ _
            refine NoPanic.normal ?_
            exact midZ_end (T := fun z w' => z 181 = .bool false ∧ Old WC w') (by kernel_rfl) ⟨rfl, hHeld⟩
          · have hmq : ((m : Int) != (N : Int)) = true := by simp only [bne_iff_ne, ne_eq]; omega
            have hml : ((m : Int) != leave) = false := by rw [(kfm.out.resolve_left hmn).2]; simp
            refine wp_region_noPanic ?_
            refine wp_region_held_drew (S := fun X => Old WC X) (by kernel_rfl) ((Old.refl WC).drewN 1) (fun hHeld => ?_)
            generalize WC.drew = V0 at *
            refine' wpAnyH_take (i := 0) rfl (by kernel_rfl) (by kernel_rfl) (by kernel_rfl) (fun _ _ _ h => h) (Or.inl ⟨by rfl, ?_⟩) hHeld ?_
            rotate_left
            · intro W hSw
              have u0 := Old.cell hSw v0
              clear hSw
              simp only [List.getElem_toArray, List.getElem_cons_zero]
              go_simp
              all_goals with_reducible rfl
            simp only [qqa, qqb, Act.put, qqd, qqe, qqf]
            refine' wpAnyH_take (i := 1) rfl (by kernel_rfl) (by kernel_rfl) (by kernel_rfl) (fun _ _ _ h => h) (Or.inl ⟨by rfl, ?_⟩) hHeld ?_
            rotate_left
            · intro W hSw
              have u0 := Old.cell hSw v0
              have u1 := Old.cell hSw v1
              have u2 := Old.cell hSw v2
              have u3 := Old.cell hSw v3
              have u4 := Old.cell hSw v4
              have u5 := Old.cell hSw v5
              have u6 := Old.cell hSw v6
              clear hSw
              simp only [qqa, qqb, qqc]
              go_simp
              all_goals with_reducible rfl
            simp only [qqa, qqb, qqc, Act.put, qqd, qqe, qqf]
            refine' wpAnyH_take (i := 2) rfl (by kernel_rfl) (by kernel_rfl) (by kernel_rfl) (fun _ _ _ h => h) (Or.inl ⟨by rfl, ?_⟩) hHeld ?_
            rotate_left
            · intro W hSw
              have u0 := Old.cell hSw v0
              have u1 := Old.cell hSw v1
              have u2 := Old.cell hSw v2
              have u3 := Old.cell hSw v3
              have u4 := Old.cell hSw v4
              have u5 := Old.cell hSw v5
              have u6 := Old.cell hSw v6
              clear hSw
              simp only [qqa, qqb, qqc]
              go_simp
              all_goals with_reducible rfl
            simp only [qqa, qqb, qqc, Act.put, qqd, qqe, qqf]
            refine' wpAnyH_take (i := 3) rfl (by kernel_rfl) (by kernel_rfl) (by kernel_rfl) (fun _ _ _ h => h) (Or.inr ⟨by rfl, rfl⟩) hHeld ?_
            simp only [qqa, qqb, qqc, Act.put, qqd, qqe, qqf]
            refine' wpAnyH_take (i := 4) rfl (by kernel_rfl) (by kernel_rfl) (by kernel_rfl) (fun _ _ _ h => h) (Or.inr ⟨by rfl, rfl⟩) hHeld ?_
            simp only [qqa, qqb, qqc, Act.put, qqd, qqe, qqf]
            refine' wpAnyH_take (i := 5) rfl (by kernel_rfl) (by kernel_rfl) (by kernel_rfl) (fun _ _ _ h => h) (Or.inr ⟨by rfl, rfl⟩) hHeld ?_
            simp only [qqa, qqb, qqc, Act.put, qqd, qqe, qqf]
            refine' wpAnyH_take (i := 6) rfl (by kernel_rfl) (by kernel_rfl) (by kernel_rfl) (fun _ _ _ h => h) (Or.inr ⟨by rfl, rfl⟩) hHeld ?_
            simp only [qqa, qqb, qqc, Act.put, qqd, qqe, qqf]
            refine' wpAnyH_take (i := 7) rfl (by kernel_rfl) (by kernel_rfl) (by kernel_rfl) (fun _ _ _ h => h) (Or.inr ⟨by rfl, rfl⟩) hHeld ?_
            simp only [qqa, qqb, qqc, Act.put, qqd, qqe, qqf]
            refine' wpAnyH_take (i := 8) rfl (by kernel_rfl) (by kernel_rfl) (by kernel_rfl) (fun _ _ _ h => h) (Or.inr ⟨by rfl, rfl⟩) hHeld ?_
            simp only [qqa, qqb, qqc, Act.put, qqd, qqe, qqf]
            refine' wpAnyH_take (i := 9) rfl (by kernel_rfl) (by kernel_rfl) (by kernel_rfl) (fun _ _ _ h => h) (Or.inr ⟨by rfl, rfl⟩) hHeld ?_
            simp only [qqa, qqb, qqc, Act.put, qqd, qqe, qqf]
            refine' wpAnyH_take (i := 10) rfl (by kernel_rfl) (by kernel_rfl) (by kernel_rfl) (fun _ _ _ h => h) (Or.inr ⟨by rfl, rfl⟩) hHeld ?_
            simp only [qqa, qqb, qqc, Act.put, qqd, qqe, qqf]
            refine' wpAnyH_take (i := 11) rfl (by kernel_rfl) (by kernel_rfl) (by kernel_rfl) (fun _ _ _ h => h) (Or.inr ⟨by rfl, rfl⟩) hHeld ?_
            simp only [qqa, qqb, qqc, Act.put, qqd, qqe, qqf]
            refine' wpAnyH_take (i := 12) rfl (by kernel_rfl) (by kernel_rfl) (by kernel_rfl) (fun _ _ _ h => h) (Or.inr ⟨by rfl, rfl⟩) hHeld ?_
            simp only [qqa, qqb, qqc, Act.put, qqd, qqe, qqf]
            refine' wpAnyH_take (i := 13) rfl (by kernel_rfl) (by kernel_rfl) (by kernel_rfl) (fun _ _ _ h => h) (Or.inr ⟨by rfl, rfl⟩) hHeld ?_
            simp only [qqa, qqb, qqc, Act.put, qqd, qqe, qqf]
            refine' wpAnyH_take (i := 14) rfl (by kernel_rfl) (by kernel_rfl) (by kernel_rfl) (fun _ _ _ h => h) (Or.inr ⟨by rfl, rfl⟩) hHeld ?_
            simp only [qqa, qqb, qqc, Act.put, qqd, qqe, qqf]
            refine' wpAnyH_take (i := 15) rfl (by kernel_rfl) (by kernel_rfl) (by kernel_rfl) (fun _ _ _ h => h) (Or.inr ⟨by rfl, rfl⟩) hHeld ?_
            simp only [qqa, qqb, qqc, Act.put, qqd, qqe, qqf]
            refine' wpAnyH_take (i := 16) rfl (by kernel_rfl) (by kernel_rfl) (by kernel_rfl) (fun _ _ _ h => h) (Or.inr ⟨by rfl, rfl⟩) hHeld ?_
            simp only [qqa, qqb, qqc, Act.put, qqd, qqe, qqf]
            refine' wpAnyH_take (i := 17) rfl (by kernel_rfl) (by kernel_rfl) (by kernel_rfl) (fun _ _ _ h => h) (Or.inr ⟨by rfl, rfl⟩) hHeld ?_
            simp only [qqa, qqb, qqc, Act.put, qqd, qqe, qqf]
            refine' wpAnyH_take (i := 18) rfl (by kernel_rfl) (by kernel_rfl) (by kernel_rfl) (fun _ _ _ h => h) (Or.inr ⟨by rfl, rfl⟩) hHeld ?_
            simp only [qqa, qqb, qqc, Act.put, qqd, qqe, qqf]
            refine' wpAnyH_take (i := 19) rfl (by kernel_rfl) (by kernel_rfl) (by kernel_rfl) (fun _ _ _ h => h) (Or.inl ⟨by rfl, ?_⟩) hHeld ?_
            rotate_left
            · intro W hSw
              have u0 := Old.cell hSw v0
              have u1 := Old.cell hSw v1
              have u2 := Old.cell hSw v2
              have u3 := Old.cell hSw v3
              have u4 := Old.cell hSw v4
              have u5 := Old.cell hSw v5
              have u6 := Old.cell hSw v6
              clear hSw
              simp only [qqa, qqb, qqc]
              go_simp
              all_goals with_reducible rfl
            simp only [qqa, qqb, qqc, Act.put, qqd, qqe, qqf]
            refine' wpAnyH_take (i := 20) rfl (by kernel_rfl) (by kernel_rfl) (by kernel_rfl) (fun _ _ _ h => h) (Or.inl ⟨by rfl, ?_⟩) hHeld ?_
            rotate_left
            · intro W hSw
              have u0 := Old.cell hSw v0
              have u1 := Old.cell hSw v1
              have u2 := Old.cell hSw v2
              have u3 := Old.cell hSw v3
              have u4 := Old.cell hSw v4
              have u5 := Old.cell hSw v5
              have u6 := Old.cell hSw v6
              clear hSw
              simp only [qqa, qqb, qqc]
              go_simp
              all_goals with_reducible rfl
            simp only [qqa, qqb, qqc, Act.put, qqd, qqe, qqf]
            refine' wpAnyH_take (i := 21) rfl (by kernel_rfl) (by kernel_rfl) (by kernel_rfl) (fun _ _ _ h => h) (Or.inl ⟨by rfl, ?_⟩) hHeld ?_
            rotate_left
            · intro W hSw
              have u0 := Old.cell hSw v0
              have u1 := Old.cell hSw v1
              have u2 := Old.cell hSw v2
              have u3 := Old.cell hSw v3
              have u4 := Old.cell hSw v4
              have u5 := Old.cell hSw v5
              have u6 := Old.cell hSw v6
              clear hSw
              simp only [qqa, qqb, qqc]
              go_simp
              all_goals with_reducible rfl
            simp only [qqa, qqb, qqc, Act.put, qqd, qqe, qqf]
            refine' wpAnyH_take (i := 22) rfl (by kernel_rfl) (by kernel_rfl) (by kernel_rfl) (fun _ _ _ h => h) (Or.inl ⟨by rfl, ?_⟩) hHeld ?_
            rotate_left
            · intro W hSw
              have u0 := Old.cell hSw v0
              have u1 := Old.cell hSw v1
              have u2 := Old.cell hSw v2
              have u3 := Old.cell hSw v3
              have u4 := Old.cell hSw v4
              have u5 := Old.cell hSw v5
              have u6 := Old.cell hSw v6
              clear hSw
              simp only [qqa, qqb, qqc]
              go_simp
              all_goals with_reducible rfl
            simp only [qqa, qqb, qqc, Act.put, qqd, qqe, qqf]
            refine' wpAnyH_take (i := 23) rfl (by kernel_rfl) (by kernel_rfl) (by kernel_rfl) (fun _ _ _ h => h) (Or.inl ⟨by rfl, ?_⟩) hHeld ?_
            rotate_left
            · intro W hSw
              have u0 := Old.cell hSw v0
              have u1 := Old.cell hSw v1
              have u2 := Old.cell hSw v2
              have u3 := Old.cell hSw v3
              have u4 := Old.cell hSw v4
              have u5 := Old.cell hSw v5
              have u6 := Old.cell hSw v6
              clear hSw
              simp only [qqa, qqb, qqc]
              go_simp
              all_goals with_reducible rfl
            simp only [qqa, qqb, qqc, Act.put, qqd, qqe, qqf]
            refine' wpAnyH_take (i := 24) rfl (by kernel_rfl) (by kernel_rfl) (by kernel_rfl) (fun _ _ _ h => h) (Or.inl ⟨by rfl, ?_⟩) hHeld ?_
            rotate_left
            · intro W hSw
              have u0 := Old.cell hSw v0
              have u1 := Old.cell hSw v1
              have u2 := Old.cell hSw v2
              have u3 := Old.cell hSw v3
              have u4 := Old.cell hSw v4
              have u5 := Old.cell hSw v5
              have u6 := Old.cell hSw v6
              clear hSw
              simp only [qqa, qqb, qqc]
              go_simp
              all_goals with_reducible rfl
            simp only [qqa, qqb, qqc, Act.put, qqd, qqe, qqf]
            refine' wpAnyH_take (i := 25) rfl (by kernel_rfl) (by kernel_rfl) (by kernel_rfl) (fun _ _ _ h => h) (Or.inl ⟨by rfl, ?_⟩) hHeld ?_
            rotate_left
            · intro W hSw
              have u0 := Old.cell hSw v0
              have u1 := Old.cell hSw v1
              have u2 := Old.cell hSw v2
              have u3 := Old.cell hSw v3
              have u4 := Old.cell hSw v4
              have u5 := Old.cell hSw v5
              have u6 := Old.cell hSw v6
              clear hSw
              simp only [qqa, qqb, qqc]
              go_simp
              all_goals with_reducible rfl
            simp only [qqa, qqb, qqc, Act.put, qqd, qqe, qqf]
            refine' wpAnyH_take (i := 26) rfl (by kernel_rfl) (by kernel_rfl) (by kernel_rfl) (fun _ _ _ h => h) (Or.inl ⟨by rfl, ?_⟩) hHeld ?_
            rotate_left
            · intro W hSw
              have u0 := Old.cell hSw v0
              have u1 := Old.cell hSw v1
              have u2 := Old.cell hSw v2
              have u3 := Old.cell hSw v3
              have u4 := Old.cell hSw v4
              have u5 := Old.cell hSw v5
              have u6 := Old.cell hSw v6
              clear hSw
              simp only [qqa, qqb, qqc]
              go_simp
              all_goals with_reducible rfl
            simp only [qqa, qqb, qqc, Act.put, qqd, qqe, qqf]
            refine' wpAnyH_take (i := 27) rfl (by kernel_rfl) (by kernel_rfl) (by kernel_rfl) (fun _ _ _ h => h) (Or.inl ⟨by rfl, ?_⟩) hHeld ?_
            rotate_left
            · intro W hSw
              have u0 := Old.cell hSw v0
              have u1 := Old.cell hSw v1
              have u2 := Old.cell hSw v2
              have u3 := Old.cell hSw v3
              have u4 := Old.cell hSw v4
              have u5 := Old.cell hSw v5
              have u6 := Old.cell hSw v6
              clear hSw
              simp only [qqa, qqb, qqc]
              go_simp
              all_goals with_reducible rfl
            simp only [qqa, qqb, qqc, Act.put, qqd, qqe, qqf]
            refine' wpAnyH_take (i := 28) rfl (by kernel_rfl) (by kernel_rfl) (by kernel_rfl) (fun _ _ _ h => h) (Or.inl ⟨by rfl, ?_⟩) hHeld ?_
            rotate_left
            · intro W hSw
              have u0 := Old.cell hSw v0
              have u1 := Old.cell hSw v1
              have u2 := Old.cell hSw v2
              have u3 := Old.cell hSw v3
              have u4 := Old.cell hSw v4
              have u5 := Old.cell hSw v5
              have u6 := Old.cell hSw v6
              clear hSw
              simp only [qqa, qqb, qqc]
              go_simp
              all_goals with_reducible rfl
            simp only [qqa, qqb, qqc, Act.put, qqd, qqe, qqf]
            refine' wpAnyH_take (i := 29) rfl (by kernel_rfl) (by kernel_rfl) (by kernel_rfl) (fun _ _ _ h => h) (Or.inl ⟨by rfl, ?_⟩) hHeld ?_
            rotate_left
            · intro W hSw
              have u0 := Old.cell hSw v0
              have u1 := Old.cell hSw v1
              have u2 := Old.cell hSw v2
              have u3 := Old.cell hSw v3
              have u4 := Old.cell hSw v4
              have u5 := Old.cell hSw v5
              have u6 := Old.cell hSw v6
              clear hSw
              simp only [qqa, qqb, qqc]
              go_simp
              all_goals with_reducible rfl
            simp only [qqa, qqb, qqc, Act.put, qqd, qqe, qqf]
            refine' wpAnyH_take (i := 30) rfl (by kernel_rfl) (by kernel_rfl) (by kernel_rfl) (fun _ _ _ h => h) (Or.inl ⟨by rfl, ?_⟩) hHeld ?_
            rotate_left
            · intro W hSw
              have u0 := Old.cell hSw v0
              have u1 := Old.cell hSw v1
              have u2 := Old.cell hSw v2
              have u3 := Old.cell hSw v3
              have u4 := Old.cell hSw v4
              have u5 := Old.cell hSw v5
              have u6 := Old.cell hSw v6
              clear hSw
              simp only [qqa, qqb, qqc]
              go_simp
              all_goals with_reducible rfl
            simp only [qqa, qqb, qqc, Act.put, qqd, qqe, qqf]
            refine' wpAnyH_take (i := 31) rfl (by kernel_rfl) (by kernel_rfl) (by kernel_rfl) (fun _ _ _ h => h) (Or.inl ⟨by rfl, ?_⟩) hHeld ?_
            rotate_left
            · intro W hSw
              have u0 := Old.cell hSw v0
              have u1 := Old.cell hSw v1
              have u2 := Old.cell hSw v2
              have u3 := Old.cell hSw v3
              have u4 := Old.cell hSw v4
              have u5 := Old.cell hSw v5
              have u6 := Old.cell hSw v6
              clear hSw
              simp only [qqa, qqb, qqc]
              go_simp
              all_goals with_reducible rfl
            simp only [qqa, qqb, qqc, Act.put, qqd, qqe, qqf]
            refine' wpAnyH_take (i := 32) rfl (by kernel_rfl) (by kernel_rfl) (by kernel_rfl) (fun _ _ _ h => h) (Or.inr ⟨by rfl, rfl⟩) hHeld ?_
            simp only [qqa, qqb, qqc, Act.put, qqd, qqe, qqf]
            refine' wpAnyH_take (i := 33) rfl (by kernel_rfl) (by kernel_rfl) (by kernel_rfl) (fun _ _ _ h => h) (Or.inr ⟨by rfl, rfl⟩) hHeld ?_
            simp only [qqa, qqb, qqc, Act.put, qqd, qqe, qqf]
            refine' wpAnyH_take (i := 34) rfl (by kernel_rfl) (by kernel_rfl) (by kernel_rfl) (fun _ _ _ h => h) (Or.inr ⟨by rfl, rfl⟩) hHeld ?_
            simp only [qqa, qqb, qqc, Act.put, qqd, qqe, qqf]
            refine' wpAnyH_take (i := 35) rfl (by kernel_rfl) (by kernel_rfl) (by kernel_rfl) (fun _ _ _ h => h) (Or.inl ⟨by rfl, ?_⟩) hHeld ?_
            rotate_left
            · intro W hSw
              have u0 := Old.cell hSw v0
              have u1 := Old.cell hSw v1
              have u2 := Old.cell hSw v2
              have u3 := Old.cell hSw v3
              have u4 := Old.cell hSw v4
              have u5 := Old.cell hSw v5
              have u6 := Old.cell hSw v6
              clear hSw
              simp only [qqa, qqb, qqc]
              go_simp
              all_goals with_reducible rfl
            simp only [qqa, qqb, qqc, Act.put, qqd, qqe, qqf]
            refine' wpAnyH_take (i := 36) rfl (by kernel_rfl) (by kernel_rfl) (by kernel_rfl) (fun _ _ _ h => h) (Or.inl ⟨by rfl, ?_⟩) hHeld ?_
            rotate_left
            · intro W hSw
              have u0 := Old.cell hSw v0
              have u1 := Old.cell hSw v1
              have u2 := Old.cell hSw v2
              have u3 := Old.cell hSw v3
              have u4 := Old.cell hSw v4
              have u5 := Old.cell hSw v5
              have u6 := Old.cell hSw v6
              clear hSw
              simp only [qqa, qqb, qqc]
              go_simp
              all_goals with_reducible rfl
            simp only [qqa, qqb, qqc, Act.put, qqd, qqe, qqf]
            refine' wpAnyH_take (i := 37) rfl (by kernel_rfl) (by kernel_rfl) (by kernel_rfl) (fun _ _ _ h => h) (Or.inl ⟨by rfl, ?_⟩) hHeld ?_
            rotate_left
            · intro W hSw
              have u0 := Old.cell hSw v0
              have u1 := Old.cell hSw v1
              have u2 := Old.cell hSw v2
              have u3 := Old.cell hSw v3
              have u4 := Old.cell hSw v4
              have u5 := Old.cell hSw v5
              have u6 := Old.cell hSw v6
              clear hSw
              simp only [qqa, qqb, qqc]
              go_simp
              all_goals with_reducible rfl
            simp only [qqa, qqb, qqc, Act.put, qqd, qqe, qqf]
            refine' wpAnyH_take (i := 38) rfl (by kernel_rfl) (by kernel_rfl) (by kernel_rfl) (fun _ _ _ h => h) (Or.inl ⟨by rfl, ?_⟩) hHeld ?_
            rotate_left
            · intro W hSw
              have u0 := Old.cell hSw v0
              have u1 := Old.cell hSw v1
              have u2 := Old.cell hSw v2
              have u3 := Old.cell hSw v3
              have u4 := Old.cell hSw v4
              have u5 := Old.cell hSw v5
              have u6 := Old.cell hSw v6
              clear hSw
              simp only [qqa, qqb, qqc]
              go_simp
              all_goals with_reducible rfl
            simp only [qqa, qqb, qqc, Act.put, qqd, qqe, qqf]
            refine' wpAnyH_take (i := 39) rfl (by kernel_rfl) (by kernel_rfl) (by kernel_rfl) (fun _ _ _ h => h) (Or.inl ⟨by rfl, ?_⟩) hHeld ?_
            rotate_left
            · intro W hSw
              have u0 := Old.cell hSw v0
              have u1 := Old.cell hSw v1
              have u2 := Old.cell hSw v2
              have u3 := Old.cell hSw v3
              have u4 := Old.cell hSw v4
              have u5 := Old.cell hSw v5
              have u6 := Old.cell hSw v6
              clear hSw
              simp only [qqa, qqb, qqc]
              go_simp
              all_goals with_reducible rfl
            simp only [qqa, qqb, qqc, Act.put, qqd, qqe, qqf]
            refine' wpAnyH_take (i := 40) rfl (by kernel_rfl) (by kernel_rfl) (by kernel_rfl) (fun _ _ _ h => h) (Or.inl ⟨by rfl, ?_⟩) hHeld ?_
            rotate_left
            · intro W hSw
              have u0 := Old.cell hSw v0
              have u1 := Old.cell hSw v1
              have u2 := Old.cell hSw v2
              have u3 := Old.cell hSw v3
              have u4 := Old.cell hSw v4
              have u5 := Old.cell hSw v5
              have u6 := Old.cell hSw v6
              clear hSw
              simp only [qqa, qqb, qqc]
              go_simp
              all_goals with_reducible rfl
            simp only [qqa, qqb, qqc, Act.put, qqd, qqe, qqf]
            refine' wpAnyH_take (i := 41) rfl (by kernel_rfl) (by kernel_rfl) (by kernel_rfl) (fun _ _ _ h => h) (Or.inl ⟨by rfl, ?_⟩) hHeld ?_
            rotate_left
            · intro W hSw
              have u0 := Old.cell hSw v0
              have u1 := Old.cell hSw v1
              have u2 := Old.cell hSw v2
              have u3 := Old.cell hSw v3
              have u4 := Old.cell hSw v4
              have u5 := Old.cell hSw v5
              have u6 := Old.cell hSw v6
              clear hSw
              simp only [qqa, qqb, qqc]
              go_simp
              all_goals with_reducible rfl
            simp only [qqa, qqb, qqc, Act.put, qqd, qqe, qqf]
            refine' wpAnyH_take (i := 42) rfl (by kernel_rfl) (by kernel_rfl) (by kernel_rfl) (fun _ _ _ h => h) (Or.inl ⟨by rfl, ?_⟩) hHeld ?_
            rotate_left
            · intro W hSw
              have u0 := Old.cell hSw v0
              have u1 := Old.cell hSw v1
              have u2 := Old.cell hSw v2
              have u3 := Old.cell hSw v3
              have u4 := Old.cell hSw v4
              have u5 := Old.cell hSw v5
              have u6 := Old.cell hSw v6
              clear hSw
              simp only [qqa, qqb, qqc]
              go_simp
              all_goals with_reducible rfl
            simp only [qqa, qqb, qqc, Act.put, qqd, qqe, qqf]
            refine' wpAnyH_take (i := 43) rfl (by kernel_rfl) (by kernel_rfl) (by kernel_rfl) (fun _ _ _ h => h) (Or.inl ⟨by rfl, ?_⟩) hHeld ?_
            rotate_left
            · intro W hSw
              have u0 := Old.cell hSw v0
              have u1 := Old.cell hSw v1
              have u2 := Old.cell hSw v2
              have u3 := Old.cell hSw v3
              have u4 := Old.cell hSw v4
              have u5 := Old.cell hSw v5
              have u6 := Old.cell hSw v6
              clear hSw
              simp only [qqa, qqb, qqc]
              go_simp
              all_goals with_reducible rfl
            simp only [qqa, qqb, qqc, Act.put, qqd, qqe, qqf]
            refine' wpAnyH_take (i := 44) rfl (by kernel_rfl) (by kernel_rfl) (by kernel_rfl) (fun _ _ _ h => h) (Or.inl ⟨by rfl, ?_⟩) hHeld ?_
            rotate_left
            · intro W hSw
              have u0 := Old.cell hSw v0
              have u1 := Old.cell hSw v1
              have u2 := Old.cell hSw v2
              have u3 := Old.cell hSw v3
              have u4 := Old.cell hSw v4
              have u5 := Old.cell hSw v5
              have u6 := Old.cell hSw v6
              clear hSw
              simp only [qqa, qqb, qqc]
              go_simp
              all_goals with_reducible rfl
            simp only [qqa, qqb, qqc, Act.put, qqd, qqe, qqf]
            refine' wpAnyH_take (i := 45) rfl (by kernel_rfl) (by kernel_rfl) (by kernel_rfl) (fun _ _ _ h => h) (Or.inl ⟨by rfl, ?_⟩) hHeld ?_
            rotate_left
            · intro W hSw
              have u0 := Old.cell hSw v0
              have u1 := Old.cell hSw v1
              have u2 := Old.cell hSw v2
              have u3 := Old.cell hSw v3
              have u4 := Old.cell hSw v4
              have u5 := Old.cell hSw v5
              have u6 := Old.cell hSw v6
              clear hSw
              simp only [qqa, qqb, qqc]
              go_simp
              all_goals with_reducible rfl
            simp only [qqa, qqb, qqc, Act.put, qqd, qqe, qqf]
            refine' wpAnyH_take (i := 46) rfl (by kernel_rfl) (by kernel_rfl) (by kernel_rfl) (fun _ _ _ h => h) (Or.inl ⟨by rfl, ?_⟩) hHeld ?_
            rotate_left
            · intro W hSw
              have u0 := Old.cell hSw v0
              have u1 := Old.cell hSw v1
              have u2 := Old.cell hSw v2
              have u3 := Old.cell hSw v3
              have u4 := Old.cell hSw v4
              have u5 := Old.cell hSw v5
              have u6 := Old.cell hSw v6
              clear hSw
              simp only [qqa, qqb, qqc]
              go_simp
              all_goals with_reducible rfl
            simp only [qqa, qqb, qqc, Act.put, qqd, qqe, qqf]
            refine' wpAnyH_take (i := 47) rfl (by kernel_rfl) (by kernel_rfl) (by kernel_rfl) (fun _ _ _ h => h) (Or.inl ⟨by rfl, ?_⟩) hHeld ?_
            rotate_left
            · intro W hSw
              have u0 := Old.cell hSw v0
              have u1 := Old.cell hSw v1
              have u2 := Old.cell hSw v2
              have u3 := Old.cell hSw v3
              have u4 := Old.cell hSw v4
              have u5 := Old.cell hSw v5
              have u6 := Old.cell hSw v6
              clear hSw
              simp only [qqa, qqb, qqc]
              go_simp
              all_goals with_reducible rfl
            simp only [qqa, qqb, qqc, Act.put, qqd, qqe, qqf]
            refine' wpAnyH_take (i := 48) rfl (by kernel_rfl) (by kernel_rfl) (by kernel_rfl) (fun _ _ _ h => h) (Or.inl ⟨by rfl, ?_⟩) hHeld ?_
            rotate_left
            · intro W hSw
              have u0 := Old.cell hSw v0
              have u1 := Old.cell hSw v1
              have u2 := Old.cell hSw v2
              have u3 := Old.cell hSw v3
              have u4 := Old.cell hSw v4
              have u5 := Old.cell hSw v5
              have u6 := Old.cell hSw v6
              clear hSw
              simp only [qqa, qqb, qqc]
              go_simp
              all_goals with_reducible rfl
            simp only [qqa, qqb, qqc, Act.put, qqd, qqe, qqf]
            refine' wpAnyH_take (i := 49) rfl (by kernel_rfl) (by kernel_rfl) (by kernel_rfl) (fun _ _ _ h => h) (Or.inl ⟨by rfl, ?_⟩) hHeld ?_
            rotate_left
            · intro W hSw
              have u0 := Old.cell hSw v0
              have u1 := Old.cell hSw v1
              have u2 := Old.cell hSw v2
              have u3 := Old.cell hSw v3
              have u4 := Old.cell hSw v4
              have u5 := Old.cell hSw v5
              have u6 := Old.cell hSw v6
              clear hSw
              simp only [qqa, qqb, qqc]
              go_simp
              all_goals with_reducible rfl
            simp only [qqa, qqb, qqc, Act.put, qqd, qqe, qqf]
            refine' wpAnyH_take (i := 50) rfl (by kernel_rfl) (by kernel_rfl) (by kernel_rfl) (fun _ _ _ h => h) (Or.inl ⟨by rfl, ?_⟩) hHeld ?_
            rotate_left
            · intro W hSw
              have u0 := Old.cell hSw v0
              have u1 := Old.cell hSw v1
              have u2 := Old.cell hSw v2
              have u3 := Old.cell hSw v3
              have u4 := Old.cell hSw v4
              have u5 := Old.cell hSw v5
              have u6 := Old.cell hSw v6
              clear hSw
              simp only [qqa, qqb, qqc]
              go_simp
              all_goals with_reducible rfl
            simp only [qqa, qqb, qqc, Act.put, qqd, qqe, qqf]
            refine' wpAnyH_take (i := 51) rfl (by kernel_rfl) (by kernel_rfl) (by kernel_rfl) (fun _ _ _ h => h) (Or.inl ⟨by rfl, ?_⟩) hHeld ?_
            rotate_left
            · intro W hSw
              have u0 := Old.cell hSw v0
              have u1 := Old.cell hSw v1
              have u2 := Old.cell hSw v2
              have u3 := Old.cell hSw v3
              have u4 := Old.cell hSw v4
              have u5 := Old.cell hSw v5
              have u6 := Old.cell hSw v6
              clear hSw
              simp only [qqa, qqb, qqc]
              go_simp
              all_goals with_reducible rfl
            simp only [qqa, qqb, qqc, Act.put, qqd, qqe, qqf]
            refine wpAnyH_done (by kernel_rfl) ?_ _
            refine NoPanic.normal ?_
            exact midZ_end (T := fun z w' => z 181 = .bool false ∧ Old WC w') (by kernel_rfl) ⟨rfl, hHeld⟩
        · have hkq : ((k : Int) != (n : Int)) = true := by simp only [bne_iff_ne, ne_eq]; omega
          have hkl : ((k : Int) != leave) = false := by rw [(kfk.out.resolve_left hkn).2]; simp
          by_cases hmn : m = N
          · have hmq : ((m : Int) != (N : Int)) = false := by simp [hmn]
            refine wp_region_noPanic ?_
            refine wp_region_held_drew (S := fun X => Old WC X) (by kernel_rfl) ((Old.refl WC).drewN 1) (fun hHeld => ?_)
            generalize WC.drew = V0 at *
            refine' wpAnyH_take (i := 0) rfl (by kernel_rfl) (by kernel_rfl) (by kernel_rfl) (fun _ _ _ h => h) (Or.inl ⟨by rfl, ?_⟩) hHeld ?_
            rotate_left
            · intro W hSw
              have u0 := Old.cell hSw v0
              clear hSw
              simp only [List.getElem_toArray, List.getElem_cons_zero]
              go_simp
              all_goals with_reducible rfl
            simp only [qqa, qqb, Act.put, qqd, qqe, qqf]
            refine' wpAnyH_take (i := 1) rfl (by kernel_rfl) (by kernel_rfl) (by kernel_rfl) (fun _ _ _ h => h) (Or.inl ⟨by rfl, ?_⟩) hHeld ?_
            rotate_left
            · intro W hSw
              have u0 := Old.cell hSw v0
              have u1 := Old.cell hSw v1
              have u2 := Old.cell hSw v2
              have u3 := Old.cell hSw v3
              have u4 := Old.cell hSw v4
              have u5 := Old.cell hSw v5
              have u6 := Old.cell hSw v6
              clear hSw
              simp only [qqa, qqb, qqc]
              go_simp
              all_goals with_reducible rfl
            simp only [qqa, qqb, qqc, Act.put, qqd, qqe, qqf]
            refine' wpAnyH_take (i := 2) rfl (by kernel_rfl) (by kernel_rfl) (by kernel_rfl) (fun _ _ _ h => h) (Or.inl ⟨by rfl, ?_⟩) hHeld ?_
            rotate_left
            · intro W hSw
              have u0 := Old.cell hSw v0
              have u1 := Old.cell hSw v1
              have u2 := Old.cell hSw v2
              have u3 := Old.cell hSw v3
              have u4 := Old.cell hSw v4
              have u5 := Old.cell hSw v5
              have u6 := Old.cell hSw v6
              clear hSw
              simp only [qqa, qqb, qqc]
              go_simp
              all_goals with_reducible rfl
            simp only [qqa, qqb, qqc, Act.put, qqd, qqe, qqf]
            refine' wpAnyH_take (i := 3) rfl (by kernel_rfl) (by kernel_rfl) (by kernel_rfl) (fun _ _ _ h => h) (Or.inr ⟨by rfl, rfl⟩) hHeld ?_
            simp only [qqa, qqb, qqc, Act.put, qqd, qqe, qqf]
            refine' wpAnyH_take (i := 4) rfl (by kernel_rfl) (by kernel_rfl) (by kernel_rfl) (fun _ _ _ h => h) (Or.inr ⟨by rfl, rfl⟩) hHeld ?_
            simp only [qqa, qqb, qqc, Act.put, qqd, qqe, qqf]
            refine' wpAnyH_take (i := 5) rfl (by kernel_rfl) (by kernel_rfl) (by kernel_rfl) (fun _ _ _ h => h) (Or.inr ⟨by rfl, rfl⟩) hHeld ?_
            simp only [qqa, qqb, qqc, Act.put, qqd, qqe, qqf]
            refine' wpAnyH_take (i := 6) rfl (by kernel_rfl) (by kernel_rfl) (by kernel_rfl) (fun _ _ _ h => h) (Or.inr ⟨by rfl, rfl⟩) hHeld ?_
            simp only [qqa, qqb, qqc, Act.put, qqd, qqe, qqf]
            refine' wpAnyH_take (i := 7) rfl (by kernel_rfl) (by kernel_rfl) (by kernel_rfl) (fun _ _ _ h => h) (Or.inr ⟨by rfl, rfl⟩) hHeld ?_
            simp only [qqa, qqb, qqc, Act.put, qqd, qqe, qqf]
            refine' wpAnyH_take (i := 8) rfl (by kernel_rfl) (by kernel_rfl) (by kernel_rfl) (fun _ _ _ h => h) (Or.inr ⟨by rfl, rfl⟩) hHeld ?_
            simp only [qqa, qqb, qqc, Act.put, qqd, qqe, qqf]
            refine' wpAnyH_take (i := 9) rfl (by kernel_rfl) (by kernel_rfl) (by kernel_rfl) (fun _ _ _ h => h) (Or.inr ⟨by rfl, rfl⟩) hHeld ?_
            simp only [qqa, qqb, qqc, Act.put, qqd, qqe, qqf]
            refine' wpAnyH_take (i := 10) rfl (by kernel_rfl) (by kernel_rfl) (by kernel_rfl) (fun _ _ _ h => h) (Or.inr ⟨by rfl, rfl⟩) hHeld ?_
            simp only [qqa, qqb, qqc, Act.put, qqd, qqe, qqf]
            refine' wpAnyH_take (i := 11) rfl (by kernel_rfl) (by kernel_rfl) (by kernel_rfl) (fun _ _ _ h => h) (Or.inr ⟨by rfl, rfl⟩) hHeld ?_
            simp only [qqa, qqb, qqc, Act.put, qqd, qqe, qqf]
            refine' wpAnyH_take (i := 12) rfl (by kernel_rfl) (by kernel_rfl) (by kernel_rfl) (fun _ _ _ h => h) (Or.inr ⟨by rfl, rfl⟩) hHeld ?_
            simp only [qqa, qqb, qqc, Act.put, qqd, qqe, qqf]
            refine' wpAnyH_take (i := 13) rfl (by kernel_rfl) (by kernel_rfl) (by kernel_rfl) (fun _ _ _ h => h) (Or.inr ⟨by rfl, rfl⟩) hHeld ?_
            simp only [qqa, qqb, qqc, Act.put, qqd, qqe, qqf]
            refine' wpAnyH_take (i := 14) rfl (by kernel_rfl) (by kernel_rfl) (by kernel_rfl) (fun _ _ _ h => h) (Or.inr ⟨by rfl, rfl⟩) hHeld ?_
            simp only [qqa, qqb, qqc, Act.put, qqd, qqe, qqf]
            refine' wpAnyH_take (i := 15) rfl (by kernel_rfl) (by kernel_rfl) (by kernel_rfl) (fun _ _ _ h => h) (Or.inr ⟨by rfl, rfl⟩) hHeld ?_
            simp only [qqa, qqb, qqc, Act.put, qqd, qqe, qqf]
            refine' wpAnyH_take (i := 16) rfl (by kernel_rfl) (by kernel_rfl) (by kernel_rfl) (fun _ _ _ h => h) (Or.inr ⟨by rfl, rfl⟩) hHeld ?_
            simp only [qqa, qqb, qqc, Act.put, qqd, qqe, qqf]
            refine' wpAnyH_take (i := 17) rfl (by kernel_rfl) (by kernel_rfl) (by kernel_rfl) (fun _ _ _ h => h) (Or.inr ⟨by rfl, rfl⟩) hHeld ?_
            simp only [qqa, qqb, qqc, Act.put, qqd, qqe, qqf]
            refine' wpAnyH_take (i := 18) rfl (by kernel_rfl) (by kernel_rfl) (by kernel_rfl) (fun _ _ _ h => h) (Or.inr ⟨by rfl, rfl⟩) hHeld ?_
            simp only [qqa, qqb, qqc, Act.put, qqd, qqe, qqf]
            refine' wpAnyH_take (i := 19) rfl (by kernel_rfl) (by kernel_rfl) (by kernel_rfl) (fun _ _ _ h => h) (Or.inl ⟨by rfl, ?_⟩) hHeld ?_
            rotate_left
            · intro W hSw
              have u0 := Old.cell hSw v0
              have u1 := Old.cell hSw v1
              have u2 := Old.cell hSw v2
              have u3 := Old.cell hSw v3
              have u4 := Old.cell hSw v4
              have u5 := Old.cell hSw v5
              have u6 := Old.cell hSw v6
              clear hSw
              simp only [qqa, qqb, qqc]
              go_simp
              all_goals with_reducible rfl
            simp only [qqa, qqb, qqc, Act.put, qqd, qqe, qqf]
            refine' wpAnyH_take (i := 20) rfl (by kernel_rfl) (by kernel_rfl) (by kernel_rfl) (fun _ _ _ h => h) (Or.inl ⟨by rfl, ?_⟩) hHeld ?_
            rotate_left
            · intro W hSw
              have u0 := Old.cell hSw v0
              have u1 := Old.cell hSw v1
              have u2 := Old.cell hSw v2
              have u3 := Old.cell hSw v3
              have u4 := Old.cell hSw v4
              have u5 := Old.cell hSw v5
              have u6 := Old.cell hSw v6
              clear hSw
              simp only [qqa, qqb, qqc]
              go_simp
              all_goals with_reducible rfl
            simp only [qqa, qqb, qqc, Act.put, qqd, qqe, qqf]
            refine' wpAnyH_take (i := 21) rfl (by kernel_rfl) (by kernel_rfl) (by kernel_rfl) (fun _ _ _ h => h) (Or.inl ⟨by rfl, ?_⟩) hHeld ?_
            rotate_left
            · intro W hSw
              have u0 := Old.cell hSw v0
              have u1 := Old.cell hSw v1
              have u2 := Old.cell hSw v2
              have u3 := Old.cell hSw v3
              have u4 := Old.cell hSw v4
              have u5 := Old.cell hSw v5
              have u6 := Old.cell hSw v6
              clear hSw
              simp only [qqa, qqb, qqc]
              go_simp
              all_goals with_reducible rfl
            simp only [qqa, qqb, qqc, Act.put, qqd, qqe, qqf]
            refine' wpAnyH_take (i := 22) rfl (by kernel_rfl) (by kernel_rfl) (by kernel_rfl) (fun _ _ _ h => h) (Or.inl ⟨by rfl, ?_⟩) hHeld ?_
            rotate_left
            · intro W hSw
              have u0 := Old.cell hSw v0
              have u1 := Old.cell hSw v1
              have u2 := Old.cell hSw v2
              have u3 := Old.cell hSw v3
              have u4 := Old.cell hSw v4
              have u5 := Old.cell hSw v5
              have u6 := Old.cell hSw v6
              clear hSw
              simp only [qqa, qqb, qqc]
              go_simp
              all_goals with_reducible rfl
            simp only [qqa, qqb, qqc, Act.put, qqd, qqe, qqf]
            refine' wpAnyH_take (i := 23) rfl (by kernel_rfl) (by kernel_rfl) (by kernel_rfl) (fun _ _ _ h => h) (Or.inl ⟨by rfl, ?_⟩) hHeld ?_
            rotate_left
            · intro W hSw
              have u0 := Old.cell hSw v0
              have u1 := Old.cell hSw v1
              have u2 := Old.cell hSw v2
              have u3 := Old.cell hSw v3
              have u4 := Old.cell hSw v4
              have u5 := Old.cell hSw v5
              have u6 := Old.cell hSw v6
              clear hSw
              simp only [qqa, qqb, qqc]
              go_simp
              all_goals with_reducible rfl
            simp only [qqa, qqb, qqc, Act.put, qqd, qqe, qqf]
            refine' wpAnyH_take (i := 24) rfl (by kernel_rfl) (by kernel_rfl) (by kernel_rfl) (fun _ _ _ h => h) (Or.inl ⟨by rfl, ?_⟩) hHeld ?_
            rotate_left
            · intro W hSw
              have u0 := Old.cell hSw v0
              have u1 := Old.cell hSw v1
              have u2 := Old.cell hSw v2
              have u3 := Old.cell hSw v3
              have u4 := Old.cell hSw v4
              have u5 := Old.cell hSw v5
              have u6 := Old.cell hSw v6
              clear hSw
              simp only [qqa, qqb, qqc]
              go_simp
              all_goals with_reducible rfl
            simp only [qqa, qqb, qqc, Act.put, qqd, qqe, qqf]
            refine' wpAnyH_take (i := 25) rfl (by kernel_rfl) (by kernel_rfl) (by kernel_rfl) (fun _ _ _ h => h) (Or.inl ⟨by rfl, ?_⟩) hHeld ?_
            rotate_left
            · intro W hSw
              have u0 := Old.cell hSw v0
              have u1 := Old.cell hSw v1
              have u2 := Old.cell hSw v2
              have u3 := Old.cell hSw v3
              have u4 := Old.cell hSw v4
              have u5 := Old.cell hSw v5
              have u6 := Old.cell hSw v6
              clear hSw
              simp only [qqa, qqb, qqc]
              go_simp
              all_goals with_reducible rfl
            simp only [qqa, qqb, qqc, Act.put, qqd, qqe, qqf]
            refine' wpAnyH_take (i := 26) rfl (by kernel_rfl) (by kernel_rfl) (by kernel_rfl) (fun _ _ _ h => h) (Or.inl ⟨by rfl, ?_⟩) hHeld ?_
            rotate_left
            · intro W hSw
              have u0 := Old.cell hSw v0
              have u1 := Old.cell hSw v1
              have u2 := Old.cell hSw v2
              have u3 := Old.cell hSw v3
              have u4 := Old.cell hSw v4
              have u5 := Old.cell hSw v5
              have u6 := Old.cell hSw v6
              clear hSw
              simp only [qqa, qqb, qqc]
              go_simp
              all_goals with_reducible rfl
            simp only [qqa, qqb, qqc, Act.put, qqd, qqe, qqf]
            refine' wpAnyH_take (i := 27) rfl (by kernel_rfl) (by kernel_rfl) (by kernel_rfl) (fun _ _ _ h => h) (Or.inl ⟨by rfl, ?_⟩) hHeld ?_
            rotate_left
            · intro W hSw
              have u0 := Old.cell hSw v0
              have u1 := Old.cell hSw v1
              have u2 := Old.cell hSw v2
              have u3 := Old.cell hSw v3
              have u4 := Old.cell hSw v4
              have u5 := Old.cell hSw v5
              have u6 := Old.cell hSw v6
              clear hSw
              simp only [qqa, qqb, qqc]
              go_simp
              all_goals with_reducible rfl
            simp only [qqa, qqb, qqc, Act.put, qqd, qqe, qqf]
            refine' wpAnyH_take (i := 28) rfl (by kernel_rfl) (by kernel_rfl) (by kernel_rfl) (fun _ _ _ h => h) (Or.inl ⟨by rfl, ?_⟩) hHeld ?_
            rotate_left
            · intro W hSw
              have u0 := Old.cell hSw v0
              have u1 := Old.cell hSw v1
              have u2 := Old.cell hSw v2
              have u3 := Old.cell hSw v3
              have u4 := Old.cell hSw v4
              have u5 := Old.cell hSw v5
              have u6 := Old.cell hSw v6
              clear hSw
              simp only [qqa, qqb, qqc]
              go_simp
              all_goals with_reducible rfl
            simp only [qqa, qqb, qqc, Act.put, qqd, qqe, qqf]
            refine' wpAnyH_take (i := 29) rfl (by kernel_rfl) (by kernel_rfl) (by kernel_rfl) (fun _ _ _ h => h) (Or.inl ⟨by rfl, ?_⟩) hHeld ?_
            rotate_left
            · intro W hSw
              have u0 := Old.cell hSw v0
              have u1 := Old.cell hSw v1
              have u2 := Old.cell hSw v2
              have u3 := Old.cell hSw v3
              have u4 := Old.cell hSw v4
              have u5 := Old.cell hSw v5
              have u6 := Old.cell hSw v6
              clear hSw
              simp only [qqa, qqb, qqc]
              go_simp
              all_goals with_reducible rfl
            simp only [qqa, qqb, qqc, Act.put, qqd, qqe, qqf]
            refine' wpAnyH_take (i := 30) rfl (by kernel_rfl) (by kernel_rfl) (by kernel_rfl) (fun _ _ _ h => h) (Or.inl ⟨by rfl, ?_⟩) hHeld ?_
            rotate_left
            · intro W hSw
              have u0 := Old.cell hSw v0
              have u1 := Old.cell hSw v1
              have u2 := Old.cell hSw v2
              have u3 := Old.cell hSw v3
              have u4 := Old.cell hSw v4
              have u5 := Old.cell hSw v5
              have u6 := Old.cell hSw v6
              clear hSw
              simp only [qqa, qqb, qqc]
              go_simp
              all_goals with_reducible rfl
            simp only [qqa, qqb, qqc, Act.put, qqd, qqe, qqf]
            refine' wpAnyH_take (i := 31) rfl (by kernel_rfl) (by kernel_rfl) (by kernel_rfl) (fun _ _ _ h => h) (Or.inl ⟨by rfl, ?_⟩) hHeld ?_
            rotate_left
            · intro W hSw
              have u0 := Old.cell hSw v0
              have u1 := Old.cell hSw v1
              have u2 := Old.cell hSw v2
              have u3 := Old.cell hSw v3
              have u4 := Old.cell hSw v4
              have u5 := Old.cell hSw v5
              have u6 := Old.cell hSw v6
              clear hSw
              simp only [qqa, qqb, qqc]
              go_simp
              all_goals with_reducible rfl
            simp only [qqa, qqb, qqc, Act.put, qqd, qqe, qqf]
            refine' wpAnyH_take (i := 32) rfl (by kernel_rfl) (by kernel_rfl) (by kernel_rfl) (fun _ _ _ h => h) (Or.inl ⟨by rfl, ?_⟩) hHeld ?_
            rotate_left
            · intro W hSw
              have u0 := Old.cell hSw v0
              have u1 := Old.cell hSw v1
              have u2 := Old.cell hSw v2
              have u3 := Old.cell hSw v3
              have u4 := Old.cell hSw v4
              have u5 := Old.cell hSw v5
              have u6 := Old.cell hSw v6
              clear hSw
              simp only [qqa, qqb, qqc]
              go_simp
              all_goals with_reducible rfl
            simp only [qqa, qqb, qqc, Act.put, qqd, qqe, qqf]
            refine' wpAnyH_take (i := 33) rfl (by kernel_rfl) (by kernel_rfl) (by kernel_rfl) (fun _ _ _ h => h) (Or.inl ⟨by rfl, ?_⟩) hHeld ?_
            rotate_left
            · intro W hSw
              have u0 := Old.cell hSw v0
              have u1 := Old.cell hSw v1
              have u2 := Old.cell hSw v2
              have u3 := Old.cell hSw v3
              have u4 := Old.cell hSw v4
              have u5 := Old.cell hSw v5
              have u6 := Old.cell hSw v6
              clear hSw
              simp only [qqa, qqb, qqc]
              go_simp
              all_goals with_reducible rfl
            simp only [qqa, qqb, qqc, Act.put, qqd, qqe, qqf]
            refine' wpAnyH_take (i := 34) rfl (by kernel_rfl) (by kernel_rfl) (by kernel_rfl) (fun _ _ _ h => h) (Or.inl ⟨by rfl, ?_⟩) hHeld ?_
            rotate_left
            · intro W hSw
              have u0 := Old.cell hSw v0
              have u1 := Old.cell hSw v1
              have u2 := Old.cell hSw v2
              have u3 := Old.cell hSw v3
              have u4 := Old.cell hSw v4
              have u5 := Old.cell hSw v5
              have u6 := Old.cell hSw v6
              clear hSw
              simp only [qqa, qqb, qqc]
              go_simp
              all_goals with_reducible rfl
            simp only [qqa, qqb, qqc, Act.put, qqd, qqe, qqf]
            refine' wpAnyH_take (i := 35) rfl (by kernel_rfl) (by kernel_rfl) (by kernel_rfl) (fun _ _ _ h => h) (Or.inl ⟨by rfl, ?_⟩) hHeld ?_
            rotate_left
            · intro W hSw
              have u0 := Old.cell hSw v0
              have u1 := Old.cell hSw v1
              have u2 := Old.cell hSw v2
              have u3 := Old.cell hSw v3
              have u4 := Old.cell hSw v4
              have u5 := Old.cell hSw v5
              have u6 := Old.cell hSw v6
              clear hSw
              simp only [qqa, qqb, qqc]
              go_simp
              all_goals with_reducible rfl
            simp only [qqa, qqb, qqc, Act.put, qqd, qqe, qqf]
            refine' wpAnyH_take (i := 36) rfl (by kernel_rfl) (by kernel_rfl) (by kernel_rfl) (fun _ _ _ h => h) (Or.inl ⟨by rfl, ?_⟩) hHeld ?_
            rotate_left
            · intro W hSw
              have u0 := Old.cell hSw v0
              have u1 := Old.cell hSw v1
              have u2 := Old.cell hSw v2
              have u3 := Old.cell hSw v3
              have u4 := Old.cell hSw v4
              have u5 := Old.cell hSw v5
              have u6 := Old.cell hSw v6
              clear hSw
              simp only [qqa, qqb, qqc]
              go_simp
              all_goals with_reducible rfl
            simp only [qqa, qqb, qqc, Act.put, qqd, qqe, qqf]
            refine' wpAnyH_take (i := 37) rfl (by kernel_rfl) (by kernel_rfl) (by kernel_rfl) (fun _ _ _ h => h) (Or.inl ⟨by rfl, ?_⟩) hHeld ?_
            rotate_left
            · intro W hSw
              have u0 := Old.cell hSw v0
              have u1 := Old.cell hSw v1
              have u2 := Old.cell hSw v2
              have u3 := Old.cell hSw v3
              have u4 := Old.cell hSw v4
              have u5 := Old.cell hSw v5
              have u6 := Old.cell hSw v6
              clear hSw
              simp only [qqa, qqb, qqc]
              go_simp
              all_goals with_reducible rfl
            simp only [qqa, qqb, qqc, Act.put, qqd, qqe, qqf]
            refine' wpAnyH_take (i := 38) rfl (by kernel_rfl) (by kernel_rfl) (by kernel_rfl) (fun _ _ _ h => h) (Or.inl ⟨by rfl, ?_⟩) hHeld ?_
            rotate_left
            · intro W hSw
              have u0 := Old.cell hSw v0
              have u1 := Old.cell hSw v1
              have u2 := Old.cell hSw v2
              have u3 := Old.cell hSw v3
              have u4 := Old.cell hSw v4
              have u5 := Old.cell hSw v5
              have u6 := Old.cell hSw v6
              clear hSw
              simp only [qqa, qqb, qqc]
              go_simp
              all_goals with_reducible rfl
            simp only [qqa, qqb, qqc, Act.put, qqd, qqe, qqf]
            refine' wpAnyH_take (i := 39) rfl (by kernel_rfl) (by kernel_rfl) (by kernel_rfl) (fun _ _ _ h => h) (Or.inl ⟨by rfl, ?_⟩) hHeld ?_
            rotate_left
            · intro W hSw
              have u0 := Old.cell hSw v0
              have u1 := Old.cell hSw v1
              have u2 := Old.cell hSw v2
              have u3 := Old.cell hSw v3
              have u4 := Old.cell hSw v4
              have u5 := Old.cell hSw v5
              have u6 := Old.cell hSw v6
              clear hSw
              simp only [qqa, qqb, qqc]
              go_simp
              all_goals with_reducible rfl
            simp only [qqa, qqb, qqc, Act.put, qqd, qqe, qqf]
            refine' wpAnyH_take (i := 40) rfl (by kernel_rfl) (by kernel_rfl) (by kernel_rfl) (fun _ _ _ h => h) (Or.inl ⟨by rfl, ?_⟩) hHeld ?_
            rotate_left
            · intro W hSw
              have u0 := Old.cell hSw v0
              have u1 := Old.cell hSw v1
              have u2 := Old.cell hSw v2
              have u3 := Old.cell hSw v3
              have u4 := Old.cell hSw v4
              have u5 := Old.cell hSw v5
              have u6 := Old.cell hSw v6
              clear hSw
              simp only [qqa, qqb, qqc]
              go_simp
              all_goals with_reducible rfl
            simp only [qqa, qqb, qqc, Act.put, qqd, qqe, qqf]
            refine' wpAnyH_take (i := 41) rfl (by kernel_rfl) (by kernel_rfl) (by kernel_rfl) (fun _ _ _ h => h) (Or.inl ⟨by rfl, ?_⟩) hHeld ?_
            rotate_left
            · intro W hSw
              have u0 := Old.cell hSw v0
              have u1 := Old.cell hSw v1
              have u2 := Old.cell hSw v2
              have u3 := Old.cell hSw v3
              have u4 := Old.cell hSw v4
              have u5 := Old.cell hSw v5
              have u6 := Old.cell hSw v6
              clear hSw
              simp only [qqa, qqb, qqc]
              go_simp
              all_goals with_reducible rfl
            simp only [qqa, qqb, qqc, Act.put, qqd, qqe, qqf]
            refine' wpAnyH_take (i := 42) rfl (by kernel_rfl) (by kernel_rfl) (by kernel_rfl) (fun _ _ _ h => h) (Or.inl ⟨by rfl, ?_⟩) hHeld ?_
            rotate_left
            · intro W hSw
              have u0 := Old.cell hSw v0
              have u1 := Old.cell hSw v1
              have u2 := Old.cell hSw v2
              have u3 := Old.cell hSw v3
              have u4 := Old.cell hSw v4
              have u5 := Old.cell hSw v5
              have u6 := Old.cell hSw v6
              clear hSw
              simp only [qqa, qqb, qqc]
              go_simp
              all_goals with_reducible rfl
            simp only [qqa, qqb, qqc, Act.put, qqd, qqe, qqf]
            refine' wpAnyH_take (i := 43) rfl (by kernel_rfl) (by kernel_rfl) (by kernel_rfl) (fun _ _ _ h => h) (Or.inl ⟨by rfl, ?_⟩) hHeld ?_
            rotate_left
            · intro W hSw
              have u0 := Old.cell hSw v0
              have u1 := Old.cell hSw v1
              have u2 := Old.cell hSw v2
              have u3 := Old.cell hSw v3
              have u4 := Old.cell hSw v4
              have u5 := Old.cell hSw v5
              have u6 := Old.cell hSw v6
              clear hSw
              simp only [qqa, qqb, qqc]
              go_simp
              all_goals with_reducible rfl
            simp only [qqa, qqb, qqc, Act.put, qqd, qqe, qqf]
            refine' wpAnyH_take (i := 44) rfl (by kernel_rfl) (by kernel_rfl) (by kernel_rfl) (fun _ _ _ h => h) (Or.inl ⟨by rfl, ?_⟩) hHeld ?_
            rotate_left
            · intro W hSw
              have u0 := Old.cell hSw v0
              have u1 := Old.cell hSw v1
              have u2 := Old.cell hSw v2
              have u3 := Old.cell hSw v3
              have u4 := Old.cell hSw v4
              have u5 := Old.cell hSw v5
              have u6 := Old.cell hSw v6
              clear hSw
              simp only [qqa, qqb, qqc]
              go_simp
              all_goals with_reducible rfl
            simp only [qqa, qqb, qqc, Act.put, qqd, qqe, qqf]
            refine' wpAnyH_take (i := 45) rfl (by kernel_rfl) (by kernel_rfl) (by kernel_rfl) (fun _ _ _ h => h) (Or.inr ⟨by rfl, rfl⟩) hHeld ?_
            simp only [qqa, qqb, qqc, Act.put, qqd, qqe, qqf]
            refine' wpAnyH_take (i := 46) rfl (by kernel_rfl) (by kernel_rfl) (by kernel_rfl) (fun _ _ _ h => h) (Or.inr ⟨by rfl, rfl⟩) hHeld ?_
            simp only [qqa, qqb, qqc, Act.put, qqd, qqe, qqf]
            refine' wpAnyH_take (i := 47) rfl (by kernel_rfl) (by kernel_rfl) (by kernel_rfl) (fun _ _ _ h => h) (Or.inr ⟨by rfl, rfl⟩) hHeld ?_
            simp only [qqa, qqb, qqc, Act.put, qqd, qqe, qqf]
            refine' wpAnyH_take (i := 48) rfl (by kernel_rfl) (by kernel_rfl) (by kernel_rfl) (fun _ _ _ h => h) (Or.inl ⟨by rfl, ?_⟩) hHeld ?_
            rotate_left
            · intro W hSw
              have u0 := Old.cell hSw v0
              have u1 := Old.cell hSw v1
              have u2 := Old.cell hSw v2
              have u3 := Old.cell hSw v3
              have u4 := Old.cell hSw v4
              have u5 := Old.cell hSw v5
              have u6 := Old.cell hSw v6
              clear hSw
              simp only [qqa, qqb, qqc]
              go_simp
              all_goals with_reducible rfl
            simp only [qqa, qqb, qqc, Act.put, qqd, qqe, qqf]
            refine' wpAnyH_take (i := 49) rfl (by kernel_rfl) (by kernel_rfl) (by kernel_rfl) (fun _ _ _ h => h) (Or.inl ⟨by rfl, ?_⟩) hHeld ?_
            rotate_left
            · intro W hSw
              have u0 := Old.cell hSw v0
              have u1 := Old.cell hSw v1
              have u2 := Old.cell hSw v2
              have u3 := Old.cell hSw v3
              have u4 := Old.cell hSw v4
              have u5 := Old.cell hSw v5
              have u6 := Old.cell hSw v6
              clear hSw
              simp only [qqa, qqb, qqc]
              go_simp
              all_goals with_reducible rfl
            simp only [qqa, qqb, qqc, Act.put, qqd, qqe, qqf]
            refine' wpAnyH_take (i := 50) rfl (by kernel_rfl) (by kernel_rfl) (by kernel_rfl) (fun _ _ _ h => h) (Or.inl ⟨by rfl, ?_⟩) hHeld ?_
            rotate_left
            · intro W hSw
              have u0 := Old.cell hSw v0
              have u1 := Old.cell hSw v1
              have u2 := Old.cell hSw v2
              have u3 := Old.cell hSw v3
              have u4 := Old.cell hSw v4
              have u5 := Old.cell hSw v5
              have u6 := Old.cell hSw v6
              clear hSw
              simp only [qqa, qqb, qqc]
              go_simp
              all_goals with_reducible rfl
            simp only [qqa, qqb, qqc, Act.put, qqd, qqe, qqf]
            refine' wpAnyH_take (i := 51) rfl (by kernel_rfl) (by kernel_rfl) (by kernel_rfl) (fun _ _ _ h => h) (Or.inl ⟨by rfl, ?_⟩) hHeld ?_
            rotate_left
            · intro W hSw
              have u0 := Old.cell hSw v0
              have u1 := Old.cell hSw v1
              have u2 := Old.cell hSw v2
              have u3 := Old.cell hSw v3
              have u4 := Old.cell hSw v4
              have u5 := Old.cell hSw v5
              have u6 := Old.cell hSw v6
              clear hSw
              simp only [qqa, qqb, qqc]
              go_simp
              all_goals with_reducible rfl
            simp only [qqa, qqb, qqc, Act.put, qqd, qqe, qqf]
            refine wpAnyH_done (by kernel_rfl) ?_ _
            refine NoPanic.normal ?_
            exact midZ_end (T := fun z w' => z 181 = .bool false ∧ Old WC w') (by kernel_rfl) ⟨rfl, hHeld⟩
          · have hmq : ((m : Int) != (N : Int)) = true := by simp only [bne_iff_ne, ne_eq]; omega
            have hml : ((m : Int) != leave) = false := by rw [(kfm.out.resolve_left hmn).2]; simp
            refine wp_region_noPanic ?_
            refine wp_region_held_drew (S := fun X => Old WC X) (by kernel_rfl) ((Old.refl WC).drewN 1) (fun hHeld => ?_)
            generalize WC.drew = V0 at *
            refine' wpAnyH_take (i := 0) rfl (by kernel_rfl) (by kernel_rfl) (by kernel_rfl) (fun _ _ _ h => h) (Or.inl ⟨by rfl, ?_⟩) hHeld ?_
            rotate_left
            · intro W hSw
              have u0 := Old.cell hSw v0
              clear hSw
              simp only [List.getElem_toArray, List.getElem_cons_zero]
              go_simp
              all_goals with_reducible rfl
            simp only [qqa, qqb, Act.put, qqd, qqe, qqf]
            refine' wpAnyH_take (i := 1) rfl (by kernel_rfl) (by kernel_rfl) (by kernel_rfl) (fun _ _ _ h => h) (Or.inl ⟨by rfl, ?_⟩) hHeld ?_
            rotate_left
            · intro W hSw
              have u0 := Old.cell hSw v0
              have u1 := Old.cell hSw v1
              have u2 := Old.cell hSw v2
              have u3 := Old.cell hSw v3
              have u4 := Old.cell hSw v4
              have u5 := Old.cell hSw v5
              have u6 := Old.cell hSw v6
              clear hSw
              simp only [qqa, qqb, qqc]
              go_simp
              all_goals with_reducible rfl
            simp only [qqa, qqb, qqc, Act.put, qqd, qqe, qqf]
            refine' wpAnyH_take (i := 2) rfl (by kernel_rfl) (by kernel_rfl) (by kernel_rfl) (fun _ _ _ h => h) (Or.inl ⟨by rfl, ?_⟩) hHeld ?_
            rotate_left
            · intro W hSw
              have u0 := Old.cell hSw v0
              have u1 := Old.cell hSw v1
              have u2 := Old.cell hSw v2
              have u3 := Old.cell hSw v3
              have u4 := Old.cell hSw v4
              have u5 := Old.cell hSw v5
              have u6 := Old.cell hSw v6
              clear hSw
              simp only [qqa, qqb, qqc]
              go_simp
              all_goals with_reducible rfl
            simp only [qqa, qqb, qqc, Act.put, qqd, qqe, qqf]
            refine' wpAnyH_take (i := 3) rfl (by kernel_rfl) (by kernel_rfl) (by kernel_rfl) (fun _ _ _ h => h) (Or.inr ⟨by rfl, rfl⟩) hHeld ?_
            simp only [qqa, qqb, qqc, Act.put, qqd, qqe, qqf]
            refine' wpAnyH_take (i := 4) rfl (by kernel_rfl) (by kernel_rfl) (by kernel_rfl) (fun _ _ _ h => h) (Or.inr ⟨by rfl, rfl⟩) hHeld ?_
            simp only [qqa, qqb, qqc, Act.put, qqd, qqe, qqf]
            refine' wpAnyH_take (i := 5) rfl (by kernel_rfl) (by kernel_rfl) (by kernel_rfl) (fun _ _ _ h => h) (Or.inr ⟨by rfl, rfl⟩) hHeld ?_
            simp only [qqa, qqb, qqc, Act.put, qqd, qqe, qqf]
            refine' wpAnyH_take (i := 6) rfl (by kernel_rfl) (by kernel_rfl) (by kernel_rfl) (fun _ _ _ h => h) (Or.inr ⟨by rfl, rfl⟩) hHeld ?_
            simp only [qqa, qqb, qqc, Act.put, qqd, qqe, qqf]
            refine' wpAnyH_take (i := 7) rfl (by kernel_rfl) (by kernel_rfl) (by kernel_rfl) (fun _ _ _ h => h) (Or.inr ⟨by rfl, rfl⟩) hHeld ?_
            simp only [qqa, qqb, qqc, Act.put, qqd, qqe, qqf]
            refine' wpAnyH_take (i := 8) rfl (by kernel_rfl) (by kernel_rfl) (by kernel_rfl) (fun _ _ _ h => h) (Or.inr ⟨by rfl, rfl⟩) hHeld ?_
            simp only [qqa, qqb, qqc, Act.put, qqd, qqe, qqf]
            refine' wpAnyH_take (i := 9) rfl (by kernel_rfl) (by kernel_rfl) (by kernel_rfl) (fun _ _ _ h => h) (Or.inr ⟨by rfl, rfl⟩) hHeld ?_
            simp only [qqa, qqb, qqc, Act.put, qqd, qqe, qqf]
            refine' wpAnyH_take (i := 10) rfl (by kernel_rfl) (by kernel_rfl) (by kernel_rfl) (fun _ _ _ h => h) (Or.inr ⟨by rfl, rfl⟩) hHeld ?_
            simp only [qqa, qqb, qqc, Act.put, qqd, qqe, qqf]
            refine' wpAnyH_take (i := 11) rfl (by kernel_rfl) (by kernel_rfl) (by kernel_rfl) (fun _ _ _ h => h) (Or.inr ⟨by rfl, rfl⟩) hHeld ?_
            simp only [qqa, qqb, qqc, Act.put, qqd, qqe, qqf]
            refine' wpAnyH_take (i := 12) rfl (by kernel_rfl) (by kernel_rfl) (by kernel_rfl) (fun _ _ _ h => h) (Or.inr ⟨by rfl, rfl⟩) hHeld ?_
            simp only [qqa, qqb, qqc, Act.put, qqd, qqe, qqf]
            refine' wpAnyH_take (i := 13) rfl (by kernel_rfl) (by kernel_rfl) (by kernel_rfl) (fun _ _ _ h => h) (Or.inr ⟨by rfl, rfl⟩) hHeld ?_
            simp only [qqa, qqb, qqc, Act.put, qqd, qqe, qqf]
            refine' wpAnyH_take (i := 14) rfl (by kernel_rfl) (by kernel_rfl) (by kernel_rfl) (fun _ _ _ h => h) (Or.inr ⟨by rfl, rfl⟩) hHeld ?_
            simp only [qqa, qqb, qqc, Act.put, qqd, qqe, qqf]
            refine' wpAnyH_take (i := 15) rfl (by kernel_rfl) (by kernel_rfl) (by kernel_rfl) (fun _ _ _ h => h) (Or.inr ⟨by rfl, rfl⟩) hHeld ?_
            simp only [qqa, qqb, qqc, Act.put, qqd, qqe, qqf]
            refine' wpAnyH_take (i := 16) rfl (by kernel_rfl) (by kernel_rfl) (by kernel_rfl) (fun _ _ _ h => h) (Or.inr ⟨by rfl, rfl⟩) hHeld ?_
            simp only [qqa, qqb, qqc, Act.put, qqd, qqe, qqf]
            refine' wpAnyH_take (i := 17) rfl (by kernel_rfl) (by kernel_rfl) (by kernel_rfl) (fun _ _ _ h => h) (Or.inr ⟨by rfl, rfl⟩) hHeld ?_
            simp only [qqa, qqb, qqc, Act.put, qqd, qqe, qqf]
            refine' wpAnyH_take (i := 18) rfl (by kernel_rfl) (by kernel_rfl) (by kernel_rfl) (fun _ _ _ h => h) (Or.inr ⟨by rfl, rfl⟩) hHeld ?_
            simp only [qqa, qqb, qqc, Act.put, qqd, qqe, qqf]
            refine' wpAnyH_take (i := 19) rfl (by kernel_rfl) (by kernel_rfl) (by kernel_rfl) (fun _ _ _ h => h) (Or.inl ⟨by rfl, ?_⟩) hHeld ?_
            rotate_left
            · intro W hSw
              have u0 := Old.cell hSw v0
              have u1 := Old.cell hSw v1
              have u2 := Old.cell hSw v2
              have u3 := Old.cell hSw v3
              have u4 := Old.cell hSw v4
              have u5 := Old.cell hSw v5
              have u6 := Old.cell hSw v6
              clear hSw
              simp only [qqa, qqb, qqc]
              go_simp
              all_goals with_reducible rfl
            simp only [qqa, qqb, qqc, Act.put, qqd, qqe, qqf]
            refine' wpAnyH_take (i := 20) rfl (by kernel_rfl) (by kernel_rfl) (by kernel_rfl) (fun _ _ _ h => h) (Or.inl ⟨by rfl, ?_⟩) hHeld ?_
            rotate_left
            · intro W hSw
              have u0 := Old.cell hSw v0
              have u1 := Old.cell hSw v1
              have u2 := Old.cell hSw v2
              have u3 := Old.cell hSw v3
              have u4 := Old.cell hSw v4
              have u5 := Old.cell hSw v5
              have u6 := Old.cell hSw v6
              clear hSw
              simp only [qqa, qqb, qqc]
              go_simp
              all_goals with_reducible rfl
            simp only [qqa, qqb, qqc, Act.put, qqd, qqe, qqf]
            refine' wpAnyH_take (i := 21) rfl (by kernel_rfl) (by kernel_rfl) (by kernel_rfl) (fun _ _ _ h => h) (Or.inl ⟨by rfl, ?_⟩) hHeld ?_
            rotate_left
            · intro W hSw
              have u0 := Old.cell hSw v0
              have u1 := Old.cell hSw v1
              have u2 := Old.cell hSw v2
              have u3 := Old.cell hSw v3
              have u4 := Old.cell hSw v4
              have u5 := Old.cell hSw v5
              have u6 := Old.cell hSw v6
              clear hSw
              simp only [qqa, qqb, qqc]
              go_simp
              all_goals with_reducible rfl
            simp only [qqa, qqb, qqc, Act.put, qqd, qqe, qqf]
            refine' wpAnyH_take (i := 22) rfl (by kernel_rfl) (by kernel_rfl) (by kernel_rfl) (fun _ _ _ h => h) (Or.inl ⟨by rfl, ?_⟩) hHeld ?_
            rotate_left
            · intro W hSw
              have u0 := Old.cell hSw v0
              have u1 := Old.cell hSw v1
              have u2 := Old.cell hSw v2
              have u3 := Old.cell hSw v3
              have u4 := Old.cell hSw v4
              have u5 := Old.cell hSw v5
              have u6 := Old.cell hSw v6
              clear hSw
              simp only [qqa, qqb, qqc]
              go_simp
              all_goals with_reducible rfl
            simp only [qqa, qqb, qqc, Act.put, qqd, qqe, qqf]
            refine' wpAnyH_take (i := 23) rfl (by kernel_rfl) (by kernel_rfl) (by kernel_rfl) (fun _ _ _ h => h) (Or.inl ⟨by rfl, ?_⟩) hHeld ?_
            rotate_left
            · intro W hSw
              have u0 := Old.cell hSw v0
              have u1 := Old.cell hSw v1
              have u2 := Old.cell hSw v2
              have u3 := Old.cell hSw v3
              have u4 := Old.cell hSw v4
              have u5 := Old.cell hSw v5
              have u6 := Old.cell hSw v6
              clear hSw
              simp only [qqa, qqb, qqc]
              go_simp
              all_goals with_reducible rfl
            simp only [qqa, qqb, qqc, Act.put, qqd, qqe, qqf]
            refine' wpAnyH_take (i := 24) rfl (by kernel_rfl) (by kernel_rfl) (by kernel_rfl) (fun _ _ _ h => h) (Or.inl ⟨by rfl, ?_⟩) hHeld ?_
            rotate_left
            · intro W hSw
              have u0 := Old.cell hSw v0
              have u1 := Old.cell hSw v1
              have u2 := Old.cell hSw v2
              have u3 := Old.cell hSw v3
              have u4 := Old.cell hSw v4
              have u5 := Old.cell hSw v5
              have u6 := Old.cell hSw v6
              clear hSw
              simp only [qqa, qqb, qqc]
              go_simp
              all_goals with_reducible rfl
            simp only [qqa, qqb, qqc, Act.put, qqd, qqe, qqf]
            refine' wpAnyH_take (i := 25) rfl (by kernel_rfl) (by kernel_rfl) (by kernel_rfl) (fun _ _ _ h => h) (Or.inl ⟨by rfl, ?_⟩) hHeld ?_
            rotate_left
            · intro W hSw
              have u0 := Old.cell hSw v0
              have u1 := Old.cell hSw v1
              have u2 := Old.cell hSw v2
              have u3 := Old.cell hSw v3
              have u4 := Old.cell hSw v4
              have u5 := Old.cell hSw v5
              have u6 := Old.cell hSw v6
              clear hSw
              simp only [qqa, qqb, qqc]
              go_simp
              all_goals with_reducible rfl
            simp only [qqa, qqb, qqc, Act.put, qqd, qqe, qqf]
            refine' wpAnyH_take (i := 26) rfl (by kernel_rfl) (by kernel_rfl) (by kernel_rfl) (fun _ _ _ h => h) (Or.inl ⟨by rfl, ?_⟩) hHeld ?_
            rotate_left
            · intro W hSw
              have u0 := Old.cell hSw v0
              have u1 := Old.cell hSw v1
              have u2 := Old.cell hSw v2
              have u3 := Old.cell hSw v3
              have u4 := Old.cell hSw v4
              have u5 := Old.cell hSw v5
              have u6 := Old.cell hSw v6
              clear hSw
              simp only [qqa, qqb, qqc]
              go_simp
              all_goals with_reducible rfl
            simp only [qqa, qqb, qqc, Act.put, qqd, qqe, qqf]
            refine' wpAnyH_take (i := 27) rfl (by kernel_rfl) (by kernel_rfl) (by kernel_rfl) (fun _ _ _ h => h) (Or.inl ⟨by rfl, ?_⟩) hHeld ?_
            rotate_left
            · intro W hSw
              have u0 := Old.cell hSw v0
              have u1 := Old.cell hSw v1
              have u2 := Old.cell hSw v2
              have u3 := Old.cell hSw v3
              have u4 := Old.cell hSw v4
              have u5 := Old.cell hSw v5
              have u6 := Old.cell hSw v6
              clear hSw
              simp only [qqa, qqb, qqc]
              go_simp
              all_goals with_reducible rfl
            simp only [qqa, qqb, qqc, Act.put, qqd, qqe, qqf]
            refine' wpAnyH_take (i := 28) rfl (by kernel_rfl) (by kernel_rfl) (by kernel_rfl) (fun _ _ _ h => h) (Or.inl ⟨by rfl, ?_⟩) hHeld ?_
            rotate_left
            · intro W hSw
              have u0 := Old.cell hSw v0
              have u1 := Old.cell hSw v1
              have u2 := Old.cell hSw v2
              have u3 := Old.cell hSw v3
              have u4 := Old.cell hSw v4
              have u5 := Old.cell hSw v5
              have u6 := Old.cell hSw v6
              clear hSw
              simp only [qqa, qqb, qqc]
              go_simp
              all_goals with_reducible rfl
            simp only [qqa, qqb, qqc, Act.put, qqd, qqe, qqf]
            refine' wpAnyH_take (i := 29) rfl (by kernel_rfl) (by kernel_rfl) (by kernel_rfl) (fun _ _ _ h => h) (Or.inl ⟨by rfl, ?_⟩) hHeld ?_
            rotate_left
            · intro W hSw
              have u0 := Old.cell hSw v0
              have u1 := Old.cell hSw v1
              have u2 := Old.cell hSw v2
              have u3 := Old.cell hSw v3
              have u4 := Old.cell hSw v4
              have u5 := Old.cell hSw v5
              have u6 := Old.cell hSw v6
              clear hSw
              simp only [qqa, qqb, qqc]
              go_simp
              all_goals with_reducible rfl
            simp only [qqa, qqb, qqc, Act.put, qqd, qqe, qqf]
            refine' wpAnyH_take (i := 30) rfl (by kernel_rfl) (by kernel_rfl) (by kernel_rfl) (fun _ _ _ h => h) (Or.inl ⟨by rfl, ?_⟩) hHeld ?_
            rotate_left
            · intro W hSw
              have u0 := Old.cell hSw v0
              have u1 := Old.cell hSw v1
              have u2 := Old.cell hSw v2
              have u3 := Old.cell hSw v3
              have u4 := Old.cell hSw v4
              have u5 := Old.cell hSw v5
              have u6 := Old.cell hSw v6
              clear hSw
              simp only [qqa, qqb, qqc]
              go_simp
              all_goals with_reducible rfl
            simp only [qqa, qqb, qqc, Act.put, qqd, qqe, qqf]
            refine' wpAnyH_take (i := 31) rfl (by kernel_rfl) (by kernel_rfl) (by kernel_rfl) (fun _ _ _ h => h) (Or.inl ⟨by rfl, ?_⟩) hHeld ?_
            rotate_left
            · intro W hSw
              have u0 := Old.cell hSw v0
              have u1 := Old.cell hSw v1
              have u2 := Old.cell hSw v2
              have u3 := Old.cell hSw v3
              have u4 := Old.cell hSw v4
              have u5 := Old.cell hSw v5
              have u6 := Old.cell hSw v6
              clear hSw
              simp only [qqa, qqb, qqc]
              go_simp
              all_goals with_reducible rfl
            simp only [qqa, qqb, qqc, Act.put, qqd, qqe, qqf]
            refine' wpAnyH_take (i := 32) rfl (by kernel_rfl) (by kernel_rfl) (by kernel_rfl) (fun _ _ _ h => h) (Or.inl ⟨by rfl, ?_⟩) hHeld ?_
            rotate_left
            · intro W hSw
              have u0 := Old.cell hSw v0
              have u1 := Old.cell hSw v1
              have u2 := Old.cell hSw v2
              have u3 := Old.cell hSw v3
              have u4 := Old.cell hSw v4
              have u5 := Old.cell hSw v5
              have u6 := Old.cell hSw v6
              clear hSw
              simp only [qqa, qqb, qqc]
              go_simp
              all_goals with_reducible rfl
            simp only [qqa, qqb, qqc, Act.put, qqd, qqe, qqf]
            refine' wpAnyH_take (i := 33) rfl (by kernel_rfl) (by kernel_rfl) (by kernel_rfl) (fun _ _ _ h => h) (Or.inl ⟨by rfl, ?_⟩) hHeld ?_
            rotate_left
            · intro W hSw
              have u0 := Old.cell hSw v0
              have u1 := Old.cell hSw v1
              have u2 := Old.cell hSw v2
              have u3 := Old.cell hSw v3
              have u4 := Old.cell hSw v4
              have u5 := Old.cell hSw v5
              have u6 := Old.cell hSw v6
              clear hSw
              simp only [qqa, qqb, qqc]
              go_simp
              all_goals with_reducible rfl
            simp only [qqa, qqb, qqc, Act.put, qqd, qqe, qqf]
            refine' wpAnyH_take (i := 34) rfl (by kernel_rfl) (by kernel_rfl) (by kernel_rfl) (fun _ _ _ h => h) (Or.inl ⟨by rfl, ?_⟩) hHeld ?_
            rotate_left
            · intro W hSw
              have u0 := Old.cell hSw v0
              have u1 := Old.cell hSw v1
              have u2 := Old.cell hSw v2
              have u3 := Old.cell hSw v3
              have u4 := Old.cell hSw v4
              have u5 := Old.cell hSw v5
              have u6 := Old.cell hSw v6
              clear hSw
              simp only [qqa, qqb, qqc]
              go_simp
              all_goals with_reducible rfl
            simp only [qqa, qqb, qqc, Act.put, qqd, qqe, qqf]
            refine' wpAnyH_take (i := 35) rfl (by kernel_rfl) (by kernel_rfl) (by kernel_rfl) (fun _ _ _ h => h) (Or.inl ⟨by rfl, ?_⟩) hHeld ?_
            rotate_left
            · intro W hSw
              have u0 := Old.cell hSw v0
              have u1 := Old.cell hSw v1
              have u2 := Old.cell hSw v2
              have u3 := Old.cell hSw v3
              have u4 := Old.cell hSw v4
              have u5 := Old.cell hSw v5
              have u6 := Old.cell hSw v6
              clear hSw
              simp only [qqa, qqb, qqc]
              go_simp
              all_goals with_reducible rfl
            simp only [qqa, qqb, qqc, Act.put, qqd, qqe, qqf]
            refine' wpAnyH_take (i := 36) rfl (by kernel_rfl) (by kernel_rfl) (by kernel_rfl) (fun _ _ _ h => h) (Or.inl ⟨by rfl, ?_⟩) hHeld ?_
            rotate_left
            · intro W hSw
              have u0 := Old.cell hSw v0
              have u1 := Old.cell hSw v1
              have u2 := Old.cell hSw v2
              have u3 := Old.cell hSw v3
              have u4 := Old.cell hSw v4
              have u5 := Old.cell hSw v5
              have u6 := Old.cell hSw v6
              clear hSw
              simp only [qqa, qqb, qqc]
              go_simp
              all_goals with_reducible rfl
            simp only [qqa, qqb, qqc, Act.put, qqd, qqe, qqf]
            refine' wpAnyH_take (i := 37) rfl (by kernel_rfl) (by kernel_rfl) (by kernel_rfl) (fun _ _ _ h => h) (Or.inl ⟨by rfl, ?_⟩) hHeld ?_
            rotate_left
            · intro W hSw
              have u0 := Old.cell hSw v0
              have u1 := Old.cell hSw v1
              have u2 := Old.cell hSw v2
              have u3 := Old.cell hSw v3
              have u4 := Old.cell hSw v4
              have u5 := Old.cell hSw v5
              have u6 := Old.cell hSw v6
              clear hSw
              simp only [qqa, qqb, qqc]
              go_simp
              all_goals with_reducible rfl
            simp only [qqa, qqb, qqc, Act.put, qqd, qqe, qqf]
            refine' wpAnyH_take (i := 38) rfl (by kernel_rfl) (by kernel_rfl) (by kernel_rfl) (fun _ _ _ h => h) (Or.inl ⟨by rfl, ?_⟩) hHeld ?_
            rotate_left
            · intro W hSw
              have u0 := Old.cell hSw v0
              have u1 := Old.cell hSw v1
              have u2 := Old.cell hSw v2
              have u3 := Old.cell hSw v3
              have u4 := Old.cell hSw v4
              have u5 := Old.cell hSw v5
              have u6 := Old.cell hSw v6
              clear hSw
              simp only [qqa, qqb, qqc]
              go_simp
              all_goals with_reducible rfl
            simp only [qqa, qqb, qqc, Act.put, qqd, qqe, qqf]
            refine' wpAnyH_take (i := 39) rfl (by kernel_rfl) (by kernel_rfl) (by kernel_rfl) (fun _ _ _ h => h) (Or.inl ⟨by rfl, ?_⟩) hHeld ?_
            rotate_left
            · intro W hSw
              have u0 := Old.cell hSw v0
              have u1 := Old.cell hSw v1
              have u2 := Old.cell hSw v2
              have u3 := Old.cell hSw v3
              have u4 := Old.cell hSw v4
              have u5 := Old.cell hSw v5
              have u6 := Old.cell hSw v6
              clear hSw
              simp only [qqa, qqb, qqc]
              go_simp
              all_goals with_reducible rfl
            simp only [qqa, qqb, qqc, Act.put, qqd, qqe, qqf]
            refine' wpAnyH_take (i := 40) rfl (by kernel_rfl) (by kernel_rfl) (by kernel_rfl) (fun _ _ _ h => h) (Or.inl ⟨by rfl, ?_⟩) hHeld ?_
            rotate_left
            · intro W hSw
              have u0 := Old.cell hSw v0
              have u1 := Old.cell hSw v1
              have u2 := Old.cell hSw v2
              have u3 := Old.cell hSw v3
              have u4 := Old.cell hSw v4
              have u5 := Old.cell hSw v5
              have u6 := Old.cell hSw v6
              clear hSw
              simp only [qqa, qqb, qqc]
              go_simp
              all_goals with_reducible rfl
            simp only [qqa, qqb, qqc, Act.put, qqd, qqe, qqf]
            refine' wpAnyH_take (i := 41) rfl (by kernel_rfl) (by kernel_rfl) (by kernel_rfl) (fun _ _ _ h => h) (Or.inl ⟨by rfl, ?_⟩) hHeld ?_
            rotate_left
            · intro W hSw
              have u0 := Old.cell hSw v0
              have u1 := Old.cell hSw v1
              have u2 := Old.cell hSw v2
              have u3 := Old.cell hSw v3
              have u4 := Old.cell hSw v4
              have u5 := Old.cell hSw v5
              have u6 := Old.cell hSw v6
              clear hSw
              simp only [qqa, qqb, qqc]
              go_simp
              all_goals with_reducible rfl
            simp only [qqa, qqb, qqc, Act.put, qqd, qqe, qqf]
            refine' wpAnyH_take (i := 42) rfl (by kernel_rfl) (by kernel_rfl) (by kernel_rfl) (fun _ _ _ h => h) (Or.inl ⟨by rfl, ?_⟩) hHeld ?_
            rotate_left
            · intro W hSw
              have u0 := Old.cell hSw v0
              have u1 := Old.cell hSw v1
              have u2 := Old.cell hSw v2
              have u3 := Old.cell hSw v3
              have u4 := Old.cell hSw v4
              have u5 := Old.cell hSw v5
              have u6 := Old.cell hSw v6
              clear hSw
              simp only [qqa, qqb, qqc]
              go_simp
              all_goals with_reducible rfl
            simp only [qqa, qqb, qqc, Act.put, qqd, qqe, qqf]
            refine' wpAnyH_take (i := 43) rfl (by kernel_rfl) (by kernel_rfl) (by kernel_rfl) (fun _ _ _ h => h) (Or.inl ⟨by rfl, ?_⟩) hHeld ?_
            rotate_left
            · intro W hSw
              have u0 := Old.cell hSw v0
              have u1 := Old.cell hSw v1
              have u2 := Old.cell hSw v2
              have u3 := Old.cell hSw v3
              have u4 := Old.cell hSw v4
              have u5 := Old.cell hSw v5
              have u6 := Old.cell hSw v6
              clear hSw
              simp only [qqa, qqb, qqc]
              go_simp
              all_goals with_reducible rfl
            simp only [qqa, qqb, qqc, Act.put, qqd, qqe, qqf]
            refine' wpAnyH_take (i := 44) rfl (by kernel_rfl) (by kernel_rfl) (by kernel_rfl) (fun _ _ _ h => h) (Or.inl ⟨by rfl, ?_⟩) hHeld ?_
            rotate_left
            · intro W hSw
              have u0 := Old.cell hSw v0
              have u1 := Old.cell hSw v1
              have u2 := Old.cell hSw v2
              have u3 := Old.cell hSw v3
              have u4 := Old.cell hSw v4
              have u5 := Old.cell hSw v5
              have u6 := Old.cell hSw v6
              clear hSw
              simp only [qqa, qqb, qqc]
              go_simp
              all_goals with_reducible rfl
            simp only [qqa, qqb, qqc, Act.put, qqd, qqe, qqf]
            refine' wpAnyH_take (i := 45) rfl (by kernel_rfl) (by kernel_rfl) (by kernel_rfl) (fun _ _ _ h => h) (Or.inl ⟨by rfl, ?_⟩) hHeld ?_
            rotate_left
            · intro W hSw
              have u0 := Old.cell hSw v0
              have u1 := Old.cell hSw v1
              have u2 := Old.cell hSw v2
              have u3 := Old.cell hSw v3
              have u4 := Old.cell hSw v4
              have u5 := Old.cell hSw v5
              have u6 := Old.cell hSw v6
              clear hSw
              simp only [qqa, qqb, qqc]
              go_simp
              all_goals with_reducible rfl
            simp only [qqa, qqb, qqc, Act.put, qqd, qqe, qqf]
            refine' wpAnyH_take (i := 46) rfl (by kernel_rfl) (by kernel_rfl) (by kernel_rfl) (fun _ _ _ h => h) (Or.inl ⟨by rfl, ?_⟩) hHeld ?_
            rotate_left
            · intro W hSw
              have u0 := Old.cell hSw v0
              have u1 := Old.cell hSw v1
              have u2 := Old.cell hSw v2
              have u3 := Old.cell hSw v3
              have u4 := Old.cell hSw v4
              have u5 := Old.cell hSw v5
              have u6 := Old.cell hSw v6
              clear hSw
              simp only [qqa, qqb, qqc]
              go_simp
              all_goals with_reducible rfl
            simp only [qqa, qqb, qqc, Act.put, qqd, qqe, qqf]
            refine' wpAnyH_take (i := 47) rfl (by kernel_rfl) (by kernel_rfl) (by kernel_rfl) (fun _ _ _ h => h) (Or.inl ⟨by rfl, ?_⟩) hHeld ?_
            rotate_left
            · intro W hSw
              have u0 := Old.cell hSw v0
              have u1 := Old.cell hSw v1
              have u2 := Old.cell hSw v2
              have u3 := Old.cell hSw v3
              have u4 := Old.cell hSw v4
              have u5 := Old.cell hSw v5
              have u6 := Old.cell hSw v6
              clear hSw
              simp only [qqa, qqb, qqc]
              go_simp
              all_goals with_reducible rfl
            simp only [qqa, qqb, qqc, Act.put, qqd, qqe, qqf]
            refine' wpAnyH_take (i := 48) rfl (by kernel_rfl) (by kernel_rfl) (by kernel_rfl) (fun _ _ _ h => h) (Or.inl ⟨by rfl, ?_⟩) hHeld ?_
            rotate_left
            · intro W hSw
              have u0 := Old.cell hSw v0
              have u1 := Old.cell hSw v1
              have u2 := Old.cell hSw v2
              have u3 := Old.cell hSw v3
              have u4 := Old.cell hSw v4
              have u5 := Old.cell hSw v5
              have u6 := Old.cell hSw v6
              clear hSw
              simp only [qqa, qqb, qqc]
              go_simp
              all_goals with_reducible rfl
            simp only [qqa, qqb, qqc, Act.put, qqd, qqe, qqf]
            refine' wpAnyH_take (i := 49) rfl (by kernel_rfl) (by kernel_rfl) (by kernel_rfl) (fun _ _ _ h => h) (Or.inl ⟨by rfl, ?_⟩) hHeld ?_
            rotate_left
            · intro W hSw
              have u0 := Old.cell hSw v0
              have u1 := Old.cell hSw v1
              have u2 := Old.cell hSw v2
              have u3 := Old.cell hSw v3
              have u4 := Old.cell hSw v4
              have u5 := Old.cell hSw v5
              have u6 := Old.cell hSw v6
              clear hSw
              simp only [qqa, qqb, qqc]
              go_simp
              all_goals with_reducible rfl
            simp only [qqa, qqb, qqc, Act.put, qqd, qqe, qqf]
            refine' wpAnyH_take (i := 50) rfl (by kernel_rfl) (by kernel_rfl) (by kernel_rfl) (fun _ _ _ h => h) (Or.inl ⟨by rfl, ?_⟩) hHeld ?_
            rotate_left
            · intro W hSw
              have u0 := Old.cell hSw v0
              have u1 := Old.cell hSw v1
              have u2 := Old.cell hSw v2
              have u3 := Old.cell hSw v3
              have u4 := Old.cell hSw v4
              have u5 := Old.cell hSw v5
              have u6 := Old.cell hSw v6
              clear hSw
              simp only [qqa, qqb, qqc]
              go_simp
              all_goals with_reducible rfl
            simp only [qqa, qqb, qqc, Act.put, qqd, qqe, qqf]
            refine' wpAnyH_take (i := 51) rfl (by kernel_rfl) (by kernel_rfl) (by kernel_rfl) (fun _ _ _ h => h) (Or.inl ⟨by rfl, ?_⟩) hHeld ?_
            rotate_left
            · intro W hSw
              have u0 := Old.cell hSw v0
              have u1 := Old.cell hSw v1
              have u2 := Old.cell hSw v2
              have u3 := Old.cell hSw v3
              have u4 := Old.cell hSw v4
              have u5 := Old.cell hSw v5
              have u6 := Old.cell hSw v6
              clear hSw
              simp only [qqa, qqb, qqc]
              go_simp
              all_goals with_reducible rfl
            simp only [qqa, qqb, qqc, Act.put, qqd, qqe, qqf]
            refine wpAnyH_done (by kernel_rfl) ?_ _
            refine NoPanic.normal ?_
            exact midZ_end (T := fun z w' => z 181 = .bool false ∧ Old WC w') (by kernel_rfl) ⟨rfl, hHeld⟩
      case h26 =>
        rintro z V0 ⟨hz, hHeld⟩
        simp only [setsZ, List.foldl_cons, List.foldl_nil, List.setIfInBounds_toArray, List.set_cons_zero, List.set_cons_succ]
        rw [hz]
        have kSD := hid (kSC.out.olds hHeld)
        clear hHeld hz v0 v1 v2 v3 v4 v5 v6 kSC kfk kfm
        have v0 := kSD.out.s.turn.cell
        go_wp2_with fail
        rw [rounds_succ]
        have hbt' : W2.heap.size ≤ V0.heap.size := kSD.out.s.t.oW.size
        have fbt := hid (Boxed.new V0 3 (.int .i64 1))
        have oA : Old V0 (V0.alloc (.cells #[.int .i64 1] 3)) := (Old.refl V0).alloc _
        have kT9 := hid (kSD.out.s.t.olds oA)
        have km9 := hid (mk_frm kSD.out.ms oA (fun _ _ e => e))
        have hz9 : Hid ((V0.alloc (.cells #[.int .i64 1] 3)).heap.size = V0.heap.size + 1) := alloc_size _ _
        clear oA kSD v0
        generalize V0.alloc (.cells #[.int .i64 1] 3) = W9 at *
        generalize V0.heap.size = bt at *
        have bc0 := fbt.out.cell
        go_wp2_with fail
        have hzA : Hid (((W9.alloc (.cells #[.int .i64 0] 3)).alloc (.cells #[.int .i64 0] 3)).heap.size = bt + 1 + 1 + 1) := by
          show _ = _
          rw [alloc_size, alloc_size, hz9.out]
        have oA : Old W9 ((W9.alloc (.cells #[.int .i64 0] 3)).alloc (.cells #[.int .i64 0] 3)) := ((Old.refl W9).alloc _).alloc _
        have kbx := hid (boxed_two W9 (.int .i64 0) (.int .i64 0) 3 3)
        rw [hz9.out] at kbx ⊢
        have kS0 : Hid (TM [D2, D1] rb leave W2 s0 bt (bt + 1) (bt + 1 + 1) 1 0 0 ((W9.alloc (.cells #[.int .i64 0] 3)).alloc (.cells #[.int .i64 0] 3))) := ⟨⟨boxed_olds fbt.out oA, kbx.out.1, kbx.out.2, kT9.out.olds oA⟩, mk_frm km9.out oA (fun _ _ e => e)⟩
        clear oA kbx bc0 fbt kT9 km9
        generalize (W9.alloc (.cells #[.int .i64 0] 3)).alloc (.cells #[.int .i64 0] 3) = WA at *
        have h5 : bt < bt + 1 := by omega
        have h6 : bt + 1 < bt + 1 + 1 := by omega
        generalize bt + 1 = kb at *
        generalize kb + 1 = mb at *
        have hacs := hid (kAc.out.old kS0.out.s.t.oW)
        have e1 := hzA.out
        have kLs : Hid (∀ r ∈ ([D2, D1] : List Nat), r < WA.heap.size) := hid (fun r hr => (Array.getElem?_eq_some_iff.1 (kS0.out.ms r hr)).1)
        refine range_joinNb (n := 5) (by omega) (gf := 64) (lb := #[.pointer (some ⟨a1, 0, none⟩), .pointer (some ⟨a2, 0, none⟩)]) rfl (enters_of Try.func64 (by kernel_rfl) rfl)
          (accounts2_N 4 (by omega) a1 a2 a0 am x.v x.L x.A kk.out.len kk.out.oka (fun nm hm => by
            have hc := kk.out.chk nm hm
            unfold chkZ at hc
            split at hc
            · omega
            · cases hc) (fun k => k = kb) WA hacs.out (fun k h e => by omega) ?t1 ?t2 ?t3 ?t4)
          (fun h k => h.trans k) (fun W o => KeptM.old ((Old.refl W).alloc o)) (fun W o o' h1 h2 => KeptM.put o' ?t5 h1 h2) (fun _ => rfl) 2
          (fun q Y => ∃ k, k ≤ n ∧ q = (acL x.L x.A).take k ∧ TM [D2, D1] rb leave W2 s0 bt kb mb 1 k 0 Y)
          (fun q Y => ∃ k : Nat, TM [D2, D1] rb leave W2 s0 bt kb mb 1 k 0 Y ∧ ((1 : Int) = 0 ∧ (k : Int) = leave))
          (fun q Y => ∃ k : Nat, TM [D2, D1] rb leave W2 s0 bt kb mb 1 k 0 Y ∧ FinJ 1 leave n k)
          ?i1 ?i2 ⟨0, Nat.zero_le _, by simp, kS0.out⟩
          (fun y => .cells #[.string ⟨y.2.1.toArray⟩, .int .i64 y.2.2.1, .int .i64 y.2.2.2] 82)
          (fun y mm t => (((t.setIfInBounds 58 (.int .i64 (y.1 : Int))).setIfInBounds 59 (.agg #[.string ⟨y.2.1.toArray⟩, .int .i64 y.2.2.1, .int .i64 y.2.2.2])).setIfInBounds 14 (.int .i64 (y.1 : Int))).setIfInBounds 15 (.pointer (some ⟨mm, 0, none⟩)))
          ?assign1 ?body1 ?fin1 ?fin2 ?hQ1 ?end1
        case t1 =>
          have : a1 < W2.heap.size := World.block_lt_of_cell? W2 _ kAc.out.c1
          omega
        case t2 =>
          have : a2 < W2.heap.size := World.block_lt_of_cell? W2 _ kAc.out.c2
          omega
        case t3 =>
          have : a0 < W2.heap.size := World.block_lt_of_cell? W2 _ kAc.out.c0
          omega
        case t4 =>
          intro q hq e
          have := hxa.out q (Or.inr (Or.inr (Or.inr (Or.inr (Or.inr (Or.inr (Or.inl hq)))))))
          have := kls.out
          omega
        case t5 =>
          have := kAc.out.am.lt
          omega
        case i1 =>
          rintro p X Y ⟨k, h1, h2, h3⟩ hf
          exact ⟨k, h1, h2, h3.far hf (fun b e => by omega) (fun r hr e => by have := kLs.out r hr; omega) kls.out hbt' (by omega) (by omega)⟩
        case i2 =>
          rintro p X Y ⟨k, h3, h4⟩ hf
          exact ⟨k, h3.far hf (fun b e => by omega) (fun r hr e => by have := kLs.out r hr; omega) kls.out hbt' (by omega) (by omega), h4⟩
        case assign1 =>
          intro l p y W K hpre hK
          simp only [encA]
          simp only [List.setIfInBounds_toArray, List.set_cons_zero, List.set_cons_succ] at hK
          have kK := hid hK
          clear hK
          gi_wp2_with fail
          exact kK.out
        case body1 =>
          rintro l p y mm Y ⟨k, hk1, hp, hS⟩ ⟨k', hk', hpk⟩ hmm hml
          obtain ⟨hlt, rfl, hnext⟩ := acL_at (by rw [kn.out]; exact hk1) hk' hp hpk
          dsimp only at hmm
          have kS := hid hS
          have hkA : k < x.A.length := by rw [← kk.out.len]; exact hlt
          have kdd := hid (fun X (o : Old Y X) => dacc_good rb D x.L B P k X ((kd2.out.old hS.s.t.oW).old o) hlt (by rw [kB0.out, List.length_map]; exact kk.out.len.symm) (by have := kPn.out; omega) kok.out)
          have hBk : B.getD k 0 = (x.A.getD k (0, 0)).1 := by rw [kB0.out, getD_get (by rw [List.length_map]; exact hkA), getD_get hkA, List.getElem_map]
          have hof : ofN P x.L[k] = (x.A.getD k (0, 0)).2 := by rw [khas.out k hkA, getD_get hlt]
          rw [hBk, hof] at kdd
          rw [show x.L[k] = x.L.getD k [] from (getD_get hlt).symm] at kdd
          rw [kn.out] at hlt
          obtain ⟨nm, hnm⟩ : ∃ nm, x.L.getD k [] = nm := ⟨_, rfl⟩
          obtain ⟨⟨c1, c2⟩, hc⟩ : ∃ c, x.A.getD k (0, 0) = c := ⟨_, rfl⟩
          rw [hnm, hc] at hnext hmm kdd ⊢
          dsimp only at hmm kdd ⊢
          have knext := hid hnext
          have kmm := hid hmm
          have r0 := hS.s.t.r.cell
          have k0 := hS.s.kk.cell
          have hkI : (k : Int) < (n : Int) := by omega
          clear hnext hpk hp hS hBk hof hnm hc hmm
          simp only [List.setIfInBounds_toArray, List.set_cons_zero, List.set_cons_succ]
          gi_wp2_with fail
          refine ⟨trivial, ?_⟩
          refine (CallsIn.inRound l (callsIn_wide.2 (kdd.out Y (Old.refl Y)))).mono ?_
          rintro e Y1 ⟨rfl, o1⟩
          have oz : Old Y1 (Y1.alloc (.cells #[.string ⟨nm.toArray⟩, .int .i64 c1, .int .i64 c2] 82)) := (Old.refl Y1).alloc _
          have kY2 := hid (o1.trans oz)
          have kw := hid (heap_new Y1 (.cells #[.string ⟨nm.toArray⟩, .int .i64 c1, .int .i64 c2] 82))
          clear r0 k0 o1 oz kdd
          gi_wp2_with fail
          generalize Y1.alloc (.cells #[.string ⟨nm.toArray⟩, .int .i64 c1, .int .i64 c2] 82) = Y2 at *
          generalize Y1.heap.size = wm at *
          have hm2 := (kY2.out.block mm (blk_lt kmm.out) (fun h => h)).trans kmm.out
          have v0 := blk_cells (i := 0) hm2 rfl
          have v1 := blk_cells (i := 1) hm2 rfl
          have v2 := blk_cells (i := 2) hm2 rfl
          have v3 := blk_cells (i := 0) kw.out rfl
          have v4 := blk_cells (i := 1) kw.out rfl
          have v5 := blk_cells (i := 2) kw.out rfl
          simp only [qqa, qqb, qqc] at v0 v1 v2 v3 v4 v5
          have kS2 := hid (kS.out.olds kY2.out)
          have v6 := kS2.out.s.kk.cell
          have v7 := kS2.out.s.t.r.cell
          obtain ⟨nv, lv, qv, hb, ⟨no, nc, rfl, -⟩, -, -⟩ := kd2.out.old kS2.out.s.t.oW
          have v8 : Y2.cell? ⟨rb, 0, none⟩ = some (.slice no x.L.length nc) := blk_cells hb rfl
          rw [kn.out] at v8
          have hq1 : ((k : Int) != (k : Int)) = false := by simp
          have hq2 : decide (n ≤ k) = false := by simp; omega
          have hq3 : (c1 == c1) = true := by simp
          have hq4 : (c2 == c2) = true := by simp
          clear hb hm2 kw kmm
          refine region_round (S := fun X => Old Y2 X) (by kernel_rfl) (by kernel_rfl) ((Old.refl Y2).drewN 1) (fun hHeld => ?_)
          generalize Y2.drew = V0 at *
          refine' wpAnyH_take (i := 0) rfl (by kernel_rfl) (by kernel_rfl) (by kernel_rfl) (fun _ _ _ h => h) (Or.inl ⟨by rfl, ?_⟩) hHeld ?_
          rotate_left
          · intro W hSw
            simp only [List.getElem_toArray, List.getElem_cons_zero]
            go_simp
            all_goals with_reducible rfl
          simp only [qqa, qqb, Act.put, qqd, qqe, qqf]
          refine' wpAnyH_take (i := 1) rfl (by kernel_rfl) (by kernel_rfl) (by kernel_rfl) (fun _ _ _ h => h) (Or.inl ⟨by rfl, ?_⟩) hHeld ?_
          rotate_left
          · intro W hSw
            have u0 := Old.cell hSw v0
            have u1 := Old.cell hSw v1
            have u2 := Old.cell hSw v2
            have u3 := Old.cell hSw v3
            have u4 := Old.cell hSw v4
            have u5 := Old.cell hSw v5
            have u6 := Old.cell hSw v6
            have u7 := Old.cell hSw v7
            have u8 := Old.cell hSw v8
            clear hSw
            simp only [qqa, qqb, qqc]
            go_simp
            all_goals with_reducible rfl
          simp only [qqa, qqb, qqc, Act.put, qqd, qqe, qqf]
          refine' wpAnyH_take (i := 2) rfl (by kernel_rfl) (by kernel_rfl) (by kernel_rfl) (fun _ _ _ h => h) (Or.inl ⟨by rfl, ?_⟩) hHeld ?_
          rotate_left
          · intro W hSw
            have u0 := Old.cell hSw v0
            have u1 := Old.cell hSw v1
            have u2 := Old.cell hSw v2
            have u3 := Old.cell hSw v3
            have u4 := Old.cell hSw v4
            have u5 := Old.cell hSw v5
            have u6 := Old.cell hSw v6
            have u7 := Old.cell hSw v7
            have u8 := Old.cell hSw v8
            clear hSw
            simp only [qqa, qqb, qqc]
            go_simp
            all_goals with_reducible rfl
          simp only [qqa, qqb, qqc, Act.put, qqd, qqe, qqf]
          refine' wpAnyH_take (i := 3) rfl (by kernel_rfl) (by kernel_rfl) (by kernel_rfl) (fun _ _ _ h => h) (Or.inl ⟨by rfl, ?_⟩) hHeld ?_
          rotate_left
          · intro W hSw
            have u0 := Old.cell hSw v0
            have u1 := Old.cell hSw v1
            have u2 := Old.cell hSw v2
            have u3 := Old.cell hSw v3
            have u4 := Old.cell hSw v4
            have u5 := Old.cell hSw v5
            have u6 := Old.cell hSw v6
            have u7 := Old.cell hSw v7
            have u8 := Old.cell hSw v8
            clear hSw
            simp only [qqa, qqb, qqc]
            go_simp
            all_goals with_reducible rfl
          simp only [qqa, qqb, qqc, Act.put, qqd, qqe, qqf]
          refine' wpAnyH_take (i := 4) rfl (by kernel_rfl) (by kernel_rfl) (by kernel_rfl) (fun _ _ _ h => h) (Or.inl ⟨by rfl, ?_⟩) hHeld ?_
          rotate_left
          · intro W hSw
            have u0 := Old.cell hSw v0
            have u1 := Old.cell hSw v1
            have u2 := Old.cell hSw v2
            have u3 := Old.cell hSw v3
            have u4 := Old.cell hSw v4
            have u5 := Old.cell hSw v5
            have u6 := Old.cell hSw v6
            have u7 := Old.cell hSw v7
            have u8 := Old.cell hSw v8
            clear hSw
            simp only [qqa, qqb, qqc]
            go_simp
            all_goals with_reducible rfl
          simp only [qqa, qqb, qqc, Act.put, qqd, qqe, qqf]
          refine' wpAnyH_take (i := 5) rfl (by kernel_rfl) (by kernel_rfl) (by kernel_rfl) (fun _ _ _ h => h) (Or.inl ⟨by rfl, ?_⟩) hHeld ?_
          rotate_left
          · intro W hSw
            have u0 := Old.cell hSw v0
            have u1 := Old.cell hSw v1
            have u2 := Old.cell hSw v2
            have u3 := Old.cell hSw v3
            have u4 := Old.cell hSw v4
            have u5 := Old.cell hSw v5
            have u6 := Old.cell hSw v6
            have u7 := Old.cell hSw v7
            have u8 := Old.cell hSw v8
            clear hSw
            simp only [qqa, qqb, qqc]
            go_simp
            all_goals with_reducible rfl
          simp only [qqa, qqb, qqc, Act.put, qqd, qqe, qqf]
          refine' wpAnyH_take (i := 6) rfl (by kernel_rfl) (by kernel_rfl) (by kernel_rfl) (fun _ _ _ h => h) (Or.inl ⟨by rfl, ?_⟩) hHeld ?_
          rotate_left
          · intro W hSw
            have u0 := Old.cell hSw v0
            have u1 := Old.cell hSw v1
            have u2 := Old.cell hSw v2
            have u3 := Old.cell hSw v3
            have u4 := Old.cell hSw v4
            have u5 := Old.cell hSw v5
            have u6 := Old.cell hSw v6
            have u7 := Old.cell hSw v7
            have u8 := Old.cell hSw v8
            clear hSw
            simp only [qqa, qqb, qqc]
            go_simp
            all_goals with_reducible rfl
          simp only [qqa, qqb, qqc, Act.put, qqd, qqe, qqf]
          refine' wpAnyH_take (i := 7) rfl (by kernel_rfl) (by kernel_rfl) (by kernel_rfl) (fun _ _ _ h => h) (Or.inl ⟨by rfl, ?_⟩) hHeld ?_
          rotate_left
          · intro W hSw
            have u0 := Old.cell hSw v0
            have u1 := Old.cell hSw v1
            have u2 := Old.cell hSw v2
            have u3 := Old.cell hSw v3
            have u4 := Old.cell hSw v4
            have u5 := Old.cell hSw v5
            have u6 := Old.cell hSw v6
            have u7 := Old.cell hSw v7
            have u8 := Old.cell hSw v8
            clear hSw
            simp only [qqa, qqb, qqc]
            go_simp
            all_goals with_reducible rfl
          simp only [qqa, qqb, qqc, Act.put, qqd, qqe, qqf]
          refine' wpAnyH_take (i := 8) rfl (by kernel_rfl) (by kernel_rfl) (by kernel_rfl) (fun _ _ _ h => h) (Or.inl ⟨by rfl, ?_⟩) hHeld ?_
          rotate_left
          · intro W hSw
            have u0 := Old.cell hSw v0
            have u1 := Old.cell hSw v1
            have u2 := Old.cell hSw v2
            have u3 := Old.cell hSw v3
            have u4 := Old.cell hSw v4
            have u5 := Old.cell hSw v5
            have u6 := Old.cell hSw v6
            have u7 := Old.cell hSw v7
            have u8 := Old.cell hSw v8
            clear hSw
            simp only [qqa, qqb, qqc]
            go_simp
            all_goals with_reducible rfl
          simp only [qqa, qqb, qqc, Act.put, qqd, qqe, qqf]
          refine' wpAnyH_take (i := 9) rfl (by kernel_rfl) (by kernel_rfl) (by kernel_rfl) (fun _ _ _ h => h) (Or.inl ⟨by rfl, ?_⟩) hHeld ?_
          rotate_left
          · intro W hSw
            have u0 := Old.cell hSw v0
            have u1 := Old.cell hSw v1
            have u2 := Old.cell hSw v2
            have u3 := Old.cell hSw v3
            have u4 := Old.cell hSw v4
            have u5 := Old.cell hSw v5
            have u6 := Old.cell hSw v6
            have u7 := Old.cell hSw v7
            have u8 := Old.cell hSw v8
            clear hSw
            simp only [qqa, qqb, qqc]
            go_simp
            all_goals with_reducible rfl
          simp only [qqa, qqb, qqc, Act.put, qqd, qqe, qqf]
          refine' wpAnyH_take (i := 10) rfl (by kernel_rfl) (by kernel_rfl) (by kernel_rfl) (fun _ _ _ h => h) (Or.inl ⟨by rfl, ?_⟩) hHeld ?_
          rotate_left
          · intro W hSw
            have u0 := Old.cell hSw v0
            have u1 := Old.cell hSw v1
            have u2 := Old.cell hSw v2
            have u3 := Old.cell hSw v3
            have u4 := Old.cell hSw v4
            have u5 := Old.cell hSw v5
            have u6 := Old.cell hSw v6
            have u7 := Old.cell hSw v7
            have u8 := Old.cell hSw v8
            clear hSw
            simp only [qqa, qqb, qqc]
            go_simp
            all_goals with_reducible rfl
          simp only [qqa, qqb, qqc, Act.put, qqd, qqe, qqf]
          refine' wpAnyH_take (i := 11) rfl (by kernel_rfl) (by kernel_rfl) (by kernel_rfl) (fun _ _ _ h => h) (Or.inl ⟨by rfl, ?_⟩) hHeld ?_
          rotate_left
          · intro W hSw
            have u0 := Old.cell hSw v0
            have u1 := Old.cell hSw v1
            have u2 := Old.cell hSw v2
            have u3 := Old.cell hSw v3
            have u4 := Old.cell hSw v4
            have u5 := Old.cell hSw v5
            have u6 := Old.cell hSw v6
            have u7 := Old.cell hSw v7
            have u8 := Old.cell hSw v8
            clear hSw
            simp only [qqa, qqb, qqc]
            go_simp
            all_goals with_reducible rfl
          simp only [qqa, qqb, qqc, Act.put, qqd, qqe, qqf]
          refine' wpAnyH_take (i := 12) rfl (by kernel_rfl) (by kernel_rfl) (by kernel_rfl) (fun _ _ _ h => h) (Or.inl ⟨by rfl, ?_⟩) hHeld ?_
          rotate_left
          · intro W hSw
            have u0 := Old.cell hSw v0
            have u1 := Old.cell hSw v1
            have u2 := Old.cell hSw v2
            have u3 := Old.cell hSw v3
            have u4 := Old.cell hSw v4
            have u5 := Old.cell hSw v5
            have u6 := Old.cell hSw v6
            have u7 := Old.cell hSw v7
            have u8 := Old.cell hSw v8
            clear hSw
            simp only [qqa, qqb, qqc]
            go_simp
            all_goals with_reducible rfl
          simp only [qqa, qqb, qqc, Act.put, qqd, qqe, qqf]
          refine' wpAnyH_take (i := 13) rfl (by kernel_rfl) (by kernel_rfl) (by kernel_rfl) (fun _ _ _ h => h) (Or.inl ⟨by rfl, ?_⟩) hHeld ?_
          rotate_left
          · intro W hSw
            have u0 := Old.cell hSw v0
            have u1 := Old.cell hSw v1
            have u2 := Old.cell hSw v2
            have u3 := Old.cell hSw v3
            have u4 := Old.cell hSw v4
            have u5 := Old.cell hSw v5
            have u6 := Old.cell hSw v6
            have u7 := Old.cell hSw v7
            have u8 := Old.cell hSw v8
            clear hSw
            simp only [qqa, qqb, qqc]
            go_simp
            all_goals with_reducible rfl
          simp only [qqa, qqb, qqc, Act.put, qqd, qqe, qqf]
          refine' wpAnyH_take (i := 14) rfl (by kernel_rfl) (by kernel_rfl) (by kernel_rfl) (fun _ _ _ h => h) (Or.inl ⟨by rfl, ?_⟩) hHeld ?_
          rotate_left
          · intro W hSw
            have u0 := Old.cell hSw v0
            have u1 := Old.cell hSw v1
            have u2 := Old.cell hSw v2
            have u3 := Old.cell hSw v3
            have u4 := Old.cell hSw v4
            have u5 := Old.cell hSw v5
            have u6 := Old.cell hSw v6
            have u7 := Old.cell hSw v7
            have u8 := Old.cell hSw v8
            clear hSw
            simp only [qqa, qqb, qqc]
            go_simp
            all_goals with_reducible rfl
          simp only [qqa, qqb, qqc, Act.put, qqd, qqe, qqf]
          refine' wpAnyH_take (i := 15) rfl (by kernel_rfl) (by kernel_rfl) (by kernel_rfl) (fun _ _ _ h => h) (Or.inl ⟨by rfl, ?_⟩) hHeld ?_
          rotate_left
          · intro W hSw
            have u0 := Old.cell hSw v0
            have u1 := Old.cell hSw v1
            have u2 := Old.cell hSw v2
            have u3 := Old.cell hSw v3
            have u4 := Old.cell hSw v4
            have u5 := Old.cell hSw v5
            have u6 := Old.cell hSw v6
            have u7 := Old.cell hSw v7
            have u8 := Old.cell hSw v8
            clear hSw
            simp only [qqa, qqb, qqc]
            go_simp
            all_goals with_reducible rfl
          simp only [qqa, qqb, qqc, Act.put, qqd, qqe, qqf]
          refine' wpAnyH_take (i := 16) rfl (by kernel_rfl) (by kernel_rfl) (by kernel_rfl) (fun _ _ _ h => h) (Or.inl ⟨by rfl, ?_⟩) hHeld ?_
          rotate_left
          · intro W hSw
            have u0 := Old.cell hSw v0
            have u1 := Old.cell hSw v1
            have u2 := Old.cell hSw v2
            have u3 := Old.cell hSw v3
            have u4 := Old.cell hSw v4
            have u5 := Old.cell hSw v5
            have u6 := Old.cell hSw v6
            have u7 := Old.cell hSw v7
            have u8 := Old.cell hSw v8
            clear hSw
            simp only [qqa, qqb, qqc]
            go_simp
            all_goals with_reducible rfl
          simp only [qqa, qqb, qqc, Act.put, qqd, qqe, qqf]
          refine wpAnyH_done (by kernel_rfl) ?_ _
          refine OnlyN.normal ?_
          have kYV := hid (kY2.out.trans hHeld)
          have kS3 := hid (kS2.out.olds hHeld)
          clear hHeld v0 v1 v2 v3 v4 v5 v6 v7 v8 hq1 hq2 hq3 hq4 kS2 kY2
          have x0 := kS3.out.s.kk.cell
          have x1 := kS3.out.s.kk.frozen
          have x2 := kS3.out.s.turn.cell
          have hk9 : (k : Int) ≤ 1099511627776 := by have := kk.out.oka.len; have := kk.out.len; have := kn.out; omega
          have hfx := frm_set V0 kb 0 (.int .i64 ((k : Int) + 1))
          have y1 := (boxed_frm kS3.out.s.t.lea hfx (by have := kls.out; omega)).cell
          have y2 := (boxed_frm kS3.out.s.turn hfx (by omega)).cell
          have knx := hid (kS3.out.nextk kls.out hbt' h5 h6)
          have kkf : Hid (KeepsFrom WA.heap.size Y (V0.setCell ⟨kb, 0, none⟩ (.int .i64 ((k : Int) + 1)))) := (keeps_old kYV.out).trans (keeps_box _ (by omega))
          have kkm : Hid (KeptM (fun k => k = kb) am Y (V0.setCell ⟨kb, 0, none⟩ (.int .i64 ((k : Int) + 1)))) := (KeptM.old kYV.out).trans ⟨KeptC.of_frm hfx, fun hm => hfx.block am hm (by have := kAc.out.am.lt; omega)⟩
          clear hfx
          gi_wp2_with fail
          exact ⟨kkf.out, kkm.out, k + 1, by omega, knext.out, knx.out⟩
        case fin1 =>
          rintro q W hq ⟨k, h1, h2, h3⟩
          refine ⟨k, h3, Or.inl ?_⟩
          have := congrArg List.length (h2.symm.trans hq)
          rw [List.length_take, acL_len, kn.out] at this
          omega
        case fin2 =>
          rintro q W - ⟨k, h3, h4⟩
          exact ⟨k, h3, Or.inr h4⟩
        case hQ1 =>
          intro b W h
          exact inBlock_both (Or.inr rfl) h
        case end1 =>
          rintro D3 q WB hD3 ⟨k, hTM, hfin⟩ hK3
          have hd32 : D2 < D3 := by have := kLs.out D2 (by simp); omega
          have hkn : k = n := hfin.resolve_right (fun h => by have := h.1; omega)
          have kS0 : Hid (TM [D3, D2, D1] rb leave W2 s0 bt kb mb 1 k 0 WB) := ⟨hTM.s, fun r hr => by
            rcases List.mem_cons.1 hr with rfl | hr
            · exact hK3
            · exact hTM.ms r hr⟩
          clear hTM hfin hK3
          refine inBlock_both (Or.inl rfl) ?_
          dsimp only
          go_wp2_with fail
          have kLs : Hid (∀ r ∈ ([D3, D2, D1] : List Nat), r < WB.heap.size) := hid (fun r hr => (Array.getElem?_eq_some_iff.1 (kS0.out.ms r hr)).1)
          have hLd := hid (kh2.out.old kS0.out.s.t.oW)
          have hc1 := hid (kS0.out.s.t.oW.cell kp1.out)
          have hc2 := hid (kS0.out.s.t.oW.cell kp2.out)
          have hlp := hid (World.block_lt_of_cell? W2 _ kp2.out)
          have hxl : Hid (∀ k, x.all k → k < W2.heap.size) := hid (fun k hk => by have := hxa.out k hk; have := kls.out; omega)
          have e1 : mb < WB.heap.size := kS0.out.s.mm.lt
          have e2 : W2.heap.size ≤ WB.heap.size := by omega
          refine range_joinX (n := 5) (by omega) (gf := 66) (lb := #[.pointer (some ⟨p1, 0, none⟩), .pointer (some ⟨p2, 0, none⟩)]) rfl (enters_of Try.func66 (by kernel_rfl) rfl)
            (all2_X 4 (by omega) p1 p2 WB.heap.size x kk.out (by have := kN.out; omega) WB hLd.out hc1.out hc2.out (Nat.le_refl _))
            (fun y W l o o' hl h1 h2 hp => hp.put h1 h2) (fun h k a => k (h a)) (fun W l o o' hl h1 h2 => KpA.put (Nat.le_trans e2 hl) hlp.out hxl.out h1 h2) (fun _ => rfl) 4
            (fun q Y => ∃ m, m ≤ N ∧ psF q = (psL x.L x.P).take m ∧ TM [D3, D2, D1] rb leave W2 s0 bt kb mb 1 k m Y)
            (fun q Y => ∃ m : Nat, TM [D3, D2, D1] rb leave W2 s0 bt kb mb 1 k m Y ∧ ((1 : Int) = 0 ∧ (m : Int) = leave))
            (fun q Y => ∃ m : Nat, TM [D3, D2, D1] rb leave W2 s0 bt kb mb 1 k m Y ∧ FinJ 1 leave N m)
            (fun q A B ⟨m, h1, h2, h3⟩ hf => ⟨m, h1, h2, h3.far hf (fun b e => by omega) (fun r hr e => by have := kLs.out r hr; omega) kls.out hbt' h5 h6⟩)
            (fun q A B ⟨m, h3, h4⟩ hf => ⟨m, h3.far hf (fun b e => by omega) (fun r hr e => by have := kLs.out r hr; omega) kls.out hbt' h5 h6, h4⟩)
            ⟨0, Nat.zero_le _, by simp [psF], kS0.out⟩
            (fun y t => (((t.setIfInBounds 93 (.int .i64 (y.1 : Int))).setIfInBounds 94 (.slice (some ⟨y.2.1, 0, none⟩) y.2.2.length y.2.2.length)).setIfInBounds 18 (.int .i64 (y.1 : Int))).setIfInBounds 19 (.slice (some ⟨y.2.1, 0, none⟩) y.2.2.length y.2.2.length))
            ?assign1 ?body1 ?fin1 ?fin2 ?hQ1 ?end1
          case assign1 =>
            intro l y W K hK
            simp only [encP]
            simp only [List.setIfInBounds_toArray, List.set_cons_zero, List.set_cons_succ] at hK
            have kK := hid hK
            clear hK
            gi_wp2_with fail
            exact kK.out
          case body1 =>
            rintro l p y Y ⟨m, hm1, hp, hS⟩ ⟨m', hm', hpm⟩ ⟨hlo, hown⟩
            obtain ⟨hlt, hy1, hy2, hnext⟩ := psF_snoc (by rw [kN.out]; exact hm1) hm' hp hpm
            obtain ⟨y1, g, E⟩ := y
            dsimp only at hlo hown hy1 hy2 hnext ⊢
            subst hy1
            obtain ⟨nv, lv, qv, hb, ⟨no, nc, rfl, -⟩, -, ⟨po, pc, rfl, -, -, hpos⟩⟩ := kd2.out.old hS.s.t.oW
            have hltP : y1 < P.length := by rw [kPn.out, ← kN.out]; exact hlt
            obtain ⟨pg, pof, u, rfl, hu, ⟨ao, c, rfl, hes, -⟩⟩ := hpos y1 hltP
            have hPE : P[y1] = E := by
              have h1 : P[y1]? = some (entsOf x.L x.P[y1]) := by
                rw [kPl.out, List.getElem?_map, List.getElem?_eq_getElem hlt]
                rfl
              rw [List.getElem?_eq_getElem hltP] at h1
              rw [hy2, getD_get hlt]
              simpa using h1
            rw [hPE] at hu hes
            have hEl : E.length ≤ 1048576 := by
              rw [hy2]
              have := (kk.out.ps (x.P.getD y1 []) (by rw [getD_get hlt]; exact List.getElem_mem hlt)).len.2
              unfold entsOf
              rw [List.length_map]
              omega
            have ksm := hid (fun X (o : Old Y X) => dsameE_any (some ⟨g, 0, none⟩) ao E.length c E E X (hown.esc.old o) (hes.old o) hEl hEl)
            have kov := hid (fun X (o : Old Y X) => over_any g E.length E.length (flatS E).toArray X ((OwnS.frm hown o (fun h => h) : OwnS X g E)) (by simp [flatS_length]) hEl)
            rw [decide_eq_true (rfl : E = E)] at ksm
            have kS := hid hS
            have kown := hid hown
            have knext := hid hnext
            rw [kN.out] at hlt
            have v0 := hS.s.mm.cell
            have v1 := hS.s.t.r.cell
            have v2 : Y.cell? ⟨rb, 2, none⟩ = some (.slice (some ⟨pg, pof, none⟩) P.length pc) := blk_cells hb rfl
            rw [kPn.out] at v2
            have v3 := hu
            have hq1 : ((y1 : Int) != (y1 : Int)) = false := by simp
            have hq2 : decide (N ≤ y1) = false := by simp; omega
            have hmI : (y1 : Int) < (N : Int) := by omega
            have hm0 : (0 : Int) ≤ (y1 : Int) := by omega
            have hmg : mb < g := by omega
            clear hb hpos hu hes hown hy2 hPE hp hpm hnext hS hltP
            simp only [List.setIfInBounds_toArray, List.set_cons_zero, List.set_cons_succ]
            gi_wp2_with fail
            refine region_round (S := fun X => Old Y X) (by kernel_rfl) (by kernel_rfl) ((Old.refl Y).drewN 1) (fun hHeld => ?_)
            generalize Y.drew = V0 at *
            refine' wpAnyH_take (i := 0) rfl (by kernel_rfl) (by kernel_rfl) (by kernel_rfl) (fun _ _ _ h => h) (Or.inl ⟨by rfl, ?_⟩) hHeld ?_
            rotate_left
            · intro W hSw
              simp only [List.getElem_toArray, List.getElem_cons_zero]
              go_simp
              all_goals with_reducible rfl
            simp only [qqa, qqb, Act.put, qqd, qqe, qqf]
            refine' wpAnyH_take (i := 1) rfl (by kernel_rfl) (by kernel_rfl) (by kernel_rfl) (fun _ _ _ h => h) (Or.inl ⟨by rfl, ?_⟩) hHeld ?_
            rotate_left
            · intro W hSw
              have u0 := Old.cell hSw v0
              have u1 := Old.cell hSw v1
              have u2 := Old.cell hSw v2
              have u3 := Old.cell hSw v3
              clear hSw
              simp only [qqa, qqb, qqc]
              go_simp
              all_goals with_reducible rfl
            simp only [qqa, qqb, qqc, Act.put, qqd, qqe, qqf]
            refine' wpAnyH_take (i := 2) rfl (by kernel_rfl) (by kernel_rfl) (by kernel_rfl) (fun _ _ _ h => h) (Or.inl ⟨by rfl, ?_⟩) hHeld ?_
            rotate_left
            · intro W hSw
              have u0 := Old.cell hSw v0
              have u1 := Old.cell hSw v1
              have u2 := Old.cell hSw v2
              have u3 := Old.cell hSw v3
              clear hSw
              simp only [qqa, qqb, qqc]
              go_simp
              all_goals with_reducible rfl
            simp only [qqa, qqb, qqc, Act.put, qqd, qqe, qqf]
            refine' wpAnyH_take (i := 3) rfl (by kernel_rfl) (by kernel_rfl) (by kernel_rfl) (fun _ _ _ h => h) (Or.inl ⟨by rfl, ?_⟩) hHeld ?_
            rotate_left
            · intro W hSw
              have u0 := Old.cell hSw v0
              have u1 := Old.cell hSw v1
              have u2 := Old.cell hSw v2
              have u3 := Old.cell hSw v3
              clear hSw
              simp only [qqa, qqb, qqc]
              go_simp
              all_goals with_reducible rfl
            simp only [qqa, qqb, qqc, Act.put, qqd, qqe, qqf]
            refine' wpAnyH_take (i := 4) rfl (by kernel_rfl) (by kernel_rfl) (by kernel_rfl) (fun _ _ _ h => h) (Or.inl ⟨by rfl, ?_⟩) hHeld ?_
            rotate_left
            · intro W hSw
              have u0 := Old.cell hSw v0
              have u1 := Old.cell hSw v1
              have u2 := Old.cell hSw v2
              have u3 := Old.cell hSw v3
              clear hSw
              simp only [qqa, qqb, qqc]
              go_simp
              all_goals with_reducible rfl
            simp only [qqa, qqb, qqc, Act.put, qqd, qqe, qqf]
            refine' wpAnyH_take (i := 5) rfl (by kernel_rfl) (by kernel_rfl) (by kernel_rfl) (fun _ _ _ h => h) (Or.inl ⟨by rfl, ?_⟩) hHeld ?_
            rotate_left
            · intro W hSw
              have u0 := Old.cell hSw v0
              have u1 := Old.cell hSw v1
              have u2 := Old.cell hSw v2
              have u3 := Old.cell hSw v3
              clear hSw
              simp only [qqa, qqb, qqc]
              go_simp
              all_goals with_reducible rfl
            simp only [qqa, qqb, qqc, Act.put, qqd, qqe, qqf]
            refine' wpAnyH_take (i := 6) rfl (by kernel_rfl) (by kernel_rfl) (by kernel_rfl) (fun _ _ _ h => h) (Or.inl ⟨by rfl, ?_⟩) hHeld ?_
            rotate_left
            · intro W hSw
              have u0 := Old.cell hSw v0
              have u1 := Old.cell hSw v1
              have u2 := Old.cell hSw v2
              have u3 := Old.cell hSw v3
              clear hSw
              simp only [qqa, qqb, qqc]
              go_simp
              all_goals with_reducible rfl
            simp only [qqa, qqb, qqc, Act.put, qqd, qqe, qqf]
            refine' wpAnyH_take (i := 7) rfl (by kernel_rfl) (by kernel_rfl) (by kernel_rfl) (fun _ _ _ h => h) (Or.inl ⟨by rfl, ?_⟩) hHeld ?_
            rotate_left
            · intro W hSw
              have u0 := Old.cell hSw v0
              have u1 := Old.cell hSw v1
              have u2 := Old.cell hSw v2
              have u3 := Old.cell hSw v3
              clear hSw
              simp only [qqa, qqb, qqc]
              go_simp
              all_goals with_reducible rfl
            simp only [qqa, qqb, qqc, Act.put, qqd, qqe, qqf]
            refine' wpAnyH_take (i := 8) rfl (by kernel_rfl) (by kernel_rfl) (by kernel_rfl) (fun _ _ _ h => h) (Or.inl ⟨by rfl, ?_⟩) hHeld ?_
            rotate_left
            · intro W hSw
              have u0 := Old.cell hSw v0
              have u1 := Old.cell hSw v1
              have u2 := Old.cell hSw v2
              have u3 := Old.cell hSw v3
              clear hSw
              simp only [qqa, qqb, qqc]
              go_simp
              all_goals with_reducible rfl
            simp only [qqa, qqb, qqc, Act.put, qqd, qqe, qqf]
            refine' wpAnyH_take (i := 9) rfl (by kernel_rfl) (by kernel_rfl) (by kernel_rfl) (fun _ _ _ h => h) (Or.inl ⟨by rfl, ?_⟩) hHeld ?_
            rotate_left
            · intro W hSw
              have u0 := Old.cell hSw v0
              have u1 := Old.cell hSw v1
              have u2 := Old.cell hSw v2
              have u3 := Old.cell hSw v3
              clear hSw
              simp only [qqa, qqb, qqc]
              go_simp
              all_goals with_reducible rfl
            simp only [qqa, qqb, qqc, Act.put, qqd, qqe, qqf]
            refine' wpAnyH_take (i := 10) rfl (by kernel_rfl) (by kernel_rfl) (by kernel_rfl) (fun _ _ _ h => h) (Or.inl ⟨by rfl, ?_⟩) hHeld ?_
            rotate_left
            · intro W hSw
              have u0 := Old.cell hSw v0
              have u1 := Old.cell hSw v1
              have u2 := Old.cell hSw v2
              have u3 := Old.cell hSw v3
              clear hSw
              simp only [qqa, qqb, qqc]
              go_simp
              all_goals with_reducible rfl
            simp only [qqa, qqb, qqc, Act.put, qqd, qqe, qqf]
            refine' wpAnyH_take (i := 11) rfl (by kernel_rfl) (by kernel_rfl) (by kernel_rfl) (fun _ _ _ h => h) (Or.inl ⟨by rfl, ?_⟩) hHeld ?_
            rotate_left
            · intro W hSw
              have u0 := Old.cell hSw v0
              have u1 := Old.cell hSw v1
              have u2 := Old.cell hSw v2
              have u3 := Old.cell hSw v3
              clear hSw
              simp only [qqa, qqb, qqc]
              go_simp
              all_goals with_reducible rfl
            simp only [qqa, qqb, qqc, Act.put, qqd, qqe, qqf]
            refine' wpAnyH_take (i := 12) rfl (by kernel_rfl) (by kernel_rfl) (by kernel_rfl) (fun _ _ _ h => h) (Or.inl ⟨by rfl, ?_⟩) hHeld ?_
            rotate_left
            · intro W hSw
              have u0 := Old.cell hSw v0
              have u1 := Old.cell hSw v1
              have u2 := Old.cell hSw v2
              have u3 := Old.cell hSw v3
              clear hSw
              simp only [qqa, qqb, qqc]
              go_simp
              all_goals with_reducible rfl
            simp only [qqa, qqb, qqc, Act.put, qqd, qqe, qqf]
            refine' wpAnyH_take (i := 13) rfl (by kernel_rfl) (by kernel_rfl) (by kernel_rfl) (fun _ _ _ h => h) (Or.inl ⟨by rfl, ?_⟩) hHeld ?_
            rotate_left
            · intro W hSw
              have u0 := Old.cell hSw v0
              have u1 := Old.cell hSw v1
              have u2 := Old.cell hSw v2
              have u3 := Old.cell hSw v3
              clear hSw
              simp only [qqa, qqb, qqc]
              go_simp
              all_goals with_reducible rfl
            simp only [qqa, qqb, qqc, Act.put, qqd, qqe, qqf]
            refine' wpAnyH_take (i := 14) rfl (by kernel_rfl) (by kernel_rfl) (by kernel_rfl) (fun _ _ _ h => h) (Or.inl ⟨by rfl, ?_⟩) hHeld ?_
            rotate_left
            · intro W hSw
              have u0 := Old.cell hSw v0
              have u1 := Old.cell hSw v1
              have u2 := Old.cell hSw v2
              have u3 := Old.cell hSw v3
              clear hSw
              simp only [qqa, qqb, qqc]
              go_simp
              all_goals with_reducible rfl
            simp only [qqa, qqb, qqc, Act.put, qqd, qqe, qqf]
            refine' wpAnyH_take (i := 15) rfl (by kernel_rfl) (by kernel_rfl) (by kernel_rfl) (fun _ _ _ h => h) (Or.inl ⟨by rfl, ?_⟩) hHeld ?_
            rotate_left
            · intro W hSw
              have u0 := Old.cell hSw v0
              have u1 := Old.cell hSw v1
              have u2 := Old.cell hSw v2
              have u3 := Old.cell hSw v3
              clear hSw
              simp only [qqa, qqb, qqc]
              go_simp
              all_goals with_reducible rfl
            simp only [qqa, qqb, qqc, Act.put, qqd, qqe, qqf]
            refine' wpAnyH_take (i := 16) rfl (by kernel_rfl) (by kernel_rfl) (by kernel_rfl) (fun _ _ _ h => h) (Or.inl ⟨by rfl, ?_⟩) hHeld ?_
            rotate_left
            · intro W hSw
              have u0 := Old.cell hSw v0
              have u1 := Old.cell hSw v1
              have u2 := Old.cell hSw v2
              have u3 := Old.cell hSw v3
              clear hSw
              simp only [qqa, qqb, qqc]
              go_simp
              all_goals with_reducible rfl
            simp only [qqa, qqb, qqc, Act.put, qqd, qqe, qqf]
            refine' wpAnyH_take (i := 17) rfl (by kernel_rfl) (by kernel_rfl) (by kernel_rfl) (fun _ _ _ h => h) (Or.inl ⟨by rfl, ?_⟩) hHeld ?_
            rotate_left
            · intro W hSw
              have u0 := Old.cell hSw v0
              have u1 := Old.cell hSw v1
              have u2 := Old.cell hSw v2
              have u3 := Old.cell hSw v3
              clear hSw
              simp only [qqa, qqb, qqc]
              go_simp
              all_goals with_reducible rfl
            simp only [qqa, qqb, qqc, Act.put, qqd, qqe, qqf]
            refine' wpAnyH_take (i := 18) rfl (by kernel_rfl) (by kernel_rfl) (by kernel_rfl) (fun _ _ _ h => h) (Or.inl ⟨by rfl, ?_⟩) hHeld ?_
            rotate_left
            · intro W hSw
              have u0 := Old.cell hSw v0
              have u1 := Old.cell hSw v1
              have u2 := Old.cell hSw v2
              have u3 := Old.cell hSw v3
              clear hSw
              simp only [qqa, qqb, qqc]
              go_simp
              all_goals with_reducible rfl
            simp only [qqa, qqb, qqc, Act.put, qqd, qqe, qqf]
            refine' wpAnyH_take (i := 19) rfl (by kernel_rfl) (by kernel_rfl) (by kernel_rfl) (fun _ _ _ h => h) (Or.inl ⟨by rfl, ?_⟩) hHeld ?_
            rotate_left
            · intro W hSw
              have u0 := Old.cell hSw v0
              have u1 := Old.cell hSw v1
              have u2 := Old.cell hSw v2
              have u3 := Old.cell hSw v3
              clear hSw
              simp only [qqa, qqb, qqc]
              go_simp
              all_goals with_reducible rfl
            simp only [qqa, qqb, qqc, Act.put, qqd, qqe, qqf]
            refine' wpAnyH_take (i := 20) rfl (by kernel_rfl) (by kernel_rfl) (by kernel_rfl) (fun _ _ _ h => h) (Or.inl ⟨by rfl, ?_⟩) hHeld ?_
            rotate_left
            · intro W hSw
              have u0 := Old.cell hSw v0
              have u1 := Old.cell hSw v1
              have u2 := Old.cell hSw v2
              have u3 := Old.cell hSw v3
              clear hSw
              simp only [qqa, qqb, qqc]
              go_simp
              all_goals with_reducible rfl
            simp only [qqa, qqb, qqc, Act.put, qqd, qqe, qqf]
            refine wpAnyH_ready (rs := [21]) (by kernel_rfl) (by simp) ?_
            refine AllReadyH.cons (o := _) rfl (fun K hK => ?_) AllReadyH.nil
            simp only [qqa, qqb, qqc]
            go_simp
            refine (ksm.out V0 hHeld).mono ?_
            rintro e V1 ⟨rfl, dn, ed⟩
            have o : Old V0 V1 := by rw [ed]; exact (Old.refl V0).drewN dn
            clear ed
            have hHeld2 := hHeld.trans o
            refine hK.out _ _ hHeld2 (fun _ => ?_)
            clear hK K hHeld o
            have hHeld := hHeld2
            clear hHeld2
            try simp only [Act.put, qqd, qqe, qqf]
            refine' wpAnyH_take (i := 22) rfl (by kernel_rfl) (by kernel_rfl) (by kernel_rfl) (fun _ _ _ h => h) (Or.inl ⟨by rfl, ?_⟩) hHeld ?_
            rotate_left
            · intro W hSw
              have u0 := Old.cell hSw v0
              have u1 := Old.cell hSw v1
              have u2 := Old.cell hSw v2
              have u3 := Old.cell hSw v3
              clear hSw
              simp only [qqa, qqb, qqc]
              go_simp
              all_goals with_reducible rfl
            simp only [qqa, qqb, qqc, Act.put, qqd, qqe, qqf]
            refine' wpAnyH_take (i := 23) rfl (by kernel_rfl) (by kernel_rfl) (by kernel_rfl) (fun _ _ _ h => h) (Or.inl ⟨by rfl, ?_⟩) hHeld ?_
            rotate_left
            · intro W hSw
              have u0 := Old.cell hSw v0
              have u1 := Old.cell hSw v1
              have u2 := Old.cell hSw v2
              have u3 := Old.cell hSw v3
              clear hSw
              simp only [qqa, qqb, qqc]
              go_simp
              all_goals with_reducible rfl
            simp only [qqa, qqb, qqc, Act.put, qqd, qqe, qqf]
            refine wpAnyH_done (by kernel_rfl) ?_ _
            refine OnlyN.normal ?_
            have kYV := hid hHeld
            clear hHeld v0 v1 v2 v3 hq1 hq2 hmI hm0 ksm
            gi_wp2_with fail
            refine ⟨trivial, ?_⟩
            refine (CallsIn.inRound l (callsIn_wide.2 (kov.out V1 kYV.out))).mono ?_
            rintro e V2 ⟨rfl, hov⟩
            have ko1 := hid (OwnS.frm kown.out kYV.out (fun h => h))
            have kS2 := hid ((kS.out.olds kYV.out).over hov ko1.out hmg kls.out hbt' h5 h6)
            have kf2 : Hid (KeepsFrom WB.heap.size Y V2) := (keeps_old kYV.out).trans (keeps_over ko1.out hov)
            have kp2' : Hid (KpA x p2 WB.heap.size Y V2) := hid (fun a => KpA.overs ko1.out hov (Nat.le_trans e2 hlo) hlp.out hxl.out (KpA.old kYV.out a))
            clear hov kov kS ko1
            have x0 := kS2.out.s.mm.cell
            have x1 := kS2.out.s.mm.frozen
            have x2 := kS2.out.s.turn.cell
            have hk9 : (y1 : Int) ≤ 1099511627776 := by have := kN.out; omega
            have hfx := frm_set V2 mb 0 (.int .i64 ((y1 : Int) + 1))
            have z1 := (boxed_frm kS2.out.s.t.lea hfx (by have := kls.out; omega)).cell
            have z2 := (boxed_frm kS2.out.s.turn hfx (by omega)).cell
            have knx := hid (kS2.out.nextm kls.out hbt' h5 h6)
            have kkf : Hid (KeepsFrom WB.heap.size Y (V2.setCell ⟨mb, 0, none⟩ (.int .i64 ((y1 : Int) + 1)))) := kf2.out.trans (keeps_box _ e1)
            have kkp : Hid (KpA x p2 WB.heap.size Y (V2.setCell ⟨mb, 0, none⟩ (.int .i64 ((y1 : Int) + 1)))) := hid (fun a => KpA.box _ kS2.out.s.mm (by decide) (by omega) hlp.out hxl.out (kp2'.out a))
            clear hfx
            gi_wp2_with fail
            exact ⟨kkf.out, kkp.out, y1 + 1, by omega, knext.out, knx.out⟩
          case fin1 =>
            rintro q W hq ⟨m, h1, h2, h3⟩
            refine ⟨m, h3, Or.inl ?_⟩
            have := congrArg List.length (h2.symm.trans hq)
            rw [List.length_take, psL_len, kN.out] at this
            omega
          case fin2 =>
            rintro q W - ⟨m, h3, h4⟩
            exact ⟨m, h3, Or.inr h4⟩
          case hQ1 =>
            intro b W h
            exact inBlock_both (Or.inr rfl) h
          case end1 =>
            rintro D4 q WC hD4 ⟨m, hTM, hfin⟩ hK2
            have hd43 : D3 < D4 := Nat.lt_of_lt_of_le (kLs.out D3 (by simp)) hD4
            have kfm := hid hfin
            have kSC : Hid (TM (D4 :: [D3, D2, D1]) rb leave W2 s0 bt kb mb 1 k m WC) := ⟨hTM.s, fun r hr => by
              rcases List.mem_cons.1 hr with rfl | hr
              · exact hK2
              · exact hTM.ms r hr⟩
            clear hTM hfin hK2
            refine inBlock_both (Or.inl rfl) ?_
            dsimp only
            obtain ⟨nv, lv, qv, hb, ⟨no, nc, rfl, -⟩, -, ⟨po, pc, rfl, -⟩⟩ := kd2.out.old kSC.out.s.t.oW
            have v0 := kSC.out.s.turn.cell
            have v1 := kSC.out.s.kk.cell
            have v2 := kSC.out.s.t.r.cell
            have v3 : WC.cell? ⟨rb, 0, none⟩ = some (.slice no x.L.length nc) := blk_cells hb rfl
            rw [kn.out] at v3
            have v4 := kSC.out.s.mm.cell
            have v5 : WC.cell? ⟨rb, 2, none⟩ = some (.slice po P.length pc) := blk_cells hb rfl
            rw [kPn.out] at v5
            have v6 := kSC.out.s.t.lea.cell
            clear hb
            have hmn : m = N := kfm.out.resolve_right (fun h => by have := h.1; omega)
            have hkq : ((k : Int) != (n : Int)) = false := by simp [hkn]
            have hmq : ((m : Int) != (N : Int)) = false := by simp [hmn]
            clear kfm
            go_wp2_with fail
            refine wp_region_noPanic ?_
            refine wp_region_held_drew (S := fun X => Old WC X) (by kernel_rfl) ((Old.refl WC).drewN 1) (fun hHeld => ?_)
            generalize WC.drew = V0 at *
            refine' wpAnyH_take (i := 0) rfl (by kernel_rfl) (by kernel_rfl) (by kernel_rfl) (fun _ _ _ h => h) (Or.inl ⟨by rfl, ?_⟩) hHeld ?_
            rotate_left
            · intro W hSw
              have u0 := Old.cell hSw v0
              clear hSw
              simp only [List.getElem_toArray, List.getElem_cons_zero]
              go_simp
              all_goals with_reducible rfl
            simp only [qqa, qqb, Act.put, qqd, qqe, qqf]
            refine' wpAnyH_take (i := 1) rfl (by kernel_rfl) (by kernel_rfl) (by kernel_rfl) (fun _ _ _ h => h) (Or.inl ⟨by rfl, ?_⟩) hHeld ?_
            rotate_left
            · intro W hSw
              have u0 := Old.cell hSw v0
              have u1 := Old.cell hSw v1
              have u2 := Old.cell hSw v2
              have u3 := Old.cell hSw v3
              have u4 := Old.cell hSw v4
              have u5 := Old.cell hSw v5
              have u6 := Old.cell hSw v6
              clear hSw
              simp only [qqa, qqb, qqc]
              go_simp
              all_goals with_reducible rfl
            simp only [qqa, qqb, qqc, Act.put, qqd, qqe, qqf]
            refine' wpAnyH_take (i := 2) rfl (by kernel_rfl) (by kernel_rfl) (by kernel_rfl) (fun _ _ _ h => h) (Or.inl ⟨by rfl, ?_⟩) hHeld ?_
            rotate_left
            · intro W hSw
              have u0 := Old.cell hSw v0
              have u1 := Old.cell hSw v1
              have u2 := Old.cell hSw v2
              have u3 := Old.cell hSw v3
              have u4 := Old.cell hSw v4
              have u5 := Old.cell hSw v5
              have u6 := Old.cell hSw v6
              clear hSw
              simp only [qqa, qqb, qqc]
              go_simp
              all_goals with_reducible rfl
            simp only [qqa, qqb, qqc, Act.put, qqd, qqe, qqf]
            refine' wpAnyH_take (i := 3) rfl (by kernel_rfl) (by kernel_rfl) (by kernel_rfl) (fun _ _ _ h => h) (Or.inl ⟨by rfl, ?_⟩) hHeld ?_
            rotate_left
            · intro W hSw
              have u0 := Old.cell hSw v0
              have u1 := Old.cell hSw v1
              have u2 := Old.cell hSw v2
              have u3 := Old.cell hSw v3
              have u4 := Old.cell hSw v4
              have u5 := Old.cell hSw v5
              have u6 := Old.cell hSw v6
              clear hSw
              simp only [qqa, qqb, qqc]
              go_simp
              all_goals with_reducible rfl
            simp only [qqa, qqb, qqc, Act.put, qqd, qqe, qqf]
            refine' wpAnyH_take (i := 4) rfl (by kernel_rfl) (by kernel_rfl) (by kernel_rfl) (fun _ _ _ h => h) (Or.inl ⟨by rfl, ?_⟩) hHeld ?_
            rotate_left
            · intro W hSw
              have u0 := Old.cell hSw v0
              have u1 := Old.cell hSw v1
              have u2 := Old.cell hSw v2
              have u3 := Old.cell hSw v3
              have u4 := Old.cell hSw v4
              have u5 := Old.cell hSw v5
              have u6 := Old.cell hSw v6
              clear hSw
              simp only [qqa, qqb, qqc]
              go_simp
              all_goals with_reducible rfl
            simp only [qqa, qqb, qqc, Act.put, qqd, qqe, qqf]
            refine' wpAnyH_take (i := 5) rfl (by kernel_rfl) (by kernel_rfl) (by kernel_rfl) (fun _ _ _ h => h) (Or.inl ⟨by rfl, ?_⟩) hHeld ?_
            rotate_left
            · intro W hSw
              have u0 := Old.cell hSw v0
              have u1 := Old.cell hSw v1
              have u2 := Old.cell hSw v2
              have u3 := Old.cell hSw v3
              have u4 := Old.cell hSw v4
              have u5 := Old.cell hSw v5
              have u6 := Old.cell hSw v6
              clear hSw
              simp only [qqa, qqb, qqc]
              go_simp
              all_goals with_reducible rfl
            simp only [qqa, qqb, qqc, Act.put, qqd, qqe, qqf]
            refine' wpAnyH_take (i := 6) rfl (by kernel_rfl) (by kernel_rfl) (by kernel_rfl) (fun _ _ _ h => h) (Or.inl ⟨by rfl, ?_⟩) hHeld ?_
            rotate_left
            · intro W hSw
              have u0 := Old.cell hSw v0
              have u1 := Old.cell hSw v1
              have u2 := Old.cell hSw v2
              have u3 := Old.cell hSw v3
              have u4 := Old.cell hSw v4
              have u5 := Old.cell hSw v5
              have u6 := Old.cell hSw v6
              clear hSw
              simp only [qqa, qqb, qqc]
              go_simp
              all_goals with_reducible rfl
            simp only [qqa, qqb, qqc, Act.put, qqd, qqe, qqf]
            refine' wpAnyH_take (i := 7) rfl (by kernel_rfl) (by kernel_rfl) (by kernel_rfl) (fun _ _ _ h => h) (Or.inl ⟨by rfl, ?_⟩) hHeld ?_
            rotate_left
            · intro W hSw
              have u0 := Old.cell hSw v0
              have u1 := Old.cell hSw v1
              have u2 := Old.cell hSw v2
              have u3 := Old.cell hSw v3
              have u4 := Old.cell hSw v4
              have u5 := Old.cell hSw v5
              have u6 := Old.cell hSw v6
              clear hSw
              simp only [qqa, qqb, qqc]
              go_simp
              all_goals with_reducible rfl
            simp only [qqa, qqb, qqc, Act.put, qqd, qqe, qqf]
            refine' wpAnyH_take (i := 8) rfl (by kernel_rfl) (by kernel_rfl) (by kernel_rfl) (fun _ _ _ h => h) (Or.inl ⟨by rfl, ?_⟩) hHeld ?_
            rotate_left
            · intro W hSw
              have u0 := Old.cell hSw v0
              have u1 := Old.cell hSw v1
              have u2 := Old.cell hSw v2
              have u3 := Old.cell hSw v3
              have u4 := Old.cell hSw v4
              have u5 := Old.cell hSw v5
              have u6 := Old.cell hSw v6
              clear hSw
              simp only [qqa, qqb, qqc]
              go_simp
              all_goals with_reducible rfl
            simp only [qqa, qqb, qqc, Act.put, qqd, qqe, qqf]
            refine' wpAnyH_take (i := 9) rfl (by kernel_rfl) (by kernel_rfl) (by kernel_rfl) (fun _ _ _ h => h) (Or.inl ⟨by rfl, ?_⟩) hHeld ?_
            rotate_left
            · intro W hSw
              have u0 := Old.cell hSw v0
              have u1 := Old.cell hSw v1
              have u2 := Old.cell hSw v2
              have u3 := Old.cell hSw v3
              have u4 := Old.cell hSw v4
              have u5 := Old.cell hSw v5
              have u6 := Old.cell hSw v6
              clear hSw
              simp only [qqa, qqb, qqc]
              go_simp
              all_goals with_reducible rfl
            simp only [qqa, qqb, qqc, Act.put, qqd, qqe, qqf]
            refine' wpAnyH_take (i := 10) rfl (by kernel_rfl) (by kernel_rfl) (by kernel_rfl) (fun _ _ _ h => h) (Or.inl ⟨by rfl, ?_⟩) hHeld ?_
            rotate_left
            · intro W hSw
              have u0 := Old.cell hSw v0
              have u1 := Old.cell hSw v1
              have u2 := Old.cell hSw v2
              have u3 := Old.cell hSw v3
              have u4 := Old.cell hSw v4
              have u5 := Old.cell hSw v5
              have u6 := Old.cell hSw v6
              clear hSw
              simp only [qqa, qqb, qqc]
              go_simp
              all_goals with_reducible rfl
            simp only [qqa, qqb, qqc, Act.put, qqd, qqe, qqf]
            refine' wpAnyH_take (i := 11) rfl (by kernel_rfl) (by kernel_rfl) (by kernel_rfl) (fun _ _ _ h => h) (Or.inl ⟨by rfl, ?_⟩) hHeld ?_
            rotate_left
            · intro W hSw
              have u0 := Old.cell hSw v0
              have u1 := Old.cell hSw v1
              have u2 := Old.cell hSw v2
              have u3 := Old.cell hSw v3
              have u4 := Old.cell hSw v4
              have u5 := Old.cell hSw v5
              have u6 := Old.cell hSw v6
              clear hSw
              simp only [qqa, qqb, qqc]
              go_simp
              all_goals with_reducible rfl
            simp only [qqa, qqb, qqc, Act.put, qqd, qqe, qqf]
            refine' wpAnyH_take (i := 12) rfl (by kernel_rfl) (by kernel_rfl) (by kernel_rfl) (fun _ _ _ h => h) (Or.inl ⟨by rfl, ?_⟩) hHeld ?_
            rotate_left
            · intro W hSw
              have u0 := Old.cell hSw v0
              have u1 := Old.cell hSw v1
              have u2 := Old.cell hSw v2
              have u3 := Old.cell hSw v3
              have u4 := Old.cell hSw v4
              have u5 := Old.cell hSw v5
              have u6 := Old.cell hSw v6
              clear hSw
              simp only [qqa, qqb, qqc]
              go_simp
              all_goals with_reducible rfl
            simp only [qqa, qqb, qqc, Act.put, qqd, qqe, qqf]
            refine' wpAnyH_take (i := 13) rfl (by kernel_rfl) (by kernel_rfl) (by kernel_rfl) (fun _ _ _ h => h) (Or.inl ⟨by rfl, ?_⟩) hHeld ?_
            rotate_left
            · intro W hSw
              have u0 := Old.cell hSw v0
              have u1 := Old.cell hSw v1
              have u2 := Old.cell hSw v2
              have u3 := Old.cell hSw v3
              have u4 := Old.cell hSw v4
              have u5 := Old.cell hSw v5
              have u6 := Old.cell hSw v6
              clear hSw
              simp only [qqa, qqb, qqc]
              go_simp
              all_goals with_reducible rfl
            simp only [qqa, qqb, qqc, Act.put, qqd, qqe, qqf]
            refine' wpAnyH_take (i := 14) rfl (by kernel_rfl) (by kernel_rfl) (by kernel_rfl) (fun _ _ _ h => h) (Or.inl ⟨by rfl, ?_⟩) hHeld ?_
            rotate_left
            · intro W hSw
              have u0 := Old.cell hSw v0
              have u1 := Old.cell hSw v1
              have u2 := Old.cell hSw v2
              have u3 := Old.cell hSw v3
              have u4 := Old.cell hSw v4
              have u5 := Old.cell hSw v5
              have u6 := Old.cell hSw v6
              clear hSw
              simp only [qqa, qqb, qqc]
              go_simp
              all_goals with_reducible rfl
            simp only [qqa, qqb, qqc, Act.put, qqd, qqe, qqf]
            refine' wpAnyH_take (i := 15) rfl (by kernel_rfl) (by kernel_rfl) (by kernel_rfl) (fun _ _ _ h => h) (Or.inl ⟨by rfl, ?_⟩) hHeld ?_
            rotate_left
            · intro W hSw
              have u0 := Old.cell hSw v0
              have u1 := Old.cell hSw v1
              have u2 := Old.cell hSw v2
              have u3 := Old.cell hSw v3
              have u4 := Old.cell hSw v4
              have u5 := Old.cell hSw v5
              have u6 := Old.cell hSw v6
              clear hSw
              simp only [qqa, qqb, qqc]
              go_simp
              all_goals with_reducible rfl
            simp only [qqa, qqb, qqc, Act.put, qqd, qqe, qqf]
            refine' wpAnyH_take (i := 16) rfl (by kernel_rfl) (by kernel_rfl) (by kernel_rfl) (fun _ _ _ h => h) (Or.inl ⟨by rfl, ?_⟩) hHeld ?_
            rotate_left
            · intro W hSw
              have u0 := Old.cell hSw v0
              have u1 := Old.cell hSw v1
              have u2 := Old.cell hSw v2
              have u3 := Old.cell hSw v3
              have u4 := Old.cell hSw v4
              have u5 := Old.cell hSw v5
              have u6 := Old.cell hSw v6
              clear hSw
              simp only [qqa, qqb, qqc]
              go_simp
              all_goals with_reducible rfl
            simp only [qqa, qqb, qqc, Act.put, qqd, qqe, qqf]
            refine' wpAnyH_take (i := 17) rfl (by kernel_rfl) (by kernel_rfl) (by kernel_rfl) (fun _ _ _ h => h) (Or.inl ⟨by rfl, ?_⟩) hHeld ?_
            rotate_left
            · intro W hSw
              have u0 := Old.cell hSw v0
              have u1 := Old.cell hSw v1
              have u2 := Old.cell hSw v2
              have u3 := Old.cell hSw v3
              have u4 := Old.cell hSw v4
              have u5 := Old.cell hSw v5
              have u6 := Old.cell hSw v6
              clear hSw
              simp only [qqa, qqb, qqc]
              go_simp
              all_goals with_reducible rfl
            simp only [qqa, qqb, qqc, Act.put, qqd, qqe, qqf]
            refine' wpAnyH_take (i := 18) rfl (by kernel_rfl) (by kernel_rfl) (by kernel_rfl) (fun _ _ _ h => h) (Or.inl ⟨by rfl, ?_⟩) hHeld ?_
            rotate_left
            · intro W hSw
              have u0 := Old.cell hSw v0
              have u1 := Old.cell hSw v1
              have u2 := Old.cell hSw v2
              have u3 := Old.cell hSw v3
              have u4 := Old.cell hSw v4
              have u5 := Old.cell hSw v5
              have u6 := Old.cell hSw v6
              clear hSw
              simp only [qqa, qqb, qqc]
              go_simp
              all_goals with_reducible rfl
            simp only [qqa, qqb, qqc, Act.put, qqd, qqe, qqf]
            refine' wpAnyH_take (i := 19) rfl (by kernel_rfl) (by kernel_rfl) (by kernel_rfl) (fun _ _ _ h => h) (Or.inl ⟨by rfl, ?_⟩) hHeld ?_
            rotate_left
            · intro W hSw
              have u0 := Old.cell hSw v0
              have u1 := Old.cell hSw v1
              have u2 := Old.cell hSw v2
              have u3 := Old.cell hSw v3
              have u4 := Old.cell hSw v4
              have u5 := Old.cell hSw v5
              have u6 := Old.cell hSw v6
              clear hSw
              simp only [qqa, qqb, qqc]
              go_simp
              all_goals with_reducible rfl
            simp only [qqa, qqb, qqc, Act.put, qqd, qqe, qqf]
            refine' wpAnyH_take (i := 20) rfl (by kernel_rfl) (by kernel_rfl) (by kernel_rfl) (fun _ _ _ h => h) (Or.inl ⟨by rfl, ?_⟩) hHeld ?_
            rotate_left
            · intro W hSw
              have u0 := Old.cell hSw v0
              have u1 := Old.cell hSw v1
              have u2 := Old.cell hSw v2
              have u3 := Old.cell hSw v3
              have u4 := Old.cell hSw v4
              have u5 := Old.cell hSw v5
              have u6 := Old.cell hSw v6
              clear hSw
              simp only [qqa, qqb, qqc]
              go_simp
              all_goals with_reducible rfl
            simp only [qqa, qqb, qqc, Act.put, qqd, qqe, qqf]
            refine' wpAnyH_take (i := 21) rfl (by kernel_rfl) (by kernel_rfl) (by kernel_rfl) (fun _ _ _ h => h) (Or.inl ⟨by rfl, ?_⟩) hHeld ?_
            rotate_left
            · intro W hSw
              have u0 := Old.cell hSw v0
              have u1 := Old.cell hSw v1
              have u2 := Old.cell hSw v2
              have u3 := Old.cell hSw v3
              have u4 := Old.cell hSw v4
              have u5 := Old.cell hSw v5
              have u6 := Old.cell hSw v6
              clear hSw
              simp only [qqa, qqb, qqc]
              go_simp
              all_goals with_reducible rfl
            simp only [qqa, qqb, qqc, Act.put, qqd, qqe, qqf]
            refine' wpAnyH_take (i := 22) rfl (by kernel_rfl) (by kernel_rfl) (by kernel_rfl) (fun _ _ _ h => h) (Or.inl ⟨by rfl, ?_⟩) hHeld ?_
            rotate_left
            · intro W hSw
              have u0 := Old.cell hSw v0
              have u1 := Old.cell hSw v1
              have u2 := Old.cell hSw v2
              have u3 := Old.cell hSw v3
              have u4 := Old.cell hSw v4
              have u5 := Old.cell hSw v5
              have u6 := Old.cell hSw v6
              clear hSw
              simp only [qqa, qqb, qqc]
              go_simp
              all_goals with_reducible rfl
            simp only [qqa, qqb, qqc, Act.put, qqd, qqe, qqf]
            refine' wpAnyH_take (i := 23) rfl (by kernel_rfl) (by kernel_rfl) (by kernel_rfl) (fun _ _ _ h => h) (Or.inl ⟨by rfl, ?_⟩) hHeld ?_
            rotate_left
            · intro W hSw
              have u0 := Old.cell hSw v0
              have u1 := Old.cell hSw v1
              have u2 := Old.cell hSw v2
              have u3 := Old.cell hSw v3
              have u4 := Old.cell hSw v4
              have u5 := Old.cell hSw v5
              have u6 := Old.cell hSw v6
              clear hSw
              simp only [qqa, qqb, qqc]
              go_simp
              all_goals with_reducible rfl
            simp only [qqa, qqb, qqc, Act.put, qqd, qqe, qqf]
            refine' wpAnyH_take (i := 24) rfl (by kernel_rfl) (by kernel_rfl) (by kernel_rfl) (fun _ _ _ h => h) (Or.inr ⟨by rfl, rfl⟩) hHeld ?_
            simp only [qqa, qqb, qqc, Act.put, qqd, qqe, qqf]
            refine' wpAnyH_take (i := 25) rfl (by kernel_rfl) (by kernel_rfl) (by kernel_rfl) (fun _ _ _ h => h) (Or.inr ⟨by rfl, rfl⟩) hHeld ?_
            simp only [qqa, qqb, qqc, Act.put, qqd, qqe, qqf]
            refine' wpAnyH_take (i := 26) rfl (by kernel_rfl) (by kernel_rfl) (by kernel_rfl) (fun _ _ _ h => h) (Or.inr ⟨by rfl, rfl⟩) hHeld ?_
            simp only [qqa, qqb, qqc, Act.put, qqd, qqe, qqf]
            refine' wpAnyH_take (i := 27) rfl (by kernel_rfl) (by kernel_rfl) (by kernel_rfl) (fun _ _ _ h => h) (Or.inr ⟨by rfl, rfl⟩) hHeld ?_
            simp only [qqa, qqb, qqc, Act.put, qqd, qqe, qqf]
            refine' wpAnyH_take (i := 28) rfl (by kernel_rfl) (by kernel_rfl) (by kernel_rfl) (fun _ _ _ h => h) (Or.inr ⟨by rfl, rfl⟩) hHeld ?_
            simp only [qqa, qqb, qqc, Act.put, qqd, qqe, qqf]
            refine' wpAnyH_take (i := 29) rfl (by kernel_rfl) (by kernel_rfl) (by kernel_rfl) (fun _ _ _ h => h) (Or.inr ⟨by rfl, rfl⟩) hHeld ?_
            simp only [qqa, qqb, qqc, Act.put, qqd, qqe, qqf]
            refine' wpAnyH_take (i := 30) rfl (by kernel_rfl) (by kernel_rfl) (by kernel_rfl) (fun _ _ _ h => h) (Or.inr ⟨by rfl, rfl⟩) hHeld ?_
            simp only [qqa, qqb, qqc, Act.put, qqd, qqe, qqf]
            refine' wpAnyH_take (i := 31) rfl (by kernel_rfl) (by kernel_rfl) (by kernel_rfl) (fun _ _ _ h => h) (Or.inr ⟨by rfl, rfl⟩) hHeld ?_
            simp only [qqa, qqb, qqc, Act.put, qqd, qqe, qqf]
            refine' wpAnyH_take (i := 32) rfl (by kernel_rfl) (by kernel_rfl) (by kernel_rfl) (fun _ _ _ h => h) (Or.inr ⟨by rfl, rfl⟩) hHeld ?_
            simp only [qqa, qqb, qqc, Act.put, qqd, qqe, qqf]
            refine' wpAnyH_take (i := 33) rfl (by kernel_rfl) (by kernel_rfl) (by kernel_rfl) (fun _ _ _ h => h) (Or.inr ⟨by rfl, rfl⟩) hHeld ?_
            simp only [qqa, qqb, qqc, Act.put, qqd, qqe, qqf]
            refine' wpAnyH_take (i := 34) rfl (by kernel_rfl) (by kernel_rfl) (by kernel_rfl) (fun _ _ _ h => h) (Or.inr ⟨by rfl, rfl⟩) hHeld ?_
            simp only [qqa, qqb, qqc, Act.put, qqd, qqe, qqf]
            refine' wpAnyH_take (i := 35) rfl (by kernel_rfl) (by kernel_rfl) (by kernel_rfl) (fun _ _ _ h => h) (Or.inr ⟨by rfl, rfl⟩) hHeld ?_
            simp only [qqa, qqb, qqc, Act.put, qqd, qqe, qqf]
            refine' wpAnyH_take (i := 36) rfl (by kernel_rfl) (by kernel_rfl) (by kernel_rfl) (fun _ _ _ h => h) (Or.inr ⟨by rfl, rfl⟩) hHeld ?_
            simp only [qqa, qqb, qqc, Act.put, qqd, qqe, qqf]
            refine' wpAnyH_take (i := 37) rfl (by kernel_rfl) (by kernel_rfl) (by kernel_rfl) (fun _ _ _ h => h) (Or.inr ⟨by rfl, rfl⟩) hHeld ?_
            simp only [qqa, qqb, qqc, Act.put, qqd, qqe, qqf]
            refine' wpAnyH_take (i := 38) rfl (by kernel_rfl) (by kernel_rfl) (by kernel_rfl) (fun _ _ _ h => h) (Or.inr ⟨by rfl, rfl⟩) hHeld ?_
            simp only [qqa, qqb, qqc, Act.put, qqd, qqe, qqf]
            refine' wpAnyH_take (i := 39) rfl (by kernel_rfl) (by kernel_rfl) (by kernel_rfl) (fun _ _ _ h => h) (Or.inr ⟨by rfl, rfl⟩) hHeld ?_
            simp only [qqa, qqb, qqc, Act.put, qqd, qqe, qqf]
            refine' wpAnyH_take (i := 40) rfl (by kernel_rfl) (by kernel_rfl) (by kernel_rfl) (fun _ _ _ h => h) (Or.inr ⟨by rfl, rfl⟩) hHeld ?_
            simp only [qqa, qqb, qqc, Act.put, qqd, qqe, qqf]
            refine' wpAnyH_take (i := 41) rfl (by kernel_rfl) (by kernel_rfl) (by kernel_rfl) (fun _ _ _ h => h) (Or.inr ⟨by rfl, rfl⟩) hHeld ?_
            simp only [qqa, qqb, qqc, Act.put, qqd, qqe, qqf]
            refine' wpAnyH_take (i := 42) rfl (by kernel_rfl) (by kernel_rfl) (by kernel_rfl) (fun _ _ _ h => h) (Or.inr ⟨by rfl, rfl⟩) hHeld ?_
            simp only [qqa, qqb, qqc, Act.put, qqd, qqe, qqf]
            refine' wpAnyH_take (i := 43) rfl (by kernel_rfl) (by kernel_rfl) (by kernel_rfl) (fun _ _ _ h => h) (Or.inr ⟨by rfl, rfl⟩) hHeld ?_
            simp only [qqa, qqb, qqc, Act.put, qqd, qqe, qqf]
            refine' wpAnyH_take (i := 44) rfl (by kernel_rfl) (by kernel_rfl) (by kernel_rfl) (fun _ _ _ h => h) (Or.inr ⟨by rfl, rfl⟩) hHeld ?_
            simp only [qqa, qqb, qqc, Act.put, qqd, qqe, qqf]
            refine' wpAnyH_take (i := 45) rfl (by kernel_rfl) (by kernel_rfl) (by kernel_rfl) (fun _ _ _ h => h) (Or.inr ⟨by rfl, rfl⟩) hHeld ?_
            simp only [qqa, qqb, qqc, Act.put, qqd, qqe, qqf]
            refine' wpAnyH_take (i := 46) rfl (by kernel_rfl) (by kernel_rfl) (by kernel_rfl) (fun _ _ _ h => h) (Or.inr ⟨by rfl, rfl⟩) hHeld ?_
            simp only [qqa, qqb, qqc, Act.put, qqd, qqe, qqf]
            refine' wpAnyH_take (i := 47) rfl (by kernel_rfl) (by kernel_rfl) (by kernel_rfl) (fun _ _ _ h => h) (Or.inr ⟨by rfl, rfl⟩) hHeld ?_
            simp only [qqa, qqb, qqc, Act.put, qqd, qqe, qqf]
            refine' wpAnyH_take (i := 48) rfl (by kernel_rfl) (by kernel_rfl) (by kernel_rfl) (fun _ _ _ h => h) (Or.inr ⟨by rfl, rfl⟩) hHeld ?_
            simp only [qqa, qqb, qqc, Act.put, qqd, qqe, qqf]
            refine' wpAnyH_take (i := 49) rfl (by kernel_rfl) (by kernel_rfl) (by kernel_rfl) (fun _ _ _ h => h) (Or.inr ⟨by rfl, rfl⟩) hHeld ?_
            simp only [qqa, qqb, qqc, Act.put, qqd, qqe, qqf]
            refine' wpAnyH_take (i := 50) rfl (by kernel_rfl) (by kernel_rfl) (by kernel_rfl) (fun _ _ _ h => h) (Or.inl ⟨by rfl, ?_⟩) hHeld ?_
            rotate_left
            · intro W hSw
              have u0 := Old.cell hSw v0
              have u1 := Old.cell hSw v1
              have u2 := Old.cell hSw v2
              have u3 := Old.cell hSw v3
              have u4 := Old.cell hSw v4
              have u5 := Old.cell hSw v5
              have u6 := Old.cell hSw v6
              clear hSw
              simp only [qqa, qqb, qqc]
              go_simp
              all_goals with_reducible rfl
            simp only [qqa, qqb, qqc, Act.put, qqd, qqe, qqf]
            refine' wpAnyH_take (i := 51) rfl (by kernel_rfl) (by kernel_rfl) (by kernel_rfl) (fun _ _ _ h => h) (Or.inl ⟨by rfl, ?_⟩) hHeld ?_
            rotate_left
            · intro W hSw
              have u0 := Old.cell hSw v0
              have u1 := Old.cell hSw v1
              have u2 := Old.cell hSw v2
              have u3 := Old.cell hSw v3
              have u4 := Old.cell hSw v4
              have u5 := Old.cell hSw v5
              have u6 := Old.cell hSw v6
              clear hSw
              simp only [qqa, qqb, qqc]
              go_simp
              all_goals with_reducible rfl
            simp only [qqa, qqb, qqc, Act.put, qqd, qqe, qqf]
            refine wpAnyH_done (by kernel_rfl) ?_ _
            refine NoPanic.normal ?_
            have kSD := hid (kSC.out.olds hHeld)
            clear hHeld v0 v1 v2 v3 v4 v5 v6 kSC
            have v0 := kSD.out.s.turn.cell
            clear hkq hmq
            go_wp2_with fail
            rw [rounds_succ]
            have fb3 := (Boxed.new V0 3 (.int .i64 2)).cell
            have om : Old V0 (V0.alloc (.cells #[.int .i64 2] 3)) := (Old.refl V0).alloc _
            have hres := boxed_olds kSD.out.s.t.res om
            have rc1 := hres.cell
            have rf1 := hres.frozen
            have kres := hid hres
            have kold := hid ((ko2.out.trans kSD.out.s.t.oW).trans om)
            have km := hid (mk_frm kSD.out.ms om (fun _ _ e => e))
            have hz9 := om.size
            clear om hres kSD v0
            generalize V0.alloc (.cells #[.int .i64 2] 3) = w9 at *
            go_wp2_with fail
            have hfx := frm_set w9 (s0 + 2) 0 (.bool true)
            have kmf := mk_set (.bool true) km.out kres.out
            refine leave_marks [D4, D3, D2, D1] _ ⟨by simp; omega, fun r hr => kmf r hr⟩ (fun W' hW' => ?_)
            have hge : ∀ r ∈ [D4, D3, D2, D1], s0 + 3 ≤ r := fun r hr => by
              have := kls.out
              simp only [List.mem_cons, List.not_mem_nil, or_false] at hr
              rcases hr with rfl | rfl | rfl | rfl <;> omega
            have hc0 := (boxed_frm (Boxed.set (.bool true) kres.out) hW' (fun h => by have := hge _ h; omega)).cell
            refine ⟨.bool true, ?_, rfl, ?_⟩
            · simp [results, Try.f8, go_sem, hc0]
            · exact Frm.trans (Frm.trans kold.out hfx (fun i hi e => by have := kss.out; omega)) hW' (fun i hi e => by have := kss.out; have := hge _ e; omega)
end Go.Proofs.Ytlhlmkdgbgppiaa
