/- No step is blocked, one falls at each, the last one is what is paid: walked. -/
import Derived.Test.YtgikkbkgmjacmaaDoorJ26
namespace Go.Proofs.YtgikkbkgmjacmaaDoor
open Go.RowKit Go.Lib Go.Shelf
attribute [local go_sem] Oper.semAt_some



set_option maxRecDepth 100000 in
set_option maxHeartbeats 4000000 in
theorem ltotal_any (pa : Option Addr) (pc : Nat) (P : List Int) (w : World) (h : NumsC .i64 w pa P) (hn : P.length ≤ 1000) (hb : ∀ x ∈ P, 0 ≤ x ∧ x ≤ 1099511627776) :
    Calls Tryd.prog 53 #[.slice pa P.length pc] w fun e w' => e = .returned (.int .i64 P.sum) ∧ w' = w := by
  have kh := hid h
  have kb := hid (sum_bnd hb)
  clear h
  go_enter Tryd.func53, Tryd.ntmps53
  go_wp2_with fail
  go_loopw [3, 4] (fun t3 t9 wr => ∃ k : Nat, k ≤ P.length ∧ t3 = .int .i64 (P.take k).sum ∧ t9 = .int .i64 (k : Int) ∧ wr = w) (fun _ t9 _ => P.length - (intOf t9).toNat)
  case atStart => exact ⟨0, Nat.zero_le _, rfl, rfl, by trivial⟩
  case round =>
    obtain ⟨k, hk, rfl, rfl, hwr⟩ := hrel
    obtain rfl := hwr.symm
    by_cases hlt : k < P.length
    · have hlt' : (k : Int) < (P.length : Int) := by omega
      obtain ⟨g, o, rfl, c1⟩ := kh.out k hlt
      have h1 := kb.out k hk
      have h2 := hb P[k] (List.getElem_mem hlt)
      have kS := hid (sum_take hlt)
      generalize P[k] = x at *
      generalize (P.take k).sum = z at *
      have h3 : 1099511627776 * (k : Int) ≤ 1099511627776000 := by omega
      go_wp2_with fail
      go_roundw
      case rel => exact ⟨k + 1, by omega, by rw [kS.out], by go_num, by trivial⟩
      case measure => simp [intOf]; omega
    · obtain rfl : k = P.length := by omega
      have hlt' : ¬ (P.length : Int) < (P.length : Int) := by omega
      rw [List.take_length]
      go_wp2_with fail
      go_ret
      exact ⟨rfl, rfl⟩


set_option maxRecDepth 100000 in
set_option maxHeartbeats 8000000 in
theorem lsteps_any (gd : Int) (bo po : Option Addr) (cap pc : Nat) (B : Ins) (w : World) (h : InsC w bo B) (hcap : B.length ≤ cap) (hl : B.length ≤ 9223372036854775807) (hP : NumsC .i64 w po (coreP gd B)) (hT : Tabs w) (hz : insZ gd B = 0) :
    Calls Tryd.prog 22 #[.agg #[.int .i64 gd, .slice bo B.length cap], .slice po (coreP gd B).length pc] w fun e w' => e = .returned (.bool true) ∧ Old w w' := by
  have o1 : Old w (w.alloc (.cells #[.int .i64 gd, .slice bo B.length cap] 24)) := (Old.refl w).alloc _
  have b1 := heap_new w (.cells #[.int .i64 gd, .slice bo B.length cap] 24)
  have z1 := alloc_size w (.cells #[.int .i64 gd, .slice bo B.length cap] 24)
  have o2 : Old (w.alloc (.cells #[.int .i64 gd, .slice bo B.length cap] 24)) ((w.alloc (.cells #[.int .i64 gd, .slice bo B.length cap] 24)).alloc (.cells #[.bool false] 4)) := (Old.refl _).alloc _
  have b2 := heap_new (w.alloc (.cells #[.int .i64 gd, .slice bo B.length cap] 24)) (.cells #[.bool false] 4)
  obtain ⟨s, hs⟩ : ∃ s, w.heap.size = s := ⟨_, rfl⟩
  have kss := hid hs
  rw [hs] at b1 z1
  rw [z1] at b2
  have b1 := (o2.block s (blk_lt b1) (fun h => h)).trans b1
  have x0 := blk_cells (i := 0) b1 rfl
  have x1 := blk_cells (i := 1) b1 rfl
  simp only [List.getElem_toArray, List.getElem_cons_zero, List.getElem_cons_succ] at x0 x1
  have kbR := hid b2
  have kz1 := hid (blk_lt b2)
  have ko := hid (o1.trans o2)
  have kh := hid h
  have kP := hid hP
  have kT := hid hT
  have klt := hid (ins_lt h)
  have kSt := hid (fun V (o : Old w V) => csteps_any gd bo cap B V (h.old o) hcap hl (hT.old o) hz)
  have kBk := hid (fun W (hw : InsC W bo B ∧ Tabs W) po pc Q hQ => blocks_any gd bo po cap pc B Q W hw.1 hcap hl hQ hw.2)
  have khz := hid hz
  have kNB := hid (won_nb hz klt.out)
  have kpb := hid (payB_of hz klt.out kNB.out.le)
  have kw := hid (win_of hz klt.out)
  have kst := hid (fun q r y h => step_k (q := q) (r := r) (y := y) hz klt.out h)
  have ken := hid (steps_end hz klt.out)
  have kK := hid (core_k hz klt.out)
  clear o1 o2 b1 b2 z1 h hT hP hz
  refine (callsIn_wide (n := 5)).1 ?_
  refine callsIn_of_wp_marks Tryd.func22 rfl trivial ?_ rfl
  simp only [Tryd.ntmps22, List.size_toArray, List.length_cons, List.length_nil, Nat.reduceAdd, Nat.reduceSub, Array.replicate_succ, Array.replicate_zero, List.push_toArray, List.append_toArray, List.nil_append, List.cons_append]
  refine wpIn_wide.2 ?_
  go_wp2_with fail
  generalize (w.alloc (.cells #[.int .i64 gd, .slice bo B.length cap] 24)).alloc (.cells #[.bool false] 4) = w1 at *
  refine (kSt.out _ ko.out).mono ?_
  rintro e w2 ⟨o2, xv, rb, rm, rfl, hN, hC⟩
  have ko2 := hid (ko.out.trans o2)
  have kbR := hid ((o2.block _ (blk_lt kbR.out) (fun h => h)).trans kbR.out)
  have x0 := o2.cell x0
  have x1 := o2.cell x1
  obtain ⟨xa, xc, rfl, hIC, -, -⟩ := hN.ins (fun l hl => ⟨by have := (ins_all khz.out).2.2.2.1 l hl; omega, klt.out l hl⟩)
  obtain ⟨c, hc⟩ : ∃ c, cosC gd B = c := ⟨_, rfl⟩
  have kce := hid hc
  obtain ⟨C, hCe⟩ : ∃ C, wonL B c = C := ⟨_, rfl⟩
  have kCe := hid hCe
  have kcl : Hid (c.length = B.length) := by have := kw.out.len; show _ = _; rw [← hc]; exact this
  rw [hc, hCe] at kNB kpb hC ⊢
  obtain ⟨A, hA⟩ : ∃ A, wonA gd (.slice xa B.length xc) c (.slice (some ⟨rb, 0, none⟩) C.length rm) = A := ⟨_, rfl⟩
  have kA := hid hA
  rw [hA]
  have q3 : Old w2 (w2.alloc (.cells #[.int .i64 (-1)] 2)) := (Old.refl w2).alloc _
  have b3 := heap_new w2 (.cells #[.int .i64 (-1)] 2)
  have z3 := alloc_size w2 (.cells #[.int .i64 (-1)] 2)
  have q4 : Old (w2.alloc (.cells #[.int .i64 (-1)] 2)) ((w2.alloc (.cells #[.int .i64 (-1)] 2)).alloc (.cells #[.int .i64 (-1)] 3)) := (Old.refl _).alloc _
  have b4 := heap_new (w2.alloc (.cells #[.int .i64 (-1)] 2)) (.cells #[.int .i64 (-1)] 3)
  have z4 := alloc_size (w2.alloc (.cells #[.int .i64 (-1)] 2)) (.cells #[.int .i64 (-1)] 3)
  obtain ⟨lb, hlb⟩ : ∃ lb, w2.heap.size = lb := ⟨_, rfl⟩
  rw [hlb] at b3 z3
  rw [z3] at b4 z4
  have kb3 := hid ((q4.block _ (blk_lt b3) (fun h => h)).trans b3)
  have kb4 := hid b4
  have kz4 := hid z4
  have o24 := q3.trans q4
  have ko4 := hid (ko2.out.trans o24)
  have kbR := hid ((o24.block _ (blk_lt kbR.out) (fun h => h)).trans kbR.out)
  have kx0 := hid (o24.cell x0)
  have kx1 := hid (o24.cell x1)
  have ksl : Hid (s + 1 < lb) := by
    have := World.block_lt_of_cell? _ _ x0
    have := ko2.out.size
    have h3 := kbR.out
    rw [o24.block _ (by have := ko.out.size; have := o2.size; have := kss.out; have h9 := kz1.out; omega) (fun h => h)] at h3
    have := blk_lt h3
    show _ < _
    omega
  have ko24 := hid o24
  have kIC := hid hIC
  have kC := hid hC
  have hrb := hid hC.lt.2
  rw [hlb] at hrb
  have klb := hid hlb
  clear hA o2 q3 b3 z3 q4 b4 z4 x0 x1 hN hIC hC hlb o24 hc hCe
  have hfn : ∀ (w : World) (f : Fn) (a b : Array Value), (binOp .eql 37 (.func f a b) .nilFunc).run Tryd.prog w = .ok (.bool false) w := fun w f a b => by kernel_rfl
  go_upto_region 99 with fail
  clear hfn
  rw [klb.out]
  generalize (w2.alloc (.cells #[.int .i64 (-1)] 2)).alloc (.cells #[.int .i64 (-1)] 3) = X0 at *
  obtain ⟨f, hf⟩ : ∃ f, (allZ gd).1 = f := ⟨_, rfl⟩
  have kf := hid hf
  rw [hf] at kNB
  have hseq := steps_B 4 (by omega) gd xa rb 0 xc rm B c C kcl.out kpb.out f hf kNB.out khz.out (fun q => q = lb ∨ q = lb + 1) X0 (fun q e => by have := kz4.out; omega) (fun Y hY => by
    refine ⟨kIC.out.kept (fun p v hv => ?_), ?_, kT.out.kept (fun p v hv => ?_)⟩
    · have h1 := World.block_lt_of_cell? _ _ hv
      have h2 := klb.out
      exact kept_cell hY (by omega) (ko24.out.cell hv)
    · intro i hi
      obtain ⟨g, o, e1, e2⟩ := kC.out.nums i hi
      simp only [Option.some.injEq, Addr.mk.injEq, and_true] at e1
      obtain ⟨rfl, rfl⟩ := e1
      exact ⟨_, _, rfl, kept_cell hY (by have := hrb.out; dsimp only; omega) (ko24.out.cell e2)⟩
    · have h1 := World.block_lt_of_cell? _ _ hv
      have h2 := ko2.out.size
      have h3 := klb.out
      exact kept_cell hY (by omega) (ko4.out.cell hv))
  rw [kA.out] at hseq
  have kseq := hid hseq
  have hwl : Hid (w.heap.size ≤ lb) := by have := ko2.out.size; have := klb.out; show _ ≤ _; omega
  clear hseq hf
  refine (wpIn_wide (n := 5)).1 ?_
  refine range_Bp (α := Sp) (by omega) (gf := 43) (pb := #[.agg A]) (lb := #[]) rfl (enters_of Tryd.func43 (by kernel_rfl) rfl)
    kseq.out (fun _ _ _ _ _ _ => trivial) (fun _ h => h.elim) (fun h k => h.trans k) (fun _ _ => KeptC.of_frm (Frm.refl _ _)) (fun x Y o o' h1 h2 => KeptC.put Y _ o o' h1 h2) (fun x Y o o' h h1 h2 => ⟨h.1.frm3 h1 h2 o', h.2⟩) (fun _ => rfl)
    (fun p Y => Y.heap[lb]? = some (.cells #[.int .i64 (laS (p.map unT))] 2 (0, 0)) ∧ Y.heap[lb + 1]? = some (.cells #[.int .i64 (laA (p.map unT))] 3 (0, 0)) ∧ Frm (fun q => q = lb ∨ q = lb + 1 ∨ X0.heap.size ≤ q) X0 Y)
    (fun _ _ _ => False)
    ?fI (fun _ _ _ _ h _ => h.elim) ?gI (fun _ _ _ _ _ h _ _ => h.elim) ?f0
    (fun x t => (((t.setIfInBounds 18 (.int .i64 (x.1 : Int))).setIfInBounds 19 x.2.1).setIfInBounds 8 (.int .i64 (x.1 : Int))).setIfInBounds 9 x.2.1) ?assign ?body ?done (fun _ _ _ _ _ _ h => h.elim)
  case fI =>
    rintro p X Y ⟨h1, h2, h4⟩ hf
    have e2 := kz4.out
    exact ⟨(hf.block _ (blk_lt h1) (by rintro (e | e); exact e; omega)).trans h1, (hf.block _ (blk_lt h2) (by rintro (e | e); exact e; omega)).trans h2, Frm.trans h4 hf (fun i _ e => e.elim (fun h => h.elim) (fun e => .inr (.inr e.1)))⟩
  case gI =>
    rintro p X o o' ⟨h1, h2, h4⟩ ho hc
    have e2 := kz4.out
    exact ⟨((put_one o').block _ (blk_lt h1) (by omega)).trans h1, ((put_one o').block _ (blk_lt h2) (by omega)).trans h2, Frm.trans h4 (put_one o') (fun i _ e => .inr (.inr (by omega)))⟩
  case f0 => exact ⟨kb3.out, kb4.out, Frm.refl _ _⟩
  case assign =>
    rintro l p ⟨xi, xv, xl⟩ Y K - ⟨hz, hsm⟩ hK
    obtain ⟨sb, sn, sm, hsm⟩ := hsm
    have kK := hid hK
    clear hK
    dsimp only at hsm
    subst hsm
    dsimp only [encT] at kK ⊢
    gi_wp2_with fail
    exact kK.out
  case body =>
    rintro l p ⟨xi, xv, xl⟩ Y ⟨h1, h2, h4⟩ ⟨r, hr⟩ ⟨hz, hsm⟩ hsz
    obtain ⟨sb, sn, sm, hsm⟩ := hsm
    dsimp only at hsm hz
    subst hsm
    obtain ⟨sa', sc', hzv, -⟩ := id hz
    simp only [Value.slice.injEq] at hzv
    obtain ⟨-, rfl, -⟩ := hzv
    have hst := kst.out (p.map unT) r (xi, xl) (by rw [kce.out, kCe.out, kf.out, hr, List.map_append]; rfl)
    have e2 := kz4.out
    have hs1 := ksl.out
    have u0 := frm_cell h4 kx0.out (by dsimp only; omega)
    have u1 := frm_cell h4 kx1.out (by dsimp only; omega)
    have hcw : ∀ pp u, w.cell? pp = some u → Y.cell? pp = some u := fun pp u hu => by
      have h5 := World.block_lt_of_cell? _ _ hu
      have h6 := hwl.out
      exact frm_cell h4 (ko4.out.cell hu) (by omega)
    have kBk2 := hid (kBk.out Y ⟨kh.out.kept hcw, kT.out.kept hcw⟩ (some ⟨sb, 0, none⟩) sm xl hz.nums)
    have kst2 := hid hst
    have kz := hid hz
    have k1 := hid h1
    have k2 := hid h2
    have k4 := hid h4
    clear h1 h2 h4 hz hst hr hcw
    gi_wp2_with fail
    refine ⟨trivial, callsIn_wide.2 (kBk2.out.mono ?_)⟩
    rintro e Y2 ⟨o2, hB⟩
    obtain ⟨hpz, -⟩ | ⟨-, hle, rfl⟩ | ⟨-, hlt, -⟩ := hB
    · exact absurd kst2.out.py hpz
    rotate_left
    · have := kst2.out.not
      dsimp only at this
      omega
    have q3 : Old Y2 (Y2.alloc (.cells #[.slice none 0 0, .int .i64 0] 57)) := (Old.refl Y2).alloc _
    have oo := o2.trans q3
    have h1 := (oo.block _ (blk_lt k1.out) (fun h => h)).trans k1.out
    have h2 := (oo.block _ (blk_lt k2.out) (fun h => h)).trans k2.out
    have c1 := blk_cell h1
    have c2 := blk_cell h2
    have hpos := kst2.out.pos
    have hxl32 : xl.length ≤ 32 := by have h9 : xl.length = B.length := kst2.out.len; have := kw.out.few; omega
    have hxs := sum_45 hxl32 kst2.out.mem
    have hfall := kst2.out.fall
    dsimp only at hpos hfall
    have kto := hid (fun W (o : Old (Y2.alloc (.cells #[.slice none 0 0, .int .i64 0] 57)) W) => ltotal_any (some ⟨sb, 0, none⟩) sm xl W ((kz.out.nums).old (oo.trans o)) (by omega) kst2.out.mem)
    have kla := hid (laA_app (p.map unT) (xi, xl))
    have kls := hid (laS_app (p.map unT) (xi, xl))
    dsimp only at kla kls
    have koo := hid oo
    have kh1 := hid h1
    have kh2 := hid h2
    generalize laS (p.map unT) = ls at *
    generalize laA (p.map unT) = la at *
    have hleq : ¬ (xi : Int) ≤ la := by omega
    have hleb : decide ((xi : Int) ≤ la) = false := by simpa using hleq
    generalize hxsum : xl.sum = sx at *
    clear q3 oo o2 hle h1 h2
    gi_wp2_with fail
    generalize Y2.alloc (.cells #[.slice none 0 0, .int .i64 0] 57) = Y3 at *
    refine region_round (S := fun X => X.cell? ⟨lb + 1, 0, none⟩ = some (.int .i64 la) ∧ X.cell? ⟨lb, 0, none⟩ = some (.int .i64 ls)) (by kernel_rfl) (by kernel_rfl) ⟨((Old.refl Y3).drewN 1).cell c2, ((Old.refl Y3).drewN 1).cell c1⟩ (fun hHeld => ?_)
    have kV : Hid (Old Y3 Y3.drew) := (Old.refl Y3).drewN 1
    generalize Y3.drew = V at *
    refine' wpAnyH_take (i := 0) rfl (by kernel_rfl) (by kernel_rfl) (by kernel_rfl) (fun _ _ _ h => h) (Or.inl ⟨by rfl, ?_⟩) hHeld ?_
    rotate_left
    · intro W hSw
      obtain ⟨r1, r2⟩ := hSw
      simp only [List.getElem_toArray, List.getElem_cons_zero]
      go_simp
      all_goals with_reducible rfl
    simp only [List.getElem_toArray, List.getElem_cons_zero, Act.put, List.setIfInBounds_toArray, List.set_cons_zero, List.set_cons_succ]
    refine' wpAnyH_take (i := 1) rfl (by kernel_rfl) (by kernel_rfl) (by kernel_rfl) (fun _ _ _ h => h) (Or.inl ⟨by rfl, ?_⟩) hHeld ?_
    rotate_left
    · intro W hSw
      obtain ⟨r1, r2⟩ := hSw
      simp only [List.getElem_toArray, List.getElem_cons_zero, List.getElem_cons_succ]
      go_simp
      all_goals with_reducible rfl
    simp only [List.getElem_toArray, List.getElem_cons_zero, List.getElem_cons_succ, Act.put, List.setIfInBounds_toArray, List.set_cons_zero, List.set_cons_succ]
    refine' wpAnyH_take (i := 2) rfl (by kernel_rfl) (by kernel_rfl) (by kernel_rfl) (fun _ _ _ h => h) (Or.inl ⟨by rfl, ?_⟩) hHeld ?_
    rotate_left
    · intro W hSw
      obtain ⟨r1, r2⟩ := hSw
      simp only [List.getElem_toArray, List.getElem_cons_zero, List.getElem_cons_succ]
      go_simp
      all_goals with_reducible rfl
    simp only [List.getElem_toArray, List.getElem_cons_zero, List.getElem_cons_succ, Act.put, List.setIfInBounds_toArray, List.set_cons_zero, List.set_cons_succ]
    refine' wpAnyH_take (i := 3) rfl (by kernel_rfl) (by kernel_rfl) (by kernel_rfl) (fun _ _ _ h => h) (Or.inl ⟨by rfl, ?_⟩) hHeld ?_
    rotate_left
    · intro W hSw
      obtain ⟨r1, r2⟩ := hSw
      simp only [List.getElem_toArray, List.getElem_cons_zero, List.getElem_cons_succ]
      go_simp
      all_goals with_reducible rfl
    simp only [List.getElem_toArray, List.getElem_cons_zero, List.getElem_cons_succ, Act.put, List.setIfInBounds_toArray, List.set_cons_zero, List.set_cons_succ]
    refine' wpAnyH_take (i := 4) rfl (by kernel_rfl) (by kernel_rfl) (by kernel_rfl) (fun _ _ _ h => h) (Or.inl ⟨by rfl, ?_⟩) hHeld ?_
    rotate_left
    · intro W hSw
      obtain ⟨r1, r2⟩ := hSw
      simp only [List.getElem_toArray, List.getElem_cons_zero, List.getElem_cons_succ]
      go_simp
      all_goals with_reducible rfl
    simp only [List.getElem_toArray, List.getElem_cons_zero, List.getElem_cons_succ, Act.put, List.setIfInBounds_toArray, List.set_cons_zero, List.set_cons_succ]
    refine' wpAnyH_take (i := 5) rfl (by kernel_rfl) (by kernel_rfl) (by kernel_rfl) (fun _ _ _ h => h) (Or.inl ⟨by rfl, ?_⟩) hHeld ?_
    rotate_left
    · intro W hSw
      obtain ⟨r1, r2⟩ := hSw
      simp only [List.getElem_toArray, List.getElem_cons_zero, List.getElem_cons_succ]
      go_simp
      all_goals with_reducible rfl
    simp only [List.getElem_toArray, List.getElem_cons_zero, List.getElem_cons_succ, Act.put, List.setIfInBounds_toArray, List.set_cons_zero, List.set_cons_succ]
    refine' wpAnyH_take (i := 6) rfl (by kernel_rfl) (by kernel_rfl) (by kernel_rfl) (fun _ _ _ h => h) (Or.inl ⟨by rfl, ?_⟩) hHeld ?_
    rotate_left
    · intro W hSw
      obtain ⟨r1, r2⟩ := hSw
      simp only [List.getElem_toArray, List.getElem_cons_zero, List.getElem_cons_succ]
      go_simp
      all_goals with_reducible rfl
    simp only [List.getElem_toArray, List.getElem_cons_zero, List.getElem_cons_succ, Act.put, List.setIfInBounds_toArray, List.set_cons_zero, List.set_cons_succ]
    refine' wpAnyH_take (i := 7) rfl (by kernel_rfl) (by kernel_rfl) (by kernel_rfl) (fun _ _ _ h => h) (Or.inl ⟨by rfl, ?_⟩) hHeld ?_
    rotate_left
    · intro W hSw
      obtain ⟨r1, r2⟩ := hSw
      simp only [List.getElem_toArray, List.getElem_cons_zero, List.getElem_cons_succ]
      go_simp
      all_goals with_reducible rfl
    simp only [List.getElem_toArray, List.getElem_cons_zero, List.getElem_cons_succ, Act.put, List.setIfInBounds_toArray, List.set_cons_zero, List.set_cons_succ]
    refine' wpAnyH_take (i := 8) rfl (by kernel_rfl) (by kernel_rfl) (by kernel_rfl) (fun _ _ _ h => h) (Or.inl ⟨by rfl, ?_⟩) hHeld ?_
    rotate_left
    · intro W hSw
      obtain ⟨r1, r2⟩ := hSw
      simp only [List.getElem_toArray, List.getElem_cons_zero, List.getElem_cons_succ]
      go_simp
      all_goals with_reducible rfl
    simp only [List.getElem_toArray, List.getElem_cons_zero, List.getElem_cons_succ, Act.put, List.setIfInBounds_toArray, List.set_cons_zero, List.set_cons_succ]
    refine' wpAnyH_take (i := 9) rfl (by kernel_rfl) (by kernel_rfl) (by kernel_rfl) (fun _ _ _ h => h) (Or.inl ⟨by rfl, ?_⟩) hHeld ?_
    rotate_left
    · intro W hSw
      obtain ⟨r1, r2⟩ := hSw
      simp only [List.getElem_toArray, List.getElem_cons_zero, List.getElem_cons_succ]
      go_simp
      all_goals with_reducible rfl
    simp only [List.getElem_toArray, List.getElem_cons_zero, List.getElem_cons_succ, Act.put, List.setIfInBounds_toArray, List.set_cons_zero, List.set_cons_succ]
    refine' wpAnyH_take (i := 10) rfl (by kernel_rfl) (by kernel_rfl) (by kernel_rfl) (fun _ _ _ h => h) (Or.inl ⟨by rfl, ?_⟩) hHeld ?_
    rotate_left
    · intro W hSw
      obtain ⟨r1, r2⟩ := hSw
      simp only [List.getElem_toArray, List.getElem_cons_zero, List.getElem_cons_succ]
      go_simp
      all_goals with_reducible rfl
    simp only [List.getElem_toArray, List.getElem_cons_zero, List.getElem_cons_succ, Act.put, List.setIfInBounds_toArray, List.set_cons_zero, List.set_cons_succ]
    refine' wpAnyH_take (i := 11) rfl (by kernel_rfl) (by kernel_rfl) (by kernel_rfl) (fun _ _ _ h => h) (Or.inl ⟨by rfl, ?_⟩) hHeld ?_
    rotate_left
    · intro W hSw
      obtain ⟨r1, r2⟩ := hSw
      simp only [List.getElem_toArray, List.getElem_cons_zero, List.getElem_cons_succ]
      go_simp
      all_goals with_reducible rfl
    simp only [List.getElem_toArray, List.getElem_cons_zero, List.getElem_cons_succ, Act.put, List.setIfInBounds_toArray, List.set_cons_zero, List.set_cons_succ]
    by_cases hls : 0 ≤ ls
    · have hlsb : decide (ls ≥ 0) = true := decide_eq_true hls
      have hlsb2 : decide (0 ≤ ls) = true := decide_eq_true hls
      have hgt : decide (sx > ls) = false := by simp; omega
      have hgt2 : decide (ls < sx) = false := by simp; omega
      refine' wpAnyH_take (i := 12) rfl (by kernel_rfl) (by kernel_rfl) (by kernel_rfl) (fun _ _ _ h => h) (Or.inl ⟨by rfl, ?_⟩) hHeld ?_
      rotate_left
      · intro W hSw
        obtain ⟨r1, r2⟩ := hSw
        simp only [List.getElem_toArray, List.getElem_cons_zero, List.getElem_cons_succ]
        go_simp
        all_goals with_reducible rfl
      simp only [List.getElem_toArray, List.getElem_cons_zero, List.getElem_cons_succ, Act.put, List.setIfInBounds_toArray, List.set_cons_zero, List.set_cons_succ]
      refine' wpAnyH_take (i := 13) rfl (by kernel_rfl) (by kernel_rfl) (by kernel_rfl) (fun _ _ _ h => h) (Or.inl ⟨by rfl, ?_⟩) hHeld ?_
      rotate_left
      · intro W hSw
        obtain ⟨r1, r2⟩ := hSw
        simp only [List.getElem_toArray, List.getElem_cons_zero, List.getElem_cons_succ]
        go_simp
        all_goals with_reducible rfl
      simp only [List.getElem_toArray, List.getElem_cons_zero, List.getElem_cons_succ, Act.put, List.setIfInBounds_toArray, List.set_cons_zero, List.set_cons_succ]
      refine' wpAnyH_take (i := 14) rfl (by kernel_rfl) (by kernel_rfl) (by kernel_rfl) (fun _ _ _ h => h) (Or.inl ⟨by rfl, ?_⟩) hHeld ?_
      rotate_left
      · intro W hSw
        obtain ⟨r1, r2⟩ := hSw
        simp only [List.getElem_toArray, List.getElem_cons_zero, List.getElem_cons_succ]
        go_simp
        all_goals with_reducible rfl
      simp only [List.getElem_toArray, List.getElem_cons_zero, List.getElem_cons_succ, Act.put, List.setIfInBounds_toArray, List.set_cons_zero, List.set_cons_succ]
      refine' wpAnyH_take (i := 16) rfl (by kernel_rfl) (by kernel_rfl) (by kernel_rfl) (fun _ _ _ h => h) (Or.inl ⟨by rfl, ?_⟩) hHeld ?_
      rotate_left
      · intro W hSw
        obtain ⟨r1, r2⟩ := hSw
        simp only [List.getElem_toArray, List.getElem_cons_zero, List.getElem_cons_succ]
        go_simp
        all_goals with_reducible rfl
      simp only [List.getElem_toArray, List.getElem_cons_zero, List.getElem_cons_succ, Act.put, List.setIfInBounds_toArray, List.set_cons_zero, List.set_cons_succ]
      refine wpAnyH_ready (rs := [15]) (by kernel_rfl) (by simp) ?_
      refine AllReadyH.cons (o := _) rfl (fun K hK => ?_) AllReadyH.nil
      simp only [List.getElem_toArray, List.getElem_cons_zero, List.getElem_cons_succ]
      go_simp
      refine (kto.out V kV.out).mono ?_
      rintro e V2 ⟨rfl, e2'⟩
      rw [e2']
      clear e2' V2
      refine hK.out _ _ (hHeld) (fun hHeld2 => ?_)
      clear hHeld hK
      have hHeld := hHeld2
      clear hHeld2
      try simp only [Act.put, List.setIfInBounds_toArray, List.set_cons_zero, List.set_cons_succ]
      refine' wpAnyH_take (i := 17) rfl (by kernel_rfl) (by kernel_rfl) (by kernel_rfl) (fun _ _ _ h => h) (Or.inl ⟨by rfl, ?_⟩) hHeld ?_
      rotate_left
      · intro W hSw
        obtain ⟨r1, r2⟩ := hSw
        simp only [List.getElem_toArray, List.getElem_cons_zero, List.getElem_cons_succ]
        go_simp
        all_goals with_reducible rfl
      simp only [List.getElem_toArray, List.getElem_cons_zero, List.getElem_cons_succ, Act.put, List.setIfInBounds_toArray, List.set_cons_zero, List.set_cons_succ]
      refine' wpAnyH_take (i := 18) rfl (by kernel_rfl) (by kernel_rfl) (by kernel_rfl) (fun _ _ _ h => h) (Or.inl ⟨by rfl, ?_⟩) hHeld ?_
      rotate_left
      · intro W hSw
        obtain ⟨r1, r2⟩ := hSw
        simp only [List.getElem_toArray, List.getElem_cons_zero, List.getElem_cons_succ]
        go_simp
        all_goals with_reducible rfl
      simp only [List.getElem_toArray, List.getElem_cons_zero, List.getElem_cons_succ, Act.put, List.setIfInBounds_toArray, List.set_cons_zero, List.set_cons_succ]
      refine' wpAnyH_take (i := 19) rfl (by kernel_rfl) (by kernel_rfl) (by kernel_rfl) (fun _ _ _ h => h) (Or.inl ⟨by rfl, ?_⟩) hHeld ?_
      rotate_left
      · intro W hSw
        obtain ⟨r1, r2⟩ := hSw
        simp only [List.getElem_toArray, List.getElem_cons_zero, List.getElem_cons_succ]
        go_simp
        all_goals with_reducible rfl
      simp only [List.getElem_toArray, List.getElem_cons_zero, List.getElem_cons_succ, Act.put, List.setIfInBounds_toArray, List.set_cons_zero, List.set_cons_succ]
      refine wpAnyH_done (by kernel_rfl) ?_ _
      refine OnlyN.normal ?_
      clear hHeld
      have kto2 := hid (kto.out V kV.out)
      have oV := koo.out.trans kV.out
      have d1 := (kV.out.block _ (blk_lt kh1.out) (fun h => h)).trans kh1.out
      have d2 := (kV.out.block _ (blk_lt kh2.out) (fun h => h)).trans kh2.out
      have e0 := blk_cell d2
      have f0 := blk_fz d2 0
      have b5 := heap_set (i := 0) (.int .i64 (xi : Int)) d2
      have fS1 := frm_set V (lb + 1) 0 (.int .i64 (xi : Int))
      have d3 := (fS1.block _ (blk_lt d1) (by omega)).trans d1
      have e1 := blk_cell d3
      have f1 := blk_fz d3 0
      have b6 := heap_set (i := 0) (.int .i64 sx) d3
      have fS2 := frm_set (V.setCell ⟨lb + 1, 0, none⟩ (.int .i64 (xi : Int))) lb 0 (.int .i64 sx)
      have b7 := (fS2.block _ (blk_lt b5) (by omega)).trans b5
      have kfin : Hid (ownPostM X0.heap.size (fun X Z => KeptC (Tb (fun q => q = lb ∨ q = lb + 1) (.slice (some ⟨sb, 0, none⟩) xl.length sm)) X Z) (fun p Y => Y.heap[lb]? = some (.cells #[.int .i64 (laS (p.map unT))] 2 (0, 0)) ∧ Y.heap[lb + 1]? = some (.cells #[.int .i64 (laA (p.map unT))] 3 (0, 0)) ∧ Frm (fun q => q = lb ∨ q = lb + 1 ∨ X0.heap.size ≤ q) X0 Y) (fun _ _ _ => False) (p ++ [(xi, (.slice (some ⟨sb, 0, none⟩) xl.length sm, xl))]) Y .normal { tmps := #[], defers := [] } ((V.setCell ⟨lb + 1, 0, none⟩ (.int .i64 (xi : Int))).setCell ⟨lb, 0, none⟩ (.int .i64 sx))) := by
        have fS : Frm (fun q => q = lb ∨ q = lb + 1) V ((V.setCell ⟨lb + 1, 0, none⟩ (.int .i64 (xi : Int))).setCell ⟨lb, 0, none⟩ (.int .i64 sx)) := Frm.trans (Frm.mono fS1 (fun _ _ e => .inr e)) fS2 (fun _ _ e => .inl e)
        refine ⟨((keeps_old oV).trans (keeps_low (by omega) _ _)).trans (keeps_low (by omega) _ _), (KeptC.of_frm (Frm.mono oV (fun _ _ h => h.elim))).trans (KeptC.of_frm (Frm.mono fS (fun _ _ e => .inl e))), ?_, ?_, Frm.trans (Frm.trans k4.out oV (fun _ _ h => h.elim)) fS (fun i _ e => e.elim .inl (fun e => .inr (.inl e)))⟩
        · rw [List.map_append, List.map_singleton, show unT (xi, (Value.slice (some ⟨sb, 0, none⟩) xl.length sm, xl)) = (xi, xl) from rfl, kls.out]
          exact b6
        · rw [List.map_append, List.map_singleton, show unT (xi, (Value.slice (some ⟨sb, 0, none⟩) xl.length sm, xl)) = (xi, xl) from rfl, kla.out]
          exact b7
      clear b5 b6 b7 d1 d2 fS1 fS2 oV
      gi_wp2_with fail
      refine ⟨trivial, callsIn_wide.2 (kto2.out.mono ?_)⟩
      rintro e V2 ⟨rfl, e2'⟩
      rw [e2']
      clear e2' V2
      gi_wp2_with fail
      have h9 := kfin.out
      rw [e2] at h9
      exact h9
    · have hlsb : decide (ls ≥ 0) = false := by simp; omega
      have hlsb2 : decide (0 ≤ ls) = false := by simp; omega
      refine' wpAnyH_take (i := 12) rfl (by kernel_rfl) (by kernel_rfl) (by kernel_rfl) (fun _ _ _ h => h) (Or.inl ⟨by rfl, ?_⟩) hHeld ?_
      rotate_left
      · intro W hSw
        obtain ⟨r1, r2⟩ := hSw
        simp only [List.getElem_toArray, List.getElem_cons_zero, List.getElem_cons_succ]
        go_simp
        all_goals with_reducible rfl
      simp only [List.getElem_toArray, List.getElem_cons_zero, List.getElem_cons_succ, Act.put, List.setIfInBounds_toArray, List.set_cons_zero, List.set_cons_succ]
      refine' wpAnyH_take (i := 13) rfl (by kernel_rfl) (by kernel_rfl) (by kernel_rfl) (fun _ _ _ h => h) (Or.inl ⟨by rfl, ?_⟩) hHeld ?_
      rotate_left
      · intro W hSw
        obtain ⟨r1, r2⟩ := hSw
        simp only [List.getElem_toArray, List.getElem_cons_zero, List.getElem_cons_succ]
        go_simp
        all_goals with_reducible rfl
      simp only [List.getElem_toArray, List.getElem_cons_zero, List.getElem_cons_succ, Act.put, List.setIfInBounds_toArray, List.set_cons_zero, List.set_cons_succ]
      refine' wpAnyH_take (i := 14) rfl (by kernel_rfl) (by kernel_rfl) (by kernel_rfl) (fun _ _ _ h => h) (Or.inr ⟨by rfl, rfl⟩) hHeld ?_
      simp only [List.getElem_toArray, List.getElem_cons_zero, List.getElem_cons_succ, Act.put, List.setIfInBounds_toArray, List.set_cons_zero, List.set_cons_succ]
      refine' wpAnyH_take (i := 15) rfl (by kernel_rfl) (by kernel_rfl) (by kernel_rfl) (fun _ _ _ h => h) (Or.inr ⟨by rfl, rfl⟩) hHeld ?_
      simp only [List.getElem_toArray, List.getElem_cons_zero, List.getElem_cons_succ, Act.put, List.setIfInBounds_toArray, List.set_cons_zero, List.set_cons_succ]
      refine' wpAnyH_take (i := 16) rfl (by kernel_rfl) (by kernel_rfl) (by kernel_rfl) (fun _ _ _ h => h) (Or.inr ⟨by rfl, rfl⟩) hHeld ?_
      simp only [List.getElem_toArray, List.getElem_cons_zero, List.getElem_cons_succ, Act.put, List.setIfInBounds_toArray, List.set_cons_zero, List.set_cons_succ]
      refine' wpAnyH_take (i := 17) rfl (by kernel_rfl) (by kernel_rfl) (by kernel_rfl) (fun _ _ _ h => h) (Or.inr ⟨by rfl, rfl⟩) hHeld ?_
      simp only [List.getElem_toArray, List.getElem_cons_zero, List.getElem_cons_succ, Act.put, List.setIfInBounds_toArray, List.set_cons_zero, List.set_cons_succ]
      refine' wpAnyH_take (i := 18) rfl (by kernel_rfl) (by kernel_rfl) (by kernel_rfl) (fun _ _ _ h => h) (Or.inl ⟨by rfl, ?_⟩) hHeld ?_
      rotate_left
      · intro W hSw
        obtain ⟨r1, r2⟩ := hSw
        simp only [List.getElem_toArray, List.getElem_cons_zero, List.getElem_cons_succ]
        go_simp
        all_goals with_reducible rfl
      simp only [List.getElem_toArray, List.getElem_cons_zero, List.getElem_cons_succ, Act.put, List.setIfInBounds_toArray, List.set_cons_zero, List.set_cons_succ]
      refine' wpAnyH_take (i := 19) rfl (by kernel_rfl) (by kernel_rfl) (by kernel_rfl) (fun _ _ _ h => h) (Or.inl ⟨by rfl, ?_⟩) hHeld ?_
      rotate_left
      · intro W hSw
        obtain ⟨r1, r2⟩ := hSw
        simp only [List.getElem_toArray, List.getElem_cons_zero, List.getElem_cons_succ]
        go_simp
        all_goals with_reducible rfl
      simp only [List.getElem_toArray, List.getElem_cons_zero, List.getElem_cons_succ, Act.put, List.setIfInBounds_toArray, List.set_cons_zero, List.set_cons_succ]
      refine wpAnyH_done (by kernel_rfl) ?_ _
      refine OnlyN.normal ?_
      clear hHeld
      have kto2 := hid (kto.out V kV.out)
      have oV := koo.out.trans kV.out
      have d1 := (kV.out.block _ (blk_lt kh1.out) (fun h => h)).trans kh1.out
      have d2 := (kV.out.block _ (blk_lt kh2.out) (fun h => h)).trans kh2.out
      have e0 := blk_cell d2
      have f0 := blk_fz d2 0
      have b5 := heap_set (i := 0) (.int .i64 (xi : Int)) d2
      have fS1 := frm_set V (lb + 1) 0 (.int .i64 (xi : Int))
      have d3 := (fS1.block _ (blk_lt d1) (by omega)).trans d1
      have e1 := blk_cell d3
      have f1 := blk_fz d3 0
      have b6 := heap_set (i := 0) (.int .i64 sx) d3
      have fS2 := frm_set (V.setCell ⟨lb + 1, 0, none⟩ (.int .i64 (xi : Int))) lb 0 (.int .i64 sx)
      have b7 := (fS2.block _ (blk_lt b5) (by omega)).trans b5
      have kfin : Hid (ownPostM X0.heap.size (fun X Z => KeptC (Tb (fun q => q = lb ∨ q = lb + 1) (.slice (some ⟨sb, 0, none⟩) xl.length sm)) X Z) (fun p Y => Y.heap[lb]? = some (.cells #[.int .i64 (laS (p.map unT))] 2 (0, 0)) ∧ Y.heap[lb + 1]? = some (.cells #[.int .i64 (laA (p.map unT))] 3 (0, 0)) ∧ Frm (fun q => q = lb ∨ q = lb + 1 ∨ X0.heap.size ≤ q) X0 Y) (fun _ _ _ => False) (p ++ [(xi, (.slice (some ⟨sb, 0, none⟩) xl.length sm, xl))]) Y .normal { tmps := #[], defers := [] } ((V.setCell ⟨lb + 1, 0, none⟩ (.int .i64 (xi : Int))).setCell ⟨lb, 0, none⟩ (.int .i64 sx))) := by
        have fS : Frm (fun q => q = lb ∨ q = lb + 1) V ((V.setCell ⟨lb + 1, 0, none⟩ (.int .i64 (xi : Int))).setCell ⟨lb, 0, none⟩ (.int .i64 sx)) := Frm.trans (Frm.mono fS1 (fun _ _ e => .inr e)) fS2 (fun _ _ e => .inl e)
        refine ⟨((keeps_old oV).trans (keeps_low (by omega) _ _)).trans (keeps_low (by omega) _ _), (KeptC.of_frm (Frm.mono oV (fun _ _ h => h.elim))).trans (KeptC.of_frm (Frm.mono fS (fun _ _ e => .inl e))), ?_, ?_, Frm.trans (Frm.trans k4.out oV (fun _ _ h => h.elim)) fS (fun i _ e => e.elim .inl (fun e => .inr (.inl e)))⟩
        · rw [List.map_append, List.map_singleton, show unT (xi, (Value.slice (some ⟨sb, 0, none⟩) xl.length sm, xl)) = (xi, xl) from rfl, kls.out]
          exact b6
        · rw [List.map_append, List.map_singleton, show unT (xi, (Value.slice (some ⟨sb, 0, none⟩) xl.length sm, xl)) = (xi, xl) from rfl, kla.out]
          exact b7
      clear b5 b6 b7 d1 d2 fS1 fS2 oV
      gi_wp2_with fail
      refine ⟨trivial, callsIn_wide.2 (kto2.out.mono ?_)⟩
      rintro e V2 ⟨rfl, e2'⟩
      rw [e2']
      clear e2' V2
      gi_wp2_with fail
      have h9 := kfin.out
      rw [e2] at h9
      exact h9
  case done =>
    rintro D q Y hD hq ⟨h1, h2, h4⟩ - hDb
    rw [hq] at h1
    have c1 := blk_cell h1
    have e2 := kz4.out
    have hs1 := ksl.out
    have hkP : NumsC .i64 Y po (coreP gd B) := fun i hi => by
      obtain ⟨g, o, e1, e3⟩ := kP.out i hi
      have h5 := World.block_lt_of_cell? _ _ e3
      have h6 := hwl.out
      exact ⟨g, o, e1, frm_cell h4 (ko4.out.cell e3) (by dsimp only at h5 ⊢; omega)⟩
    have hPl : (coreP gd B).length ≤ 32 := by have := kK.out.nb.len; have := kw.out.few; omega
    have hPm : ∀ x ∈ coreP gd B, 0 ≤ x ∧ x ≤ 1099511627776 := kK.out.nb.le.mem2 (fun x hx => (won_mem khz.out klt.out x hx).2)
    have kto := hid (fun W (o : Old Y W) => ltotal_any po pc (coreP gd B) W (hkP.old o) (by omega) hPm)
    have hen := ken.out
    rw [kce.out, kCe.out, kf.out] at hen
    generalize laS (toK B f C c 32) = ls at *
    have kDb := hid hDb
    have khD := hid hD
    have kbY := hid ((h4.block _ (blk_lt kbR.out) (by omega)).trans kbR.out)
    have koY : Hid (Old w Y) := Frm.trans ko4.out h4 (fun i hi e => by have := hwl.out; omega)
    have hps := sum_45 hPl hPm
    generalize hPs : (coreP gd B).sum = sp at *
    clear h1 h2 h4 hDb hD hkP hPm
    refine inBlock_both (Or.inl rfl) ?_
    dsimp only
    go_wp2_with fail
    refine wp_region_noPanic ?_
    refine wp_region_held_drew (S := fun W => W.cell? ⟨lb, 0, none⟩ = some (.int .i64 ls)) (by kernel_rfl) (((Old.refl Y).drewN 1).cell c1) (fun hHeld => ?_)
    have kV : Hid (Old Y Y.drew) := (Old.refl Y).drewN 1
    generalize Y.drew = V at *
    refine' wpAnyH_take (i := 0) rfl (by kernel_rfl) (by kernel_rfl) (by kernel_rfl) (fun _ _ _ h => h) (Or.inl ⟨by rfl, ?_⟩) hHeld ?_
    rotate_left
    · intro W hSw
      obtain r1 := hSw
      simp only [List.getElem_toArray, List.getElem_cons_zero]
      go_simp
      all_goals with_reducible rfl
    simp only [List.getElem_toArray, List.getElem_cons_zero, Act.put, List.setIfInBounds_toArray, List.set_cons_zero, List.set_cons_succ]
    rcases hen with ⟨n1, n2⟩ | ⟨n1, n2⟩
    · have n1b : decide (ls < 0) = true := decide_eq_true n1
      have n2b : (sp == 0) = true := by simpa using n2
      refine' wpAnyH_take (i := 1) rfl (by kernel_rfl) (by kernel_rfl) (by kernel_rfl) (fun _ _ _ h => h) (Or.inl ⟨by rfl, ?_⟩) hHeld ?_
      rotate_left
      · intro W hSw
        obtain r1 := hSw
        simp only [List.getElem_toArray, List.getElem_cons_zero, List.getElem_cons_succ]
        go_simp
        all_goals with_reducible rfl
      simp only [List.getElem_toArray, List.getElem_cons_zero, List.getElem_cons_succ, Act.put, List.setIfInBounds_toArray, List.set_cons_zero, List.set_cons_succ]
      refine' wpAnyH_take (i := 2) rfl (by kernel_rfl) (by kernel_rfl) (by kernel_rfl) (fun _ _ _ h => h) (Or.inl ⟨by rfl, ?_⟩) hHeld ?_
      rotate_left
      · intro W hSw
        obtain r1 := hSw
        simp only [List.getElem_toArray, List.getElem_cons_zero, List.getElem_cons_succ]
        go_simp
        all_goals with_reducible rfl
      simp only [List.getElem_toArray, List.getElem_cons_zero, List.getElem_cons_succ, Act.put, List.setIfInBounds_toArray, List.set_cons_zero, List.set_cons_succ]
      refine' wpAnyH_take (i := 3) rfl (by kernel_rfl) (by kernel_rfl) (by kernel_rfl) (fun _ _ _ h => h) (Or.inl ⟨by rfl, ?_⟩) hHeld ?_
      rotate_left
      · intro W hSw
        obtain r1 := hSw
        simp only [List.getElem_toArray, List.getElem_cons_zero, List.getElem_cons_succ]
        go_simp
        all_goals with_reducible rfl
      simp only [List.getElem_toArray, List.getElem_cons_zero, List.getElem_cons_succ, Act.put, List.setIfInBounds_toArray, List.set_cons_zero, List.set_cons_succ]
      refine wpAnyH_ready (rs := [4]) (by kernel_rfl) (by simp) ?_
      refine AllReadyH.cons (o := _) rfl (fun K hK => ?_) AllReadyH.nil
      simp only [List.getElem_toArray, List.getElem_cons_zero, List.getElem_cons_succ]
      go_simp
      refine (kto.out V kV.out).mono ?_
      rintro e V2 ⟨rfl, e2'⟩
      rw [e2']
      clear e2' V2
      refine hK.out _ _ (hHeld) (fun hHeld2 => ?_)
      clear hHeld hK
      have hHeld := hHeld2
      clear hHeld2
      try simp only [Act.put, List.setIfInBounds_toArray, List.set_cons_zero, List.set_cons_succ]
      refine' wpAnyH_take (i := 5) rfl (by kernel_rfl) (by kernel_rfl) (by kernel_rfl) (fun _ _ _ h => h) (Or.inl ⟨by rfl, ?_⟩) hHeld ?_
      rotate_left
      · intro W hSw
        obtain r1 := hSw
        simp only [List.getElem_toArray, List.getElem_cons_zero, List.getElem_cons_succ]
        go_simp
        all_goals with_reducible rfl
      simp only [List.getElem_toArray, List.getElem_cons_zero, List.getElem_cons_succ, Act.put, List.setIfInBounds_toArray, List.set_cons_zero, List.set_cons_succ]
      refine' wpAnyH_take (i := 6) rfl (by kernel_rfl) (by kernel_rfl) (by kernel_rfl) (fun _ _ _ h => h) (Or.inl ⟨by rfl, ?_⟩) hHeld ?_
      rotate_left
      · intro W hSw
        obtain r1 := hSw
        simp only [List.getElem_toArray, List.getElem_cons_zero, List.getElem_cons_succ]
        go_simp
        all_goals with_reducible rfl
      simp only [List.getElem_toArray, List.getElem_cons_zero, List.getElem_cons_succ, Act.put, List.setIfInBounds_toArray, List.set_cons_zero, List.set_cons_succ]
      refine' wpAnyH_take (i := 7) rfl (by kernel_rfl) (by kernel_rfl) (by kernel_rfl) (fun _ _ _ h => h) (Or.inl ⟨by rfl, ?_⟩) hHeld ?_
      rotate_left
      · intro W hSw
        obtain r1 := hSw
        simp only [List.getElem_toArray, List.getElem_cons_zero, List.getElem_cons_succ]
        go_simp
        all_goals with_reducible rfl
      simp only [List.getElem_toArray, List.getElem_cons_zero, List.getElem_cons_succ, Act.put, List.setIfInBounds_toArray, List.set_cons_zero, List.set_cons_succ]
      refine' wpAnyH_take (i := 8) rfl (by kernel_rfl) (by kernel_rfl) (by kernel_rfl) (fun _ _ _ h => h) (Or.inr ⟨by rfl, rfl⟩) hHeld ?_
      simp only [List.getElem_toArray, List.getElem_cons_zero, List.getElem_cons_succ, Act.put, List.setIfInBounds_toArray, List.set_cons_zero, List.set_cons_succ]
      refine' wpAnyH_take (i := 9) rfl (by kernel_rfl) (by kernel_rfl) (by kernel_rfl) (fun _ _ _ h => h) (Or.inr ⟨by rfl, rfl⟩) hHeld ?_
      simp only [List.getElem_toArray, List.getElem_cons_zero, List.getElem_cons_succ, Act.put, List.setIfInBounds_toArray, List.set_cons_zero, List.set_cons_succ]
      refine' wpAnyH_take (i := 10) rfl (by kernel_rfl) (by kernel_rfl) (by kernel_rfl) (fun _ _ _ h => h) (Or.inr ⟨by rfl, rfl⟩) hHeld ?_
      simp only [List.getElem_toArray, List.getElem_cons_zero, List.getElem_cons_succ, Act.put, List.setIfInBounds_toArray, List.set_cons_zero, List.set_cons_succ]
      refine' wpAnyH_take (i := 11) rfl (by kernel_rfl) (by kernel_rfl) (by kernel_rfl) (fun _ _ _ h => h) (Or.inr ⟨by rfl, rfl⟩) hHeld ?_
      simp only [List.getElem_toArray, List.getElem_cons_zero, List.getElem_cons_succ, Act.put, List.setIfInBounds_toArray, List.set_cons_zero, List.set_cons_succ]
      refine' wpAnyH_take (i := 12) rfl (by kernel_rfl) (by kernel_rfl) (by kernel_rfl) (fun _ _ _ h => h) (Or.inl ⟨by rfl, ?_⟩) hHeld ?_
      rotate_left
      · intro W hSw
        obtain r1 := hSw
        simp only [List.getElem_toArray, List.getElem_cons_zero, List.getElem_cons_succ]
        go_simp
        all_goals with_reducible rfl
      simp only [List.getElem_toArray, List.getElem_cons_zero, List.getElem_cons_succ, Act.put, List.setIfInBounds_toArray, List.set_cons_zero, List.set_cons_succ]
      have kbV := hid ((kV.out.block _ (blk_lt kbY.out) (fun h => h)).trans kbY.out)
      have e0 := blk_cell kbV.out
      have f0 := blk_fz kbV.out 0
      have b5 := heap_set (i := 0) (.bool true) kbV.out
      have fS := frm_set V (s + 1) 0 (.bool true)
      refine wpAnyH_ready (rs := [13]) (by kernel_rfl) (by simp) ?_
      refine AllReadyH.cons (o := _) rfl (fun K hK => ?_) AllReadyH.nil
      simp only [List.getElem_toArray, List.getElem_cons_zero, List.getElem_cons_succ]
      go_simp
      refine hK.out _ _ (frm_cell fS hHeld (by dsimp only; omega)) (fun _ => ?_)
      try simp only [Act.put]
      refine wpAnyH_done (by kernel_rfl) ?_ _
      refine NoPanic.normal ?_
      have kb5 := hid b5
      have kfS := hid fS
      have koV := hid (koY.out.trans kV.out)
      clear hHeld hK e0 f0 b5 fS c1
      go_wp2_with fail
      refine leave_marks [D] _ ⟨by simp, fun r hr => ?_⟩ (fun W' hW' => ?_)
      · obtain rfl : r = D := by simpa using hr
        have h7 := (kV.out.block _ (blk_lt kDb.out) (fun h => h)).trans kDb.out
        rw [kfS.out.block _ (blk_lt h7) (by have := khD.out; omega)]
        exact h7
      · have hDe := khD.out
        have bW := hW'.block _ (blk_lt kb5.out) (by simp; omega)
        rw [kb5.out] at bW
        have q0 := blk_cell (v := .bool true) bW
        refine ⟨.bool true, ?_, rfl, Frm.trans (Frm.trans koV.out kfS.out (fun i hi e => by have := kss.out; omega)) hW' (fun i hi e => by
          have : i = D := by simpa using e
          have := hwl.out
          omega)⟩
        simp [results, Tryd.f22, go_sem, q0]
    · subst n2
      have n1b : decide (ls < 0) = false := by simp; omega
      have n2b : (ls == ls) = true := by simp
      refine' wpAnyH_take (i := 1) rfl (by kernel_rfl) (by kernel_rfl) (by kernel_rfl) (fun _ _ _ h => h) (Or.inl ⟨by rfl, ?_⟩) hHeld ?_
      rotate_left
      · intro W hSw
        obtain r1 := hSw
        simp only [List.getElem_toArray, List.getElem_cons_zero, List.getElem_cons_succ]
        go_simp
        all_goals with_reducible rfl
      simp only [List.getElem_toArray, List.getElem_cons_zero, List.getElem_cons_succ, Act.put, List.setIfInBounds_toArray, List.set_cons_zero, List.set_cons_succ]
      refine' wpAnyH_take (i := 2) rfl (by kernel_rfl) (by kernel_rfl) (by kernel_rfl) (fun _ _ _ h => h) (Or.inl ⟨by rfl, ?_⟩) hHeld ?_
      rotate_left
      · intro W hSw
        obtain r1 := hSw
        simp only [List.getElem_toArray, List.getElem_cons_zero, List.getElem_cons_succ]
        go_simp
        all_goals with_reducible rfl
      simp only [List.getElem_toArray, List.getElem_cons_zero, List.getElem_cons_succ, Act.put, List.setIfInBounds_toArray, List.set_cons_zero, List.set_cons_succ]
      refine' wpAnyH_take (i := 3) rfl (by kernel_rfl) (by kernel_rfl) (by kernel_rfl) (fun _ _ _ h => h) (Or.inr ⟨by rfl, rfl⟩) hHeld ?_
      simp only [List.getElem_toArray, List.getElem_cons_zero, List.getElem_cons_succ, Act.put, List.setIfInBounds_toArray, List.set_cons_zero, List.set_cons_succ]
      refine' wpAnyH_take (i := 4) rfl (by kernel_rfl) (by kernel_rfl) (by kernel_rfl) (fun _ _ _ h => h) (Or.inr ⟨by rfl, rfl⟩) hHeld ?_
      simp only [List.getElem_toArray, List.getElem_cons_zero, List.getElem_cons_succ, Act.put, List.setIfInBounds_toArray, List.set_cons_zero, List.set_cons_succ]
      refine' wpAnyH_take (i := 5) rfl (by kernel_rfl) (by kernel_rfl) (by kernel_rfl) (fun _ _ _ h => h) (Or.inr ⟨by rfl, rfl⟩) hHeld ?_
      simp only [List.getElem_toArray, List.getElem_cons_zero, List.getElem_cons_succ, Act.put, List.setIfInBounds_toArray, List.set_cons_zero, List.set_cons_succ]
      refine' wpAnyH_take (i := 6) rfl (by kernel_rfl) (by kernel_rfl) (by kernel_rfl) (fun _ _ _ h => h) (Or.inl ⟨by rfl, ?_⟩) hHeld ?_
      rotate_left
      · intro W hSw
        obtain r1 := hSw
        simp only [List.getElem_toArray, List.getElem_cons_zero, List.getElem_cons_succ]
        go_simp
        all_goals with_reducible rfl
      simp only [List.getElem_toArray, List.getElem_cons_zero, List.getElem_cons_succ, Act.put, List.setIfInBounds_toArray, List.set_cons_zero, List.set_cons_succ]
      refine' wpAnyH_take (i := 7) rfl (by kernel_rfl) (by kernel_rfl) (by kernel_rfl) (fun _ _ _ h => h) (Or.inl ⟨by rfl, ?_⟩) hHeld ?_
      rotate_left
      · intro W hSw
        obtain r1 := hSw
        simp only [List.getElem_toArray, List.getElem_cons_zero, List.getElem_cons_succ]
        go_simp
        all_goals with_reducible rfl
      simp only [List.getElem_toArray, List.getElem_cons_zero, List.getElem_cons_succ, Act.put, List.setIfInBounds_toArray, List.set_cons_zero, List.set_cons_succ]
      refine' wpAnyH_take (i := 8) rfl (by kernel_rfl) (by kernel_rfl) (by kernel_rfl) (fun _ _ _ h => h) (Or.inl ⟨by rfl, ?_⟩) hHeld ?_
      rotate_left
      · intro W hSw
        obtain r1 := hSw
        simp only [List.getElem_toArray, List.getElem_cons_zero, List.getElem_cons_succ]
        go_simp
        all_goals with_reducible rfl
      simp only [List.getElem_toArray, List.getElem_cons_zero, List.getElem_cons_succ, Act.put, List.setIfInBounds_toArray, List.set_cons_zero, List.set_cons_succ]
      refine' wpAnyH_take (i := 9) rfl (by kernel_rfl) (by kernel_rfl) (by kernel_rfl) (fun _ _ _ h => h) (Or.inl ⟨by rfl, ?_⟩) hHeld ?_
      rotate_left
      · intro W hSw
        obtain r1 := hSw
        simp only [List.getElem_toArray, List.getElem_cons_zero, List.getElem_cons_succ]
        go_simp
        all_goals with_reducible rfl
      simp only [List.getElem_toArray, List.getElem_cons_zero, List.getElem_cons_succ, Act.put, List.setIfInBounds_toArray, List.set_cons_zero, List.set_cons_succ]
      refine wpAnyH_ready (rs := [10]) (by kernel_rfl) (by simp) ?_
      refine AllReadyH.cons (o := _) rfl (fun K hK => ?_) AllReadyH.nil
      simp only [List.getElem_toArray, List.getElem_cons_zero, List.getElem_cons_succ]
      go_simp
      refine (kto.out V kV.out).mono ?_
      rintro e V2 ⟨rfl, e2'⟩
      rw [e2']
      clear e2' V2
      refine hK.out _ _ (hHeld) (fun hHeld2 => ?_)
      clear hHeld hK
      have hHeld := hHeld2
      clear hHeld2
      try simp only [Act.put, List.setIfInBounds_toArray, List.set_cons_zero, List.set_cons_succ]
      refine' wpAnyH_take (i := 11) rfl (by kernel_rfl) (by kernel_rfl) (by kernel_rfl) (fun _ _ _ h => h) (Or.inl ⟨by rfl, ?_⟩) hHeld ?_
      rotate_left
      · intro W hSw
        obtain r1 := hSw
        simp only [List.getElem_toArray, List.getElem_cons_zero, List.getElem_cons_succ]
        go_simp
        all_goals with_reducible rfl
      simp only [List.getElem_toArray, List.getElem_cons_zero, List.getElem_cons_succ, Act.put, List.setIfInBounds_toArray, List.set_cons_zero, List.set_cons_succ]
      refine' wpAnyH_take (i := 12) rfl (by kernel_rfl) (by kernel_rfl) (by kernel_rfl) (fun _ _ _ h => h) (Or.inl ⟨by rfl, ?_⟩) hHeld ?_
      rotate_left
      · intro W hSw
        obtain r1 := hSw
        simp only [List.getElem_toArray, List.getElem_cons_zero, List.getElem_cons_succ]
        go_simp
        all_goals with_reducible rfl
      simp only [List.getElem_toArray, List.getElem_cons_zero, List.getElem_cons_succ, Act.put, List.setIfInBounds_toArray, List.set_cons_zero, List.set_cons_succ]
      have kbV := hid ((kV.out.block _ (blk_lt kbY.out) (fun h => h)).trans kbY.out)
      have e0 := blk_cell kbV.out
      have f0 := blk_fz kbV.out 0
      have b5 := heap_set (i := 0) (.bool true) kbV.out
      have fS := frm_set V (s + 1) 0 (.bool true)
      refine wpAnyH_ready (rs := [13]) (by kernel_rfl) (by simp) ?_
      refine AllReadyH.cons (o := _) rfl (fun K hK => ?_) AllReadyH.nil
      simp only [List.getElem_toArray, List.getElem_cons_zero, List.getElem_cons_succ]
      go_simp
      refine hK.out _ _ (frm_cell fS hHeld (by dsimp only; omega)) (fun _ => ?_)
      try simp only [Act.put]
      refine wpAnyH_done (by kernel_rfl) ?_ _
      refine NoPanic.normal ?_
      have kb5 := hid b5
      have kfS := hid fS
      have koV := hid (koY.out.trans kV.out)
      clear hHeld hK e0 f0 b5 fS c1
      go_wp2_with fail
      refine leave_marks [D] _ ⟨by simp, fun r hr => ?_⟩ (fun W' hW' => ?_)
      · obtain rfl : r = D := by simpa using hr
        have h7 := (kV.out.block _ (blk_lt kDb.out) (fun h => h)).trans kDb.out
        rw [kfS.out.block _ (blk_lt h7) (by have := khD.out; omega)]
        exact h7
      · have hDe := khD.out
        have bW := hW'.block _ (blk_lt kb5.out) (by simp; omega)
        rw [kb5.out] at bW
        have q0 := blk_cell (v := .bool true) bW
        refine ⟨.bool true, ?_, rfl, Frm.trans (Frm.trans koV.out kfS.out (fun i hi e => by have := kss.out; omega)) hW' (fun i hi e => by
          have : i = D := by simpa using e
          have := hwl.out
          omega)⟩
        simp [results, Tryd.f22, go_sem, q0]
end Go.Proofs.YtgikkbkgmjacmaaDoor
