/- The posting that entries would be, or why they are none. -/
import Derived.Test.YtlhlmkdgbgppiaaJ6
import Derived.WalkMore
namespace Go.Proofs.Ytlhlmkdgbgppiaa
open Go.RowKit Go.Shelf Go.Maps

theorem planZ_len {L : List (List UInt8)} {A : List Ac} {E : List Es} (h : E.length < 1 ∨ 128 < E.length) : planZ L A E = 2 := by unfold planZ; rw [if_pos h]
theorem planZ_arg {L : List (List UInt8)} {A : List Ac} {E : List Es} {k : Nat} (hk : k < E.length) (h : mayB E[k] = false) : planZ L A E = 2 := by
  unfold planZ
  split
  · rfl
  · rw [if_pos (fun hh => by have := hh E[k] (List.getElem_mem hk); rw [h] at this; cases this)]
theorem planZ_sum {L : List (List UInt8)} {A : List Ac} {E : List Es} (h : sumC (E.map Prod.snd) ≠ 0) : planZ L A E = 2 := by
  unfold planZ
  by_cases h1 : E.length < 1 ∨ 128 < E.length
  · rw [if_pos h1]
  · rw [if_neg h1]
    by_cases h2 : ¬ (∀ e ∈ E, mayB e = true)
    · rw [if_pos h2]
    · rw [if_neg h2, if_pos h]
theorem planZ_rest {L : List (List UInt8)} {A : List Ac} {E : List Es} (h : ¬ (E.length < 1 ∨ 128 < E.length)) (hm : ∀ e ∈ E, mayB e = true) (hs : sumC (E.map Prod.snd) = 0) : planZ L A E = if errT L E E.length = 4 then 4 else if lowB A (planP L E) = true then 7 else 0 := by
  unfold planZ errT
  rw [if_neg h, if_neg (fun hh => hh hm), if_neg (fun hh => hh hs), List.take_length]
  by_cases h4 : ∃ e ∈ E, idx L e.1 = none
  · rw [if_pos h4, if_pos h4, if_pos rfl]
  · rw [if_neg h4, if_neg h4, if_neg (show ¬ ((0 : Int) = 4) by decide)]
theorem errT_two (L : List (List UInt8)) (E : List Es) (k : Nat) : errT L E k = 0 ∨ errT L E k = 4 := by
  unfold errT
  split
  · exact Or.inr rfl
  · exact Or.inl rfl

theorem planP_okP {L : List (List UInt8)} {E : List Es} {n : Nat} (hl : L.length = n) (hn : ¬ (E.length < 1 ∨ 128 < E.length)) (hm : ∀ e ∈ E, mayB e = true) (hs : sumC (E.map Prod.snd) = 0) (h4 : errT L E E.length = 0) : OkP n (planP L E) := by
  refine ⟨by simp [planP]; omega, fun e he => ?_, by rw [planP_coins]; exact hs⟩
  obtain ⟨x, hx, rfl⟩ := List.mem_map.1 he
  have hm := hm x hx
  simp only [mayB, decide_eq_true_eq] at hm
  refine ⟨?_, hm.2⟩
  simp only
  cases hi : idx L x.1 with
  | none =>
    unfold errT at h4
    rw [List.take_length, if_pos ⟨x, hx, hi⟩] at h4
    cases h4
  | some k =>
    rw [Option.getD_some, ← hl]
    exact idx_lt hi

set_option maxRecDepth 100000 in
theorem plan_nil (p : Option Nat) (v : Value) (w : World) (hM : Calls Try.prog 40 #[.pointer (p.map (fun b => ⟨b, 0, none⟩))] w fun e w' => e = .returned (.bool false) ∧ w' = w) :
    Calls Try.prog 42 #[.pointer (p.map (fun b => ⟨b, 0, none⟩)), v] w fun e w' => e = .returned (.tuple #[.slice none 0 0, .int .i64 1]) ∧ w' = w := by
  have kM := hid hM
  clear hM
  generalize p.map (fun b => (⟨b, 0, none⟩ : Addr)) = q at *
  go_enter Try.func42, Try.ntmps42
  go_wp2_with fail
  go_step3
  go_wp2_with fail
  refine kM.out.mono ?_
  rintro e w' ⟨rfl, hw⟩
  rw [hw]
  clear hw w'
  go_wp2_with fail
  try rw [Exit.noGoto_ret]
  go_ret2
  exact ⟨rfl, rfl⟩

set_option maxRecDepth 100000 in
theorem plan_len (x : Lx) (ao : Option Addr) (cap : Nat) (E : List Es) (w : World) (h : Ldg w x) (hE : E.length < 1 ∨ 128 < E.length) :
    Calls Try.prog 42 #[x.ptr, .slice ao E.length cap] w fun e w' => e = .returned (.tuple #[.slice none 0 0, .int .i64 2]) ∧ w' = w := by
  have kM := hid (made_some x.lb x.ib w h.c0)
  unfold Lx.ptr
  clear h
  generalize E.length = n at *
  by_cases h1 : n < 1
  · have h1' : (n : Int) < 1 := by omega
    clear hE h1
    go_enter Try.func42, Try.ntmps42
    go_wp2_with fail
    go_step3
    go_wp2_with fail
    refine kM.out.mono ?_
    rintro e w' ⟨rfl, hw⟩
    rw [hw]
    clear hw w'
    go_wp2_with fail
    try rw [Exit.noGoto_ret]
    go_ret2
    exact ⟨rfl, rfl⟩
  · have h2 : (128 : Int) < (n : Int) := by omega
    have h1' : ¬ (n : Int) < 1 := by omega
    clear hE h1
    go_enter Try.func42, Try.ntmps42
    go_wp2_with fail
    go_step3
    go_wp2_with fail
    refine kM.out.mono ?_
    rintro e w' ⟨rfl, hw⟩
    rw [hw]
    clear hw w'
    go_wp2_with fail
    try rw [Exit.noGoto_ret]
    go_ret2
    exact ⟨rfl, rfl⟩

/-- What a plan answers. -/
def PlanP (x : Lx) (E : List Es) (w : World) (e : Ending) (w' : World) : Prop :=
  Old w w' ∧ ∃ v, e = .returned (.tuple #[v, .int .i64 (planZ x.L x.A E)]) ∧ (planZ x.L x.A E = 0 → PosC w' v (planP x.L E) ∧ ∀ k, v.ownBlock = some k → w.heap.size ≤ k)

set_option maxRecDepth 100000 in
set_option maxHeartbeats 8000000 in
theorem plan_any (x : Lx) (ao : Option Addr) (cap : Nat) (E : List Es) (w : World) (h : Ldg w x) (hk : OkL x) (hE : EsC w ao E) (hs : ∀ e ∈ E, e.1.length ≤ maxLen) :
    Calls Try.prog 42 #[x.ptr, .slice ao E.length cap] w fun e w' => PlanP x E w e w' := by
  by_cases hn : E.length < 1 ∨ 128 < E.length
  · refine (plan_len x ao cap E w h hn).mono ?_
    rintro e w' ⟨rfl, rfl⟩
    exact ⟨Old.refl _, _, by rw [planZ_len hn], fun h0 => by rw [planZ_len hn] at h0; cases h0⟩
  have kM := hid (made_some x.lb x.ib w h.c0)
  have kh := hid h
  have kE := hid hE
  have kF := hid (fun W (o : Old w W) n (hn : n.length ≤ maxLen) => find_any x.nb x.tb x.mb x.v 65536 x.L n W (h.nms.old o) hn)
  have kY := hid (fun e W => may_any e W)
  have kL := hid (fun W v (o : Old w W) (hv : PosC W v (planP x.L E)) (hp : OkP 65536 (planP x.L E)) => low_any x.ib x.ab x.nb x.A.length x.pv x.A (planP x.L E) v W hv (h.old o).ins (h.old o).am hk.oka hp)
  have kR := hid (fun (hm : ∀ e ∈ E, mayB e = true) (hs : sumC (E.map Prod.snd) = 0) => planZ_rest (L := x.L) (A := x.A) hn hm hs)
  have hn1 : (1 : Int) ≤ (E.length : Int) := by omega
  have hn2 : (E.length : Int) ≤ 128 := by omega
  have hn3 : E.length ≤ 128 := by omega
  have hmk := make_e E.length hn3 w
  obtain ⟨s, hz⟩ : ∃ s, w.heap.size = s := ⟨_, rfl⟩
  rw [hz] at hmk
  have ks := hid hz
  have kes := hid hs
  have kk := hid hk
  have own0 := heap_new w (.cells (flatE (List.replicate E.length (0, 0))).toArray 150)
  rw [hz, ← rowE_zero x.L E] at own0
  rw [← rowE_zero x.L E] at hmk
  have kown := hid own0
  unfold Lx.ptr
  clear h hk hE hs hn hz own0
  go_enter Try.func42, Try.ntmps42
  go_wp2_with fail
  go_step3
  go_wp2_with fail
  refine kM.out.mono ?_
  rintro e w' ⟨rfl, hw⟩
  rw [hw]
  clear hw w'
  go_wp2_with fail
  go_step3
  go_wp2_with fail
  have kI : Hid (Old w (w.alloc (.cells (flatE (rowE x.L E 0)).toArray 150))) := (Old.refl w).alloc _
  generalize w.alloc (.cells (flatE (rowE x.L E 0)).toArray 150) = w0 at *
  go_loopw [7, 8, 31] (fun t7 t8 t31 wr => ∃ k : Nat, k ≤ E.length ∧ t31 = .int .i64 (k : Int) ∧ t7 = .int .i64 (sumC ((E.take k).map Prod.snd)) ∧ t8 = .int .i64 (errT x.L E k) ∧ Hid (Old w wr) ∧ Hid (OwnE wr s (rowE x.L E k)) ∧ Hid (∀ e ∈ E.take k, mayB e = true)) (fun _ _ t _ => E.length - (intOf t).toNat)
  case atStart => exact ⟨0, Nat.zero_le _, rfl, rfl, by rw [errT_zero], kI, kown, fun e he => by simp at he⟩
  case round =>
    obtain ⟨k, hk, rfl, rfl, rfl, oW, hO, hm⟩ := hrel
    by_cases hlt : k < E.length
    · have hlt' : (k : Int) < (E.length : Int) := by omega
      obtain ⟨g, o, hao, x0, x1⟩ := kE.out k hlt
      subst hao
      have x0 := oW.out.cell x0
      have x1 := oW.out.cell x1
      have hst := hid (sum_take E k hlt)
      have hb := sumC_bnd ((E.take k).map Prod.snd) (fun c hc => by
        obtain ⟨e, he, rfl⟩ := List.mem_map.1 hc
        exact mayB_bnd (hm.out e he))
      rw [List.length_map, List.length_take, Nat.min_eq_left hk] at hb
      have hset := hid (rowE_set x.L E k hlt)
      have her1 := hid (fun i => errT_some x.L E k hlt (i := i))
      have her2 := hid (errT_none x.L E k hlt)
      have hnl := kes.out E[k] (List.getElem_mem hlt)
      have hmm := hid (fun (h : mayB E[k] = true) => (fun e (he : e ∈ E.take (k + 1)) => by
        rewrite [List.take_succ_eq_append_getElem hlt] at he
        rcases List.mem_append.1 he with he | he
        · exact hm.out e he
        · rw [List.mem_singleton.1 he]; exact h : ∀ e ∈ E.take (k + 1), mayB e = true))
      have har := hid (fun (h : mayB E[k] = false) => planZ_arg (L := x.L) (A := x.A) hlt h)
      obtain ⟨⟨nm, co⟩, hx⟩ : ∃ y, E[k] = y := ⟨_, rfl⟩
      rw [hx] at x0 x1 hst hset her1 her2 hnl hmm har
      dsimp only at x0 x1 hst hset her1 her2 hnl hmm har
      obtain ⟨S, hS⟩ : ∃ S, sumC ((E.take k).map Prod.snd) = S := ⟨_, rfl⟩
      rw [hS] at hst hb ⊢
      obtain ⟨er, her⟩ : ∃ er, errT x.L E k = er := ⟨_, rfl⟩
      rw [her] at her1 ⊢
      obtain ⟨wb, hwb⟩ : ∃ wb, wr.alloc (.cells #[.string ⟨nm.toArray⟩, .int .i64 co] 76) = wb := ⟨_, rfl⟩
      have ob : Old wr wb := by rw [← hwb]; exact (Old.refl wr).alloc _
      have nb0 : wb.cell? ⟨wr.heap.size, 0, none⟩ = some (.string ⟨nm.toArray⟩) := by rw [← hwb]; exact new_cell wr _ _ 0 _ rfl
      have nb1 : wb.cell? ⟨wr.heap.size, 1, none⟩ = some (.int .i64 co) := by rw [← hwb]; exact new_cell wr _ _ 1 _ rfl
      have oB := hid (oW.out.trans ob)
      have d0 := (kh.out.old oB.out).c0
      have d1 := (kh.out.old oB.out).i0
      have kF2 := fun n => hid (kF.out (wb.drewN n) (oB.out.drewN n) nm hnl)
      have hO2 := hid (hO.out.frm (ob) (fun h => h))
      have kY2 := fun W => hid (kY.out (nm, co) W)
      dsimp only at kY2
      have hidxb := hid (fun i (h : idx x.L nm = some i) => idx_lt h)
      clear hx ob hnl hS her hm kY
      go_wp2_with fail
      cases hix : idx x.L nm with
      | none =>
        rw [hix] at kF2
        simp only [numV, Option.getD_none, Option.isSome_none] at kF2
        have her3 := hid (her2.out hix)
        rw [hix] at hset
        simp only [Option.getD_none] at hset
        have kix := hid hix
        clear hix her2 her1
        go_quiet (exact Calls.quiet_of_same (kF2 _).out)
        go_wp2_with fail
        obtain ⟨wq, hwq⟩ : ∃ wq, wb.drewN nq = wq := ⟨_, rfl⟩
        have oq : Old wb wq := by rw [← hwq]; exact (Old.refl wb).drewN _
        have nb0 := oq.cell nb0
        have nb1 := oq.cell nb1
        have oC := hid (oB.out.trans oq)
        have hO3 := hid (hO2.out.frm oq (fun h => h))
        rw [hwq]
        clear hwq oq
        refine (kY2 _).out.mono ?_
        rintro e w2 ⟨rfl, o2⟩
        have nb0 := o2.cell nb0
        have nb1 := o2.cell nb1
        have oD := hid (oC.out.trans o2)
        have hO4 := hid (hO3.out.frm o2 (fun h => h))
        clear o2
        cases hmb : mayB (nm, co) with
        | false =>
          have hpl := hid (har.out hmb)
          clear hmb hmm har
          by_cases h0 : S = 0
          · subst h0
            go_wp2_with fail
            try rw [Exit.noGoto_ret]
            go_ret2
            refine ⟨oD.out, _, by rw [hpl.out]; rfl, fun h => ?_⟩
            rw [hpl.out] at h
            cases h
          · have hq : (S != 0) = true := by simpa using h0
            clear h0
            go_wp2_with fail
            try rw [Exit.noGoto_ret]
            go_ret2
            refine ⟨oD.out, _, by rw [hpl.out]; rfl, fun h => ?_⟩
            rw [hpl.out] at h
            cases h
        | true =>
          have hm2 := hid (hmm.out hmb)
          have hbc := mayB_bnd hmb
          dsimp only at hbc
          have hlo : -9223372036854775808 ≤ S + co := by omega
          have hhi : S + co ≤ 9223372036854775807 := by omega
          have hcell := flatE_get (rowE x.L E k) k (by simp [rowE, planP]; omega)
          have y0 : w2.cell? ⟨s, k * 2, none⟩ = some _ := blk_cells hO4.out (by simpa using hcell.1)
          have y1 : w2.cell? ⟨s, k * 2 + 1, none⟩ = some _ := blk_cells hO4.out (by simpa using hcell.2)
          have yf := fun i => blk_fz hO4.out i
          have hne : wr.heap.size ≠ s := by have h1 := blk_lt (show wr.heap[s]? = some _ from hO.out); omega
          have n5 : ∀ u v : Value, ((w2.setCell ⟨s, k * 2, none⟩ u).setCell ⟨s, k * 2 + 1, none⟩ v).cell? ⟨wr.heap.size, 1, none⟩ = some (.int .i64 co) := fun u v =>
            (World.cell?_setCell_other _ _ _ v (fun h => hne (congrArg Addr.block h).symm)).trans ((World.cell?_setCell_other _ _ _ u (fun h => hne (congrArg Addr.block h).symm)).trans nb1)
          have hO5 := hid (hO4.out.set (i := k) (0, co))
          rw [hset.out] at hO5
          clear hmb hmm har hcell hbc hb hne
          go_wp2_with fail
          go_roundw
          case rel => exact ⟨k + 1, by omega, by go_num, by rw [hst.out], by rw [her3.out], hid (setCell_old (setCell_old oD.out (by have := ks.out; omega) _) (by have := ks.out; omega) _), hO5, hm2⟩
          case measure => simp [intOf]; omega
      | some q =>
        rw [hix] at kF2
        simp only [numV, Option.getD_some, Option.isSome_some] at kF2
        have her3 := hid (her1.out q hix)
        rw [hix] at hset
        simp only [Option.getD_some] at hset
        have kix := hid hix
        clear hix her2 her1
        go_quiet (exact Calls.quiet_of_same (kF2 _).out)
        go_wp2_with fail
        obtain ⟨wq, hwq⟩ : ∃ wq, wb.drewN nq = wq := ⟨_, rfl⟩
        have oq : Old wb wq := by rw [← hwq]; exact (Old.refl wb).drewN _
        have nb0 := oq.cell nb0
        have nb1 := oq.cell nb1
        have oC := hid (oB.out.trans oq)
        have hO3 := hid (hO2.out.frm oq (fun h => h))
        rw [hwq]
        clear hwq oq
        refine (kY2 _).out.mono ?_
        rintro e w2 ⟨rfl, o2⟩
        have nb0 := o2.cell nb0
        have nb1 := o2.cell nb1
        have oD := hid (oC.out.trans o2)
        have hO4 := hid (hO3.out.frm o2 (fun h => h))
        clear o2
        cases hmb : mayB (nm, co) with
        | false =>
          have hpl := hid (har.out hmb)
          clear hmb hmm har
          by_cases h0 : S = 0
          · subst h0
            go_wp2_with fail
            try rw [Exit.noGoto_ret]
            go_ret2
            refine ⟨oD.out, _, by rw [hpl.out]; rfl, fun h => ?_⟩
            rw [hpl.out] at h
            cases h
          · have hq : (S != 0) = true := by simpa using h0
            clear h0
            go_wp2_with fail
            try rw [Exit.noGoto_ret]
            go_ret2
            refine ⟨oD.out, _, by rw [hpl.out]; rfl, fun h => ?_⟩
            rw [hpl.out] at h
            cases h
        | true =>
          have hm2 := hid (hmm.out hmb)
          have hbc := mayB_bnd hmb
          dsimp only at hbc
          have hlo : -9223372036854775808 ≤ S + co := by omega
          have hhi : S + co ≤ 9223372036854775807 := by omega
          have hcell := flatE_get (rowE x.L E k) k (by simp [rowE, planP]; omega)
          have y0 : w2.cell? ⟨s, k * 2, none⟩ = some _ := blk_cells hO4.out (by simpa using hcell.1)
          have y1 : w2.cell? ⟨s, k * 2 + 1, none⟩ = some _ := blk_cells hO4.out (by simpa using hcell.2)
          have yf := fun i => blk_fz hO4.out i
          have hne : wr.heap.size ≠ s := by have h1 := blk_lt (show wr.heap[s]? = some _ from hO.out); omega
          have n5 : ∀ u v : Value, ((w2.setCell ⟨s, k * 2, none⟩ u).setCell ⟨s, k * 2 + 1, none⟩ v).cell? ⟨wr.heap.size, 1, none⟩ = some (.int .i64 co) := fun u v =>
            (World.cell?_setCell_other _ _ _ v (fun h => hne (congrArg Addr.block h).symm)).trans ((World.cell?_setCell_other _ _ _ u (fun h => hne (congrArg Addr.block h).symm)).trans nb1)
          have hO5 := hid (hO4.out.set (i := k) (q, co))
          rw [hset.out] at hO5
          clear hmb hmm har hcell hbc hb hne
          go_wp2_with fail
          go_roundw
          case rel => exact ⟨k + 1, by omega, by go_num, by rw [hst.out], by rw [her3.out], hid (setCell_old (setCell_old oD.out (by have := ks.out; omega) _) (by have := ks.out; omega) _), hO5, hm2⟩
          case measure => simp [intOf]; omega
    · obtain rfl : k = E.length := by omega
      rw [List.take_length] at hm ⊢
      obtain ⟨S, hS⟩ : ∃ S, sumC (E.map Prod.snd) = S := ⟨_, rfl⟩
      rw [hS]
      by_cases h0 : S = 0
      · subst h0
        rcases errT_two x.L E E.length with he | he
        · have hp := hid (planP_okP kk.out.len (by omega) hm.out hS he)
          have hpl := hid (kR.out hm.out hS)
          rw [he] at hpl ⊢
          have hO2 := hO.out
          rw [rowE_all] at hO2
          have hpos := hO2.pos
          rw [show (planP x.L E).length = E.length from by simp [planP]] at hpos
          have kLow := hid (kL.out wr _ oW.out hpos (hp.out.more kk.out.oka.len))
          have kpos := hid hpos
          have d0 := (kh.out.old oW.out).c0
          clear hS hm he hp hpos hO2 hO
          generalize hlow : lowB x.A (planP x.L E) = b at *
          have klow := hid hlow
          clear hlow
          cases b
          · go_wp2_with fail
            refine kLow.out.mono ?_
            rintro e w' ⟨rfl, o2⟩
            have ko2 := hid o2
            clear o2
            go_wp2_with fail
            try rw [Exit.noGoto_ret]
            go_ret2
            refine ⟨oW.out.trans ko2.out, _, by rw [hpl.out]; rfl, fun _ => ⟨kpos.out.frm ko2.out (NotP.none _), fun k hk => ?_⟩⟩
            have := ks.out
            simp [Value.ownBlock] at hk
            omega
          · go_wp2_with fail
            refine kLow.out.mono ?_
            rintro e w' ⟨rfl, o2⟩
            have ko2 := hid o2
            clear o2
            go_wp2_with fail
            try rw [Exit.noGoto_ret]
            go_ret2
            refine ⟨oW.out.trans ko2.out, _, by rw [hpl.out]; rfl, fun h => ?_⟩
            rw [hpl.out] at h
            cases h
        · have hpl := hid (kR.out hm.out hS)
          rw [he] at hpl ⊢
          clear hS hm he hO
          go_wp2_with fail
          try rw [Exit.noGoto_ret]
          go_ret2
          refine ⟨oW.out, _, by rw [hpl.out]; rfl, fun h => ?_⟩
          rw [hpl.out] at h
          cases h
      · have hpl := hid (planZ_sum (L := x.L) (A := x.A) (E := E) (by rw [hS]; exact h0))
        have hq : (S != 0) = true := by simpa using h0
        clear hS hm h0 hO
        generalize errT x.L E E.length = er at *
        go_wp2_with fail
        try rw [Exit.noGoto_ret]
        go_ret2
        refine ⟨oW.out, _, by rw [hpl.out]; rfl, fun h => ?_⟩
        rw [hpl.out] at h
        cases h
end Go.Proofs.Ytlhlmkdgbgppiaa
