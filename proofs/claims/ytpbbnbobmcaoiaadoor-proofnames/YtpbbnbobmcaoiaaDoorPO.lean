/- Check, Right: walked. -/
import Derived.Test.YtpbbnbobmcaoiaaDoorPN
import Derived.Test.YtpbbnbobmcaoiaaDoorPI
namespace Go.Proofs.YtpbbnbobmcaoiaaDoor
open Go.RowKit Go.Lib Go.Shelf
attribute [local go_sem] Oper.semAt_some

/-- A book that stands is one of which its claims' rightness may be asked. -/
theorem bkh_of {W : World} {kb : Nat} {gd : Int} {bo : Option Addr} {cap : Nat} {B : Ins} {ao : Option Addr} {cp : Nat} {P : List Cl} (hk : BkC W kb gd bo B.length cap ao cp P) (hB : InsC W bo B) (hcap : B.length ≤ cap) (hpl : P.length ≤ 4611686018427387904) (hT : Tabs W) (hz : (checkZ gd B).2.2 = 0) (hb : ∀ i, i < P.length → bdB gd B.length P i = false) : BkH W kb gd bo cap B ao cp P := by
  obtain ⟨-, h32, h8⟩ := check_ok hz
  refine ⟨hk, hB, by omega, hcap, fun l hl => ?_, hpl, ris_of hb, fun i hi => ?_, hT⟩
  · obtain ⟨h1, h2⟩ := h8 l hl
    refine ⟨by omega, fun x hx => ?_⟩
    have h3 := h2 x hx
    obtain ⟨j, hj, rfl⟩ := List.getElem_of_mem hl
    obtain ⟨g, o, a0, c0, -, -, -, -, h9⟩ := hB j hj
    simp only [okB, Bool.and_eq_true, decide_eq_true_eq] at h3
    exact ⟨h9 x hx, by omega, by omega⟩
  · have h1 := mb_of hb i hi
    simp only [mbB, Bool.and_eq_true, decide_eq_true_eq] at h1
    exact ⟨h1.1.1.1.2, h1.1.1.2, h1.1.1.1.1.1.1, h1.1.1.1.1.1.2⟩

/-- The first claim that is not right. -/
def wrgO (gd : Int) (B : Ins) (P : List Cl) : Option Nat := (List.range P.length).find? (fun i => match P[i]? with
  | none => false
  | some c => !rgtB gd B P c)
theorem wrgO_first {gd : Int} {B : Ins} {P : List Cl} {k : Nat} (hk : k < P.length) (h : ∀ i (hi : i < P.length), i < k → rgtB gd B P P[i] = true) (hb : rgtB gd B P P[k] = false) : wrgO gd B P = some k := by
  unfold wrgO
  rw [List.find?_range_eq_some]
  refine ⟨by rw [List.getElem?_eq_getElem hk]; dsimp only; rw [hb]; rfl, List.mem_range.2 hk, fun j hj => ?_⟩
  rw [List.getElem?_eq_getElem (by omega : j < P.length)]
  dsimp only
  rw [h j (by omega) hj]
  rfl
theorem wrgO_none {gd : Int} {B : Ins} {P : List Cl} (h : ∀ i (hi : i < P.length), rgtB gd B P P[i] = true) : wrgO gd B P = none := by
  unfold wrgO
  rw [List.find?_eq_none]
  intro i hi
  have hi' := List.mem_range.1 hi
  rw [List.getElem?_eq_getElem hi']
  dsimp only
  rw [h i hi']
  decide
/-- What Check answers. -/
def pckZ (gd : Int) (B : Ins) (P : List Cl) : Int × Nat × Int := if (opZ gd B P).2 ≠ 0 then (0, opZ gd B P) else match wrgO gd B P with
  | some k => (0, k, 261)
  | none => (((fndO P (0, (allZ gd).1)).bind (fun i => (P[i]?).map Cl.m)).getD 0, 0, 0)

set_option maxRecDepth 100000 in
set_option maxHeartbeats 16000000 in
theorem pcheck_any (gd : Int) (bo : Option Addr) (cap : Nat) (B : Ins) (ao : Option Addr) (cp : Nat) (P : List Cl) (w : World) (h : InsC w bo B) (hl : B.length ≤ 9223372036854775807) (hcap : B.length ≤ cap) (hP : ClC w ao P) (hPl : P.length ≤ 4611686018427387904) (hT : Tabs w) :
    Calls Tryd.prog 10 #[.agg #[.int .i64 gd, .slice bo B.length cap], .agg #[.slice ao P.length cp]] w fun e w' => e = .returned (.tuple #[.int .i64 (pckZ gd B P).1, .int .i64 ((pckZ gd B P).2.1 : Int), .int .i64 (pckZ gd B P).2.2]) ∧ Old w w' := by
  have oA : Old w ((w.alloc (.cells #[.int .i64 gd, .slice bo B.length cap] 24)).alloc (.cells #[.slice ao P.length cp] 27)) := ((Old.refl w).alloc _).alloc _
  have z1 := alloc_size w (.cells #[.int .i64 gd, .slice bo B.length cap] 24)
  have n5 := heap_new w (.cells #[.int .i64 gd, .slice bo B.length cap] 24)
  have n5 := (Below.heap_alloc _ (.cells #[.slice ao P.length cp] 27) _ (blk_lt n5)).trans n5
  have n6 := heap_new (w.alloc (.cells #[.int .i64 gd, .slice bo B.length cap] 24)) (.cells #[.slice ao P.length cp] 27)
  rw [z1] at n6
  have x0 := blk_cells (i := 0) (v := .int .i64 gd) n5 rfl
  have x1 := blk_cells (i := 1) (v := .slice bo B.length cap) n5 rfl
  have p0 := blk_cells (i := 0) (v := .slice ao P.length cp) n6 rfl
  have ko := hid oA
  have kop := hid (open_any gd bo cap B ao cp P _ (h.old oA) hl (hP.old oA) hPl)
  have khI := hid h
  have khP := hid hP
  have kT := hid hT
  have kz : Hid (pckZ gd B P = if (opZ gd B P).2 ≠ 0 then (0, opZ gd B P) else match wrgO gd B P with
    | some k => (0, k, 261)
    | none => (((fndO P (0, (allZ gd).1)).bind (fun i => (P[i]?).map Cl.m)).getD 0, 0, 0)) := hid rfl
  generalize pckZ gd B P = pz at *
  clear oA n5 n6 z1 h hP hT
  go_enter Tryd.func10, Tryd.ntmps10
  go_upto_region 1 with fail
  generalize (w.alloc (.cells #[.int .i64 gd, .slice bo B.length cap] 24)).alloc (.cells #[.slice ao P.length cp] 27) = w1 at *
  generalize w.heap.size = s at *
  go_wp2_with fail
  refine kop.out.mono ?_
  rintro e w2 ⟨o2, ⟨hne, rfl⟩ | ⟨hez, hck, hbd, kb, rfl, hbk⟩⟩
  · have ko9 := hid (ko.out.trans o2)
    have kzz : Hid (pz = (0, opZ gd B P)) := hid (kz.out.trans (if_pos hne))
    have hne' : ((opZ gd B P).2 == 0) = false := by simpa using hne
    generalize opZ gd B P = oz at *
    obtain ⟨oz1, oz2⟩ := oz
    dsimp only at *
    clear o2 x0 x1 p0 kop hne
    go_wp2_with fail
    refine bodyPost_ret (v := .tuple #[.int .i64 0, .int .i64 (oz1 : Int), .int .i64 oz2]) (by simp [results, Tryd.f10, go_sem]) rfl ?_
    refine ⟨?_, ko9.out⟩
    rw [kzz.out]
  · have kh := hid (bkh_of hbk (khI.out.old (ko.out.trans o2)) hcap hPl (kT.out.old (ko.out.trans o2)) hck hbd)
    have ko9 := hid (ko.out.trans o2)
    have kbd := hid hbd
    replace x0 := o2.cell x0
    replace x1 := o2.cell x1
    have kx0 := hid x0
    have kx1 := hid x1
    have kp := hid (khP.out.old (ko.out.trans o2))
    rw [hez] at kz
    have kz : Hid (pz = match wrgO gd B P with
      | some k => (0, k, 261)
      | none => (((fndO P (0, (allZ gd).1)).bind (fun i => (P[i]?).map Cl.m)).getD 0, 0, 0)) := kz
    have kop : Hid ((fndO P (0, (allZ gd).1)).isSome = true) := hid (by
      have h9 := hez
      unfold opZ at h9
      rw [if_neg (by rw [hck]; exact fun h => h rfl), bdO_none hbd] at h9
      dsimp only at h9
      by_cases e : (fndO P (0, (allZ gd).1)).isSome
      · exact e
      · rw [if_neg e] at h9
        have := congrArg Prod.snd h9
        simp at this)
    have hc2 := hbk.c2
    clear o2 hez hck hbd x0 x1 p0 hbk
    go_wp2_with fail
    go_loopw [30] (fun t wr => ∃ k : Nat, k ≤ P.length ∧ t = .int .i64 (k : Int) ∧ Hid (Old w2 wr ∧ ∀ i (hi : i < P.length), i < k → rgtB gd B P P[i] = true)) (fun t _ => P.length - (intOf t).toNat)
    case atStart => exact ⟨0, Nat.zero_le _, rfl, hid ⟨Old.refl _, fun i _ hi => absurd hi (Nat.not_lt_zero i)⟩⟩
    case round =>
      obtain ⟨k, hk, rfl, hX⟩ := hrel
      have koX := hid hX.out.1
      have kgo := hid hX.out.2
      clear hX
      by_cases hlt : k < P.length
      · have hlt' : (k : Int) < (P.length : Int) := by omega
        obtain ⟨g, o, vo, vp, hao, c0, c1, c2, c3, hn, hf32, hpl, -⟩ := (kp.out.old koX.out) k hlt
        have kmy := hid (kh.out.may k hlt)
        obtain ⟨c, hc⟩ : ∃ c, P[k] = c := ⟨_, rfl⟩
        have kcP := hid hc
        rw [hc] at c0 c1 c2 c3 hn hf32 hpl kmy
        have q1 : Old wr (wr.alloc (.cells #[.int .i64 c.b, .int .u32 (c.f : Int), .int .i64 c.m, .slice vo c.p.length vp] 48)) := (Old.refl wr).alloc _
        have d0 := new_cell wr #[.int .i64 c.b, .int .u32 (c.f : Int), .int .i64 c.m, .slice vo c.p.length vp] 48 0 _ rfl
        have d1 := new_cell wr #[.int .i64 c.b, .int .u32 (c.f : Int), .int .i64 c.m, .slice vo c.p.length vp] 48 1 _ rfl
        have d2 := new_cell wr #[.int .i64 c.b, .int .u32 (c.f : Int), .int .i64 c.m, .slice vo c.p.length vp] 48 2 _ rfl
        have d3 := new_cell wr #[.int .i64 c.b, .int .u32 (c.f : Int), .int .i64 c.m, .slice vo c.p.length vp] 48 3 _ rfl
        simp only [List.getElem_toArray, List.getElem_cons_zero, List.getElem_cons_succ] at d0 d1 d2 d3
        have krt := hid (isright_any kb gd bo cap B ao cp P c vo vp _ ((kh.out.old koX.out).old q1) kmy.out.2.2 hf32 (hn.old q1) hpl)
        unfold clV at krt
        have kq := hid (koX.out.trans q1)
        subst hao
        clear hc hn hf32 q1
        go_wp2_with fail
        refine krt.out.mono ?_
        rintro e w3 ⟨rfl, o3⟩
        have ko3 := hid (kq.out.trans o3)
        clear o3 c0 c1 c2 c3 d0 d1 d2 d3 krt
        cases hrt : rgtB gd B P c with
        | false =>
          have kzz : Hid (pz = (0, k, 261)) := hid (by rw [kz.out, wrgO_first hlt (fun i hi hik => kgo.out i hi hik) (by rw [kcP.out]; exact hrt)])
          have kE := hid (ko9.out.trans ko3.out)
          go_wp2_with fail
          refine bodyPost_ret (v := .tuple #[.int .i64 0, .int .i64 (k : Int), .int .i64 261]) (by simp [results, Tryd.f10, go_sem]) rfl ?_
          exact ⟨by rw [kzz.out], kE.out⟩
        | true =>
          have kgo2 := hid (fun i (hi : i < P.length) (hik : i < k + 1) => (by
            by_cases e : i = k
            · subst e
              rw [kcP.out]
              exact hrt
            · exact kgo.out i hi (by omega) : rgtB gd B P P[i] = true))
          clear hrt
          go_wp2_with fail
          go_roundw
          case rel => exact ⟨k + 1, by omega, by go_num, hid ⟨ko3.out, kgo2.out⟩⟩
          case measure => simp [intOf]; omega
      · have hlt' : ¬ (k : Int) < (P.length : Int) := by omega
        have x0 := koX.out.cell kx0.out
        have x1 := koX.out.cell kx1.out
        have kno := hid (wrgO_none (fun i hi => kgo.out i hi (by omega)))
        obtain ⟨fi, hfi⟩ := Option.isSome_iff_exists.1 kop.out
        obtain ⟨hfl, -⟩ := fndO_some hfi
        have kzz : Hid (pz = (P[fi].m, 0, 0)) := hid (by
          rw [kz.out, kno.out, hfi]
          dsimp only
          rw [Option.bind_some, List.getElem?_eq_getElem hfl]
          rfl)
        have kfw := hid (fun W => whole_any gd bo B.length cap W)
        have kfn := hid (fun W (oW : Old wr W) => find_any kb gd bo B.length cap ao cp P (0, (allZ gd).1) W ((kh.out.old (koX.out.trans oW)).bk) hPl kh.out.ris)
        have kfi := hid hfi
        dsimp only at kfn
        generalize (allZ gd).1 = al at *
        rw [hfi] at kfn
        clear hfi
        go_wp2_with fail
        refine (kfw.out _).mono ?_
        rintro e w3 ⟨rfl, o3⟩
        have ko3 := hid o3
        clear o3
        go_wp2_with fail
        refine (kfn.out _ ko3.out).mono ?_
        rintro e w4 ⟨fk, rfl, hfk, o4⟩
        obtain rfl := hfk fi rfl
        have kE := hid (ko3.out.trans o4)
        clear hfk o4
        obtain ⟨g, o, vo, vp, hao, -, -, v7, -⟩ := (kp.out.old (koX.out.trans kE.out)) fk hfl
        have u4 := (kh.out.old (koX.out.trans kE.out)).bk.c2
        subst hao
        have hfl' : (fk : Int) < (P.length : Int) := by omega
        have kF := hid (ko9.out.trans (koX.out.trans kE.out))
        generalize P[fk].m = mm at *
        go_wp2_with fail
        refine bodyPost_ret (v := .tuple #[.int .i64 mm, .int .i64 0, .int .i64 0]) (by simp [results, Tryd.f10, go_sem]) rfl ?_
        exact ⟨by rw [kzz.out]; rfl, kF.out⟩
end Go.Proofs.YtpbbnbobmcaoiaaDoor
