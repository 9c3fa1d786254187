/- What comes of Blocks and Lowered in one form; CoreAsks: walked. -/
import Derived.Test.YtfoadheepmgbfaaGreatDoorAS6
import Derived.Test.YtfoadheepmgbfaaGreatDoorJ31
import Derived.Test.YtfoadheepmgbfaaGreatDoorLN3
import Derived.Test.YtfoadheepmgbfaaGreatDoorJ32
namespace Go.Proofs.YtfoadheepmgbfaaGreatDoor
open Go.RowKit Go.Lib Go.Shelf
attribute [local go_sem] Oper.semAt_some

def bkV (gd : Int) (B : Ins) (P : List Int) : List Int × Int × Bool := if pyZ gd B P ≠ 0 then ([], 0, false) else if best (lowI B (wonL B (cosC gd B)) P) (allZ gd).1 ≤ P.sum then ([], 0, false) else (bkL gd B (wonL B (cosC gd B)) P, best (lowI B (wonL B (cosC gd B)) P) (allZ gd).1 - P.sum, true)
theorem BksP.one {gd : Int} {B : Ins} {P : List Int} {w w' : World} {e : Ending} (h : BksP gd B P w e w') : Old w w' ∧ ∃ ba bc, e = .returned (.tuple #[.agg #[.slice ba (bkV gd B P).1.length bc, .int .i64 (bkV gd B P).2.1], .bool (bkV gd B P).2.2, .int .i64 (pyZ gd B P)]) ∧ NumsC .i64 w' ba (bkV gd B P).1 := by
  obtain ⟨o, ⟨hz, rfl⟩ | ⟨hz, hle, rfl⟩ | ⟨hz, hgt, v, rfl, hv⟩⟩ := h
  · refine ⟨o, none, 0, ?_, ?_⟩ <;> unfold bkV <;> rw [if_pos hz]
    · rfl
    · intro i hi
      exact absurd hi (Nat.not_lt_zero i)
  · refine ⟨o, none, 0, ?_, ?_⟩ <;> unfold bkV <;> rw [if_neg (fun e => e hz), if_pos hle]
    · rw [hz]
      rfl
    · intro i hi
      exact absurd hi (Nat.not_lt_zero i)
  · obtain ⟨ba, bc, rfl, -⟩ := id hv
    refine ⟨o, ba, bc, ?_, ?_⟩ <;> unfold bkV <;> rw [if_neg (fun e => e hz), if_neg (by omega)]
    · rw [hz]
    · exact hv.nums
theorem bkV_len (gd : Int) (B : Ins) (P : List Int) : (bkV gd B P).1.length ≤ B.length := by
  unfold bkV
  split
  · exact Nat.zero_le _
  · split
    · exact Nat.zero_le _
    · exact blL_len _ _
def lwB (gd : Int) (B : Ins) (P : List Int) : Ins := if pyZ gd B P ≠ 0 then [] else lowI B (wonL B (cosC gd B)) P
def lwG (gd : Int) (B : Ins) (P : List Int) : Int := if pyZ gd B P ≠ 0 then 0 else gd
theorem low_bnd {gd : Int} {B : Ins} {P : List Int} (h : pyZ gd B P = 0) (hlt : ∀ l ∈ B, ∀ x ∈ l, x.1 < 4294967296) : (∀ l ∈ lowI B (wonL B (cosC gd B)) P, l.length ≤ 9223372036854775807 ∧ ∀ x ∈ l, x.1 < 4294967296) ∧ (lowI B (wonL B (cosC gd B)) P).length ≤ 32 := by
  obtain ⟨hz0, hpb, hlen, hfew⟩ := pay_k h hlt
  have kI := lowI_ins (gd := gd) hpb.lenC hpb.lenP hz0
  have klt := lowI_lt hpb.lenC hpb.lenP hpb.lt
  exact ⟨fun l hl => ⟨by have := (ins_all kI).2.2.2.1 l hl; omega, klt l hl⟩, by rw [lowI_len hpb.lenC hpb.lenP]; exact hfew⟩
theorem LwdP.one {gd : Int} {B : Ins} {P : List Int} {w w' : World} {e : Ending} (h : LwdP gd B P w e w') (hlt : ∀ l ∈ B, ∀ x ∈ l, x.1 < 4294967296) : Old w w' ∧ ∃ za zc, e = .returned (.tuple #[.agg #[.int .i64 (lwG gd B P), .slice za (lwB gd B P).length zc], .int .i64 (pyZ gd B P)]) ∧ InsC w' za (lwB gd B P) := by
  obtain ⟨o, ⟨hz, v, rfl, hN⟩ | ⟨hz, rfl⟩⟩ := h
  · obtain ⟨za, zc, rfl, hC, -, -⟩ := hN.ins (low_bnd hz hlt).1
    refine ⟨o, za, zc, ?_, ?_⟩ <;> unfold lwB
    · unfold lwG
      rw [if_neg (fun e => e hz), if_neg (fun e => e hz), hz]
    · rw [if_neg (fun e => e hz)]
      exact hC
  · refine ⟨o, none, 0, ?_, ?_⟩ <;> unfold lwB
    · unfold lwG
      rw [if_pos hz, if_pos hz]
      rfl
    · rw [if_pos hz]
      intro i hi
      exact absurd hi (Nat.not_lt_zero i)
theorem nums_pre {w : World} {ao : Option Addr} {L M : List Int} (h : NumsC .i64 w ao (L ++ M)) : NumsC .i64 w ao L := fun i hi => by
  obtain ⟨g, o, e, hc⟩ := h i (by rw [List.length_append]; omega)
  rw [List.getElem_append_left hi] at hc
  exact ⟨g, o, e, hc⟩
theorem ins_old {w w' : World} {bo : Option Addr} {B : Ins} (h : InsC w bo B) (o : Old w w') : InsC w' bo B := h.old o

set_option maxRecDepth 100000 in
set_option maxHeartbeats 4000000 in
theorem asks_walk (gd : Int) (bo : Option Addr) (cap : Nat) (B : Ins) (po : Option Addr) (pc : Nat) (P : List Int) (j : Int) (w : World) (h : InsC w bo B) (hV : InsV w bo B) (hl : B.length ≤ 9223372036854775807) (hP : NumsC .i64 w po P) (hno : po = none → pc = 0) (hT : Tabs w) :
    Calls Tryz.prog 3 #[.agg #[.int .i64 gd, .slice bo B.length cap], .slice po P.length pc, .int .i64 j] w fun e w' => e = .returned (.bool true) ∧ Old w w' := by
  have o1 : Old w (w.alloc (.cells #[.int .i64 gd, .slice bo B.length cap] 24)) := (Old.refl w).alloc _
  have b1 := heap_new w (.cells #[.int .i64 gd, .slice bo B.length cap] 24)
  have x0 := blk_cells (i := 0) b1 rfl
  have x1 := blk_cells (i := 1) b1 rfl
  simp only [qqa, qqb, qqc] at x0 x1
  have ko := hid o1
  have kh := hid h
  have kV := hid hV
  have kP := hid hP
  have kno := hid hno
  have kT := hid hT
  have klt := hid (ins_lt h)
  clear o1 b1 h hV hP hno hT
  go_enter Tryz.func3, Tryz.ntmps3
  go_wp2_with fail
  generalize w.alloc (.cells #[.int .i64 gd, .slice bo B.length cap] 24) = w1 at *
  refine (larg_any gd bo cap B w1 (kh.out.old ko.out)).mono ?_
  rintro e w2 ⟨b, rfl, o2, hb⟩
  have x0 := o2.cell x0
  have x1 := o2.cell x1
  have ko2 := hid (ko.out.trans o2)
  clear o2 ko
  cases b with
  | true =>
    clear hb
    go_wp2_with fail
    refine (known_any _ (kT.out.old ko2.out)).mono ?_
    rintro e w9 ⟨rfl, o9⟩
    have ko9 := hid (ko2.out.trans o9)
    clear o9
    go_wp2_with fail
    go_ret
    exact ⟨rfl, ko9.out⟩
  | false =>
    obtain ⟨h40, h20⟩ := hb rfl
    have k20 := hid h20
    clear hb h20
    by_cases h60 : P.length > 60
    · have h60' : (P.length : Int) > 60 := by omega
      go_wp2_with fail
      refine (known_any _ (kT.out.old ko2.out)).mono ?_
      rintro e w9 ⟨rfl, o9⟩
      have ko9 := hid (ko2.out.trans o9)
      clear o9
      go_wp2_with fail
      go_ret
      exact ⟨rfl, ko9.out⟩
    · have h60' : ¬ (P.length : Int) > 60 := by omega
      have hP60 : P.length ≤ 60 := by omega
      clear h60
      go_wp2_with fail
      refine (lent_any gd bo cap B w2 (kV.out.old ko2.out) (by omega) (fun i hi => by have := k20.out i hi; omega)).mono ?_
      rintro e w3 ⟨v, rfl, hLn, o3⟩
      obtain ⟨yg, yc, rfl, hyc, -, -, -, -⟩ := hLn.at
      have q3 : Old w3 (w3.alloc (.cells #[.int .i64 gd, .slice (some ⟨yg, 0, none⟩) B.length yc] 24)) := (Old.refl w3).alloc _
      have y0 := new_cell w3 #[.int .i64 gd, .slice (some ⟨yg, 0, none⟩) B.length yc] 24 0 _ rfl
      have y1 := new_cell w3 #[.int .i64 gd, .slice (some ⟨yg, 0, none⟩) B.length yc] 24 1 _ rfl
      simp only [qqa, qqb, qqc] at y0 y1
      have oo := o3.trans q3
      have x0 := oo.cell x0
      have x1 := oo.cell x1
      have ko4 := hid (ko2.out.trans oo)
      have kLn := hid (hLn.old q3)
      have kyc := hid hyc
      clear o3 q3 oo hLn hyc
      go_upto_region 4 with fail
      generalize w3.alloc (.cells #[.int .i64 gd, .slice (some ⟨yg, 0, none⟩) B.length yc] 24) = w4 at *
      generalize w3.heap.size = yb at *
      go_wp2_with (at_builtin; refine wpAppL (by rfl) _ _ (by rfl) w4.heap.size (.slice none 0 0) po pc [] P (by rfl) (by rfl) ⟨rfl, .inl ⟨rfl, rfl⟩⟩ (kP.out.old ko4.out) kno.out (by simp; omega) (Nat.le_refl _) ?_)
      intro v5 w5 r5 g5
      have r5' : w5.ownsRow w4.heap.size 2 1 v5 P.length (P.map (Value.int .i64)) := by simpa using r5
      obtain ⟨va, vc, rfl⟩ := own_formL r5'
      have o5 : Old w4 w5 := Frm.mono (Frm.grown (Frm.refl (fun _ => False) w4) g5 (fun k hk => Or.inr (by simp [Value.ownBlock] at hk))) (fun _ _ e => e)
      have q6 : Old w5 (w5.alloc (.cells #[.int .i64 4242] 2)) := (Old.refl w5).alloc _
      have n6 : NumsC .i64 (w5.alloc (.cells #[.int .i64 4242] 2)) (some ⟨w5.heap.size, 0, none⟩) [4242] := nums_blk (L := [4242]) (heap_new w5 (.cells #[.int .i64 4242] 2))
      have r6 := hid (owns_kept r5' (fun q hq => q6.block q (r5'.lt q hq).2 (fun h => h)))
      have kn6 := hid n6
      have ko46 := hid (o5.trans q6)
      clear r5 r5' g5 o5 q6 n6
      go_wp2_with (at_builtin; refine wpAppL (by rfl) _ _ (by rfl) w4.heap.size (.slice va P.length vc) (some ⟨w5.heap.size, 0, none⟩) 1 P [4242] (by rfl) (by rfl) r6.out kn6.out (fun e => by cases e) (by simp; omega) ko46.out.size ?_)
      intro v7 w7 r7 g7
      obtain ⟨ma, mc, rfl⟩ := own_formL r7
      have ko47 : Hid (Old w4 w7) := hid (Frm.trans ko46.out (Frm.grown (Frm.refl (fun q => (Value.slice va P.length vc).ownBlock = some q) _) g7 (fun k hk => Or.inr hk)) (fun q hq e => by have := (r6.out.lt q e).1; omega))
      have hmc := own_cap r7
      have kmn := hid ((NewL.own (by simpa using r7) : NewL w4.heap.size w7 (.slice ma (P.length + 1) mc) (P ++ [4242])).nums)
      clear r7 g7 r6 kn6 ko46
      obtain ⟨mb, mo, hma, hmk⟩ := kmn.out P.length (by simp)
      subst hma
      rw [List.getElem_append_right (Nat.le_refl _)] at hmk
      simp only [Nat.sub_self, List.getElem_cons_zero] at hmk
      have km := hid kmn.out
      have kmk := hid hmk
      have ko7 := hid (ko4.out.trans ko47.out)
      have x0 := ko47.out.cell x0
      have x1 := ko47.out.cell x1
      have y0 := ko47.out.cell y0
      have y1 := ko47.out.cell y1
      have kLn7 := hid (kLn.out.old ko47.out)
      have kyI := hid (kLn7.out.ins (ins_bound kh.out))
      have hmc1 : (P.length : Int) ≤ (mc : Int) := hmc.1
      have hmc2 : (P.length : Int) + 1 ≤ (mc : Int) := by have := hmc.2; omega
      have hpl : (0 : Int) ≤ (P.length : Int) := by omega
      have kKe := hid (fun W (o : Old w7 W) => kept_any gd _ _ bo cap B W (kLn7.out.old o) (kh.out.old (ko7.out.trans o)) (by omega) (fun i hi => by have := k20.out i hi; omega))
      have kBk := hid (fun W (o : Old w7 W) => (blocks_any gd (some ⟨yg, 0, none⟩) (some ⟨mb, mo, none⟩) yc mc B P W (kyI.out.old o) (by have := kyc.out; omega) hl ((nums_pre km.out).old o) (kT.out.old (ko7.out.trans o))).mono (fun e w' h => h.one))
      have kDB := hid (fun W (o : Old w7 W) => (rblocks_any gd bo po cap pc B P W (kh.out.old (ko7.out.trans o)) hl (kP.out.old (ko7.out.trans o))).mono (fun e w' h => h.one))
      have kLe := hid (fun W (o : Old w7 W) => least_all gd (some ⟨yg, 0, none⟩) (some ⟨mb, mo, none⟩) yc mc B P j W (kyI.out.old o) (by have := kyc.out; omega) hl ((nums_pre km.out).old o) (kT.out.old (ko7.out.trans o)))
      have kDL := hid (fun W (o : Old w7 W) => rleast_all gd bo po cap pc B P j W (kh.out.old (ko7.out.trans o)) hl (kP.out.old (ko7.out.trans o)))
      have kTi := hid (fun W (o : Old w7 W) => tight_all gd (some ⟨yg, 0, none⟩) (some ⟨mb, mo, none⟩) yc mc B P W (kyI.out.old o) (by have := kyc.out; omega) hl ((nums_pre km.out).old o) (kT.out.old (ko7.out.trans o)))
      have kDT := hid (fun W (o : Old w7 W) => rtight_all gd bo po cap pc B P W (kh.out.old (ko7.out.trans o)) hl (kP.out.old (ko7.out.trans o)))
      have kLw := hid (fun W (o : Old w7 W) => (lwd_any gd (some ⟨yg, 0, none⟩) (some ⟨mb, mo, none⟩) yc mc B P W (kyI.out.old o) (by have := kyc.out; omega) hl ((nums_pre km.out).old o) (kT.out.old (ko7.out.trans o))).mono (fun e w' h => h.one klt.out))
      have kDA := hid (fun W (o : Old w7 W) => rasked_any gd bo po cap pc B P W (kh.out.old (ko7.out.trans o)) hl (kP.out.old (ko7.out.trans o)))
      have kLl : Hid ((bkV gd B P).1.length ≤ 40) := hid (Nat.le_trans (bkV_len gd B P) h40)
      clear hmc hmk kLn kLn7 kyI ko47 kmn
      generalize bkV gd B P = bv at *
      obtain ⟨L, bm, bb⟩ := bv
      generalize lsV gd B P j = ls at *
      obtain ⟨l1, l2⟩ := ls
      generalize tgV gd B P = tg at *
      obtain ⟨t1, t2⟩ := tg
      dsimp only at kBk kDB kLe kDL kTi kDT kLl
      have hq1 : (bb != bb) = false := by simp
      have hq2 : (bm != bm) = false := by simp
      have hq3 : (pyZ gd B P != pyZ gd B P) = false := by simp
      have hq4 : (l1 != l1) = false := by simp
      have hq5 : (l2 != l2) = false := by simp
      have hq6 : (t1 != t1) = false := by simp
      have hq7 : (t2 != t2) = false := by simp
      go_wp2_with fail
      refine (kBk.out w7 (Old.refl _)).mono ?_
      rintro e w8 ⟨o8, ba, bc, rfl, hbn⟩
      have q8 : Old w8 (w8.alloc (.cells #[.slice ba L.length bc, .int .i64 bm] 31)) := (Old.refl w8).alloc _
      have b0 := new_cell w8 #[.slice ba L.length bc, .int .i64 bm] 31 0 _ rfl
      have b1 := new_cell w8 #[.slice ba L.length bc, .int .i64 bm] 31 1 _ rfl
      simp only [qqa, qqb, qqc] at b0 b1
      have oo := o8.trans q8
      have x0 := oo.cell x0
      have x1 := oo.cell x1
      have y0 := oo.cell y0
      have y1 := oo.cell y1
      have kbn := hid (hbn.old q8)
      have koT := hid oo
      clear oo o8 q8 hbn kBk
      go_upto_region 6 with fail
      generalize w8.alloc (.cells #[.slice ba L.length bc, .int .i64 bm] 31) = w9 at *
      generalize w8.heap.size = bb1 at *
      go_wp2_with fail
      refine (kDB.out w9 koT.out).mono ?_
      rintro e w10 ⟨o10, ca, cc, rfl, hcn⟩
      have q10 : Old w10 (w10.alloc (.cells #[.slice ca L.length cc, .int .i64 bm] 31)) := (Old.refl w10).alloc _
      have d0 := new_cell w10 #[.slice ca L.length cc, .int .i64 bm] 31 0 _ rfl
      have d1 := new_cell w10 #[.slice ca L.length cc, .int .i64 bm] 31 1 _ rfl
      simp only [qqa, qqb, qqc] at d0 d1
      have oo := o10.trans q10
      have x0 := oo.cell x0
      have x1 := oo.cell x1
      have y0 := oo.cell y0
      have y1 := oo.cell y1
      have b0 := oo.cell b0
      have b1 := oo.cell b1
      have kbn := hid (kbn.out.old oo)
      have kcn := hid (hcn.old q10)
      have koT := hid (koT.out.trans oo)
      clear oo o10 q10 hcn kDB
      go_upto_region 7 with fail
      generalize w10.alloc (.cells #[.slice ca L.length cc, .int .i64 bm] 31) = w11 at *
      generalize w10.heap.size = db at *
      go_wp2_with fail
      refine (kLe.out w11 koT.out).mono ?_
      rintro e w12 ⟨rfl, o⟩
      have x0 := o.cell x0
      have x1 := o.cell x1
      have y0 := o.cell y0
      have y1 := o.cell y1
      have b0 := o.cell b0
      have b1 := o.cell b1
      have kbn := hid (kbn.out.old o)
      have d0 := o.cell d0
      have d1 := o.cell d1
      have kcn := hid (kcn.out.old o)
      have koT := hid (koT.out.trans o)
      clear o
      go_wp2_with fail
      refine (kDL.out w12 koT.out).mono ?_
      rintro e w13 ⟨rfl, o⟩
      have x0 := o.cell x0
      have x1 := o.cell x1
      have y0 := o.cell y0
      have y1 := o.cell y1
      have b0 := o.cell b0
      have b1 := o.cell b1
      have kbn := hid (kbn.out.old o)
      have d0 := o.cell d0
      have d1 := o.cell d1
      have kcn := hid (kcn.out.old o)
      have koT := hid (koT.out.trans o)
      clear o
      go_wp2_with fail
      refine (kTi.out w13 koT.out).mono ?_
      rintro e w14 ⟨rfl, o⟩
      have x0 := o.cell x0
      have x1 := o.cell x1
      have y0 := o.cell y0
      have y1 := o.cell y1
      have b0 := o.cell b0
      have b1 := o.cell b1
      have kbn := hid (kbn.out.old o)
      have d0 := o.cell d0
      have d1 := o.cell d1
      have kcn := hid (kcn.out.old o)
      have koT := hid (koT.out.trans o)
      clear o
      go_wp2_with fail
      refine (kDT.out w14 koT.out).mono ?_
      rintro e w15 ⟨rfl, o⟩
      have x0 := o.cell x0
      have x1 := o.cell x1
      have y0 := o.cell y0
      have y1 := o.cell y1
      have b0 := o.cell b0
      have b1 := o.cell b1
      have kbn := hid (kbn.out.old o)
      have d0 := o.cell d0
      have d1 := o.cell d1
      have kcn := hid (kcn.out.old o)
      have koT := hid (koT.out.trans o)
      clear o
      go_wp2_with fail
      refine (kLw.out w15 koT.out).mono ?_
      rintro e w16 ⟨o16, za, zc, rfl, hzI⟩
      have q16 : Old w16 (w16.alloc (.cells #[.int .i64 (lwG gd B P), .slice za (lwB gd B P).length zc] 24)) := (Old.refl w16).alloc _
      have z0 := new_cell w16 #[.int .i64 (lwG gd B P), .slice za (lwB gd B P).length zc] 24 0 _ rfl
      have z1 := new_cell w16 #[.int .i64 (lwG gd B P), .slice za (lwB gd B P).length zc] 24 1 _ rfl
      simp only [qqa, qqb, qqc] at z0 z1
      have oo := o16.trans q16
      have x0 := oo.cell x0
      have x1 := oo.cell x1
      have y0 := oo.cell y0
      have y1 := oo.cell y1
      have b0 := oo.cell b0
      have b1 := oo.cell b1
      have kbn := hid (kbn.out.old oo)
      have d0 := oo.cell d0
      have d1 := oo.cell d1
      have kcn := hid (kcn.out.old oo)
      have kzI := hid (hzI.old q16)
      have koT := hid (koT.out.trans oo)
      clear oo o16 q16 hzI kLw kLe kDL kTi kDT
      go_upto_region 12 with fail
      generalize w16.alloc (.cells #[.int .i64 (lwG gd B P), .slice za (lwB gd B P).length zc] 24) = w17 at *
      generalize w16.heap.size = zb at *
      go_wp2_with fail
      refine (kDA.out w17 koT.out).mono ?_
      rintro e w18 ⟨o18, h18⟩
      have q18 : Old w18 (w18.alloc (.cells #[.int .i64 0, .slice none 0 0] 24)) := (Old.refl w18).alloc _
      have hlb := heap_new w18 (.cells #[.int .i64 0, .slice none 0 0] 24)
      have ko18 := hid (koT.out.trans o18)
      have x0 := o18.cell x0
      have x1 := o18.cell x1
      have y0 := o18.cell y0
      have y1 := o18.cell y1
      have b0 := o18.cell b0
      have b1 := o18.cell b1
      have kbn := hid (kbn.out.old o18)
      have d0 := o18.cell d0
      have d1 := o18.cell d1
      have kcn := hid (kcn.out.old o18)
      have z0 := o18.cell z0
      have z1 := o18.cell z1
      have kzI := hid (kzI.out.old o18)
      clear o18 kDA koT
      obtain ⟨hz, va2, vc2, ua2, uc2, rfl, hn2, -⟩ | ⟨hz, rfl⟩ := h18
      · obtain ⟨hz0, hpb, hlen', hfew⟩ := pay_k hz klt.out
        have hG : lwG gd B P = gd := by unfold lwG; rw [if_neg (fun e => e hz)]
        have hB : lwB gd B P = lowI B (wonL B (cosC gd B)) P := by unfold lwB; rw [if_neg (fun e => e hz)]
        have klb := hid (low_bnd hz klt.out)
        have hzb : (pyZ gd B P == 0) = true := by rw [hz]; rfl
        rw [hG] at z0
        rw [hB] at z1 kzI
        have kLo := hid (fun W (o : Old w18 W) => rlowI_any gd bo va2 po cap vc2 pc B (wonL B (cosC gd B)) P W ⟨kh.out.old ((ko7.out.trans ko18.out).trans o), hn2.old o, kP.out.old ((ko7.out.trans ko18.out).trans o)⟩ hpb)
        have c0 := q18.cell x0
        have c1 := q18.cell x1
        have kq18 := hid q18
        have khl := hid hlb
        have klbz := hid (blk_lt hlb)
        clear hG hB hlen' hn2 hpb hz0 hz q18 hlb
        go_upto_region 14 with fail
        generalize w18.alloc (.cells #[.int .i64 0, .slice none 0 0] 24) = w19 at *
        obtain ⟨lb, hlbs⟩ : ∃ lb, w18.heap.size = lb := ⟨_, rfl⟩
        rw [hlbs] at khl klbz ⊢
        have klbs := hid hlbs
        clear hlbs
        go_wp2_with fail
        refine (kLo.out w19 kq18.out).mono ?_
        rintro e w20 ⟨v, rfl, hN, o20⟩
        obtain ⟨la, lc, rfl, -, -, -⟩ := hN.ins klb.out.1
        have hb20 := (o20.block lb klbz.out (fun h => h)).trans khl.out
        generalize lowI B (wonL B (cosC gd B)) P = Q at *
        have e0 := blk_cells (i := 0) (v := .int .i64 0) hb20 rfl
        have f0 := blk_fz hb20 0
        have b6 := heap_set (i := 0) (.int .i64 gd) hb20
        have e1 := blk_cells (i := 1) (v := .slice none 0 0) b6 rfl
        have f1 := blk_fz b6 1
        have b7 := heap_set (i := 1) (.slice la Q.length lc) b6
        have kfS : Hid (Frm (fun q => q = lb) w20 ((w20.setCell ⟨lb, 0, none⟩ (.int .i64 gd)).setCell ⟨lb, 1, none⟩ (.slice la Q.length lc))) := hid ((frm_set w20 lb 0 (.int .i64 gd)).trans (frm_set _ lb 1 (.slice la Q.length lc)) (fun _ _ e => e))
        have kb7 := hid b7
        have koA : Hid (Old w18 ((w20.setCell ⟨lb, 0, none⟩ (.int .i64 gd)).setCell ⟨lb, 1, none⟩ (.slice la Q.length lc))) := hid (Frm.trans (kq18.out.trans o20) kfS.out (fun i hi e => by
          have e' : i = lb := e
          have := klbs.out
          omega))
        have klI : Hid (InsC ((w20.setCell ⟨lb, 0, none⟩ (.int .i64 gd)).setCell ⟨lb, 1, none⟩ (.slice la Q.length lc)) la Q) := hid (by
          have hN2 := hN.frm kfS.out (fun q cur t hq ht hNq e => by
            have e' : q = lb := e
            have := klbz.out
            omega)
          obtain ⟨la2, lc2, e2, hC, -, -⟩ := hN2.ins klb.out.1
          cases e2
          exact hC)
        clear b6 b7 hb20 hN o20 c0 c1
        go_upto_region 16 with fail
        generalize (w20.setCell ⟨lb, 0, none⟩ (.int .i64 gd)).setCell ⟨lb, 1, none⟩ (.slice la Q.length lc) = w21 at *
        have m0 := blk_cells (v := .int .i64 gd) (i := 0) kb7.out rfl
        have m1 := blk_cells (v := .slice la Q.length lc) (i := 1) kb7.out rfl
        have x0 := koA.out.cell x0
        have x1 := koA.out.cell x1
        have y0 := koA.out.cell y0
        have y1 := koA.out.cell y1
        have b0 := koA.out.cell b0
        have b1 := koA.out.cell b1
        have kbn := hid (kbn.out.old koA.out)
        have d0 := koA.out.cell d0
        have d1 := koA.out.cell d1
        have kcn := hid (kcn.out.old koA.out)
        have z0 := koA.out.cell z0
        have z1 := koA.out.cell z1
        have kzI := hid (kzI.out.old koA.out)
        have koT := hid (ko18.out.trans koA.out)
        clear e0 f0 e1 f1 kb7 kfS koA kLo
        go_wp2_with fail
        refine (sints_any ba ca bc cc L w21 kbn.out kcn.out (by have := kLl.out; omega)).mono ?_
        rintro e W1 ⟨rfl, o⟩
        have x0 := o.cell x0
        have x1 := o.cell x1
        have y0 := o.cell y0
        have y1 := o.cell y1
        have b0 := o.cell b0
        have b1 := o.cell b1
        have kbn := hid (kbn.out.old o)
        have d0 := o.cell d0
        have d1 := o.cell d1
        have kcn := hid (kcn.out.old o)
        have z0 := o.cell z0
        have z1 := o.cell z1
        have kzI := hid (kzI.out.old o)
        have m0 := o.cell m0
        have m1 := o.cell m1
        have klI := hid (klI.out.old o)
        have koT := hid (koT.out.trans o)
        clear o
        go_wp2_with fail
        refine (same18 gd za la zc lc Q W1 kzI.out klI.out (by have := klb.out.2; omega)).mono ?_
        rintro e W2 ⟨rfl, o⟩
        have x0 := o.cell x0
        have x1 := o.cell x1
        have y0 := o.cell y0
        have y1 := o.cell y1
        have koT := hid (koT.out.trans o)
        clear o b0 b1 d0 d1 z0 z1 m0 m1
        go_wp2_with fail
        refine (kKe.out W2 koT.out).mono ?_
        rintro e W3 ⟨rfl, o⟩
        have koT := hid (koT.out.trans o)
        clear o x0 x1 y0 y1
        go_wp2_with fail
        refine (psame_any (some ⟨mb, mo, none⟩) po mc pc P W3 ((nums_pre km.out).old koT.out) (kP.out.old (ko7.out.trans koT.out)) (by omega)).mono ?_
        rintro e W4 ⟨rfl, o⟩
        have koT := hid (koT.out.trans o)
        clear o
        have mk := koT.out.cell kmk.out
        go_wp2_with fail
        refine (known_any W4 (kT.out.old (ko7.out.trans koT.out))).mono ?_
        rintro e W5 ⟨rfl, o⟩
        have koE := hid ((ko7.out.trans koT.out).trans o)
        clear o mk
        go_wp2_with fail
        go_ret
        exact ⟨rfl, koE.out⟩
      · have hG : lwG gd B P = 0 := by unfold lwG; rw [if_pos hz]
        have hB : lwB gd B P = [] := by unfold lwB; rw [if_pos hz]
        have hzb : (pyZ gd B P == 0) = false := by simpa using hz
        rw [hG] at z0
        rw [hB] at z1 kzI
        have x0 := q18.cell x0
        have x1 := q18.cell x1
        have y0 := q18.cell y0
        have y1 := q18.cell y1
        have b0 := q18.cell b0
        have b1 := q18.cell b1
        have kbn := hid (kbn.out.old q18)
        have d0 := q18.cell d0
        have d1 := q18.cell d1
        have kcn := hid (kcn.out.old q18)
        have z0 := q18.cell z0
        have z1 := q18.cell z1
        have kzI := hid (kzI.out.old q18)
        have koT := hid (ko18.out.trans q18)
        have m0 := blk_cells (v := .int .i64 0) (i := 0) hlb rfl
        have m1 := blk_cells (v := .slice none 0 0) (i := 1) hlb rfl
        have klI : Hid (InsC (w18.alloc (.cells #[.int .i64 0, .slice none 0 0] 24)) none []) := hid (fun i hi => absurd hi (Nat.not_lt_zero i))
        clear hG hB q18 hlb hz
        go_upto_region 14 with fail
        generalize w18.alloc (.cells #[.int .i64 0, .slice none 0 0] 24) = w19 at *
        generalize w18.heap.size = lb at *
        simp only [List.length_nil] at z1
        go_wp2_with fail
        refine (sints_any ba ca bc cc L w19 kbn.out kcn.out (by have := kLl.out; omega)).mono ?_
        rintro e W1 ⟨rfl, o⟩
        have x0 := o.cell x0
        have x1 := o.cell x1
        have y0 := o.cell y0
        have y1 := o.cell y1
        have b0 := o.cell b0
        have b1 := o.cell b1
        have kbn := hid (kbn.out.old o)
        have d0 := o.cell d0
        have d1 := o.cell d1
        have kcn := hid (kcn.out.old o)
        have z0 := o.cell z0
        have z1 := o.cell z1
        have kzI := hid (kzI.out.old o)
        have m0 := o.cell m0
        have m1 := o.cell m1
        have klI := hid (klI.out.old o)
        have koT := hid (koT.out.trans o)
        clear o
        go_wp2_with fail
        refine (same18 0 za none zc 0 [] W1 kzI.out klI.out (by simp)).mono ?_
        rintro e W2 ⟨rfl, o⟩
        have x0 := o.cell x0
        have x1 := o.cell x1
        have y0 := o.cell y0
        have y1 := o.cell y1
        have koT := hid (koT.out.trans o)
        clear o b0 b1 d0 d1 z0 z1 m0 m1
        go_wp2_with fail
        refine (kKe.out W2 koT.out).mono ?_
        rintro e W3 ⟨rfl, o⟩
        have koT := hid (koT.out.trans o)
        clear o x0 x1 y0 y1
        go_wp2_with fail
        refine (psame_any (some ⟨mb, mo, none⟩) po mc pc P W3 ((nums_pre km.out).old koT.out) (kP.out.old (ko7.out.trans koT.out)) (by omega)).mono ?_
        rintro e W4 ⟨rfl, o⟩
        have koT := hid (koT.out.trans o)
        clear o
        have mk := koT.out.cell kmk.out
        go_wp2_with fail
        refine (known_any W4 (kT.out.old (ko7.out.trans koT.out))).mono ?_
        rintro e W5 ⟨rfl, o⟩
        have koE := hid ((ko7.out.trans koT.out).trans o)
        clear o mk
        go_wp2_with fail
        go_ret
        exact ⟨rfl, koE.out⟩
end Go.Proofs.YtfoadheepmgbfaaGreatDoor
