/- Right, Best: walked. -/
import Derived.Test.YtpbbnbobmcaoiaaDoorPO
import Derived.Test.YtpbbnbobmcaoiaaDoorG14
namespace Go.Proofs.YtpbbnbobmcaoiaaDoor
open Go.RowKit Go.Lib Go.Shelf
attribute [local go_sem] Oper.semAt_some

/-- What Right answers. -/
def prgZ (gd : Int) (B : Ins) (P : List Cl) (i : Int) : Bool := decide ((opZ gd B P).2 = 0) && decide (0 ≤ i) && (match P[i.toNat]? with
  | none => false
  | some c => rgtB gd B P c)
/-- What Best answers. -/
def pbsZ (gd : Int) (B : Ins) (P : List Cl) (c : List Int) : Int := if choE gd B c ≠ 0 then choE gd B c else if (pckZ gd B P).2.2 ≠ 0 then (pckZ gd B P).2.2 else if worthZ gd B c ≠ (pckZ gd B P).1 then 262 else 0

set_option maxRecDepth 100000 in
set_option maxHeartbeats 16000000 in
theorem pbest_any (gd : Int) (bo : Option Addr) (cap : Nat) (B : Ins) (ao : Option Addr) (cp : Nat) (P : List Cl) (co : Option Addr) (cc : Nat) (c : List Int) (w : World) (h : InsC w bo B) (hl : B.length ≤ 9223372036854775807) (hcap : B.length ≤ cap) (hP : ClC w ao P) (hPl : P.length ≤ 4611686018427387904) (hc : NumsC .i64 w co c) (hcl : c.length ≤ 9223372036854775807) (hT : Tabs w) :
    Calls Tryd.prog 23 #[.agg #[.int .i64 gd, .slice bo B.length cap], .agg #[.slice ao P.length cp], .slice co c.length cc] w fun e w' => e = .returned (.int .i64 (pbsZ gd B P c)) ∧ Old w w' := by
  have oA : Old w ((w.alloc (.cells #[.int .i64 gd, .slice bo B.length cap] 24)).alloc (.cells #[.slice ao P.length cp] 27)) := ((Old.refl w).alloc _).alloc _
  have z1 := alloc_size w (.cells #[.int .i64 gd, .slice bo B.length cap] 24)
  have n5 := heap_new w (.cells #[.int .i64 gd, .slice bo B.length cap] 24)
  have n5 := (Below.heap_alloc _ (.cells #[.slice ao P.length cp] 27) _ (blk_lt n5)).trans n5
  have n6 := heap_new (w.alloc (.cells #[.int .i64 gd, .slice bo B.length cap] 24)) (.cells #[.slice ao P.length cp] 27)
  rw [z1] at n6
  have x0 := blk_cells (i := 0) (v := .int .i64 gd) n5 rfl
  have x1 := blk_cells (i := 1) (v := .slice bo B.length cap) n5 rfl
  have p0 := blk_cells (i := 0) (v := .slice ao P.length cp) n6 rfl
  have ko := hid oA
  have kwo := hid (fun W (o : Old w W) => worth_any gd bo co cap cc B c W (h.old o) hl (hc.old o) hcl (hT.old o))
  have kck := hid (fun W (o : Old w W) => pcheck_any gd bo cap B ao cp P W (h.old o) hl hcap (hP.old o) hPl (hT.old o))
  have kz : Hid (pbsZ gd B P c = if choE gd B c ≠ 0 then choE gd B c else if (pckZ gd B P).2.2 ≠ 0 then (pckZ gd B P).2.2 else if worthZ gd B c ≠ (pckZ gd B P).1 then 262 else 0) := hid rfl
  generalize pbsZ gd B P c = rz at *
  generalize worthZ gd B c = wz at *
  generalize choE gd B c = ce at *
  generalize pckZ gd B P = pz at *
  obtain ⟨pz1, pz2, pz3⟩ := pz
  dsimp only at *
  clear oA n5 n6 z1 h hP hT hc
  go_enter Tryd.func23, Tryd.ntmps23
  go_upto_region 1 with fail
  generalize (w.alloc (.cells #[.int .i64 gd, .slice bo B.length cap] 24)).alloc (.cells #[.slice ao P.length cp] 27) = w1 at *
  generalize w.heap.size = s at *
  go_wp2_with fail
  refine (kwo.out _ ko.out).mono ?_
  rintro e w2 ⟨rfl, o2⟩
  replace x0 := o2.cell x0
  replace x1 := o2.cell x1
  replace p0 := o2.cell p0
  have ko2 := hid (ko.out.trans o2)
  clear o2
  by_cases hce : ce = 0
  · subst hce
    have kz : Hid (rz = if pz3 ≠ 0 then pz3 else if wz ≠ pz1 then 262 else 0) := hid (kz.out.trans (if_neg (fun h => h rfl)))
    go_wp2_with fail
    refine (kck.out _ ko2.out).mono ?_
    rintro e w3 ⟨rfl, o3⟩
    have ko3 := hid (ko2.out.trans o3)
    clear o3 x0 x1 p0
    by_cases h3 : pz3 = 0
    · subst h3
      have kz : Hid (rz = if wz ≠ pz1 then 262 else 0) := hid (kz.out.trans (if_neg (fun h => h rfl)))
      by_cases h4 : wz = pz1
      · subst h4
        have kzz : Hid (rz = 0) := hid (kz.out.trans (if_neg (fun h => h rfl)))
        go_wp2_with fail
        go_ret
        exact ⟨by rw [kzz.out]; rfl, ko3.out⟩
      · have kzz : Hid (rz = 262) := hid (kz.out.trans (if_pos h4))
        have h4' : (wz == pz1) = false := by simpa using h4
        clear h4
        go_wp2_with fail
        go_ret
        exact ⟨by rw [kzz.out]; rfl, ko3.out⟩
    · have kzz : Hid (rz = pz3) := hid (kz.out.trans (if_pos h3))
      have h3' : (pz3 == 0) = false := by simpa using h3
      clear h3
      go_wp2_with fail
      go_ret
      exact ⟨by rw [kzz.out]; rfl, ko3.out⟩
  · have kzz : Hid (rz = ce) := hid (kz.out.trans (if_pos hce))
    have hce' : (ce == 0) = false := by simpa using hce
    clear hce
    go_wp2_with fail
    go_ret
    exact ⟨by rw [kzz.out]; rfl, ko2.out⟩

set_option maxRecDepth 100000 in
set_option maxHeartbeats 16000000 in
theorem pright_any (gd : Int) (bo : Option Addr) (cap : Nat) (B : Ins) (ao : Option Addr) (cp : Nat) (P : List Cl) (i : Int) (w : World) (h : InsC w bo B) (hl : B.length ≤ 9223372036854775807) (hcap : B.length ≤ cap) (hP : ClC w ao P) (hPl : P.length ≤ 4611686018427387904) (hT : Tabs w) :
    Calls Tryd.prog 16 #[.agg #[.int .i64 gd, .slice bo B.length cap], .agg #[.slice ao P.length cp], .int .i64 i] w fun e w' => e = .returned (.bool (prgZ gd B P i)) ∧ Old w w' := by
  have oA : Old w ((w.alloc (.cells #[.int .i64 gd, .slice bo B.length cap] 24)).alloc (.cells #[.slice ao P.length cp] 27)) := ((Old.refl w).alloc _).alloc _
  have z1 := alloc_size w (.cells #[.int .i64 gd, .slice bo B.length cap] 24)
  have n5 := heap_new w (.cells #[.int .i64 gd, .slice bo B.length cap] 24)
  have n5 := (Below.heap_alloc _ (.cells #[.slice ao P.length cp] 27) _ (blk_lt n5)).trans n5
  have n6 := heap_new (w.alloc (.cells #[.int .i64 gd, .slice bo B.length cap] 24)) (.cells #[.slice ao P.length cp] 27)
  rw [z1] at n6
  have x0 := blk_cells (i := 0) (v := .int .i64 gd) n5 rfl
  have x1 := blk_cells (i := 1) (v := .slice bo B.length cap) n5 rfl
  have p0 := blk_cells (i := 0) (v := .slice ao P.length cp) n6 rfl
  have ko := hid oA
  have kop := hid (open_any gd bo cap B ao cp P _ (h.old oA) hl (hP.old oA) hPl)
  have khI := hid h
  have khP := hid hP
  have kT := hid hT
  have kz : Hid (prgZ gd B P i = (decide ((opZ gd B P).2 = 0) && decide (0 ≤ i) && (match P[i.toNat]? with
    | none => false
    | some c => rgtB gd B P c))) := hid rfl
  generalize prgZ gd B P i = rz at *
  clear oA n5 n6 z1 h hP hT
  go_enter Tryd.func16, Tryd.ntmps16
  go_upto_region 1 with fail
  generalize (w.alloc (.cells #[.int .i64 gd, .slice bo B.length cap] 24)).alloc (.cells #[.slice ao P.length cp] 27) = w1 at *
  generalize w.heap.size = s at *
  go_wp2_with fail
  refine kop.out.mono ?_
  rintro e w2 ⟨o2, ⟨hne, rfl⟩ | ⟨hez, hck, hbd, kb, rfl, hbk⟩⟩
  · have ko9 := hid (ko.out.trans o2)
    rw [decide_eq_false hne] at kz
    have kzz : Hid (rz = false) := hid (kz.out.trans (by simp))
    have hne' : ((opZ gd B P).2 == 0) = false := by simpa using hne
    generalize opZ gd B P = oz at *
    obtain ⟨oz1, oz2⟩ := oz
    dsimp only at *
    clear o2 x0 x1 p0 kop hne kz
    go_wp2_with fail
    go_ret
    exact ⟨by rw [kzz.out]; rfl, ko9.out⟩
  · have kh := hid (bkh_of hbk (khI.out.old (ko.out.trans o2)) hcap hPl (kT.out.old (ko.out.trans o2)) hck hbd)
    have ko9 := hid (ko.out.trans o2)
    have kp := hid (khP.out.old (ko.out.trans o2))
    rw [hez] at kz
    have hc2 := hbk.c2
    clear o2 hez hck hbd x0 x1 p0 hbk kop
    by_cases hi0 : 0 ≤ i
    · obtain ⟨k, rfl⟩ : ∃ k : Nat, i = (k : Int) := ⟨i.toNat, by omega⟩
      rw [Int.toNat_natCast] at kz
      by_cases hlt : k < P.length
      · have hlt' : (k : Int) < (P.length : Int) := by omega
        obtain ⟨g, o, vo, vp, hao, c0, c1, c2, c3, hn, hf32, hpl, -⟩ := kp.out k hlt
        have krt := hid (isright_any kb gd bo cap B ao cp P P[k] vo vp w2 kh.out (kh.out.may k hlt).2.2 hf32 hn hpl)
        unfold clV at krt
        have kzz : Hid (rz = rgtB gd B P P[k]) := hid (by
          rw [kz.out, List.getElem?_eq_getElem hlt, decide_eq_true hi0]
          rfl)
        generalize rgtB gd B P P[k] = rr at *
        generalize P[k] = c at *
        subst hao
        clear hn hf32 kz
        go_wp2_with fail
        refine krt.out.mono ?_
        rintro e w3 ⟨rfl, o3⟩
        have ko3 := hid (ko9.out.trans o3)
        clear o3 c0 c1 c2 c3 krt
        go_wp2_with fail
        go_ret
        exact ⟨by rw [kzz.out]; rfl, ko3.out⟩
      · have hlt' : ¬ (k : Int) < (P.length : Int) := by omega
        have kzz : Hid (rz = false) := hid (by
          rw [kz.out, List.getElem?_eq_none (by omega)]
          simp)
        clear kz
        go_wp2_with fail
        go_ret
        exact ⟨by rw [kzz.out]; rfl, ko9.out⟩
    · have kzz : Hid (rz = false) := hid (by
        rw [kz.out, decide_eq_false hi0]
        simp)
      clear kz
      go_wp2_with fail
      go_ret
      exact ⟨by rw [kzz.out]; rfl, ko9.out⟩
end Go.Proofs.YtpbbnbobmcaoiaaDoor
