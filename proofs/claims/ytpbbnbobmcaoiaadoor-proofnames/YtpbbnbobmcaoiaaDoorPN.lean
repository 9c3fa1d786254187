/- Is a claim right by its prices; is it right: walked. -/
import Derived.Test.YtpbbnbobmcaoiaaDoorPM
import Derived.Test.YtpbbnbobmcaoiaaDoorPB
namespace Go.Proofs.YtpbbnbobmcaoiaaDoor
open Go.RowKit Go.Lib Go.Shelf
attribute [local go_sem] Oper.semAt_some

/-- Is it right by its prices? -/
def prcB (gd : Int) (B : Ins) (c : Cl) : Bool := decide ((pbdZ gd B c.b c.f c.p).2 = 0) && decide ((pbdZ gd B c.b c.f c.p).1 ≤ c.m)
/-- Is it right? -/
def rgtB (gd : Int) (B : Ins) (P : List Cl) (c : Cl) : Bool := if c.p.length = 0 then ofrB B P c.b.toNat c.f c.m else prcB gd B c

set_option maxRecDepth 100000 in
set_option maxHeartbeats 16000000 in
theorem byprices_any (kb : Nat) (gd : Int) (bo : Option Addr) (cap : Nat) (B : Ins) (ao : Option Addr) (cp : Nat) (P : List Cl) (c : Cl) (vo : Option Addr) (pc : Nat) (w : World) (hK : BkC w kb gd bo B.length cap ao cp P) (hB : InsC w bo B) (hBl : B.length ≤ 9223372036854775807) (hcap : B.length ≤ cap) (hf : c.f < 4294967296) (hp : NumsC .i64 w vo c.p) (hpl : c.p.length ≤ 9223372036854775807) (hT : Tabs w) :
    Calls Tryd.prog 54 #[.pointer (some ⟨kb, 0, none⟩), clV c vo pc] w fun e w' => e = .returned (.bool (prcB gd B c)) ∧ Old w w' := by
  have kbd := hid (fun W (o : Old w W) => prfbound_any gd bo vo cap pc B c.b c.f c.p W (hB.old o) hBl hcap hf (hp.old o) hpl (hT.old o))
  have kz : Hid (prcB gd B c = (decide ((pbdZ gd B c.b c.f c.p).2 = 0) && decide ((pbdZ gd B c.b c.f c.p).1 ≤ c.m))) := hid rfl
  have v0 := hK.c0
  have v1 := hK.c1
  generalize pbdZ gd B c.b c.f c.p = pz at *
  obtain ⟨z1, z2⟩ := pz
  dsimp only at kbd kz
  unfold clV
  generalize prcB gd B c = rz at *
  obtain ⟨cb, cf, cm, cl⟩ := c
  dsimp only at *
  have n5 := heap_new w (.cells #[.int .i64 cb, .int .u32 (cf : Int), .int .i64 cm, .slice vo cl.length pc] 48)
  have d0 := blk_cells (i := 0) (v := .int .i64 cb) n5 rfl
  have d1 := blk_cells (i := 1) (v := .int .u32 (cf : Int)) n5 rfl
  have d2 := blk_cells (i := 2) (v := .int .i64 cm) n5 rfl
  have d3 := blk_cells (i := 3) (v := .slice vo cl.length pc) n5 rfl
  have oA : Old w (w.alloc (.cells #[.int .i64 cb, .int .u32 (cf : Int), .int .i64 cm, .slice vo cl.length pc] 48)) := (Old.refl w).alloc _
  have ko := hid oA
  have u0 := oA.cell v0
  have u1 := oA.cell v1
  clear n5 oA hK hB hp hT v0 v1
  go_enter Tryd.func54, Tryd.ntmps54
  go_upto_region 1 with fail
  generalize w.alloc (.cells #[.int .i64 cb, .int .u32 (cf : Int), .int .i64 cm, .slice vo cl.length pc] 48) = w1 at *
  generalize w.heap.size = s at *
  refine wp_region_noPanic ?_
  refine wp_region_held_drew (S := fun X => Old w1 X) (by kernel_rfl) ((Old.refl w1).drewN 1) (fun hHeld => ?_)
  generalize w1.drew = X0 at *
  refine' wpAnyH_take (i := 0) rfl (by kernel_rfl) (by kernel_rfl) (by kernel_rfl) (fun _ _ _ h => h) (Or.inl ⟨by rfl, ?_⟩) hHeld ?_
  rotate_left
  · intro W hSw
    skip
    clear hSw
    simp only [List.getElem_toArray, List.getElem_cons_zero]
    go_simp
    all_goals with_reducible rfl
  simp only [List.getElem_toArray, List.getElem_cons_zero, Act.put, List.setIfInBounds_toArray, List.set_cons_zero, List.set_cons_succ]
  refine' wpAnyH_take (i := 1) rfl (by kernel_rfl) (by kernel_rfl) (by kernel_rfl) (fun _ _ _ h => h) (Or.inl ⟨by rfl, ?_⟩) hHeld ?_
  rotate_left
  · intro W hSw
    skip
    clear hSw
    simp only [List.getElem_toArray, List.getElem_cons_zero, List.getElem_cons_succ]
    go_simp
    all_goals with_reducible rfl
  simp only [List.getElem_toArray, List.getElem_cons_zero, List.getElem_cons_succ, Act.put, List.setIfInBounds_toArray, List.set_cons_zero, List.set_cons_succ]
  refine' wpAnyH_take (i := 2) rfl (by kernel_rfl) (by kernel_rfl) (by kernel_rfl) (fun _ _ _ h => h) (Or.inl ⟨by rfl, ?_⟩) hHeld ?_
  rotate_left
  · intro W hSw
    skip
    clear hSw
    simp only [List.getElem_toArray, List.getElem_cons_zero, List.getElem_cons_succ]
    go_simp
    all_goals with_reducible rfl
  simp only [List.getElem_toArray, List.getElem_cons_zero, List.getElem_cons_succ, Act.put, List.setIfInBounds_toArray, List.set_cons_zero, List.set_cons_succ]
  refine' wpAnyH_take (i := 3) rfl (by kernel_rfl) (by kernel_rfl) (by kernel_rfl) (fun _ _ _ h => h) (Or.inl ⟨by rfl, ?_⟩) hHeld ?_
  rotate_left
  · intro W hSw
    have x0 := Old.cell hSw u0; have x1 := Old.cell hSw u1
    clear hSw
    simp only [List.getElem_toArray, List.getElem_cons_zero, List.getElem_cons_succ]
    go_simp
    all_goals with_reducible rfl
  simp only [List.getElem_toArray, List.getElem_cons_zero, List.getElem_cons_succ, Act.put, List.setIfInBounds_toArray, List.set_cons_zero, List.set_cons_succ]
  refine' wpAnyH_take (i := 4) rfl (by kernel_rfl) (by kernel_rfl) (by kernel_rfl) (fun _ _ _ h => h) (Or.inl ⟨by rfl, ?_⟩) hHeld ?_
  rotate_left
  · intro W hSw
    skip
    clear hSw
    simp only [List.getElem_toArray, List.getElem_cons_zero, List.getElem_cons_succ]
    go_simp
    all_goals with_reducible rfl
  simp only [List.getElem_toArray, List.getElem_cons_zero, List.getElem_cons_succ, Act.put, List.setIfInBounds_toArray, List.set_cons_zero, List.set_cons_succ]
  refine' wpAnyH_take (i := 5) rfl (by kernel_rfl) (by kernel_rfl) (by kernel_rfl) (fun _ _ _ h => h) (Or.inl ⟨by rfl, ?_⟩) hHeld ?_
  rotate_left
  · intro W hSw
    have x0 := Old.cell hSw d0
    clear hSw
    simp only [List.getElem_toArray, List.getElem_cons_zero, List.getElem_cons_succ]
    go_simp
    all_goals with_reducible rfl
  simp only [List.getElem_toArray, List.getElem_cons_zero, List.getElem_cons_succ, Act.put, List.setIfInBounds_toArray, List.set_cons_zero, List.set_cons_succ]
  refine' wpAnyH_take (i := 6) rfl (by kernel_rfl) (by kernel_rfl) (by kernel_rfl) (fun _ _ _ h => h) (Or.inl ⟨by rfl, ?_⟩) hHeld ?_
  rotate_left
  · intro W hSw
    skip
    clear hSw
    simp only [List.getElem_toArray, List.getElem_cons_zero, List.getElem_cons_succ]
    go_simp
    all_goals with_reducible rfl
  simp only [List.getElem_toArray, List.getElem_cons_zero, List.getElem_cons_succ, Act.put, List.setIfInBounds_toArray, List.set_cons_zero, List.set_cons_succ]
  refine' wpAnyH_take (i := 7) rfl (by kernel_rfl) (by kernel_rfl) (by kernel_rfl) (fun _ _ _ h => h) (Or.inl ⟨by rfl, ?_⟩) hHeld ?_
  rotate_left
  · intro W hSw
    have x0 := Old.cell hSw d1
    clear hSw
    simp only [List.getElem_toArray, List.getElem_cons_zero, List.getElem_cons_succ]
    go_simp
    all_goals with_reducible rfl
  simp only [List.getElem_toArray, List.getElem_cons_zero, List.getElem_cons_succ, Act.put, List.setIfInBounds_toArray, List.set_cons_zero, List.set_cons_succ]
  refine' wpAnyH_take (i := 8) rfl (by kernel_rfl) (by kernel_rfl) (by kernel_rfl) (fun _ _ _ h => h) (Or.inl ⟨by rfl, ?_⟩) hHeld ?_
  rotate_left
  · intro W hSw
    skip
    clear hSw
    simp only [List.getElem_toArray, List.getElem_cons_zero, List.getElem_cons_succ]
    go_simp
    all_goals with_reducible rfl
  simp only [List.getElem_toArray, List.getElem_cons_zero, List.getElem_cons_succ, Act.put, List.setIfInBounds_toArray, List.set_cons_zero, List.set_cons_succ]
  refine' wpAnyH_take (i := 9) rfl (by kernel_rfl) (by kernel_rfl) (by kernel_rfl) (fun _ _ _ h => h) (Or.inl ⟨by rfl, ?_⟩) hHeld ?_
  rotate_left
  · intro W hSw
    have x0 := Old.cell hSw d3
    clear hSw
    simp only [List.getElem_toArray, List.getElem_cons_zero, List.getElem_cons_succ]
    go_simp
    all_goals with_reducible rfl
  simp only [List.getElem_toArray, List.getElem_cons_zero, List.getElem_cons_succ, Act.put, List.setIfInBounds_toArray, List.set_cons_zero, List.set_cons_succ]
  refine wpAnyH_ready (rs := [10]) (by kernel_rfl) (by simp) ?_
  refine AllReadyH.cons (o := _) rfl (fun K hK => ?_) AllReadyH.nil
  simp only [List.getElem_toArray, List.getElem_cons_zero, List.getElem_cons_succ]
  go_simp
  refine (kbd.out X0 (ko.out.trans hHeld)).mono ?_
  rintro e X1 ⟨rfl, o⟩
  have hHeld2 := Old.trans hHeld o
  refine hK.out _ _ hHeld2 (fun _ => ?_)
  clear hK K hHeld o
  have hHeld := hHeld2
  clear hHeld2
  try simp only [Act.put, List.setIfInBounds_toArray, List.set_cons_zero, List.set_cons_succ]
  refine' wpAnyH_take (i := 11) rfl (by kernel_rfl) (by kernel_rfl) (by kernel_rfl) (fun _ _ _ h => h) (Or.inl ⟨by rfl, ?_⟩) hHeld ?_
  rotate_left
  · intro W hSw
    skip
    clear hSw
    simp only [List.getElem_toArray, List.getElem_cons_zero, List.getElem_cons_succ]
    go_simp
    all_goals with_reducible rfl
  simp only [List.getElem_toArray, List.getElem_cons_zero, List.getElem_cons_succ, Act.put, List.setIfInBounds_toArray, List.set_cons_zero, List.set_cons_succ]
  refine' wpAnyH_take (i := 12) rfl (by kernel_rfl) (by kernel_rfl) (by kernel_rfl) (fun _ _ _ h => h) (Or.inl ⟨by rfl, ?_⟩) hHeld ?_
  rotate_left
  · intro W hSw
    skip
    clear hSw
    simp only [List.getElem_toArray, List.getElem_cons_zero, List.getElem_cons_succ]
    go_simp
    all_goals with_reducible rfl
  simp only [List.getElem_toArray, List.getElem_cons_zero, List.getElem_cons_succ, Act.put, List.setIfInBounds_toArray, List.set_cons_zero, List.set_cons_succ]
  refine' wpAnyH_take (i := 13) rfl (by kernel_rfl) (by kernel_rfl) (by kernel_rfl) (fun _ _ _ h => h) (Or.inl ⟨by rfl, ?_⟩) hHeld ?_
  rotate_left
  · intro W hSw
    skip
    clear hSw
    simp only [List.getElem_toArray, List.getElem_cons_zero, List.getElem_cons_succ]
    go_simp
    all_goals with_reducible rfl
  simp only [List.getElem_toArray, List.getElem_cons_zero, List.getElem_cons_succ, Act.put, List.setIfInBounds_toArray, List.set_cons_zero, List.set_cons_succ]
  refine' wpAnyH_take (i := 14) rfl (by kernel_rfl) (by kernel_rfl) (by kernel_rfl) (fun _ _ _ h => h) (Or.inl ⟨by rfl, ?_⟩) hHeld ?_
  rotate_left
  · intro W hSw
    skip
    clear hSw
    simp only [List.getElem_toArray, List.getElem_cons_zero, List.getElem_cons_succ]
    go_simp
    all_goals with_reducible rfl
  simp only [List.getElem_toArray, List.getElem_cons_zero, List.getElem_cons_succ, Act.put, List.setIfInBounds_toArray, List.set_cons_zero, List.set_cons_succ]
  refine' wpAnyH_take (i := 15) rfl (by kernel_rfl) (by kernel_rfl) (by kernel_rfl) (fun _ _ _ h => h) (Or.inl ⟨by rfl, ?_⟩) hHeld ?_
  rotate_left
  · intro W hSw
    skip
    clear hSw
    simp only [List.getElem_toArray, List.getElem_cons_zero, List.getElem_cons_succ]
    go_simp
    all_goals with_reducible rfl
  simp only [List.getElem_toArray, List.getElem_cons_zero, List.getElem_cons_succ, Act.put, List.setIfInBounds_toArray, List.set_cons_zero, List.set_cons_succ]
  refine wpAnyH_done (by kernel_rfl) ?_ _
  refine NoPanic.normal ?_
  have e2 := hHeld.cell d2
  have ko9 := hid (ko.out.trans hHeld)
  clear hHeld d0 d1 d2 d3 u0 u1 kbd
  by_cases hz : z2 = 0
  · subst hz
    by_cases hm : z1 ≤ cm
    · have kzz : Hid (rz = true) := hid (by rw [kz.out, decide_eq_true hm]; rfl)
      go_wp2_with fail
      go_ret
      exact ⟨by rw [kzz.out]; rfl, ko9.out⟩
    · have kzz : Hid (rz = false) := hid (by rw [kz.out, decide_eq_false hm]; rfl)
      go_wp2_with fail
      go_ret
      exact ⟨by rw [kzz.out]; rfl, ko9.out⟩
  · have kzz : Hid (rz = false) := hid (by rw [kz.out, decide_eq_false hz]; rfl)
    have hz' : (z2 == 0) = false := by simpa using hz
    clear hz
    go_wp2_with fail
    go_ret
    exact ⟨by rw [kzz.out]; rfl, ko9.out⟩

/-- What is asked of a book and its claims. -/
structure BkH (w : World) (kb : Nat) (gd : Int) (bo : Option Addr) (cap : Nat) (B : Ins) (ao : Option Addr) (cp : Nat) (P : List Cl) : Prop where
  bk : BkC w kb gd bo B.length cap ao cp P
  ins : InsC w bo B
  bl : B.length ≤ 4611686018427387904
  cap : B.length ≤ cap
  off : ∀ l ∈ B, l.length ≤ 4611686018427387904 ∧ ∀ x ∈ l, x.1 < 4294967296 ∧ 0 ≤ x.2 ∧ x.2 ≤ 1099511627776
  pl : P.length ≤ 4611686018427387904
  ris : Ris P
  may : ∀ i (h : i < P.length), 0 ≤ P[i].m ∧ P[i].m ≤ 35184372088832 ∧ 0 ≤ P[i].b ∧ P[i].b ≤ (B.length : Int)
  tabs : Tabs w
theorem BkH.old {w w' : World} {kb : Nat} {gd : Int} {bo : Option Addr} {cap : Nat} {B : Ins} {ao : Option Addr} {cp : Nat} {P : List Cl} (h : BkH w kb gd bo cap B ao cp P) (o : Old w w') : BkH w' kb gd bo cap B ao cp P := ⟨h.bk.old o, h.ins.old o, h.bl, h.cap, h.off, h.pl, h.ris, h.may, h.tabs.old o⟩

set_option maxRecDepth 100000 in
set_option maxHeartbeats 16000000 in
theorem isright_any (kb : Nat) (gd : Int) (bo : Option Addr) (cap : Nat) (B : Ins) (ao : Option Addr) (cp : Nat) (P : List Cl) (c : Cl) (vo : Option Addr) (pc : Nat) (w : World) (h : BkH w kb gd bo cap B ao cp P) (hb : 0 ≤ c.b ∧ c.b ≤ (B.length : Int)) (hf : c.f < 4294967296) (hp : NumsC .i64 w vo c.p) (hpl : c.p.length ≤ 9223372036854775807) :
    Calls Tryd.prog 32 #[.pointer (some ⟨kb, 0, none⟩), clV c vo pc] w fun e w' => e = .returned (.bool (rgtB gd B P c)) ∧ Old w w' := by
  have kp := hid (fun W (o : Old w W) => byprices_any kb gd bo cap B ao cp P c vo pc W (h.bk.old o) (h.ins.old o) (by have := h.bl; omega) h.cap hf (hp.old o) hpl (h.tabs.old o))
  have ko0 := hid (fun W (o : Old w W) => byoffers_any kb gd bo cap B ao cp P c.b.toNat c.f c.m c.p vo pc W (h.bk.old o) (h.ins.old o) h.bl h.off h.pl h.ris (fun i hi => ⟨(h.may i hi).1, (h.may i hi).2.1⟩) (by omega))
  have hcb : ((c.b.toNat : Nat) : Int) = c.b := by omega
  rw [hcb] at ko0
  have kz : Hid (rgtB gd B P c = if c.p.length = 0 then ofrB B P c.b.toNat c.f c.m else prcB gd B c) := hid rfl
  generalize prcB gd B c = zp at *
  generalize ofrB B P c.b.toNat c.f c.m = zo at *
  generalize rgtB gd B P c = rz at *
  unfold clV at *
  clear h hb hf hp hcb
  obtain ⟨cb, cf, cm, cl⟩ := c
  dsimp only at *
  have n5 := heap_new w (.cells #[.int .i64 cb, .int .u32 (cf : Int), .int .i64 cm, .slice vo cl.length pc] 48)
  have d0 := blk_cells (i := 0) (v := .int .i64 cb) n5 rfl
  have d1 := blk_cells (i := 1) (v := .int .u32 (cf : Int)) n5 rfl
  have d2 := blk_cells (i := 2) (v := .int .i64 cm) n5 rfl
  have d3 := blk_cells (i := 3) (v := .slice vo cl.length pc) n5 rfl
  have oA : Old w (w.alloc (.cells #[.int .i64 cb, .int .u32 (cf : Int), .int .i64 cm, .slice vo cl.length pc] 48)) := (Old.refl w).alloc _
  have ko := hid oA
  clear n5 oA
  go_enter Tryd.func32, Tryd.ntmps32
  go_upto_region 1 with fail
  generalize w.alloc (.cells #[.int .i64 cb, .int .u32 (cf : Int), .int .i64 cm, .slice vo cl.length pc] 48) = w1 at *
  generalize w.heap.size = s at *
  by_cases hz : cl.length = 0
  · have hz' : ¬ (cl.length : Int) > 0 := by omega
    rw [if_pos hz] at kz
    clear hz
    go_wp2_with fail
    refine (ko0.out w1 ko.out).mono ?_
    rintro e w2 ⟨rfl, o2⟩
    have ko9 := hid (ko.out.trans o2)
    clear o2 d0 d1 d2 d3
    go_wp2_with fail
    go_ret
    exact ⟨by rw [kz.out]; rfl, ko9.out⟩
  · have hz' : (cl.length : Int) > 0 := by omega
    rw [if_neg hz] at kz
    clear hz
    go_wp2_with fail
    refine (kp.out w1 ko.out).mono ?_
    rintro e w2 ⟨rfl, o2⟩
    have ko9 := hid (ko.out.trans o2)
    clear o2 d0 d1 d2 d3
    go_wp2_with fail
    go_ret
    exact ⟨by rw [kz.out]; rfl, ko9.out⟩
end Go.Proofs.YtpbbnbobmcaoiaaDoor
