/- The least payment of a winner: walked. -/
import Derived.Test.YtgikkbkgmjacmaaDoorJ23
import Derived.Lib.MinMax
import Derived.BigQuiet
namespace Go.Proofs.YtgikkbkgmjacmaaDoor
open Go.RowKit Go.Lib Go.Shelf
attribute [local go_sem] Oper.semAt_some

theorem sum_45 {P : List Int} (hl : P.length ≤ 32) (h : ∀ x ∈ P, 0 ≤ x ∧ x ≤ 1099511627776) : 0 ≤ P.sum ∧ P.sum ≤ 35184372088832 := by
  have := sum_bnd h P.length (Nat.le_refl _)
  rw [List.take_length] at this
  omega

set_option maxRecDepth 100000 in
set_option maxHeartbeats 8000000 in
theorem cleast_any (gd : Int) (bo co po : Option Addr) (cap cc pc : Nat) (B : Ins) (c C P : List Int) (i : Nat) (hi : i < B.length) (w : World) (h : PayC w bo co po B C P) (hb : PayB B C P) (hz : insZ gd B = 0) (hT : Tabs w) :
    Calls Tryd.prog 68 #[.agg (wonA gd (.slice bo B.length cap) c (.slice co C.length cc)), .int .i64 (i : Int), .slice po P.length pc] w fun e w' => e = .returned (.int .i64 (leZ B (allZ gd).1 C P i)) ∧ Old w w' := by
  have kh := hid h
  have kb := hid hb
  have kT := hid hT
  have kz := hid hz
  have kL := hid (fun W (o : Old w W) => lowered_any gd bo co po cap cc pc B c C P W (h.old o) hb)
  have kS := hid (fun W (o : Old w W) => csum_any po pc P W (h.pay.old o) (by have := hb.lenP; have := hb.few; omega) hb.p)
  obtain ⟨A, hA⟩ : ∃ A, wonA gd (.slice bo B.length cap) c (.slice co C.length cc) = A := ⟨_, rfl⟩
  have kAs : Hid ((Tryd.prog.info? 85).map (·.size) = some A.size) := by rw [← hA]; exact wonA_info ..
  rw [hA] at kL ⊢
  obtain ⟨f, hf⟩ : ∃ f, (allZ gd).1 = f := ⟨_, rfl⟩
  rw [hf]
  have o1 : Old w (w.alloc (.cells A 85)) := (Old.refl w).alloc _
  have kb1 := hid (heap_new w (.cells A 85))
  have ko1 := hid o1
  clear h hb hT hz hA o1
  go_enter Tryd.func68, Tryd.ntmps68
  go_upto_region 1 with fail
  refine wp_region_lit ?_
  refine wpList_load_row rfl 85 _ rfl w.heap.size rfl 85 _ (0, 0) _ kb1.out Tryd.underlying85 rfl kAs.out ?_
  simp only [Act.put, List.setIfInBounds_toArray, List.set_cons_zero, List.set_cons_succ]
  go_wp2_with fail
  generalize w.alloc (.cells A 85) = w1 at *
  refine (kL.out w1 ko1.out).mono ?_
  rintro e w2 ⟨v, rfl, hN, o2⟩
  have kI : Hid (insZ gd (lowI B C P) = 0) := lowI_ins kb.out.lenC kb.out.lenP kz.out
  have klt := hid (lowI_lt kb.out.lenC kb.out.lenP kb.out.lt)
  have klen := hid (lowI_len kb.out.lenC kb.out.lenP)
  have kfew := hid kb.out.few
  have hbnd : ∀ l ∈ lowI B C P, l.length ≤ 9223372036854775807 ∧ ∀ x ∈ l, x.1 < 4294967296 := fun l hl => ⟨by have := (ins_all kI.out).2.2.2.1 l hl; omega, klt.out l hl⟩
  obtain ⟨ao, c2, rfl, hC, hV, hc2⟩ := hN.ins hbnd
  have kW := hid (owithout_any gd ao c2 (lowI B C P) (i : Int) w2 hC hV (by have := klen.out; have := kfew.out; omega))
  have kle : Hid (leZ B f C P i = max (best ((lowI B C P).set i []) f - (P.sum - P.getD i 0)) 0) := rfl
  have hwi : Hid (wiE gd (lowI B C P) (i : Int) = 0) := by
    show _ = _
    unfold wiE
    rw [if_neg (by simp [kI.out]), if_pos ⟨by omega, by have := klen.out; omega⟩]
  have kI2 : Hid (insZ gd ((lowI B C P).set i []) = 0) := wo_ins kI.out
  have kb45 := hid (best_45 kI2.out (set_lt klt.out))
  have kck : Hid (ckZ gd ((lowI B C P).set i []) 0 (allZ gd).1 = 0) := by show _ = _; rw [ck_zero]; exact kI2.out
  have kfr : Hid (frZ gd ((lowI B C P).set i []) 0 (allZ gd).1 = best ((lowI B C P).set i []) f) := by
    show _ = _
    unfold frZ
    rw [if_pos kck.out, hf]
    rfl
  rw [hf] at kb45
  have ko2 := hid (ko1.out.trans o2)
  generalize lowI B C P = Q at *
  clear hN hC hV o2 kL hbnd
  go_wp2_with fail
  refine kW.out.mono ?_
  rintro e w3 ⟨o3, h3⟩
  obtain ⟨hw, -⟩ | ⟨-, g, rfl, hg, h3⟩ := h3
  · exact absurd hwi.out hw
  rw [Int.toNat_natCast] at h3
  have ko3 := hid (ko2.out.trans o3)
  have q3 : Old w3 (w3.alloc (.cells #[.int .i64 gd, .slice (some ⟨g, 0, none⟩) Q.length Q.length] 24)) := (Old.refl w3).alloc _
  have x0 := new_cell w3 #[.int .i64 gd, .slice (some ⟨g, 0, none⟩) Q.length Q.length] 24 0 _ rfl
  have x1 := new_cell w3 #[.int .i64 gd, .slice (some ⟨g, 0, none⟩) Q.length Q.length] 24 1 _ rfl
  simp only [List.getElem_toArray, List.getElem_cons_zero, List.getElem_cons_succ] at x0 x1
  have kX := hid (w_any gd (some ⟨g, 0, none⟩) Q.length (Q.set i []) _ (h3 _ (Frm.mono q3 (fun _ _ h => h.elim))) (by simp) (by have := klen.out; have := kfew.out; simp; omega) (kT.out.old (ko3.out.trans q3)))
  rw [kck.out, kfr.out, List.length_set] at kX
  have ko4 := hid (ko3.out.trans q3)
  have kS2 := hid (fun W (o : Old (w3.alloc (.cells #[.int .i64 gd, .slice (some ⟨g, 0, none⟩) Q.length Q.length] 24)) W) => kS.out W (ko4.out.trans o))
  clear h3 o3 q3 kW
  go_wp2_with fail
  generalize w3.alloc (.cells #[.int .i64 gd, .slice (some ⟨g, 0, none⟩) Q.length Q.length] 24) = w4 at *
  refine kX.out.mono ?_
  rintro e w5 ⟨rfl, o5⟩
  have ko5 := hid (ko4.out.trans o5)
  have hiP : i < P.length := by have := kb.out.lenP; omega
  have hiP' : (i : Int) < (P.length : Int) := by omega
  obtain ⟨pg, poo, rfl, pp⟩ := kh.out.pay i hiP
  have y1 := ko5.out.cell pp
  have hPi := kb.out.p _ (List.getElem_mem hiP)
  have hS := sum_45 (by have := kb.out.lenP; have := kb.out.few; omega) kb.out.p
  have hgi : P.getD i 0 = P[i] := by rw [List.getD_eq_getElem?_getD, List.getElem?_eq_getElem hiP]; rfl
  rw [hgi] at kle
  have hb45 := kb45.out
  have kS3 := hid (fun W (o : Old w5 W) => kS.out W (ko5.out.trans o))
  generalize best (Q.set i []) f = bz at *
  generalize P[i] = xp at *
  generalize P.sum = sp at *
  clear pp hgi kX o5 x0 x1
  go_wp2_with fail
  go_quiet (exact Calls.quiet_of_same (kS3.out _ ((Old.refl w5).drewN _)))
  have h34 : -9223372036854775808 ≤ bz - (sp - xp) ∧ bz - (sp - xp) ≤ 9223372036854775807 := by omega
  go_wp2_with fail
  go_ret
  exact ⟨by rw [kle.out]; rfl, ko5.out.drewN _⟩
end Go.Proofs.YtgikkbkgmjacmaaDoor
