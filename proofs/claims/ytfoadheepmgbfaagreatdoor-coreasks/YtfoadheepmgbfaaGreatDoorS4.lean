/- Can a part be worth so much by an option: walked. The lists of an instance from the last on; lists copied; numbers repeated. -/
import Derived.Test.YtfoadheepmgbfaaGreatDoorS3
import Derived.Laws.AppendOwnNone
namespace Go.Proofs.YtfoadheepmgbfaaGreatDoor
open Go.RowKit Go.Lib Go.Shelf
attribute [local go_sem] Oper.semAt_some



variable {B : Ins} {m : Nat} {P : List Int} {sb mb : Nat} {bo : Option Addr} {cap cb cc : Nat}

def reB (P : List Int) (m : Nat) (R : Ins) (o : Opt) (z : Int) : Bool := decide (o.2.1 + bnZ P (2 ^ m - 1) R o.2.2 ≥ z) && decide (o.2.1 + best R o.2.2 ≥ z)

set_option maxRecDepth 100000 in
set_option maxHeartbeats 8000000 in
theorem reaches_any (ok : OkB B m P) (k : Nat) (x : Opt) (z : Int) (hk : k < B.length) (hf : x.2.2 < 2 ^ m) (hx : 0 ≤ x.2.1 ∧ x.2.1 ≤ 1099511627776) (W : World) (h : Sr B m P sb mb bo cap cb cc W) (hm : KM B W mb) :
    Calls Tryz.prog 75 #[.pointer (some ⟨sb, 0, none⟩), optV k x, .int .i64 z] W fun e Y => e = .returned (.bool (reB P m (B.drop (k + 1)) x z)) ∧ Frm (fun q => q = mb) W Y ∧ KM B Y mb := by
  obtain ⟨xn, xc, xf⟩ := x
  dsimp only at hf hx
  have hkl := ok.len
  have hall := ok.all
  have hk1 : ((k + 1 : Nat) : Int) = (k : Int) + 1 := by omega
  have o1 : Old W (W.alloc (.cells #[.int .i64 xn, .int .i64 xc, .int .i64 ((k : Int) + 1), .int .u32 (xf : Int)] 146)) := (Old.refl W).alloc _
  have b1 := heap_new W (.cells #[.int .i64 xn, .int .i64 xc, .int .i64 ((k : Int) + 1), .int .u32 (xf : Int)] 146)
  have kBo := hid (fun V o => sbound_any (k + 1) xf V ok (h.old (o1.trans o)) (by omega) hf)
  have kW := hid (fun V o hm => sworth_any ok (k + 1) xf V (by omega) hf (h.old (o1.trans o)) hm)
  have hbn := bn_bnd ok.pr (ok.drop (k + 1)) (by rw [List.length_drop]; omega) xf
  have hbb := best_bnd (all := 2 ^ m - 1) (ok.drop (k + 1)) (f := xf) (by omega) (sub_of_lt hf)
  have hbp := best_pos (B.drop (k + 1)) xf
  have hdl : ((B.drop (k + 1)).length : Int) ≤ 32 := by rw [List.length_drop]; omega
  unfold partV WoP at kW
  unfold partV at kBo
  rw [hk1] at kW kBo
  have kre : Hid (reB P m (B.drop (k + 1)) (xn, xc, xf) z = (decide (xc + bnZ P (2 ^ m - 1) (B.drop (k + 1)) xf ≥ z) && decide (xc + best (B.drop (k + 1)) xf ≥ z))) := rfl
  generalize reB P m (B.drop (k + 1)) (xn, xc, xf) z = rr at *
  generalize bnZ P (2 ^ m - 1) (B.drop (k + 1)) xf = b2 at *
  generalize best (B.drop (k + 1)) xf = bx at *
  have hwr : IntKind.i64.wrap (xc + b2) = xc + b2 := by rw [wrap_is]; exact wrap_id (by omega)
  have hwr2 : IntKind.i64.wrap (xc + bx) = xc + bx := by rw [wrap_is]; exact wrap_id (by omega)
  have km := hid hm
  have ko1 := hid o1
  have kmb : Hid (mb < W.heap.size) := hm.lt
  unfold optV
  clear h hm
  go_enter Tryz.func75, Tryz.ntmps75
  go_upto_region 1 with fail
  generalize W.alloc (.cells #[.int .i64 xn, .int .i64 xc, .int .i64 ((k : Int) + 1), .int .u32 (xf : Int)] 146) = w1 at *
  obtain ⟨s, hs⟩ : ∃ s, W.heap.size = s := ⟨_, rfl⟩
  rw [hs] at b1 kmb ⊢
  have c1 := blk_cells (i := 1) b1 rfl
  have c2 := blk_cells (i := 2) b1 rfl
  have c3 := blk_cells (i := 3) b1 rfl
  simp only [qqa, qqb, qqc] at c1 c2 c3
  refine wp_region_noPanic ?_
  refine wp_region_held_drew (S := fun X => X.cell? ⟨s, 1, none⟩ = some (.int .i64 xc) ∧ X.cell? ⟨s, 2, none⟩ = some (.int .i64 ((k : Int) + 1)) ∧ X.cell? ⟨s, 3, none⟩ = some (.int .u32 (xf : Int))) (by kernel_rfl) ⟨((Old.refl w1).drewN 1).cell c1, ((Old.refl w1).drewN 1).cell c2, ((Old.refl w1).drewN 1).cell c3⟩ (fun hHeld => ?_)
  have koV : Hid (Old w1 w1.drew) := (Old.refl w1).drewN 1
  generalize w1.drew = V at *
  clear c1 c2 c3 b1 o1 hs
  refine' qtk (i := 0) rfl (fun _ _ _ h => h) (Or.inl ⟨by rfl, ?_⟩) hHeld ?_
  rotate_left
  · intro W hSw
    obtain ⟨r1, r2, r3⟩ := hSw
    simp only [qqa, qqb]
    go_simp
    all_goals with_reducible rfl
  simp only [qqa, qqb, Act.put, qqd, qqe, qqf]
  refine' qtk (i := 1) rfl (fun _ _ _ h => h) (Or.inl ⟨by rfl, ?_⟩) hHeld ?_
  rotate_left
  · intro W hSw
    obtain ⟨r1, r2, r3⟩ := hSw
    simp only [qqa, qqb, qqc]
    go_simp
    all_goals with_reducible rfl
  simp only [qqa, qqb, qqc, Act.put, qqd, qqe, qqf]
  refine' qtk (i := 2) rfl (fun _ _ _ h => h) (Or.inl ⟨by rfl, ?_⟩) hHeld ?_
  rotate_left
  · intro W hSw
    obtain ⟨r1, r2, r3⟩ := hSw
    simp only [qqa, qqb, qqc]
    go_simp
    all_goals with_reducible rfl
  simp only [qqa, qqb, qqc, Act.put, qqd, qqe, qqf]
  refine' qtk (i := 3) rfl (fun _ _ _ h => h) (Or.inl ⟨by rfl, ?_⟩) hHeld ?_
  rotate_left
  · intro W hSw
    obtain ⟨r1, r2, r3⟩ := hSw
    simp only [qqa, qqb, qqc]
    go_simp
    all_goals with_reducible rfl
  simp only [qqa, qqb, qqc, Act.put, qqd, qqe, qqf]
  refine' qtk (i := 4) rfl (fun _ _ _ h => h) (Or.inl ⟨by rfl, ?_⟩) hHeld ?_
  rotate_left
  · intro W hSw
    obtain ⟨r1, r2, r3⟩ := hSw
    simp only [qqa, qqb, qqc]
    go_simp
    all_goals with_reducible rfl
  simp only [qqa, qqb, qqc, Act.put, qqd, qqe, qqf]
  refine' qtk (i := 7) rfl (fun _ _ _ h => h) (Or.inl ⟨by rfl, ?_⟩) hHeld ?_
  rotate_left
  · intro W hSw
    obtain ⟨r1, r2, r3⟩ := hSw
    simp only [qqa, qqb, qqc]
    go_simp
    all_goals with_reducible rfl
  simp only [qqa, qqb, qqc, Act.put, qqd, qqe, qqf]
  refine wpAnyH_ready (rs := [5]) (by kernel_rfl) (by simp) ?_
  refine AllReadyH.cons (o := _) rfl (fun K hK => ?_) AllReadyH.nil
  simp only [qqa, qqb, qqc]
  go_simp
  refine (kBo.out V koV.out).mono ?_
  rintro e V2 ⟨rfl, o2⟩
  have koV2 := hid (koV.out.trans o2)
  refine hK.out _ _ (⟨o2.cell hHeld.1, o2.cell hHeld.2.1, o2.cell hHeld.2.2⟩) (fun hHeld2 => ?_)
  clear hHeld hK
  have hHeld := hHeld2
  clear hHeld2
  clear o2
  try simp only [Act.put, qqd, qqe, qqf]
  refine' qtk (i := 6) rfl (fun _ _ _ h => h) (Or.inl ⟨by rfl, ?_⟩) hHeld ?_
  rotate_left
  · intro W hSw
    obtain ⟨r1, r2, r3⟩ := hSw
    simp only [qqa, qqb, qqc]
    go_simp
    all_goals with_reducible rfl
  simp only [qqa, qqb, qqc, Act.put, qqd, qqe, qqf]
  by_cases hge : z ≤ xc + b2
  · have hgd : decide (z ≤ xc + b2) = true := decide_eq_true hge
    refine' qtk (i := 8) rfl (fun _ _ _ h => h) (Or.inl ⟨by rfl, ?_⟩) hHeld ?_
    rotate_left
    · intro W hSw
      obtain ⟨r1, r2, r3⟩ := hSw
      simp only [qqa, qqb, qqc]
      go_simp
      all_goals with_reducible rfl
    simp only [qqa, qqb, qqc, Act.put, qqd, qqe, qqf]
    refine' qtk (i := 9) rfl (fun _ _ _ h => h) (Or.inl ⟨by rfl, ?_⟩) hHeld ?_
    rotate_left
    · intro W hSw
      obtain ⟨r1, r2, r3⟩ := hSw
      simp only [qqa, qqb, qqc]
      go_simp
      all_goals with_reducible rfl
    simp only [qqa, qqb, qqc, Act.put, qqd, qqe, qqf]
    refine' qtk (i := 10) rfl (fun _ _ _ h => h) (Or.inl ⟨by rfl, ?_⟩) hHeld ?_
    rotate_left
    · intro W hSw
      obtain ⟨r1, r2, r3⟩ := hSw
      simp only [qqa, qqb, qqc]
      go_simp
      all_goals with_reducible rfl
    simp only [qqa, qqb, qqc, Act.put, qqd, qqe, qqf]
    refine' qtk (i := 11) rfl (fun _ _ _ h => h) (Or.inl ⟨by rfl, ?_⟩) hHeld ?_
    rotate_left
    · intro W hSw
      obtain ⟨r1, r2, r3⟩ := hSw
      simp only [qqa, qqb, qqc]
      go_simp
      all_goals with_reducible rfl
    simp only [qqa, qqb, qqc, Act.put, qqd, qqe, qqf]
    refine' qtk (i := 12) rfl (fun _ _ _ h => h) (Or.inl ⟨by rfl, ?_⟩) hHeld ?_
    rotate_left
    · intro W hSw
      obtain ⟨r1, r2, r3⟩ := hSw
      simp only [qqa, qqb, qqc]
      go_simp
      all_goals with_reducible rfl
    simp only [qqa, qqb, qqc, Act.put, qqd, qqe, qqf]
    refine' qtk (i := 13) rfl (fun _ _ _ h => h) (Or.inl ⟨by rfl, ?_⟩) hHeld ?_
    rotate_left
    · intro W hSw
      obtain ⟨r1, r2, r3⟩ := hSw
      simp only [qqa, qqb, qqc]
      go_simp
      all_goals with_reducible rfl
    simp only [qqa, qqb, qqc, Act.put, qqd, qqe, qqf]
    refine' qtk (i := 14) rfl (fun _ _ _ h => h) (Or.inl ⟨by rfl, ?_⟩) hHeld ?_
    rotate_left
    · intro W hSw
      obtain ⟨r1, r2, r3⟩ := hSw
      simp only [qqa, qqb, qqc]
      go_simp
      all_goals with_reducible rfl
    simp only [qqa, qqb, qqc, Act.put, qqd, qqe, qqf]
    refine' qtk (i := 17) rfl (fun _ _ _ h => h) (Or.inl ⟨by rfl, ?_⟩) hHeld ?_
    rotate_left
    · intro W hSw
      obtain ⟨r1, r2, r3⟩ := hSw
      simp only [qqa, qqb, qqc]
      go_simp
      all_goals with_reducible rfl
    simp only [qqa, qqb, qqc, Act.put, qqd, qqe, qqf]
    have km2 := hid ((km.out.kept ko1.out (fun h => h)).kept koV2.out (fun h => h))
    refine wpAnyH_ready (rs := [15]) (by kernel_rfl) (by simp) ?_
    refine AllReadyH.cons (o := _) rfl (fun K hK => ?_) AllReadyH.nil
    simp only [qqa, qqb, qqc]
    go_simp
    refine (kW.out V2 koV2.out km2.out).mono ?_
    rintro e V3 ⟨rfl, f3, m3⟩
    have kf3 := hid f3
    have km3 := hid m3
    have hsm : s ≠ mb := by have := kmb.out; omega
    refine hK.out _ _ (⟨frm_cell f3 hHeld.1 hsm, frm_cell f3 hHeld.2.1 hsm, frm_cell f3 hHeld.2.2 hsm⟩) (fun hHeld2 => ?_)
    clear hHeld hK
    have hHeld := hHeld2
    clear hHeld2
    clear f3 m3
    try simp only [Act.put, qqd, qqe, qqf]
    obtain ⟨tb, htb⟩ : ∃ tb, decide (z ≤ xc + bx) = tb := ⟨_, rfl⟩
    have ktb : Hid (rr = tb) := by show _ = _; rw [kre.out, ← htb]; simp only [ge_iff_le, hgd, Bool.true_and]
    have htb2 : decide (xc + bx ≥ z) = tb := htb
    refine' qtk (i := 16) rfl (fun _ _ _ h => h) (Or.inl ⟨by rfl, ?_⟩) hHeld ?_
    rotate_left
    · intro W hSw
      obtain ⟨r1, r2, r3⟩ := hSw
      simp only [qqa, qqb, qqc]
      go_simp
      all_goals with_reducible rfl
    simp only [qqa, qqb, qqc, Act.put, qqd, qqe, qqf]
    refine' qtk (i := 18) rfl (fun _ _ _ h => h) (Or.inl ⟨by rfl, ?_⟩) hHeld ?_
    rotate_left
    · intro W hSw
      obtain ⟨r1, r2, r3⟩ := hSw
      simp only [qqa, qqb, qqc]
      go_simp
      all_goals with_reducible rfl
    simp only [qqa, qqb, qqc, Act.put, qqd, qqe, qqf]
    refine' qtk (i := 19) rfl (fun _ _ _ h => h) (Or.inl ⟨by rfl, ?_⟩) hHeld ?_
    rotate_left
    · intro W hSw
      obtain ⟨r1, r2, r3⟩ := hSw
      simp only [qqa, qqb, qqc]
      go_simp
      all_goals with_reducible rfl
    simp only [qqa, qqb, qqc, Act.put, qqd, qqe, qqf]
    refine' qtk (i := 20) rfl (fun _ _ _ h => h) (Or.inl ⟨by rfl, ?_⟩) hHeld ?_
    rotate_left
    · intro W hSw
      obtain ⟨r1, r2, r3⟩ := hSw
      simp only [qqa, qqb, qqc]
      go_simp
      all_goals with_reducible rfl
    simp only [qqa, qqb, qqc, Act.put, qqd, qqe, qqf]
    refine wpAnyH_done (by kernel_rfl) ?_ _
    refine NoPanic.normal ?_
    clear hHeld
    go_wp2_with fail
    go_ret
    exact ⟨by rw [ktb.out]; rfl, Frm.trans (Frm.mono (ko1.out.trans koV2.out) (fun _ _ h => h.elim)) kf3.out (fun _ _ e => e), km3.out⟩
  · have hgd : decide (z ≤ xc + b2) = false := decide_eq_false hge
    have ktb : Hid (rr = false) := by show _ = _; rw [kre.out]; simp only [ge_iff_le, hgd, Bool.false_and]
    refine' qtk (i := 8) rfl (fun _ _ _ h => h) (Or.inl ⟨by rfl, ?_⟩) hHeld ?_
    rotate_left
    · intro W hSw
      obtain ⟨r1, r2, r3⟩ := hSw
      simp only [qqa, qqb, qqc]
      go_simp
      all_goals with_reducible rfl
    simp only [qqa, qqb, qqc, Act.put, qqd, qqe, qqf]
    refine' qtk (i := 9) rfl (fun _ _ _ h => h) (Or.inl ⟨by rfl, ?_⟩) hHeld ?_
    rotate_left
    · intro W hSw
      obtain ⟨r1, r2, r3⟩ := hSw
      simp only [qqa, qqb, qqc]
      go_simp
      all_goals with_reducible rfl
    simp only [qqa, qqb, qqc, Act.put, qqd, qqe, qqf]
    refine' qtk (i := 10) rfl (fun _ _ _ h => h) (Or.inr ⟨by rfl, rfl⟩) hHeld ?_
    simp only [qqa, qqb, qqc, Act.put, qqd, qqe, qqf]
    refine' qtk (i := 11) rfl (fun _ _ _ h => h) (Or.inr ⟨by rfl, rfl⟩) hHeld ?_
    simp only [qqa, qqb, qqc, Act.put, qqd, qqe, qqf]
    refine' qtk (i := 12) rfl (fun _ _ _ h => h) (Or.inr ⟨by rfl, rfl⟩) hHeld ?_
    simp only [qqa, qqb, qqc, Act.put, qqd, qqe, qqf]
    refine' qtk (i := 13) rfl (fun _ _ _ h => h) (Or.inr ⟨by rfl, rfl⟩) hHeld ?_
    simp only [qqa, qqb, qqc, Act.put, qqd, qqe, qqf]
    refine' qtk (i := 14) rfl (fun _ _ _ h => h) (Or.inr ⟨by rfl, rfl⟩) hHeld ?_
    simp only [qqa, qqb, qqc, Act.put, qqd, qqe, qqf]
    refine' qtk (i := 15) rfl (fun _ _ _ h => h) (Or.inr ⟨by rfl, rfl⟩) hHeld ?_
    simp only [qqa, qqb, qqc, Act.put, qqd, qqe, qqf]
    refine' qtk (i := 16) rfl (fun _ _ _ h => h) (Or.inr ⟨by rfl, rfl⟩) hHeld ?_
    simp only [qqa, qqb, qqc, Act.put, qqd, qqe, qqf]
    refine' qtk (i := 17) rfl (fun _ _ _ h => h) (Or.inr ⟨by rfl, rfl⟩) hHeld ?_
    simp only [qqa, qqb, qqc, Act.put, qqd, qqe, qqf]
    refine' qtk (i := 18) rfl (fun _ _ _ h => h) (Or.inr ⟨by rfl, rfl⟩) hHeld ?_
    simp only [qqa, qqb, qqc, Act.put, qqd, qqe, qqf]
    refine' qtk (i := 19) rfl (fun _ _ _ h => h) (Or.inl ⟨by rfl, ?_⟩) hHeld ?_
    rotate_left
    · intro W hSw
      obtain ⟨r1, r2, r3⟩ := hSw
      simp only [qqa, qqb, qqc]
      go_simp
      all_goals with_reducible rfl
    simp only [qqa, qqb, qqc, Act.put, qqd, qqe, qqf]
    refine' qtk (i := 20) rfl (fun _ _ _ h => h) (Or.inl ⟨by rfl, ?_⟩) hHeld ?_
    rotate_left
    · intro W hSw
      obtain ⟨r1, r2, r3⟩ := hSw
      simp only [qqa, qqb, qqc]
      go_simp
      all_goals with_reducible rfl
    simp only [qqa, qqb, qqc, Act.put, qqd, qqe, qqf]
    refine wpAnyH_done (by kernel_rfl) ?_ _
    refine NoPanic.normal ?_
    clear hHeld
    go_wp2_with fail
    go_ret
    exact ⟨by rw [ktb.out]; rfl, Frm.mono (ko1.out.trans koV2.out) (fun _ _ h => h.elim), (km.out.kept ko1.out (fun h => h)).kept koV2.out (fun h => h)⟩
end Go.Proofs.YtfoadheepmgbfaaGreatDoor
