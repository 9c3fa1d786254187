/- CallMost: walked. -/
import Derived.Test.YtdeakckdnkdalaaP13
import Derived.Test.YtdeakckdnkdalaaM3
import Derived.BigQuiet
import Derived.Deep.QuietTactic
namespace Go.Proofs.Ytdeakckdnkdalaa
open Go.RowKit


/-- A pair: whose, from whom, how many. -/
abbrev Pr := Int × Int × Int
def PrC (w : World) (po : Option Addr) (P : List Pr) : Prop := ∀ i (h : i < P.length), ∃ g, ∃ o : Nat, po = some ⟨g, o, none⟩ ∧ w.cell? ⟨g, o + i * 3, none⟩ = some (.int .i64 P[i].1) ∧ w.cell? ⟨g, o + i * 3 + 1, none⟩ = some (.int .i64 P[i].2.1) ∧ w.cell? ⟨g, o + i * 3 + 2, none⟩ = some (.int .i64 P[i].2.2)

/-- Where CallMost stands. -/
structure MsI (w : World) (bb sb : Nat) (L M : List Wt) (β σ : Nat → Nat) (Y : World) : Prop where
  b : Own .i64 3 Y bb (dl L.length β)
  s : Own .i64 3 Y sb (dl M.length σ)
  old : Old w Y
  o : w.heap.size ≤ bb ∧ w.heap.size ≤ sb ∧ bb ≠ sb
theorem MsI.olds {w : World} {bb sb : Nat} {L M : List Wt} {β σ : Nat → Nat} {X Y : World} (h : MsI w bb sb L M β σ X) (o : Old X Y) : MsI w bb sb L M β σ Y := ⟨h.b.kept o (fun h => h), h.s.kept o (fun h => h), h.old.trans o, h.o⟩
theorem MsI.setB {w : World} {bb sb : Nat} {L M : List Wt} {β σ : Nat → Nat} {X : World} (h : MsI w bb sb L M β σ X) (i v : Nat) : MsI w bb sb L M (upN β i v) σ (X.setCell ⟨bb, i, none⟩ (.int .i64 (v : Int))) := by
  have fr := frm_set X bb i (.int .i64 (v : Int))
  have := h.o
  exact ⟨by rw [← dl_up]; exact h.b.set i _, h.s.kept fr (by omega), Frm.trans h.old fr (fun k hk e => by omega), h.o⟩
theorem MsI.setS {w : World} {bb sb : Nat} {L M : List Wt} {β σ : Nat → Nat} {X : World} (h : MsI w bb sb L M β σ X) (i v : Nat) : MsI w bb sb L M β (upN σ i v) (X.setCell ⟨sb, i, none⟩ (.int .i64 (v : Int))) := by
  have fr := frm_set X sb i (.int .i64 (v : Int))
  have := h.o
  exact ⟨h.b.kept fr (by omega), by rw [← dl_up]; exact h.s.set i _, Frm.trans h.old fr (fun k hk e => by omega), h.o⟩
theorem two_at (w : World) (a b : Obj) : ((w.alloc a).alloc b).drew.heap[w.heap.size]? = some a ∧ ((w.alloc a).alloc b).drew.heap[w.heap.size + 1]? = some b ∧ Old w ((w.alloc a).alloc b).drew := by
  have e1 : (w.alloc a).heap.size = w.heap.size + 1 := alloc_size _ _
  refine ⟨?_, ?_, (((Old.refl w).alloc _).alloc _).drewN 1⟩
  · show ((w.alloc a).alloc b).heap[w.heap.size]? = some a
    rw [Below.heap_alloc _ _ _ (by omega)]
    exact heap_new w a
  · show ((w.alloc a).alloc b).heap[w.heap.size + 1]? = some b
    rw [← e1]
    exact heap_new _ b

set_option maxRecDepth 100000 in
set_option maxHeartbeats 16000000 in
theorem most_walk (ao bo po : Option Addr) (ca cb cp : Nat) (L M : List Wt) (P : List Pr) (w : World) (hL : WC w ao L) (hM : WC w bo M) (hP : PrC w po P) (h1 : L.length ≤ 9223372036854775807) (h2 : M.length ≤ 9223372036854775807) (h3 : P.length ≤ 9223372036854775807) (hca : L.length ≤ ca) :
    Calls Try.prog 6 #[.slice ao L.length ca, .slice bo M.length cb, .slice po P.length cp] w fun e w' => e = .returned (.bool true) ∧ Old w w' := by
  have kK := hid (known_any w)
  have kL := hid hL
  have kM := hid hM
  have kP := hid hP
  have kN := hid num_any
  have kG := hid (fun w hL hM => gains_any ao bo ca cb L M w hL hM h1 h2)
  clear hL hM hP
  by_cases hc : chZ L M = 0
  · have kga : Hid (gaZ L M = gnF L M (fls L M)) := if_pos hc
    have kct := hid (fun n => chZ_take hc n)
    obtain ⟨oL, oM⟩ := chZ_ok hc
    have kO : Hid (OkW L ∧ OkW M) := ⟨oL, oM⟩
    have hfL := oL.few
    have hfM := oM.few
    rw [hc] at kG
    clear oL oM hc
    by_cases hbig : L.length > 300 ∨ M.length > 300
    · generalize gaZ L M = gz at *
      by_cases hb1 : L.length > 300
      · have hb1' : (L.length : Int) > 300 := by omega
        go_enter Try.func6, Try.ntmps6
        go_wp2_with fail
        refine kK.out.mono ?_
        rintro e w2 ⟨rfl, o2⟩
        have k2 := hid (kG.out w2 (kL.out.old o2) (kM.out.old o2))
        have ko := hid o2
        clear o2 kK
        go_wp2_with fail
        refine k2.out.mono ?_
        rintro e w3 ⟨rfl, o3⟩
        have ko := hid (ko.out.trans o3)
        clear o3 k2
        go_wp2_with (go_at_call 17; refine (kN.out _ _).mono ?_; rintro e w' ⟨rfl, e2⟩; rw [e2]; clear e2)
        go_ret
        exact ⟨rfl, ko.out⟩
      · have hb1' : ¬ (L.length : Int) > 300 := by omega
        have hb2' : (M.length : Int) > 300 := by omega
        go_enter Try.func6, Try.ntmps6
        go_wp2_with fail
        refine kK.out.mono ?_
        rintro e w2 ⟨rfl, o2⟩
        have k2 := hid (kG.out w2 (kL.out.old o2) (kM.out.old o2))
        have ko := hid o2
        clear o2 kK
        go_wp2_with fail
        refine k2.out.mono ?_
        rintro e w3 ⟨rfl, o3⟩
        have ko := hid (ko.out.trans o3)
        clear o3 k2
        go_wp2_with (go_at_call 17; refine (kN.out _ _).mono ?_; rintro e w' ⟨rfl, e2⟩; rw [e2]; clear e2)
        go_ret
        exact ⟨rfl, ko.out⟩
    · rw [not_or] at hbig
      have hb1' : ¬ (L.length : Int) > 300 := by omega
      have hb2' : ¬ (M.length : Int) > 300 := by omega
      have hmL := make_i L.length (by omega)
      have hmM := make_i M.length (by omega)
      obtain ⟨gz, hgz⟩ : ∃ gz, gaZ L M = gz := ⟨_, rfl⟩
      rw [hgz] at kG kga
      clear hgz
      go_enter Try.func6, Try.ntmps6
      go_wp2_with fail
      refine kK.out.mono ?_
      rintro e w2 ⟨rfl, o2⟩
      have k2 := hid (kG.out w2 (kL.out.old o2) (kM.out.old o2))
      have ko2 := hid o2
      clear o2 kK
      go_wp2_with fail
      refine k2.out.mono ?_
      rintro e w3 ⟨rfl, o3⟩
      have ko3 := hid (ko2.out.trans o3)
      clear o3 k2 ko2
      go_wp2_with (go_at_call 17; refine (kN.out _ _).mono ?_; rintro e w' ⟨rfl, e2⟩; rw [e2]; clear e2)
      go_cut [9, 10] from 45 to 50 (fun t u wx => ∃ bb sb : Nat, t = .slice (some ⟨bb, 0, none⟩) L.length L.length ∧ u = .slice (some ⟨sb, 0, none⟩) M.length M.length ∧ Hid (MsI w bb sb L M (fun _ => 0) (fun _ => 0) wx))
      case first =>
        go_region
        · go_wp2_with fail
          go_meet
          case rel => exact ⟨w3.heap.size, w3.heap.size + 1, rfl, rfl, ⟨own_zero (two_at w3 _ _).1, own_zero (two_at w3 _ _).2.1, ko3.out.trans (two_at w3 _ _).2.2, by have := ko3.out.size; omega⟩⟩
        · go_wp2_with fail
          go_meet
          case rel => exact ⟨w3.heap.size + 1, w3.heap.size, rfl, rfl, ⟨own_zero (two_at w3 _ _).2.1, own_zero (two_at w3 _ _).1, ko3.out.trans (two_at w3 _ _).2.2, by have := ko3.out.size; omega⟩⟩
      case rest =>
        obtain ⟨bb, sb, rfl, rfl, hI0⟩ := hcut
        clear hmL hmM ko3
        go_wp2_with fail
        go_loopw [11, 12, 13, 14] (fun t11 t12 _ _ wr => ∃ (k : Nat) (z : Int), k ≤ P.length ∧ t11 = .int .i64 z ∧ t12 = .int .i64 (k : Int) ∧ Hid (∃ β σ, MsI w bb sb L M β σ wr ∧ MsM L M β σ z)) (fun _ t12 _ _ _ => P.length - (intOf t12).toNat)
        case atStart => exact ⟨0, 0, Nat.zero_le _, rfl, rfl, ⟨_, _, hI0.out, MsM.start L M⟩⟩
        case round =>
          clear hI0
          obtain ⟨k, z, hk, rfl, rfl, hI⟩ := hrel
          by_cases hlt : k < P.length
          · have hlt' : (k : Int) < (P.length : Int) := by omega
            obtain ⟨β, σ, hS, hMm⟩ := hI.out
            obtain ⟨gp, op, rfl, p0, p1, p2⟩ := kP.out k hlt
            have p0 := hS.old.cell p0
            have p1 := hS.old.cell p1
            have p2 := hS.old.cell p2
            generalize P[k] = x at p0 p1 p2
            obtain ⟨xb, xs, xn⟩ := x
            dsimp only at p0 p1 p2
            have oA : Old wr (wr.alloc (.cells #[.int .i64 xb, .int .i64 xs, .int .i64 xn] 61)) := (Old.refl wr).alloc _
            have q0 := new_cell wr #[.int .i64 xb, .int .i64 xs, .int .i64 xn] 61 0 (.int .i64 xb) rfl
            have q1' := new_cell wr #[.int .i64 xb, .int .i64 xs, .int .i64 xn] 61 1 (.int .i64 xs) rfl
            have q2 := new_cell wr #[.int .i64 xb, .int .i64 xs, .int .i64 xn] 61 2 (.int .i64 xn) rfl
            have hS1 := hid (hS.olds oA)
            have hbp : bb < wr.heap.size ∧ sb < wr.heap.size := ⟨hS.b.lt, hS.s.lt⟩
            have hbo := hS.o
            have kMm := hid hMm
            have hI1 : Hid (∃ β σ, MsI w bb sb L M β σ (wr.alloc (.cells #[.int .i64 xb, .int .i64 xs, .int .i64 xn] 61)) ∧ MsM L M β σ z) := ⟨β, σ, hS.olds oA, hMm⟩
            clear hI hS hMm oA
            by_cases a1 : xb < 0
            · go_wp2_with fail
              go_roundw
              case rel => exact ⟨k + 1, z, by omega, rfl, by go_num, hI1⟩
              case measure => simp [intOf]; omega
            · by_cases a2 : xb ≥ (L.length : Int)
              · go_wp2_with fail
                go_roundw
                case rel => exact ⟨k + 1, z, by omega, rfl, by go_num, hI1⟩
                case measure => simp [intOf]; omega
              · by_cases a3 : xs < 0
                · go_wp2_with fail
                  go_roundw
                  case rel => exact ⟨k + 1, z, by omega, rfl, by go_num, hI1⟩
                  case measure => simp [intOf]; omega
                · by_cases a4 : xs ≥ (M.length : Int)
                  · go_wp2_with fail
                    go_roundw
                    case rel => exact ⟨k + 1, z, by omega, rfl, by go_num, hI1⟩
                    case measure => simp [intOf]; omega
                  · obtain ⟨i, rfl⟩ : ∃ i : Nat, xb = (i : Int) := ⟨xb.toNat, by omega⟩
                    obtain ⟨j, rfl⟩ : ∃ j : Nat, xs = (j : Int) := ⟨xs.toNat, by omega⟩
                    have hi : i < L.length := by omega
                    have hj : j < M.length := by omega
                    have hi' : (i : Int) < (L.length : Int) := by omega
                    have hj' : (j : Int) < (M.length : Int) := by omega
                    clear hI1
                    go_upto_region 13 with fail
                    generalize wr.alloc (.cells #[.int .i64 (i : Int), .int .i64 (j : Int), .int .i64 xn] 61) = W1 at *
                    generalize wr.heap.size = pb at *
                    clear p0 p1 p2
                    obtain ⟨ga, oa, rfl, d1, d2⟩ := kL.out i hi
                    obtain ⟨gb, ob, rfl, d3, d4⟩ := kM.out j hj
                    have hga := World.block_lt_of_cell? w _ d1
                    have hgb := World.block_lt_of_cell? w _ d3
                    dsimp only at hga hgb
                    rw [← cW_at hi] at d1
                    rw [← cW_at hj] at d3
                    rw [kO.out.1.cnt hi] at d2
                    rw [kO.out.2.cnt hj] at d4
                    have d1 := hS1.out.old.cell d1
                    have d2 := hS1.out.old.cell d2
                    have d3 := hS1.out.old.cell d3
                    have d4 := hS1.out.old.cell d4
                    have b0 := hS1.out.b.cell (i := i) (by rw [dl_len]; exact hi)
                    rw [dl_at hi] at b0
                    have s0 := hS1.out.s.cell (i := j) (by rw [dl_len]; exact hj)
                    rw [dl_at hj] at s0
                    have okx := kO.out.1.ok i hi
                    have oky := kO.out.2.ok j hj
                    have hbk := kMm.out.b i hi
                    have hsk := kMm.out.s j hj
                    have kst := hid (fun x h1 h2 => kMm.out.next (x := x) hi hj h1 h2)
                    have kzb := hid (fun z' β' σ' (h : MsM L M β' σ' z') => h.bnd kO.out.1 kO.out.2)
                    have hzb := kMm.out.bnd kO.out.1 kO.out.2
                    obtain ⟨cx, hcx⟩ : ∃ cx, cW L i = cx := ⟨_, rfl⟩
                    obtain ⟨cy, hcy⟩ : ∃ cy, cW M j = cy := ⟨_, rfl⟩
                    obtain ⟨kx, hkx⟩ : ∃ kx, kW L i = kx := ⟨_, rfl⟩
                    obtain ⟨ky, hky⟩ : ∃ ky, kW M j = ky := ⟨_, rfl⟩
                    obtain ⟨bi, hbi⟩ : ∃ bi, β i = bi := ⟨_, rfl⟩
                    obtain ⟨sj, hsj⟩ : ∃ sj, σ j = sj := ⟨_, rfl⟩
                    rw [hcx] at d1 okx kst
                    rw [hcy] at d3 oky kst
                    rw [hkx] at d2 okx hbk kst
                    rw [hky] at d4 oky hsk kst
                    rw [hbi] at b0 hbk kst
                    rw [hsj] at s0 hsk kst
                    have kbi := hid hbi
                    have ksj := hid hsj
                    clear hcx hcy hkx hky hbi hsj
                    have b0' := b0.1
                    have s0' := s0.1
                    go_quiet (fail)
                    revert nq
                    intro q1
                    obtain ⟨n, hn⟩ : ∃ n : Int, (if (ky : Int) - (sj : Int) < (if (kx : Int) - (bi : Int) < xn then (kx : Int) - (bi : Int) else xn) then (ky : Int) - (sj : Int) else if (kx : Int) - (bi : Int) < xn then (kx : Int) - (bi : Int) else xn) = n := ⟨_, rfl⟩
                    rw [hn]
                    have hnb : n ≤ (kx : Int) - (bi : Int) ∧ n ≤ (ky : Int) - (sj : Int) := by
                      split at hn <;> omega
                    have oQ : Old W1 (W1.drewN q1) := (Old.refl W1).drewN q1
                    have hS2 := hid (hS1.out.olds oQ)
                    have q0 := oQ.cell q0
                    have q1' := oQ.cell q1'
                    have d1 := oQ.cell d1
                    have d3 := oQ.cell d3
                    have b0 : _ ∧ _ := ⟨oQ.cell b0.1, frm_frozen oQ (World.block_lt_of_cell? W1 _ b0.1) b0.2 (fun h => h)⟩
                    clear hn oQ hS1 d2 d4 b0' s0' s0 q2
                    generalize W1.drewN q1 = W2 at *
                    by_cases hn1 : n < 1
                    · have hI1 : Hid (∃ β σ, MsI w bb sb L M β σ W2 ∧ MsM L M β σ z) := ⟨β, σ, hS2.out, kMm.out⟩
                      go_wp2_with fail
                      go_roundw
                      case rel => exact ⟨k + 1, z, by omega, rfl, by go_num, hI1⟩
                      case measure => simp [intOf]; omega
                    · obtain ⟨x, rfl⟩ : ∃ x : Nat, n = (x : Int) := ⟨n.toNat, by omega⟩
                      have hx1 : bi + x ≤ kx ∧ sj + x ≤ ky := by omega
                      have hnx := hid (kst.out x hx1.1 hx1.2)
                      have hpb := hid (World.block_lt_of_cell? W2 _ q0)
                      clear kst
                      go_upto_region 15 with fail
                      have oY : Old W2 W2.drew := (Old.refl W2).drewN 1
                      have hww : Hid (IntKind.i64.wrap ((bi : Int) + (x : Int)) = ((bi + x : Nat) : Int)) := by
                        show _ = _
                        simp only [IntKind.wrap, IntKind.bits, IntKind.signed]
                        simp
                        omega
                      have hS3 := hid ((hS2.out.olds oY).setB i (bi + x))
                      have hF := hid (frm_set W2.drew bb i (.int .i64 ((bi + x : Nat) : Int)))
                      have y1 := oY.cell q0
                      have z0 := oY.cell b0.1
                      have zf := frm_frozen oY (World.block_lt_of_cell? W2 _ b0.1) b0.2 (fun h => h)
                      refine wp_region_noPanic ?_
                      refine wp_region_held_drew (S := fun W => W.cell? ⟨pb, 0, none⟩ = some (.int .i64 (i : Int))) (by kernel_rfl) y1 (fun hHeld => ?_)
                      generalize W2.drew = Z at *
                      refine' wpAnyH_take (i := 0) rfl (by kernel_rfl) (by kernel_rfl) (by kernel_rfl) (fun _ _ _ h => h) (Or.inl ⟨by rfl, ?_⟩) hHeld ?_
                      rotate_left
                      · intro W hSw
                        obtain r1 := hSw
                        simp only [List.getElem_toArray, List.getElem_cons_zero]
                        go_simp
                        all_goals with_reducible rfl
                      simp only [List.getElem_toArray, List.getElem_cons_zero, Act.put, List.setIfInBounds_toArray, List.set_cons_zero, List.set_cons_succ]
                      refine' wpAnyH_take (i := 1) rfl (by kernel_rfl) (by kernel_rfl) (by kernel_rfl) (fun _ _ _ h => h) (Or.inl ⟨by rfl, ?_⟩) hHeld ?_
                      rotate_left
                      · intro W hSw
                        obtain r1 := hSw
                        simp only [List.getElem_toArray, List.getElem_cons_zero, List.getElem_cons_succ]
                        go_simp
                        all_goals with_reducible rfl
                      simp only [List.getElem_toArray, List.getElem_cons_zero, List.getElem_cons_succ, Act.put, List.setIfInBounds_toArray, List.set_cons_zero, List.set_cons_succ]
                      refine' wpAnyH_take (i := 2) rfl (by kernel_rfl) (by kernel_rfl) (by kernel_rfl) (fun _ _ _ h => h) (Or.inl ⟨by rfl, ?_⟩) hHeld ?_
                      rotate_left
                      · intro W hSw
                        obtain r1 := hSw
                        simp only [List.getElem_toArray, List.getElem_cons_zero, List.getElem_cons_succ]
                        go_simp
                        all_goals with_reducible rfl
                      simp only [List.getElem_toArray, List.getElem_cons_zero, List.getElem_cons_succ, Act.put, List.setIfInBounds_toArray, List.set_cons_zero, List.set_cons_succ]
                      refine' wpAnyH_take (i := 3) rfl (by kernel_rfl) (by kernel_rfl) (by kernel_rfl) (fun _ _ _ h => h) (Or.inl ⟨by rfl, ?_⟩) hHeld ?_
                      rotate_left
                      · intro W hSw
                        obtain r1 := hSw
                        simp only [List.getElem_toArray, List.getElem_cons_zero, List.getElem_cons_succ]
                        go_simp
                        all_goals with_reducible rfl
                      simp only [List.getElem_toArray, List.getElem_cons_zero, List.getElem_cons_succ, Act.put, List.setIfInBounds_toArray, List.set_cons_zero, List.set_cons_succ]
                      refine' wpAnyH_take (i := 4) rfl (by kernel_rfl) (by kernel_rfl) (by kernel_rfl) (fun _ _ _ h => h) (Or.inl ⟨by rfl, ?_⟩) hHeld ?_
                      rotate_left
                      · intro W hSw
                        obtain r1 := hSw
                        simp only [List.getElem_toArray, List.getElem_cons_zero, List.getElem_cons_succ]
                        go_simp
                        all_goals with_reducible rfl
                      simp only [List.getElem_toArray, List.getElem_cons_zero, List.getElem_cons_succ, Act.put, List.setIfInBounds_toArray, List.set_cons_zero, List.set_cons_succ]
                      refine' wpAnyH_take (i := 5) rfl (by kernel_rfl) (by kernel_rfl) (by kernel_rfl) (fun _ _ _ h => h) (Or.inl ⟨by rfl, ?_⟩) hHeld ?_
                      rotate_left
                      · intro W hSw
                        obtain r1 := hSw
                        simp only [List.getElem_toArray, List.getElem_cons_zero, List.getElem_cons_succ]
                        go_simp
                        all_goals with_reducible rfl
                      simp only [List.getElem_toArray, List.getElem_cons_zero, List.getElem_cons_succ, Act.put, List.setIfInBounds_toArray, List.set_cons_zero, List.set_cons_succ]
                      refine' wpAnyH_take (i := 6) rfl (by kernel_rfl) (by kernel_rfl) (by kernel_rfl) (fun _ _ _ h => h) (Or.inl ⟨by rfl, ?_⟩) hHeld ?_
                      rotate_left
                      · intro W hSw
                        obtain r1 := hSw
                        simp only [List.getElem_toArray, List.getElem_cons_zero, List.getElem_cons_succ]
                        go_simp
                        all_goals with_reducible rfl
                      simp only [List.getElem_toArray, List.getElem_cons_zero, List.getElem_cons_succ, Act.put, List.setIfInBounds_toArray, List.set_cons_zero, List.set_cons_succ]
                      refine' wpAnyH_take (i := 8) rfl (by kernel_rfl) (by kernel_rfl) (by kernel_rfl) (fun _ _ _ h => h) (Or.inl ⟨by rfl, ?_⟩) hHeld ?_
                      rotate_left
                      · intro W hSw
                        obtain r1 := hSw
                        simp only [List.getElem_toArray, List.getElem_cons_zero, List.getElem_cons_succ]
                        go_simp
                        all_goals with_reducible rfl
                      simp only [List.getElem_toArray, List.getElem_cons_zero, List.getElem_cons_succ, Act.put, List.setIfInBounds_toArray, List.set_cons_zero, List.set_cons_succ]
                      refine wpAnyH_ready (rs := [7]) (by kernel_rfl) (by simp) ?_
                      refine AllReadyH.cons (o := _) rfl (fun K hK => ?_) AllReadyH.nil
                      simp only [List.getElem_toArray, List.getElem_cons_zero, List.getElem_cons_succ]
                      go_simp
                      refine hK.out _ _ (y1) (fun hHeld2 => ?_)
                      clear hHeld hK
                      have hHeld := hHeld2
                      clear hHeld2
                      try simp only [Act.put, List.setIfInBounds_toArray, List.set_cons_zero, List.set_cons_succ]
                      refine' wpAnyH_take (i := 9) rfl (by kernel_rfl) (by kernel_rfl) (by kernel_rfl) (fun _ _ _ h => h) (Or.inl ⟨by rfl, ?_⟩) hHeld ?_
                      rotate_left
                      · intro W hSw
                        obtain r1 := hSw
                        simp only [List.getElem_toArray, List.getElem_cons_zero, List.getElem_cons_succ]
                        go_simp
                        all_goals with_reducible rfl
                      simp only [List.getElem_toArray, List.getElem_cons_zero, List.getElem_cons_succ, Act.put, List.setIfInBounds_toArray, List.set_cons_zero, List.set_cons_succ]
                      refine' wpAnyH_take (i := 10) rfl (by kernel_rfl) (by kernel_rfl) (by kernel_rfl) (fun _ _ _ h => h) (Or.inl ⟨by rfl, ?_⟩) hHeld ?_
                      rotate_left
                      · intro W hSw
                        obtain r1 := hSw
                        simp only [List.getElem_toArray, List.getElem_cons_zero, List.getElem_cons_succ]
                        go_simp
                        all_goals with_reducible rfl
                      simp only [List.getElem_toArray, List.getElem_cons_zero, List.getElem_cons_succ, Act.put, List.setIfInBounds_toArray, List.set_cons_zero, List.set_cons_succ]
                      refine wpAnyH_ready (rs := [11]) (by kernel_rfl) (by simp) ?_
                      refine AllReadyH.cons (o := _) rfl (fun K hK => ?_) AllReadyH.nil
                      simp only [List.getElem_toArray, List.getElem_cons_zero, List.getElem_cons_succ]
                      go_simp
                      rw [hww.out]
                      have n1 := hid (frm_cell hF.out y1 (by dsimp only; omega))
                      refine hK.out _ _ (n1.out) (fun hHeld2 => ?_)
                      clear hHeld hK
                      have hHeld := hHeld2
                      clear hHeld2
                      try simp only [Act.put, List.setIfInBounds_toArray, List.set_cons_zero, List.set_cons_succ]
                      refine wpAnyH_done (by kernel_rfl) ?_ _
                      refine NoPanic.normal ?_
                      clear hHeld
                      have f1 := hF.out
                      have q1' := frm_cell f1 (oY.cell q1') (by dsimp only; omega)
                      have q0 := frm_cell f1 (oY.cell q0) (by dsimp only; omega)
                      have d1 := frm_cell f1 (oY.cell d1) (by dsimp only; omega)
                      have d3 := frm_cell f1 (oY.cell d3) (by dsimp only; omega)
                      clear f1 hF oY hww zf z0 y1 n1 b0
                      generalize Z.setCell ⟨bb, i, none⟩ (.int .i64 ((bi + x : Nat) : Int)) = W3 at *
                      have s0 := hS3.out.s.cell (i := j) (by rw [dl_len]; exact hj)
                      rw [dl_at hj, ksj.out] at s0
                      go_upto_region 16 with fail
                      have hS2 := hS3
                      clear hS3
                      have oY : Old W3 W3.drew := (Old.refl W3).drewN 1
                      have hww : Hid (IntKind.i64.wrap ((sj : Int) + (x : Int)) = ((sj + x : Nat) : Int)) := by
                        show _ = _
                        simp only [IntKind.wrap, IntKind.bits, IntKind.signed]
                        simp
                        omega
                      have hS3 := hid ((hS2.out.olds oY).setS j (sj + x))
                      have hF := hid (frm_set W3.drew sb j (.int .i64 ((sj + x : Nat) : Int)))
                      have y1 := oY.cell q1'
                      have z0 := oY.cell s0.1
                      have zf := frm_frozen oY (World.block_lt_of_cell? W3 _ s0.1) s0.2 (fun h => h)
                      refine wp_region_noPanic ?_
                      refine wp_region_held_drew (S := fun W => W.cell? ⟨pb, 1, none⟩ = some (.int .i64 (j : Int))) (by kernel_rfl) y1 (fun hHeld => ?_)
                      generalize W3.drew = Z at *
                      refine' wpAnyH_take (i := 0) rfl (by kernel_rfl) (by kernel_rfl) (by kernel_rfl) (fun _ _ _ h => h) (Or.inl ⟨by rfl, ?_⟩) hHeld ?_
                      rotate_left
                      · intro W hSw
                        obtain r1 := hSw
                        simp only [List.getElem_toArray, List.getElem_cons_zero]
                        go_simp
                        all_goals with_reducible rfl
                      simp only [List.getElem_toArray, List.getElem_cons_zero, Act.put, List.setIfInBounds_toArray, List.set_cons_zero, List.set_cons_succ]
                      refine' wpAnyH_take (i := 1) rfl (by kernel_rfl) (by kernel_rfl) (by kernel_rfl) (fun _ _ _ h => h) (Or.inl ⟨by rfl, ?_⟩) hHeld ?_
                      rotate_left
                      · intro W hSw
                        obtain r1 := hSw
                        simp only [List.getElem_toArray, List.getElem_cons_zero, List.getElem_cons_succ]
                        go_simp
                        all_goals with_reducible rfl
                      simp only [List.getElem_toArray, List.getElem_cons_zero, List.getElem_cons_succ, Act.put, List.setIfInBounds_toArray, List.set_cons_zero, List.set_cons_succ]
                      refine' wpAnyH_take (i := 2) rfl (by kernel_rfl) (by kernel_rfl) (by kernel_rfl) (fun _ _ _ h => h) (Or.inl ⟨by rfl, ?_⟩) hHeld ?_
                      rotate_left
                      · intro W hSw
                        obtain r1 := hSw
                        simp only [List.getElem_toArray, List.getElem_cons_zero, List.getElem_cons_succ]
                        go_simp
                        all_goals with_reducible rfl
                      simp only [List.getElem_toArray, List.getElem_cons_zero, List.getElem_cons_succ, Act.put, List.setIfInBounds_toArray, List.set_cons_zero, List.set_cons_succ]
                      refine' wpAnyH_take (i := 3) rfl (by kernel_rfl) (by kernel_rfl) (by kernel_rfl) (fun _ _ _ h => h) (Or.inl ⟨by rfl, ?_⟩) hHeld ?_
                      rotate_left
                      · intro W hSw
                        obtain r1 := hSw
                        simp only [List.getElem_toArray, List.getElem_cons_zero, List.getElem_cons_succ]
                        go_simp
                        all_goals with_reducible rfl
                      simp only [List.getElem_toArray, List.getElem_cons_zero, List.getElem_cons_succ, Act.put, List.setIfInBounds_toArray, List.set_cons_zero, List.set_cons_succ]
                      refine' wpAnyH_take (i := 4) rfl (by kernel_rfl) (by kernel_rfl) (by kernel_rfl) (fun _ _ _ h => h) (Or.inl ⟨by rfl, ?_⟩) hHeld ?_
                      rotate_left
                      · intro W hSw
                        obtain r1 := hSw
                        simp only [List.getElem_toArray, List.getElem_cons_zero, List.getElem_cons_succ]
                        go_simp
                        all_goals with_reducible rfl
                      simp only [List.getElem_toArray, List.getElem_cons_zero, List.getElem_cons_succ, Act.put, List.setIfInBounds_toArray, List.set_cons_zero, List.set_cons_succ]
                      refine' wpAnyH_take (i := 5) rfl (by kernel_rfl) (by kernel_rfl) (by kernel_rfl) (fun _ _ _ h => h) (Or.inl ⟨by rfl, ?_⟩) hHeld ?_
                      rotate_left
                      · intro W hSw
                        obtain r1 := hSw
                        simp only [List.getElem_toArray, List.getElem_cons_zero, List.getElem_cons_succ]
                        go_simp
                        all_goals with_reducible rfl
                      simp only [List.getElem_toArray, List.getElem_cons_zero, List.getElem_cons_succ, Act.put, List.setIfInBounds_toArray, List.set_cons_zero, List.set_cons_succ]
                      refine' wpAnyH_take (i := 6) rfl (by kernel_rfl) (by kernel_rfl) (by kernel_rfl) (fun _ _ _ h => h) (Or.inl ⟨by rfl, ?_⟩) hHeld ?_
                      rotate_left
                      · intro W hSw
                        obtain r1 := hSw
                        simp only [List.getElem_toArray, List.getElem_cons_zero, List.getElem_cons_succ]
                        go_simp
                        all_goals with_reducible rfl
                      simp only [List.getElem_toArray, List.getElem_cons_zero, List.getElem_cons_succ, Act.put, List.setIfInBounds_toArray, List.set_cons_zero, List.set_cons_succ]
                      refine' wpAnyH_take (i := 8) rfl (by kernel_rfl) (by kernel_rfl) (by kernel_rfl) (fun _ _ _ h => h) (Or.inl ⟨by rfl, ?_⟩) hHeld ?_
                      rotate_left
                      · intro W hSw
                        obtain r1 := hSw
                        simp only [List.getElem_toArray, List.getElem_cons_zero, List.getElem_cons_succ]
                        go_simp
                        all_goals with_reducible rfl
                      simp only [List.getElem_toArray, List.getElem_cons_zero, List.getElem_cons_succ, Act.put, List.setIfInBounds_toArray, List.set_cons_zero, List.set_cons_succ]
                      refine wpAnyH_ready (rs := [7]) (by kernel_rfl) (by simp) ?_
                      refine AllReadyH.cons (o := _) rfl (fun K hK => ?_) AllReadyH.nil
                      simp only [List.getElem_toArray, List.getElem_cons_zero, List.getElem_cons_succ]
                      go_simp
                      refine hK.out _ _ (y1) (fun hHeld2 => ?_)
                      clear hHeld hK
                      have hHeld := hHeld2
                      clear hHeld2
                      try simp only [Act.put, List.setIfInBounds_toArray, List.set_cons_zero, List.set_cons_succ]
                      refine' wpAnyH_take (i := 9) rfl (by kernel_rfl) (by kernel_rfl) (by kernel_rfl) (fun _ _ _ h => h) (Or.inl ⟨by rfl, ?_⟩) hHeld ?_
                      rotate_left
                      · intro W hSw
                        obtain r1 := hSw
                        simp only [List.getElem_toArray, List.getElem_cons_zero, List.getElem_cons_succ]
                        go_simp
                        all_goals with_reducible rfl
                      simp only [List.getElem_toArray, List.getElem_cons_zero, List.getElem_cons_succ, Act.put, List.setIfInBounds_toArray, List.set_cons_zero, List.set_cons_succ]
                      refine' wpAnyH_take (i := 10) rfl (by kernel_rfl) (by kernel_rfl) (by kernel_rfl) (fun _ _ _ h => h) (Or.inl ⟨by rfl, ?_⟩) hHeld ?_
                      rotate_left
                      · intro W hSw
                        obtain r1 := hSw
                        simp only [List.getElem_toArray, List.getElem_cons_zero, List.getElem_cons_succ]
                        go_simp
                        all_goals with_reducible rfl
                      simp only [List.getElem_toArray, List.getElem_cons_zero, List.getElem_cons_succ, Act.put, List.setIfInBounds_toArray, List.set_cons_zero, List.set_cons_succ]
                      refine wpAnyH_ready (rs := [11]) (by kernel_rfl) (by simp) ?_
                      refine AllReadyH.cons (o := _) rfl (fun K hK => ?_) AllReadyH.nil
                      simp only [List.getElem_toArray, List.getElem_cons_zero, List.getElem_cons_succ]
                      go_simp
                      rw [hww.out]
                      have n1 := hid (frm_cell hF.out y1 (by dsimp only; omega))
                      refine hK.out _ _ (n1.out) (fun hHeld2 => ?_)
                      clear hHeld hK
                      have hHeld := hHeld2
                      clear hHeld2
                      try simp only [Act.put, List.setIfInBounds_toArray, List.set_cons_zero, List.set_cons_succ]
                      refine wpAnyH_done (by kernel_rfl) ?_ _
                      refine NoPanic.normal ?_
                      clear hHeld
                      have f1 := hF.out
                      have q1' := frm_cell f1 (oY.cell q1') (by dsimp only; omega)
                      have q0 := frm_cell f1 (oY.cell q0) (by dsimp only; omega)
                      have d1 := frm_cell f1 (oY.cell d1) (by dsimp only; omega)
                      have d3 := frm_cell f1 (oY.cell d3) (by dsimp only; omega)
                      clear f1 hF oY hww zf z0 y1 n1 s0 hS2
                      generalize Z.setCell ⟨sb, j, none⟩ (.int .i64 ((sj + x : Nat) : Int)) = W4 at *
                      have hzn := kzb.out _ _ _ hnx.out
                      obtain ⟨Q, hQ⟩ : ∃ Q, (x : Int) * (cx - cy) = Q := ⟨_, rfl⟩
                      rw [hQ] at hnx hzn
                      have hI1 : Hid (∃ β σ, MsI w bb sb L M β σ W4 ∧ MsM L M β σ (z + Q)) := ⟨_, _, hS3.out, hnx.out⟩
                      clear hS3 hnx
                      have hw1 : IntKind.i64.wrap (cx - cy) = cx - cy := by
                        simp only [IntKind.wrap, IntKind.bits, IntKind.signed]
                        simp
                        omega
                      have hw2 : IntKind.i64.wrap Q = Q := by
                        simp only [IntKind.wrap, IntKind.bits, IntKind.signed]
                        simp
                        omega
                      have hw3 : IntKind.i64.wrap (z + Q) = z + Q := by
                        simp only [IntKind.wrap, IntKind.bits, IntKind.signed]
                        simp
                        omega
                      go_upto_region 17 with fail
                      go_quiet (fail)
                      go_wp2_with fail
                      go_roundw
                      case rel => exact ⟨k + 1, z + Q, by omega, by simp, by go_num, by
                        obtain ⟨β', σ', e1, e2⟩ := hI1.out
                        exact ⟨β', σ', e1.olds ((Old.refl W4).drewN _), e2⟩⟩
                      case measure => simp [intOf]; omega
          · obtain rfl : k = P.length := by omega
            have hlt' : ¬ (P.length : Int) < (P.length : Int) := by omega
            obtain ⟨β, σ, hS, hMm⟩ := hI.out
            have hle := hMm.le kO.out.1 kO.out.2
            rw [← kga.out] at hle
            have kS := hid hS
            clear hI hS hMm
            by_cases hn0 : L.length = 0
            · have hn0' : ((L.length : Int) == 0) = true := by rw [beq_iff_eq]; omega
              go_wp2_with fail
              go_ret
              exact ⟨by simp, kS.out.old⟩
            · obtain ⟨n, hn1⟩ : ∃ n, L.length = n + 1 := ⟨L.length - 1, by omega⟩
              have hgl := gains_last kO.out.1 kO.out.2 hn1
              rw [← kga.out] at hgl
              have kct2 := kct.out n
              have hlt2 : (L.take n).length = n := by rw [List.length_take]; omega
              have k2 := hid (gains_any ao bo ca cb (L.take n) M wr ((kL.out.take n).old kS.out.old) (kM.out.old kS.out.old) (by omega) h2)
              rw [show gaZ (L.take n) M = gnF (L.take n) M (fls (L.take n) M) from if_pos kct2, kct2, hlt2] at k2
              obtain ⟨g2, hg2⟩ : ∃ g2, gnF (L.take n) M (fls (L.take n) M) = g2 := ⟨_, rfl⟩
              rw [hg2] at k2 hgl
              have hne : ((L.length : Int) == 0) = false := by rw [beq_eq_false_iff_ne]; omega
              have hsub : (L.length : Int) - 1 = (n : Int) := by omega
              have hnca : n ≤ ca := by omega
              have hnca' : (n : Int) ≤ (ca : Int) := by omega
              obtain ⟨ga, oa, rfl, -, -⟩ := kL.out 0 (by omega)
              clear hg2 hlt2 kct2 kct hn1 hn0
              go_wp2_with fail
              refine k2.out.mono ?_
              rintro e w5 ⟨rfl, o5⟩
              have ko5 := hid (kS.out.old.trans o5)
              clear o5 k2
              go_wp2_with (go_at_call 17; refine (kN.out _ _).mono ?_; rintro e w' ⟨rfl, e2⟩; rw [e2]; clear e2)
              go_ret
              exact ⟨by simp, ko5.out⟩
  · have kga : Hid (gaZ L M = 0) := if_neg hc
    obtain ⟨z, hzz⟩ : ∃ z, chZ L M = z := ⟨_, rfl⟩
    simp only [hzz, kga.out] at kG
    rw [hzz] at hc
    have hz' : (z != 0) = true := by simpa using hc
    have hz2 : (z == 0) = false := by simpa using hc
    clear hzz
    go_enter Try.func6, Try.ntmps6
    go_wp2_with fail
    refine kK.out.mono ?_
    rintro e w2 ⟨rfl, o2⟩
    have k2 := hid (kG.out w2 (kL.out.old o2) (kM.out.old o2))
    have ko := hid o2
    clear o2 kK
    go_wp2_with fail
    refine k2.out.mono ?_
    rintro e w3 ⟨rfl, o3⟩
    have ko := hid (ko.out.trans o3)
    clear o3 k2
    go_wp2_with (go_at_call 17; refine (kN.out _ _).mono ?_; rintro e w' ⟨rfl, e2⟩; rw [e2]; clear e2)
    go_ret
    exact ⟨rfl, ko.out⟩
end Go.Proofs.Ytdeakckdnkdalaa
