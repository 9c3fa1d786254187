/- The document's Walk: any picks. -/
import Derived.Test.YtpnnfkgnkalhlaaJ16
namespace Go.Proofs.Ytpnnfkgnkalhlaa
open Go.RowKit Go.Lib Go.Maps

/-- A region after which two blocks are new: what stands then, whatever order was drawn. -/
theorem region_mid {P : Program} {id : Nat} {ops : Array Oper} {b : Bool} {Q : Exit → Act → World → Prop} {a : Act} {w : World} (g : Nat → Nat → Act) (T : Nat → Nat → World → Prop) (h : (Code.region id ops b).wp P (fun e a' w' => e = .normal ∧ ∃ pb qb, a' = g pb qb ∧ T pb qb w') a w) (hF : ∀ pb qb w', T pb qb w' → Q .normal (g pb qb) w') : (Code.region id ops b).wp P Q a w :=
  Code.wp_mono (fun e a' w' ⟨he, pb, qb, ha, ht⟩ => by subst he; subst ha; exact hF pb qb w' ht) h

/-- What was looked at of tickets is below their number. -/
theorem sn_five {O : List (List (Int × Int))} {W : WSt} {p : Nat} {kd x : Int} (h : SnOk O W) (hF : SnF O W) (hop : curOp O W p = (kd, x)) : ∀ q, W.sn p = some q → kd = 5 → q.1 < W.s.ts := by
  intro q hq h5
  have h1 := h p q hq ⟨W.s.L, W.s.mr, W.s.bs, W.s.ar, W.s.gt, q.1, W.s.ts⟩ rfl
  have h2 := (hF p q hq).2
  rw [hop] at h1 h2
  subst h5
  simp [LookF] at h2
  have h3 := h1 (by simp [lookS]; exact Prod.ext rfl h2.symm)
  simp [idleS] at h3
  exact h3


set_option maxRecDepth 100000 in
set_option maxHeartbeats 16000000 in
theorem dwalk_good (mk gt ts : Int) (oa pa : Option Addr) (n co m cp : Nat) (O : List (List (Int × Int))) (P : List Int) (w : World) (hO : OpsC w oa O) (hn : O.length = n) (hP : NumsC .i64 w pa P) (hm : P.length = m) (h1 : 1 ≤ n) (h2 : n ≤ 64) (hg : 1 ≤ gt) (ht : 0 ≤ ts) (ht2 : ts ≤ 9223372036854775807) (hmm : m ≤ 1000000000000) (hol : ∀ j : Nat, (O[j]?.getD []).length ≤ 1000000000000) :
    Calls Try.prog 22 #[.agg #[.int .i64 mk, .int .i64 gt, .int .i64 ts], .slice oa n co, .slice pa m cp] w fun e w' => ∃ ab, e = .returned (.tuple #[.slice (some ⟨ab, 0, none⟩) n n, endV (walkTo O P (walk0 mk gt ts n) m).s, .int .i64 0]) ∧ Old w w' ∧ w.heap.size ≤ ab ∧ ∀ j, j < n → ∃ v, w'.cell? ⟨ab, j, none⟩ = some v ∧ w'.ownsRow w.heap.size 52 3 v ((walkTo O P (walk0 mk gt ts n) m).out j).length (flatA ((walkTo O P (walk0 mk gt ts n) m).out j)) := by
  have oA : Old w ((w.alloc (.cells #[.int .i64 mk, .int .i64 gt, .int .i64 ts] 23)).alloc (.cells #[.int .i64 0, .int .i64 0, .int .i64 0, .int .i64 0, .bool false, .int .i64 0, .bool false, .int .i64 0] 63)) := ((Old.refl w).alloc _).alloc _
  obtain ⟨nA, nB, zA⟩ := two_news w (.cells #[.int .i64 mk, .int .i64 gt, .int .i64 ts] 23) (.cells #[.int .i64 0, .int .i64 0, .int .i64 0, .int .i64 0, .bool false, .int .i64 0, .bool false, .int .i64 0] 63)
  obtain ⟨w1, x1⟩ : ∃ w1, (w.alloc (.cells #[.int .i64 mk, .int .i64 gt, .int .i64 ts] 23)).alloc (.cells #[.int .i64 0, .int .i64 0, .int .i64 0, .int .i64 0, .bool false, .int .i64 0, .bool false, .int .i64 0] 63) = w1 := ⟨_, rfl⟩
  rw [x1] at oA nA nB zA
  have kx := hid x1
  have ko := hid oA
  have knA := hid nA
  have knB := hid nB
  have kzA := hid zA
  have kO := hid (hO.old oA)
  have kP := hid (hP.old oA)
  have kb := hid (doc_newX mk gt ts n w1 h1 h2 hg ht)
  have kn := hid hn
  have km := hid hm
  have kol := hid hol
  clear x1 oA nA nB zA hO hP hn hm hol
  go_enter Try.func22, Try.ntmps22
  go_wp2_with fail
  rw [kx.out]
  clear kx
  refine kb.out.mono ?_
  rintro e w2 ⟨db, rfl, o2, sb0, hdoc, hdb, hsb⟩
  obtain ⟨s0, hs0⟩ : ∃ s0, w.heap.size = s0 := ⟨_, rfl⟩
  have ks := hid hs0
  rw [hs0] at knA knB kzA ⊢
  have kI := hid (dw_init kn.out h2 ht ht2 o2 hdoc hdb hsb)
  have kl2 := hid o2.size
  clear kb o2 hdoc hdb hsb hs0
  go_wp2_with fail
  rw [make70 n (by omega) w2]
  go_wp2_with fail
  rw [make132 n (by omega)]
  simp only [World.size_alloc]
  go_wp2_with fail
  obtain ⟨V, hV⟩ : ∃ V, (w2.alloc (.cells (madeCells #[.slice none 0 0] n) 77)).alloc (.cells (madeCells #[.bool false, .int .i64 0, .int .i64 0, .bool false] (n * 4)) 134) = V := ⟨_, rfl⟩
  obtain ⟨ab, hab⟩ : ∃ ab, w2.heap.size = ab := ⟨_, rfl⟩
  rw [hV, hab] at kI
  rw [hV, hab]
  have kab : Hid (w1.heap.size ≤ ab) := by rw [← hab]; exact kl2.out
  clear hV hab kl2
  obtain ⟨lb, hub⟩ : ∃ lb, ab + 1 = lb := ⟨_, rfl⟩
  rw [hub] at kI ⊢
  clear hub
  go_loopw [13] (fun s wr => ∃ i : Nat, i ≤ m ∧ s = .int .i64 (i : Int) ∧ DWR w1 wr db ab lb O (walkTo O P (walk0 mk gt ts n) i) i) (fun s _ => m - (intOf s).toNat)
  case atStart => exact ⟨0, Nat.zero_le _, rfl, kI.out⟩
  case round =>
  clear kI
  obtain ⟨i, hi, rfl, hR⟩ := hrel
  have kR := hid hR
  clear hR
  by_cases him : i < m
  · obtain ⟨τ, hX⟩ := kR.out
    clear kR
    obtain ⟨W, hW⟩ : ∃ W, walkTo O P (walk0 mk gt ts n) i = W := ⟨_, rfl⟩
    have kS := hid (show walkTo O P (walk0 mk gt ts n) (i + 1) = walkStep O W i (P[i]?.getD 0) by rw [← hW]; rfl)
    have hle : Hid (∀ j : Nat, (W.out j).length ≤ i ∧ (W.out j).length ≤ (O[j]?.getD []).length) := by rw [← hW]; exact walkTo_le (fun _ => rfl) i
    have kF : Hid (SnF O W) := by rw [← hW]; exact walkTo_F (fun _ => rfl) i
    have kK : Hid (SnOk O W) := by rw [← hW]; exact walkTo_ok (fun _ => rfl) i
    rw [hW] at hX
    clear hW
    have him' : (i : Int) < (m : Int) := by omega
    obtain ⟨pg, po, rfl, pc⟩ := kP.out i (by rw [km.out]; exact him)
    obtain ⟨pk, hpk⟩ : ∃ pk, P[i]'(by rw [km.out]; exact him) = pk := ⟨_, rfl⟩
    rw [show P[i]?.getD 0 = pk by rw [← hpk, List.getElem?_eq_getElem (by rw [km.out]; exact him)]; rfl] at kS
    rw [hpk] at pc
    replace pc := hX.old.cell pc
    clear hpk
    have hn0 : (n : Int) ≠ 0 := by omega
    have hnz : ((n : Int) == 0) = false := by simp; omega
    obtain ⟨p, hp⟩ : ∃ p, pickOf pk n = p := ⟨_, rfl⟩
    have hpn : p < n := by
      rw [← hp]
      unfold pickOf
      have a4 := Int.emod_lt_of_pos pk (show (0 : Int) < n by omega)
      have a5 := Int.emod_nonneg pk hn0
      omega
    have hmn : Hid (pk.tmod n < 0 → pk.tmod n + n = (p : Int)) := fun h => by rw [← hp]; exact pick_neg h1 h2 h
    have hmp : Hid (¬ pk.tmod n < 0 → pk.tmod n = (p : Int)) := fun h => by rw [← hp]; exact pick_pos h1 h2 h
    have t1 := Int.tmod_lt_of_pos pk (show (0 : Int) < n by omega)
    have t2 := Int.lt_tmod_of_pos pk (show (0 : Int) < n by omega)
    have kk := hid hp
    obtain ⟨v, ac, vo, vt⟩ := hX.rows p (by rw [kn.out]; exact hpn)
    obtain ⟨d, hd⟩ : ∃ d, (W.out p).length = d := ⟨_, rfl⟩
    rw [hd] at vo
    obtain ⟨ao, cap, rfl⟩ := owns_slice vo
    obtain ⟨og, oo, ro, c, rfl, oc, ops⟩ := kO.out p (by rw [kn.out]; exact hpn)
    obtain ⟨ln, hln⟩ : ∃ ln, (O[p]?.getD []).length = ln := ⟨_, rfl⟩
    rw [hln] at oc ops
    have koc := hid oc
    replace oc := hX.old.cell oc
    have kvo := hid vo
    have kvt := hid vt
    have kops := hid ops
    have kd' := hid hd
    have kln := hid hln
    have kX := hid hX
    have hdl' : d ≤ 1000000000000 := by rw [← hd]; exact Nat.le_trans (hle.out p).1 (by omega)
    have hdn : d ≤ ln := by rw [← hd, ← hln]; exact (hle.out p).2
    have hll : ln ≤ 1000000000000 := by rw [← hln]; exact kol.out p
    have hpn' : (p : Int) < (n : Int) := by omega
    clear hX hp vo vt ops hd hln hle
    by_cases hneg : pk.tmod n < 0
    · go_upto_region 12 with fail
      rw [hmn.out hneg]
      clear hneg hmn hmp pc t1 t2 hn0 hnz
      by_cases hfull : d = ln
      · have hb1 : ((d : Int) == (ln : Int)) = true := by simp; omega
        have kX' := hid (kX.out.olds ((Old.refl wr).drewN 1))
        go_wp2_with fail
        go_region
        go_wp2_with fail
        go_roundw
        case rel =>
          refine ⟨i + 1, by omega, by go_num, ?_⟩
          rw [kS.out]
          refine ⟨τ, ?_⟩
          unfold walkStep
          simp only
          rw [kn.out, kk.out, kd'.out, kln.out, if_pos hfull]
          exact kX'.out.bump (by omega)
        case measure => simp [intOf]; omega
      have hb1 : ((d : Int) == (ln : Int)) = false := by simp; omega
      have hdl2 : d < ln := by omega
      go_wp2_with fail
      go_region
      go_wp2_with fail
      obtain ⟨rg, rq, hro, q1, q2, q3⟩ := kops.out d hdl2
      obtain ⟨op, hop⟩ : ∃ op, (O[p]?.getD [])[d]?.getD (0, 0) = op := ⟨_, rfl⟩
      rw [hop] at q1 q2 q3
      have kop := hid hop
      obtain ⟨kd, x⟩ := op
      simp only at q1 q2 q3
      have hrgl := hid (World.block_lt_of_cell? w1 _ q1)
      have hogl := hid (World.block_lt_of_cell? w1 _ koc.out)
      dsimp only [Hid] at hrgl hogl
      replace hrgl := hid hrgl
      replace hogl := hid hogl
      subst hro
      have kop' : Hid (curOp O W p = (kd, x)) := by
        show curOp O W p = (kd, x)
        simp only [curOp, kd'.out]
        exact kop.out
      clear hop q3
      have oD : Old wr wr.drew := (Old.refl wr).drewN 1
      have kXD := hid (kX.out.olds oD)
      replace oc := oD.cell oc
      replace ac := oD.cell ac
      generalize wr.drew = wD at *
      replace q1 := kXD.out.old.cell q1
      replace q2 := kXD.out.old.cell q2
      obtain ⟨sb, hdX, td, ts'⟩ := kXD.out.doc
      obtain ⟨y0, m1, m2, z0, hv, l0, l1, l2, l3⟩ := kXD.out.lks p (by rw [kn.out]; exact hpn)
      rw [kop'.out] at hv
      obtain ⟨ny, n1, n2, nz, v, yy, dd, hsv, hsn, hdd, hva⟩ := stepV_form kd (stepS W.s p kd x (W.sn p))
      have kst : Hid (∀ X, DocX X db sb W.s → Calls Try.prog 47 #[.pointer (some ⟨db, 0, none⟩), .int .i64 p, .agg #[.int .i64 kd, .int .i64 x], .agg #[.bool y0, .int .i64 m1, .int .i64 m2, .bool z0]] X fun e X' => e = .returned (.tuple #[.agg #[.bool ny, .int .i64 n1, .int .i64 n2, .bool nz], .agg #[.int .i64 v, .bool yy, .int .i64 0], .bool dd]) ∧ Frm (fun q => q = db ∨ q = sb) X X' ∧ DocX X' db sb (stepS W.s p kd x (W.sn p)).1) := by
        intro X hDX
        have h9 := dstep_any db sb p kd x W.s i (W.sn p) X hDX (by rw [kXD.out.len, kn.out]; exact hpn) kXD.out.bnd (by omega) (fun q hq => by have := kF.out p q hq; rw [kop'.out] at this; exact this) (fun e => by have := kK.out p _ e W.s rfl; rw [kop'.out] at this; exact this rfl)
        rw [hv, hsv] at h9
        exact h9
      have ksn := hid hsn
      have kdd := hid hdd
      have kva := hid hva
      have td1 := (kXD.out.new db (by rw [td]; omega)).1
      have ts1 := (kXD.out.new sb (by rw [ts']; omega)).1
      have bo : ¬ (og = db ∨ og = sb) := by have := hogl.out; omega
      have br : ¬ (rg = db ∨ rg = sb) := by have := hrgl.out; omega
      have ba : ¬ (ab = db ∨ ab = sb) := fun e => by have := kXD.out.tab; rcases e with rfl | rfl <;> omega
      have bl : ¬ (lb = db ∨ lb = sb) := fun e => by have := kXD.out.tlb; rcases e with rfl | rfl <;> omega
      have hdl := hid hdX.lt
      have khdX := hid hdX
      clear hsv hv hsn hdd hva hdX td1 ts1 kX oD
      apply region_mid (T := fun pb qb XF => Frm (fun k => k = db ∨ k = sb) wD XF ∧ XF.heap[pb]? = some (.cells #[.bool ny, .int .i64 n1, .int .i64 n2, .bool nz] 134 (0, 0)) ∧ XF.heap[qb]? = some (.cells #[.int .i64 v, .bool yy, .int .i64 0] 52 (0, 0)) ∧ wD.heap.size ≤ pb ∧ wD.heap.size ≤ qb ∧ pb ≠ qb ∧ DocX XF db sb (stepS W.s p kd x (W.sn p)).1)
      case h =>
        refine wp_region_noPanic ?_
        refine wp_region_held_drew (S := fun X => Frm (fun k => k = db ∨ k = sb) wD X) (by kernel_rfl) ((Frm.refl _ wD).drewN 1) (fun hHeld => ?_)
        have hD : Hid (DocX wD.drew db sb W.s) := khdX.out.frm ((Old.refl wD).drewN 1) (fun h => h) (fun h => h)
        generalize wD.drew = X0 at *
        refine' wpAnyH_take (i := 0) rfl (by kernel_rfl) (by kernel_rfl) (by kernel_rfl) (fun _ _ _ h => h) (Or.inl ⟨by rfl, ?_⟩) hHeld ?_
        rotate_left
        · intro W hSw
          have c1 := frm_cell hSw oc bo
          have c2 := frm_cell hSw q1 br
          have c3 := frm_cell hSw q2 br
          have c4 := frm_cell hSw ac ba
          have c5 := frm_cell hSw l0 bl
          have c6 := frm_cell hSw l1 bl
          have c7 := frm_cell hSw l2 bl
          have c8 := frm_cell hSw l3 bl
          clear hSw
          simp only [List.getElem_toArray, List.getElem_cons_zero]
          go_simp
          all_goals with_reducible rfl
        simp only [List.getElem_toArray, List.getElem_cons_zero, Act.put, List.setIfInBounds_toArray, List.set_cons_zero, List.set_cons_succ]
        refine' wpAnyH_take (i := 1) rfl (by kernel_rfl) (by kernel_rfl) (by kernel_rfl) (fun _ _ _ h => h) (Or.inl ⟨by rfl, ?_⟩) hHeld ?_
        rotate_left
        · intro W hSw
          have c1 := frm_cell hSw oc bo
          have c2 := frm_cell hSw q1 br
          have c3 := frm_cell hSw q2 br
          have c4 := frm_cell hSw ac ba
          have c5 := frm_cell hSw l0 bl
          have c6 := frm_cell hSw l1 bl
          have c7 := frm_cell hSw l2 bl
          have c8 := frm_cell hSw l3 bl
          clear hSw
          simp only [List.getElem_toArray, List.getElem_cons_zero, List.getElem_cons_succ]
          go_simp
          all_goals with_reducible rfl
        simp only [List.getElem_toArray, List.getElem_cons_zero, List.getElem_cons_succ, Act.put, List.setIfInBounds_toArray, List.set_cons_zero, List.set_cons_succ]
        refine' wpAnyH_take (i := 2) rfl (by kernel_rfl) (by kernel_rfl) (by kernel_rfl) (fun _ _ _ h => h) (Or.inl ⟨by rfl, ?_⟩) hHeld ?_
        rotate_left
        · intro W hSw
          have c1 := frm_cell hSw oc bo
          have c2 := frm_cell hSw q1 br
          have c3 := frm_cell hSw q2 br
          have c4 := frm_cell hSw ac ba
          have c5 := frm_cell hSw l0 bl
          have c6 := frm_cell hSw l1 bl
          have c7 := frm_cell hSw l2 bl
          have c8 := frm_cell hSw l3 bl
          clear hSw
          simp only [List.getElem_toArray, List.getElem_cons_zero, List.getElem_cons_succ]
          go_simp
          all_goals with_reducible rfl
        simp only [List.getElem_toArray, List.getElem_cons_zero, List.getElem_cons_succ, Act.put, List.setIfInBounds_toArray, List.set_cons_zero, List.set_cons_succ]
        refine' wpAnyH_take (i := 3) rfl (by kernel_rfl) (by kernel_rfl) (by kernel_rfl) (fun _ _ _ h => h) (Or.inl ⟨by rfl, ?_⟩) hHeld ?_
        rotate_left
        · intro W hSw
          have c1 := frm_cell hSw oc bo
          have c2 := frm_cell hSw q1 br
          have c3 := frm_cell hSw q2 br
          have c4 := frm_cell hSw ac ba
          have c5 := frm_cell hSw l0 bl
          have c6 := frm_cell hSw l1 bl
          have c7 := frm_cell hSw l2 bl
          have c8 := frm_cell hSw l3 bl
          clear hSw
          simp only [List.getElem_toArray, List.getElem_cons_zero, List.getElem_cons_succ]
          go_simp
          all_goals with_reducible rfl
        simp only [List.getElem_toArray, List.getElem_cons_zero, List.getElem_cons_succ, Act.put, List.setIfInBounds_toArray, List.set_cons_zero, List.set_cons_succ]
        refine' wpAnyH_take (i := 4) rfl (by kernel_rfl) (by kernel_rfl) (by kernel_rfl) (fun _ _ _ h => h) (Or.inl ⟨by rfl, ?_⟩) hHeld ?_
        rotate_left
        · intro W hSw
          have c1 := frm_cell hSw oc bo
          have c2 := frm_cell hSw q1 br
          have c3 := frm_cell hSw q2 br
          have c4 := frm_cell hSw ac ba
          have c5 := frm_cell hSw l0 bl
          have c6 := frm_cell hSw l1 bl
          have c7 := frm_cell hSw l2 bl
          have c8 := frm_cell hSw l3 bl
          clear hSw
          simp only [List.getElem_toArray, List.getElem_cons_zero, List.getElem_cons_succ]
          go_simp
          all_goals with_reducible rfl
        simp only [List.getElem_toArray, List.getElem_cons_zero, List.getElem_cons_succ, Act.put, List.setIfInBounds_toArray, List.set_cons_zero, List.set_cons_succ]
        refine' wpAnyH_take (i := 5) rfl (by kernel_rfl) (by kernel_rfl) (by kernel_rfl) (fun _ _ _ h => h) (Or.inl ⟨by rfl, ?_⟩) hHeld ?_
        rotate_left
        · intro W hSw
          have c1 := frm_cell hSw oc bo
          have c2 := frm_cell hSw q1 br
          have c3 := frm_cell hSw q2 br
          have c4 := frm_cell hSw ac ba
          have c5 := frm_cell hSw l0 bl
          have c6 := frm_cell hSw l1 bl
          have c7 := frm_cell hSw l2 bl
          have c8 := frm_cell hSw l3 bl
          clear hSw
          simp only [List.getElem_toArray, List.getElem_cons_zero, List.getElem_cons_succ]
          go_simp
          all_goals with_reducible rfl
        simp only [List.getElem_toArray, List.getElem_cons_zero, List.getElem_cons_succ, Act.put, List.setIfInBounds_toArray, List.set_cons_zero, List.set_cons_succ]
        refine' wpAnyH_take (i := 6) rfl (by kernel_rfl) (by kernel_rfl) (by kernel_rfl) (fun _ _ _ h => h) (Or.inl ⟨by rfl, ?_⟩) hHeld ?_
        rotate_left
        · intro W hSw
          have c1 := frm_cell hSw oc bo
          have c2 := frm_cell hSw q1 br
          have c3 := frm_cell hSw q2 br
          have c4 := frm_cell hSw ac ba
          have c5 := frm_cell hSw l0 bl
          have c6 := frm_cell hSw l1 bl
          have c7 := frm_cell hSw l2 bl
          have c8 := frm_cell hSw l3 bl
          clear hSw
          simp only [List.getElem_toArray, List.getElem_cons_zero, List.getElem_cons_succ]
          go_simp
          all_goals with_reducible rfl
        simp only [List.getElem_toArray, List.getElem_cons_zero, List.getElem_cons_succ, Act.put, List.setIfInBounds_toArray, List.set_cons_zero, List.set_cons_succ]
        refine' wpAnyH_take (i := 7) rfl (by kernel_rfl) (by kernel_rfl) (by kernel_rfl) (fun _ _ _ h => h) (Or.inl ⟨by rfl, ?_⟩) hHeld ?_
        rotate_left
        · intro W hSw
          have c1 := frm_cell hSw oc bo
          have c2 := frm_cell hSw q1 br
          have c3 := frm_cell hSw q2 br
          have c4 := frm_cell hSw ac ba
          have c5 := frm_cell hSw l0 bl
          have c6 := frm_cell hSw l1 bl
          have c7 := frm_cell hSw l2 bl
          have c8 := frm_cell hSw l3 bl
          clear hSw
          simp only [List.getElem_toArray, List.getElem_cons_zero, List.getElem_cons_succ]
          go_simp
          all_goals with_reducible rfl
        simp only [List.getElem_toArray, List.getElem_cons_zero, List.getElem_cons_succ, Act.put, List.setIfInBounds_toArray, List.set_cons_zero, List.set_cons_succ]
        refine' wpAnyH_take (i := 8) rfl (by kernel_rfl) (by kernel_rfl) (by kernel_rfl) (fun _ _ _ h => h) (Or.inl ⟨by rfl, ?_⟩) hHeld ?_
        rotate_left
        · intro W hSw
          have c1 := frm_cell hSw oc bo
          have c2 := frm_cell hSw q1 br
          have c3 := frm_cell hSw q2 br
          have c4 := frm_cell hSw ac ba
          have c5 := frm_cell hSw l0 bl
          have c6 := frm_cell hSw l1 bl
          have c7 := frm_cell hSw l2 bl
          have c8 := frm_cell hSw l3 bl
          clear hSw
          simp only [List.getElem_toArray, List.getElem_cons_zero, List.getElem_cons_succ]
          go_simp
          all_goals with_reducible rfl
        simp only [List.getElem_toArray, List.getElem_cons_zero, List.getElem_cons_succ, Act.put, List.setIfInBounds_toArray, List.set_cons_zero, List.set_cons_succ]
        refine' wpAnyH_take (i := 9) rfl (by kernel_rfl) (by kernel_rfl) (by kernel_rfl) (fun _ _ _ h => h) (Or.inl ⟨by rfl, ?_⟩) hHeld ?_
        rotate_left
        · intro W hSw
          have c1 := frm_cell hSw oc bo
          have c2 := frm_cell hSw q1 br
          have c3 := frm_cell hSw q2 br
          have c4 := frm_cell hSw ac ba
          have c5 := frm_cell hSw l0 bl
          have c6 := frm_cell hSw l1 bl
          have c7 := frm_cell hSw l2 bl
          have c8 := frm_cell hSw l3 bl
          clear hSw
          simp only [List.getElem_toArray, List.getElem_cons_zero, List.getElem_cons_succ]
          go_simp
          all_goals with_reducible rfl
        simp only [List.getElem_toArray, List.getElem_cons_zero, List.getElem_cons_succ, Act.put, List.setIfInBounds_toArray, List.set_cons_zero, List.set_cons_succ]
        refine' wpAnyH_take (i := 10) rfl (by kernel_rfl) (by kernel_rfl) (by kernel_rfl) (fun _ _ _ h => h) (Or.inl ⟨by rfl, ?_⟩) hHeld ?_
        rotate_left
        · intro W hSw
          have c1 := frm_cell hSw oc bo
          have c2 := frm_cell hSw q1 br
          have c3 := frm_cell hSw q2 br
          have c4 := frm_cell hSw ac ba
          have c5 := frm_cell hSw l0 bl
          have c6 := frm_cell hSw l1 bl
          have c7 := frm_cell hSw l2 bl
          have c8 := frm_cell hSw l3 bl
          clear hSw
          simp only [List.getElem_toArray, List.getElem_cons_zero, List.getElem_cons_succ]
          go_simp
          all_goals with_reducible rfl
        simp only [List.getElem_toArray, List.getElem_cons_zero, List.getElem_cons_succ, Act.put, List.setIfInBounds_toArray, List.set_cons_zero, List.set_cons_succ]
        refine' wpAnyH_take (i := 11) rfl (by kernel_rfl) (by kernel_rfl) (by kernel_rfl) (fun _ _ _ h => h) (Or.inl ⟨by rfl, ?_⟩) hHeld ?_
        rotate_left
        · intro W hSw
          have c1 := frm_cell hSw oc bo
          have c2 := frm_cell hSw q1 br
          have c3 := frm_cell hSw q2 br
          have c4 := frm_cell hSw ac ba
          have c5 := frm_cell hSw l0 bl
          have c6 := frm_cell hSw l1 bl
          have c7 := frm_cell hSw l2 bl
          have c8 := frm_cell hSw l3 bl
          clear hSw
          simp only [List.getElem_toArray, List.getElem_cons_zero, List.getElem_cons_succ]
          go_simp
          all_goals with_reducible rfl
        simp only [List.getElem_toArray, List.getElem_cons_zero, List.getElem_cons_succ, Act.put, List.setIfInBounds_toArray, List.set_cons_zero, List.set_cons_succ]
        refine' wpAnyH_take (i := 12) rfl (by kernel_rfl) (by kernel_rfl) (by kernel_rfl) (fun _ _ _ h => h) (Or.inl ⟨by rfl, ?_⟩) hHeld ?_
        rotate_left
        · intro W hSw
          have c1 := frm_cell hSw oc bo
          have c2 := frm_cell hSw q1 br
          have c3 := frm_cell hSw q2 br
          have c4 := frm_cell hSw ac ba
          have c5 := frm_cell hSw l0 bl
          have c6 := frm_cell hSw l1 bl
          have c7 := frm_cell hSw l2 bl
          have c8 := frm_cell hSw l3 bl
          clear hSw
          simp only [List.getElem_toArray, List.getElem_cons_zero, List.getElem_cons_succ]
          go_simp
          all_goals with_reducible rfl
        simp only [List.getElem_toArray, List.getElem_cons_zero, List.getElem_cons_succ, Act.put, List.setIfInBounds_toArray, List.set_cons_zero, List.set_cons_succ]
        refine' wpAnyH_take (i := 13) rfl (by kernel_rfl) (by kernel_rfl) (by kernel_rfl) (fun _ _ _ h => h) (Or.inl ⟨by rfl, ?_⟩) hHeld ?_
        rotate_left
        · intro W hSw
          have c1 := frm_cell hSw oc bo
          have c2 := frm_cell hSw q1 br
          have c3 := frm_cell hSw q2 br
          have c4 := frm_cell hSw ac ba
          have c5 := frm_cell hSw l0 bl
          have c6 := frm_cell hSw l1 bl
          have c7 := frm_cell hSw l2 bl
          have c8 := frm_cell hSw l3 bl
          clear hSw
          simp only [List.getElem_toArray, List.getElem_cons_zero, List.getElem_cons_succ]
          go_simp
          all_goals with_reducible rfl
        simp only [List.getElem_toArray, List.getElem_cons_zero, List.getElem_cons_succ, Act.put, List.setIfInBounds_toArray, List.set_cons_zero, List.set_cons_succ]
        refine' wpAnyH_take (i := 14) rfl (by kernel_rfl) (by kernel_rfl) (by kernel_rfl) (fun _ _ _ h => h) (Or.inl ⟨by rfl, ?_⟩) hHeld ?_
        rotate_left
        · intro W hSw
          have c1 := frm_cell hSw oc bo
          have c2 := frm_cell hSw q1 br
          have c3 := frm_cell hSw q2 br
          have c4 := frm_cell hSw ac ba
          have c5 := frm_cell hSw l0 bl
          have c6 := frm_cell hSw l1 bl
          have c7 := frm_cell hSw l2 bl
          have c8 := frm_cell hSw l3 bl
          clear hSw
          simp only [List.getElem_toArray, List.getElem_cons_zero, List.getElem_cons_succ]
          go_simp
          all_goals with_reducible rfl
        simp only [List.getElem_toArray, List.getElem_cons_zero, List.getElem_cons_succ, Act.put, List.setIfInBounds_toArray, List.set_cons_zero, List.set_cons_succ]
        refine' wpAnyH_take (i := 15) rfl (by kernel_rfl) (by kernel_rfl) (by kernel_rfl) (fun _ _ _ h => h) (Or.inl ⟨by rfl, ?_⟩) hHeld ?_
        rotate_left
        · intro W hSw
          have c1 := frm_cell hSw oc bo
          have c2 := frm_cell hSw q1 br
          have c3 := frm_cell hSw q2 br
          have c4 := frm_cell hSw ac ba
          have c5 := frm_cell hSw l0 bl
          have c6 := frm_cell hSw l1 bl
          have c7 := frm_cell hSw l2 bl
          have c8 := frm_cell hSw l3 bl
          clear hSw
          simp only [List.getElem_toArray, List.getElem_cons_zero, List.getElem_cons_succ]
          go_simp
          all_goals with_reducible rfl
        simp only [List.getElem_toArray, List.getElem_cons_zero, List.getElem_cons_succ, Act.put, List.setIfInBounds_toArray, List.set_cons_zero, List.set_cons_succ]
        refine' wpAnyH_take (i := 16) rfl (by kernel_rfl) (by kernel_rfl) (by kernel_rfl) (fun _ _ _ h => h) (Or.inl ⟨by rfl, ?_⟩) hHeld ?_
        rotate_left
        · intro W hSw
          have c1 := frm_cell hSw oc bo
          have c2 := frm_cell hSw q1 br
          have c3 := frm_cell hSw q2 br
          have c4 := frm_cell hSw ac ba
          have c5 := frm_cell hSw l0 bl
          have c6 := frm_cell hSw l1 bl
          have c7 := frm_cell hSw l2 bl
          have c8 := frm_cell hSw l3 bl
          clear hSw
          simp only [List.getElem_toArray, List.getElem_cons_zero, List.getElem_cons_succ]
          go_simp
          all_goals with_reducible rfl
        simp only [List.getElem_toArray, List.getElem_cons_zero, List.getElem_cons_succ, Act.put, List.setIfInBounds_toArray, List.set_cons_zero, List.set_cons_succ]
        refine wpAnyH_ready (rs := [17, 22, 23]) (by kernel_rfl) (by simp) ?_
        refine AllReadyH.cons (o := _) rfl (fun K hK => ?_) (AllReadyH.cons (o := _) rfl (fun K hK => ?_) (AllReadyH.cons (o := _) rfl (fun K hK => ?_) AllReadyH.nil))
        · simp only [List.getElem_toArray, List.getElem_cons_zero, List.getElem_cons_succ]
          go_simp
          refine (kst.out X0 hD.out).mono ?_
          rintro e X1 ⟨rfl, fX, dX⟩
          have hH1 := Frm.trans hHeld fX (fun _ _ h => h)
          skip
          skip
          clear hD
          have hD := hid dX
          clear dX fX
          refine hK.out _ _ (hH1) (fun hHeld2 => ?_)
          clear hHeld hK
          have hHeld := hHeld2
          clear hHeld2
          clear hH1
          try simp only [Act.put, List.setIfInBounds_toArray, List.set_cons_zero, List.set_cons_succ]
          refine' wpAnyH_take (i := 18) rfl (by kernel_rfl) (by kernel_rfl) (by kernel_rfl) (fun _ _ _ h => h) (Or.inl ⟨by rfl, ?_⟩) hHeld ?_
          rotate_left
          · intro W hSw
            clear hSw
            simp only [List.getElem_toArray, List.getElem_cons_zero, List.getElem_cons_succ]
            go_simp
            all_goals with_reducible rfl
          simp only [List.getElem_toArray, List.getElem_cons_zero, List.getElem_cons_succ, Act.put, List.setIfInBounds_toArray, List.set_cons_zero, List.set_cons_succ]
          refine' wpAnyH_take (i := 19) rfl (by kernel_rfl) (by kernel_rfl) (by kernel_rfl) (fun _ _ _ h => h) (Or.inl ⟨by rfl, ?_⟩) hHeld ?_
          rotate_left
          · intro W hSw
            clear hSw
            simp only [List.getElem_toArray, List.getElem_cons_zero, List.getElem_cons_succ]
            go_simp
            all_goals with_reducible rfl
          simp only [List.getElem_toArray, List.getElem_cons_zero, List.getElem_cons_succ, Act.put, List.setIfInBounds_toArray, List.set_cons_zero, List.set_cons_succ]
          refine' wpAnyH_take (i := 20) rfl (by kernel_rfl) (by kernel_rfl) (by kernel_rfl) (fun _ _ _ h => h) (Or.inl ⟨by rfl, ?_⟩) hHeld ?_
          rotate_left
          · intro W hSw
            clear hSw
            simp only [List.getElem_toArray, List.getElem_cons_zero, List.getElem_cons_succ]
            go_simp
            all_goals with_reducible rfl
          simp only [List.getElem_toArray, List.getElem_cons_zero, List.getElem_cons_succ, Act.put, List.setIfInBounds_toArray, List.set_cons_zero, List.set_cons_succ]
          refine' wpAnyH_take (i := 21) rfl (by kernel_rfl) (by kernel_rfl) (by kernel_rfl) (fun _ _ _ h => h) (Or.inl ⟨by rfl, ?_⟩) hHeld ?_
          rotate_left
          · intro W hSw
            clear hSw
            simp only [List.getElem_toArray, List.getElem_cons_zero, List.getElem_cons_succ]
            go_simp
            all_goals with_reducible rfl
          simp only [List.getElem_toArray, List.getElem_cons_zero, List.getElem_cons_succ, Act.put, List.setIfInBounds_toArray, List.set_cons_zero, List.set_cons_succ]
          refine wpAnyH_ready (rs := [22, 23]) (by kernel_rfl) (by simp) ?_
          refine AllReadyH.cons (o := _) rfl (fun K hK => ?_) (AllReadyH.cons (o := _) rfl (fun K hK => ?_) AllReadyH.nil)
          · simp only [List.getElem_toArray, List.getElem_cons_zero, List.getElem_cons_succ]
            go_simp
            have fX : Frm (fun k => k = db ∨ k = sb) X1 (X1.alloc (.cells #[.bool false, .int .i64 0, .int .i64 0, .bool false] 134)) := Frm.alloc (Frm.refl _ _) _
            have hH1 := Frm.alloc hHeld (.cells #[.bool false, .int .i64 0, .int .i64 0, .bool false] 134)
            have hDn := hid (hD.out.frm ((Old.refl X1).alloc (.cells #[.bool false, .int .i64 0, .int .i64 0, .bool false] 134)) (fun h => h) (fun h => h))
            have hpn := hid (heap_new X1 (.cells #[.bool false, .int .i64 0, .int .i64 0, .bool false] 134))
            have hpz : Hid (wD.heap.size ≤ X1.heap.size) := hHeld.size
            skip
            clear hD
            have hD := hDn
            have hp := hpn
            clear hDn hpn fX
            refine hK.out _ _ (hH1) (fun hHeld2 => ?_)
            clear hHeld hK
            have hHeld := hHeld2
            clear hHeld2
            clear hH1
            generalize X1.alloc (.cells #[.bool false, .int .i64 0, .int .i64 0, .bool false] 134) = X2 at *
            generalize X1.heap.size = pb at *
            try simp only [Act.put, List.setIfInBounds_toArray, List.set_cons_zero, List.set_cons_succ]
            refine wpAnyH_ready (rs := [23]) (by kernel_rfl) (by simp) ?_
            refine AllReadyH.cons (o := _) rfl (fun K hK => ?_) AllReadyH.nil
            simp only [List.getElem_toArray, List.getElem_cons_zero, List.getElem_cons_succ]
            go_simp
            have fX : Frm (fun k => k = db ∨ k = sb) X2 (X2.alloc (.cells #[.int .i64 0, .bool false, .int .i64 0] 52)) := Frm.alloc (Frm.refl _ _) _
            have hH1 := Frm.alloc hHeld (.cells #[.int .i64 0, .bool false, .int .i64 0] 52)
            have hDn := hid (hD.out.frm ((Old.refl X2).alloc (.cells #[.int .i64 0, .bool false, .int .i64 0] 52)) (fun h => h) (fun h => h))
            have hqn := hid (heap_new X2 (.cells #[.int .i64 0, .bool false, .int .i64 0] 52))
            have hqz : Hid (wD.heap.size ≤ X2.heap.size) := hHeld.size
            have hp := hid ((fX.block pb (Array.getElem?_eq_some_iff.1 hp.out).1 (by have := hpz.out; have := hdl.out; omega)).trans hp.out)
            clear hD
            have hD := hDn
            have hq := hqn
            clear hDn hqn fX
            refine hK.out _ _ (hH1) (fun hHeld2 => ?_)
            clear hHeld hK
            have hHeld := hHeld2
            clear hHeld2
            clear hH1
            generalize X2.alloc (.cells #[.int .i64 0, .bool false, .int .i64 0] 52) = X3 at *
            generalize X2.heap.size = qb at *
            try simp only [Act.put, List.setIfInBounds_toArray, List.set_cons_zero, List.set_cons_succ]
            have hne : pb ≠ qb := fun e => by
              have h3 := hp.out
              rw [e] at h3
              have h4 := h3.symm.trans hq.out
              simp at h4
            obtain ⟨g0, g1, g2, g3, gz⟩ := four_cells hp.out
            have y0' := gz 0
            have y1' := gz 1
            have y2' := gz 2
            have y3' := gz 3
            have hz1 := hpz.out
            have hz2 := hqz.out
            have hdd := hdl.out
            obtain ⟨r1, r2⟩ := set_four (.bool ny) (.int .i64 n1) (.int .i64 n2) (.bool nz) hp.out
            have fX := Frm.setCell (Frm.setCell (Frm.setCell (Frm.setCell hHeld ⟨pb, 0, none⟩ (Or.inl hz1) (.bool ny)) ⟨pb, 1, none⟩ (Or.inl hz1) (.int .i64 n1)) ⟨pb, 2, none⟩ (Or.inl hz1) (.int .i64 n2)) ⟨pb, 3, none⟩ (Or.inl hz1) (.bool nz)
            have hq2 := hid ((r2.block qb (Array.getElem?_eq_some_iff.1 hq.out).1 (fun e => hne e.symm)).trans hq.out)
            have hp2 := hid r1
            have hD2 := hid (hD.out.frm r2 (by omega) (by omega))
            refine wpAnyH_ready (rs := [24]) (by kernel_rfl) (by simp) ?_
            refine AllReadyH.cons (o := _) rfl (fun K hK => ?_) AllReadyH.nil
            simp only [List.getElem_toArray, List.getElem_cons_zero, List.getElem_cons_succ]
            go_simp
            refine hK.out _ _ (fX) (fun hHeld2 => ?_)
            clear hHeld hK
            have hHeld := hHeld2
            clear hHeld2
            clear fX r1 r2 g0 g1 g2 g3 gz y0' y1' y2' y3' hp hq hD
            generalize ((((X3.setCell ⟨pb, 0, none⟩ (.bool ny)).setCell ⟨pb, 1, none⟩ (.int .i64 n1)).setCell ⟨pb, 2, none⟩ (.int .i64 n2)).setCell ⟨pb, 3, none⟩ (.bool nz)) = X4 at *
            try simp only [Act.put, List.setIfInBounds_toArray, List.set_cons_zero, List.set_cons_succ]
            obtain ⟨g0, g1, g2, gz⟩ := three_cells hq2.out
            have y0' := gz 0
            have y1' := gz 1
            have y2' := gz 2
            obtain ⟨r1, r2⟩ := set_three (a' := .int .i64 v) (b' := .bool yy) (c' := .int .i64 0) hq2.out
            have fX := Frm.setCell (Frm.setCell (Frm.setCell hHeld ⟨qb, 0, none⟩ (Or.inl hz2) (.int .i64 v)) ⟨qb, 1, none⟩ (Or.inl hz2) (.bool yy)) ⟨qb, 2, none⟩ (Or.inl hz2) (.int .i64 0)
            have hp3 := hid ((r2.block pb (Array.getElem?_eq_some_iff.1 hp2.out).1 hne).trans hp2.out)
            have hq3 : Hid ((((X4.setCell ⟨qb, 0, none⟩ (.int .i64 v)).setCell ⟨qb, 1, none⟩ (.bool yy)).setCell ⟨qb, 2, none⟩ (.int .i64 0)).heap[qb]? = some (.cells #[.int .i64 v, .bool yy, .int .i64 0] 52 (0, 0))) := by
              have hb := hq2.out
              show _ = _
              simp [World.setCell, Array.getElem?_modify, hb]
            have hD3 := hid (hD2.out.frm r2 (by omega) (by omega))
            refine wpAnyH_ready (rs := [25]) (by kernel_rfl) (by simp) ?_
            refine AllReadyH.cons (o := _) rfl (fun K hK => ?_) AllReadyH.nil
            simp only [List.getElem_toArray, List.getElem_cons_zero, List.getElem_cons_succ]
            go_simp
            refine hK.out _ _ (fX) (fun hHeld2 => ?_)
            clear hHeld hK
            have hHeld := hHeld2
            clear hHeld2
            clear fX r1 r2 g0 g1 g2 gz y0' y1' y2' hp2 hq2 hD2
            generalize (((X4.setCell ⟨qb, 0, none⟩ (.int .i64 v)).setCell ⟨qb, 1, none⟩ (.bool yy)).setCell ⟨qb, 2, none⟩ (.int .i64 0)) = X5 at *
            try simp only [Act.put, List.setIfInBounds_toArray, List.set_cons_zero, List.set_cons_succ]
            refine' wpAnyH_take (i := 26) rfl (by kernel_rfl) (by kernel_rfl) (by kernel_rfl) (fun _ _ _ h => h) (Or.inl ⟨by rfl, ?_⟩) hHeld ?_
            rotate_left
            · intro W hSw
              clear hSw
              simp only [List.getElem_toArray, List.getElem_cons_zero, List.getElem_cons_succ]
              go_simp
              all_goals with_reducible rfl
            simp only [List.getElem_toArray, List.getElem_cons_zero, List.getElem_cons_succ, Act.put, List.setIfInBounds_toArray, List.set_cons_zero, List.set_cons_succ]
            refine wpAnyH_done (by kernel_rfl) ?_ _
            refine NoPanic.normal ?_
            exact ⟨rfl, pb, qb, rfl, hHeld, hp3.out, hq3.out, hz1, hz2, hne, hD3.out⟩
          · simp only [List.getElem_toArray, List.getElem_cons_zero, List.getElem_cons_succ]
            go_simp
            have fX : Frm (fun k => k = db ∨ k = sb) X1 (X1.alloc (.cells #[.int .i64 0, .bool false, .int .i64 0] 52)) := Frm.alloc (Frm.refl _ _) _
            have hH1 := Frm.alloc hHeld (.cells #[.int .i64 0, .bool false, .int .i64 0] 52)
            have hDn := hid (hD.out.frm ((Old.refl X1).alloc (.cells #[.int .i64 0, .bool false, .int .i64 0] 52)) (fun h => h) (fun h => h))
            have hqn := hid (heap_new X1 (.cells #[.int .i64 0, .bool false, .int .i64 0] 52))
            have hqz : Hid (wD.heap.size ≤ X1.heap.size) := hHeld.size
            skip
            clear hD
            have hD := hDn
            have hq := hqn
            clear hDn hqn fX
            refine hK.out _ _ (hH1) (fun hHeld2 => ?_)
            clear hHeld hK
            have hHeld := hHeld2
            clear hHeld2
            clear hH1
            generalize X1.alloc (.cells #[.int .i64 0, .bool false, .int .i64 0] 52) = X2 at *
            generalize X1.heap.size = qb at *
            try simp only [Act.put, List.setIfInBounds_toArray, List.set_cons_zero, List.set_cons_succ]
            refine wpAnyH_ready (rs := [22]) (by kernel_rfl) (by simp) ?_
            refine AllReadyH.cons (o := _) rfl (fun K hK => ?_) AllReadyH.nil
            simp only [List.getElem_toArray, List.getElem_cons_zero, List.getElem_cons_succ]
            go_simp
            have fX : Frm (fun k => k = db ∨ k = sb) X2 (X2.alloc (.cells #[.bool false, .int .i64 0, .int .i64 0, .bool false] 134)) := Frm.alloc (Frm.refl _ _) _
            have hH1 := Frm.alloc hHeld (.cells #[.bool false, .int .i64 0, .int .i64 0, .bool false] 134)
            have hDn := hid (hD.out.frm ((Old.refl X2).alloc (.cells #[.bool false, .int .i64 0, .int .i64 0, .bool false] 134)) (fun h => h) (fun h => h))
            have hpn := hid (heap_new X2 (.cells #[.bool false, .int .i64 0, .int .i64 0, .bool false] 134))
            have hpz : Hid (wD.heap.size ≤ X2.heap.size) := hHeld.size
            have hq := hid ((fX.block qb (Array.getElem?_eq_some_iff.1 hq.out).1 (by have := hqz.out; have := hdl.out; omega)).trans hq.out)
            clear hD
            have hD := hDn
            have hp := hpn
            clear hDn hpn fX
            refine hK.out _ _ (hH1) (fun hHeld2 => ?_)
            clear hHeld hK
            have hHeld := hHeld2
            clear hHeld2
            clear hH1
            generalize X2.alloc (.cells #[.bool false, .int .i64 0, .int .i64 0, .bool false] 134) = X3 at *
            generalize X2.heap.size = pb at *
            try simp only [Act.put, List.setIfInBounds_toArray, List.set_cons_zero, List.set_cons_succ]
            have hne : pb ≠ qb := fun e => by
              have h3 := hp.out
              rw [e] at h3
              have h4 := h3.symm.trans hq.out
              simp at h4
            obtain ⟨g0, g1, g2, g3, gz⟩ := four_cells hp.out
            have y0' := gz 0
            have y1' := gz 1
            have y2' := gz 2
            have y3' := gz 3
            have hz1 := hpz.out
            have hz2 := hqz.out
            have hdd := hdl.out
            obtain ⟨r1, r2⟩ := set_four (.bool ny) (.int .i64 n1) (.int .i64 n2) (.bool nz) hp.out
            have fX := Frm.setCell (Frm.setCell (Frm.setCell (Frm.setCell hHeld ⟨pb, 0, none⟩ (Or.inl hz1) (.bool ny)) ⟨pb, 1, none⟩ (Or.inl hz1) (.int .i64 n1)) ⟨pb, 2, none⟩ (Or.inl hz1) (.int .i64 n2)) ⟨pb, 3, none⟩ (Or.inl hz1) (.bool nz)
            have hq2 := hid ((r2.block qb (Array.getElem?_eq_some_iff.1 hq.out).1 (fun e => hne e.symm)).trans hq.out)
            have hp2 := hid r1
            have hD2 := hid (hD.out.frm r2 (by omega) (by omega))
            refine wpAnyH_ready (rs := [24]) (by kernel_rfl) (by simp) ?_
            refine AllReadyH.cons (o := _) rfl (fun K hK => ?_) AllReadyH.nil
            simp only [List.getElem_toArray, List.getElem_cons_zero, List.getElem_cons_succ]
            go_simp
            refine hK.out _ _ (fX) (fun hHeld2 => ?_)
            clear hHeld hK
            have hHeld := hHeld2
            clear hHeld2
            clear fX r1 r2 g0 g1 g2 g3 gz y0' y1' y2' y3' hp hq hD
            generalize ((((X3.setCell ⟨pb, 0, none⟩ (.bool ny)).setCell ⟨pb, 1, none⟩ (.int .i64 n1)).setCell ⟨pb, 2, none⟩ (.int .i64 n2)).setCell ⟨pb, 3, none⟩ (.bool nz)) = X4 at *
            try simp only [Act.put, List.setIfInBounds_toArray, List.set_cons_zero, List.set_cons_succ]
            obtain ⟨g0, g1, g2, gz⟩ := three_cells hq2.out
            have y0' := gz 0
            have y1' := gz 1
            have y2' := gz 2
            obtain ⟨r1, r2⟩ := set_three (a' := .int .i64 v) (b' := .bool yy) (c' := .int .i64 0) hq2.out
            have fX := Frm.setCell (Frm.setCell (Frm.setCell hHeld ⟨qb, 0, none⟩ (Or.inl hz2) (.int .i64 v)) ⟨qb, 1, none⟩ (Or.inl hz2) (.bool yy)) ⟨qb, 2, none⟩ (Or.inl hz2) (.int .i64 0)
            have hp3 := hid ((r2.block pb (Array.getElem?_eq_some_iff.1 hp2.out).1 hne).trans hp2.out)
            have hq3 : Hid ((((X4.setCell ⟨qb, 0, none⟩ (.int .i64 v)).setCell ⟨qb, 1, none⟩ (.bool yy)).setCell ⟨qb, 2, none⟩ (.int .i64 0)).heap[qb]? = some (.cells #[.int .i64 v, .bool yy, .int .i64 0] 52 (0, 0))) := by
              have hb := hq2.out
              show _ = _
              simp [World.setCell, Array.getElem?_modify, hb]
            have hD3 := hid (hD2.out.frm r2 (by omega) (by omega))
            refine wpAnyH_ready (rs := [25]) (by kernel_rfl) (by simp) ?_
            refine AllReadyH.cons (o := _) rfl (fun K hK => ?_) AllReadyH.nil
            simp only [List.getElem_toArray, List.getElem_cons_zero, List.getElem_cons_succ]
            go_simp
            refine hK.out _ _ (fX) (fun hHeld2 => ?_)
            clear hHeld hK
            have hHeld := hHeld2
            clear hHeld2
            clear fX r1 r2 g0 g1 g2 gz y0' y1' y2' hp2 hq2 hD2
            generalize (((X4.setCell ⟨qb, 0, none⟩ (.int .i64 v)).setCell ⟨qb, 1, none⟩ (.bool yy)).setCell ⟨qb, 2, none⟩ (.int .i64 0)) = X5 at *
            try simp only [Act.put, List.setIfInBounds_toArray, List.set_cons_zero, List.set_cons_succ]
            refine' wpAnyH_take (i := 26) rfl (by kernel_rfl) (by kernel_rfl) (by kernel_rfl) (fun _ _ _ h => h) (Or.inl ⟨by rfl, ?_⟩) hHeld ?_
            rotate_left
            · intro W hSw
              clear hSw
              simp only [List.getElem_toArray, List.getElem_cons_zero, List.getElem_cons_succ]
              go_simp
              all_goals with_reducible rfl
            simp only [List.getElem_toArray, List.getElem_cons_zero, List.getElem_cons_succ, Act.put, List.setIfInBounds_toArray, List.set_cons_zero, List.set_cons_succ]
            refine wpAnyH_done (by kernel_rfl) ?_ _
            refine NoPanic.normal ?_
            exact ⟨rfl, pb, qb, rfl, hHeld, hp3.out, hq3.out, hz1, hz2, hne, hD3.out⟩
        · simp only [List.getElem_toArray, List.getElem_cons_zero, List.getElem_cons_succ]
          go_simp
          have fX : Frm (fun k => k = db ∨ k = sb) X0 (X0.alloc (.cells #[.bool false, .int .i64 0, .int .i64 0, .bool false] 134)) := Frm.alloc (Frm.refl _ _) _
          have hH1 := Frm.alloc hHeld (.cells #[.bool false, .int .i64 0, .int .i64 0, .bool false] 134)
          have hDn := hid (hD.out.frm ((Old.refl X0).alloc (.cells #[.bool false, .int .i64 0, .int .i64 0, .bool false] 134)) (fun h => h) (fun h => h))
          have hpn := hid (heap_new X0 (.cells #[.bool false, .int .i64 0, .int .i64 0, .bool false] 134))
          have hpz : Hid (wD.heap.size ≤ X0.heap.size) := hHeld.size
          skip
          clear hD
          have hD := hDn
          have hp := hpn
          clear hDn hpn fX
          refine hK.out _ _ (hH1) (fun hHeld2 => ?_)
          clear hHeld hK
          have hHeld := hHeld2
          clear hHeld2
          clear hH1
          generalize X0.alloc (.cells #[.bool false, .int .i64 0, .int .i64 0, .bool false] 134) = X1 at *
          generalize X0.heap.size = pb at *
          try simp only [Act.put, List.setIfInBounds_toArray, List.set_cons_zero, List.set_cons_succ]
          refine wpAnyH_ready (rs := [17, 23]) (by kernel_rfl) (by simp) ?_
          refine AllReadyH.cons (o := _) rfl (fun K hK => ?_) (AllReadyH.cons (o := _) rfl (fun K hK => ?_) AllReadyH.nil)
          · simp only [List.getElem_toArray, List.getElem_cons_zero, List.getElem_cons_succ]
            go_simp
            refine (kst.out X1 hD.out).mono ?_
            rintro e X2 ⟨rfl, fX, dX⟩
            have hH1 := Frm.trans hHeld fX (fun _ _ h => h)
            have hp := hid ((fX.block pb (Array.getElem?_eq_some_iff.1 hp.out).1 (by have := hpz.out; have := hdl.out; omega)).trans hp.out)
            skip
            clear hD
            have hD := hid dX
            clear dX fX
            refine hK.out _ _ (hH1) (fun hHeld2 => ?_)
            clear hHeld hK
            have hHeld := hHeld2
            clear hHeld2
            clear hH1
            try simp only [Act.put, List.setIfInBounds_toArray, List.set_cons_zero, List.set_cons_succ]
            refine' wpAnyH_take (i := 18) rfl (by kernel_rfl) (by kernel_rfl) (by kernel_rfl) (fun _ _ _ h => h) (Or.inl ⟨by rfl, ?_⟩) hHeld ?_
            rotate_left
            · intro W hSw
              clear hSw
              simp only [List.getElem_toArray, List.getElem_cons_zero, List.getElem_cons_succ]
              go_simp
              all_goals with_reducible rfl
            simp only [List.getElem_toArray, List.getElem_cons_zero, List.getElem_cons_succ, Act.put, List.setIfInBounds_toArray, List.set_cons_zero, List.set_cons_succ]
            refine' wpAnyH_take (i := 19) rfl (by kernel_rfl) (by kernel_rfl) (by kernel_rfl) (fun _ _ _ h => h) (Or.inl ⟨by rfl, ?_⟩) hHeld ?_
            rotate_left
            · intro W hSw
              clear hSw
              simp only [List.getElem_toArray, List.getElem_cons_zero, List.getElem_cons_succ]
              go_simp
              all_goals with_reducible rfl
            simp only [List.getElem_toArray, List.getElem_cons_zero, List.getElem_cons_succ, Act.put, List.setIfInBounds_toArray, List.set_cons_zero, List.set_cons_succ]
            refine' wpAnyH_take (i := 20) rfl (by kernel_rfl) (by kernel_rfl) (by kernel_rfl) (fun _ _ _ h => h) (Or.inl ⟨by rfl, ?_⟩) hHeld ?_
            rotate_left
            · intro W hSw
              clear hSw
              simp only [List.getElem_toArray, List.getElem_cons_zero, List.getElem_cons_succ]
              go_simp
              all_goals with_reducible rfl
            simp only [List.getElem_toArray, List.getElem_cons_zero, List.getElem_cons_succ, Act.put, List.setIfInBounds_toArray, List.set_cons_zero, List.set_cons_succ]
            refine' wpAnyH_take (i := 21) rfl (by kernel_rfl) (by kernel_rfl) (by kernel_rfl) (fun _ _ _ h => h) (Or.inl ⟨by rfl, ?_⟩) hHeld ?_
            rotate_left
            · intro W hSw
              clear hSw
              simp only [List.getElem_toArray, List.getElem_cons_zero, List.getElem_cons_succ]
              go_simp
              all_goals with_reducible rfl
            simp only [List.getElem_toArray, List.getElem_cons_zero, List.getElem_cons_succ, Act.put, List.setIfInBounds_toArray, List.set_cons_zero, List.set_cons_succ]
            refine wpAnyH_ready (rs := [23]) (by kernel_rfl) (by simp) ?_
            refine AllReadyH.cons (o := _) rfl (fun K hK => ?_) AllReadyH.nil
            simp only [List.getElem_toArray, List.getElem_cons_zero, List.getElem_cons_succ]
            go_simp
            have fX : Frm (fun k => k = db ∨ k = sb) X2 (X2.alloc (.cells #[.int .i64 0, .bool false, .int .i64 0] 52)) := Frm.alloc (Frm.refl _ _) _
            have hH1 := Frm.alloc hHeld (.cells #[.int .i64 0, .bool false, .int .i64 0] 52)
            have hDn := hid (hD.out.frm ((Old.refl X2).alloc (.cells #[.int .i64 0, .bool false, .int .i64 0] 52)) (fun h => h) (fun h => h))
            have hqn := hid (heap_new X2 (.cells #[.int .i64 0, .bool false, .int .i64 0] 52))
            have hqz : Hid (wD.heap.size ≤ X2.heap.size) := hHeld.size
            have hp := hid ((fX.block pb (Array.getElem?_eq_some_iff.1 hp.out).1 (by have := hpz.out; have := hdl.out; omega)).trans hp.out)
            clear hD
            have hD := hDn
            have hq := hqn
            clear hDn hqn fX
            refine hK.out _ _ (hH1) (fun hHeld2 => ?_)
            clear hHeld hK
            have hHeld := hHeld2
            clear hHeld2
            clear hH1
            generalize X2.alloc (.cells #[.int .i64 0, .bool false, .int .i64 0] 52) = X3 at *
            generalize X2.heap.size = qb at *
            try simp only [Act.put, List.setIfInBounds_toArray, List.set_cons_zero, List.set_cons_succ]
            have hne : pb ≠ qb := fun e => by
              have h3 := hp.out
              rw [e] at h3
              have h4 := h3.symm.trans hq.out
              simp at h4
            obtain ⟨g0, g1, g2, g3, gz⟩ := four_cells hp.out
            have y0' := gz 0
            have y1' := gz 1
            have y2' := gz 2
            have y3' := gz 3
            have hz1 := hpz.out
            have hz2 := hqz.out
            have hdd := hdl.out
            obtain ⟨r1, r2⟩ := set_four (.bool ny) (.int .i64 n1) (.int .i64 n2) (.bool nz) hp.out
            have fX := Frm.setCell (Frm.setCell (Frm.setCell (Frm.setCell hHeld ⟨pb, 0, none⟩ (Or.inl hz1) (.bool ny)) ⟨pb, 1, none⟩ (Or.inl hz1) (.int .i64 n1)) ⟨pb, 2, none⟩ (Or.inl hz1) (.int .i64 n2)) ⟨pb, 3, none⟩ (Or.inl hz1) (.bool nz)
            have hq2 := hid ((r2.block qb (Array.getElem?_eq_some_iff.1 hq.out).1 (fun e => hne e.symm)).trans hq.out)
            have hp2 := hid r1
            have hD2 := hid (hD.out.frm r2 (by omega) (by omega))
            refine wpAnyH_ready (rs := [24]) (by kernel_rfl) (by simp) ?_
            refine AllReadyH.cons (o := _) rfl (fun K hK => ?_) AllReadyH.nil
            simp only [List.getElem_toArray, List.getElem_cons_zero, List.getElem_cons_succ]
            go_simp
            refine hK.out _ _ (fX) (fun hHeld2 => ?_)
            clear hHeld hK
            have hHeld := hHeld2
            clear hHeld2
            clear fX r1 r2 g0 g1 g2 g3 gz y0' y1' y2' y3' hp hq hD
            generalize ((((X3.setCell ⟨pb, 0, none⟩ (.bool ny)).setCell ⟨pb, 1, none⟩ (.int .i64 n1)).setCell ⟨pb, 2, none⟩ (.int .i64 n2)).setCell ⟨pb, 3, none⟩ (.bool nz)) = X4 at *
            try simp only [Act.put, List.setIfInBounds_toArray, List.set_cons_zero, List.set_cons_succ]
            obtain ⟨g0, g1, g2, gz⟩ := three_cells hq2.out
            have y0' := gz 0
            have y1' := gz 1
            have y2' := gz 2
            obtain ⟨r1, r2⟩ := set_three (a' := .int .i64 v) (b' := .bool yy) (c' := .int .i64 0) hq2.out
            have fX := Frm.setCell (Frm.setCell (Frm.setCell hHeld ⟨qb, 0, none⟩ (Or.inl hz2) (.int .i64 v)) ⟨qb, 1, none⟩ (Or.inl hz2) (.bool yy)) ⟨qb, 2, none⟩ (Or.inl hz2) (.int .i64 0)
            have hp3 := hid ((r2.block pb (Array.getElem?_eq_some_iff.1 hp2.out).1 hne).trans hp2.out)
            have hq3 : Hid ((((X4.setCell ⟨qb, 0, none⟩ (.int .i64 v)).setCell ⟨qb, 1, none⟩ (.bool yy)).setCell ⟨qb, 2, none⟩ (.int .i64 0)).heap[qb]? = some (.cells #[.int .i64 v, .bool yy, .int .i64 0] 52 (0, 0))) := by
              have hb := hq2.out
              show _ = _
              simp [World.setCell, Array.getElem?_modify, hb]
            have hD3 := hid (hD2.out.frm r2 (by omega) (by omega))
            refine wpAnyH_ready (rs := [25]) (by kernel_rfl) (by simp) ?_
            refine AllReadyH.cons (o := _) rfl (fun K hK => ?_) AllReadyH.nil
            simp only [List.getElem_toArray, List.getElem_cons_zero, List.getElem_cons_succ]
            go_simp
            refine hK.out _ _ (fX) (fun hHeld2 => ?_)
            clear hHeld hK
            have hHeld := hHeld2
            clear hHeld2
            clear fX r1 r2 g0 g1 g2 gz y0' y1' y2' hp2 hq2 hD2
            generalize (((X4.setCell ⟨qb, 0, none⟩ (.int .i64 v)).setCell ⟨qb, 1, none⟩ (.bool yy)).setCell ⟨qb, 2, none⟩ (.int .i64 0)) = X5 at *
            try simp only [Act.put, List.setIfInBounds_toArray, List.set_cons_zero, List.set_cons_succ]
            refine' wpAnyH_take (i := 26) rfl (by kernel_rfl) (by kernel_rfl) (by kernel_rfl) (fun _ _ _ h => h) (Or.inl ⟨by rfl, ?_⟩) hHeld ?_
            rotate_left
            · intro W hSw
              clear hSw
              simp only [List.getElem_toArray, List.getElem_cons_zero, List.getElem_cons_succ]
              go_simp
              all_goals with_reducible rfl
            simp only [List.getElem_toArray, List.getElem_cons_zero, List.getElem_cons_succ, Act.put, List.setIfInBounds_toArray, List.set_cons_zero, List.set_cons_succ]
            refine wpAnyH_done (by kernel_rfl) ?_ _
            refine NoPanic.normal ?_
            exact ⟨rfl, pb, qb, rfl, hHeld, hp3.out, hq3.out, hz1, hz2, hne, hD3.out⟩
          · simp only [List.getElem_toArray, List.getElem_cons_zero, List.getElem_cons_succ]
            go_simp
            have fX : Frm (fun k => k = db ∨ k = sb) X1 (X1.alloc (.cells #[.int .i64 0, .bool false, .int .i64 0] 52)) := Frm.alloc (Frm.refl _ _) _
            have hH1 := Frm.alloc hHeld (.cells #[.int .i64 0, .bool false, .int .i64 0] 52)
            have hDn := hid (hD.out.frm ((Old.refl X1).alloc (.cells #[.int .i64 0, .bool false, .int .i64 0] 52)) (fun h => h) (fun h => h))
            have hqn := hid (heap_new X1 (.cells #[.int .i64 0, .bool false, .int .i64 0] 52))
            have hqz : Hid (wD.heap.size ≤ X1.heap.size) := hHeld.size
            have hp := hid ((fX.block pb (Array.getElem?_eq_some_iff.1 hp.out).1 (by have := hpz.out; have := hdl.out; omega)).trans hp.out)
            clear hD
            have hD := hDn
            have hq := hqn
            clear hDn hqn fX
            refine hK.out _ _ (hH1) (fun hHeld2 => ?_)
            clear hHeld hK
            have hHeld := hHeld2
            clear hHeld2
            clear hH1
            generalize X1.alloc (.cells #[.int .i64 0, .bool false, .int .i64 0] 52) = X2 at *
            generalize X1.heap.size = qb at *
            try simp only [Act.put, List.setIfInBounds_toArray, List.set_cons_zero, List.set_cons_succ]
            refine wpAnyH_ready (rs := [17]) (by kernel_rfl) (by simp) ?_
            refine AllReadyH.cons (o := _) rfl (fun K hK => ?_) AllReadyH.nil
            simp only [List.getElem_toArray, List.getElem_cons_zero, List.getElem_cons_succ]
            go_simp
            refine (kst.out X2 hD.out).mono ?_
            rintro e X3 ⟨rfl, fX, dX⟩
            have hH1 := Frm.trans hHeld fX (fun _ _ h => h)
            have hp := hid ((fX.block pb (Array.getElem?_eq_some_iff.1 hp.out).1 (by have := hpz.out; have := hdl.out; omega)).trans hp.out)
            have hq := hid ((fX.block qb (Array.getElem?_eq_some_iff.1 hq.out).1 (by have := hqz.out; have := hdl.out; omega)).trans hq.out)
            clear hD
            have hD := hid dX
            clear dX fX
            refine hK.out _ _ (hH1) (fun hHeld2 => ?_)
            clear hHeld hK
            have hHeld := hHeld2
            clear hHeld2
            clear hH1
            try simp only [Act.put, List.setIfInBounds_toArray, List.set_cons_zero, List.set_cons_succ]
            refine' wpAnyH_take (i := 18) rfl (by kernel_rfl) (by kernel_rfl) (by kernel_rfl) (fun _ _ _ h => h) (Or.inl ⟨by rfl, ?_⟩) hHeld ?_
            rotate_left
            · intro W hSw
              clear hSw
              simp only [List.getElem_toArray, List.getElem_cons_zero, List.getElem_cons_succ]
              go_simp
              all_goals with_reducible rfl
            simp only [List.getElem_toArray, List.getElem_cons_zero, List.getElem_cons_succ, Act.put, List.setIfInBounds_toArray, List.set_cons_zero, List.set_cons_succ]
            refine' wpAnyH_take (i := 19) rfl (by kernel_rfl) (by kernel_rfl) (by kernel_rfl) (fun _ _ _ h => h) (Or.inl ⟨by rfl, ?_⟩) hHeld ?_
            rotate_left
            · intro W hSw
              clear hSw
              simp only [List.getElem_toArray, List.getElem_cons_zero, List.getElem_cons_succ]
              go_simp
              all_goals with_reducible rfl
            simp only [List.getElem_toArray, List.getElem_cons_zero, List.getElem_cons_succ, Act.put, List.setIfInBounds_toArray, List.set_cons_zero, List.set_cons_succ]
            refine' wpAnyH_take (i := 20) rfl (by kernel_rfl) (by kernel_rfl) (by kernel_rfl) (fun _ _ _ h => h) (Or.inl ⟨by rfl, ?_⟩) hHeld ?_
            rotate_left
            · intro W hSw
              clear hSw
              simp only [List.getElem_toArray, List.getElem_cons_zero, List.getElem_cons_succ]
              go_simp
              all_goals with_reducible rfl
            simp only [List.getElem_toArray, List.getElem_cons_zero, List.getElem_cons_succ, Act.put, List.setIfInBounds_toArray, List.set_cons_zero, List.set_cons_succ]
            refine' wpAnyH_take (i := 21) rfl (by kernel_rfl) (by kernel_rfl) (by kernel_rfl) (fun _ _ _ h => h) (Or.inl ⟨by rfl, ?_⟩) hHeld ?_
            rotate_left
            · intro W hSw
              clear hSw
              simp only [List.getElem_toArray, List.getElem_cons_zero, List.getElem_cons_succ]
              go_simp
              all_goals with_reducible rfl
            simp only [List.getElem_toArray, List.getElem_cons_zero, List.getElem_cons_succ, Act.put, List.setIfInBounds_toArray, List.set_cons_zero, List.set_cons_succ]
            have hne : pb ≠ qb := fun e => by
              have h3 := hp.out
              rw [e] at h3
              have h4 := h3.symm.trans hq.out
              simp at h4
            obtain ⟨g0, g1, g2, g3, gz⟩ := four_cells hp.out
            have y0' := gz 0
            have y1' := gz 1
            have y2' := gz 2
            have y3' := gz 3
            have hz1 := hpz.out
            have hz2 := hqz.out
            have hdd := hdl.out
            obtain ⟨r1, r2⟩ := set_four (.bool ny) (.int .i64 n1) (.int .i64 n2) (.bool nz) hp.out
            have fX := Frm.setCell (Frm.setCell (Frm.setCell (Frm.setCell hHeld ⟨pb, 0, none⟩ (Or.inl hz1) (.bool ny)) ⟨pb, 1, none⟩ (Or.inl hz1) (.int .i64 n1)) ⟨pb, 2, none⟩ (Or.inl hz1) (.int .i64 n2)) ⟨pb, 3, none⟩ (Or.inl hz1) (.bool nz)
            have hq2 := hid ((r2.block qb (Array.getElem?_eq_some_iff.1 hq.out).1 (fun e => hne e.symm)).trans hq.out)
            have hp2 := hid r1
            have hD2 := hid (hD.out.frm r2 (by omega) (by omega))
            refine wpAnyH_ready (rs := [24]) (by kernel_rfl) (by simp) ?_
            refine AllReadyH.cons (o := _) rfl (fun K hK => ?_) AllReadyH.nil
            simp only [List.getElem_toArray, List.getElem_cons_zero, List.getElem_cons_succ]
            go_simp
            refine hK.out _ _ (fX) (fun hHeld2 => ?_)
            clear hHeld hK
            have hHeld := hHeld2
            clear hHeld2
            clear fX r1 r2 g0 g1 g2 g3 gz y0' y1' y2' y3' hp hq hD
            generalize ((((X3.setCell ⟨pb, 0, none⟩ (.bool ny)).setCell ⟨pb, 1, none⟩ (.int .i64 n1)).setCell ⟨pb, 2, none⟩ (.int .i64 n2)).setCell ⟨pb, 3, none⟩ (.bool nz)) = X4 at *
            try simp only [Act.put, List.setIfInBounds_toArray, List.set_cons_zero, List.set_cons_succ]
            obtain ⟨g0, g1, g2, gz⟩ := three_cells hq2.out
            have y0' := gz 0
            have y1' := gz 1
            have y2' := gz 2
            obtain ⟨r1, r2⟩ := set_three (a' := .int .i64 v) (b' := .bool yy) (c' := .int .i64 0) hq2.out
            have fX := Frm.setCell (Frm.setCell (Frm.setCell hHeld ⟨qb, 0, none⟩ (Or.inl hz2) (.int .i64 v)) ⟨qb, 1, none⟩ (Or.inl hz2) (.bool yy)) ⟨qb, 2, none⟩ (Or.inl hz2) (.int .i64 0)
            have hp3 := hid ((r2.block pb (Array.getElem?_eq_some_iff.1 hp2.out).1 hne).trans hp2.out)
            have hq3 : Hid ((((X4.setCell ⟨qb, 0, none⟩ (.int .i64 v)).setCell ⟨qb, 1, none⟩ (.bool yy)).setCell ⟨qb, 2, none⟩ (.int .i64 0)).heap[qb]? = some (.cells #[.int .i64 v, .bool yy, .int .i64 0] 52 (0, 0))) := by
              have hb := hq2.out
              show _ = _
              simp [World.setCell, Array.getElem?_modify, hb]
            have hD3 := hid (hD2.out.frm r2 (by omega) (by omega))
            refine wpAnyH_ready (rs := [25]) (by kernel_rfl) (by simp) ?_
            refine AllReadyH.cons (o := _) rfl (fun K hK => ?_) AllReadyH.nil
            simp only [List.getElem_toArray, List.getElem_cons_zero, List.getElem_cons_succ]
            go_simp
            refine hK.out _ _ (fX) (fun hHeld2 => ?_)
            clear hHeld hK
            have hHeld := hHeld2
            clear hHeld2
            clear fX r1 r2 g0 g1 g2 gz y0' y1' y2' hp2 hq2 hD2
            generalize (((X4.setCell ⟨qb, 0, none⟩ (.int .i64 v)).setCell ⟨qb, 1, none⟩ (.bool yy)).setCell ⟨qb, 2, none⟩ (.int .i64 0)) = X5 at *
            try simp only [Act.put, List.setIfInBounds_toArray, List.set_cons_zero, List.set_cons_succ]
            refine' wpAnyH_take (i := 26) rfl (by kernel_rfl) (by kernel_rfl) (by kernel_rfl) (fun _ _ _ h => h) (Or.inl ⟨by rfl, ?_⟩) hHeld ?_
            rotate_left
            · intro W hSw
              clear hSw
              simp only [List.getElem_toArray, List.getElem_cons_zero, List.getElem_cons_succ]
              go_simp
              all_goals with_reducible rfl
            simp only [List.getElem_toArray, List.getElem_cons_zero, List.getElem_cons_succ, Act.put, List.setIfInBounds_toArray, List.set_cons_zero, List.set_cons_succ]
            refine wpAnyH_done (by kernel_rfl) ?_ _
            refine NoPanic.normal ?_
            exact ⟨rfl, pb, qb, rfl, hHeld, hp3.out, hq3.out, hz1, hz2, hne, hD3.out⟩
        · simp only [List.getElem_toArray, List.getElem_cons_zero, List.getElem_cons_succ]
          go_simp
          have fX : Frm (fun k => k = db ∨ k = sb) X0 (X0.alloc (.cells #[.int .i64 0, .bool false, .int .i64 0] 52)) := Frm.alloc (Frm.refl _ _) _
          have hH1 := Frm.alloc hHeld (.cells #[.int .i64 0, .bool false, .int .i64 0] 52)
          have hDn := hid (hD.out.frm ((Old.refl X0).alloc (.cells #[.int .i64 0, .bool false, .int .i64 0] 52)) (fun h => h) (fun h => h))
          have hqn := hid (heap_new X0 (.cells #[.int .i64 0, .bool false, .int .i64 0] 52))
          have hqz : Hid (wD.heap.size ≤ X0.heap.size) := hHeld.size
          skip
          clear hD
          have hD := hDn
          have hq := hqn
          clear hDn hqn fX
          refine hK.out _ _ (hH1) (fun hHeld2 => ?_)
          clear hHeld hK
          have hHeld := hHeld2
          clear hHeld2
          clear hH1
          generalize X0.alloc (.cells #[.int .i64 0, .bool false, .int .i64 0] 52) = X1 at *
          generalize X0.heap.size = qb at *
          try simp only [Act.put, List.setIfInBounds_toArray, List.set_cons_zero, List.set_cons_succ]
          refine wpAnyH_ready (rs := [17, 22]) (by kernel_rfl) (by simp) ?_
          refine AllReadyH.cons (o := _) rfl (fun K hK => ?_) (AllReadyH.cons (o := _) rfl (fun K hK => ?_) AllReadyH.nil)
          · simp only [List.getElem_toArray, List.getElem_cons_zero, List.getElem_cons_succ]
            go_simp
            refine (kst.out X1 hD.out).mono ?_
            rintro e X2 ⟨rfl, fX, dX⟩
            have hH1 := Frm.trans hHeld fX (fun _ _ h => h)
            have hq := hid ((fX.block qb (Array.getElem?_eq_some_iff.1 hq.out).1 (by have := hqz.out; have := hdl.out; omega)).trans hq.out)
            skip
            clear hD
            have hD := hid dX
            clear dX fX
            refine hK.out _ _ (hH1) (fun hHeld2 => ?_)
            clear hHeld hK
            have hHeld := hHeld2
            clear hHeld2
            clear hH1
            try simp only [Act.put, List.setIfInBounds_toArray, List.set_cons_zero, List.set_cons_succ]
            refine' wpAnyH_take (i := 18) rfl (by kernel_rfl) (by kernel_rfl) (by kernel_rfl) (fun _ _ _ h => h) (Or.inl ⟨by rfl, ?_⟩) hHeld ?_
            rotate_left
            · intro W hSw
              clear hSw
              simp only [List.getElem_toArray, List.getElem_cons_zero, List.getElem_cons_succ]
              go_simp
              all_goals with_reducible rfl
            simp only [List.getElem_toArray, List.getElem_cons_zero, List.getElem_cons_succ, Act.put, List.setIfInBounds_toArray, List.set_cons_zero, List.set_cons_succ]
            refine' wpAnyH_take (i := 19) rfl (by kernel_rfl) (by kernel_rfl) (by kernel_rfl) (fun _ _ _ h => h) (Or.inl ⟨by rfl, ?_⟩) hHeld ?_
            rotate_left
            · intro W hSw
              clear hSw
              simp only [List.getElem_toArray, List.getElem_cons_zero, List.getElem_cons_succ]
              go_simp
              all_goals with_reducible rfl
            simp only [List.getElem_toArray, List.getElem_cons_zero, List.getElem_cons_succ, Act.put, List.setIfInBounds_toArray, List.set_cons_zero, List.set_cons_succ]
            refine' wpAnyH_take (i := 20) rfl (by kernel_rfl) (by kernel_rfl) (by kernel_rfl) (fun _ _ _ h => h) (Or.inl ⟨by rfl, ?_⟩) hHeld ?_
            rotate_left
            · intro W hSw
              clear hSw
              simp only [List.getElem_toArray, List.getElem_cons_zero, List.getElem_cons_succ]
              go_simp
              all_goals with_reducible rfl
            simp only [List.getElem_toArray, List.getElem_cons_zero, List.getElem_cons_succ, Act.put, List.setIfInBounds_toArray, List.set_cons_zero, List.set_cons_succ]
            refine' wpAnyH_take (i := 21) rfl (by kernel_rfl) (by kernel_rfl) (by kernel_rfl) (fun _ _ _ h => h) (Or.inl ⟨by rfl, ?_⟩) hHeld ?_
            rotate_left
            · intro W hSw
              clear hSw
              simp only [List.getElem_toArray, List.getElem_cons_zero, List.getElem_cons_succ]
              go_simp
              all_goals with_reducible rfl
            simp only [List.getElem_toArray, List.getElem_cons_zero, List.getElem_cons_succ, Act.put, List.setIfInBounds_toArray, List.set_cons_zero, List.set_cons_succ]
            refine wpAnyH_ready (rs := [22]) (by kernel_rfl) (by simp) ?_
            refine AllReadyH.cons (o := _) rfl (fun K hK => ?_) AllReadyH.nil
            simp only [List.getElem_toArray, List.getElem_cons_zero, List.getElem_cons_succ]
            go_simp
            have fX : Frm (fun k => k = db ∨ k = sb) X2 (X2.alloc (.cells #[.bool false, .int .i64 0, .int .i64 0, .bool false] 134)) := Frm.alloc (Frm.refl _ _) _
            have hH1 := Frm.alloc hHeld (.cells #[.bool false, .int .i64 0, .int .i64 0, .bool false] 134)
            have hDn := hid (hD.out.frm ((Old.refl X2).alloc (.cells #[.bool false, .int .i64 0, .int .i64 0, .bool false] 134)) (fun h => h) (fun h => h))
            have hpn := hid (heap_new X2 (.cells #[.bool false, .int .i64 0, .int .i64 0, .bool false] 134))
            have hpz : Hid (wD.heap.size ≤ X2.heap.size) := hHeld.size
            have hq := hid ((fX.block qb (Array.getElem?_eq_some_iff.1 hq.out).1 (by have := hqz.out; have := hdl.out; omega)).trans hq.out)
            clear hD
            have hD := hDn
            have hp := hpn
            clear hDn hpn fX
            refine hK.out _ _ (hH1) (fun hHeld2 => ?_)
            clear hHeld hK
            have hHeld := hHeld2
            clear hHeld2
            clear hH1
            generalize X2.alloc (.cells #[.bool false, .int .i64 0, .int .i64 0, .bool false] 134) = X3 at *
            generalize X2.heap.size = pb at *
            try simp only [Act.put, List.setIfInBounds_toArray, List.set_cons_zero, List.set_cons_succ]
            have hne : pb ≠ qb := fun e => by
              have h3 := hp.out
              rw [e] at h3
              have h4 := h3.symm.trans hq.out
              simp at h4
            obtain ⟨g0, g1, g2, g3, gz⟩ := four_cells hp.out
            have y0' := gz 0
            have y1' := gz 1
            have y2' := gz 2
            have y3' := gz 3
            have hz1 := hpz.out
            have hz2 := hqz.out
            have hdd := hdl.out
            obtain ⟨r1, r2⟩ := set_four (.bool ny) (.int .i64 n1) (.int .i64 n2) (.bool nz) hp.out
            have fX := Frm.setCell (Frm.setCell (Frm.setCell (Frm.setCell hHeld ⟨pb, 0, none⟩ (Or.inl hz1) (.bool ny)) ⟨pb, 1, none⟩ (Or.inl hz1) (.int .i64 n1)) ⟨pb, 2, none⟩ (Or.inl hz1) (.int .i64 n2)) ⟨pb, 3, none⟩ (Or.inl hz1) (.bool nz)
            have hq2 := hid ((r2.block qb (Array.getElem?_eq_some_iff.1 hq.out).1 (fun e => hne e.symm)).trans hq.out)
            have hp2 := hid r1
            have hD2 := hid (hD.out.frm r2 (by omega) (by omega))
            refine wpAnyH_ready (rs := [24]) (by kernel_rfl) (by simp) ?_
            refine AllReadyH.cons (o := _) rfl (fun K hK => ?_) AllReadyH.nil
            simp only [List.getElem_toArray, List.getElem_cons_zero, List.getElem_cons_succ]
            go_simp
            refine hK.out _ _ (fX) (fun hHeld2 => ?_)
            clear hHeld hK
            have hHeld := hHeld2
            clear hHeld2
            clear fX r1 r2 g0 g1 g2 g3 gz y0' y1' y2' y3' hp hq hD
            generalize ((((X3.setCell ⟨pb, 0, none⟩ (.bool ny)).setCell ⟨pb, 1, none⟩ (.int .i64 n1)).setCell ⟨pb, 2, none⟩ (.int .i64 n2)).setCell ⟨pb, 3, none⟩ (.bool nz)) = X4 at *
            try simp only [Act.put, List.setIfInBounds_toArray, List.set_cons_zero, List.set_cons_succ]
            obtain ⟨g0, g1, g2, gz⟩ := three_cells hq2.out
            have y0' := gz 0
            have y1' := gz 1
            have y2' := gz 2
            obtain ⟨r1, r2⟩ := set_three (a' := .int .i64 v) (b' := .bool yy) (c' := .int .i64 0) hq2.out
            have fX := Frm.setCell (Frm.setCell (Frm.setCell hHeld ⟨qb, 0, none⟩ (Or.inl hz2) (.int .i64 v)) ⟨qb, 1, none⟩ (Or.inl hz2) (.bool yy)) ⟨qb, 2, none⟩ (Or.inl hz2) (.int .i64 0)
            have hp3 := hid ((r2.block pb (Array.getElem?_eq_some_iff.1 hp2.out).1 hne).trans hp2.out)
            have hq3 : Hid ((((X4.setCell ⟨qb, 0, none⟩ (.int .i64 v)).setCell ⟨qb, 1, none⟩ (.bool yy)).setCell ⟨qb, 2, none⟩ (.int .i64 0)).heap[qb]? = some (.cells #[.int .i64 v, .bool yy, .int .i64 0] 52 (0, 0))) := by
              have hb := hq2.out
              show _ = _
              simp [World.setCell, Array.getElem?_modify, hb]
            have hD3 := hid (hD2.out.frm r2 (by omega) (by omega))
            refine wpAnyH_ready (rs := [25]) (by kernel_rfl) (by simp) ?_
            refine AllReadyH.cons (o := _) rfl (fun K hK => ?_) AllReadyH.nil
            simp only [List.getElem_toArray, List.getElem_cons_zero, List.getElem_cons_succ]
            go_simp
            refine hK.out _ _ (fX) (fun hHeld2 => ?_)
            clear hHeld hK
            have hHeld := hHeld2
            clear hHeld2
            clear fX r1 r2 g0 g1 g2 gz y0' y1' y2' hp2 hq2 hD2
            generalize (((X4.setCell ⟨qb, 0, none⟩ (.int .i64 v)).setCell ⟨qb, 1, none⟩ (.bool yy)).setCell ⟨qb, 2, none⟩ (.int .i64 0)) = X5 at *
            try simp only [Act.put, List.setIfInBounds_toArray, List.set_cons_zero, List.set_cons_succ]
            refine' wpAnyH_take (i := 26) rfl (by kernel_rfl) (by kernel_rfl) (by kernel_rfl) (fun _ _ _ h => h) (Or.inl ⟨by rfl, ?_⟩) hHeld ?_
            rotate_left
            · intro W hSw
              clear hSw
              simp only [List.getElem_toArray, List.getElem_cons_zero, List.getElem_cons_succ]
              go_simp
              all_goals with_reducible rfl
            simp only [List.getElem_toArray, List.getElem_cons_zero, List.getElem_cons_succ, Act.put, List.setIfInBounds_toArray, List.set_cons_zero, List.set_cons_succ]
            refine wpAnyH_done (by kernel_rfl) ?_ _
            refine NoPanic.normal ?_
            exact ⟨rfl, pb, qb, rfl, hHeld, hp3.out, hq3.out, hz1, hz2, hne, hD3.out⟩
          · simp only [List.getElem_toArray, List.getElem_cons_zero, List.getElem_cons_succ]
            go_simp
            have fX : Frm (fun k => k = db ∨ k = sb) X1 (X1.alloc (.cells #[.bool false, .int .i64 0, .int .i64 0, .bool false] 134)) := Frm.alloc (Frm.refl _ _) _
            have hH1 := Frm.alloc hHeld (.cells #[.bool false, .int .i64 0, .int .i64 0, .bool false] 134)
            have hDn := hid (hD.out.frm ((Old.refl X1).alloc (.cells #[.bool false, .int .i64 0, .int .i64 0, .bool false] 134)) (fun h => h) (fun h => h))
            have hpn := hid (heap_new X1 (.cells #[.bool false, .int .i64 0, .int .i64 0, .bool false] 134))
            have hpz : Hid (wD.heap.size ≤ X1.heap.size) := hHeld.size
            have hq := hid ((fX.block qb (Array.getElem?_eq_some_iff.1 hq.out).1 (by have := hqz.out; have := hdl.out; omega)).trans hq.out)
            clear hD
            have hD := hDn
            have hp := hpn
            clear hDn hpn fX
            refine hK.out _ _ (hH1) (fun hHeld2 => ?_)
            clear hHeld hK
            have hHeld := hHeld2
            clear hHeld2
            clear hH1
            generalize X1.alloc (.cells #[.bool false, .int .i64 0, .int .i64 0, .bool false] 134) = X2 at *
            generalize X1.heap.size = pb at *
            try simp only [Act.put, List.setIfInBounds_toArray, List.set_cons_zero, List.set_cons_succ]
            refine wpAnyH_ready (rs := [17]) (by kernel_rfl) (by simp) ?_
            refine AllReadyH.cons (o := _) rfl (fun K hK => ?_) AllReadyH.nil
            simp only [List.getElem_toArray, List.getElem_cons_zero, List.getElem_cons_succ]
            go_simp
            refine (kst.out X2 hD.out).mono ?_
            rintro e X3 ⟨rfl, fX, dX⟩
            have hH1 := Frm.trans hHeld fX (fun _ _ h => h)
            have hp := hid ((fX.block pb (Array.getElem?_eq_some_iff.1 hp.out).1 (by have := hpz.out; have := hdl.out; omega)).trans hp.out)
            have hq := hid ((fX.block qb (Array.getElem?_eq_some_iff.1 hq.out).1 (by have := hqz.out; have := hdl.out; omega)).trans hq.out)
            clear hD
            have hD := hid dX
            clear dX fX
            refine hK.out _ _ (hH1) (fun hHeld2 => ?_)
            clear hHeld hK
            have hHeld := hHeld2
            clear hHeld2
            clear hH1
            try simp only [Act.put, List.setIfInBounds_toArray, List.set_cons_zero, List.set_cons_succ]
            refine' wpAnyH_take (i := 18) rfl (by kernel_rfl) (by kernel_rfl) (by kernel_rfl) (fun _ _ _ h => h) (Or.inl ⟨by rfl, ?_⟩) hHeld ?_
            rotate_left
            · intro W hSw
              clear hSw
              simp only [List.getElem_toArray, List.getElem_cons_zero, List.getElem_cons_succ]
              go_simp
              all_goals with_reducible rfl
            simp only [List.getElem_toArray, List.getElem_cons_zero, List.getElem_cons_succ, Act.put, List.setIfInBounds_toArray, List.set_cons_zero, List.set_cons_succ]
            refine' wpAnyH_take (i := 19) rfl (by kernel_rfl) (by kernel_rfl) (by kernel_rfl) (fun _ _ _ h => h) (Or.inl ⟨by rfl, ?_⟩) hHeld ?_
            rotate_left
            · intro W hSw
              clear hSw
              simp only [List.getElem_toArray, List.getElem_cons_zero, List.getElem_cons_succ]
              go_simp
              all_goals with_reducible rfl
            simp only [List.getElem_toArray, List.getElem_cons_zero, List.getElem_cons_succ, Act.put, List.setIfInBounds_toArray, List.set_cons_zero, List.set_cons_succ]
            refine' wpAnyH_take (i := 20) rfl (by kernel_rfl) (by kernel_rfl) (by kernel_rfl) (fun _ _ _ h => h) (Or.inl ⟨by rfl, ?_⟩) hHeld ?_
            rotate_left
            · intro W hSw
              clear hSw
              simp only [List.getElem_toArray, List.getElem_cons_zero, List.getElem_cons_succ]
              go_simp
              all_goals with_reducible rfl
            simp only [List.getElem_toArray, List.getElem_cons_zero, List.getElem_cons_succ, Act.put, List.setIfInBounds_toArray, List.set_cons_zero, List.set_cons_succ]
            refine' wpAnyH_take (i := 21) rfl (by kernel_rfl) (by kernel_rfl) (by kernel_rfl) (fun _ _ _ h => h) (Or.inl ⟨by rfl, ?_⟩) hHeld ?_
            rotate_left
            · intro W hSw
              clear hSw
              simp only [List.getElem_toArray, List.getElem_cons_zero, List.getElem_cons_succ]
              go_simp
              all_goals with_reducible rfl
            simp only [List.getElem_toArray, List.getElem_cons_zero, List.getElem_cons_succ, Act.put, List.setIfInBounds_toArray, List.set_cons_zero, List.set_cons_succ]
            have hne : pb ≠ qb := fun e => by
              have h3 := hp.out
              rw [e] at h3
              have h4 := h3.symm.trans hq.out
              simp at h4
            obtain ⟨g0, g1, g2, g3, gz⟩ := four_cells hp.out
            have y0' := gz 0
            have y1' := gz 1
            have y2' := gz 2
            have y3' := gz 3
            have hz1 := hpz.out
            have hz2 := hqz.out
            have hdd := hdl.out
            obtain ⟨r1, r2⟩ := set_four (.bool ny) (.int .i64 n1) (.int .i64 n2) (.bool nz) hp.out
            have fX := Frm.setCell (Frm.setCell (Frm.setCell (Frm.setCell hHeld ⟨pb, 0, none⟩ (Or.inl hz1) (.bool ny)) ⟨pb, 1, none⟩ (Or.inl hz1) (.int .i64 n1)) ⟨pb, 2, none⟩ (Or.inl hz1) (.int .i64 n2)) ⟨pb, 3, none⟩ (Or.inl hz1) (.bool nz)
            have hq2 := hid ((r2.block qb (Array.getElem?_eq_some_iff.1 hq.out).1 (fun e => hne e.symm)).trans hq.out)
            have hp2 := hid r1
            have hD2 := hid (hD.out.frm r2 (by omega) (by omega))
            refine wpAnyH_ready (rs := [24]) (by kernel_rfl) (by simp) ?_
            refine AllReadyH.cons (o := _) rfl (fun K hK => ?_) AllReadyH.nil
            simp only [List.getElem_toArray, List.getElem_cons_zero, List.getElem_cons_succ]
            go_simp
            refine hK.out _ _ (fX) (fun hHeld2 => ?_)
            clear hHeld hK
            have hHeld := hHeld2
            clear hHeld2
            clear fX r1 r2 g0 g1 g2 g3 gz y0' y1' y2' y3' hp hq hD
            generalize ((((X3.setCell ⟨pb, 0, none⟩ (.bool ny)).setCell ⟨pb, 1, none⟩ (.int .i64 n1)).setCell ⟨pb, 2, none⟩ (.int .i64 n2)).setCell ⟨pb, 3, none⟩ (.bool nz)) = X4 at *
            try simp only [Act.put, List.setIfInBounds_toArray, List.set_cons_zero, List.set_cons_succ]
            obtain ⟨g0, g1, g2, gz⟩ := three_cells hq2.out
            have y0' := gz 0
            have y1' := gz 1
            have y2' := gz 2
            obtain ⟨r1, r2⟩ := set_three (a' := .int .i64 v) (b' := .bool yy) (c' := .int .i64 0) hq2.out
            have fX := Frm.setCell (Frm.setCell (Frm.setCell hHeld ⟨qb, 0, none⟩ (Or.inl hz2) (.int .i64 v)) ⟨qb, 1, none⟩ (Or.inl hz2) (.bool yy)) ⟨qb, 2, none⟩ (Or.inl hz2) (.int .i64 0)
            have hp3 := hid ((r2.block pb (Array.getElem?_eq_some_iff.1 hp2.out).1 hne).trans hp2.out)
            have hq3 : Hid ((((X4.setCell ⟨qb, 0, none⟩ (.int .i64 v)).setCell ⟨qb, 1, none⟩ (.bool yy)).setCell ⟨qb, 2, none⟩ (.int .i64 0)).heap[qb]? = some (.cells #[.int .i64 v, .bool yy, .int .i64 0] 52 (0, 0))) := by
              have hb := hq2.out
              show _ = _
              simp [World.setCell, Array.getElem?_modify, hb]
            have hD3 := hid (hD2.out.frm r2 (by omega) (by omega))
            refine wpAnyH_ready (rs := [25]) (by kernel_rfl) (by simp) ?_
            refine AllReadyH.cons (o := _) rfl (fun K hK => ?_) AllReadyH.nil
            simp only [List.getElem_toArray, List.getElem_cons_zero, List.getElem_cons_succ]
            go_simp
            refine hK.out _ _ (fX) (fun hHeld2 => ?_)
            clear hHeld hK
            have hHeld := hHeld2
            clear hHeld2
            clear fX r1 r2 g0 g1 g2 gz y0' y1' y2' hp2 hq2 hD2
            generalize (((X4.setCell ⟨qb, 0, none⟩ (.int .i64 v)).setCell ⟨qb, 1, none⟩ (.bool yy)).setCell ⟨qb, 2, none⟩ (.int .i64 0)) = X5 at *
            try simp only [Act.put, List.setIfInBounds_toArray, List.set_cons_zero, List.set_cons_succ]
            refine' wpAnyH_take (i := 26) rfl (by kernel_rfl) (by kernel_rfl) (by kernel_rfl) (fun _ _ _ h => h) (Or.inl ⟨by rfl, ?_⟩) hHeld ?_
            rotate_left
            · intro W hSw
              clear hSw
              simp only [List.getElem_toArray, List.getElem_cons_zero, List.getElem_cons_succ]
              go_simp
              all_goals with_reducible rfl
            simp only [List.getElem_toArray, List.getElem_cons_zero, List.getElem_cons_succ, Act.put, List.setIfInBounds_toArray, List.set_cons_zero, List.set_cons_succ]
            refine wpAnyH_done (by kernel_rfl) ?_ _
            refine NoPanic.normal ?_
            exact ⟨rfl, pb, qb, rfl, hHeld, hp3.out, hq3.out, hz1, hz2, hne, hD3.out⟩
      case hF =>
        rintro pb qb XF ⟨fF, hp, hq, hz1, hz2, hne, hD⟩
        have kDW := hid (kXD.out.frm (M' := i + 1) (s' := (stepS W.s p kd x (W.sn p)).1) fF (fun k hk e => Or.inl (e.elim (fun e => e ▸ td) (fun e => e ▸ ts'))) ⟨sb, hD, td, ts'⟩ (stepS_bnd kXD.out.bnd (sn_five kK.out kF.out kop'.out)) stepS_len.1)
        obtain ⟨s0', s1', s2', s3', -⟩ := four_cells hp
        obtain ⟨u0, u1, u2, uz⟩ := three_cells hq
        replace l0 := frm_cell fF l0 bl
        replace l1 := frm_cell fF l1 bl
        replace l2 := frm_cell fF l2 bl
        replace l3 := frm_cell fF l3 bl
        have z0 := kDW.out.lbz (p * 4)
        have z1 := kDW.out.lbz (p * 4 + 1)
        have z2 := kDW.out.lbz (p * 4 + 2)
        have z3 := kDW.out.lbz (p * 4 + 3)
        have kY := hid (kDW.out.look (k := p) (sn := (stepS W.s p kd x (W.sn p)).2.1) (y := ny) (z := nz) (m1 := n1) (m2 := n2) (by show seenO (curOp O W p).1 _ = _; rw [kop'.out]; exact ksn.out) (by rw [kn.out]; exact hpn))
        have kq := hid hq
        have kqz := hid hz2
        have kU := hid (⟨u0, u1, u2, uz⟩ : XF.cell? ⟨qb, 0, none⟩ = some (.int .i64 v) ∧ XF.cell? ⟨qb, 1, none⟩ = some (.bool yy) ∧ XF.cell? ⟨qb, 2, none⟩ = some (.int .i64 0) ∧ ∀ i, XF.frozen? ⟨qb, i, none⟩ = false)
        have kzF := hid fF
        clear hp hq hz1 hz2 hne hD fF u0 u1 u2 uz oc ac q1 q2 bo br ba
        cases hR : (stepS W.s p kd x (W.sn p)).2.2 with
        | none =>
          obtain rfl : dd = false := by rw [← kdd.out, hR]; rfl
          have kR := hid hR
          clear hR
          go_wp2_with fail
          go_roundw
          case rel =>
            refine ⟨i + 1, by omega, by go_num, ?_⟩
            rw [kS.out, walkStep_none kn.out kk.out kd'.out (by rw [kln.out]; exact hfull) kop.out rfl kR.out]
            exact ⟨τ, kY.out⟩
          case measure => simp [intOf]; omega
        | some a =>
          obtain rfl : dd = true := by rw [← kdd.out, hR]; rfl
          have kR := hid hR
          have ka := hid (kva.out a hR)
          clear hR
          go_upto_region 16 with fail
          obtain ⟨u0, u1, u2, uz⟩ := kU.out
          have fL : Frm (fun q => q = lb) XF ((((XF.setCell ⟨lb, p * 4, none⟩ (.bool ny)).setCell ⟨lb, p * 4 + 1, none⟩ (.int .i64 n1)).setCell ⟨lb, p * 4 + 2, none⟩ (.int .i64 n2)).setCell ⟨lb, p * 4 + 3, none⟩ (.bool nz)) :=
            Frm.setCell (S := fun q => q = lb) (Frm.setCell (S := fun q => q = lb) (Frm.setCell (S := fun q => q = lb) (Frm.setCell (S := fun q => q = lb) (Frm.refl _ XF) ⟨lb, p * 4, none⟩ (Or.inr rfl) _) ⟨lb, p * 4 + 1, none⟩ (Or.inr rfl) _) ⟨lb, p * 4 + 2, none⟩ (Or.inr rfl) _) ⟨lb, p * 4 + 3, none⟩ (Or.inr rfl) _
          have nlq : ¬ qb = lb := fun e => by have := kXD.out.lbl; have := kqz.out; omega
          have hqY := hid ((fL.block qb (Array.getElem?_eq_some_iff.1 kq.out).1 nlq).trans kq.out)
          clear l0 l1 l2 l3 z0 z1 z2 z3 s0' s1' s2' s3' u0 u1 u2 uz
          generalize (((XF.setCell ⟨lb, p * 4, none⟩ (.bool ny)).setCell ⟨lb, p * 4 + 1, none⟩ (.int .i64 n1)).setCell ⟨lb, p * 4 + 2, none⟩ (.int .i64 n2)).setCell ⟨lb, p * 4 + 3, none⟩ (.bool nz) = YA at *
          obtain ⟨u0, u1, u2, uz⟩ := three_cells hqY.out
          have uz2 := uz 2
          have tq : Hid (τ qb = 0) := by
            show τ qb = 0
            by_cases e : τ qb = 0
            · exact e
            · have := (kXD.out.new qb e).2
              have := kqz.out
              omega
          have kZ : Hid (DW w1 (YA.setCell ⟨qb, 2, none⟩ (.int .i64 (i : Int))) τ db ab lb O ⟨(stepS W.s p kd x (W.sn p)).1, setAt W.sn p (stepS W.s p kd x (W.sn p)).2.1, W.out⟩ (i + 1)) := by
            obtain ⟨sb', hd', e1, e2⟩ := kY.out.doc
            have f2 := frm_set YA qb 2 (.int .i64 (i : Int))
            have tq' := tq.out
            have := kqz.out
            have := kXD.out.old.size
            exact kY.out.frm f2 (fun k hk e => Or.inr (by subst e; exact ⟨tq', by omega⟩)) ⟨sb', hd'.frm f2 (fun e => by subst e; omega) (fun e => by subst e; omega), e1, e2⟩ kY.out.bnd rfl
          have n5 : (YA.setCell ⟨qb, 2, none⟩ (.int .i64 (i : Int))).heap[qb]? = some (.cells #[.int .i64 v, .bool yy, .int .i64 (i : Int)] 52 (0, 0)) := by
            have hb := hqY.out
            simp [World.setCell, Array.getElem?_modify, hb]
          have oZ : Hid (w1.heap.size ≤ (YA.setCell ⟨qb, 2, none⟩ (.int .i64 (i : Int))).heap.size) := kZ.out.old.size
          clear uz nlq fL kY hqY
          go_wp2_with fail
          generalize YA.setCell ⟨qb, 2, none⟩ (.int .i64 (i : Int)) = ZA at *
          clear u0 u1 u2 uz2
          obtain ⟨u, uc, uo, ut⟩ := kZ.out.rows p (by rw [kn.out]; exact hpn)
          simp only at uo
          rw [kd'.out] at uo
          obtain ⟨ao5, cap5, rfl⟩ := owns_slice uo
          have kut := hid ut
          have hneq : Hid (∀ q, (Value.slice ao5 d cap5).ownBlock = some q → q ≠ qb ∧ q ≠ ab) := fun q hq => by
            have h8 := ut q hq
            refine ⟨fun e => ?_, fun e => ?_⟩
            · subst e
              have := tq.out
              omega
            · subst e
              have := kXD.out.tab
              omega
          have habq : ab ≠ qb := fun e => by
            have h8 := kXD.out.tab
            rw [e, tq.out] at h8
            omega
          obtain ⟨j0, hj0, hy0, hy1, hy2⟩ := info52p
          refine wp_region_noPanic ?_
          refine wp_region_held_drew (S := fun X => X.heap[qb]? = some (.cells #[.int .i64 v, .bool yy, .int .i64 (i : Int)] 52 (0, 0))) (by kernel_rfl) n5 (fun hHeld => ?_)
          obtain ⟨W0, hW0⟩ : ∃ W0, ZA.drew = W0 := ⟨_, rfl⟩
          have oW0 : Hid (Old ZA W0) := by rw [← hW0]; exact (Old.refl ZA).drewN 1
          rw [hW0] at hHeld ⊢
          have cv := oW0.out.cell uc
          have oWA := hid (oW0.out.alloc (.cells #[.int .i64 v, .bool yy, .int .i64 (i : Int)] 52))
          have cva := oWA.out.cell uc
          have hrow := owns_frm uo oWA.out (fun _ _ h => h)
          have nWA : Hid ((W0.alloc (.cells #[.int .i64 v, .bool yy, .int .i64 (i : Int)] 52)).heap[qb]? = some (.cells #[.int .i64 v, .bool yy, .int .i64 (i : Int)] 52 (0, 0))) := by
            rw [Below.heap_alloc _ _ _ (Array.getElem?_eq_some_iff.1 hHeld).1]; exact hHeld
          have hbs : w1.heap.size ≤ (W0.alloc (.cells #[.int .i64 v, .bool yy, .int .i64 (i : Int)] 52)).heap.size := Nat.le_trans oZ.out oWA.out.size
          clear hW0 uc uo ut n5
          refine' wpAnyH_take (i := 0) rfl (by kernel_rfl) (by kernel_rfl) (by kernel_rfl) (fun _ _ _ h => h) (Or.inl ⟨by rfl, ?_⟩) hHeld ?_
          rotate_left
          · intro W hSw
            clear hSw
            simp only [List.getElem_toArray, List.getElem_cons_zero]
            go_simp
            all_goals with_reducible rfl
          simp only [List.getElem_toArray, List.getElem_cons_zero, Act.put, List.setIfInBounds_toArray, List.set_cons_zero, List.set_cons_succ]
          refine' wpAnyH_take (i := 1) rfl (by kernel_rfl) (by kernel_rfl) (by kernel_rfl) (fun _ _ _ h => h) (Or.inl ⟨by rfl, ?_⟩) hHeld ?_
          rotate_left
          · intro W hSw
            clear hSw
            simp only [List.getElem_toArray, List.getElem_cons_zero, List.getElem_cons_succ]
            go_simp
            all_goals with_reducible rfl
          simp only [List.getElem_toArray, List.getElem_cons_zero, List.getElem_cons_succ, Act.put, List.setIfInBounds_toArray, List.set_cons_zero, List.set_cons_succ]
          refine' wpAnyH_take (i := 2) rfl (by kernel_rfl) (by kernel_rfl) (by kernel_rfl) (fun _ _ _ h => h) (Or.inl ⟨by rfl, ?_⟩) hHeld ?_
          rotate_left
          · intro W hSw
            clear hSw
            simp only [List.getElem_toArray, List.getElem_cons_zero, List.getElem_cons_succ]
            go_simp
            all_goals with_reducible rfl
          simp only [List.getElem_toArray, List.getElem_cons_zero, List.getElem_cons_succ, Act.put, List.setIfInBounds_toArray, List.set_cons_zero, List.set_cons_succ]
          refine' wpAnyH_take (i := 3) rfl (by kernel_rfl) (by kernel_rfl) (by kernel_rfl) (fun _ _ _ h => h) (Or.inl ⟨by rfl, ?_⟩) hHeld ?_
          rotate_left
          · intro W hSw
            clear hSw
            simp only [List.getElem_toArray, List.getElem_cons_zero, List.getElem_cons_succ]
            go_simp
            all_goals with_reducible rfl
          simp only [List.getElem_toArray, List.getElem_cons_zero, List.getElem_cons_succ, Act.put, List.setIfInBounds_toArray, List.set_cons_zero, List.set_cons_succ]
          refine' wpAnyH_take (i := 4) rfl (by kernel_rfl) (by kernel_rfl) (by kernel_rfl) (fun _ _ _ h => h) (Or.inl ⟨by rfl, ?_⟩) hHeld ?_
          rotate_left
          · intro W hSw
            clear hSw
            simp only [List.getElem_toArray, List.getElem_cons_zero, List.getElem_cons_succ]
            go_simp
            all_goals with_reducible rfl
          simp only [List.getElem_toArray, List.getElem_cons_zero, List.getElem_cons_succ, Act.put, List.setIfInBounds_toArray, List.set_cons_zero, List.set_cons_succ]
          refine' wpAnyH_take (i := 6) rfl (by kernel_rfl) (by kernel_rfl) (by kernel_rfl) (fun _ _ _ h => h) (Or.inl ⟨by rfl, ?_⟩) hHeld ?_
          rotate_left
          · intro W hSw
            have hSv : W.heap[qb]? = some (.cells #[.int .i64 v, .bool yy, .int .i64 (i : Int)] 52 (0, 0)) := hSw
            clear hSw
            obtain ⟨c0, c1, c2, _⟩ := three_cells hSv
            simp only [List.getElem_toArray, List.getElem_cons_zero, List.getElem_cons_succ]
            go_simp
            all_goals with_reducible rfl
          simp only [List.getElem_toArray, List.getElem_cons_zero, List.getElem_cons_succ, Act.put, List.setIfInBounds_toArray, List.set_cons_zero, List.set_cons_succ]
          refine wpAnyH_ready (rs := [5, 7]) (by kernel_rfl) (by simp) ?_
          refine AllReadyH.cons (o := _) rfl (fun K hK => ?_) (AllReadyH.cons (o := _) rfl (fun K hK => ?_) AllReadyH.nil)
          · simp only [List.getElem_toArray, List.getElem_cons_zero, List.getElem_cons_succ]
            go_simp
            refine hK.out _ _ hHeld (fun hHeld => ?_)
            clear hK K
            try simp only [Act.put, List.setIfInBounds_toArray, List.set_cons_zero, List.set_cons_succ]
            refine wpAnyH_ready (rs := [7]) (by kernel_rfl) (by simp) ?_
            refine AllReadyH.cons (o := _) rfl (fun K hK => ?_) AllReadyH.nil
            simp only [List.getElem_toArray, List.getElem_cons_zero, List.getElem_cons_succ]
            go_simp
            refine hK.out _ _ nWA.out (fun hHeld => ?_)
            clear hK K
            try simp only [Act.put, List.setIfInBounds_toArray, List.set_cons_zero, List.set_cons_succ]
            refine wpAnyH_ready (rs := [8]) (by kernel_rfl) (by simp) ?_
            refine AllReadyH.cons (o := _) rfl (fun K hK => ?_) AllReadyH.nil
            refine step_append_lies _ (by rfl) _ _ _ (by rfl) w1.heap.size 52 j0 _ 3 24 Try.underlying77 hj0 hy0 hy1 hy2 rfl (by omega) (.slice ao5 d cap5) d (flatA (W.out p)) (by rfl) hrow ⟨W0.heap.size, 0, none⟩ 1 1 [.int .i64 v, .bool yy, .int .i64 (i : Int)] (by rfl) (by rfl) (World.news_of_block (cs := #[.int .i64 v, .bool yy, .int .i64 (i : Int)]) (t := 52) (fr := (0, 0)) (heap_new W0 _)) (by simp [Value.oneCell']) (by omega) (by unfold maxLen; omega) (by omega) hbs (W0.heap.size + 1) (by simp) ?_
            intro g1 cg1 W1 hown1 hgrow1 hat1 hlt1
            have z4 : W1.heap[qb]? = _ := (hgrow1.block qb (Array.getElem?_eq_some_iff.1 nWA.out).1 (fun e => (hneq.out qb e.symm).1 rfl)).trans nWA.out
            refine hK.out _ _ z4 (fun hHeld => ?_)
            clear hK K
            try simp only [Act.put, List.setIfInBounds_toArray]
            refine' wpAnyH_take (i := 9) rfl (by kernel_rfl) (by kernel_rfl) (by kernel_rfl) (fun _ _ _ h => h) (Or.inl ⟨by rfl, ?_⟩) hHeld ?_
            rotate_left
            · intro W hSw
              clear hSw
              simp only [List.getElem_toArray, List.getElem_cons_zero, List.getElem_cons_succ]
              go_simp
              all_goals with_reducible rfl
            simp only [List.getElem_toArray, List.getElem_cons_zero, List.getElem_cons_succ, Act.put, List.setIfInBounds_toArray, List.set_cons_zero, List.set_cons_succ]
            refine wpAnyH_ready (rs := [10]) (by kernel_rfl) (by simp) ?_
            refine AllReadyH.cons (o := _) rfl (fun K hK => ?_) AllReadyH.nil
            have abl := kZ.out.abl
            have fW : Frm (fun q => τ q = 10 + p) ZA W1 := Frm.grown (Frm.mono oWA.out (fun _ _ h => h.elim)) hgrow1 (fun q hq => Or.inr (kut.out q hq))
            have nab : ¬ τ ab = 10 + p := by have := kZ.out.tab; omega
            have y4 : W1.cell? ⟨ab, p, none⟩ = some (.slice ao5 d cap5) := (World.cell?_of_block (hgrow1.block ab (Nat.lt_of_lt_of_le abl oWA.out.size) (fun e => (hneq.out ab e.symm).2 rfl))).trans cva
            have f4 : W1.frozen? ⟨ab, p, none⟩ = false := (frm_frozen fW abl nab p).trans (kZ.out.abz p)
            simp only [List.getElem_toArray, List.getElem_cons_zero, List.getElem_cons_succ]
            go_simp
            have hPX := (kZ.out.olds oWA.out).app (j := p) (a := (v, yy, (i : Int))) (g := g1) (cap := cg1) (by rw [kn.out]; exact hpn) (by show setAt W.sn p _ p = none; rw [stepS_some kR.out]; simp [setAt]) cva kut.out hgrow1 (by simp only [kd'.out]; exact hown1) (hat1.elim Or.inl (fun e => Or.inr (by rw [e]; simp))) hlt1
            obtain ⟨τX, hPX⟩ := hPX
            simp only [kd'.out] at hPX
            have sY : (W1.setCell ⟨ab, p, none⟩ (.slice (some ⟨g1, 0, none⟩) (d + 1) cg1)).heap[qb]? = _ := (Below.heap_setCell W1 ⟨ab, p, none⟩ _ qb (by simp only; omega)).trans z4
            obtain ⟨YB, hYB⟩ : ∃ YB, W1.setCell ⟨ab, p, none⟩ (.slice (some ⟨g1, 0, none⟩) (d + 1) cg1) = YB := ⟨_, rfl⟩
            rw [hYB] at hPX sY ⊢
            refine hK.out _ _ sY (fun _ => ?_)
            clear hK K
            try simp only [Act.put]
            refine wpAnyH_done (by kernel_rfl) ?_ _
            refine NoPanic.normal ?_
            have kPX := hid hPX
            clear hPX sY hYB hown1 hgrow1 hat1 hlt1 z4 y4 f4 fW nab abl hHeld hrow hbs cv cva hy0 hy1 hy2 hj0
            go_wp2_with fail
            go_roundw
            case rel =>
              refine ⟨i + 1, by omega, by go_num, ?_⟩
              rw [kS.out, walkStep_some kn.out kk.out kd'.out (by rw [kln.out]; exact hfull) kop.out rfl kR.out, ka.out, ← stepS_some kR.out]
              exact ⟨τX, kPX.out⟩
            case measure => simp [intOf]; omega
          · simp only [List.getElem_toArray, List.getElem_cons_zero, List.getElem_cons_succ]
            go_simp
            refine hK.out _ _ nWA.out (fun hHeld => ?_)
            clear hK K
            try simp only [Act.put, List.setIfInBounds_toArray, List.set_cons_zero, List.set_cons_succ]
            refine wpAnyH_ready (rs := [5]) (by kernel_rfl) (by simp) ?_
            refine AllReadyH.cons (o := _) rfl (fun K hK => ?_) AllReadyH.nil
            simp only [List.getElem_toArray, List.getElem_cons_zero, List.getElem_cons_succ]
            go_simp
            refine hK.out _ _ hHeld (fun hHeld => ?_)
            clear hK K
            try simp only [Act.put, List.setIfInBounds_toArray, List.set_cons_zero, List.set_cons_succ]
            refine wpAnyH_ready (rs := [8]) (by kernel_rfl) (by simp) ?_
            refine AllReadyH.cons (o := _) rfl (fun K hK => ?_) AllReadyH.nil
            refine step_append_lies _ (by rfl) _ _ _ (by rfl) w1.heap.size 52 j0 _ 3 24 Try.underlying77 hj0 hy0 hy1 hy2 rfl (by omega) (.slice ao5 d cap5) d (flatA (W.out p)) (by rfl) hrow ⟨W0.heap.size, 0, none⟩ 1 1 [.int .i64 v, .bool yy, .int .i64 (i : Int)] (by rfl) (by rfl) (World.news_of_block (cs := #[.int .i64 v, .bool yy, .int .i64 (i : Int)]) (t := 52) (fr := (0, 0)) (heap_new W0 _)) (by simp [Value.oneCell']) (by omega) (by unfold maxLen; omega) (by omega) hbs (W0.heap.size + 1) (by simp) ?_
            intro g1 cg1 W1 hown1 hgrow1 hat1 hlt1
            have z4 : W1.heap[qb]? = _ := (hgrow1.block qb (Array.getElem?_eq_some_iff.1 nWA.out).1 (fun e => (hneq.out qb e.symm).1 rfl)).trans nWA.out
            refine hK.out _ _ z4 (fun hHeld => ?_)
            clear hK K
            try simp only [Act.put, List.setIfInBounds_toArray]
            refine' wpAnyH_take (i := 9) rfl (by kernel_rfl) (by kernel_rfl) (by kernel_rfl) (fun _ _ _ h => h) (Or.inl ⟨by rfl, ?_⟩) hHeld ?_
            rotate_left
            · intro W hSw
              clear hSw
              simp only [List.getElem_toArray, List.getElem_cons_zero, List.getElem_cons_succ]
              go_simp
              all_goals with_reducible rfl
            simp only [List.getElem_toArray, List.getElem_cons_zero, List.getElem_cons_succ, Act.put, List.setIfInBounds_toArray, List.set_cons_zero, List.set_cons_succ]
            refine wpAnyH_ready (rs := [10]) (by kernel_rfl) (by simp) ?_
            refine AllReadyH.cons (o := _) rfl (fun K hK => ?_) AllReadyH.nil
            have abl := kZ.out.abl
            have fW : Frm (fun q => τ q = 10 + p) ZA W1 := Frm.grown (Frm.mono oWA.out (fun _ _ h => h.elim)) hgrow1 (fun q hq => Or.inr (kut.out q hq))
            have nab : ¬ τ ab = 10 + p := by have := kZ.out.tab; omega
            have y4 : W1.cell? ⟨ab, p, none⟩ = some (.slice ao5 d cap5) := (World.cell?_of_block (hgrow1.block ab (Nat.lt_of_lt_of_le abl oWA.out.size) (fun e => (hneq.out ab e.symm).2 rfl))).trans cva
            have f4 : W1.frozen? ⟨ab, p, none⟩ = false := (frm_frozen fW abl nab p).trans (kZ.out.abz p)
            simp only [List.getElem_toArray, List.getElem_cons_zero, List.getElem_cons_succ]
            go_simp
            have hPX := (kZ.out.olds oWA.out).app (j := p) (a := (v, yy, (i : Int))) (g := g1) (cap := cg1) (by rw [kn.out]; exact hpn) (by show setAt W.sn p _ p = none; rw [stepS_some kR.out]; simp [setAt]) cva kut.out hgrow1 (by simp only [kd'.out]; exact hown1) (hat1.elim Or.inl (fun e => Or.inr (by rw [e]; simp))) hlt1
            obtain ⟨τX, hPX⟩ := hPX
            simp only [kd'.out] at hPX
            have sY : (W1.setCell ⟨ab, p, none⟩ (.slice (some ⟨g1, 0, none⟩) (d + 1) cg1)).heap[qb]? = _ := (Below.heap_setCell W1 ⟨ab, p, none⟩ _ qb (by simp only; omega)).trans z4
            obtain ⟨YB, hYB⟩ : ∃ YB, W1.setCell ⟨ab, p, none⟩ (.slice (some ⟨g1, 0, none⟩) (d + 1) cg1) = YB := ⟨_, rfl⟩
            rw [hYB] at hPX sY ⊢
            refine hK.out _ _ sY (fun _ => ?_)
            clear hK K
            try simp only [Act.put]
            refine wpAnyH_done (by kernel_rfl) ?_ _
            refine NoPanic.normal ?_
            have kPX := hid hPX
            clear hPX sY hYB hown1 hgrow1 hat1 hlt1 z4 y4 f4 fW nab abl hHeld hrow hbs cv cva hy0 hy1 hy2 hj0
            go_wp2_with fail
            go_roundw
            case rel =>
              refine ⟨i + 1, by omega, by go_num, ?_⟩
              rw [kS.out, walkStep_some kn.out kk.out kd'.out (by rw [kln.out]; exact hfull) kop.out rfl kR.out, ka.out, ← stepS_some kR.out]
              exact ⟨τX, kPX.out⟩
            case measure => simp [intOf]; omega
    · go_upto_region 12 with fail
      rw [hmp.out hneg]
      clear hneg hmn hmp pc t1 t2 hn0 hnz
      by_cases hfull : d = ln
      · have hb1 : ((d : Int) == (ln : Int)) = true := by simp; omega
        have kX' := hid (kX.out.olds ((Old.refl wr).drewN 1))
        go_wp2_with fail
        go_region
        go_wp2_with fail
        go_roundw
        case rel =>
          refine ⟨i + 1, by omega, by go_num, ?_⟩
          rw [kS.out]
          refine ⟨τ, ?_⟩
          unfold walkStep
          simp only
          rw [kn.out, kk.out, kd'.out, kln.out, if_pos hfull]
          exact kX'.out.bump (by omega)
        case measure => simp [intOf]; omega
      have hb1 : ((d : Int) == (ln : Int)) = false := by simp; omega
      have hdl2 : d < ln := by omega
      go_wp2_with fail
      go_region
      go_wp2_with fail
      obtain ⟨rg, rq, hro, q1, q2, q3⟩ := kops.out d hdl2
      obtain ⟨op, hop⟩ : ∃ op, (O[p]?.getD [])[d]?.getD (0, 0) = op := ⟨_, rfl⟩
      rw [hop] at q1 q2 q3
      have kop := hid hop
      obtain ⟨kd, x⟩ := op
      simp only at q1 q2 q3
      have hrgl := hid (World.block_lt_of_cell? w1 _ q1)
      have hogl := hid (World.block_lt_of_cell? w1 _ koc.out)
      dsimp only [Hid] at hrgl hogl
      replace hrgl := hid hrgl
      replace hogl := hid hogl
      subst hro
      have kop' : Hid (curOp O W p = (kd, x)) := by
        show curOp O W p = (kd, x)
        simp only [curOp, kd'.out]
        exact kop.out
      clear hop q3
      have oD : Old wr wr.drew := (Old.refl wr).drewN 1
      have kXD := hid (kX.out.olds oD)
      replace oc := oD.cell oc
      replace ac := oD.cell ac
      generalize wr.drew = wD at *
      replace q1 := kXD.out.old.cell q1
      replace q2 := kXD.out.old.cell q2
      obtain ⟨sb, hdX, td, ts'⟩ := kXD.out.doc
      obtain ⟨y0, m1, m2, z0, hv, l0, l1, l2, l3⟩ := kXD.out.lks p (by rw [kn.out]; exact hpn)
      rw [kop'.out] at hv
      obtain ⟨ny, n1, n2, nz, v, yy, dd, hsv, hsn, hdd, hva⟩ := stepV_form kd (stepS W.s p kd x (W.sn p))
      have kst : Hid (∀ X, DocX X db sb W.s → Calls Try.prog 47 #[.pointer (some ⟨db, 0, none⟩), .int .i64 p, .agg #[.int .i64 kd, .int .i64 x], .agg #[.bool y0, .int .i64 m1, .int .i64 m2, .bool z0]] X fun e X' => e = .returned (.tuple #[.agg #[.bool ny, .int .i64 n1, .int .i64 n2, .bool nz], .agg #[.int .i64 v, .bool yy, .int .i64 0], .bool dd]) ∧ Frm (fun q => q = db ∨ q = sb) X X' ∧ DocX X' db sb (stepS W.s p kd x (W.sn p)).1) := by
        intro X hDX
        have h9 := dstep_any db sb p kd x W.s i (W.sn p) X hDX (by rw [kXD.out.len, kn.out]; exact hpn) kXD.out.bnd (by omega) (fun q hq => by have := kF.out p q hq; rw [kop'.out] at this; exact this) (fun e => by have := kK.out p _ e W.s rfl; rw [kop'.out] at this; exact this rfl)
        rw [hv, hsv] at h9
        exact h9
      have ksn := hid hsn
      have kdd := hid hdd
      have kva := hid hva
      have td1 := (kXD.out.new db (by rw [td]; omega)).1
      have ts1 := (kXD.out.new sb (by rw [ts']; omega)).1
      have bo : ¬ (og = db ∨ og = sb) := by have := hogl.out; omega
      have br : ¬ (rg = db ∨ rg = sb) := by have := hrgl.out; omega
      have ba : ¬ (ab = db ∨ ab = sb) := fun e => by have := kXD.out.tab; rcases e with rfl | rfl <;> omega
      have bl : ¬ (lb = db ∨ lb = sb) := fun e => by have := kXD.out.tlb; rcases e with rfl | rfl <;> omega
      have hdl := hid hdX.lt
      have khdX := hid hdX
      clear hsv hv hsn hdd hva hdX td1 ts1 kX oD
      apply region_mid (T := fun pb qb XF => Frm (fun k => k = db ∨ k = sb) wD XF ∧ XF.heap[pb]? = some (.cells #[.bool ny, .int .i64 n1, .int .i64 n2, .bool nz] 134 (0, 0)) ∧ XF.heap[qb]? = some (.cells #[.int .i64 v, .bool yy, .int .i64 0] 52 (0, 0)) ∧ wD.heap.size ≤ pb ∧ wD.heap.size ≤ qb ∧ pb ≠ qb ∧ DocX XF db sb (stepS W.s p kd x (W.sn p)).1)
      case h =>
        refine wp_region_noPanic ?_
        refine wp_region_held_drew (S := fun X => Frm (fun k => k = db ∨ k = sb) wD X) (by kernel_rfl) ((Frm.refl _ wD).drewN 1) (fun hHeld => ?_)
        have hD : Hid (DocX wD.drew db sb W.s) := khdX.out.frm ((Old.refl wD).drewN 1) (fun h => h) (fun h => h)
        generalize wD.drew = X0 at *
        refine' wpAnyH_take (i := 0) rfl (by kernel_rfl) (by kernel_rfl) (by kernel_rfl) (fun _ _ _ h => h) (Or.inl ⟨by rfl, ?_⟩) hHeld ?_
        rotate_left
        · intro W hSw
          have c1 := frm_cell hSw oc bo
          have c2 := frm_cell hSw q1 br
          have c3 := frm_cell hSw q2 br
          have c4 := frm_cell hSw ac ba
          have c5 := frm_cell hSw l0 bl
          have c6 := frm_cell hSw l1 bl
          have c7 := frm_cell hSw l2 bl
          have c8 := frm_cell hSw l3 bl
          clear hSw
          simp only [List.getElem_toArray, List.getElem_cons_zero]
          go_simp
          all_goals with_reducible rfl
        simp only [List.getElem_toArray, List.getElem_cons_zero, Act.put, List.setIfInBounds_toArray, List.set_cons_zero, List.set_cons_succ]
        refine' wpAnyH_take (i := 1) rfl (by kernel_rfl) (by kernel_rfl) (by kernel_rfl) (fun _ _ _ h => h) (Or.inl ⟨by rfl, ?_⟩) hHeld ?_
        rotate_left
        · intro W hSw
          have c1 := frm_cell hSw oc bo
          have c2 := frm_cell hSw q1 br
          have c3 := frm_cell hSw q2 br
          have c4 := frm_cell hSw ac ba
          have c5 := frm_cell hSw l0 bl
          have c6 := frm_cell hSw l1 bl
          have c7 := frm_cell hSw l2 bl
          have c8 := frm_cell hSw l3 bl
          clear hSw
          simp only [List.getElem_toArray, List.getElem_cons_zero, List.getElem_cons_succ]
          go_simp
          all_goals with_reducible rfl
        simp only [List.getElem_toArray, List.getElem_cons_zero, List.getElem_cons_succ, Act.put, List.setIfInBounds_toArray, List.set_cons_zero, List.set_cons_succ]
        refine' wpAnyH_take (i := 2) rfl (by kernel_rfl) (by kernel_rfl) (by kernel_rfl) (fun _ _ _ h => h) (Or.inl ⟨by rfl, ?_⟩) hHeld ?_
        rotate_left
        · intro W hSw
          have c1 := frm_cell hSw oc bo
          have c2 := frm_cell hSw q1 br
          have c3 := frm_cell hSw q2 br
          have c4 := frm_cell hSw ac ba
          have c5 := frm_cell hSw l0 bl
          have c6 := frm_cell hSw l1 bl
          have c7 := frm_cell hSw l2 bl
          have c8 := frm_cell hSw l3 bl
          clear hSw
          simp only [List.getElem_toArray, List.getElem_cons_zero, List.getElem_cons_succ]
          go_simp
          all_goals with_reducible rfl
        simp only [List.getElem_toArray, List.getElem_cons_zero, List.getElem_cons_succ, Act.put, List.setIfInBounds_toArray, List.set_cons_zero, List.set_cons_succ]
        refine' wpAnyH_take (i := 3) rfl (by kernel_rfl) (by kernel_rfl) (by kernel_rfl) (fun _ _ _ h => h) (Or.inl ⟨by rfl, ?_⟩) hHeld ?_
        rotate_left
        · intro W hSw
          have c1 := frm_cell hSw oc bo
          have c2 := frm_cell hSw q1 br
          have c3 := frm_cell hSw q2 br
          have c4 := frm_cell hSw ac ba
          have c5 := frm_cell hSw l0 bl
          have c6 := frm_cell hSw l1 bl
          have c7 := frm_cell hSw l2 bl
          have c8 := frm_cell hSw l3 bl
          clear hSw
          simp only [List.getElem_toArray, List.getElem_cons_zero, List.getElem_cons_succ]
          go_simp
          all_goals with_reducible rfl
        simp only [List.getElem_toArray, List.getElem_cons_zero, List.getElem_cons_succ, Act.put, List.setIfInBounds_toArray, List.set_cons_zero, List.set_cons_succ]
        refine' wpAnyH_take (i := 4) rfl (by kernel_rfl) (by kernel_rfl) (by kernel_rfl) (fun _ _ _ h => h) (Or.inl ⟨by rfl, ?_⟩) hHeld ?_
        rotate_left
        · intro W hSw
          have c1 := frm_cell hSw oc bo
          have c2 := frm_cell hSw q1 br
          have c3 := frm_cell hSw q2 br
          have c4 := frm_cell hSw ac ba
          have c5 := frm_cell hSw l0 bl
          have c6 := frm_cell hSw l1 bl
          have c7 := frm_cell hSw l2 bl
          have c8 := frm_cell hSw l3 bl
          clear hSw
          simp only [List.getElem_toArray, List.getElem_cons_zero, List.getElem_cons_succ]
          go_simp
          all_goals with_reducible rfl
        simp only [List.getElem_toArray, List.getElem_cons_zero, List.getElem_cons_succ, Act.put, List.setIfInBounds_toArray, List.set_cons_zero, List.set_cons_succ]
        refine' wpAnyH_take (i := 5) rfl (by kernel_rfl) (by kernel_rfl) (by kernel_rfl) (fun _ _ _ h => h) (Or.inl ⟨by rfl, ?_⟩) hHeld ?_
        rotate_left
        · intro W hSw
          have c1 := frm_cell hSw oc bo
          have c2 := frm_cell hSw q1 br
          have c3 := frm_cell hSw q2 br
          have c4 := frm_cell hSw ac ba
          have c5 := frm_cell hSw l0 bl
          have c6 := frm_cell hSw l1 bl
          have c7 := frm_cell hSw l2 bl
          have c8 := frm_cell hSw l3 bl
          clear hSw
          simp only [List.getElem_toArray, List.getElem_cons_zero, List.getElem_cons_succ]
          go_simp
          all_goals with_reducible rfl
        simp only [List.getElem_toArray, List.getElem_cons_zero, List.getElem_cons_succ, Act.put, List.setIfInBounds_toArray, List.set_cons_zero, List.set_cons_succ]
        refine' wpAnyH_take (i := 6) rfl (by kernel_rfl) (by kernel_rfl) (by kernel_rfl) (fun _ _ _ h => h) (Or.inl ⟨by rfl, ?_⟩) hHeld ?_
        rotate_left
        · intro W hSw
          have c1 := frm_cell hSw oc bo
          have c2 := frm_cell hSw q1 br
          have c3 := frm_cell hSw q2 br
          have c4 := frm_cell hSw ac ba
          have c5 := frm_cell hSw l0 bl
          have c6 := frm_cell hSw l1 bl
          have c7 := frm_cell hSw l2 bl
          have c8 := frm_cell hSw l3 bl
          clear hSw
          simp only [List.getElem_toArray, List.getElem_cons_zero, List.getElem_cons_succ]
          go_simp
          all_goals with_reducible rfl
        simp only [List.getElem_toArray, List.getElem_cons_zero, List.getElem_cons_succ, Act.put, List.setIfInBounds_toArray, List.set_cons_zero, List.set_cons_succ]
        refine' wpAnyH_take (i := 7) rfl (by kernel_rfl) (by kernel_rfl) (by kernel_rfl) (fun _ _ _ h => h) (Or.inl ⟨by rfl, ?_⟩) hHeld ?_
        rotate_left
        · intro W hSw
          have c1 := frm_cell hSw oc bo
          have c2 := frm_cell hSw q1 br
          have c3 := frm_cell hSw q2 br
          have c4 := frm_cell hSw ac ba
          have c5 := frm_cell hSw l0 bl
          have c6 := frm_cell hSw l1 bl
          have c7 := frm_cell hSw l2 bl
          have c8 := frm_cell hSw l3 bl
          clear hSw
          simp only [List.getElem_toArray, List.getElem_cons_zero, List.getElem_cons_succ]
          go_simp
          all_goals with_reducible rfl
        simp only [List.getElem_toArray, List.getElem_cons_zero, List.getElem_cons_succ, Act.put, List.setIfInBounds_toArray, List.set_cons_zero, List.set_cons_succ]
        refine' wpAnyH_take (i := 8) rfl (by kernel_rfl) (by kernel_rfl) (by kernel_rfl) (fun _ _ _ h => h) (Or.inl ⟨by rfl, ?_⟩) hHeld ?_
        rotate_left
        · intro W hSw
          have c1 := frm_cell hSw oc bo
          have c2 := frm_cell hSw q1 br
          have c3 := frm_cell hSw q2 br
          have c4 := frm_cell hSw ac ba
          have c5 := frm_cell hSw l0 bl
          have c6 := frm_cell hSw l1 bl
          have c7 := frm_cell hSw l2 bl
          have c8 := frm_cell hSw l3 bl
          clear hSw
          simp only [List.getElem_toArray, List.getElem_cons_zero, List.getElem_cons_succ]
          go_simp
          all_goals with_reducible rfl
        simp only [List.getElem_toArray, List.getElem_cons_zero, List.getElem_cons_succ, Act.put, List.setIfInBounds_toArray, List.set_cons_zero, List.set_cons_succ]
        refine' wpAnyH_take (i := 9) rfl (by kernel_rfl) (by kernel_rfl) (by kernel_rfl) (fun _ _ _ h => h) (Or.inl ⟨by rfl, ?_⟩) hHeld ?_
        rotate_left
        · intro W hSw
          have c1 := frm_cell hSw oc bo
          have c2 := frm_cell hSw q1 br
          have c3 := frm_cell hSw q2 br
          have c4 := frm_cell hSw ac ba
          have c5 := frm_cell hSw l0 bl
          have c6 := frm_cell hSw l1 bl
          have c7 := frm_cell hSw l2 bl
          have c8 := frm_cell hSw l3 bl
          clear hSw
          simp only [List.getElem_toArray, List.getElem_cons_zero, List.getElem_cons_succ]
          go_simp
          all_goals with_reducible rfl
        simp only [List.getElem_toArray, List.getElem_cons_zero, List.getElem_cons_succ, Act.put, List.setIfInBounds_toArray, List.set_cons_zero, List.set_cons_succ]
        refine' wpAnyH_take (i := 10) rfl (by kernel_rfl) (by kernel_rfl) (by kernel_rfl) (fun _ _ _ h => h) (Or.inl ⟨by rfl, ?_⟩) hHeld ?_
        rotate_left
        · intro W hSw
          have c1 := frm_cell hSw oc bo
          have c2 := frm_cell hSw q1 br
          have c3 := frm_cell hSw q2 br
          have c4 := frm_cell hSw ac ba
          have c5 := frm_cell hSw l0 bl
          have c6 := frm_cell hSw l1 bl
          have c7 := frm_cell hSw l2 bl
          have c8 := frm_cell hSw l3 bl
          clear hSw
          simp only [List.getElem_toArray, List.getElem_cons_zero, List.getElem_cons_succ]
          go_simp
          all_goals with_reducible rfl
        simp only [List.getElem_toArray, List.getElem_cons_zero, List.getElem_cons_succ, Act.put, List.setIfInBounds_toArray, List.set_cons_zero, List.set_cons_succ]
        refine' wpAnyH_take (i := 11) rfl (by kernel_rfl) (by kernel_rfl) (by kernel_rfl) (fun _ _ _ h => h) (Or.inl ⟨by rfl, ?_⟩) hHeld ?_
        rotate_left
        · intro W hSw
          have c1 := frm_cell hSw oc bo
          have c2 := frm_cell hSw q1 br
          have c3 := frm_cell hSw q2 br
          have c4 := frm_cell hSw ac ba
          have c5 := frm_cell hSw l0 bl
          have c6 := frm_cell hSw l1 bl
          have c7 := frm_cell hSw l2 bl
          have c8 := frm_cell hSw l3 bl
          clear hSw
          simp only [List.getElem_toArray, List.getElem_cons_zero, List.getElem_cons_succ]
          go_simp
          all_goals with_reducible rfl
        simp only [List.getElem_toArray, List.getElem_cons_zero, List.getElem_cons_succ, Act.put, List.setIfInBounds_toArray, List.set_cons_zero, List.set_cons_succ]
        refine' wpAnyH_take (i := 12) rfl (by kernel_rfl) (by kernel_rfl) (by kernel_rfl) (fun _ _ _ h => h) (Or.inl ⟨by rfl, ?_⟩) hHeld ?_
        rotate_left
        · intro W hSw
          have c1 := frm_cell hSw oc bo
          have c2 := frm_cell hSw q1 br
          have c3 := frm_cell hSw q2 br
          have c4 := frm_cell hSw ac ba
          have c5 := frm_cell hSw l0 bl
          have c6 := frm_cell hSw l1 bl
          have c7 := frm_cell hSw l2 bl
          have c8 := frm_cell hSw l3 bl
          clear hSw
          simp only [List.getElem_toArray, List.getElem_cons_zero, List.getElem_cons_succ]
          go_simp
          all_goals with_reducible rfl
        simp only [List.getElem_toArray, List.getElem_cons_zero, List.getElem_cons_succ, Act.put, List.setIfInBounds_toArray, List.set_cons_zero, List.set_cons_succ]
        refine' wpAnyH_take (i := 13) rfl (by kernel_rfl) (by kernel_rfl) (by kernel_rfl) (fun _ _ _ h => h) (Or.inl ⟨by rfl, ?_⟩) hHeld ?_
        rotate_left
        · intro W hSw
          have c1 := frm_cell hSw oc bo
          have c2 := frm_cell hSw q1 br
          have c3 := frm_cell hSw q2 br
          have c4 := frm_cell hSw ac ba
          have c5 := frm_cell hSw l0 bl
          have c6 := frm_cell hSw l1 bl
          have c7 := frm_cell hSw l2 bl
          have c8 := frm_cell hSw l3 bl
          clear hSw
          simp only [List.getElem_toArray, List.getElem_cons_zero, List.getElem_cons_succ]
          go_simp
          all_goals with_reducible rfl
        simp only [List.getElem_toArray, List.getElem_cons_zero, List.getElem_cons_succ, Act.put, List.setIfInBounds_toArray, List.set_cons_zero, List.set_cons_succ]
        refine' wpAnyH_take (i := 14) rfl (by kernel_rfl) (by kernel_rfl) (by kernel_rfl) (fun _ _ _ h => h) (Or.inl ⟨by rfl, ?_⟩) hHeld ?_
        rotate_left
        · intro W hSw
          have c1 := frm_cell hSw oc bo
          have c2 := frm_cell hSw q1 br
          have c3 := frm_cell hSw q2 br
          have c4 := frm_cell hSw ac ba
          have c5 := frm_cell hSw l0 bl
          have c6 := frm_cell hSw l1 bl
          have c7 := frm_cell hSw l2 bl
          have c8 := frm_cell hSw l3 bl
          clear hSw
          simp only [List.getElem_toArray, List.getElem_cons_zero, List.getElem_cons_succ]
          go_simp
          all_goals with_reducible rfl
        simp only [List.getElem_toArray, List.getElem_cons_zero, List.getElem_cons_succ, Act.put, List.setIfInBounds_toArray, List.set_cons_zero, List.set_cons_succ]
        refine' wpAnyH_take (i := 15) rfl (by kernel_rfl) (by kernel_rfl) (by kernel_rfl) (fun _ _ _ h => h) (Or.inl ⟨by rfl, ?_⟩) hHeld ?_
        rotate_left
        · intro W hSw
          have c1 := frm_cell hSw oc bo
          have c2 := frm_cell hSw q1 br
          have c3 := frm_cell hSw q2 br
          have c4 := frm_cell hSw ac ba
          have c5 := frm_cell hSw l0 bl
          have c6 := frm_cell hSw l1 bl
          have c7 := frm_cell hSw l2 bl
          have c8 := frm_cell hSw l3 bl
          clear hSw
          simp only [List.getElem_toArray, List.getElem_cons_zero, List.getElem_cons_succ]
          go_simp
          all_goals with_reducible rfl
        simp only [List.getElem_toArray, List.getElem_cons_zero, List.getElem_cons_succ, Act.put, List.setIfInBounds_toArray, List.set_cons_zero, List.set_cons_succ]
        refine' wpAnyH_take (i := 16) rfl (by kernel_rfl) (by kernel_rfl) (by kernel_rfl) (fun _ _ _ h => h) (Or.inl ⟨by rfl, ?_⟩) hHeld ?_
        rotate_left
        · intro W hSw
          have c1 := frm_cell hSw oc bo
          have c2 := frm_cell hSw q1 br
          have c3 := frm_cell hSw q2 br
          have c4 := frm_cell hSw ac ba
          have c5 := frm_cell hSw l0 bl
          have c6 := frm_cell hSw l1 bl
          have c7 := frm_cell hSw l2 bl
          have c8 := frm_cell hSw l3 bl
          clear hSw
          simp only [List.getElem_toArray, List.getElem_cons_zero, List.getElem_cons_succ]
          go_simp
          all_goals with_reducible rfl
        simp only [List.getElem_toArray, List.getElem_cons_zero, List.getElem_cons_succ, Act.put, List.setIfInBounds_toArray, List.set_cons_zero, List.set_cons_succ]
        refine wpAnyH_ready (rs := [17, 22, 23]) (by kernel_rfl) (by simp) ?_
        refine AllReadyH.cons (o := _) rfl (fun K hK => ?_) (AllReadyH.cons (o := _) rfl (fun K hK => ?_) (AllReadyH.cons (o := _) rfl (fun K hK => ?_) AllReadyH.nil))
        · simp only [List.getElem_toArray, List.getElem_cons_zero, List.getElem_cons_succ]
          go_simp
          refine (kst.out X0 hD.out).mono ?_
          rintro e X1 ⟨rfl, fX, dX⟩
          have hH1 := Frm.trans hHeld fX (fun _ _ h => h)
          skip
          skip
          clear hD
          have hD := hid dX
          clear dX fX
          refine hK.out _ _ (hH1) (fun hHeld2 => ?_)
          clear hHeld hK
          have hHeld := hHeld2
          clear hHeld2
          clear hH1
          try simp only [Act.put, List.setIfInBounds_toArray, List.set_cons_zero, List.set_cons_succ]
          refine' wpAnyH_take (i := 18) rfl (by kernel_rfl) (by kernel_rfl) (by kernel_rfl) (fun _ _ _ h => h) (Or.inl ⟨by rfl, ?_⟩) hHeld ?_
          rotate_left
          · intro W hSw
            clear hSw
            simp only [List.getElem_toArray, List.getElem_cons_zero, List.getElem_cons_succ]
            go_simp
            all_goals with_reducible rfl
          simp only [List.getElem_toArray, List.getElem_cons_zero, List.getElem_cons_succ, Act.put, List.setIfInBounds_toArray, List.set_cons_zero, List.set_cons_succ]
          refine' wpAnyH_take (i := 19) rfl (by kernel_rfl) (by kernel_rfl) (by kernel_rfl) (fun _ _ _ h => h) (Or.inl ⟨by rfl, ?_⟩) hHeld ?_
          rotate_left
          · intro W hSw
            clear hSw
            simp only [List.getElem_toArray, List.getElem_cons_zero, List.getElem_cons_succ]
            go_simp
            all_goals with_reducible rfl
          simp only [List.getElem_toArray, List.getElem_cons_zero, List.getElem_cons_succ, Act.put, List.setIfInBounds_toArray, List.set_cons_zero, List.set_cons_succ]
          refine' wpAnyH_take (i := 20) rfl (by kernel_rfl) (by kernel_rfl) (by kernel_rfl) (fun _ _ _ h => h) (Or.inl ⟨by rfl, ?_⟩) hHeld ?_
          rotate_left
          · intro W hSw
            clear hSw
            simp only [List.getElem_toArray, List.getElem_cons_zero, List.getElem_cons_succ]
            go_simp
            all_goals with_reducible rfl
          simp only [List.getElem_toArray, List.getElem_cons_zero, List.getElem_cons_succ, Act.put, List.setIfInBounds_toArray, List.set_cons_zero, List.set_cons_succ]
          refine' wpAnyH_take (i := 21) rfl (by kernel_rfl) (by kernel_rfl) (by kernel_rfl) (fun _ _ _ h => h) (Or.inl ⟨by rfl, ?_⟩) hHeld ?_
          rotate_left
          · intro W hSw
            clear hSw
            simp only [List.getElem_toArray, List.getElem_cons_zero, List.getElem_cons_succ]
            go_simp
            all_goals with_reducible rfl
          simp only [List.getElem_toArray, List.getElem_cons_zero, List.getElem_cons_succ, Act.put, List.setIfInBounds_toArray, List.set_cons_zero, List.set_cons_succ]
          refine wpAnyH_ready (rs := [22, 23]) (by kernel_rfl) (by simp) ?_
          refine AllReadyH.cons (o := _) rfl (fun K hK => ?_) (AllReadyH.cons (o := _) rfl (fun K hK => ?_) AllReadyH.nil)
          · simp only [List.getElem_toArray, List.getElem_cons_zero, List.getElem_cons_succ]
            go_simp
            have fX : Frm (fun k => k = db ∨ k = sb) X1 (X1.alloc (.cells #[.bool false, .int .i64 0, .int .i64 0, .bool false] 134)) := Frm.alloc (Frm.refl _ _) _
            have hH1 := Frm.alloc hHeld (.cells #[.bool false, .int .i64 0, .int .i64 0, .bool false] 134)
            have hDn := hid (hD.out.frm ((Old.refl X1).alloc (.cells #[.bool false, .int .i64 0, .int .i64 0, .bool false] 134)) (fun h => h) (fun h => h))
            have hpn := hid (heap_new X1 (.cells #[.bool false, .int .i64 0, .int .i64 0, .bool false] 134))
            have hpz : Hid (wD.heap.size ≤ X1.heap.size) := hHeld.size
            skip
            clear hD
            have hD := hDn
            have hp := hpn
            clear hDn hpn fX
            refine hK.out _ _ (hH1) (fun hHeld2 => ?_)
            clear hHeld hK
            have hHeld := hHeld2
            clear hHeld2
            clear hH1
            generalize X1.alloc (.cells #[.bool false, .int .i64 0, .int .i64 0, .bool false] 134) = X2 at *
            generalize X1.heap.size = pb at *
            try simp only [Act.put, List.setIfInBounds_toArray, List.set_cons_zero, List.set_cons_succ]
            refine wpAnyH_ready (rs := [23]) (by kernel_rfl) (by simp) ?_
            refine AllReadyH.cons (o := _) rfl (fun K hK => ?_) AllReadyH.nil
            simp only [List.getElem_toArray, List.getElem_cons_zero, List.getElem_cons_succ]
            go_simp
            have fX : Frm (fun k => k = db ∨ k = sb) X2 (X2.alloc (.cells #[.int .i64 0, .bool false, .int .i64 0] 52)) := Frm.alloc (Frm.refl _ _) _
            have hH1 := Frm.alloc hHeld (.cells #[.int .i64 0, .bool false, .int .i64 0] 52)
            have hDn := hid (hD.out.frm ((Old.refl X2).alloc (.cells #[.int .i64 0, .bool false, .int .i64 0] 52)) (fun h => h) (fun h => h))
            have hqn := hid (heap_new X2 (.cells #[.int .i64 0, .bool false, .int .i64 0] 52))
            have hqz : Hid (wD.heap.size ≤ X2.heap.size) := hHeld.size
            have hp := hid ((fX.block pb (Array.getElem?_eq_some_iff.1 hp.out).1 (by have := hpz.out; have := hdl.out; omega)).trans hp.out)
            clear hD
            have hD := hDn
            have hq := hqn
            clear hDn hqn fX
            refine hK.out _ _ (hH1) (fun hHeld2 => ?_)
            clear hHeld hK
            have hHeld := hHeld2
            clear hHeld2
            clear hH1
            generalize X2.alloc (.cells #[.int .i64 0, .bool false, .int .i64 0] 52) = X3 at *
            generalize X2.heap.size = qb at *
            try simp only [Act.put, List.setIfInBounds_toArray, List.set_cons_zero, List.set_cons_succ]
            have hne : pb ≠ qb := fun e => by
              have h3 := hp.out
              rw [e] at h3
              have h4 := h3.symm.trans hq.out
              simp at h4
            obtain ⟨g0, g1, g2, g3, gz⟩ := four_cells hp.out
            have y0' := gz 0
            have y1' := gz 1
            have y2' := gz 2
            have y3' := gz 3
            have hz1 := hpz.out
            have hz2 := hqz.out
            have hdd := hdl.out
            obtain ⟨r1, r2⟩ := set_four (.bool ny) (.int .i64 n1) (.int .i64 n2) (.bool nz) hp.out
            have fX := Frm.setCell (Frm.setCell (Frm.setCell (Frm.setCell hHeld ⟨pb, 0, none⟩ (Or.inl hz1) (.bool ny)) ⟨pb, 1, none⟩ (Or.inl hz1) (.int .i64 n1)) ⟨pb, 2, none⟩ (Or.inl hz1) (.int .i64 n2)) ⟨pb, 3, none⟩ (Or.inl hz1) (.bool nz)
            have hq2 := hid ((r2.block qb (Array.getElem?_eq_some_iff.1 hq.out).1 (fun e => hne e.symm)).trans hq.out)
            have hp2 := hid r1
            have hD2 := hid (hD.out.frm r2 (by omega) (by omega))
            refine wpAnyH_ready (rs := [24]) (by kernel_rfl) (by simp) ?_
            refine AllReadyH.cons (o := _) rfl (fun K hK => ?_) AllReadyH.nil
            simp only [List.getElem_toArray, List.getElem_cons_zero, List.getElem_cons_succ]
            go_simp
            refine hK.out _ _ (fX) (fun hHeld2 => ?_)
            clear hHeld hK
            have hHeld := hHeld2
            clear hHeld2
            clear fX r1 r2 g0 g1 g2 g3 gz y0' y1' y2' y3' hp hq hD
            generalize ((((X3.setCell ⟨pb, 0, none⟩ (.bool ny)).setCell ⟨pb, 1, none⟩ (.int .i64 n1)).setCell ⟨pb, 2, none⟩ (.int .i64 n2)).setCell ⟨pb, 3, none⟩ (.bool nz)) = X4 at *
            try simp only [Act.put, List.setIfInBounds_toArray, List.set_cons_zero, List.set_cons_succ]
            obtain ⟨g0, g1, g2, gz⟩ := three_cells hq2.out
            have y0' := gz 0
            have y1' := gz 1
            have y2' := gz 2
            obtain ⟨r1, r2⟩ := set_three (a' := .int .i64 v) (b' := .bool yy) (c' := .int .i64 0) hq2.out
            have fX := Frm.setCell (Frm.setCell (Frm.setCell hHeld ⟨qb, 0, none⟩ (Or.inl hz2) (.int .i64 v)) ⟨qb, 1, none⟩ (Or.inl hz2) (.bool yy)) ⟨qb, 2, none⟩ (Or.inl hz2) (.int .i64 0)
            have hp3 := hid ((r2.block pb (Array.getElem?_eq_some_iff.1 hp2.out).1 hne).trans hp2.out)
            have hq3 : Hid ((((X4.setCell ⟨qb, 0, none⟩ (.int .i64 v)).setCell ⟨qb, 1, none⟩ (.bool yy)).setCell ⟨qb, 2, none⟩ (.int .i64 0)).heap[qb]? = some (.cells #[.int .i64 v, .bool yy, .int .i64 0] 52 (0, 0))) := by
              have hb := hq2.out
              show _ = _
              simp [World.setCell, Array.getElem?_modify, hb]
            have hD3 := hid (hD2.out.frm r2 (by omega) (by omega))
            refine wpAnyH_ready (rs := [25]) (by kernel_rfl) (by simp) ?_
            refine AllReadyH.cons (o := _) rfl (fun K hK => ?_) AllReadyH.nil
            simp only [List.getElem_toArray, List.getElem_cons_zero, List.getElem_cons_succ]
            go_simp
            refine hK.out _ _ (fX) (fun hHeld2 => ?_)
            clear hHeld hK
            have hHeld := hHeld2
            clear hHeld2
            clear fX r1 r2 g0 g1 g2 gz y0' y1' y2' hp2 hq2 hD2
            generalize (((X4.setCell ⟨qb, 0, none⟩ (.int .i64 v)).setCell ⟨qb, 1, none⟩ (.bool yy)).setCell ⟨qb, 2, none⟩ (.int .i64 0)) = X5 at *
            try simp only [Act.put, List.setIfInBounds_toArray, List.set_cons_zero, List.set_cons_succ]
            refine' wpAnyH_take (i := 26) rfl (by kernel_rfl) (by kernel_rfl) (by kernel_rfl) (fun _ _ _ h => h) (Or.inl ⟨by rfl, ?_⟩) hHeld ?_
            rotate_left
            · intro W hSw
              clear hSw
              simp only [List.getElem_toArray, List.getElem_cons_zero, List.getElem_cons_succ]
              go_simp
              all_goals with_reducible rfl
            simp only [List.getElem_toArray, List.getElem_cons_zero, List.getElem_cons_succ, Act.put, List.setIfInBounds_toArray, List.set_cons_zero, List.set_cons_succ]
            refine wpAnyH_done (by kernel_rfl) ?_ _
            refine NoPanic.normal ?_
            exact ⟨rfl, pb, qb, rfl, hHeld, hp3.out, hq3.out, hz1, hz2, hne, hD3.out⟩
          · simp only [List.getElem_toArray, List.getElem_cons_zero, List.getElem_cons_succ]
            go_simp
            have fX : Frm (fun k => k = db ∨ k = sb) X1 (X1.alloc (.cells #[.int .i64 0, .bool false, .int .i64 0] 52)) := Frm.alloc (Frm.refl _ _) _
            have hH1 := Frm.alloc hHeld (.cells #[.int .i64 0, .bool false, .int .i64 0] 52)
            have hDn := hid (hD.out.frm ((Old.refl X1).alloc (.cells #[.int .i64 0, .bool false, .int .i64 0] 52)) (fun h => h) (fun h => h))
            have hqn := hid (heap_new X1 (.cells #[.int .i64 0, .bool false, .int .i64 0] 52))
            have hqz : Hid (wD.heap.size ≤ X1.heap.size) := hHeld.size
            skip
            clear hD
            have hD := hDn
            have hq := hqn
            clear hDn hqn fX
            refine hK.out _ _ (hH1) (fun hHeld2 => ?_)
            clear hHeld hK
            have hHeld := hHeld2
            clear hHeld2
            clear hH1
            generalize X1.alloc (.cells #[.int .i64 0, .bool false, .int .i64 0] 52) = X2 at *
            generalize X1.heap.size = qb at *
            try simp only [Act.put, List.setIfInBounds_toArray, List.set_cons_zero, List.set_cons_succ]
            refine wpAnyH_ready (rs := [22]) (by kernel_rfl) (by simp) ?_
            refine AllReadyH.cons (o := _) rfl (fun K hK => ?_) AllReadyH.nil
            simp only [List.getElem_toArray, List.getElem_cons_zero, List.getElem_cons_succ]
            go_simp
            have fX : Frm (fun k => k = db ∨ k = sb) X2 (X2.alloc (.cells #[.bool false, .int .i64 0, .int .i64 0, .bool false] 134)) := Frm.alloc (Frm.refl _ _) _
            have hH1 := Frm.alloc hHeld (.cells #[.bool false, .int .i64 0, .int .i64 0, .bool false] 134)
            have hDn := hid (hD.out.frm ((Old.refl X2).alloc (.cells #[.bool false, .int .i64 0, .int .i64 0, .bool false] 134)) (fun h => h) (fun h => h))
            have hpn := hid (heap_new X2 (.cells #[.bool false, .int .i64 0, .int .i64 0, .bool false] 134))
            have hpz : Hid (wD.heap.size ≤ X2.heap.size) := hHeld.size
            have hq := hid ((fX.block qb (Array.getElem?_eq_some_iff.1 hq.out).1 (by have := hqz.out; have := hdl.out; omega)).trans hq.out)
            clear hD
            have hD := hDn
            have hp := hpn
            clear hDn hpn fX
            refine hK.out _ _ (hH1) (fun hHeld2 => ?_)
            clear hHeld hK
            have hHeld := hHeld2
            clear hHeld2
            clear hH1
            generalize X2.alloc (.cells #[.bool false, .int .i64 0, .int .i64 0, .bool false] 134) = X3 at *
            generalize X2.heap.size = pb at *
            try simp only [Act.put, List.setIfInBounds_toArray, List.set_cons_zero, List.set_cons_succ]
            have hne : pb ≠ qb := fun e => by
              have h3 := hp.out
              rw [e] at h3
              have h4 := h3.symm.trans hq.out
              simp at h4
            obtain ⟨g0, g1, g2, g3, gz⟩ := four_cells hp.out
            have y0' := gz 0
            have y1' := gz 1
            have y2' := gz 2
            have y3' := gz 3
            have hz1 := hpz.out
            have hz2 := hqz.out
            have hdd := hdl.out
            obtain ⟨r1, r2⟩ := set_four (.bool ny) (.int .i64 n1) (.int .i64 n2) (.bool nz) hp.out
            have fX := Frm.setCell (Frm.setCell (Frm.setCell (Frm.setCell hHeld ⟨pb, 0, none⟩ (Or.inl hz1) (.bool ny)) ⟨pb, 1, none⟩ (Or.inl hz1) (.int .i64 n1)) ⟨pb, 2, none⟩ (Or.inl hz1) (.int .i64 n2)) ⟨pb, 3, none⟩ (Or.inl hz1) (.bool nz)
            have hq2 := hid ((r2.block qb (Array.getElem?_eq_some_iff.1 hq.out).1 (fun e => hne e.symm)).trans hq.out)
            have hp2 := hid r1
            have hD2 := hid (hD.out.frm r2 (by omega) (by omega))
            refine wpAnyH_ready (rs := [24]) (by kernel_rfl) (by simp) ?_
            refine AllReadyH.cons (o := _) rfl (fun K hK => ?_) AllReadyH.nil
            simp only [List.getElem_toArray, List.getElem_cons_zero, List.getElem_cons_succ]
            go_simp
            refine hK.out _ _ (fX) (fun hHeld2 => ?_)
            clear hHeld hK
            have hHeld := hHeld2
            clear hHeld2
            clear fX r1 r2 g0 g1 g2 g3 gz y0' y1' y2' y3' hp hq hD
            generalize ((((X3.setCell ⟨pb, 0, none⟩ (.bool ny)).setCell ⟨pb, 1, none⟩ (.int .i64 n1)).setCell ⟨pb, 2, none⟩ (.int .i64 n2)).setCell ⟨pb, 3, none⟩ (.bool nz)) = X4 at *
            try simp only [Act.put, List.setIfInBounds_toArray, List.set_cons_zero, List.set_cons_succ]
            obtain ⟨g0, g1, g2, gz⟩ := three_cells hq2.out
            have y0' := gz 0
            have y1' := gz 1
            have y2' := gz 2
            obtain ⟨r1, r2⟩ := set_three (a' := .int .i64 v) (b' := .bool yy) (c' := .int .i64 0) hq2.out
            have fX := Frm.setCell (Frm.setCell (Frm.setCell hHeld ⟨qb, 0, none⟩ (Or.inl hz2) (.int .i64 v)) ⟨qb, 1, none⟩ (Or.inl hz2) (.bool yy)) ⟨qb, 2, none⟩ (Or.inl hz2) (.int .i64 0)
            have hp3 := hid ((r2.block pb (Array.getElem?_eq_some_iff.1 hp2.out).1 hne).trans hp2.out)
            have hq3 : Hid ((((X4.setCell ⟨qb, 0, none⟩ (.int .i64 v)).setCell ⟨qb, 1, none⟩ (.bool yy)).setCell ⟨qb, 2, none⟩ (.int .i64 0)).heap[qb]? = some (.cells #[.int .i64 v, .bool yy, .int .i64 0] 52 (0, 0))) := by
              have hb := hq2.out
              show _ = _
              simp [World.setCell, Array.getElem?_modify, hb]
            have hD3 := hid (hD2.out.frm r2 (by omega) (by omega))
            refine wpAnyH_ready (rs := [25]) (by kernel_rfl) (by simp) ?_
            refine AllReadyH.cons (o := _) rfl (fun K hK => ?_) AllReadyH.nil
            simp only [List.getElem_toArray, List.getElem_cons_zero, List.getElem_cons_succ]
            go_simp
            refine hK.out _ _ (fX) (fun hHeld2 => ?_)
            clear hHeld hK
            have hHeld := hHeld2
            clear hHeld2
            clear fX r1 r2 g0 g1 g2 gz y0' y1' y2' hp2 hq2 hD2
            generalize (((X4.setCell ⟨qb, 0, none⟩ (.int .i64 v)).setCell ⟨qb, 1, none⟩ (.bool yy)).setCell ⟨qb, 2, none⟩ (.int .i64 0)) = X5 at *
            try simp only [Act.put, List.setIfInBounds_toArray, List.set_cons_zero, List.set_cons_succ]
            refine' wpAnyH_take (i := 26) rfl (by kernel_rfl) (by kernel_rfl) (by kernel_rfl) (fun _ _ _ h => h) (Or.inl ⟨by rfl, ?_⟩) hHeld ?_
            rotate_left
            · intro W hSw
              clear hSw
              simp only [List.getElem_toArray, List.getElem_cons_zero, List.getElem_cons_succ]
              go_simp
              all_goals with_reducible rfl
            simp only [List.getElem_toArray, List.getElem_cons_zero, List.getElem_cons_succ, Act.put, List.setIfInBounds_toArray, List.set_cons_zero, List.set_cons_succ]
            refine wpAnyH_done (by kernel_rfl) ?_ _
            refine NoPanic.normal ?_
            exact ⟨rfl, pb, qb, rfl, hHeld, hp3.out, hq3.out, hz1, hz2, hne, hD3.out⟩
        · simp only [List.getElem_toArray, List.getElem_cons_zero, List.getElem_cons_succ]
          go_simp
          have fX : Frm (fun k => k = db ∨ k = sb) X0 (X0.alloc (.cells #[.bool false, .int .i64 0, .int .i64 0, .bool false] 134)) := Frm.alloc (Frm.refl _ _) _
          have hH1 := Frm.alloc hHeld (.cells #[.bool false, .int .i64 0, .int .i64 0, .bool false] 134)
          have hDn := hid (hD.out.frm ((Old.refl X0).alloc (.cells #[.bool false, .int .i64 0, .int .i64 0, .bool false] 134)) (fun h => h) (fun h => h))
          have hpn := hid (heap_new X0 (.cells #[.bool false, .int .i64 0, .int .i64 0, .bool false] 134))
          have hpz : Hid (wD.heap.size ≤ X0.heap.size) := hHeld.size
          skip
          clear hD
          have hD := hDn
          have hp := hpn
          clear hDn hpn fX
          refine hK.out _ _ (hH1) (fun hHeld2 => ?_)
          clear hHeld hK
          have hHeld := hHeld2
          clear hHeld2
          clear hH1
          generalize X0.alloc (.cells #[.bool false, .int .i64 0, .int .i64 0, .bool false] 134) = X1 at *
          generalize X0.heap.size = pb at *
          try simp only [Act.put, List.setIfInBounds_toArray, List.set_cons_zero, List.set_cons_succ]
          refine wpAnyH_ready (rs := [17, 23]) (by kernel_rfl) (by simp) ?_
          refine AllReadyH.cons (o := _) rfl (fun K hK => ?_) (AllReadyH.cons (o := _) rfl (fun K hK => ?_) AllReadyH.nil)
          · simp only [List.getElem_toArray, List.getElem_cons_zero, List.getElem_cons_succ]
            go_simp
            refine (kst.out X1 hD.out).mono ?_
            rintro e X2 ⟨rfl, fX, dX⟩
            have hH1 := Frm.trans hHeld fX (fun _ _ h => h)
            have hp := hid ((fX.block pb (Array.getElem?_eq_some_iff.1 hp.out).1 (by have := hpz.out; have := hdl.out; omega)).trans hp.out)
            skip
            clear hD
            have hD := hid dX
            clear dX fX
            refine hK.out _ _ (hH1) (fun hHeld2 => ?_)
            clear hHeld hK
            have hHeld := hHeld2
            clear hHeld2
            clear hH1
            try simp only [Act.put, List.setIfInBounds_toArray, List.set_cons_zero, List.set_cons_succ]
            refine' wpAnyH_take (i := 18) rfl (by kernel_rfl) (by kernel_rfl) (by kernel_rfl) (fun _ _ _ h => h) (Or.inl ⟨by rfl, ?_⟩) hHeld ?_
            rotate_left
            · intro W hSw
              clear hSw
              simp only [List.getElem_toArray, List.getElem_cons_zero, List.getElem_cons_succ]
              go_simp
              all_goals with_reducible rfl
            simp only [List.getElem_toArray, List.getElem_cons_zero, List.getElem_cons_succ, Act.put, List.setIfInBounds_toArray, List.set_cons_zero, List.set_cons_succ]
            refine' wpAnyH_take (i := 19) rfl (by kernel_rfl) (by kernel_rfl) (by kernel_rfl) (fun _ _ _ h => h) (Or.inl ⟨by rfl, ?_⟩) hHeld ?_
            rotate_left
            · intro W hSw
              clear hSw
              simp only [List.getElem_toArray, List.getElem_cons_zero, List.getElem_cons_succ]
              go_simp
              all_goals with_reducible rfl
            simp only [List.getElem_toArray, List.getElem_cons_zero, List.getElem_cons_succ, Act.put, List.setIfInBounds_toArray, List.set_cons_zero, List.set_cons_succ]
            refine' wpAnyH_take (i := 20) rfl (by kernel_rfl) (by kernel_rfl) (by kernel_rfl) (fun _ _ _ h => h) (Or.inl ⟨by rfl, ?_⟩) hHeld ?_
            rotate_left
            · intro W hSw
              clear hSw
              simp only [List.getElem_toArray, List.getElem_cons_zero, List.getElem_cons_succ]
              go_simp
              all_goals with_reducible rfl
            simp only [List.getElem_toArray, List.getElem_cons_zero, List.getElem_cons_succ, Act.put, List.setIfInBounds_toArray, List.set_cons_zero, List.set_cons_succ]
            refine' wpAnyH_take (i := 21) rfl (by kernel_rfl) (by kernel_rfl) (by kernel_rfl) (fun _ _ _ h => h) (Or.inl ⟨by rfl, ?_⟩) hHeld ?_
            rotate_left
            · intro W hSw
              clear hSw
              simp only [List.getElem_toArray, List.getElem_cons_zero, List.getElem_cons_succ]
              go_simp
              all_goals with_reducible rfl
            simp only [List.getElem_toArray, List.getElem_cons_zero, List.getElem_cons_succ, Act.put, List.setIfInBounds_toArray, List.set_cons_zero, List.set_cons_succ]
            refine wpAnyH_ready (rs := [23]) (by kernel_rfl) (by simp) ?_
            refine AllReadyH.cons (o := _) rfl (fun K hK => ?_) AllReadyH.nil
            simp only [List.getElem_toArray, List.getElem_cons_zero, List.getElem_cons_succ]
            go_simp
            have fX : Frm (fun k => k = db ∨ k = sb) X2 (X2.alloc (.cells #[.int .i64 0, .bool false, .int .i64 0] 52)) := Frm.alloc (Frm.refl _ _) _
            have hH1 := Frm.alloc hHeld (.cells #[.int .i64 0, .bool false, .int .i64 0] 52)
            have hDn := hid (hD.out.frm ((Old.refl X2).alloc (.cells #[.int .i64 0, .bool false, .int .i64 0] 52)) (fun h => h) (fun h => h))
            have hqn := hid (heap_new X2 (.cells #[.int .i64 0, .bool false, .int .i64 0] 52))
            have hqz : Hid (wD.heap.size ≤ X2.heap.size) := hHeld.size
            have hp := hid ((fX.block pb (Array.getElem?_eq_some_iff.1 hp.out).1 (by have := hpz.out; have := hdl.out; omega)).trans hp.out)
            clear hD
            have hD := hDn
            have hq := hqn
            clear hDn hqn fX
            refine hK.out _ _ (hH1) (fun hHeld2 => ?_)
            clear hHeld hK
            have hHeld := hHeld2
            clear hHeld2
            clear hH1
            generalize X2.alloc (.cells #[.int .i64 0, .bool false, .int .i64 0] 52) = X3 at *
            generalize X2.heap.size = qb at *
            try simp only [Act.put, List.setIfInBounds_toArray, List.set_cons_zero, List.set_cons_succ]
            have hne : pb ≠ qb := fun e => by
              have h3 := hp.out
              rw [e] at h3
              have h4 := h3.symm.trans hq.out
              simp at h4
            obtain ⟨g0, g1, g2, g3, gz⟩ := four_cells hp.out
            have y0' := gz 0
            have y1' := gz 1
            have y2' := gz 2
            have y3' := gz 3
            have hz1 := hpz.out
            have hz2 := hqz.out
            have hdd := hdl.out
            obtain ⟨r1, r2⟩ := set_four (.bool ny) (.int .i64 n1) (.int .i64 n2) (.bool nz) hp.out
            have fX := Frm.setCell (Frm.setCell (Frm.setCell (Frm.setCell hHeld ⟨pb, 0, none⟩ (Or.inl hz1) (.bool ny)) ⟨pb, 1, none⟩ (Or.inl hz1) (.int .i64 n1)) ⟨pb, 2, none⟩ (Or.inl hz1) (.int .i64 n2)) ⟨pb, 3, none⟩ (Or.inl hz1) (.bool nz)
            have hq2 := hid ((r2.block qb (Array.getElem?_eq_some_iff.1 hq.out).1 (fun e => hne e.symm)).trans hq.out)
            have hp2 := hid r1
            have hD2 := hid (hD.out.frm r2 (by omega) (by omega))
            refine wpAnyH_ready (rs := [24]) (by kernel_rfl) (by simp) ?_
            refine AllReadyH.cons (o := _) rfl (fun K hK => ?_) AllReadyH.nil
            simp only [List.getElem_toArray, List.getElem_cons_zero, List.getElem_cons_succ]
            go_simp
            refine hK.out _ _ (fX) (fun hHeld2 => ?_)
            clear hHeld hK
            have hHeld := hHeld2
            clear hHeld2
            clear fX r1 r2 g0 g1 g2 g3 gz y0' y1' y2' y3' hp hq hD
            generalize ((((X3.setCell ⟨pb, 0, none⟩ (.bool ny)).setCell ⟨pb, 1, none⟩ (.int .i64 n1)).setCell ⟨pb, 2, none⟩ (.int .i64 n2)).setCell ⟨pb, 3, none⟩ (.bool nz)) = X4 at *
            try simp only [Act.put, List.setIfInBounds_toArray, List.set_cons_zero, List.set_cons_succ]
            obtain ⟨g0, g1, g2, gz⟩ := three_cells hq2.out
            have y0' := gz 0
            have y1' := gz 1
            have y2' := gz 2
            obtain ⟨r1, r2⟩ := set_three (a' := .int .i64 v) (b' := .bool yy) (c' := .int .i64 0) hq2.out
            have fX := Frm.setCell (Frm.setCell (Frm.setCell hHeld ⟨qb, 0, none⟩ (Or.inl hz2) (.int .i64 v)) ⟨qb, 1, none⟩ (Or.inl hz2) (.bool yy)) ⟨qb, 2, none⟩ (Or.inl hz2) (.int .i64 0)
            have hp3 := hid ((r2.block pb (Array.getElem?_eq_some_iff.1 hp2.out).1 hne).trans hp2.out)
            have hq3 : Hid ((((X4.setCell ⟨qb, 0, none⟩ (.int .i64 v)).setCell ⟨qb, 1, none⟩ (.bool yy)).setCell ⟨qb, 2, none⟩ (.int .i64 0)).heap[qb]? = some (.cells #[.int .i64 v, .bool yy, .int .i64 0] 52 (0, 0))) := by
              have hb := hq2.out
              show _ = _
              simp [World.setCell, Array.getElem?_modify, hb]
            have hD3 := hid (hD2.out.frm r2 (by omega) (by omega))
            refine wpAnyH_ready (rs := [25]) (by kernel_rfl) (by simp) ?_
            refine AllReadyH.cons (o := _) rfl (fun K hK => ?_) AllReadyH.nil
            simp only [List.getElem_toArray, List.getElem_cons_zero, List.getElem_cons_succ]
            go_simp
            refine hK.out _ _ (fX) (fun hHeld2 => ?_)
            clear hHeld hK
            have hHeld := hHeld2
            clear hHeld2
            clear fX r1 r2 g0 g1 g2 gz y0' y1' y2' hp2 hq2 hD2
            generalize (((X4.setCell ⟨qb, 0, none⟩ (.int .i64 v)).setCell ⟨qb, 1, none⟩ (.bool yy)).setCell ⟨qb, 2, none⟩ (.int .i64 0)) = X5 at *
            try simp only [Act.put, List.setIfInBounds_toArray, List.set_cons_zero, List.set_cons_succ]
            refine' wpAnyH_take (i := 26) rfl (by kernel_rfl) (by kernel_rfl) (by kernel_rfl) (fun _ _ _ h => h) (Or.inl ⟨by rfl, ?_⟩) hHeld ?_
            rotate_left
            · intro W hSw
              clear hSw
              simp only [List.getElem_toArray, List.getElem_cons_zero, List.getElem_cons_succ]
              go_simp
              all_goals with_reducible rfl
            simp only [List.getElem_toArray, List.getElem_cons_zero, List.getElem_cons_succ, Act.put, List.setIfInBounds_toArray, List.set_cons_zero, List.set_cons_succ]
            refine wpAnyH_done (by kernel_rfl) ?_ _
            refine NoPanic.normal ?_
            exact ⟨rfl, pb, qb, rfl, hHeld, hp3.out, hq3.out, hz1, hz2, hne, hD3.out⟩
          · simp only [List.getElem_toArray, List.getElem_cons_zero, List.getElem_cons_succ]
            go_simp
            have fX : Frm (fun k => k = db ∨ k = sb) X1 (X1.alloc (.cells #[.int .i64 0, .bool false, .int .i64 0] 52)) := Frm.alloc (Frm.refl _ _) _
            have hH1 := Frm.alloc hHeld (.cells #[.int .i64 0, .bool false, .int .i64 0] 52)
            have hDn := hid (hD.out.frm ((Old.refl X1).alloc (.cells #[.int .i64 0, .bool false, .int .i64 0] 52)) (fun h => h) (fun h => h))
            have hqn := hid (heap_new X1 (.cells #[.int .i64 0, .bool false, .int .i64 0] 52))
            have hqz : Hid (wD.heap.size ≤ X1.heap.size) := hHeld.size
            have hp := hid ((fX.block pb (Array.getElem?_eq_some_iff.1 hp.out).1 (by have := hpz.out; have := hdl.out; omega)).trans hp.out)
            clear hD
            have hD := hDn
            have hq := hqn
            clear hDn hqn fX
            refine hK.out _ _ (hH1) (fun hHeld2 => ?_)
            clear hHeld hK
            have hHeld := hHeld2
            clear hHeld2
            clear hH1
            generalize X1.alloc (.cells #[.int .i64 0, .bool false, .int .i64 0] 52) = X2 at *
            generalize X1.heap.size = qb at *
            try simp only [Act.put, List.setIfInBounds_toArray, List.set_cons_zero, List.set_cons_succ]
            refine wpAnyH_ready (rs := [17]) (by kernel_rfl) (by simp) ?_
            refine AllReadyH.cons (o := _) rfl (fun K hK => ?_) AllReadyH.nil
            simp only [List.getElem_toArray, List.getElem_cons_zero, List.getElem_cons_succ]
            go_simp
            refine (kst.out X2 hD.out).mono ?_
            rintro e X3 ⟨rfl, fX, dX⟩
            have hH1 := Frm.trans hHeld fX (fun _ _ h => h)
            have hp := hid ((fX.block pb (Array.getElem?_eq_some_iff.1 hp.out).1 (by have := hpz.out; have := hdl.out; omega)).trans hp.out)
            have hq := hid ((fX.block qb (Array.getElem?_eq_some_iff.1 hq.out).1 (by have := hqz.out; have := hdl.out; omega)).trans hq.out)
            clear hD
            have hD := hid dX
            clear dX fX
            refine hK.out _ _ (hH1) (fun hHeld2 => ?_)
            clear hHeld hK
            have hHeld := hHeld2
            clear hHeld2
            clear hH1
            try simp only [Act.put, List.setIfInBounds_toArray, List.set_cons_zero, List.set_cons_succ]
            refine' wpAnyH_take (i := 18) rfl (by kernel_rfl) (by kernel_rfl) (by kernel_rfl) (fun _ _ _ h => h) (Or.inl ⟨by rfl, ?_⟩) hHeld ?_
            rotate_left
            · intro W hSw
              clear hSw
              simp only [List.getElem_toArray, List.getElem_cons_zero, List.getElem_cons_succ]
              go_simp
              all_goals with_reducible rfl
            simp only [List.getElem_toArray, List.getElem_cons_zero, List.getElem_cons_succ, Act.put, List.setIfInBounds_toArray, List.set_cons_zero, List.set_cons_succ]
            refine' wpAnyH_take (i := 19) rfl (by kernel_rfl) (by kernel_rfl) (by kernel_rfl) (fun _ _ _ h => h) (Or.inl ⟨by rfl, ?_⟩) hHeld ?_
            rotate_left
            · intro W hSw
              clear hSw
              simp only [List.getElem_toArray, List.getElem_cons_zero, List.getElem_cons_succ]
              go_simp
              all_goals with_reducible rfl
            simp only [List.getElem_toArray, List.getElem_cons_zero, List.getElem_cons_succ, Act.put, List.setIfInBounds_toArray, List.set_cons_zero, List.set_cons_succ]
            refine' wpAnyH_take (i := 20) rfl (by kernel_rfl) (by kernel_rfl) (by kernel_rfl) (fun _ _ _ h => h) (Or.inl ⟨by rfl, ?_⟩) hHeld ?_
            rotate_left
            · intro W hSw
              clear hSw
              simp only [List.getElem_toArray, List.getElem_cons_zero, List.getElem_cons_succ]
              go_simp
              all_goals with_reducible rfl
            simp only [List.getElem_toArray, List.getElem_cons_zero, List.getElem_cons_succ, Act.put, List.setIfInBounds_toArray, List.set_cons_zero, List.set_cons_succ]
            refine' wpAnyH_take (i := 21) rfl (by kernel_rfl) (by kernel_rfl) (by kernel_rfl) (fun _ _ _ h => h) (Or.inl ⟨by rfl, ?_⟩) hHeld ?_
            rotate_left
            · intro W hSw
              clear hSw
              simp only [List.getElem_toArray, List.getElem_cons_zero, List.getElem_cons_succ]
              go_simp
              all_goals with_reducible rfl
            simp only [List.getElem_toArray, List.getElem_cons_zero, List.getElem_cons_succ, Act.put, List.setIfInBounds_toArray, List.set_cons_zero, List.set_cons_succ]
            have hne : pb ≠ qb := fun e => by
              have h3 := hp.out
              rw [e] at h3
              have h4 := h3.symm.trans hq.out
              simp at h4
            obtain ⟨g0, g1, g2, g3, gz⟩ := four_cells hp.out
            have y0' := gz 0
            have y1' := gz 1
            have y2' := gz 2
            have y3' := gz 3
            have hz1 := hpz.out
            have hz2 := hqz.out
            have hdd := hdl.out
            obtain ⟨r1, r2⟩ := set_four (.bool ny) (.int .i64 n1) (.int .i64 n2) (.bool nz) hp.out
            have fX := Frm.setCell (Frm.setCell (Frm.setCell (Frm.setCell hHeld ⟨pb, 0, none⟩ (Or.inl hz1) (.bool ny)) ⟨pb, 1, none⟩ (Or.inl hz1) (.int .i64 n1)) ⟨pb, 2, none⟩ (Or.inl hz1) (.int .i64 n2)) ⟨pb, 3, none⟩ (Or.inl hz1) (.bool nz)
            have hq2 := hid ((r2.block qb (Array.getElem?_eq_some_iff.1 hq.out).1 (fun e => hne e.symm)).trans hq.out)
            have hp2 := hid r1
            have hD2 := hid (hD.out.frm r2 (by omega) (by omega))
            refine wpAnyH_ready (rs := [24]) (by kernel_rfl) (by simp) ?_
            refine AllReadyH.cons (o := _) rfl (fun K hK => ?_) AllReadyH.nil
            simp only [List.getElem_toArray, List.getElem_cons_zero, List.getElem_cons_succ]
            go_simp
            refine hK.out _ _ (fX) (fun hHeld2 => ?_)
            clear hHeld hK
            have hHeld := hHeld2
            clear hHeld2
            clear fX r1 r2 g0 g1 g2 g3 gz y0' y1' y2' y3' hp hq hD
            generalize ((((X3.setCell ⟨pb, 0, none⟩ (.bool ny)).setCell ⟨pb, 1, none⟩ (.int .i64 n1)).setCell ⟨pb, 2, none⟩ (.int .i64 n2)).setCell ⟨pb, 3, none⟩ (.bool nz)) = X4 at *
            try simp only [Act.put, List.setIfInBounds_toArray, List.set_cons_zero, List.set_cons_succ]
            obtain ⟨g0, g1, g2, gz⟩ := three_cells hq2.out
            have y0' := gz 0
            have y1' := gz 1
            have y2' := gz 2
            obtain ⟨r1, r2⟩ := set_three (a' := .int .i64 v) (b' := .bool yy) (c' := .int .i64 0) hq2.out
            have fX := Frm.setCell (Frm.setCell (Frm.setCell hHeld ⟨qb, 0, none⟩ (Or.inl hz2) (.int .i64 v)) ⟨qb, 1, none⟩ (Or.inl hz2) (.bool yy)) ⟨qb, 2, none⟩ (Or.inl hz2) (.int .i64 0)
            have hp3 := hid ((r2.block pb (Array.getElem?_eq_some_iff.1 hp2.out).1 hne).trans hp2.out)
            have hq3 : Hid ((((X4.setCell ⟨qb, 0, none⟩ (.int .i64 v)).setCell ⟨qb, 1, none⟩ (.bool yy)).setCell ⟨qb, 2, none⟩ (.int .i64 0)).heap[qb]? = some (.cells #[.int .i64 v, .bool yy, .int .i64 0] 52 (0, 0))) := by
              have hb := hq2.out
              show _ = _
              simp [World.setCell, Array.getElem?_modify, hb]
            have hD3 := hid (hD2.out.frm r2 (by omega) (by omega))
            refine wpAnyH_ready (rs := [25]) (by kernel_rfl) (by simp) ?_
            refine AllReadyH.cons (o := _) rfl (fun K hK => ?_) AllReadyH.nil
            simp only [List.getElem_toArray, List.getElem_cons_zero, List.getElem_cons_succ]
            go_simp
            refine hK.out _ _ (fX) (fun hHeld2 => ?_)
            clear hHeld hK
            have hHeld := hHeld2
            clear hHeld2
            clear fX r1 r2 g0 g1 g2 gz y0' y1' y2' hp2 hq2 hD2
            generalize (((X4.setCell ⟨qb, 0, none⟩ (.int .i64 v)).setCell ⟨qb, 1, none⟩ (.bool yy)).setCell ⟨qb, 2, none⟩ (.int .i64 0)) = X5 at *
            try simp only [Act.put, List.setIfInBounds_toArray, List.set_cons_zero, List.set_cons_succ]
            refine' wpAnyH_take (i := 26) rfl (by kernel_rfl) (by kernel_rfl) (by kernel_rfl) (fun _ _ _ h => h) (Or.inl ⟨by rfl, ?_⟩) hHeld ?_
            rotate_left
            · intro W hSw
              clear hSw
              simp only [List.getElem_toArray, List.getElem_cons_zero, List.getElem_cons_succ]
              go_simp
              all_goals with_reducible rfl
            simp only [List.getElem_toArray, List.getElem_cons_zero, List.getElem_cons_succ, Act.put, List.setIfInBounds_toArray, List.set_cons_zero, List.set_cons_succ]
            refine wpAnyH_done (by kernel_rfl) ?_ _
            refine NoPanic.normal ?_
            exact ⟨rfl, pb, qb, rfl, hHeld, hp3.out, hq3.out, hz1, hz2, hne, hD3.out⟩
        · simp only [List.getElem_toArray, List.getElem_cons_zero, List.getElem_cons_succ]
          go_simp
          have fX : Frm (fun k => k = db ∨ k = sb) X0 (X0.alloc (.cells #[.int .i64 0, .bool false, .int .i64 0] 52)) := Frm.alloc (Frm.refl _ _) _
          have hH1 := Frm.alloc hHeld (.cells #[.int .i64 0, .bool false, .int .i64 0] 52)
          have hDn := hid (hD.out.frm ((Old.refl X0).alloc (.cells #[.int .i64 0, .bool false, .int .i64 0] 52)) (fun h => h) (fun h => h))
          have hqn := hid (heap_new X0 (.cells #[.int .i64 0, .bool false, .int .i64 0] 52))
          have hqz : Hid (wD.heap.size ≤ X0.heap.size) := hHeld.size
          skip
          clear hD
          have hD := hDn
          have hq := hqn
          clear hDn hqn fX
          refine hK.out _ _ (hH1) (fun hHeld2 => ?_)
          clear hHeld hK
          have hHeld := hHeld2
          clear hHeld2
          clear hH1
          generalize X0.alloc (.cells #[.int .i64 0, .bool false, .int .i64 0] 52) = X1 at *
          generalize X0.heap.size = qb at *
          try simp only [Act.put, List.setIfInBounds_toArray, List.set_cons_zero, List.set_cons_succ]
          refine wpAnyH_ready (rs := [17, 22]) (by kernel_rfl) (by simp) ?_
          refine AllReadyH.cons (o := _) rfl (fun K hK => ?_) (AllReadyH.cons (o := _) rfl (fun K hK => ?_) AllReadyH.nil)
          · simp only [List.getElem_toArray, List.getElem_cons_zero, List.getElem_cons_succ]
            go_simp
            refine (kst.out X1 hD.out).mono ?_
            rintro e X2 ⟨rfl, fX, dX⟩
            have hH1 := Frm.trans hHeld fX (fun _ _ h => h)
            have hq := hid ((fX.block qb (Array.getElem?_eq_some_iff.1 hq.out).1 (by have := hqz.out; have := hdl.out; omega)).trans hq.out)
            skip
            clear hD
            have hD := hid dX
            clear dX fX
            refine hK.out _ _ (hH1) (fun hHeld2 => ?_)
            clear hHeld hK
            have hHeld := hHeld2
            clear hHeld2
            clear hH1
            try simp only [Act.put, List.setIfInBounds_toArray, List.set_cons_zero, List.set_cons_succ]
            refine' wpAnyH_take (i := 18) rfl (by kernel_rfl) (by kernel_rfl) (by kernel_rfl) (fun _ _ _ h => h) (Or.inl ⟨by rfl, ?_⟩) hHeld ?_
            rotate_left
            · intro W hSw
              clear hSw
              simp only [List.getElem_toArray, List.getElem_cons_zero, List.getElem_cons_succ]
              go_simp
              all_goals with_reducible rfl
            simp only [List.getElem_toArray, List.getElem_cons_zero, List.getElem_cons_succ, Act.put, List.setIfInBounds_toArray, List.set_cons_zero, List.set_cons_succ]
            refine' wpAnyH_take (i := 19) rfl (by kernel_rfl) (by kernel_rfl) (by kernel_rfl) (fun _ _ _ h => h) (Or.inl ⟨by rfl, ?_⟩) hHeld ?_
            rotate_left
            · intro W hSw
              clear hSw
              simp only [List.getElem_toArray, List.getElem_cons_zero, List.getElem_cons_succ]
              go_simp
              all_goals with_reducible rfl
            simp only [List.getElem_toArray, List.getElem_cons_zero, List.getElem_cons_succ, Act.put, List.setIfInBounds_toArray, List.set_cons_zero, List.set_cons_succ]
            refine' wpAnyH_take (i := 20) rfl (by kernel_rfl) (by kernel_rfl) (by kernel_rfl) (fun _ _ _ h => h) (Or.inl ⟨by rfl, ?_⟩) hHeld ?_
            rotate_left
            · intro W hSw
              clear hSw
              simp only [List.getElem_toArray, List.getElem_cons_zero, List.getElem_cons_succ]
              go_simp
              all_goals with_reducible rfl
            simp only [List.getElem_toArray, List.getElem_cons_zero, List.getElem_cons_succ, Act.put, List.setIfInBounds_toArray, List.set_cons_zero, List.set_cons_succ]
            refine' wpAnyH_take (i := 21) rfl (by kernel_rfl) (by kernel_rfl) (by kernel_rfl) (fun _ _ _ h => h) (Or.inl ⟨by rfl, ?_⟩) hHeld ?_
            rotate_left
            · intro W hSw
              clear hSw
              simp only [List.getElem_toArray, List.getElem_cons_zero, List.getElem_cons_succ]
              go_simp
              all_goals with_reducible rfl
            simp only [List.getElem_toArray, List.getElem_cons_zero, List.getElem_cons_succ, Act.put, List.setIfInBounds_toArray, List.set_cons_zero, List.set_cons_succ]
            refine wpAnyH_ready (rs := [22]) (by kernel_rfl) (by simp) ?_
            refine AllReadyH.cons (o := _) rfl (fun K hK => ?_) AllReadyH.nil
            simp only [List.getElem_toArray, List.getElem_cons_zero, List.getElem_cons_succ]
            go_simp
            have fX : Frm (fun k => k = db ∨ k = sb) X2 (X2.alloc (.cells #[.bool false, .int .i64 0, .int .i64 0, .bool false] 134)) := Frm.alloc (Frm.refl _ _) _
            have hH1 := Frm.alloc hHeld (.cells #[.bool false, .int .i64 0, .int .i64 0, .bool false] 134)
            have hDn := hid (hD.out.frm ((Old.refl X2).alloc (.cells #[.bool false, .int .i64 0, .int .i64 0, .bool false] 134)) (fun h => h) (fun h => h))
            have hpn := hid (heap_new X2 (.cells #[.bool false, .int .i64 0, .int .i64 0, .bool false] 134))
            have hpz : Hid (wD.heap.size ≤ X2.heap.size) := hHeld.size
            have hq := hid ((fX.block qb (Array.getElem?_eq_some_iff.1 hq.out).1 (by have := hqz.out; have := hdl.out; omega)).trans hq.out)
            clear hD
            have hD := hDn
            have hp := hpn
            clear hDn hpn fX
            refine hK.out _ _ (hH1) (fun hHeld2 => ?_)
            clear hHeld hK
            have hHeld := hHeld2
            clear hHeld2
            clear hH1
            generalize X2.alloc (.cells #[.bool false, .int .i64 0, .int .i64 0, .bool false] 134) = X3 at *
            generalize X2.heap.size = pb at *
            try simp only [Act.put, List.setIfInBounds_toArray, List.set_cons_zero, List.set_cons_succ]
            have hne : pb ≠ qb := fun e => by
              have h3 := hp.out
              rw [e] at h3
              have h4 := h3.symm.trans hq.out
              simp at h4
            obtain ⟨g0, g1, g2, g3, gz⟩ := four_cells hp.out
            have y0' := gz 0
            have y1' := gz 1
            have y2' := gz 2
            have y3' := gz 3
            have hz1 := hpz.out
            have hz2 := hqz.out
            have hdd := hdl.out
            obtain ⟨r1, r2⟩ := set_four (.bool ny) (.int .i64 n1) (.int .i64 n2) (.bool nz) hp.out
            have fX := Frm.setCell (Frm.setCell (Frm.setCell (Frm.setCell hHeld ⟨pb, 0, none⟩ (Or.inl hz1) (.bool ny)) ⟨pb, 1, none⟩ (Or.inl hz1) (.int .i64 n1)) ⟨pb, 2, none⟩ (Or.inl hz1) (.int .i64 n2)) ⟨pb, 3, none⟩ (Or.inl hz1) (.bool nz)
            have hq2 := hid ((r2.block qb (Array.getElem?_eq_some_iff.1 hq.out).1 (fun e => hne e.symm)).trans hq.out)
            have hp2 := hid r1
            have hD2 := hid (hD.out.frm r2 (by omega) (by omega))
            refine wpAnyH_ready (rs := [24]) (by kernel_rfl) (by simp) ?_
            refine AllReadyH.cons (o := _) rfl (fun K hK => ?_) AllReadyH.nil
            simp only [List.getElem_toArray, List.getElem_cons_zero, List.getElem_cons_succ]
            go_simp
            refine hK.out _ _ (fX) (fun hHeld2 => ?_)
            clear hHeld hK
            have hHeld := hHeld2
            clear hHeld2
            clear fX r1 r2 g0 g1 g2 g3 gz y0' y1' y2' y3' hp hq hD
            generalize ((((X3.setCell ⟨pb, 0, none⟩ (.bool ny)).setCell ⟨pb, 1, none⟩ (.int .i64 n1)).setCell ⟨pb, 2, none⟩ (.int .i64 n2)).setCell ⟨pb, 3, none⟩ (.bool nz)) = X4 at *
            try simp only [Act.put, List.setIfInBounds_toArray, List.set_cons_zero, List.set_cons_succ]
            obtain ⟨g0, g1, g2, gz⟩ := three_cells hq2.out
            have y0' := gz 0
            have y1' := gz 1
            have y2' := gz 2
            obtain ⟨r1, r2⟩ := set_three (a' := .int .i64 v) (b' := .bool yy) (c' := .int .i64 0) hq2.out
            have fX := Frm.setCell (Frm.setCell (Frm.setCell hHeld ⟨qb, 0, none⟩ (Or.inl hz2) (.int .i64 v)) ⟨qb, 1, none⟩ (Or.inl hz2) (.bool yy)) ⟨qb, 2, none⟩ (Or.inl hz2) (.int .i64 0)
            have hp3 := hid ((r2.block pb (Array.getElem?_eq_some_iff.1 hp2.out).1 hne).trans hp2.out)
            have hq3 : Hid ((((X4.setCell ⟨qb, 0, none⟩ (.int .i64 v)).setCell ⟨qb, 1, none⟩ (.bool yy)).setCell ⟨qb, 2, none⟩ (.int .i64 0)).heap[qb]? = some (.cells #[.int .i64 v, .bool yy, .int .i64 0] 52 (0, 0))) := by
              have hb := hq2.out
              show _ = _
              simp [World.setCell, Array.getElem?_modify, hb]
            have hD3 := hid (hD2.out.frm r2 (by omega) (by omega))
            refine wpAnyH_ready (rs := [25]) (by kernel_rfl) (by simp) ?_
            refine AllReadyH.cons (o := _) rfl (fun K hK => ?_) AllReadyH.nil
            simp only [List.getElem_toArray, List.getElem_cons_zero, List.getElem_cons_succ]
            go_simp
            refine hK.out _ _ (fX) (fun hHeld2 => ?_)
            clear hHeld hK
            have hHeld := hHeld2
            clear hHeld2
            clear fX r1 r2 g0 g1 g2 gz y0' y1' y2' hp2 hq2 hD2
            generalize (((X4.setCell ⟨qb, 0, none⟩ (.int .i64 v)).setCell ⟨qb, 1, none⟩ (.bool yy)).setCell ⟨qb, 2, none⟩ (.int .i64 0)) = X5 at *
            try simp only [Act.put, List.setIfInBounds_toArray, List.set_cons_zero, List.set_cons_succ]
            refine' wpAnyH_take (i := 26) rfl (by kernel_rfl) (by kernel_rfl) (by kernel_rfl) (fun _ _ _ h => h) (Or.inl ⟨by rfl, ?_⟩) hHeld ?_
            rotate_left
            · intro W hSw
              clear hSw
              simp only [List.getElem_toArray, List.getElem_cons_zero, List.getElem_cons_succ]
              go_simp
              all_goals with_reducible rfl
            simp only [List.getElem_toArray, List.getElem_cons_zero, List.getElem_cons_succ, Act.put, List.setIfInBounds_toArray, List.set_cons_zero, List.set_cons_succ]
            refine wpAnyH_done (by kernel_rfl) ?_ _
            refine NoPanic.normal ?_
            exact ⟨rfl, pb, qb, rfl, hHeld, hp3.out, hq3.out, hz1, hz2, hne, hD3.out⟩
          · simp only [List.getElem_toArray, List.getElem_cons_zero, List.getElem_cons_succ]
            go_simp
            have fX : Frm (fun k => k = db ∨ k = sb) X1 (X1.alloc (.cells #[.bool false, .int .i64 0, .int .i64 0, .bool false] 134)) := Frm.alloc (Frm.refl _ _) _
            have hH1 := Frm.alloc hHeld (.cells #[.bool false, .int .i64 0, .int .i64 0, .bool false] 134)
            have hDn := hid (hD.out.frm ((Old.refl X1).alloc (.cells #[.bool false, .int .i64 0, .int .i64 0, .bool false] 134)) (fun h => h) (fun h => h))
            have hpn := hid (heap_new X1 (.cells #[.bool false, .int .i64 0, .int .i64 0, .bool false] 134))
            have hpz : Hid (wD.heap.size ≤ X1.heap.size) := hHeld.size
            have hq := hid ((fX.block qb (Array.getElem?_eq_some_iff.1 hq.out).1 (by have := hqz.out; have := hdl.out; omega)).trans hq.out)
            clear hD
            have hD := hDn
            have hp := hpn
            clear hDn hpn fX
            refine hK.out _ _ (hH1) (fun hHeld2 => ?_)
            clear hHeld hK
            have hHeld := hHeld2
            clear hHeld2
            clear hH1
            generalize X1.alloc (.cells #[.bool false, .int .i64 0, .int .i64 0, .bool false] 134) = X2 at *
            generalize X1.heap.size = pb at *
            try simp only [Act.put, List.setIfInBounds_toArray, List.set_cons_zero, List.set_cons_succ]
            refine wpAnyH_ready (rs := [17]) (by kernel_rfl) (by simp) ?_
            refine AllReadyH.cons (o := _) rfl (fun K hK => ?_) AllReadyH.nil
            simp only [List.getElem_toArray, List.getElem_cons_zero, List.getElem_cons_succ]
            go_simp
            refine (kst.out X2 hD.out).mono ?_
            rintro e X3 ⟨rfl, fX, dX⟩
            have hH1 := Frm.trans hHeld fX (fun _ _ h => h)
            have hp := hid ((fX.block pb (Array.getElem?_eq_some_iff.1 hp.out).1 (by have := hpz.out; have := hdl.out; omega)).trans hp.out)
            have hq := hid ((fX.block qb (Array.getElem?_eq_some_iff.1 hq.out).1 (by have := hqz.out; have := hdl.out; omega)).trans hq.out)
            clear hD
            have hD := hid dX
            clear dX fX
            refine hK.out _ _ (hH1) (fun hHeld2 => ?_)
            clear hHeld hK
            have hHeld := hHeld2
            clear hHeld2
            clear hH1
            try simp only [Act.put, List.setIfInBounds_toArray, List.set_cons_zero, List.set_cons_succ]
            refine' wpAnyH_take (i := 18) rfl (by kernel_rfl) (by kernel_rfl) (by kernel_rfl) (fun _ _ _ h => h) (Or.inl ⟨by rfl, ?_⟩) hHeld ?_
            rotate_left
            · intro W hSw
              clear hSw
              simp only [List.getElem_toArray, List.getElem_cons_zero, List.getElem_cons_succ]
              go_simp
              all_goals with_reducible rfl
            simp only [List.getElem_toArray, List.getElem_cons_zero, List.getElem_cons_succ, Act.put, List.setIfInBounds_toArray, List.set_cons_zero, List.set_cons_succ]
            refine' wpAnyH_take (i := 19) rfl (by kernel_rfl) (by kernel_rfl) (by kernel_rfl) (fun _ _ _ h => h) (Or.inl ⟨by rfl, ?_⟩) hHeld ?_
            rotate_left
            · intro W hSw
              clear hSw
              simp only [List.getElem_toArray, List.getElem_cons_zero, List.getElem_cons_succ]
              go_simp
              all_goals with_reducible rfl
            simp only [List.getElem_toArray, List.getElem_cons_zero, List.getElem_cons_succ, Act.put, List.setIfInBounds_toArray, List.set_cons_zero, List.set_cons_succ]
            refine' wpAnyH_take (i := 20) rfl (by kernel_rfl) (by kernel_rfl) (by kernel_rfl) (fun _ _ _ h => h) (Or.inl ⟨by rfl, ?_⟩) hHeld ?_
            rotate_left
            · intro W hSw
              clear hSw
              simp only [List.getElem_toArray, List.getElem_cons_zero, List.getElem_cons_succ]
              go_simp
              all_goals with_reducible rfl
            simp only [List.getElem_toArray, List.getElem_cons_zero, List.getElem_cons_succ, Act.put, List.setIfInBounds_toArray, List.set_cons_zero, List.set_cons_succ]
            refine' wpAnyH_take (i := 21) rfl (by kernel_rfl) (by kernel_rfl) (by kernel_rfl) (fun _ _ _ h => h) (Or.inl ⟨by rfl, ?_⟩) hHeld ?_
            rotate_left
            · intro W hSw
              clear hSw
              simp only [List.getElem_toArray, List.getElem_cons_zero, List.getElem_cons_succ]
              go_simp
              all_goals with_reducible rfl
            simp only [List.getElem_toArray, List.getElem_cons_zero, List.getElem_cons_succ, Act.put, List.setIfInBounds_toArray, List.set_cons_zero, List.set_cons_succ]
            have hne : pb ≠ qb := fun e => by
              have h3 := hp.out
              rw [e] at h3
              have h4 := h3.symm.trans hq.out
              simp at h4
            obtain ⟨g0, g1, g2, g3, gz⟩ := four_cells hp.out
            have y0' := gz 0
            have y1' := gz 1
            have y2' := gz 2
            have y3' := gz 3
            have hz1 := hpz.out
            have hz2 := hqz.out
            have hdd := hdl.out
            obtain ⟨r1, r2⟩ := set_four (.bool ny) (.int .i64 n1) (.int .i64 n2) (.bool nz) hp.out
            have fX := Frm.setCell (Frm.setCell (Frm.setCell (Frm.setCell hHeld ⟨pb, 0, none⟩ (Or.inl hz1) (.bool ny)) ⟨pb, 1, none⟩ (Or.inl hz1) (.int .i64 n1)) ⟨pb, 2, none⟩ (Or.inl hz1) (.int .i64 n2)) ⟨pb, 3, none⟩ (Or.inl hz1) (.bool nz)
            have hq2 := hid ((r2.block qb (Array.getElem?_eq_some_iff.1 hq.out).1 (fun e => hne e.symm)).trans hq.out)
            have hp2 := hid r1
            have hD2 := hid (hD.out.frm r2 (by omega) (by omega))
            refine wpAnyH_ready (rs := [24]) (by kernel_rfl) (by simp) ?_
            refine AllReadyH.cons (o := _) rfl (fun K hK => ?_) AllReadyH.nil
            simp only [List.getElem_toArray, List.getElem_cons_zero, List.getElem_cons_succ]
            go_simp
            refine hK.out _ _ (fX) (fun hHeld2 => ?_)
            clear hHeld hK
            have hHeld := hHeld2
            clear hHeld2
            clear fX r1 r2 g0 g1 g2 g3 gz y0' y1' y2' y3' hp hq hD
            generalize ((((X3.setCell ⟨pb, 0, none⟩ (.bool ny)).setCell ⟨pb, 1, none⟩ (.int .i64 n1)).setCell ⟨pb, 2, none⟩ (.int .i64 n2)).setCell ⟨pb, 3, none⟩ (.bool nz)) = X4 at *
            try simp only [Act.put, List.setIfInBounds_toArray, List.set_cons_zero, List.set_cons_succ]
            obtain ⟨g0, g1, g2, gz⟩ := three_cells hq2.out
            have y0' := gz 0
            have y1' := gz 1
            have y2' := gz 2
            obtain ⟨r1, r2⟩ := set_three (a' := .int .i64 v) (b' := .bool yy) (c' := .int .i64 0) hq2.out
            have fX := Frm.setCell (Frm.setCell (Frm.setCell hHeld ⟨qb, 0, none⟩ (Or.inl hz2) (.int .i64 v)) ⟨qb, 1, none⟩ (Or.inl hz2) (.bool yy)) ⟨qb, 2, none⟩ (Or.inl hz2) (.int .i64 0)
            have hp3 := hid ((r2.block pb (Array.getElem?_eq_some_iff.1 hp2.out).1 hne).trans hp2.out)
            have hq3 : Hid ((((X4.setCell ⟨qb, 0, none⟩ (.int .i64 v)).setCell ⟨qb, 1, none⟩ (.bool yy)).setCell ⟨qb, 2, none⟩ (.int .i64 0)).heap[qb]? = some (.cells #[.int .i64 v, .bool yy, .int .i64 0] 52 (0, 0))) := by
              have hb := hq2.out
              show _ = _
              simp [World.setCell, Array.getElem?_modify, hb]
            have hD3 := hid (hD2.out.frm r2 (by omega) (by omega))
            refine wpAnyH_ready (rs := [25]) (by kernel_rfl) (by simp) ?_
            refine AllReadyH.cons (o := _) rfl (fun K hK => ?_) AllReadyH.nil
            simp only [List.getElem_toArray, List.getElem_cons_zero, List.getElem_cons_succ]
            go_simp
            refine hK.out _ _ (fX) (fun hHeld2 => ?_)
            clear hHeld hK
            have hHeld := hHeld2
            clear hHeld2
            clear fX r1 r2 g0 g1 g2 gz y0' y1' y2' hp2 hq2 hD2
            generalize (((X4.setCell ⟨qb, 0, none⟩ (.int .i64 v)).setCell ⟨qb, 1, none⟩ (.bool yy)).setCell ⟨qb, 2, none⟩ (.int .i64 0)) = X5 at *
            try simp only [Act.put, List.setIfInBounds_toArray, List.set_cons_zero, List.set_cons_succ]
            refine' wpAnyH_take (i := 26) rfl (by kernel_rfl) (by kernel_rfl) (by kernel_rfl) (fun _ _ _ h => h) (Or.inl ⟨by rfl, ?_⟩) hHeld ?_
            rotate_left
            · intro W hSw
              clear hSw
              simp only [List.getElem_toArray, List.getElem_cons_zero, List.getElem_cons_succ]
              go_simp
              all_goals with_reducible rfl
            simp only [List.getElem_toArray, List.getElem_cons_zero, List.getElem_cons_succ, Act.put, List.setIfInBounds_toArray, List.set_cons_zero, List.set_cons_succ]
            refine wpAnyH_done (by kernel_rfl) ?_ _
            refine NoPanic.normal ?_
            exact ⟨rfl, pb, qb, rfl, hHeld, hp3.out, hq3.out, hz1, hz2, hne, hD3.out⟩
      case hF =>
        rintro pb qb XF ⟨fF, hp, hq, hz1, hz2, hne, hD⟩
        have kDW := hid (kXD.out.frm (M' := i + 1) (s' := (stepS W.s p kd x (W.sn p)).1) fF (fun k hk e => Or.inl (e.elim (fun e => e ▸ td) (fun e => e ▸ ts'))) ⟨sb, hD, td, ts'⟩ (stepS_bnd kXD.out.bnd (sn_five kK.out kF.out kop'.out)) stepS_len.1)
        obtain ⟨s0', s1', s2', s3', -⟩ := four_cells hp
        obtain ⟨u0, u1, u2, uz⟩ := three_cells hq
        replace l0 := frm_cell fF l0 bl
        replace l1 := frm_cell fF l1 bl
        replace l2 := frm_cell fF l2 bl
        replace l3 := frm_cell fF l3 bl
        have z0 := kDW.out.lbz (p * 4)
        have z1 := kDW.out.lbz (p * 4 + 1)
        have z2 := kDW.out.lbz (p * 4 + 2)
        have z3 := kDW.out.lbz (p * 4 + 3)
        have kY := hid (kDW.out.look (k := p) (sn := (stepS W.s p kd x (W.sn p)).2.1) (y := ny) (z := nz) (m1 := n1) (m2 := n2) (by show seenO (curOp O W p).1 _ = _; rw [kop'.out]; exact ksn.out) (by rw [kn.out]; exact hpn))
        have kq := hid hq
        have kqz := hid hz2
        have kU := hid (⟨u0, u1, u2, uz⟩ : XF.cell? ⟨qb, 0, none⟩ = some (.int .i64 v) ∧ XF.cell? ⟨qb, 1, none⟩ = some (.bool yy) ∧ XF.cell? ⟨qb, 2, none⟩ = some (.int .i64 0) ∧ ∀ i, XF.frozen? ⟨qb, i, none⟩ = false)
        have kzF := hid fF
        clear hp hq hz1 hz2 hne hD fF u0 u1 u2 uz oc ac q1 q2 bo br ba
        cases hR : (stepS W.s p kd x (W.sn p)).2.2 with
        | none =>
          obtain rfl : dd = false := by rw [← kdd.out, hR]; rfl
          have kR := hid hR
          clear hR
          go_wp2_with fail
          go_roundw
          case rel =>
            refine ⟨i + 1, by omega, by go_num, ?_⟩
            rw [kS.out, walkStep_none kn.out kk.out kd'.out (by rw [kln.out]; exact hfull) kop.out rfl kR.out]
            exact ⟨τ, kY.out⟩
          case measure => simp [intOf]; omega
        | some a =>
          obtain rfl : dd = true := by rw [← kdd.out, hR]; rfl
          have kR := hid hR
          have ka := hid (kva.out a hR)
          clear hR
          go_upto_region 16 with fail
          obtain ⟨u0, u1, u2, uz⟩ := kU.out
          have fL : Frm (fun q => q = lb) XF ((((XF.setCell ⟨lb, p * 4, none⟩ (.bool ny)).setCell ⟨lb, p * 4 + 1, none⟩ (.int .i64 n1)).setCell ⟨lb, p * 4 + 2, none⟩ (.int .i64 n2)).setCell ⟨lb, p * 4 + 3, none⟩ (.bool nz)) :=
            Frm.setCell (S := fun q => q = lb) (Frm.setCell (S := fun q => q = lb) (Frm.setCell (S := fun q => q = lb) (Frm.setCell (S := fun q => q = lb) (Frm.refl _ XF) ⟨lb, p * 4, none⟩ (Or.inr rfl) _) ⟨lb, p * 4 + 1, none⟩ (Or.inr rfl) _) ⟨lb, p * 4 + 2, none⟩ (Or.inr rfl) _) ⟨lb, p * 4 + 3, none⟩ (Or.inr rfl) _
          have nlq : ¬ qb = lb := fun e => by have := kXD.out.lbl; have := kqz.out; omega
          have hqY := hid ((fL.block qb (Array.getElem?_eq_some_iff.1 kq.out).1 nlq).trans kq.out)
          clear l0 l1 l2 l3 z0 z1 z2 z3 s0' s1' s2' s3' u0 u1 u2 uz
          generalize (((XF.setCell ⟨lb, p * 4, none⟩ (.bool ny)).setCell ⟨lb, p * 4 + 1, none⟩ (.int .i64 n1)).setCell ⟨lb, p * 4 + 2, none⟩ (.int .i64 n2)).setCell ⟨lb, p * 4 + 3, none⟩ (.bool nz) = YA at *
          obtain ⟨u0, u1, u2, uz⟩ := three_cells hqY.out
          have uz2 := uz 2
          have tq : Hid (τ qb = 0) := by
            show τ qb = 0
            by_cases e : τ qb = 0
            · exact e
            · have := (kXD.out.new qb e).2
              have := kqz.out
              omega
          have kZ : Hid (DW w1 (YA.setCell ⟨qb, 2, none⟩ (.int .i64 (i : Int))) τ db ab lb O ⟨(stepS W.s p kd x (W.sn p)).1, setAt W.sn p (stepS W.s p kd x (W.sn p)).2.1, W.out⟩ (i + 1)) := by
            obtain ⟨sb', hd', e1, e2⟩ := kY.out.doc
            have f2 := frm_set YA qb 2 (.int .i64 (i : Int))
            have tq' := tq.out
            have := kqz.out
            have := kXD.out.old.size
            exact kY.out.frm f2 (fun k hk e => Or.inr (by subst e; exact ⟨tq', by omega⟩)) ⟨sb', hd'.frm f2 (fun e => by subst e; omega) (fun e => by subst e; omega), e1, e2⟩ kY.out.bnd rfl
          have n5 : (YA.setCell ⟨qb, 2, none⟩ (.int .i64 (i : Int))).heap[qb]? = some (.cells #[.int .i64 v, .bool yy, .int .i64 (i : Int)] 52 (0, 0)) := by
            have hb := hqY.out
            simp [World.setCell, Array.getElem?_modify, hb]
          have oZ : Hid (w1.heap.size ≤ (YA.setCell ⟨qb, 2, none⟩ (.int .i64 (i : Int))).heap.size) := kZ.out.old.size
          clear uz nlq fL kY hqY
          go_wp2_with fail
          generalize YA.setCell ⟨qb, 2, none⟩ (.int .i64 (i : Int)) = ZA at *
          clear u0 u1 u2 uz2
          obtain ⟨u, uc, uo, ut⟩ := kZ.out.rows p (by rw [kn.out]; exact hpn)
          simp only at uo
          rw [kd'.out] at uo
          obtain ⟨ao5, cap5, rfl⟩ := owns_slice uo
          have kut := hid ut
          have hneq : Hid (∀ q, (Value.slice ao5 d cap5).ownBlock = some q → q ≠ qb ∧ q ≠ ab) := fun q hq => by
            have h8 := ut q hq
            refine ⟨fun e => ?_, fun e => ?_⟩
            · subst e
              have := tq.out
              omega
            · subst e
              have := kXD.out.tab
              omega
          have habq : ab ≠ qb := fun e => by
            have h8 := kXD.out.tab
            rw [e, tq.out] at h8
            omega
          obtain ⟨j0, hj0, hy0, hy1, hy2⟩ := info52p
          refine wp_region_noPanic ?_
          refine wp_region_held_drew (S := fun X => X.heap[qb]? = some (.cells #[.int .i64 v, .bool yy, .int .i64 (i : Int)] 52 (0, 0))) (by kernel_rfl) n5 (fun hHeld => ?_)
          obtain ⟨W0, hW0⟩ : ∃ W0, ZA.drew = W0 := ⟨_, rfl⟩
          have oW0 : Hid (Old ZA W0) := by rw [← hW0]; exact (Old.refl ZA).drewN 1
          rw [hW0] at hHeld ⊢
          have cv := oW0.out.cell uc
          have oWA := hid (oW0.out.alloc (.cells #[.int .i64 v, .bool yy, .int .i64 (i : Int)] 52))
          have cva := oWA.out.cell uc
          have hrow := owns_frm uo oWA.out (fun _ _ h => h)
          have nWA : Hid ((W0.alloc (.cells #[.int .i64 v, .bool yy, .int .i64 (i : Int)] 52)).heap[qb]? = some (.cells #[.int .i64 v, .bool yy, .int .i64 (i : Int)] 52 (0, 0))) := by
            rw [Below.heap_alloc _ _ _ (Array.getElem?_eq_some_iff.1 hHeld).1]; exact hHeld
          have hbs : w1.heap.size ≤ (W0.alloc (.cells #[.int .i64 v, .bool yy, .int .i64 (i : Int)] 52)).heap.size := Nat.le_trans oZ.out oWA.out.size
          clear hW0 uc uo ut n5
          refine' wpAnyH_take (i := 0) rfl (by kernel_rfl) (by kernel_rfl) (by kernel_rfl) (fun _ _ _ h => h) (Or.inl ⟨by rfl, ?_⟩) hHeld ?_
          rotate_left
          · intro W hSw
            clear hSw
            simp only [List.getElem_toArray, List.getElem_cons_zero]
            go_simp
            all_goals with_reducible rfl
          simp only [List.getElem_toArray, List.getElem_cons_zero, Act.put, List.setIfInBounds_toArray, List.set_cons_zero, List.set_cons_succ]
          refine' wpAnyH_take (i := 1) rfl (by kernel_rfl) (by kernel_rfl) (by kernel_rfl) (fun _ _ _ h => h) (Or.inl ⟨by rfl, ?_⟩) hHeld ?_
          rotate_left
          · intro W hSw
            clear hSw
            simp only [List.getElem_toArray, List.getElem_cons_zero, List.getElem_cons_succ]
            go_simp
            all_goals with_reducible rfl
          simp only [List.getElem_toArray, List.getElem_cons_zero, List.getElem_cons_succ, Act.put, List.setIfInBounds_toArray, List.set_cons_zero, List.set_cons_succ]
          refine' wpAnyH_take (i := 2) rfl (by kernel_rfl) (by kernel_rfl) (by kernel_rfl) (fun _ _ _ h => h) (Or.inl ⟨by rfl, ?_⟩) hHeld ?_
          rotate_left
          · intro W hSw
            clear hSw
            simp only [List.getElem_toArray, List.getElem_cons_zero, List.getElem_cons_succ]
            go_simp
            all_goals with_reducible rfl
          simp only [List.getElem_toArray, List.getElem_cons_zero, List.getElem_cons_succ, Act.put, List.setIfInBounds_toArray, List.set_cons_zero, List.set_cons_succ]
          refine' wpAnyH_take (i := 3) rfl (by kernel_rfl) (by kernel_rfl) (by kernel_rfl) (fun _ _ _ h => h) (Or.inl ⟨by rfl, ?_⟩) hHeld ?_
          rotate_left
          · intro W hSw
            clear hSw
            simp only [List.getElem_toArray, List.getElem_cons_zero, List.getElem_cons_succ]
            go_simp
            all_goals with_reducible rfl
          simp only [List.getElem_toArray, List.getElem_cons_zero, List.getElem_cons_succ, Act.put, List.setIfInBounds_toArray, List.set_cons_zero, List.set_cons_succ]
          refine' wpAnyH_take (i := 4) rfl (by kernel_rfl) (by kernel_rfl) (by kernel_rfl) (fun _ _ _ h => h) (Or.inl ⟨by rfl, ?_⟩) hHeld ?_
          rotate_left
          · intro W hSw
            clear hSw
            simp only [List.getElem_toArray, List.getElem_cons_zero, List.getElem_cons_succ]
            go_simp
            all_goals with_reducible rfl
          simp only [List.getElem_toArray, List.getElem_cons_zero, List.getElem_cons_succ, Act.put, List.setIfInBounds_toArray, List.set_cons_zero, List.set_cons_succ]
          refine' wpAnyH_take (i := 6) rfl (by kernel_rfl) (by kernel_rfl) (by kernel_rfl) (fun _ _ _ h => h) (Or.inl ⟨by rfl, ?_⟩) hHeld ?_
          rotate_left
          · intro W hSw
            have hSv : W.heap[qb]? = some (.cells #[.int .i64 v, .bool yy, .int .i64 (i : Int)] 52 (0, 0)) := hSw
            clear hSw
            obtain ⟨c0, c1, c2, _⟩ := three_cells hSv
            simp only [List.getElem_toArray, List.getElem_cons_zero, List.getElem_cons_succ]
            go_simp
            all_goals with_reducible rfl
          simp only [List.getElem_toArray, List.getElem_cons_zero, List.getElem_cons_succ, Act.put, List.setIfInBounds_toArray, List.set_cons_zero, List.set_cons_succ]
          refine wpAnyH_ready (rs := [5, 7]) (by kernel_rfl) (by simp) ?_
          refine AllReadyH.cons (o := _) rfl (fun K hK => ?_) (AllReadyH.cons (o := _) rfl (fun K hK => ?_) AllReadyH.nil)
          · simp only [List.getElem_toArray, List.getElem_cons_zero, List.getElem_cons_succ]
            go_simp
            refine hK.out _ _ hHeld (fun hHeld => ?_)
            clear hK K
            try simp only [Act.put, List.setIfInBounds_toArray, List.set_cons_zero, List.set_cons_succ]
            refine wpAnyH_ready (rs := [7]) (by kernel_rfl) (by simp) ?_
            refine AllReadyH.cons (o := _) rfl (fun K hK => ?_) AllReadyH.nil
            simp only [List.getElem_toArray, List.getElem_cons_zero, List.getElem_cons_succ]
            go_simp
            refine hK.out _ _ nWA.out (fun hHeld => ?_)
            clear hK K
            try simp only [Act.put, List.setIfInBounds_toArray, List.set_cons_zero, List.set_cons_succ]
            refine wpAnyH_ready (rs := [8]) (by kernel_rfl) (by simp) ?_
            refine AllReadyH.cons (o := _) rfl (fun K hK => ?_) AllReadyH.nil
            refine step_append_lies _ (by rfl) _ _ _ (by rfl) w1.heap.size 52 j0 _ 3 24 Try.underlying77 hj0 hy0 hy1 hy2 rfl (by omega) (.slice ao5 d cap5) d (flatA (W.out p)) (by rfl) hrow ⟨W0.heap.size, 0, none⟩ 1 1 [.int .i64 v, .bool yy, .int .i64 (i : Int)] (by rfl) (by rfl) (World.news_of_block (cs := #[.int .i64 v, .bool yy, .int .i64 (i : Int)]) (t := 52) (fr := (0, 0)) (heap_new W0 _)) (by simp [Value.oneCell']) (by omega) (by unfold maxLen; omega) (by omega) hbs (W0.heap.size + 1) (by simp) ?_
            intro g1 cg1 W1 hown1 hgrow1 hat1 hlt1
            have z4 : W1.heap[qb]? = _ := (hgrow1.block qb (Array.getElem?_eq_some_iff.1 nWA.out).1 (fun e => (hneq.out qb e.symm).1 rfl)).trans nWA.out
            refine hK.out _ _ z4 (fun hHeld => ?_)
            clear hK K
            try simp only [Act.put, List.setIfInBounds_toArray]
            refine' wpAnyH_take (i := 9) rfl (by kernel_rfl) (by kernel_rfl) (by kernel_rfl) (fun _ _ _ h => h) (Or.inl ⟨by rfl, ?_⟩) hHeld ?_
            rotate_left
            · intro W hSw
              clear hSw
              simp only [List.getElem_toArray, List.getElem_cons_zero, List.getElem_cons_succ]
              go_simp
              all_goals with_reducible rfl
            simp only [List.getElem_toArray, List.getElem_cons_zero, List.getElem_cons_succ, Act.put, List.setIfInBounds_toArray, List.set_cons_zero, List.set_cons_succ]
            refine wpAnyH_ready (rs := [10]) (by kernel_rfl) (by simp) ?_
            refine AllReadyH.cons (o := _) rfl (fun K hK => ?_) AllReadyH.nil
            have abl := kZ.out.abl
            have fW : Frm (fun q => τ q = 10 + p) ZA W1 := Frm.grown (Frm.mono oWA.out (fun _ _ h => h.elim)) hgrow1 (fun q hq => Or.inr (kut.out q hq))
            have nab : ¬ τ ab = 10 + p := by have := kZ.out.tab; omega
            have y4 : W1.cell? ⟨ab, p, none⟩ = some (.slice ao5 d cap5) := (World.cell?_of_block (hgrow1.block ab (Nat.lt_of_lt_of_le abl oWA.out.size) (fun e => (hneq.out ab e.symm).2 rfl))).trans cva
            have f4 : W1.frozen? ⟨ab, p, none⟩ = false := (frm_frozen fW abl nab p).trans (kZ.out.abz p)
            simp only [List.getElem_toArray, List.getElem_cons_zero, List.getElem_cons_succ]
            go_simp
            have hPX := (kZ.out.olds oWA.out).app (j := p) (a := (v, yy, (i : Int))) (g := g1) (cap := cg1) (by rw [kn.out]; exact hpn) (by show setAt W.sn p _ p = none; rw [stepS_some kR.out]; simp [setAt]) cva kut.out hgrow1 (by simp only [kd'.out]; exact hown1) (hat1.elim Or.inl (fun e => Or.inr (by rw [e]; simp))) hlt1
            obtain ⟨τX, hPX⟩ := hPX
            simp only [kd'.out] at hPX
            have sY : (W1.setCell ⟨ab, p, none⟩ (.slice (some ⟨g1, 0, none⟩) (d + 1) cg1)).heap[qb]? = _ := (Below.heap_setCell W1 ⟨ab, p, none⟩ _ qb (by simp only; omega)).trans z4
            obtain ⟨YB, hYB⟩ : ∃ YB, W1.setCell ⟨ab, p, none⟩ (.slice (some ⟨g1, 0, none⟩) (d + 1) cg1) = YB := ⟨_, rfl⟩
            rw [hYB] at hPX sY ⊢
            refine hK.out _ _ sY (fun _ => ?_)
            clear hK K
            try simp only [Act.put]
            refine wpAnyH_done (by kernel_rfl) ?_ _
            refine NoPanic.normal ?_
            have kPX := hid hPX
            clear hPX sY hYB hown1 hgrow1 hat1 hlt1 z4 y4 f4 fW nab abl hHeld hrow hbs cv cva hy0 hy1 hy2 hj0
            go_wp2_with fail
            go_roundw
            case rel =>
              refine ⟨i + 1, by omega, by go_num, ?_⟩
              rw [kS.out, walkStep_some kn.out kk.out kd'.out (by rw [kln.out]; exact hfull) kop.out rfl kR.out, ka.out, ← stepS_some kR.out]
              exact ⟨τX, kPX.out⟩
            case measure => simp [intOf]; omega
          · simp only [List.getElem_toArray, List.getElem_cons_zero, List.getElem_cons_succ]
            go_simp
            refine hK.out _ _ nWA.out (fun hHeld => ?_)
            clear hK K
            try simp only [Act.put, List.setIfInBounds_toArray, List.set_cons_zero, List.set_cons_succ]
            refine wpAnyH_ready (rs := [5]) (by kernel_rfl) (by simp) ?_
            refine AllReadyH.cons (o := _) rfl (fun K hK => ?_) AllReadyH.nil
            simp only [List.getElem_toArray, List.getElem_cons_zero, List.getElem_cons_succ]
            go_simp
            refine hK.out _ _ hHeld (fun hHeld => ?_)
            clear hK K
            try simp only [Act.put, List.setIfInBounds_toArray, List.set_cons_zero, List.set_cons_succ]
            refine wpAnyH_ready (rs := [8]) (by kernel_rfl) (by simp) ?_
            refine AllReadyH.cons (o := _) rfl (fun K hK => ?_) AllReadyH.nil
            refine step_append_lies _ (by rfl) _ _ _ (by rfl) w1.heap.size 52 j0 _ 3 24 Try.underlying77 hj0 hy0 hy1 hy2 rfl (by omega) (.slice ao5 d cap5) d (flatA (W.out p)) (by rfl) hrow ⟨W0.heap.size, 0, none⟩ 1 1 [.int .i64 v, .bool yy, .int .i64 (i : Int)] (by rfl) (by rfl) (World.news_of_block (cs := #[.int .i64 v, .bool yy, .int .i64 (i : Int)]) (t := 52) (fr := (0, 0)) (heap_new W0 _)) (by simp [Value.oneCell']) (by omega) (by unfold maxLen; omega) (by omega) hbs (W0.heap.size + 1) (by simp) ?_
            intro g1 cg1 W1 hown1 hgrow1 hat1 hlt1
            have z4 : W1.heap[qb]? = _ := (hgrow1.block qb (Array.getElem?_eq_some_iff.1 nWA.out).1 (fun e => (hneq.out qb e.symm).1 rfl)).trans nWA.out
            refine hK.out _ _ z4 (fun hHeld => ?_)
            clear hK K
            try simp only [Act.put, List.setIfInBounds_toArray]
            refine' wpAnyH_take (i := 9) rfl (by kernel_rfl) (by kernel_rfl) (by kernel_rfl) (fun _ _ _ h => h) (Or.inl ⟨by rfl, ?_⟩) hHeld ?_
            rotate_left
            · intro W hSw
              clear hSw
              simp only [List.getElem_toArray, List.getElem_cons_zero, List.getElem_cons_succ]
              go_simp
              all_goals with_reducible rfl
            simp only [List.getElem_toArray, List.getElem_cons_zero, List.getElem_cons_succ, Act.put, List.setIfInBounds_toArray, List.set_cons_zero, List.set_cons_succ]
            refine wpAnyH_ready (rs := [10]) (by kernel_rfl) (by simp) ?_
            refine AllReadyH.cons (o := _) rfl (fun K hK => ?_) AllReadyH.nil
            have abl := kZ.out.abl
            have fW : Frm (fun q => τ q = 10 + p) ZA W1 := Frm.grown (Frm.mono oWA.out (fun _ _ h => h.elim)) hgrow1 (fun q hq => Or.inr (kut.out q hq))
            have nab : ¬ τ ab = 10 + p := by have := kZ.out.tab; omega
            have y4 : W1.cell? ⟨ab, p, none⟩ = some (.slice ao5 d cap5) := (World.cell?_of_block (hgrow1.block ab (Nat.lt_of_lt_of_le abl oWA.out.size) (fun e => (hneq.out ab e.symm).2 rfl))).trans cva
            have f4 : W1.frozen? ⟨ab, p, none⟩ = false := (frm_frozen fW abl nab p).trans (kZ.out.abz p)
            simp only [List.getElem_toArray, List.getElem_cons_zero, List.getElem_cons_succ]
            go_simp
            have hPX := (kZ.out.olds oWA.out).app (j := p) (a := (v, yy, (i : Int))) (g := g1) (cap := cg1) (by rw [kn.out]; exact hpn) (by show setAt W.sn p _ p = none; rw [stepS_some kR.out]; simp [setAt]) cva kut.out hgrow1 (by simp only [kd'.out]; exact hown1) (hat1.elim Or.inl (fun e => Or.inr (by rw [e]; simp))) hlt1
            obtain ⟨τX, hPX⟩ := hPX
            simp only [kd'.out] at hPX
            have sY : (W1.setCell ⟨ab, p, none⟩ (.slice (some ⟨g1, 0, none⟩) (d + 1) cg1)).heap[qb]? = _ := (Below.heap_setCell W1 ⟨ab, p, none⟩ _ qb (by simp only; omega)).trans z4
            obtain ⟨YB, hYB⟩ : ∃ YB, W1.setCell ⟨ab, p, none⟩ (.slice (some ⟨g1, 0, none⟩) (d + 1) cg1) = YB := ⟨_, rfl⟩
            rw [hYB] at hPX sY ⊢
            refine hK.out _ _ sY (fun _ => ?_)
            clear hK K
            try simp only [Act.put]
            refine wpAnyH_done (by kernel_rfl) ?_ _
            refine NoPanic.normal ?_
            have kPX := hid hPX
            clear hPX sY hYB hown1 hgrow1 hat1 hlt1 z4 y4 f4 fW nab abl hHeld hrow hbs cv cva hy0 hy1 hy2 hj0
            go_wp2_with fail
            go_roundw
            case rel =>
              refine ⟨i + 1, by omega, by go_num, ?_⟩
              rw [kS.out, walkStep_some kn.out kk.out kd'.out (by rw [kln.out]; exact hfull) kop.out rfl kR.out, ka.out, ← stepS_some kR.out]
              exact ⟨τX, kPX.out⟩
            case measure => simp [intOf]; omega
  obtain rfl : i = m := by omega
  obtain ⟨τ, hX⟩ := kR.out
  clear kR
  obtain ⟨sb, hdX, td, ts'⟩ := hX.doc
  have be := doc_end db sb (walkTo O P (walk0 mk gt ts n) i).s wr hdX hX.bnd.len
  have kbe := hid be
  have kX := hid hX
  clear hX be hdX
  have him' : ¬ (i : Int) < (i : Int) := by omega
  go_wp2_with fail
  refine kbe.out.mono ?_
  rintro e w6 ⟨rfl, o6⟩
  obtain ⟨e0, e1, e2, e3, e4, e5, e6, e7, he⟩ : ∃ (e0 e1 e2 e3 : Int) (e4 : Bool) (e5 : Int) (e6 : Bool) (e7 : Int), endV (walkTo O P (walk0 mk gt ts n) i).s = .agg #[.int .i64 e0, .int .i64 e1, .int .i64 e2, .int .i64 e3, .bool e4, .int .i64 e5, .bool e6, .int .i64 e7] := ⟨_, _, _, _, _, _, _, _, rfl⟩
  rw [he]
  have ke := hid he
  have hb : w6.heap[s0 + 1]? = some (.cells #[.int .i64 0, .int .i64 0, .int .i64 0, .int .i64 0, .bool false, .int .i64 0, .bool false, .int .i64 0] 63 (0, 0)) := by
    have l1 := (Array.getElem?_eq_some_iff.1 knB.out).1
    rw [o6.block _ (Nat.lt_of_lt_of_le l1 kX.out.old.size) (fun h => h), kX.out.old.block _ l1 (fun h => h)]
    exact knB.out
  have g : ∀ i v, (#[.int .i64 0, .int .i64 0, .int .i64 0, .int .i64 0, .bool false, .int .i64 0, .bool false, .int .i64 0] : Array Value)[i]? = some v → w6.cell? ⟨s0 + 1, i, none⟩ = some v := fun i v hv => by simp only [World.cell?, hb]; exact hv
  have gz : ∀ i, w6.frozen? ⟨s0 + 1, i, none⟩ = false := fun i => by simp [World.frozen?, hb]
  have g0 := g 0 _ rfl
  have z0 := gz 0
  have g1 := g 1 _ rfl
  have z1 := gz 1
  have g2 := g 2 _ rfl
  have z2 := gz 2
  have g3 := g 3 _ rfl
  have z3 := gz 3
  have g4 := g 4 _ rfl
  have z4 := gz 4
  have g5 := g 5 _ rfl
  have z5 := gz 5
  have g6 := g 6 _ rfl
  have z6 := gz 6
  have g7 := g 7 _ rfl
  have z7 := gz 7
  obtain ⟨q1, q2⟩ := set_eight (.int .i64 e0) (.int .i64 e1) (.int .i64 e2) (.int .i64 e3) (.bool e4) (.int .i64 e5) (.bool e6) (.int .i64 e7) hb
  have ko6 := hid o6
  have kq1 := hid q1
  have kq2 := hid q2
  clear kbe he hb g gz o6 q1 q2
  go_wp2_with fail
  obtain ⟨X3, x3⟩ : ∃ X3, (((((((w6.setCell ⟨s0 + 1, 0, none⟩ (.int .i64 e0)).setCell ⟨s0 + 1, 1, none⟩ (.int .i64 e1)).setCell ⟨s0 + 1, 2, none⟩ (.int .i64 e2)).setCell ⟨s0 + 1, 3, none⟩ (.int .i64 e3)).setCell ⟨s0 + 1, 4, none⟩ (.bool e4)).setCell ⟨s0 + 1, 5, none⟩ (.int .i64 e5)).setCell ⟨s0 + 1, 6, none⟩ (.bool e6)).setCell ⟨s0 + 1, 7, none⟩ (.int .i64 e7) = X3 := ⟨_, rfl⟩
  rw [x3] at kq1 kq2 ⊢
  clear x3 g0 z0 g1 z1 g2 z2 g3 z3 g4 z4 g5 z5 g6 z6 g7 z7
  go_wp2
  have g : ∀ i v, (#[.int .i64 e0, .int .i64 e1, .int .i64 e2, .int .i64 e3, .bool e4, .int .i64 e5, .bool e6, .int .i64 e7] : Array Value)[i]? = some v → X3.cell? ⟨s0 + 1, i, none⟩ = some v := fun i v hv => by simp only [World.cell?, kq1.out]; exact hv
  have g0 := g 0 _ rfl
  have g1 := g 1 _ rfl
  have g2 := g 2 _ rfl
  have g3 := g 3 _ rfl
  have g4 := g 4 _ rfl
  have g5 := g 5 _ rfl
  have g6 := g 6 _ rfl
  have g7 := g 7 _ rfl
  have l1 := (Array.getElem?_eq_some_iff.1 knB.out).1
  have z1 := kzA.out
  have z2 := kab.out
  have z3 := ks.out
  refine bodyPost_ret (v := .tuple #[.slice (some ⟨ab, 0, none⟩) n n, .agg #[.int .i64 e0, .int .i64 e1, .int .i64 e2, .int .i64 e3, .bool e4, .int .i64 e5, .bool e6, .int .i64 e7], .int .i64 0]) ?_ rfl ⟨ab, by rw [ke.out], ?_, by omega, fun j hj => ?_⟩
  · simp [results, Try.f22, go_sem, g0, g1, g2, g3, g4, g5, g6, g7]
  · exact Frm.trans ((ko.out.trans kX.out.old).trans ko6.out) kq2.out (fun k hk e => by omega)
  · obtain ⟨v, v1, v2, v3⟩ := kX.out.rows j (by rw [kn.out]; exact hj)
    refine ⟨v, frm_cell kq2.out (ko6.out.cell v1) (by simp only; omega), owns_mono (owns_frm (owns_frm v2 ko6.out (fun _ _ h => h)) kq2.out (fun q hq e => ?_)) (by omega)⟩
    have := (v2.lt q hq).1
    omega
end Go.Proofs.Ytpnnfkgnkalhlaa
