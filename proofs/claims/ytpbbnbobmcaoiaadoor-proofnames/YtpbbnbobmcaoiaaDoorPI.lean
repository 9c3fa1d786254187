/- A proof that may be: open: walked. -/
import Derived.Test.YtpbbnbobmcaoiaaDoorPH
import Derived.Test.YtpbbnbobmcaoiaaDoorPF
namespace Go.Proofs.YtpbbnbobmcaoiaaDoor
open Go.RowKit Go.Lib Go.Shelf
attribute [local go_sem] Oper.semAt_some

/-- A claim by which a proof may not be. -/
def bdB (gd : Int) (n : Nat) (P : List Cl) (i : Nat) : Bool := match P[i]? with
  | none => false
  | some c => !mbB gd n c || (decide (0 < i) && decide (¬ ltP ((P[i - 1]?).getD c).pt c.pt))
theorem bdB_at {gd : Int} {n : Nat} {P : List Cl} {i : Nat} (hi : i < P.length) : bdB gd n P i = (!mbB gd n P[i] || (decide (0 < i) && decide (¬ ltP (P[i - 1]'(by omega)).pt P[i].pt))) := by
  unfold bdB
  rw [List.getElem?_eq_getElem hi]
  dsimp only
  rw [List.getElem?_eq_getElem (show i - 1 < P.length by omega)]
  rfl
/-- The first such claim. -/
def bdO (gd : Int) (n : Nat) (P : List Cl) : Option Nat := (List.range P.length).find? (fun i => bdB gd n P i)
theorem bdO_first {gd : Int} {n : Nat} {P : List Cl} {k : Nat} (hk : k < P.length) (h : ∀ i, i < k → bdB gd n P i = false) (hb : bdB gd n P k = true) : bdO gd n P = some k := by
  unfold bdO
  rw [List.find?_range_eq_some]
  refine ⟨hb, List.mem_range.2 hk, fun j hj => ?_⟩
  rw [h j hj]
  rfl
theorem bdO_none {gd : Int} {n : Nat} {P : List Cl} (h : ∀ i, i < P.length → bdB gd n P i = false) : bdO gd n P = none := by
  unfold bdO
  rw [List.find?_eq_none]
  intro i hi
  rw [h i (List.mem_range.1 hi)]
  decide
theorem ris_of {gd : Int} {n : Nat} {P : List Cl} (h : ∀ i, i < P.length → bdB gd n P i = false) : Ris P := fun i hi => by
  have h1 := h (i + 1) hi
  rw [bdB_at hi] at h1
  simp only [Bool.or_eq_false_iff, Bool.and_eq_false_iff, decide_eq_false_iff_not, Nat.add_sub_cancel] at h1
  rcases h1.2 with h2 | h2
  · exact absurd (Nat.succ_pos i) h2
  · exact Classical.not_not.1 h2
theorem mb_of {gd : Int} {n : Nat} {P : List Cl} (h : ∀ i, i < P.length → bdB gd n P i = false) : ∀ i (hi : i < P.length), mbB gd n P[i] = true := fun i hi => by
  have h1 := h i hi
  rw [bdB_at hi] at h1
  simp only [Bool.or_eq_false_iff, Bool.not_eq_false'] at h1
  exact h1.1
/-- Where and why a proof may not be. -/
def opZ (gd : Int) (B : Ins) (P : List Cl) : Nat × Int := if (checkZ gd B).2.2 ≠ 0 then (0, 2) else match bdO gd B.length P with
  | some k => (k, 260)
  | none => if (fndO P (0, (allZ gd).1)).isSome then (0, 0) else (P.length, 260)
/-- What open answers. -/
def OpP (gd : Int) (B : Ins) (bo : Option Addr) (cap : Nat) (ao : Option Addr) (cp : Nat) (P : List Cl) (w : World) (e : Ending) (w' : World) : Prop := Old w w' ∧ (((opZ gd B P).2 ≠ 0 ∧ e = .returned (.tuple #[.pointer none, .int .i64 ((opZ gd B P).1 : Int), .int .i64 (opZ gd B P).2])) ∨
  ((opZ gd B P) = (0, 0) ∧ (checkZ gd B).2.2 = 0 ∧ (∀ i, i < P.length → bdB gd B.length P i = false) ∧ ∃ kb, e = .returned (.tuple #[.pointer (some ⟨kb, 0, none⟩), .int .i64 0, .int .i64 0]) ∧ BkC w' kb gd bo B.length cap ao cp P))

set_option maxRecDepth 100000 in
set_option maxHeartbeats 4000000 in
theorem open_any (gd : Int) (bo : Option Addr) (cap : Nat) (B : Ins) (ao : Option Addr) (cp : Nat) (P : List Cl) (w : World) (h : InsC w bo B) (hl : B.length ≤ 9223372036854775807) (hP : ClC w ao P) (hPl : P.length ≤ 4611686018427387904) :
    Calls Tryd.prog 31 #[.agg #[.int .i64 gd, .slice bo B.length cap], .agg #[.slice ao P.length cp]] w (OpP gd B bo cap ao cp P w) := by
  have oA : Old w ((w.alloc (.cells #[.int .i64 gd, .slice bo B.length cap] 24)).alloc (.cells #[.slice ao P.length cp] 27)) := ((Old.refl w).alloc _).alloc _
  have z1 := alloc_size w (.cells #[.int .i64 gd, .slice bo B.length cap] 24)
  have n5 := heap_new w (.cells #[.int .i64 gd, .slice bo B.length cap] 24)
  have n5 := (Below.heap_alloc _ (.cells #[.slice ao P.length cp] 27) _ (blk_lt n5)).trans n5
  have n6 := heap_new (w.alloc (.cells #[.int .i64 gd, .slice bo B.length cap] 24)) (.cells #[.slice ao P.length cp] 27)
  rw [z1] at n6
  have x0 := blk_cells (i := 0) (v := .int .i64 gd) n5 rfl
  have x1 := blk_cells (i := 1) (v := .slice bo B.length cap) n5 rfl
  have p0 := blk_cells (i := 0) (v := .slice ao P.length cp) n6 rfl
  have ko := hid oA
  have kh := hid h
  have kP := hid hP
  have kI := hid (isInstance_any gd bo cap B _ (h.old oA) hl)
  clear oA n5 n6 z1 h hP
  go_enter Tryd.func31, Tryd.ntmps31
  go_upto_region 1 with fail
  generalize (w.alloc (.cells #[.int .i64 gd, .slice bo B.length cap] 24)).alloc (.cells #[.slice ao P.length cp] 27) = w1 at *
  generalize w.heap.size = s at *
  go_wp2_with fail
  refine kI.out.mono ?_
  rintro e w2 ⟨rfl, o2⟩
  replace x0 := o2.cell x0
  replace x1 := o2.cell x1
  replace p0 := o2.cell p0
  have ko2 := hid (ko.out.trans o2)
  by_cases hz : (checkZ gd B).2.2 = 0
  · have khz := hid hz
    rw [decide_eq_true hz]
    have kx0 := hid x0
    have kx1 := hid x1
    have kp0 := hid p0
    clear hz o2 kI
    go_wp2_with fail
    go_loopw [18] (fun t wr => ∃ k : Nat, k ≤ P.length ∧ t = .int .i64 (k : Int) ∧ Hid (Old w2 wr ∧ ∀ i, i < k → bdB gd B.length P i = false)) (fun t _ => P.length - (intOf t).toNat)
    case atStart => exact ⟨0, Nat.zero_le _, rfl, hid ⟨Old.refl _, fun i hi => absurd hi (Nat.not_lt_zero i)⟩⟩
    case round =>
      clear x0 x1 p0
      obtain ⟨k, hk, rfl, hX⟩ := hrel
      have koX := hid hX.out.1
      have kgo := hid hX.out.2
      clear hX
      by_cases hlt : k < P.length
      · have hlt' : (k : Int) < (P.length : Int) := by omega
        obtain ⟨g, o, vo, vp, hao, c0, c1, c2, c3, hn, hf32, hpl, -⟩ := (kP.out.old (ko2.out.trans koX.out)) k hlt
        have kbd := hid (bdB_at (gd := gd) (n := B.length) hlt)
        have kstop := hid (fun hb => bdO_first (gd := gd) (n := B.length) (P := P) hlt kgo.out hb)
        have kP1 : Hid (0 < k → ∃ g o vo vp, ao = some ⟨g, o, none⟩ ∧ wr.cell? ⟨g, o + (k - 1) * 4, none⟩ = some (.int .i64 (P[k - 1]'(by omega)).b) ∧ wr.cell? ⟨g, o + (k - 1) * 4 + 1, none⟩ = some (.int .u32 ((P[k - 1]'(by omega)).f : Int)) ∧ wr.cell? ⟨g, o + (k - 1) * 4 + 2, none⟩ = some (.int .i64 (P[k - 1]'(by omega)).m) ∧ wr.cell? ⟨g, o + (k - 1) * 4 + 3, none⟩ = some (.slice vo (P[k - 1]'(by omega)).p.length vp)) := hid (fun h0 => by
          obtain ⟨g, o, vo, vp, e, a0, a1, a2, a3, -⟩ := (kP.out.old (ko2.out.trans koX.out)) (k - 1) (by omega)
          exact ⟨g, o, vo, vp, e, a0, a1, a2, a3⟩)
        have koW := hid (ko2.out.trans koX.out)
        have x0 := koX.out.cell kx0.out
        have x1 := koX.out.cell kx1.out
        have p0 := koX.out.cell kp0.out
        obtain ⟨c, hc⟩ : ∃ c, P[k] = c := ⟨_, rfl⟩
        have kcP := hid hc
        rw [hc] at c0 c1 c2 c3 hn hf32 hpl
        subst hao
        have q1 : Old wr (wr.alloc (.cells #[.int .i64 c.b, .int .u32 (c.f : Int), .int .i64 c.m, .slice vo c.p.length vp] 48)) := (Old.refl wr).alloc _
        have d0 := new_cell wr #[.int .i64 c.b, .int .u32 (c.f : Int), .int .i64 c.m, .slice vo c.p.length vp] 48 0 _ rfl
        have d1 := new_cell wr #[.int .i64 c.b, .int .u32 (c.f : Int), .int .i64 c.m, .slice vo c.p.length vp] 48 1 _ rfl
        have d2 := new_cell wr #[.int .i64 c.b, .int .u32 (c.f : Int), .int .i64 c.m, .slice vo c.p.length vp] 48 2 _ rfl
        have d3 := new_cell wr #[.int .i64 c.b, .int .u32 (c.f : Int), .int .i64 c.m, .slice vo c.p.length vp] 48 3 _ rfl
        simp only [List.getElem_toArray, List.getElem_cons_zero, List.getElem_cons_succ] at d0 d1 d2 d3
        have kmb := hid (fun W (oW : Old (wr.alloc (.cells #[.int .i64 c.b, .int .u32 (c.f : Int), .int .i64 c.m, .slice vo c.p.length vp] 48)) W) => clMay_any gd bo B.length cap c vo vp W (hn.old (q1.trans oW)) hpl)
        unfold clV at kmb
        have kpo := hid (fun W => partOf_any c vo vp W)
        unfold clV at kpo
        have ky0 := hid (q1.cell x0)
        have ky1 := hid (q1.cell x1)
        have kyp := hid (q1.cell p0)
        have kq1 := hid q1
        clear hc hn hf32 hpl q1
        go_upto_region 6 with fail
        generalize wr.alloc (.cells #[.int .i64 c.b, .int .u32 (c.f : Int), .int .i64 c.m, .slice vo c.p.length vp] 48) = wc at *
        generalize wr.heap.size = cb at *
        clear x0 x1 p0 c0 c1 c2 c3
        have x0 := ky0.out
        have x1 := ky1.out
        have p0 := kyp.out
        rw [kcP.out] at kbd
        cases hmb : mbB gd B.length c with
        | false =>
          rw [hmb] at kmb kbd
          have kop : Hid (opZ gd B P = (k, 260)) := hid (by unfold opZ; rw [if_neg (fun e => e khz.out), kstop.out (by rw [kbd.out]; rfl)])
          refine wp_region_noPanic ?_
          refine wp_region_held_drew (S := fun X => Old wc X) (by kernel_rfl) ((Old.refl wc).drewN 1) (fun hHeld => ?_)
          generalize wc.drew = X0 at *
          refine' wpAnyH_take (i := 0) rfl (by kernel_rfl) (by kernel_rfl) (by kernel_rfl) (fun _ _ _ h => h) (Or.inl ⟨by rfl, ?_⟩) hHeld ?_
          rotate_left
          · intro W hSw
            have u0 := Old.cell hSw x0; have u1 := Old.cell hSw x1
            clear hSw
            simp only [List.getElem_toArray, List.getElem_cons_zero]
            go_simp
            all_goals with_reducible rfl
          simp only [List.getElem_toArray, List.getElem_cons_zero, Act.put, List.setIfInBounds_toArray, List.set_cons_zero, List.set_cons_succ]
          refine' wpAnyH_take (i := 1) rfl (by kernel_rfl) (by kernel_rfl) (by kernel_rfl) (fun _ _ _ h => h) (Or.inl ⟨by rfl, ?_⟩) hHeld ?_
          rotate_left
          · intro W hSw
            have u5 := Old.cell hSw d0; have u6 := Old.cell hSw d1; have u7 := Old.cell hSw d2; have u8 := Old.cell hSw d3
            clear hSw
            simp only [List.getElem_toArray, List.getElem_cons_zero, List.getElem_cons_succ]
            go_simp
            all_goals with_reducible rfl
          simp only [List.getElem_toArray, List.getElem_cons_zero, List.getElem_cons_succ, Act.put, List.setIfInBounds_toArray, List.set_cons_zero, List.set_cons_succ]
          refine wpAnyH_ready (rs := [2]) (by kernel_rfl) (by simp) ?_
          refine AllReadyH.cons (o := _) rfl (fun K hK => ?_) AllReadyH.nil
          simp only [List.getElem_toArray, List.getElem_cons_zero, List.getElem_cons_succ]
          go_simp
          refine (kmb.out X0 hHeld).mono ?_
          rintro e X1 ⟨rfl, o⟩
          have hHeld2 := Old.trans hHeld o
          refine hK.out _ _ hHeld2 (fun _ => ?_)
          clear hK K hHeld o
          have hHeld := hHeld2
          clear hHeld2
          try simp only [Act.put, List.setIfInBounds_toArray, List.set_cons_zero, List.set_cons_succ]
          refine' wpAnyH_take (i := 3) rfl (by kernel_rfl) (by kernel_rfl) (by kernel_rfl) (fun _ _ _ h => h) (Or.inl ⟨by rfl, ?_⟩) hHeld ?_
          rotate_left
          · intro W hSw
            skip
            clear hSw
            simp only [List.getElem_toArray, List.getElem_cons_zero, List.getElem_cons_succ]
            go_simp
            all_goals with_reducible rfl
          simp only [List.getElem_toArray, List.getElem_cons_zero, List.getElem_cons_succ, Act.put, List.setIfInBounds_toArray, List.set_cons_zero, List.set_cons_succ]
          refine' wpAnyH_take (i := 4) rfl (by kernel_rfl) (by kernel_rfl) (by kernel_rfl) (fun _ _ _ h => h) (Or.inl ⟨by rfl, ?_⟩) hHeld ?_
          rotate_left
          · intro W hSw
            skip
            clear hSw
            simp only [List.getElem_toArray, List.getElem_cons_zero, List.getElem_cons_succ]
            go_simp
            all_goals with_reducible rfl
          simp only [List.getElem_toArray, List.getElem_cons_zero, List.getElem_cons_succ, Act.put, List.setIfInBounds_toArray, List.set_cons_zero, List.set_cons_succ]
          refine' wpAnyH_take (i := 5) rfl (by kernel_rfl) (by kernel_rfl) (by kernel_rfl) (fun _ _ _ h => h) (Or.inr ⟨by rfl, rfl⟩) hHeld ?_
          simp only [List.getElem_toArray, List.getElem_cons_zero, List.getElem_cons_succ, Act.put, List.setIfInBounds_toArray, List.set_cons_zero, List.set_cons_succ]
          refine' wpAnyH_take (i := 6) rfl (by kernel_rfl) (by kernel_rfl) (by kernel_rfl) (fun _ _ _ h => h) (Or.inr ⟨by rfl, rfl⟩) hHeld ?_
          simp only [List.getElem_toArray, List.getElem_cons_zero, List.getElem_cons_succ, Act.put, List.setIfInBounds_toArray, List.set_cons_zero, List.set_cons_succ]
          refine' wpAnyH_take (i := 7) rfl (by kernel_rfl) (by kernel_rfl) (by kernel_rfl) (fun _ _ _ h => h) (Or.inr ⟨by rfl, rfl⟩) hHeld ?_
          simp only [List.getElem_toArray, List.getElem_cons_zero, List.getElem_cons_succ, Act.put, List.setIfInBounds_toArray, List.set_cons_zero, List.set_cons_succ]
          refine' wpAnyH_take (i := 8) rfl (by kernel_rfl) (by kernel_rfl) (by kernel_rfl) (fun _ _ _ h => h) (Or.inr ⟨by rfl, rfl⟩) hHeld ?_
          simp only [List.getElem_toArray, List.getElem_cons_zero, List.getElem_cons_succ, Act.put, List.setIfInBounds_toArray, List.set_cons_zero, List.set_cons_succ]
          refine' wpAnyH_take (i := 9) rfl (by kernel_rfl) (by kernel_rfl) (by kernel_rfl) (fun _ _ _ h => h) (Or.inr ⟨by rfl, rfl⟩) hHeld ?_
          simp only [List.getElem_toArray, List.getElem_cons_zero, List.getElem_cons_succ, Act.put, List.setIfInBounds_toArray, List.set_cons_zero, List.set_cons_succ]
          refine' wpAnyH_take (i := 10) rfl (by kernel_rfl) (by kernel_rfl) (by kernel_rfl) (fun _ _ _ h => h) (Or.inr ⟨by rfl, rfl⟩) hHeld ?_
          simp only [List.getElem_toArray, List.getElem_cons_zero, List.getElem_cons_succ, Act.put, List.setIfInBounds_toArray, List.set_cons_zero, List.set_cons_succ]
          refine' wpAnyH_take (i := 11) rfl (by kernel_rfl) (by kernel_rfl) (by kernel_rfl) (fun _ _ _ h => h) (Or.inr ⟨by rfl, rfl⟩) hHeld ?_
          simp only [List.getElem_toArray, List.getElem_cons_zero, List.getElem_cons_succ, Act.put, List.setIfInBounds_toArray, List.set_cons_zero, List.set_cons_succ]
          refine' wpAnyH_take (i := 12) rfl (by kernel_rfl) (by kernel_rfl) (by kernel_rfl) (fun _ _ _ h => h) (Or.inr ⟨by rfl, rfl⟩) hHeld ?_
          simp only [List.getElem_toArray, List.getElem_cons_zero, List.getElem_cons_succ, Act.put, List.setIfInBounds_toArray, List.set_cons_zero, List.set_cons_succ]
          refine' wpAnyH_take (i := 13) rfl (by kernel_rfl) (by kernel_rfl) (by kernel_rfl) (fun _ _ _ h => h) (Or.inr ⟨by rfl, rfl⟩) hHeld ?_
          simp only [List.getElem_toArray, List.getElem_cons_zero, List.getElem_cons_succ, Act.put, List.setIfInBounds_toArray, List.set_cons_zero, List.set_cons_succ]
          refine' wpAnyH_take (i := 14) rfl (by kernel_rfl) (by kernel_rfl) (by kernel_rfl) (fun _ _ _ h => h) (Or.inr ⟨by rfl, rfl⟩) hHeld ?_
          simp only [List.getElem_toArray, List.getElem_cons_zero, List.getElem_cons_succ, Act.put, List.setIfInBounds_toArray, List.set_cons_zero, List.set_cons_succ]
          refine' wpAnyH_take (i := 15) rfl (by kernel_rfl) (by kernel_rfl) (by kernel_rfl) (fun _ _ _ h => h) (Or.inr ⟨by rfl, rfl⟩) hHeld ?_
          simp only [List.getElem_toArray, List.getElem_cons_zero, List.getElem_cons_succ, Act.put, List.setIfInBounds_toArray, List.set_cons_zero, List.set_cons_succ]
          refine' wpAnyH_take (i := 16) rfl (by kernel_rfl) (by kernel_rfl) (by kernel_rfl) (fun _ _ _ h => h) (Or.inr ⟨by rfl, rfl⟩) hHeld ?_
          simp only [List.getElem_toArray, List.getElem_cons_zero, List.getElem_cons_succ, Act.put, List.setIfInBounds_toArray, List.set_cons_zero, List.set_cons_succ]
          refine' wpAnyH_take (i := 17) rfl (by kernel_rfl) (by kernel_rfl) (by kernel_rfl) (fun _ _ _ h => h) (Or.inr ⟨by rfl, rfl⟩) hHeld ?_
          simp only [List.getElem_toArray, List.getElem_cons_zero, List.getElem_cons_succ, Act.put, List.setIfInBounds_toArray, List.set_cons_zero, List.set_cons_succ]
          refine' wpAnyH_take (i := 18) rfl (by kernel_rfl) (by kernel_rfl) (by kernel_rfl) (fun _ _ _ h => h) (Or.inr ⟨by rfl, rfl⟩) hHeld ?_
          simp only [List.getElem_toArray, List.getElem_cons_zero, List.getElem_cons_succ, Act.put, List.setIfInBounds_toArray, List.set_cons_zero, List.set_cons_succ]
          refine' wpAnyH_take (i := 19) rfl (by kernel_rfl) (by kernel_rfl) (by kernel_rfl) (fun _ _ _ h => h) (Or.inr ⟨by rfl, rfl⟩) hHeld ?_
          simp only [List.getElem_toArray, List.getElem_cons_zero, List.getElem_cons_succ, Act.put, List.setIfInBounds_toArray, List.set_cons_zero, List.set_cons_succ]
          refine' wpAnyH_take (i := 20) rfl (by kernel_rfl) (by kernel_rfl) (by kernel_rfl) (fun _ _ _ h => h) (Or.inl ⟨by rfl, ?_⟩) hHeld ?_
          rotate_left
          · intro W hSw
            skip
            clear hSw
            simp only [List.getElem_toArray, List.getElem_cons_zero, List.getElem_cons_succ]
            go_simp
            all_goals with_reducible rfl
          simp only [List.getElem_toArray, List.getElem_cons_zero, List.getElem_cons_succ, Act.put, List.setIfInBounds_toArray, List.set_cons_zero, List.set_cons_succ]
          refine wpAnyH_done (by kernel_rfl) ?_ _
          refine NoPanic.normal ?_
          have koE := hid ((koW.out.trans kq1.out).trans hHeld)
          clear hHeld
          go_wp2_with fail
          refine bodyPost_ret (v := .tuple #[.pointer none, .int .i64 (k : Int), .int .i64 260]) (by simp [results, Tryd.f31, go_sem]) rfl ?_
          exact ⟨koE.out, .inl ⟨by rw [kop.out]; show (260 : Int) ≠ 0; decide, by rw [kop.out]⟩⟩
        | true =>
          rw [hmb] at kmb kbd
          by_cases h0 : 0 < k
          · have hg0 : (k : Int) > 0 := by omega
            have hgd : decide ((k : Int) > 0) = true := decide_eq_true hg0
            obtain ⟨g', o', vo', vp', hao', a0, a1, a2, a3⟩ := kP1.out h0
            have e0 := kq1.out.cell a0
            have e1 := kq1.out.cell a1
            have e2 := kq1.out.cell a2
            have e3 := kq1.out.cell a3
            cases hao'
            obtain ⟨c', hc'⟩ : ∃ c', P[k - 1]'(by omega) = c' := ⟨_, rfl⟩
            rw [hc'] at e0 e1 e2 e3 kbd
            have hk1 : (k : Int) - 1 < (P.length : Int) := by omega
            have hk0 : 0 ≤ (k : Int) - 1 := by omega
            have hkn : ((k : Int) - 1).toNat = k - 1 := by omega
            have hwr : IntKind.i64.wrap ((k : Int) - 1) = (k : Int) - 1 := by rw [IntKind.wrap_i64]; omega
            have kpo2 := hid (fun W => partOf_any c' vo' vp' W)
            unfold clV at kpo2
            have kcm := hid (fun W => pcompare_any c'.b c.b c'.f c.f W)
            have kcl := hid (cmP_lt c'.b c'.f c.b c.f)
            clear a0 a1 a2 a3 hc'
            have h1k : (1 : Int) ≤ (k : Int) := by omega
            generalize cmP c'.b c'.f c.b c.f = z at *
            by_cases hz : z ≥ 0
            · have hzd : decide (z ≥ 0) = true := decide_eq_true hz
              have hnl : ¬ ltP c'.pt c.pt := fun e => by have := kcl.out.2 e; omega
              have kop : Hid (opZ gd B P = (k, 260)) := hid (by unfold opZ; rw [if_neg (fun e => e khz.out), kstop.out (by rw [kbd.out, decide_eq_true h0, decide_eq_true hnl]; rfl)])
              clear hnl
              refine wp_region_noPanic ?_
              refine wp_region_held_drew (S := fun X => Old wc X) (by kernel_rfl) ((Old.refl wc).drewN 1) (fun hHeld => ?_)
              generalize wc.drew = X0 at *
              refine' wpAnyH_take (i := 0) rfl (by kernel_rfl) (by kernel_rfl) (by kernel_rfl) (fun _ _ _ h => h) (Or.inl ⟨by rfl, ?_⟩) hHeld ?_
              rotate_left
              · intro W hSw
                have u0 := Old.cell hSw x0; have u1 := Old.cell hSw x1
                clear hSw
                simp only [List.getElem_toArray, List.getElem_cons_zero]
                go_simp
                all_goals with_reducible rfl
              simp only [List.getElem_toArray, List.getElem_cons_zero, Act.put, List.setIfInBounds_toArray, List.set_cons_zero, List.set_cons_succ]
              refine' wpAnyH_take (i := 1) rfl (by kernel_rfl) (by kernel_rfl) (by kernel_rfl) (fun _ _ _ h => h) (Or.inl ⟨by rfl, ?_⟩) hHeld ?_
              rotate_left
              · intro W hSw
                have u5 := Old.cell hSw d0; have u6 := Old.cell hSw d1; have u7 := Old.cell hSw d2; have u8 := Old.cell hSw d3
                clear hSw
                simp only [List.getElem_toArray, List.getElem_cons_zero, List.getElem_cons_succ]
                go_simp
                all_goals with_reducible rfl
              simp only [List.getElem_toArray, List.getElem_cons_zero, List.getElem_cons_succ, Act.put, List.setIfInBounds_toArray, List.set_cons_zero, List.set_cons_succ]
              refine wpAnyH_ready (rs := [2]) (by kernel_rfl) (by simp) ?_
              refine AllReadyH.cons (o := _) rfl (fun K hK => ?_) AllReadyH.nil
              simp only [List.getElem_toArray, List.getElem_cons_zero, List.getElem_cons_succ]
              go_simp
              refine (kmb.out X0 hHeld).mono ?_
              rintro e X1 ⟨rfl, o⟩
              have hHeld2 := Old.trans hHeld o
              refine hK.out _ _ hHeld2 (fun _ => ?_)
              clear hK K hHeld o
              have hHeld := hHeld2
              clear hHeld2
              try simp only [Act.put, List.setIfInBounds_toArray, List.set_cons_zero, List.set_cons_succ]
              refine' wpAnyH_take (i := 3) rfl (by kernel_rfl) (by kernel_rfl) (by kernel_rfl) (fun _ _ _ h => h) (Or.inl ⟨by rfl, ?_⟩) hHeld ?_
              rotate_left
              · intro W hSw
                skip
                clear hSw
                simp only [List.getElem_toArray, List.getElem_cons_zero, List.getElem_cons_succ]
                go_simp
                all_goals with_reducible rfl
              simp only [List.getElem_toArray, List.getElem_cons_zero, List.getElem_cons_succ, Act.put, List.setIfInBounds_toArray, List.set_cons_zero, List.set_cons_succ]
              refine' wpAnyH_take (i := 4) rfl (by kernel_rfl) (by kernel_rfl) (by kernel_rfl) (fun _ _ _ h => h) (Or.inl ⟨by rfl, ?_⟩) hHeld ?_
              rotate_left
              · intro W hSw
                skip
                clear hSw
                simp only [List.getElem_toArray, List.getElem_cons_zero, List.getElem_cons_succ]
                go_simp
                all_goals with_reducible rfl
              simp only [List.getElem_toArray, List.getElem_cons_zero, List.getElem_cons_succ, Act.put, List.setIfInBounds_toArray, List.set_cons_zero, List.set_cons_succ]
              refine' wpAnyH_take (i := 5) rfl (by kernel_rfl) (by kernel_rfl) (by kernel_rfl) (fun _ _ _ h => h) (Or.inl ⟨by rfl, ?_⟩) hHeld ?_
              rotate_left
              · intro W hSw
                skip
                clear hSw
                simp only [List.getElem_toArray, List.getElem_cons_zero, List.getElem_cons_succ]
                go_simp
                all_goals with_reducible rfl
              simp only [List.getElem_toArray, List.getElem_cons_zero, List.getElem_cons_succ, Act.put, List.setIfInBounds_toArray, List.set_cons_zero, List.set_cons_succ]
              refine' wpAnyH_take (i := 6) rfl (by kernel_rfl) (by kernel_rfl) (by kernel_rfl) (fun _ _ _ h => h) (Or.inl ⟨by rfl, ?_⟩) hHeld ?_
              rotate_left
              · intro W hSw
                skip
                clear hSw
                simp only [List.getElem_toArray, List.getElem_cons_zero, List.getElem_cons_succ]
                go_simp
                all_goals with_reducible rfl
              simp only [List.getElem_toArray, List.getElem_cons_zero, List.getElem_cons_succ, Act.put, List.setIfInBounds_toArray, List.set_cons_zero, List.set_cons_succ]
              refine' wpAnyH_take (i := 7) rfl (by kernel_rfl) (by kernel_rfl) (by kernel_rfl) (fun _ _ _ h => h) (Or.inl ⟨by rfl, ?_⟩) hHeld ?_
              rotate_left
              · intro W hSw
                skip
                clear hSw
                simp only [List.getElem_toArray, List.getElem_cons_zero, List.getElem_cons_succ]
                go_simp
                all_goals with_reducible rfl
              simp only [List.getElem_toArray, List.getElem_cons_zero, List.getElem_cons_succ, Act.put, List.setIfInBounds_toArray, List.set_cons_zero, List.set_cons_succ]
              refine' wpAnyH_take (i := 8) rfl (by kernel_rfl) (by kernel_rfl) (by kernel_rfl) (fun _ _ _ h => h) (Or.inl ⟨by rfl, ?_⟩) hHeld ?_
              rotate_left
              · intro W hSw
                skip
                clear hSw
                simp only [List.getElem_toArray, List.getElem_cons_zero, List.getElem_cons_succ]
                go_simp
                all_goals with_reducible rfl
              simp only [List.getElem_toArray, List.getElem_cons_zero, List.getElem_cons_succ, Act.put, List.setIfInBounds_toArray, List.set_cons_zero, List.set_cons_succ]
              refine' wpAnyH_take (i := 9) rfl (by kernel_rfl) (by kernel_rfl) (by kernel_rfl) (fun _ _ _ h => h) (Or.inl ⟨by rfl, ?_⟩) hHeld ?_
              rotate_left
              · intro W hSw
                have u0 := Old.cell hSw p0
                clear hSw
                simp only [List.getElem_toArray, List.getElem_cons_zero, List.getElem_cons_succ]
                go_simp
                all_goals with_reducible rfl
              simp only [List.getElem_toArray, List.getElem_cons_zero, List.getElem_cons_succ, Act.put, List.setIfInBounds_toArray, List.set_cons_zero, List.set_cons_succ]
              refine' wpAnyH_take (i := 10) rfl (by kernel_rfl) (by kernel_rfl) (by kernel_rfl) (fun _ _ _ h => h) (Or.inl ⟨by rfl, ?_⟩) hHeld ?_
              rotate_left
              · intro W hSw
                skip
                clear hSw
                simp only [List.getElem_toArray, List.getElem_cons_zero, List.getElem_cons_succ]
                go_simp
                all_goals with_reducible rfl
              simp only [List.getElem_toArray, List.getElem_cons_zero, List.getElem_cons_succ, Act.put, List.setIfInBounds_toArray, List.set_cons_zero, List.set_cons_succ]
              refine' wpAnyH_take (i := 11) rfl (by kernel_rfl) (by kernel_rfl) (by kernel_rfl) (fun _ _ _ h => h) (Or.inl ⟨by rfl, ?_⟩) hHeld ?_
              rotate_left
              · intro W hSw
                skip
                clear hSw
                simp only [List.getElem_toArray, List.getElem_cons_zero, List.getElem_cons_succ]
                go_simp
                all_goals with_reducible rfl
              simp only [List.getElem_toArray, List.getElem_cons_zero, List.getElem_cons_succ, Act.put, List.setIfInBounds_toArray, List.set_cons_zero, List.set_cons_succ]
              refine' wpAnyH_take (i := 12) rfl (by kernel_rfl) (by kernel_rfl) (by kernel_rfl) (fun _ _ _ h => h) (Or.inl ⟨by rfl, ?_⟩) hHeld ?_
              rotate_left
              · intro W hSw
                skip
                clear hSw
                simp only [List.getElem_toArray, List.getElem_cons_zero, List.getElem_cons_succ]
                go_simp
                all_goals with_reducible rfl
              simp only [List.getElem_toArray, List.getElem_cons_zero, List.getElem_cons_succ, Act.put, List.setIfInBounds_toArray, List.set_cons_zero, List.set_cons_succ]
              refine' wpAnyH_take (i := 13) rfl (by kernel_rfl) (by kernel_rfl) (by kernel_rfl) (fun _ _ _ h => h) (Or.inl ⟨by rfl, ?_⟩) hHeld ?_
              rotate_left
              · intro W hSw
                have u5 := Old.cell hSw e0; have u6 := Old.cell hSw e1; have u7 := Old.cell hSw e2; have u8 := Old.cell hSw e3
                clear hSw
                simp only [List.getElem_toArray, List.getElem_cons_zero, List.getElem_cons_succ]
                go_simp
                all_goals with_reducible rfl
              simp only [List.getElem_toArray, List.getElem_cons_zero, List.getElem_cons_succ, Act.put, List.setIfInBounds_toArray, List.set_cons_zero, List.set_cons_succ]
              refine' wpAnyH_take (i := 15) rfl (by kernel_rfl) (by kernel_rfl) (by kernel_rfl) (fun _ _ _ h => h) (Or.inl ⟨by rfl, ?_⟩) hHeld ?_
              rotate_left
              · intro W hSw
                have u5 := Old.cell hSw d0; have u6 := Old.cell hSw d1; have u7 := Old.cell hSw d2; have u8 := Old.cell hSw d3
                clear hSw
                simp only [List.getElem_toArray, List.getElem_cons_zero, List.getElem_cons_succ]
                go_simp
                all_goals with_reducible rfl
              simp only [List.getElem_toArray, List.getElem_cons_zero, List.getElem_cons_succ, Act.put, List.setIfInBounds_toArray, List.set_cons_zero, List.set_cons_succ]
              refine wpAnyH_ready (rs := [14]) (by kernel_rfl) (by simp) ?_
              refine AllReadyH.cons (o := _) rfl (fun K hK => ?_) AllReadyH.nil
              simp only [List.getElem_toArray, List.getElem_cons_zero, List.getElem_cons_succ]
              go_simp
              refine (kpo2.out X1).mono ?_
              rintro e X2 ⟨rfl, o⟩
              have hHeld2 := Old.trans hHeld o
              refine hK.out _ _ hHeld2 (fun _ => ?_)
              clear hK K hHeld o
              have hHeld := hHeld2
              clear hHeld2
              try simp only [Act.put, List.setIfInBounds_toArray, List.set_cons_zero, List.set_cons_succ]
              refine wpAnyH_ready (rs := [16]) (by kernel_rfl) (by simp) ?_
              refine AllReadyH.cons (o := _) rfl (fun K hK => ?_) AllReadyH.nil
              simp only [List.getElem_toArray, List.getElem_cons_zero, List.getElem_cons_succ]
              go_simp
              refine (kpo.out X2).mono ?_
              rintro e X3 ⟨rfl, o⟩
              have hHeld2 := Old.trans hHeld o
              refine hK.out _ _ hHeld2 (fun _ => ?_)
              clear hK K hHeld o
              have hHeld := hHeld2
              clear hHeld2
              try simp only [Act.put, List.setIfInBounds_toArray, List.set_cons_zero, List.set_cons_succ]
              refine wpAnyH_ready (rs := [17]) (by kernel_rfl) (by simp) ?_
              refine AllReadyH.cons (o := _) rfl (fun K hK => ?_) AllReadyH.nil
              simp only [List.getElem_toArray, List.getElem_cons_zero, List.getElem_cons_succ]
              go_simp
              refine (kcm.out X3).mono ?_
              rintro e X4 ⟨rfl, o⟩
              have hHeld2 := Old.trans hHeld o
              refine hK.out _ _ hHeld2 (fun _ => ?_)
              clear hK K hHeld o
              have hHeld := hHeld2
              clear hHeld2
              try simp only [Act.put, List.setIfInBounds_toArray, List.set_cons_zero, List.set_cons_succ]
              refine' wpAnyH_take (i := 18) rfl (by kernel_rfl) (by kernel_rfl) (by kernel_rfl) (fun _ _ _ h => h) (Or.inl ⟨by rfl, ?_⟩) hHeld ?_
              rotate_left
              · intro W hSw
                skip
                clear hSw
                simp only [List.getElem_toArray, List.getElem_cons_zero, List.getElem_cons_succ]
                go_simp
                all_goals with_reducible rfl
              simp only [List.getElem_toArray, List.getElem_cons_zero, List.getElem_cons_succ, Act.put, List.setIfInBounds_toArray, List.set_cons_zero, List.set_cons_succ]
              refine' wpAnyH_take (i := 19) rfl (by kernel_rfl) (by kernel_rfl) (by kernel_rfl) (fun _ _ _ h => h) (Or.inl ⟨by rfl, ?_⟩) hHeld ?_
              rotate_left
              · intro W hSw
                skip
                clear hSw
                simp only [List.getElem_toArray, List.getElem_cons_zero, List.getElem_cons_succ]
                go_simp
                all_goals with_reducible rfl
              simp only [List.getElem_toArray, List.getElem_cons_zero, List.getElem_cons_succ, Act.put, List.setIfInBounds_toArray, List.set_cons_zero, List.set_cons_succ]
              refine' wpAnyH_take (i := 20) rfl (by kernel_rfl) (by kernel_rfl) (by kernel_rfl) (fun _ _ _ h => h) (Or.inl ⟨by rfl, ?_⟩) hHeld ?_
              rotate_left
              · intro W hSw
                skip
                clear hSw
                simp only [List.getElem_toArray, List.getElem_cons_zero, List.getElem_cons_succ]
                go_simp
                all_goals with_reducible rfl
              simp only [List.getElem_toArray, List.getElem_cons_zero, List.getElem_cons_succ, Act.put, List.setIfInBounds_toArray, List.set_cons_zero, List.set_cons_succ]
              refine wpAnyH_done (by kernel_rfl) ?_ _
              refine NoPanic.normal ?_
              have koE := hid ((koW.out.trans kq1.out).trans hHeld)
              clear hHeld
              go_wp2_with fail
              refine bodyPost_ret (v := .tuple #[.pointer none, .int .i64 (k : Int), .int .i64 260]) (by simp [results, Tryd.f31, go_sem]) rfl ?_
              exact ⟨koE.out, .inl ⟨by rw [kop.out]; show (260 : Int) ≠ 0; decide, by rw [kop.out]⟩⟩
            · have hzd : decide (z ≥ 0) = false := decide_eq_false hz
              have hyl : ltP c'.pt c.pt := kcl.out.1 (by omega)
              have kg2 : Hid (∀ i, i < k + 1 → bdB gd B.length P i = false) := hid (fun i hi => by
                by_cases e : i = k
                · rw [e, kbd.out, decide_eq_true h0, decide_eq_false (show ¬ ¬ ltP c'.pt c.pt from fun e2 => e2 hyl)]
                  rfl
                · exact kgo.out i (by omega))
              clear hyl
              refine wp_region_noPanic ?_
              refine wp_region_held_drew (S := fun X => Old wc X) (by kernel_rfl) ((Old.refl wc).drewN 1) (fun hHeld => ?_)
              generalize wc.drew = X0 at *
              refine' wpAnyH_take (i := 0) rfl (by kernel_rfl) (by kernel_rfl) (by kernel_rfl) (fun _ _ _ h => h) (Or.inl ⟨by rfl, ?_⟩) hHeld ?_
              rotate_left
              · intro W hSw
                have u0 := Old.cell hSw x0; have u1 := Old.cell hSw x1
                clear hSw
                simp only [List.getElem_toArray, List.getElem_cons_zero]
                go_simp
                all_goals with_reducible rfl
              simp only [List.getElem_toArray, List.getElem_cons_zero, Act.put, List.setIfInBounds_toArray, List.set_cons_zero, List.set_cons_succ]
              refine' wpAnyH_take (i := 1) rfl (by kernel_rfl) (by kernel_rfl) (by kernel_rfl) (fun _ _ _ h => h) (Or.inl ⟨by rfl, ?_⟩) hHeld ?_
              rotate_left
              · intro W hSw
                have u5 := Old.cell hSw d0; have u6 := Old.cell hSw d1; have u7 := Old.cell hSw d2; have u8 := Old.cell hSw d3
                clear hSw
                simp only [List.getElem_toArray, List.getElem_cons_zero, List.getElem_cons_succ]
                go_simp
                all_goals with_reducible rfl
              simp only [List.getElem_toArray, List.getElem_cons_zero, List.getElem_cons_succ, Act.put, List.setIfInBounds_toArray, List.set_cons_zero, List.set_cons_succ]
              refine wpAnyH_ready (rs := [2]) (by kernel_rfl) (by simp) ?_
              refine AllReadyH.cons (o := _) rfl (fun K hK => ?_) AllReadyH.nil
              simp only [List.getElem_toArray, List.getElem_cons_zero, List.getElem_cons_succ]
              go_simp
              refine (kmb.out X0 hHeld).mono ?_
              rintro e X1 ⟨rfl, o⟩
              have hHeld2 := Old.trans hHeld o
              refine hK.out _ _ hHeld2 (fun _ => ?_)
              clear hK K hHeld o
              have hHeld := hHeld2
              clear hHeld2
              try simp only [Act.put, List.setIfInBounds_toArray, List.set_cons_zero, List.set_cons_succ]
              refine' wpAnyH_take (i := 3) rfl (by kernel_rfl) (by kernel_rfl) (by kernel_rfl) (fun _ _ _ h => h) (Or.inl ⟨by rfl, ?_⟩) hHeld ?_
              rotate_left
              · intro W hSw
                skip
                clear hSw
                simp only [List.getElem_toArray, List.getElem_cons_zero, List.getElem_cons_succ]
                go_simp
                all_goals with_reducible rfl
              simp only [List.getElem_toArray, List.getElem_cons_zero, List.getElem_cons_succ, Act.put, List.setIfInBounds_toArray, List.set_cons_zero, List.set_cons_succ]
              refine' wpAnyH_take (i := 4) rfl (by kernel_rfl) (by kernel_rfl) (by kernel_rfl) (fun _ _ _ h => h) (Or.inl ⟨by rfl, ?_⟩) hHeld ?_
              rotate_left
              · intro W hSw
                skip
                clear hSw
                simp only [List.getElem_toArray, List.getElem_cons_zero, List.getElem_cons_succ]
                go_simp
                all_goals with_reducible rfl
              simp only [List.getElem_toArray, List.getElem_cons_zero, List.getElem_cons_succ, Act.put, List.setIfInBounds_toArray, List.set_cons_zero, List.set_cons_succ]
              refine' wpAnyH_take (i := 5) rfl (by kernel_rfl) (by kernel_rfl) (by kernel_rfl) (fun _ _ _ h => h) (Or.inl ⟨by rfl, ?_⟩) hHeld ?_
              rotate_left
              · intro W hSw
                skip
                clear hSw
                simp only [List.getElem_toArray, List.getElem_cons_zero, List.getElem_cons_succ]
                go_simp
                all_goals with_reducible rfl
              simp only [List.getElem_toArray, List.getElem_cons_zero, List.getElem_cons_succ, Act.put, List.setIfInBounds_toArray, List.set_cons_zero, List.set_cons_succ]
              refine' wpAnyH_take (i := 6) rfl (by kernel_rfl) (by kernel_rfl) (by kernel_rfl) (fun _ _ _ h => h) (Or.inl ⟨by rfl, ?_⟩) hHeld ?_
              rotate_left
              · intro W hSw
                skip
                clear hSw
                simp only [List.getElem_toArray, List.getElem_cons_zero, List.getElem_cons_succ]
                go_simp
                all_goals with_reducible rfl
              simp only [List.getElem_toArray, List.getElem_cons_zero, List.getElem_cons_succ, Act.put, List.setIfInBounds_toArray, List.set_cons_zero, List.set_cons_succ]
              refine' wpAnyH_take (i := 7) rfl (by kernel_rfl) (by kernel_rfl) (by kernel_rfl) (fun _ _ _ h => h) (Or.inl ⟨by rfl, ?_⟩) hHeld ?_
              rotate_left
              · intro W hSw
                skip
                clear hSw
                simp only [List.getElem_toArray, List.getElem_cons_zero, List.getElem_cons_succ]
                go_simp
                all_goals with_reducible rfl
              simp only [List.getElem_toArray, List.getElem_cons_zero, List.getElem_cons_succ, Act.put, List.setIfInBounds_toArray, List.set_cons_zero, List.set_cons_succ]
              refine' wpAnyH_take (i := 8) rfl (by kernel_rfl) (by kernel_rfl) (by kernel_rfl) (fun _ _ _ h => h) (Or.inl ⟨by rfl, ?_⟩) hHeld ?_
              rotate_left
              · intro W hSw
                skip
                clear hSw
                simp only [List.getElem_toArray, List.getElem_cons_zero, List.getElem_cons_succ]
                go_simp
                all_goals with_reducible rfl
              simp only [List.getElem_toArray, List.getElem_cons_zero, List.getElem_cons_succ, Act.put, List.setIfInBounds_toArray, List.set_cons_zero, List.set_cons_succ]
              refine' wpAnyH_take (i := 9) rfl (by kernel_rfl) (by kernel_rfl) (by kernel_rfl) (fun _ _ _ h => h) (Or.inl ⟨by rfl, ?_⟩) hHeld ?_
              rotate_left
              · intro W hSw
                have u0 := Old.cell hSw p0
                clear hSw
                simp only [List.getElem_toArray, List.getElem_cons_zero, List.getElem_cons_succ]
                go_simp
                all_goals with_reducible rfl
              simp only [List.getElem_toArray, List.getElem_cons_zero, List.getElem_cons_succ, Act.put, List.setIfInBounds_toArray, List.set_cons_zero, List.set_cons_succ]
              refine' wpAnyH_take (i := 10) rfl (by kernel_rfl) (by kernel_rfl) (by kernel_rfl) (fun _ _ _ h => h) (Or.inl ⟨by rfl, ?_⟩) hHeld ?_
              rotate_left
              · intro W hSw
                skip
                clear hSw
                simp only [List.getElem_toArray, List.getElem_cons_zero, List.getElem_cons_succ]
                go_simp
                all_goals with_reducible rfl
              simp only [List.getElem_toArray, List.getElem_cons_zero, List.getElem_cons_succ, Act.put, List.setIfInBounds_toArray, List.set_cons_zero, List.set_cons_succ]
              refine' wpAnyH_take (i := 11) rfl (by kernel_rfl) (by kernel_rfl) (by kernel_rfl) (fun _ _ _ h => h) (Or.inl ⟨by rfl, ?_⟩) hHeld ?_
              rotate_left
              · intro W hSw
                skip
                clear hSw
                simp only [List.getElem_toArray, List.getElem_cons_zero, List.getElem_cons_succ]
                go_simp
                all_goals with_reducible rfl
              simp only [List.getElem_toArray, List.getElem_cons_zero, List.getElem_cons_succ, Act.put, List.setIfInBounds_toArray, List.set_cons_zero, List.set_cons_succ]
              refine' wpAnyH_take (i := 12) rfl (by kernel_rfl) (by kernel_rfl) (by kernel_rfl) (fun _ _ _ h => h) (Or.inl ⟨by rfl, ?_⟩) hHeld ?_
              rotate_left
              · intro W hSw
                skip
                clear hSw
                simp only [List.getElem_toArray, List.getElem_cons_zero, List.getElem_cons_succ]
                go_simp
                all_goals with_reducible rfl
              simp only [List.getElem_toArray, List.getElem_cons_zero, List.getElem_cons_succ, Act.put, List.setIfInBounds_toArray, List.set_cons_zero, List.set_cons_succ]
              refine' wpAnyH_take (i := 13) rfl (by kernel_rfl) (by kernel_rfl) (by kernel_rfl) (fun _ _ _ h => h) (Or.inl ⟨by rfl, ?_⟩) hHeld ?_
              rotate_left
              · intro W hSw
                have u5 := Old.cell hSw e0; have u6 := Old.cell hSw e1; have u7 := Old.cell hSw e2; have u8 := Old.cell hSw e3
                clear hSw
                simp only [List.getElem_toArray, List.getElem_cons_zero, List.getElem_cons_succ]
                go_simp
                all_goals with_reducible rfl
              simp only [List.getElem_toArray, List.getElem_cons_zero, List.getElem_cons_succ, Act.put, List.setIfInBounds_toArray, List.set_cons_zero, List.set_cons_succ]
              refine' wpAnyH_take (i := 15) rfl (by kernel_rfl) (by kernel_rfl) (by kernel_rfl) (fun _ _ _ h => h) (Or.inl ⟨by rfl, ?_⟩) hHeld ?_
              rotate_left
              · intro W hSw
                have u5 := Old.cell hSw d0; have u6 := Old.cell hSw d1; have u7 := Old.cell hSw d2; have u8 := Old.cell hSw d3
                clear hSw
                simp only [List.getElem_toArray, List.getElem_cons_zero, List.getElem_cons_succ]
                go_simp
                all_goals with_reducible rfl
              simp only [List.getElem_toArray, List.getElem_cons_zero, List.getElem_cons_succ, Act.put, List.setIfInBounds_toArray, List.set_cons_zero, List.set_cons_succ]
              refine wpAnyH_ready (rs := [14]) (by kernel_rfl) (by simp) ?_
              refine AllReadyH.cons (o := _) rfl (fun K hK => ?_) AllReadyH.nil
              simp only [List.getElem_toArray, List.getElem_cons_zero, List.getElem_cons_succ]
              go_simp
              refine (kpo2.out X1).mono ?_
              rintro e X2 ⟨rfl, o⟩
              have hHeld2 := Old.trans hHeld o
              refine hK.out _ _ hHeld2 (fun _ => ?_)
              clear hK K hHeld o
              have hHeld := hHeld2
              clear hHeld2
              try simp only [Act.put, List.setIfInBounds_toArray, List.set_cons_zero, List.set_cons_succ]
              refine wpAnyH_ready (rs := [16]) (by kernel_rfl) (by simp) ?_
              refine AllReadyH.cons (o := _) rfl (fun K hK => ?_) AllReadyH.nil
              simp only [List.getElem_toArray, List.getElem_cons_zero, List.getElem_cons_succ]
              go_simp
              refine (kpo.out X2).mono ?_
              rintro e X3 ⟨rfl, o⟩
              have hHeld2 := Old.trans hHeld o
              refine hK.out _ _ hHeld2 (fun _ => ?_)
              clear hK K hHeld o
              have hHeld := hHeld2
              clear hHeld2
              try simp only [Act.put, List.setIfInBounds_toArray, List.set_cons_zero, List.set_cons_succ]
              refine wpAnyH_ready (rs := [17]) (by kernel_rfl) (by simp) ?_
              refine AllReadyH.cons (o := _) rfl (fun K hK => ?_) AllReadyH.nil
              simp only [List.getElem_toArray, List.getElem_cons_zero, List.getElem_cons_succ]
              go_simp
              refine (kcm.out X3).mono ?_
              rintro e X4 ⟨rfl, o⟩
              have hHeld2 := Old.trans hHeld o
              refine hK.out _ _ hHeld2 (fun _ => ?_)
              clear hK K hHeld o
              have hHeld := hHeld2
              clear hHeld2
              try simp only [Act.put, List.setIfInBounds_toArray, List.set_cons_zero, List.set_cons_succ]
              refine' wpAnyH_take (i := 18) rfl (by kernel_rfl) (by kernel_rfl) (by kernel_rfl) (fun _ _ _ h => h) (Or.inl ⟨by rfl, ?_⟩) hHeld ?_
              rotate_left
              · intro W hSw
                skip
                clear hSw
                simp only [List.getElem_toArray, List.getElem_cons_zero, List.getElem_cons_succ]
                go_simp
                all_goals with_reducible rfl
              simp only [List.getElem_toArray, List.getElem_cons_zero, List.getElem_cons_succ, Act.put, List.setIfInBounds_toArray, List.set_cons_zero, List.set_cons_succ]
              refine' wpAnyH_take (i := 19) rfl (by kernel_rfl) (by kernel_rfl) (by kernel_rfl) (fun _ _ _ h => h) (Or.inl ⟨by rfl, ?_⟩) hHeld ?_
              rotate_left
              · intro W hSw
                skip
                clear hSw
                simp only [List.getElem_toArray, List.getElem_cons_zero, List.getElem_cons_succ]
                go_simp
                all_goals with_reducible rfl
              simp only [List.getElem_toArray, List.getElem_cons_zero, List.getElem_cons_succ, Act.put, List.setIfInBounds_toArray, List.set_cons_zero, List.set_cons_succ]
              refine' wpAnyH_take (i := 20) rfl (by kernel_rfl) (by kernel_rfl) (by kernel_rfl) (fun _ _ _ h => h) (Or.inl ⟨by rfl, ?_⟩) hHeld ?_
              rotate_left
              · intro W hSw
                skip
                clear hSw
                simp only [List.getElem_toArray, List.getElem_cons_zero, List.getElem_cons_succ]
                go_simp
                all_goals with_reducible rfl
              simp only [List.getElem_toArray, List.getElem_cons_zero, List.getElem_cons_succ, Act.put, List.setIfInBounds_toArray, List.set_cons_zero, List.set_cons_succ]
              refine wpAnyH_done (by kernel_rfl) ?_ _
              refine NoPanic.normal ?_
              have koE := hid ((koX.out.trans kq1.out).trans hHeld)
              clear hHeld h1k hk0 hk1 hkn hwr hg0 hgd
              go_wp2_with fail
              go_roundw
              case rel => exact ⟨k + 1, by omega, by go_num, hid ⟨koE.out, kg2.out⟩⟩
              case measure => simp [intOf]; omega
          · have hg0 : ¬ (k : Int) > 0 := by omega
            have hgd : decide ((k : Int) > 0) = false := decide_eq_false hg0
            have kg2 : Hid (∀ i, i < k + 1 → bdB gd B.length P i = false) := hid (fun i hi => by
              by_cases e : i = k
              · rw [e, kbd.out, decide_eq_false h0]
                rfl
              · exact kgo.out i (by omega))
            refine wp_region_noPanic ?_
            refine wp_region_held_drew (S := fun X => Old wc X) (by kernel_rfl) ((Old.refl wc).drewN 1) (fun hHeld => ?_)
            generalize wc.drew = X0 at *
            refine' wpAnyH_take (i := 0) rfl (by kernel_rfl) (by kernel_rfl) (by kernel_rfl) (fun _ _ _ h => h) (Or.inl ⟨by rfl, ?_⟩) hHeld ?_
            rotate_left
            · intro W hSw
              have u0 := Old.cell hSw x0; have u1 := Old.cell hSw x1
              clear hSw
              simp only [List.getElem_toArray, List.getElem_cons_zero]
              go_simp
              all_goals with_reducible rfl
            simp only [List.getElem_toArray, List.getElem_cons_zero, Act.put, List.setIfInBounds_toArray, List.set_cons_zero, List.set_cons_succ]
            refine' wpAnyH_take (i := 1) rfl (by kernel_rfl) (by kernel_rfl) (by kernel_rfl) (fun _ _ _ h => h) (Or.inl ⟨by rfl, ?_⟩) hHeld ?_
            rotate_left
            · intro W hSw
              have u5 := Old.cell hSw d0; have u6 := Old.cell hSw d1; have u7 := Old.cell hSw d2; have u8 := Old.cell hSw d3
              clear hSw
              simp only [List.getElem_toArray, List.getElem_cons_zero, List.getElem_cons_succ]
              go_simp
              all_goals with_reducible rfl
            simp only [List.getElem_toArray, List.getElem_cons_zero, List.getElem_cons_succ, Act.put, List.setIfInBounds_toArray, List.set_cons_zero, List.set_cons_succ]
            refine wpAnyH_ready (rs := [2]) (by kernel_rfl) (by simp) ?_
            refine AllReadyH.cons (o := _) rfl (fun K hK => ?_) AllReadyH.nil
            simp only [List.getElem_toArray, List.getElem_cons_zero, List.getElem_cons_succ]
            go_simp
            refine (kmb.out X0 hHeld).mono ?_
            rintro e X1 ⟨rfl, o⟩
            have hHeld2 := Old.trans hHeld o
            refine hK.out _ _ hHeld2 (fun _ => ?_)
            clear hK K hHeld o
            have hHeld := hHeld2
            clear hHeld2
            try simp only [Act.put, List.setIfInBounds_toArray, List.set_cons_zero, List.set_cons_succ]
            refine' wpAnyH_take (i := 3) rfl (by kernel_rfl) (by kernel_rfl) (by kernel_rfl) (fun _ _ _ h => h) (Or.inl ⟨by rfl, ?_⟩) hHeld ?_
            rotate_left
            · intro W hSw
              skip
              clear hSw
              simp only [List.getElem_toArray, List.getElem_cons_zero, List.getElem_cons_succ]
              go_simp
              all_goals with_reducible rfl
            simp only [List.getElem_toArray, List.getElem_cons_zero, List.getElem_cons_succ, Act.put, List.setIfInBounds_toArray, List.set_cons_zero, List.set_cons_succ]
            refine' wpAnyH_take (i := 4) rfl (by kernel_rfl) (by kernel_rfl) (by kernel_rfl) (fun _ _ _ h => h) (Or.inl ⟨by rfl, ?_⟩) hHeld ?_
            rotate_left
            · intro W hSw
              skip
              clear hSw
              simp only [List.getElem_toArray, List.getElem_cons_zero, List.getElem_cons_succ]
              go_simp
              all_goals with_reducible rfl
            simp only [List.getElem_toArray, List.getElem_cons_zero, List.getElem_cons_succ, Act.put, List.setIfInBounds_toArray, List.set_cons_zero, List.set_cons_succ]
            refine' wpAnyH_take (i := 5) rfl (by kernel_rfl) (by kernel_rfl) (by kernel_rfl) (fun _ _ _ h => h) (Or.inl ⟨by rfl, ?_⟩) hHeld ?_
            rotate_left
            · intro W hSw
              skip
              clear hSw
              simp only [List.getElem_toArray, List.getElem_cons_zero, List.getElem_cons_succ]
              go_simp
              all_goals with_reducible rfl
            simp only [List.getElem_toArray, List.getElem_cons_zero, List.getElem_cons_succ, Act.put, List.setIfInBounds_toArray, List.set_cons_zero, List.set_cons_succ]
            refine' wpAnyH_take (i := 6) rfl (by kernel_rfl) (by kernel_rfl) (by kernel_rfl) (fun _ _ _ h => h) (Or.inl ⟨by rfl, ?_⟩) hHeld ?_
            rotate_left
            · intro W hSw
              skip
              clear hSw
              simp only [List.getElem_toArray, List.getElem_cons_zero, List.getElem_cons_succ]
              go_simp
              all_goals with_reducible rfl
            simp only [List.getElem_toArray, List.getElem_cons_zero, List.getElem_cons_succ, Act.put, List.setIfInBounds_toArray, List.set_cons_zero, List.set_cons_succ]
            refine' wpAnyH_take (i := 7) rfl (by kernel_rfl) (by kernel_rfl) (by kernel_rfl) (fun _ _ _ h => h) (Or.inl ⟨by rfl, ?_⟩) hHeld ?_
            rotate_left
            · intro W hSw
              skip
              clear hSw
              simp only [List.getElem_toArray, List.getElem_cons_zero, List.getElem_cons_succ]
              go_simp
              all_goals with_reducible rfl
            simp only [List.getElem_toArray, List.getElem_cons_zero, List.getElem_cons_succ, Act.put, List.setIfInBounds_toArray, List.set_cons_zero, List.set_cons_succ]
            refine' wpAnyH_take (i := 8) rfl (by kernel_rfl) (by kernel_rfl) (by kernel_rfl) (fun _ _ _ h => h) (Or.inr ⟨by rfl, rfl⟩) hHeld ?_
            simp only [List.getElem_toArray, List.getElem_cons_zero, List.getElem_cons_succ, Act.put, List.setIfInBounds_toArray, List.set_cons_zero, List.set_cons_succ]
            refine' wpAnyH_take (i := 9) rfl (by kernel_rfl) (by kernel_rfl) (by kernel_rfl) (fun _ _ _ h => h) (Or.inr ⟨by rfl, rfl⟩) hHeld ?_
            simp only [List.getElem_toArray, List.getElem_cons_zero, List.getElem_cons_succ, Act.put, List.setIfInBounds_toArray, List.set_cons_zero, List.set_cons_succ]
            refine' wpAnyH_take (i := 10) rfl (by kernel_rfl) (by kernel_rfl) (by kernel_rfl) (fun _ _ _ h => h) (Or.inr ⟨by rfl, rfl⟩) hHeld ?_
            simp only [List.getElem_toArray, List.getElem_cons_zero, List.getElem_cons_succ, Act.put, List.setIfInBounds_toArray, List.set_cons_zero, List.set_cons_succ]
            refine' wpAnyH_take (i := 11) rfl (by kernel_rfl) (by kernel_rfl) (by kernel_rfl) (fun _ _ _ h => h) (Or.inr ⟨by rfl, rfl⟩) hHeld ?_
            simp only [List.getElem_toArray, List.getElem_cons_zero, List.getElem_cons_succ, Act.put, List.setIfInBounds_toArray, List.set_cons_zero, List.set_cons_succ]
            refine' wpAnyH_take (i := 12) rfl (by kernel_rfl) (by kernel_rfl) (by kernel_rfl) (fun _ _ _ h => h) (Or.inr ⟨by rfl, rfl⟩) hHeld ?_
            simp only [List.getElem_toArray, List.getElem_cons_zero, List.getElem_cons_succ, Act.put, List.setIfInBounds_toArray, List.set_cons_zero, List.set_cons_succ]
            refine' wpAnyH_take (i := 13) rfl (by kernel_rfl) (by kernel_rfl) (by kernel_rfl) (fun _ _ _ h => h) (Or.inr ⟨by rfl, rfl⟩) hHeld ?_
            simp only [List.getElem_toArray, List.getElem_cons_zero, List.getElem_cons_succ, Act.put, List.setIfInBounds_toArray, List.set_cons_zero, List.set_cons_succ]
            refine' wpAnyH_take (i := 14) rfl (by kernel_rfl) (by kernel_rfl) (by kernel_rfl) (fun _ _ _ h => h) (Or.inr ⟨by rfl, rfl⟩) hHeld ?_
            simp only [List.getElem_toArray, List.getElem_cons_zero, List.getElem_cons_succ, Act.put, List.setIfInBounds_toArray, List.set_cons_zero, List.set_cons_succ]
            refine' wpAnyH_take (i := 15) rfl (by kernel_rfl) (by kernel_rfl) (by kernel_rfl) (fun _ _ _ h => h) (Or.inr ⟨by rfl, rfl⟩) hHeld ?_
            simp only [List.getElem_toArray, List.getElem_cons_zero, List.getElem_cons_succ, Act.put, List.setIfInBounds_toArray, List.set_cons_zero, List.set_cons_succ]
            refine' wpAnyH_take (i := 16) rfl (by kernel_rfl) (by kernel_rfl) (by kernel_rfl) (fun _ _ _ h => h) (Or.inr ⟨by rfl, rfl⟩) hHeld ?_
            simp only [List.getElem_toArray, List.getElem_cons_zero, List.getElem_cons_succ, Act.put, List.setIfInBounds_toArray, List.set_cons_zero, List.set_cons_succ]
            refine' wpAnyH_take (i := 17) rfl (by kernel_rfl) (by kernel_rfl) (by kernel_rfl) (fun _ _ _ h => h) (Or.inr ⟨by rfl, rfl⟩) hHeld ?_
            simp only [List.getElem_toArray, List.getElem_cons_zero, List.getElem_cons_succ, Act.put, List.setIfInBounds_toArray, List.set_cons_zero, List.set_cons_succ]
            refine' wpAnyH_take (i := 18) rfl (by kernel_rfl) (by kernel_rfl) (by kernel_rfl) (fun _ _ _ h => h) (Or.inr ⟨by rfl, rfl⟩) hHeld ?_
            simp only [List.getElem_toArray, List.getElem_cons_zero, List.getElem_cons_succ, Act.put, List.setIfInBounds_toArray, List.set_cons_zero, List.set_cons_succ]
            refine' wpAnyH_take (i := 19) rfl (by kernel_rfl) (by kernel_rfl) (by kernel_rfl) (fun _ _ _ h => h) (Or.inl ⟨by rfl, ?_⟩) hHeld ?_
            rotate_left
            · intro W hSw
              skip
              clear hSw
              simp only [List.getElem_toArray, List.getElem_cons_zero, List.getElem_cons_succ]
              go_simp
              all_goals with_reducible rfl
            simp only [List.getElem_toArray, List.getElem_cons_zero, List.getElem_cons_succ, Act.put, List.setIfInBounds_toArray, List.set_cons_zero, List.set_cons_succ]
            refine' wpAnyH_take (i := 20) rfl (by kernel_rfl) (by kernel_rfl) (by kernel_rfl) (fun _ _ _ h => h) (Or.inl ⟨by rfl, ?_⟩) hHeld ?_
            rotate_left
            · intro W hSw
              skip
              clear hSw
              simp only [List.getElem_toArray, List.getElem_cons_zero, List.getElem_cons_succ]
              go_simp
              all_goals with_reducible rfl
            simp only [List.getElem_toArray, List.getElem_cons_zero, List.getElem_cons_succ, Act.put, List.setIfInBounds_toArray, List.set_cons_zero, List.set_cons_succ]
            refine wpAnyH_done (by kernel_rfl) ?_ _
            refine NoPanic.normal ?_
            have koE := hid ((koX.out.trans kq1.out).trans hHeld)
            clear hHeld hg0 hgd
            go_wp2_with fail
            go_roundw
            case rel => exact ⟨k + 1, by omega, by go_num, hid ⟨koE.out, kg2.out⟩⟩
            case measure => simp [intOf]; omega
      · obtain rfl : k = P.length := by omega
        have hlt' : ¬ (P.length : Int) < (P.length : Int) := by omega
        have x0 := koX.out.cell kx0.out
        have x1 := koX.out.cell kx1.out
        have p0 := koX.out.cell kp0.out
        have oB : Old wr (wr.alloc (.cells #[.int .i64 gd, .slice bo B.length cap, .slice ao P.length cp] 75)) := (Old.refl wr).alloc _
        have nB := heap_new wr (.cells #[.int .i64 gd, .slice bo B.length cap, .slice ao P.length cp] 75)
        have hBk : BkC (wr.alloc (.cells #[.int .i64 gd, .slice bo B.length cap, .slice ao P.length cp] 75)) wr.heap.size gd bo B.length cap ao cp P := ⟨blk_cells nB rfl, blk_cells nB rfl, blk_cells nB rfl, kP.out.old ((ko2.out.trans koX.out).trans oB)⟩
        have ky0 := hid (oB.cell x0)
        have ky1 := hid (oB.cell x1)
        have kyp := hid (oB.cell p0)
        have kBk := hid hBk
        have ko3 := hid ((ko2.out.trans koX.out).trans oB)
        have kri := hid (ris_of kgo.out)
        clear hBk oB nB hlt hk
        go_upto_region 10 with fail
        generalize wr.alloc (.cells #[.int .i64 gd, .slice bo B.length cap, .slice ao P.length cp] 75) = w3 at *
        generalize wr.heap.size = kb at *
        clear x0 x1 p0
        have x0 := ky0.out
        have x1 := ky1.out
        have p0 := kyp.out
        go_wp2_with fail
        refine (whole_any gd bo B.length cap w3).mono ?_
        rintro e w4 ⟨rfl, o4⟩
        replace p0 := o4.cell p0
        have kf := hid (find_any kb gd bo B.length cap ao cp P (0, (allZ gd).1) w4 (kBk.out.old o4) hPl kri.out)
        have ko4 := hid (ko3.out.trans o4)
        have kBk4 := hid (kBk.out.old o4)
        clear x0 x1 o4
        go_wp2_with fail
        refine kf.out.mono ?_
        rintro e w5 ⟨m, rfl, -, o5⟩
        replace p0 := o5.cell p0
        have ko5 := hid (ko4.out.trans o5)
        have kBk5 := hid (kBk4.out.old o5)
        clear o5 kf
        by_cases hf : (fndO P (0, (allZ gd).1)).isSome
        · have kop : Hid (opZ gd B P = (0, 0)) := hid (by unfold opZ; rw [if_neg (fun e => e khz.out), bdO_none kgo.out, if_pos hf])
          rw [hf]
          clear hf
          go_wp2_with fail
          refine bodyPost_ret (v := .tuple #[.pointer (some ⟨kb, 0, none⟩), .int .i64 0, .int .i64 0]) (by simp [results, Tryd.f31, go_sem]) rfl ?_
          exact ⟨ko5.out, .inr ⟨kop.out, khz.out, kgo.out, kb, rfl, kBk5.out⟩⟩
        · have kop : Hid (opZ gd B P = (P.length, 260)) := hid (by unfold opZ; rw [if_neg (fun e => e khz.out), bdO_none kgo.out]; exact if_neg hf)
          rw [Bool.not_eq_true] at hf
          rw [hf]
          clear hf
          go_wp2_with fail
          refine wp_region_noPanic ?_
          refine wp_region_held_drew (S := fun X => Old w5 X) (by kernel_rfl) ((Old.refl w5).drewN 1) (fun hHeld => ?_)
          generalize w5.drew = X0 at *
          refine' wpAnyH_take (i := 0) rfl (by kernel_rfl) (by kernel_rfl) (by kernel_rfl) (fun _ _ _ h => h) (Or.inl ⟨by rfl, ?_⟩) hHeld ?_
          rotate_left
          · intro W hSw
            skip
            clear hSw
            simp only [List.getElem_toArray, List.getElem_cons_zero]
            go_simp
            all_goals with_reducible rfl
          simp only [List.getElem_toArray, List.getElem_cons_zero, Act.put, List.setIfInBounds_toArray, List.set_cons_zero, List.set_cons_succ]
          refine' wpAnyH_take (i := 1) rfl (by kernel_rfl) (by kernel_rfl) (by kernel_rfl) (fun _ _ _ h => h) (Or.inl ⟨by rfl, ?_⟩) hHeld ?_
          rotate_left
          · intro W hSw
            have u0 := Old.cell hSw p0
            clear hSw
            simp only [List.getElem_toArray, List.getElem_cons_zero, List.getElem_cons_succ]
            go_simp
            all_goals with_reducible rfl
          simp only [List.getElem_toArray, List.getElem_cons_zero, List.getElem_cons_succ, Act.put, List.setIfInBounds_toArray, List.set_cons_zero, List.set_cons_succ]
          refine' wpAnyH_take (i := 2) rfl (by kernel_rfl) (by kernel_rfl) (by kernel_rfl) (fun _ _ _ h => h) (Or.inl ⟨by rfl, ?_⟩) hHeld ?_
          rotate_left
          · intro W hSw
            skip
            clear hSw
            simp only [List.getElem_toArray, List.getElem_cons_zero, List.getElem_cons_succ]
            go_simp
            all_goals with_reducible rfl
          simp only [List.getElem_toArray, List.getElem_cons_zero, List.getElem_cons_succ, Act.put, List.setIfInBounds_toArray, List.set_cons_zero, List.set_cons_succ]
          refine' wpAnyH_take (i := 3) rfl (by kernel_rfl) (by kernel_rfl) (by kernel_rfl) (fun _ _ _ h => h) (Or.inl ⟨by rfl, ?_⟩) hHeld ?_
          rotate_left
          · intro W hSw
            skip
            clear hSw
            simp only [List.getElem_toArray, List.getElem_cons_zero, List.getElem_cons_succ]
            go_simp
            all_goals with_reducible rfl
          simp only [List.getElem_toArray, List.getElem_cons_zero, List.getElem_cons_succ, Act.put, List.setIfInBounds_toArray, List.set_cons_zero, List.set_cons_succ]
          refine' wpAnyH_take (i := 4) rfl (by kernel_rfl) (by kernel_rfl) (by kernel_rfl) (fun _ _ _ h => h) (Or.inl ⟨by rfl, ?_⟩) hHeld ?_
          rotate_left
          · intro W hSw
            skip
            clear hSw
            simp only [List.getElem_toArray, List.getElem_cons_zero, List.getElem_cons_succ]
            go_simp
            all_goals with_reducible rfl
          simp only [List.getElem_toArray, List.getElem_cons_zero, List.getElem_cons_succ, Act.put, List.setIfInBounds_toArray, List.set_cons_zero, List.set_cons_succ]
          refine' wpAnyH_take (i := 5) rfl (by kernel_rfl) (by kernel_rfl) (by kernel_rfl) (fun _ _ _ h => h) (Or.inl ⟨by rfl, ?_⟩) hHeld ?_
          rotate_left
          · intro W hSw
            skip
            clear hSw
            simp only [List.getElem_toArray, List.getElem_cons_zero, List.getElem_cons_succ]
            go_simp
            all_goals with_reducible rfl
          simp only [List.getElem_toArray, List.getElem_cons_zero, List.getElem_cons_succ, Act.put, List.setIfInBounds_toArray, List.set_cons_zero, List.set_cons_succ]
          refine wpAnyH_done (by kernel_rfl) ?_ _
          refine NoPanic.normal ?_
          have koE := hid (ko5.out.trans hHeld)
          clear hHeld
          go_wp2_with fail
          refine bodyPost_ret (v := .tuple #[.pointer none, .int .i64 (P.length : Int), .int .i64 260]) (by simp [results, Tryd.f31, go_sem]) rfl ?_
          exact ⟨koE.out, .inl ⟨by rw [kop.out]; show (260 : Int) ≠ 0; decide, by rw [kop.out]⟩⟩
  · have kop : Hid (opZ gd B P = (0, 2)) := hid (by unfold opZ; rw [if_pos hz])
    rw [decide_eq_false hz]
    clear hz o2 kI
    go_wp2_with fail
    refine bodyPost_ret (v := .tuple #[.pointer none, .int .i64 0, .int .i64 2]) (by simp [results, Tryd.f31, go_sem]) rfl ?_
    exact ⟨ko2.out, .inl ⟨by rw [kop.out]; decide, by rw [kop.out]; rfl⟩⟩
end Go.Proofs.YtpbbnbobmcaoiaaDoor
