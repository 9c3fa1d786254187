/- GoodsParts, walked. -/
import Derived.Test.YtgbdnlpdicmaaaaDoorG19
namespace Go.Proofs.YtgbdnlpdicmaaaaDoor
open Go.RowKit

theorem make_i (n : Nat) (hn : n ≤ 1048576) (w : World) : (Instr.makeSlice 22 (.int .i64 (n : Int)) (.int .i64 (n : Int))).run Tryd.prog w = .ok (.slice (some ⟨w.heap.size, 0, none⟩) n n) (w.alloc (.cells (Array.replicate n (Value.int .i64 0)) 3)) := by
  obtain ⟨i, hi, hz, hs, hb⟩ := info_parts info3
  have h := run_make (P := Tryd.prog) w 22 3 i (.int .i64 0) Tryd.underlying22 hi hz .i64 .i64 n n (by omega) (by omega) (by rw [hb]; omega) (by omega)
  rw [h, hs]
  simp only [Int.toNat_natCast, Nat.mul_one, made_ints]

/-- A row of numbers that may be written. -/
structure RowI (w : World) (b : Nat) (L : List Int) : Prop where
  cell : ∀ i (h : i < L.length), w.cell? ⟨b, i, none⟩ = some (.int .i64 L[i])
  fz : ∀ j, w.frozen? ⟨b, j, none⟩ = false
  lt : b < w.heap.size

theorem RowI.nums {w : World} {b : Nat} {L : List Int} (h : RowI w b L) : NumsC .i64 w (some ⟨b, 0, none⟩) L := fun i hi => ⟨b, 0, rfl, by rw [Nat.zero_add]; exact h.cell i hi⟩
theorem RowI.frm {S : Nat → Prop} {w w' : World} {b : Nat} {L : List Int} (h : RowI w b L) (o : Frm S w w') (hS : ¬ S b) : RowI w' b L :=
  ⟨fun i hi => frm_cell o (h.cell i hi) hS, fun j => frm_frozen o h.lt (h.fz j) hS, Nat.lt_of_lt_of_le h.lt o.size⟩
theorem RowI.set {w : World} {b i : Nat} {L : List Int} (h : RowI w b L) (x : Int) : RowI (w.setCell ⟨b, i, none⟩ (.int .i64 x)) b (L.set i x) := by
  refine ⟨fun j hj => ?_, fun j => set_fz h.fz j, by simp [World.setCell]; exact h.lt⟩
  have hj' : j < L.length := by simpa using hj
  have c1 := h.cell j hj'
  rw [List.getElem_set]
  by_cases e : i = j
  · subst e
    rw [if_pos rfl]
    exact set_same c1
  · rw [if_neg e]
    exact set_oth c1 e
theorem RowI.made (w : World) (n : Nat) : RowI (w.alloc (.cells (Array.replicate n (Value.int .i64 0)) 3)) w.heap.size (List.replicate n 0) := by
  have hb := heap_new w (.cells (Array.replicate n (Value.int .i64 0)) 3)
  refine ⟨fun i hi => blk_cells hb ?_, fun j => blk_fz hb j, by simp⟩
  have hi' : i < n := by simpa using hi
  simp [hi']
theorem RowI.of_owns {w : World} {B g cap n : Nat} {L : List Int} (hn : n = L.length) (h : w.ownsRow B 3 1 (.slice (some ⟨g, 0, none⟩) n cap) n (L.map (Value.int .i64))) : RowI w g L ∧ B ≤ g := by
  subst hn
  rcases h.2 with ⟨h1, _⟩ | ⟨g', cap', cur, h1, h3, h4, h5, h6, h7, h8⟩
  · cases h1
  · simp only [Value.slice.injEq, Option.some.injEq, Addr.mk.injEq, and_true, true_and] at h1
    obtain ⟨rfl, rfl⟩ := h1
    refine ⟨⟨fun i hi => blk_cells h4 ?_, fun j => blk_fz h4 j, blk_lt h4⟩, h3⟩
    have h9 : (cur.toList.take (L.length * 1))[i]? = (L.map (Value.int .i64))[i]? := by rw [h8]
    rw [List.getElem?_take_of_lt (by omega)] at h9
    simpa [hi] using h9

theorem alone_len (c : List Int) (b : Nat) : (alone c b).length = c.length := by simp [alone]
theorem others_len (c : List Int) (b : Nat) : (others c b).length = c.length := by simp [others]


set_option maxRecDepth 100000 in
set_option maxHeartbeats 8000000 in
theorem parts_walk (gd : Int) (bo co : Option Addr) (cap cc : Nat) (B : Ins) (c : List Int) (w : World) (h : InsC w bo B) (hl : B.length ≤ 9223372036854775807) (hc : NumsC .i64 w co c) (hcl : c.length ≤ 9223372036854775807) (hT : Tabs w) :
    Calls Tryd.prog 7 #[.agg #[.int .i64 gd, .slice bo B.length cap], .slice co c.length cc] w fun e w' => e = .returned (.bool true) ∧ Old w w' := by
  obtain ⟨i3, hi, hz0, hz1, hz2⟩ := info_parts info3
  have kN := hid num_any
  have o0 : Old w (w.alloc (.cells #[.int .i64 gd, .slice bo B.length cap] 57)) := (Old.refl w).alloc _
  have c0 : (w.alloc (.cells #[.int .i64 gd, .slice bo B.length cap] 57)).cell? ⟨w.heap.size, 0, none⟩ = some (.int .i64 gd) := new_cell w _ _ 0 _ rfl
  have c1 : (w.alloc (.cells #[.int .i64 gd, .slice bo B.length cap] 57)).cell? ⟨w.heap.size, 1, none⟩ = some (.slice bo B.length cap) := new_cell w _ _ 1 _ rfl
  have kK := hid (known_any _ (hT.old o0))
  have kW := hid (fun W (hW : Old w W) (co' : Option Addr) (c' : List Int) (n' : Nat) (hn : c'.length = c.length) (hc' : NumsC .i64 W co' c') => worth_any gd bo co' cap n' B c' W (h.old hW) hl hc' (by omega) (hT.old hW))
  have kT := hid (fun W (hW : Old w W) => taken_any gd bo co cap cc B c W (h.old hW) hl (hc.old hW) hcl (hT.old hW))
  go_enter Tryd.func7, Tryd.ntmps7
  go_wp2_with fail
  refine kK.out.mono ?_
  rintro e w1 ⟨rfl, o1⟩
  have d0 := o1.cell c0
  have d1 := o1.cell c1
  have ko1 := hid (o0.trans o1)
  have h1s := o1.size
  have h0s : (w.alloc (.cells #[.int .i64 gd, .slice bo B.length cap] 57)).heap.size = w.heap.size + 1 := alloc_size ..
  rw [h0s] at h1s
  clear o0 o1 c0 c1 kK h0s
  obtain ⟨s, hs⟩ : ∃ s, w.heap.size = s := ⟨_, rfl⟩
  have ks := hid hs
  rw [hs] at d0 d1 h1s ⊢
  clear hs
  go_wp2_with fail
  refine (kW.out w1 ko1.out co c cc rfl (hc.old ko1.out)).mono ?_
  rintro e w2 ⟨rfl, o2⟩
  have e0 := o2.cell d0
  have e1 := o2.cell d1
  have ko2 := hid (ko1.out.trans o2)
  have h2s := o2.size
  clear o2 d0 d1
  go_wp2_with fail
  refine (kT.out w2 ko2.out).mono ?_
  rintro e w3 ⟨o3, ⟨hz, hlen, hB32, lb0, rfl, hlb0, hlO⟩ | ⟨hz, rfl⟩⟩
  · have f0 := o3.cell e0
    have f1 := o3.cell e1
    have ko3 := hid (ko2.out.trans o3)
    have h3s := o3.size
    have kz := hid hz
    have hck := (cho_iff.1 hz).1
    have kcoin := hid (row_coins hck c c.length)
    have hwz : Hid (worthZ gd B c = sumO (row B c)) := by
      show worthZ gd B c = _
      rw [worthZ, if_pos hz]
    have hn32 : c.length ≤ 32 := by omega
    have klO := hid hlO
    have hrl := row_len B c
    rw [hz]
    have hne : ((c.length : Int) != (c.length : Int)) = false := by simp
    have hwb := sumO_bnd (L := row B c) (kcoin.out)
    rw [hrl, ← hwz.out] at hwb
    have hwb2 : 0 ≤ worthZ gd B c ∧ worthZ gd B c ≤ 35184372088832 := by omega
    obtain ⟨wz, hwe⟩ : ∃ wz, worthZ gd B c = wz := ⟨_, rfl⟩
    have khwe := hid hwe
    rw [hwe] at hwz hwb2 ⊢
    clear o3 e0 e1 hz hlen hlO hck hwb hwe
    go_wp2_with (first | (go_at_call 15; refine (kN.out _ _).mono ?_; rintro e w' ⟨rfl, e1⟩; rw [e1]; clear e1) | fail)
    go_loopw [9, 10, 11] (fun vs vm t wr => ∃ b : Nat, b ≤ c.length ∧ t = .int .i64 (b : Int) ∧ vs = .int .i64 (sumO ((row B c).take b)) ∧ vm = .int .i64 (manyN ((gsets (row B c)).take b) : Int) ∧ Old w3 wr) (fun _ _ t _ => c.length - (intOf t).toNat)
    case atStart => exact ⟨0, Nat.zero_le _, rfl, rfl, rfl, Old.refl _⟩
    case round =>
      obtain ⟨b, hb, rfl, rfl, rfl, oW⟩ := hrel
      have koW3 := hid oW
      have koW := hid (ko3.out.trans oW)
      by_cases hblt : b < c.length
      · obtain ⟨WO, rfl⟩ : ∃ WO, WO = wr := ⟨_, rfl⟩
        have hb' : (b : Int) < (c.length : Int) := by omega
        obtain ⟨cg, cof, rfl, cb0⟩ := hc b hblt
        have cb := koW.out.cell cb0
        have f0W := oW.cell f0
        have f1W := oW.cell f1
        have hcs : Hid (∀ W, Old w W → ∀ j u, (c.map (Value.int .i64))[j]? = some u → W.cell? ((⟨cg, cof, none⟩ : Addr).add j) = some u) := fun W hW j u hu => by
          have hj : j < c.length := by
            have := (List.getElem?_eq_some_iff.1 hu).1
            simpa using this
          obtain ⟨g', o', e, cj⟩ := hc j hj
          simp only [Option.some.injEq, Addr.mk.injEq, and_true] at e
          obtain ⟨rfl, rfl⟩ := e
          rw [Addr.add_lit, hW.cell cj]
          simpa [hj] using hu
        have hmk := make_i c.length (by omega)
        have dW : Old WO WO.drew := (Old.refl WO).drewN 1
        have kdW := hid dW
        have hws := oW.size
        clear oW dW cb0
        go_wp2_with fail
        refine wp_region_noPanic ?_
        refine wp_region_held_drew (S := fun _ => True) (by kernel_rfl) trivial (fun hHeld => ?_)
        generalize WO.drew = W1 at *
        refine' wpAnyH_take (i := 0) rfl (by kernel_rfl) (by kernel_rfl) (by kernel_rfl) (fun _ _ _ h => h) (Or.inl ⟨by rfl, ?_⟩) hHeld ?_
        rotate_left
        · intro W _
          simp only [List.getElem_toArray, List.getElem_cons_zero]
          go_simp
          all_goals with_reducible rfl
        simp only [List.getElem_toArray, List.getElem_cons_zero, Act.put, List.setIfInBounds_toArray, List.set_cons_zero, List.set_cons_succ]
        refine' wpAnyH_take (i := 1) rfl (by kernel_rfl) (by kernel_rfl) (by kernel_rfl) (fun _ _ _ h => h) (Or.inl ⟨by rfl, ?_⟩) hHeld ?_
        rotate_left
        · intro W _
          simp only [List.getElem_toArray, List.getElem_cons_zero, List.getElem_cons_succ]
          go_simp
          all_goals with_reducible rfl
        simp only [List.getElem_toArray, List.getElem_cons_zero, List.getElem_cons_succ, Act.put, List.setIfInBounds_toArray, List.set_cons_zero, List.set_cons_succ]
        refine' wpAnyH_take (i := 3) rfl (by kernel_rfl) (by kernel_rfl) (by kernel_rfl) (fun _ _ _ h => h) (Or.inl ⟨by rfl, ?_⟩) hHeld ?_
        rotate_left
        · intro W _
          simp only [List.getElem_toArray, List.getElem_cons_zero, List.getElem_cons_succ]
          go_simp
          all_goals with_reducible rfl
        simp only [List.getElem_toArray, List.getElem_cons_zero, List.getElem_cons_succ, Act.put, List.setIfInBounds_toArray, List.set_cons_zero, List.set_cons_succ]
        refine wpAnyH_ready (rs := [2, 4]) (by kernel_rfl) (by simp) ?_
        refine AllReadyH.cons (o := _) rfl (fun K hK => ?_) (AllReadyH.cons (o := _) rfl (fun K hK => ?_) AllReadyH.nil)
        · simp only [List.getElem_toArray, List.getElem_cons_zero, List.getElem_cons_succ]
          go_simp
          refine hK.out _ _ trivial (fun _ => ?_)
          clear hK K
          try simp only [Act.put, List.setIfInBounds_toArray, List.set_cons_zero, List.set_cons_succ]
          have kra0 := RowI.made W1 c.length
          have oM : Old W1 (W1.alloc (.cells (Array.replicate c.length (Value.int .i64 0)) 3)) := (Old.refl W1).alloc _
          have zM : (W1.alloc (.cells (Array.replicate c.length (Value.int .i64 0)) 3)).heap.size = W1.heap.size + 1 := alloc_size ..
          generalize W1.alloc (.cells (Array.replicate c.length (Value.int .i64 0)) 3) = M at *
          obtain ⟨ab, hab0⟩ : ∃ ab, W1.heap.size = ab := ⟨_, rfl⟩
          rw [hab0] at kra0 zM ⊢
          refine wpAnyH_ready (rs := [4]) (by kernel_rfl) (by simp) ?_
          refine AllReadyH.cons (o := _) rfl (fun K hK => ?_) AllReadyH.nil
          refine step_append_lies _ (by rfl) _ _ _ (by rfl) M.heap.size 3 i3 (.int .i64 0) 1 8 Tryd.underlying22 hi hz0 hz1 hz2 rfl (by decide) (.slice none 0 0) 0 [] (by rfl) ⟨rfl, Or.inl ⟨rfl, rfl⟩⟩ ⟨cg, cof, none⟩ c.length cc (c.map (Value.int .i64)) (by rfl) (by simp) (fun j u hu => hcs.out M ((koW.out.trans kdW.out).trans oM) j u hu) (fun u hu => by simp at hu; obtain ⟨y, _, rfl⟩ := hu; rfl) (by omega) (by unfold maxLen; omega) (by omega) (Nat.le_refl _) (M.heap.size) (by rfl) ?_
          intro lb cl W3 hown3 hgrow3 hat3 hlt3
          have f3 : Old M W3 := ⟨hgrow3.os, hgrow3.tape, hgrow3.output, hgrow3.size, fun q hq _ => hgrow3.block q hq (by simp [Value.ownBlock])⟩
          have hown3' := hown3
          simp only [Nat.zero_add, List.nil_append] at hown3'
          obtain ⟨kr3, hlb⟩ := RowI.of_owns rfl hown3'
          refine hK.out _ _ trivial (fun _ => ?_)
          clear hK K hgrow3 hown3 hown3' hat3 hlt3
          try simp only [Act.put, List.setIfInBounds_toArray]
          have kra := hid (kra0.frm f3 (fun h => h))
          have krl := hid kr3
          have hs9 := kdW.out.size
          have hab : Hid (¬ lb = ab) := by show ¬ lb = ab; omega
          have hab2 : Hid (WO.heap.size ≤ ab) := by show _ ≤ _; omega
          have hab3 : Hid (WO.heap.size ≤ lb) := by show _ ≤ _; omega
          have koW4 := hid ((kdW.out.trans oM).trans f3)
          obtain ⟨W4, hW4⟩ : ∃ W4, W3 = W4 := ⟨_, rfl⟩
          rw [hW4] at kra krl koW4 ⊢
          clear hW4 f3 kr3 oM kra0 hmk
          refine' wpAnyH_take (i := 5) rfl (by kernel_rfl) (by kernel_rfl) (by kernel_rfl) (fun _ _ _ h => h) (Or.inl ⟨by rfl, ?_⟩) hHeld ?_
          rotate_left
          · intro W _
            simp only [List.getElem_toArray, List.getElem_cons_zero, List.getElem_cons_succ]
            go_simp
            all_goals with_reducible rfl
          simp only [List.getElem_toArray, List.getElem_cons_zero, List.getElem_cons_succ, Act.put, List.setIfInBounds_toArray, List.set_cons_zero, List.set_cons_succ]
          refine' wpAnyH_take (i := 6) rfl (by kernel_rfl) (by kernel_rfl) (by kernel_rfl) (fun _ _ _ h => h) (Or.inl ⟨by rfl, ?_⟩) hHeld ?_
          rotate_left
          · intro W _
            simp only [List.getElem_toArray, List.getElem_cons_zero, List.getElem_cons_succ]
            go_simp
            all_goals with_reducible rfl
          simp only [List.getElem_toArray, List.getElem_cons_zero, List.getElem_cons_succ, Act.put, List.setIfInBounds_toArray, List.set_cons_zero, List.set_cons_succ]
          refine wpAnyH_done (by kernel_rfl) ?_ _
          refine NoPanic.normal ?_
          go_wp2_with fail
          go_loopw [14] (fun t2 wr => ∃ i : Nat, i ≤ c.length ∧ t2 = .int .i64 (i : Int) ∧ RowI wr ab (List.replicate i (-1) ++ List.replicate (c.length - i) 0) ∧ Frm (fun q => q = ab) W4 wr) (fun t2 _ => c.length - (intOf t2).toNat)
          case atStart => exact ⟨0, Nat.zero_le _, rfl, by simpa using kra.out, Frm.refl _ _⟩
          case round =>
            obtain ⟨i, hil, rfl, hR, hF⟩ := hrel
            by_cases hi2 : i < c.length
            · have hi2' : (i : Int) < (c.length : Int) := by omega
              have hlR : (List.replicate i (-1 : Int) ++ List.replicate (c.length - i) 0).length = c.length := by simp; omega
              have q1 := hR.cell i (by omega)
              have q2 := hR.fz i
              have kst : Hid ((List.replicate i (-1 : Int) ++ List.replicate (c.length - i) 0).set i (-1) = List.replicate (i + 1) (-1) ++ List.replicate (c.length - (i + 1)) 0) := by
                show _ = _
                apply List.ext_getElem
                · simp; omega
                · intro j g1 g2
                  have hj : j < c.length := by simp at g1; omega
                  rw [List.getElem_set, List.getElem_append, List.getElem_append]
                  by_cases e : i = j
                  · subst e
                    rw [if_pos rfl, dif_pos (by simp)]
                    simp
                  · rw [if_neg e]
                    by_cases hji : j < i
                    · rw [dif_pos (by simpa using hji), dif_pos (by simp; omega)]
                      simp
                    · rw [dif_neg (by simpa using hji), dif_neg (by simp; omega)]
                      simp
              have kR := hid hR
              have kF := hid hF
              clear hR hF
              go_wp2_with fail
              go_roundw
              case rel => exact ⟨i + 1, by omega, by go_num, by rw [← kst.out]; exact kR.out.set _, Frm.setCell kF.out ⟨ab, _, none⟩ (Or.inr rfl) _⟩
              case measure => simp [intOf]; omega
            · obtain rfl : i = c.length := by omega
              rw [Nat.sub_self, List.replicate_zero, List.append_nil] at hR
              have kr5 := krl.out.frm hF (fun e => hab.out e)
              have oW5 : Old WO wr := Frm.trans koW4.out hF (fun q hq e => by have := hab2.out; omega)
              have q1 := hR.cell b (by simpa using hblt)
              have q2 := hR.fz b
              have q3 := kr5.cell b hblt
              have q4 := kr5.fz b
              have cbW := oW5.cell cb
              have t1 := hR.set (i := b) c[b]
              have t2 := kr5.frm (frm_set wr ab b (.int .i64 c[b])) (fun e => hab.out e)
              have q3' := t2.cell b hblt
              have q4' := t2.fz b
              have t3 := t2.set (i := b) (-1)
              have t4 := t1.frm (frm_set (wr.setCell ⟨ab, b, none⟩ (.int .i64 c[b])) lb b (.int .i64 (-1))) (fun e => hab.out e.symm)
              have g0 := frm_cell (frm_set (wr.setCell ⟨ab, b, none⟩ (.int .i64 c[b])) lb b (.int .i64 (-1))) (frm_cell (frm_set wr ab b (.int .i64 c[b])) (oW5.cell f0W) (by have := hab2.out; dsimp only; omega)) (by have := hab3.out; dsimp only; omega)
              have g1 := frm_cell (frm_set (wr.setCell ⟨ab, b, none⟩ (.int .i64 c[b])) lb b (.int .i64 (-1))) (frm_cell (frm_set wr ab b (.int .i64 c[b])) (oW5.cell f1W) (by have := hab2.out; dsimp only; omega)) (by have := hab3.out; dsimp only; omega)
              have o6 : Old WO ((wr.setCell ⟨ab, b, none⟩ (.int .i64 c[b])).setCell ⟨lb, b, none⟩ (.int .i64 (-1))) := Frm.trans (Frm.trans oW5 (frm_set _ _ _ _) (fun q hq e => by have := hab2.out; omega)) (frm_set _ _ _ _) (fun q hq e => by have := hab3.out; omega)
              have n1 : NumsC .i64 ((wr.setCell ⟨ab, b, none⟩ (.int .i64 c[b])).setCell ⟨lb, b, none⟩ (.int .i64 (-1))) (some ⟨ab, 0, none⟩) (alone c b) := by
                have := t4.nums
                rw [show (List.replicate c.length (-1 : Int)).set b c[b] = alone c b by unfold alone; rw [List.getD_eq_getElem?_getD, List.getElem?_eq_getElem hblt]; rfl] at this
                exact this
              have n2 : NumsC .i64 ((wr.setCell ⟨ab, b, none⟩ (.int .i64 c[b])).setCell ⟨lb, b, none⟩ (.int .i64 (-1))) (some ⟨lb, 0, none⟩) (others c b) := t3.nums
              have ko6 := hid o6
              have kn1 := hid n1
              have kn2 := hid n2
              have hbR : b < (row B c).length := by rw [hrl]; exact hblt
              have kA := kW.out _ (koW.out.trans o6) (some ⟨ab, 0, none⟩) (alone c b) c.length (alone_len c b) n1
              rw [cho_alone kz.out hblt, worth_alone kz.out hblt, alone_len] at kA
              have kkA := hid kA
              obtain ⟨x, hx⟩ : ∃ x, c[b] = x := ⟨_, rfl⟩
              rw [List.getElem_replicate] at q1
              rw [hx] at q3 cbW q3' q4' g0 g1 ko6 kn1 kn2 kkA
              have kzz := hid kz
              clear hR hF kr5 oW5 t1 t2 t3 t4 o6 n1 n2 kA hx
              go_wp2_with fail
              generalize (wr.setCell ⟨ab, b, none⟩ (.int .i64 x)).setCell ⟨lb, b, none⟩ (.int .i64 (-1)) = W6 at *
              refine kkA.out.mono ?_
              rintro e W7 ⟨rfl, o7⟩
              have m0 := o7.cell g0
              have m1 := o7.cell g1
              have ko7 := hid (ko6.out.trans o7)
              have kB7 := kW.out _ (koW.out.trans ko7.out) (some ⟨lb, 0, none⟩) (others c b) cl (others_len c b) (kn2.out.old o7)
              rw [cho_others kz.out, worth_others kz.out hblt, others_len, khwe.out] at kB7
              have kkB := hid kB7
              have hxc := kcoin.out _ (List.getElem_mem hbR)
              have kst := hid (sumO_take hbR)
              have kmt : Hid (manyN ((gsets (row B c)).take (b + 1)) = manyN ((gsets (row B c)).take b) + (goodsL (row B c)[b].1).length) := by
                show _ = _
                rw [manyN_take (by simp [gsets]; exact hbR)]
                simp [gsets]
              have hcol : w3.cell? ⟨lb0, b, none⟩ = some (.int .u32 ((row B c)[b].1 : Int)) := by
                have := (klO.out.cell (i := b) (by simp [nums, gsets]; exact hbR)).1
                simpa [nums, gsets] using this
              have hgl32 : (row B c)[b].1 < 4294967296 := gsets_lt h c c.length _ (by simp only [gsets]; exact List.mem_map_of_mem (List.getElem_mem hbR))
              have hcolW := (koW3.out.trans ko7.out).cell hcol
              have hs1 := sumO_bnd (L := (row B c).take b) (fun y hy => kcoin.out y (List.mem_of_mem_take hy))
              have hs2 := sumO_bnd (L := (row B c).take (b + 1)) (fun y hy => kcoin.out y (List.mem_of_mem_take hy))
              rw [kst.out] at hs2
              have hl1 : (((row B c).take b).length : Int) ≤ 32 := by simp; omega
              have hl2 : (((row B c).take (b + 1)).length : Int) ≤ 32 := by simp; omega
              have hmn := manyN_le ((gsets (row B c)).take b)
              have hml : ((gsets (row B c)).take b).length ≤ 32 := by simp; omega
              have hgc := goodsL_len (row B c)[b].1
              have kC := hid (fun W => count_any (row B c)[b].1 hgl32 W)
              obtain ⟨r, hr⟩ : ∃ r, (row B c)[b] = r := ⟨_, rfl⟩
              rw [hr] at kkB hxc kst kmt hcolW hs2 hgc kC ⊢
              obtain ⟨rg, rc⟩ := r
              dsimp only at kkB hxc kst kmt hcolW hs2 hgc kC
              try dsimp only
              obtain ⟨r1, r2⟩ := hxc
              generalize sumO ((row B c).take b) = sm at *
              generalize manyN ((gsets (row B c)).take b) = mn at *
              generalize (goodsL rg).length = gc at *
              have hsm : 0 ≤ sm ∧ sm ≤ 35184372088832 := by omega
              have hsm2 : 0 ≤ sm + rc ∧ sm + rc ≤ 35184372088832 := by omega
              have hmn2 : mn ≤ 1024 := by omega
              obtain ⟨u1, u2⟩ := hsm
              obtain ⟨u3, u4⟩ := hsm2
              clear o7 kkA kB7 hs1 hs2 hl1 hl2 hmn hml hcol hr ko6 kn1 kn2 g0 g1
              go_wp2_with fail
              refine kkB.out.mono ?_
              rintro e W8 ⟨rfl, o8⟩
              have hcol8 := o8.cell hcolW
              have ko8 := hid (ko7.out.trans o8)
              clear o8 kkB
              have hsum : rc + (wz - rc) = wz := by omega
              have hsumb : ((rc + (wz - rc)) != wz) = false := by rw [hsum]; simp
              go_wp2_with (first | (go_at_call 15; refine (kN.out _ _).mono ?_; rintro e w' ⟨rfl, e1⟩; rw [e1]; clear e1) | fail)
              refine (kC.out _).mono ?_
              rintro e W9 ⟨rfl, n9, e9⟩
              rw [e9]
              clear e9 W9
              go_wp2_with fail
              go_roundw
              case rel => exact ⟨b + 1, by omega, by go_num, by rw [kst.out], by rw [kmt.out]; simp, (koW3.out.trans ko8.out).drewN _⟩
              case measure => simp [intOf]; omega
        · refine step_append_lies _ (by rfl) _ _ _ (by rfl) W1.heap.size 3 i3 (.int .i64 0) 1 8 Tryd.underlying22 hi hz0 hz1 hz2 rfl (by decide) (.slice none 0 0) 0 [] (by rfl) ⟨rfl, Or.inl ⟨rfl, rfl⟩⟩ ⟨cg, cof, none⟩ c.length cc (c.map (Value.int .i64)) (by rfl) (by simp) (fun j u hu => hcs.out W1 (koW.out.trans kdW.out) j u hu) (fun u hu => by simp at hu; obtain ⟨y, _, rfl⟩ := hu; rfl) (by omega) (by unfold maxLen; omega) (by omega) (Nat.le_refl _) (W1.heap.size) (by rfl) ?_
          intro lb cl W3 hown3 hgrow3 hat3 hlt3
          have f3 : Old W1 W3 := ⟨hgrow3.os, hgrow3.tape, hgrow3.output, hgrow3.size, fun q hq _ => hgrow3.block q hq (by simp [Value.ownBlock])⟩
          have hown3' := hown3
          simp only [Nat.zero_add, List.nil_append] at hown3'
          obtain ⟨kr3, hlb⟩ := RowI.of_owns rfl hown3'
          refine hK.out _ _ trivial (fun _ => ?_)
          clear hK K hgrow3 hown3 hown3' hat3 hlt3
          try simp only [Act.put, List.setIfInBounds_toArray]
          refine wpAnyH_ready (rs := [2]) (by kernel_rfl) (by simp) ?_
          refine AllReadyH.cons (o := _) rfl (fun K hK => ?_) AllReadyH.nil
          simp only [List.getElem_toArray, List.getElem_cons_zero, List.getElem_cons_succ]
          go_simp
          refine hK.out _ _ trivial (fun _ => ?_)
          clear hK K
          try simp only [Act.put, List.setIfInBounds_toArray, List.set_cons_zero, List.set_cons_succ]
          have kra0 := RowI.made W3 c.length
          have oM : Old W3 (W3.alloc (.cells (Array.replicate c.length (Value.int .i64 0)) 3)) := (Old.refl W3).alloc _
          generalize W3.alloc (.cells (Array.replicate c.length (Value.int .i64 0)) 3) = W4 at *
          obtain ⟨ab, hab0⟩ : ∃ ab, W3.heap.size = ab := ⟨_, rfl⟩
          have hl3 := kr3.lt
          have hs3 := f3.size
          rw [hab0] at kra0 hl3 hs3 ⊢
          have kra := hid kra0
          have krl := hid (kr3.frm oM (fun h => h))
          have hs9 := kdW.out.size
          have hab : Hid (¬ lb = ab) := by show ¬ lb = ab; omega
          have hab2 : Hid (WO.heap.size ≤ ab) := by show _ ≤ _; omega
          have hab3 : Hid (WO.heap.size ≤ lb) := by show _ ≤ _; omega
          have koW4 := hid ((kdW.out.trans f3).trans oM)
          clear f3 kr3 oM kra0 hmk
          refine' wpAnyH_take (i := 5) rfl (by kernel_rfl) (by kernel_rfl) (by kernel_rfl) (fun _ _ _ h => h) (Or.inl ⟨by rfl, ?_⟩) hHeld ?_
          rotate_left
          · intro W _
            simp only [List.getElem_toArray, List.getElem_cons_zero, List.getElem_cons_succ]
            go_simp
            all_goals with_reducible rfl
          simp only [List.getElem_toArray, List.getElem_cons_zero, List.getElem_cons_succ, Act.put, List.setIfInBounds_toArray, List.set_cons_zero, List.set_cons_succ]
          refine' wpAnyH_take (i := 6) rfl (by kernel_rfl) (by kernel_rfl) (by kernel_rfl) (fun _ _ _ h => h) (Or.inl ⟨by rfl, ?_⟩) hHeld ?_
          rotate_left
          · intro W _
            simp only [List.getElem_toArray, List.getElem_cons_zero, List.getElem_cons_succ]
            go_simp
            all_goals with_reducible rfl
          simp only [List.getElem_toArray, List.getElem_cons_zero, List.getElem_cons_succ, Act.put, List.setIfInBounds_toArray, List.set_cons_zero, List.set_cons_succ]
          refine wpAnyH_done (by kernel_rfl) ?_ _
          refine NoPanic.normal ?_
          go_wp2_with fail
          go_loopw [14] (fun t2 wr => ∃ i : Nat, i ≤ c.length ∧ t2 = .int .i64 (i : Int) ∧ RowI wr ab (List.replicate i (-1) ++ List.replicate (c.length - i) 0) ∧ Frm (fun q => q = ab) W4 wr) (fun t2 _ => c.length - (intOf t2).toNat)
          case atStart => exact ⟨0, Nat.zero_le _, rfl, by simpa using kra.out, Frm.refl _ _⟩
          case round =>
            obtain ⟨i, hil, rfl, hR, hF⟩ := hrel
            by_cases hi2 : i < c.length
            · have hi2' : (i : Int) < (c.length : Int) := by omega
              have hlR : (List.replicate i (-1 : Int) ++ List.replicate (c.length - i) 0).length = c.length := by simp; omega
              have q1 := hR.cell i (by omega)
              have q2 := hR.fz i
              have kst : Hid ((List.replicate i (-1 : Int) ++ List.replicate (c.length - i) 0).set i (-1) = List.replicate (i + 1) (-1) ++ List.replicate (c.length - (i + 1)) 0) := by
                show _ = _
                apply List.ext_getElem
                · simp; omega
                · intro j g1 g2
                  have hj : j < c.length := by simp at g1; omega
                  rw [List.getElem_set, List.getElem_append, List.getElem_append]
                  by_cases e : i = j
                  · subst e
                    rw [if_pos rfl, dif_pos (by simp)]
                    simp
                  · rw [if_neg e]
                    by_cases hji : j < i
                    · rw [dif_pos (by simpa using hji), dif_pos (by simp; omega)]
                      simp
                    · rw [dif_neg (by simpa using hji), dif_neg (by simp; omega)]
                      simp
              have kR := hid hR
              have kF := hid hF
              clear hR hF
              go_wp2_with fail
              go_roundw
              case rel => exact ⟨i + 1, by omega, by go_num, by rw [← kst.out]; exact kR.out.set _, Frm.setCell kF.out ⟨ab, _, none⟩ (Or.inr rfl) _⟩
              case measure => simp [intOf]; omega
            · obtain rfl : i = c.length := by omega
              rw [Nat.sub_self, List.replicate_zero, List.append_nil] at hR
              have kr5 := krl.out.frm hF (fun e => hab.out e)
              have oW5 : Old WO wr := Frm.trans koW4.out hF (fun q hq e => by have := hab2.out; omega)
              have q1 := hR.cell b (by simpa using hblt)
              have q2 := hR.fz b
              have q3 := kr5.cell b hblt
              have q4 := kr5.fz b
              have cbW := oW5.cell cb
              have t1 := hR.set (i := b) c[b]
              have t2 := kr5.frm (frm_set wr ab b (.int .i64 c[b])) (fun e => hab.out e)
              have q3' := t2.cell b hblt
              have q4' := t2.fz b
              have t3 := t2.set (i := b) (-1)
              have t4 := t1.frm (frm_set (wr.setCell ⟨ab, b, none⟩ (.int .i64 c[b])) lb b (.int .i64 (-1))) (fun e => hab.out e.symm)
              have g0 := frm_cell (frm_set (wr.setCell ⟨ab, b, none⟩ (.int .i64 c[b])) lb b (.int .i64 (-1))) (frm_cell (frm_set wr ab b (.int .i64 c[b])) (oW5.cell f0W) (by have := hab2.out; dsimp only; omega)) (by have := hab3.out; dsimp only; omega)
              have g1 := frm_cell (frm_set (wr.setCell ⟨ab, b, none⟩ (.int .i64 c[b])) lb b (.int .i64 (-1))) (frm_cell (frm_set wr ab b (.int .i64 c[b])) (oW5.cell f1W) (by have := hab2.out; dsimp only; omega)) (by have := hab3.out; dsimp only; omega)
              have o6 : Old WO ((wr.setCell ⟨ab, b, none⟩ (.int .i64 c[b])).setCell ⟨lb, b, none⟩ (.int .i64 (-1))) := Frm.trans (Frm.trans oW5 (frm_set _ _ _ _) (fun q hq e => by have := hab2.out; omega)) (frm_set _ _ _ _) (fun q hq e => by have := hab3.out; omega)
              have n1 : NumsC .i64 ((wr.setCell ⟨ab, b, none⟩ (.int .i64 c[b])).setCell ⟨lb, b, none⟩ (.int .i64 (-1))) (some ⟨ab, 0, none⟩) (alone c b) := by
                have := t4.nums
                rw [show (List.replicate c.length (-1 : Int)).set b c[b] = alone c b by unfold alone; rw [List.getD_eq_getElem?_getD, List.getElem?_eq_getElem hblt]; rfl] at this
                exact this
              have n2 : NumsC .i64 ((wr.setCell ⟨ab, b, none⟩ (.int .i64 c[b])).setCell ⟨lb, b, none⟩ (.int .i64 (-1))) (some ⟨lb, 0, none⟩) (others c b) := t3.nums
              have ko6 := hid o6
              have kn1 := hid n1
              have kn2 := hid n2
              have hbR : b < (row B c).length := by rw [hrl]; exact hblt
              have kA := kW.out _ (koW.out.trans o6) (some ⟨ab, 0, none⟩) (alone c b) c.length (alone_len c b) n1
              rw [cho_alone kz.out hblt, worth_alone kz.out hblt, alone_len] at kA
              have kkA := hid kA
              obtain ⟨x, hx⟩ : ∃ x, c[b] = x := ⟨_, rfl⟩
              rw [List.getElem_replicate] at q1
              rw [hx] at q3 cbW q3' q4' g0 g1 ko6 kn1 kn2 kkA
              have kzz := hid kz
              clear hR hF kr5 oW5 t1 t2 t3 t4 o6 n1 n2 kA hx
              go_wp2_with fail
              generalize (wr.setCell ⟨ab, b, none⟩ (.int .i64 x)).setCell ⟨lb, b, none⟩ (.int .i64 (-1)) = W6 at *
              refine kkA.out.mono ?_
              rintro e W7 ⟨rfl, o7⟩
              have m0 := o7.cell g0
              have m1 := o7.cell g1
              have ko7 := hid (ko6.out.trans o7)
              have kB7 := kW.out _ (koW.out.trans ko7.out) (some ⟨lb, 0, none⟩) (others c b) cl (others_len c b) (kn2.out.old o7)
              rw [cho_others kz.out, worth_others kz.out hblt, others_len, khwe.out] at kB7
              have kkB := hid kB7
              have hxc := kcoin.out _ (List.getElem_mem hbR)
              have kst := hid (sumO_take hbR)
              have kmt : Hid (manyN ((gsets (row B c)).take (b + 1)) = manyN ((gsets (row B c)).take b) + (goodsL (row B c)[b].1).length) := by
                show _ = _
                rw [manyN_take (by simp [gsets]; exact hbR)]
                simp [gsets]
              have hcol : w3.cell? ⟨lb0, b, none⟩ = some (.int .u32 ((row B c)[b].1 : Int)) := by
                have := (klO.out.cell (i := b) (by simp [nums, gsets]; exact hbR)).1
                simpa [nums, gsets] using this
              have hgl32 : (row B c)[b].1 < 4294967296 := gsets_lt h c c.length _ (by simp only [gsets]; exact List.mem_map_of_mem (List.getElem_mem hbR))
              have hcolW := (koW3.out.trans ko7.out).cell hcol
              have hs1 := sumO_bnd (L := (row B c).take b) (fun y hy => kcoin.out y (List.mem_of_mem_take hy))
              have hs2 := sumO_bnd (L := (row B c).take (b + 1)) (fun y hy => kcoin.out y (List.mem_of_mem_take hy))
              rw [kst.out] at hs2
              have hl1 : (((row B c).take b).length : Int) ≤ 32 := by simp; omega
              have hl2 : (((row B c).take (b + 1)).length : Int) ≤ 32 := by simp; omega
              have hmn := manyN_le ((gsets (row B c)).take b)
              have hml : ((gsets (row B c)).take b).length ≤ 32 := by simp; omega
              have hgc := goodsL_len (row B c)[b].1
              have kC := hid (fun W => count_any (row B c)[b].1 hgl32 W)
              obtain ⟨r, hr⟩ : ∃ r, (row B c)[b] = r := ⟨_, rfl⟩
              rw [hr] at kkB hxc kst kmt hcolW hs2 hgc kC ⊢
              obtain ⟨rg, rc⟩ := r
              dsimp only at kkB hxc kst kmt hcolW hs2 hgc kC
              try dsimp only
              obtain ⟨r1, r2⟩ := hxc
              generalize sumO ((row B c).take b) = sm at *
              generalize manyN ((gsets (row B c)).take b) = mn at *
              generalize (goodsL rg).length = gc at *
              have hsm : 0 ≤ sm ∧ sm ≤ 35184372088832 := by omega
              have hsm2 : 0 ≤ sm + rc ∧ sm + rc ≤ 35184372088832 := by omega
              have hmn2 : mn ≤ 1024 := by omega
              obtain ⟨u1, u2⟩ := hsm
              obtain ⟨u3, u4⟩ := hsm2
              clear o7 kkA kB7 hs1 hs2 hl1 hl2 hmn hml hcol hr ko6 kn1 kn2 g0 g1
              go_wp2_with fail
              refine kkB.out.mono ?_
              rintro e W8 ⟨rfl, o8⟩
              have hcol8 := o8.cell hcolW
              have ko8 := hid (ko7.out.trans o8)
              clear o8 kkB
              have hsum : rc + (wz - rc) = wz := by omega
              have hsumb : ((rc + (wz - rc)) != wz) = false := by rw [hsum]; simp
              go_wp2_with (first | (go_at_call 15; refine (kN.out _ _).mono ?_; rintro e w' ⟨rfl, e1⟩; rw [e1]; clear e1) | fail)
              refine (kC.out _).mono ?_
              rintro e W9 ⟨rfl, n9, e9⟩
              rw [e9]
              clear e9 W9
              go_wp2_with fail
              go_roundw
              case rel => exact ⟨b + 1, by omega, by go_num, by rw [kst.out], by rw [kmt.out]; simp, (koW3.out.trans ko8.out).drewN _⟩
              case measure => simp [intOf]; omega
      · obtain rfl : b = c.length := by omega
        have kAp := apart_any (some ⟨lb0, 0, none⟩) c.length (gsets (row B c)) wr (klO.out.kept oW (fun h => h)).nums (by simp [gsets, row_len]; omega) (gsets_lt h c c.length) (hT.old koW.out)
        rw [show (gsets (row B c)).length = c.length by simp [gsets, row_len]] at kAp
        have hap : (apZ (gsets (row B c))).2 = true := (cho_iff.1 kz.out).2.2.2
        rw [hap] at kAp
        have hal := ap_lt (L := gsets (row B c)) (gsets_lt h c c.length)
        have kC := hid (fun W => count_any (apZ (gsets (row B c))).1 hal W)
        rw [ap_many hap] at kC
        have hst : sumO ((row B c).take c.length) = wz := by rw [hwz.out, List.take_of_length_le (by omega)]
        have hmt : (gsets (row B c)).take c.length = gsets (row B c) := List.take_of_length_le (by simp [gsets, row_len])
        rw [hst, hmt]
        have kkA := hid kAp
        clear kAp hap hal hst hmt
        generalize (apZ (gsets (row B c))).1 = al at *
        generalize manyN (gsets (row B c)) = mn at *
        go_wp2_with fail
        refine kkA.out.mono ?_
        rintro e w6 ⟨rfl, o6⟩
        have ko6 := hid (koW.out.trans o6)
        clear o6 kkA
        go_wp2_with fail
        refine (kC.out _).mono ?_
        rintro e w7 ⟨rfl, n7, e7⟩
        rw [e7]
        clear e7 w7
        go_wp2_with fail
        go_ret
        exact ⟨by simp, ko6.out.drewN _⟩
  · have ko3 := hid (ko2.out.trans o3)
    have hzb : (choE gd B c != 0) = true := by simpa using hz
    have hw0 : worthZ gd B c = 0 := by rw [worthZ, if_neg hz]
    rw [hw0]
    generalize choE gd B c = z at *
    go_wp2_with (first | (go_at_call 15; refine (kN.out _ _).mono ?_; rintro e w' ⟨rfl, e1⟩; rw [e1]; clear e1) | fail)
    go_ret
    exact ⟨rfl, ko3.out⟩
end Go.Proofs.YtgbdnlpdicmaaaaDoor
