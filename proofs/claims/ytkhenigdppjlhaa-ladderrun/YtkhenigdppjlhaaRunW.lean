/- LadderRun, walked. -/
import Derived.Test.YtkhenigdppjlhaaC2
namespace Go.Proofs.Ytkhenigdppjlhaa
open Go.RowKit Go.Lib Go.Shelf
attribute [local go_sem] Oper.semAt_some


theorem own_cap {W : World} {B e sz g n m cap : Nat} {xs : List Value} (h : W.ownsRow B e sz (.slice (some ⟨g, 0, none⟩) n cap) m xs) : m ≤ cap := by
  rcases h.2 with ⟨h1, _⟩ | ⟨g', cap', cur, h1, h2, h3, h4, h5, h6, h7⟩
  · cases h1
  · injection h1 with _ _ e
    subst e
    omega

theorem own_blk {W : World} {B e sz g n m cap : Nat} {xs : List Value} (h : W.ownsRow B e sz (.slice (some ⟨g, 0, none⟩) n cap) m xs) : B ≤ g ∧ g < W.heap.size := by
  rcases h.2 with ⟨h1, _⟩ | ⟨g', cap', cur, h1, h2, h3, h4⟩
  · cases h1
  · simp only [Value.slice.injEq, Option.some.injEq, Addr.mk.injEq, and_true] at h1
    obtain ⟨rfl, _⟩ := h1
    exact ⟨h2, blk_lt h3⟩

theorem flatB_append : ∀ (M N : List Bd), flatB (M ++ N) = flatB M ++ flatB N
  | [], N => rfl
  | d :: M, N => by simp [flatB, flatB_append M N]

/-- The bids of the copy. -/
theorem bids_of {W : World} {B gm cm : Nat} {L : List Bd} (h : W.ownsRow B 29 4 (.slice (some ⟨gm, 0, none⟩) (L.length + 1) cm) (L.length + 1) (flatB (L ++ [mkB]))) : BidsC W (some ⟨gm, 0, none⟩) L ∧ W.cell? ⟨gm, L.length * 4, none⟩ = some (.int .i64 4242) := by
  obtain ⟨ao, cap, h1, h2, -⟩ := owns_newB (L := L ++ [mkB]) (by simpa using h)
  simp only [Value.slice.injEq] at h1
  obtain ⟨rfl, _, _⟩ := h1
  constructor
  · intro i hi
    obtain ⟨g, o, e, c0, c1, c2, c3⟩ := h2 i (by simp; omega)
    have eg : (L ++ [mkB]).getD i noB = L.getD i noB := by
      rw [List.getD_eq_getElem?_getD, List.getElem?_append_left hi, ← List.getD_eq_getElem?_getD]
    rw [eg] at c0 c1 c2 c3
    exact ⟨g, o, e, c0, c1, c2, c3⟩
  · obtain ⟨g, o, e, c0, -⟩ := h2 L.length (by simp)
    simp only [Option.some.injEq, Addr.mk.injEq, and_true] at e
    obtain ⟨rfl, rfl⟩ := e
    have eg : (L ++ [mkB]).getD L.length noB = mkB := by
      rw [List.getD_eq_getElem?_getD, List.getElem?_append_right (Nat.le_refl _)]
      simp
    rw [eg] at c0
    rw [Nat.mul_comm]
    simpa [mkB] using c0

theorem mr_of {W : World} {B gm cm : Nat} {L : List Bd} (h : W.ownsRow B 29 4 (.slice (some ⟨gm, 0, none⟩) (L.length + 1) cm) (L.length + 1) (flatB (L ++ [mkB]))) : MR W gm cm L 0 := by
  have hb := (bids_of h).1
  refine ⟨?_, fun i _ hi => ?_⟩
  · rcases h.2 with ⟨h1, _⟩ | ⟨g', cap', cur, h1, h2, h3, h4⟩
    · cases h1
    · simp only [Value.slice.injEq, Option.some.injEq, Addr.mk.injEq, and_true] at h1
      obtain ⟨rfl, _⟩ := h1
      exact ⟨cur, h3⟩
  · obtain ⟨g, o, e, c0, c1, c2, c3⟩ := hb i hi
    simp only [Option.some.injEq, Addr.mk.injEq, and_true] at e
    obtain ⟨rfl, rfl⟩ := e
    rw [Nat.mul_comm 4 i] at c0 c1 c2 c3
    simp only [Nat.zero_add] at c0 c1 c2 c3
    exact ⟨c0, c1, c2, c3⟩

set_option maxRecDepth 100000 in
set_option maxHeartbeats 8000000 in
theorem runlaw_long (l : Lt) (ao : Option Addr) (n cap : Nat) (leave : Int) (w : World) (hn : 200 < n) : Calls Try.prog 4 #[lotV l, .slice ao n cap, .int .i64 leave] w fun e w' => e = .returned (.bool true) ∧ Old w w' := by
  have kKn := hid (fun w => known_any w)
  have hn' : (n : Int) > 200 := by omega
  unfold lotV
  refine (callsIn_wide (n := 5)).1 ?_
  refine callsIn_of_wp_marks Try.func4 rfl trivial ?_ rfl
  simp only [Try.ntmps4, List.size_toArray, List.length_cons, List.length_nil, Nat.reduceAdd, Nat.reduceSub, Array.replicate_succ, Array.replicate_zero, List.push_toArray, List.append_toArray, List.nil_append, List.cons_append]
  refine wpIn_wide.2 ?_
  go_wp2_with fail
  refine (kKn.out _).mono ?_
  rintro e w1 ⟨rfl, o1⟩
  obtain ⟨hc, hf⟩ := o1.look
  have hs1 : w.heap.size + 1 + 1 < w1.heap.size := by have := o1.size; simp at this; omega
  have ko := hid ((old3 w _ _ _).trans o1)
  clear o1
  go_wp2_with fail
  refine ⟨.bool true, ?_, rfl, Frm.setCell ko.out _ (Or.inl (by simp; omega)) _⟩
  simp [results, Try.f4, go_sem, hc]

set_option maxRecDepth 100000 in
set_option maxHeartbeats 32000000 in
theorem runlaw_good (l : Lt) (ao : Option Addr) (cap : Nat) (L : List Bd) (leave : Int) (w : World) (hB : BidsC w ao L) (hna : ao = none → L = [] ∧ cap = 0) (hn : L.length ≤ 200) (hfr : ∀ i, i < L.length → (L.getD i noB).free ≤ 9223372036854775807) : Calls Try.prog 4 #[lotV l, .slice ao L.length cap, .int .i64 leave] w fun e w' => e = .returned (.bool true) ∧ Old w w' := by
  have kKn := hid (fun w => known_any w)
  have kRun := hid (fun ao cap w h1 h2 => run_any l ao cap L w h1 h2 hn hfr)
  have kRRun := hid (fun w h1 => rrun_any l ao cap L w h1 hn)
  have kAll := hid (fun ao cap w h1 h2 => all_any l ao cap L w h1 h2 (by omega))
  have hn' : ¬ (L.length : Int) > 200 := by omega
  have kB := hid hB
  have kna := hid hna
  have kfr := hid hfr
  have hfn : ∀ (p q : Value) (w : World), (binOp BinOp.eql 52 (.func (.func 31) #[] #[p, q]) .nilFunc).run Try.prog w = .ok (.bool false) w := fun _ _ _ => by kernel_rfl
  obtain ⟨i0, hi0, hz0, hz1, hz2⟩ := info_parts' infoB
  have hi0 := hid hi0
  have hz0 := hid hz0
  have hz1 := hid hz1
  have hz2 := hid hz2
  have fL0 := hid (fun x y => (lot_new l w).old (((Old.refl _).alloc x).alloc y))
  clear hB hna hfr
  unfold lotV at kRun kRRun kAll ⊢
  unfold riseV at kRun kRRun
  refine (callsIn_wide (n := 5)).1 ?_
  refine callsIn_of_wp_marks Try.func4 rfl trivial ?_ rfl
  simp only [Try.ntmps4, List.size_toArray, List.length_cons, List.length_nil, Nat.reduceAdd, Nat.reduceSub, Array.replicate_succ, Array.replicate_zero, List.push_toArray, List.append_toArray, List.nil_append, List.cons_append]
  refine wpIn_wide.2 ?_
  go_upto_region 3 with fail
  have fL := hid (fL0.out (.cells #[.int .i64 leave] 3) (.cells #[.bool false] 4))
  have fV : Hid (Boxed (((w.alloc (.cells #[.int .i64 l.kind, .int .i64 l.opens, .int .i64 l.closes, .int .i64 l.start, .int .i64 l.step, .int .i64 l.extend, .int .i64 l.last, .int .i64 l.floor, .int .i64 l.fall, .int .i64 l.count, .int .i64 l.rule] 25)).alloc (.cells #[.int .i64 leave] 3)).alloc (.cells #[.bool false] 4)) (w.heap.size + 1) 3 (.int .i64 leave)) := by
    have h := (Boxed.new (w.alloc (.cells #[.int .i64 l.kind, .int .i64 l.opens, .int .i64 l.closes, .int .i64 l.start, .int .i64 l.step, .int .i64 l.extend, .int .i64 l.last, .int .i64 l.floor, .int .i64 l.fall, .int .i64 l.count, .int .i64 l.rule] 25)) 3 (.int .i64 leave)).alloc (.cells #[.bool false] 4)
    rwa [alloc_size] at h
  have fR : Hid (Boxed (((w.alloc (.cells #[.int .i64 l.kind, .int .i64 l.opens, .int .i64 l.closes, .int .i64 l.start, .int .i64 l.step, .int .i64 l.extend, .int .i64 l.last, .int .i64 l.floor, .int .i64 l.fall, .int .i64 l.count, .int .i64 l.rule] 25)).alloc (.cells #[.int .i64 leave] 3)).alloc (.cells #[.bool false] 4)) (w.heap.size + 2) 4 (.bool false)) := by
    have h := Boxed.new ((w.alloc (.cells #[.int .i64 l.kind, .int .i64 l.opens, .int .i64 l.closes, .int .i64 l.start, .int .i64 l.step, .int .i64 l.extend, .int .i64 l.last, .int .i64 l.floor, .int .i64 l.fall, .int .i64 l.count, .int .i64 l.rule] 25)).alloc (.cells #[.int .i64 leave] 3)) 4 (.bool false)
    rwa [alloc_size, alloc_size] at h
  have fO : Hid (Old w (((w.alloc (.cells #[.int .i64 l.kind, .int .i64 l.opens, .int .i64 l.closes, .int .i64 l.start, .int .i64 l.step, .int .i64 l.extend, .int .i64 l.last, .int .i64 l.floor, .int .i64 l.fall, .int .i64 l.count, .int .i64 l.rule] 25)).alloc (.cells #[.int .i64 leave] 3)).alloc (.cells #[.bool false] 4))) := old3 w _ _ _
  clear fL0
  generalize ((w.alloc (.cells #[.int .i64 l.kind, .int .i64 l.opens, .int .i64 l.closes, .int .i64 l.start, .int .i64 l.step, .int .i64 l.extend, .int .i64 l.last, .int .i64 l.floor, .int .i64 l.fall, .int .i64 l.count, .int .i64 l.rule] 25)).alloc (.cells #[.int .i64 leave] 3)).alloc (.cells #[.bool false] 4) = W1 at *
  have h1z := blk_lt fR.out
  go_cut [7] from 25 to 32 (fun p wx => ∃ gm cm, p = .slice (some ⟨gm, 0, none⟩) L.length cm ∧ L.length + 1 ≤ cm ∧ wx.ownsRow W1.heap.size 29 4 (.slice (some ⟨gm, 0, none⟩) (L.length + 1) cm) (L.length + 1) (flatB (L ++ [mkB])) ∧ Old W1 wx)
  case first =>
    cases ao with
    | none =>
      obtain ⟨rfl, rfl⟩ := kna.out rfl
      go_wp2_with (first
        | (at_builtin; refine wpList_append_own_none (by rfl) _ _ 48 (by rfl) W1.heap.size 29 i0 4 Try.underlying48 hi0.out (.slice none 0 0) 0 [] (by rfl) ⟨rfl, Or.inl ⟨rfl, rfl⟩⟩ (by rfl) ?_)
        | (at_builtin; refine wpList_append_lies _ (by rfl) _ _ 48 (by rfl) W1.heap.size 29 i0 _ 4 32 Try.underlying48 hi0.out hz0.out hz1.out hz2.out rfl (by omega) (.slice none 0 0) 0 [] (by rfl) (World.ownsRow.alloc ⟨rfl, Or.inl ⟨rfl, rfl⟩⟩ _) ⟨W1.heap.size, 0, none⟩ 1 1 [.int .i64 4242, .int .i64 0, .int .i64 0, .int .i64 0] (by rfl) (by rfl) (World.news_of_block (heap_new W1 _)) (by intro u hu; simp at hu; rcases hu with rfl | rfl <;> rfl) (by omega) (by unfold maxLen; omega) (by omega) (by simp) _ rfl ?_; intro g1 cap1 w5 hown5 hgrow5 hat5 hlt5))
      go_meet
      case rel =>
        refine ⟨g1, cap1, rfl, own_cap hown5, by simpa [flatB, mkB] using hown5, ?_⟩
        exact Frm.grown ((Old.refl W1).alloc _) hgrow5 (fun k hk => by simp [Value.ownBlock] at hk)
    | some ad =>
      have hcells : ∀ j u, (flatB L)[j]? = some u → W1.cell? (ad.add j) = some u := by
        intro j u hu
        have hj : j < 4 * L.length := by rw [← flatB_length]; exact (List.getElem?_eq_some_iff.1 hu).1
        obtain ⟨g, o, e, -⟩ := kB.out 0 (by omega)
        simp only [Option.some.injEq] at e
        subst e
        rw [Addr.add_lit]
        exact (kB.out.old fO.out).news j u hu
      have kc := hid hcells
      clear hcells
      go_wp2_with (first
        | (at_builtin; refine wpList_append_own _ (by rfl) _ _ 48 (by rfl) W1.heap.size 29 i0 _ 4 32 Try.underlying48 hi0.out hz0.out hz1.out hz2.out rfl (by omega) (.slice none 0 0) 0 [] (by rfl) ⟨rfl, Or.inl ⟨rfl, rfl⟩⟩ ad L.length cap (flatB L) (by rfl) (by rw [flatB_length]; omega) kc.out (flatB_one L) (by unfold maxLen; omega) (by omega) (Nat.le_refl _) ?_; intro v' w3 hown4 hgrow4 hnil4; have hl3 := hgrow4.size; rw [List.nil_append, Nat.zero_add] at hown4)
        | (at_builtin; refine wpList_append_lies _ (by rfl) _ _ 48 (by rfl) W1.heap.size 29 i0 _ 4 32 Try.underlying48 hi0.out hz0.out hz1.out hz2.out rfl (by omega) v' L.length (flatB L) (by rfl) (World.ownsRow.alloc hown4 _) ⟨w3.heap.size, 0, none⟩ 1 1 [.int .i64 4242, .int .i64 0, .int .i64 0, .int .i64 0] (by rfl) (by rfl) (World.news_of_block (heap_new w3 _)) (by intro u hu; simp at hu; rcases hu with rfl | rfl <;> rfl) (by omega) (by unfold maxLen; omega) (by omega) (by simp; omega) _ rfl ?_; intro g1 cap1 w5 hown5 hgrow5 hat5 hlt5; have hcap5 := own_cap hown5))
      go_meet
      case rel =>
        refine ⟨g1, cap1, rfl, hcap5, ?_, ?_⟩
        · have e : flatB (L ++ [mkB]) = flatB L ++ [.int .i64 4242, .int .i64 0, .int .i64 0, .int .i64 0] := by rw [flatB_append]; rfl
          rw [e]
          exact hown5
        · have h1 : Old W1 w3 := Frm.grown (Old.refl W1) hgrow4 (fun k hk => by simp [Value.ownBlock] at hk)
          exact Frm.grown (h1.alloc _) hgrow5 (fun k hk => Or.inl (hown4.lt k hk).1)
  case rest =>
    obtain ⟨gm, cm, rfl, hcm, hown, o2⟩ := hcut
    have fL := hid (fL.out.old o2)
    have fV := hid (boxed_olds fV.out o2)
    have fR := hid (boxed_olds fR.out o2)
    have fO := hid (fO.out.trans o2)
    have hgm := hid (own_blk hown)
    have fM := hid (mr_of hown)
    have fB := hid (bids_of hown).1
    have fC := hid (bids_of hown).2
    clear hown o2
    generalize wc = W2 at *
    obtain ⟨lc0, lc1, lc2, lc3, lc4, lc5, lc6, lc7, lc8, lc9, lc10⟩ := fL.out
    have lcb := cell_lt lc0
    go_wp2_with fail
    clear lc0 lc1 lc2 lc3 lc4 lc5 lc6 lc7 lc8 lc9 lc10 lcb
    refine (kRun.out _ _ _ fB.out (fun e => by cases e)).mono ?_
    rintro e w3 ⟨rfl, o3⟩
    have fL := hid (fL.out.old o3)
    have fV := hid (boxed_olds fV.out o3)
    have fR := hid (boxed_olds fR.out o3)
    have fO := hid (fO.out.trans o3)
    have fM := hid (fM.out.olds o3)
    have fB := hid (fB.out.old o3)
    have fC := hid (o3.cell fC.out)
    have hgm := hid (show W1.heap.size ≤ gm ∧ gm < w3.heap.size from ⟨hgm.out.1, Nat.lt_of_lt_of_le hgm.out.2 o3.size⟩)
    clear o3 kRun
    obtain ⟨lc0, lc1, lc2, lc3, lc4, lc5, lc6, lc7, lc8, lc9, lc10⟩ := fL.out
    have lcb := cell_lt lc0
    go_wp2_with fail
    clear lc0 lc1 lc2 lc3 lc4 lc5 lc6 lc7 lc8 lc9 lc10 lcb
    have fr := hid (RB.new w3 (eR l L))
    have o3 : Old w3 (w3.alloc (.cells #[.int .i64 (eR l L).leader, .int .i64 (eR l L).limit, .int .i64 (eR l L).price, .int .i64 (eR l L).closes] 27)) := (Old.refl _).alloc _
    have fL := hid (fL.out.old o3)
    have fV := hid (boxed_olds fV.out o3)
    have fR := hid (boxed_olds fR.out o3)
    have fO := hid (fO.out.trans o3)
    have fM := hid (fM.out.olds o3)
    have fB := hid (fB.out.old o3)
    have fC := hid (o3.cell fC.out)
    have hgm := hid (show W1.heap.size ≤ gm ∧ gm < w3.heap.size from hgm.out)
    clear o3
    generalize w3.alloc (.cells #[.int .i64 (eR l L).leader, .int .i64 (eR l L).limit, .int .i64 (eR l L).price, .int .i64 (eR l L).closes] 27) = W4 at *
    generalize w3.heap.size = bR at *
    have hbR := hid (blk_lt fr.out)
    refine (kAll.out _ _ _ fB.out (fun e => by cases e)).mono ?_
    rintro e w5 ⟨v, rfl, xL, xS, xN, o5⟩
    have fL := hid (fL.out.old o5)
    have fV := hid (boxed_olds fV.out o5)
    have fR := hid (boxed_olds fR.out o5)
    have fO := hid (fO.out.trans o5)
    have fM := hid (fM.out.olds o5)
    have fC := hid (o5.cell fC.out)
    have fr := hid (fr.out.frm o5 (fun h => h))
    have fA := hid xL
    have fS := hid xS
    have fN := hid xN
    have hlA := hid (show W4.heap.size + 1 < w5.heap.size from cell_lt xS)
    clear xL xS xN o5 kAll fB
    generalize W4.heap.size = lA at *
    obtain ⟨lc0, lc1, lc2, lc3, lc4, lc5, lc6, lc7, lc8, lc9, lc10⟩ := fL.out
    have lcb := cell_lt lc0
    go_wp2_with fail
    clear lc0 lc1 lc2 lc3 lc4 lc5 lc6 lc7 lc8 lc9 lc10 lcb
    refine (kRRun.out _ (kB.out.old fO.out)).mono ?_
    rintro e w6 ⟨v2, rfl, xT, xG, o6⟩
    have fL := hid (fL.out.old o6)
    have fV := hid (boxed_olds fV.out o6)
    have fR := hid (boxed_olds fR.out o6)
    have fO := hid (fO.out.trans o6)
    have fM := hid (fM.out.olds o6)
    have fC := hid (o6.cell fC.out)
    have fr := hid (fr.out.frm o6 (fun h => h))
    have fA := hid (fA.out.old o6)
    have fS := hid (o6.cell fS.out)
    have fN : Hid (∃ ao cap, v = .slice ao L.length cap ∧ BidsC w6 ao L ∧ ∀ ad, ao = some ad → lA + 2 ≤ ad.block ∧ ad.block < w6.heap.size) := by
      obtain ⟨ao', cap', h1, h2, h3⟩ := fN.out
      exact ⟨ao', cap', h1, h2.old o6, fun ad e => ⟨(h3 ad e).1, Nat.lt_of_lt_of_le (h3 ad e).2 o6.size⟩⟩
    have fT := hid xT
    have fG := hid (show ∀ g, v2.ownBlock = some g → lA + 2 ≤ g ∧ g < w6.heap.size from fun g hg => ⟨by have := (xG g hg).1; have := hlA.out; omega, (xG g hg).2⟩)
    have hl6 := hid (show lA + 1 < w6.heap.size from cell_lt fS.out)
    clear xT xG o6 kRRun hlA
    obtain ⟨rc0, rc1, rc2, rc3⟩ := fr.out.cells
    have rcb := cell_lt rc0
    have cc := fC.out
    have ccb := cell_lt cc
    obtain ⟨va, vc, rfl, -⟩ := fT.out
    have hcm' : (L.length : Int) + 1 ≤ (cm : Int) := by omega
    go_wp2_with fail
    clear rc0 rc1 rc2 rc3 rcb cc ccb
    have o7 : Old w6 ((w6.alloc (.cells #[.slice va (evs l L (eN l L)).length vc] 54)).alloc (.cells #[.int .i64 (eR l L).leader, .int .i64 (eR l L).limit, .int .i64 (eR l L).price, .int .i64 (eR l L).closes] 27)) := ((Old.refl _).alloc _).alloc _
    have fW := hid (boxed_olds (Boxed.new w6 54 (.slice va (evs l L (eN l L)).length vc)) ((Old.refl _).alloc (.cells #[.int .i64 (eR l L).leader, .int .i64 (eR l L).limit, .int .i64 (eR l L).price, .int .i64 (eR l L).closes] 27)))
    have fM := hid (fM.out.olds o7)
    have nx : Hid (NX w ((w6.alloc (.cells #[.slice va (evs l L (eN l L)).length vc] 54)).alloc (.cells #[.int .i64 (eR l L).leader, .int .i64 (eR l L).limit, .int .i64 (eR l L).price, .int .i64 (eR l L).closes] 27)) w.heap.size lA w6.heap.size v (.slice va (evs l L (eN l L)).length vc) leave l L) := by
      obtain ⟨ao', cap', h1, h2, h3⟩ := fN.out
      exact ⟨boxed_olds fV.out o7, boxed_olds fR.out o7, fA.out.old o7, o7.cell fS.out, ⟨ao', cap', h1, h2.old o7, h3⟩, fW.out, fT.out.frm o7 (fun _ _ h => h), fG.out, fO.out.trans o7⟩
    have g1 := hgm.out
    have g2 := hbR.out
    have g3 := hl6.out
    clear o7 fW fV fR fA fS fN fT fG fO fr fL fC hgm hbR hl6
    generalize (w6.alloc (.cells #[.slice va (evs l L (eN l L)).length vc] 54)).alloc (.cells #[.int .i64 (eR l L).leader, .int .i64 (eR l L).limit, .int .i64 (eR l L).price, .int .i64 (eR l L).closes] 27) = W7 at *
    generalize w6.heap.size = bW at *
    obtain ⟨s, hs⟩ : ∃ s, w.heap.size = s := ⟨_, rfl⟩
    have kss := hid hs
    rw [hs] at nx h1z ⊢
    clear hs
    have d1 : s + 2 < gm := by omega
    have d2 : gm < lA := by omega
    go_loopw [16] (fun iv wr => ∃ k : Nat, k ≤ L.length ∧ iv = .int .i64 (k : Int) ∧ Hid (NX w wr s lA bW v (.slice va (evs l L (eN l L)).length vc) leave l L) ∧ Hid (MR wr gm cm L k)) (fun iv _ => L.length - (intOf iv).toNat)
    case atStart => exact ⟨0, Nat.zero_le _, rfl, nx, fM⟩
    case round =>
      clear nx fM
      obtain ⟨k, hk, rfl, nx, fM⟩ := hrel
      by_cases hlt : k < L.length
      · have hlt' : (k : Int) < (L.length : Int) := by omega
        obtain ⟨ga, oa, rfl, b0, b1, b2, b3⟩ := kB.out k hlt
        rw [Nat.mul_comm 4 k] at b0 b1 b2 b3
        have b0 := nx.out.old.cell b0
        have b1 := nx.out.old.cell b1
        have b2 := nx.out.old.cell b2
        have b3 := nx.out.old.cell b3
        obtain ⟨m0, m1, m2, m3⟩ := fM.out.cells k (Nat.le_refl _) hlt
        have mfz := fM.out.fz
        generalize L.getD k noB = b at *
        obtain ⟨bb0, bb1, bb2, bb3⟩ := b
        dsimp only at *
        go_wp2_with fail
        go_quiet (fail)
        go_wp2_with fail
        go_roundw
        case rel => exact ⟨k + 1, by omega, by go_num, hid (nx.out.frm (Frm.trans (Frm.mono ((Old.refl wr).drewN _) (fun _ _ h => h.elim)) (MR.frm4 _ gm k _ _ _ _) (fun _ _ h => h)) (fun b e => by omega) (by omega) (by omega) kss.out), hid ((fM.out.olds ((Old.refl wr).drewN _)).set _ _ _ _)⟩
        case measure => simp [intOf]; omega
      · obtain rfl : k = L.length := by omega
        clear fM hlt
        generalize wr = W8 at *
        have nx8 := nx
        go_wp2_with fail
        refine wp_loop_rounds 3 ?_
        rw [rounds_succ]
        have fbt1 := hid (Boxed.new W8 3 (.int .i64 0))
        have nx1 := hid (nx.out.frm ((Old.refl W8).alloc (.cells #[.int .i64 0] 3)) (fun b e => e.elim) (by omega) (by omega) kss.out)
        have hbt1 := hid (show bW < W8.heap.size from blk_lt nx8.out.want)
        clear nx nx8
        generalize W8.alloc (.cells #[.int .i64 0] 3) = W9 at *
        generalize W8.heap.size = bt at *
        have bc0 := fbt1.out.cell
        go_wp2_with fail
        have hba1 := hid (blk_lt fbt1.out)
        have tI1 : Hid (TI w s lA bW bt W9.heap.size v (.slice va (evs l L (eN l L)).length vc) leave 0 l L 0 (W9.alloc (.cells #[.int .i64 0] 3))) := ⟨Nat.zero_le _, Boxed.new W9 3 (.int .i64 0), boxed_olds fbt1.out ((Old.refl _).alloc _), nx1.out.frm ((Old.refl W9).alloc _) (fun b e => e.elim) (by omega) (by omega) kss.out⟩
        have hz1 : Hid ((W9.alloc (.cells #[.int .i64 0] 3)).heap.size = W9.heap.size + 1) := alloc_size _ _
        clear bc0
        generalize W9.alloc (.cells #[.int .i64 0] 3) = W10 at *
        generalize W9.heap.size = ba at *
        have e1 := hba1.out
        have e2 := hbt1.out
        have e3 := hz1.out
        refine range_join (n := 5) (by omega) (gf := 31) (lb := #[.pointer (some ⟨lA, 0, none⟩), .pointer (some ⟨lA + 1, 0, none⟩)]) rfl (enters_of Try.func31 (by kernel_rfl) rfl)
          (all_stopsU 4 (by omega) lA (lA + 1) v (fun k => k = ba) l L W10 (by omega) kfr.out (fun k h => by omega) (by omega) (by omega) tI1.out.nx.lot tI1.out.nx.box (by
            obtain ⟨ao', cap', h1, h2, h3⟩ := tI1.out.nx.bids
            exact ⟨ao', cap', h1, h2, fun ad e => ⟨by have := h3 ad e; omega, by have := h3 ad e; omega⟩⟩))
          (fun h k => h.trans k) (fun W o => KeptC.alloc W o) (fun W l o o' _ h1 h2 => KeptC.put W l o o' h1 h2) (fun _ => rfl) 4
          (fun p Y => ∃ k, p = evs l L k ∧ TI w s lA bW bt ba v (.slice va (evs l L (eN l L)).length vc) leave 0 l L k Y)
          (fun p Y => ∃ k, p = evs l L k ∧ TI w s lA bW bt ba v (.slice va (evs l L (eN l L)).length vc) leave 0 l L k Y ∧ (0 = (0 : Int) ∧ (k : Int) = leave))
          (fun _ Y => ∃ k, TI w s lA bW bt ba v (.slice va (evs l L (eN l L)).length vc) leave 0 l L k Y ∧ (k = eN l L ∨ (0 = (0 : Int) ∧ (k : Int) = leave)))
          (fun p A B ⟨k, h1, h2⟩ hf => ⟨k, h1, h2.frm hf (fun b e => by omega) (by omega) (by omega) kss.out (by omega) (by omega)⟩)
          (fun p A B ⟨k, h1, h2, h3⟩ hf => ⟨k, h1, h2.frm hf (fun b e => by omega) (by omega) (by omega) kss.out (by omega) (by omega), h3⟩)
          ⟨0, rfl, tI1.out⟩
          (fun x => .cells #[.int .i64 x.1.leader, .int .i64 x.1.limit, .int .i64 x.1.price, .int .i64 x.1.closes] 27)
          (fun x m t => (((t.setIfInBounds 105 (.agg #[.int .i64 x.1.leader, .int .i64 x.1.limit, .int .i64 x.1.price, .int .i64 x.1.closes])).setIfInBounds 106 (.int .i64 x.2)).setIfInBounds 19 (.pointer (some ⟨m, 0, none⟩))).setIfInBounds 20 (.int .i64 x.2))
          ?assign1 ?body1
          (fun q W hq ⟨k, h1, h2⟩ => ⟨k, h2, Or.inl (by have := congrArg List.length (h1.symm.trans hq); rwa [evs_length, evs_length] at this)⟩)
          (fun q W _ ⟨k, h1, h2, h3⟩ => ⟨k, h2, Or.inr h3⟩) ?hQ1 ?end1
        case assign1 =>
          intro l' x W K hK
          simp only [encE, riseV]
          simp only [List.setIfInBounds_toArray, List.set_cons_zero, List.set_cons_succ] at hK
          gi_wp2
          exact hK
        case body1 =>
          rintro l' p x m Y ⟨k, rfl, tI⟩ ⟨k', hk', hpk⟩ hO hm
          simp only [List.setIfInBounds_toArray, List.set_cons_zero, List.set_cons_succ]
          obtain ⟨rfl, rfl⟩ := pre_next hpk
          have kI := hid tI
          have hst := evs_getD l L (n := eN l L) (k := k) (by omega)
          have hlen := evs_length l L (eN l L)
          obtain ⟨ao', cap', he', hcs⟩ := tI.nx.steps
          simp only [Value.slice.injEq, true_and] at he'
          obtain ⟨rfl, rfl⟩ := he'
          obtain ⟨g, rfl, c0, c1, c2, c3, c4⟩ := hcs k (by omega)
          rw [hst] at c0 c1 c2 c3 c4
          rw [Nat.mul_comm 5 k] at c0 c1 c2 c3 c4
          have hO2 : Hid (RB Y m (evK l L k).1) := hO
          have kev := hid (evs_succ l L k)
          have hle := hid tI.le
          generalize evK l L k = x at *
          obtain ⟨⟨x0, x1, x2, x3⟩, f⟩ := x
          dsimp only at *
          obtain ⟨xc0, xc1, xc2, xc3⟩ := hO2.out.cells
          dsimp only at xc0 xc1 xc2 xc3
          have wc0 := tI.nx.want.cell
          have ac0 := tI.at'.cell
          have tc0 := tI.turn.cell
          have vc0 := tI.nx.lea.cell
          have afz := tI.at'.frozen
          have z1 := cell_lt xc0
          have z2 := cell_lt wc0
          have z3 := cell_lt ac0
          have z4 := cell_lt tc0
          have z5 := cell_lt vc0
          have z6 := cell_lt c0
          have hkl : k < (evs l L (eN l L)).length := by omega
          have hkl' : (k : Int) < ((evs l L (eN l L)).length : Int) := by omega
          have hk9 : (k : Int) ≤ 1000 := by have := eN_le l L; omega
          clear hcs hst hlen hpk hO tI
          generalize (evs l L (eN l L)).length = n5 at *
          have hd1 : decide (n5 ≤ k) = false := by simpa using hkl
          gi_wp2_with fail
          refine region_round (S := fun W => Old Y W) (by kernel_rfl) (by kernel_rfl) ((Old.refl Y).drewN 1) (fun hHeld => ?_)
          have oY : Old Y Y.drew := (Old.refl Y).drewN 1
          generalize Y.drew = Y1 at *
          refine' wpAnyH_take (i := 0) rfl (by kernel_rfl) (by kernel_rfl) (by kernel_rfl) (fun _ _ _ h => h) (Or.inl ⟨by rfl, ?_⟩) hHeld ?_
          rotate_left
          · intro W hSw
            obtain ⟨hcW, -⟩ := Old.look hSw
            clear hSw
            simp only [List.getElem_toArray, List.getElem_cons_zero]
            go_simp
            all_goals with_reducible rfl
          simp only [List.getElem_toArray, List.getElem_cons_zero, Act.put, List.setIfInBounds_toArray, List.set_cons_zero, List.set_cons_succ]
          refine' wpAnyH_take (i := 1) rfl (by kernel_rfl) (by kernel_rfl) (by kernel_rfl) (fun _ _ _ h => h) (Or.inl ⟨by rfl, ?_⟩) hHeld ?_
          rotate_left
          · intro W hSw
            obtain ⟨hcW, -⟩ := Old.look hSw
            clear hSw
            simp only [List.getElem_toArray, List.getElem_cons_zero, List.getElem_cons_succ]
            go_simp
            all_goals with_reducible rfl
          simp only [List.getElem_toArray, List.getElem_cons_zero, List.getElem_cons_succ, Act.put, List.setIfInBounds_toArray, List.set_cons_zero, List.set_cons_succ]
          refine' wpAnyH_take (i := 2) rfl (by kernel_rfl) (by kernel_rfl) (by kernel_rfl) (fun _ _ _ h => h) (Or.inl ⟨by rfl, ?_⟩) hHeld ?_
          rotate_left
          · intro W hSw
            obtain ⟨hcW, -⟩ := Old.look hSw
            clear hSw
            simp only [List.getElem_toArray, List.getElem_cons_zero, List.getElem_cons_succ]
            go_simp
            all_goals with_reducible rfl
          simp only [List.getElem_toArray, List.getElem_cons_zero, List.getElem_cons_succ, Act.put, List.setIfInBounds_toArray, List.set_cons_zero, List.set_cons_succ]
          refine' wpAnyH_take (i := 3) rfl (by kernel_rfl) (by kernel_rfl) (by kernel_rfl) (fun _ _ _ h => h) (Or.inl ⟨by rfl, ?_⟩) hHeld ?_
          rotate_left
          · intro W hSw
            obtain ⟨hcW, -⟩ := Old.look hSw
            clear hSw
            simp only [List.getElem_toArray, List.getElem_cons_zero, List.getElem_cons_succ]
            go_simp
            all_goals with_reducible rfl
          simp only [List.getElem_toArray, List.getElem_cons_zero, List.getElem_cons_succ, Act.put, List.setIfInBounds_toArray, List.set_cons_zero, List.set_cons_succ]
          refine' wpAnyH_take (i := 4) rfl (by kernel_rfl) (by kernel_rfl) (by kernel_rfl) (fun _ _ _ h => h) (Or.inl ⟨by rfl, ?_⟩) hHeld ?_
          rotate_left
          · intro W hSw
            obtain ⟨hcW, -⟩ := Old.look hSw
            clear hSw
            simp only [List.getElem_toArray, List.getElem_cons_zero, List.getElem_cons_succ]
            go_simp
            all_goals with_reducible rfl
          simp only [List.getElem_toArray, List.getElem_cons_zero, List.getElem_cons_succ, Act.put, List.setIfInBounds_toArray, List.set_cons_zero, List.set_cons_succ]
          refine' wpAnyH_take (i := 5) rfl (by kernel_rfl) (by kernel_rfl) (by kernel_rfl) (fun _ _ _ h => h) (Or.inl ⟨by rfl, ?_⟩) hHeld ?_
          rotate_left
          · intro W hSw
            obtain ⟨hcW, -⟩ := Old.look hSw
            clear hSw
            simp only [List.getElem_toArray, List.getElem_cons_zero, List.getElem_cons_succ]
            go_simp
            all_goals with_reducible rfl
          simp only [List.getElem_toArray, List.getElem_cons_zero, List.getElem_cons_succ, Act.put, List.setIfInBounds_toArray, List.set_cons_zero, List.set_cons_succ]
          refine' wpAnyH_take (i := 6) rfl (by kernel_rfl) (by kernel_rfl) (by kernel_rfl) (fun _ _ _ h => h) (Or.inl ⟨by rfl, ?_⟩) hHeld ?_
          rotate_left
          · intro W hSw
            obtain ⟨hcW, -⟩ := Old.look hSw
            clear hSw
            simp only [List.getElem_toArray, List.getElem_cons_zero, List.getElem_cons_succ]
            go_simp
            all_goals with_reducible rfl
          simp only [List.getElem_toArray, List.getElem_cons_zero, List.getElem_cons_succ, Act.put, List.setIfInBounds_toArray, List.set_cons_zero, List.set_cons_succ]
          refine' wpAnyH_take (i := 7) rfl (by kernel_rfl) (by kernel_rfl) (by kernel_rfl) (fun _ _ _ h => h) (Or.inl ⟨by rfl, ?_⟩) hHeld ?_
          rotate_left
          · intro W hSw
            obtain ⟨hcW, -⟩ := Old.look hSw
            clear hSw
            simp only [List.getElem_toArray, List.getElem_cons_zero, List.getElem_cons_succ]
            go_simp
            all_goals with_reducible rfl
          simp only [List.getElem_toArray, List.getElem_cons_zero, List.getElem_cons_succ, Act.put, List.setIfInBounds_toArray, List.set_cons_zero, List.set_cons_succ]
          refine' wpAnyH_take (i := 8) rfl (by kernel_rfl) (by kernel_rfl) (by kernel_rfl) (fun _ _ _ h => h) (Or.inl ⟨by rfl, ?_⟩) hHeld ?_
          rotate_left
          · intro W hSw
            obtain ⟨hcW, -⟩ := Old.look hSw
            clear hSw
            simp only [List.getElem_toArray, List.getElem_cons_zero, List.getElem_cons_succ]
            go_simp
            all_goals with_reducible rfl
          simp only [List.getElem_toArray, List.getElem_cons_zero, List.getElem_cons_succ, Act.put, List.setIfInBounds_toArray, List.set_cons_zero, List.set_cons_succ]
          refine' wpAnyH_take (i := 9) rfl (by kernel_rfl) (by kernel_rfl) (by kernel_rfl) (fun _ _ _ h => h) (Or.inl ⟨by rfl, ?_⟩) hHeld ?_
          rotate_left
          · intro W hSw
            obtain ⟨hcW, -⟩ := Old.look hSw
            clear hSw
            simp only [List.getElem_toArray, List.getElem_cons_zero, List.getElem_cons_succ]
            go_simp
            all_goals with_reducible rfl
          simp only [List.getElem_toArray, List.getElem_cons_zero, List.getElem_cons_succ, Act.put, List.setIfInBounds_toArray, List.set_cons_zero, List.set_cons_succ]
          refine' wpAnyH_take (i := 10) rfl (by kernel_rfl) (by kernel_rfl) (by kernel_rfl) (fun _ _ _ h => h) (Or.inl ⟨by rfl, ?_⟩) hHeld ?_
          rotate_left
          · intro W hSw
            obtain ⟨hcW, -⟩ := Old.look hSw
            clear hSw
            simp only [List.getElem_toArray, List.getElem_cons_zero, List.getElem_cons_succ]
            go_simp
            all_goals with_reducible rfl
          simp only [List.getElem_toArray, List.getElem_cons_zero, List.getElem_cons_succ, Act.put, List.setIfInBounds_toArray, List.set_cons_zero, List.set_cons_succ]
          refine' wpAnyH_take (i := 11) rfl (by kernel_rfl) (by kernel_rfl) (by kernel_rfl) (fun _ _ _ h => h) (Or.inl ⟨by rfl, ?_⟩) hHeld ?_
          rotate_left
          · intro W hSw
            obtain ⟨hcW, -⟩ := Old.look hSw
            clear hSw
            simp only [List.getElem_toArray, List.getElem_cons_zero, List.getElem_cons_succ]
            go_simp
            all_goals with_reducible rfl
          simp only [List.getElem_toArray, List.getElem_cons_zero, List.getElem_cons_succ, Act.put, List.setIfInBounds_toArray, List.set_cons_zero, List.set_cons_succ]
          refine' wpAnyH_take (i := 12) rfl (by kernel_rfl) (by kernel_rfl) (by kernel_rfl) (fun _ _ _ h => h) (Or.inl ⟨by rfl, ?_⟩) hHeld ?_
          rotate_left
          · intro W hSw
            obtain ⟨hcW, -⟩ := Old.look hSw
            clear hSw
            simp only [List.getElem_toArray, List.getElem_cons_zero, List.getElem_cons_succ]
            go_simp
            all_goals with_reducible rfl
          simp only [List.getElem_toArray, List.getElem_cons_zero, List.getElem_cons_succ, Act.put, List.setIfInBounds_toArray, List.set_cons_zero, List.set_cons_succ]
          refine' wpAnyH_take (i := 13) rfl (by kernel_rfl) (by kernel_rfl) (by kernel_rfl) (fun _ _ _ h => h) (Or.inl ⟨by rfl, ?_⟩) hHeld ?_
          rotate_left
          · intro W hSw
            obtain ⟨hcW, -⟩ := Old.look hSw
            clear hSw
            simp only [List.getElem_toArray, List.getElem_cons_zero, List.getElem_cons_succ]
            go_simp
            all_goals with_reducible rfl
          simp only [List.getElem_toArray, List.getElem_cons_zero, List.getElem_cons_succ, Act.put, List.setIfInBounds_toArray, List.set_cons_zero, List.set_cons_succ]
          refine' wpAnyH_take (i := 14) rfl (by kernel_rfl) (by kernel_rfl) (by kernel_rfl) (fun _ _ _ h => h) (Or.inl ⟨by rfl, ?_⟩) hHeld ?_
          rotate_left
          · intro W hSw
            obtain ⟨hcW, -⟩ := Old.look hSw
            clear hSw
            simp only [List.getElem_toArray, List.getElem_cons_zero, List.getElem_cons_succ]
            go_simp
            all_goals with_reducible rfl
          simp only [List.getElem_toArray, List.getElem_cons_zero, List.getElem_cons_succ, Act.put, List.setIfInBounds_toArray, List.set_cons_zero, List.set_cons_succ]
          refine' wpAnyH_take (i := 15) rfl (by kernel_rfl) (by kernel_rfl) (by kernel_rfl) (fun _ _ _ h => h) (Or.inl ⟨by rfl, ?_⟩) hHeld ?_
          rotate_left
          · intro W hSw
            obtain ⟨hcW, -⟩ := Old.look hSw
            clear hSw
            simp only [List.getElem_toArray, List.getElem_cons_zero, List.getElem_cons_succ]
            go_simp
            all_goals with_reducible rfl
          simp only [List.getElem_toArray, List.getElem_cons_zero, List.getElem_cons_succ, Act.put, List.setIfInBounds_toArray, List.set_cons_zero, List.set_cons_succ]
          refine' wpAnyH_take (i := 16) rfl (by kernel_rfl) (by kernel_rfl) (by kernel_rfl) (fun _ _ _ h => h) (Or.inl ⟨by rfl, ?_⟩) hHeld ?_
          rotate_left
          · intro W hSw
            obtain ⟨hcW, -⟩ := Old.look hSw
            clear hSw
            simp only [List.getElem_toArray, List.getElem_cons_zero, List.getElem_cons_succ]
            go_simp
            all_goals with_reducible rfl
          simp only [List.getElem_toArray, List.getElem_cons_zero, List.getElem_cons_succ, Act.put, List.setIfInBounds_toArray, List.set_cons_zero, List.set_cons_succ]
          refine' wpAnyH_take (i := 17) rfl (by kernel_rfl) (by kernel_rfl) (by kernel_rfl) (fun _ _ _ h => h) (Or.inl ⟨by rfl, ?_⟩) hHeld ?_
          rotate_left
          · intro W hSw
            obtain ⟨hcW, -⟩ := Old.look hSw
            clear hSw
            simp only [List.getElem_toArray, List.getElem_cons_zero, List.getElem_cons_succ]
            go_simp
            all_goals with_reducible rfl
          simp only [List.getElem_toArray, List.getElem_cons_zero, List.getElem_cons_succ, Act.put, List.setIfInBounds_toArray, List.set_cons_zero, List.set_cons_succ]
          refine' wpAnyH_take (i := 18) rfl (by kernel_rfl) (by kernel_rfl) (by kernel_rfl) (fun _ _ _ h => h) (Or.inl ⟨by rfl, ?_⟩) hHeld ?_
          rotate_left
          · intro W hSw
            obtain ⟨hcW, -⟩ := Old.look hSw
            clear hSw
            simp only [List.getElem_toArray, List.getElem_cons_zero, List.getElem_cons_succ]
            go_simp
            all_goals with_reducible rfl
          simp only [List.getElem_toArray, List.getElem_cons_zero, List.getElem_cons_succ, Act.put, List.setIfInBounds_toArray, List.set_cons_zero, List.set_cons_succ]
          refine' wpAnyH_take (i := 19) rfl (by kernel_rfl) (by kernel_rfl) (by kernel_rfl) (fun _ _ _ h => h) (Or.inl ⟨by rfl, ?_⟩) hHeld ?_
          rotate_left
          · intro W hSw
            obtain ⟨hcW, -⟩ := Old.look hSw
            clear hSw
            simp only [List.getElem_toArray, List.getElem_cons_zero, List.getElem_cons_succ]
            go_simp
            all_goals with_reducible rfl
          simp only [List.getElem_toArray, List.getElem_cons_zero, List.getElem_cons_succ, Act.put, List.setIfInBounds_toArray, List.set_cons_zero, List.set_cons_succ]
          refine' wpAnyH_take (i := 20) rfl (by kernel_rfl) (by kernel_rfl) (by kernel_rfl) (fun _ _ _ h => h) (Or.inl ⟨by rfl, ?_⟩) hHeld ?_
          rotate_left
          · intro W hSw
            obtain ⟨hcW, -⟩ := Old.look hSw
            clear hSw
            simp only [List.getElem_toArray, List.getElem_cons_zero, List.getElem_cons_succ]
            go_simp
            all_goals with_reducible rfl
          simp only [List.getElem_toArray, List.getElem_cons_zero, List.getElem_cons_succ, Act.put, List.setIfInBounds_toArray, List.set_cons_zero, List.set_cons_succ]
          refine' wpAnyH_take (i := 21) rfl (by kernel_rfl) (by kernel_rfl) (by kernel_rfl) (fun _ _ _ h => h) (Or.inl ⟨by rfl, ?_⟩) hHeld ?_
          rotate_left
          · intro W hSw
            obtain ⟨hcW, -⟩ := Old.look hSw
            clear hSw
            simp only [List.getElem_toArray, List.getElem_cons_zero, List.getElem_cons_succ]
            go_simp
            all_goals with_reducible rfl
          simp only [List.getElem_toArray, List.getElem_cons_zero, List.getElem_cons_succ, Act.put, List.setIfInBounds_toArray, List.set_cons_zero, List.set_cons_succ]
          refine wpAnyH_done (by kernel_rfl) ?_ _
          refine OnlyN.normal ?_
          have ac1 := oY.cell ac0
          have tc1 := oY.cell tc0
          have vc1 := oY.cell vc0
          have afz1 := (boxed_olds kI.out.at' oY).frozen
          have koY := hid oY
          clear hHeld oY ac0 tc0 vc0 wc0 xc0 xc1 xc2 xc3 c0 c1 c2 c3 c4 afz z1 z2 z3 z4 z5 z6
          by_cases hlv : (k : Int) + 1 = leave
          · subst hlv
            gi_wp2
            rw [← kev.out]
            obtain ⟨p1, p2, p3⟩ := kI.out.next (N := W10.heap.size) koY.out (by omega) (by omega) (by omega) kss.out (by omega) (by omega) (by omega)
            exact ⟨p1, rfl, k + 1, rfl, p3, by simp⟩
          · have hlv' : ((k : Int) + 1 == leave) = false := by simpa using hlv
            clear hlv
            gi_wp2
            rw [← kev.out]
            obtain ⟨p1, p2, p3⟩ := kI.out.next (N := W10.heap.size) koY.out (by omega) (by omega) (by omega) kss.out (by omega) (by omega) (by omega)
            exact ⟨p1, p2, k + 1, rfl, p3⟩
        case hQ1 =>
          intro b W h
          exact inBlock_both (Or.inr rfl) h
        case end1 =>
          rintro D1 q Y hD1 ⟨k, tI, hor⟩ hK1
          have hwz := evs_length l L (eN l L)
          have wc0 := tI.nx.want.cell
          have ac0 := tI.at'.cell
          have tc0 := tI.turn.cell
          have vc0 := tI.nx.lea.cell
          have kI := hid tI
          have kK1 := hid hK1
          have kwz := hid hwz
          clear tI hK1 hwz tI1
          refine inBlock_both (Or.inl rfl) ?_
          dsimp only
          go_upto_region 26 with fail
          go_cut [160] from 138 to 160 (fun p wx => p = .bool false ∧ wx = Y)
          case first =>
            by_cases hke : k = eN l L
            · have hke2 : ((k : Int) != ((evs l L (eN l L)).length : Int)) = false := by rw [kwz.out, hke]; simp
              clear hor hke
              go_wp2_with fail
              go_meet
              case rel => exact ⟨rfl, rfl⟩
            · obtain ⟨-, rfl⟩ : (0 : Int) = 0 ∧ (k : Int) = leave := by rcases hor with h | h; · exact absurd h hke
                                                                        · exact h
              have hke2 : ((k : Int) != ((evs l L (eN l L)).length : Int)) = true := by rw [kwz.out, bne_iff_ne]; omega
              clear hor hke
              go_wp2_with fail
              go_meet
              case rel => exact ⟨rfl, rfl⟩
          case rest =>
            obtain ⟨rfl, rfl⟩ := hcut
            clear hor
            go_wp2_with fail
            rw [rounds_succ]
            have fbt2 := hid (Boxed.new wc 3 (.int .i64 1))
            have nx2 := hid (kI.out.nx.frm ((Old.refl wc).alloc (.cells #[.int .i64 1] 3)) (fun b e => e.elim) (by omega) (by omega) kss.out)
            have hbt2 := hid (show bW < wc.heap.size from blk_lt kI.out.nx.want)
            have hD1l := (Array.getElem?_eq_some_iff.1 kK1.out).1
            have kM1 := hid ((Below.heap_alloc wc (.cells #[.int .i64 1] 3) D1 hD1l).trans kK1.out)
            have hDb : Hid (D1 < wc.heap.size ∧ ba < D1) := ⟨hD1l, by omega⟩
            have hDb1 := hDb.out
            clear kI kK1 wc0 ac0 tc0 vc0
            generalize wc.alloc (.cells #[.int .i64 1] 3) = W11 at *
            generalize wc.heap.size = bt2 at *
            have bc0 := fbt2.out.cell
            go_wp2_with fail
            have hba2 := hid (blk_lt fbt2.out)
            have tI2 : Hid (TI w s lA bW bt2 W11.heap.size v (.slice va (evs l L (eN l L)).length vc) leave 1 l L 0 (W11.alloc (.cells #[.int .i64 0] 3))) := ⟨Nat.zero_le _, Boxed.new W11 3 (.int .i64 0), boxed_olds fbt2.out ((Old.refl _).alloc _), nx2.out.frm ((Old.refl W11).alloc _) (fun b e => e.elim) (by omega) (by omega) kss.out⟩
            have hz22 : Hid ((W11.alloc (.cells #[.int .i64 0] 3)).heap.size = W11.heap.size + 1) := alloc_size _ _
            clear bc0
            have kM2 := hid ((Below.heap_alloc W11 (.cells #[.int .i64 0] 3) D1 (blk_lt kM1.out)).trans kM1.out)
            generalize W11.alloc (.cells #[.int .i64 0] 3) = W12 at *
            generalize W11.heap.size = ba2 at *
            have e1 := hba2.out
            have e2 := hbt2.out
            have e3 := hz22.out
            refine range_join (n := 5) (by omega) (gf := 31) (lb := #[.pointer (some ⟨lA, 0, none⟩), .pointer (some ⟨lA + 1, 0, none⟩)]) rfl (enters_of Try.func31 (by kernel_rfl) rfl)
              (all_stopsU 4 (by omega) lA (lA + 1) v (fun k => k = ba2) l L W12 (by omega) kfr.out (fun k h => by omega) (by omega) (by omega) tI2.out.nx.lot tI2.out.nx.box (by
                obtain ⟨ao', cap', h1, h2, h3⟩ := tI2.out.nx.bids
                exact ⟨ao', cap', h1, h2, fun ad e => ⟨by have := h3 ad e; omega, by have := h3 ad e; omega⟩⟩))
              (fun h k => h.trans k) (fun W o => KeptC.alloc W o) (fun W l o o' _ h1 h2 => KeptC.put W l o o' h1 h2) (fun _ => rfl) 4
              (fun p Y => ∃ k, p = evs l L k ∧ TI w s lA bW bt2 ba2 v (.slice va (evs l L (eN l L)).length vc) leave 1 l L k Y ∧ Y.heap[D1]? = some (.deferred (some [])))
              (fun _ _ => False)
              (fun _ Y => ∃ k, TI w s lA bW bt2 ba2 v (.slice va (evs l L (eN l L)).length vc) leave 1 l L k Y ∧ k = eN l L ∧ Y.heap[D1]? = some (.deferred (some [])))
              (fun p A B ⟨k, h1, h2, h3⟩ hf => ⟨k, h1, h2.frm hf (fun b e => by omega) (by omega) (by omega) kss.out (by omega) (by omega), by rw [hf.block D1 (Array.getElem?_eq_some_iff.1 h3).1 (by omega)]; exact h3⟩)
              (fun p A B h _ => h)
              ⟨0, rfl, tI2.out, kM2.out⟩
              (fun x => .cells #[.int .i64 x.1.leader, .int .i64 x.1.limit, .int .i64 x.1.price, .int .i64 x.1.closes] 27)
              (fun x m t => (((t.setIfInBounds 105 (.agg #[.int .i64 x.1.leader, .int .i64 x.1.limit, .int .i64 x.1.price, .int .i64 x.1.closes])).setIfInBounds 106 (.int .i64 x.2)).setIfInBounds 19 (.pointer (some ⟨m, 0, none⟩))).setIfInBounds 20 (.int .i64 x.2))
              ?assign2 ?body2
              (fun q W hq ⟨k, h1, h2, h3⟩ => ⟨k, h2, by have := congrArg List.length (h1.symm.trans hq); rwa [evs_length, evs_length] at this, h3⟩)
              (fun q W _ h => h.elim) ?hQ2 ?end2
            case assign2 =>
              intro l' x W K hK
              simp only [encE, riseV]
              simp only [List.setIfInBounds_toArray, List.set_cons_zero, List.set_cons_succ] at hK
              gi_wp2
              exact hK
            case body2 =>
              rintro l' p x m Y ⟨k, rfl, tI, hM⟩ ⟨k', hk', hpk⟩ hO hm
              have kM := hid hM
              clear hM
              simp only [List.setIfInBounds_toArray, List.set_cons_zero, List.set_cons_succ]
              obtain ⟨rfl, rfl⟩ := pre_next hpk
              have kI := hid tI
              have hst := evs_getD l L (n := eN l L) (k := k) (by omega)
              have hlen := evs_length l L (eN l L)
              obtain ⟨ao', cap', he', hcs⟩ := tI.nx.steps
              simp only [Value.slice.injEq, true_and] at he'
              obtain ⟨rfl, rfl⟩ := he'
              obtain ⟨g, rfl, c0, c1, c2, c3, c4⟩ := hcs k (by omega)
              rw [hst] at c0 c1 c2 c3 c4
              rw [Nat.mul_comm 5 k] at c0 c1 c2 c3 c4
              have hO2 : Hid (RB Y m (evK l L k).1) := hO
              have kev := hid (evs_succ l L k)
              have hle := hid tI.le
              generalize evK l L k = x at *
              obtain ⟨⟨x0, x1, x2, x3⟩, f⟩ := x
              dsimp only at *
              obtain ⟨xc0, xc1, xc2, xc3⟩ := hO2.out.cells
              dsimp only at xc0 xc1 xc2 xc3
              have wc0 := tI.nx.want.cell
              have ac0 := tI.at'.cell
              have tc0 := tI.turn.cell
              have vc0 := tI.nx.lea.cell
              have afz := tI.at'.frozen
              have z1 := cell_lt xc0
              have z2 := cell_lt wc0
              have z3 := cell_lt ac0
              have z4 := cell_lt tc0
              have z5 := cell_lt vc0
              have z6 := cell_lt c0
              have hkl : k < (evs l L (eN l L)).length := by omega
              have hkl' : (k : Int) < ((evs l L (eN l L)).length : Int) := by omega
              have hk9 : (k : Int) ≤ 1000 := by have := eN_le l L; omega
              clear hcs hst hlen hpk hO tI
              generalize (evs l L (eN l L)).length = n5 at *
              have hd1 : decide (n5 ≤ k) = false := by simpa using hkl
              gi_wp2_with fail
              refine region_round (S := fun W => Old Y W) (by kernel_rfl) (by kernel_rfl) ((Old.refl Y).drewN 1) (fun hHeld => ?_)
              have oY : Old Y Y.drew := (Old.refl Y).drewN 1
              generalize Y.drew = Y1 at *
              refine' wpAnyH_take (i := 0) rfl (by kernel_rfl) (by kernel_rfl) (by kernel_rfl) (fun _ _ _ h => h) (Or.inl ⟨by rfl, ?_⟩) hHeld ?_
              rotate_left
              · intro W hSw
                obtain ⟨hcW, -⟩ := Old.look hSw
                clear hSw
                simp only [List.getElem_toArray, List.getElem_cons_zero]
                go_simp
                all_goals with_reducible rfl
              simp only [List.getElem_toArray, List.getElem_cons_zero, Act.put, List.setIfInBounds_toArray, List.set_cons_zero, List.set_cons_succ]
              refine' wpAnyH_take (i := 1) rfl (by kernel_rfl) (by kernel_rfl) (by kernel_rfl) (fun _ _ _ h => h) (Or.inl ⟨by rfl, ?_⟩) hHeld ?_
              rotate_left
              · intro W hSw
                obtain ⟨hcW, -⟩ := Old.look hSw
                clear hSw
                simp only [List.getElem_toArray, List.getElem_cons_zero, List.getElem_cons_succ]
                go_simp
                all_goals with_reducible rfl
              simp only [List.getElem_toArray, List.getElem_cons_zero, List.getElem_cons_succ, Act.put, List.setIfInBounds_toArray, List.set_cons_zero, List.set_cons_succ]
              refine' wpAnyH_take (i := 2) rfl (by kernel_rfl) (by kernel_rfl) (by kernel_rfl) (fun _ _ _ h => h) (Or.inl ⟨by rfl, ?_⟩) hHeld ?_
              rotate_left
              · intro W hSw
                obtain ⟨hcW, -⟩ := Old.look hSw
                clear hSw
                simp only [List.getElem_toArray, List.getElem_cons_zero, List.getElem_cons_succ]
                go_simp
                all_goals with_reducible rfl
              simp only [List.getElem_toArray, List.getElem_cons_zero, List.getElem_cons_succ, Act.put, List.setIfInBounds_toArray, List.set_cons_zero, List.set_cons_succ]
              refine' wpAnyH_take (i := 3) rfl (by kernel_rfl) (by kernel_rfl) (by kernel_rfl) (fun _ _ _ h => h) (Or.inl ⟨by rfl, ?_⟩) hHeld ?_
              rotate_left
              · intro W hSw
                obtain ⟨hcW, -⟩ := Old.look hSw
                clear hSw
                simp only [List.getElem_toArray, List.getElem_cons_zero, List.getElem_cons_succ]
                go_simp
                all_goals with_reducible rfl
              simp only [List.getElem_toArray, List.getElem_cons_zero, List.getElem_cons_succ, Act.put, List.setIfInBounds_toArray, List.set_cons_zero, List.set_cons_succ]
              refine' wpAnyH_take (i := 4) rfl (by kernel_rfl) (by kernel_rfl) (by kernel_rfl) (fun _ _ _ h => h) (Or.inl ⟨by rfl, ?_⟩) hHeld ?_
              rotate_left
              · intro W hSw
                obtain ⟨hcW, -⟩ := Old.look hSw
                clear hSw
                simp only [List.getElem_toArray, List.getElem_cons_zero, List.getElem_cons_succ]
                go_simp
                all_goals with_reducible rfl
              simp only [List.getElem_toArray, List.getElem_cons_zero, List.getElem_cons_succ, Act.put, List.setIfInBounds_toArray, List.set_cons_zero, List.set_cons_succ]
              refine' wpAnyH_take (i := 5) rfl (by kernel_rfl) (by kernel_rfl) (by kernel_rfl) (fun _ _ _ h => h) (Or.inl ⟨by rfl, ?_⟩) hHeld ?_
              rotate_left
              · intro W hSw
                obtain ⟨hcW, -⟩ := Old.look hSw
                clear hSw
                simp only [List.getElem_toArray, List.getElem_cons_zero, List.getElem_cons_succ]
                go_simp
                all_goals with_reducible rfl
              simp only [List.getElem_toArray, List.getElem_cons_zero, List.getElem_cons_succ, Act.put, List.setIfInBounds_toArray, List.set_cons_zero, List.set_cons_succ]
              refine' wpAnyH_take (i := 6) rfl (by kernel_rfl) (by kernel_rfl) (by kernel_rfl) (fun _ _ _ h => h) (Or.inl ⟨by rfl, ?_⟩) hHeld ?_
              rotate_left
              · intro W hSw
                obtain ⟨hcW, -⟩ := Old.look hSw
                clear hSw
                simp only [List.getElem_toArray, List.getElem_cons_zero, List.getElem_cons_succ]
                go_simp
                all_goals with_reducible rfl
              simp only [List.getElem_toArray, List.getElem_cons_zero, List.getElem_cons_succ, Act.put, List.setIfInBounds_toArray, List.set_cons_zero, List.set_cons_succ]
              refine' wpAnyH_take (i := 7) rfl (by kernel_rfl) (by kernel_rfl) (by kernel_rfl) (fun _ _ _ h => h) (Or.inl ⟨by rfl, ?_⟩) hHeld ?_
              rotate_left
              · intro W hSw
                obtain ⟨hcW, -⟩ := Old.look hSw
                clear hSw
                simp only [List.getElem_toArray, List.getElem_cons_zero, List.getElem_cons_succ]
                go_simp
                all_goals with_reducible rfl
              simp only [List.getElem_toArray, List.getElem_cons_zero, List.getElem_cons_succ, Act.put, List.setIfInBounds_toArray, List.set_cons_zero, List.set_cons_succ]
              refine' wpAnyH_take (i := 8) rfl (by kernel_rfl) (by kernel_rfl) (by kernel_rfl) (fun _ _ _ h => h) (Or.inl ⟨by rfl, ?_⟩) hHeld ?_
              rotate_left
              · intro W hSw
                obtain ⟨hcW, -⟩ := Old.look hSw
                clear hSw
                simp only [List.getElem_toArray, List.getElem_cons_zero, List.getElem_cons_succ]
                go_simp
                all_goals with_reducible rfl
              simp only [List.getElem_toArray, List.getElem_cons_zero, List.getElem_cons_succ, Act.put, List.setIfInBounds_toArray, List.set_cons_zero, List.set_cons_succ]
              refine' wpAnyH_take (i := 9) rfl (by kernel_rfl) (by kernel_rfl) (by kernel_rfl) (fun _ _ _ h => h) (Or.inl ⟨by rfl, ?_⟩) hHeld ?_
              rotate_left
              · intro W hSw
                obtain ⟨hcW, -⟩ := Old.look hSw
                clear hSw
                simp only [List.getElem_toArray, List.getElem_cons_zero, List.getElem_cons_succ]
                go_simp
                all_goals with_reducible rfl
              simp only [List.getElem_toArray, List.getElem_cons_zero, List.getElem_cons_succ, Act.put, List.setIfInBounds_toArray, List.set_cons_zero, List.set_cons_succ]
              refine' wpAnyH_take (i := 10) rfl (by kernel_rfl) (by kernel_rfl) (by kernel_rfl) (fun _ _ _ h => h) (Or.inl ⟨by rfl, ?_⟩) hHeld ?_
              rotate_left
              · intro W hSw
                obtain ⟨hcW, -⟩ := Old.look hSw
                clear hSw
                simp only [List.getElem_toArray, List.getElem_cons_zero, List.getElem_cons_succ]
                go_simp
                all_goals with_reducible rfl
              simp only [List.getElem_toArray, List.getElem_cons_zero, List.getElem_cons_succ, Act.put, List.setIfInBounds_toArray, List.set_cons_zero, List.set_cons_succ]
              refine' wpAnyH_take (i := 11) rfl (by kernel_rfl) (by kernel_rfl) (by kernel_rfl) (fun _ _ _ h => h) (Or.inl ⟨by rfl, ?_⟩) hHeld ?_
              rotate_left
              · intro W hSw
                obtain ⟨hcW, -⟩ := Old.look hSw
                clear hSw
                simp only [List.getElem_toArray, List.getElem_cons_zero, List.getElem_cons_succ]
                go_simp
                all_goals with_reducible rfl
              simp only [List.getElem_toArray, List.getElem_cons_zero, List.getElem_cons_succ, Act.put, List.setIfInBounds_toArray, List.set_cons_zero, List.set_cons_succ]
              refine' wpAnyH_take (i := 12) rfl (by kernel_rfl) (by kernel_rfl) (by kernel_rfl) (fun _ _ _ h => h) (Or.inl ⟨by rfl, ?_⟩) hHeld ?_
              rotate_left
              · intro W hSw
                obtain ⟨hcW, -⟩ := Old.look hSw
                clear hSw
                simp only [List.getElem_toArray, List.getElem_cons_zero, List.getElem_cons_succ]
                go_simp
                all_goals with_reducible rfl
              simp only [List.getElem_toArray, List.getElem_cons_zero, List.getElem_cons_succ, Act.put, List.setIfInBounds_toArray, List.set_cons_zero, List.set_cons_succ]
              refine' wpAnyH_take (i := 13) rfl (by kernel_rfl) (by kernel_rfl) (by kernel_rfl) (fun _ _ _ h => h) (Or.inl ⟨by rfl, ?_⟩) hHeld ?_
              rotate_left
              · intro W hSw
                obtain ⟨hcW, -⟩ := Old.look hSw
                clear hSw
                simp only [List.getElem_toArray, List.getElem_cons_zero, List.getElem_cons_succ]
                go_simp
                all_goals with_reducible rfl
              simp only [List.getElem_toArray, List.getElem_cons_zero, List.getElem_cons_succ, Act.put, List.setIfInBounds_toArray, List.set_cons_zero, List.set_cons_succ]
              refine' wpAnyH_take (i := 14) rfl (by kernel_rfl) (by kernel_rfl) (by kernel_rfl) (fun _ _ _ h => h) (Or.inl ⟨by rfl, ?_⟩) hHeld ?_
              rotate_left
              · intro W hSw
                obtain ⟨hcW, -⟩ := Old.look hSw
                clear hSw
                simp only [List.getElem_toArray, List.getElem_cons_zero, List.getElem_cons_succ]
                go_simp
                all_goals with_reducible rfl
              simp only [List.getElem_toArray, List.getElem_cons_zero, List.getElem_cons_succ, Act.put, List.setIfInBounds_toArray, List.set_cons_zero, List.set_cons_succ]
              refine' wpAnyH_take (i := 15) rfl (by kernel_rfl) (by kernel_rfl) (by kernel_rfl) (fun _ _ _ h => h) (Or.inl ⟨by rfl, ?_⟩) hHeld ?_
              rotate_left
              · intro W hSw
                obtain ⟨hcW, -⟩ := Old.look hSw
                clear hSw
                simp only [List.getElem_toArray, List.getElem_cons_zero, List.getElem_cons_succ]
                go_simp
                all_goals with_reducible rfl
              simp only [List.getElem_toArray, List.getElem_cons_zero, List.getElem_cons_succ, Act.put, List.setIfInBounds_toArray, List.set_cons_zero, List.set_cons_succ]
              refine' wpAnyH_take (i := 16) rfl (by kernel_rfl) (by kernel_rfl) (by kernel_rfl) (fun _ _ _ h => h) (Or.inl ⟨by rfl, ?_⟩) hHeld ?_
              rotate_left
              · intro W hSw
                obtain ⟨hcW, -⟩ := Old.look hSw
                clear hSw
                simp only [List.getElem_toArray, List.getElem_cons_zero, List.getElem_cons_succ]
                go_simp
                all_goals with_reducible rfl
              simp only [List.getElem_toArray, List.getElem_cons_zero, List.getElem_cons_succ, Act.put, List.setIfInBounds_toArray, List.set_cons_zero, List.set_cons_succ]
              refine' wpAnyH_take (i := 17) rfl (by kernel_rfl) (by kernel_rfl) (by kernel_rfl) (fun _ _ _ h => h) (Or.inl ⟨by rfl, ?_⟩) hHeld ?_
              rotate_left
              · intro W hSw
                obtain ⟨hcW, -⟩ := Old.look hSw
                clear hSw
                simp only [List.getElem_toArray, List.getElem_cons_zero, List.getElem_cons_succ]
                go_simp
                all_goals with_reducible rfl
              simp only [List.getElem_toArray, List.getElem_cons_zero, List.getElem_cons_succ, Act.put, List.setIfInBounds_toArray, List.set_cons_zero, List.set_cons_succ]
              refine' wpAnyH_take (i := 18) rfl (by kernel_rfl) (by kernel_rfl) (by kernel_rfl) (fun _ _ _ h => h) (Or.inl ⟨by rfl, ?_⟩) hHeld ?_
              rotate_left
              · intro W hSw
                obtain ⟨hcW, -⟩ := Old.look hSw
                clear hSw
                simp only [List.getElem_toArray, List.getElem_cons_zero, List.getElem_cons_succ]
                go_simp
                all_goals with_reducible rfl
              simp only [List.getElem_toArray, List.getElem_cons_zero, List.getElem_cons_succ, Act.put, List.setIfInBounds_toArray, List.set_cons_zero, List.set_cons_succ]
              refine' wpAnyH_take (i := 19) rfl (by kernel_rfl) (by kernel_rfl) (by kernel_rfl) (fun _ _ _ h => h) (Or.inl ⟨by rfl, ?_⟩) hHeld ?_
              rotate_left
              · intro W hSw
                obtain ⟨hcW, -⟩ := Old.look hSw
                clear hSw
                simp only [List.getElem_toArray, List.getElem_cons_zero, List.getElem_cons_succ]
                go_simp
                all_goals with_reducible rfl
              simp only [List.getElem_toArray, List.getElem_cons_zero, List.getElem_cons_succ, Act.put, List.setIfInBounds_toArray, List.set_cons_zero, List.set_cons_succ]
              refine' wpAnyH_take (i := 20) rfl (by kernel_rfl) (by kernel_rfl) (by kernel_rfl) (fun _ _ _ h => h) (Or.inl ⟨by rfl, ?_⟩) hHeld ?_
              rotate_left
              · intro W hSw
                obtain ⟨hcW, -⟩ := Old.look hSw
                clear hSw
                simp only [List.getElem_toArray, List.getElem_cons_zero, List.getElem_cons_succ]
                go_simp
                all_goals with_reducible rfl
              simp only [List.getElem_toArray, List.getElem_cons_zero, List.getElem_cons_succ, Act.put, List.setIfInBounds_toArray, List.set_cons_zero, List.set_cons_succ]
              refine' wpAnyH_take (i := 21) rfl (by kernel_rfl) (by kernel_rfl) (by kernel_rfl) (fun _ _ _ h => h) (Or.inl ⟨by rfl, ?_⟩) hHeld ?_
              rotate_left
              · intro W hSw
                obtain ⟨hcW, -⟩ := Old.look hSw
                clear hSw
                simp only [List.getElem_toArray, List.getElem_cons_zero, List.getElem_cons_succ]
                go_simp
                all_goals with_reducible rfl
              simp only [List.getElem_toArray, List.getElem_cons_zero, List.getElem_cons_succ, Act.put, List.setIfInBounds_toArray, List.set_cons_zero, List.set_cons_succ]
              refine wpAnyH_done (by kernel_rfl) ?_ _
              refine OnlyN.normal ?_
              have ac1 := oY.cell ac0
              have tc1 := oY.cell tc0
              have vc1 := oY.cell vc0
              have afz1 := (boxed_olds kI.out.at' oY).frozen
              have koY := hid oY
              clear hHeld oY ac0 tc0 vc0 wc0 xc0 xc1 xc2 xc3 c0 c1 c2 c3 c4 afz z1 z2 z3 z4 z5 z6
              gi_wp2
              rw [← kev.out]
              obtain ⟨p1, p2, p3⟩ := kI.out.next (N := W12.heap.size) koY.out (by omega) (by omega) (by omega) kss.out (by omega) (by omega) (by omega)
              have hD9 := (Array.getElem?_eq_some_iff.1 kM.out).1
              exact ⟨p1, p2, k + 1, rfl, p3, ((frm_set Y1 ba2 0 (.int .i64 ((k : Int) + 1))).block D1 (Nat.lt_of_lt_of_le hD9 koY.out.size) (by omega)).trans ((koY.out.block D1 hD9 (fun h => h)).trans kM.out)⟩
            case hQ2 =>
              intro b W h
              exact inBlock_both (Or.inr rfl) h
            case end2 =>
              rintro D2 q Y hD2 ⟨k, tI, hke, hM⟩ hK2
              have hwz := evs_length l L (eN l L)
              have wc0 := tI.nx.want.cell
              have ac0 := tI.at'.cell
              have tc0 := tI.turn.cell
              have kI := hid tI
              have kK2 := hid hK2
              have kM := hid hM
              have hke2 : ((k : Int) != ((evs l L (eN l L)).length : Int)) = false := by rw [hwz, hke]; simp
              clear tI hK2 hwz tI2 hM hke
              refine inBlock_both (Or.inl rfl) ?_
              dsimp only
              go_wp2_with fail
              rw [rounds_succ]
              have fb3 := (Boxed.new Y 3 (.int .i64 2)).cell
              go_wp2_with fail
              refine (kKn.out _).mono ?_
              rintro e w9 ⟨rfl, o9⟩
              have om := ((Old.refl Y).alloc _).trans o9
              have hres := boxed_olds kI.out.nx.res om
              have rc1 := hres.cell
              have rf1 := hres.frozen
              have kres := hid hres
              have kold := hid (kI.out.nx.old.trans om)
              have hl1 := (Array.getElem?_eq_some_iff.1 kM.out).1
              have hl2 := (Array.getElem?_eq_some_iff.1 kK2.out).1
              have m1 := hid ((om.block D1 hl1 (fun h => h)).trans kM.out)
              have m2 := hid ((om.block D2 hl2 (fun h => h)).trans kK2.out)
              have hz9 := om.size
              clear o9 om hres fb3
              go_wp2_with fail
              have hfx := frm_set w9 (s + 2) 0 (.bool true)
              refine leave_marks [D2, D1] _ ⟨by simp; omega, fun r hr => ?_⟩ (fun W' hW' => ?_)
              · simp only [List.mem_cons, List.not_mem_nil, or_false] at hr
                rcases hr with rfl | rfl
                · rw [hfx.block r (by omega) (by omega)]
                  exact m2.out
                · rw [hfx.block r (by omega) (by omega)]
                  exact m1.out
              · have hge : ∀ r ∈ [D2, D1], s + 3 ≤ r := fun r hr => by
                  simp only [List.mem_cons, List.not_mem_nil, or_false] at hr
                  rcases hr with rfl | rfl <;> omega
                have hc0 := (boxed_frm (Boxed.set (.bool true) kres.out) hW' (fun h => by have := hge _ h; omega)).cell
                refine ⟨.bool true, ?_, rfl, ?_⟩
                · simp [results, Try.f4, go_sem, hc0]
                · exact Frm.trans (Frm.trans kold.out hfx (fun i hi e => by have := kss.out; omega)) hW' (fun i hi e => by have := kss.out; have := hge _ e; omega)

end Go.Proofs.Ytkhenigdppjlhaa
