/- FallingTakes, walked. -/
import Derived.Test.YtnhglckhkhmonaaT3
import Derived.Test.YtnhglckhkhmonaaK1
import Derived.Laws.AppendOwnNone
namespace Go.Proofs.Ytnhglckhkhmonaa
open Go.RowKit

theorem info2 : (Try.prog.info? 2).map (fun i => (i.zero, i.size, i.bytes)) = some (some (.int .i64 0), 1, 8) := by kernel_rfl

theorem owns_nums {k : IntKind} {e : TypeId} {w : World} {B g cap n : Nat} {L : List Int} (hn : n = L.length) (h : w.ownsRow B e 1 (.slice (some ⟨g, 0, none⟩) n cap) n (L.map (Value.int k))) : NumsC k w (some ⟨g, 0, none⟩) L ∧ n ≤ cap := by
  subst hn
  rcases h.2 with ⟨h1, _⟩ | ⟨g', cap', cur, h1, h3, h4, h5, h6, h7, h8⟩
  · cases h1
  · simp only [Value.slice.injEq, Option.some.injEq, Addr.mk.injEq, and_true, true_and] at h1
    obtain ⟨rfl, rfl⟩ := h1
    refine ⟨fun i hi => ⟨g, 0, rfl, ?_⟩, by omega⟩
    rw [Nat.zero_add]
    refine blk_cells h4 ?_
    have h9 : (cur.toList.take (L.length * 1))[i]? = (L.map (Value.int k))[i]? := by rw [h8]
    rw [List.getElem?_take_of_lt (by omega)] at h9
    simpa [hi] using h9

theorem nums_front {k : IntKind} {w : World} {ao : Option Addr} {L M : List Int} (h : NumsC k w ao (L ++ M)) : NumsC k w ao L := fun i hi => by
  obtain ⟨g, o, h1, h2⟩ := h i (by simp; omega)
  exact ⟨g, o, h1, by rw [h2]; simp [List.getElem_append_left hi]⟩

set_option maxRecDepth 100000 in
set_option maxHeartbeats 8000000 in
theorem takes_some (l : Lt) (ad : Addr) (c1 : Nat) (L : List Int) (w : World) (ha0 : NumsC .i64 w (some ad) L) (hl : L.length ≤ 17592186043904) : Calls Try.prog 6 #[lotV l, .slice (some ad) L.length c1] w fun e w' => e = .returned (.bool true) ∧ Old w w' := by
  obtain ⟨lo, hlo⟩ : ∃ lo : Option Addr, some ad = lo := ⟨_, rfl⟩
  have ha : NumsC .i64 w lo L := by rw [← hlo]; exact ha0
  clear ha0
  rw [hlo]
  obtain ⟨i3, hi, hz0, hz1, hz2⟩ := info_parts info2
  have kK := hid (fun w => known_any w)
  have hnew := hid (LotC.new w l 25)
  have hold : Hid (Old w (w.alloc (lotO l 25))) := hid (old1 w _)
  have ha1 : Hid (NumsC .i64 (w.alloc (lotO l 25)) lo L) := hid (ha.old hold.out)
  unfold lotO at hnew hold ha1
  clear ha
  have kT := hid (fun ao cap w h => takes_any l ao cap L w h (by omega))
  have kR := hid (fun w h => rtakes_any l lo c1 L w h (by omega))
  unfold lotV at kT kR ⊢
  go_enter Try.func6, Try.ntmps6
  go_upto_region 1 with fail
  generalize w.alloc _ = w1 at *
  have hs1 := hold.out.size
  generalize w.heap.size = b at *
  have hb1 := hnew.out.lt
  have hca : ∀ j u, (L.map (Value.int .i64))[j]? = some u → w1.cell? (ad.add j) = some u := fun j u hu => by
    have hj : j < L.length := by
      have := (List.getElem?_eq_some_iff.1 hu).1
      simpa using this
    obtain ⟨g, o, e, hcl⟩ := ha1.out j hj
    rw [← hlo] at e
    simp only [Option.some.injEq] at e
    subst e
    rw [Addr.add_lit, hcl]
    simpa [hj] using hu
  go_wp2_with (at_builtin; refine wpList_append_own_at _ rfl _ _ 63 rfl w1.heap.size 2 i3 (.int .i64 0) 1 8 Try.underlying63 hi hz0 hz1 hz2 rfl (by decide) (.slice none 0 0) 0 [] rfl ⟨rfl, Or.inl ⟨rfl, rfl⟩⟩ ad L.length c1 (L.map (Value.int .i64)) (by show Value.slice lo L.length c1 = _; rw [hlo]) (by simp) hca (fun u hu => by simp at hu; obtain ⟨y, _, rfl⟩ := hu; rfl) (by unfold maxLen; omega) (by omega) (Nat.le_refl _) ?_)
  intro v1 wA hownA hgrowA _ hatA
  obtain ⟨ar, cr, rfl⟩ : ∃ ar cr, v1 = .slice ar L.length cr := by
    rcases hownA.2 with ⟨e, h0⟩ | ⟨gg, cc, cu, e, _⟩
    · exact ⟨none, 0, by rw [e]; simp at h0; rw [h0]; try rfl⟩
    · exact ⟨_, _, by rw [e]; try simp⟩
  try simp only [Nat.zero_add, List.nil_append] at hownA
  have bA : Below w1.heap.size w1 wA := ⟨hgrowA.os, hgrowA.tape, hgrowA.output, hgrowA.size, fun q hq => hgrowA.block q hq (by simp [Value.ownBlock])⟩
  have hsA := bA.size
  have kown1 := hid (fun q (hq : (Value.slice ar L.length cr).ownBlock = some q) => (hownA.lt q hq).1)
  have hrow1 := hownA.alloc (.cells #[.int .i64 771] 2)
  clear hgrowA hatA hownA hca hlo
  go_wp2_with (at_builtin; refine wpList_append_lies _ rfl _ _ 63 rfl w1.heap.size 2 i3 (.int .i64 0) 1 8 Try.underlying63 hi hz0 hz1 hz2 rfl (by decide) _ _ _ rfl hrow1 ⟨wA.heap.size, 0, none⟩ 1 1 [.int .i64 771] rfl rfl ?ac1 ?ac2 (by decide) ?ac3 ?ac4 ?ac5 _ rfl ?_)
  case ac1 =>
    intro j u hj
    match j, hj with
    | 0, hj => simp at hj; subst hj; simp [Addr.add]
  case ac2 => intro u hu; simp at hu; subst hu; rfl
  case ac3 => unfold maxLen; omega
  case ac4 => omega
  case ac5 => simp; omega
  intro g7 c7 wB hownB hgrowB hatB hltB
  have bB : Hid (Below w1.heap.size w1 wB) := ((bA.alloc hsA _).grown hgrowB (by simp; omega) (fun k hk => kown1.out k hk))
  have hownB' : wB.ownsRow w1.heap.size 2 1 (.slice (some ⟨g7, 0, none⟩) (L.length + 1) c7) (L.length + 1) ((L ++ [771]).map (Value.int .i64)) := by simpa using hownB
  obtain ⟨a7', hc7'⟩ := owns_nums (k := .i64) (by simp) hownB'
  have a7 := hid a7'
  have hc7 : (L.length : Int) ≤ (c7 : Int) := by omega
  have koB := hid (Old.of_below bB.out)
  clear bA bB hownB hownB' hgrowB hatB hltB a7' kown1 hrow1 hsA
  generalize hwB : wB = wY at *
  clear hwB
  have hlW := hid (hnew.out.old koB.out)
  have haW := hid (ha1.out.old koB.out)
  have koW := hid (hold.out.trans koB.out)
  clear hnew ha1 hold
  obtain ⟨lc0, lc1, lc2, lc3, lc4, lc5, lc6, lc7, lc8, lc9, lc10⟩ := hlW.out
  try dsimp only at lc0 lc1 lc2 lc3 lc4 lc5 lc6 lc7 lc8 lc9 lc10
  have lcb := cell_lt lc0
  go_upto_region 2 with fail
  refine wp_region_noPanic ?_
  refine wp_region_held_drew (S := fun W => Old wY W) (by kernel_rfl) ((Old.refl _).drewN 1) (fun hHeld => ?_)
  generalize wY.drew = V0 at *
  refine' wpAnyH_take (i := 0) rfl (by kernel_rfl) (by kernel_rfl) (by kernel_rfl) (fun _ _ _ h => h) (Or.inl ⟨by rfl, ?_⟩) hHeld ?_
  rotate_left
  · intro W hSw
    obtain ⟨hcW, -⟩ := Old.look hSw
    clear hSw
    simp only [List.getElem_toArray, List.getElem_cons_zero]
    go_simp
    all_goals with_reducible rfl
  simp only [List.getElem_toArray, List.getElem_cons_zero, Act.put, List.setIfInBounds_toArray, List.set_cons_zero, List.set_cons_succ]
  refine' wpAnyH_take (i := 1) rfl (by kernel_rfl) (by kernel_rfl) (by kernel_rfl) (fun _ _ _ h => h) (Or.inl ⟨by rfl, ?_⟩) hHeld ?_
  rotate_left
  · intro W hSw
    obtain ⟨hcW, -⟩ := Old.look hSw
    clear hSw
    simp only [List.getElem_toArray, List.getElem_cons_zero, List.getElem_cons_succ]
    go_simp
    all_goals with_reducible rfl
  simp only [List.getElem_toArray, List.getElem_cons_zero, List.getElem_cons_succ, Act.put, List.setIfInBounds_toArray, List.set_cons_zero, List.set_cons_succ]
  refine' wpAnyH_take (i := 2) rfl (by kernel_rfl) (by kernel_rfl) (by kernel_rfl) (fun _ _ _ h => h) (Or.inl ⟨by rfl, ?_⟩) hHeld ?_
  rotate_left
  · intro W hSw
    obtain ⟨hcW, -⟩ := Old.look hSw
    clear hSw
    simp only [List.getElem_toArray, List.getElem_cons_zero, List.getElem_cons_succ]
    go_simp
    all_goals with_reducible rfl
  simp only [List.getElem_toArray, List.getElem_cons_zero, List.getElem_cons_succ, Act.put, List.setIfInBounds_toArray, List.set_cons_zero, List.set_cons_succ]
  refine' wpAnyH_take (i := 3) rfl (by kernel_rfl) (by kernel_rfl) (by kernel_rfl) (fun _ _ _ h => h) (Or.inl ⟨by rfl, ?_⟩) hHeld ?_
  rotate_left
  · intro W hSw
    obtain ⟨hcW, -⟩ := Old.look hSw
    clear hSw
    simp only [List.getElem_toArray, List.getElem_cons_zero, List.getElem_cons_succ]
    go_simp
    all_goals with_reducible rfl
  simp only [List.getElem_toArray, List.getElem_cons_zero, List.getElem_cons_succ, Act.put, List.setIfInBounds_toArray, List.set_cons_zero, List.set_cons_succ]
  refine' wpAnyH_take (i := 4) rfl (by kernel_rfl) (by kernel_rfl) (by kernel_rfl) (fun _ _ _ h => h) (Or.inl ⟨by rfl, ?_⟩) hHeld ?_
  rotate_left
  · intro W hSw
    obtain ⟨hcW, -⟩ := Old.look hSw
    clear hSw
    simp only [List.getElem_toArray, List.getElem_cons_zero, List.getElem_cons_succ]
    go_simp
    all_goals with_reducible rfl
  simp only [List.getElem_toArray, List.getElem_cons_zero, List.getElem_cons_succ, Act.put, List.setIfInBounds_toArray, List.set_cons_zero, List.set_cons_succ]
  refine wpAnyH_ready (rs := [5]) (by kernel_rfl) (by simp) ?_
  refine AllReadyH.cons (o := _) rfl (fun K hK => ?_) AllReadyH.nil
  simp only [List.getElem_toArray, List.getElem_cons_zero, List.getElem_cons_succ]
  go_simp
  refine (kT.out _ _ _ ((nums_front a7.out).old hHeld)).mono ?_
  rintro e wn ⟨rfl, on⟩
  have hHeld2 := hHeld.trans on
  refine hK.out _ _ hHeld2 (fun _ => ?_)
  clear hK K hHeld on
  have hHeld := hHeld2
  clear hHeld2
  try simp only [Act.put, List.setIfInBounds_toArray, List.set_cons_zero, List.set_cons_succ]
  refine' wpAnyH_take (i := 6) rfl (by kernel_rfl) (by kernel_rfl) (by kernel_rfl) (fun _ _ _ h => h) (Or.inl ⟨by rfl, ?_⟩) hHeld ?_
  rotate_left
  · intro W hSw
    obtain ⟨hcW, -⟩ := Old.look hSw
    clear hSw
    simp only [List.getElem_toArray, List.getElem_cons_zero, List.getElem_cons_succ]
    go_simp
    all_goals with_reducible rfl
  simp only [List.getElem_toArray, List.getElem_cons_zero, List.getElem_cons_succ, Act.put, List.setIfInBounds_toArray, List.set_cons_zero, List.set_cons_succ]
  refine' wpAnyH_take (i := 7) rfl (by kernel_rfl) (by kernel_rfl) (by kernel_rfl) (fun _ _ _ h => h) (Or.inl ⟨by rfl, ?_⟩) hHeld ?_
  rotate_left
  · intro W hSw
    obtain ⟨hcW, -⟩ := Old.look hSw
    clear hSw
    simp only [List.getElem_toArray, List.getElem_cons_zero, List.getElem_cons_succ]
    go_simp
    all_goals with_reducible rfl
  simp only [List.getElem_toArray, List.getElem_cons_zero, List.getElem_cons_succ, Act.put, List.setIfInBounds_toArray, List.set_cons_zero, List.set_cons_succ]
  refine' wpAnyH_take (i := 8) rfl (by kernel_rfl) (by kernel_rfl) (by kernel_rfl) (fun _ _ _ h => h) (Or.inl ⟨by rfl, ?_⟩) hHeld ?_
  rotate_left
  · intro W hSw
    obtain ⟨hcW, -⟩ := Old.look hSw
    clear hSw
    simp only [List.getElem_toArray, List.getElem_cons_zero, List.getElem_cons_succ]
    go_simp
    all_goals with_reducible rfl
  simp only [List.getElem_toArray, List.getElem_cons_zero, List.getElem_cons_succ, Act.put, List.setIfInBounds_toArray, List.set_cons_zero, List.set_cons_succ]
  refine' wpAnyH_take (i := 9) rfl (by kernel_rfl) (by kernel_rfl) (by kernel_rfl) (fun _ _ _ h => h) (Or.inl ⟨by rfl, ?_⟩) hHeld ?_
  rotate_left
  · intro W hSw
    obtain ⟨hcW, -⟩ := Old.look hSw
    clear hSw
    simp only [List.getElem_toArray, List.getElem_cons_zero, List.getElem_cons_succ]
    go_simp
    all_goals with_reducible rfl
  simp only [List.getElem_toArray, List.getElem_cons_zero, List.getElem_cons_succ, Act.put, List.setIfInBounds_toArray, List.set_cons_zero, List.set_cons_succ]
  refine' wpAnyH_take (i := 10) rfl (by kernel_rfl) (by kernel_rfl) (by kernel_rfl) (fun _ _ _ h => h) (Or.inl ⟨by rfl, ?_⟩) hHeld ?_
  rotate_left
  · intro W hSw
    obtain ⟨hcW, -⟩ := Old.look hSw
    clear hSw
    simp only [List.getElem_toArray, List.getElem_cons_zero, List.getElem_cons_succ]
    go_simp
    all_goals with_reducible rfl
  simp only [List.getElem_toArray, List.getElem_cons_zero, List.getElem_cons_succ, Act.put, List.setIfInBounds_toArray, List.set_cons_zero, List.set_cons_succ]
  refine' wpAnyH_take (i := 11) rfl (by kernel_rfl) (by kernel_rfl) (by kernel_rfl) (fun _ _ _ h => h) (Or.inl ⟨by rfl, ?_⟩) hHeld ?_
  rotate_left
  · intro W hSw
    obtain ⟨hcW, -⟩ := Old.look hSw
    clear hSw
    simp only [List.getElem_toArray, List.getElem_cons_zero, List.getElem_cons_succ]
    go_simp
    all_goals with_reducible rfl
  simp only [List.getElem_toArray, List.getElem_cons_zero, List.getElem_cons_succ, Act.put, List.setIfInBounds_toArray, List.set_cons_zero, List.set_cons_succ]
  refine' wpAnyH_take (i := 12) rfl (by kernel_rfl) (by kernel_rfl) (by kernel_rfl) (fun _ _ _ h => h) (Or.inl ⟨by rfl, ?_⟩) hHeld ?_
  rotate_left
  · intro W hSw
    obtain ⟨hcW, -⟩ := Old.look hSw
    clear hSw
    simp only [List.getElem_toArray, List.getElem_cons_zero, List.getElem_cons_succ]
    go_simp
    all_goals with_reducible rfl
  simp only [List.getElem_toArray, List.getElem_cons_zero, List.getElem_cons_succ, Act.put, List.setIfInBounds_toArray, List.set_cons_zero, List.set_cons_succ]
  refine wpAnyH_done (by kernel_rfl) ?_ _
  refine NoPanic.normal ?_
  have kHd := hid hHeld
  clear hHeld
  generalize wn = w3 at *
  have hl3 := hid (hlW.out.old kHd.out)
  have ha3 := hid (haW.out.old kHd.out)
  have a73 := hid (a7.out.old kHd.out)
  have ko3 := hid (koW.out.trans kHd.out)
  clear lc0 lc1 lc2 lc3 lc4 lc5 lc6 lc7 lc8 lc9 lc10 lcb
  clear hlW haW koW a7
  obtain ⟨lc0, lc1, lc2, lc3, lc4, lc5, lc6, lc7, lc8, lc9, lc10⟩ := hl3.out
  try dsimp only at lc0 lc1 lc2 lc3 lc4 lc5 lc6 lc7 lc8 lc9 lc10
  have lcb := cell_lt lc0
  go_wp2_with fail
  refine (kR.out _ ha3.out).mono ?_
  rintro e w4 ⟨rfl, o4⟩
  have ha4 := hid (ha3.out.old o4)
  have a74 := hid (a73.out.old o4)
  have ko4 := hid (ko3.out.trans o4)
  clear o4
  clear lc0 lc1 lc2 lc3 lc4 lc5 lc6 lc7 lc8 lc9 lc10 lcb
  clear hl3 ha3 a73 ko3
  generalize tkW l L = tw at *
  generalize tkP l L = tp at *
  generalize tkB l L = tb at *
  go_wp2_with fail
  go_loopw [12] (fun iv wr => ∃ k : Nat, k ≤ L.length ∧ iv = .int .i64 (k : Int) ∧ Old w4 wr) (fun iv _ => L.length - (intOf iv).toNat)
  case atStart => exact ⟨0, Nat.zero_le _, rfl, Old.refl _⟩
  case round =>
    obtain ⟨k, hk, rfl, ho⟩ := hrel
    by_cases hlt : k < L.length
    · have hlt' : (k : Int) < (L.length : Int) := by omega
      have hlt2 : (k : Int) < (L.length : Int) + 1 := by omega
      obtain ⟨g, o, rfl, hx⟩ := ha4.out k hlt
      obtain ⟨g', o', hgo, hy⟩ := a74.out k (by simp; omega)
      simp only [Option.some.injEq, Addr.mk.injEq, and_true] at hgo
      obtain ⟨rfl, rfl⟩ := hgo
      have hx := ho.cell hx
      have hy := ho.cell hy
      rw [List.getElem_append_left hlt] at hy
      generalize L[k] = c at *
      rw [Nat.zero_add] at hy
      have hxl := cell_lt hx
      have hyl := cell_lt hy
      have kho := hid ho
      clear ho
      go_upto_region 7 with fail
      go_region
      go_wp2_with fail
      go_roundw
      case rel => exact ⟨k + 1, by omega, by go_num, kho.out.drewN 1⟩
      case measure => simp [intOf]; omega
    · obtain rfl : k = L.length := by omega
      obtain ⟨g', o', hgo, hy⟩ := a74.out L.length (by simp)
      simp only [Option.some.injEq, Addr.mk.injEq, and_true] at hgo
      obtain ⟨rfl, rfl⟩ := hgo
      have hy := ho.cell hy
      rw [Nat.zero_add] at hy
      have hy : wr.cell? ⟨g7, L.length, none⟩ = some (.int .i64 771) := by rw [hy]; simp
      have hyl := cell_lt hy
      have hlt2 : (L.length : Int) < (L.length : Int) + 1 := by omega
      have kor := hid (ko4.out.trans ho)
      clear ho
      go_wp2_with fail
      refine (kK.out _).mono ?_
      rintro e w5 ⟨rfl, o5⟩
      have ko5 := hid (kor.out.trans o5)
      clear o5
      go_wp2_with fail
      go_ret
      exact ⟨rfl, ko5.out⟩

set_option maxRecDepth 100000 in
set_option maxHeartbeats 8000000 in
theorem takes_nil (l : Lt) (lo : Option Addr) (c1 : Nat) (L : List Int) (w : World) (ha : NumsC .i64 w lo L) (hl : L.length ≤ 17592186043904) (kL : Hid (lo = none ∧ L.length = 0 ∧ c1 = 0)) : Calls Try.prog 6 #[lotV l, .slice lo L.length c1] w fun e w' => e = .returned (.bool true) ∧ Old w w' := by
  obtain ⟨i3, hi, hz0, hz1, hz2⟩ := info_parts info2
  have kK := hid (fun w => known_any w)
  have hnew := hid (LotC.new w l 25)
  have hold : Hid (Old w (w.alloc (lotO l 25))) := hid (old1 w _)
  have ha1 : Hid (NumsC .i64 (w.alloc (lotO l 25)) lo L) := hid (ha.old hold.out)
  unfold lotO at hnew hold ha1
  clear ha
  have kT := hid (fun ao cap w h => takes_any l ao cap L w h (by omega))
  have kR := hid (fun w h => rtakes_any l lo c1 L w h (by omega))
  unfold lotV at kT kR ⊢
  go_enter Try.func6, Try.ntmps6
  go_upto_region 1 with fail
  generalize w.alloc _ = w1 at *
  have hs1 := hold.out.size
  generalize w.heap.size = b at *
  have hb1 := hnew.out.lt
  have hownA : w1.ownsRow w1.heap.size 2 1 (.slice none L.length 0) L.length (L.map (Value.int .i64)) := by
    rw [List.eq_nil_of_length_eq_zero kL.out.2.1]; exact ⟨rfl, Or.inl ⟨rfl, rfl⟩⟩
  go_wp2_with (at_builtin; refine wpList_append_own_none (by rfl) _ _ 63 (by rfl) w1.heap.size 2 i3 1 Try.underlying63 hi (.slice none L.length 0) L.length (L.map (Value.int .i64)) (by show Value.slice none 0 0 = Value.slice none L.length 0; rw [kL.out.2.1]) hownA (by show Value.slice lo L.length c1 = Value.slice none 0 0; rw [kL.out.1, kL.out.2.1, kL.out.2.2]) ((fun h : (Old w1 w1 → _) => h (Old.refl w1)) ?_))
  intro _
  have bA : Below w1.heap.size w1 w1 := Below.refl _ _
  have hsA := bA.size
  have kown1 := hid (fun q (hq : (Value.slice none L.length 0).ownBlock = some q) => (hownA.lt q hq).1)
  have hrow1 := hownA.alloc (.cells #[.int .i64 771] 2)
  clear hownA
  go_wp2_with (at_builtin; refine wpList_append_lies _ rfl _ _ 63 rfl w1.heap.size 2 i3 (.int .i64 0) 1 8 Try.underlying63 hi hz0 hz1 hz2 rfl (by decide) _ _ _ rfl hrow1 ⟨w1.heap.size, 0, none⟩ 1 1 [.int .i64 771] rfl rfl ?ac1 ?ac2 (by decide) ?ac3 ?ac4 ?ac5 _ rfl ?_)
  case ac1 =>
    intro j u hj
    match j, hj with
    | 0, hj => simp at hj; subst hj; simp [Addr.add]
  case ac2 => intro u hu; simp at hu; subst hu; rfl
  case ac3 => unfold maxLen; omega
  case ac4 => omega
  case ac5 => simp <;> omega
  intro g7 c7 wB hownB hgrowB hatB hltB
  have bB : Hid (Below w1.heap.size w1 wB) := ((bA.alloc hsA _).grown hgrowB (by simp) (fun k hk => kown1.out k hk))
  have hownB' : wB.ownsRow w1.heap.size 2 1 (.slice (some ⟨g7, 0, none⟩) (L.length + 1) c7) (L.length + 1) ((L ++ [771]).map (Value.int .i64)) := by simpa using hownB
  obtain ⟨a7', hc7'⟩ := owns_nums (k := .i64) (by simp) hownB'
  have a7 := hid a7'
  have hc7 : (L.length : Int) ≤ (c7 : Int) := by omega
  have koB := hid (Old.of_below bB.out)
  clear bA bB hownB hownB' hgrowB hatB hltB a7' kown1 hrow1 hsA
  generalize hwB : wB = wY at *
  clear hwB
  have hlW := hid (hnew.out.old koB.out)
  have haW := hid (ha1.out.old koB.out)
  have koW := hid (hold.out.trans koB.out)
  clear hnew ha1 hold
  obtain ⟨lc0, lc1, lc2, lc3, lc4, lc5, lc6, lc7, lc8, lc9, lc10⟩ := hlW.out
  try dsimp only at lc0 lc1 lc2 lc3 lc4 lc5 lc6 lc7 lc8 lc9 lc10
  have lcb := cell_lt lc0
  go_upto_region 2 with fail
  refine wp_region_noPanic ?_
  refine wp_region_held_drew (S := fun W => Old wY W) (by kernel_rfl) ((Old.refl _).drewN 1) (fun hHeld => ?_)
  generalize wY.drew = V0 at *
  refine' wpAnyH_take (i := 0) rfl (by kernel_rfl) (by kernel_rfl) (by kernel_rfl) (fun _ _ _ h => h) (Or.inl ⟨by rfl, ?_⟩) hHeld ?_
  rotate_left
  · intro W hSw
    obtain ⟨hcW, -⟩ := Old.look hSw
    clear hSw
    simp only [List.getElem_toArray, List.getElem_cons_zero]
    go_simp
    all_goals with_reducible rfl
  simp only [List.getElem_toArray, List.getElem_cons_zero, Act.put, List.setIfInBounds_toArray, List.set_cons_zero, List.set_cons_succ]
  refine' wpAnyH_take (i := 1) rfl (by kernel_rfl) (by kernel_rfl) (by kernel_rfl) (fun _ _ _ h => h) (Or.inl ⟨by rfl, ?_⟩) hHeld ?_
  rotate_left
  · intro W hSw
    obtain ⟨hcW, -⟩ := Old.look hSw
    clear hSw
    simp only [List.getElem_toArray, List.getElem_cons_zero, List.getElem_cons_succ]
    go_simp
    all_goals with_reducible rfl
  simp only [List.getElem_toArray, List.getElem_cons_zero, List.getElem_cons_succ, Act.put, List.setIfInBounds_toArray, List.set_cons_zero, List.set_cons_succ]
  refine' wpAnyH_take (i := 2) rfl (by kernel_rfl) (by kernel_rfl) (by kernel_rfl) (fun _ _ _ h => h) (Or.inl ⟨by rfl, ?_⟩) hHeld ?_
  rotate_left
  · intro W hSw
    obtain ⟨hcW, -⟩ := Old.look hSw
    clear hSw
    simp only [List.getElem_toArray, List.getElem_cons_zero, List.getElem_cons_succ]
    go_simp
    all_goals with_reducible rfl
  simp only [List.getElem_toArray, List.getElem_cons_zero, List.getElem_cons_succ, Act.put, List.setIfInBounds_toArray, List.set_cons_zero, List.set_cons_succ]
  refine' wpAnyH_take (i := 3) rfl (by kernel_rfl) (by kernel_rfl) (by kernel_rfl) (fun _ _ _ h => h) (Or.inl ⟨by rfl, ?_⟩) hHeld ?_
  rotate_left
  · intro W hSw
    obtain ⟨hcW, -⟩ := Old.look hSw
    clear hSw
    simp only [List.getElem_toArray, List.getElem_cons_zero, List.getElem_cons_succ]
    go_simp
    all_goals with_reducible rfl
  simp only [List.getElem_toArray, List.getElem_cons_zero, List.getElem_cons_succ, Act.put, List.setIfInBounds_toArray, List.set_cons_zero, List.set_cons_succ]
  refine' wpAnyH_take (i := 4) rfl (by kernel_rfl) (by kernel_rfl) (by kernel_rfl) (fun _ _ _ h => h) (Or.inl ⟨by rfl, ?_⟩) hHeld ?_
  rotate_left
  · intro W hSw
    obtain ⟨hcW, -⟩ := Old.look hSw
    clear hSw
    simp only [List.getElem_toArray, List.getElem_cons_zero, List.getElem_cons_succ]
    go_simp
    all_goals with_reducible rfl
  simp only [List.getElem_toArray, List.getElem_cons_zero, List.getElem_cons_succ, Act.put, List.setIfInBounds_toArray, List.set_cons_zero, List.set_cons_succ]
  refine wpAnyH_ready (rs := [5]) (by kernel_rfl) (by simp) ?_
  refine AllReadyH.cons (o := _) rfl (fun K hK => ?_) AllReadyH.nil
  simp only [List.getElem_toArray, List.getElem_cons_zero, List.getElem_cons_succ]
  go_simp
  refine (kT.out _ _ _ ((nums_front a7.out).old hHeld)).mono ?_
  rintro e wn ⟨rfl, on⟩
  have hHeld2 := hHeld.trans on
  refine hK.out _ _ hHeld2 (fun _ => ?_)
  clear hK K hHeld on
  have hHeld := hHeld2
  clear hHeld2
  try simp only [Act.put, List.setIfInBounds_toArray, List.set_cons_zero, List.set_cons_succ]
  refine' wpAnyH_take (i := 6) rfl (by kernel_rfl) (by kernel_rfl) (by kernel_rfl) (fun _ _ _ h => h) (Or.inl ⟨by rfl, ?_⟩) hHeld ?_
  rotate_left
  · intro W hSw
    obtain ⟨hcW, -⟩ := Old.look hSw
    clear hSw
    simp only [List.getElem_toArray, List.getElem_cons_zero, List.getElem_cons_succ]
    go_simp
    all_goals with_reducible rfl
  simp only [List.getElem_toArray, List.getElem_cons_zero, List.getElem_cons_succ, Act.put, List.setIfInBounds_toArray, List.set_cons_zero, List.set_cons_succ]
  refine' wpAnyH_take (i := 7) rfl (by kernel_rfl) (by kernel_rfl) (by kernel_rfl) (fun _ _ _ h => h) (Or.inl ⟨by rfl, ?_⟩) hHeld ?_
  rotate_left
  · intro W hSw
    obtain ⟨hcW, -⟩ := Old.look hSw
    clear hSw
    simp only [List.getElem_toArray, List.getElem_cons_zero, List.getElem_cons_succ]
    go_simp
    all_goals with_reducible rfl
  simp only [List.getElem_toArray, List.getElem_cons_zero, List.getElem_cons_succ, Act.put, List.setIfInBounds_toArray, List.set_cons_zero, List.set_cons_succ]
  refine' wpAnyH_take (i := 8) rfl (by kernel_rfl) (by kernel_rfl) (by kernel_rfl) (fun _ _ _ h => h) (Or.inl ⟨by rfl, ?_⟩) hHeld ?_
  rotate_left
  · intro W hSw
    obtain ⟨hcW, -⟩ := Old.look hSw
    clear hSw
    simp only [List.getElem_toArray, List.getElem_cons_zero, List.getElem_cons_succ]
    go_simp
    all_goals with_reducible rfl
  simp only [List.getElem_toArray, List.getElem_cons_zero, List.getElem_cons_succ, Act.put, List.setIfInBounds_toArray, List.set_cons_zero, List.set_cons_succ]
  refine' wpAnyH_take (i := 9) rfl (by kernel_rfl) (by kernel_rfl) (by kernel_rfl) (fun _ _ _ h => h) (Or.inl ⟨by rfl, ?_⟩) hHeld ?_
  rotate_left
  · intro W hSw
    obtain ⟨hcW, -⟩ := Old.look hSw
    clear hSw
    simp only [List.getElem_toArray, List.getElem_cons_zero, List.getElem_cons_succ]
    go_simp
    all_goals with_reducible rfl
  simp only [List.getElem_toArray, List.getElem_cons_zero, List.getElem_cons_succ, Act.put, List.setIfInBounds_toArray, List.set_cons_zero, List.set_cons_succ]
  refine' wpAnyH_take (i := 10) rfl (by kernel_rfl) (by kernel_rfl) (by kernel_rfl) (fun _ _ _ h => h) (Or.inl ⟨by rfl, ?_⟩) hHeld ?_
  rotate_left
  · intro W hSw
    obtain ⟨hcW, -⟩ := Old.look hSw
    clear hSw
    simp only [List.getElem_toArray, List.getElem_cons_zero, List.getElem_cons_succ]
    go_simp
    all_goals with_reducible rfl
  simp only [List.getElem_toArray, List.getElem_cons_zero, List.getElem_cons_succ, Act.put, List.setIfInBounds_toArray, List.set_cons_zero, List.set_cons_succ]
  refine' wpAnyH_take (i := 11) rfl (by kernel_rfl) (by kernel_rfl) (by kernel_rfl) (fun _ _ _ h => h) (Or.inl ⟨by rfl, ?_⟩) hHeld ?_
  rotate_left
  · intro W hSw
    obtain ⟨hcW, -⟩ := Old.look hSw
    clear hSw
    simp only [List.getElem_toArray, List.getElem_cons_zero, List.getElem_cons_succ]
    go_simp
    all_goals with_reducible rfl
  simp only [List.getElem_toArray, List.getElem_cons_zero, List.getElem_cons_succ, Act.put, List.setIfInBounds_toArray, List.set_cons_zero, List.set_cons_succ]
  refine' wpAnyH_take (i := 12) rfl (by kernel_rfl) (by kernel_rfl) (by kernel_rfl) (fun _ _ _ h => h) (Or.inl ⟨by rfl, ?_⟩) hHeld ?_
  rotate_left
  · intro W hSw
    obtain ⟨hcW, -⟩ := Old.look hSw
    clear hSw
    simp only [List.getElem_toArray, List.getElem_cons_zero, List.getElem_cons_succ]
    go_simp
    all_goals with_reducible rfl
  simp only [List.getElem_toArray, List.getElem_cons_zero, List.getElem_cons_succ, Act.put, List.setIfInBounds_toArray, List.set_cons_zero, List.set_cons_succ]
  refine wpAnyH_done (by kernel_rfl) ?_ _
  refine NoPanic.normal ?_
  have kHd := hid hHeld
  clear hHeld
  generalize wn = w3 at *
  have hl3 := hid (hlW.out.old kHd.out)
  have ha3 := hid (haW.out.old kHd.out)
  have a73 := hid (a7.out.old kHd.out)
  have ko3 := hid (koW.out.trans kHd.out)
  clear lc0 lc1 lc2 lc3 lc4 lc5 lc6 lc7 lc8 lc9 lc10 lcb
  clear hlW haW koW a7
  obtain ⟨lc0, lc1, lc2, lc3, lc4, lc5, lc6, lc7, lc8, lc9, lc10⟩ := hl3.out
  try dsimp only at lc0 lc1 lc2 lc3 lc4 lc5 lc6 lc7 lc8 lc9 lc10
  have lcb := cell_lt lc0
  go_wp2_with fail
  refine (kR.out _ ha3.out).mono ?_
  rintro e w4 ⟨rfl, o4⟩
  have ha4 := hid (ha3.out.old o4)
  have a74 := hid (a73.out.old o4)
  have ko4 := hid (ko3.out.trans o4)
  clear o4
  clear lc0 lc1 lc2 lc3 lc4 lc5 lc6 lc7 lc8 lc9 lc10 lcb
  clear hl3 ha3 a73 ko3
  generalize tkW l L = tw at *
  generalize tkP l L = tp at *
  generalize tkB l L = tb at *
  go_wp2_with fail
  go_loopw [12] (fun iv wr => ∃ k : Nat, k ≤ L.length ∧ iv = .int .i64 (k : Int) ∧ Old w4 wr) (fun iv _ => L.length - (intOf iv).toNat)
  case atStart => exact ⟨0, Nat.zero_le _, rfl, Old.refl _⟩
  case round =>
    obtain ⟨k, hk, rfl, ho⟩ := hrel
    by_cases hlt : k < L.length
    · have hlt' : (k : Int) < (L.length : Int) := by omega
      have hlt2 : (k : Int) < (L.length : Int) + 1 := by omega
      obtain ⟨g, o, rfl, hx⟩ := ha4.out k hlt
      obtain ⟨g', o', hgo, hy⟩ := a74.out k (by simp; omega)
      simp only [Option.some.injEq, Addr.mk.injEq, and_true] at hgo
      obtain ⟨rfl, rfl⟩ := hgo
      have hx := ho.cell hx
      have hy := ho.cell hy
      rw [List.getElem_append_left hlt] at hy
      generalize L[k] = c at *
      rw [Nat.zero_add] at hy
      have hxl := cell_lt hx
      have hyl := cell_lt hy
      have kho := hid ho
      clear ho
      go_upto_region 7 with fail
      go_region
      go_wp2_with fail
      go_roundw
      case rel => exact ⟨k + 1, by omega, by go_num, kho.out.drewN 1⟩
      case measure => simp [intOf]; omega
    · obtain rfl : k = L.length := by omega
      obtain ⟨g', o', hgo, hy⟩ := a74.out L.length (by simp)
      simp only [Option.some.injEq, Addr.mk.injEq, and_true] at hgo
      obtain ⟨rfl, rfl⟩ := hgo
      have hy := ho.cell hy
      rw [Nat.zero_add] at hy
      have hy : wr.cell? ⟨g7, L.length, none⟩ = some (.int .i64 771) := by rw [hy]; simp
      have hyl := cell_lt hy
      have hlt2 : (L.length : Int) < (L.length : Int) + 1 := by omega
      have kor := hid (ko4.out.trans ho)
      clear ho
      go_wp2_with fail
      refine (kK.out _).mono ?_
      rintro e w5 ⟨rfl, o5⟩
      have ko5 := hid (kor.out.trans o5)
      clear o5
      go_wp2_with fail
      go_ret
      exact ⟨rfl, ko5.out⟩

theorem takeslaw_any (l : Lt) (lo : Option Addr) (c1 : Nat) (L : List Int) (w : World) (ha : NumsC .i64 w lo L) (hl : L.length ≤ 17592186043904) (h0 : lo = none → L.length = 0 ∧ c1 = 0) : Calls Try.prog 6 #[lotV l, .slice lo L.length c1] w fun e w' => e = .returned (.bool true) ∧ Old w w' := by
  cases lo with
  | some ad => exact takes_some l ad c1 L w ha hl
  | none => exact takes_nil l none c1 L w ha hl (hid ⟨rfl, h0 rfl⟩)

end Go.Proofs.Ytnhglckhkhmonaa
