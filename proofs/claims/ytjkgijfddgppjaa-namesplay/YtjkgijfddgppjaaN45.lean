/- NamesPlay, walked. -/
import Derived.Test.YtjkgijfddgppjaaN44
namespace Go.Proofs.Ytjkgijfddgppjaa
open Go.RowKit Go.Lib Go.Maps

theorem frozen_block {w w' : World} {b o : Nat} (h : w'.heap[b]? = w.heap[b]?) : w'.frozen? ⟨b, o, none⟩ = w.frozen? ⟨b, o, none⟩ := by simp [World.frozen?, h]

theorem TN.told {w : World} {t r : Nat} {F Z : Nat → Prop} {most md : Int} {L : List (List UInt8)} (leave : Int) (h : TN w t F most L) (hD : DN w r Z md L) (hl : L.length ≤ 1000000) :
    Calls Try.prog 11 #[.pointer (some ⟨t, 0, none⟩), .pointer (some ⟨r, 0, none⟩), .int .i64 leave] w fun e w' => e = .returned (.bool true) ∧ Old w w' := by
  obtain ⟨tb, mb, v, hT, _, _, _, _, gL⟩ := h
  obtain ⟨vd, hD, _⟩ := hD
  exact tells_any t tb mb r v vd most md leave L w hT hD gL hl



theorem eql_a : ∀ (w : World) (a : Addr), (binOp .eql 24 (.pointer (some a)) (.pointer none)).run Try.prog w = .ok (.bool false) w := by
  intro w a
  kernel_rfl
theorem eql_b : ∀ (w : World) (a : Addr), (binOp .eql 26 (.pointer (some a)) (.pointer none)).run Try.prog w = .ok (.bool false) w := by
  intro w a
  kernel_rfl

abbrev ptr1 (b : Nat) : Value := .pointer (some ⟨b, 0, none⟩)
/-- So many of the two are made. -/
def QI (w W : World) (most : Int) : Nat → Prop
  | 0 => Old w W ∧ W.heap.size = w.heap.size + 1 ∧ W.heap[w.heap.size]? = some (.cells #[.pointer none, .pointer none, .pointer none, .pointer none, .slice none 0 0, .slice none 0 0] 31 (0, 0))
  | 1 => Old w W ∧ W.heap.size = w.heap.size + 5 ∧ W.heap[w.heap.size]? = some (.cells #[ptr1 (w.heap.size + 3), .pointer none, ptr1 (w.heap.size + 4), .pointer none, .slice none 0 0, .slice none 0 0] 31 (0, 0)) ∧ Nms W (w.heap.size + 3) (w.heap.size + 2) (w.heap.size + 1) (.slice none 0 0) most [] ∧ Doc W (w.heap.size + 4) (.slice none 0 0) most []
  | _ => Old w W ∧ W.heap.size = w.heap.size + 9 ∧ W.heap[w.heap.size]? = some (.cells #[ptr1 (w.heap.size + 3), ptr1 (w.heap.size + 7), ptr1 (w.heap.size + 4), ptr1 (w.heap.size + 8), .slice none 0 0, .slice none 0 0] 31 (0, 0)) ∧ (Nms W (w.heap.size + 3) (w.heap.size + 2) (w.heap.size + 1) (.slice none 0 0) most [] ∧ Doc W (w.heap.size + 4) (.slice none 0 0) most []) ∧ Nms W (w.heap.size + 7) (w.heap.size + 6) (w.heap.size + 5) (.slice none 0 0) most [] ∧ Doc W (w.heap.size + 8) (.slice none 0 0) most []

theorem QI.px {w W : World} {most : Int} (h : QI w W most 2) : PX w W most w.heap.size 0 := by
  obtain ⟨ho, hz, hb, ⟨n0, d0⟩, n1, d1⟩ := h
  have nob : ∀ k, (Value.slice none 0 0).ownBlock = some k → False := fun k hk => by simp [Value.ownBlock] at hk
  refine PX.init (F0 := fun q => q = w.heap.size + 3 ∨ q = w.heap.size + 2 ∨ q = w.heap.size + 1) (F1 := fun q => q = w.heap.size + 7 ∨ q = w.heap.size + 6 ∨ q = w.heap.size + 5) (Z := fun _ => False) (R1 := []) (most := most) (a := w.heap.size + 3) (b := w.heap.size + 7) (r0 := w.heap.size + 4) (r1 := w.heap.size + 8) ⟨fun q hq => ?_, fun q hq => ?_, fun q hq => hq.elim, ?_⟩ ?_ ?_ ?_ ?_ hb ho (Nat.le_refl 0)
  · refine ⟨fun h => ?_, fun h => h, ?_, ?_, ?_, ?_, ?_⟩
    all_goals omega
  · refine ⟨fun h => h, ?_, ?_, ?_, ?_, ?_⟩
    all_goals omega
  · refine ⟨?_, ?_, ?_, ?_, ?_, ?_⟩
    all_goals omega
  · exact ⟨_, _, _, n0, Or.inl rfl, Or.inr (Or.inl rfl), Or.inr (Or.inr rfl), fun k hk => (nob k hk).elim, Good.nil⟩
  · exact ⟨_, _, _, n1, Or.inl rfl, Or.inr (Or.inl rfl), Or.inr (Or.inr rfl), fun k hk => (nob k hk).elim, Good.nil⟩
  · exact ⟨_, d0, fun k hk => (nob k hk).elim⟩
  · exact ⟨_, d1, fun k hk => (nob k hk).elim⟩

set_option maxRecDepth 100000 in
set_option maxHeartbeats 4000000 in
theorem play_bad (most : Int) (so : Option Addr) (ns cs : Nat) (w : World) (hm : ¬ (0 ≤ most ∧ most ≤ 1048576)) :
    Calls Try.prog 3 #[.int .i64 most, .slice so ns cs] w fun e w' => e = .returned (.bool true) ∧ Old w w' := by
  have kK := hid known_any
  have kN := hid (fun W => new_bad most W hm)
  have kD := hid (fun W => dnew_bad most W hm)
  clear hm
  go_enter Try.func3, Try.ntmps3
  go_wp2_with fail
  go_loopw [6] (fun s wr => s = .int .i64 0 ∧ Old w wr) (fun _ _ => 0)
  case atStart => exact ⟨rfl, (Old.refl w).alloc _⟩
  case round =>
    obtain ⟨rfl, ho⟩ := hrel
    have koh := hid ho
    clear ho
    go_wp2_with fail
    refine (kN.out _).mono ?_
    rintro e w2 ⟨rfl, rfl⟩
    go_wp2_with fail
    refine (kD.out _).mono ?_
    rintro e w3 ⟨rfl, rfl⟩
    go_wp2_with fail
    refine (kK.out _).mono ?_
    rintro e w4 ⟨rfl, o4⟩
    have k4 := hid o4
    clear o4
    go_wp2_with fail
    go_ret
    exact ⟨rfl, koh.out.trans k4.out⟩

theorem two_sets {W : World} {b i j : Nat} {xs : Array Value} {t : TypeId} {fr : Nat × Nat} {u v : Value} (h : W.heap[b]? = some (.cells xs t fr)) : ((W.setCell ⟨b, i, none⟩ u).setCell ⟨b, j, none⟩ v).heap[b]? = some (.cells ((xs.setIfInBounds i u).setIfInBounds j v) t fr) := by
  simp [World.setCell, Array.getElem?_modify, h]


set_option maxRecDepth 100000 in
set_option maxHeartbeats 8000000 in
theorem play_good (most : Int) (so : Option Addr) (ns cs : Nat) (SS : List (Int × Int × List UInt8 × Int)) (w : World) (hm : 0 ≤ most ∧ most ≤ 1048576) (hS : StepC w so SS) (hns : SS.length = ns) (hns2 : ns ≤ 9223372036854775807) (hSok : ∀ x ∈ SS, x.2.2.1.length ≤ maxLen) :
    Calls Try.prog 3 #[.int .i64 most, .slice so ns cs] w fun e w' => e = .returned (.bool true) ∧ Old w w' := by
  have kK := hid known_any
  have kN := hid (fun W => new_good most W hm)
  have kD := hid (fun W => dnew_good most W hm)
  have kS0 := hid hS
  have kns := hid hns
  have kSok := hid hSok
  have hea := eql_a
  have heb := eql_b
  clear hm hS hns hSok
  go_enter Try.func3, Try.ntmps3
  go_wp2_with fail
  go_loopw [6] (fun s wr => ∃ i : Nat, i ≤ 2 ∧ s = .int .i64 (i : Int) ∧ QI w wr most i) (fun s _ => 2 - (intOf s).toNat)
  case atStart => exact ⟨0, by omega, rfl, (Old.refl w).alloc _, by simp, heap_new _ _⟩
  case round =>
  obtain ⟨i, hi, rfl, hQ⟩ := hrel
  rcases (show i = 0 ∨ i = 1 ∨ i = 2 by omega) with rfl | rfl | rfl
  · obtain ⟨ho, hz, hb⟩ := hQ
    have koh := hid ho
    have kz := hid hz
    have kb := hid hb
    clear ho hz hb
    go_wp2_with fail
    refine (kN.out _).mono ?_
    rintro e w2 ⟨rfl, o2, hN2, z2⟩
    have ko2 := hid o2
    have kN2 := hid hN2
    have kz2 := hid z2
    clear o2 hN2 z2
    go_wp2_with fail
    refine (kD.out _).mono ?_
    rintro e w3 ⟨rfl, o3, hD3, z3⟩
    have ko3 := hid o3
    have kD3 := hid hD3
    have kz3 := hid z3
    clear o3 hD3 z3
    go_wp2_with fail
    refine wp_region_noPanic ?_
    refine wp_region_held_drew (S := fun _ => True) (by kernel_rfl) trivial (fun hHeld => ?_)
    obtain ⟨W0, hW0⟩ : ∃ W0, w3.drew = W0 := ⟨_, rfl⟩
    have oW0 : Hid (Old wr W0) := by rw [← hW0]; exact (ko2.out.trans ko3.out).drewN 1
    have oW3 : Hid (Old w3 W0) := by rw [← hW0]; exact (Old.refl w3).drewN 1
    have zW0 : Hid (W0.heap.size = w3.heap.size) := by rw [← hW0]; rfl
    rw [hW0]
    clear hW0
    have bW : W0.heap[w.heap.size]? = _ := (oW0.out.block w.heap.size (by rw [kz.out]; omega) (fun h => h)).trans kb.out
    have kbW := hid bW
    have y1 : W0.cell? ⟨w.heap.size, 0, none⟩ = some (.pointer none) := by simp [World.cell?, bW]
    have y2 : W0.frozen? ⟨w.heap.size, 0, none⟩ = false := by simp [World.frozen?, bW]
    have y3 : (W0.setCell ⟨w.heap.size, 0, none⟩ (.pointer (some ⟨wr.heap.size + 2, 0, none⟩))).cell? ⟨w.heap.size, 2, none⟩ = some (.pointer none) := by simp [World.cell?, World.setCell, Array.getElem?_modify, bW]
    have y4 : (W0.setCell ⟨w.heap.size, 0, none⟩ (.pointer (some ⟨wr.heap.size + 2, 0, none⟩))).frozen? ⟨w.heap.size, 2, none⟩ = false := by simp [World.frozen?, World.setCell, Array.getElem?_modify, bW]
    clear bW
    refine' wpAnyH_take (i := 0) rfl (by kernel_rfl) (by kernel_rfl) (by kernel_rfl) (fun _ _ _ h => h) (Or.inl ⟨by rfl, ?_⟩) hHeld ?_
    rotate_left
    · intro W hSw
      have hSv : True := hSw
      clear hSw
      skip
      simp only [List.getElem_toArray, List.getElem_cons_zero]
      go_simp
      all_goals with_reducible rfl
    simp only [List.getElem_toArray, List.getElem_cons_zero, Act.put, List.setIfInBounds_toArray, List.set_cons_zero, List.set_cons_succ]
    refine' wpAnyH_take (i := 1) rfl (by kernel_rfl) (by kernel_rfl) (by kernel_rfl) (fun _ _ _ h => h) (Or.inl ⟨by rfl, ?_⟩) hHeld ?_
    rotate_left
    · intro W hSw
      have hSv : True := hSw
      clear hSw
      skip
      simp only [List.getElem_toArray, List.getElem_cons_zero, List.getElem_cons_succ]
      go_simp
      all_goals with_reducible rfl
    simp only [List.getElem_toArray, List.getElem_cons_zero, List.getElem_cons_succ, Act.put, List.setIfInBounds_toArray, List.set_cons_zero, List.set_cons_succ]
    refine' wpAnyH_take (i := 2) rfl (by kernel_rfl) (by kernel_rfl) (by kernel_rfl) (fun _ _ _ h => h) (Or.inl ⟨by rfl, ?_⟩) hHeld ?_
    rotate_left
    · intro W hSw
      have hSv : True := hSw
      clear hSw
      skip
      simp only [List.getElem_toArray, List.getElem_cons_zero, List.getElem_cons_succ]
      go_simp
      all_goals with_reducible rfl
    simp only [List.getElem_toArray, List.getElem_cons_zero, List.getElem_cons_succ, Act.put, List.setIfInBounds_toArray, List.set_cons_zero, List.set_cons_succ]
    refine' wpAnyH_take (i := 3) rfl (by kernel_rfl) (by kernel_rfl) (by kernel_rfl) (fun _ _ _ h => h) (Or.inl ⟨by rfl, ?_⟩) hHeld ?_
    rotate_left
    · intro W hSw
      have hSv : True := hSw
      clear hSw
      skip
      simp only [List.getElem_toArray, List.getElem_cons_zero, List.getElem_cons_succ]
      go_simp
      all_goals with_reducible rfl
    simp only [List.getElem_toArray, List.getElem_cons_zero, List.getElem_cons_succ, Act.put, List.setIfInBounds_toArray, List.set_cons_zero, List.set_cons_succ]
    refine' wpAnyH_take (i := 4) rfl (by kernel_rfl) (by kernel_rfl) (by kernel_rfl) (fun _ _ _ h => h) (Or.inl ⟨by rfl, ?_⟩) hHeld ?_
    rotate_left
    · intro W hSw
      have hSv : True := hSw
      clear hSw
      skip
      simp only [List.getElem_toArray, List.getElem_cons_zero, List.getElem_cons_succ]
      go_simp
      all_goals with_reducible rfl
    simp only [List.getElem_toArray, List.getElem_cons_zero, List.getElem_cons_succ, Act.put, List.setIfInBounds_toArray, List.set_cons_zero, List.set_cons_succ]
    refine' wpAnyH_take (i := 5) rfl (by kernel_rfl) (by kernel_rfl) (by kernel_rfl) (fun _ _ _ h => h) (Or.inl ⟨by rfl, ?_⟩) hHeld ?_
    rotate_left
    · intro W hSw
      have hSv : True := hSw
      clear hSw
      skip
      simp only [List.getElem_toArray, List.getElem_cons_zero, List.getElem_cons_succ]
      go_simp
      all_goals with_reducible rfl
    simp only [List.getElem_toArray, List.getElem_cons_zero, List.getElem_cons_succ, Act.put, List.setIfInBounds_toArray, List.set_cons_zero, List.set_cons_succ]
    refine' wpAnyH_take (i := 6) rfl (by kernel_rfl) (by kernel_rfl) (by kernel_rfl) (fun _ _ _ h => h) (Or.inl ⟨by rfl, ?_⟩) hHeld ?_
    rotate_left
    · intro W hSw
      have hSv : True := hSw
      clear hSw
      skip
      simp only [List.getElem_toArray, List.getElem_cons_zero, List.getElem_cons_succ]
      go_simp
      all_goals with_reducible rfl
    simp only [List.getElem_toArray, List.getElem_cons_zero, List.getElem_cons_succ, Act.put, List.setIfInBounds_toArray, List.set_cons_zero, List.set_cons_succ]
    refine' wpAnyH_take (i := 7) rfl (by kernel_rfl) (by kernel_rfl) (by kernel_rfl) (fun _ _ _ h => h) (Or.inl ⟨by rfl, ?_⟩) hHeld ?_
    rotate_left
    · intro W hSw
      have hSv : True := hSw
      clear hSw
      skip
      simp only [List.getElem_toArray, List.getElem_cons_zero, List.getElem_cons_succ]
      go_simp
      all_goals with_reducible rfl
    simp only [List.getElem_toArray, List.getElem_cons_zero, List.getElem_cons_succ, Act.put, List.setIfInBounds_toArray, List.set_cons_zero, List.set_cons_succ]
    refine' wpAnyH_take (i := 8) rfl (by kernel_rfl) (by kernel_rfl) (by kernel_rfl) (fun _ _ _ h => h) (Or.inl ⟨by rfl, ?_⟩) hHeld ?_
    rotate_left
    · intro W hSw
      have hSv : True := hSw
      clear hSw
      skip
      simp only [List.getElem_toArray, List.getElem_cons_zero, List.getElem_cons_succ]
      go_simp
      all_goals with_reducible rfl
    simp only [List.getElem_toArray, List.getElem_cons_zero, List.getElem_cons_succ, Act.put, List.setIfInBounds_toArray, List.set_cons_zero, List.set_cons_succ]
    refine' wpAnyH_take (i := 10) rfl (by kernel_rfl) (by kernel_rfl) (by kernel_rfl) (fun _ _ _ h => h) (Or.inl ⟨by rfl, ?_⟩) hHeld ?_
    rotate_left
    · intro W hSw
      have hSv : True := hSw
      clear hSw
      skip
      simp only [List.getElem_toArray, List.getElem_cons_zero, List.getElem_cons_succ]
      go_simp
      all_goals with_reducible rfl
    simp only [List.getElem_toArray, List.getElem_cons_zero, List.getElem_cons_succ, Act.put, List.setIfInBounds_toArray, List.set_cons_zero, List.set_cons_succ]
    refine' wpAnyH_take (i := 11) rfl (by kernel_rfl) (by kernel_rfl) (by kernel_rfl) (fun _ _ _ h => h) (Or.inl ⟨by rfl, ?_⟩) hHeld ?_
    rotate_left
    · intro W hSw
      have hSv : True := hSw
      clear hSw
      skip
      simp only [List.getElem_toArray, List.getElem_cons_zero, List.getElem_cons_succ]
      go_simp
      all_goals with_reducible rfl
    simp only [List.getElem_toArray, List.getElem_cons_zero, List.getElem_cons_succ, Act.put, List.setIfInBounds_toArray, List.set_cons_zero, List.set_cons_succ]
    refine wpAnyH_ready (rs := [9]) (by kernel_rfl) (by simp) ?_
    refine AllReadyH.cons (o := _) rfl (fun K hK => ?_) AllReadyH.nil
    simp only [List.getElem_toArray, List.getElem_cons_zero, List.getElem_cons_succ]
    go_simp
    refine hK.out _ _ trivial (fun _ => ?_)
    clear hK K
    try simp only [Act.put, List.setIfInBounds_toArray, List.set_cons_zero, List.set_cons_succ]
    have hHeld : True := trivial
    refine' wpAnyH_take (i := 12) rfl (by kernel_rfl) (by kernel_rfl) (by kernel_rfl) (fun _ _ _ h => h) (Or.inl ⟨by rfl, ?_⟩) hHeld ?_
    rotate_left
    · intro W hSw
      have hSv : True := hSw
      clear hSw
      skip
      simp only [List.getElem_toArray, List.getElem_cons_zero, List.getElem_cons_succ]
      go_simp
      all_goals with_reducible rfl
    simp only [List.getElem_toArray, List.getElem_cons_zero, List.getElem_cons_succ, Act.put, List.setIfInBounds_toArray, List.set_cons_zero, List.set_cons_succ]
    refine wpAnyH_ready (rs := [13]) (by kernel_rfl) (by simp) ?_
    refine AllReadyH.cons (o := _) rfl (fun K hK => ?_) AllReadyH.nil
    simp only [List.getElem_toArray, List.getElem_cons_zero, List.getElem_cons_succ]
    go_simp
    refine hK.out _ _ trivial (fun _ => ?_)
    clear hK K
    try simp only [Act.put, List.setIfInBounds_toArray, List.set_cons_zero, List.set_cons_succ]
    refine wpAnyH_done (by kernel_rfl) ?_ _
    refine NoPanic.normal ?_
    clear y1 y2 y3 y4
    obtain ⟨V, hV⟩ : ∃ V, (W0.setCell ⟨w.heap.size, 0, none⟩ (.pointer (some ⟨wr.heap.size + 2, 0, none⟩))).setCell ⟨w.heap.size, 2, none⟩ (.pointer (some ⟨w2.heap.size, 0, none⟩)) = V := ⟨_, rfl⟩
    have kfV : Hid (Frm (fun q => q = w.heap.size) W0 V) := by
      rw [← hV]
      exact Frm.setCell (S := fun q => q = w.heap.size) (Frm.setCell (S := fun q => q = w.heap.size) (Frm.refl _ W0) ⟨w.heap.size, 0, none⟩ (Or.inr rfl) _) ⟨w.heap.size, 2, none⟩ (Or.inr rfl) _
    have kzV : Hid (V.heap.size = w3.heap.size) := by
      show V.heap.size = w3.heap.size
      rw [← zW0.out, ← hV]
      simp [World.setCell]
    have kbV := hid (two_sets (i := 0) (j := 2) (u := .pointer (some ⟨wr.heap.size + 2, 0, none⟩)) (v := .pointer (some ⟨w2.heap.size, 0, none⟩)) kbW.out)
    rw [hV] at kbV ⊢
    clear hV
    have nob : ∀ k, (Value.slice none 0 0).ownBlock = some k → False := fun k hk => by simp [Value.ownBlock] at hk
    have zs1 := kz.out
    have zs2 := kz2.out
    have zs3 := kz3.out
    have kNV : Hid (Nms V (wr.heap.size + 2) (wr.heap.size + 1) wr.heap.size (.slice none 0 0) most []) := (kN2.out.old (ko3.out.trans oW3.out)).frm kfV.out (by omega) (by omega) (by omega) (fun k hk => (nob k hk).elim)
    have kDV : Hid (Doc V w2.heap.size (.slice none 0 0) most []) := (kD3.out.old oW3.out).frm kfV.out (by omega) (fun k hk => (nob k hk).elim)
    have koV : Hid (Old w V) := Frm.trans (koh.out.trans oW0.out) kfV.out (fun q hq e => by omega)
    clear zs1 zs2 zs3 nob
    go_wp2_with fail
    go_roundw
    case rel =>
      have zs1 := kz.out
      have zs2 := kz2.out
      have zs3 := kz3.out
      have zs4 := kzV.out
      refine ⟨1, by omega, by go_num, koV.out, by omega, ?_, ?_, ?_⟩
      · have h8 := kbV.out
        rw [zs2, zs1] at h8
        simpa using h8
      · have h8 := kNV.out
        rw [zs1] at h8
        exact h8
      · have h8 := kDV.out
        rw [zs2, zs1] at h8
        exact h8
    case measure => simp [intOf]
  · obtain ⟨ho, hz, hb, hNo, hDo⟩ := hQ
    have koh := hid ho
    have kz := hid hz
    have kb := hid hb
    have kNo := hid hNo
    have kDo := hid hDo
    clear ho hz hb hNo hDo
    go_wp2_with fail
    refine (kN.out _).mono ?_
    rintro e w2 ⟨rfl, o2, hN2, z2⟩
    have ko2 := hid o2
    have kN2 := hid hN2
    have kz2 := hid z2
    clear o2 hN2 z2
    go_wp2_with fail
    refine (kD.out _).mono ?_
    rintro e w3 ⟨rfl, o3, hD3, z3⟩
    have ko3 := hid o3
    have kD3 := hid hD3
    have kz3 := hid z3
    clear o3 hD3 z3
    go_wp2_with fail
    refine wp_region_noPanic ?_
    refine wp_region_held_drew (S := fun _ => True) (by kernel_rfl) trivial (fun hHeld => ?_)
    obtain ⟨W0, hW0⟩ : ∃ W0, w3.drew = W0 := ⟨_, rfl⟩
    have oW0 : Hid (Old wr W0) := by rw [← hW0]; exact (ko2.out.trans ko3.out).drewN 1
    have oW3 : Hid (Old w3 W0) := by rw [← hW0]; exact (Old.refl w3).drewN 1
    have zW0 : Hid (W0.heap.size = w3.heap.size) := by rw [← hW0]; rfl
    rw [hW0]
    clear hW0
    have bW : W0.heap[w.heap.size]? = _ := (oW0.out.block w.heap.size (by rw [kz.out]; omega) (fun h => h)).trans kb.out
    have kbW := hid bW
    have y1 : W0.cell? ⟨w.heap.size, 1, none⟩ = some (.pointer none) := by simp [World.cell?, bW]
    have y2 : W0.frozen? ⟨w.heap.size, 1, none⟩ = false := by simp [World.frozen?, bW]
    have y3 : (W0.setCell ⟨w.heap.size, 1, none⟩ (.pointer (some ⟨wr.heap.size + 2, 0, none⟩))).cell? ⟨w.heap.size, 3, none⟩ = some (.pointer none) := by simp [World.cell?, World.setCell, Array.getElem?_modify, bW]
    have y4 : (W0.setCell ⟨w.heap.size, 1, none⟩ (.pointer (some ⟨wr.heap.size + 2, 0, none⟩))).frozen? ⟨w.heap.size, 3, none⟩ = false := by simp [World.frozen?, World.setCell, Array.getElem?_modify, bW]
    clear bW
    refine' wpAnyH_take (i := 0) rfl (by kernel_rfl) (by kernel_rfl) (by kernel_rfl) (fun _ _ _ h => h) (Or.inl ⟨by rfl, ?_⟩) hHeld ?_
    rotate_left
    · intro W hSw
      have hSv : True := hSw
      clear hSw
      skip
      simp only [List.getElem_toArray, List.getElem_cons_zero]
      go_simp
      all_goals with_reducible rfl
    simp only [List.getElem_toArray, List.getElem_cons_zero, Act.put, List.setIfInBounds_toArray, List.set_cons_zero, List.set_cons_succ]
    refine' wpAnyH_take (i := 1) rfl (by kernel_rfl) (by kernel_rfl) (by kernel_rfl) (fun _ _ _ h => h) (Or.inl ⟨by rfl, ?_⟩) hHeld ?_
    rotate_left
    · intro W hSw
      have hSv : True := hSw
      clear hSw
      skip
      simp only [List.getElem_toArray, List.getElem_cons_zero, List.getElem_cons_succ]
      go_simp
      all_goals with_reducible rfl
    simp only [List.getElem_toArray, List.getElem_cons_zero, List.getElem_cons_succ, Act.put, List.setIfInBounds_toArray, List.set_cons_zero, List.set_cons_succ]
    refine' wpAnyH_take (i := 2) rfl (by kernel_rfl) (by kernel_rfl) (by kernel_rfl) (fun _ _ _ h => h) (Or.inl ⟨by rfl, ?_⟩) hHeld ?_
    rotate_left
    · intro W hSw
      have hSv : True := hSw
      clear hSw
      skip
      simp only [List.getElem_toArray, List.getElem_cons_zero, List.getElem_cons_succ]
      go_simp
      all_goals with_reducible rfl
    simp only [List.getElem_toArray, List.getElem_cons_zero, List.getElem_cons_succ, Act.put, List.setIfInBounds_toArray, List.set_cons_zero, List.set_cons_succ]
    refine' wpAnyH_take (i := 3) rfl (by kernel_rfl) (by kernel_rfl) (by kernel_rfl) (fun _ _ _ h => h) (Or.inl ⟨by rfl, ?_⟩) hHeld ?_
    rotate_left
    · intro W hSw
      have hSv : True := hSw
      clear hSw
      skip
      simp only [List.getElem_toArray, List.getElem_cons_zero, List.getElem_cons_succ]
      go_simp
      all_goals with_reducible rfl
    simp only [List.getElem_toArray, List.getElem_cons_zero, List.getElem_cons_succ, Act.put, List.setIfInBounds_toArray, List.set_cons_zero, List.set_cons_succ]
    refine' wpAnyH_take (i := 4) rfl (by kernel_rfl) (by kernel_rfl) (by kernel_rfl) (fun _ _ _ h => h) (Or.inl ⟨by rfl, ?_⟩) hHeld ?_
    rotate_left
    · intro W hSw
      have hSv : True := hSw
      clear hSw
      skip
      simp only [List.getElem_toArray, List.getElem_cons_zero, List.getElem_cons_succ]
      go_simp
      all_goals with_reducible rfl
    simp only [List.getElem_toArray, List.getElem_cons_zero, List.getElem_cons_succ, Act.put, List.setIfInBounds_toArray, List.set_cons_zero, List.set_cons_succ]
    refine' wpAnyH_take (i := 5) rfl (by kernel_rfl) (by kernel_rfl) (by kernel_rfl) (fun _ _ _ h => h) (Or.inl ⟨by rfl, ?_⟩) hHeld ?_
    rotate_left
    · intro W hSw
      have hSv : True := hSw
      clear hSw
      skip
      simp only [List.getElem_toArray, List.getElem_cons_zero, List.getElem_cons_succ]
      go_simp
      all_goals with_reducible rfl
    simp only [List.getElem_toArray, List.getElem_cons_zero, List.getElem_cons_succ, Act.put, List.setIfInBounds_toArray, List.set_cons_zero, List.set_cons_succ]
    refine' wpAnyH_take (i := 6) rfl (by kernel_rfl) (by kernel_rfl) (by kernel_rfl) (fun _ _ _ h => h) (Or.inl ⟨by rfl, ?_⟩) hHeld ?_
    rotate_left
    · intro W hSw
      have hSv : True := hSw
      clear hSw
      skip
      simp only [List.getElem_toArray, List.getElem_cons_zero, List.getElem_cons_succ]
      go_simp
      all_goals with_reducible rfl
    simp only [List.getElem_toArray, List.getElem_cons_zero, List.getElem_cons_succ, Act.put, List.setIfInBounds_toArray, List.set_cons_zero, List.set_cons_succ]
    refine' wpAnyH_take (i := 7) rfl (by kernel_rfl) (by kernel_rfl) (by kernel_rfl) (fun _ _ _ h => h) (Or.inl ⟨by rfl, ?_⟩) hHeld ?_
    rotate_left
    · intro W hSw
      have hSv : True := hSw
      clear hSw
      skip
      simp only [List.getElem_toArray, List.getElem_cons_zero, List.getElem_cons_succ]
      go_simp
      all_goals with_reducible rfl
    simp only [List.getElem_toArray, List.getElem_cons_zero, List.getElem_cons_succ, Act.put, List.setIfInBounds_toArray, List.set_cons_zero, List.set_cons_succ]
    refine' wpAnyH_take (i := 8) rfl (by kernel_rfl) (by kernel_rfl) (by kernel_rfl) (fun _ _ _ h => h) (Or.inl ⟨by rfl, ?_⟩) hHeld ?_
    rotate_left
    · intro W hSw
      have hSv : True := hSw
      clear hSw
      skip
      simp only [List.getElem_toArray, List.getElem_cons_zero, List.getElem_cons_succ]
      go_simp
      all_goals with_reducible rfl
    simp only [List.getElem_toArray, List.getElem_cons_zero, List.getElem_cons_succ, Act.put, List.setIfInBounds_toArray, List.set_cons_zero, List.set_cons_succ]
    refine' wpAnyH_take (i := 10) rfl (by kernel_rfl) (by kernel_rfl) (by kernel_rfl) (fun _ _ _ h => h) (Or.inl ⟨by rfl, ?_⟩) hHeld ?_
    rotate_left
    · intro W hSw
      have hSv : True := hSw
      clear hSw
      skip
      simp only [List.getElem_toArray, List.getElem_cons_zero, List.getElem_cons_succ]
      go_simp
      all_goals with_reducible rfl
    simp only [List.getElem_toArray, List.getElem_cons_zero, List.getElem_cons_succ, Act.put, List.setIfInBounds_toArray, List.set_cons_zero, List.set_cons_succ]
    refine' wpAnyH_take (i := 11) rfl (by kernel_rfl) (by kernel_rfl) (by kernel_rfl) (fun _ _ _ h => h) (Or.inl ⟨by rfl, ?_⟩) hHeld ?_
    rotate_left
    · intro W hSw
      have hSv : True := hSw
      clear hSw
      skip
      simp only [List.getElem_toArray, List.getElem_cons_zero, List.getElem_cons_succ]
      go_simp
      all_goals with_reducible rfl
    simp only [List.getElem_toArray, List.getElem_cons_zero, List.getElem_cons_succ, Act.put, List.setIfInBounds_toArray, List.set_cons_zero, List.set_cons_succ]
    refine wpAnyH_ready (rs := [9]) (by kernel_rfl) (by simp) ?_
    refine AllReadyH.cons (o := _) rfl (fun K hK => ?_) AllReadyH.nil
    simp only [List.getElem_toArray, List.getElem_cons_zero, List.getElem_cons_succ]
    go_simp
    refine hK.out _ _ trivial (fun _ => ?_)
    clear hK K
    try simp only [Act.put, List.setIfInBounds_toArray, List.set_cons_zero, List.set_cons_succ]
    have hHeld : True := trivial
    refine' wpAnyH_take (i := 12) rfl (by kernel_rfl) (by kernel_rfl) (by kernel_rfl) (fun _ _ _ h => h) (Or.inl ⟨by rfl, ?_⟩) hHeld ?_
    rotate_left
    · intro W hSw
      have hSv : True := hSw
      clear hSw
      skip
      simp only [List.getElem_toArray, List.getElem_cons_zero, List.getElem_cons_succ]
      go_simp
      all_goals with_reducible rfl
    simp only [List.getElem_toArray, List.getElem_cons_zero, List.getElem_cons_succ, Act.put, List.setIfInBounds_toArray, List.set_cons_zero, List.set_cons_succ]
    refine wpAnyH_ready (rs := [13]) (by kernel_rfl) (by simp) ?_
    refine AllReadyH.cons (o := _) rfl (fun K hK => ?_) AllReadyH.nil
    simp only [List.getElem_toArray, List.getElem_cons_zero, List.getElem_cons_succ]
    go_simp
    refine hK.out _ _ trivial (fun _ => ?_)
    clear hK K
    try simp only [Act.put, List.setIfInBounds_toArray, List.set_cons_zero, List.set_cons_succ]
    refine wpAnyH_done (by kernel_rfl) ?_ _
    refine NoPanic.normal ?_
    clear y1 y2 y3 y4
    obtain ⟨V, hV⟩ : ∃ V, (W0.setCell ⟨w.heap.size, 1, none⟩ (.pointer (some ⟨wr.heap.size + 2, 0, none⟩))).setCell ⟨w.heap.size, 3, none⟩ (.pointer (some ⟨w2.heap.size, 0, none⟩)) = V := ⟨_, rfl⟩
    have kfV : Hid (Frm (fun q => q = w.heap.size) W0 V) := by
      rw [← hV]
      exact Frm.setCell (S := fun q => q = w.heap.size) (Frm.setCell (S := fun q => q = w.heap.size) (Frm.refl _ W0) ⟨w.heap.size, 1, none⟩ (Or.inr rfl) _) ⟨w.heap.size, 3, none⟩ (Or.inr rfl) _
    have kzV : Hid (V.heap.size = w3.heap.size) := by
      show V.heap.size = w3.heap.size
      rw [← zW0.out, ← hV]
      simp [World.setCell]
    have kbV := hid (two_sets (i := 1) (j := 3) (u := .pointer (some ⟨wr.heap.size + 2, 0, none⟩)) (v := .pointer (some ⟨w2.heap.size, 0, none⟩)) kbW.out)
    rw [hV] at kbV ⊢
    clear hV
    have nob : ∀ k, (Value.slice none 0 0).ownBlock = some k → False := fun k hk => by simp [Value.ownBlock] at hk
    have zs1 := kz.out
    have zs2 := kz2.out
    have zs3 := kz3.out
    have kNV : Hid (Nms V (wr.heap.size + 2) (wr.heap.size + 1) wr.heap.size (.slice none 0 0) most []) := (kN2.out.old (ko3.out.trans oW3.out)).frm kfV.out (by omega) (by omega) (by omega) (fun k hk => (nob k hk).elim)
    have kDV : Hid (Doc V w2.heap.size (.slice none 0 0) most []) := (kD3.out.old oW3.out).frm kfV.out (by omega) (fun k hk => (nob k hk).elim)
    have koV : Hid (Old w V) := Frm.trans (koh.out.trans oW0.out) kfV.out (fun q hq e => by omega)
    clear zs1 zs2 zs3 nob
    go_wp2_with fail
    go_roundw
    case rel =>
      have zs1 := kz.out
      have zs2 := kz2.out
      have zs3 := kz3.out
      have zs4 := kzV.out
      have nob : ∀ k, (Value.slice none 0 0).ownBlock = some k → False := fun k hk => by simp [Value.ownBlock] at hk
      refine ⟨2, by omega, by go_num, koV.out, by omega, ?_, ⟨?_, ?_⟩, ?_, ?_⟩
      · have h8 := kbV.out
        rw [zs2, zs1] at h8
        simpa using h8
      · exact (kNo.out.old oW0.out).frm kfV.out (by omega) (by omega) (by omega) (fun k hk => (nob k hk).elim)
      · exact (kDo.out.old oW0.out).frm kfV.out (by omega) (fun k hk => (nob k hk).elim)
      · have h8 := kNV.out
        rw [zs1] at h8
        exact h8
      · have h8 := kDV.out
        rw [zs2, zs1] at h8
        exact h8
    case measure => simp [intOf]
  · have hPX := hid (QI.px hQ)
    clear hQ hea heb kN kD
    generalize w.heap.size = wb at *
    obtain ⟨z6, hz6⟩ : ∃ z : Int, ((2 : Nat) : Int) = z := ⟨_, rfl⟩
    rw [hz6]
    have hdz : decide (z6 < 2) = false := by rw [← hz6]; decide
    clear hz6 hi
    go_wp2_with fail
    go_loopw [11] (fun s wr => ∃ i : Nat, i ≤ ns ∧ i ≤ 150 ∧ s = .int .i64 (i : Int) ∧ PX w wr most wb i) (fun s _ => 150 - (intOf s).toNat)
    case atStart => exact ⟨0, Nat.zero_le _, Nat.zero_le _, rfl, hPX.out⟩
    case round =>
    clear hPX
    obtain ⟨i, hi, hi2, rfl, hP⟩ := hrel
    have kP := hid hP
    clear hP
    by_cases hin : i < ns
    · by_cases hi3 : i < 150
      · obtain ⟨gs, os, hso, s0, s1, s2, s3⟩ := kS0.out i (by rw [kns.out]; exact hin)
        have hdn : decide (i < ns) = true := by simp; exact hin
        have hdn2 : decide ((i : Int) < 150) = true := by simp; omega
        have hoW : Hid (Old w wr) := by obtain ⟨_, _, _, _, _, _, _, h, _⟩ := kP.out; exact h.old
        obtain ⟨x, hx⟩ : ∃ x, SS[i]'(by rw [kns.out]; exact hin) = x := ⟨_, rfl⟩
        have hxok : Hid (x.2.2.1.length ≤ maxLen) := by rw [← hx]; exact kSok.out _ (List.getElem_mem _)
        rw [hx] at s0 s1 s2 s3
        clear hx
        obtain ⟨x0, x1, x2, x3⟩ := x
        simp only at s0 s1 s2 s3
        replace s0 := hoW.out.cell s0
        replace s1 := hoW.out.cell s1
        replace s2 := hoW.out.cell s2
        replace s3 := hoW.out.cell s3
        subst hso
        have e4 : i * 4 = 4 * i := by omega
        have kst := hid (step_any w wr most wb i x0 x1 x3 x2 kP.out (by omega) hxok.out)
        go_wp2_with fail
        refine kst.out.mono ?_
        rintro e wn ⟨rfl, hn⟩
        have knn := hid hn
        clear hn
        go_wp2_with fail
        go_roundw
        case rel => exact ⟨i + 1, by omega, by omega, by go_num, knn.out⟩
        case measure => simp [intOf]; omega
      · have hdn : decide (i < ns) = true := by simp; exact hin
        have hdn2 : decide ((i : Int) < 150) = false := by simp; omega
        have kY := hid (kP.out.py (by omega))
        clear kP hin hi hi2 hi3
        go_wp2_with fail
        go_loopw [13] (fun s wr => ∃ i : Nat, i ≤ 2 ∧ s = .int .i64 (i : Int) ∧ PY w wr most wb i) (fun s _ => 2 - (intOf s).toNat)
        case atStart => exact ⟨0, by omega, rfl, kY.out⟩
        case round =>
        clear kY
        obtain ⟨k, hk, rfl, hY⟩ := hrel
        have kY := hid hY
        clear hY
        by_cases hk2 : k < 2
        · obtain ⟨τ, t, r, R, vo, vw, olds, hP, hol⟩ := kY.out
          clear kY
          obtain ⟨ao1, cap1, rfl⟩ := owns_slice hP.rowo
          obtain ⟨ao2, cap2, rfl⟩ := owns_slice hP.roww
          obtain ⟨m, hm⟩ : ∃ m, (olds.map Prod.fst ++ (List.range k).map t).length = m := ⟨_, rfl⟩
          have hm2 : (olds.map Prod.snd ++ (List.range k).map r).length = m := by rw [← hm]; simp
          have hm12 : m ≤ 12 := by rw [← hm]; simp; omega
          rw [hm, hm2] at hP
          have hfin : Hid (∀ W τ' vo' vw', PS w W wb τ' t r most R R vo' vw' (olds.map Prod.fst ++ (List.range k).map t ++ [t k]) (olds.map Prod.snd ++ (List.range k).map r ++ [r k]) olds 400 → PY w W most wb (k + 1)) := fun W τ' vo' vw' h => ⟨τ', t, r, R, vo', vw', olds, by rw [List.range_succ, List.map_append, List.map_append, ← List.append_assoc, ← List.append_assoc]; exact h, hol⟩
          generalize olds.map Prod.fst ++ (List.range k).map t = po at hP hm hfin
          generalize olds.map Prod.snd ++ (List.range k).map r = pw at hP hm2 hfin
          have hP0 := hid hP
          have hmh := hid hm
          have hmh2 := hid hm2
          obtain ⟨j0, hj0, hy0, hy1, hy2⟩ := info_parts info27
          obtain ⟨j1, hj1, hv0, hv1, hv2⟩ := info_parts info32
          have hd2 : decide ((k : Int) < 2) = true := by simp; omega
          have hki : (k : Int) < 2 := by omega
          clear hP hm hm2
          go_wp2_with fail
          refine wp_region_noPanic ?_
          have cx := (hP0.out.cells.1 k hk2).1
          have cv := hP0.out.cells.2.1
          refine wp_region_held_drew (S := fun X => X.cell? ⟨wb, k, none⟩ = some (.pointer (some ⟨t k, 0, none⟩))) (by kernel_rfl) (((Old.refl wr).drewN 1).cell cx) (fun hHeld => ?_)
          obtain ⟨W0, hW0⟩ : ∃ W0, (wr).drew = W0 := ⟨_, rfl⟩
          have oW0 : Hid (Old wr W0) := by rw [← hW0]; exact (Old.refl wr).drewN 1
          rw [hW0] at hHeld ⊢
          replace cv := oW0.out.cell cv
          clear hW0 cx
          have hP1 := hid (hP0.out.olds (oW0.out.alloc (.cells #[.pointer (some ⟨t k, 0, none⟩)] 24)))
          have cva := ((Old.refl W0).alloc (.cells #[.pointer (some ⟨t k, 0, none⟩)] 24)).cell cv
          have cxa := hid (((Old.refl W0).alloc (.cells #[.pointer (some ⟨t k, 0, none⟩)] 24)).cell hHeld)
          have hrow := hP1.out.rowo
          rw [hmh.out] at hrow
          have hbs := hP1.out.old.size
          have hwl1 := (hP1.out.bnd wb (by rw [hP1.out.wbt]; omega)).2
          refine' wpAnyH_take (i := 0) rfl (by kernel_rfl) (by kernel_rfl) (by kernel_rfl) (fun _ _ _ h => h) (Or.inl ⟨by rfl, ?_⟩) hHeld ?_
          rotate_left
          · intro W hSw
            have hSv : W.cell? ⟨wb, k, none⟩ = some (.pointer (some ⟨t k, 0, none⟩)) := hSw
            clear hSw
            skip
            simp only [List.getElem_toArray, List.getElem_cons_zero]
            go_simp
            all_goals with_reducible rfl
          simp only [List.getElem_toArray, List.getElem_cons_zero, Act.put, List.setIfInBounds_toArray, List.set_cons_zero, List.set_cons_succ]
          refine' wpAnyH_take (i := 1) rfl (by kernel_rfl) (by kernel_rfl) (by kernel_rfl) (fun _ _ _ h => h) (Or.inl ⟨by rfl, ?_⟩) hHeld ?_
          rotate_left
          · intro W hSw
            have hSv : W.cell? ⟨wb, k, none⟩ = some (.pointer (some ⟨t k, 0, none⟩)) := hSw
            clear hSw
            skip
            simp only [List.getElem_toArray, List.getElem_cons_zero, List.getElem_cons_succ]
            go_simp
            all_goals with_reducible rfl
          simp only [List.getElem_toArray, List.getElem_cons_zero, List.getElem_cons_succ, Act.put, List.setIfInBounds_toArray, List.set_cons_zero, List.set_cons_succ]
          refine' wpAnyH_take (i := 2) rfl (by kernel_rfl) (by kernel_rfl) (by kernel_rfl) (fun _ _ _ h => h) (Or.inl ⟨by rfl, ?_⟩) hHeld ?_
          rotate_left
          · intro W hSw
            have hSv : W.cell? ⟨wb, k, none⟩ = some (.pointer (some ⟨t k, 0, none⟩)) := hSw
            clear hSw
            skip
            simp only [List.getElem_toArray, List.getElem_cons_zero, List.getElem_cons_succ]
            go_simp
            all_goals with_reducible rfl
          simp only [List.getElem_toArray, List.getElem_cons_zero, List.getElem_cons_succ, Act.put, List.setIfInBounds_toArray, List.set_cons_zero, List.set_cons_succ]
          refine' wpAnyH_take (i := 3) rfl (by kernel_rfl) (by kernel_rfl) (by kernel_rfl) (fun _ _ _ h => h) (Or.inl ⟨by rfl, ?_⟩) hHeld ?_
          rotate_left
          · intro W hSw
            have hSv : W.cell? ⟨wb, k, none⟩ = some (.pointer (some ⟨t k, 0, none⟩)) := hSw
            clear hSw
            skip
            simp only [List.getElem_toArray, List.getElem_cons_zero, List.getElem_cons_succ]
            go_simp
            all_goals with_reducible rfl
          simp only [List.getElem_toArray, List.getElem_cons_zero, List.getElem_cons_succ, Act.put, List.setIfInBounds_toArray, List.set_cons_zero, List.set_cons_succ]
          refine' wpAnyH_take (i := 5) rfl (by kernel_rfl) (by kernel_rfl) (by kernel_rfl) (fun _ _ _ h => h) (Or.inl ⟨by rfl, ?_⟩) hHeld ?_
          rotate_left
          · intro W hSw
            have hSv : W.cell? ⟨wb, k, none⟩ = some (.pointer (some ⟨t k, 0, none⟩)) := hSw
            clear hSw
            skip
            simp only [List.getElem_toArray, List.getElem_cons_zero, List.getElem_cons_succ]
            go_simp
            all_goals with_reducible rfl
          simp only [List.getElem_toArray, List.getElem_cons_zero, List.getElem_cons_succ, Act.put, List.setIfInBounds_toArray, List.set_cons_zero, List.set_cons_succ]
          refine' wpAnyH_take (i := 6) rfl (by kernel_rfl) (by kernel_rfl) (by kernel_rfl) (fun _ _ _ h => h) (Or.inl ⟨by rfl, ?_⟩) hHeld ?_
          rotate_left
          · intro W hSw
            have hSv : W.cell? ⟨wb, k, none⟩ = some (.pointer (some ⟨t k, 0, none⟩)) := hSw
            clear hSw
            skip
            simp only [List.getElem_toArray, List.getElem_cons_zero, List.getElem_cons_succ]
            go_simp
            all_goals with_reducible rfl
          simp only [List.getElem_toArray, List.getElem_cons_zero, List.getElem_cons_succ, Act.put, List.setIfInBounds_toArray, List.set_cons_zero, List.set_cons_succ]
          refine' wpAnyH_take (i := 7) rfl (by kernel_rfl) (by kernel_rfl) (by kernel_rfl) (fun _ _ _ h => h) (Or.inl ⟨by rfl, ?_⟩) hHeld ?_
          rotate_left
          · intro W hSw
            have hSv : W.cell? ⟨wb, k, none⟩ = some (.pointer (some ⟨t k, 0, none⟩)) := hSw
            clear hSw
            skip
            simp only [List.getElem_toArray, List.getElem_cons_zero, List.getElem_cons_succ]
            go_simp
            all_goals with_reducible rfl
          simp only [List.getElem_toArray, List.getElem_cons_zero, List.getElem_cons_succ, Act.put, List.setIfInBounds_toArray, List.set_cons_zero, List.set_cons_succ]
          refine' wpAnyH_take (i := 8) rfl (by kernel_rfl) (by kernel_rfl) (by kernel_rfl) (fun _ _ _ h => h) (Or.inl ⟨by rfl, ?_⟩) hHeld ?_
          rotate_left
          · intro W hSw
            have hSv : W.cell? ⟨wb, k, none⟩ = some (.pointer (some ⟨t k, 0, none⟩)) := hSw
            clear hSw
            skip
            simp only [List.getElem_toArray, List.getElem_cons_zero, List.getElem_cons_succ]
            go_simp
            all_goals with_reducible rfl
          simp only [List.getElem_toArray, List.getElem_cons_zero, List.getElem_cons_succ, Act.put, List.setIfInBounds_toArray, List.set_cons_zero, List.set_cons_succ]
          refine' wpAnyH_take (i := 9) rfl (by kernel_rfl) (by kernel_rfl) (by kernel_rfl) (fun _ _ _ h => h) (Or.inl ⟨by rfl, ?_⟩) hHeld ?_
          rotate_left
          · intro W hSw
            have hSv : W.cell? ⟨wb, k, none⟩ = some (.pointer (some ⟨t k, 0, none⟩)) := hSw
            clear hSw
            skip
            simp only [List.getElem_toArray, List.getElem_cons_zero, List.getElem_cons_succ]
            go_simp
            all_goals with_reducible rfl
          simp only [List.getElem_toArray, List.getElem_cons_zero, List.getElem_cons_succ, Act.put, List.setIfInBounds_toArray, List.set_cons_zero, List.set_cons_succ]
          refine' wpAnyH_take (i := 10) rfl (by kernel_rfl) (by kernel_rfl) (by kernel_rfl) (fun _ _ _ h => h) (Or.inl ⟨by rfl, ?_⟩) hHeld ?_
          rotate_left
          · intro W hSw
            have hSv : W.cell? ⟨wb, k, none⟩ = some (.pointer (some ⟨t k, 0, none⟩)) := hSw
            clear hSw
            skip
            simp only [List.getElem_toArray, List.getElem_cons_zero, List.getElem_cons_succ]
            go_simp
            all_goals with_reducible rfl
          simp only [List.getElem_toArray, List.getElem_cons_zero, List.getElem_cons_succ, Act.put, List.setIfInBounds_toArray, List.set_cons_zero, List.set_cons_succ]
          refine wpAnyH_ready (rs := [4, 11]) (by kernel_rfl) (by simp) ?_
          refine AllReadyH.cons (o := _) rfl (fun K hK => ?_) (AllReadyH.cons (o := _) rfl (fun K hK => ?_) AllReadyH.nil)
          · simp only [List.getElem_toArray, List.getElem_cons_zero, List.getElem_cons_succ]
            go_simp
            refine hK.out _ _ hHeld (fun hHeld => ?_)
            clear hK K
            try simp only [Act.put, List.setIfInBounds_toArray, List.set_cons_zero, List.set_cons_succ]
            refine wpAnyH_ready (rs := [11]) (by kernel_rfl) (by simp) ?_
            refine AllReadyH.cons (o := _) rfl (fun K hK => ?_) AllReadyH.nil
            simp only [List.getElem_toArray, List.getElem_cons_zero, List.getElem_cons_succ]
            go_simp
            refine hK.out _ _ cxa.out (fun hHeld => ?_)
            clear hK K
            try simp only [Act.put, List.setIfInBounds_toArray, List.set_cons_zero, List.set_cons_succ]
            refine wpAnyH_ready (rs := [12]) (by kernel_rfl) (by simp) ?_
            refine AllReadyH.cons (o := _) rfl (fun K hK => ?_) AllReadyH.nil
            refine step_append_lies _ (by rfl) _ _ _ (by rfl) w.heap.size 24 j0 _ 1 8 Try.underlying28 hj0 hy0 hy1 hy2 rfl (by omega) (.slice ao1 m cap1) m (ptrs po) (by rfl) hrow ⟨W0.heap.size, 0, none⟩ 1 1 [.pointer (some ⟨t k, 0, none⟩)] (by rfl) (by rfl) (World.news_of_block (cs := #[.pointer (some ⟨t k, 0, none⟩)]) (t := 24) (fr := (0, 0)) (heap_new W0 _)) (by simp [Value.oneCell']) (by omega) (by unfold maxLen; omega) (by omega) hbs (W0.heap.size + 1) (by simp) ?_
            intro g1 cg1 W1 hown1 hgrow1 hat1 hlt1
            have z4 : W1.heap[wb]? = _ := hgrow1.block wb hwl1 (fun e => by have h8 := hP1.out.tgo wb e.symm; rw [hP1.out.wbt] at h8; omega)
            have y4 : W1.cell? ⟨wb, 4, none⟩ = _ := (World.cell?_of_block z4).trans hP1.out.cells.2.1
            have f4 : W1.frozen? ⟨wb, 4, none⟩ = false := (frozen_block z4).trans (hP1.out.cells.2.2.2 _)
            have x4 : W1.cell? ⟨wb, k, none⟩ = _ := (World.cell?_of_block z4).trans ((hP1.out.cells.1 k hk2).1)
            refine hK.out _ _ x4 (fun hHeld => ?_)
            clear hK K
            try simp only [Act.put, List.setIfInBounds_toArray]
            refine' wpAnyH_take (i := 13) rfl (by kernel_rfl) (by kernel_rfl) (by kernel_rfl) (fun _ _ _ h => h) (Or.inl ⟨by rfl, ?_⟩) hHeld ?_
            rotate_left
            · intro W hSw
              have hSv : W.cell? ⟨wb, k, none⟩ = some (.pointer (some ⟨t k, 0, none⟩)) := hSw
              clear hSw
              skip
              simp only [List.getElem_toArray, List.getElem_cons_zero, List.getElem_cons_succ]
              go_simp
              all_goals with_reducible rfl
            simp only [List.getElem_toArray, List.getElem_cons_zero, List.getElem_cons_succ, Act.put, List.setIfInBounds_toArray, List.set_cons_zero, List.set_cons_succ]
            refine' wpAnyH_take (i := 14) rfl (by kernel_rfl) (by kernel_rfl) (by kernel_rfl) (fun _ _ _ h => h) (Or.inl ⟨by rfl, ?_⟩) hHeld ?_
            rotate_left
            · intro W hSw
              have hSv : W.cell? ⟨wb, k, none⟩ = some (.pointer (some ⟨t k, 0, none⟩)) := hSw
              clear hSw
              skip
              simp only [List.getElem_toArray, List.getElem_cons_zero, List.getElem_cons_succ]
              go_simp
              all_goals with_reducible rfl
            simp only [List.getElem_toArray, List.getElem_cons_zero, List.getElem_cons_succ, Act.put, List.setIfInBounds_toArray, List.set_cons_zero, List.set_cons_succ]
            refine wpAnyH_ready (rs := [15]) (by kernel_rfl) (by simp) ?_
            refine AllReadyH.cons (o := _) rfl (fun K hK => ?_) AllReadyH.nil
            simp only [List.getElem_toArray, List.getElem_cons_zero, List.getElem_cons_succ]
            go_simp
            obtain ⟨τX, hPX', _, _, _⟩ := hP1.out.appo (b := t k) (g := g1) (cap := cg1) hgrow1 (by rw [hmh.out]; exact hown1) (hat1.elim Or.inl (fun e => Or.inr (by rw [e]; simp))) hlt1
            rw [hmh.out] at hPX'
            obtain ⟨YA, hYA⟩ : ∃ YA, W1.setCell ⟨wb, 4, none⟩ (.slice (some ⟨g1, 0, none⟩) (m + 1) cg1) = YA := ⟨_, rfl⟩
            rw [hYA] at hPX' ⊢
            refine hK.out _ _ ((hPX'.cells.1 k hk2).1) (fun _ => ?_)
            clear hK K
            try simp only [Act.put]
            refine wpAnyH_done (by kernel_rfl) ?_ _
            refine NoPanic.normal ?_
            have hPX := hid hPX'
            clear hYA hPX' hown1 hgrow1 hat1 hlt1 z4 y4 f4 x4 hrow hbs hwl1 hP1 cv cva cxa hHeld oW0 hP0
            go_wp2_with fail
            refine wp_region_noPanic ?_
            have cx := (hPX.out.cells.1 k hk2).2
            have cv := hPX.out.cells.2.2.1
            refine wp_region_held_drew (S := fun X => X.cell? ⟨wb, 2 + k, none⟩ = some (.pointer (some ⟨r k, 0, none⟩))) (by kernel_rfl) (((Old.refl YA).drewN 1).cell cx) (fun hHeld => ?_)
            obtain ⟨W0, hW0⟩ : ∃ W0, (YA).drew = W0 := ⟨_, rfl⟩
            have oW0 : Hid (Old YA W0) := by rw [← hW0]; exact (Old.refl YA).drewN 1
            rw [hW0] at hHeld ⊢
            replace cv := oW0.out.cell cv
            clear hW0 cx
            have hP1 := hid (hPX.out.olds (oW0.out.alloc (.cells #[.pointer (some ⟨r k, 0, none⟩)] 26)))
            have cva := ((Old.refl W0).alloc (.cells #[.pointer (some ⟨r k, 0, none⟩)] 26)).cell cv
            have cxa := hid (((Old.refl W0).alloc (.cells #[.pointer (some ⟨r k, 0, none⟩)] 26)).cell hHeld)
            have hrow := hP1.out.roww
            rw [hmh2.out] at hrow
            have hbs := hP1.out.old.size
            have hwl1 := (hP1.out.bnd wb (by rw [hP1.out.wbt]; omega)).2
            refine' wpAnyH_take (i := 0) rfl (by kernel_rfl) (by kernel_rfl) (by kernel_rfl) (fun _ _ _ h => h) (Or.inl ⟨by rfl, ?_⟩) hHeld ?_
            rotate_left
            · intro W hSw
              have hSv : W.cell? ⟨wb, 2 + k, none⟩ = some (.pointer (some ⟨r k, 0, none⟩)) := hSw
              clear hSw
              skip
              simp only [List.getElem_toArray, List.getElem_cons_zero]
              go_simp
              all_goals with_reducible rfl
            simp only [List.getElem_toArray, List.getElem_cons_zero, Act.put, List.setIfInBounds_toArray, List.set_cons_zero, List.set_cons_succ]
            refine' wpAnyH_take (i := 1) rfl (by kernel_rfl) (by kernel_rfl) (by kernel_rfl) (fun _ _ _ h => h) (Or.inl ⟨by rfl, ?_⟩) hHeld ?_
            rotate_left
            · intro W hSw
              have hSv : W.cell? ⟨wb, 2 + k, none⟩ = some (.pointer (some ⟨r k, 0, none⟩)) := hSw
              clear hSw
              skip
              simp only [List.getElem_toArray, List.getElem_cons_zero, List.getElem_cons_succ]
              go_simp
              all_goals with_reducible rfl
            simp only [List.getElem_toArray, List.getElem_cons_zero, List.getElem_cons_succ, Act.put, List.setIfInBounds_toArray, List.set_cons_zero, List.set_cons_succ]
            refine' wpAnyH_take (i := 2) rfl (by kernel_rfl) (by kernel_rfl) (by kernel_rfl) (fun _ _ _ h => h) (Or.inl ⟨by rfl, ?_⟩) hHeld ?_
            rotate_left
            · intro W hSw
              have hSv : W.cell? ⟨wb, 2 + k, none⟩ = some (.pointer (some ⟨r k, 0, none⟩)) := hSw
              clear hSw
              skip
              simp only [List.getElem_toArray, List.getElem_cons_zero, List.getElem_cons_succ]
              go_simp
              all_goals with_reducible rfl
            simp only [List.getElem_toArray, List.getElem_cons_zero, List.getElem_cons_succ, Act.put, List.setIfInBounds_toArray, List.set_cons_zero, List.set_cons_succ]
            refine' wpAnyH_take (i := 3) rfl (by kernel_rfl) (by kernel_rfl) (by kernel_rfl) (fun _ _ _ h => h) (Or.inl ⟨by rfl, ?_⟩) hHeld ?_
            rotate_left
            · intro W hSw
              have hSv : W.cell? ⟨wb, 2 + k, none⟩ = some (.pointer (some ⟨r k, 0, none⟩)) := hSw
              clear hSw
              skip
              simp only [List.getElem_toArray, List.getElem_cons_zero, List.getElem_cons_succ]
              go_simp
              all_goals with_reducible rfl
            simp only [List.getElem_toArray, List.getElem_cons_zero, List.getElem_cons_succ, Act.put, List.setIfInBounds_toArray, List.set_cons_zero, List.set_cons_succ]
            refine' wpAnyH_take (i := 5) rfl (by kernel_rfl) (by kernel_rfl) (by kernel_rfl) (fun _ _ _ h => h) (Or.inl ⟨by rfl, ?_⟩) hHeld ?_
            rotate_left
            · intro W hSw
              have hSv : W.cell? ⟨wb, 2 + k, none⟩ = some (.pointer (some ⟨r k, 0, none⟩)) := hSw
              clear hSw
              skip
              simp only [List.getElem_toArray, List.getElem_cons_zero, List.getElem_cons_succ]
              go_simp
              all_goals with_reducible rfl
            simp only [List.getElem_toArray, List.getElem_cons_zero, List.getElem_cons_succ, Act.put, List.setIfInBounds_toArray, List.set_cons_zero, List.set_cons_succ]
            refine' wpAnyH_take (i := 6) rfl (by kernel_rfl) (by kernel_rfl) (by kernel_rfl) (fun _ _ _ h => h) (Or.inl ⟨by rfl, ?_⟩) hHeld ?_
            rotate_left
            · intro W hSw
              have hSv : W.cell? ⟨wb, 2 + k, none⟩ = some (.pointer (some ⟨r k, 0, none⟩)) := hSw
              clear hSw
              skip
              simp only [List.getElem_toArray, List.getElem_cons_zero, List.getElem_cons_succ]
              go_simp
              all_goals with_reducible rfl
            simp only [List.getElem_toArray, List.getElem_cons_zero, List.getElem_cons_succ, Act.put, List.setIfInBounds_toArray, List.set_cons_zero, List.set_cons_succ]
            refine' wpAnyH_take (i := 7) rfl (by kernel_rfl) (by kernel_rfl) (by kernel_rfl) (fun _ _ _ h => h) (Or.inl ⟨by rfl, ?_⟩) hHeld ?_
            rotate_left
            · intro W hSw
              have hSv : W.cell? ⟨wb, 2 + k, none⟩ = some (.pointer (some ⟨r k, 0, none⟩)) := hSw
              clear hSw
              skip
              simp only [List.getElem_toArray, List.getElem_cons_zero, List.getElem_cons_succ]
              go_simp
              all_goals with_reducible rfl
            simp only [List.getElem_toArray, List.getElem_cons_zero, List.getElem_cons_succ, Act.put, List.setIfInBounds_toArray, List.set_cons_zero, List.set_cons_succ]
            refine' wpAnyH_take (i := 8) rfl (by kernel_rfl) (by kernel_rfl) (by kernel_rfl) (fun _ _ _ h => h) (Or.inl ⟨by rfl, ?_⟩) hHeld ?_
            rotate_left
            · intro W hSw
              have hSv : W.cell? ⟨wb, 2 + k, none⟩ = some (.pointer (some ⟨r k, 0, none⟩)) := hSw
              clear hSw
              skip
              simp only [List.getElem_toArray, List.getElem_cons_zero, List.getElem_cons_succ]
              go_simp
              all_goals with_reducible rfl
            simp only [List.getElem_toArray, List.getElem_cons_zero, List.getElem_cons_succ, Act.put, List.setIfInBounds_toArray, List.set_cons_zero, List.set_cons_succ]
            refine' wpAnyH_take (i := 9) rfl (by kernel_rfl) (by kernel_rfl) (by kernel_rfl) (fun _ _ _ h => h) (Or.inl ⟨by rfl, ?_⟩) hHeld ?_
            rotate_left
            · intro W hSw
              have hSv : W.cell? ⟨wb, 2 + k, none⟩ = some (.pointer (some ⟨r k, 0, none⟩)) := hSw
              clear hSw
              skip
              simp only [List.getElem_toArray, List.getElem_cons_zero, List.getElem_cons_succ]
              go_simp
              all_goals with_reducible rfl
            simp only [List.getElem_toArray, List.getElem_cons_zero, List.getElem_cons_succ, Act.put, List.setIfInBounds_toArray, List.set_cons_zero, List.set_cons_succ]
            refine' wpAnyH_take (i := 10) rfl (by kernel_rfl) (by kernel_rfl) (by kernel_rfl) (fun _ _ _ h => h) (Or.inl ⟨by rfl, ?_⟩) hHeld ?_
            rotate_left
            · intro W hSw
              have hSv : W.cell? ⟨wb, 2 + k, none⟩ = some (.pointer (some ⟨r k, 0, none⟩)) := hSw
              clear hSw
              skip
              simp only [List.getElem_toArray, List.getElem_cons_zero, List.getElem_cons_succ]
              go_simp
              all_goals with_reducible rfl
            simp only [List.getElem_toArray, List.getElem_cons_zero, List.getElem_cons_succ, Act.put, List.setIfInBounds_toArray, List.set_cons_zero, List.set_cons_succ]
            refine wpAnyH_ready (rs := [4, 11]) (by kernel_rfl) (by simp) ?_
            refine AllReadyH.cons (o := _) rfl (fun K hK => ?_) (AllReadyH.cons (o := _) rfl (fun K hK => ?_) AllReadyH.nil)
            · simp only [List.getElem_toArray, List.getElem_cons_zero, List.getElem_cons_succ]
              go_simp
              refine hK.out _ _ hHeld (fun hHeld => ?_)
              clear hK K
              try simp only [Act.put, List.setIfInBounds_toArray, List.set_cons_zero, List.set_cons_succ]
              refine wpAnyH_ready (rs := [11]) (by kernel_rfl) (by simp) ?_
              refine AllReadyH.cons (o := _) rfl (fun K hK => ?_) AllReadyH.nil
              simp only [List.getElem_toArray, List.getElem_cons_zero, List.getElem_cons_succ]
              go_simp
              refine hK.out _ _ cxa.out (fun hHeld => ?_)
              clear hK K
              try simp only [Act.put, List.setIfInBounds_toArray, List.set_cons_zero, List.set_cons_succ]
              refine wpAnyH_ready (rs := [12]) (by kernel_rfl) (by simp) ?_
              refine AllReadyH.cons (o := _) rfl (fun K hK => ?_) AllReadyH.nil
              refine step_append_lies _ (by rfl) _ _ _ (by rfl) w.heap.size 26 j1 _ 1 8 Try.underlying29 hj1 hv0 hv1 hv2 rfl (by omega) (.slice ao2 m cap2) m (ptrs pw) (by rfl) hrow ⟨W0.heap.size, 0, none⟩ 1 1 [.pointer (some ⟨r k, 0, none⟩)] (by rfl) (by rfl) (World.news_of_block (cs := #[.pointer (some ⟨r k, 0, none⟩)]) (t := 26) (fr := (0, 0)) (heap_new W0 _)) (by simp [Value.oneCell']) (by omega) (by unfold maxLen; omega) (by omega) hbs (W0.heap.size + 1) (by simp) ?_
              intro g1 cg1 W1 hown1 hgrow1 hat1 hlt1
              have z4 : W1.heap[wb]? = _ := hgrow1.block wb hwl1 (fun e => by have h8 := hP1.out.tgw wb e.symm; rw [hP1.out.wbt] at h8; omega)
              have y4 : W1.cell? ⟨wb, 5, none⟩ = _ := (World.cell?_of_block z4).trans hP1.out.cells.2.2.1
              have f4 : W1.frozen? ⟨wb, 5, none⟩ = false := (frozen_block z4).trans (hP1.out.cells.2.2.2 _)
              have x4 : W1.cell? ⟨wb, 2 + k, none⟩ = _ := (World.cell?_of_block z4).trans ((hP1.out.cells.1 k hk2).2)
              refine hK.out _ _ x4 (fun hHeld => ?_)
              clear hK K
              try simp only [Act.put, List.setIfInBounds_toArray]
              refine' wpAnyH_take (i := 13) rfl (by kernel_rfl) (by kernel_rfl) (by kernel_rfl) (fun _ _ _ h => h) (Or.inl ⟨by rfl, ?_⟩) hHeld ?_
              rotate_left
              · intro W hSw
                have hSv : W.cell? ⟨wb, 2 + k, none⟩ = some (.pointer (some ⟨r k, 0, none⟩)) := hSw
                clear hSw
                skip
                simp only [List.getElem_toArray, List.getElem_cons_zero, List.getElem_cons_succ]
                go_simp
                all_goals with_reducible rfl
              simp only [List.getElem_toArray, List.getElem_cons_zero, List.getElem_cons_succ, Act.put, List.setIfInBounds_toArray, List.set_cons_zero, List.set_cons_succ]
              refine' wpAnyH_take (i := 14) rfl (by kernel_rfl) (by kernel_rfl) (by kernel_rfl) (fun _ _ _ h => h) (Or.inl ⟨by rfl, ?_⟩) hHeld ?_
              rotate_left
              · intro W hSw
                have hSv : W.cell? ⟨wb, 2 + k, none⟩ = some (.pointer (some ⟨r k, 0, none⟩)) := hSw
                clear hSw
                skip
                simp only [List.getElem_toArray, List.getElem_cons_zero, List.getElem_cons_succ]
                go_simp
                all_goals with_reducible rfl
              simp only [List.getElem_toArray, List.getElem_cons_zero, List.getElem_cons_succ, Act.put, List.setIfInBounds_toArray, List.set_cons_zero, List.set_cons_succ]
              refine wpAnyH_ready (rs := [15]) (by kernel_rfl) (by simp) ?_
              refine AllReadyH.cons (o := _) rfl (fun K hK => ?_) AllReadyH.nil
              simp only [List.getElem_toArray, List.getElem_cons_zero, List.getElem_cons_succ]
              go_simp
              obtain ⟨τX, hPX', _, _, _⟩ := hP1.out.appw (b := r k) (g := g1) (cap := cg1) hgrow1 (by rw [hmh2.out]; exact hown1) (hat1.elim Or.inl (fun e => Or.inr (by rw [e]; simp))) hlt1
              rw [hmh2.out] at hPX'
              obtain ⟨YB, hYB⟩ : ∃ YB, W1.setCell ⟨wb, 5, none⟩ (.slice (some ⟨g1, 0, none⟩) (m + 1) cg1) = YB := ⟨_, rfl⟩
              rw [hYB] at hPX' ⊢
              refine hK.out _ _ ((hPX'.cells.1 k hk2).2) (fun _ => ?_)
              clear hK K
              try simp only [Act.put]
              refine wpAnyH_done (by kernel_rfl) ?_ _
              refine NoPanic.normal ?_
              have hYn := hid (hfin.out _ _ _ _ hPX')
              clear hYB hPX' hown1 hgrow1 hat1 hlt1 z4 y4 f4 x4 hrow hbs hwl1 hP1 cv cva cxa hHeld oW0 hPX
              go_wp2_with fail
              go_roundw
              case rel => exact ⟨k + 1, by omega, by go_num, hYn.out⟩
              case measure => simp [intOf]; omega
            · simp only [List.getElem_toArray, List.getElem_cons_zero, List.getElem_cons_succ]
              go_simp
              refine hK.out _ _ cxa.out (fun hHeld => ?_)
              clear hK K
              try simp only [Act.put, List.setIfInBounds_toArray, List.set_cons_zero, List.set_cons_succ]
              refine wpAnyH_ready (rs := [4]) (by kernel_rfl) (by simp) ?_
              refine AllReadyH.cons (o := _) rfl (fun K hK => ?_) AllReadyH.nil
              simp only [List.getElem_toArray, List.getElem_cons_zero, List.getElem_cons_succ]
              go_simp
              refine hK.out _ _ hHeld (fun hHeld => ?_)
              clear hK K
              try simp only [Act.put, List.setIfInBounds_toArray, List.set_cons_zero, List.set_cons_succ]
              refine wpAnyH_ready (rs := [12]) (by kernel_rfl) (by simp) ?_
              refine AllReadyH.cons (o := _) rfl (fun K hK => ?_) AllReadyH.nil
              refine step_append_lies _ (by rfl) _ _ _ (by rfl) w.heap.size 26 j1 _ 1 8 Try.underlying29 hj1 hv0 hv1 hv2 rfl (by omega) (.slice ao2 m cap2) m (ptrs pw) (by rfl) hrow ⟨W0.heap.size, 0, none⟩ 1 1 [.pointer (some ⟨r k, 0, none⟩)] (by rfl) (by rfl) (World.news_of_block (cs := #[.pointer (some ⟨r k, 0, none⟩)]) (t := 26) (fr := (0, 0)) (heap_new W0 _)) (by simp [Value.oneCell']) (by omega) (by unfold maxLen; omega) (by omega) hbs (W0.heap.size + 1) (by simp) ?_
              intro g1 cg1 W1 hown1 hgrow1 hat1 hlt1
              have z4 : W1.heap[wb]? = _ := hgrow1.block wb hwl1 (fun e => by have h8 := hP1.out.tgw wb e.symm; rw [hP1.out.wbt] at h8; omega)
              have y4 : W1.cell? ⟨wb, 5, none⟩ = _ := (World.cell?_of_block z4).trans hP1.out.cells.2.2.1
              have f4 : W1.frozen? ⟨wb, 5, none⟩ = false := (frozen_block z4).trans (hP1.out.cells.2.2.2 _)
              have x4 : W1.cell? ⟨wb, 2 + k, none⟩ = _ := (World.cell?_of_block z4).trans ((hP1.out.cells.1 k hk2).2)
              refine hK.out _ _ x4 (fun hHeld => ?_)
              clear hK K
              try simp only [Act.put, List.setIfInBounds_toArray]
              refine' wpAnyH_take (i := 13) rfl (by kernel_rfl) (by kernel_rfl) (by kernel_rfl) (fun _ _ _ h => h) (Or.inl ⟨by rfl, ?_⟩) hHeld ?_
              rotate_left
              · intro W hSw
                have hSv : W.cell? ⟨wb, 2 + k, none⟩ = some (.pointer (some ⟨r k, 0, none⟩)) := hSw
                clear hSw
                skip
                simp only [List.getElem_toArray, List.getElem_cons_zero, List.getElem_cons_succ]
                go_simp
                all_goals with_reducible rfl
              simp only [List.getElem_toArray, List.getElem_cons_zero, List.getElem_cons_succ, Act.put, List.setIfInBounds_toArray, List.set_cons_zero, List.set_cons_succ]
              refine' wpAnyH_take (i := 14) rfl (by kernel_rfl) (by kernel_rfl) (by kernel_rfl) (fun _ _ _ h => h) (Or.inl ⟨by rfl, ?_⟩) hHeld ?_
              rotate_left
              · intro W hSw
                have hSv : W.cell? ⟨wb, 2 + k, none⟩ = some (.pointer (some ⟨r k, 0, none⟩)) := hSw
                clear hSw
                skip
                simp only [List.getElem_toArray, List.getElem_cons_zero, List.getElem_cons_succ]
                go_simp
                all_goals with_reducible rfl
              simp only [List.getElem_toArray, List.getElem_cons_zero, List.getElem_cons_succ, Act.put, List.setIfInBounds_toArray, List.set_cons_zero, List.set_cons_succ]
              refine wpAnyH_ready (rs := [15]) (by kernel_rfl) (by simp) ?_
              refine AllReadyH.cons (o := _) rfl (fun K hK => ?_) AllReadyH.nil
              simp only [List.getElem_toArray, List.getElem_cons_zero, List.getElem_cons_succ]
              go_simp
              obtain ⟨τX, hPX', _, _, _⟩ := hP1.out.appw (b := r k) (g := g1) (cap := cg1) hgrow1 (by rw [hmh2.out]; exact hown1) (hat1.elim Or.inl (fun e => Or.inr (by rw [e]; simp))) hlt1
              rw [hmh2.out] at hPX'
              obtain ⟨YB, hYB⟩ : ∃ YB, W1.setCell ⟨wb, 5, none⟩ (.slice (some ⟨g1, 0, none⟩) (m + 1) cg1) = YB := ⟨_, rfl⟩
              rw [hYB] at hPX' ⊢
              refine hK.out _ _ ((hPX'.cells.1 k hk2).2) (fun _ => ?_)
              clear hK K
              try simp only [Act.put]
              refine wpAnyH_done (by kernel_rfl) ?_ _
              refine NoPanic.normal ?_
              have hYn := hid (hfin.out _ _ _ _ hPX')
              clear hYB hPX' hown1 hgrow1 hat1 hlt1 z4 y4 f4 x4 hrow hbs hwl1 hP1 cv cva cxa hHeld oW0 hPX
              go_wp2_with fail
              go_roundw
              case rel => exact ⟨k + 1, by omega, by go_num, hYn.out⟩
              case measure => simp [intOf]; omega
          · simp only [List.getElem_toArray, List.getElem_cons_zero, List.getElem_cons_succ]
            go_simp
            refine hK.out _ _ cxa.out (fun hHeld => ?_)
            clear hK K
            try simp only [Act.put, List.setIfInBounds_toArray, List.set_cons_zero, List.set_cons_succ]
            refine wpAnyH_ready (rs := [4]) (by kernel_rfl) (by simp) ?_
            refine AllReadyH.cons (o := _) rfl (fun K hK => ?_) AllReadyH.nil
            simp only [List.getElem_toArray, List.getElem_cons_zero, List.getElem_cons_succ]
            go_simp
            refine hK.out _ _ hHeld (fun hHeld => ?_)
            clear hK K
            try simp only [Act.put, List.setIfInBounds_toArray, List.set_cons_zero, List.set_cons_succ]
            refine wpAnyH_ready (rs := [12]) (by kernel_rfl) (by simp) ?_
            refine AllReadyH.cons (o := _) rfl (fun K hK => ?_) AllReadyH.nil
            refine step_append_lies _ (by rfl) _ _ _ (by rfl) w.heap.size 24 j0 _ 1 8 Try.underlying28 hj0 hy0 hy1 hy2 rfl (by omega) (.slice ao1 m cap1) m (ptrs po) (by rfl) hrow ⟨W0.heap.size, 0, none⟩ 1 1 [.pointer (some ⟨t k, 0, none⟩)] (by rfl) (by rfl) (World.news_of_block (cs := #[.pointer (some ⟨t k, 0, none⟩)]) (t := 24) (fr := (0, 0)) (heap_new W0 _)) (by simp [Value.oneCell']) (by omega) (by unfold maxLen; omega) (by omega) hbs (W0.heap.size + 1) (by simp) ?_
            intro g1 cg1 W1 hown1 hgrow1 hat1 hlt1
            have z4 : W1.heap[wb]? = _ := hgrow1.block wb hwl1 (fun e => by have h8 := hP1.out.tgo wb e.symm; rw [hP1.out.wbt] at h8; omega)
            have y4 : W1.cell? ⟨wb, 4, none⟩ = _ := (World.cell?_of_block z4).trans hP1.out.cells.2.1
            have f4 : W1.frozen? ⟨wb, 4, none⟩ = false := (frozen_block z4).trans (hP1.out.cells.2.2.2 _)
            have x4 : W1.cell? ⟨wb, k, none⟩ = _ := (World.cell?_of_block z4).trans ((hP1.out.cells.1 k hk2).1)
            refine hK.out _ _ x4 (fun hHeld => ?_)
            clear hK K
            try simp only [Act.put, List.setIfInBounds_toArray]
            refine' wpAnyH_take (i := 13) rfl (by kernel_rfl) (by kernel_rfl) (by kernel_rfl) (fun _ _ _ h => h) (Or.inl ⟨by rfl, ?_⟩) hHeld ?_
            rotate_left
            · intro W hSw
              have hSv : W.cell? ⟨wb, k, none⟩ = some (.pointer (some ⟨t k, 0, none⟩)) := hSw
              clear hSw
              skip
              simp only [List.getElem_toArray, List.getElem_cons_zero, List.getElem_cons_succ]
              go_simp
              all_goals with_reducible rfl
            simp only [List.getElem_toArray, List.getElem_cons_zero, List.getElem_cons_succ, Act.put, List.setIfInBounds_toArray, List.set_cons_zero, List.set_cons_succ]
            refine' wpAnyH_take (i := 14) rfl (by kernel_rfl) (by kernel_rfl) (by kernel_rfl) (fun _ _ _ h => h) (Or.inl ⟨by rfl, ?_⟩) hHeld ?_
            rotate_left
            · intro W hSw
              have hSv : W.cell? ⟨wb, k, none⟩ = some (.pointer (some ⟨t k, 0, none⟩)) := hSw
              clear hSw
              skip
              simp only [List.getElem_toArray, List.getElem_cons_zero, List.getElem_cons_succ]
              go_simp
              all_goals with_reducible rfl
            simp only [List.getElem_toArray, List.getElem_cons_zero, List.getElem_cons_succ, Act.put, List.setIfInBounds_toArray, List.set_cons_zero, List.set_cons_succ]
            refine wpAnyH_ready (rs := [15]) (by kernel_rfl) (by simp) ?_
            refine AllReadyH.cons (o := _) rfl (fun K hK => ?_) AllReadyH.nil
            simp only [List.getElem_toArray, List.getElem_cons_zero, List.getElem_cons_succ]
            go_simp
            obtain ⟨τX, hPX', _, _, _⟩ := hP1.out.appo (b := t k) (g := g1) (cap := cg1) hgrow1 (by rw [hmh.out]; exact hown1) (hat1.elim Or.inl (fun e => Or.inr (by rw [e]; simp))) hlt1
            rw [hmh.out] at hPX'
            obtain ⟨YA, hYA⟩ : ∃ YA, W1.setCell ⟨wb, 4, none⟩ (.slice (some ⟨g1, 0, none⟩) (m + 1) cg1) = YA := ⟨_, rfl⟩
            rw [hYA] at hPX' ⊢
            refine hK.out _ _ ((hPX'.cells.1 k hk2).1) (fun _ => ?_)
            clear hK K
            try simp only [Act.put]
            refine wpAnyH_done (by kernel_rfl) ?_ _
            refine NoPanic.normal ?_
            have hPX := hid hPX'
            clear hYA hPX' hown1 hgrow1 hat1 hlt1 z4 y4 f4 x4 hrow hbs hwl1 hP1 cv cva cxa hHeld oW0 hP0
            go_wp2_with fail
            refine wp_region_noPanic ?_
            have cx := (hPX.out.cells.1 k hk2).2
            have cv := hPX.out.cells.2.2.1
            refine wp_region_held_drew (S := fun X => X.cell? ⟨wb, 2 + k, none⟩ = some (.pointer (some ⟨r k, 0, none⟩))) (by kernel_rfl) (((Old.refl YA).drewN 1).cell cx) (fun hHeld => ?_)
            obtain ⟨W0, hW0⟩ : ∃ W0, (YA).drew = W0 := ⟨_, rfl⟩
            have oW0 : Hid (Old YA W0) := by rw [← hW0]; exact (Old.refl YA).drewN 1
            rw [hW0] at hHeld ⊢
            replace cv := oW0.out.cell cv
            clear hW0 cx
            have hP1 := hid (hPX.out.olds (oW0.out.alloc (.cells #[.pointer (some ⟨r k, 0, none⟩)] 26)))
            have cva := ((Old.refl W0).alloc (.cells #[.pointer (some ⟨r k, 0, none⟩)] 26)).cell cv
            have cxa := hid (((Old.refl W0).alloc (.cells #[.pointer (some ⟨r k, 0, none⟩)] 26)).cell hHeld)
            have hrow := hP1.out.roww
            rw [hmh2.out] at hrow
            have hbs := hP1.out.old.size
            have hwl1 := (hP1.out.bnd wb (by rw [hP1.out.wbt]; omega)).2
            refine' wpAnyH_take (i := 0) rfl (by kernel_rfl) (by kernel_rfl) (by kernel_rfl) (fun _ _ _ h => h) (Or.inl ⟨by rfl, ?_⟩) hHeld ?_
            rotate_left
            · intro W hSw
              have hSv : W.cell? ⟨wb, 2 + k, none⟩ = some (.pointer (some ⟨r k, 0, none⟩)) := hSw
              clear hSw
              skip
              simp only [List.getElem_toArray, List.getElem_cons_zero]
              go_simp
              all_goals with_reducible rfl
            simp only [List.getElem_toArray, List.getElem_cons_zero, Act.put, List.setIfInBounds_toArray, List.set_cons_zero, List.set_cons_succ]
            refine' wpAnyH_take (i := 1) rfl (by kernel_rfl) (by kernel_rfl) (by kernel_rfl) (fun _ _ _ h => h) (Or.inl ⟨by rfl, ?_⟩) hHeld ?_
            rotate_left
            · intro W hSw
              have hSv : W.cell? ⟨wb, 2 + k, none⟩ = some (.pointer (some ⟨r k, 0, none⟩)) := hSw
              clear hSw
              skip
              simp only [List.getElem_toArray, List.getElem_cons_zero, List.getElem_cons_succ]
              go_simp
              all_goals with_reducible rfl
            simp only [List.getElem_toArray, List.getElem_cons_zero, List.getElem_cons_succ, Act.put, List.setIfInBounds_toArray, List.set_cons_zero, List.set_cons_succ]
            refine' wpAnyH_take (i := 2) rfl (by kernel_rfl) (by kernel_rfl) (by kernel_rfl) (fun _ _ _ h => h) (Or.inl ⟨by rfl, ?_⟩) hHeld ?_
            rotate_left
            · intro W hSw
              have hSv : W.cell? ⟨wb, 2 + k, none⟩ = some (.pointer (some ⟨r k, 0, none⟩)) := hSw
              clear hSw
              skip
              simp only [List.getElem_toArray, List.getElem_cons_zero, List.getElem_cons_succ]
              go_simp
              all_goals with_reducible rfl
            simp only [List.getElem_toArray, List.getElem_cons_zero, List.getElem_cons_succ, Act.put, List.setIfInBounds_toArray, List.set_cons_zero, List.set_cons_succ]
            refine' wpAnyH_take (i := 3) rfl (by kernel_rfl) (by kernel_rfl) (by kernel_rfl) (fun _ _ _ h => h) (Or.inl ⟨by rfl, ?_⟩) hHeld ?_
            rotate_left
            · intro W hSw
              have hSv : W.cell? ⟨wb, 2 + k, none⟩ = some (.pointer (some ⟨r k, 0, none⟩)) := hSw
              clear hSw
              skip
              simp only [List.getElem_toArray, List.getElem_cons_zero, List.getElem_cons_succ]
              go_simp
              all_goals with_reducible rfl
            simp only [List.getElem_toArray, List.getElem_cons_zero, List.getElem_cons_succ, Act.put, List.setIfInBounds_toArray, List.set_cons_zero, List.set_cons_succ]
            refine' wpAnyH_take (i := 5) rfl (by kernel_rfl) (by kernel_rfl) (by kernel_rfl) (fun _ _ _ h => h) (Or.inl ⟨by rfl, ?_⟩) hHeld ?_
            rotate_left
            · intro W hSw
              have hSv : W.cell? ⟨wb, 2 + k, none⟩ = some (.pointer (some ⟨r k, 0, none⟩)) := hSw
              clear hSw
              skip
              simp only [List.getElem_toArray, List.getElem_cons_zero, List.getElem_cons_succ]
              go_simp
              all_goals with_reducible rfl
            simp only [List.getElem_toArray, List.getElem_cons_zero, List.getElem_cons_succ, Act.put, List.setIfInBounds_toArray, List.set_cons_zero, List.set_cons_succ]
            refine' wpAnyH_take (i := 6) rfl (by kernel_rfl) (by kernel_rfl) (by kernel_rfl) (fun _ _ _ h => h) (Or.inl ⟨by rfl, ?_⟩) hHeld ?_
            rotate_left
            · intro W hSw
              have hSv : W.cell? ⟨wb, 2 + k, none⟩ = some (.pointer (some ⟨r k, 0, none⟩)) := hSw
              clear hSw
              skip
              simp only [List.getElem_toArray, List.getElem_cons_zero, List.getElem_cons_succ]
              go_simp
              all_goals with_reducible rfl
            simp only [List.getElem_toArray, List.getElem_cons_zero, List.getElem_cons_succ, Act.put, List.setIfInBounds_toArray, List.set_cons_zero, List.set_cons_succ]
            refine' wpAnyH_take (i := 7) rfl (by kernel_rfl) (by kernel_rfl) (by kernel_rfl) (fun _ _ _ h => h) (Or.inl ⟨by rfl, ?_⟩) hHeld ?_
            rotate_left
            · intro W hSw
              have hSv : W.cell? ⟨wb, 2 + k, none⟩ = some (.pointer (some ⟨r k, 0, none⟩)) := hSw
              clear hSw
              skip
              simp only [List.getElem_toArray, List.getElem_cons_zero, List.getElem_cons_succ]
              go_simp
              all_goals with_reducible rfl
            simp only [List.getElem_toArray, List.getElem_cons_zero, List.getElem_cons_succ, Act.put, List.setIfInBounds_toArray, List.set_cons_zero, List.set_cons_succ]
            refine' wpAnyH_take (i := 8) rfl (by kernel_rfl) (by kernel_rfl) (by kernel_rfl) (fun _ _ _ h => h) (Or.inl ⟨by rfl, ?_⟩) hHeld ?_
            rotate_left
            · intro W hSw
              have hSv : W.cell? ⟨wb, 2 + k, none⟩ = some (.pointer (some ⟨r k, 0, none⟩)) := hSw
              clear hSw
              skip
              simp only [List.getElem_toArray, List.getElem_cons_zero, List.getElem_cons_succ]
              go_simp
              all_goals with_reducible rfl
            simp only [List.getElem_toArray, List.getElem_cons_zero, List.getElem_cons_succ, Act.put, List.setIfInBounds_toArray, List.set_cons_zero, List.set_cons_succ]
            refine' wpAnyH_take (i := 9) rfl (by kernel_rfl) (by kernel_rfl) (by kernel_rfl) (fun _ _ _ h => h) (Or.inl ⟨by rfl, ?_⟩) hHeld ?_
            rotate_left
            · intro W hSw
              have hSv : W.cell? ⟨wb, 2 + k, none⟩ = some (.pointer (some ⟨r k, 0, none⟩)) := hSw
              clear hSw
              skip
              simp only [List.getElem_toArray, List.getElem_cons_zero, List.getElem_cons_succ]
              go_simp
              all_goals with_reducible rfl
            simp only [List.getElem_toArray, List.getElem_cons_zero, List.getElem_cons_succ, Act.put, List.setIfInBounds_toArray, List.set_cons_zero, List.set_cons_succ]
            refine' wpAnyH_take (i := 10) rfl (by kernel_rfl) (by kernel_rfl) (by kernel_rfl) (fun _ _ _ h => h) (Or.inl ⟨by rfl, ?_⟩) hHeld ?_
            rotate_left
            · intro W hSw
              have hSv : W.cell? ⟨wb, 2 + k, none⟩ = some (.pointer (some ⟨r k, 0, none⟩)) := hSw
              clear hSw
              skip
              simp only [List.getElem_toArray, List.getElem_cons_zero, List.getElem_cons_succ]
              go_simp
              all_goals with_reducible rfl
            simp only [List.getElem_toArray, List.getElem_cons_zero, List.getElem_cons_succ, Act.put, List.setIfInBounds_toArray, List.set_cons_zero, List.set_cons_succ]
            refine wpAnyH_ready (rs := [4, 11]) (by kernel_rfl) (by simp) ?_
            refine AllReadyH.cons (o := _) rfl (fun K hK => ?_) (AllReadyH.cons (o := _) rfl (fun K hK => ?_) AllReadyH.nil)
            · simp only [List.getElem_toArray, List.getElem_cons_zero, List.getElem_cons_succ]
              go_simp
              refine hK.out _ _ hHeld (fun hHeld => ?_)
              clear hK K
              try simp only [Act.put, List.setIfInBounds_toArray, List.set_cons_zero, List.set_cons_succ]
              refine wpAnyH_ready (rs := [11]) (by kernel_rfl) (by simp) ?_
              refine AllReadyH.cons (o := _) rfl (fun K hK => ?_) AllReadyH.nil
              simp only [List.getElem_toArray, List.getElem_cons_zero, List.getElem_cons_succ]
              go_simp
              refine hK.out _ _ cxa.out (fun hHeld => ?_)
              clear hK K
              try simp only [Act.put, List.setIfInBounds_toArray, List.set_cons_zero, List.set_cons_succ]
              refine wpAnyH_ready (rs := [12]) (by kernel_rfl) (by simp) ?_
              refine AllReadyH.cons (o := _) rfl (fun K hK => ?_) AllReadyH.nil
              refine step_append_lies _ (by rfl) _ _ _ (by rfl) w.heap.size 26 j1 _ 1 8 Try.underlying29 hj1 hv0 hv1 hv2 rfl (by omega) (.slice ao2 m cap2) m (ptrs pw) (by rfl) hrow ⟨W0.heap.size, 0, none⟩ 1 1 [.pointer (some ⟨r k, 0, none⟩)] (by rfl) (by rfl) (World.news_of_block (cs := #[.pointer (some ⟨r k, 0, none⟩)]) (t := 26) (fr := (0, 0)) (heap_new W0 _)) (by simp [Value.oneCell']) (by omega) (by unfold maxLen; omega) (by omega) hbs (W0.heap.size + 1) (by simp) ?_
              intro g1 cg1 W1 hown1 hgrow1 hat1 hlt1
              have z4 : W1.heap[wb]? = _ := hgrow1.block wb hwl1 (fun e => by have h8 := hP1.out.tgw wb e.symm; rw [hP1.out.wbt] at h8; omega)
              have y4 : W1.cell? ⟨wb, 5, none⟩ = _ := (World.cell?_of_block z4).trans hP1.out.cells.2.2.1
              have f4 : W1.frozen? ⟨wb, 5, none⟩ = false := (frozen_block z4).trans (hP1.out.cells.2.2.2 _)
              have x4 : W1.cell? ⟨wb, 2 + k, none⟩ = _ := (World.cell?_of_block z4).trans ((hP1.out.cells.1 k hk2).2)
              refine hK.out _ _ x4 (fun hHeld => ?_)
              clear hK K
              try simp only [Act.put, List.setIfInBounds_toArray]
              refine' wpAnyH_take (i := 13) rfl (by kernel_rfl) (by kernel_rfl) (by kernel_rfl) (fun _ _ _ h => h) (Or.inl ⟨by rfl, ?_⟩) hHeld ?_
              rotate_left
              · intro W hSw
                have hSv : W.cell? ⟨wb, 2 + k, none⟩ = some (.pointer (some ⟨r k, 0, none⟩)) := hSw
                clear hSw
                skip
                simp only [List.getElem_toArray, List.getElem_cons_zero, List.getElem_cons_succ]
                go_simp
                all_goals with_reducible rfl
              simp only [List.getElem_toArray, List.getElem_cons_zero, List.getElem_cons_succ, Act.put, List.setIfInBounds_toArray, List.set_cons_zero, List.set_cons_succ]
              refine' wpAnyH_take (i := 14) rfl (by kernel_rfl) (by kernel_rfl) (by kernel_rfl) (fun _ _ _ h => h) (Or.inl ⟨by rfl, ?_⟩) hHeld ?_
              rotate_left
              · intro W hSw
                have hSv : W.cell? ⟨wb, 2 + k, none⟩ = some (.pointer (some ⟨r k, 0, none⟩)) := hSw
                clear hSw
                skip
                simp only [List.getElem_toArray, List.getElem_cons_zero, List.getElem_cons_succ]
                go_simp
                all_goals with_reducible rfl
              simp only [List.getElem_toArray, List.getElem_cons_zero, List.getElem_cons_succ, Act.put, List.setIfInBounds_toArray, List.set_cons_zero, List.set_cons_succ]
              refine wpAnyH_ready (rs := [15]) (by kernel_rfl) (by simp) ?_
              refine AllReadyH.cons (o := _) rfl (fun K hK => ?_) AllReadyH.nil
              simp only [List.getElem_toArray, List.getElem_cons_zero, List.getElem_cons_succ]
              go_simp
              obtain ⟨τX, hPX', _, _, _⟩ := hP1.out.appw (b := r k) (g := g1) (cap := cg1) hgrow1 (by rw [hmh2.out]; exact hown1) (hat1.elim Or.inl (fun e => Or.inr (by rw [e]; simp))) hlt1
              rw [hmh2.out] at hPX'
              obtain ⟨YB, hYB⟩ : ∃ YB, W1.setCell ⟨wb, 5, none⟩ (.slice (some ⟨g1, 0, none⟩) (m + 1) cg1) = YB := ⟨_, rfl⟩
              rw [hYB] at hPX' ⊢
              refine hK.out _ _ ((hPX'.cells.1 k hk2).2) (fun _ => ?_)
              clear hK K
              try simp only [Act.put]
              refine wpAnyH_done (by kernel_rfl) ?_ _
              refine NoPanic.normal ?_
              have hYn := hid (hfin.out _ _ _ _ hPX')
              clear hYB hPX' hown1 hgrow1 hat1 hlt1 z4 y4 f4 x4 hrow hbs hwl1 hP1 cv cva cxa hHeld oW0 hPX
              go_wp2_with fail
              go_roundw
              case rel => exact ⟨k + 1, by omega, by go_num, hYn.out⟩
              case measure => simp [intOf]; omega
            · simp only [List.getElem_toArray, List.getElem_cons_zero, List.getElem_cons_succ]
              go_simp
              refine hK.out _ _ cxa.out (fun hHeld => ?_)
              clear hK K
              try simp only [Act.put, List.setIfInBounds_toArray, List.set_cons_zero, List.set_cons_succ]
              refine wpAnyH_ready (rs := [4]) (by kernel_rfl) (by simp) ?_
              refine AllReadyH.cons (o := _) rfl (fun K hK => ?_) AllReadyH.nil
              simp only [List.getElem_toArray, List.getElem_cons_zero, List.getElem_cons_succ]
              go_simp
              refine hK.out _ _ hHeld (fun hHeld => ?_)
              clear hK K
              try simp only [Act.put, List.setIfInBounds_toArray, List.set_cons_zero, List.set_cons_succ]
              refine wpAnyH_ready (rs := [12]) (by kernel_rfl) (by simp) ?_
              refine AllReadyH.cons (o := _) rfl (fun K hK => ?_) AllReadyH.nil
              refine step_append_lies _ (by rfl) _ _ _ (by rfl) w.heap.size 26 j1 _ 1 8 Try.underlying29 hj1 hv0 hv1 hv2 rfl (by omega) (.slice ao2 m cap2) m (ptrs pw) (by rfl) hrow ⟨W0.heap.size, 0, none⟩ 1 1 [.pointer (some ⟨r k, 0, none⟩)] (by rfl) (by rfl) (World.news_of_block (cs := #[.pointer (some ⟨r k, 0, none⟩)]) (t := 26) (fr := (0, 0)) (heap_new W0 _)) (by simp [Value.oneCell']) (by omega) (by unfold maxLen; omega) (by omega) hbs (W0.heap.size + 1) (by simp) ?_
              intro g1 cg1 W1 hown1 hgrow1 hat1 hlt1
              have z4 : W1.heap[wb]? = _ := hgrow1.block wb hwl1 (fun e => by have h8 := hP1.out.tgw wb e.symm; rw [hP1.out.wbt] at h8; omega)
              have y4 : W1.cell? ⟨wb, 5, none⟩ = _ := (World.cell?_of_block z4).trans hP1.out.cells.2.2.1
              have f4 : W1.frozen? ⟨wb, 5, none⟩ = false := (frozen_block z4).trans (hP1.out.cells.2.2.2 _)
              have x4 : W1.cell? ⟨wb, 2 + k, none⟩ = _ := (World.cell?_of_block z4).trans ((hP1.out.cells.1 k hk2).2)
              refine hK.out _ _ x4 (fun hHeld => ?_)
              clear hK K
              try simp only [Act.put, List.setIfInBounds_toArray]
              refine' wpAnyH_take (i := 13) rfl (by kernel_rfl) (by kernel_rfl) (by kernel_rfl) (fun _ _ _ h => h) (Or.inl ⟨by rfl, ?_⟩) hHeld ?_
              rotate_left
              · intro W hSw
                have hSv : W.cell? ⟨wb, 2 + k, none⟩ = some (.pointer (some ⟨r k, 0, none⟩)) := hSw
                clear hSw
                skip
                simp only [List.getElem_toArray, List.getElem_cons_zero, List.getElem_cons_succ]
                go_simp
                all_goals with_reducible rfl
              simp only [List.getElem_toArray, List.getElem_cons_zero, List.getElem_cons_succ, Act.put, List.setIfInBounds_toArray, List.set_cons_zero, List.set_cons_succ]
              refine' wpAnyH_take (i := 14) rfl (by kernel_rfl) (by kernel_rfl) (by kernel_rfl) (fun _ _ _ h => h) (Or.inl ⟨by rfl, ?_⟩) hHeld ?_
              rotate_left
              · intro W hSw
                have hSv : W.cell? ⟨wb, 2 + k, none⟩ = some (.pointer (some ⟨r k, 0, none⟩)) := hSw
                clear hSw
                skip
                simp only [List.getElem_toArray, List.getElem_cons_zero, List.getElem_cons_succ]
                go_simp
                all_goals with_reducible rfl
              simp only [List.getElem_toArray, List.getElem_cons_zero, List.getElem_cons_succ, Act.put, List.setIfInBounds_toArray, List.set_cons_zero, List.set_cons_succ]
              refine wpAnyH_ready (rs := [15]) (by kernel_rfl) (by simp) ?_
              refine AllReadyH.cons (o := _) rfl (fun K hK => ?_) AllReadyH.nil
              simp only [List.getElem_toArray, List.getElem_cons_zero, List.getElem_cons_succ]
              go_simp
              obtain ⟨τX, hPX', _, _, _⟩ := hP1.out.appw (b := r k) (g := g1) (cap := cg1) hgrow1 (by rw [hmh2.out]; exact hown1) (hat1.elim Or.inl (fun e => Or.inr (by rw [e]; simp))) hlt1
              rw [hmh2.out] at hPX'
              obtain ⟨YB, hYB⟩ : ∃ YB, W1.setCell ⟨wb, 5, none⟩ (.slice (some ⟨g1, 0, none⟩) (m + 1) cg1) = YB := ⟨_, rfl⟩
              rw [hYB] at hPX' ⊢
              refine hK.out _ _ ((hPX'.cells.1 k hk2).2) (fun _ => ?_)
              clear hK K
              try simp only [Act.put]
              refine wpAnyH_done (by kernel_rfl) ?_ _
              refine NoPanic.normal ?_
              have hYn := hid (hfin.out _ _ _ _ hPX')
              clear hYB hPX' hown1 hgrow1 hat1 hlt1 z4 y4 f4 x4 hrow hbs hwl1 hP1 cv cva cxa hHeld oW0 hPX
              go_wp2_with fail
              go_roundw
              case rel => exact ⟨k + 1, by omega, by go_num, hYn.out⟩
              case measure => simp [intOf]; omega
        have hkeq : k = 2 := by omega
        rw [hkeq] at kY
        have hd2 : decide ((k : Int) < 2) = false := by simp; omega
        clear hkeq hk hk2
        obtain ⟨m, po, pw, ao1, ao2, cap1, cap2, hm12, hoW, hZ⟩ := kY.out.pz
        have kZ := hid hZ
        have koW := hid hoW
        clear hZ hoW kY
        obtain ⟨Wc, hWc⟩ : ∃ Wc, wr = Wc := ⟨_, rfl⟩
        rw [hWc] at kZ koW ⊢
        clear hWc
        go_wp2_with fail
        go_loopw [14] (fun s wr => ∃ i : Nat, i ≤ m ∧ s = .int .i64 (i : Int) ∧ Old Wc wr) (fun s _ => m - (intOf s).toNat)
        case atStart => exact ⟨0, Nat.zero_le _, rfl, Old.refl _⟩
        case round =>
        obtain ⟨j, hj, rfl, hoj⟩ := hrel
        have kj := hid hoj
        clear hoj
        have c4 := kj.out.cell kZ.out.c4
        by_cases hjm : j < m
        · have hjo : j < po.length := by rw [kZ.out.lo]; exact hjm
          have hjw : j < pw.length := by rw [kZ.out.lw]; exact hjm
          obtain ⟨ga, hga, va⟩ := kZ.out.ro j hjo
          obtain ⟨gb, hgb, vb⟩ := kZ.out.rw j hjw
          obtain ⟨nwj, Lj, Fj, Zj, hTj, hDj, hLj⟩ := kZ.out.each j hjo hjw
          obtain ⟨pa, hpa⟩ : ∃ pa, po[j] = pa := ⟨_, rfl⟩
          obtain ⟨pb, hpb⟩ : ∃ pb, pw[j] = pb := ⟨_, rfl⟩
          rw [hpa] at va hTj
          rw [hpb] at vb hDj
          have kt := hid (fun W (hW : Old Wc W) => TN.told 0 (hTj.kept hW (fun _ _ h => h)) (hDj.old hW) (by omega))
          have c4c := kZ.out.c4
          have c5c := kZ.out.c5
          subst hga hgb
          clear hTj hDj hLj hpa hpb hjo hjw
          have hdj : decide (j < m) = true := by simp; exact hjm
          go_wp2_with fail
          refine wp_region_noPanic ?_
          refine wp_region_held_drew (S := fun X => Old Wc X) (by kernel_rfl) (kj.out.drewN 1) (fun hHeld => ?_)
          generalize wr.drew = W0 at *
          refine' wpAnyH_take (i := 0) rfl (by kernel_rfl) (by kernel_rfl) (by kernel_rfl) (fun _ _ _ h => h) (Or.inl ⟨by rfl, ?_⟩) hHeld ?_
          rotate_left
          · intro W hSw
            have hSv : Old Wc W := hSw
            clear hSw
            skip
            simp only [List.getElem_toArray, List.getElem_cons_zero]
            go_simp
            all_goals with_reducible rfl
          simp only [List.getElem_toArray, List.getElem_cons_zero, Act.put, List.setIfInBounds_toArray, List.set_cons_zero, List.set_cons_succ]
          refine' wpAnyH_take (i := 1) rfl (by kernel_rfl) (by kernel_rfl) (by kernel_rfl) (fun _ _ _ h => h) (Or.inl ⟨by rfl, ?_⟩) hHeld ?_
          rotate_left
          · intro W hSw
            have hSv : Old Wc W := hSw
            clear hSw
            skip
            simp only [List.getElem_toArray, List.getElem_cons_zero, List.getElem_cons_succ]
            go_simp
            all_goals with_reducible rfl
          simp only [List.getElem_toArray, List.getElem_cons_zero, List.getElem_cons_succ, Act.put, List.setIfInBounds_toArray, List.set_cons_zero, List.set_cons_succ]
          refine' wpAnyH_take (i := 2) rfl (by kernel_rfl) (by kernel_rfl) (by kernel_rfl) (fun _ _ _ h => h) (Or.inl ⟨by rfl, ?_⟩) hHeld ?_
          rotate_left
          · intro W hSw
            have hSv : Old Wc W := hSw
            clear hSw
            skip
            simp only [List.getElem_toArray, List.getElem_cons_zero, List.getElem_cons_succ]
            go_simp
            all_goals with_reducible rfl
          simp only [List.getElem_toArray, List.getElem_cons_zero, List.getElem_cons_succ, Act.put, List.setIfInBounds_toArray, List.set_cons_zero, List.set_cons_succ]
          refine' wpAnyH_take (i := 3) rfl (by kernel_rfl) (by kernel_rfl) (by kernel_rfl) (fun _ _ _ h => h) (Or.inl ⟨by rfl, ?_⟩) hHeld ?_
          rotate_left
          · intro W hSw
            have hSv : Old Wc W := hSw
            clear hSw
            have q1 := hSv.cell c4c
            simp only [List.getElem_toArray, List.getElem_cons_zero, List.getElem_cons_succ]
            go_simp
            all_goals with_reducible rfl
          simp only [List.getElem_toArray, List.getElem_cons_zero, List.getElem_cons_succ, Act.put, List.setIfInBounds_toArray, List.set_cons_zero, List.set_cons_succ]
          refine' wpAnyH_take (i := 4) rfl (by kernel_rfl) (by kernel_rfl) (by kernel_rfl) (fun _ _ _ h => h) (Or.inl ⟨by rfl, ?_⟩) hHeld ?_
          rotate_left
          · intro W hSw
            have hSv : Old Wc W := hSw
            clear hSw
            skip
            simp only [List.getElem_toArray, List.getElem_cons_zero, List.getElem_cons_succ]
            go_simp
            all_goals with_reducible rfl
          simp only [List.getElem_toArray, List.getElem_cons_zero, List.getElem_cons_succ, Act.put, List.setIfInBounds_toArray, List.set_cons_zero, List.set_cons_succ]
          refine' wpAnyH_take (i := 5) rfl (by kernel_rfl) (by kernel_rfl) (by kernel_rfl) (fun _ _ _ h => h) (Or.inl ⟨by rfl, ?_⟩) hHeld ?_
          rotate_left
          · intro W hSw
            have hSv : Old Wc W := hSw
            clear hSw
            skip
            simp only [List.getElem_toArray, List.getElem_cons_zero, List.getElem_cons_succ]
            go_simp
            all_goals with_reducible rfl
          simp only [List.getElem_toArray, List.getElem_cons_zero, List.getElem_cons_succ, Act.put, List.setIfInBounds_toArray, List.set_cons_zero, List.set_cons_succ]
          refine' wpAnyH_take (i := 6) rfl (by kernel_rfl) (by kernel_rfl) (by kernel_rfl) (fun _ _ _ h => h) (Or.inl ⟨by rfl, ?_⟩) hHeld ?_
          rotate_left
          · intro W hSw
            have hSv : Old Wc W := hSw
            clear hSw
            have q1 := hSv.cell va
            simp only [List.getElem_toArray, List.getElem_cons_zero, List.getElem_cons_succ]
            go_simp
            all_goals with_reducible rfl
          simp only [List.getElem_toArray, List.getElem_cons_zero, List.getElem_cons_succ, Act.put, List.setIfInBounds_toArray, List.set_cons_zero, List.set_cons_succ]
          refine' wpAnyH_take (i := 7) rfl (by kernel_rfl) (by kernel_rfl) (by kernel_rfl) (fun _ _ _ h => h) (Or.inl ⟨by rfl, ?_⟩) hHeld ?_
          rotate_left
          · intro W hSw
            have hSv : Old Wc W := hSw
            clear hSw
            skip
            simp only [List.getElem_toArray, List.getElem_cons_zero, List.getElem_cons_succ]
            go_simp
            all_goals with_reducible rfl
          simp only [List.getElem_toArray, List.getElem_cons_zero, List.getElem_cons_succ, Act.put, List.setIfInBounds_toArray, List.set_cons_zero, List.set_cons_succ]
          refine' wpAnyH_take (i := 8) rfl (by kernel_rfl) (by kernel_rfl) (by kernel_rfl) (fun _ _ _ h => h) (Or.inl ⟨by rfl, ?_⟩) hHeld ?_
          rotate_left
          · intro W hSw
            have hSv : Old Wc W := hSw
            clear hSw
            skip
            simp only [List.getElem_toArray, List.getElem_cons_zero, List.getElem_cons_succ]
            go_simp
            all_goals with_reducible rfl
          simp only [List.getElem_toArray, List.getElem_cons_zero, List.getElem_cons_succ, Act.put, List.setIfInBounds_toArray, List.set_cons_zero, List.set_cons_succ]
          refine' wpAnyH_take (i := 9) rfl (by kernel_rfl) (by kernel_rfl) (by kernel_rfl) (fun _ _ _ h => h) (Or.inl ⟨by rfl, ?_⟩) hHeld ?_
          rotate_left
          · intro W hSw
            have hSv : Old Wc W := hSw
            clear hSw
            skip
            simp only [List.getElem_toArray, List.getElem_cons_zero, List.getElem_cons_succ]
            go_simp
            all_goals with_reducible rfl
          simp only [List.getElem_toArray, List.getElem_cons_zero, List.getElem_cons_succ, Act.put, List.setIfInBounds_toArray, List.set_cons_zero, List.set_cons_succ]
          refine' wpAnyH_take (i := 10) rfl (by kernel_rfl) (by kernel_rfl) (by kernel_rfl) (fun _ _ _ h => h) (Or.inl ⟨by rfl, ?_⟩) hHeld ?_
          rotate_left
          · intro W hSw
            have hSv : Old Wc W := hSw
            clear hSw
            have q1 := hSv.cell c5c
            simp only [List.getElem_toArray, List.getElem_cons_zero, List.getElem_cons_succ]
            go_simp
            all_goals with_reducible rfl
          simp only [List.getElem_toArray, List.getElem_cons_zero, List.getElem_cons_succ, Act.put, List.setIfInBounds_toArray, List.set_cons_zero, List.set_cons_succ]
          refine' wpAnyH_take (i := 11) rfl (by kernel_rfl) (by kernel_rfl) (by kernel_rfl) (fun _ _ _ h => h) (Or.inl ⟨by rfl, ?_⟩) hHeld ?_
          rotate_left
          · intro W hSw
            have hSv : Old Wc W := hSw
            clear hSw
            skip
            simp only [List.getElem_toArray, List.getElem_cons_zero, List.getElem_cons_succ]
            go_simp
            all_goals with_reducible rfl
          simp only [List.getElem_toArray, List.getElem_cons_zero, List.getElem_cons_succ, Act.put, List.setIfInBounds_toArray, List.set_cons_zero, List.set_cons_succ]
          refine' wpAnyH_take (i := 12) rfl (by kernel_rfl) (by kernel_rfl) (by kernel_rfl) (fun _ _ _ h => h) (Or.inl ⟨by rfl, ?_⟩) hHeld ?_
          rotate_left
          · intro W hSw
            have hSv : Old Wc W := hSw
            clear hSw
            skip
            simp only [List.getElem_toArray, List.getElem_cons_zero, List.getElem_cons_succ]
            go_simp
            all_goals with_reducible rfl
          simp only [List.getElem_toArray, List.getElem_cons_zero, List.getElem_cons_succ, Act.put, List.setIfInBounds_toArray, List.set_cons_zero, List.set_cons_succ]
          refine' wpAnyH_take (i := 13) rfl (by kernel_rfl) (by kernel_rfl) (by kernel_rfl) (fun _ _ _ h => h) (Or.inl ⟨by rfl, ?_⟩) hHeld ?_
          rotate_left
          · intro W hSw
            have hSv : Old Wc W := hSw
            clear hSw
            have q1 := hSv.cell vb
            simp only [List.getElem_toArray, List.getElem_cons_zero, List.getElem_cons_succ]
            go_simp
            all_goals with_reducible rfl
          simp only [List.getElem_toArray, List.getElem_cons_zero, List.getElem_cons_succ, Act.put, List.setIfInBounds_toArray, List.set_cons_zero, List.set_cons_succ]
          refine wpAnyH_ready (rs := [14]) (by kernel_rfl) (by simp) ?_
          refine AllReadyH.cons (o := _) rfl (fun K hK => ?_) AllReadyH.nil
          simp only [List.getElem_toArray, List.getElem_cons_zero, List.getElem_cons_succ]
          go_simp
          refine (kt.out _ hHeld).mono ?_
          rintro e Wd ⟨rfl, hod⟩
          refine hK.out _ _ (hHeld.trans hod) (fun hHeld => ?_)
          clear hK K hod
          try simp only [Act.put, List.setIfInBounds_toArray, List.set_cons_zero, List.set_cons_succ]
          refine' wpAnyH_take (i := 15) rfl (by kernel_rfl) (by kernel_rfl) (by kernel_rfl) (fun _ _ _ h => h) (Or.inl ⟨by rfl, ?_⟩) hHeld ?_
          rotate_left
          · intro W hSw
            have hSv : Old Wc W := hSw
            clear hSw
            skip
            simp only [List.getElem_toArray, List.getElem_cons_zero, List.getElem_cons_succ]
            go_simp
            all_goals with_reducible rfl
          simp only [List.getElem_toArray, List.getElem_cons_zero, List.getElem_cons_succ, Act.put, List.setIfInBounds_toArray, List.set_cons_zero, List.set_cons_succ]
          have khd := hid hHeld
          refine wpAnyH_done (by kernel_rfl) ?_ _
          refine NoPanic.normal ?_
          clear hHeld
          go_wp2_with fail
          go_roundw
          case rel => exact ⟨j + 1, by omega, by go_num, khd.out⟩
          case measure => simp [intOf]; omega
        obtain rfl : j = m := by omega
        go_wp2_with fail
        refine (kK.out _).mono ?_
        rintro e we ⟨rfl, he⟩
        have khe := hid he
        clear he
        go_wp2
        go_ret
        exact ⟨rfl, (koW.out.trans kj.out).trans khe.out⟩
    · obtain rfl : i = ns := by omega
      have kY := hid (kP.out.py (by omega))
      clear kP
      go_wp2_with fail
      go_loopw [13] (fun s wr => ∃ i : Nat, i ≤ 2 ∧ s = .int .i64 (i : Int) ∧ PY w wr most wb i) (fun s _ => 2 - (intOf s).toNat)
      case atStart => exact ⟨0, by omega, rfl, kY.out⟩
      case round =>
      clear kY
      obtain ⟨k, hk, rfl, hY⟩ := hrel
      have kY := hid hY
      clear hY
      by_cases hk2 : k < 2
      · obtain ⟨τ, t, r, R, vo, vw, olds, hP, hol⟩ := kY.out
        clear kY
        obtain ⟨ao1, cap1, rfl⟩ := owns_slice hP.rowo
        obtain ⟨ao2, cap2, rfl⟩ := owns_slice hP.roww
        obtain ⟨m, hm⟩ : ∃ m, (olds.map Prod.fst ++ (List.range k).map t).length = m := ⟨_, rfl⟩
        have hm2 : (olds.map Prod.snd ++ (List.range k).map r).length = m := by rw [← hm]; simp
        have hm12 : m ≤ 12 := by rw [← hm]; simp; omega
        rw [hm, hm2] at hP
        have hfin : Hid (∀ W τ' vo' vw', PS w W wb τ' t r most R R vo' vw' (olds.map Prod.fst ++ (List.range k).map t ++ [t k]) (olds.map Prod.snd ++ (List.range k).map r ++ [r k]) olds 400 → PY w W most wb (k + 1)) := fun W τ' vo' vw' h => ⟨τ', t, r, R, vo', vw', olds, by rw [List.range_succ, List.map_append, List.map_append, ← List.append_assoc, ← List.append_assoc]; exact h, hol⟩
        generalize olds.map Prod.fst ++ (List.range k).map t = po at hP hm hfin
        generalize olds.map Prod.snd ++ (List.range k).map r = pw at hP hm2 hfin
        have hP0 := hid hP
        have hmh := hid hm
        have hmh2 := hid hm2
        obtain ⟨j0, hj0, hy0, hy1, hy2⟩ := info_parts info27
        obtain ⟨j1, hj1, hv0, hv1, hv2⟩ := info_parts info32
        have hd2 : decide ((k : Int) < 2) = true := by simp; omega
        have hki : (k : Int) < 2 := by omega
        clear hP hm hm2
        go_wp2_with fail
        refine wp_region_noPanic ?_
        have cx := (hP0.out.cells.1 k hk2).1
        have cv := hP0.out.cells.2.1
        refine wp_region_held_drew (S := fun X => X.cell? ⟨wb, k, none⟩ = some (.pointer (some ⟨t k, 0, none⟩))) (by kernel_rfl) (((Old.refl wr).drewN 1).cell cx) (fun hHeld => ?_)
        obtain ⟨W0, hW0⟩ : ∃ W0, (wr).drew = W0 := ⟨_, rfl⟩
        have oW0 : Hid (Old wr W0) := by rw [← hW0]; exact (Old.refl wr).drewN 1
        rw [hW0] at hHeld ⊢
        replace cv := oW0.out.cell cv
        clear hW0 cx
        have hP1 := hid (hP0.out.olds (oW0.out.alloc (.cells #[.pointer (some ⟨t k, 0, none⟩)] 24)))
        have cva := ((Old.refl W0).alloc (.cells #[.pointer (some ⟨t k, 0, none⟩)] 24)).cell cv
        have cxa := hid (((Old.refl W0).alloc (.cells #[.pointer (some ⟨t k, 0, none⟩)] 24)).cell hHeld)
        have hrow := hP1.out.rowo
        rw [hmh.out] at hrow
        have hbs := hP1.out.old.size
        have hwl1 := (hP1.out.bnd wb (by rw [hP1.out.wbt]; omega)).2
        refine' wpAnyH_take (i := 0) rfl (by kernel_rfl) (by kernel_rfl) (by kernel_rfl) (fun _ _ _ h => h) (Or.inl ⟨by rfl, ?_⟩) hHeld ?_
        rotate_left
        · intro W hSw
          have hSv : W.cell? ⟨wb, k, none⟩ = some (.pointer (some ⟨t k, 0, none⟩)) := hSw
          clear hSw
          skip
          simp only [List.getElem_toArray, List.getElem_cons_zero]
          go_simp
          all_goals with_reducible rfl
        simp only [List.getElem_toArray, List.getElem_cons_zero, Act.put, List.setIfInBounds_toArray, List.set_cons_zero, List.set_cons_succ]
        refine' wpAnyH_take (i := 1) rfl (by kernel_rfl) (by kernel_rfl) (by kernel_rfl) (fun _ _ _ h => h) (Or.inl ⟨by rfl, ?_⟩) hHeld ?_
        rotate_left
        · intro W hSw
          have hSv : W.cell? ⟨wb, k, none⟩ = some (.pointer (some ⟨t k, 0, none⟩)) := hSw
          clear hSw
          skip
          simp only [List.getElem_toArray, List.getElem_cons_zero, List.getElem_cons_succ]
          go_simp
          all_goals with_reducible rfl
        simp only [List.getElem_toArray, List.getElem_cons_zero, List.getElem_cons_succ, Act.put, List.setIfInBounds_toArray, List.set_cons_zero, List.set_cons_succ]
        refine' wpAnyH_take (i := 2) rfl (by kernel_rfl) (by kernel_rfl) (by kernel_rfl) (fun _ _ _ h => h) (Or.inl ⟨by rfl, ?_⟩) hHeld ?_
        rotate_left
        · intro W hSw
          have hSv : W.cell? ⟨wb, k, none⟩ = some (.pointer (some ⟨t k, 0, none⟩)) := hSw
          clear hSw
          skip
          simp only [List.getElem_toArray, List.getElem_cons_zero, List.getElem_cons_succ]
          go_simp
          all_goals with_reducible rfl
        simp only [List.getElem_toArray, List.getElem_cons_zero, List.getElem_cons_succ, Act.put, List.setIfInBounds_toArray, List.set_cons_zero, List.set_cons_succ]
        refine' wpAnyH_take (i := 3) rfl (by kernel_rfl) (by kernel_rfl) (by kernel_rfl) (fun _ _ _ h => h) (Or.inl ⟨by rfl, ?_⟩) hHeld ?_
        rotate_left
        · intro W hSw
          have hSv : W.cell? ⟨wb, k, none⟩ = some (.pointer (some ⟨t k, 0, none⟩)) := hSw
          clear hSw
          skip
          simp only [List.getElem_toArray, List.getElem_cons_zero, List.getElem_cons_succ]
          go_simp
          all_goals with_reducible rfl
        simp only [List.getElem_toArray, List.getElem_cons_zero, List.getElem_cons_succ, Act.put, List.setIfInBounds_toArray, List.set_cons_zero, List.set_cons_succ]
        refine' wpAnyH_take (i := 5) rfl (by kernel_rfl) (by kernel_rfl) (by kernel_rfl) (fun _ _ _ h => h) (Or.inl ⟨by rfl, ?_⟩) hHeld ?_
        rotate_left
        · intro W hSw
          have hSv : W.cell? ⟨wb, k, none⟩ = some (.pointer (some ⟨t k, 0, none⟩)) := hSw
          clear hSw
          skip
          simp only [List.getElem_toArray, List.getElem_cons_zero, List.getElem_cons_succ]
          go_simp
          all_goals with_reducible rfl
        simp only [List.getElem_toArray, List.getElem_cons_zero, List.getElem_cons_succ, Act.put, List.setIfInBounds_toArray, List.set_cons_zero, List.set_cons_succ]
        refine' wpAnyH_take (i := 6) rfl (by kernel_rfl) (by kernel_rfl) (by kernel_rfl) (fun _ _ _ h => h) (Or.inl ⟨by rfl, ?_⟩) hHeld ?_
        rotate_left
        · intro W hSw
          have hSv : W.cell? ⟨wb, k, none⟩ = some (.pointer (some ⟨t k, 0, none⟩)) := hSw
          clear hSw
          skip
          simp only [List.getElem_toArray, List.getElem_cons_zero, List.getElem_cons_succ]
          go_simp
          all_goals with_reducible rfl
        simp only [List.getElem_toArray, List.getElem_cons_zero, List.getElem_cons_succ, Act.put, List.setIfInBounds_toArray, List.set_cons_zero, List.set_cons_succ]
        refine' wpAnyH_take (i := 7) rfl (by kernel_rfl) (by kernel_rfl) (by kernel_rfl) (fun _ _ _ h => h) (Or.inl ⟨by rfl, ?_⟩) hHeld ?_
        rotate_left
        · intro W hSw
          have hSv : W.cell? ⟨wb, k, none⟩ = some (.pointer (some ⟨t k, 0, none⟩)) := hSw
          clear hSw
          skip
          simp only [List.getElem_toArray, List.getElem_cons_zero, List.getElem_cons_succ]
          go_simp
          all_goals with_reducible rfl
        simp only [List.getElem_toArray, List.getElem_cons_zero, List.getElem_cons_succ, Act.put, List.setIfInBounds_toArray, List.set_cons_zero, List.set_cons_succ]
        refine' wpAnyH_take (i := 8) rfl (by kernel_rfl) (by kernel_rfl) (by kernel_rfl) (fun _ _ _ h => h) (Or.inl ⟨by rfl, ?_⟩) hHeld ?_
        rotate_left
        · intro W hSw
          have hSv : W.cell? ⟨wb, k, none⟩ = some (.pointer (some ⟨t k, 0, none⟩)) := hSw
          clear hSw
          skip
          simp only [List.getElem_toArray, List.getElem_cons_zero, List.getElem_cons_succ]
          go_simp
          all_goals with_reducible rfl
        simp only [List.getElem_toArray, List.getElem_cons_zero, List.getElem_cons_succ, Act.put, List.setIfInBounds_toArray, List.set_cons_zero, List.set_cons_succ]
        refine' wpAnyH_take (i := 9) rfl (by kernel_rfl) (by kernel_rfl) (by kernel_rfl) (fun _ _ _ h => h) (Or.inl ⟨by rfl, ?_⟩) hHeld ?_
        rotate_left
        · intro W hSw
          have hSv : W.cell? ⟨wb, k, none⟩ = some (.pointer (some ⟨t k, 0, none⟩)) := hSw
          clear hSw
          skip
          simp only [List.getElem_toArray, List.getElem_cons_zero, List.getElem_cons_succ]
          go_simp
          all_goals with_reducible rfl
        simp only [List.getElem_toArray, List.getElem_cons_zero, List.getElem_cons_succ, Act.put, List.setIfInBounds_toArray, List.set_cons_zero, List.set_cons_succ]
        refine' wpAnyH_take (i := 10) rfl (by kernel_rfl) (by kernel_rfl) (by kernel_rfl) (fun _ _ _ h => h) (Or.inl ⟨by rfl, ?_⟩) hHeld ?_
        rotate_left
        · intro W hSw
          have hSv : W.cell? ⟨wb, k, none⟩ = some (.pointer (some ⟨t k, 0, none⟩)) := hSw
          clear hSw
          skip
          simp only [List.getElem_toArray, List.getElem_cons_zero, List.getElem_cons_succ]
          go_simp
          all_goals with_reducible rfl
        simp only [List.getElem_toArray, List.getElem_cons_zero, List.getElem_cons_succ, Act.put, List.setIfInBounds_toArray, List.set_cons_zero, List.set_cons_succ]
        refine wpAnyH_ready (rs := [4, 11]) (by kernel_rfl) (by simp) ?_
        refine AllReadyH.cons (o := _) rfl (fun K hK => ?_) (AllReadyH.cons (o := _) rfl (fun K hK => ?_) AllReadyH.nil)
        · simp only [List.getElem_toArray, List.getElem_cons_zero, List.getElem_cons_succ]
          go_simp
          refine hK.out _ _ hHeld (fun hHeld => ?_)
          clear hK K
          try simp only [Act.put, List.setIfInBounds_toArray, List.set_cons_zero, List.set_cons_succ]
          refine wpAnyH_ready (rs := [11]) (by kernel_rfl) (by simp) ?_
          refine AllReadyH.cons (o := _) rfl (fun K hK => ?_) AllReadyH.nil
          simp only [List.getElem_toArray, List.getElem_cons_zero, List.getElem_cons_succ]
          go_simp
          refine hK.out _ _ cxa.out (fun hHeld => ?_)
          clear hK K
          try simp only [Act.put, List.setIfInBounds_toArray, List.set_cons_zero, List.set_cons_succ]
          refine wpAnyH_ready (rs := [12]) (by kernel_rfl) (by simp) ?_
          refine AllReadyH.cons (o := _) rfl (fun K hK => ?_) AllReadyH.nil
          refine step_append_lies _ (by rfl) _ _ _ (by rfl) w.heap.size 24 j0 _ 1 8 Try.underlying28 hj0 hy0 hy1 hy2 rfl (by omega) (.slice ao1 m cap1) m (ptrs po) (by rfl) hrow ⟨W0.heap.size, 0, none⟩ 1 1 [.pointer (some ⟨t k, 0, none⟩)] (by rfl) (by rfl) (World.news_of_block (cs := #[.pointer (some ⟨t k, 0, none⟩)]) (t := 24) (fr := (0, 0)) (heap_new W0 _)) (by simp [Value.oneCell']) (by omega) (by unfold maxLen; omega) (by omega) hbs (W0.heap.size + 1) (by simp) ?_
          intro g1 cg1 W1 hown1 hgrow1 hat1 hlt1
          have z4 : W1.heap[wb]? = _ := hgrow1.block wb hwl1 (fun e => by have h8 := hP1.out.tgo wb e.symm; rw [hP1.out.wbt] at h8; omega)
          have y4 : W1.cell? ⟨wb, 4, none⟩ = _ := (World.cell?_of_block z4).trans hP1.out.cells.2.1
          have f4 : W1.frozen? ⟨wb, 4, none⟩ = false := (frozen_block z4).trans (hP1.out.cells.2.2.2 _)
          have x4 : W1.cell? ⟨wb, k, none⟩ = _ := (World.cell?_of_block z4).trans ((hP1.out.cells.1 k hk2).1)
          refine hK.out _ _ x4 (fun hHeld => ?_)
          clear hK K
          try simp only [Act.put, List.setIfInBounds_toArray]
          refine' wpAnyH_take (i := 13) rfl (by kernel_rfl) (by kernel_rfl) (by kernel_rfl) (fun _ _ _ h => h) (Or.inl ⟨by rfl, ?_⟩) hHeld ?_
          rotate_left
          · intro W hSw
            have hSv : W.cell? ⟨wb, k, none⟩ = some (.pointer (some ⟨t k, 0, none⟩)) := hSw
            clear hSw
            skip
            simp only [List.getElem_toArray, List.getElem_cons_zero, List.getElem_cons_succ]
            go_simp
            all_goals with_reducible rfl
          simp only [List.getElem_toArray, List.getElem_cons_zero, List.getElem_cons_succ, Act.put, List.setIfInBounds_toArray, List.set_cons_zero, List.set_cons_succ]
          refine' wpAnyH_take (i := 14) rfl (by kernel_rfl) (by kernel_rfl) (by kernel_rfl) (fun _ _ _ h => h) (Or.inl ⟨by rfl, ?_⟩) hHeld ?_
          rotate_left
          · intro W hSw
            have hSv : W.cell? ⟨wb, k, none⟩ = some (.pointer (some ⟨t k, 0, none⟩)) := hSw
            clear hSw
            skip
            simp only [List.getElem_toArray, List.getElem_cons_zero, List.getElem_cons_succ]
            go_simp
            all_goals with_reducible rfl
          simp only [List.getElem_toArray, List.getElem_cons_zero, List.getElem_cons_succ, Act.put, List.setIfInBounds_toArray, List.set_cons_zero, List.set_cons_succ]
          refine wpAnyH_ready (rs := [15]) (by kernel_rfl) (by simp) ?_
          refine AllReadyH.cons (o := _) rfl (fun K hK => ?_) AllReadyH.nil
          simp only [List.getElem_toArray, List.getElem_cons_zero, List.getElem_cons_succ]
          go_simp
          obtain ⟨τX, hPX', _, _, _⟩ := hP1.out.appo (b := t k) (g := g1) (cap := cg1) hgrow1 (by rw [hmh.out]; exact hown1) (hat1.elim Or.inl (fun e => Or.inr (by rw [e]; simp))) hlt1
          rw [hmh.out] at hPX'
          obtain ⟨YA, hYA⟩ : ∃ YA, W1.setCell ⟨wb, 4, none⟩ (.slice (some ⟨g1, 0, none⟩) (m + 1) cg1) = YA := ⟨_, rfl⟩
          rw [hYA] at hPX' ⊢
          refine hK.out _ _ ((hPX'.cells.1 k hk2).1) (fun _ => ?_)
          clear hK K
          try simp only [Act.put]
          refine wpAnyH_done (by kernel_rfl) ?_ _
          refine NoPanic.normal ?_
          have hPX := hid hPX'
          clear hYA hPX' hown1 hgrow1 hat1 hlt1 z4 y4 f4 x4 hrow hbs hwl1 hP1 cv cva cxa hHeld oW0 hP0
          go_wp2_with fail
          refine wp_region_noPanic ?_
          have cx := (hPX.out.cells.1 k hk2).2
          have cv := hPX.out.cells.2.2.1
          refine wp_region_held_drew (S := fun X => X.cell? ⟨wb, 2 + k, none⟩ = some (.pointer (some ⟨r k, 0, none⟩))) (by kernel_rfl) (((Old.refl YA).drewN 1).cell cx) (fun hHeld => ?_)
          obtain ⟨W0, hW0⟩ : ∃ W0, (YA).drew = W0 := ⟨_, rfl⟩
          have oW0 : Hid (Old YA W0) := by rw [← hW0]; exact (Old.refl YA).drewN 1
          rw [hW0] at hHeld ⊢
          replace cv := oW0.out.cell cv
          clear hW0 cx
          have hP1 := hid (hPX.out.olds (oW0.out.alloc (.cells #[.pointer (some ⟨r k, 0, none⟩)] 26)))
          have cva := ((Old.refl W0).alloc (.cells #[.pointer (some ⟨r k, 0, none⟩)] 26)).cell cv
          have cxa := hid (((Old.refl W0).alloc (.cells #[.pointer (some ⟨r k, 0, none⟩)] 26)).cell hHeld)
          have hrow := hP1.out.roww
          rw [hmh2.out] at hrow
          have hbs := hP1.out.old.size
          have hwl1 := (hP1.out.bnd wb (by rw [hP1.out.wbt]; omega)).2
          refine' wpAnyH_take (i := 0) rfl (by kernel_rfl) (by kernel_rfl) (by kernel_rfl) (fun _ _ _ h => h) (Or.inl ⟨by rfl, ?_⟩) hHeld ?_
          rotate_left
          · intro W hSw
            have hSv : W.cell? ⟨wb, 2 + k, none⟩ = some (.pointer (some ⟨r k, 0, none⟩)) := hSw
            clear hSw
            skip
            simp only [List.getElem_toArray, List.getElem_cons_zero]
            go_simp
            all_goals with_reducible rfl
          simp only [List.getElem_toArray, List.getElem_cons_zero, Act.put, List.setIfInBounds_toArray, List.set_cons_zero, List.set_cons_succ]
          refine' wpAnyH_take (i := 1) rfl (by kernel_rfl) (by kernel_rfl) (by kernel_rfl) (fun _ _ _ h => h) (Or.inl ⟨by rfl, ?_⟩) hHeld ?_
          rotate_left
          · intro W hSw
            have hSv : W.cell? ⟨wb, 2 + k, none⟩ = some (.pointer (some ⟨r k, 0, none⟩)) := hSw
            clear hSw
            skip
            simp only [List.getElem_toArray, List.getElem_cons_zero, List.getElem_cons_succ]
            go_simp
            all_goals with_reducible rfl
          simp only [List.getElem_toArray, List.getElem_cons_zero, List.getElem_cons_succ, Act.put, List.setIfInBounds_toArray, List.set_cons_zero, List.set_cons_succ]
          refine' wpAnyH_take (i := 2) rfl (by kernel_rfl) (by kernel_rfl) (by kernel_rfl) (fun _ _ _ h => h) (Or.inl ⟨by rfl, ?_⟩) hHeld ?_
          rotate_left
          · intro W hSw
            have hSv : W.cell? ⟨wb, 2 + k, none⟩ = some (.pointer (some ⟨r k, 0, none⟩)) := hSw
            clear hSw
            skip
            simp only [List.getElem_toArray, List.getElem_cons_zero, List.getElem_cons_succ]
            go_simp
            all_goals with_reducible rfl
          simp only [List.getElem_toArray, List.getElem_cons_zero, List.getElem_cons_succ, Act.put, List.setIfInBounds_toArray, List.set_cons_zero, List.set_cons_succ]
          refine' wpAnyH_take (i := 3) rfl (by kernel_rfl) (by kernel_rfl) (by kernel_rfl) (fun _ _ _ h => h) (Or.inl ⟨by rfl, ?_⟩) hHeld ?_
          rotate_left
          · intro W hSw
            have hSv : W.cell? ⟨wb, 2 + k, none⟩ = some (.pointer (some ⟨r k, 0, none⟩)) := hSw
            clear hSw
            skip
            simp only [List.getElem_toArray, List.getElem_cons_zero, List.getElem_cons_succ]
            go_simp
            all_goals with_reducible rfl
          simp only [List.getElem_toArray, List.getElem_cons_zero, List.getElem_cons_succ, Act.put, List.setIfInBounds_toArray, List.set_cons_zero, List.set_cons_succ]
          refine' wpAnyH_take (i := 5) rfl (by kernel_rfl) (by kernel_rfl) (by kernel_rfl) (fun _ _ _ h => h) (Or.inl ⟨by rfl, ?_⟩) hHeld ?_
          rotate_left
          · intro W hSw
            have hSv : W.cell? ⟨wb, 2 + k, none⟩ = some (.pointer (some ⟨r k, 0, none⟩)) := hSw
            clear hSw
            skip
            simp only [List.getElem_toArray, List.getElem_cons_zero, List.getElem_cons_succ]
            go_simp
            all_goals with_reducible rfl
          simp only [List.getElem_toArray, List.getElem_cons_zero, List.getElem_cons_succ, Act.put, List.setIfInBounds_toArray, List.set_cons_zero, List.set_cons_succ]
          refine' wpAnyH_take (i := 6) rfl (by kernel_rfl) (by kernel_rfl) (by kernel_rfl) (fun _ _ _ h => h) (Or.inl ⟨by rfl, ?_⟩) hHeld ?_
          rotate_left
          · intro W hSw
            have hSv : W.cell? ⟨wb, 2 + k, none⟩ = some (.pointer (some ⟨r k, 0, none⟩)) := hSw
            clear hSw
            skip
            simp only [List.getElem_toArray, List.getElem_cons_zero, List.getElem_cons_succ]
            go_simp
            all_goals with_reducible rfl
          simp only [List.getElem_toArray, List.getElem_cons_zero, List.getElem_cons_succ, Act.put, List.setIfInBounds_toArray, List.set_cons_zero, List.set_cons_succ]
          refine' wpAnyH_take (i := 7) rfl (by kernel_rfl) (by kernel_rfl) (by kernel_rfl) (fun _ _ _ h => h) (Or.inl ⟨by rfl, ?_⟩) hHeld ?_
          rotate_left
          · intro W hSw
            have hSv : W.cell? ⟨wb, 2 + k, none⟩ = some (.pointer (some ⟨r k, 0, none⟩)) := hSw
            clear hSw
            skip
            simp only [List.getElem_toArray, List.getElem_cons_zero, List.getElem_cons_succ]
            go_simp
            all_goals with_reducible rfl
          simp only [List.getElem_toArray, List.getElem_cons_zero, List.getElem_cons_succ, Act.put, List.setIfInBounds_toArray, List.set_cons_zero, List.set_cons_succ]
          refine' wpAnyH_take (i := 8) rfl (by kernel_rfl) (by kernel_rfl) (by kernel_rfl) (fun _ _ _ h => h) (Or.inl ⟨by rfl, ?_⟩) hHeld ?_
          rotate_left
          · intro W hSw
            have hSv : W.cell? ⟨wb, 2 + k, none⟩ = some (.pointer (some ⟨r k, 0, none⟩)) := hSw
            clear hSw
            skip
            simp only [List.getElem_toArray, List.getElem_cons_zero, List.getElem_cons_succ]
            go_simp
            all_goals with_reducible rfl
          simp only [List.getElem_toArray, List.getElem_cons_zero, List.getElem_cons_succ, Act.put, List.setIfInBounds_toArray, List.set_cons_zero, List.set_cons_succ]
          refine' wpAnyH_take (i := 9) rfl (by kernel_rfl) (by kernel_rfl) (by kernel_rfl) (fun _ _ _ h => h) (Or.inl ⟨by rfl, ?_⟩) hHeld ?_
          rotate_left
          · intro W hSw
            have hSv : W.cell? ⟨wb, 2 + k, none⟩ = some (.pointer (some ⟨r k, 0, none⟩)) := hSw
            clear hSw
            skip
            simp only [List.getElem_toArray, List.getElem_cons_zero, List.getElem_cons_succ]
            go_simp
            all_goals with_reducible rfl
          simp only [List.getElem_toArray, List.getElem_cons_zero, List.getElem_cons_succ, Act.put, List.setIfInBounds_toArray, List.set_cons_zero, List.set_cons_succ]
          refine' wpAnyH_take (i := 10) rfl (by kernel_rfl) (by kernel_rfl) (by kernel_rfl) (fun _ _ _ h => h) (Or.inl ⟨by rfl, ?_⟩) hHeld ?_
          rotate_left
          · intro W hSw
            have hSv : W.cell? ⟨wb, 2 + k, none⟩ = some (.pointer (some ⟨r k, 0, none⟩)) := hSw
            clear hSw
            skip
            simp only [List.getElem_toArray, List.getElem_cons_zero, List.getElem_cons_succ]
            go_simp
            all_goals with_reducible rfl
          simp only [List.getElem_toArray, List.getElem_cons_zero, List.getElem_cons_succ, Act.put, List.setIfInBounds_toArray, List.set_cons_zero, List.set_cons_succ]
          refine wpAnyH_ready (rs := [4, 11]) (by kernel_rfl) (by simp) ?_
          refine AllReadyH.cons (o := _) rfl (fun K hK => ?_) (AllReadyH.cons (o := _) rfl (fun K hK => ?_) AllReadyH.nil)
          · simp only [List.getElem_toArray, List.getElem_cons_zero, List.getElem_cons_succ]
            go_simp
            refine hK.out _ _ hHeld (fun hHeld => ?_)
            clear hK K
            try simp only [Act.put, List.setIfInBounds_toArray, List.set_cons_zero, List.set_cons_succ]
            refine wpAnyH_ready (rs := [11]) (by kernel_rfl) (by simp) ?_
            refine AllReadyH.cons (o := _) rfl (fun K hK => ?_) AllReadyH.nil
            simp only [List.getElem_toArray, List.getElem_cons_zero, List.getElem_cons_succ]
            go_simp
            refine hK.out _ _ cxa.out (fun hHeld => ?_)
            clear hK K
            try simp only [Act.put, List.setIfInBounds_toArray, List.set_cons_zero, List.set_cons_succ]
            refine wpAnyH_ready (rs := [12]) (by kernel_rfl) (by simp) ?_
            refine AllReadyH.cons (o := _) rfl (fun K hK => ?_) AllReadyH.nil
            refine step_append_lies _ (by rfl) _ _ _ (by rfl) w.heap.size 26 j1 _ 1 8 Try.underlying29 hj1 hv0 hv1 hv2 rfl (by omega) (.slice ao2 m cap2) m (ptrs pw) (by rfl) hrow ⟨W0.heap.size, 0, none⟩ 1 1 [.pointer (some ⟨r k, 0, none⟩)] (by rfl) (by rfl) (World.news_of_block (cs := #[.pointer (some ⟨r k, 0, none⟩)]) (t := 26) (fr := (0, 0)) (heap_new W0 _)) (by simp [Value.oneCell']) (by omega) (by unfold maxLen; omega) (by omega) hbs (W0.heap.size + 1) (by simp) ?_
            intro g1 cg1 W1 hown1 hgrow1 hat1 hlt1
            have z4 : W1.heap[wb]? = _ := hgrow1.block wb hwl1 (fun e => by have h8 := hP1.out.tgw wb e.symm; rw [hP1.out.wbt] at h8; omega)
            have y4 : W1.cell? ⟨wb, 5, none⟩ = _ := (World.cell?_of_block z4).trans hP1.out.cells.2.2.1
            have f4 : W1.frozen? ⟨wb, 5, none⟩ = false := (frozen_block z4).trans (hP1.out.cells.2.2.2 _)
            have x4 : W1.cell? ⟨wb, 2 + k, none⟩ = _ := (World.cell?_of_block z4).trans ((hP1.out.cells.1 k hk2).2)
            refine hK.out _ _ x4 (fun hHeld => ?_)
            clear hK K
            try simp only [Act.put, List.setIfInBounds_toArray]
            refine' wpAnyH_take (i := 13) rfl (by kernel_rfl) (by kernel_rfl) (by kernel_rfl) (fun _ _ _ h => h) (Or.inl ⟨by rfl, ?_⟩) hHeld ?_
            rotate_left
            · intro W hSw
              have hSv : W.cell? ⟨wb, 2 + k, none⟩ = some (.pointer (some ⟨r k, 0, none⟩)) := hSw
              clear hSw
              skip
              simp only [List.getElem_toArray, List.getElem_cons_zero, List.getElem_cons_succ]
              go_simp
              all_goals with_reducible rfl
            simp only [List.getElem_toArray, List.getElem_cons_zero, List.getElem_cons_succ, Act.put, List.setIfInBounds_toArray, List.set_cons_zero, List.set_cons_succ]
            refine' wpAnyH_take (i := 14) rfl (by kernel_rfl) (by kernel_rfl) (by kernel_rfl) (fun _ _ _ h => h) (Or.inl ⟨by rfl, ?_⟩) hHeld ?_
            rotate_left
            · intro W hSw
              have hSv : W.cell? ⟨wb, 2 + k, none⟩ = some (.pointer (some ⟨r k, 0, none⟩)) := hSw
              clear hSw
              skip
              simp only [List.getElem_toArray, List.getElem_cons_zero, List.getElem_cons_succ]
              go_simp
              all_goals with_reducible rfl
            simp only [List.getElem_toArray, List.getElem_cons_zero, List.getElem_cons_succ, Act.put, List.setIfInBounds_toArray, List.set_cons_zero, List.set_cons_succ]
            refine wpAnyH_ready (rs := [15]) (by kernel_rfl) (by simp) ?_
            refine AllReadyH.cons (o := _) rfl (fun K hK => ?_) AllReadyH.nil
            simp only [List.getElem_toArray, List.getElem_cons_zero, List.getElem_cons_succ]
            go_simp
            obtain ⟨τX, hPX', _, _, _⟩ := hP1.out.appw (b := r k) (g := g1) (cap := cg1) hgrow1 (by rw [hmh2.out]; exact hown1) (hat1.elim Or.inl (fun e => Or.inr (by rw [e]; simp))) hlt1
            rw [hmh2.out] at hPX'
            obtain ⟨YB, hYB⟩ : ∃ YB, W1.setCell ⟨wb, 5, none⟩ (.slice (some ⟨g1, 0, none⟩) (m + 1) cg1) = YB := ⟨_, rfl⟩
            rw [hYB] at hPX' ⊢
            refine hK.out _ _ ((hPX'.cells.1 k hk2).2) (fun _ => ?_)
            clear hK K
            try simp only [Act.put]
            refine wpAnyH_done (by kernel_rfl) ?_ _
            refine NoPanic.normal ?_
            have hYn := hid (hfin.out _ _ _ _ hPX')
            clear hYB hPX' hown1 hgrow1 hat1 hlt1 z4 y4 f4 x4 hrow hbs hwl1 hP1 cv cva cxa hHeld oW0 hPX
            go_wp2_with fail
            go_roundw
            case rel => exact ⟨k + 1, by omega, by go_num, hYn.out⟩
            case measure => simp [intOf]; omega
          · simp only [List.getElem_toArray, List.getElem_cons_zero, List.getElem_cons_succ]
            go_simp
            refine hK.out _ _ cxa.out (fun hHeld => ?_)
            clear hK K
            try simp only [Act.put, List.setIfInBounds_toArray, List.set_cons_zero, List.set_cons_succ]
            refine wpAnyH_ready (rs := [4]) (by kernel_rfl) (by simp) ?_
            refine AllReadyH.cons (o := _) rfl (fun K hK => ?_) AllReadyH.nil
            simp only [List.getElem_toArray, List.getElem_cons_zero, List.getElem_cons_succ]
            go_simp
            refine hK.out _ _ hHeld (fun hHeld => ?_)
            clear hK K
            try simp only [Act.put, List.setIfInBounds_toArray, List.set_cons_zero, List.set_cons_succ]
            refine wpAnyH_ready (rs := [12]) (by kernel_rfl) (by simp) ?_
            refine AllReadyH.cons (o := _) rfl (fun K hK => ?_) AllReadyH.nil
            refine step_append_lies _ (by rfl) _ _ _ (by rfl) w.heap.size 26 j1 _ 1 8 Try.underlying29 hj1 hv0 hv1 hv2 rfl (by omega) (.slice ao2 m cap2) m (ptrs pw) (by rfl) hrow ⟨W0.heap.size, 0, none⟩ 1 1 [.pointer (some ⟨r k, 0, none⟩)] (by rfl) (by rfl) (World.news_of_block (cs := #[.pointer (some ⟨r k, 0, none⟩)]) (t := 26) (fr := (0, 0)) (heap_new W0 _)) (by simp [Value.oneCell']) (by omega) (by unfold maxLen; omega) (by omega) hbs (W0.heap.size + 1) (by simp) ?_
            intro g1 cg1 W1 hown1 hgrow1 hat1 hlt1
            have z4 : W1.heap[wb]? = _ := hgrow1.block wb hwl1 (fun e => by have h8 := hP1.out.tgw wb e.symm; rw [hP1.out.wbt] at h8; omega)
            have y4 : W1.cell? ⟨wb, 5, none⟩ = _ := (World.cell?_of_block z4).trans hP1.out.cells.2.2.1
            have f4 : W1.frozen? ⟨wb, 5, none⟩ = false := (frozen_block z4).trans (hP1.out.cells.2.2.2 _)
            have x4 : W1.cell? ⟨wb, 2 + k, none⟩ = _ := (World.cell?_of_block z4).trans ((hP1.out.cells.1 k hk2).2)
            refine hK.out _ _ x4 (fun hHeld => ?_)
            clear hK K
            try simp only [Act.put, List.setIfInBounds_toArray]
            refine' wpAnyH_take (i := 13) rfl (by kernel_rfl) (by kernel_rfl) (by kernel_rfl) (fun _ _ _ h => h) (Or.inl ⟨by rfl, ?_⟩) hHeld ?_
            rotate_left
            · intro W hSw
              have hSv : W.cell? ⟨wb, 2 + k, none⟩ = some (.pointer (some ⟨r k, 0, none⟩)) := hSw
              clear hSw
              skip
              simp only [List.getElem_toArray, List.getElem_cons_zero, List.getElem_cons_succ]
              go_simp
              all_goals with_reducible rfl
            simp only [List.getElem_toArray, List.getElem_cons_zero, List.getElem_cons_succ, Act.put, List.setIfInBounds_toArray, List.set_cons_zero, List.set_cons_succ]
            refine' wpAnyH_take (i := 14) rfl (by kernel_rfl) (by kernel_rfl) (by kernel_rfl) (fun _ _ _ h => h) (Or.inl ⟨by rfl, ?_⟩) hHeld ?_
            rotate_left
            · intro W hSw
              have hSv : W.cell? ⟨wb, 2 + k, none⟩ = some (.pointer (some ⟨r k, 0, none⟩)) := hSw
              clear hSw
              skip
              simp only [List.getElem_toArray, List.getElem_cons_zero, List.getElem_cons_succ]
              go_simp
              all_goals with_reducible rfl
            simp only [List.getElem_toArray, List.getElem_cons_zero, List.getElem_cons_succ, Act.put, List.setIfInBounds_toArray, List.set_cons_zero, List.set_cons_succ]
            refine wpAnyH_ready (rs := [15]) (by kernel_rfl) (by simp) ?_
            refine AllReadyH.cons (o := _) rfl (fun K hK => ?_) AllReadyH.nil
            simp only [List.getElem_toArray, List.getElem_cons_zero, List.getElem_cons_succ]
            go_simp
            obtain ⟨τX, hPX', _, _, _⟩ := hP1.out.appw (b := r k) (g := g1) (cap := cg1) hgrow1 (by rw [hmh2.out]; exact hown1) (hat1.elim Or.inl (fun e => Or.inr (by rw [e]; simp))) hlt1
            rw [hmh2.out] at hPX'
            obtain ⟨YB, hYB⟩ : ∃ YB, W1.setCell ⟨wb, 5, none⟩ (.slice (some ⟨g1, 0, none⟩) (m + 1) cg1) = YB := ⟨_, rfl⟩
            rw [hYB] at hPX' ⊢
            refine hK.out _ _ ((hPX'.cells.1 k hk2).2) (fun _ => ?_)
            clear hK K
            try simp only [Act.put]
            refine wpAnyH_done (by kernel_rfl) ?_ _
            refine NoPanic.normal ?_
            have hYn := hid (hfin.out _ _ _ _ hPX')
            clear hYB hPX' hown1 hgrow1 hat1 hlt1 z4 y4 f4 x4 hrow hbs hwl1 hP1 cv cva cxa hHeld oW0 hPX
            go_wp2_with fail
            go_roundw
            case rel => exact ⟨k + 1, by omega, by go_num, hYn.out⟩
            case measure => simp [intOf]; omega
        · simp only [List.getElem_toArray, List.getElem_cons_zero, List.getElem_cons_succ]
          go_simp
          refine hK.out _ _ cxa.out (fun hHeld => ?_)
          clear hK K
          try simp only [Act.put, List.setIfInBounds_toArray, List.set_cons_zero, List.set_cons_succ]
          refine wpAnyH_ready (rs := [4]) (by kernel_rfl) (by simp) ?_
          refine AllReadyH.cons (o := _) rfl (fun K hK => ?_) AllReadyH.nil
          simp only [List.getElem_toArray, List.getElem_cons_zero, List.getElem_cons_succ]
          go_simp
          refine hK.out _ _ hHeld (fun hHeld => ?_)
          clear hK K
          try simp only [Act.put, List.setIfInBounds_toArray, List.set_cons_zero, List.set_cons_succ]
          refine wpAnyH_ready (rs := [12]) (by kernel_rfl) (by simp) ?_
          refine AllReadyH.cons (o := _) rfl (fun K hK => ?_) AllReadyH.nil
          refine step_append_lies _ (by rfl) _ _ _ (by rfl) w.heap.size 24 j0 _ 1 8 Try.underlying28 hj0 hy0 hy1 hy2 rfl (by omega) (.slice ao1 m cap1) m (ptrs po) (by rfl) hrow ⟨W0.heap.size, 0, none⟩ 1 1 [.pointer (some ⟨t k, 0, none⟩)] (by rfl) (by rfl) (World.news_of_block (cs := #[.pointer (some ⟨t k, 0, none⟩)]) (t := 24) (fr := (0, 0)) (heap_new W0 _)) (by simp [Value.oneCell']) (by omega) (by unfold maxLen; omega) (by omega) hbs (W0.heap.size + 1) (by simp) ?_
          intro g1 cg1 W1 hown1 hgrow1 hat1 hlt1
          have z4 : W1.heap[wb]? = _ := hgrow1.block wb hwl1 (fun e => by have h8 := hP1.out.tgo wb e.symm; rw [hP1.out.wbt] at h8; omega)
          have y4 : W1.cell? ⟨wb, 4, none⟩ = _ := (World.cell?_of_block z4).trans hP1.out.cells.2.1
          have f4 : W1.frozen? ⟨wb, 4, none⟩ = false := (frozen_block z4).trans (hP1.out.cells.2.2.2 _)
          have x4 : W1.cell? ⟨wb, k, none⟩ = _ := (World.cell?_of_block z4).trans ((hP1.out.cells.1 k hk2).1)
          refine hK.out _ _ x4 (fun hHeld => ?_)
          clear hK K
          try simp only [Act.put, List.setIfInBounds_toArray]
          refine' wpAnyH_take (i := 13) rfl (by kernel_rfl) (by kernel_rfl) (by kernel_rfl) (fun _ _ _ h => h) (Or.inl ⟨by rfl, ?_⟩) hHeld ?_
          rotate_left
          · intro W hSw
            have hSv : W.cell? ⟨wb, k, none⟩ = some (.pointer (some ⟨t k, 0, none⟩)) := hSw
            clear hSw
            skip
            simp only [List.getElem_toArray, List.getElem_cons_zero, List.getElem_cons_succ]
            go_simp
            all_goals with_reducible rfl
          simp only [List.getElem_toArray, List.getElem_cons_zero, List.getElem_cons_succ, Act.put, List.setIfInBounds_toArray, List.set_cons_zero, List.set_cons_succ]
          refine' wpAnyH_take (i := 14) rfl (by kernel_rfl) (by kernel_rfl) (by kernel_rfl) (fun _ _ _ h => h) (Or.inl ⟨by rfl, ?_⟩) hHeld ?_
          rotate_left
          · intro W hSw
            have hSv : W.cell? ⟨wb, k, none⟩ = some (.pointer (some ⟨t k, 0, none⟩)) := hSw
            clear hSw
            skip
            simp only [List.getElem_toArray, List.getElem_cons_zero, List.getElem_cons_succ]
            go_simp
            all_goals with_reducible rfl
          simp only [List.getElem_toArray, List.getElem_cons_zero, List.getElem_cons_succ, Act.put, List.setIfInBounds_toArray, List.set_cons_zero, List.set_cons_succ]
          refine wpAnyH_ready (rs := [15]) (by kernel_rfl) (by simp) ?_
          refine AllReadyH.cons (o := _) rfl (fun K hK => ?_) AllReadyH.nil
          simp only [List.getElem_toArray, List.getElem_cons_zero, List.getElem_cons_succ]
          go_simp
          obtain ⟨τX, hPX', _, _, _⟩ := hP1.out.appo (b := t k) (g := g1) (cap := cg1) hgrow1 (by rw [hmh.out]; exact hown1) (hat1.elim Or.inl (fun e => Or.inr (by rw [e]; simp))) hlt1
          rw [hmh.out] at hPX'
          obtain ⟨YA, hYA⟩ : ∃ YA, W1.setCell ⟨wb, 4, none⟩ (.slice (some ⟨g1, 0, none⟩) (m + 1) cg1) = YA := ⟨_, rfl⟩
          rw [hYA] at hPX' ⊢
          refine hK.out _ _ ((hPX'.cells.1 k hk2).1) (fun _ => ?_)
          clear hK K
          try simp only [Act.put]
          refine wpAnyH_done (by kernel_rfl) ?_ _
          refine NoPanic.normal ?_
          have hPX := hid hPX'
          clear hYA hPX' hown1 hgrow1 hat1 hlt1 z4 y4 f4 x4 hrow hbs hwl1 hP1 cv cva cxa hHeld oW0 hP0
          go_wp2_with fail
          refine wp_region_noPanic ?_
          have cx := (hPX.out.cells.1 k hk2).2
          have cv := hPX.out.cells.2.2.1
          refine wp_region_held_drew (S := fun X => X.cell? ⟨wb, 2 + k, none⟩ = some (.pointer (some ⟨r k, 0, none⟩))) (by kernel_rfl) (((Old.refl YA).drewN 1).cell cx) (fun hHeld => ?_)
          obtain ⟨W0, hW0⟩ : ∃ W0, (YA).drew = W0 := ⟨_, rfl⟩
          have oW0 : Hid (Old YA W0) := by rw [← hW0]; exact (Old.refl YA).drewN 1
          rw [hW0] at hHeld ⊢
          replace cv := oW0.out.cell cv
          clear hW0 cx
          have hP1 := hid (hPX.out.olds (oW0.out.alloc (.cells #[.pointer (some ⟨r k, 0, none⟩)] 26)))
          have cva := ((Old.refl W0).alloc (.cells #[.pointer (some ⟨r k, 0, none⟩)] 26)).cell cv
          have cxa := hid (((Old.refl W0).alloc (.cells #[.pointer (some ⟨r k, 0, none⟩)] 26)).cell hHeld)
          have hrow := hP1.out.roww
          rw [hmh2.out] at hrow
          have hbs := hP1.out.old.size
          have hwl1 := (hP1.out.bnd wb (by rw [hP1.out.wbt]; omega)).2
          refine' wpAnyH_take (i := 0) rfl (by kernel_rfl) (by kernel_rfl) (by kernel_rfl) (fun _ _ _ h => h) (Or.inl ⟨by rfl, ?_⟩) hHeld ?_
          rotate_left
          · intro W hSw
            have hSv : W.cell? ⟨wb, 2 + k, none⟩ = some (.pointer (some ⟨r k, 0, none⟩)) := hSw
            clear hSw
            skip
            simp only [List.getElem_toArray, List.getElem_cons_zero]
            go_simp
            all_goals with_reducible rfl
          simp only [List.getElem_toArray, List.getElem_cons_zero, Act.put, List.setIfInBounds_toArray, List.set_cons_zero, List.set_cons_succ]
          refine' wpAnyH_take (i := 1) rfl (by kernel_rfl) (by kernel_rfl) (by kernel_rfl) (fun _ _ _ h => h) (Or.inl ⟨by rfl, ?_⟩) hHeld ?_
          rotate_left
          · intro W hSw
            have hSv : W.cell? ⟨wb, 2 + k, none⟩ = some (.pointer (some ⟨r k, 0, none⟩)) := hSw
            clear hSw
            skip
            simp only [List.getElem_toArray, List.getElem_cons_zero, List.getElem_cons_succ]
            go_simp
            all_goals with_reducible rfl
          simp only [List.getElem_toArray, List.getElem_cons_zero, List.getElem_cons_succ, Act.put, List.setIfInBounds_toArray, List.set_cons_zero, List.set_cons_succ]
          refine' wpAnyH_take (i := 2) rfl (by kernel_rfl) (by kernel_rfl) (by kernel_rfl) (fun _ _ _ h => h) (Or.inl ⟨by rfl, ?_⟩) hHeld ?_
          rotate_left
          · intro W hSw
            have hSv : W.cell? ⟨wb, 2 + k, none⟩ = some (.pointer (some ⟨r k, 0, none⟩)) := hSw
            clear hSw
            skip
            simp only [List.getElem_toArray, List.getElem_cons_zero, List.getElem_cons_succ]
            go_simp
            all_goals with_reducible rfl
          simp only [List.getElem_toArray, List.getElem_cons_zero, List.getElem_cons_succ, Act.put, List.setIfInBounds_toArray, List.set_cons_zero, List.set_cons_succ]
          refine' wpAnyH_take (i := 3) rfl (by kernel_rfl) (by kernel_rfl) (by kernel_rfl) (fun _ _ _ h => h) (Or.inl ⟨by rfl, ?_⟩) hHeld ?_
          rotate_left
          · intro W hSw
            have hSv : W.cell? ⟨wb, 2 + k, none⟩ = some (.pointer (some ⟨r k, 0, none⟩)) := hSw
            clear hSw
            skip
            simp only [List.getElem_toArray, List.getElem_cons_zero, List.getElem_cons_succ]
            go_simp
            all_goals with_reducible rfl
          simp only [List.getElem_toArray, List.getElem_cons_zero, List.getElem_cons_succ, Act.put, List.setIfInBounds_toArray, List.set_cons_zero, List.set_cons_succ]
          refine' wpAnyH_take (i := 5) rfl (by kernel_rfl) (by kernel_rfl) (by kernel_rfl) (fun _ _ _ h => h) (Or.inl ⟨by rfl, ?_⟩) hHeld ?_
          rotate_left
          · intro W hSw
            have hSv : W.cell? ⟨wb, 2 + k, none⟩ = some (.pointer (some ⟨r k, 0, none⟩)) := hSw
            clear hSw
            skip
            simp only [List.getElem_toArray, List.getElem_cons_zero, List.getElem_cons_succ]
            go_simp
            all_goals with_reducible rfl
          simp only [List.getElem_toArray, List.getElem_cons_zero, List.getElem_cons_succ, Act.put, List.setIfInBounds_toArray, List.set_cons_zero, List.set_cons_succ]
          refine' wpAnyH_take (i := 6) rfl (by kernel_rfl) (by kernel_rfl) (by kernel_rfl) (fun _ _ _ h => h) (Or.inl ⟨by rfl, ?_⟩) hHeld ?_
          rotate_left
          · intro W hSw
            have hSv : W.cell? ⟨wb, 2 + k, none⟩ = some (.pointer (some ⟨r k, 0, none⟩)) := hSw
            clear hSw
            skip
            simp only [List.getElem_toArray, List.getElem_cons_zero, List.getElem_cons_succ]
            go_simp
            all_goals with_reducible rfl
          simp only [List.getElem_toArray, List.getElem_cons_zero, List.getElem_cons_succ, Act.put, List.setIfInBounds_toArray, List.set_cons_zero, List.set_cons_succ]
          refine' wpAnyH_take (i := 7) rfl (by kernel_rfl) (by kernel_rfl) (by kernel_rfl) (fun _ _ _ h => h) (Or.inl ⟨by rfl, ?_⟩) hHeld ?_
          rotate_left
          · intro W hSw
            have hSv : W.cell? ⟨wb, 2 + k, none⟩ = some (.pointer (some ⟨r k, 0, none⟩)) := hSw
            clear hSw
            skip
            simp only [List.getElem_toArray, List.getElem_cons_zero, List.getElem_cons_succ]
            go_simp
            all_goals with_reducible rfl
          simp only [List.getElem_toArray, List.getElem_cons_zero, List.getElem_cons_succ, Act.put, List.setIfInBounds_toArray, List.set_cons_zero, List.set_cons_succ]
          refine' wpAnyH_take (i := 8) rfl (by kernel_rfl) (by kernel_rfl) (by kernel_rfl) (fun _ _ _ h => h) (Or.inl ⟨by rfl, ?_⟩) hHeld ?_
          rotate_left
          · intro W hSw
            have hSv : W.cell? ⟨wb, 2 + k, none⟩ = some (.pointer (some ⟨r k, 0, none⟩)) := hSw
            clear hSw
            skip
            simp only [List.getElem_toArray, List.getElem_cons_zero, List.getElem_cons_succ]
            go_simp
            all_goals with_reducible rfl
          simp only [List.getElem_toArray, List.getElem_cons_zero, List.getElem_cons_succ, Act.put, List.setIfInBounds_toArray, List.set_cons_zero, List.set_cons_succ]
          refine' wpAnyH_take (i := 9) rfl (by kernel_rfl) (by kernel_rfl) (by kernel_rfl) (fun _ _ _ h => h) (Or.inl ⟨by rfl, ?_⟩) hHeld ?_
          rotate_left
          · intro W hSw
            have hSv : W.cell? ⟨wb, 2 + k, none⟩ = some (.pointer (some ⟨r k, 0, none⟩)) := hSw
            clear hSw
            skip
            simp only [List.getElem_toArray, List.getElem_cons_zero, List.getElem_cons_succ]
            go_simp
            all_goals with_reducible rfl
          simp only [List.getElem_toArray, List.getElem_cons_zero, List.getElem_cons_succ, Act.put, List.setIfInBounds_toArray, List.set_cons_zero, List.set_cons_succ]
          refine' wpAnyH_take (i := 10) rfl (by kernel_rfl) (by kernel_rfl) (by kernel_rfl) (fun _ _ _ h => h) (Or.inl ⟨by rfl, ?_⟩) hHeld ?_
          rotate_left
          · intro W hSw
            have hSv : W.cell? ⟨wb, 2 + k, none⟩ = some (.pointer (some ⟨r k, 0, none⟩)) := hSw
            clear hSw
            skip
            simp only [List.getElem_toArray, List.getElem_cons_zero, List.getElem_cons_succ]
            go_simp
            all_goals with_reducible rfl
          simp only [List.getElem_toArray, List.getElem_cons_zero, List.getElem_cons_succ, Act.put, List.setIfInBounds_toArray, List.set_cons_zero, List.set_cons_succ]
          refine wpAnyH_ready (rs := [4, 11]) (by kernel_rfl) (by simp) ?_
          refine AllReadyH.cons (o := _) rfl (fun K hK => ?_) (AllReadyH.cons (o := _) rfl (fun K hK => ?_) AllReadyH.nil)
          · simp only [List.getElem_toArray, List.getElem_cons_zero, List.getElem_cons_succ]
            go_simp
            refine hK.out _ _ hHeld (fun hHeld => ?_)
            clear hK K
            try simp only [Act.put, List.setIfInBounds_toArray, List.set_cons_zero, List.set_cons_succ]
            refine wpAnyH_ready (rs := [11]) (by kernel_rfl) (by simp) ?_
            refine AllReadyH.cons (o := _) rfl (fun K hK => ?_) AllReadyH.nil
            simp only [List.getElem_toArray, List.getElem_cons_zero, List.getElem_cons_succ]
            go_simp
            refine hK.out _ _ cxa.out (fun hHeld => ?_)
            clear hK K
            try simp only [Act.put, List.setIfInBounds_toArray, List.set_cons_zero, List.set_cons_succ]
            refine wpAnyH_ready (rs := [12]) (by kernel_rfl) (by simp) ?_
            refine AllReadyH.cons (o := _) rfl (fun K hK => ?_) AllReadyH.nil
            refine step_append_lies _ (by rfl) _ _ _ (by rfl) w.heap.size 26 j1 _ 1 8 Try.underlying29 hj1 hv0 hv1 hv2 rfl (by omega) (.slice ao2 m cap2) m (ptrs pw) (by rfl) hrow ⟨W0.heap.size, 0, none⟩ 1 1 [.pointer (some ⟨r k, 0, none⟩)] (by rfl) (by rfl) (World.news_of_block (cs := #[.pointer (some ⟨r k, 0, none⟩)]) (t := 26) (fr := (0, 0)) (heap_new W0 _)) (by simp [Value.oneCell']) (by omega) (by unfold maxLen; omega) (by omega) hbs (W0.heap.size + 1) (by simp) ?_
            intro g1 cg1 W1 hown1 hgrow1 hat1 hlt1
            have z4 : W1.heap[wb]? = _ := hgrow1.block wb hwl1 (fun e => by have h8 := hP1.out.tgw wb e.symm; rw [hP1.out.wbt] at h8; omega)
            have y4 : W1.cell? ⟨wb, 5, none⟩ = _ := (World.cell?_of_block z4).trans hP1.out.cells.2.2.1
            have f4 : W1.frozen? ⟨wb, 5, none⟩ = false := (frozen_block z4).trans (hP1.out.cells.2.2.2 _)
            have x4 : W1.cell? ⟨wb, 2 + k, none⟩ = _ := (World.cell?_of_block z4).trans ((hP1.out.cells.1 k hk2).2)
            refine hK.out _ _ x4 (fun hHeld => ?_)
            clear hK K
            try simp only [Act.put, List.setIfInBounds_toArray]
            refine' wpAnyH_take (i := 13) rfl (by kernel_rfl) (by kernel_rfl) (by kernel_rfl) (fun _ _ _ h => h) (Or.inl ⟨by rfl, ?_⟩) hHeld ?_
            rotate_left
            · intro W hSw
              have hSv : W.cell? ⟨wb, 2 + k, none⟩ = some (.pointer (some ⟨r k, 0, none⟩)) := hSw
              clear hSw
              skip
              simp only [List.getElem_toArray, List.getElem_cons_zero, List.getElem_cons_succ]
              go_simp
              all_goals with_reducible rfl
            simp only [List.getElem_toArray, List.getElem_cons_zero, List.getElem_cons_succ, Act.put, List.setIfInBounds_toArray, List.set_cons_zero, List.set_cons_succ]
            refine' wpAnyH_take (i := 14) rfl (by kernel_rfl) (by kernel_rfl) (by kernel_rfl) (fun _ _ _ h => h) (Or.inl ⟨by rfl, ?_⟩) hHeld ?_
            rotate_left
            · intro W hSw
              have hSv : W.cell? ⟨wb, 2 + k, none⟩ = some (.pointer (some ⟨r k, 0, none⟩)) := hSw
              clear hSw
              skip
              simp only [List.getElem_toArray, List.getElem_cons_zero, List.getElem_cons_succ]
              go_simp
              all_goals with_reducible rfl
            simp only [List.getElem_toArray, List.getElem_cons_zero, List.getElem_cons_succ, Act.put, List.setIfInBounds_toArray, List.set_cons_zero, List.set_cons_succ]
            refine wpAnyH_ready (rs := [15]) (by kernel_rfl) (by simp) ?_
            refine AllReadyH.cons (o := _) rfl (fun K hK => ?_) AllReadyH.nil
            simp only [List.getElem_toArray, List.getElem_cons_zero, List.getElem_cons_succ]
            go_simp
            obtain ⟨τX, hPX', _, _, _⟩ := hP1.out.appw (b := r k) (g := g1) (cap := cg1) hgrow1 (by rw [hmh2.out]; exact hown1) (hat1.elim Or.inl (fun e => Or.inr (by rw [e]; simp))) hlt1
            rw [hmh2.out] at hPX'
            obtain ⟨YB, hYB⟩ : ∃ YB, W1.setCell ⟨wb, 5, none⟩ (.slice (some ⟨g1, 0, none⟩) (m + 1) cg1) = YB := ⟨_, rfl⟩
            rw [hYB] at hPX' ⊢
            refine hK.out _ _ ((hPX'.cells.1 k hk2).2) (fun _ => ?_)
            clear hK K
            try simp only [Act.put]
            refine wpAnyH_done (by kernel_rfl) ?_ _
            refine NoPanic.normal ?_
            have hYn := hid (hfin.out _ _ _ _ hPX')
            clear hYB hPX' hown1 hgrow1 hat1 hlt1 z4 y4 f4 x4 hrow hbs hwl1 hP1 cv cva cxa hHeld oW0 hPX
            go_wp2_with fail
            go_roundw
            case rel => exact ⟨k + 1, by omega, by go_num, hYn.out⟩
            case measure => simp [intOf]; omega
          · simp only [List.getElem_toArray, List.getElem_cons_zero, List.getElem_cons_succ]
            go_simp
            refine hK.out _ _ cxa.out (fun hHeld => ?_)
            clear hK K
            try simp only [Act.put, List.setIfInBounds_toArray, List.set_cons_zero, List.set_cons_succ]
            refine wpAnyH_ready (rs := [4]) (by kernel_rfl) (by simp) ?_
            refine AllReadyH.cons (o := _) rfl (fun K hK => ?_) AllReadyH.nil
            simp only [List.getElem_toArray, List.getElem_cons_zero, List.getElem_cons_succ]
            go_simp
            refine hK.out _ _ hHeld (fun hHeld => ?_)
            clear hK K
            try simp only [Act.put, List.setIfInBounds_toArray, List.set_cons_zero, List.set_cons_succ]
            refine wpAnyH_ready (rs := [12]) (by kernel_rfl) (by simp) ?_
            refine AllReadyH.cons (o := _) rfl (fun K hK => ?_) AllReadyH.nil
            refine step_append_lies _ (by rfl) _ _ _ (by rfl) w.heap.size 26 j1 _ 1 8 Try.underlying29 hj1 hv0 hv1 hv2 rfl (by omega) (.slice ao2 m cap2) m (ptrs pw) (by rfl) hrow ⟨W0.heap.size, 0, none⟩ 1 1 [.pointer (some ⟨r k, 0, none⟩)] (by rfl) (by rfl) (World.news_of_block (cs := #[.pointer (some ⟨r k, 0, none⟩)]) (t := 26) (fr := (0, 0)) (heap_new W0 _)) (by simp [Value.oneCell']) (by omega) (by unfold maxLen; omega) (by omega) hbs (W0.heap.size + 1) (by simp) ?_
            intro g1 cg1 W1 hown1 hgrow1 hat1 hlt1
            have z4 : W1.heap[wb]? = _ := hgrow1.block wb hwl1 (fun e => by have h8 := hP1.out.tgw wb e.symm; rw [hP1.out.wbt] at h8; omega)
            have y4 : W1.cell? ⟨wb, 5, none⟩ = _ := (World.cell?_of_block z4).trans hP1.out.cells.2.2.1
            have f4 : W1.frozen? ⟨wb, 5, none⟩ = false := (frozen_block z4).trans (hP1.out.cells.2.2.2 _)
            have x4 : W1.cell? ⟨wb, 2 + k, none⟩ = _ := (World.cell?_of_block z4).trans ((hP1.out.cells.1 k hk2).2)
            refine hK.out _ _ x4 (fun hHeld => ?_)
            clear hK K
            try simp only [Act.put, List.setIfInBounds_toArray]
            refine' wpAnyH_take (i := 13) rfl (by kernel_rfl) (by kernel_rfl) (by kernel_rfl) (fun _ _ _ h => h) (Or.inl ⟨by rfl, ?_⟩) hHeld ?_
            rotate_left
            · intro W hSw
              have hSv : W.cell? ⟨wb, 2 + k, none⟩ = some (.pointer (some ⟨r k, 0, none⟩)) := hSw
              clear hSw
              skip
              simp only [List.getElem_toArray, List.getElem_cons_zero, List.getElem_cons_succ]
              go_simp
              all_goals with_reducible rfl
            simp only [List.getElem_toArray, List.getElem_cons_zero, List.getElem_cons_succ, Act.put, List.setIfInBounds_toArray, List.set_cons_zero, List.set_cons_succ]
            refine' wpAnyH_take (i := 14) rfl (by kernel_rfl) (by kernel_rfl) (by kernel_rfl) (fun _ _ _ h => h) (Or.inl ⟨by rfl, ?_⟩) hHeld ?_
            rotate_left
            · intro W hSw
              have hSv : W.cell? ⟨wb, 2 + k, none⟩ = some (.pointer (some ⟨r k, 0, none⟩)) := hSw
              clear hSw
              skip
              simp only [List.getElem_toArray, List.getElem_cons_zero, List.getElem_cons_succ]
              go_simp
              all_goals with_reducible rfl
            simp only [List.getElem_toArray, List.getElem_cons_zero, List.getElem_cons_succ, Act.put, List.setIfInBounds_toArray, List.set_cons_zero, List.set_cons_succ]
            refine wpAnyH_ready (rs := [15]) (by kernel_rfl) (by simp) ?_
            refine AllReadyH.cons (o := _) rfl (fun K hK => ?_) AllReadyH.nil
            simp only [List.getElem_toArray, List.getElem_cons_zero, List.getElem_cons_succ]
            go_simp
            obtain ⟨τX, hPX', _, _, _⟩ := hP1.out.appw (b := r k) (g := g1) (cap := cg1) hgrow1 (by rw [hmh2.out]; exact hown1) (hat1.elim Or.inl (fun e => Or.inr (by rw [e]; simp))) hlt1
            rw [hmh2.out] at hPX'
            obtain ⟨YB, hYB⟩ : ∃ YB, W1.setCell ⟨wb, 5, none⟩ (.slice (some ⟨g1, 0, none⟩) (m + 1) cg1) = YB := ⟨_, rfl⟩
            rw [hYB] at hPX' ⊢
            refine hK.out _ _ ((hPX'.cells.1 k hk2).2) (fun _ => ?_)
            clear hK K
            try simp only [Act.put]
            refine wpAnyH_done (by kernel_rfl) ?_ _
            refine NoPanic.normal ?_
            have hYn := hid (hfin.out _ _ _ _ hPX')
            clear hYB hPX' hown1 hgrow1 hat1 hlt1 z4 y4 f4 x4 hrow hbs hwl1 hP1 cv cva cxa hHeld oW0 hPX
            go_wp2_with fail
            go_roundw
            case rel => exact ⟨k + 1, by omega, by go_num, hYn.out⟩
            case measure => simp [intOf]; omega
      have hkeq : k = 2 := by omega
      rw [hkeq] at kY
      have hd2 : decide ((k : Int) < 2) = false := by simp; omega
      clear hkeq hk hk2
      obtain ⟨m, po, pw, ao1, ao2, cap1, cap2, hm12, hoW, hZ⟩ := kY.out.pz
      have kZ := hid hZ
      have koW := hid hoW
      clear hZ hoW kY
      obtain ⟨Wc, hWc⟩ : ∃ Wc, wr = Wc := ⟨_, rfl⟩
      rw [hWc] at kZ koW ⊢
      clear hWc
      go_wp2_with fail
      go_loopw [14] (fun s wr => ∃ i : Nat, i ≤ m ∧ s = .int .i64 (i : Int) ∧ Old Wc wr) (fun s _ => m - (intOf s).toNat)
      case atStart => exact ⟨0, Nat.zero_le _, rfl, Old.refl _⟩
      case round =>
      obtain ⟨j, hj, rfl, hoj⟩ := hrel
      have kj := hid hoj
      clear hoj
      have c4 := kj.out.cell kZ.out.c4
      by_cases hjm : j < m
      · have hjo : j < po.length := by rw [kZ.out.lo]; exact hjm
        have hjw : j < pw.length := by rw [kZ.out.lw]; exact hjm
        obtain ⟨ga, hga, va⟩ := kZ.out.ro j hjo
        obtain ⟨gb, hgb, vb⟩ := kZ.out.rw j hjw
        obtain ⟨nwj, Lj, Fj, Zj, hTj, hDj, hLj⟩ := kZ.out.each j hjo hjw
        obtain ⟨pa, hpa⟩ : ∃ pa, po[j] = pa := ⟨_, rfl⟩
        obtain ⟨pb, hpb⟩ : ∃ pb, pw[j] = pb := ⟨_, rfl⟩
        rw [hpa] at va hTj
        rw [hpb] at vb hDj
        have kt := hid (fun W (hW : Old Wc W) => TN.told 0 (hTj.kept hW (fun _ _ h => h)) (hDj.old hW) (by omega))
        have c4c := kZ.out.c4
        have c5c := kZ.out.c5
        subst hga hgb
        clear hTj hDj hLj hpa hpb hjo hjw
        have hdj : decide (j < m) = true := by simp; exact hjm
        go_wp2_with fail
        refine wp_region_noPanic ?_
        refine wp_region_held_drew (S := fun X => Old Wc X) (by kernel_rfl) (kj.out.drewN 1) (fun hHeld => ?_)
        generalize wr.drew = W0 at *
        refine' wpAnyH_take (i := 0) rfl (by kernel_rfl) (by kernel_rfl) (by kernel_rfl) (fun _ _ _ h => h) (Or.inl ⟨by rfl, ?_⟩) hHeld ?_
        rotate_left
        · intro W hSw
          have hSv : Old Wc W := hSw
          clear hSw
          skip
          simp only [List.getElem_toArray, List.getElem_cons_zero]
          go_simp
          all_goals with_reducible rfl
        simp only [List.getElem_toArray, List.getElem_cons_zero, Act.put, List.setIfInBounds_toArray, List.set_cons_zero, List.set_cons_succ]
        refine' wpAnyH_take (i := 1) rfl (by kernel_rfl) (by kernel_rfl) (by kernel_rfl) (fun _ _ _ h => h) (Or.inl ⟨by rfl, ?_⟩) hHeld ?_
        rotate_left
        · intro W hSw
          have hSv : Old Wc W := hSw
          clear hSw
          skip
          simp only [List.getElem_toArray, List.getElem_cons_zero, List.getElem_cons_succ]
          go_simp
          all_goals with_reducible rfl
        simp only [List.getElem_toArray, List.getElem_cons_zero, List.getElem_cons_succ, Act.put, List.setIfInBounds_toArray, List.set_cons_zero, List.set_cons_succ]
        refine' wpAnyH_take (i := 2) rfl (by kernel_rfl) (by kernel_rfl) (by kernel_rfl) (fun _ _ _ h => h) (Or.inl ⟨by rfl, ?_⟩) hHeld ?_
        rotate_left
        · intro W hSw
          have hSv : Old Wc W := hSw
          clear hSw
          skip
          simp only [List.getElem_toArray, List.getElem_cons_zero, List.getElem_cons_succ]
          go_simp
          all_goals with_reducible rfl
        simp only [List.getElem_toArray, List.getElem_cons_zero, List.getElem_cons_succ, Act.put, List.setIfInBounds_toArray, List.set_cons_zero, List.set_cons_succ]
        refine' wpAnyH_take (i := 3) rfl (by kernel_rfl) (by kernel_rfl) (by kernel_rfl) (fun _ _ _ h => h) (Or.inl ⟨by rfl, ?_⟩) hHeld ?_
        rotate_left
        · intro W hSw
          have hSv : Old Wc W := hSw
          clear hSw
          have q1 := hSv.cell c4c
          simp only [List.getElem_toArray, List.getElem_cons_zero, List.getElem_cons_succ]
          go_simp
          all_goals with_reducible rfl
        simp only [List.getElem_toArray, List.getElem_cons_zero, List.getElem_cons_succ, Act.put, List.setIfInBounds_toArray, List.set_cons_zero, List.set_cons_succ]
        refine' wpAnyH_take (i := 4) rfl (by kernel_rfl) (by kernel_rfl) (by kernel_rfl) (fun _ _ _ h => h) (Or.inl ⟨by rfl, ?_⟩) hHeld ?_
        rotate_left
        · intro W hSw
          have hSv : Old Wc W := hSw
          clear hSw
          skip
          simp only [List.getElem_toArray, List.getElem_cons_zero, List.getElem_cons_succ]
          go_simp
          all_goals with_reducible rfl
        simp only [List.getElem_toArray, List.getElem_cons_zero, List.getElem_cons_succ, Act.put, List.setIfInBounds_toArray, List.set_cons_zero, List.set_cons_succ]
        refine' wpAnyH_take (i := 5) rfl (by kernel_rfl) (by kernel_rfl) (by kernel_rfl) (fun _ _ _ h => h) (Or.inl ⟨by rfl, ?_⟩) hHeld ?_
        rotate_left
        · intro W hSw
          have hSv : Old Wc W := hSw
          clear hSw
          skip
          simp only [List.getElem_toArray, List.getElem_cons_zero, List.getElem_cons_succ]
          go_simp
          all_goals with_reducible rfl
        simp only [List.getElem_toArray, List.getElem_cons_zero, List.getElem_cons_succ, Act.put, List.setIfInBounds_toArray, List.set_cons_zero, List.set_cons_succ]
        refine' wpAnyH_take (i := 6) rfl (by kernel_rfl) (by kernel_rfl) (by kernel_rfl) (fun _ _ _ h => h) (Or.inl ⟨by rfl, ?_⟩) hHeld ?_
        rotate_left
        · intro W hSw
          have hSv : Old Wc W := hSw
          clear hSw
          have q1 := hSv.cell va
          simp only [List.getElem_toArray, List.getElem_cons_zero, List.getElem_cons_succ]
          go_simp
          all_goals with_reducible rfl
        simp only [List.getElem_toArray, List.getElem_cons_zero, List.getElem_cons_succ, Act.put, List.setIfInBounds_toArray, List.set_cons_zero, List.set_cons_succ]
        refine' wpAnyH_take (i := 7) rfl (by kernel_rfl) (by kernel_rfl) (by kernel_rfl) (fun _ _ _ h => h) (Or.inl ⟨by rfl, ?_⟩) hHeld ?_
        rotate_left
        · intro W hSw
          have hSv : Old Wc W := hSw
          clear hSw
          skip
          simp only [List.getElem_toArray, List.getElem_cons_zero, List.getElem_cons_succ]
          go_simp
          all_goals with_reducible rfl
        simp only [List.getElem_toArray, List.getElem_cons_zero, List.getElem_cons_succ, Act.put, List.setIfInBounds_toArray, List.set_cons_zero, List.set_cons_succ]
        refine' wpAnyH_take (i := 8) rfl (by kernel_rfl) (by kernel_rfl) (by kernel_rfl) (fun _ _ _ h => h) (Or.inl ⟨by rfl, ?_⟩) hHeld ?_
        rotate_left
        · intro W hSw
          have hSv : Old Wc W := hSw
          clear hSw
          skip
          simp only [List.getElem_toArray, List.getElem_cons_zero, List.getElem_cons_succ]
          go_simp
          all_goals with_reducible rfl
        simp only [List.getElem_toArray, List.getElem_cons_zero, List.getElem_cons_succ, Act.put, List.setIfInBounds_toArray, List.set_cons_zero, List.set_cons_succ]
        refine' wpAnyH_take (i := 9) rfl (by kernel_rfl) (by kernel_rfl) (by kernel_rfl) (fun _ _ _ h => h) (Or.inl ⟨by rfl, ?_⟩) hHeld ?_
        rotate_left
        · intro W hSw
          have hSv : Old Wc W := hSw
          clear hSw
          skip
          simp only [List.getElem_toArray, List.getElem_cons_zero, List.getElem_cons_succ]
          go_simp
          all_goals with_reducible rfl
        simp only [List.getElem_toArray, List.getElem_cons_zero, List.getElem_cons_succ, Act.put, List.setIfInBounds_toArray, List.set_cons_zero, List.set_cons_succ]
        refine' wpAnyH_take (i := 10) rfl (by kernel_rfl) (by kernel_rfl) (by kernel_rfl) (fun _ _ _ h => h) (Or.inl ⟨by rfl, ?_⟩) hHeld ?_
        rotate_left
        · intro W hSw
          have hSv : Old Wc W := hSw
          clear hSw
          have q1 := hSv.cell c5c
          simp only [List.getElem_toArray, List.getElem_cons_zero, List.getElem_cons_succ]
          go_simp
          all_goals with_reducible rfl
        simp only [List.getElem_toArray, List.getElem_cons_zero, List.getElem_cons_succ, Act.put, List.setIfInBounds_toArray, List.set_cons_zero, List.set_cons_succ]
        refine' wpAnyH_take (i := 11) rfl (by kernel_rfl) (by kernel_rfl) (by kernel_rfl) (fun _ _ _ h => h) (Or.inl ⟨by rfl, ?_⟩) hHeld ?_
        rotate_left
        · intro W hSw
          have hSv : Old Wc W := hSw
          clear hSw
          skip
          simp only [List.getElem_toArray, List.getElem_cons_zero, List.getElem_cons_succ]
          go_simp
          all_goals with_reducible rfl
        simp only [List.getElem_toArray, List.getElem_cons_zero, List.getElem_cons_succ, Act.put, List.setIfInBounds_toArray, List.set_cons_zero, List.set_cons_succ]
        refine' wpAnyH_take (i := 12) rfl (by kernel_rfl) (by kernel_rfl) (by kernel_rfl) (fun _ _ _ h => h) (Or.inl ⟨by rfl, ?_⟩) hHeld ?_
        rotate_left
        · intro W hSw
          have hSv : Old Wc W := hSw
          clear hSw
          skip
          simp only [List.getElem_toArray, List.getElem_cons_zero, List.getElem_cons_succ]
          go_simp
          all_goals with_reducible rfl
        simp only [List.getElem_toArray, List.getElem_cons_zero, List.getElem_cons_succ, Act.put, List.setIfInBounds_toArray, List.set_cons_zero, List.set_cons_succ]
        refine' wpAnyH_take (i := 13) rfl (by kernel_rfl) (by kernel_rfl) (by kernel_rfl) (fun _ _ _ h => h) (Or.inl ⟨by rfl, ?_⟩) hHeld ?_
        rotate_left
        · intro W hSw
          have hSv : Old Wc W := hSw
          clear hSw
          have q1 := hSv.cell vb
          simp only [List.getElem_toArray, List.getElem_cons_zero, List.getElem_cons_succ]
          go_simp
          all_goals with_reducible rfl
        simp only [List.getElem_toArray, List.getElem_cons_zero, List.getElem_cons_succ, Act.put, List.setIfInBounds_toArray, List.set_cons_zero, List.set_cons_succ]
        refine wpAnyH_ready (rs := [14]) (by kernel_rfl) (by simp) ?_
        refine AllReadyH.cons (o := _) rfl (fun K hK => ?_) AllReadyH.nil
        simp only [List.getElem_toArray, List.getElem_cons_zero, List.getElem_cons_succ]
        go_simp
        refine (kt.out _ hHeld).mono ?_
        rintro e Wd ⟨rfl, hod⟩
        refine hK.out _ _ (hHeld.trans hod) (fun hHeld => ?_)
        clear hK K hod
        try simp only [Act.put, List.setIfInBounds_toArray, List.set_cons_zero, List.set_cons_succ]
        refine' wpAnyH_take (i := 15) rfl (by kernel_rfl) (by kernel_rfl) (by kernel_rfl) (fun _ _ _ h => h) (Or.inl ⟨by rfl, ?_⟩) hHeld ?_
        rotate_left
        · intro W hSw
          have hSv : Old Wc W := hSw
          clear hSw
          skip
          simp only [List.getElem_toArray, List.getElem_cons_zero, List.getElem_cons_succ]
          go_simp
          all_goals with_reducible rfl
        simp only [List.getElem_toArray, List.getElem_cons_zero, List.getElem_cons_succ, Act.put, List.setIfInBounds_toArray, List.set_cons_zero, List.set_cons_succ]
        have khd := hid hHeld
        refine wpAnyH_done (by kernel_rfl) ?_ _
        refine NoPanic.normal ?_
        clear hHeld
        go_wp2_with fail
        go_roundw
        case rel => exact ⟨j + 1, by omega, by go_num, khd.out⟩
        case measure => simp [intOf]; omega
      obtain rfl : j = m := by omega
      go_wp2_with fail
      refine (kK.out _).mono ?_
      rintro e we ⟨rfl, he⟩
      have khe := hid he
      clear he
      go_wp2
      go_ret
      exact ⟨rfl, (koW.out.trans kj.out).trans khe.out⟩
end Go.Proofs.Ytjkgijfddgppjaa
