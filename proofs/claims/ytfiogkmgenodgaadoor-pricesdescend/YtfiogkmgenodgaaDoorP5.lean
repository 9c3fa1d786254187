/- A stand in memory; its bound; a try: walked. -/
import Derived.Test.YtfiogkmgenodgaaDoorD0
namespace Go.Proofs.YtfiogkmgenodgaaDoor
open Go.RowKit Go.Lib Go.Shelf



/-- A stand behind its pointer. -/
abbrev Sd (w : World) (b : Nat) (s : St) : Prop := Own .i64 89 w b (lst s)

theorem Sd.nums {w : World} {b : Nat} {s : St} (h : Sd w b s) : NumsC .i64 w (some ⟨b, 2, none⟩) s.2.2 := by
  intro i hi
  refine ⟨b, 2, rfl, ?_⟩
  have := (Own.cell h (i := i + 2) (by simp [lst]; omega)).1
  rw [show 2 + i = i + 2 by omega, this]
  simp [lst]

set_option maxRecDepth 100000 in
set_option maxHeartbeats 4000000 in
theorem boundOf_any (sb : Nat) (s : St) (gd : Int) (bo : Option Addr) (cap : Nat) (B : Ins) (w : World) (hs : Sd w sb s) (hsl : s.2.2.length = 10) (h : InsC w bo B) (hl : B.length ≤ 9223372036854775807) (hT : Tabs w) :
    Calls Tryd.prog 60 #[.pointer (some ⟨sb, 0, none⟩), .agg #[.int .i64 gd, .slice bo B.length cap]] w fun e w' => e = .returned (.int .i64 (boundZ s.2.2 (allZ gd).1 B)) ∧ Old w w' := by
  have o1 : Old w (w.alloc (.cells #[.int .i64 gd, .slice bo B.length cap] 38)) := (Old.refl w).alloc _
  have c0 := new_cell w #[.int .i64 gd, .slice bo B.length cap] 38 0 _ rfl
  have c1 := new_cell w #[.int .i64 gd, .slice bo B.length cap] 38 1 _ rfl
  have kA := hid (fun w => all_any gd w)
  have kB := hid (fun W (o : Old w W) => bound_any bo (some ⟨sb, 2, none⟩) cap 10 B s.2.2 (allZ gd).1 W (h.old o) hl (by
    unfold allZ
    split
    · have hp : 1 ≤ 2 ^ gd.toNat := Nat.one_le_two_pow
      have hp2 : 2 ^ gd.toNat ≤ 4294967296 := by
        rw [show (4294967296 : Nat) = 2 ^ 32 by decide]
        exact Nat.pow_le_pow_right (by decide) (by omega)
      dsimp only
      omega
    · decide) ((Sd.nums hs).old o) (hT.old o))
  rw [hsl] at kB
  have ko := hid o1
  have hsb := hs.lt
  clear o1 h hT hs
  generalize allZ gd = az at *
  obtain ⟨a0, a1⟩ := az
  dsimp only at kA kB ⊢
  generalize boundZ s.2.2 a0 B = bz at *
  go_enter Tryd.func60, Tryd.ntmps60
  go_wp2_with fail
  generalize hw1 : w.alloc (.cells #[.int .i64 gd, .slice bo B.length cap] 38) = w1 at *
  clear hw1
  obtain ⟨xb, hxb⟩ : ∃ xb, w.heap.size = xb := ⟨_, rfl⟩
  rw [hxb] at c0 c1 ⊢
  refine (kA.out _).mono ?_
  rintro e w2 ⟨rfl, e2⟩
  rw [e2]
  clear e2
  go_upto_region 2 with fail
  refine wp_region_noPanic ?_
  refine wp_region_held_drew (S := fun W => W.cell? ⟨xb, 1, none⟩ = some (.slice bo B.length cap)) (by kernel_rfl) (((Old.refl w1).drewN 1).cell c1) (fun hHeld => ?_)
  have koD : Hid (Old w w1.drew) := ko.out.drewN 1
  generalize w1.drew = V at *
  refine' wpAnyH_take (i := 0) rfl (by kernel_rfl) (by kernel_rfl) (by kernel_rfl) (fun _ _ _ h => h) (Or.inl ⟨by rfl, ?_⟩) hHeld ?_
  rotate_left
  · intro W hSw
    obtain r1 := hSw
    simp only [List.getElem_toArray, List.getElem_cons_zero]
    go_simp
    all_goals with_reducible rfl
  simp only [List.getElem_toArray, List.getElem_cons_zero, Act.put, List.setIfInBounds_toArray, List.set_cons_zero, List.set_cons_succ]
  refine' wpAnyH_take (i := 1) rfl (by kernel_rfl) (by kernel_rfl) (by kernel_rfl) (fun _ _ _ h => h) (Or.inl ⟨by rfl, ?_⟩) hHeld ?_
  rotate_left
  · intro W hSw
    obtain r1 := hSw
    simp only [List.getElem_toArray, List.getElem_cons_zero, List.getElem_cons_succ]
    go_simp
    all_goals with_reducible rfl
  simp only [List.getElem_toArray, List.getElem_cons_zero, List.getElem_cons_succ, Act.put, List.setIfInBounds_toArray, List.set_cons_zero, List.set_cons_succ]
  refine' wpAnyH_take (i := 2) rfl (by kernel_rfl) (by kernel_rfl) (by kernel_rfl) (fun _ _ _ h => h) (Or.inl ⟨by rfl, ?_⟩) hHeld ?_
  rotate_left
  · intro W hSw
    obtain r1 := hSw
    simp only [List.getElem_toArray, List.getElem_cons_zero, List.getElem_cons_succ]
    go_simp
    all_goals with_reducible rfl
  simp only [List.getElem_toArray, List.getElem_cons_zero, List.getElem_cons_succ, Act.put, List.setIfInBounds_toArray, List.set_cons_zero, List.set_cons_succ]
  refine' wpAnyH_take (i := 3) rfl (by kernel_rfl) (by kernel_rfl) (by kernel_rfl) (fun _ _ _ h => h) (Or.inl ⟨by rfl, ?_⟩) hHeld ?_
  rotate_left
  · intro W hSw
    obtain r1 := hSw
    simp only [List.getElem_toArray, List.getElem_cons_zero, List.getElem_cons_succ]
    go_simp
    all_goals with_reducible rfl
  simp only [List.getElem_toArray, List.getElem_cons_zero, List.getElem_cons_succ, Act.put, List.setIfInBounds_toArray, List.set_cons_zero, List.set_cons_succ]
  refine' wpAnyH_take (i := 4) rfl (by kernel_rfl) (by kernel_rfl) (by kernel_rfl) (fun _ _ _ h => h) (Or.inl ⟨by rfl, ?_⟩) hHeld ?_
  rotate_left
  · intro W hSw
    obtain r1 := hSw
    simp only [List.getElem_toArray, List.getElem_cons_zero, List.getElem_cons_succ]
    go_simp
    all_goals with_reducible rfl
  simp only [List.getElem_toArray, List.getElem_cons_zero, List.getElem_cons_succ, Act.put, List.setIfInBounds_toArray, List.set_cons_zero, List.set_cons_succ]
  refine' wpAnyH_take (i := 5) rfl (by kernel_rfl) (by kernel_rfl) (by kernel_rfl) (fun _ _ _ h => h) (Or.inl ⟨by rfl, ?_⟩) hHeld ?_
  rotate_left
  · intro W hSw
    obtain r1 := hSw
    simp only [List.getElem_toArray, List.getElem_cons_zero, List.getElem_cons_succ]
    go_simp
    all_goals with_reducible rfl
  simp only [List.getElem_toArray, List.getElem_cons_zero, List.getElem_cons_succ, Act.put, List.setIfInBounds_toArray, List.set_cons_zero, List.set_cons_succ]
  refine' wpAnyH_take (i := 6) rfl (by kernel_rfl) (by kernel_rfl) (by kernel_rfl) (fun _ _ _ h => h) (Or.inl ⟨by rfl, ?_⟩) hHeld ?_
  rotate_left
  · intro W hSw
    obtain r1 := hSw
    simp only [List.getElem_toArray, List.getElem_cons_zero, List.getElem_cons_succ]
    go_simp
    all_goals with_reducible rfl
  simp only [List.getElem_toArray, List.getElem_cons_zero, List.getElem_cons_succ, Act.put, List.setIfInBounds_toArray, List.set_cons_zero, List.set_cons_succ]
  refine wpAnyH_ready (rs := [7]) (by kernel_rfl) (by simp) ?_
  refine AllReadyH.cons (o := _) rfl (fun K hK => ?_) AllReadyH.nil
  simp only [List.getElem_toArray, List.getElem_cons_zero, List.getElem_cons_succ]
  go_simp
  refine (kB.out _ koD.out).mono ?_
  rintro e V2 ⟨rfl, o2⟩
  have koD2 := hid (koD.out.trans o2)
  refine hK.out _ _ (o2.cell hHeld) (fun hHeld2 => ?_)
  clear hHeld hK
  have hHeld := hHeld2
  clear hHeld2
  clear o2
  try simp only [Act.put, List.setIfInBounds_toArray, List.set_cons_zero, List.set_cons_succ]
  refine' wpAnyH_take (i := 8) rfl (by kernel_rfl) (by kernel_rfl) (by kernel_rfl) (fun _ _ _ h => h) (Or.inl ⟨by rfl, ?_⟩) hHeld ?_
  rotate_left
  · intro W hSw
    obtain r1 := hSw
    simp only [List.getElem_toArray, List.getElem_cons_zero, List.getElem_cons_succ]
    go_simp
    all_goals with_reducible rfl
  simp only [List.getElem_toArray, List.getElem_cons_zero, List.getElem_cons_succ, Act.put, List.setIfInBounds_toArray, List.set_cons_zero, List.set_cons_succ]
  refine wpAnyH_done (by kernel_rfl) ?_ _
  refine NoPanic.normal ?_
  clear hHeld
  go_wp2_with fail
  go_ret
  exact ⟨rfl, koD2.out⟩
end Go.Proofs.YtfiogkmgenodgaaDoor
