/- Places put in order one by one: walked. -/
import Derived.Test.YtccbmmbcfcppeaaN3
namespace Go.Proofs.Ytccbmmbcfcppeaa
open Go.RowKit



/-- One more is put in its place. -/
theorem ins_step {L : Nat → Int} {f : Dat} {a i j : Nat} (h1 : ∀ s t, a ≤ s → s < t → t ≤ i → s ≠ j → t ≠ j → Lt L (f s) (f t)) (h2 : ∀ t, j < t → t ≤ i → Lt L (f j) (f t)) (hj : a < j ∧ j ≤ i) (hlt : Lt L (f j) (f (j - 1))) :
    (∀ s t, a ≤ s → s < t → t ≤ i → s ≠ j - 1 → t ≠ j - 1 → Lt L (sw f j (j - 1) s) (sw f j (j - 1) t)) ∧ (∀ t, j - 1 < t → t ≤ i → Lt L (sw f j (j - 1) (j - 1)) (sw f j (j - 1) t)) := by
  constructor
  · intro s t s1 s2 s3 s4 s5
    unfold sw
    by_cases e1 : s = j
    · rw [if_pos e1, if_neg (by omega), if_neg (by omega)]
      exact h1 (j - 1) t (by omega) (by omega) s3 (by omega) (by omega)
    · rw [if_neg e1, if_neg s4]
      by_cases e2 : t = j
      · rw [if_pos e2]
        exact h1 s (j - 1) s1 (by omega) (by omega) e1 (by omega)
      · rw [if_neg e2, if_neg s5]
        exact h1 s t s1 s2 s3 e1 e2
  · intro t t1 t2
    have e0 : sw f j (j - 1) (j - 1) = f j := by
      unfold sw
      rw [if_neg (by omega), if_pos rfl]
    rw [e0]
    unfold sw
    by_cases e1 : t = j
    · rw [if_pos e1]
      exact hlt
    · rw [if_neg e1, if_neg (by omega)]
      exact h2 t (by omega) t2

set_option maxRecDepth 100000 in
set_option maxHeartbeats 8000000 in
theorem insertion_any (w0 w : World) (cb blk : Nat) (L : Nat → Int) (n a b : Nat) (f : Dat) (hC : Cmp w0 cb blk n L) (hD : OD w0 blk n f w) (hP : Pl n f) (hn : n ≤ 4096) (hab : a ≤ b) (hb : b ≤ n) (hi : ∀ i j, a ≤ i → i < j → j < b → f i < f j) :
    Calls Try.prog 52 #[.slice (some ⟨blk, 0, none⟩) n n, .int .i64 (a : Int), .int .i64 (b : Int), .func (.func 45) #[] #[.pointer (some ⟨cb, 0, none⟩)]] w fun e w' => e = .returned (.tuple #[]) ∧ ∃ g, OD w0 blk n g w' ∧ Re a b f g ∧ Srt L g a b := by
  have kC := hid hC
  have kD := hid hD
  have kP := hid hP
  have ki := hid hi
  clear hC hD hP hi
  go_enter Try.func52, Try.ntmps52
  go_wp2_with fail
  go_loopw [8] (fun t wr => ∃ i : Nat, (a + 1 ≤ i ∧ (i ≤ b ∨ i = a + 1)) ∧ t = .int .i64 (i : Int) ∧ Hid (∃ g, OD w0 blk n g wr ∧ Re a i f g ∧ Srt L g a i ∧ ∀ t, i ≤ t → g t = f t)) (fun t _ => b + 1 - (intOf t).toNat)
  case atStart => exact ⟨a + 1, by omega, by go_num, ⟨f, kD.out, Re.refl _, fun i j h1 h2 h3 => by omega, fun _ _ => rfl⟩⟩
  case round =>
    clear kD
    obtain ⟨i, hib, rfl, hg⟩ := hrel
    by_cases hlt : i < b
    · have hlt' : (i : Int) < (b : Int) := by omega
      obtain ⟨g0, hg1, hg2, hg3, hg4⟩ := hg.out
      have hinv : Hid (∃ g, OD w0 blk n g wr ∧ Re a (i + 1) f g ∧ (∀ s t, a ≤ s → s < t → t ≤ i → s ≠ i → t ≠ i → Lt L (g s) (g t)) ∧ (∀ t, i < t → t ≤ i → Lt L (g i) (g t)) ∧ (g i = f i) ∧ (∀ s, a ≤ s → s < i → ∃ u, a ≤ u ∧ u < i ∧ g s = f u) ∧ ∀ t, i + 1 ≤ t → g t = f t) :=
        ⟨g0, hg1, hg2.mono (Nat.le_refl _) (by omega), fun s t s1 s2 s3 s4 s5 => hg3 s t s1 s2 (by omega), fun t t1 t2 => by omega, hg4 i (Nat.le_refl _), fun s s1 s2 => hg2.mem s1 s2, fun t ht => hg4 t (by omega)⟩
      clear hg1 hg2 hg3 hg4 hg
      go_wp2_with fail
      go_loopw [9] (fun t wr => ∃ j : Nat, (a ≤ j ∧ j ≤ i) ∧ t = .int .i64 (j : Int) ∧ Hid (∃ g, OD w0 blk n g wr ∧ Re a (i + 1) f g ∧ (∀ s t, a ≤ s → s < t → t ≤ i → s ≠ j → t ≠ j → Lt L (g s) (g t)) ∧ (∀ t, j < t → t ≤ i → Lt L (g j) (g t)) ∧ g j = f i ∧ (∀ s, a ≤ s → s ≤ i → s ≠ j → ∃ u, a ≤ u ∧ u < i ∧ g s = f u) ∧ ∀ t, i + 1 ≤ t → g t = f t)) (fun t _ => (intOf t).toNat)
      case atStart =>
        obtain ⟨g, p1, p2, p3, p4, p5, p6, p7⟩ := hinv.out
        exact ⟨i, by omega, rfl, ⟨g, p1, p2, p3, p4, p5, fun s s1 s2 s3 => p6 s s1 (by omega), p7⟩⟩
      case round =>
        clear hinv g0
        obtain ⟨j, hj, rfl, hg⟩ := hrel
        obtain ⟨g, p1, p2, p3, p4, p5, p6, p7⟩ := hg.out
        by_cases hja : j > a
        · obtain ⟨k, rfl⟩ : ∃ k, j = k + 1 := ⟨j - 1, by omega⟩
          obtain ⟨c1, z1⟩ := p1.cell (i := k + 1) (by omega)
          obtain ⟨c2, z2⟩ := p1.cell (i := k) (by omega)
          have hpl := kP.out.re p2 (by omega)
          have kO := hid (kC.out.call wr.drew (g (k + 1)) (g k) p1.frm.drew (hpl (k + 1) (by omega)) (hpl k (by omega)))
          obtain ⟨u, u1, u2, u3⟩ := p6 k (by omega) (by omega) (by omega)
          have hix := ki.out u i u1 u2 hlt
          rw [← u3, ← p5] at hix
          have hcz := cpZ_neg L (g (k + 1)) (g k)
          obtain ⟨z, hz⟩ : ∃ z, cpZ L (g (k + 1)) (g k) = z := ⟨_, rfl⟩
          rw [hz] at kO hcz
          have hLt : Hid (z < 0 ↔ Lt L (g (k + 1)) (g k)) := by
            exact hcz
          have hja' : (k : Int) + 1 > (a : Int) := by omega
          have hwr : IntKind.i64.wrap (k : Int) = (k : Int) := by
            simp only [IntKind.wrap, IntKind.bits, IntKind.signed]
            simp
            omega
          have hjn : (k : Int) < (n : Int) := by omega
          have hk0 : (0 : Int) ≤ (k : Int) + 1 := by omega
          have hjn2 : (k : Int) + 1 < (n : Int) := by omega
          have kp1 := hid p1
          have kp := hid (show Re a (i + 1) f g ∧ (∀ s t, a ≤ s → s < t → t ≤ i → s ≠ k + 1 → t ≠ k + 1 → Lt L (g s) (g t)) ∧ (∀ t, k + 1 < t → t ≤ i → Lt L (g (k + 1)) (g t)) ∧ g (k + 1) = f i ∧ (∀ s, a ≤ s → s ≤ i → s ≠ k + 1 → ∃ u, a ≤ u ∧ u < i ∧ g s = f u) ∧ ∀ t, i + 1 ≤ t → g t = f t from ⟨p2, p3, p4, p5, p6, p7⟩)
          have kja := hid hja
          clear hcz hz u3 hix p1 hpl p2 p3 p4 p5 p6 p7 hg hja
          obtain ⟨x, hx⟩ : ∃ x : Int, (g (k + 1) : Int) = x := ⟨_, rfl⟩
          obtain ⟨y, hy⟩ : ∃ y : Int, (g k : Int) = y := ⟨_, rfl⟩
          rw [hx] at c1 kO
          rw [hy] at c2 kO
          have kx := hid hx
          have ky := hid hy
          clear hx hy
          go_upto_region 4 with fail
          refine wp_region_noPanic ?_
          refine wp_region_held_drew (S := fun W => R2 blk (k + 1) k x y W) (by kernel_rfl) ⟨c1, c2⟩ (fun hHeld => ?_)
          refine' wpAnyH_take (i := 0) rfl (by kernel_rfl) (by kernel_rfl) (by kernel_rfl) (fun _ _ _ h => h) (Or.inl ⟨by rfl, ?_⟩) hHeld ?_
          rotate_left
          · intro W hSw
            obtain ⟨r1, r2⟩ := hSw
            simp only [List.getElem_toArray, List.getElem_cons_zero]
            go_simp
            all_goals with_reducible rfl
          simp only [List.getElem_toArray, List.getElem_cons_zero, Act.put, List.setIfInBounds_toArray, List.set_cons_zero, List.set_cons_succ]
          refine' wpAnyH_take (i := 1) rfl (by kernel_rfl) (by kernel_rfl) (by kernel_rfl) (fun _ _ _ h => h) (Or.inl ⟨by rfl, ?_⟩) hHeld ?_
          rotate_left
          · intro W hSw
            obtain ⟨r1, r2⟩ := hSw
            simp only [List.getElem_toArray, List.getElem_cons_zero, List.getElem_cons_succ]
            go_simp
            all_goals with_reducible rfl
          simp only [List.getElem_toArray, List.getElem_cons_zero, List.getElem_cons_succ, Act.put, List.setIfInBounds_toArray, List.set_cons_zero, List.set_cons_succ]
          refine' wpAnyH_take (i := 2) rfl (by kernel_rfl) (by kernel_rfl) (by kernel_rfl) (fun _ _ _ h => h) (Or.inl ⟨by rfl, ?_⟩) hHeld ?_
          rotate_left
          · intro W hSw
            obtain ⟨r1, r2⟩ := hSw
            simp only [List.getElem_toArray, List.getElem_cons_zero, List.getElem_cons_succ]
            go_simp
            all_goals with_reducible rfl
          simp only [List.getElem_toArray, List.getElem_cons_zero, List.getElem_cons_succ, Act.put, List.setIfInBounds_toArray, List.set_cons_zero, List.set_cons_succ]
          refine' wpAnyH_take (i := 3) rfl (by kernel_rfl) (by kernel_rfl) (by kernel_rfl) (fun _ _ _ h => h) (Or.inl ⟨by rfl, ?_⟩) hHeld ?_
          rotate_left
          · intro W hSw
            obtain ⟨r1, r2⟩ := hSw
            simp only [List.getElem_toArray, List.getElem_cons_zero, List.getElem_cons_succ]
            go_simp
            all_goals with_reducible rfl
          simp only [List.getElem_toArray, List.getElem_cons_zero, List.getElem_cons_succ, Act.put, List.setIfInBounds_toArray, List.set_cons_zero, List.set_cons_succ]
          refine' wpAnyH_take (i := 4) rfl (by kernel_rfl) (by kernel_rfl) (by kernel_rfl) (fun _ _ _ h => h) (Or.inl ⟨by rfl, ?_⟩) hHeld ?_
          rotate_left
          · intro W hSw
            obtain ⟨r1, r2⟩ := hSw
            simp only [List.getElem_toArray, List.getElem_cons_zero, List.getElem_cons_succ]
            go_simp
            all_goals with_reducible rfl
          simp only [List.getElem_toArray, List.getElem_cons_zero, List.getElem_cons_succ, Act.put, List.setIfInBounds_toArray, List.set_cons_zero, List.set_cons_succ]
          refine' wpAnyH_take (i := 5) rfl (by kernel_rfl) (by kernel_rfl) (by kernel_rfl) (fun _ _ _ h => h) (Or.inl ⟨by rfl, ?_⟩) hHeld ?_
          rotate_left
          · intro W hSw
            obtain ⟨r1, r2⟩ := hSw
            simp only [List.getElem_toArray, List.getElem_cons_zero, List.getElem_cons_succ]
            go_simp
            all_goals with_reducible rfl
          simp only [List.getElem_toArray, List.getElem_cons_zero, List.getElem_cons_succ, Act.put, List.setIfInBounds_toArray, List.set_cons_zero, List.set_cons_succ]
          refine' wpAnyH_take (i := 6) rfl (by kernel_rfl) (by kernel_rfl) (by kernel_rfl) (fun _ _ _ h => h) (Or.inl ⟨by rfl, ?_⟩) hHeld ?_
          rotate_left
          · intro W hSw
            obtain ⟨r1, r2⟩ := hSw
            simp only [List.getElem_toArray, List.getElem_cons_zero, List.getElem_cons_succ]
            go_simp
            all_goals with_reducible rfl
          simp only [List.getElem_toArray, List.getElem_cons_zero, List.getElem_cons_succ, Act.put, List.setIfInBounds_toArray, List.set_cons_zero, List.set_cons_succ]
          refine' wpAnyH_take (i := 7) rfl (by kernel_rfl) (by kernel_rfl) (by kernel_rfl) (fun _ _ _ h => h) (Or.inl ⟨by rfl, ?_⟩) hHeld ?_
          rotate_left
          · intro W hSw
            obtain ⟨r1, r2⟩ := hSw
            simp only [List.getElem_toArray, List.getElem_cons_zero, List.getElem_cons_succ]
            go_simp
            all_goals with_reducible rfl
          simp only [List.getElem_toArray, List.getElem_cons_zero, List.getElem_cons_succ, Act.put, List.setIfInBounds_toArray, List.set_cons_zero, List.set_cons_succ]
          refine' wpAnyH_take (i := 8) rfl (by kernel_rfl) (by kernel_rfl) (by kernel_rfl) (fun _ _ _ h => h) (Or.inl ⟨by rfl, ?_⟩) hHeld ?_
          rotate_left
          · intro W hSw
            obtain ⟨r1, r2⟩ := hSw
            simp only [List.getElem_toArray, List.getElem_cons_zero, List.getElem_cons_succ]
            go_simp
            all_goals with_reducible rfl
          simp only [List.getElem_toArray, List.getElem_cons_zero, List.getElem_cons_succ, Act.put, List.setIfInBounds_toArray, List.set_cons_zero, List.set_cons_succ]
          refine' wpAnyH_take (i := 9) rfl (by kernel_rfl) (by kernel_rfl) (by kernel_rfl) (fun _ _ _ h => h) (Or.inl ⟨by rfl, ?_⟩) hHeld ?_
          rotate_left
          · intro W hSw
            obtain ⟨r1, r2⟩ := hSw
            simp only [List.getElem_toArray, List.getElem_cons_zero, List.getElem_cons_succ]
            go_simp
            all_goals with_reducible rfl
          simp only [List.getElem_toArray, List.getElem_cons_zero, List.getElem_cons_succ, Act.put, List.setIfInBounds_toArray, List.set_cons_zero, List.set_cons_succ]
          refine' wpAnyH_take (i := 10) rfl (by kernel_rfl) (by kernel_rfl) (by kernel_rfl) (fun _ _ _ h => h) (Or.inl ⟨by rfl, ?_⟩) hHeld ?_
          rotate_left
          · intro W hSw
            obtain ⟨r1, r2⟩ := hSw
            simp only [List.getElem_toArray, List.getElem_cons_zero, List.getElem_cons_succ]
            go_simp
            all_goals with_reducible rfl
          simp only [List.getElem_toArray, List.getElem_cons_zero, List.getElem_cons_succ, Act.put, List.setIfInBounds_toArray, List.set_cons_zero, List.set_cons_succ]
          refine' wpAnyH_take (i := 11) rfl (by kernel_rfl) (by kernel_rfl) (by kernel_rfl) (fun _ _ _ h => h) (Or.inl ⟨by rfl, ?_⟩) hHeld ?_
          rotate_left
          · intro W hSw
            obtain ⟨r1, r2⟩ := hSw
            simp only [List.getElem_toArray, List.getElem_cons_zero, List.getElem_cons_succ]
            go_simp
            all_goals with_reducible rfl
          simp only [List.getElem_toArray, List.getElem_cons_zero, List.getElem_cons_succ, Act.put, List.setIfInBounds_toArray, List.set_cons_zero, List.set_cons_succ]
          refine' wpAnyH_take (i := 12) rfl (by kernel_rfl) (by kernel_rfl) (by kernel_rfl) (fun _ _ _ h => h) (Or.inl ⟨by rfl, ?_⟩) hHeld ?_
          rotate_left
          · intro W hSw
            obtain ⟨r1, r2⟩ := hSw
            simp only [List.getElem_toArray, List.getElem_cons_zero, List.getElem_cons_succ]
            go_simp
            all_goals with_reducible rfl
          simp only [List.getElem_toArray, List.getElem_cons_zero, List.getElem_cons_succ, Act.put, List.setIfInBounds_toArray, List.set_cons_zero, List.set_cons_succ]
          refine' wpAnyH_take (i := 13) rfl (by kernel_rfl) (by kernel_rfl) (by kernel_rfl) (fun _ _ _ h => h) (Or.inl ⟨by rfl, ?_⟩) hHeld ?_
          rotate_left
          · intro W hSw
            obtain ⟨r1, r2⟩ := hSw
            simp only [List.getElem_toArray, List.getElem_cons_zero, List.getElem_cons_succ]
            go_simp
            all_goals with_reducible rfl
          simp only [List.getElem_toArray, List.getElem_cons_zero, List.getElem_cons_succ, Act.put, List.setIfInBounds_toArray, List.set_cons_zero, List.set_cons_succ]
          refine wpAnyH_ready (rs := [14]) (by kernel_rfl) (by simp) ?_
          refine AllReadyH.cons (o := _) rfl (fun K hK => ?_) AllReadyH.nil
          simp only [List.getElem_toArray, List.getElem_cons_zero, List.getElem_cons_succ]
          go_simp
          refine kO.out.mono ?_
          rintro e w2 ⟨rfl, e2⟩
          have hd : Hid (OD w0 blk n g w2) := (kp1.out.drewN 1).old e2
          have hR2 : R2 blk (k + 1) k x y w2 := R2.old c1 c2 e2
          refine hK.out _ _ (hR2) (fun hHeld2 => ?_)
          clear hHeld hK
          have hHeld := hHeld2
          clear hHeld2
          clear e2 c1 c2 z1 z2 kO kp1
          try simp only [Act.put, List.setIfInBounds_toArray, List.set_cons_zero, List.set_cons_succ]
          refine' wpAnyH_take (i := 15) rfl (by kernel_rfl) (by kernel_rfl) (by kernel_rfl) (fun _ _ _ h => h) (Or.inl ⟨by rfl, ?_⟩) hHeld ?_
          rotate_left
          · intro W hSw
            obtain ⟨r1, r2⟩ := hSw
            simp only [List.getElem_toArray, List.getElem_cons_zero, List.getElem_cons_succ]
            go_simp
            all_goals with_reducible rfl
          simp only [List.getElem_toArray, List.getElem_cons_zero, List.getElem_cons_succ, Act.put, List.setIfInBounds_toArray, List.set_cons_zero, List.set_cons_succ]
          refine' wpAnyH_take (i := 16) rfl (by kernel_rfl) (by kernel_rfl) (by kernel_rfl) (fun _ _ _ h => h) (Or.inl ⟨by rfl, ?_⟩) hHeld ?_
          rotate_left
          · intro W hSw
            obtain ⟨r1, r2⟩ := hSw
            simp only [List.getElem_toArray, List.getElem_cons_zero, List.getElem_cons_succ]
            go_simp
            all_goals with_reducible rfl
          simp only [List.getElem_toArray, List.getElem_cons_zero, List.getElem_cons_succ, Act.put, List.setIfInBounds_toArray, List.set_cons_zero, List.set_cons_succ]
          refine wpAnyH_done (by kernel_rfl) ?_ _
          refine NoPanic.normal ?_
          clear hHeld hR2
          by_cases hz : z < 0
          · have hlt2 := hLt.out.1 hz
            obtain ⟨d1, e1⟩ := hd.out.cell (i := k + 1) (by omega)
            obtain ⟨d2, e2⟩ := hd.out.cell (i := k) (by omega)
            have d1' := d1
            rw [kx.out] at d1
            rw [ky.out] at d2
            have hsw := hid (hd.out.swap (k + 1) k)
            rw [kx.out, ky.out] at hsw
            obtain ⟨q1, q2, q3, q4, q5, q6⟩ := kp.out
            have hnx := hid (ins_step q2 q3 ⟨by have := kja.out; omega, hj.2⟩ (by rw [Nat.add_sub_cancel]; exact hlt2))
            rw [Nat.add_sub_cancel] at hnx
            have hre := hid (Re.swap (k + 1) k ⟨by omega, by omega⟩ ⟨by have := kja.out; omega, by omega⟩ q1)
            have hgk : Hid (sw g (k + 1) k k = f i) := by
              show _ = _
              unfold sw
              rw [if_neg (by omega), if_pos rfl]
              exact q4
            have hgs : Hid (∀ s, a ≤ s → s ≤ i → s ≠ k → ∃ u, a ≤ u ∧ u < i ∧ sw g (k + 1) k s = f u) := fun s s1 s2 s3 => by
              unfold sw
              by_cases e : s = k + 1
              · rw [if_pos e]
                exact q5 k (by have := kja.out; omega) (by omega) (by omega)
              · rw [if_neg e, if_neg s3]
                exact q5 s s1 s2 e
            have hgo : Hid (∀ t, i + 1 ≤ t → sw g (k + 1) k t = f t) := fun t ht => by
              unfold sw
              rw [if_neg (by omega), if_neg (by omega)]
              exact q6 t ht
            clear hd kp q1 q2 q3 q4 q5 q6 hlt2 hLt d1' u1 u2
            go_upto_region 6 with fail
            go_region
            go_wp2_with fail
            go_roundw
            case rel => exact ⟨k, by have := kja.out; omega, by go_num, ⟨_, hsw.out.drewN 1, hre.out, hnx.out.1, hnx.out.2, hgk.out, hgs.out, hgo.out⟩⟩
            case measure => simp [intOf]
          · have hnl : Hid (Lt L (g k) (g (k + 1))) := by
              obtain ⟨q1, q2, q3, q4, q5, q6⟩ := kp.out
              rcases Lt.total (L := L) (x := g k) (y := g (k + 1)) (fun e => by
                obtain ⟨u, u1, u2, u3⟩ := q5 k (by have := kja.out; omega) (by omega) (by omega)
                have := ki.out u i u1 u2 hlt
                omega) with h | h
              · exact h
              · exact absurd (hLt.out.2 h) hz
            have hfin : Hid (∃ g, OD w0 blk n g w2 ∧ Re a (i + 1) f g ∧ Srt L g a (i + 1) ∧ ∀ t, i + 1 ≤ t → g t = f t) := by
              obtain ⟨q1, q2, q3, q4, q5, q6⟩ := kp.out
              refine ⟨g, hd.out, q1, fun s t s1 s2 s3 => ?_, q6⟩
              by_cases e1 : s = k + 1
              · subst e1
                exact q3 t s2 (by omega)
              · by_cases e2 : t = k + 1
                · subst e2
                  by_cases e3 : s = k
                  · rw [e3]; exact hnl.out
                  · exact (q2 s k s1 (by omega) (by omega) e1 (by omega)).trans hnl.out
                · exact q2 s t s1 s2 (by omega) e1 e2
            have hz2 : decide (z < 0) = false := by simpa using hz
            clear hd kp hLt hnl u1 u2
            go_wp2_with fail
            go_roundw
            case rel => exact ⟨i + 1, by omega, by go_num, hfin⟩
            case measure => simp [intOf]; omega
        · obtain rfl : j = a := by omega
          have hja' : ¬ (j : Int) > (j : Int) := by omega
          have hfin : Hid (∃ g, OD w0 blk n g wr ∧ Re j (i + 1) f g ∧ Srt L g j (i + 1) ∧ ∀ t, i + 1 ≤ t → g t = f t) := by
            refine ⟨g, p1, p2, fun s t s1 s2 s3 => ?_, p7⟩
            by_cases e1 : s = j
            · subst e1
              exact p4 t s2 (by omega)
            · exact p3 s t s1 s2 (by omega) e1 (by omega)
          have kd := hid p1
          clear p1 p2 p3 p4 p5 p6 p7 hg
          have hfin2 : Hid (∃ g, OD w0 blk n g wr.drew ∧ Re j (i + 1) f g ∧ Srt L g j (i + 1) ∧ ∀ t, i + 1 ≤ t → g t = f t) := by
            obtain ⟨g, q1, q2⟩ := hfin.out
            exact ⟨g, q1.drewN 1, q2⟩
          clear hfin kd
          go_wp2_with fail
          go_region
          go_wp2_with fail
          go_roundw
          case rel => exact ⟨i + 1, by omega, by go_num, hfin2⟩
          case measure => simp [intOf]; omega
    · have hlt' : ¬ (i : Int) < (b : Int) := by omega
      go_wp2_with fail
      go_end0
      obtain ⟨g, q1, q2, q3, q4⟩ := hg.out
      refine ⟨rfl, g, q1, ?_, ?_⟩
      · by_cases e : i ≤ b
        · exact q2.mono (Nat.le_refl _) e
        · have hab2 : b = a := by omega
          have hia : i = a + 1 := by omega
          subst hia
          have : g = f := by
            funext t
            by_cases ht : t = a
            · obtain ⟨s, s1, s2, e3⟩ := q2.mem (t := t) (by omega) (by omega)
              rw [e3, show s = t by omega]
            · exact q2.out (by omega)
          rw [this]
          exact Re.refl _
      · intro s t s1 s2 s3
        exact q3 s t s1 s2 (by omega)
end Go.Proofs.Ytccbmmbcfcppeaa
