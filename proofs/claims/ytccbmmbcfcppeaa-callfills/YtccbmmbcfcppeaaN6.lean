/- One is moved to its place: in plain words; halving. -/
import Derived.Test.YtccbmmbcfcppeaaN5
namespace Go.Proofs.Ytccbmmbcfcppeaa
open Go.RowKit

def mvR (a i : Nat) (f : Dat) : Dat := fun t => if a ≤ t ∧ t < i then f (t + 1) else if t = i then f a else f t
def mvL (i m : Nat) (f : Dat) : Dat := fun t => if t = i then f m else if i < t ∧ t ≤ m then f (t - 1) else f t
theorem mvR_zero (a : Nat) (f : Dat) : mvR a a f = f := by
  funext t
  unfold mvR
  rw [if_neg (by omega)]
  split
  · rename_i e; rw [e]
  · rfl
theorem mvR_succ {a k : Nat} (h : a ≤ k) (f : Dat) : mvR a (k + 1) f = sw (mvR a k f) k (k + 1) := by
  funext t
  unfold mvR sw
  dsimp only
  by_cases e1 : t = k
  · subst e1
    rw [if_pos (by omega), if_pos rfl, if_neg (by omega), if_neg (by omega)]
  · rw [if_neg e1]
    by_cases e2 : t = k + 1
    · subst e2
      rw [if_neg (by omega), if_pos rfl, if_pos rfl, if_neg (by omega), if_pos rfl]
    · rw [if_neg e2, if_neg e2]
      by_cases h1 : a ≤ t ∧ t < k
      · rw [if_pos (by omega), if_pos h1]
      · rw [if_neg (by omega), if_neg h1, if_neg e1]
theorem mvL_zero (m : Nat) (f : Dat) : mvL m m f = f := by
  funext t
  unfold mvL
  split
  · rename_i e; rw [e]
  · rw [if_neg (by omega)]
theorem mvL_succ {k m : Nat} (h : k < m) (f : Dat) : mvL k m f = sw (mvL (k + 1) m f) (k + 1) k := by
  funext t
  unfold mvL sw
  dsimp only
  by_cases e1 : t = k
  · subst e1
    rw [if_pos rfl, if_neg (by omega), if_pos rfl, if_pos rfl]
  · rw [if_neg e1]
    by_cases e2 : t = k + 1
    · subst e2
      rw [if_pos (by omega), if_pos rfl, if_neg (by omega), if_neg (by omega)]
      congr 1
    · rw [if_neg e2, if_neg e1, if_neg e2]
      by_cases h1 : k < t ∧ t ≤ m
      · rw [if_pos h1, if_pos (by omega)]
      · rw [if_neg h1, if_neg (by omega)]
theorem mvR_re {a b : Nat} (f : Dat) : ∀ (d : Nat), a + d < b → Re a b f (mvR a (a + d) f)
  | 0, _ => by rw [Nat.add_zero, mvR_zero]; exact Re.refl _
  | d + 1, h => by
    rw [show a + (d + 1) = a + d + 1 by omega, mvR_succ (by omega)]
    exact Re.swap _ _ (by omega) (by omega) (mvR_re f d (by omega))
theorem mvL_re {a b m : Nat} (f : Dat) (hm : m < b) : ∀ (d : Nat), d ≤ m → a ≤ m - d → Re a b f (mvL (m - d) m f)
  | 0, _, _ => by rw [Nat.sub_zero, mvL_zero]; exact Re.refl _
  | d + 1, h, ha => by
    rw [mvL_succ (show m - (d + 1) < m by omega), show m - (d + 1) + 1 = m - d by omega]
    exact Re.swap _ _ (by omega) (by omega) (mvL_re f hm d (by omega) (by omega))

theorem mvR_srt {L : Nat → Int} {f : Dat} {a b p : Nat} (h : Srt L f (a + 1) b) (hp : a + 1 ≤ p ∧ p ≤ b) (c1 : ∀ t, a + 1 ≤ t → t < p → Lt L (f t) (f a)) (c2 : ∀ t, p ≤ t → t < b → Lt L (f a) (f t)) : Srt L (mvR a (p - 1) f) a b := by
  intro i j h1 h2 h3
  unfold mvR
  by_cases x1 : i < p - 1
  · rw [if_pos ⟨h1, x1⟩]
    by_cases y1 : j < p - 1
    · rw [if_pos (by omega)]
      exact h _ _ (by omega) (by omega) (by omega)
    · rw [if_neg (by omega)]
      by_cases y2 : j = p - 1
      · rw [if_pos y2]
        exact c1 _ (by omega) (by omega)
      · rw [if_neg y2]
        exact h _ _ (by omega) (by omega) h3
  · rw [if_neg (by omega)]
    by_cases x2 : i = p - 1
    · rw [if_pos x2, if_neg (by omega), if_neg (by omega)]
      exact c2 _ (by omega) h3
    · rw [if_neg x2, if_neg (by omega), if_neg (by omega)]
      exact h _ _ (by omega) h2 h3
theorem mvL_srt {L : Nat → Int} {f : Dat} {a m p : Nat} (h : Srt L f a m) (hp : a ≤ p ∧ p ≤ m) (c1 : ∀ t, a ≤ t → t < p → Lt L (f t) (f m)) (c2 : ∀ t, p ≤ t → t < m → Lt L (f m) (f t)) : Srt L (mvL p m f) a (m + 1) := by
  intro i j h1 h2 h3
  unfold mvL
  by_cases x1 : i = p
  · rw [if_pos x1, if_neg (by omega), if_pos (by omega)]
    exact c2 _ (by omega) (by omega)
  · rw [if_neg x1]
    by_cases x2 : p < i ∧ i ≤ m
    · rw [if_pos x2, if_neg (by omega), if_pos (by omega)]
      exact h _ _ (by omega) (by omega) (by omega)
    · rw [if_neg x2]
      by_cases y1 : j = p
      · rw [if_pos y1]
        exact c1 _ h1 (by omega)
      · rw [if_neg y1]
        by_cases y2 : p < j ∧ j ≤ m
        · rw [if_pos y2]
          exact h _ _ h1 (by omega) (by omega)
        · rw [if_neg y2]
          exact h _ _ h1 h2 (by omega)

/-- What is asked of the row ahead of merging. -/
structure Pre (L : Nat → Int) (f : Dat) (a m b : Nat) : Prop where
  s1 : Srt L f a m
  s2 : Srt L f m b
  ix : ∀ i j, a ≤ i → i < m → m ≤ j → j < b → f i < f j

theorem Pre.lt {L : Nat → Int} {f : Dat} {a m b : Nat} (h : Pre L f a m b) {x y : Nat} (hx : m ≤ x ∧ x < b) (hy : a ≤ y ∧ y < m) {z : Int} (hz : cpZ L (f x) (f y) = z) : (z < 0 → Lt L (f x) (f y)) ∧ (¬ z < 0 → Lt L (f y) (f x)) := by
  have h1 := cpZ_neg L (f x) (f y)
  have h2 := h.ix y x hy.1 hy.2 hx.1 hx.2
  rw [hz] at h1
  refine ⟨h1.1, fun hn => ?_⟩
  rcases Lt.total (L := L) (x := f y) (y := f x) (by omega) with h3 | h3
  · exact h3
  · exact absurd (h1.2 h3) hn


set_option maxRecDepth 100000 in
set_option maxHeartbeats 8000000 in
theorem sym_one (w0 w : World) (cb blk : Nat) (L : Nat → Int) (n a b : Nat) (f : Dat) (hC : Cmp w0 cb blk n L) (hD : OD w0 blk n f w) (hP : Pl n f) (hn : n ≤ 4096) (hab : a + 1 < b) (hb : b ≤ n) (hM : Pre L f a (a + 1) b) :
    Calls Try.prog 53 #[.slice (some ⟨blk, 0, none⟩) n n, .int .i64 (a : Int), .int .i64 ((a + 1 : Nat) : Int), .int .i64 (b : Int), .func (.func 45) #[] #[.pointer (some ⟨cb, 0, none⟩)]] w fun e w' => e = .returned (.tuple #[]) ∧ ∃ g, OD w0 blk n g w' ∧ Re a b f g ∧ Srt L g a b := by
  have kC := hid hC
  have kD := hid hD
  have kP := hid hP
  have kM := hid hM
  clear hC hD hP hM
  go_enter Try.func53, Try.ntmps53
  go_wp2_with fail
  go_loopw [10, 11] (fun t u wr => ∃ i j : Nat, (a + 1 ≤ i ∧ i ≤ j ∧ j ≤ b) ∧ t = .int .i64 (i : Int) ∧ u = .int .i64 (j : Int) ∧ Hid (OD w0 blk n f wr ∧ (∀ t, a + 1 ≤ t → t < i → Lt L (f t) (f a)) ∧ (∀ t, j ≤ t → t < b → Lt L (f a) (f t)))) (fun t u _ => (intOf u).toNat - (intOf t).toNat)
  case atStart => exact ⟨a + 1, b, by omega, by go_num, rfl, ⟨kD.out, fun t t1 t2 => by omega, fun t t1 t2 => by omega⟩⟩
  case round =>
    clear kD
    obtain ⟨i, j, hij, rfl, rfl, hg⟩ := hrel
    by_cases hlt : i < j
    · have hlt' : (i : Int) < (j : Int) := by omega
      obtain ⟨h, hh⟩ : ∃ h : Nat, ((i : Int) + (j : Int)) / 2 = (h : Int) := ⟨(i + j) / 2, by omega⟩
      have hr : i ≤ h ∧ h < j := by omega
      obtain ⟨p1, p2, p3⟩ := hg.out
      obtain ⟨c1, -⟩ := p1.cell (i := h) (by omega)
      obtain ⟨c2, -⟩ := p1.cell (i := a) (by omega)
      have kO := hid (kC.out.call wr.drew (f h) (f a) p1.frm.drew (kP.out h (by omega)) (kP.out a (by omega)))
      obtain ⟨z, hz⟩ : ∃ z, cpZ L (f h) (f a) = z := ⟨_, rfl⟩
      have hzl := hid (kM.out.lt (x := h) (y := a) ⟨by omega, by omega⟩ ⟨by omega, by omega⟩ hz)
      rw [hz] at kO
      have kg := hid (show (∀ t, a + 1 ≤ t → t < i → Lt L (f t) (f a)) ∧ (∀ t, j ≤ t → t < b → Lt L (f a) (f t)) from ⟨p2, p3⟩)
      have kp1 := hid p1
      have hn1 : (h : Int) < (n : Int) := by omega
      have hn2 : (a : Int) < (n : Int) := by omega
      obtain ⟨x, hx⟩ : ∃ x : Int, (f h : Int) = x := ⟨_, rfl⟩
      obtain ⟨y, hy⟩ : ∃ y : Int, (f a : Int) = y := ⟨_, rfl⟩
      rw [hx] at c1 kO
      rw [hy] at c2 kO
      clear p1 p2 p3 hg hz hx hy
      go_upto_region 5 with fail
      refine wp_region_noPanic ?_
      refine wp_region_held_drew (S := fun W => R2 blk h a x y W) (by kernel_rfl) ⟨c1, c2⟩ (fun hHeld => ?_)
      refine' wpAnyH_take (i := 0) rfl (by kernel_rfl) (by kernel_rfl) (by kernel_rfl) (fun _ _ _ h => h) (Or.inl ⟨by rfl, ?_⟩) hHeld ?_
      rotate_left
      · intro W hSw
        obtain ⟨r1, r2⟩ := hSw
        simp only [List.getElem_toArray, List.getElem_cons_zero]
        go_simp
        all_goals with_reducible rfl
      simp only [List.getElem_toArray, List.getElem_cons_zero, Act.put, List.setIfInBounds_toArray, List.set_cons_zero, List.set_cons_succ]
      refine' wpAnyH_take (i := 1) rfl (by kernel_rfl) (by kernel_rfl) (by kernel_rfl) (fun _ _ _ h => h) (Or.inl ⟨by rfl, ?_⟩) hHeld ?_
      rotate_left
      · intro W hSw
        obtain ⟨r1, r2⟩ := hSw
        simp only [List.getElem_toArray, List.getElem_cons_zero, List.getElem_cons_succ]
        go_simp
        all_goals with_reducible rfl
      simp only [List.getElem_toArray, List.getElem_cons_zero, List.getElem_cons_succ, Act.put, List.setIfInBounds_toArray, List.set_cons_zero, List.set_cons_succ]
      refine' wpAnyH_take (i := 2) rfl (by kernel_rfl) (by kernel_rfl) (by kernel_rfl) (fun _ _ _ h => h) (Or.inl ⟨by rfl, ?_⟩) hHeld ?_
      rotate_left
      · intro W hSw
        obtain ⟨r1, r2⟩ := hSw
        simp only [List.getElem_toArray, List.getElem_cons_zero, List.getElem_cons_succ]
        go_simp
        all_goals with_reducible rfl
      simp only [List.getElem_toArray, List.getElem_cons_zero, List.getElem_cons_succ, Act.put, List.setIfInBounds_toArray, List.set_cons_zero, List.set_cons_succ]
      refine' wpAnyH_take (i := 3) rfl (by kernel_rfl) (by kernel_rfl) (by kernel_rfl) (fun _ _ _ h => h) (Or.inl ⟨by rfl, ?_⟩) hHeld ?_
      rotate_left
      · intro W hSw
        obtain ⟨r1, r2⟩ := hSw
        simp only [List.getElem_toArray, List.getElem_cons_zero, List.getElem_cons_succ]
        go_simp
        all_goals with_reducible rfl
      simp only [List.getElem_toArray, List.getElem_cons_zero, List.getElem_cons_succ, Act.put, List.setIfInBounds_toArray, List.set_cons_zero, List.set_cons_succ]
      refine' wpAnyH_take (i := 4) rfl (by kernel_rfl) (by kernel_rfl) (by kernel_rfl) (fun _ _ _ h => h) (Or.inl ⟨by rfl, ?_⟩) hHeld ?_
      rotate_left
      · intro W hSw
        obtain ⟨r1, r2⟩ := hSw
        simp only [List.getElem_toArray, List.getElem_cons_zero, List.getElem_cons_succ]
        go_simp
        all_goals with_reducible rfl
      simp only [List.getElem_toArray, List.getElem_cons_zero, List.getElem_cons_succ, Act.put, List.setIfInBounds_toArray, List.set_cons_zero, List.set_cons_succ]
      refine' wpAnyH_take (i := 5) rfl (by kernel_rfl) (by kernel_rfl) (by kernel_rfl) (fun _ _ _ h => h) (Or.inl ⟨by rfl, ?_⟩) hHeld ?_
      rotate_left
      · intro W hSw
        obtain ⟨r1, r2⟩ := hSw
        simp only [List.getElem_toArray, List.getElem_cons_zero, List.getElem_cons_succ]
        go_simp
        all_goals with_reducible rfl
      simp only [List.getElem_toArray, List.getElem_cons_zero, List.getElem_cons_succ, Act.put, List.setIfInBounds_toArray, List.set_cons_zero, List.set_cons_succ]
      refine' wpAnyH_take (i := 6) rfl (by kernel_rfl) (by kernel_rfl) (by kernel_rfl) (fun _ _ _ h => h) (Or.inl ⟨by rfl, ?_⟩) hHeld ?_
      rotate_left
      · intro W hSw
        obtain ⟨r1, r2⟩ := hSw
        simp only [List.getElem_toArray, List.getElem_cons_zero, List.getElem_cons_succ]
        go_simp
        all_goals with_reducible rfl
      simp only [List.getElem_toArray, List.getElem_cons_zero, List.getElem_cons_succ, Act.put, List.setIfInBounds_toArray, List.set_cons_zero, List.set_cons_succ]
      refine' wpAnyH_take (i := 7) rfl (by kernel_rfl) (by kernel_rfl) (by kernel_rfl) (fun _ _ _ h => h) (Or.inl ⟨by rfl, ?_⟩) hHeld ?_
      rotate_left
      · intro W hSw
        obtain ⟨r1, r2⟩ := hSw
        simp only [List.getElem_toArray, List.getElem_cons_zero, List.getElem_cons_succ]
        go_simp
        all_goals with_reducible rfl
      simp only [List.getElem_toArray, List.getElem_cons_zero, List.getElem_cons_succ, Act.put, List.setIfInBounds_toArray, List.set_cons_zero, List.set_cons_succ]
      refine' wpAnyH_take (i := 8) rfl (by kernel_rfl) (by kernel_rfl) (by kernel_rfl) (fun _ _ _ h => h) (Or.inl ⟨by rfl, ?_⟩) hHeld ?_
      rotate_left
      · intro W hSw
        obtain ⟨r1, r2⟩ := hSw
        simp only [List.getElem_toArray, List.getElem_cons_zero, List.getElem_cons_succ]
        go_simp
        all_goals with_reducible rfl
      simp only [List.getElem_toArray, List.getElem_cons_zero, List.getElem_cons_succ, Act.put, List.setIfInBounds_toArray, List.set_cons_zero, List.set_cons_succ]
      refine wpAnyH_ready (rs := [9]) (by kernel_rfl) (by simp) ?_
      refine AllReadyH.cons (o := _) rfl (fun K hK => ?_) AllReadyH.nil
      simp only [List.getElem_toArray, List.getElem_cons_zero, List.getElem_cons_succ]
      go_simp
      refine kO.out.mono ?_
      rintro e w2 ⟨rfl, e2⟩
      have hd : Hid (OD w0 blk n f w2) := (kp1.out.drewN 1).old e2
      have hR2 : R2 blk h a x y w2 := R2.old c1 c2 e2
      refine hK.out _ _ (hR2) (fun hHeld2 => ?_)
      clear hHeld hK
      have hHeld := hHeld2
      clear hHeld2
      clear e2 c1 c2 kO kp1
      try simp only [Act.put, List.setIfInBounds_toArray, List.set_cons_zero, List.set_cons_succ]
      refine' wpAnyH_take (i := 10) rfl (by kernel_rfl) (by kernel_rfl) (by kernel_rfl) (fun _ _ _ h => h) (Or.inl ⟨by rfl, ?_⟩) hHeld ?_
      rotate_left
      · intro W hSw
        obtain ⟨r1, r2⟩ := hSw
        simp only [List.getElem_toArray, List.getElem_cons_zero, List.getElem_cons_succ]
        go_simp
        all_goals with_reducible rfl
      simp only [List.getElem_toArray, List.getElem_cons_zero, List.getElem_cons_succ, Act.put, List.setIfInBounds_toArray, List.set_cons_zero, List.set_cons_succ]
      refine wpAnyH_done (by kernel_rfl) ?_ _
      refine NoPanic.normal ?_
      clear hHeld hR2
      by_cases hz : z < 0
      · go_wp2_with fail
        go_roundw
        case rel => exact ⟨h + 1, j, by omega, by go_num, rfl, ⟨hd.out, fun t t1 t2 => by
          by_cases e : t < i
          · exact kg.out.1 t t1 e
          · by_cases e3 : t = h
            · rw [e3]; exact hzl.out.1 hz
            · exact (kM.out.s2 t h t1 (by omega) (by omega)).trans (hzl.out.1 hz), kg.out.2⟩⟩
        case measure => simp [intOf]; omega
      · have hz2 : decide (z < 0) = false := by simpa using hz
        go_wp2_with fail
        go_roundw
        case rel => exact ⟨i, h, by omega, rfl, rfl, ⟨hd.out, kg.out.1, fun t t1 t2 => by
          by_cases e : j ≤ t
          · exact kg.out.2 t e t2
          · by_cases e3 : t = h
            · rw [e3]; exact hzl.out.2 hz
            · exact (hzl.out.2 hz).trans (kM.out.s2 h t (by omega) (by omega) t2)⟩⟩
        case measure => simp [intOf]; omega
    · obtain rfl : i = j := by omega
      obtain ⟨p1, p2, p3⟩ := hg.out
      have hfin : Hid (Srt L (mvR a (i - 1) f) a b ∧ Re a b f (mvR a (i - 1) f)) := ⟨mvR_srt kM.out.s2 (by omega) p2 p3, by
        have := mvR_re (a := a) (b := b) f (i - 1 - a) (by omega)
        rwa [show a + (i - 1 - a) = i - 1 by omega] at this⟩
      have kp1 := hid p1
      clear p1 p2 p3 hg
      go_wp2_with fail
      go_loopw [13] (fun t wr => ∃ k : Nat, (a ≤ k ∧ k ≤ i - 1) ∧ t = .int .i64 (k : Int) ∧ Hid (OD w0 blk n (mvR a k f) wr)) (fun t _ => i - 1 - (intOf t).toNat)
      case atStart => exact ⟨a, by omega, rfl, by show OD _ _ _ _ _; rw [mvR_zero]; exact kp1.out⟩
      case round =>
        clear kp1
        obtain ⟨k, hk, rfl, hO⟩ := hrel
        by_cases hlt2 : k < i - 1
        · have hl : (k : Int) < (i : Int) - 1 := by omega
          have hst := hid (mvR_succ hk.1 f)
          generalize mvR a k f = g at *
          obtain ⟨d1, e1⟩ := hO.out.cell (i := k) (by omega)
          obtain ⟨d2, e2⟩ := hO.out.cell (i := k + 1) (by omega)
          have hsw := hid (hO.out.swap k (k + 1))
          have hx1 : (k : Int) < (n : Int) := by omega
          have hx2 : (k : Int) + 1 < (n : Int) := by omega
          have hx3 : (0 : Int) ≤ (k : Int) + 1 := by omega
          have hw1 : IntKind.i64.wrap ((k : Int) + 1) = (k : Int) + 1 := by
            simp only [IntKind.wrap, IntKind.bits, IntKind.signed]
            simp
            omega
          clear hO
          go_upto_region 11 with fail
          go_region
          go_wp2_with fail
          go_roundw
          case rel => exact ⟨k + 1, by omega, by go_num, by show OD _ _ _ _ _; rw [hst.out]; exact hsw.out.drewN 1⟩
          case measure => simp [intOf]; omega
        · obtain rfl : k = i - 1 := by omega
          have hl : ¬ ((i - 1 : Nat) : Int) < (i : Int) - 1 := by omega
          have hO2 := hid hO.out
          go_wp2_with fail
          first | go_end0 | (refine bodyPost_ret (results_none rfl _ _ _) rfl ?_)
          exact ⟨rfl, _, hO2.out, hfin.out.2, hfin.out.1⟩
end Go.Proofs.Ytccbmmbcfcppeaa
