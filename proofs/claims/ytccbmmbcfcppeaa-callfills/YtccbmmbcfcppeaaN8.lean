/- Merging of any two parts. -/
import Derived.Test.YtccbmmbcfcppeaaN7
import Derived.Deep.CutRange
namespace Go.Proofs.Ytccbmmbcfcppeaa
open Go.RowKit

theorem rot_id {a m b : Nat} (f : Dat) (h : a ≤ m ∧ m ≤ b) (h2 : ¬ (a < m ∧ m < b)) : rot a m b f = f := by
  funext t
  unfold rot
  split
  · split
    · congr 1; omega
    · congr 1; omega
  · rfl

/-- What halving has come to. -/
structure Hv (L : Nat → Int) (f : Dat) (p lo hi i j : Nat) : Prop where
  c1 : ∀ c, lo ≤ c → c < i → Lt L (f c) (f (p - c))
  c2 : ∀ c, j ≤ c → c < hi → Lt L (f (p - c)) (f c)

theorem Hv.up {L : Nat → Int} {f : Dat} {a m b p lo hi i j c : Nat} (hM : Pre L f a m b) (h : Hv L f p lo hi i j) (hl : a ≤ lo ∧ hi ≤ m ∧ p - lo < b ∧ hi ≤ p ∧ m ≤ p + 1 - hi) (hc : lo ≤ c ∧ c < hi) (hx : Lt L (f c) (f (p - c))) : Hv L f p lo hi (c + 1) j := by
  refine ⟨fun t t1 t2 => ?_, h.c2⟩
  by_cases e : t = c
  · rw [e]; exact hx
  · exact ((hM.s1 t c (by omega) (by omega) (by omega)).trans hx).trans (hM.s2 (p - c) (p - t) (by omega) (by omega) (by omega))
theorem Hv.down {L : Nat → Int} {f : Dat} {a m b p lo hi i j c : Nat} (hM : Pre L f a m b) (h : Hv L f p lo hi i j) (hl : a ≤ lo ∧ hi ≤ m ∧ p - lo < b ∧ hi ≤ p ∧ m ≤ p + 1 - hi) (hc : lo ≤ c ∧ c < hi) (hx : Lt L (f (p - c)) (f c)) : Hv L f p lo hi i c := by
  refine ⟨h.c1, fun t t1 t2 => ?_⟩
  by_cases e : t = c
  · rw [e]; exact hx
  · exact ((hM.s2 (p - t) (p - c) (by omega) (by omega) (by omega)).trans hx).trans (hM.s1 c t (by omega) (by omega) (by omega))


set_option maxRecDepth 100000 in
set_option maxHeartbeats 16000000 in
theorem sym_step (w0 w : World) (cb blk : Nat) (L : Nat → Int) (n a m b mid lo hi : Nat) (f : Dat) (hC : Cmp w0 cb blk n L) (hn : n ≤ 4096) (hD : OD w0 blk n f w) (hP : Pl n f) (ham : a + 1 < m) (hmb : m + 1 < b) (hb : b ≤ n) (hM : Pre L f a m b) (hmid : mid = (a + b) / 2) (hlo : if m > mid then lo = mid + m - b ∧ hi = mid else lo = a ∧ hi = m)
    (ih : ∀ (w : World) (a' m' b' : Nat) (g : Dat), b' - a' < b - a → OD w0 blk n g w → Pl n g → a' < m' → m' < b' → b' ≤ n → Pre L g a' m' b' →
      Calls Try.prog 53 #[.slice (some ⟨blk, 0, none⟩) n n, .int .i64 (a' : Int), .int .i64 (m' : Int), .int .i64 (b' : Int), .func (.func 45) #[] #[.pointer (some ⟨cb, 0, none⟩)]] w fun e w' => e = .returned (.tuple #[]) ∧ ∃ h, OD w0 blk n h w' ∧ Re a' b' g h ∧ Srt L h a' b') :
    Calls Try.prog 53 #[.slice (some ⟨blk, 0, none⟩) n n, .int .i64 (a : Int), .int .i64 (m : Int), .int .i64 (b : Int), .func (.func 45) #[] #[.pointer (some ⟨cb, 0, none⟩)]] w fun e w' => e = .returned (.tuple #[]) ∧ ∃ h, OD w0 blk n h w' ∧ Re a b f h ∧ Srt L h a b := by
  have kC := hid hC
  have kD := hid hD
  have kP := hid hP
  have kM := hid hM
  have kih := hid ih
  have klo := hid hlo
  have kR := hid (fun w a m b g h1 h2 h3 h4 => rotate_any w0 w blk n a m b g (.func (.func 45) #[] #[.pointer (some ⟨cb, 0, none⟩)]) h1 hn h2 h3 h4)
  have kmid := hid hmid
  have hl : a ≤ lo ∧ hi ≤ m ∧ mid + m - 1 - lo < b ∧ hi ≤ mid + m - 1 ∧ m ≤ mid + m - 1 + 1 - hi ∧ lo ≤ hi ∧ hi ≤ mid := by
    split at hlo <;> omega
  have hmm : a < mid ∧ mid < b := by omega
  clear hC hD hP hM ih hlo hmid
  have hne1 : ((m : Int) - (a : Int) == 1) = false := by rw [beq_eq_false_iff_ne]; omega
  have hne2 : ((b : Int) - (m : Int) == 1) = false := by rw [beq_eq_false_iff_ne]; omega
  have hh : ((a : Int) + (b : Int)) / 2 = (mid : Int) := by have := kmid.out; omega
  go_enter Try.func53, Try.ntmps53
  go_upto_if 140 with fail
  go_cut [20, 21] from 138 to 146 (fun t u wx => t = .int .i64 (lo : Int) ∧ u = .int .i64 (hi : Int) ∧ wx = w)
  case first =>
    by_cases hgt : m > mid
    · have hgt' : (m : Int) > (mid : Int) := by omega
      have hv := klo.out
      rw [if_pos hgt] at hv
      have hlo' : (mid : Int) + (m : Int) - (b : Int) = (lo : Int) := by omega
      obtain ⟨-, rfl⟩ := hv
      go_wp2_with fail
      go_meet
      case rel => exact ⟨rfl, rfl, rfl⟩
    · have hgt' : ¬ (m : Int) > (mid : Int) := by omega
      have hv := klo.out
      rw [if_neg hgt] at hv
      obtain ⟨rfl, rfl⟩ := hv
      go_wp2_with fail
      go_meet
      case rel => exact ⟨rfl, rfl, rfl⟩
  case rest =>
    rename_i t0 u0
    obtain ⟨rfl, rfl, rfl⟩ := hcut
    go_wp2_with fail
    go_loopw [20, 21] (fun t u wr => ∃ i j : Nat, (lo ≤ i ∧ i ≤ j ∧ j ≤ hi) ∧ t = .int .i64 (i : Int) ∧ u = .int .i64 (j : Int) ∧ Hid (OD w0 blk n f wr ∧ Hv L f (mid + m - 1) lo hi i j)) (fun t u _ => (intOf u).toNat - (intOf t).toNat)
    case atStart => exact ⟨lo, hi, by omega, rfl, rfl, ⟨kD.out, ⟨fun t t1 t2 => by omega, fun t t1 t2 => by omega⟩⟩⟩
    case round =>
      clear kD
      obtain ⟨i, j, hij, rfl, rfl, hg⟩ := hrel
      by_cases hlt : i < j
      · have hlt' : (i : Int) < (j : Int) := by omega
        obtain ⟨c, hc⟩ : ∃ c : Nat, ((i : Int) + (j : Int)) / 2 = (c : Int) := ⟨(i + j) / 2, by omega⟩
        obtain ⟨q, hq⟩ : ∃ q : Nat, q = mid + m - 1 - c := ⟨_, rfl⟩
        have hr : i ≤ c ∧ c < j := by omega
        have hqi : (mid : Int) + (m : Int) - 1 - (c : Int) = (q : Int) := by omega
        have hqw : IntKind.i64.wrap (q : Int) = (q : Int) := by
          simp only [IntKind.wrap, IntKind.bits, IntKind.signed]
          simp
          omega
        obtain ⟨p1, p2⟩ := hg.out
        obtain ⟨c1, -⟩ := p1.cell (i := q) (by omega)
        obtain ⟨c2, -⟩ := p1.cell (i := c) (by omega)
        have kO := hid (kC.out.call wr.drew (f q) (f c) p1.frm.drew (kP.out q (by omega)) (kP.out c (by omega)))
        obtain ⟨z, hz⟩ : ∃ z, cpZ L (f q) (f c) = z := ⟨_, rfl⟩
        have hzl := hid (kM.out.lt (x := q) (y := c) ⟨by omega, by omega⟩ ⟨by omega, by omega⟩ hz)
        rw [hz] at kO
        have kp2 := hid p2
        have kp1 := hid p1
        have hn1 : (q : Int) < (n : Int) := by omega
        have hn2 : (c : Int) < (n : Int) := by omega
        obtain ⟨x, hx⟩ : ∃ x : Int, (f q : Int) = x := ⟨_, rfl⟩
        obtain ⟨y, hy⟩ : ∃ y : Int, (f c : Int) = y := ⟨_, rfl⟩
        rw [hx] at c1 kO
        rw [hy] at c2 kO
        have kq := hid hq
        clear p1 p2 hg hz hx hy hq
        go_upto_region 35 with fail
        refine wp_region_noPanic ?_
        refine wp_region_held_drew (S := fun W => R2 blk q c x y W) (by kernel_rfl) ⟨c1, c2⟩ (fun hHeld => ?_)
        refine' wpAnyH_take (i := 0) rfl (by kernel_rfl) (by kernel_rfl) (by kernel_rfl) (fun _ _ _ h => h) (Or.inl ⟨by rfl, ?_⟩) hHeld ?_
        rotate_left
        · intro W hSw
          obtain ⟨r1, r2⟩ := hSw
          simp only [List.getElem_toArray, List.getElem_cons_zero]
          go_simp
          all_goals with_reducible rfl
        simp only [List.getElem_toArray, List.getElem_cons_zero, Act.put, List.setIfInBounds_toArray, List.set_cons_zero, List.set_cons_succ]
        refine' wpAnyH_take (i := 1) rfl (by kernel_rfl) (by kernel_rfl) (by kernel_rfl) (fun _ _ _ h => h) (Or.inl ⟨by rfl, ?_⟩) hHeld ?_
        rotate_left
        · intro W hSw
          obtain ⟨r1, r2⟩ := hSw
          simp only [List.getElem_toArray, List.getElem_cons_zero, List.getElem_cons_succ]
          go_simp
          all_goals with_reducible rfl
        simp only [List.getElem_toArray, List.getElem_cons_zero, List.getElem_cons_succ, Act.put, List.setIfInBounds_toArray, List.set_cons_zero, List.set_cons_succ]
        refine' wpAnyH_take (i := 2) rfl (by kernel_rfl) (by kernel_rfl) (by kernel_rfl) (fun _ _ _ h => h) (Or.inl ⟨by rfl, ?_⟩) hHeld ?_
        rotate_left
        · intro W hSw
          obtain ⟨r1, r2⟩ := hSw
          simp only [List.getElem_toArray, List.getElem_cons_zero, List.getElem_cons_succ]
          go_simp
          all_goals with_reducible rfl
        simp only [List.getElem_toArray, List.getElem_cons_zero, List.getElem_cons_succ, Act.put, List.setIfInBounds_toArray, List.set_cons_zero, List.set_cons_succ]
        refine' wpAnyH_take (i := 3) rfl (by kernel_rfl) (by kernel_rfl) (by kernel_rfl) (fun _ _ _ h => h) (Or.inl ⟨by rfl, ?_⟩) hHeld ?_
        rotate_left
        · intro W hSw
          obtain ⟨r1, r2⟩ := hSw
          simp only [List.getElem_toArray, List.getElem_cons_zero, List.getElem_cons_succ]
          go_simp
          all_goals with_reducible rfl
        simp only [List.getElem_toArray, List.getElem_cons_zero, List.getElem_cons_succ, Act.put, List.setIfInBounds_toArray, List.set_cons_zero, List.set_cons_succ]
        refine' wpAnyH_take (i := 4) rfl (by kernel_rfl) (by kernel_rfl) (by kernel_rfl) (fun _ _ _ h => h) (Or.inl ⟨by rfl, ?_⟩) hHeld ?_
        rotate_left
        · intro W hSw
          obtain ⟨r1, r2⟩ := hSw
          simp only [List.getElem_toArray, List.getElem_cons_zero, List.getElem_cons_succ]
          go_simp
          all_goals with_reducible rfl
        simp only [List.getElem_toArray, List.getElem_cons_zero, List.getElem_cons_succ, Act.put, List.setIfInBounds_toArray, List.set_cons_zero, List.set_cons_succ]
        refine' wpAnyH_take (i := 5) rfl (by kernel_rfl) (by kernel_rfl) (by kernel_rfl) (fun _ _ _ h => h) (Or.inl ⟨by rfl, ?_⟩) hHeld ?_
        rotate_left
        · intro W hSw
          obtain ⟨r1, r2⟩ := hSw
          simp only [List.getElem_toArray, List.getElem_cons_zero, List.getElem_cons_succ]
          go_simp
          all_goals with_reducible rfl
        simp only [List.getElem_toArray, List.getElem_cons_zero, List.getElem_cons_succ, Act.put, List.setIfInBounds_toArray, List.set_cons_zero, List.set_cons_succ]
        refine' wpAnyH_take (i := 6) rfl (by kernel_rfl) (by kernel_rfl) (by kernel_rfl) (fun _ _ _ h => h) (Or.inl ⟨by rfl, ?_⟩) hHeld ?_
        rotate_left
        · intro W hSw
          obtain ⟨r1, r2⟩ := hSw
          simp only [List.getElem_toArray, List.getElem_cons_zero, List.getElem_cons_succ]
          go_simp
          all_goals with_reducible rfl
        simp only [List.getElem_toArray, List.getElem_cons_zero, List.getElem_cons_succ, Act.put, List.setIfInBounds_toArray, List.set_cons_zero, List.set_cons_succ]
        refine' wpAnyH_take (i := 7) rfl (by kernel_rfl) (by kernel_rfl) (by kernel_rfl) (fun _ _ _ h => h) (Or.inl ⟨by rfl, ?_⟩) hHeld ?_
        rotate_left
        · intro W hSw
          obtain ⟨r1, r2⟩ := hSw
          simp only [List.getElem_toArray, List.getElem_cons_zero, List.getElem_cons_succ]
          go_simp
          all_goals with_reducible rfl
        simp only [List.getElem_toArray, List.getElem_cons_zero, List.getElem_cons_succ, Act.put, List.setIfInBounds_toArray, List.set_cons_zero, List.set_cons_succ]
        refine' wpAnyH_take (i := 8) rfl (by kernel_rfl) (by kernel_rfl) (by kernel_rfl) (fun _ _ _ h => h) (Or.inl ⟨by rfl, ?_⟩) hHeld ?_
        rotate_left
        · intro W hSw
          obtain ⟨r1, r2⟩ := hSw
          simp only [List.getElem_toArray, List.getElem_cons_zero, List.getElem_cons_succ]
          go_simp
          all_goals with_reducible rfl
        simp only [List.getElem_toArray, List.getElem_cons_zero, List.getElem_cons_succ, Act.put, List.setIfInBounds_toArray, List.set_cons_zero, List.set_cons_succ]
        refine' wpAnyH_take (i := 9) rfl (by kernel_rfl) (by kernel_rfl) (by kernel_rfl) (fun _ _ _ h => h) (Or.inl ⟨by rfl, ?_⟩) hHeld ?_
        rotate_left
        · intro W hSw
          obtain ⟨r1, r2⟩ := hSw
          simp only [List.getElem_toArray, List.getElem_cons_zero, List.getElem_cons_succ]
          go_simp
          all_goals with_reducible rfl
        simp only [List.getElem_toArray, List.getElem_cons_zero, List.getElem_cons_succ, Act.put, List.setIfInBounds_toArray, List.set_cons_zero, List.set_cons_succ]
        refine' wpAnyH_take (i := 10) rfl (by kernel_rfl) (by kernel_rfl) (by kernel_rfl) (fun _ _ _ h => h) (Or.inl ⟨by rfl, ?_⟩) hHeld ?_
        rotate_left
        · intro W hSw
          obtain ⟨r1, r2⟩ := hSw
          simp only [List.getElem_toArray, List.getElem_cons_zero, List.getElem_cons_succ]
          go_simp
          all_goals with_reducible rfl
        simp only [List.getElem_toArray, List.getElem_cons_zero, List.getElem_cons_succ, Act.put, List.setIfInBounds_toArray, List.set_cons_zero, List.set_cons_succ]
        refine wpAnyH_ready (rs := [11]) (by kernel_rfl) (by simp) ?_
        refine AllReadyH.cons (o := _) rfl (fun K hK => ?_) AllReadyH.nil
        simp only [List.getElem_toArray, List.getElem_cons_zero, List.getElem_cons_succ]
        go_simp
        refine kO.out.mono ?_
        rintro e w2 ⟨rfl, e2⟩
        have hd : Hid (OD w0 blk n f w2) := (kp1.out.drewN 1).old e2
        have hR2 : R2 blk q c x y w2 := R2.old c1 c2 e2
        refine hK.out _ _ (hR2) (fun hHeld2 => ?_)
        clear hHeld hK
        have hHeld := hHeld2
        clear hHeld2
        clear e2 c1 c2 kO kp1
        try simp only [Act.put, List.setIfInBounds_toArray, List.set_cons_zero, List.set_cons_succ]
        refine' wpAnyH_take (i := 12) rfl (by kernel_rfl) (by kernel_rfl) (by kernel_rfl) (fun _ _ _ h => h) (Or.inl ⟨by rfl, ?_⟩) hHeld ?_
        rotate_left
        · intro W hSw
          obtain ⟨r1, r2⟩ := hSw
          simp only [List.getElem_toArray, List.getElem_cons_zero, List.getElem_cons_succ]
          go_simp
          all_goals with_reducible rfl
        simp only [List.getElem_toArray, List.getElem_cons_zero, List.getElem_cons_succ, Act.put, List.setIfInBounds_toArray, List.set_cons_zero, List.set_cons_succ]
        refine' wpAnyH_take (i := 13) rfl (by kernel_rfl) (by kernel_rfl) (by kernel_rfl) (fun _ _ _ h => h) (Or.inl ⟨by rfl, ?_⟩) hHeld ?_
        rotate_left
        · intro W hSw
          obtain ⟨r1, r2⟩ := hSw
          simp only [List.getElem_toArray, List.getElem_cons_zero, List.getElem_cons_succ]
          go_simp
          all_goals with_reducible rfl
        simp only [List.getElem_toArray, List.getElem_cons_zero, List.getElem_cons_succ, Act.put, List.setIfInBounds_toArray, List.set_cons_zero, List.set_cons_succ]
        refine wpAnyH_done (by kernel_rfl) ?_ _
        refine NoPanic.normal ?_
        clear hHeld hR2
        by_cases hz : z < 0
        · have hz2 : (!decide (z < 0)) = false := by simpa using hz
          rw [hz2]
          go_wp2_with fail
          go_roundw
          case rel => exact ⟨i, c, by omega, rfl, rfl, ⟨hd.out, kp2.out.down kM.out (by omega) (by omega) (by rw [← kq.out]; exact hzl.out.1 hz)⟩⟩
          case measure => simp [intOf]; omega
        · have hz2 : (!decide (z < 0)) = true := by simpa using hz
          rw [hz2]
          go_wp2_with fail
          go_roundw
          case rel => exact ⟨c + 1, j, by omega, by go_num, rfl, ⟨hd.out, kp2.out.up kM.out (by omega) (by omega) (by rw [← kq.out]; exact hzl.out.2 hz)⟩⟩
          case measure => simp [intOf]; omega
      · obtain rfl : i = j := by omega
        obtain ⟨p1, p2⟩ := hg.out
        obtain ⟨en, ken⟩ : ∃ en : Nat, en = mid + m - i := ⟨_, rfl⟩
        have hen : (mid : Int) + (m : Int) - (i : Int) = (en : Int) := by omega
        have kMrg := hid (merge_parts (start := i) kM.out.s1 kM.out.s2 kM.out.ix ⟨by omega, by omega⟩ kmid.out klo.out ⟨hij.1, hij.2.2⟩ p2.c1 p2.c2)
        rw [← ken] at kMrg
        have hie : a ≤ i ∧ i ≤ m ∧ i ≤ mid ∧ m ≤ en ∧ mid ≤ en ∧ en ≤ b := by omega
        have kp1 := hid p1
        have ken2 := hid ken
        clear p1 p2 hg ken
        go_upto_region 39 with fail
        go_cut [185] from 178 to 185 (fun c wx => c = .bool (decide (i < m ∧ m < en)) ∧ wx = wr)
        case first =>
          by_cases h1 : i < m
          · have h1' : (i : Int) < (m : Int) := by omega
            by_cases h2 : m < en
            · have h2' : (m : Int) < (en : Int) := by omega
              go_wp2_with fail
              go_meet
              case rel => exact ⟨by simp [h1, h2], rfl⟩
            · have h2' : ¬ (m : Int) < (en : Int) := by omega
              go_wp2_with fail
              go_meet
              case rel => exact ⟨by simp [h2], rfl⟩
          · have h1' : ¬ (i : Int) < (m : Int) := by omega
            go_wp2_with fail
            go_meet
            case rel => exact ⟨by simp [h1], rfl⟩
        case rest =>
          obtain ⟨rfl, rfl⟩ := hcut
          go_upto_if 185 with fail
          go_cut [20] from 178 to 191 (fun t wx => t = .int .i64 (i : Int) ∧ Hid (OD w0 blk n (rot i m en f) wx ∧ Re a b f (rot i m en f)))
          case first =>
            by_cases h1 : i < m ∧ m < en
            · rw [decide_eq_true h1]
              go_wp2_with fail
              refine (kR.out _ i m en f kp1.out h1.1 h1.2 (by omega)).mono ?_
              rintro e w2 ⟨rfl, hO, hre⟩
              have kO := hid (show OD w0 blk n (rot i m en f) w2 ∧ Re a b f (rot i m en f) from ⟨hO, hre.mono (by omega) (by omega)⟩)
              clear hO hre
              go_wp2_with fail
              go_meet
              case rel => exact ⟨rfl, kO⟩
            · rw [decide_eq_false h1]
              have kO := hid (show OD w0 blk n (rot i m en f) _ ∧ Re a b f (rot i m en f) from by rw [rot_id f ⟨hie.2.1, hie.2.2.2.1⟩ h1]; exact ⟨kp1.out, Re.refl _⟩)
              go_wp2_with fail
              go_meet
              case rel => exact ⟨rfl, kO⟩
          case rest =>
            obtain ⟨rfl, hG⟩ := hcut
            generalize rot i m en f = g at *
            have kG := hid hG.out.1
            have kRe := hid hG.out.2
            have kPg := hid (kP.out.re kRe.out hb)
            clear hG kp1
            go_upto_region 41 with fail
            go_cut [199] from 192 to 199 (fun c wx => c = .bool (decide (a < i ∧ i < mid)) ∧ wx = wc)
            case first =>
              by_cases h1 : a < i
              · have h1' : (a : Int) < (i : Int) := by omega
                by_cases h2 : i < mid
                · have h2' : (i : Int) < (mid : Int) := by omega
                  go_wp2_with fail
                  go_meet
                  case rel => exact ⟨by simp [h1, h2], rfl⟩
                · have h2' : ¬ (i : Int) < (mid : Int) := by omega
                  go_wp2_with fail
                  go_meet
                  case rel => exact ⟨by simp [h2], rfl⟩
              · have h1' : ¬ (a : Int) < (i : Int) := by omega
                go_wp2_with fail
                go_meet
                case rel => exact ⟨by simp [h1], rfl⟩
            case rest =>
              obtain ⟨rfl, rfl⟩ := hcut
              go_upto_if 199 with fail
              go_cut [20] from 192 to 205 (fun t wx => t = .int .i64 (i : Int) ∧ Hid (∃ h1, OD w0 blk n h1 wx ∧ Re a mid g h1 ∧ Srt L h1 a mid))
              case first =>
                by_cases h1 : a < i ∧ i < mid
                · rw [decide_eq_true h1]
                  have k8 := hid (fun w hw => kih.out w a i mid g (by omega) hw kPg.out h1.1 h1.2 (by omega) ⟨kMrg.out.s1, kMrg.out.s2, kMrg.out.i1⟩)
                  go_wp2_with fail
                  refine (k8.out _ kG.out).mono ?_
                  rintro e w2 ⟨rfl, hO⟩
                  have kO := hid hO
                  clear hO
                  go_wp2_with fail
                  go_meet
                  case rel => exact ⟨rfl, kO⟩
                · rw [decide_eq_false h1]
                  have kO := hid (show ∃ h1, OD w0 blk n h1 _ ∧ Re a mid g h1 ∧ Srt L h1 a mid from ⟨g, kG.out, Re.refl _, by
                    by_cases e : i = a
                    · have := kMrg.out.s2
                      rwa [e] at this
                    · have := kMrg.out.s1
                      rwa [show i = mid by omega] at this⟩)
                  go_wp2_with fail
                  go_meet
                  case rel => exact ⟨rfl, kO⟩
              case rest =>
                obtain ⟨rfl, hH⟩ := hcut
                obtain ⟨g1, q1, q2, q3⟩ := hH.out
                have kG1 := hid q1
                have kR1 := hid q2
                have kS1 := hid q3
                have kPg1 := hid (kPg.out.re q2 (by omega))
                clear hH q1 q2 q3 kG
                go_upto_region 43 with fail
                go_cut [213] from 206 to 213 (fun c wx => c = .bool (decide (mid < en ∧ en < b)) ∧ wx = wc)
                case first =>
                  by_cases h1 : mid < en
                  · have h1' : (mid : Int) < (en : Int) := by omega
                    by_cases h2 : en < b
                    · have h2' : (en : Int) < (b : Int) := by omega
                      go_wp2_with fail
                      go_meet
                      case rel => exact ⟨by simp [h1, h2], rfl⟩
                    · have h2' : ¬ (en : Int) < (b : Int) := by omega
                      go_wp2_with fail
                      go_meet
                      case rel => exact ⟨by simp [h2], rfl⟩
                  · have h1' : ¬ (mid : Int) < (en : Int) := by omega
                    go_wp2_with fail
                    go_meet
                    case rel => exact ⟨by simp [h1], rfl⟩
                case rest =>
                  obtain ⟨rfl, rfl⟩ := hcut
                  have ksm : Hid (∀ x y, mid ≤ x → Srt L g x y → Srt L g1 x y) := fun x y hx h => h.congr (fun t t1 t2 => kR1.out.out (Or.inr (by omega)))
                  by_cases h1 : mid < en ∧ en < b
                  · rw [decide_eq_true h1]
                    have k8 := hid (fun w hw => kih.out w mid en b g1 (by omega) hw kPg1.out h1.1 h1.2 (by omega) ⟨ksm.out _ _ (Nat.le_refl _) kMrg.out.s3, ksm.out _ _ (by omega) kMrg.out.s4, fun x y x1 x2 y1 y2 => by rw [kR1.out.out (Or.inr x1), kR1.out.out (Or.inr (by omega))]; exact kMrg.out.i2 x y x1 x2 y1 y2⟩)
                    go_wp2_with fail
                    refine (k8.out _ kG1.out).mono ?_
                    rintro e w2 ⟨rfl, h2, o1, o2, o3⟩
                    have kO := hid o1
                    have kF : Hid (Re a b f h2 ∧ Srt L h2 a b) := ⟨(kRe.out.trans (kR1.out.mono (Nat.le_refl _) (by omega))).trans (o2.mono (by omega) (Nat.le_refl _)), merge_join kMrg.out kR1.out kS1.out o2 o3⟩
                    clear o1 o2 o3
                    go_wp2_with fail
                    first | go_end0 | (refine bodyPost_ret (results_none rfl _ _ _) rfl ?_)
                    exact ⟨rfl, _, kO.out, kF.out.1, kF.out.2⟩
                  · rw [decide_eq_false h1]
                    have kS2 : Hid (Srt L g1 mid b) := by
                      by_cases e : en = mid
                      · have := ksm.out _ _ (by omega) kMrg.out.s4
                        rwa [e] at this
                      · have := ksm.out _ _ (Nat.le_refl _) kMrg.out.s3
                        rwa [show en = b by omega] at this
                    have kF : Hid (Re a b f g1 ∧ Srt L g1 a b) := ⟨kRe.out.trans (kR1.out.mono (Nat.le_refl _) (by omega)), merge_join kMrg.out kR1.out kS1.out (Re.refl _) kS2.out⟩
                    go_wp2_with fail
                    first | go_end0 | (refine bodyPost_ret (results_none rfl _ _ _) rfl ?_)
                    exact ⟨rfl, _, kG1.out, kF.out.1, kF.out.2⟩

theorem sym_any (w0 : World) (cb blk : Nat) (L : Nat → Int) (n : Nat) (hC : Cmp w0 cb blk n L) (hn : n ≤ 4096) : ∀ (d : Nat) (w : World) (a m b : Nat) (g : Dat), b - a ≤ d → OD w0 blk n g w → Pl n g → a < m → m < b → b ≤ n → Pre L g a m b →
      Calls Try.prog 53 #[.slice (some ⟨blk, 0, none⟩) n n, .int .i64 (a : Int), .int .i64 (m : Int), .int .i64 (b : Int), .func (.func 45) #[] #[.pointer (some ⟨cb, 0, none⟩)]] w fun e w' => e = .returned (.tuple #[]) ∧ ∃ h, OD w0 blk n h w' ∧ Re a b g h ∧ Srt L h a b
  | 0, _, a, m, b, _, h, _, _, h1, h2, _, _ => by omega
  | d + 1, w, a, m, b, g, h, hD, hP, h1, h2, h3, hM => by
    by_cases e1 : m = a + 1
    · subst e1
      exact sym_one w0 w cb blk L n a b g hC hD hP hn h2 h3 hM
    · by_cases e2 : b = m + 1
      · subst e2
        exact sym_last w0 w cb blk L n a m g hC hD hP hn (by omega) h3 hM
      · by_cases e3 : m > (a + b) / 2
        · exact sym_step w0 w cb blk L n a m b ((a + b) / 2) ((a + b) / 2 + m - b) ((a + b) / 2) g hC hn hD hP (by omega) (by omega) h3 hM rfl (by rw [if_pos e3]; exact ⟨rfl, rfl⟩) (fun w a' m' b' g' hd => sym_any w0 cb blk L n hC hn d w a' m' b' g' (by omega))
        · exact sym_step w0 w cb blk L n a m b ((a + b) / 2) a m g hC hn hD hP (by omega) (by omega) h3 hM rfl (by rw [if_neg e3]; exact ⟨rfl, rfl⟩) (fun w a' m' b' g' hd => sym_any w0 cb blk L n hC hn d w a' m' b' g' (by omega))
end Go.Proofs.Ytccbmmbcfcppeaa
