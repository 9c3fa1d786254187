/- A row of places put in order, however long: walked. -/
import Derived.Test.YtccbmmbcfcppeaaN9
namespace Go.Proofs.Ytccbmmbcfcppeaa
open Go.RowKit

set_option maxRecDepth 100000 in
set_option maxHeartbeats 16000000 in
theorem stable_any (w0 w : World) (cb blk : Nat) (L : Nat → Int) (n : Nat) (hC : Cmp w0 cb blk n L) (hn3 : n ≤ 4096) (hD : OD w0 blk n (fun t => t) w) :
    Calls Try.prog 50 #[.slice (some ⟨blk, 0, none⟩) n n, .int .i64 (n : Int), .func (.func 45) #[] #[.pointer (some ⟨cb, 0, none⟩)]] w fun e w' => e = .returned (.tuple #[]) ∧ ∃ g, OD w0 blk n g w' ∧ Re 0 n (fun t => t) g ∧ Srt L g 0 n := by
  have kI := hid (fun w a b f h1 h2 h3 h4 h5 => insertion_any w0 w cb blk L n a b f hC h1 h2 hn3 h3 h4 h5)
  have kS := hid (fun w a m b f h1 h2 h3 h4 h5 h6 => sym_any w0 cb blk L n hC hn3 (b - a) w a m b f (Nat.le_refl _) h1 h2 h3 h4 h5 h6)
  have kD := hid hD
  clear hC hD
  go_enter Try.func50, Try.ntmps50
  go_wp2_with fail
  go_loopw [7, 8] (fun t u wr => ∃ k a b : Nat, Hid (a = k * 20 ∧ b = a + 20) ∧ (a ≤ n ∧ b ≤ 4200) ∧ t = .int .i64 (a : Int) ∧ u = .int .i64 (b : Int) ∧ Hid (∃ f, OD w0 blk n f wr ∧ Fs L n a f)) (fun t _ _ => n - (intOf t).toNat)
  case atStart => exact ⟨0, 0, 20, ⟨rfl, rfl⟩, by omega, rfl, rfl, ⟨_, kD.out, Fs.start _ _⟩⟩
  case round =>
    clear kD
    obtain ⟨k, a, b, hk, han, rfl, rfl, hg⟩ := hrel
    obtain ⟨f, g1, g2⟩ := hg.out
    have kg1 := hid g1
    have kg2 := hid g2
    have kpl := hid (pl_re (g2.re.mono (Nat.le_refl _) han.1))
    clear hg g1 g2
    by_cases hb : b ≤ n
    · have hb' : (b : Int) ≤ (n : Int) := by omega
      have k8 := hid (kI.out wr a b f kg1.out kpl.out (by have := hk.out; omega) hb (kg2.out.inc b))
      go_wp2_with fail
      refine k8.out.mono ?_
      rintro e w2 ⟨rfl, g, o1, o2, o3⟩
      have kO : Hid (∃ f, OD w0 blk n f w2 ∧ Fs L n b f) := ⟨g, o1, by
        rw [hk.out.2] at o2 o3
        rw [hk.out.2]
        exact kg2.out.next hk.out.1 (by have := hk.out; omega) o2 o3⟩
      have hk9 : Hid (b = (k + 1) * 20) := by show _ = _; have := hk.out; omega
      clear o1 o2 o3 k8
      go_wp2_with fail
      go_roundw
      case rel => exact ⟨k + 1, b, b + 20, ⟨hk9.out, rfl⟩, by omega, rfl, by go_num, kO⟩
      case measure => have := hk.out; simp [intOf]; omega
    · have hb' : ¬ (b : Int) ≤ (n : Int) := by omega
      have k8 := hid (kI.out wr a n f kg1.out kpl.out (by omega) (Nat.le_refl _) (kg2.out.inc n))
      go_wp2_with fail
      refine k8.out.mono ?_
      rintro e w2 ⟨rfl, g, o1, o2, o3⟩
      have kO : Hid (∃ f, OD w0 blk n f w2 ∧ Re 0 n (fun t => t) f ∧ Ou L n 20 f) := ⟨g, o1, (kg2.out.re.mono (Nat.le_refl _) han.1).trans (o2.mono (Nat.zero_le _) (Nat.le_refl _)), kg2.out.done hk.out.1 han.1 (by have := hk.out; omega) o2 o3⟩
      clear o1 o2 o3 k8 kg1 kg2 kpl
      go_wp2_with fail
      go_loopw [6, 7, 8, 9] (fun t _ _ _ wr => ∃ s : Nat, (20 ≤ s ∧ s ≤ 8192) ∧ t = .int .i64 (s : Int) ∧ Hid (∃ f, OD w0 blk n f wr ∧ Re 0 n (fun t => t) f ∧ Ou L n s f)) (fun t _ _ _ _ => 8192 - (intOf t).toNat)
      case atStart => exact ⟨20, by omega, rfl, kO⟩
      case round =>
        clear kO
        obtain ⟨s, hs, rfl, hg⟩ := hrel
        by_cases hsn : s < n
        · have hsn' : (s : Int) < (n : Int) := by omega
          have kI0 : Hid (∃ f, OD w0 blk n f wr ∧ Re 0 n (fun t => t) f ∧ In L n s 0 f) := by
            obtain ⟨f, g1, g2, g3⟩ := hg.out
            exact ⟨f, g1, g2, In.start g3⟩
          clear hg
          go_wp2_with fail
          go_loopw [7, 8] (fun t u wr => ∃ q a b : Nat, Hid (a = q * (2 * s)) ∧ Hid (b = a + 2 * s) ∧ (a ≤ n ∧ b ≤ 20500) ∧ t = .int .i64 (a : Int) ∧ u = .int .i64 (b : Int) ∧ Hid (∃ f, OD w0 blk n f wr ∧ Re 0 n (fun t => t) f ∧ In L n s q f)) (fun t _ _ => n - (intOf t).toNat)
          case atStart => exact ⟨0, 0, 2 * s, (Nat.zero_mul _).symm, (Nat.zero_add _).symm, by omega, rfl, by go_num, kI0⟩
          case round =>
            clear kI0
            obtain ⟨q, a2, b2, hq, hk2, ha2, rfl, rfl, hg⟩ := hrel
            obtain ⟨f2, g1, g2, g3⟩ := hg.out
            have kg1 := hid g1
            have kg2 := hid g2
            have kg3 := hid g3
            have kpl := hid (pl_re g2)
            clear hg g1 g2 g3
            by_cases hb2 : b2 ≤ n
            · have hb2' : (b2 : Int) ≤ (n : Int) := by omega
              have hpre := kg3.out.pre (b := b2) (by omega) (by have := hk2.out; rw [← hq.out]; omega) (by have := hk2.out; rw [← hq.out]; omega)
              rw [← hq.out] at hpre
              have k8 := hid (kS.out wr a2 (a2 + s) b2 f2 kg1.out kpl.out (by omega) (by have := hk2.out; omega) hb2 hpre)
              rw [show ((a2 + s : Nat) : Int) = (a2 : Int) + (s : Int) by omega] at k8
              clear hpre
              go_wp2_with fail
              refine k8.out.mono ?_
              rintro e w3 ⟨rfl, g, o1, o2, o3⟩
              have kO : Hid (∃ f, OD w0 blk n f w3 ∧ Re 0 n (fun t => t) f ∧ In L n s (q + 1) f) := ⟨g, o1, kg2.out.trans (o2.mono (Nat.zero_le _) hb2), by
                rw [hk2.out, hq.out] at o2 o3
                exact kg3.out.next (by have := hk2.out; rw [← hq.out]; omega) o2 o3⟩
              have hq2 : Hid (b2 = (q + 1) * (2 * s)) := by show _ = _; rw [Nat.succ_mul, ← hq.out]; exact hk2.out
              clear o1 o2 o3 k8
              go_wp2_with fail
              go_roundw
              case rel => exact ⟨q + 1, b2, b2 + 2 * s, hq2, rfl, by omega, rfl, by go_num, kO⟩
              case measure => have := hk2.out; simp [intOf]; omega
            · have hb2' : ¬ (b2 : Int) ≤ (n : Int) := by omega
              by_cases hm2 : a2 + s < n
              · have hm2' : (a2 : Int) + (s : Int) < (n : Int) := by omega
                have hpre := kg3.out.pre (b := n) (by omega) (by have := hk2.out; rw [← hq.out]; omega) (by have := hk2.out; rw [← hq.out]; omega)
                rw [← hq.out] at hpre
                have k8 := hid (kS.out wr a2 (a2 + s) n f2 kg1.out kpl.out (by omega) (by omega) (Nat.le_refl _) hpre)
                rw [show ((a2 + s : Nat) : Int) = (a2 : Int) + (s : Int) by omega] at k8
                clear hpre
                go_wp2_with fail
                refine k8.out.mono ?_
                rintro e w3 ⟨rfl, g, o1, o2, o3⟩
                have kO : Hid (∃ f, OD w0 blk n f w3 ∧ Re 0 n (fun t => t) f ∧ Ou L n (2 * s) f) := ⟨g, o1, kg2.out.trans (o2.mono (Nat.zero_le _) (Nat.le_refl _)), by
                  rw [hq.out] at o2 o3
                  exact kg3.out.done (by have := hk2.out; rw [← hq.out]; omega) (by have := hk2.out; rw [← hq.out]; omega) o2 o3⟩
                clear o1 o2 o3 k8
                go_wp2_with fail
                go_roundw
                case rel => exact ⟨2 * s, by omega, by go_num, kO⟩
                case measure => simp [intOf]; omega
              · have hm2' : ¬ (a2 : Int) + (s : Int) < (n : Int) := by omega
                have kO : Hid (∃ f, OD w0 blk n f wr ∧ Re 0 n (fun t => t) f ∧ Ou L n (2 * s) f) := ⟨f2, kg1.out, kg2.out, kg3.out.done (by have := hk2.out; rw [← hq.out]; omega) (by have := hk2.out; rw [← hq.out]; omega) (Re.refl _) (kg3.out.short (by have := hk2.out; rw [← hq.out]; omega) (by have := hk2.out; rw [← hq.out]; omega))⟩
                go_wp2_with fail
                go_roundw
                case rel => exact ⟨2 * s, by omega, by go_num, kO⟩
                case measure => simp [intOf]; omega
        · have hsn' : ¬ (s : Int) < (n : Int) := by omega
          go_wp2_with fail
          first | go_end0 | (refine bodyPost_ret (results_none rfl _ _ _) rfl ?_)
          obtain ⟨f, q1, q2, q3⟩ := hg.out
          refine ⟨rfl, f, q1, q2, ?_⟩
          by_cases h0 : 0 < n
          · have := q3.sb 0 (by omega)
            rw [Nat.zero_mul, Nat.zero_add, show min s n = n by omega] at this
            exact this
          · intro i j h1 h2 h3
            omega

set_option maxRecDepth 100000 in
theorem sortStable_any (w0 w : World) (cb blk : Nat) (L : Nat → Int) (n : Nat) (hC : Cmp w0 cb blk n L) (hn3 : n ≤ 4096) (hD : OD w0 blk n (fun t => t) w) :
    Calls Try.prog 44 #[.slice (some ⟨blk, 0, none⟩) n n, .func (.func 45) #[] #[.pointer (some ⟨cb, 0, none⟩)]] w fun e w' => e = .returned (.tuple #[]) ∧ ∃ g, OD w0 blk n g w' ∧ Re 0 n (fun t => t) g ∧ Srt L g 0 n := by
  have kS := hid (stable_any w0 w cb blk L n hC hn3 hD)
  clear hC hD
  go_enter Try.func44, Try.ntmps44
  go_wp2_with fail
  refine kS.out.mono ?_
  rintro e w2 ⟨rfl, h⟩
  have kh := hid h
  clear h
  go_wp2_with fail
  first | go_end0 | (refine bodyPost_ret (results_none rfl _ _ _) rfl ?_)
  exact ⟨rfl, kh.out⟩
end Go.Proofs.Ytccbmmbcfcppeaa
