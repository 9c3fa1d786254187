/- Refused calls; fills; lists of numbers: walked. -/
import Derived.Test.YtccbmmbcfcppeaaP11
import Derived.Test.YtccbmmbcfcppeaaB2
namespace Go.Proofs.Ytccbmmbcfcppeaa
open Go.RowKit Go.Lib Go.Shelf

set_option maxRecDepth 100000 in
set_option maxHeartbeats 4000000 in
theorem ints_any (ao bo : Option Addr) (ca cb : Nat) (Z : List Int) (w : World) (h1 : NumsC .i64 w ao Z) (h2 : NumsC .i64 w bo Z) (hl : Z.length ≤ 1048576) :
    Calls Try.prog 20 #[.slice ao Z.length ca, .slice bo Z.length cb] w fun e w' => e = .returned (.bool true) ∧ Old w w' := by
  have k1 := hid h1
  have k2 := hid h2
  clear h1 h2
  go_enter Try.func20, Try.ntmps20
  have hne : ((Z.length : Int) != (Z.length : Int)) = false := by simp
  go_wp2_with fail
  go_loopw [5] (fun t wr => ∃ i : Nat, i ≤ Z.length ∧ t = .int .i64 (i : Int) ∧ Hid (Old w wr)) (fun t _ => Z.length - (intOf t).toNat)
  case atStart => exact ⟨0, Nat.zero_le _, rfl, Old.refl _⟩
  case round =>
    obtain ⟨i, hi, rfl, hg⟩ := hrel
    by_cases hlt : i < Z.length
    · have hlt' : (i : Int) < (Z.length : Int) := by omega
      obtain ⟨g, o, rfl, c1⟩ := k1.out.old hg.out i hlt
      obtain ⟨g', o', rfl, c2⟩ := k2.out.old hg.out i hlt
      generalize Z[i] = x at *
      have hb : (x != x) = false := by simp
      go_upto_region 6 with fail
      go_region
      go_wp2_with fail
      go_roundw
      case rel => exact ⟨i + 1, by omega, by go_num, hg.out.drewN 1⟩
      case measure => simp [intOf]; omega
    · obtain rfl : i = Z.length := by omega
      have hlt' : ¬ (Z.length : Int) < (Z.length : Int) := by omega
      go_wp2_with fail
      go_ret
      exact ⟨rfl, hg.out⟩

set_option maxRecDepth 100000 in
theorem num_any (e : Int) (w : World) : Calls Try.prog 14 #[.int .i64 e] w fun r w' => r = .returned (.int .i64 e) ∧ w' = w := by
  go_enter Try.func14, Try.ntmps14
  go_wp2
  go_ret
  exact ⟨by simp, rfl⟩

set_option maxRecDepth 100000 in
set_option maxHeartbeats 4000000 in
theorem clear_bad (ao bo : Option Addr) (ca cb : Nat) (L M : List Wt) (w : World) (hL : WC w ao L) (hM : WC w bo M) (h1 : L.length ≤ 9223372036854775807) (h2 : M.length ≤ 9223372036854775807) (hc : chZ L M ≠ 0) :
    Calls Try.prog 8 #[.slice ao L.length ca, .slice bo M.length cb] w fun e w' => e = .returned (.tuple #[calV 0 0 0 0 none none 0 0 0 0, .int .i64 (chZ L M)]) ∧ Old w w' := by
  unfold calV
  have oA : Old w (w.alloc (.cells #[.int .i64 0, .int .i64 0, .int .i64 0, .int .i64 0, .slice none 0 0, .slice none 0 0] 28)) := (Old.refl w).alloc _
  have kC := hid (check_any ao bo ca cb L M _ (hL.old oA) (hM.old oA) h1 h2)
  have kr := heap_new w (.cells #[.int .i64 0, .int .i64 0, .int .i64 0, .int .i64 0, .slice none 0 0, .slice none 0 0] 28)
  have koA := hid oA
  obtain ⟨z, hzz⟩ : ∃ z, chZ L M = z := ⟨_, rfl⟩
  rw [hzz] at kC hc ⊢
  have hz' : (z != 0) = true := by simpa using hc
  clear hzz hL hM oA
  go_enter Try.func8, Try.ntmps8
  go_wp2_with fail
  generalize w.alloc (.cells #[.int .i64 0, .int .i64 0, .int .i64 0, .int .i64 0, .slice none 0 0, .slice none 0 0] 28) = W1 at *
  obtain ⟨s, hs0⟩ : ∃ s, w.heap.size = s := ⟨_, rfl⟩
  rw [hs0] at kr
  simp only [hs0]
  have ks := hid hs0
  clear hs0
  refine kC.out.mono ?_
  rintro e w2 ⟨rfl, o2⟩
  have kr := blk_frm kr o2 (fun h => h)
  have ko := hid (koA.out.trans o2)
  clear o2 kC koA
  have y0 := blk_cells (i := 0) (v := .int .i64 0) kr rfl
  have y1 := blk_cells (i := 1) (v := .int .i64 0) kr rfl
  have y2 := blk_cells (i := 2) (v := .int .i64 0) kr rfl
  have y3 := blk_cells (i := 3) (v := .int .i64 0) kr rfl
  have y4 := blk_cells (i := 4) (v := .slice none 0 0) kr rfl
  have y5 := blk_cells (i := 5) (v := .slice none 0 0) kr rfl
  have yf := fun i => blk_fz kr i
  have h6 := six_set kr (.int .i64 0) (.int .i64 0) (.int .i64 0) (.int .i64 0) (.slice none 0 0) (.slice none 0 0)
  have k6 := hid h6
  clear h6 kr
  go_wp2_with fail
  obtain ⟨g6, f6⟩ := k6.out
  clear y0 y1 y2 y3 y4 y5 yf
  have e0 := blk_cells (i := 0) (v := .int .i64 0) g6 rfl
  have e1 := blk_cells (i := 1) (v := .int .i64 0) g6 rfl
  have e2 := blk_cells (i := 2) (v := .int .i64 0) g6 rfl
  have e3 := blk_cells (i := 3) (v := .int .i64 0) g6 rfl
  have e4 := blk_cells (i := 4) (v := .slice none 0 0) g6 rfl
  have e5 := blk_cells (i := 5) (v := .slice none 0 0) g6 rfl
  refine bodyPost_ret (v := .tuple #[.agg #[.int .i64 0, .int .i64 0, .int .i64 0, .int .i64 0, .slice none 0 0, .slice none 0 0], .int .i64 z]) (by simp [results, Try.results8, go_sem, e0, e1, e2, e3, e4, e5]) rfl ⟨rfl, ?_⟩
  exact Frm.trans ko.out f6 (fun i hi e => by have := ks.out; omega)

/-- Wants that are gone over. -/
def flA (L M : List Wt) : List Wt := if chZ L M = 0 then L else []
def flB (L M : List Wt) : List Wt := if chZ L M = 0 then M else []
theorem okW_nil : OkW [] := ⟨by simp, fun i hi => by simp at hi⟩
theorem flA_ok (L M : List Wt) : OkW (flA L M) ∧ OkW (flB L M) := by
  unfold flA flB
  by_cases h : chZ L M = 0
  · rw [if_pos h, if_pos h]
    exact chZ_ok h
  · rw [if_neg h, if_neg h]
    exact ⟨okW_nil, okW_nil⟩

/-- Fills, as it is told: a function over which one goes, all in memory from N on. -/
structure FlsP (N : Nat) (w' : World) (b5 b6 b2 b3 rb rs : Nat) (ao bo : Option Addr) (ca cb : Nat) (L M : List Wt) : Prop where
  tr : TrC w' b5 b6 b2 b3 rb rs ao bo ca cb L M
  n5 : N ≤ b5
  n6 : N ≤ b6
  n2 : N ≤ b2
  n3 : N ≤ b3
  nb : N ≤ rb
  ns : N ≤ rs
  na : 0 < L.length → ∀ ad, ao = some ad → N ≤ ad.block
  no : 0 < M.length → ∀ ad, bo = some ad → N ≤ ad.block
theorem FlsP.nt {N : Nat} {w' : World} {b5 b6 b2 b3 rb rs : Nat} {ao bo : Option Addr} {ca cb : Nat} {L M : List Wt} (h : FlsP N w' b5 b6 b2 b3 rb rs ao bo ca cb L M) {T : Nat → Prop} (hT : ∀ k, T k → k < N) : NT T b5 b6 b2 b3 rb rs ao bo L M :=
  ⟨fun e => by have := hT _ e; have := h.n5; omega, fun e => by have := hT _ e; have := h.n6; omega, fun e => by have := hT _ e; have := h.n2; omega, fun e => by have := hT _ e; have := h.n3; omega, fun _ e => by have := hT _ e; have := h.nb; omega, fun _ e => by have := hT _ e; have := h.ns; omega, fun hp ad e e2 => by have := hT _ e2; have := h.na hp ad e; omega, fun hp ad e e2 => by have := hT _ e2; have := h.no hp ad e; omega⟩
theorem TrC.nt {w : World} {b5 b6 b2 b3 rb rs : Nat} {ao bo : Option Addr} {ca cb : Nat} {L M : List Wt} (h : TrC w b5 b6 b2 b3 rb rs ao bo ca cb L M) {T : Nat → Prop} (hT : ∀ k, T k → w.heap.size ≤ k) : NT T b5 b6 b2 b3 rb rs ao bo L M := by
  have a5 := World.block_lt_of_cell? w _ h.c5
  have a6 := World.block_lt_of_cell? w _ h.c6
  have a2 := World.block_lt_of_cell? w _ h.c2
  have a3 := World.block_lt_of_cell? w _ h.c3
  dsimp only at a5 a6 a2 a3
  refine ⟨fun e => by have := hT _ e; omega, fun e => by have := hT _ e; omega, fun e => by have := hT _ e; omega, fun e => by have := hT _ e; omega, fun hp e => ?_, fun hp e => ?_, fun hp ad e e2 => by have := hT _ e2; have := h.wl.lt hp ad e; omega, fun hp ad e e2 => by have := hT _ e2; have := h.wm.lt hp ad e; omega⟩
  · obtain ⟨g, o, e2, hc⟩ := h.r5 0 (by rw [dl_len]; exact hp)
    have := World.block_lt_of_cell? w _ hc
    simp only [Option.some.injEq, Addr.mk.injEq] at e2
    have := hT _ e
    dsimp only at *
    omega
  · obtain ⟨g, o, e2, hc⟩ := h.r6 0 (by rw [dl_len]; exact hp)
    have := World.block_lt_of_cell? w _ hc
    simp only [Option.some.injEq, Addr.mk.injEq] at e2
    have := hT _ e
    dsimp only at *
    omega
def flsV (b5 b6 b2 b3 : Nat) : Value := .func (.func 40) #[] #[.pointer (some ⟨b5, 0, none⟩), .pointer (some ⟨b6, 0, none⟩), .pointer (some ⟨b2, 0, none⟩), .pointer (some ⟨b3, 0, none⟩)]

theorem NewW.more {B : Nat} {w : World} {v : Value} {L : List Wt} (h : NewW B w v L) : ∃ ao cap, v = .slice ao L.length cap ∧ WC w ao L ∧ ∀ ad, ao = some ad → B ≤ ad.block := by
  rcases h with ⟨rfl, rfl⟩ | ⟨b, cap, rfl, hb, _, ow⟩
  · exact ⟨none, 0, rfl, fun i hi => by simp at hi, fun ad e => by cases e⟩
  · exact ⟨_, _, rfl, ow.off, fun ad e => by
      simp only [Option.some.injEq] at e
      rw [← e]
      exact hb⟩

set_option maxRecDepth 100000 in
set_option maxHeartbeats 4000000 in
theorem fills_any (ao bo : Option Addr) (ca cb : Nat) (L M : List Wt) (w : World) (hL : WC w ao L) (hM : WC w bo M) (hna : ao = none → ca = 0) (hnb : bo = none → cb = 0) (h1 : L.length ≤ 9223372036854775807) (h2 : M.length ≤ 9223372036854775807) :
    Calls Try.prog 18 #[.slice ao L.length ca, .slice bo M.length cb] w fun e w' => ∃ b5 b6 b2 b3 rb rs a2 o2 c2 d2, e = .returned (flsV b5 b6 b2 b3) ∧ FlsP w.heap.size w' b5 b6 b2 b3 rb rs a2 o2 c2 d2 (flA L M) (flB L M) ∧ Old w w' := by
  have kC := hid (check_any ao bo ca cb L M w hL hM h1 h2)
  unfold flsV
  by_cases hc : chZ L M = 0
  · obtain ⟨oL, oM⟩ := chZ_ok hc
    have hfL := oL.few
    have hfM := oM.few
    have kfl : Hid (flA L M = L ∧ flB L M = M) := ⟨if_pos hc, if_pos hc⟩
    rw [kfl.out.1, kfl.out.2]
    rw [hc] at kC
    have kL := hid hL
    have kM := hid hM
    have kD := hid (fun w hL => clone_any ao ca L w hL hna (by omega))
    have kE := hid (fun w hM => clone_any bo cb M w hM hnb (by omega))
    clear oL oM hL hM hc kfl hna hnb
    go_enter Try.func18, Try.ntmps18
    go_wp2_with fail
    refine kC.out.mono ?_
    rintro e w2 ⟨rfl, o2⟩
    have kM2 := hid (kM.out.old o2)
    have ko2 := hid o2
    have kd := hid (kD.out w2 (kL.out.old o2))
    clear o2 kC kL kM kD
    go_wp2_with fail
    refine kd.out.mono ?_
    rintro e w3 ⟨v3, rfl, r3, o3⟩
    obtain ⟨a3, c3, rfl, hW3, hb3⟩ := (owns_new r3).more
    have kW3 := hid hW3
    have kb3 : Hid (∀ ad, a3 = some ad → w.heap.size ≤ ad.block) := fun ad e => Nat.le_trans ko2.out.size (hb3 ad e)
    have ko3 := hid (ko2.out.trans o3)
    have ke := hid (kE.out w3 (kM2.out.old o3))
    clear o3 r3 hW3 hb3 kd ko2 kM2 kE
    go_wp2_with fail
    refine ke.out.mono ?_
    rintro e w4 ⟨v4, rfl, r4, o4⟩
    obtain ⟨a4, c4, rfl, hW4, hb4⟩ := (owns_new r4).more
    have kW4 := hid hW4
    have kW3' := hid (kW3.out.old o4)
    have kb4 : Hid (∀ ad, a4 = some ad → w.heap.size ≤ ad.block) := fun ad e => Nat.le_trans ko3.out.size (hb4 ad e)
    have ko4 := hid (ko3.out.trans o4)
    have kT := hid (trades_any a3 a4 c3 c4 L M w4 kW3'.out kW4.out hfL hfM)
    clear o4 r4 hW4 hb4 ke ko3 kW3
    go_wp2_with fail
    refine kT.out.mono ?_
    rintro e w5 ⟨b5, b6, b2, b3, rb, rs, rfl, hTr, o5, hb5, hb6, hb2, hb3, hrb, hrs⟩
    have kF : Hid (FlsP w.heap.size w5 b5 b6 b2 b3 rb rs a3 a4 c3 c4 L M ∧ Old w w5) := by
      have := ko4.out.size
      exact ⟨⟨hTr, by omega, by omega, by omega, by omega, by omega, by omega, fun _ => kb3.out, fun _ => kb4.out⟩, ko4.out.trans o5⟩
    clear hTr o5 kT
    go_wp2_with fail
    go_ret
    exact ⟨b5, b6, b2, b3, rb, rs, a3, a4, c3, c4, rfl, kF.out⟩
  · have kfl : Hid (flA L M = [] ∧ flB L M = []) := ⟨if_neg hc, if_neg hc⟩
    rw [kfl.out.1, kfl.out.2]
    obtain ⟨z, hzz⟩ : ∃ z, chZ L M = z := ⟨_, rfl⟩
    rw [hzz] at kC hc
    have hz' : (z != 0) = true := by simpa using hc
    clear hzz hL hM kfl
    go_enter Try.func18, Try.ntmps18
    go_wp2_with fail
    refine kC.out.mono ?_
    rintro e w2 ⟨rfl, o2⟩
    have ko2 := hid o2
    have kT := hid (trades_any none none 0 0 [] [] w2 (fun i hi => by simp at hi) (fun i hi => by simp at hi) (by simp) (by simp))
    rw [show ([] : List Wt).length = 0 from rfl] at kT
    clear o2 kC
    go_wp2_with fail
    refine kT.out.mono ?_
    rintro e w5 ⟨b5, b6, b2, b3, rb, rs, rfl, hTr, o5, hb5, hb6, hb2, hb3, hrb, hrs⟩
    have kF : Hid (FlsP w.heap.size w5 b5 b6 b2 b3 rb rs none none 0 0 [] [] ∧ Old w w5) := by
      have := ko2.out.size
      exact ⟨⟨hTr, by omega, by omega, by omega, by omega, by omega, by omega, (fun _ ad e => by cases e), (fun _ ad e => by cases e)⟩, ko2.out.trans o5⟩
    clear hTr o5 kT
    go_wp2_with fail
    go_ret
    exact ⟨b5, b6, b2, b3, rb, rs, none, none, 0, 0, rfl, kF.out⟩
end Go.Proofs.Ytccbmmbcfcppeaa
