/- Lent ops that are as they were: walked. -/
import Derived.Test.YtpnnfkgnkalhlaaW5
namespace Go.Proofs.Ytpnnfkgnkalhlaa
open Go.RowKit

theorem LentN.at {B : Nat} {w : World} {v : Value} {L : List (Int × Int)} {m : Int × Int} (h : LentN B w v L m) : ∃ b cap, v = .slice (some ⟨b, 0, none⟩) L.length cap ∧ L.length + 1 ≤ cap ∧ PrC w (some ⟨b, 0, none⟩) L ∧ w.cell? ⟨b, L.length * 2 + 1, none⟩ = some (.int .i64 m.2) := by
  obtain ⟨b, cap, h1, h2, h3⟩ := h
  refine ⟨b, cap, h1, h2, fun i hi => ?_, ?_⟩
  · have := h3.cell i (by simp; omega)
    rw [List.getElem_append_left hi] at this
    exact ⟨b, 0, rfl, by rw [Nat.zero_add]; exact this.1, by rw [Nat.zero_add]; exact this.2⟩
  · have := (h3.cell L.length (by simp)).2
    simpa using this
theorem LentB.at {lo : Nat} {w : World} {v : Value} {B : List (List (Int × Int))} (h : LentB lo w v B) : ∃ g c, v = .slice (some ⟨g, 0, none⟩) B.length c ∧ B.length + 1 ≤ c ∧ lo ≤ g ∧ g < w.heap.size ∧ (∀ i, i < B.length → ∃ b cap, w.cell? ⟨g, i, none⟩ = some (.slice (some ⟨b, 0, none⟩) (B[i]?.getD []).length cap) ∧ (B[i]?.getD []).length + 1 ≤ cap ∧ PrC w (some ⟨b, 0, none⟩) (B[i]?.getD []) ∧ w.cell? ⟨b, (B[i]?.getD []).length * 2 + 1, none⟩ = some (.int .i64 771)) ∧ ∃ b, w.cell? ⟨g, B.length, none⟩ = some (.slice (some ⟨b, 0, none⟩) 1 1) ∧ w.cell? ⟨b, 1, none⟩ = some (.int .i64 772) := by
  obtain ⟨g, c, V, b, hv, hown, hrows, hmk⟩ := h
  have hcap := (own_cap hown).2
  have hVl : V.length = B.length := by have := own_len hown; simp at this; omega
  have hcell : ∀ i u, (V ++ [Value.slice (some ⟨b, 0, none⟩) 1 1])[i]? = some u → w.cell? ⟨g, i, none⟩ = some u ∧ g < w.heap.size ∧ lo ≤ g := fun i u hu => by
    have hi : i < B.length + 1 := by have := (List.getElem?_eq_some_iff.1 hu).1; simp at this; omega
    rcases hown.2 with ⟨_, e⟩ | ⟨g', cap, cur, e2, h3, h4, h5, h6, h7, h8⟩
    · omega
    · simp only [Value.slice.injEq, Option.some.injEq, Addr.mk.injEq, and_true, true_and] at e2
      obtain ⟨rfl, rfl⟩ := e2
      have h9 : (cur.toList.take ((B.length + 1) * 1))[i]? = some u := by rw [h8]; exact hu
      rw [List.getElem?_take_of_lt (by omega)] at h9
      exact ⟨blk_cells h4 (by simpa using h9), blk_lt h4, h3⟩
  have hlast := hcell B.length (.slice (some ⟨b, 0, none⟩) 1 1) (by rw [List.getElem?_append_right (by omega)]; simp [hVl])
  refine ⟨g, c, hv, hcap, hlast.2.2, hlast.2.1, fun i hi => ?_, b, hlast.1, ?_⟩
  · obtain ⟨b', cap', h1, h2, h3, h5⟩ := (hrows i hi).at
    refine ⟨b', cap', ?_, h2, h3, h5⟩
    refine (hcell i _ ?_).1
    rw [List.getElem?_append_left (by omega), List.getElem?_eq_getElem (by omega), ← h1, List.getD_eq_getElem?_getD, List.getElem?_eq_getElem (show i < V.length by omega)]
    rfl
  · exact (hmk.cell 0 (by simp)).2
theorem LentB.old {lo : Nat} {w w' : World} {v : Value} {B : List (List (Int × Int))} (h : LentB lo w v B) (o : Old w w') : LentB lo w' v B := by
  obtain ⟨g, c, V, b, hv, hown, hrows, hmk⟩ := h
  exact ⟨g, c, V, b, hv, own_old hown o, fun i hi => (hrows i hi).frm o (fun b e => e.elim), hmk.frm o (fun h => h)⟩
theorem LentB.opsV {lo : Nat} {w : World} {g c : Nat} {B : List (List (Int × Int))} (h : LentB lo w (.slice (some ⟨g, 0, none⟩) B.length c) B) (hk : ∀ (i : Nat) (x : Int × Int), x ∈ B[i]?.getD [] → i64ok x.1) : OpsV w (some ⟨g, 0, none⟩) B := fun i hi => by
  obtain ⟨g', c', e, -, -, -, hr, -⟩ := h.at
  simp only [Value.slice.injEq, Option.some.injEq, Addr.mk.injEq, and_true, true_and] at e
  obtain ⟨rfl, rfl⟩ := e
  obtain ⟨b, cap, h1, h2, h3, -⟩ := hr i hi
  exact ⟨g, 0, rfl, _, cap, by rw [Nat.zero_add]; exact h1, by omega, h3, (fun e => by cases e), hk i⟩
theorem OpsV.kinds {w : World} {oa : Option Addr} {O : List (List (Int × Int))} (h : OpsV w oa O) (i : Nat) : ∀ x ∈ O[i]?.getD [], i64ok x.1 := fun x hx => by
  by_cases hi : i < O.length
  · obtain ⟨g, o, h1, ai, c, h2, h3, h4, h5, h6⟩ := h i hi
    exact h6 x hx
  · rw [List.getElem?_eq_none (by omega)] at hx
    simp at hx

set_option maxRecDepth 100000 in
set_option maxHeartbeats 8000000 in
theorem left_any (lo : Nat) (v : Value) (ao : Option Addr) (cp : Nat) (B : List (List (Int × Int))) (w : World) (hM : LentB lo w v B) (hC : OpsV w ao B) (hl : B.length ≤ 1048576) (hll : ∀ i, i < B.length → (B[i]?.getD []).length ≤ 1048576) :
    Calls Try.prog 24 #[v, .slice ao B.length cp] w fun e w' => e = .returned (.bool true) ∧ Old w w' := by
  have kM := hid hM
  have kC := hid hC
  have kll := hid hll
  obtain ⟨g, c, rfl, hc1, -, -, -, bm, hm1, hm2⟩ := hM.at
  clear hC hM hll
  go_enter Try.func24, Try.ntmps24
  go_wp2_with fail
  go_loopw [5] (fun t wr => ∃ k : Nat, k ≤ B.length ∧ t = .int .i64 (k : Int) ∧ Hid (Old w wr)) (fun t _ => B.length - (intOf t).toNat)
  case atStart => exact ⟨0, Nat.zero_le _, rfl, hid (Old.refl w)⟩
  case round =>
    obtain ⟨k, hk, rfl, hq⟩ := hrel
    by_cases hlt : k < B.length
    · have hlt' : (k : Int) < (B.length : Int) := by omega
      obtain ⟨gl, ol, rfl, al, cl, l1, hcl, hnl, -⟩ := (kC.out.old hq.out) k hlt
      obtain ⟨g', c', e, -, -, -, hr, -⟩ := (kM.out.old hq.out).at
      simp only [Value.slice.injEq, Option.some.injEq, Addr.mk.injEq, and_true, true_and] at e
      obtain ⟨rfl, rfl⟩ := e
      obtain ⟨b, cap, m1, hcap, hnm, hmk⟩ := hr k hlt
      have hrl := kll.out k hlt
      generalize B[k]?.getD [] = L at *
      obtain ⟨n, hn⟩ : ∃ n, L.length = n := ⟨_, rfl⟩
      rw [hn] at l1 m1 hmk hcap hrl hcl
      have kn := hid hn
      obtain ⟨s, hs0⟩ : ∃ s : Nat, s = n + 1 := ⟨_, rfl⟩
      have hs : (n : Int) + 1 = (s : Int) := by omega
      have hsc : s ≤ cap := by omega
      have hsc' : (s : Int) ≤ (cap : Int) := by omega
      have hls : (n : Int) < (s : Int) := by omega
      have hls2 : n < s := by omega
      have hne : ((n : Int) != (n : Int)) = false := by simp
      have kl := hid hnl
      have km := hid hnm
      clear hr hnl hnm hs0 hn
      go_wp2_with fail
      clear hmk
      go_loopw [7] (fun t wz => ∃ p : Nat, p ≤ n ∧ t = .int .i64 (p : Int) ∧ Hid (Old wr wz)) (fun t _ => n - (intOf t).toNat)
      case atStart => exact ⟨0, Nat.zero_le _, rfl, hid (Old.refl wr)⟩
      case round =>
        obtain ⟨p, hp, rfl, hq3⟩ := hrel
        have l1 := hq3.out.cell l1
        have m1 := hq3.out.cell m1
        by_cases hlt2 : p < n
        · have hlt2' : (p : Int) < (n : Int) := by omega
          obtain ⟨ga, oa, rfl, c1, c2⟩ := (kl.out.old hq3.out) p (by rw [kn.out]; exact hlt2)
          obtain ⟨gb, ob, e0, d1, d2⟩ := (km.out.old hq3.out) p (by rw [kn.out]; exact hlt2)
          simp only [Option.some.injEq, Addr.mk.injEq, and_true] at e0
          obtain ⟨rfl, rfl⟩ := e0
          rw [Nat.zero_add] at d1 d2
          have hpc : (p : Int) < (cap : Int) := by omega
          generalize (L[p]'(by rw [kn.out]; exact hlt2)).1 = x at *
          generalize (L[p]'(by rw [kn.out]; exact hlt2)).2 = y at *
          have hx : (x == x) = true := by simp
          have hy : (y == y) = true := by simp
          go_wp2_with fail
          go_region
          have hq4 := hid (hq3.out.drewN 1)
          go_wp2_with fail
          go_roundw
          case rel => exact ⟨p + 1, by omega, by go_num, hq4⟩
          case measure => simp [intOf]; omega
        · obtain rfl : p = n := by omega
          have hlt2' : ¬ (p : Int) < (p : Int) := by omega
          have hfin := hid (hq.out.trans hq3.out)
          go_wp2_with fail
          go_roundw
          case rel => exact ⟨k + 1, by omega, by go_num, hfin⟩
          case measure => simp [intOf]; omega
    · obtain rfl : k = B.length := by omega
      have hlt' : ¬ (B.length : Int) < (B.length : Int) := by omega
      have n1 := hq.out.cell hm1
      have n2 := hq.out.cell hm2
      obtain ⟨s, hs0⟩ : ∃ s : Nat, s = B.length + 1 := ⟨_, rfl⟩
      have hs : (B.length : Int) + 1 = (s : Int) := by omega
      have hsc : s ≤ c := by omega
      have hsc' : (s : Int) ≤ (c : Int) := by omega
      have hls : (B.length : Int) < (s : Int) := by omega
      clear hs0
      go_wp2_with fail
      go_ret
      exact ⟨rfl, hq.out⟩
end Go.Proofs.Ytpnnfkgnkalhlaa

/- Answers that are the same: walked. -/
namespace Go.Proofs.Ytpnnfkgnkalhlaa
open Go.RowKit

set_option maxRecDepth 100000 in
set_option maxHeartbeats 8000000 in
theorem same_none (w : World) : Calls Try.prog 23 #[.slice none 0 0, .slice none 0 0] w fun e w' => e = .returned (.bool true) ∧ Old w w' := by
  go_enter Try.func23, Try.ntmps23
  go_wp2_with fail
  go_loopw [5] (fun t wr => t = .int .i64 0 ∧ wr = w) (fun _ _ => 0)
  case atStart => exact ⟨rfl, rfl⟩
  case round =>
    obtain ⟨rfl, rfl⟩ := hrel
    go_wp2_with fail
    go_ret
    exact ⟨rfl, Old.refl _⟩

set_option maxRecDepth 100000 in
set_option maxHeartbeats 8000000 in
theorem same_ans (a b n ca cb B1 B2 : Nat) (F : Nat → List (Int × Bool × Int)) (w : World) (ha : AnsC w a B1 n F) (hb : AnsC w b B2 n F) (hn : n ≤ 64) (hll : ∀ j, j < n → (F j).length ≤ 1000000000000) :
    Calls Try.prog 23 #[.slice (some ⟨a, 0, none⟩) n ca, .slice (some ⟨b, 0, none⟩) n cb] w fun e w' => e = .returned (.bool true) ∧ Old w w' := by
  have kA := hid ha
  have kB := hid hb
  have kll := hid hll
  clear ha hb hll
  have hne : ((n : Int) != (n : Int)) = false := by simp
  go_enter Try.func23, Try.ntmps23
  go_wp2_with fail
  go_loopw [5] (fun t wr => ∃ k : Nat, k ≤ n ∧ t = .int .i64 (k : Int) ∧ Hid (Old w wr)) (fun t _ => n - (intOf t).toNat)
  case atStart => exact ⟨0, Nat.zero_le _, rfl, hid (Old.refl w)⟩
  case round =>
    obtain ⟨k, hk, rfl, hq⟩ := hrel
    by_cases hlt : k < n
    · have hlt' : (k : Int) < (n : Int) := by omega
      obtain ⟨ra, ka, l1, xa⟩ := kA.out k hlt
      obtain ⟨rb, kb, m1, xb⟩ := kB.out k hlt
      have hrl := kll.out k hlt
      replace l1 := hq.out.cell l1
      replace m1 := hq.out.cell m1
      generalize F k = L at *
      obtain ⟨z, hz⟩ : ∃ z, L.length = z := ⟨_, rfl⟩
      rw [hz] at l1 m1 hrl
      have kz := hid hz
      have kxa := hid xa
      have kxb := hid xb
      have hnz : ((z : Int) != (z : Int)) = false := by simp
      clear xa xb hz
      go_wp2_with fail
      go_region
      have hq2 : Hid (Old w wr.drew) := hq.out.drewN 1
      have o2 : Old wr wr.drew := (Old.refl wr).drewN 1
      replace l1 := o2.cell l1
      replace m1 := o2.cell m1
      have kwd := hid o2
      clear o2
      generalize wr.drew = wd at *
      go_wp2_with fail
      go_loopw [6] (fun t wz => ∃ p : Nat, p ≤ z ∧ t = .int .i64 (p : Int) ∧ Hid (Old wd wz)) (fun t _ => z - (intOf t).toNat)
      case atStart => exact ⟨0, Nat.zero_le _, rfl, hid (Old.refl wd)⟩
      case round =>
        obtain ⟨p, hp, rfl, hq3⟩ := hrel
        have l1 := hq3.out.cell l1
        have m1 := hq3.out.cell m1
        by_cases hlt2 : p < z
        · have hlt2' : (p : Int) < (z : Int) := by omega
          obtain ⟨ga, rfl, -, a0, a1, a2⟩ := kxa.out p (by rw [kz.out]; exact hlt2)
          obtain ⟨gb, rfl, -, b0, b1, b2⟩ := kxb.out p (by rw [kz.out]; exact hlt2)
          have o9 := hq2.out.trans hq3.out
          replace a0 := o9.cell a0
          replace a1 := o9.cell a1
          replace a2 := o9.cell a2
          replace b0 := o9.cell b0
          replace b1 := o9.cell b1
          replace b2 := o9.cell b2
          clear o9
          generalize (L[p]?.getD (0, false, 0)).1 = x at *
          generalize (L[p]?.getD (0, false, 0)).2.1 = y at *
          generalize (L[p]?.getD (0, false, 0)).2.2 = u at *
          have hx : (x == x) = true := by simp
          have hy : (y == y) = true := by simp
          have hu : (u == u) = true := by simp
          go_wp2_with fail
          go_region
          have hq4 := hid (hq3.out.drewN 1)
          go_wp2_with fail
          go_roundw
          case rel => exact ⟨p + 1, by omega, by go_num, hq4⟩
          case measure => simp [intOf]; omega
        · obtain rfl : p = z := by omega
          have hlt2' : ¬ (p : Int) < (p : Int) := by omega
          have hfin := hid (hq2.out.trans hq3.out)
          go_wp2_with fail
          go_roundw
          case rel => exact ⟨k + 1, by omega, by go_num, hfin⟩
          case measure => simp [intOf]; omega
    · obtain rfl : k = n := by omega
      have hlt' : ¬ (k : Int) < (k : Int) := by omega
      go_wp2_with fail
      go_ret
      exact ⟨rfl, hq.out⟩

set_option maxRecDepth 100000 in
set_option maxHeartbeats 4000000 in
theorem dwalk_bad (mk gt ts : Int) (oa pa : Option Addr) (n co m cp : Nat) (w : World) (h : ((n : Int) < 1 ∨ 64 < (n : Int)) ∨ gt < 1 ∨ ts < 0) :
    Calls Try.prog 22 #[.agg #[.int .i64 mk, .int .i64 gt, .int .i64 ts], .slice oa n co, .slice pa m cp] w fun e w' => e = .returned (.tuple #[.slice none 0 0, .agg #[.int .i64 0, .int .i64 0, .int .i64 0, .int .i64 0, .bool false, .int .i64 0, .bool false, .int .i64 0], .int .i64 2]) ∧ Old w w' := by
  have kb := hid (fun W => doc_new_bad mk gt ts n W h)
  have oA : Old w ((w.alloc (.cells #[.int .i64 mk, .int .i64 gt, .int .i64 ts] 23)).alloc (.cells #[.int .i64 0, .int .i64 0, .int .i64 0, .int .i64 0, .bool false, .int .i64 0, .bool false, .int .i64 0] 63)) := ((Old.refl w).alloc _).alloc _
  obtain ⟨nA, nB, zA⟩ := two_news w (.cells #[.int .i64 mk, .int .i64 gt, .int .i64 ts] 23) (.cells #[.int .i64 0, .int .i64 0, .int .i64 0, .int .i64 0, .bool false, .int .i64 0, .bool false, .int .i64 0] 63)
  have ko := hid oA
  have knB := hid nB
  clear oA nA nB zA h
  go_enter Try.func22, Try.ntmps22
  go_wp2_with fail
  generalize (w.alloc (.cells #[.int .i64 mk, .int .i64 gt, .int .i64 ts] 23)).alloc (.cells #[.int .i64 0, .int .i64 0, .int .i64 0, .int .i64 0, .bool false, .int .i64 0, .bool false, .int .i64 0] 63) = w1 at *
  refine (kb.out _).mono ?_
  rintro e w6 ⟨rfl, o6⟩
  obtain ⟨s0, hs0⟩ : ∃ s0, w.heap.size = s0 := ⟨_, rfl⟩
  have ks := hid hs0
  rw [hs0] at knB ⊢
  have hb : w6.heap[s0 + 1]? = some (.cells #[.int .i64 0, .int .i64 0, .int .i64 0, .int .i64 0, .bool false, .int .i64 0, .bool false, .int .i64 0] 63 (0, 0)) := by
    rw [o6.block _ (Array.getElem?_eq_some_iff.1 knB.out).1 (fun h => h)]
    exact knB.out
  have g : ∀ i v, (#[.int .i64 0, .int .i64 0, .int .i64 0, .int .i64 0, .bool false, .int .i64 0, .bool false, .int .i64 0] : Array Value)[i]? = some v → w6.cell? ⟨s0 + 1, i, none⟩ = some v := fun i v hv => by simp only [World.cell?, hb]; exact hv
  have gz : ∀ i, w6.frozen? ⟨s0 + 1, i, none⟩ = false := fun i => by simp [World.frozen?, hb]
  have g0 := g 0 _ rfl
  have z0 := gz 0
  have g1 := g 1 _ rfl
  have z1 := gz 1
  have g2 := g 2 _ rfl
  have z2 := gz 2
  have g3 := g 3 _ rfl
  have z3 := gz 3
  have g4 := g 4 _ rfl
  have z4 := gz 4
  have g5 := g 5 _ rfl
  have z5 := gz 5
  have g6 := g 6 _ rfl
  have z6 := gz 6
  have g7 := g 7 _ rfl
  have z7 := gz 7
  obtain ⟨q1, q2⟩ := set_eight (.int .i64 0) (.int .i64 0) (.int .i64 0) (.int .i64 0) (.bool false) (.int .i64 0) (.bool false) (.int .i64 0) hb
  have ko6 := hid (ko.out.trans o6)
  have kq1 := hid q1
  have kq2 := hid q2
  clear hb g gz o6 q1 q2 hs0
  go_wp2_with fail
  obtain ⟨X3, x3⟩ : ∃ X3, (((((((w6.setCell ⟨s0 + 1, 0, none⟩ (.int .i64 0)).setCell ⟨s0 + 1, 1, none⟩ (.int .i64 0)).setCell ⟨s0 + 1, 2, none⟩ (.int .i64 0)).setCell ⟨s0 + 1, 3, none⟩ (.int .i64 0)).setCell ⟨s0 + 1, 4, none⟩ (.bool false)).setCell ⟨s0 + 1, 5, none⟩ (.int .i64 0)).setCell ⟨s0 + 1, 6, none⟩ (.bool false)).setCell ⟨s0 + 1, 7, none⟩ (.int .i64 0) = X3 := ⟨_, rfl⟩
  rw [x3] at kq1 kq2 ⊢
  clear x3 g0 z0 g1 z1 g2 z2 g3 z3 g4 z4 g5 z5 g6 z6 g7 z7
  try go_wp2
  have g : ∀ i v, (#[.int .i64 0, .int .i64 0, .int .i64 0, .int .i64 0, .bool false, .int .i64 0, .bool false, .int .i64 0] : Array Value)[i]? = some v → X3.cell? ⟨s0 + 1, i, none⟩ = some v := fun i v hv => by simp only [World.cell?, kq1.out]; exact hv
  have g0 := g 0 _ rfl
  have g1 := g 1 _ rfl
  have g2 := g 2 _ rfl
  have g3 := g 3 _ rfl
  have g4 := g 4 _ rfl
  have g5 := g 5 _ rfl
  have g6 := g 6 _ rfl
  have g7 := g 7 _ rfl
  refine bodyPost_ret (v := .tuple #[.slice none 0 0, .agg #[.int .i64 0, .int .i64 0, .int .i64 0, .int .i64 0, .bool false, .int .i64 0, .bool false, .int .i64 0], .int .i64 2]) ?_ rfl ⟨rfl, ?_⟩
  · simp [results, Try.f22, go_sem, g0, g1, g2, g3, g4, g5, g6, g7]
  · exact Frm.trans ko6.out kq2.out (fun k hk e => by have := ks.out; omega)
end Go.Proofs.Ytpnnfkgnkalhlaa
