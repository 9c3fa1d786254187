/- Lent bids that are as they were: walked. -/
import Derived.Test.YtafaodlmohfenaaL2
import Derived.Test.YtafaodlmohfenaaR1
namespace Go.Proofs.Ytafaodlmohfenaa
open Go.RowKit

theorem LentN.at {B : Nat} {w : World} {v : Value} {L : List Int} {m : Int} (h : LentN B w v L m) : ∃ b cap, v = .slice (some ⟨b, 0, none⟩) L.length cap ∧ L.length + 1 ≤ cap ∧ NumsC .i64 w (some ⟨b, 0, none⟩) L ∧ w.cell? ⟨b, L.length, none⟩ = some (.int .i64 m) := by
  obtain ⟨b, cap, h1, h2, h3⟩ := h
  refine ⟨b, cap, h1, h2, fun i hi => ?_, ?_⟩
  · have := h3.cell i (by simp; omega)
    rw [ct_eq (by simp; omega), List.getElem_append_left hi] at this
    exact ⟨b, 0, rfl, by rw [Nat.zero_add]; exact this⟩
  · have := h3.cell L.length (by simp)
    rw [ct_eq (by simp)] at this
    simpa using this
theorem LentB.at {lo : Nat} {w : World} {v : Value} {B : List (List Int)} (h : LentB lo w v B) : ∃ g c, v = .slice (some ⟨g, 0, none⟩) B.length c ∧ B.length + 1 ≤ c ∧ lo ≤ g ∧ g < w.heap.size ∧ (∀ i, i < B.length → ∃ b cap, w.cell? ⟨g, i, none⟩ = some (.slice (some ⟨b, 0, none⟩) (bd B i).length cap) ∧ (bd B i).length + 1 ≤ cap ∧ NumsC .i64 w (some ⟨b, 0, none⟩) (bd B i) ∧ w.cell? ⟨b, (bd B i).length, none⟩ = some (.int .i64 4242)) ∧ ∃ b, w.cell? ⟨g, B.length, none⟩ = some (.slice (some ⟨b, 0, none⟩) 1 1) ∧ w.cell? ⟨b, 0, none⟩ = some (.int .i64 4243) := by
  obtain ⟨g, c, V, b, hv, hown, hrows, hmk⟩ := h
  have hcap := (own_cap hown).2
  have hVl : V.length = B.length := by have := own_len hown; simp at this; omega
  have hcell : ∀ i u, (V ++ [Value.slice (some ⟨b, 0, none⟩) 1 1])[i]? = some u → w.cell? ⟨g, i, none⟩ = some u ∧ g < w.heap.size ∧ lo ≤ g := fun i u hu => by
    have hi : i < B.length + 1 := by have := (List.getElem?_eq_some_iff.1 hu).1; simp at this; omega
    rcases hown.2 with ⟨_, e⟩ | ⟨g', cap, cur, e2, h3, h4, h5, h6, h7, h8⟩
    · omega
    · simp only [Value.slice.injEq, Option.some.injEq, Addr.mk.injEq, and_true, true_and] at e2
      obtain ⟨rfl, rfl⟩ := e2
      have h9 : (cur.toList.take ((B.length + 1) * 1))[i]? = some u := by rw [h8]; exact hu
      rw [List.getElem?_take_of_lt (by omega)] at h9
      exact ⟨blk_cells h4 (by simpa using h9), blk_lt h4, h3⟩
  have hlast := hcell B.length (.slice (some ⟨b, 0, none⟩) 1 1) (by rw [List.getElem?_append_right (by omega)]; simp [hVl])
  refine ⟨g, c, hv, hcap, hlast.2.2, hlast.2.1, fun i hi => ?_, b, hlast.1, ?_⟩
  · obtain ⟨b', cap', h1, h2, h3, h5⟩ := (hrows i hi).at
    refine ⟨b', cap', ?_, h2, h3, h5⟩
    refine (hcell i _ ?_).1
    rw [List.getElem?_append_left (by omega), List.getElem?_eq_getElem (by omega), ← h1, List.getD_eq_getElem?_getD, List.getElem?_eq_getElem (show i < V.length by omega)]
    rfl
  · exact hmk.cell 0 (by simp)
theorem LentB.old {lo : Nat} {w w' : World} {v : Value} {B : List (List Int)} (h : LentB lo w v B) (o : Old w w') : LentB lo w' v B := by
  obtain ⟨g, c, V, b, hv, hown, hrows, hmk⟩ := h
  exact ⟨g, c, V, b, hv, own_old hown o, fun i hi => (hrows i hi).frm o (fun b e => e.elim), hmk.frm o (fun h => h)⟩
theorem LentB.bids {lo : Nat} {w : World} {g c : Nat} {B : List (List Int)} (h : LentB lo w (.slice (some ⟨g, 0, none⟩) B.length c) B) : BidsC w (some ⟨g, 0, none⟩) B := fun i hi => by
  obtain ⟨g', c', e, -, -, -, hr, -⟩ := h.at
  simp only [Value.slice.injEq, Option.some.injEq, Addr.mk.injEq, and_true, true_and] at e
  obtain ⟨rfl, rfl⟩ := e
  obtain ⟨b, cap, h1, h2, h3, -⟩ := hr i hi
  exact ⟨g, 0, rfl, _, cap, by rw [Nat.zero_add]; exact h1, by omega, h3⟩

/-- Read again: in memory that only draws. -/
structure Drw (w wr : World) : Prop where
  q : ∃ q, wr = w.drewN q
theorem Drw.refl (w : World) : Drw w w := ⟨0, rfl⟩
theorem Drw.more {w wr : World} (h : Drw w wr) (n : Nat) : Drw w (wr.drewN n) := by
  obtain ⟨q, e⟩ := h.q
  exact ⟨n + q, by rw [e, drewN_add]⟩
theorem Drw.trans {a b c : World} (h : Drw a b) (k : Drw b c) : Drw a c := by
  obtain ⟨q, e⟩ := k.q
  rw [e]
  exact h.more q
theorem Drw.old {w wr : World} (h : Drw w wr) : Old w wr := by
  obtain ⟨q, e⟩ := h.q
  rw [e]
  exact (Old.refl w).drewN q

set_option maxRecDepth 100000 in
set_option maxHeartbeats 8000000 in
theorem kept_any (lo : Nat) (v : Value) (ao : Option Addr) (cp : Nat) (B : List (List Int)) (w : World) (hM : LentB lo w v B) (hC : BidsC w ao B) (hl : B.length ≤ 1000) (hll : ∀ i, i < B.length → (bd B i).length ≤ 1000) :
    Calls Try.prog 15 #[v, .slice ao B.length cp] w fun e w' => e = .returned (.bool true) ∧ ∃ q, w' = w.drewN q := by
  have kM := hid hM
  have kC := hid hC
  have kll := hid hll
  obtain ⟨g, c, rfl, hc1, -, -, -, bm, hm1, hm2⟩ := hM.at
  clear hC hM hll
  go_enter Try.func15, Try.ntmps15
  go_wp2_with fail
  go_loopw [5] (fun t wr => ∃ k : Nat, k ≤ B.length ∧ t = .int .i64 (k : Int) ∧ Hid (Drw w wr)) (fun t _ => B.length - (intOf t).toNat)
  case atStart => exact ⟨0, Nat.zero_le _, rfl, hid (Drw.refl w)⟩
  case round =>
    obtain ⟨k, hk, rfl, hq⟩ := hrel
    by_cases hlt : k < B.length
    · have hlt' : (k : Int) < (B.length : Int) := by omega
      obtain ⟨gl, ol, rfl, al, cl, l1, hcl, hnl⟩ := (kC.out.old hq.out.old) k hlt
      obtain ⟨g', c', e, -, -, -, hr, -⟩ := (kM.out.old hq.out.old).at
      simp only [Value.slice.injEq, Option.some.injEq, Addr.mk.injEq, and_true, true_and] at e
      obtain ⟨rfl, rfl⟩ := e
      obtain ⟨b, cap, m1, hcap, hnm, hmk⟩ := hr k hlt
      have hrl := kll.out k hlt
      generalize bd B k = L at *
      obtain ⟨s, hs0⟩ : ∃ s : Nat, s = L.length + 1 := ⟨_, rfl⟩
      have hs : (L.length : Int) + 1 = (s : Int) := by omega
      have hsc : s ≤ cap := by omega
      have hsc' : (s : Int) ≤ (cap : Int) := by omega
      have hls : (L.length : Int) < (s : Int) := by omega
      have hls2 : L.length < s := by omega
      have hne : ((L.length : Int) != (L.length : Int)) = false := by simp
      have kl := hid hnl
      have km := hid hnm
      clear hr hnl hnm hs0
      go_wp2_with fail
      go_quiet (fail)
      have hq2 := hid (hq.out.more nq)
      have oq : Old wr (wr.drewN nq) := (Old.refl wr).drewN nq
      have kl2 := hid (kl.out.old oq)
      have km2 := hid (km.out.old oq)
      have l1 := oq.cell l1
      have m1 := oq.cell m1
      generalize wr.drewN nq = wq at *
      clear kl km oq hmk
      go_wp2_with fail
      go_loopw [6] (fun t wr => ∃ p : Nat, p ≤ L.length ∧ t = .int .i64 (p : Int) ∧ Hid (Drw wq wr)) (fun t _ => L.length - (intOf t).toNat)
      case atStart => exact ⟨0, Nat.zero_le _, rfl, hid (Drw.refl wq)⟩
      case round =>
        obtain ⟨p, hp, rfl, hq3⟩ := hrel
        have l1 := hq3.out.old.cell l1
        have m1 := hq3.out.old.cell m1
        by_cases hlt2 : p < L.length
        · have hlt2' : (p : Int) < (L.length : Int) := by omega
          obtain ⟨ga, oa, rfl, c1⟩ := nums_at (kl2.out.old hq3.out.old) hlt2
          obtain ⟨gb, ob, e0, c2⟩ := nums_at (km2.out.old hq3.out.old) hlt2
          simp only [Option.some.injEq, Addr.mk.injEq, and_true] at e0
          obtain ⟨rfl, rfl⟩ := e0
          rw [Nat.zero_add] at c2
          generalize ct L p = x at *
          have hx : (x != x) = false := by simp
          go_wp2_with fail
          go_quiet (fail)
          have hq4 := hid (hq3.out.more nq)
          generalize World.drewN _ nq = wq2 at *
          go_wp2_with fail
          go_roundw
          case rel => exact ⟨p + 1, by omega, by go_num, hq4⟩
          case measure => simp [intOf]; omega
        · obtain rfl : p = L.length := by omega
          have hlt2' : ¬ (L.length : Int) < (L.length : Int) := by omega
          have hfin := hid (hq2.out.trans hq3.out)
          go_wp2_with fail
          go_roundw
          case rel => exact ⟨k + 1, by omega, by go_num, hfin⟩
          case measure => simp [intOf]; omega
    · obtain rfl : k = B.length := by omega
      have hlt' : ¬ (B.length : Int) < (B.length : Int) := by omega
      have n1 := hq.out.old.cell hm1
      have n2 := hq.out.old.cell hm2
      obtain ⟨s, hs0⟩ : ∃ s : Nat, s = B.length + 1 := ⟨_, rfl⟩
      have hs : (B.length : Int) + 1 = (s : Int) := by omega
      have hsc' : (s : Int) ≤ (c : Int) := by omega
      have hls : (B.length : Int) < (s : Int) := by omega
      clear hs0
      go_wp2_with fail
      go_ret
      exact ⟨rfl, hq.out.q⟩
end Go.Proofs.Ytafaodlmohfenaa
