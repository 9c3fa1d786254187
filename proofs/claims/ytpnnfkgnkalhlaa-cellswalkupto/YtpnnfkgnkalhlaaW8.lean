/- Answers' lists, whichever; both Walks, refused or not; a list of picks with its mark. -/
import Derived.Test.YtpnnfkgnkalhlaaJ17
import Derived.Laws.AppendOwnNone
namespace Go.Proofs.Ytpnnfkgnkalhlaa
open Go.RowKit Go.Lib Go.Maps

/-- Answers' lists of which each is one's own, in new memory. -/
def AnsU (w : World) (lo : Nat) (ao : Option Addr) (N : Nat) (F : Nat → List (Int × Bool × Int)) : Prop := ∀ j, j < N → ∃ ab v, ao = some ⟨ab, 0, none⟩ ∧ lo ≤ ab ∧ w.cell? ⟨ab, j, none⟩ = some v ∧ w.ownsRow lo 52 3 v (F j).length (flatA (F j))
theorem AnsU.frm {w w' : World} {lo N : Nat} {ao : Option Addr} {F : Nat → List (Int × Bool × Int)} {S : Nat → Prop} (h : AnsU w lo ao N F) (f : Frm S w w') (hS : ∀ k, k < w.heap.size → S k → k < lo) : AnsU w' lo ao N F := fun j hj => by
  obtain ⟨ab, v, h1, h2, h3, h4⟩ := h j hj
  have hl : ab < w.heap.size := World.block_lt_of_cell? w _ h3
  refine ⟨ab, v, h1, h2, frm_cell f h3 (fun e => by have := hS _ hl e; omega), owns_frm h4 f (fun k hk e => ?_)⟩
  have := h4.lt k hk
  have := hS k this.2 e
  omega
theorem AnsU.old {w w' : World} {lo N : Nat} {ao : Option Addr} {F : Nat → List (Int × Bool × Int)} (h : AnsU w lo ao N F) (o : Old w w') : AnsU w' lo ao N F := h.frm o (fun _ _ e => e.elim)
theorem AnsU.low {w : World} {lo lo' N : Nat} {ao : Option Addr} {F : Nat → List (Int × Bool × Int)} (h : AnsU w lo ao N F) (hl : lo' ≤ lo) : AnsU w lo' ao N F := fun j hj => by
  obtain ⟨ab, v, h1, h2, h3, h4⟩ := h j hj
  exact ⟨ab, v, h1, by omega, h3, owns_mono h4 hl⟩

/-- Answers' lists, to be read. -/
def AnsD (w : World) (ao : Option Addr) (N : Nat) (F : Nat → List (Int × Bool × Int)) : Prop := ∀ j, j < N → ∃ ab ro c, ao = some ⟨ab, 0, none⟩ ∧ w.cell? ⟨ab, j, none⟩ = some (.slice ro (F j).length c) ∧ ∀ k, k < (F j).length → ∃ g, ro = some ⟨g, 0, none⟩ ∧
    w.cell? ⟨g, k * 3, none⟩ = some (.int .i64 ((F j)[k]?.getD (0, false, 0)).1) ∧ w.cell? ⟨g, k * 3 + 1, none⟩ = some (.bool ((F j)[k]?.getD (0, false, 0)).2.1) ∧ w.cell? ⟨g, k * 3 + 2, none⟩ = some (.int .i64 ((F j)[k]?.getD (0, false, 0)).2.2)
theorem AnsU.d {w : World} {lo N : Nat} {ao : Option Addr} {F : Nat → List (Int × Bool × Int)} (h : AnsU w lo ao N F) : AnsD w ao N F := fun j hj => by
  obtain ⟨ab, v, h1, h2, h3, h4⟩ := h j hj
  have hh : ∀ i, i < j + 1 → ∃ v, w.cell? ⟨ab, i, none⟩ = some v ∧ w.ownsRow lo 52 3 v (F i).length (flatA (F i)) := fun i hi => by
    obtain ⟨ab', v', k1, k2, k3, k4⟩ := h i (by omega)
    rw [h1] at k1
    simp only [Option.some.injEq, Addr.mk.injEq, and_true] at k1
    subst k1
    exact ⟨v', k3, k4⟩
  obtain ⟨ro, c, e1, e2⟩ := ans_of (F := F) hh j (by omega)
  refine ⟨ab, ro, c, h1, e1, fun k hk => ?_⟩
  obtain ⟨g, k1, k2, k3, k4, k5⟩ := e2 k hk
  exact ⟨g, k1, k3, k4, k5⟩

set_option maxRecDepth 100000 in
set_option maxHeartbeats 8000000 in
theorem same_lists (ao bo : Option Addr) (n ca cb : Nat) (F : Nat → List (Int × Bool × Int)) (w : World) (ha : AnsD w ao n F) (hb : AnsD w bo n F) (hn : n ≤ 64) (hll : ∀ j, j < n → (F j).length ≤ 1000000000000) :
    Calls Try.prog 23 #[.slice ao n ca, .slice bo n cb] w fun e w' => e = .returned (.bool true) ∧ Old w w' := by
  have kA := hid ha
  have kB := hid hb
  have kll := hid hll
  clear ha hb hll
  have hne : ((n : Int) != (n : Int)) = false := by simp
  go_enter Try.func23, Try.ntmps23
  go_wp2_with fail
  go_loopw [5] (fun t wr => ∃ k : Nat, k ≤ n ∧ t = .int .i64 (k : Int) ∧ Hid (Old w wr)) (fun t _ => n - (intOf t).toNat)
  case atStart => exact ⟨0, Nat.zero_le _, rfl, hid (Old.refl w)⟩
  case round =>
    obtain ⟨k, hk, rfl, hq⟩ := hrel
    by_cases hlt : k < n
    · have hlt' : (k : Int) < (n : Int) := by omega
      obtain ⟨a, ra, ka, rfl, l1, xa⟩ := kA.out k hlt
      obtain ⟨b, rb, kb, rfl, m1, xb⟩ := kB.out k hlt
      have hrl := kll.out k hlt
      replace l1 := hq.out.cell l1
      replace m1 := hq.out.cell m1
      generalize F k = L at *
      obtain ⟨z, hz⟩ : ∃ z, L.length = z := ⟨_, rfl⟩
      rw [hz] at l1 m1 hrl
      have kz := hid hz
      have kxa := hid xa
      have kxb := hid xb
      have hnz : ((z : Int) != (z : Int)) = false := by simp
      clear xa xb hz
      go_wp2_with fail
      go_region
      have hq2 : Hid (Old w wr.drew) := hq.out.drewN 1
      have o2 : Old wr wr.drew := (Old.refl wr).drewN 1
      replace l1 := o2.cell l1
      replace m1 := o2.cell m1
      clear o2
      generalize wr.drew = wd at *
      go_wp2_with fail
      go_loopw [6] (fun t wz => ∃ p : Nat, p ≤ z ∧ t = .int .i64 (p : Int) ∧ Hid (Old wd wz)) (fun t _ => z - (intOf t).toNat)
      case atStart => exact ⟨0, Nat.zero_le _, rfl, hid (Old.refl wd)⟩
      case round =>
        obtain ⟨p, hp, rfl, hq3⟩ := hrel
        have l1 := hq3.out.cell l1
        have m1 := hq3.out.cell m1
        by_cases hlt2 : p < z
        · have hlt2' : (p : Int) < (z : Int) := by omega
          obtain ⟨ga, rfl, a0, a1, a2⟩ := kxa.out p (by rw [kz.out]; exact hlt2)
          obtain ⟨gb, rfl, b0, b1, b2⟩ := kxb.out p (by rw [kz.out]; exact hlt2)
          have o9 := hq2.out.trans hq3.out
          replace a0 := o9.cell a0
          replace a1 := o9.cell a1
          replace a2 := o9.cell a2
          replace b0 := o9.cell b0
          replace b1 := o9.cell b1
          replace b2 := o9.cell b2
          clear o9
          generalize (L[p]?.getD (0, false, 0)).1 = x at *
          generalize (L[p]?.getD (0, false, 0)).2.1 = y at *
          generalize (L[p]?.getD (0, false, 0)).2.2 = u at *
          have hx : (x == x) = true := by simp
          have hy : (y == y) = true := by simp
          have hu : (u == u) = true := by simp
          go_wp2_with fail
          go_region
          have hq4 := hid (hq3.out.drewN 1)
          go_wp2_with fail
          go_roundw
          case rel => exact ⟨p + 1, by omega, by go_num, hq4⟩
          case measure => simp [intOf]; omega
        · obtain rfl : p = z := by omega
          have hlt2' : ¬ (p : Int) < (p : Int) := by omega
          have hfin := hid (hq2.out.trans hq3.out)
          go_wp2_with fail
          go_roundw
          case rel => exact ⟨k + 1, by omega, by go_num, hfin⟩
          case measure => simp [intOf]; omega
    · obtain rfl : k = n := by omega
      have hlt' : ¬ (k : Int) < (k : Int) := by omega
      go_wp2_with fail
      go_ret
      exact ⟨rfl, hq.out⟩

/-- What both Walks answer: refused or not. -/
theorem walks_any (mk gt ts : Int) (n m : Nat) (O : List (List (Int × Int))) (P : List Int) (hn : O.length = n) (hm : P.length = m) (ht2 : ts ≤ 9223372036854775807) (hmm : m ≤ 1000000000000) (hol : ∀ j : Nat, (O[j]?.getD []).length ≤ 1000000000000) :
    ∃ (N : Nat) (F : Nat → List (Int × Bool × Int)) (e0 e1 e2 e3 : Int) (e4 : Bool) (e5 : Int) (e6 : Bool) (e7 er : Int), N ≤ 64 ∧ (∀ j, (F j).length ≤ 1000000000000) ∧
      (∀ (W : World) (oa pa : Option Addr) (co cp : Nat), OpsC W oa O → NumsC .i64 W pa P → Calls Try.prog 21 #[.agg #[.int .i64 mk, .int .i64 gt, .int .i64 ts], .slice oa n co, .slice pa m cp] W fun e w' => ∃ ao, e = .returned (.tuple #[.slice ao N N, .agg #[.int .i64 e0, .int .i64 e1, .int .i64 e2, .int .i64 e3, .bool e4, .int .i64 e5, .bool e6, .int .i64 e7], .int .i64 er]) ∧ Old W w' ∧ AnsU w' W.heap.size ao N F) ∧
      (∀ (W : World) (oa pa : Option Addr) (co cp : Nat), OpsC W oa O → NumsC .i64 W pa P → Calls Try.prog 22 #[.agg #[.int .i64 mk, .int .i64 gt, .int .i64 ts], .slice oa n co, .slice pa m cp] W fun e w' => ∃ ao, e = .returned (.tuple #[.slice ao N N, .agg #[.int .i64 e0, .int .i64 e1, .int .i64 e2, .int .i64 e3, .bool e4, .int .i64 e5, .bool e6, .int .i64 e7], .int .i64 er]) ∧ Old W w' ∧ AnsU w' W.heap.size ao N F) := by
  by_cases hbad : ((n : Int) < 1 ∨ 64 < (n : Int)) ∨ gt < 1 ∨ ts < 0
  · refine ⟨0, fun _ => [], 0, 0, 0, 0, false, 0, false, 0, 2, by omega, fun j => by simp, fun W oa pa co cp _ _ => ?_, fun W oa pa co cp _ _ => ?_⟩
    · refine (walk_bad mk gt ts oa pa n co m cp W hbad).mono ?_
      rintro e w' ⟨rfl, o⟩
      exact ⟨none, rfl, o, fun j hj => by omega⟩
    · refine (dwalk_bad mk gt ts oa pa n co m cp W hbad).mono ?_
      rintro e w' ⟨rfl, o⟩
      exact ⟨none, rfl, o, fun j hj => by omega⟩
  · have h1 : 1 ≤ n := by omega
    have h2 : n ≤ 64 := by omega
    have hg : 1 ≤ gt := by omega
    have ht : 0 ≤ ts := by omega
    obtain ⟨e0, e1, e2, e3, e4, e5, e6, e7, he⟩ : ∃ (e0 e1 e2 e3 : Int) (e4 : Bool) (e5 : Int) (e6 : Bool) (e7 : Int), endV (walkTo O P (walk0 mk gt ts n) m).s = .agg #[.int .i64 e0, .int .i64 e1, .int .i64 e2, .int .i64 e3, .bool e4, .int .i64 e5, .bool e6, .int .i64 e7] := ⟨_, _, _, _, _, _, _, _, rfl⟩
    refine ⟨n, fun j => (walkTo O P (walk0 mk gt ts n) m).out j, e0, e1, e2, e3, e4, e5, e6, e7, 0, h2, fun j => ?_, fun W oa pa co cp hO hP => ?_, fun W oa pa co cp hO hP => ?_⟩
    · have := (walkTo_le (O := O) (P := P) (W := walk0 mk gt ts n) (fun _ => rfl) m j).1
      dsimp only
      omega
    · refine (walk_good mk gt ts oa pa n co m cp O P W hO hn hP hm h1 h2 hg ht ht2 hmm hol).mono ?_
      rintro e w' ⟨ab, rfl, o, hl, hr⟩
      refine ⟨some ⟨ab, 0, none⟩, by rw [he], o, fun j hj => ?_⟩
      obtain ⟨v, h3, h4⟩ := hr j hj
      exact ⟨ab, v, rfl, hl, h3, h4⟩
    · refine (dwalk_good mk gt ts oa pa n co m cp O P W hO hn hP hm h1 h2 hg ht ht2 hmm hol).mono ?_
      rintro e w' ⟨ab, rfl, o, hl, hr⟩
      refine ⟨some ⟨ab, 0, none⟩, by rw [he], o, fun j hj => ?_⟩
      obtain ⟨v, h3, h4⟩ := hr j hj
      exact ⟨ab, v, rfl, hl, h3, h4⟩

theorem parts_i : ∃ i, Try.prog.info? 3 = some i ∧ i.zero = some (.int .i64 0) ∧ i.size = 1 ∧ i.bytes = 8 := by
  have h : (Try.prog.info? 3).map (fun i => (i.zero, i.bytes, i.size)) = some (some (.int .i64 0), 8, 1) := by kernel_rfl
  obtain ⟨i, hi, h2⟩ := Option.map_eq_some_iff.1 h
  simp only [Prod.mk.injEq] at h2
  exact ⟨i, hi, h2.1, h2.2.2, h2.2.1⟩
theorem num_cells {w : World} {ad : Addr} {L : List Int} (h : NumsC .i64 w (some ad) L) (j : Nat) (u : Value) (hu : (L.map (Value.int .i64))[j]? = some u) : w.cell? (ad.add j) = some u := by
  have hj : j < L.length := by
    have := (List.getElem?_eq_some_iff.1 hu).1
    simpa using this
  obtain ⟨g, o, e, hc⟩ := h j hj
  obtain rfl : ad = ⟨g, o, none⟩ := by simpa using e
  rw [Addr.add_lit, hc]
  simpa [hj] using hu
theorem ints_one (L : List Int) : ∀ u ∈ L.map (Value.int .i64), u.oneCell' = true := fun u hu => by
  obtain ⟨x, -, rfl⟩ := List.mem_map.1 hu
  rfl
theorem nums_none {w : World} {L : List Int} (h : NumsC .i64 w none L) : L = [] := by
  cases L with
  | nil => rfl
  | cons x L =>
    obtain ⟨g, o, e, _⟩ := h 0 (by simp)
    cases e
/-- Numbers, or none, behind a row that one owns. -/
theorem wpAppI {ops : Array Oper} {rest : List Oper} {o : Oper} {a : Act} {Q : Exit → Act → World → Prop} {w : World} (hgd : o.guard = none) (s x : Operand) (ho : o.op = .call { callee := .builtin .append, args := #[s, x], argTypes := #[68, 68] })
    (B : Nat) (v : Value) (xo : Option Addr) (c2 : Nat) (L1 L2 : List Int) (hs : a.eval s = v) (hx : a.eval x = .slice xo L2.length c2) (hn : xo = none → c2 = 0) (hown : w.ownsRow B 3 1 v L1.length (L1.map (Value.int .i64))) (hN : NumsC .i64 w xo L2) (hl : L1.length + L2.length ≤ 3000000) (hB : B ≤ w.heap.size)
    (h : ∀ v' w', w'.ownsRow B 3 1 v' (L1 ++ L2).length ((L1 ++ L2).map (Value.int .i64)) → w.grownBy w' v.ownBlock → wpList Try.prog ops Q rest (a.put o.dst v') w') : wpList Try.prog ops Q (o :: rest) a w := by
  obtain ⟨i3, hi, hz0, hz1, hz2⟩ := parts_i
  cases xo with
  | none =>
    obtain rfl := nums_none hN
    rw [hn rfl] at hx
    refine wpList_append_own_none hgd s x 68 ho B 3 i3 1 Try.underlying68 hi v L1.length (L1.map (Value.int .i64)) hs hown hx ?_
    exact h v w (by simpa using hown) ⟨rfl, rfl, rfl, Nat.le_refl _, fun _ _ _ => rfl⟩
  | some ad =>
    exact wpList_append_own _ hgd s x 68 ho B 3 i3 _ 1 8 Try.underlying68 hi hz0 hz1 hz2 rfl (by omega) v L1.length (L1.map (Value.int .i64)) hs hown ad L2.length c2 (L2.map (Value.int .i64)) hx (by simp) (num_cells hN) (ints_one L2) (by unfold maxLen; omega) (by omega) hB (fun v' w' h8 h9 _ => h v' w' (by rw [List.length_append, List.map_append]; exact h8) h9)
theorem own_ints {w : World} {B : Nat} {v : Value} {L : List Int} {m : Int} (h : w.ownsRow B 3 1 v (L ++ [m]).length ((L ++ [m]).map (Value.int .i64))) : ∃ b cap, v = .slice (some ⟨b, 0, none⟩) (L.length + 1) cap ∧ L.length + 1 ≤ cap ∧ B ≤ b ∧ NumsC .i64 w (some ⟨b, 0, none⟩) L ∧ w.cell? ⟨b, L.length, none⟩ = some (.int .i64 m) := by
  rcases h.2 with ⟨rfl, h0⟩ | ⟨g, cap, cur, rfl, h3, h4, h5, h6, h7, h8⟩
  · simp at h0
  · have hc : ∀ i (hi : i < (L ++ [m]).length), w.cell? ⟨g, i, none⟩ = some (.int .i64 (L ++ [m])[i]) := fun i hi => by
      have g1 : (cur.toList.take ((L ++ [m]).length * 1))[i]? = ((L ++ [m]).map (Value.int .i64))[i]? := by rw [h8]
      rw [List.getElem?_take_of_lt (by omega), List.getElem?_map, List.getElem?_eq_getElem hi] at g1
      exact blk_cells h4 (by simpa using g1)
    refine ⟨g, cap, by simp, by simpa using h5, h3, fun i hi => ⟨g, 0, rfl, ?_⟩, ?_⟩
    · have := hc i (by simp; omega)
      rw [List.getElem_append_left hi] at this
      rw [Nat.zero_add]
      exact this
    · have := hc L.length (by simp)
      simpa using this
end Go.Proofs.Ytpnnfkgnkalhlaa
