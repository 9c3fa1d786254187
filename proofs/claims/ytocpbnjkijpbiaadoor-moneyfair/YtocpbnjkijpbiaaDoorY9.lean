/- MoneyFair, whatever comes in. -/
import Derived.Test.YtocpbnjkijpbiaaDoorY8
import Derived.ChangeSame
import Derived.Laws.Cover2
namespace Go.Proofs.YtocpbnjkijpbiaaDoor
open Go.RowKit Go.Lib

theorem part_all (c : Nat) (hc : c ≤ 1099511627776) (r : Nat) (hr : r < 18446744073709551616) : ∃ v e : Int, ((e == 0) = false ∨ (e = 0 ∧ (r ≤ 4607182418800017408 ∨ r = 9223372036854775808) ∧ ∃ V : Nat, v = V ∧ PartV c r V)) ∧
    ∀ w, Calls Tryd.prog 9 #[.int .i64 (c : Int), .float .f64 r] w fun e' w' => e' = .returned (.tuple #[.int .i64 v, .int .i64 e]) ∧ w' = w := by
  rcases Classical.em (r ≤ 4607182418800017408 ∨ r = 9223372036854775808) with h | h
  · obtain ⟨d, hd⟩ : ∃ d, d + pE r = 1075 := ⟨1075 - pE r, by have := pE_le h; omega⟩
    refine ⟨(rhe (c * pM r) (2 ^ d) : Nat), 0, Or.inr ⟨rfl, h, _, rfl, d, hd, rfl⟩, fun w => ?_⟩
    refine (part_good c r w hc h).mono ?_
    rintro e w' ⟨v, rfl, ⟨d', hd', rfl⟩, rfl⟩
    obtain rfl : d = d' := by omega
    exact ⟨rfl, rfl⟩
  · refine ⟨0, 2, Or.inl rfl, fun w => ?_⟩
    exact part_bad (c : Int) r w hr (fun hh => h hh.2)

theorem moneyFair_small (c : Nat) (hc : c ≤ 1099511627776) (ao : Option Addr) (cap : Nat) (L : List Int) (r0 r1 : Nat) (w : World) (ha : NumsC .i64 w ao L) (hl : L.length ≤ 300) (hr0 : r0 < 18446744073709551616) (hr1 : r1 < 18446744073709551616) :
    Calls Tryd.prog 3 #[.int .i64 (c : Int), .slice ao L.length cap, .agg #[.float .f64 r0, .float .f64 r1]] w fun e w' => e = .returned (.bool true) ∧ Old w w' := by
  obtain ⟨v0, e0, hv0, hP0⟩ := part_all c hc r0 hr0
  obtain ⟨v1, e1, hv1, hP1⟩ := part_all c hc r1 hr1
  have hR : ∀ w', Old w w' → Reads w' ao L.length (fun i => L.getD i 0) := fun w' h => reads_of (ha.old h)
  have hSh : ∀ w1, Old w w1 → Calls Tryd.prog 6 #[.int .i64 (c : Int), .slice ao L.length cap] w1 fun e w' => ∃ bo m cb k, e = .returned (.tuple #[.slice bo m cb, .int .i64 k]) ∧ ((k = 2) ∨ (k = 0 ∧ Calls Tryd.prog 8 #[.int .i64 (c : Int), .slice ao L.length cap, .slice bo m cb] w' fun e w'' => e = .returned (.bool true) ∧ Old w' w'')) ∧ Old w1 w' := by
    intro w1 h1
    refine (share_all c ao cap L w1 (ha.old h1) hl).mono ?_
    rintro e w' ⟨bo, m, cb, k, rfl, hk, h2⟩
    refine ⟨bo, m, cb, k, rfl, ?_, h2⟩
    rcases hk with hk | ⟨hk, rfl, hok, out, hS, hn⟩
    · exact Or.inl hk
    · exact Or.inr ⟨hk, fair_of c ao bo cap cb L out w' hl hok hS (ha.old (h1.trans h2)) hn⟩
  have hM := fun w1 (h1 : Old w w1) => mean_all ao cap L w1 (ha.old h1) hl
  have hPa : ∀ w, Calls Tryd.prog 9 #[.int .i64 (c : Int), .float .f64 4607182418800017408] w fun e w' => e = .returned (.tuple #[.int .i64 (c : Int), .int .i64 0]) ∧ w' = w := by
    intro w
    refine (part_good c 4607182418800017408 w hc (Or.inl (Nat.le_refl _))).mono ?_
    rintro e w' ⟨v, rfl, hv, rfl⟩
    rw [part_one hv]
    exact ⟨rfl, rfl⟩
  have hPn : ∀ w, Calls Tryd.prog 9 #[.int .i64 (c : Int), .float .f64 9223372036854775808] w fun e w' => e = .returned (.tuple #[.int .i64 0, .int .i64 0]) ∧ w' = w := by
    intro w
    refine (part_good c 9223372036854775808 w hc (Or.inr rfl)).mono ?_
    rintro e w' ⟨v, rfl, hv, rfl⟩
    rw [part_none hv]
    exact ⟨rfl, rfl⟩
  have hWh : ∀ w, Calls Tryd.prog 11 #[.float .f64 (floatOfInt .f64 (c : Int))] w fun e w' => e = .returned (.tuple #[.int .i64 (c : Int), .int .i64 0]) ∧ w' = w := by
    intro w
    have hw := whole_word hc
    have h := whole_good (Ieee.double.nearest false c 0) w (Or.inl hw)
    rw [whole_back hc hw] at h
    rw [ofInt_nat]
    exact h
  rcases hv0 with g1 | ⟨g1, ok0, V0, hV0, pv0⟩
  · exact fair_core1 c r0 r1 v0 v1 e0 e1 ao cap L.length _ w (by omega) (by omega) hl g1 hR hSh hM hP0 hP1 hPa hPn hWh
  · rcases hv1 with g2 | ⟨g2, ok1, V1, hV1, pv1⟩
    · exact fair_core2 c r0 r1 v0 v1 e0 e1 ao cap L.length _ w (by omega) (by omega) hl g1 g2 hR hSh hM hP0 hP1 hPa hPn hWh
    · cases hle : leB r0 r1
      · exact fair_core3 c r0 r1 v0 v1 e0 e1 ao cap L.length _ w (by omega) (by omega) hl g1 g2 hle hR hSh hM hP0 hP1 hPa hPn hWh
      · have := part_le ok0 ok1 pv0 pv1 hle
        exact fair_core4 c r0 r1 v0 v1 e0 e1 ao cap L.length _ w (by omega) (by omega) hl g1 g2 hle (by omega) hR hSh hM hP0 hP1 hPa hPn hWh

set_option maxRecDepth 100000 in
set_option maxHeartbeats 4000000 in
theorem moneyFair_great (c : Int) (ao : Option Addr) (n cap r0 r1 : Nat) (w : World) (hl : 300 < n) (hl2 : n ≤ 9223372036854775807) :
    Calls Tryd.prog 3 #[.int .i64 c, .slice ao n cap, .agg #[.float .f64 r0, .float .f64 r1]] w fun e w' => e = .returned (.bool true) ∧ Old w w' := by
  have hW := hid works_any
  have hd : decide (300 < (n : Int)) = true := by simp; omega
  go_enter Tryd.func3, Tryd.ntmps3
  go_wp2_with fail
  refine (hW.out _).mono ?_
  rintro e w2 ⟨rfl, h2⟩
  have h2' := hid (((Old.refl w).alloc _).trans h2)
  clear h2
  go_wp2
  go_ret
  exact ⟨rfl, h2'.out⟩

set_option maxRecDepth 100000 in
set_option maxHeartbeats 4000000 in
theorem moneyFair_not (c : Int) (ao : Option Addr) (n cap r0 r1 : Nat) (w : World) (hl : n ≤ 300) (hc : areB c = false) :
    Calls Tryd.prog 3 #[.int .i64 c, .slice ao n cap, .agg #[.float .f64 r0, .float .f64 r1]] w fun e w' => e = .returned (.bool true) ∧ Old w w' := by
  have hW := hid works_any
  have kA := hid (fun w => refAre_any c w)
  rw [hc] at kA
  have hd : decide (300 < (n : Int)) = false := by simp; omega
  go_enter Tryd.func3, Tryd.ntmps3
  go_wp2_with fail
  refine (kA.out _).mono ?_
  rintro e w3 ⟨rfl, e3⟩
  rw [e3]
  clear e3 w3
  go_wp2_with fail
  refine (hW.out _).mono ?_
  rintro e w2 ⟨rfl, h2⟩
  have h2' := hid (((Old.refl w).alloc _).trans h2)
  clear h2
  go_wp2
  go_ret
  exact ⟨rfl, h2'.out⟩

theorem moneyFair_any (c : Int) (ao : Option Addr) (cap : Nat) (L : List Int) (n r0 r1 : Nat) (hn : L.length = n) (w : World) (ha : NumsC .i64 w ao L) (hl : n ≤ 9223372036854775807) (hr0 : r0 < 18446744073709551616) (hr1 : r1 < 18446744073709551616) :
    Calls Tryd.prog 3 #[.int .i64 c, .slice ao n cap, .agg #[.float .f64 r0, .float .f64 r1]] w fun e w' => e = .returned (.bool true) ∧ Below w.heap.size w w' := by
  subst hn
  by_cases h : L.length ≤ 300
  · cases hc : areB c
    · exact (moneyFair_not c ao L.length cap r0 r1 w h hc).mono fun _ _ ⟨he, ho⟩ => ⟨he, ho.below⟩
    · have hb := areB_iff.1 hc
      obtain ⟨C, rfl⟩ := Int.eq_ofNat_of_zero_le hb.1
      exact (moneyFair_small C (by omega) ao cap L r0 r1 w ha h hr0 hr1).mono fun _ _ ⟨he, ho⟩ => ⟨he, ho.below⟩
  · exact (moneyFair_great c ao L.length cap r0 r1 w (by omega) hl).mono fun _ _ ⟨he, ho⟩ => ⟨he, ho.below⟩

/-- A cell that reads as a real number. -/
theorem float_cell {H : Type} {enc : TypeId × Value → H} {W : World} {n : Nat} {v : Value} {y : DataW H × List MemPlace} (h : DataW.trod enc Tryd.prog W 0 (fun _ => true) true n 23 [v] = some y) : ∃ r, v = .float .f64 r ∧ r < 18446744073709551616 := by
  cases n with
  | zero => simp [DataW.trod] at h
  | succ n =>
    rw [DataW.trod_step] at h
    unfold DataW.trodStep at h
    simp only [Tryd.underlying23] at h
    cases v <;> simp at h
    rename_i k b
    obtain ⟨h1, h2⟩ := h
    exact ⟨b, by simp_all, by simp_all [Lit.wf]⟩

theorem cells_rates : Tryd.prog.cellsOf 24 = 2 := by kernel_rfl
theorem cells_rate : Tryd.prog.cellsOf 23 = 1 := by kernel_rfl

theorem two_cells {α : Type} {cs : Array α} (h : cs.size = 2) : ∃ c0 c1, cs = #[c0, c1] := by
  obtain ⟨l⟩ := cs
  match l, h with
  | [c0, c1], _ => exact ⟨c0, c1, rfl⟩

set_option maxRecDepth 100000 in
/-- Two real numbers that came in. -/
theorem open_rates {H : Type} {enc : TypeId × Value → H} {W : World} {r : Reach} {b0 : Nat} {v : Value} {d : DataW H} {p : List MemPlace} (hv : Value.okWide Tryd.prog W r b0 24 v) (h : DataW.Trod enc Tryd.prog W 0 (fun _ => true) true 24 v d p) :
    ∃ r0 r1, v = .agg #[.float .f64 r0, .float .f64 r1] ∧ r0 < 18446744073709551616 ∧ r1 < 18446744073709551616 := by
  simp only [Value.okWide, Tryd.underlying24] at hv
  obtain ⟨cs, rfl, hsz, _⟩ := hv
  rw [cells_rates] at hsz
  obtain ⟨c0, c1, rfl⟩ := two_cells hsz
  obtain ⟨fuel, hf⟩ := h
  cases fuel with
  | zero => simp [DataW.trod] at hf
  | succ m =>
    rw [DataW.trod_step] at hf
    unfold DataW.trodStep at hf
    simp only [Tryd.underlying24, Value.cells] at hf
    rw [if_pos (by rw [cells_rates]; rfl)] at hf
    simp only [Option.map_eq_some_iff, cells_rate] at hf
    obtain ⟨ys, hy, e1⟩ := hf
    rw [show List.range 2 = [0, 1] from rfl, List.mapM_cons, List.mapM_cons] at hy
    simp only [bind, Option.bind_eq_some_iff] at hy
    obtain ⟨y0, h0, z, ⟨y1, h1, _⟩, _⟩ := hy
    obtain ⟨r0, rfl, w0⟩ := float_cell (v := c0) (by simpa using h0)
    obtain ⟨r1, rfl, w1⟩ := float_cell (v := c1) (by simpa using h1)
    exact ⟨r0, r1, rfl, w0, w1⟩
end Go.Proofs.YtocpbnjkijpbiaaDoor
