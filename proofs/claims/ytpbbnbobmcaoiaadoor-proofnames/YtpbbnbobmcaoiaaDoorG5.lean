/- The lowest good, and the goods of a set, one by one. -/
import Derived.RangeFuncNested
import Derived.RangeFuncBound
import Derived.RangeFuncCalls
import Derived.RangeFuncLeaves
import Derived.RangeFuncBox
import Derived.Shelf.Abstract
import Derived.Shelf.RegionOpen
import Derived.WalkKit
import Derived.OwnWalkIn
import Derived.TacticsInMore
import Derived.LoopNIn
import Derived.LoopIn
import Derived.Test.YtpbbnbobmcaoiaaDoorG4
namespace Go.Proofs.YtpbbnbobmcaoiaaDoor
open Go.RowKit Go.Lib Go.Shelf
attribute [local go_sem] Oper.semAt_some

/-- The variables of the library that are read, as they are laid. -/
structure Tabs (w : World) : Prop where
  tz : TabAt 0 Lib.deBruijn32tab w

theorem Tabs.old {w w' : World} (h : Tabs w) (o : Old w w') : Tabs w' := ⟨fun j hj => o.cell (h.tz j hj)⟩

set_option maxRecDepth 100000 in
set_option maxHeartbeats 1000000 in
theorem tz_core (x k idx : Nat) (w : World) (hx0 : ((x : Int) == 0) = false)
    (key : bits BinOp.and IntKind.u32 (x : Int) (-(x : Int) % 4294967296) * 125613361 % 4294967296 / 134217728 = (idx : Int))
    (hi : idx < 32) (hk : k < 32) (hcell : w.cell? ⟨0, idx, none⟩ = some (.int .u8 k)) :
    Calls Tryd.prog 92 #[.int .u32 x] w fun e w' => e = .returned (.int .i64 k) ∧ w' = w := by
  go_enter Tryd.func92, Tryd.ntmps92
  go_wp2_with (simp only [key])
  go_ret
  exact ⟨rfl, rfl⟩

theorem tz_any (x : Nat) (hx0 : x ≠ 0) (hx : x < 4294967296) (w : World) (hT : TabAt 0 Lib.deBruijn32tab w) :
    Calls Tryd.prog 92 #[.int .u32 x] w fun e w' => e = .returned (.int .i64 (Lib.ctz 32 x : Nat)) ∧ w' = w := by
  obtain ⟨hlow, hk⟩ := Lib.lowest_bit 32 x hx0 hx
  obtain ⟨hi, htab⟩ := Lib.deBruijn32_at _ hk
  have hcell := hT _ hi
  rw [htab] at hcell
  exact tz_core x _ _ w (by simp; omega) (tz32_key x _ hx hx0 hlow) hi hk hcell

/-- The lowest good of a set. -/
theorem ctz_low {x : Nat} (hx0 : x ≠ 0) (hx : x < 4294967296) : x.testBit (Lib.ctz 32 x) = true ∧ (∀ j, j < Lib.ctz 32 x → x.testBit j = false) ∧ Lib.ctz 32 x < 32 := by
  obtain ⟨m, hm, hk⟩ := Lib.ctzFrom_spec 32 x (by omega) hx
  have e : Lib.ctz 32 x = Lib.ctzFrom 32 x := by simp [Lib.ctz, hx0]
  rw [e]
  generalize Lib.ctzFrom 32 x = g at *
  refine ⟨?_, fun j hj => ?_, hk⟩
  · rw [hm, Nat.mul_comm, Nat.testBit_mul_two_pow]
    simp
  · rw [hm, Nat.mul_comm, Nat.testBit_mul_two_pow]
    simp
    omega

/-- What is left of a set when its first k goods have come. -/
def rest (s k : Nat) : Nat := less s (((goodsL s).take k).foldl (fun a g => a ||| 2 ^ g) 0)

theorem fold_bit (l : List Nat) (a i : Nat) : (l.foldl (fun a g => a ||| 2 ^ g) a).testBit i = (a.testBit i || decide (i ∈ l)) := by
  induction l generalizing a with
  | nil => simp
  | cons g r ih =>
    rw [List.foldl_cons, ih, Nat.testBit_or, Nat.testBit_two_pow]
    by_cases e : g = i
    · subst e; simp
    · have : i ≠ g := fun h => e h.symm
      simp [e, this]

theorem rest_bit (s k i : Nat) (hs : s < 4294967296) : (rest s k).testBit i = (s.testBit i && !decide (i ∈ (goodsL s).take k)) := by
  rw [rest, less_bit _ _ hs, fold_bit]
  simp

theorem rest_lt (s k : Nat) : rest s k < 4294967296 := less_lt _ _

theorem rest_zero (s : Nat) (hs : s < 4294967296) : rest s 0 = s := by
  apply eq_of_bits
  intro i
  rw [rest_bit _ _ _ hs]
  simp

theorem rest_end (s : Nat) (hs : s < 4294967296) : rest s (goodsL s).length = 0 := by
  apply eq_of_bits
  intro i
  rw [rest_bit _ _ _ hs, List.take_length, Nat.zero_testBit]
  cases h : s.testBit i
  · rfl
  · have : i ∈ goodsL s := mem_goodsL.2 ⟨bit_lt hs h, h⟩
    simp [this]

theorem rest_next {s k : Nat} (hs : s < 4294967296) (hk : k < (goodsL s).length) : rest s k ≠ 0 ∧ Lib.ctz 32 (rest s k) = (goodsL s)[k] ∧ less (rest s k) (2 ^ (goodsL s)[k]) = rest s (k + 1) := by
  obtain ⟨g, hg⟩ : ∃ g, (goodsL s)[k] = g := ⟨_, rfl⟩
  have hm : s.testBit g = true := by rw [← hg]; exact (mem_goodsL.1 (List.getElem_mem hk)).2
  have hn : g ∉ (goodsL s).take k := fun hm => by
    have := goods_take_lt hk hm
    omega
  have hb : (rest s k).testBit g = true := by rw [rest_bit _ _ _ hs, hm]; simp [hn]
  have h0 : rest s k ≠ 0 := fun e => by rw [e] at hb; simp at hb
  obtain ⟨c1, c2, c3⟩ := ctz_low h0 (rest_lt s k)
  rw [hg]
  refine ⟨h0, ?_, ?_⟩
  · rcases Nat.lt_trichotomy (Lib.ctz 32 (rest s k)) g with h | h | h
    · rw [rest_bit _ _ _ hs] at c1
      cases h1 : s.testBit (Lib.ctz 32 (rest s k))
      · rw [h1] at c1; simp at c1
      · have := goods_before hs hk (by rw [hg]; exact h) h1
        rw [h1] at c1
        simp [this] at c1
    · exact h
    · rw [c2 g h] at hb
      cases hb
  · apply eq_of_bits
    intro i
    have ht : (goodsL s).take (k + 1) = (goodsL s).take k ++ [g] := by
      rw [List.take_add_one, List.getElem?_eq_getElem hk, hg]
      rfl
    rw [less_bit _ _ (rest_lt s k), rest_bit _ _ _ hs, rest_bit _ _ _ hs, ht, Nat.testBit_two_pow]
    by_cases e : g = i
    · subst e; simp
    · have : i ≠ g := fun h => e h.symm
      simp [e, this]

set_option maxRecDepth 100000 in
set_option maxHeartbeats 2000000 in
theorem each1_good (d : Nat) (hd : 1 ≤ d) (l B : Nat) (s : Nat) (hs : s < 4294967296) (T : Nat → Prop) (hT0 : ¬ T 0) (J Jx : List (Fin 32) → World → Prop)
    (hY : ∀ pre x W, J pre W → pre.length < (goodsL s).length → YieldAt Fence.wide (d - 1) Tryd.prog l #[.int .i64 (x.val : Int)] W fun e W' =>
      (e = .returned (.bool true) ∧ J (pre ++ [x]) W' ∧ Frm T W W') ∨ (e = .returned (.bool false) ∧ Jx (pre ++ [x]) W'))
    (W : World) (hB : W.cell? ⟨B, 0, none⟩ = some (.int .u32 (s : Int))) (hT : TabAt 0 Lib.deBruijn32tab W) (h0 : J [] W) :
    CallsIn Fence.wide d Tryd.prog 91 #[.func (.yield l) #[] #[], .pointer (some ⟨B, 0, none⟩)] W fun e W' => (∃ v, e = .returned v) ∧
      ((∃ ys, ys.map Fin.val = goodsL s ∧ J ys W') ∨ (∃ pre, (∃ k, k ≤ (goodsL s).length ∧ pre.map Fin.val = (goodsL s).take k) ∧ Jx pre W')) := by
  have kz := hid (rest_zero s hs)
  have ke := hid (rest_end s hs)
  refine callsIn_of_wp Tryd.func91 rfl trivial ?_ rfl
  simp only [Tryd.ntmps91, List.size_toArray, List.length_cons, List.length_nil, Nat.reduceAdd, Nat.reduceSub, Array.replicate_succ, Array.replicate_zero, List.push_toArray, List.append_toArray, List.nil_append, List.cons_append]
  gi_wp2
  gi_loopw [3] (fun v wr => ∃ k : Nat, k ≤ (goodsL s).length ∧ v = .int .u32 (rest s k : Int) ∧ (∃ p : List (Fin 32), p.map Fin.val = (goodsL s).take k ∧ J p wr) ∧ TabAt 0 Lib.deBruijn32tab wr)
    (fun v _ => (intOf v).toNat)
  case atStart => exact ⟨0, Nat.zero_le _, by rw [kz.out], ⟨[], by simp, h0⟩, hT⟩
  case round =>
    obtain ⟨k, hk, rfl, ⟨p, hp, hJs⟩, hTs⟩ := hrel
    by_cases hlt : k < (goodsL s).length
    · obtain ⟨n0, n1, n2⟩ := rest_next hs hlt
      have hrl := rest_lt s k
      have hgl := goodsL_lt (List.getElem_mem hlt)
      have kt := hid (tz_any (rest s k) n0 hrl wr hTs)
      rw [n1] at kt
      have kJ := hid hJs
      have kT := hid hTs
      have hta : Hid ((goodsL s).take (k + 1) = (goodsL s).take k ++ [(goodsL s)[k]]) := by
        show _ = _
        rw [List.take_add_one, List.getElem?_eq_getElem hlt]
        rfl
      have hpl0 : p.length = k := by
        have := congrArg List.length hp
        simp at this
        omega
      have hlen : p.length < (goodsL s).length := by omega
      have kp := hid hp
      clear hp hpl0
      have hless : Hid (bits .andNot .u32 (rest s k : Int) ((2 ^ (goodsL s)[k] : Nat) : Int) = (rest s (k + 1) : Int)) := by
        show _ = _
        rw [bits_less, n2]
      have hmeas : Hid (rest s (k + 1) < rest s k) := by
        show _ < _
        have hbit : (rest s k).testBit (goodsL s)[k] = true := by rw [← n1]; exact (ctz_low n0 hrl).1
        have hq : (less (rest s k) (2 ^ (goodsL s)[k])).testBit (goodsL s)[k] = false := by rw [less_bit _ _ hrl, Nat.testBit_two_pow]; simp
        have : rest s k = rest s (k + 1) + 2 ^ (goodsL s)[k] := by
          rw [← n2, ← or_bit hq]
          apply eq_of_bits
          intro i
          rw [Nat.testBit_or, less_bit _ _ hrl, Nat.testBit_two_pow]
          by_cases e : (goodsL s)[k] = i
          · rw [e] at hbit; simp [e, hbit]
          · simp [e]
        have := Nat.two_pow_pos (goodsL s)[k]
        omega
      have hpl := pow_lt32 hgl
      have hne : ((rest s k : Int) != 0) = true := by simp; omega
      clear hJs hTs n1 n2
      obtain ⟨g, hg⟩ : ∃ g, (goodsL s)[k] = g := ⟨_, rfl⟩
      rw [hg] at kt hta hless hgl hpl
      have hg' : (g : Int) < 32 := by omega
      clear hg
      gi_wp2_with fail
      refine ⟨trivial, ?_⟩
      refine (callsIn_wide.2 kt.out).mono ?_
      rintro e w2 ⟨rfl, e2⟩
      rw [e2]
      clear e2 w2
      obtain ⟨fn, tmps, assign, body, hy, hR⟩ := hY p ⟨g, hgl⟩ _ kJ.out hlen
      clear kt
      gi_wp2
      refine hR.mono ?_
      rintro e W3 (⟨rfl, hJ3, hb3⟩ | ⟨rfl, hJx3⟩)
      · have hT3 : Hid (TabAt 0 Lib.deBruijn32tab W3) := fun j hj => frm_cell hb3 (kT.out j hj) hT0
        have e1 : (2 : Int) ^ g % 4294967296 = ((2 ^ g : Nat) : Int) := by
          rw [show ((2 : Int) ^ g) = ((2 ^ g : Nat) : Int) by simp]
          exact Int.emod_eq_of_lt (Int.natCast_nonneg _) (Int.ofNat_lt.2 hpl)
        gi_wp2
        go_roundw
        case rel => exact ⟨k + 1, by omega, by first | rw [e1, hless.out] | rw [show ((2 : Int) ^ g) = ((2 ^ g : Nat) : Int) by simp, hless.out], ⟨p ++ [⟨g, hgl⟩], by rw [List.map_append, kp.out, hta.out]; rfl, hJ3⟩, hT3.out⟩
        case measure =>
          have := hmeas.out
          first | (rw [e1, hless.out]; simp [intOf]; omega) | (rw [show ((2 : Int) ^ g) = ((2 ^ g : Nat) : Int) by simp, hless.out]; simp [intOf]; omega) | (simp [intOf, hless.out]; omega)
      · gi_wp2
        refine bodyPost_ret (results_none rfl _ _ _) rfl ?_
        exact ⟨⟨_, rfl⟩, .inr ⟨p ++ [⟨g, hgl⟩], ⟨k + 1, by omega, by rw [List.map_append, kp.out, hta.out]; rfl⟩, hJx3⟩⟩
    · obtain rfl : k = (goodsL s).length := by omega
      rw [ke.out]
      gi_wp2
      go_end0
      exact ⟨⟨_, rfl⟩, .inl ⟨p, by rw [hp, List.take_length], hJs⟩⟩

theorem each_stops (d : Nat) (hd : 1 ≤ d) (B : Nat) (T : Nat → Prop) (hT0 : ¬ T 0) (s : Nat) (hs : s < 4294967296) (w : World) (hB : w.cell? ⟨B, 0, none⟩ = some (.int .u32 (s : Int))) (hT : TabAt 0 Lib.deBruijn32tab w) :
    SeqStopsK Fence.wide d Tryd.prog 91 #[.pointer (some ⟨B, 0, none⟩)] (fun x : Fin 32 => #[Value.int .i64 (x.val : Int)]) (Frm T)
      (fun ys => ys.map Fin.val = goodsL s) (fun pre => ∃ k, k ≤ (goodsL s).length ∧ pre.map Fin.val = (goodsL s).take k) (goodsL s).length w := fun l J Jx W hW _ _ hY h0 =>
  each1_good d hd l B s hs T hT0 J Jx hY W ((Old.of_below hW).cell hB) (fun j hj => (Old.of_below hW).cell (hT j hj)) h0

set_option maxRecDepth 100000 in
theorem each_any (s : Nat) (w : World) : Calls Tryd.prog 89 #[.int .u32 (s : Int)] w fun e w' => e = .returned (.func (.func 91) #[] #[.pointer (some ⟨w.heap.size, 0, none⟩)]) ∧ w' = w.alloc (.cells #[.int .u32 (s : Int)] 45) := by
  go_enter Tryd.func89, Tryd.ntmps89
  go_wp2
  go_ret
  exact ⟨rfl, rfl⟩
end Go.Proofs.YtpbbnbobmcaoiaaDoor
