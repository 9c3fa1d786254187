/- Each, for every loop body that keeps the table, told only what it tells. -/
import Derived.Test.YtpbbnbobmcaoiaaDoorG5
import Derived.Test.YtpbbnbobmcaoiaaDoorRJ
namespace Go.Proofs.YtpbbnbobmcaoiaaDoor
open Go.RowKit Go.Lib Go.Shelf
attribute [local go_sem] Oper.semAt_some

set_option maxRecDepth 100000 in
set_option maxHeartbeats 2000000 in
theorem each1_P (d : Nat) (hd : 1 ≤ d) (l B : Nat) (s : Nat) (hs : s < 4294967296) (T : Nat → Prop) (hT0 : ¬ T 0) (J Jx : List (Fin 32) → World → Prop)
    (hY : ∀ pre x W, J pre W → (∃ k, k ≤ (goodsL s).length ∧ (pre ++ [x]).map Fin.val = (goodsL s).take k) → YieldAt Fence.wide (d - 1) Tryd.prog l #[.int .i64 (x.val : Int)] W fun e W' =>
      (e = .returned (.bool true) ∧ J (pre ++ [x]) W' ∧ KeptC T W W') ∨ (e = .returned (.bool false) ∧ Jx (pre ++ [x]) W'))
    (W : World) (hB : W.cell? ⟨B, 0, none⟩ = some (.int .u32 (s : Int))) (hT : TabAt 0 Lib.deBruijn32tab W) (h0 : J [] W) :
    CallsIn Fence.wide d Tryd.prog 91 #[.func (.yield l) #[] #[], .pointer (some ⟨B, 0, none⟩)] W fun e W' => (∃ v, e = .returned v) ∧
      ((∃ ys, ys.map Fin.val = goodsL s ∧ J ys W') ∨ (∃ pre, (∃ k, k ≤ (goodsL s).length ∧ pre.map Fin.val = (goodsL s).take k) ∧ Jx pre W')) := by
  have kz := hid (rest_zero s hs)
  have ke := hid (rest_end s hs)
  refine callsIn_of_wp Tryd.func91 rfl trivial ?_ rfl
  simp only [Tryd.ntmps91, List.size_toArray, List.length_cons, List.length_nil, Nat.reduceAdd, Nat.reduceSub, Array.replicate_succ, Array.replicate_zero, List.push_toArray, List.append_toArray, List.nil_append, List.cons_append]
  gi_wp2
  gi_loopw [3] (fun v wr => ∃ k : Nat, k ≤ (goodsL s).length ∧ v = .int .u32 (rest s k : Int) ∧ (∃ p : List (Fin 32), p.map Fin.val = (goodsL s).take k ∧ J p wr) ∧ TabAt 0 Lib.deBruijn32tab wr)
    (fun v _ => (intOf v).toNat)
  case atStart => exact ⟨0, Nat.zero_le _, by rw [kz.out], ⟨[], by simp, h0⟩, hT⟩
  case round =>
    obtain ⟨k, hk, rfl, ⟨p, hp, hJs⟩, hTs⟩ := hrel
    by_cases hlt : k < (goodsL s).length
    · obtain ⟨n0, n1, n2⟩ := rest_next hs hlt
      have hrl := rest_lt s k
      have hgl := goodsL_lt (List.getElem_mem hlt)
      have kt := hid (tz_any (rest s k) n0 hrl wr hTs)
      rw [n1] at kt
      have kJ := hid hJs
      have kT := hid hTs
      have hta : Hid ((goodsL s).take (k + 1) = (goodsL s).take k ++ [(goodsL s)[k]]) := by
        show _ = _
        rw [List.take_add_one, List.getElem?_eq_getElem hlt]
        rfl
      have hpl0 : p.length = k := by
        have := congrArg List.length hp
        simp at this
        omega
      have hlen : p.length < (goodsL s).length := by omega
      have kp := hid hp
      clear hp hpl0
      have hless : Hid (bits .andNot .u32 (rest s k : Int) ((2 ^ (goodsL s)[k] : Nat) : Int) = (rest s (k + 1) : Int)) := by
        show _ = _
        rw [bits_less, n2]
      have hmeas : Hid (rest s (k + 1) < rest s k) := by
        show _ < _
        have hbit : (rest s k).testBit (goodsL s)[k] = true := by rw [← n1]; exact (ctz_low n0 hrl).1
        have hq : (less (rest s k) (2 ^ (goodsL s)[k])).testBit (goodsL s)[k] = false := by rw [less_bit _ _ hrl, Nat.testBit_two_pow]; simp
        have : rest s k = rest s (k + 1) + 2 ^ (goodsL s)[k] := by
          rw [← n2, ← or_bit hq]
          apply eq_of_bits
          intro i
          rw [Nat.testBit_or, less_bit _ _ hrl, Nat.testBit_two_pow]
          by_cases e : (goodsL s)[k] = i
          · rw [e] at hbit; simp [e, hbit]
          · simp [e]
        have := Nat.two_pow_pos (goodsL s)[k]
        omega
      have hpl := pow_lt32 hgl
      have hne : ((rest s k : Int) != 0) = true := by simp; omega
      clear hJs hTs n1 n2
      obtain ⟨g, hg⟩ : ∃ g, (goodsL s)[k] = g := ⟨_, rfl⟩
      rw [hg] at kt hta hless hgl hpl
      have hg' : (g : Int) < 32 := by omega
      clear hg
      gi_wp2_with fail
      refine ⟨trivial, ?_⟩
      refine (callsIn_wide.2 kt.out).mono ?_
      rintro e w2 ⟨rfl, e2⟩
      rw [e2]
      clear e2 w2
      obtain ⟨fn, tmps, assign, body, hy, hR⟩ := hY p ⟨g, hgl⟩ _ kJ.out ⟨k + 1, by omega, by rw [List.map_append, kp.out, hta.out]; rfl⟩
      clear kt
      gi_wp2
      refine hR.mono ?_
      rintro e W3 (⟨rfl, hJ3, hb3⟩ | ⟨rfl, hJx3⟩)
      · have hT3 : Hid (TabAt 0 Lib.deBruijn32tab W3) := fun j hj => kept_cell hb3 hT0 (kT.out j hj)
        have e1 : (2 : Int) ^ g % 4294967296 = ((2 ^ g : Nat) : Int) := by
          rw [show ((2 : Int) ^ g) = ((2 ^ g : Nat) : Int) by simp]
          exact Int.emod_eq_of_lt (Int.natCast_nonneg _) (Int.ofNat_lt.2 hpl)
        gi_wp2
        go_roundw
        case rel => exact ⟨k + 1, by omega, by first | rw [e1, hless.out] | rw [show ((2 : Int) ^ g) = ((2 ^ g : Nat) : Int) by simp, hless.out], ⟨p ++ [⟨g, hgl⟩], by rw [List.map_append, kp.out, hta.out]; rfl, hJ3⟩, hT3.out⟩
        case measure =>
          have := hmeas.out
          first | (rw [e1, hless.out]; simp [intOf]; omega) | (rw [show ((2 : Int) ^ g) = ((2 ^ g : Nat) : Int) by simp, hless.out]; simp [intOf]; omega) | (simp [intOf, hless.out]; omega)
      · gi_wp2
        refine bodyPost_ret (results_none rfl _ _ _) rfl ?_
        exact ⟨⟨_, rfl⟩, .inr ⟨p ++ [⟨g, hgl⟩], ⟨k + 1, by omega, by rw [List.map_append, kp.out, hta.out]; rfl⟩, hJx3⟩⟩
    · obtain rfl : k = (goodsL s).length := by omega
      rw [ke.out]
      gi_wp2
      go_end0
      exact ⟨⟨_, rfl⟩, .inl ⟨p, by rw [hp, List.take_length], hJs⟩⟩

theorem each_P (d : Nat) (hd : 1 ≤ d) (B : Nat) (T : Nat → Prop) (hT0 : ¬ T 0) (s : Nat) (hs : s < 4294967296) (w : World) (hB : w.cell? ⟨B, 0, none⟩ = some (.int .u32 (s : Int))) (hT : TabAt 0 Lib.deBruijn32tab w) :
    SeqP Tryd.prog d 91 #[.pointer (some ⟨B, 0, none⟩)] (fun x : Fin 32 => #[Value.int .i64 (x.val : Int)]) (KeptC T) (fun q => ∃ k, k ≤ (goodsL s).length ∧ q.map Fin.val = (goodsL s).take k)
      (fun ys => ys.map Fin.val = goodsL s) (fun q => ∃ k, k ≤ (goodsL s).length ∧ q.map Fin.val = (goodsL s).take k) w := fun l J Jx W hW _ _ hY h0 =>
  each1_P d hd l B s hs T hT0 J Jx hY W ((Old.of_below hW).cell hB) (fun j hj => (Old.of_below hW).cell (hT j hj)) h0

end Go.Proofs.YtpbbnbobmcaoiaaDoor
