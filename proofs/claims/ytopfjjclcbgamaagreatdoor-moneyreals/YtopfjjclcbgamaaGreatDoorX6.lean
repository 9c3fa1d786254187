/- The document's product, bit by bit. -/
import Derived.Test.YtopfjjclcbgamaaGreatDoorX5
import Derived.Test.YtopfjjclcbgamaaGreatDoorE5
import Derived.Laws.Rows
namespace Go.Proofs.YtopfjjclcbgamaaGreatDoor
open Go.RowKit Go.Lib

def arr (f : Nat → Int) : List Int := List.map f (List.range 128)
theorem arr_length (f : Nat → Int) : (arr f).length = 128 := by simp [arr]
theorem arr_get (f : Nat → Int) (k : Nat) (h : k < (arr f).length) : (arr f)[k] = f k := by simp [arr]
theorem arr_set (f : Nat → Int) (i : Nat) (v : Int) : (arr f).set i v = arr (fun k => if k = i then v else f k) := by
  apply List.ext_getElem
  · simp [arr]
  · intro k h1 h2
    rw [List.getElem_set, arr_get, arr_get]
    by_cases h : i = k
    · rw [if_pos h, if_pos h.symm]
    · rw [if_neg h, if_neg (fun e => h e.symm)]
theorem arr_zero : Tryz.zeroCells46 = ((arr fun _ => 0).map (Value.int .i64)).toArray := by kernel_rfl

def bitN (N q : Nat) : Nat := N / 2 ^ q % 2
theorem bitN_le (N q : Nat) : bitN N q ≤ 1 := by unfold bitN; omega

/-- One step of an addition, bit by bit. -/
theorem add_step {A c m y : Nat} (h : (A + c) / 2 ^ m = A / 2 ^ m + c / 2 ^ m + y) :
    (A / 2 ^ m % 2 + y + c / 2 ^ m % 2) % 2 = (A + c) / 2 ^ m % 2 ∧ (A + c) / 2 ^ (m + 1) = A / 2 ^ (m + 1) + c / 2 ^ (m + 1) + (A / 2 ^ m % 2 + y + c / 2 ^ m % 2) / 2 := by
  rw [Nat.pow_succ, ← Nat.div_div_eq_div_mul, ← Nat.div_div_eq_div_mul, ← Nat.div_div_eq_div_mul, h]
  generalize A / 2 ^ m = a
  generalize c / 2 ^ m = b
  omega

theorem bit_up (N c i m : Nat) : bitN (N + c * 2 ^ i) (i + m) = (N / 2 ^ i + c) / 2 ^ m % 2 ∧ bitN N (i + m) = N / 2 ^ i / 2 ^ m % 2 := by
  unfold bitN
  rw [Nat.pow_add, ← Nat.div_div_eq_div_mul, ← Nat.div_div_eq_div_mul, Nat.add_mul_div_right _ _ (Nat.two_pow_pos i)]
  exact ⟨rfl, rfl⟩

theorem bit_low (N c i q : Nat) (h : q < i) : bitN (N + c * 2 ^ i) q = bitN N q := by
  unfold bitN
  have e : c * 2 ^ i = c * 2 ^ (i - q - 1) * 2 * 2 ^ q := by
    rw [Nat.mul_assoc, Nat.mul_assoc, ← Nat.pow_succ', ← Nat.pow_add, show i - q - 1 + (q + 1) = i by omega]
  rw [e, Nat.add_mul_div_right _ _ (Nat.two_pow_pos q), Nat.add_mul_mod_self_right]


set_option maxRecDepth 100000 in
set_option maxHeartbeats 4000000 in
theorem product_any (c x : Nat) (w : World) (hc : c ≤ 1099511627776) (hx : x < 18446744073709551616) : Calls Tryz.prog 18 #[.int .i64 (c : Int), .int .u64 (x : Int)] w fun e w' => ∃ f, e = .returned (.agg ((arr f).map (Value.int .i64)).toArray) ∧ (∀ q, q < 128 → f q = (bitN (c * x) q : Int)) ∧ Old w w' := by
  go_enter Tryz.func18, Tryz.ntmps18
  go_wp2
  go_loopw [6] (fun s wr => ∃ (k : Nat) (f : Nat → Int), k ≤ 64 ∧ s = .int .i64 (k : Int) ∧ Own .i64 46 wr (w.heap.size + 1) (arr f) ∧ (∀ q, q < 128 → f q = (bitN (c * (x % 2 ^ k)) q : Int)) ∧ Own .i64 46 wr w.heap.size (arr fun _ => 0) ∧ Old w wr) (fun s _ => 64 - (intOf s).toNat)
  case atStart =>
    refine ⟨0, fun _ => 0, Nat.zero_le _, rfl, ⟨?_⟩, fun q _ => ?_, ⟨?_⟩, ((Old.refl w).alloc _).alloc _⟩
    · rw [← arr_zero]
      have := heap_new (w.alloc (.cells Tryz.zeroCells46 46)) (.cells Tryz.zeroCells46 46)
      rwa [World.size_alloc] at this
    · rw [Nat.pow_zero, Nat.mod_one, Nat.mul_zero]; simp [bitN]
    · rw [← arr_zero]
      exact (Below.heap_alloc _ _ _ (by simp)).trans (heap_new w _)
  case round =>
    obtain ⟨k, f, hk, rfl, hf, hbit, h0, hO⟩ := hrel
    by_cases hlt : k < 64
    · obtain ⟨X, hX⟩ : ∃ X, x / 2 ^ k = X := ⟨_, rfl⟩
      have hXi : (x : Int) / 2 ^ k = (X : Int) := by rw [← hX, Int.natCast_ediv]; simp
      have hX2 : X < 18446744073709551616 := by rw [← hX]; exact Nat.lt_of_le_of_lt (Nat.div_le_self _ _) hx
      have hf' := hid hf
      have hbit' := hid hbit
      have h0' := hid h0
      have hO' := hid hO
      clear hf hbit h0 hO
      by_cases hb : X % 2 = 0
      · have hbi : ((X : Int) % 2 == 0) = true := by rw [beq_iff_eq]; omega
        go_wp2
        go_roundw
        case rel => exact ⟨k + 1, f, by omega, by go_num, hf'.out, fun q hq => by
          rw [hbit'.out q hq, Nat.mod_pow_succ, hX, hb, Nat.mul_zero, Nat.add_zero], h0'.out, hO'.out⟩
        case measure => simp [intOf]; omega
      · have hbi : ((X : Int) % 2 == 0) = false := by rw [beq_eq_false_iff_ne]; omega
        obtain ⟨N, hN⟩ : ∃ N, c * (x % 2 ^ k) = N := ⟨_, rfl⟩
        rw [hN] at hbit'
        go_wp2
        go_loopw [8, 7] (fun s t wr => ∃ (m y : Nat) (f : Nat → Int), k + m ≤ 128 ∧ s = .int .i64 (m : Int) ∧ t = .int .i64 (y : Int) ∧ y ≤ 1 ∧ (N / 2 ^ k + c) / 2 ^ m = N / 2 ^ k / 2 ^ m + c / 2 ^ m + y ∧ Own .i64 46 wr (w.heap.size + 1) (arr f) ∧ (∀ q, q < k + m → f q = (bitN (N + c * 2 ^ k) q : Int)) ∧ (∀ q, k + m ≤ q → q < 128 → f q = (bitN N q : Int)) ∧ Own .i64 46 wr w.heap.size (arr fun _ => 0) ∧ Old w wr) (fun s _ _ => 128 - (intOf s).toNat)
        case atStart =>
          exact ⟨0, 0, f, by omega, rfl, rfl, by omega, by simp, hf'.out, fun q hq => by rw [bit_low _ _ _ _ (by omega)]; exact hbit'.out q (by omega), fun q _ hq => hbit'.out q hq, h0'.out, hO'.out⟩
        case round =>
          clear hf' hbit' h0' hO'
          obtain ⟨m, y, f, hm, rfl, rfl, hy, hadd, hf, hf1, hf2, h0, hO⟩ := hrel
          by_cases hlt2 : k + m < 128
          · have hlen : k + m < (arr f).length := by rw [arr_length]; exact hlt2
            obtain ⟨z, hz⟩ : ∃ z, z = k + m := ⟨_, rfl⟩
            have hzi : (k : Int) + (m : Int) = (z : Int) := by omega
            have hcl := hf.cell hlen
            rw [arr_get, hf2 (k + m) (Nat.le_refl _) hlt2, (bit_up N c k m).2, ← hz] at hcl
            obtain ⟨st1, st2⟩ := add_step hadd
            obtain ⟨b0, hb0⟩ : ∃ b0, N / 2 ^ k / 2 ^ m % 2 = b0 := ⟨_, rfl⟩
            rw [hb0] at hcl st1 st2
            have hb1 : b0 ≤ 1 := by omega
            obtain ⟨hcl1, hcl2⟩ := hcl
            obtain ⟨c1, hc1⟩ : ∃ c1, c / 2 ^ m = c1 := ⟨_, rfl⟩
            have hci : (c : Int) / 2 ^ m = (c1 : Int) := by rw [← hc1, Int.natCast_ediv]; simp
            rw [hc1] at st1 st2
            have st2' := hid st2
            have st1' := hid st1
            have hf1' := hid hf1
            have hf2' := hid hf2
            have hadd' := hid hadd
            have hz' := hid hz
            have hf' := hid hf
            have h0' := hid h0
            have hO' := hid hO
            clear st1 st2 hf1 hf2 hadd hb0 hz hf h0 hO hlen
            have hz2 : z < 128 := by have := hz'.out; omega
            have hm2 : m < 128 := by have := hz'.out; omega
            by_cases h62 : m < 62
            · go_wp2
              go_roundw
              case rel =>
                have st1 := st1'.out
                have st2 := st2'.out
                have hz := hz'.out
                refine ⟨m + 1, (b0 + y + c1 % 2) / 2, fun q => if q = z then ((b0 : Int) + y + c1) % 2 else f q, by omega, by go_num, congrArg (Value.int .i64) (by omega), by omega, by rw [st2], by rw [← arr_set]; exact hf'.out.set z _, fun q hq => ?_, fun q hq hq2 => ?_, h0'.out.kept ((Frm.refl (fun b => b = w.heap.size + 1) wr).setCell ⟨w.heap.size + 1, z, none⟩ (.inr rfl) _) (by omega), Frm.setCell hO'.out ⟨w.heap.size + 1, z, none⟩ (.inl (by simp)) _⟩
                · dsimp only
                  by_cases hqz : q = z
                  · rw [if_pos hqz, hqz, hz, (bit_up N c k m).1]
                    omega
                  · rw [if_neg hqz]
                    exact hf1'.out q (by omega)
                · dsimp only
                  rw [if_neg (by omega)]
                  exact hf2'.out q (by omega) hq2
              case measure => simp [intOf]; omega
            · have hc9 : c1 = 0 := by
                rw [← hc1]
                have : 2 ^ 62 ≤ 2 ^ m := Nat.pow_le_pow_right (by omega) (by omega)
                exact Nat.div_eq_of_lt (by omega)
              go_wp2
              go_roundw
              case rel =>
                have st1 := st1'.out
                have st2 := st2'.out
                have hz := hz'.out
                refine ⟨m + 1, (b0 + y) / 2, fun q => if q = z then ((b0 : Int) + y) % 2 else f q, by omega, by go_num, congrArg (Value.int .i64) (by omega), by omega, by rw [st2, hc9]; rfl, by rw [← arr_set]; exact hf'.out.set z _, fun q hq => ?_, fun q hq hq2 => ?_, h0'.out.kept ((Frm.refl (fun b => b = w.heap.size + 1) wr).setCell ⟨w.heap.size + 1, z, none⟩ (.inr rfl) _) (by omega), Frm.setCell hO'.out ⟨w.heap.size + 1, z, none⟩ (.inl (by simp)) _⟩
                · dsimp only
                  by_cases hqz : q = z
                  · rw [if_pos hqz, hqz, hz, (bit_up N c k m).1]
                    omega
                  · rw [if_neg hqz]
                    exact hf1'.out q (by omega)
                · dsimp only
                  rw [if_neg (by omega)]
                  exact hf2'.out q (by omega) hq2
              case measure => simp [intOf]; omega
          · have hf' := hid hf
            have hf1' := hid hf1
            have h0' := hid h0
            have hO' := hid hO
            clear hf hf1 hf2 h0 hO hadd
            have hge : (128 : Int) ≤ (k : Int) + (m : Int) := by omega
            go_wp2
            go_roundw
            case rel =>
              refine ⟨k + 1, f, by omega, by go_num, hf'.out, fun q hq => ?_, h0'.out, hO'.out⟩
              rw [hf1'.out q (by omega), Nat.mod_pow_succ, hX, show X % 2 = 1 by omega, Nat.mul_one, Nat.mul_add, hN]
            case measure => simp [intOf]; omega
    · obtain rfl : k = 64 := by omega
      have hf' := hid hf
      have hbit' := hid hbit
      have h0' := hid h0
      have hO' := hid hO
      clear hf hbit h0 hO
      have hsz : ((arr f).map (Value.int .i64)).toArray.size = 128 := by simp [arr_length]
      have hsz0 : ((arr fun _ => 0).map (Value.int .i64)).toArray.size = 128 := by simp [arr_length]
      have hall : ((arr f).map (Value.int .i64)).toArray.all (·.oneCell') = true := by simp [Value.oneCell']
      have hi : (Tryz.prog.info? 46).map (·.size) = some ((arr f).map (Value.int .i64)).toArray.size := by rw [hsz]; kernel_rfl
      have hi' := hid hi
      have hsz' := hid hsz
      have hsz0' := hid hsz0
      have hall' := hid hall
      clear hi hsz hsz0 hall
      have hst : Hid (∀ P : Program, (storeCells ⟨w.heap.size, 0, none⟩ ((arr f).map (Value.int .i64)) 0).run P wr = .ok () (wr.setRow w.heap.size ((arr f).map (Value.int .i64)).toArray)) := fun P => by
        have := run_storeCells_from (P := P) w.heap.size 46 ((arr f).map (Value.int .i64)) 0 _ wr h0'.out.blk (by simp [arr_length]) (by simp [Value.oneCell'])
        simpa using this
      go_wp2_with fail
      refine wp_load_row 46 _ rfl (w.heap.size + 1) rfl 46 _ (0, 0) _ hf'.out.blk Tryz.underlying46 rfl hi'.out ?_
      go_wp2_with fail
      rw [hst.out]
      go_wp2_with fail
      refine bodyPost_ret (results_cell_row rfl _ _ w.heap.size 46 _ (0, 0) _ rfl (setRow_heap wr _ _ _ _ _ h0'.out.blk) Tryz.underlying46 rfl hi'.out) rfl ?_
      refine ⟨f, rfl, fun q hq => by rw [hbit'.out q hq, Nat.mod_eq_of_lt (show x < 2 ^ 64 from hx)], ?_⟩
      have hO := hO'.out
      exact ⟨hO.os, hO.tape, hO.output, by rw [setRow_size]; exact hO.size, fun b hb hS => (setRow_other wr _ b _ (by omega)).trans (hO.block b hb hS)⟩
end Go.Proofs.YtopfjjclcbgamaaGreatDoor
