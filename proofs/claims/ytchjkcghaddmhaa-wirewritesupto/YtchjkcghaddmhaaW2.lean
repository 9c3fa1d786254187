/- How many bytes a number has. -/
import Derived.Test.YtchjkcghaddmhaaProg
import Derived.Test.YtchjkcghaddmhaaBase
import Derived.Lib.BitFns
import Derived.Deep.Light
import Derived.KernelRfl
namespace Go.Proofs.Ytchjkcghaddmhaa
open Go.RowKit

/-- How many bytes a number has, at least one. -/
def nb (X : Nat) : Nat :=
  if X < 256 then 1 else if X < 65536 then 2 else if X < 16777216 then 3 else if X < 4294967296 then 4
  else if X < 1099511627776 then 5 else if X < 281474976710656 then 6 else if X < 72057594037927936 then 7 else 8

theorem len8_fin : ∀ n : Fin 256, 1 ≤ n.val → 1 ≤ Lib.len8 (n.val : Int) ∧ Lib.len8 (n.val : Int) ≤ 8 := by decide +kernel
theorem len8_bd (y : Int) (h0 : 1 ≤ y) (h1 : y ≤ 255) : 1 ≤ Lib.len8 y ∧ Lib.len8 y ≤ 8 := by
  have := len8_fin ⟨y.toNat, by omega⟩ (by show 1 ≤ y.toNat; omega)
  have e : ((y.toNat : Nat) : Int) = y := by omega
  simpa [e] using this

set_option maxRecDepth 100000 in
theorem fold_tab : (⟨((([0, 1, 2, 2, 3, 3, 3, 3, 4, 4, 4, 4, 4, 4, 4, 4, 5, 5, 5, 5, 5, 5, 5, 5, 5, 5, 5, 5, 5, 5, 5, 5, 6, 6, 6, 6, 6, 6, 6, 6, 6, 6, 6, 6, 6, 6, 6, 6, 6, 6, 6, 6, 6, 6, 6, 6, 6, 6, 6, 6, 6, 6, 6, 6] : List UInt8).append [7, 7, 7, 7, 7, 7, 7, 7, 7, 7, 7, 7, 7, 7, 7, 7, 7, 7, 7, 7, 7, 7, 7, 7, 7, 7, 7, 7, 7, 7, 7, 7, 7, 7, 7, 7, 7, 7, 7, 7, 7, 7, 7, 7, 7, 7, 7, 7, 7, 7, 7, 7, 7, 7, 7, 7, 7, 7, 7, 7, 7, 7, 7, 7]).append (List.append [8, 8, 8, 8, 8, 8, 8, 8, 8, 8, 8, 8, 8, 8, 8, 8, 8, 8, 8, 8, 8, 8, 8, 8, 8, 8, 8, 8, 8, 8, 8, 8, 8, 8, 8, 8, 8, 8, 8, 8, 8, 8, 8, 8, 8, 8, 8, 8, 8, 8, 8, 8, 8, 8, 8, 8, 8, 8, 8, 8, 8, 8, 8, 8] [8, 8, 8, 8, 8, 8, 8, 8, 8, 8, 8, 8, 8, 8, 8, 8, 8, 8, 8, 8, 8, 8, 8, 8, 8, 8, 8, 8, 8, 8, 8, 8, 8, 8, 8, 8, 8, 8, 8, 8, 8, 8, 8, 8, 8, 8, 8, 8, 8, 8, 8, 8, 8, 8, 8, 8, 8, 8, 8, 8, 8, 8, 8, 8])).toArray⟩ : ByteArray) = Lib.len8tab := by decide +kernel

attribute [local go_sem ↓] fold_tab

theorem tab_size : (Lib.len8tab.size : Int) = 256 := by rw [Lib.len8tab_size]; rfl

theorem tab_bd (y : Int) (h : y.toNat < Lib.len8tab.size) (h0 : 1 ≤ y) (h1 : y ≤ 255) : 1 ≤ ((Lib.len8tab[y.toNat]'h).toNat : Int) ∧ ((Lib.len8tab[y.toNat]'h).toNat : Int) ≤ 8 := by
  have := len8_bd y h0 h1
  unfold Lib.len8 at this
  rw [getElem?_pos Lib.len8tab y.toNat h] at this
  exact this

/-- The end of each of the eight ways. -/
theorem len_way (k : Nat) (x y : Int) (c : Int) (h : y.toNat < Lib.len8tab.size) (h0 : 1 ≤ y) (h1 : y ≤ 255) (hk : k ≤ 7) (hc : c = 8 * (k : Int)) (hn : nb x.toNat = k + 1) :
    ∃ L : Int, wrap64 (c + wrap64 ((Lib.len8tab[y.toNat]'h).toNat : Int)) = L ∧ 8 * (nb x.toNat : Int) ≤ L + 7 ∧ L ≤ 8 * (nb x.toNat : Int) := by
  have := tab_bd y h h0 h1
  rw [hn]
  refine ⟨_, rfl, ?_⟩
  unfold wrap64
  omega

theorem nb8 (x : Int) (h : 256 ≤ x / 4294967296 / 65536) (hX : x ≤ 18446744073709551615) : nb x.toNat = 7 + 1 := by
  have : 72057594037927936 ≤ x.toNat := by omega
  unfold nb; repeat' split
  all_goals omega
theorem nb7 (x : Int) (h : 65536 ≤ x / 4294967296) (h' : x / 4294967296 / 65536 < 256) : nb x.toNat = 6 + 1 := by
  have : 281474976710656 ≤ x.toNat ∧ x.toNat < 72057594037927936 := by omega
  unfold nb; repeat' split
  all_goals omega
theorem nb6 (x : Int) (h : x / 4294967296 < 65536) (h' : 256 ≤ x / 4294967296) : nb x.toNat = 5 + 1 := by
  have : 1099511627776 ≤ x.toNat ∧ x.toNat < 281474976710656 := by omega
  unfold nb; repeat' split
  all_goals omega
theorem nb5 (x : Int) (h : 4294967296 ≤ x) (h' : x / 4294967296 < 256) : nb x.toNat = 4 + 1 := by
  have : 4294967296 ≤ x.toNat ∧ x.toNat < 1099511627776 := by omega
  unfold nb; repeat' split
  all_goals omega
theorem nb4 (x : Int) (h : x < 4294967296) (h' : 256 ≤ x / 65536) : nb x.toNat = 3 + 1 := by
  have : 16777216 ≤ x.toNat ∧ x.toNat < 4294967296 := by omega
  unfold nb; repeat' split
  all_goals omega
theorem nb3 (x : Int) (h : 65536 ≤ x) (h' : x / 65536 < 256) : nb x.toNat = 2 + 1 := by
  have : 65536 ≤ x.toNat ∧ x.toNat < 16777216 := by omega
  unfold nb; repeat' split
  all_goals omega
theorem nb2 (x : Int) (h : x < 65536) (h' : 256 ≤ x) : nb x.toNat = 1 + 1 := by
  have : 256 ≤ x.toNat ∧ x.toNat < 65536 := by omega
  unfold nb; repeat' split
  all_goals omega
theorem nb1 (x : Int) (h : x < 256) : nb x.toNat = 0 + 1 := by
  have : x.toNat < 256 := by omega
  unfold nb; repeat' split
  all_goals omega

set_option maxRecDepth 100000 in
set_option maxHeartbeats 4000000 in
theorem len64_any (x : Int) (w : World) (h0 : 1 ≤ x) (hX : x ≤ 18446744073709551615) :
    Calls Try.prog 64 #[.int .u64 x] w fun e w' => ∃ L : Int, e = .returned (.int .i64 L) ∧ 8 * (nb x.toNat : Int) ≤ L + 7 ∧ L ≤ 8 * (nb x.toNat : Int) ∧ w' = w := by
  have hs := tab_size
  go_enter Try.func64, Try.ntmps64
  rw [fold_tab]
  go_wp2
  all_goals go_ret
  all_goals go_light
  · obtain ⟨L, e, h2, h3⟩ := len_way 7 x (x / 4294967296 / 65536 / 256) 56 (by have hz := Lib.len8tab_size; omega) (by omega) (by omega) (by omega) (by omega) (nb8 x (by omega) hX)
    exact ⟨L, congrArg (fun t => Ending.returned (Value.int .i64 t)) e, h2, h3, rfl⟩
  · obtain ⟨L, e, h2, h3⟩ := len_way 6 x (x / 4294967296 / 65536) 48 (by have hz := Lib.len8tab_size; omega) (by omega) (by omega) (by omega) (by omega) (nb7 x (by omega) (by omega))
    exact ⟨L, congrArg (fun t => Ending.returned (Value.int .i64 t)) e, h2, h3, rfl⟩
  · obtain ⟨L, e, h2, h3⟩ := len_way 5 x (x / 4294967296 / 256) 40 (by have hz := Lib.len8tab_size; omega) (by omega) (by omega) (by omega) (by omega) (nb6 x (by omega) (by omega))
    exact ⟨L, congrArg (fun t => Ending.returned (Value.int .i64 t)) e, h2, h3, rfl⟩
  · obtain ⟨L, e, h2, h3⟩ := len_way 4 x (x / 4294967296) 32 (by have hz := Lib.len8tab_size; omega) (by omega) (by omega) (by omega) (by omega) (nb5 x (by omega) (by omega))
    exact ⟨L, congrArg (fun t => Ending.returned (Value.int .i64 t)) e, h2, h3, rfl⟩
  · obtain ⟨L, e, h2, h3⟩ := len_way 3 x (x / 65536 / 256) 24 (by have hz := Lib.len8tab_size; omega) (by omega) (by omega) (by omega) (by omega) (nb4 x (by omega) (by omega))
    exact ⟨L, congrArg (fun t => Ending.returned (Value.int .i64 t)) e, h2, h3, rfl⟩
  · obtain ⟨L, e, h2, h3⟩ := len_way 2 x (x / 65536) 16 (by have hz := Lib.len8tab_size; omega) (by omega) (by omega) (by omega) (by omega) (nb3 x (by omega) (by omega))
    exact ⟨L, congrArg (fun t => Ending.returned (Value.int .i64 t)) e, h2, h3, rfl⟩
  · obtain ⟨L, e, h2, h3⟩ := len_way 1 x (x / 256) 8 (by have hz := Lib.len8tab_size; omega) (by omega) (by omega) (by omega) (by omega) (nb2 x (by omega) (by omega))
    exact ⟨L, congrArg (fun t => Ending.returned (Value.int .i64 t)) e, h2, h3, rfl⟩
  · obtain ⟨L, e, h2, h3⟩ := len_way 0 x (x) 0 (by have hz := Lib.len8tab_size; omega) (by omega) (by omega) (by omega) (by omega) (nb1 x (by omega))
    rw [Int.zero_add] at e
    exact ⟨L, congrArg (fun t => Ending.returned (Value.int .i64 t)) e, h2, h3, rfl⟩

/-- How many bytes a number's form has. -/
def sz (X : Nat) : Nat := if X ≤ 247 then 1 else 1 + nb X

theorem nb_bd (X : Nat) : 1 ≤ nb X ∧ nb X ≤ 8 := by
  unfold nb; repeat' split
  all_goals omega

set_option maxRecDepth 100000 in
set_option maxHeartbeats 1000000 in
theorem size_any (x : Int) (w : World) (h0 : 0 ≤ x) (hX : x ≤ 18446744073709551615) :
    Calls Try.prog 25 #[.int .u64 x] w fun e w' => e = .returned (.int .i64 (sz x.toNat : Int)) ∧ w' = w := by
  by_cases hs : x ≤ 247
  · have hz : sz x.toNat = 1 := by unfold sz; rw [if_pos (by omega)]
    rw [hz]
    go_enter Try.func25, Try.ntmps25
    go_wp2
    go_ret
    exact ⟨rfl, rfl⟩
  · have hz : sz x.toNat = 1 + nb x.toNat := by unfold sz; rw [if_neg (by omega)]
    have hb := nb_bd x.toNat
    rw [hz]
    clear hz
    go_enter Try.func25, Try.ntmps25
    go_wp2_with fail
    refine (len64_any x _ (by omega) hX).mono ?_
    rintro e w' ⟨L, rfl, h1, h2, rfl⟩
    have hL : 0 ≤ L ∧ L ≤ 64 := by omega
    have hq : Hid ((L + 7) / 8 = (nb x.toNat : Int)) := by show (L + 7) / 8 = (nb x.toNat : Int); omega
    go_wp2
    go_ret
    refine ⟨?_, rfl⟩
    have hq2 := hq.out
    exact ret_i (by rw [hq2]; omega)

end Go.Proofs.Ytchjkcghaddmhaa
