/- Plain mathematics: what was written is read again. -/
import Derived.Test.YtchjkcghaddmhaaP1
import Derived.Test.YtchjkcghaddmhaaB1
import Derived.Test.YtchjkcghaddmhaaB3
namespace Go.Proofs.Ytchjkcghaddmhaa
open Go.RowKit

theorem valN_be (n X : Nat) : ∀ a, valN a (be n X) = a * 256 ^ n + X % 256 ^ n := by
  induction n with
  | zero => intro a; simp [be, valN, Nat.mod_one]
  | succ n ih =>
    intro a
    have h1 : valN a (be (n + 1) X) = valN (a * 256 + (UInt8.ofNat (X / 256 ^ n)).toNat) (be n X) := rfl
    have h2 : X % 256 ^ (n + 1) = X % 256 ^ n + 256 ^ n * (X / 256 ^ n % 256) := by rw [Nat.pow_succ, Nat.mod_mul]
    have h3 : (UInt8.ofNat (X / 256 ^ n)).toNat = X / 256 ^ n % 256 := UInt8.toNat_ofNat'
    have h4 : a * 256 ^ (n + 1) = a * 256 * 256 ^ n := by rw [Nat.pow_succ, Nat.mul_comm (256 ^ n) 256, Nat.mul_assoc]
    rw [h1, ih, h2, h3, h4, Nat.add_mul, Nat.mul_comm (X / 256 ^ n % 256) (256 ^ n)]
    omega

theorem val_be (n X : Nat) (h : X < 256 ^ n) : val (be n X) = (X : Int) := by
  rw [val_valN, valN_be, Nat.mod_eq_of_lt h]; simp

theorem rdNum_num (X : Nat) (rest : List UInt8) (hX : X < 18446744073709551616) : rdNum (numF X ++ rest) = ((X : Int), 0, (numF X).length) := by
  rw [numF_length]
  by_cases h : X ≤ 247
  · unfold numF sz
    rw [if_pos h, if_pos h]
    have e : (UInt8.ofNat X).toNat = X := by rw [UInt8.toNat_ofNat']; omega
    simp only [List.cons_append, List.nil_append, rdNum]
    rw [if_pos (by omega), e]
  · have hb := nb_bd X
    have hz : sz X = 1 + nb X := by unfold sz; rw [if_neg h]
    have e : (UInt8.ofNat (247 + nb X)).toNat = 247 + nb X := by rw [UInt8.toNat_ofNat']; omega
    rw [hz]
    unfold numF
    rw [if_neg h]
    simp only [List.cons_append, rdNum]
    rw [e, show 247 + nb X - 247 = nb X from by omega, List.take_left' (be_length _ _), val_be _ _ (lt_nb hX), Int.toNat_natCast]
    rw [if_neg (by omega), if_neg (by rw [List.length_append, be_length]; omega), if_pos hz]

theorem drop_num (X : Nat) (rest : List UInt8) : (numF X ++ rest).drop (numF X).length = rest := List.drop_left' rfl

theorem rdNums_nums (L : List Nat) (hL : ∀ x ∈ L, x < 18446744073709551616) (rest : List UInt8) : rdNums L.length (numsF L ++ rest) = (L.map (fun (n : Nat) => (n : Int)), 0, (numsF L).length) := by
  induction L with
  | nil => simp [rdNums, numsF]
  | cons x L ih =>
    have e : numsF (x :: L) ++ rest = numF x ++ (numsF L ++ rest) := by simp [numsF]
    have hx := hL x (by simp)
    rw [e, List.length_cons, rdNums_succ _ _ (by rw [rdNum_num _ _ hx]), rdNum_num _ _ hx]
    dsimp only
    rw [drop_num, ih (fun y hy => hL y (by simp [hy]))]
    simp [numsF]

theorem numsF_ge (L : List Nat) : L.length ≤ (numsF L).length := by
  induction L with
  | nil => simp
  | cons x L ih =>
    have h1 := numF_length x
    have h2 := sz_bd x
    have : numsF (x :: L) = numF x ++ numsF L := by simp [numsF]
    rw [this, List.length_append, List.length_cons]
    omega

theorem rdCount_num (n : Nat) (rest : List UInt8) (hn : n ≤ rest.length) (h : n < 18446744073709551616) : rdCount (numF n ++ rest) (n : Int) = ((n : Int), 0, (numF n).length) := by
  unfold rdCount
  rw [rdNum_num _ _ h]
  dsimp only
  rw [if_neg (by omega), if_neg (by omega), if_neg (by omega), if_neg (by rw [List.length_append]; omega)]

theorem rdTake_nums (L : List Nat) (hL : ∀ x ∈ L, x < 18446744073709551616) (h : L.length < 18446744073709551616) (rest : List UInt8) :
    rdTake (numF L.length ++ numsF L ++ rest) (L.length : Int) = (L.map (fun (n : Nat) => (n : Int)), 0, (numF L.length ++ numsF L).length) := by
  have hg := numsF_ge L
  rw [List.append_assoc]
  have hc := rdCount_num L.length (numsF L ++ rest) (by rw [List.length_append]; omega) h
  rw [rdTake_eq _ _ (by rw [hc]), hc]
  dsimp only
  rw [drop_num, Int.toNat_natCast, rdNums_nums L hL]
  unfold rdFin
  rw [if_neg (by simp), List.length_append]

theorem rdText_text (s : ByteArray) (h : s.size < 18446744073709551616) (rest : List UInt8) : rdText (textF s ++ rest) (s.size : Int) = (s.data.toList, 0, (textF s).length) := by
  have hl : s.data.toList.length = s.size := rfl
  unfold textF
  rw [List.append_assoc]
  have hc := rdCount_num s.size (s.data.toList ++ rest) (by rw [List.length_append]; omega) h
  unfold rdText
  rw [hc]
  dsimp only
  rw [if_neg (by simp), drop_num, Int.toNat_natCast, List.take_left' hl, List.length_append]
  rfl

theorem rdReal_be (X : Nat) (h : X < 18446744073709551616) (rest : List UInt8) : rdReal (be 8 X ++ rest) = (X, 0, 8) := by
  unfold rdReal
  rw [if_neg (by rw [List.length_append, be_length]; omega), List.take_left' (be_length _ _), val_be _ _ (by
    have : (256 : Nat) ^ 8 = 18446744073709551616 := by decide
    omega), Int.toNat_natCast]

end Go.Proofs.Ytchjkcghaddmhaa
