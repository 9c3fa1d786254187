/- The writer's calls. -/
import Derived.Test.YtchjkcghaddmhaaW1
import Derived.Test.YtchjkcghaddmhaaW2
import Derived.Deep.QuietTactic
import Derived.BigQuiet
import Derived.Lib.Zigzag
namespace Go.Proofs.Ytchjkcghaddmhaa
open Go.RowKit

theorem high_int (b : Nat) (r : Option Nat) (xs : List UInt8) (x n : Int) (w : World) (hw : Wr w b r xs) (hx : 0 ≤ x) (hn0 : 0 ≤ n) (hn : n ≤ 8) (hlen : xs.length ≤ 900000000000) :
    Calls Try.prog 63 #[.pointer (some ⟨b, 0, none⟩), .int .u64 x, .int .i64 n] w fun e w' => e = .returned (.tuple #[]) ∧ WrOut w b r (xs ++ be n.toNat x.toNat) w' := by
  have h := high_any b r xs x.toNat n.toNat w hw (by omega) (by omega)
  rw [show ((x.toNat : Nat) : Int) = x from by omega, show ((n.toNat : Nat) : Int) = n from by omega] at h
  exact h

theorem slice_of_owns {w : World} {base : Nat} {e : TypeId} {size : Nat} {v : Value} {n : Nat} {xs : List Value} (h : w.ownsRow base e size v n xs) : ∃ ao cap, v = .slice ao n cap := by
  rcases h.2 with ⟨h, hn⟩ | ⟨g, cap, cur, h, _⟩
  · exact ⟨none, 0, by rw [h, hn]⟩
  · exact ⟨_, _, h⟩

/-- A number's form. -/
def numF (X : Nat) : List UInt8 := if X ≤ 247 then [UInt8.ofNat X] else UInt8.ofNat (247 + nb X) :: be (nb X) X

theorem numF_length (X : Nat) : (numF X).length = sz X := by
  unfold numF sz
  split
  · rfl
  · simp [be_length]; omega

theorem sz_bd (X : Nat) : 1 ≤ sz X ∧ sz X ≤ 9 := by
  have := nb_bd X
  unfold sz; split <;> omega

theorem numF_parts {x : Int} {xs : List UInt8} (hs : 247 < x) (hz : sz x.toNat = 1 + nb x.toNat) :
    xs ++ numF x.toNat = xs ++ be (Int.toNat 1) (247 + (↑(sz x.toNat) - 1) : Int).toNat ++ be (↑(sz x.toNat) - 1 : Int).toNat x.toNat := by
  rw [hz]
  have e1 : (247 + (((1 + nb x.toNat : Nat) : Int) - 1)).toNat = 247 + nb x.toNat := by omega
  have e2 : (((1 + nb x.toNat : Nat) : Int) - 1).toNat = nb x.toNat := by omega
  rw [e1, e2]
  unfold numF
  rw [if_neg (by omega)]
  simp [be]

set_option maxRecDepth 100000 in
set_option maxHeartbeats 1000000 in
theorem wnumber_any (b : Nat) (r : Option Nat) (xs : List UInt8) (x : Int) (w : World) (hw : Wr w b r xs) (hx : 0 ≤ x) (hX : x ≤ 18446744073709551615) (hlen : xs.length ≤ 800000000000) :
    Calls Try.prog 24 #[.pointer (some ⟨b, 0, none⟩), .int .u64 x] w fun e w' => e = .returned (.int .i64 0) ∧ WrOut w b r (xs ++ numF x.toNat) w' := by
  by_cases hs : x ≤ 247
  · have hz : Hid (numF x.toNat = be 1 x.toNat) := by show numF x.toNat = be 1 x.toNat; unfold numF; rw [if_pos (by omega)]; simp [be]
    go_enter Try.func24, Try.ntmps24
    go_wp2_with fail
    refine (high_int b r xs x 1 _ hw hx (by omega) (by omega) (by omega)).mono ?_
    rintro e w' ⟨rfl, ho⟩
    go_wp2
    go_ret
    exact ⟨rfl, by rw [hz.out]; exact ho⟩
  · have hb := nb_bd x.toNat
    have hz : Hid (sz x.toNat = 1 + nb x.toNat) := by show sz x.toNat = 1 + nb x.toNat; unfold sz; rw [if_neg (by omega)]
    have hsb := sz_bd x.toNat
    go_enter Try.func24, Try.ntmps24
    go_wp2_with fail
    refine (size_any x _ hx hX).mono ?_
    rintro e w' ⟨rfl, rfl⟩
    go_wp2_with fail
    refine (high_int b r xs _ 1 _ hw (by omega) (by omega) (by omega) (by omega)).mono ?_
    rintro e w1 ⟨rfl, ho⟩
    obtain ⟨r1, hw1, hf1, hr1⟩ := ho
    go_wp2_with fail
    refine (high_int b r1 _ x _ _ hw1 hx (by omega) (by omega) (by simp [be_length]; omega)).mono ?_
    rintro e w2 ⟨rfl, ho2⟩
    go_wp2
    go_ret
    refine ⟨rfl, WrOut.next hf1 hr1 ?_⟩
    rw [numF_parts hs hz.out]
    exact ho2

theorem Try.info32 : (Try.prog.info? 32).map (fun i => (i.zero, i.size, i.bytes)) = some (some (.int .u64 0), 1, 8) := by kernel_rfl

theorem num_any (n : Int) (w : World) : Calls Try.prog 22 #[.int .i64 n] w fun e w' => e = .returned (.int .i64 n) ∧ w' = w := by
  go_enter Try.func22, Try.ntmps22
  go_wp2
  go_ret
  exact ⟨rfl, rfl⟩

set_option maxHeartbeats 1000000 in
theorem fold_any (x : Int) (w : World) (h0 : -9223372036854775808 ≤ x) (h1 : x ≤ 9223372036854775807) :
    Calls Try.prog 27 #[.int .i64 x] w fun e w' => e = .returned (.int .u64 (Lib.zigzag x : Int)) ∧ w' = w := by
  by_cases hs : x < 0
  · go_enter Try.func27, Try.ntmps27
    go_wp2
    go_ret
    exact ⟨ret_i (Lib.zigzag_neg h0 hs), rfl⟩
  · go_enter Try.func27, Try.ntmps27
    go_wp2
    go_ret
    exact ⟨ret_i (Lib.zigzag_nonneg hs).symm, rfl⟩

/-- The number whose fold that is. -/
def unfoldN (x : Int) : Int := if x % 2 = 0 then x / 2 else - (x / 2) - 1

theorem i64_not' (y : Int) (h0 : 0 ≤ y) (h1 : y ≤ 9223372036854775807) : bits .xor .i64 (-1) y = -y - 1 := by
  have := Lib.i64_not y.toNat (by omega)
  rw [show ((y.toNat : Nat) : Int) = y from by omega] at this
  exact this

set_option maxHeartbeats 1000000 in
theorem unfold_any (x : Int) (w : World) (h0 : 0 ≤ x) (h1 : x ≤ 18446744073709551615) :
    Calls Try.prog 29 #[.int .u64 x] w fun e w' => e = .returned (.int .i64 (unfoldN x)) ∧ w' = w := by
  by_cases hs : x % 2 = 0
  · have ht : (bits BinOp.and IntKind.u64 x 1 == 1) = false := by rw [and_one_u64 x h0 h1, hs]; rfl
    go_enter Try.func29, Try.ntmps29
    go_wp2
    go_ret
    exact ⟨ret_i (by unfold unfoldN; rw [if_pos hs]), rfl⟩
  · have ht : (bits BinOp.and IntKind.u64 x 1 == 1) = true := by rw [and_one_u64 x h0 h1, beq_iff_eq]; omega
    go_enter Try.func29, Try.ntmps29
    go_wp2
    go_ret
    exact ⟨ret_i (by unfold unfoldN; rw [if_neg hs]; exact i64_not' _ (by omega) (by omega)), rfl⟩

set_option maxHeartbeats 1000000 in
theorem wsigned_any (b : Nat) (r : Option Nat) (xs : List UInt8) (x : Int) (w : World) (hw : Wr w b r xs) (hx : -9223372036854775808 ≤ x) (hX : x ≤ 9223372036854775807) (hlen : xs.length ≤ 800000000000) :
    Calls Try.prog 34 #[.pointer (some ⟨b, 0, none⟩), .int .i64 x] w fun e w' => e = .returned (.int .i64 0) ∧ WrOut w b r (xs ++ numF (Lib.zigzag x)) w' := by
  have hz := Lib.zigzag_lt hx hX
  go_enter Try.func34, Try.ntmps34
  go_wp2_with fail
  refine (fold_any x _ hx hX).mono ?_
  rintro e w' ⟨rfl, rfl⟩
  go_wp2_with fail
  refine (wnumber_any b r xs _ _ hw (by omega) (by omega) hlen).mono ?_
  rintro e w1 ⟨rfl, ho⟩
  go_wp2
  go_ret
  exact ⟨rfl, ho⟩

theorem newWriter_any (w : World) : Calls Try.prog 9 #[] w fun e w' => e = .returned (.pointer (some ⟨w.heap.size, 0, none⟩)) ∧ w' = w.alloc (.cells #[.slice none 0 0] 27) := by
  go_enter Try.func9, Try.ntmps9
  go_wp2
  go_ret
  exact ⟨rfl, rfl⟩

theorem wr_new (w : World) : Wr (w.alloc (.cells #[.slice none 0 0] 27)) w.heap.size none [] :=
  ⟨_, heap_alloc_new w _, rfl, World.ownsRow_nil _ _ _ _⟩

set_option maxHeartbeats 1000000 in
theorem wlen_any (b : Nat) (r : Option Nat) (xs : List UInt8) (w : World) (hw : Wr w b r xs) :
    Calls Try.prog 12 #[.pointer (some ⟨b, 0, none⟩)] w fun e w' => e = .returned (.int .i64 (xs.length : Int)) ∧ w' = w := by
  obtain ⟨v, hv, hr1, hr2⟩ := hw
  obtain ⟨hc, hfz⟩ := cell_wr hv
  obtain ⟨ao, cap, rfl⟩ := slice_of_owns hr2
  go_enter Try.func12, Try.ntmps12
  go_wp2
  go_ret
  exact ⟨rfl, rfl⟩

set_option maxRecDepth 100000 in
set_option maxHeartbeats 1000000 in
theorem wflag_any (b : Nat) (r : Option Nat) (xs : List UInt8) (x : Bool) (w : World) (hw : Wr w b r xs) (hlen : xs.length ≤ 800000000000) :
    Calls Try.prog 35 #[.pointer (some ⟨b, 0, none⟩), .bool x] w fun e w' => e = .returned (.int .i64 0) ∧ WrOut w b r (xs ++ [if x then 1 else 0]) w' := by
  obtain ⟨i0, hi0, hz0, hz1, hz2⟩ := info_parts Try.info5
  obtain ⟨v, hv, hr1, hr2⟩ := hw
  obtain ⟨hc, hfz⟩ := cell_wr hv
  have hbr : b < w.heap.size := (Array.getElem?_eq_some_iff.1 hv).1
  cases x
  · go_enter Try.func35, Try.ntmps35
    go_wp2_with (at_builtin; refine wpList_append_lies _ (by rfl) _ _ _ (by rfl) (b + 1) 5 i0 _ 1 1 Try.underlying25 hi0 hz0 hz1 hz2 rfl (by omega) v xs.length (xs.map byteV) (by rfl) (hr2.alloc _) ⟨w.heap.size, 0, none⟩ 1 1 [.int .u8 0] (by rfl) (by rfl) (World.news_of_block (cs := #[.int .u8 0]) (t := 5) (fr := (0, 0)) (heap_alloc_new w _)) (by simp [Value.oneCell']) (by omega) (by unfold maxLen; omega) (by omega) (by simp; omega) (w.heap.size + 1) (by simp) ?_; intro g cap w1 hown1 hgrow hat hlt1; obtain ⟨hc1, hfz1⟩ := cell_wr (wr_grown hv hr2 ((Frm.refl _ _).alloc _) hgrow))
    go_ret
    exact ⟨rfl, wr_step (zs := [0]) (Frm.refl _ _) (.inl rfl) hv hr1 hr2 ((Frm.refl _ _).alloc _) hgrow (by simp) hown1 hat (by omega)⟩
  · go_enter Try.func35, Try.ntmps35
    go_wp2_with (at_builtin; refine wpList_append_lies _ (by rfl) _ _ _ (by rfl) (b + 1) 5 i0 _ 1 1 Try.underlying25 hi0 hz0 hz1 hz2 rfl (by omega) v xs.length (xs.map byteV) (by rfl) (hr2.alloc _) ⟨w.heap.size, 0, none⟩ 1 1 [.int .u8 1] (by rfl) (by rfl) (World.news_of_block (cs := #[.int .u8 1]) (t := 5) (fr := (0, 0)) (heap_alloc_new w _)) (by simp [Value.oneCell']) (by omega) (by unfold maxLen; omega) (by omega) (by simp; omega) (w.heap.size + 1) (by simp) ?_; intro g cap w1 hown1 hgrow hat hlt1; obtain ⟨hc1, hfz1⟩ := cell_wr (wr_grown hv hr2 ((Frm.refl _ _).alloc _) hgrow))
    go_ret
    exact ⟨rfl, wr_step (zs := [1]) (Frm.refl _ _) (.inl rfl) hv hr1 hr2 ((Frm.refl _ _).alloc _) hgrow (by simp) hown1 hat (by omega)⟩

end Go.Proofs.Ytchjkcghaddmhaa
