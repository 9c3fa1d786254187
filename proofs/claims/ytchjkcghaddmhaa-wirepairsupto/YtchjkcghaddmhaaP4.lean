/- Lists of pairs are read. -/
import Derived.Test.YtchjkcghaddmhaaP3
namespace Go.Proofs.Ytchjkcghaddmhaa
open Go.RowKit

/-- So many pairs, one behind the other: the pairs, the first error, how many bytes are read. -/
def rdPairs : Nat → List UInt8 → List (Int × Int) × Int × Nat
  | 0, _ => ([], 0, 0)
  | n + 1, l => if (rdPair l).2.1 ≠ 0 then ([], (rdPair l).2.1, 0)
    else ((rdPair l).1 :: (rdPairs n (l.drop (rdPair l).2.2)).1, (rdPairs n (l.drop (rdPair l).2.2)).2.1, (rdPair l).2.2 + (rdPairs n (l.drop (rdPair l).2.2)).2.2)

/-- The things of a list behind its count, which has so many bytes. -/
def prFin (T : List (Int × Int) × Int × Nat) (c : Nat) : List (Int × Int) × Int × Nat := if T.2.1 ≠ 0 then ([], T.2.1, 0) else (T.1, 0, c + T.2.2)

/-- A list of pairs at the head of some bytes. -/
def prTake (l : List UInt8) (most : Int) : List (Int × Int) × Int × Nat :=
  if (rdCount l most).2.1 ≠ 0 then ([], (rdCount l most).2.1, 0)
  else prFin (rdPairs (rdCount l most).1.toNat (l.drop (rdCount l most).2.2)) (rdCount l most).2.2

theorem prTake_eq (l : List UInt8) (most : Int) (h : (rdCount l most).2.1 = 0) : prTake l most = prFin (rdPairs (rdCount l most).1.toNat (l.drop (rdCount l most).2.2)) (rdCount l most).2.2 := by
  unfold prTake
  rw [if_neg (by omega)]

/-- Pairs as cells. -/
def prCells (L : List (Int × Int)) : List Value := L.flatMap fun ab => [.int .u64 ab.1, .int .u64 ab.2]

theorem prCells_snoc (L : List (Int × Int)) (a b : Int) : prCells (L ++ [(a, b)]) = prCells L ++ [.int .u64 a, .int .u64 b] := by simp [prCells]

/-- A list of pairs in memory of its own, from block base on. -/
def PairsAt (w : World) (base : Nat) (u : Value) (L : List (Int × Int)) : Prop := w.ownsRow base 67 2 u L.length (prCells L)

/-- What Take leaves. -/
def PrTake (w : World) (b : Nat) (v : Value) (xs : List UInt8) (p : Nat) (t : List (Int × Int) × Int × Nat) (e : Ending) (w' : World) : Prop :=
  ∃ u, e = .returned (.tuple #[u, .int .i64 t.2.1]) ∧ PairsAt w' w.heap.size u t.1 ∧ RdOut w b v xs (p + t.2.2) w'

/-- How the reading of a list stands, k things on. -/
structure PkInv (w wr : World) (b : Nat) (v : Value) (xs : List UInt8) (p s0 N k : Nat) (u : Value) (L : List (Int × Int)) (q : Nat) : Prop where
  len : L.length = k
  own : wr.ownsRow (w.heap.size + 2) 67 2 u k (prCells L)
  rd : Rd wr b v xs q
  frm : Frm (fun j => j = b) w wr
  mkd : Mk wr (w.heap.size + 1) w.heap.size b v p
  size : w.heap.size + 2 ≤ wr.heap.size
  at_ : s0 + (rdPairs N (xs.drop s0)).2.2 = q + (rdPairs (N - k) (xs.drop q)).2.2
  all : (rdPairs N (xs.drop s0)).1 = L ++ (rdPairs (N - k) (xs.drop q)).1
  err : (rdPairs N (xs.drop s0)).2.1 = (rdPairs (N - k) (xs.drop q)).2.1

theorem rdPairs_succ (n : Nat) (l : List UInt8) (h : (rdPair l).2.1 = 0) : rdPairs (n + 1) l =
    ((rdPair l).1 :: (rdPairs n (l.drop (rdPair l).2.2)).1, (rdPairs n (l.drop (rdPair l).2.2)).2.1, (rdPair l).2.2 + (rdPairs n (l.drop (rdPair l).2.2)).2.2) := by
  simp only [rdPairs]; rw [if_neg (by omega)]

theorem rdPairs_err (n : Nat) (l : List UInt8) (h : (rdPair l).2.1 ≠ 0) : rdPairs (n + 1) l = ([], (rdPair l).2.1, 0) := by
  simp only [rdPairs]; rw [if_pos h]

/-- One thing more. -/
theorem pk_step {w wr w3 wm w4 : World} {b : Nat} {v : Value} {xs : List UInt8} {p s0 N k : Nat} {u u' : Value} {L : List (Int × Int)} {q : Nat} (hb : b < w.heap.size) (hvb : ∀ g, v.ownBlock = some g → g < w.heap.size) (h : PkInv w wr b v xs p s0 N k u L q) (hk : k < N)
    (hz : (rdPair (xs.drop q)).2.1 = 0) (ho : RdOut wr b v xs (q + (rdPair (xs.drop q)).2.2) w3) (hm3 : Frm (fun _ => False) w3 wm) (hg : wm.grownBy w4 u.ownBlock)
    (hown : w4.ownsRow (w.heap.size + 2) 67 2 u' (k + 1) (prCells L ++ [.int .u64 (rdPair (xs.drop q)).1.1, .int .u64 (rdPair (xs.drop q)).1.2])) :
    PkInv w w4 b v xs p s0 N (k + 1) u' (L ++ [(rdPair (xs.drop q)).1]) (q + (rdPair (xs.drop q)).2.2) := by
  have hu := h.own.lt
  have hf34 : Frm (fun j => w.heap.size + 2 ≤ j) w3 w4 := (hm3.mono (fun _ _ e => e.elim)).grown hg (fun g e => .inr (hu g e).1)
  have hsz := ho.2.size
  have hN : N - k = (N - (k + 1)) + 1 := by omega
  have hs := rdPairs_succ (N - (k + 1)) (xs.drop q) hz
  rw [← hN, List.drop_drop] at hs
  have hfw3 : Frm (fun j => j = b) w w3 := h.frm.trans ho.2 (fun _ _ h => h)
  refine ⟨by simp [h.len], by rw [prCells_snoc]; exact hown, ho.1.kept hf34 (by omega) (fun g e => by have := hvb g e; omega), ?_, ?_, by have := hf34.size; have := h.size; omega, ?_, ?_, ?_⟩
  · exact hfw3.trans hf34 (fun i hi e => by omega)
  · have hm := h.mkd.kept ho.2
    refine ⟨?_, ?_, hm.ca, hm.aa⟩
    · rw [hf34.block _ (Array.getElem?_eq_some_iff.1 hm.ptr).1 (by omega)]; exact hm.ptr
    · rw [hf34.block _ (Array.getElem?_eq_some_iff.1 hm.was).1 (by omega)]; exact hm.was
  · rw [h.at_, hs]; simp only; omega
  · rw [h.all, hs]; simp
  · rw [h.err, hs]

/-- All things were read. -/
theorem pk_end {w wr : World} {b : Nat} {v : Value} {xs : List UInt8} {p c N : Nat} {u : Value} {L : List (Int × Int)} {q : Nat} (h : PkInv w wr b v xs p (p + c) N N u L q) :
    PrTake w b v xs p (prFin (rdPairs N (xs.drop (p + c))) c) (.returned (.tuple #[u, .int .i64 0])) wr := by
  have h1 := h.at_
  have h2 := h.all
  have h3 := h.err
  rw [Nat.sub_self] at h1 h2 h3
  simp only [rdPairs, List.append_nil, Nat.add_zero] at h1 h2 h3
  unfold prFin
  rw [if_neg (by rw [h3]; simp), h2]
  refine ⟨u, rfl, ?_, ?_, h.frm⟩
  · unfold PairsAt
    have := owns_base h.own (show w.heap.size ≤ w.heap.size + 2 by omega)
    rw [← h.len] at this
    exact this
  · rw [← Nat.add_assoc, h1]; exact h.rd

/-- A thing could not be read. -/
theorem pk_err {w wr : World} {b : Nat} {v : Value} {xs : List UInt8} {p c N k : Nat} {u : Value} {L : List (Int × Int)} {q : Nat} (hk : k < N) (he : ¬ (rdPair (xs.drop q)).2.1 = 0) (h : PkInv w wr b v xs p (p + c) N k u L q)
    (w' : World) (ho : RdOut wr b v xs p w') :
    PrTake w b v xs p (prFin (rdPairs N (xs.drop (p + c))) c) (.returned (.tuple #[.slice none 0 0, .int .i64 (rdPair (xs.drop q)).2.1])) w' := by
  have h3 := h.err
  rw [show N - k = (N - (k + 1)) + 1 from by omega, rdPairs_err _ _ he] at h3
  unfold prFin
  rw [if_pos (by rw [h3]; exact he), h3]
  exact ⟨_, rfl, World.ownsRow_nil _ _ _ _, ho.1, h.frm.trans ho.2 (fun _ _ h => h)⟩

theorem eql_func68 (f : Nat) (a c : Array Value) (w : World) : (binOp BinOp.eql 68 (Value.func (Fn.func f) a c) Value.nilFunc).run Try.prog w = .ok (.bool false) w := by kernel_rfl
theorem Try.info67 : (Try.prog.info? 67).map (fun i => (i.zero, i.size, i.bytes)) = some (some (.agg #[.int .u64 0, .int .u64 0]), 2, 16) := by kernel_rfl

set_option maxRecDepth 100000 in
set_option maxHeartbeats 2000000 in
theorem prtake_any (b : Nat) (v : Value) (xs : List UInt8) (p : Nat) (most : Int) (w : World) (hr : Rd w b v xs p) (hlen : xs.length ≤ 900000000000) (hm : most ≤ 9223372036854775807) :
    Calls Try.prog 31 #[.pointer (some ⟨b, 0, none⟩), .int .i64 most, .func (.func 32) #[] #[]] w fun e w' => PrTake w b v xs p (prTake (xs.drop p) most) e w' := by
  obtain ⟨i0, hi0, hz0, hz1, hz2⟩ := info_parts Try.info67
  have hle := hr.le
  have hnf := fun w => eql_func68 32 #[] #[] w
  obtain ⟨hmk, hr1, hf1⟩ := mk_new hr
  have hcnt := rcount_any b v xs p most _ hr1 hlen hm
  by_cases h0 : (rdCount (xs.drop p) most).2.1 ≠ 0
  · rw [show prTake (xs.drop p) most = ([], (rdCount (xs.drop p) most).2.1, 0) from by unfold prTake; rw [if_pos h0]]
    generalize rdCount (xs.drop p) most = t at *
    obtain ⟨x, er, c⟩ := t
    have ht : (er != 0) = true := by rw [bne_iff_ne]; exact h0
    have HN : Hid (Calls Try.prog 67 #[.pointer (some ⟨b, 0, none⟩), .int .i64 most] ((w.alloc (.cells #[.pointer (some ⟨b, 0, none⟩)] 44)).alloc (.cells #[v, .int .i64 (p : Int)] 93)) fun e w' => RdCnt ((w.alloc (.cells #[.pointer (some ⟨b, 0, none⟩)] 44)).alloc (.cells #[v, .int .i64 (p : Int)] 93)) b v xs p (x, er, c) e w') := hcnt
    clear hcnt h0
    go_enter Try.func31, Try.ntmps31
    go_wp2_with fail
    refine (mark_any b v xs p _ hr).mono ?_
    rintro e w1 ⟨rfl, rfl⟩
    go_wp2_with fail
    refine HN.out.mono ?_
    rintro e w2 ⟨rfl, q, ⟨hr2, hf2⟩, _⟩
    have hm2 := hmk.kept hf2
    go_wp2_with fail
    refine (back_any _ b _ v xs p _ _ hr2 hle hm2).mono ?_
    rintro e w3 ⟨rfl, hr3, hf3⟩
    go_wp2
    go_ret2
    exact ⟨_, rfl, World.ownsRow_nil _ _ _ _, hr3, (hf1.trans hf2 (fun _ _ h => h)).trans hf3 (fun _ _ h => h)⟩
  · have h0' : (rdCount (xs.drop p) most).2.1 = 0 := by omega
    obtain ⟨c1, c2, c3⟩ := rdCount_facts (xs.drop p) most h0'
    rw [prTake_eq _ _ h0']
    generalize rdCount (xs.drop p) most = t at *
    obtain ⟨x, er, c⟩ := t
    dsimp only at h0' c1 c2 c3
    subst h0'
    obtain ⟨N, rfl⟩ := Int.eq_ofNat_of_zero_le c1
    have HN : Hid (Calls Try.prog 67 #[.pointer (some ⟨b, 0, none⟩), .int .i64 most] ((w.alloc (.cells #[.pointer (some ⟨b, 0, none⟩)] 44)).alloc (.cells #[v, .int .i64 (p : Int)] 93)) fun e w' => RdCnt ((w.alloc (.cells #[.pointer (some ⟨b, 0, none⟩)] 44)).alloc (.cells #[v, .int .i64 (p : Int)] 93)) b v xs p ((N : Int), 0, c) e w') := hcnt
    rw [List.length_drop] at c2
    clear hcnt h0 c3
    dsimp only
    rw [List.drop_drop, Int.toNat_natCast]
    go_enter Try.func31, Try.ntmps31
    go_wp2_with fail
    refine (mark_any b v xs p _ hr).mono ?_
    rintro e w1 ⟨rfl, rfl⟩
    go_wp2_with fail
    refine HN.out.mono ?_
    rintro e w2 ⟨rfl, q, ⟨hr2, hf2⟩, hq⟩
    obtain rfl := hq rfl
    dsimp only at hr2
    have hm2 := hmk.kept hf2
    have hf3 := hf1.trans hf2 (fun _ _ h => h)
    clear HN hq hmk hr1 hf1 hf2
    have hb := hr.lt
    have hvb : ∀ g, v.ownBlock = some g → g < w.heap.size := fun g e => (hr.row.2.lt g e).2
    have hsz2 : w.heap.size + 2 ≤ w2.heap.size := by
      have h1 := (Array.getElem?_eq_some_iff.1 hm2.was).1
      omega
    have hI : PkInv w w2 b v xs p (p + c) N 0 (.slice none 0 0) [] (p + c) := ⟨rfl, World.ownsRow_nil _ _ _ _, hr2, hf3, hm2, hsz2, by simp, by simp, by simp⟩
    clear hr2 hf3 hm2 hsz2
    go_wp2_with fail
    go_loopw [11, 12, 13, 34] (fun u _ _ i wr => ∃ k : Nat, k ≤ N ∧ i = .int .i64 (k : Int) ∧ ∃ L q, PkInv w wr b v xs p (p + c) N k u L q) (fun _ _ _ i _ => N - (intOf i).toNat)
    case atStart => exact ⟨0, Nat.zero_le _, rfl, [], _, hI⟩
    case round =>
      clear hI
      obtain ⟨k, hk, rfl, L, q, hinv⟩ := hrel
      by_cases hlt : k < N
      · have hrn := hid (pair_any b v xs q wr hinv.rd hlen)
        have hown := hinv.own
        have hmkd := hinv.mkd
        have hrd := hinv.rd
        have hfr := hinv.frm
        have hsz := hinv.size
        by_cases he : (rdPair (xs.drop q)).2.1 = 0
        · have HS := hid (fun w3 wm w4 u' => pk_step (w3 := w3) (wm := wm) (w4 := w4) (u' := u') hb hvb hinv hlt he)
          generalize rdPair (xs.drop q) = T at *
          obtain ⟨⟨xa, xb⟩, er, cc⟩ := T
          dsimp only at he
          subst he
          clear hinv hr
          go_wp2_with fail
          refine hrn.out.mono ?_
          rintro e w3 ⟨rfl, ho⟩
          have hown3 := owns_frm hown ho.2 (fun g hg e => by omega)
          have hs3 := ho.2.size
          have hnew : ((w3.alloc (.cells #[.int .u64 xa, .int .u64 xb] 67)).alloc (.cells #[.int .u64 xa, .int .u64 xb] 67)).heap[w3.heap.size + 1]? = some (.cells #[.int .u64 xa, .int .u64 xb] 67 (0, 0)) := by
            have := heap_alloc_new (w3.alloc (.cells #[.int .u64 xa, .int .u64 xb] 67)) (.cells #[.int .u64 xa, .int .u64 xb] 67)
            simpa using this
          have hnews := World.news_of_block (cs := #[.int .u64 xa, .int .u64 xb]) (t := 67) (fr := (0, 0)) hnew
          clear hnew
          go_wp2_with (at_builtin; refine wpList_append_own _ (by rfl) _ _ 64 (by rfl) (w.heap.size + 2) 67 i0 _ 2 16 Try.underlying64 hi0 hz0 hz1 hz2 rfl (by omega) u11 k (prCells L) (by rfl) ((hown3.alloc _).alloc _) ⟨w3.heap.size + 1, 0, none⟩ 1 1 [.int .u64 xa, .int .u64 xb] (by rfl) (by rfl) hnews (by simp [Value.oneCell']) (by unfold maxLen; omega) (by omega) (by simp; omega) ?_; intro u' w4 hown4 hgrow _)
          have hst := HS.out w3 _ w4 u' ho (((Frm.refl _ _).alloc _).alloc _) hgrow hown4
          clear hown4 hgrow hown3 hown hmkd hrd HS
          go_wp2
          go_roundw
          case rel => exact ⟨k + 1, by omega, by go_num, _, _, hst⟩
          case measure => simp [intOf]; omega
        · have hfin := hid (pk_err hlt he hinv)
          generalize rdPair (xs.drop q) = T at *
          obtain ⟨⟨xa, xb⟩, er, cc⟩ := T
          dsimp only at he
          have ht : (er != 0) = true := by rw [bne_iff_ne]; exact he
          clear hinv hr he hown
          go_wp2_with fail
          refine hrn.out.mono ?_
          rintro e w3 ⟨rfl, hr3, hf3⟩
          have hal : Frm (fun j => j = b) w3 (w3.alloc (.cells #[.int .u64 xa, .int .u64 xb] 67)) := (Frm.refl _ _).alloc _
          have hf3' := hf3.trans hal (fun _ _ h => h)
          have hr3' := hr3.kept (S := fun _ => False) ((Frm.refl _ _).alloc (.cells #[.int .u64 xa, .int .u64 xb] 67)) (fun e => e) (fun _ _ e => e)
          have hm3 := hmkd.kept hf3'
          go_wp2_with fail
          refine (back_any _ b _ v xs p _ _ hr3' hle hm3).mono ?_
          rintro e w4 ⟨rfl, hr4, hf4⟩
          have hf5 := hfin.out w4 ⟨hr4, hf3'.trans hf4 (fun _ _ h => h)⟩
          clear hfin
          go_wp2
          go_ret2
          exact hf5
      · obtain rfl : k = N := by omega
        have hfin := hid (pk_end hinv)
        go_wp2_with fail
        go_ret2
        exact hfin.out

end Go.Proofs.Ytchjkcghaddmhaa
