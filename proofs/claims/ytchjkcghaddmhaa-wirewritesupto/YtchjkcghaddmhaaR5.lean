/- Lists of numbers are read. -/
import Derived.Test.YtchjkcghaddmhaaR4
namespace Go.Proofs.Ytchjkcghaddmhaa
open Go.RowKit

/-- So many numbers, one behind the other: the numbers, the first error, how many bytes are read. -/
def rdNums : Nat → List UInt8 → List Int × Int × Nat
  | 0, _ => ([], 0, 0)
  | n + 1, l => if (rdNum l).2.1 ≠ 0 then ([], (rdNum l).2.1, 0)
    else ((rdNum l).1 :: (rdNums n (l.drop (rdNum l).2.2)).1, (rdNums n (l.drop (rdNum l).2.2)).2.1, (rdNum l).2.2 + (rdNums n (l.drop (rdNum l).2.2)).2.2)

/-- The things of a list behind its count, which has so many bytes. -/
def rdFin (T : List Int × Int × Nat) (c : Nat) : List Int × Int × Nat := if T.2.1 ≠ 0 then ([], T.2.1, 0) else (T.1, 0, c + T.2.2)

/-- A list at the head of some bytes: the numbers, the error, how many bytes are read. -/
def rdTake (l : List UInt8) (most : Int) : List Int × Int × Nat :=
  if (rdCount l most).2.1 ≠ 0 then ([], (rdCount l most).2.1, 0)
  else rdFin (rdNums (rdCount l most).1.toNat (l.drop (rdCount l most).2.2)) (rdCount l most).2.2

theorem rdTake_eq (l : List UInt8) (most : Int) (h : (rdCount l most).2.1 = 0) : rdTake l most = rdFin (rdNums (rdCount l most).1.toNat (l.drop (rdCount l most).2.2)) (rdCount l most).2.2 := by
  unfold rdTake
  rw [if_neg (by omega)]

theorem rdCount_facts (l : List UInt8) (most : Int) (h : (rdCount l most).2.1 = 0) : 0 ≤ (rdCount l most).1 ∧ (rdCount l most).2.2 + (rdCount l most).1 ≤ l.length ∧ (rdCount l most).1 ≤ most := by
  obtain ⟨f1, f2, f3, f4, f5, f6⟩ := rdNum_facts l
  unfold rdCount at h ⊢
  by_cases h0 : most < 0
  · rw [if_pos h0] at h; simp at h
  · rw [if_neg h0] at h ⊢
    by_cases h1 : (rdNum l).2.1 ≠ 0
    · rw [if_pos h1] at h; exact absurd h h1
    · rw [if_neg h1] at h ⊢
      by_cases h2 : most < (rdNum l).1
      · rw [if_pos h2] at h; simp at h
      · rw [if_neg h2] at h ⊢
        by_cases h3 : ((l.length - (rdNum l).2.2 : Nat) : Int) < (rdNum l).1
        · rw [if_pos h3] at h; simp at h
        · rw [if_neg h3]
          dsimp only
          omega

/-- A list of numbers in memory of its own, from block base on. -/
def NumsAt (w : World) (base : Nat) (u : Value) (L : List Int) : Prop := w.ownsRow base 32 1 u L.length (L.map (Value.int .u64))

/-- What Take leaves. -/
def RdTake (w : World) (b : Nat) (v : Value) (xs : List UInt8) (p : Nat) (t : List Int × Int × Nat) (e : Ending) (w' : World) : Prop :=
  ∃ u, e = .returned (.tuple #[u, .int .i64 t.2.1]) ∧ NumsAt w' w.heap.size u t.1 ∧ RdOut w b v xs (p + t.2.2) w'

/-- A fact kept from the walk. -/
theorem hid {q : Prop} (h : q) : Hid q := h

theorem owns_frm {S : Nat → Prop} {w w' : World} {base : Nat} {e : TypeId} {size : Nat} {v : Value} {n : Nat} {xs : List Value} (h : w.ownsRow base e size v n xs) (hf : Frm S w w') (hS : ∀ g, base ≤ g → ¬ S g) : w'.ownsRow base e size v n xs := by
  obtain ⟨h2, h3⟩ := h
  refine ⟨h2, ?_⟩
  rcases h3 with h3 | ⟨g, cap, cur, hv, hg, hh, rest⟩
  · exact .inl h3
  · refine .inr ⟨g, cap, cur, hv, hg, ?_, rest⟩
    rw [hf.block g (Array.getElem?_eq_some_iff.1 hh).1 (hS g hg)]
    exact hh

theorem owns_base {w : World} {base base' : Nat} {e : TypeId} {size : Nat} {v : Value} {n : Nat} {xs : List Value} (h : w.ownsRow base e size v n xs) (hb : base' ≤ base) : w.ownsRow base' e size v n xs := by
  obtain ⟨h2, h3⟩ := h
  refine ⟨h2, ?_⟩
  rcases h3 with h3 | ⟨g, cap, cur, hv, hg, rest⟩
  · exact .inl h3
  · exact .inr ⟨g, cap, cur, hv, by omega, rest⟩

/-- How the reading of a list stands, k things on. -/
structure TkInv (w wr : World) (b : Nat) (v : Value) (xs : List UInt8) (p s0 N k : Nat) (u : Value) (L : List Int) (q : Nat) : Prop where
  len : L.length = k
  own : wr.ownsRow (w.heap.size + 2) 32 1 u k (L.map (Value.int .u64))
  rd : Rd wr b v xs q
  frm : Frm (fun j => j = b) w wr
  mkd : Mk wr (w.heap.size + 1) w.heap.size b v p
  size : w.heap.size + 2 ≤ wr.heap.size
  at_ : s0 + (rdNums N (xs.drop s0)).2.2 = q + (rdNums (N - k) (xs.drop q)).2.2
  all : (rdNums N (xs.drop s0)).1 = L ++ (rdNums (N - k) (xs.drop q)).1
  err : (rdNums N (xs.drop s0)).2.1 = (rdNums (N - k) (xs.drop q)).2.1

theorem rdNums_succ (n : Nat) (l : List UInt8) (h : (rdNum l).2.1 = 0) : rdNums (n + 1) l =
    ((rdNum l).1 :: (rdNums n (l.drop (rdNum l).2.2)).1, (rdNums n (l.drop (rdNum l).2.2)).2.1, (rdNum l).2.2 + (rdNums n (l.drop (rdNum l).2.2)).2.2) := by
  simp only [rdNums]; rw [if_neg (by omega)]

theorem rdNums_err (n : Nat) (l : List UInt8) (h : (rdNum l).2.1 ≠ 0) : rdNums (n + 1) l = ([], (rdNum l).2.1, 0) := by
  simp only [rdNums]; rw [if_pos h]

/-- One thing more. -/
theorem tk_step {w wr w3 w4 : World} {b : Nat} {v : Value} {xs : List UInt8} {p s0 N k : Nat} {u u' : Value} {L : List Int} {q : Nat} (hb : b < w.heap.size) (hvb : ∀ g, v.ownBlock = some g → g < w.heap.size) (h : TkInv w wr b v xs p s0 N k u L q) (hk : k < N)
    (hz : (rdNum (xs.drop q)).2.1 = 0) (ho : RdOut wr b v xs (q + (rdNum (xs.drop q)).2.2) w3) (o : Obj) (hg : (w3.alloc o).grownBy w4 u.ownBlock)
    (hown : w4.ownsRow (w.heap.size + 2) 32 1 u' (k + 1) (L.map (Value.int .u64) ++ [.int .u64 (rdNum (xs.drop q)).1])) :
    TkInv w w4 b v xs p s0 N (k + 1) u' (L ++ [(rdNum (xs.drop q)).1]) (q + (rdNum (xs.drop q)).2.2) := by
  have hu := h.own.lt
  have hf34 : Frm (fun j => w.heap.size + 2 ≤ j) w3 w4 := ((Frm.refl _ w3).alloc o).grown hg (fun g e => .inr (hu g e).1)
  have hsz := ho.2.size
  have hN : N - k = (N - (k + 1)) + 1 := by omega
  have hs := rdNums_succ (N - (k + 1)) (xs.drop q) hz
  rw [← hN, List.drop_drop] at hs
  have hfw3 : Frm (fun j => j = b) w w3 := h.frm.trans ho.2 (fun _ _ h => h)
  refine ⟨by simp [h.len], by simpa using hown, ho.1.kept hf34 (by omega) (fun g e => by have := hvb g e; omega), ?_, ?_, by have := hf34.size; have := h.size; omega, ?_, ?_, ?_⟩
  · exact hfw3.trans hf34 (fun i hi e => by omega)
  · have hm := h.mkd.kept ho.2
    refine ⟨?_, ?_, hm.ca, hm.aa⟩
    · rw [hf34.block _ (Array.getElem?_eq_some_iff.1 hm.ptr).1 (by omega)]; exact hm.ptr
    · rw [hf34.block _ (Array.getElem?_eq_some_iff.1 hm.was).1 (by omega)]; exact hm.was
  · rw [h.at_, hs]; simp only; omega
  · rw [h.all, hs]; simp
  · rw [h.err, hs]

/-- All things were read. -/
theorem tk_end {w wr : World} {b : Nat} {v : Value} {xs : List UInt8} {p c N : Nat} {u : Value} {L : List Int} {q : Nat} (h : TkInv w wr b v xs p (p + c) N N u L q) :
    RdTake w b v xs p (rdFin (rdNums N (xs.drop (p + c))) c)
      (.returned (.tuple #[u, .int .i64 0])) wr := by
  have h1 := h.at_
  have h2 := h.all
  have h3 := h.err
  rw [Nat.sub_self] at h1 h2 h3
  simp only [rdNums, List.append_nil, Nat.add_zero] at h1 h2 h3
  unfold rdFin
  rw [if_neg (by rw [h3]; simp), h2]
  refine ⟨u, rfl, ?_, ?_, h.frm⟩
  · unfold NumsAt
    have := owns_base h.own (show w.heap.size ≤ w.heap.size + 2 by omega)
    rw [← h.len] at this
    exact this
  · rw [← Nat.add_assoc, h1]; exact h.rd

/-- A thing could not be read. -/
theorem tk_err {w wr : World} {b : Nat} {v : Value} {xs : List UInt8} {p c N k : Nat} {u : Value} {L : List Int} {q : Nat} (hk : k < N) (he : ¬ (rdNum (xs.drop q)).2.1 = 0) (h : TkInv w wr b v xs p (p + c) N k u L q)
    (w' : World) (ho : RdOut wr b v xs p w') :
    RdTake w b v xs p (rdFin (rdNums N (xs.drop (p + c))) c)
      (.returned (.tuple #[.slice none 0 0, .int .i64 (rdNum (xs.drop q)).2.1])) w' := by
  have h3 := h.err
  rw [show N - k = (N - (k + 1)) + 1 from by omega, rdNums_err _ _ he] at h3
  unfold rdFin
  rw [if_pos (by rw [h3]; exact he), h3]
  exact ⟨_, rfl, World.ownsRow_nil _ _ _ _, ho.1, h.frm.trans ho.2 (fun _ _ h => h)⟩

theorem eql_func73 (f : Nat) (a c : Array Value) (w : World) : (binOp BinOp.eql 73 (Value.func (Fn.func f) a c) Value.nilFunc).run Try.prog w = .ok (.bool false) w := by kernel_rfl

set_option maxRecDepth 100000 in
set_option maxHeartbeats 2000000 in
theorem rtake_any (b : Nat) (v : Value) (xs : List UInt8) (p : Nat) (most : Int) (w : World) (hr : Rd w b v xs p) (hlen : xs.length ≤ 900000000000) (hm : most ≤ 9223372036854775807) :
    Calls Try.prog 45 #[.pointer (some ⟨b, 0, none⟩), .int .i64 most, .func (.func 46) #[] #[]] w fun e w' => RdTake w b v xs p (rdTake (xs.drop p) most) e w' := by
  obtain ⟨i0, hi0, hz0, hz1, hz2⟩ := info_parts Try.info32
  have hle := hr.le
  have hnf := fun w => eql_func73 46 #[] #[] w
  obtain ⟨hmk, hr1, hf1⟩ := mk_new hr
  have hcnt := rcount_any b v xs p most _ hr1 hlen hm
  by_cases h0 : (rdCount (xs.drop p) most).2.1 ≠ 0
  · rw [show rdTake (xs.drop p) most = ([], (rdCount (xs.drop p) most).2.1, 0) from by unfold rdTake; rw [if_pos h0]]
    generalize rdCount (xs.drop p) most = t at *
    obtain ⟨x, er, c⟩ := t
    have ht : (er != 0) = true := by rw [bne_iff_ne]; exact h0
    have HN : Hid (Calls Try.prog 67 #[.pointer (some ⟨b, 0, none⟩), .int .i64 most] ((w.alloc (.cells #[.pointer (some ⟨b, 0, none⟩)] 44)).alloc (.cells #[v, .int .i64 (p : Int)] 93)) fun e w' => RdCnt ((w.alloc (.cells #[.pointer (some ⟨b, 0, none⟩)] 44)).alloc (.cells #[v, .int .i64 (p : Int)] 93)) b v xs p (x, er, c) e w') := hcnt
    clear hcnt h0
    go_enter Try.func45, Try.ntmps45
    go_wp2_with fail
    refine (mark_any b v xs p _ hr).mono ?_
    rintro e w1 ⟨rfl, rfl⟩
    go_wp2_with fail
    refine HN.out.mono ?_
    rintro e w2 ⟨rfl, q, ⟨hr2, hf2⟩, _⟩
    have hm2 := hmk.kept hf2
    go_wp2_with fail
    refine (back_any _ b _ v xs p _ _ hr2 hle hm2).mono ?_
    rintro e w3 ⟨rfl, hr3, hf3⟩
    go_wp2
    go_ret2
    exact ⟨_, rfl, World.ownsRow_nil _ _ _ _, hr3, (hf1.trans hf2 (fun _ _ h => h)).trans hf3 (fun _ _ h => h)⟩
  · have h0' : (rdCount (xs.drop p) most).2.1 = 0 := by omega
    obtain ⟨c1, c2, c3⟩ := rdCount_facts (xs.drop p) most h0'
    rw [rdTake_eq _ _ h0']
    generalize rdCount (xs.drop p) most = t at *
    obtain ⟨x, er, c⟩ := t
    dsimp only at h0' c1 c2 c3
    subst h0'
    obtain ⟨N, rfl⟩ := Int.eq_ofNat_of_zero_le c1
    have HN : Hid (Calls Try.prog 67 #[.pointer (some ⟨b, 0, none⟩), .int .i64 most] ((w.alloc (.cells #[.pointer (some ⟨b, 0, none⟩)] 44)).alloc (.cells #[v, .int .i64 (p : Int)] 93)) fun e w' => RdCnt ((w.alloc (.cells #[.pointer (some ⟨b, 0, none⟩)] 44)).alloc (.cells #[v, .int .i64 (p : Int)] 93)) b v xs p ((N : Int), 0, c) e w') := hcnt
    rw [List.length_drop] at c2
    clear hcnt h0 c3
    dsimp only
    rw [List.drop_drop, Int.toNat_natCast]
    go_enter Try.func45, Try.ntmps45
    go_wp2_with fail
    refine (mark_any b v xs p _ hr).mono ?_
    rintro e w1 ⟨rfl, rfl⟩
    go_wp2_with fail
    refine HN.out.mono ?_
    rintro e w2 ⟨rfl, q, ⟨hr2, hf2⟩, hq⟩
    obtain rfl := hq rfl
    dsimp only at hr2
    have hm2 := hmk.kept hf2
    have hf3 := hf1.trans hf2 (fun _ _ h => h)
    clear HN hq hmk hr1 hf1 hf2
    have hb := hr.lt
    have hvb : ∀ g, v.ownBlock = some g → g < w.heap.size := fun g e => (hr.row.2.lt g e).2
    have hsz2 : w.heap.size + 2 ≤ w2.heap.size := by
      have h1 := (Array.getElem?_eq_some_iff.1 hm2.was).1
      omega
    have hI : TkInv w w2 b v xs p (p + c) N 0 (.slice none 0 0) [] (p + c) := ⟨rfl, World.ownsRow_nil _ _ _ _, hr2, hf3, hm2, hsz2, by simp, by simp, by simp⟩
    clear hr2 hf3 hm2 hsz2
    go_wp2_with fail
    go_loopw [11, 12, 13, 34] (fun u _ _ i wr => ∃ k : Nat, k ≤ N ∧ i = .int .i64 (k : Int) ∧ ∃ L q, TkInv w wr b v xs p (p + c) N k u L q) (fun _ _ _ i _ => N - (intOf i).toNat)
    case atStart => exact ⟨0, Nat.zero_le _, rfl, [], _, hI⟩
    case round =>
      clear hI
      obtain ⟨k, hk, rfl, L, q, hinv⟩ := hrel
      by_cases hlt : k < N
      · have hrn := hid (take_any b v xs q wr hinv.rd hlen)
        obtain ⟨f1, f2, f3, f4, f5, f6⟩ := rdNum_facts (xs.drop q)
        have hown := hinv.own
        have hmkd := hinv.mkd
        have hrd := hinv.rd
        have hfr := hinv.frm
        have hsz := hinv.size
        by_cases he : (rdNum (xs.drop q)).2.1 = 0
        · have HS := hid (fun w3 w4 u' => tk_step (w3 := w3) (w4 := w4) (u' := u') hb hvb hinv hlt he)
          generalize rdNum (xs.drop q) = T at *
          obtain ⟨x, er, cc⟩ := T
          dsimp only at he f1 f2 f3
          subst he
          clear f4 f5 f6 hinv hr
          go_wp2_with fail
          refine hrn.out.mono ?_
          rintro e w3 ⟨rfl, ho⟩
          have hown3 := owns_frm hown ho.2 (fun g hg e => by omega)
          have hs3 := ho.2.size
          go_wp2_with (at_builtin; refine wpList_append_own _ (by rfl) _ _ 33 (by rfl) (w.heap.size + 2) 32 i0 _ 1 8 Try.underlying33 hi0 hz0 hz1 hz2 rfl (by omega) u11 k (L.map (Value.int .u64)) (by rfl) (hown3.alloc _) ⟨w3.heap.size, 0, none⟩ 1 1 [.int .u64 x] (by rfl) (by rfl) (World.news_of_block (cs := #[.int .u64 x]) (t := 32) (fr := (0, 0)) (heap_alloc_new w3 _)) (by simp [Value.oneCell']) (by unfold maxLen; omega) (by omega) (by simp; omega) ?_; intro u' w4 hown4 hgrow _)
          have hst := HS.out w3 w4 u' ho _ hgrow hown4
          clear hown4 hgrow hown3 hown hmkd hrd HS
          go_wp2
          go_roundw
          case rel => exact ⟨k + 1, by omega, by go_num, _, _, hst⟩
          case measure => simp [intOf]; omega
        · have hfin := hid (tk_err hlt he hinv)
          generalize rdNum (xs.drop q) = T at *
          obtain ⟨x, er, cc⟩ := T
          dsimp only at he f1 f2 f3
          have ht : (er != 0) = true := by rw [bne_iff_ne]; exact he
          clear f4 f5 f6 hinv hr he hown
          go_wp2_with fail
          refine hrn.out.mono ?_
          rintro e w3 ⟨rfl, hr3, hf3⟩
          have hm3 := hmkd.kept hf3
          go_wp2_with fail
          refine (back_any _ b _ v xs p _ _ hr3 hle hm3).mono ?_
          rintro e w4 ⟨rfl, hr4, hf4⟩
          have hf5 := hfin.out w4 ⟨hr4, hf3.trans hf4 (fun _ _ h => h)⟩
          clear hfin
          go_wp2
          go_ret2
          exact hf5
      · obtain rfl : k = N := by omega
        have hfin := hid (tk_end hinv)
        go_wp2_with fail
        go_ret2
        exact hfin.out

end Go.Proofs.Ytchjkcghaddmhaa
