/- Lists of texts are read. -/
import Derived.Test.YtchjkcghaddmhaaA2
namespace Go.Proofs.Ytchjkcghaddmhaa
open Go.RowKit

/-- A text of at most nine bytes at the head of some bytes. -/
def rdW (l : List UInt8) : List UInt8 × Int × Nat := rdText l 9

/-- A text's value. -/
def strV (x : List UInt8) : Value := .string ⟨x.toArray⟩

theorem Try.info9 : (Try.prog.info? 9).map (fun i => (i.zero, i.size, i.bytes)) = some (some (.string ⟨#[]⟩), 1, 16) := by kernel_rfl

set_option maxRecDepth 100000 in
set_option maxHeartbeats 1000000 in
theorem word_any (b : Nat) (v : Value) (xs : List UInt8) (p : Nat) (w : World) (hr : Rd w b v xs p) (hlen : xs.length ≤ 900000000000) :
    Calls Try.prog 60 #[.pointer (some ⟨b, 0, none⟩)] w fun e w' => RdAns w b v xs p (strV (rdW (xs.drop p)).1) (rdW (xs.drop p)).2.1 (rdW (xs.drop p)).2.2 e w' := by
  have hn := hid (rtext_any b v xs p 9 w hr hlen (by omega))
  unfold rdW strV
  generalize rdText (xs.drop p) 9 = t at *
  obtain ⟨x, er, c⟩ := t
  go_enter Try.func60, Try.ntmps60
  go_wp2_with fail
  refine hn.out.mono ?_
  rintro e w1 ⟨rfl, ho⟩
  go_wp2
  go_ret2
  exact ⟨rfl, ho⟩

/-- So many numbers, one behind the other: the numbers, the first error, how many bytes are read. -/
def rdTs : Nat → List UInt8 → List (List UInt8) × Int × Nat
  | 0, _ => ([], 0, 0)
  | n + 1, l => if (rdW l).2.1 ≠ 0 then ([], (rdW l).2.1, 0)
    else ((rdW l).1 :: (rdTs n (l.drop (rdW l).2.2)).1, (rdTs n (l.drop (rdW l).2.2)).2.1, (rdW l).2.2 + (rdTs n (l.drop (rdW l).2.2)).2.2)

/-- The things of a list behind its count, which has so many bytes. -/
def rdFinT (T : List (List UInt8) × Int × Nat) (c : Nat) : List (List UInt8) × Int × Nat := if T.2.1 ≠ 0 then ([], T.2.1, 0) else (T.1, 0, c + T.2.2)

/-- A list at the head of some bytes: the numbers, the error, how many bytes are read. -/
def rdTakeT (l : List UInt8) (most : Int) : List (List UInt8) × Int × Nat :=
  if (rdCount l most).2.1 ≠ 0 then ([], (rdCount l most).2.1, 0)
  else rdFinT (rdTs (rdCount l most).1.toNat (l.drop (rdCount l most).2.2)) (rdCount l most).2.2

theorem rdTakeT_eq (l : List UInt8) (most : Int) (h : (rdCount l most).2.1 = 0) : rdTakeT l most = rdFinT (rdTs (rdCount l most).1.toNat (l.drop (rdCount l most).2.2)) (rdCount l most).2.2 := by
  unfold rdTakeT
  rw [if_neg (by omega)]

/-- A list of numbers in memory of its own, from block base on. -/
def TextsAt (w : World) (base : Nat) (u : Value) (L : List (List UInt8)) : Prop := w.ownsRow base 9 1 u L.length (L.map strV)

/-- What Take leaves. -/
def RdTakeT (w : World) (b : Nat) (v : Value) (xs : List UInt8) (p : Nat) (t : List (List UInt8) × Int × Nat) (e : Ending) (w' : World) : Prop :=
  ∃ u, e = .returned (.tuple #[u, .int .i64 t.2.1]) ∧ TextsAt w' w.heap.size u t.1 ∧ RdOut w b v xs (p + t.2.2) w'

/-- How the reading of a list stands, k things on. -/
structure TkInvT (w wr : World) (b : Nat) (v : Value) (xs : List UInt8) (p s0 N k : Nat) (u : Value) (L : List (List UInt8)) (q : Nat) : Prop where
  len : L.length = k
  own : wr.ownsRow (w.heap.size + 2) 9 1 u k (L.map strV)
  rd : Rd wr b v xs q
  frm : Frm (fun j => j = b) w wr
  mkd : Mk wr (w.heap.size + 1) w.heap.size b v p
  size : w.heap.size + 2 ≤ wr.heap.size
  at_ : s0 + (rdTs N (xs.drop s0)).2.2 = q + (rdTs (N - k) (xs.drop q)).2.2
  all : (rdTs N (xs.drop s0)).1 = L ++ (rdTs (N - k) (xs.drop q)).1
  err : (rdTs N (xs.drop s0)).2.1 = (rdTs (N - k) (xs.drop q)).2.1

theorem rdTs_succ (n : Nat) (l : List UInt8) (h : (rdW l).2.1 = 0) : rdTs (n + 1) l =
    ((rdW l).1 :: (rdTs n (l.drop (rdW l).2.2)).1, (rdTs n (l.drop (rdW l).2.2)).2.1, (rdW l).2.2 + (rdTs n (l.drop (rdW l).2.2)).2.2) := by
  simp only [rdTs]; rw [if_neg (by omega)]

theorem rdTs_err (n : Nat) (l : List UInt8) (h : (rdW l).2.1 ≠ 0) : rdTs (n + 1) l = ([], (rdW l).2.1, 0) := by
  simp only [rdTs]; rw [if_pos h]

/-- One thing more. -/
theorem tkt_step {w wr w3 w4 : World} {b : Nat} {v : Value} {xs : List UInt8} {p s0 N k : Nat} {u u' : Value} {L : List (List UInt8)} {q : Nat} (hb : b < w.heap.size) (hvb : ∀ g, v.ownBlock = some g → g < w.heap.size) (h : TkInvT w wr b v xs p s0 N k u L q) (hk : k < N)
    (hz : (rdW (xs.drop q)).2.1 = 0) (ho : RdOut wr b v xs (q + (rdW (xs.drop q)).2.2) w3) (o : Obj) (hg : (w3.alloc o).grownBy w4 u.ownBlock)
    (hown : w4.ownsRow (w.heap.size + 2) 9 1 u' (k + 1) (L.map strV ++ [strV (rdW (xs.drop q)).1])) :
    TkInvT w w4 b v xs p s0 N (k + 1) u' (L ++ [(rdW (xs.drop q)).1]) (q + (rdW (xs.drop q)).2.2) := by
  have hu := h.own.lt
  have hf34 : Frm (fun j => w.heap.size + 2 ≤ j) w3 w4 := ((Frm.refl _ w3).alloc o).grown hg (fun g e => .inr (hu g e).1)
  have hsz := ho.2.size
  have hN : N - k = (N - (k + 1)) + 1 := by omega
  have hs := rdTs_succ (N - (k + 1)) (xs.drop q) hz
  rw [← hN, List.drop_drop] at hs
  have hfw3 : Frm (fun j => j = b) w w3 := h.frm.trans ho.2 (fun _ _ h => h)
  refine ⟨by simp [h.len], by simpa using hown, ho.1.kept hf34 (by omega) (fun g e => by have := hvb g e; omega), ?_, ?_, by have := hf34.size; have := h.size; omega, ?_, ?_, ?_⟩
  · exact hfw3.trans hf34 (fun i hi e => by omega)
  · have hm := h.mkd.kept ho.2
    refine ⟨?_, ?_, hm.ca, hm.aa⟩
    · rw [hf34.block _ (Array.getElem?_eq_some_iff.1 hm.ptr).1 (by omega)]; exact hm.ptr
    · rw [hf34.block _ (Array.getElem?_eq_some_iff.1 hm.was).1 (by omega)]; exact hm.was
  · rw [h.at_, hs]; simp only; omega
  · rw [h.all, hs]; simp
  · rw [h.err, hs]

/-- All things were read. -/
theorem tkt_end {w wr : World} {b : Nat} {v : Value} {xs : List UInt8} {p c N : Nat} {u : Value} {L : List (List UInt8)} {q : Nat} (h : TkInvT w wr b v xs p (p + c) N N u L q) :
    RdTakeT w b v xs p (rdFinT (rdTs N (xs.drop (p + c))) c)
      (.returned (.tuple #[u, .int .i64 0])) wr := by
  have h1 := h.at_
  have h2 := h.all
  have h3 := h.err
  rw [Nat.sub_self] at h1 h2 h3
  simp only [rdTs, List.append_nil, Nat.add_zero] at h1 h2 h3
  unfold rdFinT
  rw [if_neg (by rw [h3]; simp), h2]
  refine ⟨u, rfl, ?_, ?_, h.frm⟩
  · unfold TextsAt
    have := owns_base h.own (show w.heap.size ≤ w.heap.size + 2 by omega)
    rw [← h.len] at this
    exact this
  · rw [← Nat.add_assoc, h1]; exact h.rd

/-- A thing could not be read. -/
theorem tkt_err {w wr : World} {b : Nat} {v : Value} {xs : List UInt8} {p c N k : Nat} {u : Value} {L : List (List UInt8)} {q : Nat} (hk : k < N) (he : ¬ (rdW (xs.drop q)).2.1 = 0) (h : TkInvT w wr b v xs p (p + c) N k u L q)
    (w' : World) (ho : RdOut wr b v xs p w') :
    RdTakeT w b v xs p (rdFinT (rdTs N (xs.drop (p + c))) c)
      (.returned (.tuple #[.slice none 0 0, .int .i64 (rdW (xs.drop q)).2.1])) w' := by
  have h3 := h.err
  rw [show N - k = (N - (k + 1)) + 1 from by omega, rdTs_err _ _ he] at h3
  unfold rdFinT
  rw [if_pos (by rw [h3]; exact he), h3]
  exact ⟨_, rfl, World.ownsRow_nil _ _ _ _, ho.1, h.frm.trans ho.2 (fun _ _ h => h)⟩

theorem eql_func110 (f : Nat) (a c : Array Value) (w : World) : (binOp BinOp.eql 110 (Value.func (Fn.func f) a c) Value.nilFunc).run Try.prog w = .ok (.bool false) w := by kernel_rfl

set_option maxRecDepth 100000 in
set_option maxHeartbeats 2000000 in
theorem rtakeT_any (b : Nat) (v : Value) (xs : List UInt8) (p : Nat) (most : Int) (w : World) (hr : Rd w b v xs p) (hlen : xs.length ≤ 900000000000) (hm : most ≤ 9223372036854775807) :
    Calls Try.prog 59 #[.pointer (some ⟨b, 0, none⟩), .int .i64 most, .func (.func 60) #[] #[]] w fun e w' => RdTakeT w b v xs p (rdTakeT (xs.drop p) most) e w' := by
  obtain ⟨i0, hi0, hz0, hz1, hz2⟩ := info_parts Try.info9
  have hle := hr.le
  have hnf := fun w => eql_func110 60 #[] #[] w
  obtain ⟨hmk, hr1, hf1⟩ := mk_new hr
  have hcnt := rcount_any b v xs p most _ hr1 hlen hm
  by_cases h0 : (rdCount (xs.drop p) most).2.1 ≠ 0
  · rw [show rdTakeT (xs.drop p) most = ([], (rdCount (xs.drop p) most).2.1, 0) from by unfold rdTakeT; rw [if_pos h0]]
    generalize rdCount (xs.drop p) most = t at *
    obtain ⟨x, er, c⟩ := t
    have ht : (er != 0) = true := by rw [bne_iff_ne]; exact h0
    have HN : Hid (Calls Try.prog 67 #[.pointer (some ⟨b, 0, none⟩), .int .i64 most] ((w.alloc (.cells #[.pointer (some ⟨b, 0, none⟩)] 44)).alloc (.cells #[v, .int .i64 (p : Int)] 93)) fun e w' => RdCnt ((w.alloc (.cells #[.pointer (some ⟨b, 0, none⟩)] 44)).alloc (.cells #[v, .int .i64 (p : Int)] 93)) b v xs p (x, er, c) e w') := hcnt
    clear hcnt h0
    go_enter Try.func59, Try.ntmps59
    go_wp2_with fail
    refine (mark_any b v xs p _ hr).mono ?_
    rintro e w1 ⟨rfl, rfl⟩
    go_wp2_with fail
    refine HN.out.mono ?_
    rintro e w2 ⟨rfl, q, ⟨hr2, hf2⟩, _⟩
    have hm2 := hmk.kept hf2
    go_wp2_with fail
    refine (back_any _ b _ v xs p _ _ hr2 hle hm2).mono ?_
    rintro e w3 ⟨rfl, hr3, hf3⟩
    go_wp2
    go_ret2
    exact ⟨_, rfl, World.ownsRow_nil _ _ _ _, hr3, (hf1.trans hf2 (fun _ _ h => h)).trans hf3 (fun _ _ h => h)⟩
  · have h0' : (rdCount (xs.drop p) most).2.1 = 0 := by omega
    obtain ⟨c1, c2, c3⟩ := rdCount_facts (xs.drop p) most h0'
    rw [rdTakeT_eq _ _ h0']
    generalize rdCount (xs.drop p) most = t at *
    obtain ⟨x, er, c⟩ := t
    dsimp only at h0' c1 c2 c3
    subst h0'
    obtain ⟨N, rfl⟩ := Int.eq_ofNat_of_zero_le c1
    have HN : Hid (Calls Try.prog 67 #[.pointer (some ⟨b, 0, none⟩), .int .i64 most] ((w.alloc (.cells #[.pointer (some ⟨b, 0, none⟩)] 44)).alloc (.cells #[v, .int .i64 (p : Int)] 93)) fun e w' => RdCnt ((w.alloc (.cells #[.pointer (some ⟨b, 0, none⟩)] 44)).alloc (.cells #[v, .int .i64 (p : Int)] 93)) b v xs p ((N : Int), 0, c) e w') := hcnt
    rw [List.length_drop] at c2
    clear hcnt h0 c3
    dsimp only
    rw [List.drop_drop, Int.toNat_natCast]
    go_enter Try.func59, Try.ntmps59
    go_wp2_with fail
    refine (mark_any b v xs p _ hr).mono ?_
    rintro e w1 ⟨rfl, rfl⟩
    go_wp2_with fail
    refine HN.out.mono ?_
    rintro e w2 ⟨rfl, q, ⟨hr2, hf2⟩, hq⟩
    obtain rfl := hq rfl
    dsimp only at hr2
    have hm2 := hmk.kept hf2
    have hf3 := hf1.trans hf2 (fun _ _ h => h)
    clear HN hq hmk hr1 hf1 hf2
    have hb := hr.lt
    have hvb : ∀ g, v.ownBlock = some g → g < w.heap.size := fun g e => (hr.row.2.lt g e).2
    have hsz2 : w.heap.size + 2 ≤ w2.heap.size := by
      have h1 := (Array.getElem?_eq_some_iff.1 hm2.was).1
      omega
    have hI : TkInvT w w2 b v xs p (p + c) N 0 (.slice none 0 0) [] (p + c) := ⟨rfl, World.ownsRow_nil _ _ _ _, hr2, hf3, hm2, hsz2, by simp, by simp, by simp⟩
    clear hr2 hf3 hm2 hsz2
    go_wp2_with fail
    go_loopw [11, 12, 13, 34] (fun u _ _ i wr => ∃ k : Nat, k ≤ N ∧ i = .int .i64 (k : Int) ∧ ∃ L q, TkInvT w wr b v xs p (p + c) N k u L q) (fun _ _ _ i _ => N - (intOf i).toNat)
    case atStart => exact ⟨0, Nat.zero_le _, rfl, [], _, hI⟩
    case round =>
      clear hI
      obtain ⟨k, hk, rfl, L, q, hinv⟩ := hrel
      by_cases hlt : k < N
      · have hrn := hid (word_any b v xs q wr hinv.rd hlen)
        have hown := hinv.own
        have hmkd := hinv.mkd
        have hrd := hinv.rd
        have hfr := hinv.frm
        have hsz := hinv.size
        by_cases he : (rdW (xs.drop q)).2.1 = 0
        · have HS := hid (fun w3 w4 u' => tkt_step (w3 := w3) (w4 := w4) (u' := u') hb hvb hinv hlt he)
          generalize rdW (xs.drop q) = T at *
          obtain ⟨x, er, cc⟩ := T
          dsimp only at he
          subst he
          clear hinv hr
          go_wp2_with fail
          refine hrn.out.mono ?_
          rintro e w3 ⟨rfl, ho⟩
          have hown3 := owns_frm hown ho.2 (fun g hg e => by omega)
          have hs3 := ho.2.size
          rw [show strV x = Value.string ⟨x.toArray⟩ from rfl]
          go_wp2_with (at_builtin; refine wpList_append_own _ (by rfl) _ _ 34 (by rfl) (w.heap.size + 2) 9 i0 _ 1 16 Try.underlying34 hi0 hz0 hz1 hz2 rfl (by omega) u11 k (L.map strV) (by rfl) (hown3.alloc _) ⟨w3.heap.size, 0, none⟩ 1 1 [Value.string ⟨x.toArray⟩] (by rfl) (by rfl) (World.news_of_block (cs := #[Value.string ⟨x.toArray⟩]) (t := 9) (fr := (0, 0)) (heap_alloc_new w3 _)) (by simp [Value.oneCell']) (by unfold maxLen; omega) (by omega) (by simp; omega) ?_; intro u' w4 hown4 hgrow _)
          have hst := HS.out w3 w4 u' ho _ hgrow hown4
          clear hown4 hgrow hown3 hown hmkd hrd HS
          go_wp2
          go_roundw
          case rel => exact ⟨k + 1, by omega, by go_num, _, _, hst⟩
          case measure => simp [intOf]; omega
        · have hfin := hid (tkt_err hlt he hinv)
          generalize rdW (xs.drop q) = T at *
          obtain ⟨x, er, cc⟩ := T
          dsimp only at he
          have ht : (er != 0) = true := by rw [bne_iff_ne]; exact he
          clear hinv hr he hown
          go_wp2_with fail
          refine hrn.out.mono ?_
          rintro e w3 ⟨rfl, hr3, hf3⟩
          rw [show strV x = Value.string ⟨x.toArray⟩ from rfl]
          have hm3 := hmkd.kept hf3
          go_wp2_with fail
          refine (back_any _ b _ v xs p _ _ hr3 hle hm3).mono ?_
          rintro e w4 ⟨rfl, hr4, hf4⟩
          have hf5 := hfin.out w4 ⟨hr4, hf3.trans hf4 (fun _ _ h => h)⟩
          clear hfin
          go_wp2
          go_ret2
          exact hf5
      · obtain rfl : k = N := by omega
        have hfin := hid (tkt_end hinv)
        go_wp2_with fail
        go_ret2
        exact hfin.out

end Go.Proofs.Ytchjkcghaddmhaa
