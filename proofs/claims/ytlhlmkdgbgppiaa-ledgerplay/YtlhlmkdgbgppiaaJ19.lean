/- What the two tell of themselves: told, line, Has, Same, copies. -/
import Derived.Test.YtlhlmkdgbgppiaaJ18
import Derived.Test.YtlhlmkdgbgppiaaF1
namespace Go.Proofs.Ytlhlmkdgbgppiaa
open Go.RowKit Go.Shelf Go.Maps

theorem told_pair (k : Bk) (leave : Int) (w : World) (h : BkOk w k) (hP : k.x.P.length ≤ 200) :
    Calls Try.prog 8 #[k.x.ptr, .pointer (some ⟨k.rb, 0, none⟩), .int .i64 leave] w fun e w' => e = .returned (.bool true) ∧ Old w w' :=
  lawtold_any k.x k.rb k.D k.B k.P leave w h.l h.o h.d h.r.rows hP h.okN h.r.rel.lb h.r.rel.has (fun i hi => (h.dl i hi).2)

theorem line_pair (k : Bk) (nm : List UInt8) (leave : Int) (w : World) (h : BkOk w k) (hP : k.x.P.length ≤ 200) (hn : nm.length ≤ maxLen) :
    Calls Try.prog 29 #[k.x.ptr, .pointer (some ⟨k.rb, 0, none⟩), .string ⟨nm.toArray⟩, .int .i64 leave] w fun e w' => e = .returned (.bool true) ∧ Old w w' :=
  lawline_any k.x k.rb k.D k.B k.P nm leave w h.l h.o h.d hn h.r.len hP h.okN (fun _ hk => h.r.line h.o.len h.o.nd h.o.ps hk)

/-- Rows by names are rows by numbers. -/
theorem ents_inj {L : List (List UInt8)} (hnd : L.Nodup) : ∀ {p q : List En}, (∀ e ∈ p, e.1 < L.length) → (∀ e ∈ q, e.1 < L.length) → entsOf L p = entsOf L q → p = q
  | [], [], _, _, _ => rfl
  | [], _ :: _, _, _, h => by simp [entsOf] at h
  | _ :: _, [], _, _, h => by simp [entsOf] at h
  | e :: p, f :: q, hp, hq, h => by
    simp only [entsOf, List.map_cons, List.cons.injEq, Prod.mk.injEq] at h
    have h1 := ents_inj hnd (p := p) (q := q) (fun y hy => hp y (List.mem_cons_of_mem _ hy)) (fun y hy => hq y (List.mem_cons_of_mem _ hy)) h.2
    have h2 := idx_at hnd (hp e (List.mem_cons_self ..))
    rw [h.1.1, idx_at hnd (hq f (List.mem_cons_self ..))] at h2
    rw [h1, show e = f from Prod.ext (Option.some.inj h2).symm h.1.2]
theorem rows_inj {L : List (List UInt8)} (hnd : L.Nodup) : ∀ {R T : List (List En)}, (∀ p ∈ R, ∀ e ∈ p, e.1 < L.length) → (∀ p ∈ T, ∀ e ∈ p, e.1 < L.length) → R.map (entsOf L) = T.map (entsOf L) → R = T
  | [], [], _, _, _ => rfl
  | [], _ :: _, _, _, h => by simp at h
  | _ :: _, [], _, _, h => by simp at h
  | p :: R, q :: T, hp, hq, h => by
    simp only [List.map_cons, List.cons.injEq] at h
    rw [ents_inj hnd (hp p (List.mem_cons_self ..)) (hq q (List.mem_cons_self ..)) h.1, rows_inj hnd (R := R) (T := T) (fun y hy => hp y (List.mem_cons_of_mem _ hy)) (fun y hy => hq y (List.mem_cons_of_mem _ hy)) h.2]

theorem RelP.same {L L2 : List (List UInt8)} {A A2 : List Ac} {R R2 : List (List En)} {B B2 : List Int} {P P2 : List (List Es)} (h : RelP L A R B P) (h2 : RelP L2 A2 R2 B2 P2) (hl : L.length = A.length) (hl2 : L2.length = A2.length) (hnd : L.Nodup) (ho : ∀ p ∈ R, OkP A.length p) (ho2 : ∀ p ∈ R2, OkP A2.length p) :
    (L = L2 ∧ A = A2 ∧ R = R2) ↔ (L = L2 ∧ B = B2 ∧ P = P2) := by
  constructor
  · rintro ⟨rfl, rfl, rfl⟩
    exact ⟨rfl, by rw [h.rel.lb, h2.rel.lb], by rw [h.rows, h2.rows]⟩
  · rintro ⟨rfl, hB, hP⟩
    refine ⟨rfl, ?_, ?_⟩
    · refine List.ext_getElem (by omega) (fun i h3 h4 => ?_)
      have e1 := h.rel.has i h3
      have e2 := h2.rel.has i h4
      rw [hP, ← e2, getD_get h3, getD_get h4] at e1
      have e3 : A[i].1 = A2[i].1 := by
        have h5 : (A.map Prod.fst)[i]? = (A2.map Prod.fst)[i]? := by rw [← h.rel.lb, ← h2.rel.lb, hB]
        rw [List.getElem?_map, List.getElem?_map, List.getElem?_eq_getElem h3, List.getElem?_eq_getElem h4] at h5
        simpa using h5
      exact Prod.ext e3 e1
    · rw [h.rows, h2.rows] at hP
      exact rows_inj hnd (fun p hp e he => by rw [hl]; exact ((ho p hp).each e he).1) (fun p hp e he => by rw [hl2]; exact ((ho2 p hp).each e he).1) hP

/-- Both tell whether two are the same. -/
theorem same_pair (k k2 : Bk) (w : World) (h : BkOk w k) (h2 : BkOk w k2) (hP : k.x.P.length ≤ 1000) (hP2 : k2.x.P.length ≤ 1000) :
    Calls Try.prog 18 #[k.x.ptr, k2.x.ptr] w fun e w1 => ∃ b : Bool, e = .returned (.bool b) ∧ Old w w1 ∧
      ∀ W, Old w1 W → Calls Try.prog 36 #[.pointer (some ⟨k.rb, 0, none⟩), .pointer (some ⟨k2.rb, 0, none⟩)] W fun e' w2 => e' = .returned (.bool b) ∧ Old W w2 := by
  refine (lsame_any k.x k2.x w h.l h2.l h.o h2.o (by omega)).mono ?_
  rintro e w1 ⟨rfl, o1⟩
  refine ⟨_, rfl, o1, fun W oW => ?_⟩
  refine (dsame_any k.rb k2.rb k.D k2.D k.x.L k2.x.L k.B k2.B k.P k2.P W (h.d.old (o1.trans oW)) (h2.d.old (o1.trans oW)) h.lenB h2.lenB (fun p hp => by have := (h.okN p hp).len; omega) (fun p hp => by have := (h2.okN p hp).len; omega) h.lenL h2.lenL (by rw [h.r.len]; omega) (by rw [h2.r.len]; omega)).mono ?_
  rintro e w2 ⟨rfl, n, ew⟩
  refine ⟨?_, by rw [ew]; exact (Old.refl W).drewN n⟩
  rw [decide_eq_decide.2 (h.r.same h2.r h.o.len h2.o.len h.o.nd h.o.ps h2.o.ps)]

/-- The document's copy. -/
theorem dcopy_pair (k : Bk) (w : World) (h : BkOk w k) :
    Calls Try.prog 35 #[.pointer (some ⟨k.rb, 0, none⟩)] w fun e w1 => e = .returned (.pointer (some ⟨w.heap.size, 0, none⟩)) ∧ BkOk w1 ⟨k.x, w.heap.size, k.D, k.B, k.P⟩ ∧ Old w w1 := by
  refine (dcopy_any k.rb k.D k.x.L k.B k.P w h.d).mono ?_
  rintro e w1 ⟨rfl, hd, o, hz⟩
  refine ⟨rfl, ⟨h.l.old o, h.o, hd, h.r, fun i hi => ?_, fun i hi => ⟨?_, (h.sx i hi).2⟩⟩, o⟩
  · have := (h.dl i hi).2
    exact ⟨by show i ≠ w.heap.size; omega, by have := o.size; omega⟩
  · have := (h.l.tag hi).1
    show i ≠ w.heap.size
    omega
/-- The program's copy. -/
theorem lcopy_pair (k : Bk) (w : World) (h : BkOk w k) (hP : k.x.P.length ≤ 1000) :
    Calls Try.prog 16 #[k.x.ptr] w fun e w1 => ∃ y : Lx, e = .returned y.ptr ∧ BkOk w1 ⟨y, k.rb, k.D, k.B, k.P⟩ ∧ Old w w1 ∧ New w.heap.size y ∧ Twin k.x y := by
  refine (lcopy_any k.x w h.l h.o (by omega)).mono ?_
  rintro e w1 ⟨y, rfl, hy, ht, o, hn⟩
  refine ⟨y, rfl, ⟨hy, h.o.twin ht, ?_, ?_, fun i hi => ⟨(h.dl i hi).1, Nat.lt_of_lt_of_le (h.dl i hi).2 o.size⟩, fun i hi => ?_⟩, o, hn, ht⟩
  · show Doc w1 k.rb k.D y.L k.B k.P
    rw [ht.l]
    exact h.d.old o
  · show RelP y.L y.A y.P k.B k.P
    rw [ht.l, ht.a, ht.p]
    exact h.r
  · have h1 := hn i hi
    have h2 := h.rl
    exact ⟨by show i ≠ k.rb; omega, fun hd => by have := (h.dl i hd).2; omega⟩
/-- What is put aside lies apart from what goes on. -/
theorem apart_copy {w w1 : World} {k : Bk} {y : Lx} (h : BkOk w k) (hw : w.heap.size < w1.heap.size) (hy : New w1.heap.size y) : Apart ⟨k.x, w.heap.size, k.D, k.B, k.P⟩ ⟨y, k.rb, k.D, k.B, k.P⟩ ∧ Apart ⟨y, k.rb, k.D, k.B, k.P⟩ ⟨k.x, w.heap.size, k.D, k.B, k.P⟩ := by
  have hr := h.rl
  refine ⟨fun i hi ho => ?_, fun i hi ho => ?_⟩
  · rcases hi with hi | hi
    · have h1 := (h.l.tag hi).1
      rcases ho with ho | ho | ho
      · have := hy i ho; omega
      · exact (h.sx i hi).1 ho
      · exact (h.sx i hi).2 ho
    · simp only at hi
      rcases ho with ho | ho | ho
      · have := hy i ho; omega
      · simp only at ho; omega
      · have := (h.dl i ho).2; omega
  · rcases hi with hi | hi
    · have h1 := hy i hi
      rcases ho with ho | ho | ho
      · have := (h.l.tag ho).1; omega
      · simp only at ho; omega
      · have := (h.dl i ho).2; omega
    · simp only at hi
      rcases ho with ho | ho | ho
      · exact (h.sx i ho).1 hi
      · simp only at ho; omega
      · exact (h.dl i ho).1 hi
end Go.Proofs.Ytlhlmkdgbgppiaa

/- Has, Account, Posting of both. -/
namespace Go.Proofs.Ytlhlmkdgbgppiaa
open Go.RowKit Go.Shelf Go.Maps

theorem has_pair (k : Bk) (nm : List UInt8) (w : World) (h : BkOk w k) (hP : k.x.P.length ≤ 200) (hn : nm.length ≤ maxLen) :
    Calls Try.prog 27 #[k.x.ptr, .string ⟨nm.toArray⟩] w fun e w1 => ∃ a r : Int, e = .returned (.tuple #[.int .i64 a, .int .i64 r]) ∧ w1 = w ∧
      ∀ W, Old w W → Calls Try.prog 28 #[.pointer (some ⟨k.rb, 0, none⟩), .string ⟨nm.toArray⟩] W fun e' w2 => e' = .returned (.tuple #[.int .i64 a, .int .i64 r]) ∧ w2 = W := by
  have kD := fun W (o : Old w W) => dhas_any k.rb k.D k.x.L k.B k.P nm W (h.d.old o) h.lenL (by rw [h.r.len]; exact hP) h.okN
  cases hi : idx k.x.L nm with
  | none =>
    refine (has_bad k.x nm w h.l hn hi).mono ?_
    rintro e w1 ⟨rfl, ew⟩
    refine ⟨_, _, rfl, ew, fun W o => (kD W o).mono ?_⟩
    rintro e w2 ⟨rfl, ew2⟩
    have hf : fndZ k.x.L nm = -1 := by unfold fndZ; rw [hi]
    rw [hf]
    exact ⟨rfl, ew2⟩
  | some j =>
    refine (has_good k.x nm j w h.l h.o hn hi).mono ?_
    rintro e w1 ⟨rfl, ew⟩
    refine ⟨_, _, rfl, ew, fun W o => (kD W o).mono ?_⟩
    rintro e w2 ⟨rfl, ew2⟩
    have hf : fndZ k.x.L nm = (j : Int) := by unfold fndZ; rw [hi]
    have hj : j < k.x.A.length := by rw [← h.o.len]; exact idx_lt hi
    rw [hf, if_neg (by omega), if_neg (by omega), h.r.rel.has j hj, idx_at' hi]
    exact ⟨rfl, ew2⟩

theorem account_pair (k : Bk) (n : Int) (w : World) (h : BkOk w k) (hP : k.x.P.length ≤ 200) :
    Calls Try.prog 30 #[k.x.ptr, .int .i64 n] w fun e w1 => ∃ (s : List UInt8) (a b r : Int), e = .returned (.tuple #[.agg #[.string ⟨s.toArray⟩, .int .i64 a, .int .i64 b], .int .i64 r]) ∧ Old w w1 ∧
      ∀ W, Old w W → Calls Try.prog 31 #[.pointer (some ⟨k.rb, 0, none⟩), .int .i64 n] W fun e' w2 => e' = .returned (.tuple #[.agg #[.string ⟨s.toArray⟩, .int .i64 a, .int .i64 b], .int .i64 r]) ∧ Old W w2 := by
  by_cases hn : 0 ≤ n ∧ n < k.x.L.length
  · obtain ⟨i, rfl⟩ : ∃ i : Nat, n = (i : Int) := ⟨n.toNat, by omega⟩
    have hi : i < k.x.L.length := by omega
    have hA : i < k.x.A.length := by rw [← h.o.len]; exact hi
    refine (account_good k.x i w h.l h.o hi).mono ?_
    rintro e w1 ⟨rfl, o1⟩
    refine ⟨_, _, _, _, rfl, o1, fun W o => ?_⟩
    refine (dacc_good k.rb k.D k.x.L k.B k.P i W (h.d.old o) hi h.lenB (by rw [h.r.len]; exact hP) h.okN).mono ?_
    rintro e w2 ⟨rfl, o2⟩
    refine ⟨?_, o2⟩
    have e1 : k.B.getD i 0 = (k.x.A.getD i (0, 0)).1 := by
      rw [h.r.rel.lb, getD_get (by rw [List.length_map]; exact hA), getD_get hA, List.getElem_map]
    have e2 : ofN k.P k.x.L[i] = (k.x.A.getD i (0, 0)).2 := by
      rw [h.r.rel.has i hA, getD_get hi]
    rw [e1, e2]
  · refine (account_bad k.x n w h.l hn).mono ?_
    rintro e w1 ⟨rfl, o1⟩
    refine ⟨[], _, _, _, rfl, o1, fun W o => ?_⟩
    exact dacc_bad k.rb k.D k.x.L k.B k.P n W (h.d.old o) hn

/-- What is told of a posting: new, or nothing. -/
def ToldE (lo : Nat) (W : World) (ao : Option Addr) (c : Nat) (E : List Es) : Prop := (ao = none ∧ c = 0 ∧ E = []) ∨ ∃ b, ao = some ⟨b, 0, none⟩ ∧ c = E.length ∧ lo ≤ b ∧ OwnS W b E
theorem ToldE.esc {lo : Nat} {W : World} {ao : Option Addr} {c : Nat} {E : List Es} (h : ToldE lo W ao c E) : EsC W ao E := by
  rcases h with ⟨-, -, rfl⟩ | ⟨b, rfl, -, -, h⟩
  · intro i hi
    exact absurd hi (Nat.not_lt_zero _)
  · exact h.esc
theorem ToldE.old {lo : Nat} {W W' : World} {ao : Option Addr} {c : Nat} {E : List Es} (h : ToldE lo W ao c E) (o : Old W W') : ToldE lo W' ao c E := by
  rcases h with h | ⟨b, h1, h2, h3, h4⟩
  · exact Or.inl h
  · exact Or.inr ⟨b, h1, h2, h3, h4.frm o (fun e => e)⟩

theorem posting_pair (k : Bk) (n : Int) (w : World) (h : BkOk w k) :
    Calls Try.prog 32 #[k.x.ptr, .int .i64 n] w fun e w1 => ∃ (ao : Option Addr) (c : Nat) (E : List Es) (r : Int), e = .returned (.tuple #[.slice ao E.length c, .int .i64 r]) ∧ Old w w1 ∧ E.length ≤ 128 ∧ ToldE w.heap.size w1 ao c E ∧
      ∀ W, Old w W → Calls Try.prog 33 #[.pointer (some ⟨k.rb, 0, none⟩), .int .i64 n] W fun e' w2 => ∃ bo d, e' = .returned (.tuple #[.slice bo E.length d, .int .i64 r]) ∧ EsC W bo E ∧ w2 = W := by
  by_cases hn : 0 ≤ n ∧ n < k.x.P.length
  · obtain ⟨i, rfl⟩ : ∃ i : Nat, n = (i : Int) := ⟨n.toNat, by omega⟩
    have hi : i < k.x.P.length := by omega
    have hiP : i < k.P.length := by rw [h.r.len]; exact hi
    have hE : k.P.getD i [] = entsOf k.x.L (k.x.P.getD i []) := by
      rw [getD_get hiP, getD_get hi]
      have h1 : k.P[i]? = some (entsOf k.x.L k.x.P[i]) := by
        rw [h.r.rows, List.getElem?_map, List.getElem?_eq_getElem hi]
        rfl
      rw [List.getElem?_eq_getElem hiP] at h1
      simpa using h1
    have hl : (entsOf k.x.L (k.x.P.getD i [])).length = (k.x.P.getD i []).length := by unfold entsOf; rw [List.length_map]
    have hln := (h.o.ps _ (by rw [getD_get hi]; exact List.getElem_mem hi : k.x.P.getD i [] ∈ k.x.P)).len.2
    refine (posting_good k.x i w h.l h.o hi).mono ?_
    rintro e w1 ⟨b, rfl, hb, hO, o1⟩
    refine ⟨some ⟨b, 0, none⟩, (k.x.P.getD i []).length, entsOf k.x.L (k.x.P.getD i []), 0, by rw [hl], o1, by omega, Or.inr ⟨b, rfl, hl.symm, hb, hO⟩, fun W o => ?_⟩
    refine (dposting_good k.rb k.D k.x.L k.B k.P i W (h.d.old o) hiP).mono ?_
    rintro e w2 ⟨u, rfl, ⟨bo, d, rfl, he, -⟩, ew⟩
    rw [hE] at he ⊢
    exact ⟨bo, d, rfl, he, ew⟩
  · refine (posting_bad k.x n w h.l hn).mono ?_
    rintro e w1 ⟨rfl, ew⟩
    rw [ew]
    refine ⟨none, 0, [], 4, rfl, Old.refl w, by decide, Or.inl ⟨rfl, rfl, rfl⟩, fun W o => ?_⟩
    refine (dposting_bad k.rb k.D k.x.L k.B k.P n W (h.d.old o) (by rw [h.r.len]; exact hn)).mono ?_
    rintro e w2 ⟨rfl, ew2⟩
    exact ⟨none, 0, rfl, fun i hi => absurd hi (Nat.not_lt_zero _), ew2⟩
end Go.Proofs.Ytlhlmkdgbgppiaa

/- The law's world: two of them in use, others put aside. -/
namespace Go.Proofs.Ytlhlmkdgbgppiaa
open Go.RowKit Go.Shelf Go.Maps

def Bk.ref (k : Bk) : Value := .pointer (some ⟨k.rb, 0, none⟩)
def ptrsF (f : Nat → Bk) (n : Nat) : List Value := (List.range n).map (fun j => (f (j + 2)).x.ptr)
def refsF (f : Nat → Bk) (n : Nat) : List Value := (List.range n).map (fun j => (f (j + 2)).ref)
structure St (W B0 : World) (wb : Nat) (f : Nat → Bk) (n m : Nat) (lv dv : Value) : Prop where
  blk : W.heap[wb]? = some (.cells #[(f 0).x.ptr, (f 1).x.ptr, (f 0).ref, (f 1).ref, lv, dv] 31 (0, 0))
  lrow : W.ownsRow B0.heap.size 24 1 lv n (ptrsF f n)
  drow : W.ownsRow B0.heap.size 26 1 dv n (refsF f n)
  ok : ∀ j, j < n + 2 → BkOk W (f j)
  ap : ∀ i j, i < n + 2 → j < n + 2 → i ≠ j → Apart (f i) (f j)
  sep : ∀ j, j < n + 2 → ∀ b, (f j).own b → b ≠ wb ∧ lv.ownBlock ≠ some b ∧ dv.ownBlock ≠ some b
  pl : ∀ j, j < n + 2 → (f j).x.P.length ≤ m
  base : Old B0 W
  hi : ∀ j, j < n + 2 → ∀ b, (f j).mut b → B0.heap.size ≤ b
  wb0 : B0.heap.size ≤ wb
def updF (f : Nat → Bk) (i : Nat) (k : Bk) : Nat → Bk := fun j => if j = i then k else f j
theorem updF_same (f : Nat → Bk) (i : Nat) (k : Bk) : updF f i k i = k := by simp [updF]
theorem updF_ne {f : Nat → Bk} {i j : Nat} {k : Bk} (h : j ≠ i) : updF f i k j = f j := by simp [updF, h]
section
variable {W W' B0 : World} {wb : Nat} {f : Nat → Bk} {n m : Nat} {lv dv : Value}
theorem St.b0 (h : St W B0 wb f n m lv dv) : B0.heap.size ≤ W.heap.size := h.base.size
theorem St.frm {S : Nat → Prop} (h : St W B0 wb f n m lv dv) (hf : Frm S W W') (hw : ¬ S wb) (hl : ∀ b, lv.ownBlock = some b → ¬ S b) (hd : ∀ b, dv.ownBlock = some b → ¬ S b) (hS : ∀ j, j < n + 2 → ∀ b, (f j).own b → ¬ S b) (hN : NotP W S) (hS0 : ∀ b, b < B0.heap.size → ¬ S b) : St W' B0 wb f n m lv dv where
  blk := by rw [hf.block wb (blk_lt h.blk) hw]; exact h.blk
  lrow := owns_kept h.lrow (fun b hb => hf.block b (h.lrow.lt b hb).2 (hl b hb))
  drow := owns_kept h.drow (fun b hb => hf.block b (h.drow.lt b hb).2 (hd b hb))
  ok := fun j hj => (h.ok j hj).frm hf (hS j hj) hN
  ap := h.ap
  sep := h.sep
  pl := h.pl
  base := Frm.trans h.base hf (fun b hb hs => (hS0 b hb hs).elim)
  hi := h.hi
  wb0 := h.wb0
theorem St.old (h : St W B0 wb f n m lv dv) (o : Old W W') : St W' B0 wb f n m lv dv := h.frm o (fun e => e) (fun _ _ e => e) (fun _ _ e => e) (fun _ _ _ _ e => e) (NotP.none W) (fun _ _ e => e)
theorem St.more (h : St W B0 wb f n m lv dv) : St W B0 wb f n (m + 1) lv dv := ⟨h.blk, h.lrow, h.drow, h.ok, h.ap, h.sep, fun j hj => Nat.le_succ_of_le (h.pl j hj), h.base, h.hi, h.wb0⟩
/-- One of the two goes on. -/
theorem St.next (h : St W B0 wb f n m lv dv) {i : Nat} (hi : i < 2) {k' : Bk} (hp : Pair W W' (f i) k') : St W' B0 wb (updF f i k') n (m + 1) lv dv := by
  have hin : i < n + 2 := by omega
  have hmo : ∀ b, (f i).mut b → (f i).own b := fun b hb => hb.elim Or.inl (fun e => Or.inr (Or.inl e))
  have hw : ¬ (f i).mut wb := fun e => (h.sep i hin wb (hmo wb e)).1 rfl
  have hptr : ∀ j, (updF f i k' j).x.ptr = (f j).x.ptr ∧ (updF f i k' j).ref = (f j).ref := fun j => by
    by_cases e : j = i
    · subst e
      rw [updF_same]
      unfold Lx.ptr Bk.ref
      rw [hp.g.lb, hp.g.rb]
      exact ⟨rfl, rfl⟩
    · rw [updF_ne e]
      exact ⟨rfl, rfl⟩
  refine ⟨?_, ?_, ?_, fun j hj => ?_, fun a b ha hb hab => ?_, fun j hj b hb => ?_, fun j hj => ?_, Frm.trans h.base hp.f (fun b hb e => by have := h.hi i hin b e; omega), fun j hj b hb => ?_, h.wb0⟩
  · rw [hp.f.block wb (blk_lt h.blk) hw, (hptr 0).1, (hptr 1).1, (hptr 0).2, (hptr 1).2]
    exact h.blk
  · have e1 : ptrsF (updF f i k') n = ptrsF f n := List.map_congr_left (fun j _ => (hptr (j + 2)).1)
    rw [e1]
    exact owns_kept h.lrow (fun b hb => hp.f.block b (h.lrow.lt b hb).2 (fun e => (h.sep i hin b (hmo b e)).2.1 hb))
  · have e1 : refsF (updF f i k') n = refsF f n := List.map_congr_left (fun j _ => (hptr (j + 2)).2)
    rw [e1]
    exact owns_kept h.drow (fun b hb => hp.f.block b (h.drow.lt b hb).2 (fun e => (h.sep i hin b (hmo b e)).2.2 hb))
  · by_cases e : j = i
    · subst e
      rw [updF_same]
      exact hp.ok
    · rw [updF_ne e]
      exact Apart.frm (h.ok i hin) (h.ok j hj) (h.ap i j hin hj (fun e2 => e e2.symm)) hp.f
  · by_cases ea : a = i
    · subst ea
      rw [updF_same, updF_ne (fun e => hab e.symm)]
      exact (h.ap a b ha hb hab).left hp.g (h.ok b hb)
    · rw [updF_ne ea]
      by_cases eb : b = i
      · subst eb
        rw [updF_same]
        exact (h.ap a b ha hb hab).right hp.g (h.ok a ha)
      · rw [updF_ne eb]
        exact h.ap a b ha hb hab
  · by_cases e : j = i
    · subst e
      rw [updF_same] at hb
      have hnew : (f j).own b ∨ W.heap.size ≤ b := by
        rcases hb with hb | hb | hb
        · exact (hp.g.all b hb).imp_left Or.inl
        · exact Or.inl (Or.inr (Or.inl (by rw [hb, hp.g.rb])))
        · exact (hp.g.dd b hb).imp_left (fun e => Or.inr (Or.inr e))
      rcases hnew with h1 | h1
      · exact h.sep j hj b h1
      · refine ⟨fun e => ?_, fun e => ?_, fun e => ?_⟩
        · have := blk_lt h.blk; omega
        · have := (h.lrow.lt b e).2; omega
        · have := (h.drow.lt b e).2; omega
    · rw [updF_ne e] at hb
      exact h.sep j hj b hb
  · by_cases e : j = i
    · subst e
      rw [updF_same]
      have := hp.n
      have := h.pl j hj
      omega
    · rw [updF_ne e]
      exact Nat.le_succ_of_le (h.pl j hj)
  · by_cases e : j = i
    · subst e
      rw [updF_same] at hb
      rcases hb with hb | hb
      · rcases hp.g.all b hb with h1 | h1
        · exact h.hi j hj b (Or.inl h1)
        · exact Nat.le_trans h.b0 h1
      · exact h.hi j hj b (Or.inr (by rw [hb, hp.g.rb]))
    · rw [updF_ne e] at hb
      exact h.hi j hj b hb
/-- What stands in the world's block. -/
theorem St.at0 (h : St W B0 wb f n m lv dv) {i : Nat} (hi : i < 2) : W.cell? ⟨wb, i, none⟩ = some (f i).x.ptr ∧ W.cell? ⟨wb, 2 + i, none⟩ = some (f i).ref := by
  match i, hi with
  | 0, _ => exact ⟨blk_cells h.blk rfl, blk_cells h.blk rfl⟩
  | 1, _ => exact ⟨blk_cells h.blk rfl, blk_cells h.blk rfl⟩
end
end Go.Proofs.Ytlhlmkdgbgppiaa
