/- The document's walk over the best choices: in plain words. -/
import Derived.Test.YtmapejhacbmckaaDoorJ23
import Derived.Deep.AppendLies
import Derived.BigQuiet
namespace Go.Proofs.YtmapejhacbmckaaDoor
open Go.RowKit Go.Lib Go.Shelf

/-- So many more, at most so many in all. -/
def tkO (most : Nat) (O E : List (List Int)) : List (List Int) := O ++ E.take (most - O.length)
theorem tk_full {most : Nat} {O E : List (List Int)} (h : most ≤ O.length) : tkO most O E = O := by
  unfold tkO
  rw [show most - O.length = 0 by omega]
  simp
theorem tk_nil {most : Nat} {O : List (List Int)} : tkO most O [] = O := by simp [tkO]
theorem tk_one {most : Nat} {O : List (List Int)} {h : List Int} (hl : O.length < most) : tkO most O [h] = O ++ [h] := by
  unfold tkO
  rw [List.take_of_length_le (by simp; omega)]
theorem tk_len {most : Nat} {O E : List (List Int)} (h : O.length ≤ most) : (tkO most O E).length ≤ most := by
  unfold tkO
  rw [List.length_append, List.length_take]
  omega
theorem tk_app {most : Nat} {O E1 E2 : List (List Int)} : tkO most (tkO most O E1) E2 = tkO most O (E1 ++ E2) := by
  unfold tkO
  rw [List.take_append, List.append_assoc, List.length_append, List.length_take]
  congr 2
  congr 1
  omega

/-- What is told by some of the options. -/
def opE (R : Ins) (b : Int) (h : List Int) (os : List Opt) : List (List Int) := os.flatMap (fun o => if o.2.1 + best R o.2.2 = b then (allC R o.2.2).map (fun c => h ++ o.1 :: c) else [])
theorem opE_all (l : List Off) (R : Ins) (f : Nat) (h : List Int) : (allC (l :: R) f).map (fun c => h ++ c) = opE R (best (l :: R) f) h (optA f l 0) := by
  rw [allC_cons]
  unfold opE opts
  rw [List.map_flatMap]
  congr 1
  funext o
  split
  · rw [List.map_map]
    rfl
  · rfl
theorem opE_cons (R : Ins) (b : Int) (h : List Int) (o : Opt) (os : List Opt) : opE R b h (o :: os) = (if o.2.1 + best R o.2.2 = b then (allC R o.2.2).map (fun c => (h ++ [o.1]) ++ c) else []) ++ opE R b h os := by
  unfold opE
  rw [List.flatMap_cons]
  congr 1
  split
  · congr 1
    funext c
    simp
  · rfl
theorem opE_step {R : Ins} {b : Int} {h : List Int} {f : Nat} {l : List Off} {j : Nat} (hj : j < l.length) : opE R b h (optA f (l.drop j) j) = (if subB l[j].1 f = true ∧ l[j].2 + best R (less f l[j].1) = b then (allC R (less f l[j].1)).map (fun c => (h ++ [(j : Int)]) ++ c) else []) ++ opE R b h (optA f (l.drop (j + 1)) (j + 1)) := by
  rw [List.drop_eq_getElem_cons hj, optA]
  by_cases hs : subB l[j].1 f = true
  · rw [if_pos hs, opE_cons]
    congr 1
    dsimp only
    by_cases hb : l[j].2 + best R (less f l[j].1) = b
    · rw [if_pos hb, if_pos ⟨hs, hb⟩]
    · rw [if_neg hb, if_neg (fun e => hb e.2)]
  · rw [if_neg hs, if_neg (fun e => hs e.1), List.nil_append]
theorem opE_end {R : Ins} {b : Int} {h : List Int} {f : Nat} {l : List Off} : opE R b h (optA f (l.drop l.length) l.length) = if best R f = b then (allC R f).map (fun c => (h ++ [-1]) ++ c) else [] := by
  rw [List.drop_length, optA, opE_cons]
  dsimp only
  rw [show (0 : Int) + best R f = best R f by omega]
  unfold opE
  simp

/-- A row of whole numbers that one owns. -/
def OwnI (N : Nat) (w : World) (v : Value) (L : List Int) : Prop := w.ownsRow N 3 1 v L.length (L.map (Value.int .i64))
theorem OwnI.nums {N : Nat} {w : World} {v : Value} {L : List Int} (h : OwnI N w v L) : ∃ a c, v = .slice a L.length c ∧ NumsC .i64 w a L ∧ (a = none → c = 0) := by
  rcases h.2 with ⟨rfl, h0⟩ | ⟨g, cap, cur, rfl, h3, h4, h5, h6, h7, h8⟩
  · have : L = [] := List.eq_nil_of_length_eq_zero h0
    subst this
    exact ⟨none, 0, rfl, fun i (hi : i < 0) => absurd hi (Nat.not_lt_zero i), fun _ => rfl⟩
  · refine ⟨some ⟨g, 0, none⟩, cap, rfl, fun i hi => ⟨g, 0, rfl, ?_⟩, fun h => by cases h⟩
    have e2 : (cur.toList.take (L.length * 1))[i]? = (L.map (Value.int .i64))[i]? := by rw [h8]
    rw [List.getElem?_take_of_lt (by omega), List.getElem?_map, List.getElem?_eq_getElem hi] at e2
    rw [Nat.zero_add]
    exact blk_cells h4 (by simpa using e2)
theorem OwnI.frm {N : Nat} {S : Nat → Prop} {w w' : World} {v : Value} {L : List Int} (h : OwnI N w v L) (hf : Frm S w w') (hS : ∀ q cur, w.heap[q]? = some (.cells cur 3 (0, 0)) → N ≤ q → ¬ S q) : OwnI N w' v L := by
  refine ⟨h.1, ?_⟩
  rcases h.2 with h2 | ⟨g, cap, cur, rfl, h3, h4, h5⟩
  · exact Or.inl h2
  · exact Or.inr ⟨g, cap, cur, rfl, h3, by rw [hf.block g (blk_lt h4) (hS g cur h4 h3)]; exact h4, h5⟩
theorem OwnI.old {N : Nat} {w w' : World} {v : Value} {L : List Int} (h : OwnI N w v L) (o : Old w w') : OwnI N w' v L := h.frm o (fun _ _ _ _ h => h)
theorem OwnI.low {N M : Nat} {w : World} {v : Value} {L : List Int} (h : OwnI N w v L) (hm : M ≤ N) : OwnI M w v L := by
  refine ⟨h.1, ?_⟩
  rcases h.2 with h2 | ⟨g, cap, cur, rfl, h3, h4⟩
  · exact Or.inl h2
  · exact Or.inr ⟨g, cap, cur, rfl, by omega, h4⟩

/-- Where the document's walk stands: its block pb; what it has told. -/
structure WK (N : Nat) (w wr : World) (m : Nat) (B : Ins) (bo : Option Addr) (cap S tb : Nat) (V : List Value) (pb most : Nat) (ov : Value) (O : List (List Int)) : Prop where
  old : Old w wr
  p : wr.heap[pb]? = some (.cells #[.int .i64 (m : Int), .slice bo B.length cap, .slice (some ⟨tb, 0, none⟩) (B.length + 1) (B.length + 1), .int .i64 (most : Int), ov] 90 (0, 0))
  pn : N ≤ pb
  wn : w.heap.size ≤ N
  tab : TB wr B S 0 tb V
  out : ∃ VO : List Value, wr.ownsRow N 28 1 ov O.length VO ∧ ∀ i, i < O.length → OwnI N wr (VO.getD i nilS) (O.getD i [])

theorem WK.olds {N : Nat} {w wr w2 : World} {m : Nat} {B : Ins} {bo : Option Addr} {cap S tb : Nat} {V : List Value} {pb most : Nat} {ov : Value} {O : List (List Int)} (h : WK N w wr m B bo cap S tb V pb most ov O) (o : Old wr w2) : WK N w w2 m B bo cap S tb V pb most ov O := by
  obtain ⟨VO, h1, h2⟩ := h.out
  exact ⟨h.old.trans o, (o.block _ (blk_lt h.p) (fun h => h)).trans h.p, h.pn, h.wn, h.tab.old o, VO, owns_kept h1 (fun q hq => by obtain ⟨cur, hc⟩ := owns_block h1 hq; exact o.block q (blk_lt hc) (fun h => h)), fun i hi => (h2 i hi).old o⟩

theorem WK.next {N : Nat} {w wr w2 : World} {m : Nat} {B : Ins} {bo : Option Addr} {cap S tb : Nat} {V : List Value} {pb most : Nat} {ov ov' l : Value} {O : List (List Int)} {L : List Int} {VO : List Value} (h : WK N w wr m B bo cap S tb V pb most ov O) (hV : wr.ownsRow N 28 1 ov O.length VO) (hVL : ∀ i, i < O.length → OwnI N wr (VO.getD i nilS) (O.getD i []))
    (hf : Frm (fun q => ov.ownBlock = some q) wr w2) (hown : w2.ownsRow N 28 1 ov' (O.length + 1) (VO ++ [l])) (hl : OwnI N wr l L) : WK N w (w2.setCell ⟨pb, 4, none⟩ ov') m B bo cap S tb V pb most ov' (O ++ [L]) := by
  have hne : ∀ q a t, t ≠ 28 → wr.heap[q]? = some (.cells a t (0, 0)) → ¬ ov.ownBlock = some q := fun q a t ht hq e => by
    obtain ⟨cur', hc'⟩ := owns_block hV e
    exact typ_no hq hc' ht rfl
  have hp := (hf.block _ (blk_lt h.p) (hne _ _ _ (by decide) h.p)).trans h.p
  have hs := frm_set w2 pb 4 ov'
  have hpn := h.pn
  have hwn := h.wn
  have hVn : VO.length = O.length := by have := hV.1; omega
  have hold : Old w w2 := Frm.trans (S := fun _ => False) h.old hf (fun i hi e => by
    rcases hV.2 with ⟨e2, _⟩ | ⟨q, c, cur, e2, h3, _⟩
    · rw [e2] at e; simp [Value.ownBlock] at e
    · rw [e2] at e
      simp [Value.ownBlock] at e
      omega)
  have ht : TB w2 B S 0 tb V := h.tab.frm hf (hne _ _ _ (by decide) h.tab.blk) (fun j r k1 k2 e1 => by
    obtain ⟨r2, f1, f2⟩ := h.tab.rows j k1 k2
    rw [e1] at f1
    simp only [Option.some.injEq, Value.slice.injEq, Addr.mk.injEq, and_true] at f1
    subst f1
    exact hne _ _ _ (by decide) f2)
  have up : ∀ {u : Value} {M : List Int}, OwnI N wr u M → OwnI N (w2.setCell ⟨pb, 4, none⟩ ov') u M := fun {u M} hu => by
    have h5 : OwnI N w2 u M := hu.frm hf (fun q cur hq _ => hne _ _ _ (by decide) hq)
    exact h5.frm hs (fun q cur hq _ e => by subst e; exact typ_no hq hp (by decide) rfl)
  refine ⟨Frm.trans (S := fun _ => False) hold hs (fun i hi e => by omega), ?_, hpn, hwn, ?_, VO ++ [l], ?_, fun i hi => ?_⟩
  · have := heap_set (i := 4) ov' hp
    simpa using this
  · exact ht.frm hs (fun e => typ_no ht.blk hp (by decide) e) (fun j r k1 k2 e1 e => by
      obtain ⟨r2, f1, f2⟩ := ht.rows j k1 k2
      rw [e1] at f1
      simp only [Option.some.injEq, Value.slice.injEq, Addr.mk.injEq, and_true] at f1
      subst f1
      exact typ_no f2 hp (by decide) e)
  · rw [List.length_append]
    refine owns_kept hown (fun q hq => ?_)
    obtain ⟨cur, hcc⟩ := owns_block hown hq
    exact hs.block q (blk_lt hcc) (fun e => by subst e; exact typ_no hp hcc (by decide) rfl)
  · rw [List.length_append] at hi
    have hi : i < O.length + 1 := hi
    by_cases e : i < O.length
    · have e1 : (VO ++ [l]).getD i nilS = VO.getD i nilS := by simp [List.getD_eq_getElem?_getD, List.getElem?_append_left (show i < VO.length by omega)]
      have e2 : (O ++ [L]).getD i [] = O.getD i [] := by simp [List.getD_eq_getElem?_getD, List.getElem?_append_left e]
      rw [e1, e2]
      exact up (hVL i e)
    · have e3 : i = O.length := by omega
      subst e3
      have e1 : (VO ++ [l]).getD O.length nilS = l := by simp [List.getD_eq_getElem?_getD, ← hVn]
      have e2 : (O ++ [L]).getD O.length [] = L := by simp [List.getD_eq_getElem?_getD]
      rw [e1, e2]
      exact up hl

theorem info_ri : (Tryd.prog.info? 28).map (fun i => (i.zero, i.size, i.bytes)) = some (some (.slice none 0 0), 1, 24) := by kernel_rfl
theorem parts_ri : ∃ i, Tryd.prog.info? 28 = some i ∧ i.zero = some (.slice none 0 0) ∧ i.size = 1 ∧ i.bytes = 24 := by
  obtain ⟨i, hi, h2⟩ := Option.map_eq_some_iff.1 info_ri
  simp only [Prod.mk.injEq] at h2
  exact ⟨i, hi, h2.1, h2.2.1, h2.2.2⟩
end Go.Proofs.YtmapejhacbmckaaDoor

/- The document's walk over the best choices: walked. -/
namespace Go.Proofs.YtmapejhacbmckaaDoor
open Go.RowKit Go.Lib Go.Shelf
attribute [local go_sem] Oper.semAt_some



/-- What stays: all but the walk's own block and its row. -/
structure KT (w w' : World) : Prop where
  size : w.heap.size ≤ w'.heap.size
  same : ∀ (q : Nat) (cur : Array Value) (t : TypeId), w.heap[q]? = some (.cells cur t (0, 0)) → t ≠ 28 → t ≠ 90 → w'.heap[q]? = w.heap[q]?
theorem KT.refl (w : World) : KT w w := ⟨Nat.le_refl _, fun _ _ _ _ _ _ => rfl⟩
theorem KT.old {w w' : World} (o : Old w w') : KT w w' := ⟨o.size, fun q _ _ h _ _ => o.block q (blk_lt h) (fun h => h)⟩
theorem KT.trans {a b c : World} (h : KT a b) (k : KT b c) : KT a c := ⟨Nat.le_trans h.size k.size, fun q cur t hq h1 h2 => by
  have e := h.same q cur t hq h1 h2
  exact (k.same q cur t (e.trans hq) h1 h2).trans e⟩
theorem KT.own {N : Nat} {w w' : World} {v : Value} {L : List Int} (h : OwnI N w v L) (k : KT w w') : OwnI N w' v L := by
  refine ⟨h.1, ?_⟩
  rcases h.2 with h2 | ⟨g, cap, cur, rfl, h3, h4, h5⟩
  · exact Or.inl h2
  · exact Or.inr ⟨g, cap, cur, rfl, h3, by rw [k.same g cur _ h4 (by decide) (by decide)]; exact h4, h5⟩
theorem KT.put {N pb : Nat} {w w' : World} {ov ov' : Value} {n : Nat} {VO : List Value} {a : Array Value} (hV : w.ownsRow N 28 1 ov n VO) (hf : Frm (fun q => ov.ownBlock = some q) w w') (hp : w'.heap[pb]? = some (.cells a 90 (0, 0))) : KT w (w'.setCell ⟨pb, 4, none⟩ ov') := by
  have hs := frm_set w' pb 4 ov'
  refine ⟨Nat.le_trans hf.size hs.size, fun q cur t hq h1 h2 => ?_⟩
  have e1 : w'.heap[q]? = w.heap[q]? := hf.block q (blk_lt hq) (fun e => by
    obtain ⟨cur', hc'⟩ := owns_block hV e
    exact typ_no hq hc' h1 rfl)
  rw [hs.block q (blk_lt (e1.trans hq)) (fun e => by
    subst e
    exact typ_no (e1.trans hq) hp h2 rfl)]
  exact e1

/-- Whole numbers, or none, appended in a region that draws. -/
theorem step_appJ {ops : Array Oper} {o : Oper} {a : Act} {K : Act → World → Prop} {Q : Exit → Act → World → Prop} {E : Prop} (W : World) (hgd : o.guard = none) (s x : Operand)
    (ho : o.op = .call { callee := .builtin .append, args := #[s, x], argTypes := #[28, 28] }) (B : Nat) (v : Value) (xo : Option Addr) (n2 c2 : Nat) (L1 L2 : List Int) (hs : a.eval s = v) (hx : a.eval x = .slice xo n2 c2) (hn2 : L2.length = n2) (hn : xo = none → c2 = 0) (hown : OwnI B W v L1) (hO : NumsC .i64 W xo L2)
    (hl : L1.length + L2.length ≤ 1000000) (hB : B ≤ W.heap.size)
    (h : ∀ v' W', OwnI B W' v' (L1 ++ L2) → W.grownBy W' v.ownBlock → K (a.put o.dst v') W') :
    if Region.wanted o (yielded ops a.tmps) = true then Oper.wp Tryd.prog o a W K Q else E := by
  have hw : Region.wanted o (yielded ops a.tmps) = true := by simp [Region.wanted, hgd]
  subst hn2
  rw [if_pos hw]
  obtain ⟨i0, hi0, hz0, hz1, hz2⟩ := parts_int
  cases xo with
  | none =>
    obtain rfl := nums_none hO
    rw [hn rfl] at hx
    have hrun := run_append_owned_none (P := Tryd.prog) (w := W) B 28 o.type 3 i0 1 Tryd.underlying28 hi0 v L1.length (L1.map (Value.int .i64)) hown
    have hk := h v W (by simpa [OwnI] using hown) ⟨rfl, rfl, rfl, Nat.le_refl _, fun _ _ _ => rfl⟩
    unfold Oper.wp
    simp [execOp, ho, resolve, invoke, builtin, hs, hx, hrun, Result.andThen]
    exact hk
  | some ad =>
    have hsp : L2 = [] ∨ ∃ g o, ad = ⟨g, o, none⟩ := by
      by_cases h0 : 0 < L2.length
      · obtain ⟨g, o, e, _⟩ := hO 0 h0
        exact Or.inr ⟨g, o, Option.some.inj e⟩
      · exact Or.inl (List.eq_nil_of_length_eq_zero (by omega))
    have hc : ∀ (j : Nat) (u : Value), (L2.map (Value.int .i64))[j]? = some u → W.cell? (ad.add j) = some u := by
      rcases hsp with rfl | ⟨g, o, rfl⟩
      · intro j u hu
        simp at hu
      · exact num_cells hO
    exact wp_append_own W s x 28 ho B 3 i0 _ 1 8 Tryd.underlying28 hi0 hz0 hz1 hz2 rfl (by omega) v L1.length (L1.map (Value.int .i64)) hs hown ad L2.length c2 (L2.map (Value.int .i64)) hx (by simp) hc (ints_one L2) (by unfold maxLen; omega) (by omega) hB (fun v' w' h8 h9 _ => h v' w' (by unfold OwnI; rw [List.length_append, List.map_append]; exact h8) h9)
theorem ownI_grown {w0 w w' : World} {v : Value} {L : List Int} (o : Old w0 w) (hv : OwnI w0.heap.size w v L) (h : w.grownBy w' v.ownBlock) : Old w0 w' := by
  have hf : Frm (fun q => v.ownBlock = some q) w w' := Frm.grown (Frm.refl _ w) h (fun k hk => Or.inr hk)
  refine Frm.trans (S := fun _ => False) o hf (fun i hi e => ?_)
  rcases hv.2 with ⟨e2, _⟩ | ⟨q, c, cur, e2, h3, _⟩
  · rw [e2] at e; simp [Value.ownBlock] at e
  · rw [e2] at e
    simp [Value.ownBlock] at e
    omega

/-- What the walk leaves. -/
def OnP (N : Nat) (w : World) (m : Nat) (B : Ins) (bo : Option Addr) (cap S tb : Nat) (V : List Value) (pb most : Nat) (O : List (List Int)) (E : List (List Int)) (wr : World) (e : Ending) (w' : World) : Prop :=
  (∃ v, e = .returned v) ∧ ∃ ov', WK N w w' m B bo cap S tb V pb most ov' (tkO most O E) ∧ KT wr w'
end Go.Proofs.YtmapejhacbmckaaDoor
