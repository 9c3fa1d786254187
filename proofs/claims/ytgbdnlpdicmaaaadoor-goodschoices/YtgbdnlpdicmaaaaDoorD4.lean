/- gavellaw07.lent: an instance in memory of its own, with marks. -/
import Derived.Test.YtgbdnlpdicmaaaaDoorC2
import Derived.Test.YtgbdnlpdicmaaaaDoorC3
import Derived.Test.YtgbdnlpdicmaaaaDoorD2
import Derived.Laws.OwnMore
namespace Go.Proofs.YtgbdnlpdicmaaaaDoor
open Go.RowKit

theorem flatO_append : ∀ (M : List Off) (N : List Off), flatO (M ++ N) = flatO M ++ flatO N
  | [], N => rfl
  | d :: M, N => by simp [flatO, flatO_append M N]
theorem parts_o : ∃ i, Tryd.prog.info? 73 = some i ∧ i.zero = some (.agg #[.int .u32 0, .int .i64 0]) ∧ i.size = 2 ∧ i.bytes = 16 := by
  obtain ⟨i, hi, h2⟩ := Option.map_eq_some_iff.1 info_o
  simp only [Prod.mk.injEq] at h2
  exact ⟨i, hi, h2.1, h2.2.2, h2.2.1⟩
theorem parts_sl : ∃ i, Tryd.prog.info? 58 = some i ∧ i.zero = some (.slice none 0 0) ∧ i.size = 1 ∧ i.bytes = 24 := by
  obtain ⟨i, hi, h2⟩ := Option.map_eq_some_iff.1 info_s
  simp only [Prod.mk.injEq] at h2
  exact ⟨i, hi, h2.1, h2.2.2, h2.2.1⟩

/-- Offers, or none, appended in a region that draws. -/
theorem step_appX {ops : Array Oper} {o : Oper} {a : Act} {K : Act → World → Prop} {Q : Exit → Act → World → Prop} {E : Prop} (W : World) (hgd : o.guard = none) (s x : Operand)
    (ho : o.op = .call { callee := .builtin .append, args := #[s, x], argTypes := #[58, 58] }) (B : Nat) (v : Value) (xo : Option Addr) (n2 c2 : Nat) (L1 L2 : List Off) (hs : a.eval s = v) (hx : a.eval x = .slice xo n2 c2) (hn2 : L2.length = n2) (hn : xo = none → c2 = 0) (hown : W.ownsRow B 73 2 v L1.length (flatO L1)) (hO : OffC W xo L2)
    (hl : L1.length + L2.length ≤ 1000000) (hB : B ≤ W.heap.size)
    (h : ∀ v' W', W'.ownsRow B 73 2 v' (L1 ++ L2).length (flatO (L1 ++ L2)) → W.grownBy W' v.ownBlock → K (a.put o.dst v') W') :
    if Region.wanted o (yielded ops a.tmps) = true then Oper.wp Tryd.prog o a W K Q else E := by
  have hw : Region.wanted o (yielded ops a.tmps) = true := by simp [Region.wanted, hgd]
  subst hn2
  rw [if_pos hw]
  obtain ⟨i0, hi0, hz0, hz1, hz2⟩ := parts_o
  cases xo with
  | none =>
    obtain rfl := hO.nil
    rw [hn rfl] at hx
    have hrun := run_append_owned_none (P := Tryd.prog) (w := W) B 58 o.type 73 i0 2 Tryd.underlying58 hi0 v L1.length (flatO L1) hown
    have hk := h v W (by simpa using hown) ⟨rfl, rfl, rfl, Nat.le_refl _, fun _ _ _ => rfl⟩
    unfold Oper.wp
    simp [execOp, ho, resolve, invoke, builtin, hs, hx, hrun, Result.andThen]
    exact hk
  | some ad =>
    exact wp_append_own W s x 58 ho B 73 i0 _ 2 16 Tryd.underlying58 hi0 hz0 hz1 hz2 rfl (by omega) v L1.length (flatO L1) hs hown ad L2.length c2 (flatO L2) hx (flatO_length L2) (off_cells hO) (flatO_one L2) (by unfold maxLen; omega) (by omega) hB (fun v' w' h8 h9 _ => h v' w' (by rw [List.length_append, flatO_append]; exact h8) h9)

/-- A list lent: its mark behind it. -/
def LentO (B : Nat) (w : World) (v : Value) (L : List Off) (m : Off) : Prop := ∃ b cap, v = .slice (some ⟨b, 0, none⟩) L.length cap ∧ L.length + 1 ≤ cap ∧ RowT B w b (L ++ [m])

theorem LentO.frm {B : Nat} {S : Nat → Prop} {w w' : World} {v : Value} {L : List Off} {m : Off} (h : LentO B w v L m) (hf : Frm S w w') (hS : ∀ b, S b → (∃ cur, w.heap[b]? = some (.cells cur 73 (0, 0))) → b < B) : LentO B w' v L m := by
  obtain ⟨b, cap, h1, h2, h3⟩ := h
  refine ⟨b, cap, h1, h2, h3.frm hf (fun e => ?_)⟩
  have := hS b e h3.ty
  have := h3.lo
  omega
theorem LentO.low {B C : Nat} {w : World} {v : Value} {L : List Off} {m : Off} (h : LentO B w v L m) (hc : C ≤ B) : LentO C w v L m := by
  obtain ⟨b, cap, h1, h2, h3⟩ := h
  exact ⟨b, cap, h1, h2, h3.own, h3.ty, by have := h3.lo; omega⟩

theorem own_lent {w : World} {B : Nat} {v : Value} {L : List Off} {m : Off} (h : w.ownsRow B 73 2 v (L ++ [m]).length (flatO (L ++ [m]))) : ∃ b cap, v = .slice (some ⟨b, 0, none⟩) (L.length + 1) cap ∧ L.length + 1 ≤ cap ∧ RowT B w b (L ++ [m]) := by
  rcases h.2 with ⟨rfl, h0⟩ | ⟨g, cap, cur, rfl, h3, h4, h5, h6, h7, h8⟩
  · simp at h0
  · refine ⟨g, cap, by simp, by simpa using h5, ⟨fun i hi => ?_, fun j => blk_fz h4 j, blk_lt h4⟩, ⟨_, h4⟩, h3⟩
    obtain ⟨f1, f2⟩ := flatO_get (L ++ [m]) i hi
    have g1 : (cur.toList.take ((L ++ [m]).length * 2))[i * 2]? = (flatO (L ++ [m]))[i * 2]? := by rw [h8]
    have g2 : (cur.toList.take ((L ++ [m]).length * 2))[i * 2 + 1]? = (flatO (L ++ [m]))[i * 2 + 1]? := by rw [h8]
    rw [List.getElem?_take_of_lt (by omega), f1] at g1
    rw [List.getElem?_take_of_lt (by omega), f2] at g2
    exact ⟨blk_cells h4 (by simpa using g1), blk_cells h4 (by simpa using g2)⟩

/-- As it is lent: the lists of the first k buyers. -/
structure LX (w wr : World) (bx : Nat) (gd : Int) (s tv : Value) (B : Ins) (k : Nat) : Prop where
  old : Old w wr
  lo : w.heap.size ≤ bx
  x : wr.heap[bx]? = some (.cells #[.int .i64 gd, s] 57 (0, 0))
  r : wr.heap[bx + 1]? = some (.cells #[.int .i64 0, .slice none 0 0] 57 (0, 0))
  row : ∃ V : List Value, wr.ownsRow w.heap.size 58 1 tv k V ∧ ∀ i, i < k → LentO w.heap.size wr (V.getD i nilS) (B.getD i []) (0, 771)

theorem LX.olds {w wr w2 : World} {bx : Nat} {gd : Int} {s tv : Value} {B : Ins} {k : Nat} (h : LX w wr bx gd s tv B k) (o : Old wr w2) : LX w w2 bx gd s tv B k := by
  obtain ⟨V, h1, h2⟩ := h.row
  exact ⟨h.old.trans o, h.lo, by rw [o.block bx (blk_lt h.x) (fun h => h)]; exact h.x, by rw [o.block (bx + 1) (blk_lt h.r) (fun h => h)]; exact h.r, V, owns_kept h1 (fun q hq => by obtain ⟨cur, hc⟩ := owns_block h1 hq; exact o.block q (blk_lt hc) (fun h => h)), fun i hi => (h2 i hi).frm o (fun b e => e.elim)⟩

theorem own_len {w : World} {B : Nat} {e : TypeId} {v : Value} {n : Nat} {V : List Value} (h : w.ownsRow B e 1 v n V) : V.length = n := by have := h.1; omega

/-- A list more: whatever was made and turned on the way. -/
theorem LX.next {w wr w2 : World} {bx : Nat} {gd : Int} {s tv tv' v : Value} {B : Ins} {k : Nat} {V : List Value} (h : LX w wr bx gd s tv B k) (hV : wr.ownsRow w.heap.size 58 1 tv k V) (hVL : ∀ i, i < k → LentO w.heap.size wr (V.getD i nilS) (B.getD i []) (0, 771))
    (hf : Frm (fun q => tv.ownBlock = some q) wr w2) (hown : w2.ownsRow w.heap.size 58 1 tv' (k + 1) (V ++ [v])) (hl : LentO wr.heap.size w2 v (B.getD k []) (0, 771)) : LX w w2 bx gd s tv' B (k + 1) := by
  have vt : ∀ q, tv.ownBlock = some q → ∃ cur, wr.heap[q]? = some (.cells cur 58 (0, 0)) := fun q hq => owns_block hV hq
  have hVl := own_len hV
  refine ⟨Frm.trans (S := fun _ => False) h.old hf (fun i hi e => ?_), h.lo, ?_, ?_, V ++ [v], hown, fun i hi => ?_⟩
  · rcases hV.2 with ⟨e2, _⟩ | ⟨q, c, cur, e2, h3, _⟩
    · rw [e2] at e; simp [Value.ownBlock] at e
    · rw [e2] at e
      simp [Value.ownBlock] at e
      omega
  · rw [hf.block bx (blk_lt h.x) (fun e => by obtain ⟨cur, hc⟩ := vt _ e; exact typ_ne h.x hc (by decide) rfl)]
    exact h.x
  · rw [hf.block (bx + 1) (blk_lt h.r) (fun e => by obtain ⟨cur, hc⟩ := vt _ e; exact typ_ne h.r hc (by decide) rfl)]
    exact h.r
  · by_cases e : i < k
    · have e2 : (V ++ [v]).getD i nilS = V.getD i nilS := by simp [List.getD_eq_getElem?_getD, List.getElem?_append_left (show i < V.length by omega)]
      rw [e2]
      exact (hVL i e).frm hf (fun b e1 ⟨cur, hc⟩ => by obtain ⟨cur', hc'⟩ := vt b e1; exact absurd rfl (typ_ne hc hc' (by decide)))
    · have e3 : i = k := by omega
      subst e3
      have e2 : (V ++ [v]).getD i nilS = v := by simp [List.getD_eq_getElem?_getD, ← hVl]
      rw [e2]
      exact hl.low h.old.size

end Go.Proofs.YtgbdnlpdicmaaaaDoor
