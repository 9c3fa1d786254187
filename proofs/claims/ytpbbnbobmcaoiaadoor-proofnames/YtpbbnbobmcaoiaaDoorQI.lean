/- ProofNames: what its loops keep. -/
import Derived.Test.YtpbbnbobmcaoiaaDoorQH
import Derived.Laws.AppendOwnNone
import Derived.Deep.AppendLies
namespace Go.Proofs.YtpbbnbobmcaoiaaDoor
open Go.RowKit Go.Lib Go.Shelf
attribute [local go_sem] Oper.semAt_some

theorem info_s : (Tryd.prog.info? 67).map (fun i => (i.zero, i.bytes, i.size)) = some (some (.slice none 0 0), 24, 1) := by kernel_rfl
theorem parts_sl : ∃ i, Tryd.prog.info? 67 = some i ∧ i.zero = some (.slice none 0 0) ∧ i.size = 1 ∧ i.bytes = 24 := by
  obtain ⟨i, hi, h2⟩ := Option.map_eq_some_iff.1 info_s
  simp only [Prod.mk.injEq] at h2
  exact ⟨i, hi, h2.1, h2.2.2, h2.2.1⟩
/-- A list of offers behind a row of such that one owns. -/
theorem wpAppR {ops : Array Oper} {rest : List Oper} {o : Oper} {a : Act} {Q : Exit → Act → World → Prop} {w : World} (hgd : o.guard = none) (s x : Operand) (ho : o.op = .call { callee := .builtin .append, args := #[s, x], argTypes := #[22, 22] })
    (B : Nat) (v : Value) (b : Nat) (V : List Value) (l : Value) (n : Nat) (hn : V.length = n) (hs : a.eval s = v) (hx : a.eval x = .slice (some ⟨b, 0, none⟩) 1 1) (hown : w.ownsRow B 67 1 v n V) (hO : w.cell? ⟨b, 0, none⟩ = some l) (h1 : l.oneCell' = true) (hl : n ≤ 1000) (hB : B ≤ w.heap.size)
    (h : ∀ v' w', w'.ownsRow B 67 1 v' (n + 1) (V ++ [l]) → w.grownBy w' v.ownBlock → wpList Tryd.prog ops Q rest (a.put o.dst v') w') : wpList Tryd.prog ops Q (o :: rest) a w := by
  obtain ⟨i0, hi0, hz0, hz1, hz2⟩ := parts_sl
  subst hn
  refine wpList_append_own _ hgd s x 22 ho B 67 i0 _ 1 24 Tryd.underlying22 hi0 hz0 hz1 hz2 rfl (by omega) v V.length V hs hown ⟨b, 0, none⟩ 1 1 [l] hx rfl (fun j u hu => ?_) (fun u hu => ?_) (by unfold maxLen; omega) (by omega) hB (fun v' w' h8 h9 _ => h v' w' h8 h9)
  · match j, hu with
    | 0, hu =>
      obtain rfl : l = u := by simpa using hu
      rw [Addr.add_lit]
      exact hO
  · obtain rfl : u = l := by simpa using hu
    exact h1


def rwO : Array Value := #[.int .u32 1023, .int .i64 1099511627776, .int .u32 1, .int .i64 1099511627776]
/-- The instance while it grows. -/
structure NI (w W : World) (s k : Nat) (v : Value) (V : List Value) : Prop where
  lo : w.heap.size ≤ s
  bx : W.heap[s]? = some (.cells #[.int .i64 10, v] 24 (0, 0))
  own : W.ownsRow (s + 1) 67 1 v k V
  rows : ∀ (i : Nat) (u : Value), V[i]? = some u → ∃ b : Nat, u = .slice (some ⟨b, 0, none⟩) 2 2 ∧ W.heap[b]? = some (.cells rwO 66 (0, 0))
  old : Old w W
theorem NI.olds {w W W' : World} {s k : Nat} {v : Value} {V : List Value} (h : NI w W s k v V) (o : Old W W') : NI w W' s k v V := by
  refine ⟨h.lo, (o.block s (blk_lt h.bx) (fun e => e)).trans h.bx, h.own.kept (row := none) ⟨o.1, o.2, o.3, o.size, fun k hk _ => o.block k hk (fun e => e)⟩ ?_, fun i u hu => ?_, h.old.trans o⟩
  · cases hb : v.ownBlock with
    | none => exact .inl rfl
    | some q => exact .inr (fun e => by cases e)
  · obtain ⟨b, e, hb⟩ := h.rows i u hu
    exact ⟨b, e, (o.block b (blk_lt hb) (fun e => e)).trans hb⟩
theorem NI.step {w W W' : World} {s k b : Nat} {v v' : Value} {V : List Value} (h : NI w W s k v V) (hb : W.heap[b]? = some (.cells rwO 66 (0, 0))) (ho : W'.ownsRow (s + 1) 67 1 v' (k + 1) (V ++ [.slice (some ⟨b, 0, none⟩) 2 2])) (hg : W.grownBy W' v.ownBlock) :
    NI w (W'.setCell ⟨s, 1, none⟩ v') s (k + 1) v' (V ++ [.slice (some ⟨b, 0, none⟩) 2 2]) := by
  have hf := frm_set W' s 1 v'
  have hs : some s ≠ v.ownBlock := fun e => by
    have := (h.own.lt s e.symm).1
    omega
  have hs' : v'.ownBlock ≠ some s := fun e => by
    have := (ho.lt s e).1
    omega
  have hbx : W'.heap[s]? = some (.cells #[.int .i64 10, v] 24 (0, 0)) := (hg.block s (blk_lt h.bx) hs).trans h.bx
  have hrow : ∀ q : Nat, W.heap[q]? = some (.cells rwO 66 (0, 0)) → (W'.setCell ⟨s, 1, none⟩ v').heap[q]? = some (.cells rwO 66 (0, 0)) := fun q hq => by
    have h1 : some q ≠ v.ownBlock := fun e => by
      rcases h.own.2 with ⟨rfl, -⟩ | ⟨g, cap, cur, rfl, -, h5, -⟩
      · cases e
      · have e2 : q = g := Option.some.inj e
        subst e2
        rw [hq] at h5
        simp at h5
    have h2 := (hg.block q (blk_lt hq) h1).trans hq
    have h3 : q ≠ s := fun e => by
      subst e
      rw [hbx] at h2
      simp at h2
    exact (hf.block q (blk_lt h2) h3).trans h2
  refine ⟨h.lo, ?_, ho.kept (row := some s) ⟨hf.1, hf.2, hf.3, hf.size, fun k hk hne => hf.block k hk (fun e => hne (by rw [e]))⟩ (.inr hs'), fun i u hu => ?_, ?_⟩
  · have := heap_set (i := 1) v' hbx
    simpa using this
  · rw [List.getElem?_append] at hu
    split at hu
    · obtain ⟨q, e, hq⟩ := h.rows i u hu
      exact ⟨q, e, hrow q hq⟩
    · have : u = .slice (some ⟨b, 0, none⟩) 2 2 := by
        rw [List.getElem?_singleton] at hu
        split at hu
        · exact (Option.some.inj hu).symm
        · cases hu
      exact ⟨b, this, hrow b hb⟩
  · have o1 : Old w W' := ⟨hg.os.trans h.old.1, hg.tape.trans h.old.2, hg.output.trans h.old.3, Nat.le_trans h.old.size hg.size, fun q hq _ => (hg.block q (Nat.lt_of_lt_of_le hq h.old.size) (fun e => by
        have := (h.own.lt q e.symm).1
        have := h.lo
        omega)).trans (h.old.block q hq (fun e => e))⟩
    exact Frm.trans o1 hf (fun i hi e => by have := h.lo; omega)

theorem slice_of {W : World} {lo : Nat} {e : TypeId} {v : Value} {n : Nat} {xs : List Value} (h : W.ownsRow lo e 1 v n xs) (hn : 0 < n) : ∃ g cap : Nat, v = .slice (some ⟨g, 0, none⟩) n cap := by
  rcases h.2 with ⟨-, h2⟩ | ⟨g, cap, cur, e, -⟩
  · omega
  · exact ⟨g, cap, e⟩
theorem NI.box {w W W' : World} {s k : Nat} {v : Value} {V : List Value} (h : NI w W s k v V) (hg : W.grownBy W' v.ownBlock) : W'.heap[s]? = some (.cells #[.int .i64 10, v] 24 (0, 0)) :=
  (hg.block s (blk_lt h.bx) (fun e => by have := (h.own.lt s e.symm).1; omega)).trans h.bx

theorem NI.ins {w W : World} {s : Nat} {v : Value} {V : List Value} (h : NI w W s 32 v V) : ∃ g cap : Nat, v = .slice (some ⟨g, 0, none⟩) 32 cap ∧ 32 ≤ cap ∧ s + 1 ≤ g ∧ InsC W (some ⟨g, 0, none⟩) bgB := by
  rcases h.own.2 with ⟨-, h2⟩ | ⟨g, cap, cur, rfl, h3, h4, h5, -⟩
  · omega
  · refine ⟨g, cap, rfl, h5, h3, fun i hi => ?_⟩
    have hi2 : i < 32 := by simpa [bgB] using hi
    have hl := h.own.1
    have hV : i < V.length := by omega
    obtain ⟨b, hb, hbl⟩ := h.rows i V[i] (List.getElem?_eq_getElem hV)
    have hc := h.own.cellAt i (by omega)
    rw [List.getElem?_eq_getElem hV, hb] at hc
    refine ⟨g, 0, some ⟨b, 0, none⟩, 2, rfl, by rw [Nat.zero_add, hc]; simp only [bgB, List.getElem_replicate]; rfl, ?_, by simp only [bgB, List.getElem_replicate]; decide, by simp only [bgB, List.getElem_replicate]; decide⟩
    simp only [bgB, List.getElem_replicate]
    exact fun j hj => match j, hj with
      | 0, _ => ⟨b, 0, rfl, blk_cells (i := 0) hbl rfl, blk_cells (i := 1) hbl rfl⟩
      | 1, _ => ⟨b, 0, rfl, blk_cells (i := 2) hbl rfl, blk_cells (i := 3) hbl rfl⟩

theorem info_i64 : (Tryd.prog.info? 2).map (fun i => (i.zero, i.bytes, i.size)) = some (some (.int .i64 0), 8, 1) := by kernel_rfl
theorem make_n (n : Nat) (hn : n ≤ 1048576) (w : World) : (Instr.makeSlice 46 (.int .i64 (n : Int)) (.int .i64 (n : Int))).run Tryd.prog w = .ok (.slice (some ⟨w.heap.size, 0, none⟩) n n) (w.alloc (.cells (Array.replicate n (Value.int .i64 0)) 2)) := by
  obtain ⟨i, hi, h2⟩ := Option.map_eq_some_iff.1 info_i64
  simp only [Prod.mk.injEq] at h2
  obtain ⟨hz, hb, hs⟩ := h2
  have h := run_make (P := Tryd.prog) w 46 2 i (.int .i64 0) Tryd.underlying46 hi hz .i64 .i64 n n (by omega) (by omega) (by rw [hb]; omega) (by omega)
  rw [h, hs]
  simp only [Int.toNat_natCast, Nat.mul_one, made_ints]
end Go.Proofs.YtpbbnbobmcaoiaaDoor
