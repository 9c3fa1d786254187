/- Instances lent, in memory of their own: in plain words. -/
import Derived.Test.YtfoadheepmgbfaaGreatDoorJ19
import Derived.Laws.OwnMore
import Derived.Test.YtfoadheepmgbfaaGreatDoorJ20
import Derived.Lib.MinMax
namespace Go.Proofs.YtfoadheepmgbfaaGreatDoor
open Go.RowKit Go.Lib Go.Shelf

theorem flatO_append : ∀ (M : List Off) (N : List Off), flatO (M ++ N) = flatO M ++ flatO N
  | [], N => rfl
  | d :: M, N => by simp [flatO, flatO_append M N]

/-- A row of offers, of its type, in a block from lo on. -/
structure RowT (lo : Nat) (w : World) (g : Nat) (L : List Off) : Prop where
  own : OwnO w g L
  ty : ∃ cur, w.heap[g]? = some (.cells cur 62 (0, 0))
  lo : lo ≤ g

theorem RowT.frm {lo g : Nat} {S : Nat → Prop} {w w' : World} {L : List Off} (h : RowT lo w g L) (hf : Frm S w w') (hS : ¬ S g) : RowT lo w' g L := by
  obtain ⟨⟨h4, h5, h6⟩, ⟨cur, hc⟩, hl⟩ := h
  refine ⟨⟨fun i hi => ⟨frm_cell hf (h4 i hi).1 hS, frm_cell hf (h4 i hi).2 hS⟩, fun j => frm_frozen hf h6 (h5 j) hS, Nat.lt_of_lt_of_le h6 hf.size⟩, ⟨cur, by rw [hf.block g h6 hS]; exact hc⟩, hl⟩

theorem typ_ne {w : World} {b c : Nat} {x y : Array Value} {s t : TypeId} (h : w.heap[b]? = some (.cells x s (0, 0))) (k : w.heap[c]? = some (.cells y t (0, 0))) (hn : s ≠ t) : b ≠ c := by
  rintro rfl
  rw [h] at k
  simp only [Option.some.injEq, Obj.cells.injEq] at k
  exact hn k.2.1

theorem parts_sl : ∃ i, Tryz.prog.info? 55 = some i ∧ i.zero = some (.slice none 0 0) ∧ i.size = 1 ∧ i.bytes = 24 := by
  obtain ⟨i, hi, h2⟩ := Option.map_eq_some_iff.1 info_s
  simp only [Prod.mk.injEq] at h2
  exact ⟨i, hi, h2.1, h2.2.2, h2.2.1⟩

/-- Offers, or none, appended in a region that draws. -/
theorem step_appX {ops : Array Oper} {o : Oper} {a : Act} {K : Act → World → Prop} {Q : Exit → Act → World → Prop} {E : Prop} (W : World) (hgd : o.guard = none) (s x : Operand)
    (ho : o.op = .call { callee := .builtin .append, args := #[s, x], argTypes := #[55, 55] }) (B : Nat) (v : Value) (xo : Option Addr) (n2 c2 : Nat) (L1 L2 : List Off) (hs : a.eval s = v) (hx : a.eval x = .slice xo n2 c2) (hn2 : L2.length = n2) (hn : xo = none → c2 = 0) (hown : W.ownsRow B 62 2 v L1.length (flatO L1)) (hO : OffC W xo L2)
    (hl : L1.length + L2.length ≤ 1000000) (hB : B ≤ W.heap.size)
    (h : ∀ v' W', W'.ownsRow B 62 2 v' (L1 ++ L2).length (flatO (L1 ++ L2)) → W.grownBy W' v.ownBlock → K (a.put o.dst v') W') :
    if Region.wanted o (yielded ops a.tmps) = true then Oper.wp Tryz.prog o a W K Q else E := by
  have hw : Region.wanted o (yielded ops a.tmps) = true := by simp [Region.wanted, hgd]
  subst hn2
  rw [if_pos hw]
  obtain ⟨i0, hi0, hz0, hz1, hz2⟩ := parts_o
  cases xo with
  | none =>
    obtain rfl := hO.nil
    rw [hn rfl] at hx
    have hrun := run_append_owned_none (P := Tryz.prog) (w := W) B 55 o.type 62 i0 2 Tryz.underlying55 hi0 v L1.length (flatO L1) hown
    have hk := h v W (by simpa using hown) ⟨rfl, rfl, rfl, Nat.le_refl _, fun _ _ _ => rfl⟩
    unfold Oper.wp
    simp [execOp, ho, resolve, invoke, builtin, hs, hx, hrun, Result.andThen]
    exact hk
  | some ad =>
    exact wp_append_own W s x 55 ho B 62 i0 _ 2 16 Tryz.underlying55 hi0 hz0 hz1 hz2 rfl (by omega) v L1.length (flatO L1) hs hown ad L2.length c2 (flatO L2) hx (flatO_length L2) (off_cells hO) (flatO_one L2) (by unfold maxLen; omega) (by omega) hB (fun v' w' h8 h9 _ => h v' w' (by rw [List.length_append, flatO_append]; exact h8) h9)

/-- A list lent: its mark behind it. -/
def LtO (B : Nat) (w : World) (v : Value) (L : List Off) (m : Off) : Prop := ∃ b cap, v = .slice (some ⟨b, 0, none⟩) L.length cap ∧ L.length + 1 ≤ cap ∧ RowT B w b (L ++ [m])

theorem LtO.frm {B : Nat} {S : Nat → Prop} {w w' : World} {v : Value} {L : List Off} {m : Off} (h : LtO B w v L m) (hf : Frm S w w') (hS : ∀ b, S b → (∃ cur, w.heap[b]? = some (.cells cur 62 (0, 0))) → b < B) : LtO B w' v L m := by
  obtain ⟨b, cap, h1, h2, h3⟩ := h
  refine ⟨b, cap, h1, h2, h3.frm hf (fun e => ?_)⟩
  have := hS b e h3.ty
  have := h3.lo
  omega
theorem LtO.low {B C : Nat} {w : World} {v : Value} {L : List Off} {m : Off} (h : LtO B w v L m) (hc : C ≤ B) : LtO C w v L m := by
  obtain ⟨b, cap, h1, h2, h3⟩ := h
  exact ⟨b, cap, h1, h2, h3.own, h3.ty, by have := h3.lo; omega⟩

theorem own_lent {w : World} {B : Nat} {v : Value} {L : List Off} {m : Off} (h : w.ownsRow B 62 2 v (L ++ [m]).length (flatO (L ++ [m]))) : ∃ b cap, v = .slice (some ⟨b, 0, none⟩) (L.length + 1) cap ∧ L.length + 1 ≤ cap ∧ RowT B w b (L ++ [m]) := by
  rcases h.2 with ⟨rfl, h0⟩ | ⟨g, cap, cur, rfl, h3, h4, h5, h6, h7, h8⟩
  · simp at h0
  · refine ⟨g, cap, by simp, by simpa using h5, ⟨fun i hi => ?_, fun j => blk_fz h4 j, blk_lt h4⟩, ⟨_, h4⟩, h3⟩
    obtain ⟨f1, f2⟩ := flatO_get (L ++ [m]) i hi
    have g1 : (cur.toList.take ((L ++ [m]).length * 2))[i * 2]? = (flatO (L ++ [m]))[i * 2]? := by rw [h8]
    have g2 : (cur.toList.take ((L ++ [m]).length * 2))[i * 2 + 1]? = (flatO (L ++ [m]))[i * 2 + 1]? := by rw [h8]
    rw [List.getElem?_take_of_lt (by omega), f1] at g1
    rw [List.getElem?_take_of_lt (by omega), f2] at g2
    exact ⟨blk_cells h4 (by simpa using g1), blk_cells h4 (by simpa using g2)⟩

theorem own_len {w : World} {B : Nat} {e : TypeId} {v : Value} {n : Nat} {V : List Value} (h : w.ownsRow B e 1 v n V) : V.length = n := by have := h.1; omega

theorem grown_none {w w' : World} (h : w.grownBy w' none) : Old w w' := Frm.grown (Frm.refl _ w) h (fun k hk => by cases hk)
theorem grown_own {w0 w w' : World} {v : Value} {L : List Off} (o : Old w0 w) (hv : w.ownsRow w0.heap.size 62 2 v L.length (flatO L)) (h : w.grownBy w' v.ownBlock) : Old w0 w' := by
  have hf : Frm (fun q => v.ownBlock = some q) w w' := Frm.grown (Frm.refl _ w) h (fun k hk => Or.inr hk)
  refine Frm.trans (S := fun _ => False) o hf (fun i hi e => ?_)
  rcases hv.2 with ⟨e2, _⟩ | ⟨q, c, cur, e2, h3, _⟩
  · rw [e2] at e; simp [Value.ownBlock] at e
  · rw [e2] at e
    simp [Value.ownBlock] at e
    omega
theorem own_old2 {w w' : World} {B : Nat} {e : TypeId} {v : Value} {n : Nat} {xs : List Value} (h : w.ownsRow B e 2 v n xs) (o : Old w w') : w'.ownsRow B e 2 v n xs := by
  refine ⟨h.1, ?_⟩
  rcases h.2 with h2 | ⟨g, cap, cur, rfl, h3, h4, h5⟩
  · exact Or.inl h2
  · exact Or.inr ⟨g, cap, cur, rfl, h3, by rw [o.block g (blk_lt h4) (fun h => h)]; exact h4, h5⟩

theorem own_cap {w : World} {B : Nat} {e : TypeId} {a : Option Addr} {n c : Nat} {xs : List Value} (h : w.ownsRow B e 1 (.slice a (n + 1) c) (n + 1) xs) : (n : Int) ≤ (c : Int) ∧ n + 1 ≤ c := by
  rcases h.2 with ⟨_, e0⟩ | ⟨g, cap, cur, e2, h3, h4, h5, _⟩
  · omega
  · simp only [Value.slice.injEq, true_and] at e2
    omega


/-- As it is given: the lists of the first k buyers. -/
structure LY (w wr : World) (xb : Nat) (gd : Int) (s tv : Value) (B : Ins) (k : Nat) : Prop where
  old : Old w wr
  lo : w.heap.size ≤ xb
  x : wr.heap[xb]? = some (.cells #[.int .i64 gd, s] 24 (0, 0))
  r : wr.heap[xb + 1]? = some (.cells #[.int .i64 0, .slice none 0 0] 24 (0, 0))
  y : wr.heap[xb + 1 + 1]? = some (.cells #[.int .i64 gd, tv] 24 (0, 0))
  row : ∃ V : List Value, wr.ownsRow w.heap.size 55 1 tv k V ∧ ∀ i, i < k → LtO w.heap.size wr (V.getD i nilS) (B.getD i []) (0, 4242)

/-- A list more: whatever was made and turned on the way. -/
theorem LY.next {w wr w2 : World} {xb : Nat} {gd : Int} {s tv tv' v : Value} {B : Ins} {k : Nat} {V : List Value} (h : LY w wr xb gd s tv B k) (hV : wr.ownsRow w.heap.size 55 1 tv k V) (hVL : ∀ i, i < k → LtO w.heap.size wr (V.getD i nilS) (B.getD i []) (0, 4242))
    (hf : Frm (fun q => tv.ownBlock = some q) wr w2) (hown : w2.ownsRow w.heap.size 55 1 tv' (k + 1) (V ++ [v])) (hl : LtO wr.heap.size w2 v (B.getD k []) (0, 4242)) : LY w (w2.setCell ⟨xb + 1 + 1, 1, none⟩ tv') xb gd s tv' B (k + 1) := by
  have vt : ∀ q, tv.ownBlock = some q → ∃ cur, wr.heap[q]? = some (.cells cur 55 (0, 0)) := fun q hq => owns_block hV hq
  have hVl := own_len hV
  have hx := (hf.block xb (blk_lt h.x) (fun e => by obtain ⟨cur, hc⟩ := vt _ e; exact typ_ne h.x hc (by decide) rfl)).trans h.x
  have hr := (hf.block (xb + 1) (blk_lt h.r) (fun e => by obtain ⟨cur, hc⟩ := vt _ e; exact typ_ne h.r hc (by decide) rfl)).trans h.r
  have hy := (hf.block (xb + 1 + 1) (blk_lt h.y) (fun e => by obtain ⟨cur, hc⟩ := vt _ e; exact typ_ne h.y hc (by decide) rfl)).trans h.y
  have hs := frm_set w2 (xb + 1 + 1) 1 tv'
  have hold : Old w w2 := Frm.trans (S := fun _ => False) h.old hf (fun i hi e => by
    rcases hV.2 with ⟨e2, _⟩ | ⟨q, c, cur, e2, h3, _⟩
    · rw [e2] at e; simp [Value.ownBlock] at e
    · rw [e2] at e
      simp [Value.ownBlock] at e
      omega)
  refine ⟨Frm.trans (S := fun _ => False) hold hs (fun i hi e => by have := h.lo; omega), h.lo, ?_, ?_, ?_, V ++ [v], ?_, fun i hi => ?_⟩
  · rw [hs.block xb (blk_lt hx) (by omega)]; exact hx
  · rw [hs.block (xb + 1) (blk_lt hr) (by omega)]; exact hr
  · exact heap_set tv' hy
  · refine owns_kept hown (fun q hq => ?_)
    obtain ⟨cur, hc⟩ := owns_block hown hq
    exact hs.block q (blk_lt hc) (fun e => by subst e; exact typ_ne hy hc (by decide) rfl)
  · have hset : ∀ b, b = xb + 1 + 1 → (∃ cur, w2.heap[b]? = some (.cells cur 62 (0, 0))) → b < w.heap.size := fun b e ⟨cur, hc⟩ => by
      subst e
      exact absurd rfl (typ_ne hc hy (by decide))
    by_cases e : i < k
    · have e2 : (V ++ [v]).getD i nilS = V.getD i nilS := by simp [List.getD_eq_getElem?_getD, List.getElem?_append_left (show i < V.length by omega)]
      rw [e2]
      exact ((hVL i e).frm hf (fun b e1 ⟨cur, hc⟩ => by obtain ⟨cur', hc'⟩ := vt b e1; exact absurd rfl (typ_ne hc hc' (by decide)))).frm hs hset
    · have e3 : i = k := by omega
      subst e3
      have e2 : (V ++ [v]).getD i nilS = v := by simp [List.getD_eq_getElem?_getD, ← hVl]
      rw [e2]
      exact (hl.low h.old.size).frm hs hset

theorem LY.olds {w wr w2 : World} {xb : Nat} {gd : Int} {s tv : Value} {B : Ins} {k : Nat} (h : LY w wr xb gd s tv B k) (o : Old wr w2) : LY w w2 xb gd s tv B k := by
  obtain ⟨V, h1, h2⟩ := h.row
  exact ⟨h.old.trans o, h.lo, by rw [o.block xb (blk_lt h.x) (fun h => h)]; exact h.x, by rw [o.block (xb + 1) (blk_lt h.r) (fun h => h)]; exact h.r, by rw [o.block (xb + 1 + 1) (blk_lt h.y) (fun h => h)]; exact h.y, V, owns_kept h1 (fun q hq => by obtain ⟨cur, hc⟩ := owns_block h1 hq; exact o.block q (blk_lt hc) (fun h => h)), fun i hi => (h2 i hi).frm o (fun b e => e.elim)⟩

/-- An instance lent: its lists, each with its mark behind it, and a mark behind the lists. -/
def LenI (lo : Nat) (w : World) (v : Value) (B : Ins) : Prop := ∃ (a : Option Addr) (c : Nat) (V : List Value) (ub : Nat), v = .slice a B.length c ∧ V.length = B.length ∧ w.ownsRow lo 55 1 (.slice a (B.length + 1) c) (B.length + 1) (V ++ [.slice (some ⟨ub, 0, none⟩) 1 1]) ∧ (∀ i, i < B.length → LtO lo w (V.getD i nilS) (B.getD i []) (0, 4242)) ∧ RowT lo w ub [(0, 4243)]
end Go.Proofs.YtfoadheepmgbfaaGreatDoor

/- Lists of offers lowered, and an instance while it is built: walked. -/
namespace Go.Proofs.YtfoadheepmgbfaaGreatDoor
open Go.RowKit Go.Lib Go.Shelf
attribute [local go_sem] Oper.semAt_some

theorem ownK {w w' : World} {B : Nat} {e : TypeId} {k : Nat} {v : Value} {n : Nat} {xs : List Value} (h : w.ownsRow B e k v n xs) (hb : ∀ q cur, v.ownBlock = some q → w.heap[q]? = some (.cells cur e (0, 0)) → B ≤ q → w'.heap[q]? = w.heap[q]?) : w'.ownsRow B e k v n xs := by
  refine ⟨h.1, ?_⟩
  rcases h.2 with h2 | ⟨g, cap, cur, rfl, h3, h4, h5⟩
  · exact Or.inl h2
  · exact Or.inr ⟨g, cap, cur, rfl, h3, by rw [hb g cur rfl h4 h3]; exact h4, h5⟩
theorem ownLow {w : World} {B C : Nat} {e : TypeId} {k : Nat} {v : Value} {n : Nat} {xs : List Value} (h : w.ownsRow B e k v n xs) (hc : C ≤ B) : w.ownsRow C e k v n xs := by
  refine ⟨h.1, ?_⟩
  rcases h.2 with h2 | ⟨g, cap, cur, rfl, h3, h4⟩
  · exact Or.inl h2
  · exact Or.inr ⟨g, cap, cur, rfl, by omega, h4⟩
theorem own_off {w : World} {N : Nat} {v : Value} {L : List Off} (h : w.ownsRow N 62 2 v L.length (flatO L)) : ∃ a c, v = .slice a L.length c ∧ OffC w a L ∧ (a = none → c = 0) := by
  rcases h.2 with ⟨rfl, h0⟩ | ⟨g, cap, cur, rfl, h3, h4, h5, h6, h7, h8⟩
  · have : L = [] := List.eq_nil_of_length_eq_zero h0
    subst this
    exact ⟨none, 0, rfl, fun i (hi : i < 0) => absurd hi (Nat.not_lt_zero i), fun _ => rfl⟩
  · refine ⟨some ⟨g, 0, none⟩, cap, rfl, fun i hi => ?_, fun h => by cases h⟩
    obtain ⟨f1, f2⟩ := flatO_get L i hi
    have g1 : (cur.toList.take (L.length * 2))[i * 2]? = (flatO L)[i * 2]? := by rw [h8]
    have g2 : (cur.toList.take (L.length * 2))[i * 2 + 1]? = (flatO L)[i * 2 + 1]? := by rw [h8]
    rw [List.getElem?_take_of_lt (by omega), f1] at g1
    rw [List.getElem?_take_of_lt (by omega), f2] at g2
    exact ⟨g, 0, rfl, by rw [Nat.zero_add]; exact blk_cells h4 (by simpa using g1), by rw [Nat.zero_add]; exact blk_cells h4 (by simpa using g2)⟩

/-- An instance, built so far. -/
structure BI (N : Nat) (wr : World) (bb : Nat) (gd : Int) (v : Value) (Q : Ins) : Prop where
  y : wr.heap[bb]? = some (.cells #[.int .i64 gd, v] 24 (0, 0))
  row : ∃ V : List Value, wr.ownsRow N 55 1 v Q.length V ∧ ∀ i, i < Q.length → wr.ownsRow N 62 2 (V.getD i nilS) (Q.getD i []).length (flatO (Q.getD i []))

theorem BI.frm {N : Nat} {S : Nat → Prop} {wr w2 : World} {bb : Nat} {gd : Int} {v : Value} {Q : Ins} (h : BI N wr bb gd v Q) (hf : Frm S wr w2) (h0 : ¬ S bb) (hS : ∀ q cur t, wr.heap[q]? = some (.cells cur t (0, 0)) → t ≠ 24 → N ≤ q → ¬ S q) : BI N w2 bb gd v Q := by
  obtain ⟨V, h1, h2⟩ := h.row
  exact ⟨(hf.block _ (blk_lt h.y) h0).trans h.y, V, ownK h1 (fun q cur _ hq hN => hf.block q (blk_lt hq) (hS q cur _ hq (by decide) hN)), fun i hi => ownK (h2 i hi) (fun q cur _ hq hN => hf.block q (blk_lt hq) (hS q cur _ hq (by decide) hN))⟩
theorem BI.old {N : Nat} {wr w2 : World} {bb : Nat} {gd : Int} {v : Value} {Q : Ins} (h : BI N wr bb gd v Q) (o : Old wr w2) : BI N w2 bb gd v Q := h.frm o (fun h => h) (fun _ _ _ _ _ _ h => h)
theorem BI.box {N b2 : Nat} {wr w2 : World} {bb : Nat} {gd : Int} {v : Value} {Q : Ins} {a : Array Value} (h : BI N wr bb gd v Q) (hf : Frm (fun q => q = b2) wr w2) (hb : wr.heap[b2]? = some (.cells a 24 (0, 0))) (hne : bb ≠ b2) : BI N w2 bb gd v Q :=
  h.frm hf hne (fun q cur t hq ht _ e => by
    subst e
    exact typ_ne hq hb ht rfl)

theorem BI.next {N : Nat} {wr w5 : World} {bb : Nat} {gd : Int} {v v' l : Value} {Q : Ins} {L : List Off} {V : List Value} (h : BI N wr bb gd v Q) (hV : wr.ownsRow N 55 1 v Q.length V) (hVL : ∀ i, i < Q.length → wr.ownsRow N 62 2 (V.getD i nilS) (Q.getD i []).length (flatO (Q.getD i [])))
    (hf : Frm (fun q => v.ownBlock = some q) wr w5) (hown : w5.ownsRow N 55 1 v' (Q.length + 1) (V ++ [l])) (hl : wr.ownsRow N 62 2 l L.length (flatO L)) : BI N (w5.setCell ⟨bb, 1, none⟩ v') bb gd v' (Q ++ [L]) := by
  have hne : ∀ q a t, t ≠ 55 → wr.heap[q]? = some (.cells a t (0, 0)) → ¬ v.ownBlock = some q := fun q a t ht hq e => by
    obtain ⟨cur', hc'⟩ := owns_block hV e
    exact typ_ne hq hc' ht rfl
  have hy := (hf.block _ (blk_lt h.y) (hne _ _ _ (by decide) h.y)).trans h.y
  have hs := frm_set w5 bb 1 v'
  have hVl := own_len hV
  have up : ∀ {u : Value} {M : List Off}, wr.ownsRow N 62 2 u M.length (flatO M) → (w5.setCell ⟨bb, 1, none⟩ v').ownsRow N 62 2 u M.length (flatO M) := fun {u M} hu => by
    have h5 : w5.ownsRow N 62 2 u M.length (flatO M) := ownK hu (fun q cur _ hq _ => hf.block q (blk_lt hq) (hne _ _ _ (by decide) hq))
    exact ownK h5 (fun q cur _ hq _ => hs.block q (blk_lt hq) (fun e => by subst e; exact typ_ne hq hy (by decide) rfl))
  refine ⟨heap_set v' hy, V ++ [l], ?_, fun i hi => ?_⟩
  · rw [List.length_append]
    exact ownK hown (fun q cur _ hq _ => hs.block q (blk_lt hq) (fun e => by subst e; exact typ_ne hq hy (by decide) rfl))
  · rw [List.length_append] at hi
    have hi : i < Q.length + 1 := hi
    by_cases e : i < Q.length
    · have e1 : (V ++ [l]).getD i nilS = V.getD i nilS := by simp [List.getD_eq_getElem?_getD, List.getElem?_append_left (show i < V.length by omega)]
      have e2 : (Q ++ [L]).getD i [] = Q.getD i [] := by simp [List.getD_eq_getElem?_getD, List.getElem?_append_left e]
      rw [e1, e2]
      exact up (hVL i e)
    · have e3 : i = Q.length := by omega
      subst e3
      have e1 : (V ++ [l]).getD Q.length nilS = l := by simp [List.getD_eq_getElem?_getD, ← hVl]
      have e2 : (Q ++ [L]).getD Q.length [] = L := by simp [List.getD_eq_getElem?_getD]
      rw [e1, e2]
      exact up hl

theorem BI.ins {N : Nat} {wr : World} {bb : Nat} {gd : Int} {v : Value} {Q : Ins} (h : BI N wr bb gd v Q) (hb : ∀ l ∈ Q, l.length ≤ 9223372036854775807 ∧ ∀ x ∈ l, x.1 < 4294967296) : ∃ ao c, v = .slice ao Q.length c ∧ InsC wr ao Q ∧ Q.length ≤ c := by
  obtain ⟨V, hV, hVL⟩ := h.row
  have hVl := own_len hV
  rcases hV.2 with ⟨rfl, h0⟩ | ⟨g, cap, cur, rfl, h3, h4, h5, h6, h7, h8⟩
  · exact ⟨none, 0, by rw [h0], fun i hi => by omega, by omega⟩
  · refine ⟨some ⟨g, 0, none⟩, cap, rfl, fun i hi => ?_, h5⟩
    obtain ⟨a, c, e1, e2, -⟩ := own_off (hVL i hi)
    have e9 : Q.getD i [] = Q[i] := by rw [List.getD_eq_getElem?_getD, List.getElem?_eq_getElem hi]; rfl
    rw [e9] at e1 e2
    have h9 : (cur.toList.take (Q.length * 1))[i]? = V[i]? := by rw [h8]
    rw [List.getElem?_take_of_lt (by omega), List.getElem?_eq_getElem (show i < V.length by omega)] at h9
    have e8 : V[i]'(by omega) = V.getD i nilS := by rw [List.getD_eq_getElem?_getD, List.getElem?_eq_getElem (show i < V.length by omega)]; rfl
    rw [e8, e1] at h9
    exact ⟨g, 0, a, c, rfl, by rw [Nat.zero_add]; exact blk_cells h4 (by simpa using h9), e2, (hb _ (List.getElem_mem hi)).1, (hb _ (List.getElem_mem hi)).2⟩
/-- Offers in memory behind a row that one owns. -/
theorem wpAppO {ops : Array Oper} {rest : List Oper} {o : Oper} {a : Act} {Q : Exit → Act → World → Prop} {w : World} (hgd : o.guard = none) (s x : Operand) (ho : o.op = .call { callee := .builtin .append, args := #[s, x], argTypes := #[55, 55] })
    (B : Nat) (v : Value) (xo : Option Addr) (c2 : Nat) (L1 L2 : List Off) (hs : a.eval s = v) (hx : a.eval x = .slice xo L2.length c2) (hown : w.ownsRow B 62 2 v L1.length (flatO L1)) (hO : OffC w xo L2) (hn : xo = none → c2 = 0) (hl : L1.length + L2.length ≤ 1000000) (hB : B ≤ w.heap.size)
    (h : ∀ v' w', w'.ownsRow B 62 2 v' (L1 ++ L2).length (flatO (L1 ++ L2)) → w.grownBy w' v.ownBlock → wpList Tryz.prog ops Q rest (a.put o.dst v') w') : wpList Tryz.prog ops Q (o :: rest) a w := by
  obtain ⟨i0, hi0, hz0, hz1, hz2⟩ := parts_o
  cases xo with
  | none =>
    have hM : L2 = [] := by
      apply List.eq_nil_of_length_eq_zero
      apply Nat.eq_zero_of_not_pos
      intro hp
      obtain ⟨g, o, e, _⟩ := hO 0 hp
      cases e
    subst hM
    rw [hn rfl] at hx
    refine wpList_append_own_none hgd s x 55 ho B 62 i0 2 Tryz.underlying55 hi0 v L1.length (flatO L1) hs hown hx ?_
    refine h v w (by simpa using hown) ⟨rfl, rfl, rfl, Nat.le_refl _, fun _ _ _ => rfl⟩
  | some ad =>
    exact wpList_append_own _ hgd s x 55 ho B 62 i0 _ 2 16 Tryz.underlying55 hi0 hz0 hz1 hz2 rfl (by omega) v L1.length (flatO L1) hs hown ad L2.length c2 (flatO L2) hx (flatO_length L2) (off_cells hO) (flatO_one L2) (by unfold maxLen; omega) (by omega) hB (fun v' w' h8 h9 _ => h v' w' (by rw [List.length_append, flatO_append]; exact h8) h9)



/-- A list of offers behind a row of such that one owns. -/
theorem wpAppR {ops : Array Oper} {rest : List Oper} {o : Oper} {a : Act} {Q : Exit → Act → World → Prop} {w : World} (hgd : o.guard = none) (s x : Operand) (ho : o.op = .call { callee := .builtin .append, args := #[s, x], argTypes := #[22, 22] })
    (B : Nat) (v : Value) (b : Nat) (V : List Value) (l : Value) (n : Nat) (hn : V.length = n) (hs : a.eval s = v) (hx : a.eval x = .slice (some ⟨b, 0, none⟩) 1 1) (hown : w.ownsRow B 55 1 v n V) (hO : w.cell? ⟨b, 0, none⟩ = some l) (h1 : l.oneCell' = true) (hl : n ≤ 1000) (hB : B ≤ w.heap.size)
    (h : ∀ v' w', w'.ownsRow B 55 1 v' (n + 1) (V ++ [l]) → w.grownBy w' v.ownBlock → wpList Tryz.prog ops Q rest (a.put o.dst v') w') : wpList Tryz.prog ops Q (o :: rest) a w := by
  obtain ⟨i0, hi0, hz0, hz1, hz2⟩ := parts_sl
  subst hn
  refine wpList_append_own _ hgd s x 22 ho B 55 i0 _ 1 24 Tryz.underlying22 hi0 hz0 hz1 hz2 rfl (by omega) v V.length V hs hown ⟨b, 0, none⟩ 1 1 [l] hx rfl (fun j u hu => ?_) (fun u hu => ?_) (by unfold maxLen; omega) (by omega) hB (fun v' w' h8 h9 _ => h v' w' h8 h9)
  · match j, hu with
    | 0, hu =>
      obtain rfl : l = u := by simpa using hu
      rw [Addr.add_lit]
      exact hO
  · obtain rfl : u = l := by simpa using hu
    exact h1


theorem off_blk {w : World} {b : Nat} {t : TypeId} {L : List Off} (h : w.heap[b]? = some (.cells (flatO L).toArray t (0, 0))) : OffC w (some ⟨b, 0, none⟩) L := (own_blk h).off
theorem owns_kept2 {w w' : World} {B : Nat} {e : TypeId} {v : Value} {n : Nat} {xs : List Value} (h : w.ownsRow B e 2 v n xs) (hb : ∀ k, v.ownBlock = some k → w'.heap[k]? = w.heap[k]?) : w'.ownsRow B e 2 v n xs := by
  refine ⟨h.1, ?_⟩
  rcases h.2 with h2 | ⟨g, cap, cur, rfl, h3, h4, h5⟩
  · exact Or.inl h2
  · exact Or.inr ⟨g, cap, cur, rfl, h3, by rw [hb g rfl]; exact h4, h5⟩
theorem frm_set0 {w : World} {b i j : Nat} {u x : Value} (h : w.cell? ⟨b, j, none⟩ = some x) (hn : i ≠ j) : (w.setCell ⟨b, i, none⟩ u).cell? ⟨b, j, none⟩ = some x := set_oth h hn

/-- A list lowered by c coins. -/
def lowL (c : Int) (L : List Off) : List Off := L.filterMap (fun x => if x.2 > max c 0 then some (x.1, x.2 - max c 0) else none)

theorem lowL_take {c : Int} {L : List Off} {k : Nat} (h : k < L.length) : lowL c (L.take (k + 1)) = lowL c (L.take k) ++ (if L[k].2 > max c 0 then [(L[k].1, L[k].2 - max c 0)] else []) := by
  unfold lowL
  rw [List.take_succ_eq_append_getElem h, List.filterMap_append]
  congr 1
  by_cases h1 : L[k].2 > max c 0
  · simp [h1]
  · simp [h1]
theorem lowL_len (c : Int) (L : List Off) : (lowL c L).length ≤ L.length := List.length_filterMap_le _ _

set_option maxRecDepth 100000 in
set_option maxHeartbeats 8000000 in
theorem lower_own (c : Int) (hc : -9223372036854775808 ≤ c ∧ c ≤ 9223372036854775807) (ao : Option Addr) (cap : Nat) (L : List Off) (w : World) (h : OffC w ao L) (hL : ∀ x ∈ L, x.2 ≤ 9223372036854775807) (hl : L.length ≤ 999999) :
    Calls Tryz.prog 43 #[.int .i64 c, .slice ao L.length cap] w fun e w' => ∃ v, e = .returned v ∧ w'.ownsRow w.heap.size 62 2 v (lowL c L).length (flatO (lowL c L)) ∧ Old w w' := by
  have kO := hid h
  have kL := hid hL
  have kl : Hid (∀ k (h : k < L.length), lowL c (L.take (k + 1)) = lowL c (L.take k) ++ (if L[k].2 > max c 0 then [(L[k].1, L[k].2 - max c 0)] else [])) := fun k h => lowL_take h
  clear h hL
  obtain ⟨m, hm⟩ : ∃ m, max c 0 = m := ⟨_, rfl⟩
  rw [hm] at kl
  have hm0 : 0 ≤ m ∧ m ≤ 9223372036854775807 := by omega
  go_enter Tryz.func43, Tryz.ntmps43
  go_wp2_with fail
  go_loopw [5, 12] (fun v t wr => ∃ k : Nat, k ≤ L.length ∧ t = .int .i64 (k : Int) ∧ Hid (wr.ownsRow w.heap.size 62 2 v (lowL c (L.take k)).length (flatO (lowL c (L.take k)))) ∧ Old w wr) (fun _ t _ => L.length - (intOf t).toNat)
  case atStart => exact ⟨0, Nat.zero_le _, rfl, hid ⟨rfl, Or.inl ⟨rfl, rfl⟩⟩, Old.refl _⟩
  case round =>
    obtain ⟨k, hk, rfl, hown, oW⟩ := hrel
    by_cases hlt : k < L.length
    · obtain ⟨bg, o, rfl, d1, d2⟩ := kO.out k hlt
      have e1 := oW.cell d1
      have e2 := oW.cell d2
      have hk' : (k : Int) < (L.length : Int) := by omega
      have hkl := hid (kl.out k hlt)
      have hxm := kL.out _ (List.getElem_mem hlt)
      have hll := lowL_len c (L.take k)
      have hll2 : (L.take k).length ≤ L.length := by simp; omega
      have hsz := oW.size
      obtain ⟨x, hx⟩ : ∃ x, L[k] = x := ⟨_, rfl⟩
      rw [hx] at e1 e2 hkl hxm
      obtain ⟨n0, n1⟩ := off_new wr x
      have oA : Old wr (wr.alloc (.cells #[.int .u32 (x.1 : Int), .int .i64 x.2] 62)) := (Old.refl wr).alloc _
      have hbA := heap_new wr (.cells #[.int .u32 (x.1 : Int), .int .i64 x.2] 62)
      have hsA := alloc_size wr (.cells #[.int .u32 (x.1 : Int), .int .i64 x.2] 62)
      have zA := blk_fz hbA 1
      obtain ⟨xg, xc⟩ := x
      dsimp only at e1 e2 n0 n1 hkl hxm oA hbA hsA zA
      have koW := hid oW
      clear hx d1 d2 oW hbA
      by_cases hgt : xc > m
      · rw [if_pos hgt] at hkl
        have hs1 : -9223372036854775808 ≤ xc - m := by omega
        have hs2 : xc - m ≤ 9223372036854775807 := by omega
        have f1 := frm_set (wr.alloc (.cells #[.int .u32 (xg : Int), .int .i64 xc] 62)) wr.heap.size 1 (.int .i64 (xc - m))
        have m0 := frm_set0 (u := .int .i64 (xc - m)) n0 (i := 1) (by omega)
        have m1 := set_same (u := .int .i64 (xc - m)) n1
        have ow2 : ((wr.alloc (.cells #[.int .u32 (xg : Int), .int .i64 xc] 62)).setCell ⟨wr.heap.size, 1, none⟩ (.int .i64 (xc - m))).ownsRow w.heap.size 62 2 u5 (lowL c (L.take k)).length (flatO (lowL c (L.take k))) := owns_kept2 (hown.out.alloc _) (fun q hq => by
          have hqv := (hown.out.lt q hq).2
          exact f1.block q (by omega) (by omega))
        have hge := hid (fun q hq => (hown.out.lt q hq).1)
        have hs3 : ((wr.alloc (.cells #[.int .u32 (xg : Int), .int .i64 xc] 62)).setCell ⟨wr.heap.size, 1, none⟩ (.int .i64 (xc - m))).heap.size = wr.heap.size + 1 := by simp [World.setCell]
        have o2 : Old w ((wr.alloc (.cells #[.int .u32 (xg : Int), .int .i64 xc] 62)).setCell ⟨wr.heap.size, 1, none⟩ (.int .i64 (xc - m))) := Frm.trans (koW.out.trans oA) f1 (fun i hi e => by omega)
        obtain ⟨w2, hw2⟩ : ∃ w2, (wr.alloc (.cells #[.int .u32 (xg : Int), .int .i64 xc] 62)).setCell ⟨wr.heap.size, 1, none⟩ (.int .i64 (xc - m)) = w2 := ⟨_, rfl⟩
        rw [hw2] at m0 m1 ow2 hs3 o2
        have hb3 := heap_new w2 (.cells #[.int .u32 (xg : Int), .int .i64 (xc - m)] 62)
        have hO3 : OffC (w2.alloc (.cells #[.int .u32 (xg : Int), .int .i64 (xc - m)] 62)) (some ⟨wr.heap.size + 1, 0, none⟩) [(xg, xc - m)] := by
          rw [hs3] at hb3
          exact off_blk (L := [(xg, xc - m)]) hb3
        have ow3 := ow2.alloc (.cells #[.int .u32 (xg : Int), .int .i64 (xc - m)] 62)
        have o3 := hid (o2.trans ((Old.refl w2).alloc (.cells #[.int .u32 (xg : Int), .int .i64 (xc - m)] 62)))
        have hs4 := alloc_size w2 (.cells #[.int .u32 (xg : Int), .int .i64 (xc - m)] 62)
        clear ow2 o2 f1 oA hb3 hown
        go_wp2_with (first | rw [hw2] | (at_builtin; refine wpAppO (by rfl) _ _ (by rfl) w.heap.size u5 (some ⟨wr.heap.size + 1, 0, none⟩) 1 (lowL c (L.take k)) [(xg, xc - m)] (by rfl) (by rfl) ow3 hO3 (fun h => by cases h) (by simp; omega) (by omega) ?_))
        generalize w2.alloc (.cells #[.int .u32 (xg : Int), .int .i64 (xc - m)] 62) = w3 at *
        intro v4 w4 ow4 gr4
        have o4 : Hid (Old w w4) := by
          refine ⟨gr4.os.trans o3.out.os, gr4.tape.trans o3.out.tape, gr4.output.trans o3.out.output, Nat.le_trans o3.out.size gr4.size, fun q hq _ => ?_⟩
          rw [gr4.block q (by omega) (fun e => by have := hge.out q e.symm; omega)]
          exact o3.out.block q hq (fun h => h)
        have kow := hid ow4
        clear ow4 gr4 ow3 hO3
        go_wp2_with fail
        go_roundw
        case rel => exact ⟨k + 1, by omega, by go_num, by rw [hkl.out, List.length_append]; exact kow, o4.out⟩
        case measure => simp [intOf]; omega
      · rw [if_neg hgt, List.append_nil] at hkl
        have kow := hid (hown.out.alloc (.cells #[.int .u32 (xg : Int), .int .i64 xc] 62))
        clear hown
        go_wp2_with fail
        go_roundw
        case rel => exact ⟨k + 1, by omega, by go_num, by rw [hkl.out]; exact kow, koW.out.trans oA⟩
        case measure => simp [intOf]; omega
    · obtain rfl : k = L.length := by omega
      rw [List.take_length] at hown
      have kn := hown
      clear hown
      go_wp2_with fail
      go_ret
      exact ⟨_, rfl, kn.out, oW⟩

end Go.Proofs.YtfoadheepmgbfaaGreatDoor
