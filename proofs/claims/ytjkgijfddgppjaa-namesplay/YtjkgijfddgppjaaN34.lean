/- Two tables, the document's beside them, and those put aside: what lies where. -/
import Derived.Test.YtjkgijfddgppjaaN33
namespace Go.Proofs.Ytjkgijfddgppjaa
open Go.RowKit Go.Lib Go.Maps

/-- A table, with its blocks F. -/
def TN (w : World) (t : Nat) (F : Nat → Prop) (most : Int) (L : List (List UInt8)) : Prop := ∃ tb mb v, Nms w t tb mb v most L ∧ F t ∧ F tb ∧ F mb ∧ (∀ k, v.ownBlock = some k → F k) ∧ Good L
/-- The document's, with its list's blocks Z. -/
def DN (w : World) (r : Nat) (Z : Nat → Prop) (most : Int) (L : List (List UInt8)) : Prop := ∃ v, Doc w r v most L ∧ (∀ k, v.ownBlock = some k → Z k ∧ k < w.heap.size)

theorem TN.mono {w : World} {t : Nat} {F F' : Nat → Prop} {most : Int} {L : List (List UInt8)} (h : TN w t F most L) (hF : ∀ k, F k → F' k) : TN w t F' most L := by
  obtain ⟨tb, mb, v, h1, h2, h3, h4, h5, h6⟩ := h
  exact ⟨tb, mb, v, h1, hF _ h2, hF _ h3, hF _ h4, fun k hk => hF _ (h5 k hk), h6⟩
theorem TN.kept {S : Nat → Prop} {w w' : World} {t : Nat} {F : Nat → Prop} {most : Int} {L : List (List UInt8)} (h : TN w t F most L) (hf : Frm S w w') (hS : ∀ k, F k → ¬ S k) : TN w' t F most L := by
  obtain ⟨tb, mb, v, h1, h2, h3, h4, h5, h6⟩ := h
  exact ⟨tb, mb, v, h1.frm hf (hS _ h2) (hS _ h3) (hS _ h4) (fun k hk => hS _ (h5 k hk)), h2, h3, h4, h5, h6⟩
theorem DN.mono {w : World} {r : Nat} {Z Z' : Nat → Prop} {most : Int} {L : List (List UInt8)} (h : DN w r Z most L) (hZ : ∀ k, k < w.heap.size → Z k → Z' k) : DN w r Z' most L := by
  obtain ⟨v, h1, h2⟩ := h
  exact ⟨v, h1, fun k hk => ⟨hZ k (h2 k hk).2 (h2 k hk).1, (h2 k hk).2⟩⟩
theorem DN.kept {S : Nat → Prop} {w w' : World} {r : Nat} {Z : Nat → Prop} {most : Int} {L : List (List UInt8)} (h : DN w r Z most L) (hf : Frm S w w') (hr : ¬ S r) (hS : ∀ k, Z k → ¬ S k) : DN w' r Z most L := by
  obtain ⟨v, h1, h2⟩ := h
  exact ⟨v, h1.frm hf hr (fun k hk => hS _ (h2 k hk).1), fun k hk => ⟨(h2 k hk).1, Nat.lt_of_lt_of_le (h2 k hk).2 hf.size⟩⟩

/-- Pointers, as cells. -/
def ptrs (ps : List Nat) : List Value := ps.map (fun b => .pointer (some ⟨b, 0, none⟩))

/-- Tables that were put aside, the document's beside them. -/
def EA (W : World) (τ : Nat → Nat) (most : Int) (olds : List (Nat × Nat)) : Prop := ∀ p ∈ olds, ∃ L, TN W p.1 (fun b => τ b = 8) most L ∧ DN W p.2 (fun b => τ b = 8) most L ∧ τ p.2 = 8 ∧ L.length ≤ 1000

/-- All of it: who has which block (1, 2: the program's two; 3, 4: the document's; 5: the world; 6, 7: its two lists; 8: what is turned no more). -/
structure PS (w0 w : World) (wb : Nat) (τ : Nat → Nat) (t r : Nat → Nat) (most : Int) (R D : Nat → List (List UInt8)) (vo vw : Value) (po pw : List Nat) (olds : List (Nat × Nat)) (N : Nat) : Prop where
  blk : w.heap[wb]? = some (.cells #[.pointer (some ⟨t 0, 0, none⟩), .pointer (some ⟨t 1, 0, none⟩), .pointer (some ⟨r 0, 0, none⟩), .pointer (some ⟨r 1, 0, none⟩), vo, vw] 31 (0, 0))
  wbt : τ wb = 5
  cal : ∀ k, k < 2 → TN w (t k) (fun b => τ b = 1 + k) most (R k)
  doc : ∀ k, k < 2 → DN w (r k) (fun b => τ b = 8) most (D k)
  rt : ∀ k, k < 2 → τ (r k) = 3 + k
  rowo : w.ownsRow w0.heap.size 24 1 vo po.length (ptrs po)
  roww : w.ownsRow w0.heap.size 26 1 vw pw.length (ptrs pw)
  tgo : ∀ k, vo.ownBlock = some k → τ k = 6
  tgw : ∀ k, vw.ownBlock = some k → τ k = 7
  each : EA w τ most olds
  bnd : ∀ b, τ b ≠ 0 → w0.heap.size ≤ b ∧ b < w.heap.size
  old : Old w0 w
  lenR : ∀ k, k < 2 → (R k).length ≤ N
  lenD : ∀ k, k < 2 → (D k).length ≤ N

/-- New blocks are given to c. -/
noncomputable def ext (τ : Nat → Nat) (n : Nat) (G : Nat → Prop) (c : Nat) : Nat → Nat := fun b => if b < n then τ b else @ite _ (G b) (Classical.propDecidable _) c 0

theorem ext_low {τ : Nat → Nat} {n c b : Nat} {G : Nat → Prop} (h : b < n) : ext τ n G c b = τ b := if_pos h
theorem ext_new {τ : Nat → Nat} {n c b : Nat} {G : Nat → Prop} (h : n ≤ b) (h2 : G b) : ext τ n G c b = c := by
  unfold ext; rw [if_neg (by omega), if_pos h2]
theorem ext_out {τ : Nat → Nat} {n c b : Nat} {G : Nat → Prop} (h : n ≤ b) (h2 : ¬ G b) : ext τ n G c b = 0 := by
  unfold ext; rw [if_neg (by omega), if_neg h2]

def put1 {α : Type} (f : Nat → α) (k : Nat) (x : α) : Nat → α := fun i => if i = k then x else f i
theorem put1_at {α : Type} (f : Nat → α) (k : Nat) (x : α) : put1 f k x k = x := if_pos rfl
theorem put1_ne {α : Type} (f : Nat → α) {k i : Nat} (x : α) (h : i ≠ k) : put1 f k x i = f i := if_neg h

structure Parts (w0 w : World) (wb : Nat) (c : Nat → Prop) (τ : Nat → Nat) (t r : Nat → Nat) (most : Int) (R D : Nat → List (List UInt8)) (vo vw : Value) (po pw : List Nat) (olds : List (Nat × Nat)) : Prop where
  blk : ¬ c 5 → w.heap[wb]? = some (.cells #[.pointer (some ⟨t 0, 0, none⟩), .pointer (some ⟨t 1, 0, none⟩), .pointer (some ⟨r 0, 0, none⟩), .pointer (some ⟨r 1, 0, none⟩), vo, vw] 31 (0, 0))
  wbt : τ wb = 5
  cal : ∀ k, k < 2 → ¬ c (1 + k) → TN w (t k) (fun b => τ b = 1 + k) most (R k)
  doc : ∀ k, k < 2 → ¬ c (3 + k) → DN w (r k) (fun b => τ b = 8) most (D k)
  rt : ∀ k, k < 2 → τ (r k) = 3 + k
  rowo : ¬ c 6 → w.ownsRow w0.heap.size 24 1 vo po.length (ptrs po)
  roww : ¬ c 7 → w.ownsRow w0.heap.size 26 1 vw pw.length (ptrs pw)
  tgo : ∀ k, vo.ownBlock = some k → τ k = 6
  tgw : ∀ k, vw.ownBlock = some k → τ k = 7
  each : EA w τ most olds
  bnd : ∀ b, τ b ≠ 0 → w0.heap.size ≤ b ∧ b < w.heap.size
  old : Old w0 w

theorem PS.parts {w0 w w' : World} {wb c' N : Nat} {c : Nat → Prop} {τ t r : Nat → Nat} {most : Int} {R D : Nat → List (List UInt8)} {vo vw : Value} {po pw : List Nat} {olds : List (Nat × Nat)} {S G : Nat → Prop} (h : PS w0 w wb τ t r most R D vo vw po pw olds N) (hf : Frm S w w') (hG : ∀ b, G b → b < w'.heap.size) (hc : ¬ c 8) (hS : ∀ b, b < w.heap.size → S b → (c (τ b) ∧ τ b ≠ 0) ∨ (τ b = 0 ∧ w0.heap.size ≤ b)) :
    Parts w0 w' wb c (ext τ w.heap.size G c') t r most R D vo vw po pw olds := by
  have hsz := hf.size
  have lo : ∀ b, τ b ≠ 0 → ext τ w.heap.size G c' b = τ b := fun b hb => ext_low (h.bnd b hb).2
  have nS : ∀ b, τ b ≠ 0 → ¬ c (τ b) → ¬ S b := fun b hb hne hSb => (hS b (h.bnd b hb).2 hSb).elim (fun h => hne h.1) (fun h => hb h.1)
  have mo : ∀ m, m ≠ 0 → ∀ b, τ b = m → ext τ w.heap.size G c' b = m := fun m hm b hb => by rw [lo b (by omega)]; exact hb
  have wl : ∀ b, τ b ≠ 0 → ¬ c (τ b) → w'.heap[b]? = w.heap[b]? := fun b hb hne => hf.block b (h.bnd b hb).2 (nS b hb hne)
  refine ⟨fun h5 => ?_, ?_, fun k hk hne => ?_, fun k hk hne => ?_, fun k hk => ?_, fun h6 => ?_, fun h7 => ?_, fun k hk => ?_, fun k hk => ?_, fun p hp => ?_, fun b hb => ?_, ?_⟩
  · rw [wl wb (by rw [h.wbt]; omega) (by rw [h.wbt]; exact h5)]; exact h.blk
  · exact mo 5 (by omega) _ h.wbt
  · exact ((h.cal k hk).kept hf (fun b hb => nS b (by omega) (by rw [hb]; exact hne))).mono (fun b hb => mo _ (by omega) b hb)
  · refine ((h.doc k hk).kept hf (nS _ (by rw [h.rt k hk]; omega) (by rw [h.rt k hk]; exact hne)) (fun b hb => nS b (by omega) (by rw [hb]; exact hc))).mono (fun b _ hb => mo 8 (by omega) b hb)
  · exact mo _ (by omega) _ (h.rt k hk)
  · exact owns_kept h.rowo (fun k hk => wl k (by rw [h.tgo k hk]; omega) (by rw [h.tgo k hk]; exact h6))
  · exact owns_kept h.roww (fun k hk => wl k (by rw [h.tgw k hk]; omega) (by rw [h.tgw k hk]; exact h7))
  · exact mo 6 (by omega) _ (h.tgo k hk)
  · exact mo 7 (by omega) _ (h.tgw k hk)
  · obtain ⟨L, h1, h2, h3, h4⟩ := h.each p hp
    refine ⟨L, (h1.kept hf (fun b hb => nS b (by omega) (by rw [hb]; exact hc))).mono (fun b hb => mo 8 (by omega) b hb), (h2.kept hf (nS _ (by omega) (by rw [h3]; exact hc)) (fun b hb => nS b (by omega) (by rw [hb]; exact hc))).mono (fun b _ hb => mo 8 (by omega) b hb), mo 8 (by omega) _ h3, h4⟩
  · unfold ext at hb
    by_cases h1 : b < w.heap.size
    · rw [if_pos h1] at hb
      have := h.bnd b hb
      omega
    · rw [if_neg h1] at hb
      have := h.old.size
      by_cases h2 : G b
      · have := hG b h2
        omega
      · rw [if_neg h2] at hb; exact absurd rfl hb
  · refine Frm.trans h.old hf (fun b hb hSb => ?_)
    rcases hS b (Nat.lt_of_lt_of_le hb h.old.size) hSb with h1 | h1
    · have h2 := (h.bnd b (by omega)).1
      omega
    · omega

/-- Nothing has turned. -/
theorem PS.olds {w0 w w' : World} {wb N : Nat} {τ t r : Nat → Nat} {most : Int} {R D : Nat → List (List UInt8)} {vo vw : Value} {po pw : List Nat} {olds : List (Nat × Nat)} (h : PS w0 w wb τ t r most R D vo vw po pw olds N) (hf : Old w w') :
    PS w0 w' wb (ext τ w.heap.size (fun _ => False) 0) t r most R D vo vw po pw olds N := by
  have p := h.parts (c := fun _ => False) (c' := 0) (G := fun _ => False) hf (fun _ h => h.elim) (fun h => h) (fun _ _ h => h.elim)
  exact ⟨p.blk (fun h => h), p.wbt, fun k hk => p.cal k hk (fun h => h), fun k hk => p.doc k hk (fun h => h), p.rt, p.rowo (fun h => h), p.roww (fun h => h), p.tgo, p.tgw, p.each, p.bnd, p.old, h.lenR, h.lenD⟩

/-- What is nobody's has turned. -/
theorem PS.free {w0 w w' : World} {wb N : Nat} {τ t r : Nat → Nat} {most : Int} {R D : Nat → List (List UInt8)} {vo vw : Value} {po pw : List Nat} {olds : List (Nat × Nat)} {S : Nat → Prop} (h : PS w0 w wb τ t r most R D vo vw po pw olds N) (hf : Frm S w w') (hS : ∀ b, S b → τ b = 0 ∧ w0.heap.size ≤ b) :
    PS w0 w' wb (ext τ w.heap.size (fun _ => False) 0) t r most R D vo vw po pw olds N := by
  have p := h.parts (c := fun _ => False) (c' := 0) (G := fun _ => False) hf (fun _ h => h.elim) (fun h => h) (fun b _ hb => Or.inr (hS b hb))
  exact ⟨p.blk (fun h => h), p.wbt, fun k hk => p.cal k hk (fun h => h), fun k hk => p.doc k hk (fun h => h), p.rt, p.rowo (fun h => h), p.roww (fun h => h), p.tgo, p.tgw, p.each, p.bnd, p.old, h.lenR, h.lenD⟩

/-- One of the program's tables has turned. -/
theorem PS.calm {w0 w w' : World} {wb N N' k : Nat} {τ t r : Nat → Nat} {most : Int} {R D : Nat → List (List UInt8)} {vo vw : Value} {po pw : List Nat} {olds : List (Nat × Nat)} {R' : List (List UInt8)} {F' : Nat → Prop} (h : PS w0 w wb τ t r most R D vo vw po pw olds N) (hk : k < 2)
    (h1 : TN w' (t k) F' most R') (hf : Frm (fun b => τ b = 1 + k) w w') (h2 : ∀ b, F' b → (τ b = 1 + k ∨ w.heap.size ≤ b) ∧ b < w'.heap.size) (hN : N ≤ N') (hR : R'.length ≤ N') :
    PS w0 w' wb (ext τ w.heap.size F' (1 + k)) t r most (put1 R k R') D vo vw po pw olds N' := by
  have p := h.parts (c := fun m => m = 1 + k) (c' := 1 + k) (G := F') hf (fun b hb => (h2 b hb).2) (by intro h; omega) (fun b _ hb => Or.inl ⟨hb, by omega⟩)
  refine ⟨p.blk (by intro h; omega), p.wbt, fun i hi => ?_, fun i hi => p.doc i hi (by intro h; omega), p.rt, p.rowo (by intro h; omega), p.roww (by intro h; omega), p.tgo, p.tgw, p.each, p.bnd, p.old, fun i hi => ?_, fun i hi => Nat.le_trans (h.lenD i hi) hN⟩
  · by_cases e : i = k
    · subst e
      rw [put1_at]
      refine h1.mono (fun b hb => ?_)
      obtain ⟨h3, _⟩ := h2 b hb
      rcases h3 with h3 | h3
      · rw [ext_low (h.bnd b (by omega)).2]; exact h3
      · exact ext_new h3 hb
    · rw [put1_ne _ _ e]
      exact p.cal i hi (by intro h; omega)
  · by_cases e : i = k
    · subst e; rw [put1_at]; exact hR
    · rw [put1_ne _ _ e]; exact Nat.le_trans (h.lenR i hi) hN

/-- One of the document's tables has turned. -/
theorem PS.docm {w0 w w' : World} {wb N N' k : Nat} {τ t r : Nat → Nat} {most : Int} {R D : Nat → List (List UInt8)} {vo vw : Value} {po pw : List Nat} {olds : List (Nat × Nat)} {R' : List (List UInt8)} (h : PS w0 w wb τ t r most R D vo vw po pw olds N) (hk : k < 2)
    (h1 : DN w' (r k) (fun b => τ b = 8 ∨ w.heap.size ≤ b) most R') (hf : Frm (fun b => b = r k) w w') (hN : N ≤ N') (hR : R'.length ≤ N') :
    PS w0 w' wb (ext τ w.heap.size (fun b => b < w'.heap.size) 8) t r most R (put1 D k R') vo vw po pw olds N' := by
  have p := h.parts (c := fun m => m = 3 + k) (c' := 8) (G := fun b => b < w'.heap.size) hf (fun _ h => h) (by intro h; omega) (fun b _ hb => Or.inl ⟨by rw [hb]; exact h.rt k hk, by rw [hb, h.rt k hk]; omega⟩)
  refine ⟨p.blk (by intro h; omega), p.wbt, fun i hi => p.cal i hi (by intro h; omega), fun i hi => ?_, p.rt, p.rowo (by intro h; omega), p.roww (by intro h; omega), p.tgo, p.tgw, p.each, p.bnd, p.old, fun i hi => Nat.le_trans (h.lenR i hi) hN, fun i hi => ?_⟩
  · by_cases e : i = k
    · subst e
      rw [put1_at]
      refine h1.mono (fun b hb h3 => ?_)
      rcases h3 with h3 | h3
      · rw [ext_low (h.bnd b (by omega)).2]; exact h3
      · exact ext_new h3 hb
    · rw [put1_ne _ _ e]
      exact p.doc i hi (by intro h; omega)
  · by_cases e : i = k
    · subst e; rw [put1_at]; exact hR
    · rw [put1_ne _ _ e]; exact Nat.le_trans (h.lenD i hi) hN
end Go.Proofs.Ytjkgijfddgppjaa
