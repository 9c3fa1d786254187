/- What lies where, when a table is put aside; a name comes. -/
import Derived.Test.YtjkgijfddgppjaaN34
namespace Go.Proofs.Ytjkgijfddgppjaa
open Go.RowKit Go.Lib Go.Maps

theorem ptrs_snoc (po : List Nat) (b : Nat) : ptrs (po ++ [b]) = ptrs po ++ [.pointer (some ⟨b, 0, none⟩)] := by simp [ptrs]

theorem PS.appo {w0 w w1 : World} {wb N b g cap : Nat} {τ t r : Nat → Nat} {most : Int} {R D : Nat → List (List UInt8)} {vo vw : Value} {po pw : List Nat} {olds : List (Nat × Nat)} (h : PS w0 w wb τ t r most R D vo vw po pw olds N) (hg : w.grownBy w1 vo.ownBlock)
    (hown : w1.ownsRow w0.heap.size 24 1 (.slice (some ⟨g, 0, none⟩) (po.length + 1) cap) (po.length + 1) (ptrs po ++ [.pointer (some ⟨b, 0, none⟩)])) (hat : vo.ownBlock = some g ∨ w.heap.size ≤ g) (hlt : g < w1.heap.size) :
    ∃ τ', PS w0 (w1.setCell ⟨wb, 4, none⟩ (.slice (some ⟨g, 0, none⟩) (po.length + 1) cap)) wb τ' t r most R D (.slice (some ⟨g, 0, none⟩) (po.length + 1) cap) vw (po ++ [b]) pw olds N ∧ (∀ q, q < w.heap.size → τ q = 0 → τ' q = 0 ∧ (w1.setCell ⟨wb, 4, none⟩ (.slice (some ⟨g, 0, none⟩) (po.length + 1) cap)).heap[q]? = w.heap[q]?) ∧ (∀ q, τ q = 8 → τ' q = 8) ∧ Frm (fun q => vo.ownBlock = some q ∨ q = wb) w (w1.setCell ⟨wb, 4, none⟩ (.slice (some ⟨g, 0, none⟩) (po.length + 1) cap)) := by
  have hwl := (h.bnd wb (by rw [h.wbt]; omega)).2
  have hne : ∀ q, vo.ownBlock = some q → q ≠ wb := fun q hq e => by
    have := h.tgo q hq
    rw [e, h.wbt] at this
    omega
  have hf1 : Frm (fun q => vo.ownBlock = some q) w w1 := ⟨hg.os, hg.tape, hg.output, hg.size, fun q hq hn => hg.block q hq (fun e => hn e.symm)⟩
  have hf : Frm (fun q => vo.ownBlock = some q ∨ q = wb) w (w1.setCell ⟨wb, 4, none⟩ (.slice (some ⟨g, 0, none⟩) (po.length + 1) cap)) :=
    Frm.setCell (S := fun q => vo.ownBlock = some q ∨ q = wb) (Frm.mono hf1 (fun _ _ h => Or.inl h)) ⟨wb, 4, none⟩ (Or.inr (Or.inr rfl)) _
  have hsz2 : (w1.setCell ⟨wb, 4, none⟩ (.slice (some ⟨g, 0, none⟩) (po.length + 1) cap)).heap.size = w1.heap.size := by simp [World.setCell]
  have p := h.parts (c := fun m => m = 6 ∨ m = 5) (c' := 6) (G := fun q => q = g) hf (fun q e => by rw [e, hsz2]; exact hlt) (by intro h; omega) (fun q _ hq => Or.inl (by
    rcases hq with hq | hq
    · exact ⟨Or.inl (h.tgo q hq), by rw [h.tgo q hq]; omega⟩
    · rw [hq, h.wbt]; exact ⟨Or.inr rfl, by omega⟩))
  have hgw : g ≠ wb := by
    rcases hat with e | e
    · exact hne g e
    · omega
  have hgt : ext τ w.heap.size (fun q => q = g) 6 g = 6 := by
    rcases hat with e | e
    · rw [ext_low (h.bnd g (by rw [h.tgo g e]; omega)).2]; exact h.tgo g e
    · exact ext_new e rfl
  refine ⟨ext τ w.heap.size (fun q => q = g) 6, ?_, fun q hq h0 => ⟨by rw [ext_low hq]; exact h0, hf.block q hq ?_⟩, fun q hq => by rw [ext_low (h.bnd q (by omega)).2]; exact hq, hf⟩
  · have hb1 : w1.heap[wb]? = w.heap[wb]? := hf1.block wb hwl (fun e => hne wb e rfl)
    have hown2 := owns_kept hown (w' := w1.setCell ⟨wb, 4, none⟩ (.slice (some ⟨g, 0, none⟩) (po.length + 1) cap)) (fun q hq => (frm_set w1 wb 4 _).block q (by simp [Value.ownBlock] at hq; omega) (by simp [Value.ownBlock] at hq; omega))
    refine ⟨?_, p.wbt, fun i hi => p.cal i hi (by intro h; omega), fun i hi => p.doc i hi (by intro h; omega), p.rt, (by rw [ptrs_snoc, List.length_append]; exact hown2), p.roww (by intro h; omega), (fun q hq => by simp [Value.ownBlock] at hq; rw [← hq]; exact hgt), p.tgw, p.each, p.bnd, p.old, h.lenR, h.lenD⟩
    simp [World.setCell, Array.getElem?_modify, hb1, h.blk]
  · rintro (e | e)
    · have := h.tgo q e; omega
    · rw [e, h.wbt] at h0; omega

theorem PS.appw {w0 w w1 : World} {wb N b g cap : Nat} {τ t r : Nat → Nat} {most : Int} {R D : Nat → List (List UInt8)} {vo vw : Value} {po pw : List Nat} {olds : List (Nat × Nat)} (h : PS w0 w wb τ t r most R D vo vw po pw olds N) (hg : w.grownBy w1 vw.ownBlock)
    (hown : w1.ownsRow w0.heap.size 26 1 (.slice (some ⟨g, 0, none⟩) (pw.length + 1) cap) (pw.length + 1) (ptrs pw ++ [.pointer (some ⟨b, 0, none⟩)])) (hat : vw.ownBlock = some g ∨ w.heap.size ≤ g) (hlt : g < w1.heap.size) :
    ∃ τ', PS w0 (w1.setCell ⟨wb, 5, none⟩ (.slice (some ⟨g, 0, none⟩) (pw.length + 1) cap)) wb τ' t r most R D vo (.slice (some ⟨g, 0, none⟩) (pw.length + 1) cap) po (pw ++ [b]) olds N ∧ (∀ q, q < w.heap.size → τ q = 0 → τ' q = 0 ∧ (w1.setCell ⟨wb, 5, none⟩ (.slice (some ⟨g, 0, none⟩) (pw.length + 1) cap)).heap[q]? = w.heap[q]?) ∧ (∀ q, τ q = 8 → τ' q = 8) ∧ Frm (fun q => vw.ownBlock = some q ∨ q = wb) w (w1.setCell ⟨wb, 5, none⟩ (.slice (some ⟨g, 0, none⟩) (pw.length + 1) cap)) := by
  have hwl := (h.bnd wb (by rw [h.wbt]; omega)).2
  have hne : ∀ q, vw.ownBlock = some q → q ≠ wb := fun q hq e => by
    have := h.tgw q hq
    rw [e, h.wbt] at this
    omega
  have hf1 : Frm (fun q => vw.ownBlock = some q) w w1 := ⟨hg.os, hg.tape, hg.output, hg.size, fun q hq hn => hg.block q hq (fun e => hn e.symm)⟩
  have hf : Frm (fun q => vw.ownBlock = some q ∨ q = wb) w (w1.setCell ⟨wb, 5, none⟩ (.slice (some ⟨g, 0, none⟩) (pw.length + 1) cap)) :=
    Frm.setCell (S := fun q => vw.ownBlock = some q ∨ q = wb) (Frm.mono hf1 (fun _ _ h => Or.inl h)) ⟨wb, 5, none⟩ (Or.inr (Or.inr rfl)) _
  have hsz2 : (w1.setCell ⟨wb, 5, none⟩ (.slice (some ⟨g, 0, none⟩) (pw.length + 1) cap)).heap.size = w1.heap.size := by simp [World.setCell]
  have p := h.parts (c := fun m => m = 7 ∨ m = 5) (c' := 7) (G := fun q => q = g) hf (fun q e => by rw [e, hsz2]; exact hlt) (by intro h; omega) (fun q _ hq => Or.inl (by
    rcases hq with hq | hq
    · exact ⟨Or.inl (h.tgw q hq), by rw [h.tgw q hq]; omega⟩
    · rw [hq, h.wbt]; exact ⟨Or.inr rfl, by omega⟩))
  have hgw : g ≠ wb := by
    rcases hat with e | e
    · exact hne g e
    · omega
  have hgt : ext τ w.heap.size (fun q => q = g) 7 g = 7 := by
    rcases hat with e | e
    · rw [ext_low (h.bnd g (by rw [h.tgw g e]; omega)).2]; exact h.tgw g e
    · exact ext_new e rfl
  refine ⟨ext τ w.heap.size (fun q => q = g) 7, ?_, fun q hq h0 => ⟨by rw [ext_low hq]; exact h0, hf.block q hq ?_⟩, fun q hq => by rw [ext_low (h.bnd q (by omega)).2]; exact hq, hf⟩
  · have hb1 : w1.heap[wb]? = w.heap[wb]? := hf1.block wb hwl (fun e => hne wb e rfl)
    have hown2 := owns_kept hown (w' := w1.setCell ⟨wb, 5, none⟩ (.slice (some ⟨g, 0, none⟩) (pw.length + 1) cap)) (fun q hq => (frm_set w1 wb 5 _).block q (by simp [Value.ownBlock] at hq; omega) (by simp [Value.ownBlock] at hq; omega))
    refine ⟨?_, p.wbt, fun i hi => p.cal i hi (by intro h; omega), fun i hi => p.doc i hi (by intro h; omega), p.rt, p.rowo (by intro h; omega), (by rw [ptrs_snoc, List.length_append]; exact hown2), p.tgo, (fun q hq => by simp [Value.ownBlock] at hq; rw [← hq]; exact hgt), p.each, p.bnd, p.old, h.lenR, h.lenD⟩
    simp [World.setCell, Array.getElem?_modify, hb1, h.blk]
  · rintro (e | e)
    · have := h.tgw q e; omega
    · rw [e, h.wbt] at h0; omega

theorem PS.copy {w0 w w1 : World} {wb N k bt : Nat} {τ t r : Nat → Nat} {most : Int} {R D : Nat → List (List UInt8)} {vo vw : Value} {po pw : List Nat} {olds olds' : List (Nat × Nat)} (h : PS w0 w wb τ t r most R D vo vw po pw olds N) (hk : k < 2) (hN : N ≤ 1000) (hKS : ∃ F, TN w1 bt F most (R k) ∧ Old w w1 ∧ ∀ b, F b → w.heap.size ≤ b ∧ b < w1.heap.size)
    (ho : olds' = olds ∨ ∃ rc, olds' = olds ++ [(t k, rc)] ∧ DN w rc (fun b => τ b = 8) most (R k) ∧ τ rc = 8) :
    ∃ τ', PS w0 (w1.setCell ⟨wb, k, none⟩ (.pointer (some ⟨bt, 0, none⟩))) wb τ' (put1 t k bt) r most R D vo vw po pw olds' N := by
  obtain ⟨F, hT, hold, hF⟩ := hKS
  have h1 := h.olds hold
  have hτ1 : ∀ b, τ b ≠ 0 → ext τ w.heap.size (fun _ => False) 0 b = τ b := fun b hb => ext_low (h.bnd b hb).2
  have hτ0 : ∀ b, w.heap.size ≤ b → ext τ w.heap.size (fun _ => False) 0 b = 0 := fun b hb => ext_out hb (fun h => h)
  generalize ext τ w.heap.size (fun _ => False) 0 = τ1 at h1 hτ1 hτ0
  have hwl := (h.bnd wb (by rw [h.wbt]; omega)).2
  have hws := hold.size
  have hf := frm_set w1 wb k (.pointer (some ⟨bt, 0, none⟩))
  have p := h1.parts (c := fun m => m = 5) (c' := 0) (G := fun _ => False) hf (fun _ h => h.elim) (by intro h; omega) (fun b _ e => Or.inl (by rw [e, h1.wbt]; exact ⟨rfl, by omega⟩))
  have hτ2 : ∀ b, τ1 b ≠ 0 → ext τ1 w1.heap.size (fun _ => False) 0 b = τ1 b := fun b hb => ext_low (h1.bnd b hb).2
  have hF0 : ∀ b, F b → ext τ1 w1.heap.size (fun _ => False) 0 b = 0 := fun b hb => by rw [ext_low (hF b hb).2]; exact hτ0 b (hF b hb).1
  generalize ext τ1 w1.heap.size (fun _ => False) 0 = τ2 at p hτ2 hF0
  have key : ∃ τ' : Nat → Nat, (∀ b, F b → τ' b = 1 + k) ∧ (∀ b, τ2 b = 1 + k → τ' b = 8) ∧ (∀ b, τ2 b ≠ 0 → τ2 b ≠ 1 + k → τ' b = τ2 b) ∧ (∀ b, τ' b ≠ 0 → F b ∨ τ2 b ≠ 0) := by
    refine ⟨fun b => @ite _ (F b) (Classical.propDecidable _) (1 + k) (if τ2 b = 1 + k then 8 else τ2 b), fun b hb => if_pos hb, fun b hb => ?_, fun b h0 hb => ?_, fun b hb => ?_⟩
    · show @ite _ (F b) (Classical.propDecidable _) (1 + k) _ = _
      rw [if_neg (fun h => by have := hF0 b h; omega), if_pos hb]
    · show @ite _ (F b) (Classical.propDecidable _) (1 + k) _ = _
      rw [if_neg (fun h => h0 (hF0 b h)), if_neg hb]
    · by_cases hFb : F b
      · exact Or.inl hFb
      · right
        intro e
        apply hb
        show @ite _ (F b) (Classical.propDecidable _) (1 + k) _ = _
        rw [if_neg hFb, if_neg (by omega), e]
  obtain ⟨τ', t1, t2, t3, t4⟩ := key
  have t8 : ∀ b, τ2 b = 8 → τ' b = 8 := fun b hb => by rw [t3 b (by omega) (by omega)]; exact hb
  have hTw : TN (w1.setCell ⟨wb, k, none⟩ (.pointer (some ⟨bt, 0, none⟩))) bt F most (R k) := hT.kept hf (fun b hb e => by have := (hF b hb).1; omega)
  have hsz2 : (w1.setCell ⟨wb, k, none⟩ (.pointer (some ⟨bt, 0, none⟩))).heap.size = w1.heap.size := by simp [World.setCell]
  refine ⟨τ', ?_, by rw [t3 wb (by rw [p.wbt]; omega) (by rw [p.wbt]; omega)]; exact p.wbt, fun i hi => ?_, fun i hi => (p.doc i hi (by intro h; omega)).mono (fun b _ hb => t8 b hb), fun i hi => by rw [t3 _ (by rw [p.rt i hi]; omega) (by rw [p.rt i hi]; omega)]; exact p.rt i hi, p.rowo (by intro h; omega), p.roww (by intro h; omega), fun q hq => by rw [t3 q (by rw [p.tgo q hq]; omega) (by rw [p.tgo q hq]; omega)]; exact p.tgo q hq, fun q hq => by rw [t3 q (by rw [p.tgw q hq]; omega) (by rw [p.tgw q hq]; omega)]; exact p.tgw q hq, fun x hx => ?_, fun b hb => ?_, p.old, h.lenR, h.lenD⟩
  · have hb := h1.blk
    match k, hk with
    | 0, _ => simp [World.setCell, Array.getElem?_modify, hb, put1]
    | 1, _ => simp [World.setCell, Array.getElem?_modify, hb, put1]
  · by_cases e : i = k
    · subst e
      rw [put1_at]
      exact hTw.mono t1
    · rw [put1_ne _ _ e]
      exact (p.cal i hi (by intro h; omega)).mono (fun b hb => by rw [t3 b (by omega) (by omega)]; exact hb)
  · have each : ∀ x ∈ olds, ∃ L, TN (w1.setCell ⟨wb, k, none⟩ (.pointer (some ⟨bt, 0, none⟩))) x.1 (fun b => τ' b = 8) most L ∧ DN (w1.setCell ⟨wb, k, none⟩ (.pointer (some ⟨bt, 0, none⟩))) x.2 (fun b => τ' b = 8) most L ∧ τ' x.2 = 8 ∧ L.length ≤ 1000 := fun x hx => by
      obtain ⟨L, a1, a2, a3, a4⟩ := p.each x hx
      exact ⟨L, a1.mono (fun b hb => t8 b hb), a2.mono (fun b _ hb => t8 b hb), t8 _ a3, a4⟩
    rcases ho with rfl | ⟨rc, rfl, d1, d2⟩
    · exact each x hx
    · rcases List.mem_append.1 hx with hx | hx
      · exact each x hx
      · simp only [List.mem_singleton] at hx
        subst hx
        have e8 : ∀ b, τ b = 8 → τ2 b = 8 := fun b hb => by
          have a1 := hτ1 b (by omega)
          rw [hτ2 b (by omega), a1]; exact hb
        refine ⟨R k, (p.cal k hk (by intro h; omega)).mono t2, ((d1.kept hold (fun h => h) (fun _ _ h => h)).kept hf (fun e => ?_) (fun b hb e => ?_)).mono (fun b _ hb => t8 b (e8 b hb)), t8 _ (e8 _ d2), by have := h.lenR k hk; omega⟩
        · rw [e, h.wbt] at d2; omega
        · rw [e, h.wbt] at hb; omega
  · rcases t4 b hb with h5 | h5
    · have h6 := hF b h5
      have := h.old.size
      rw [hsz2]
      omega
    · exact p.bnd b h5

/-- Between two steps. -/
def PX (w0 w : World) (most : Int) (wb N : Nat) : Prop := ∃ τ t r R vo vw olds, PS w0 w wb τ t r most R R vo vw (olds.map Prod.fst) (olds.map Prod.snd) olds N ∧ olds.length ≤ 10

theorem PS.cells {w0 w : World} {wb N : Nat} {τ t r : Nat → Nat} {most : Int} {R D : Nat → List (List UInt8)} {vo vw : Value} {po pw : List Nat} {olds : List (Nat × Nat)} (h : PS w0 w wb τ t r most R D vo vw po pw olds N) :
    (∀ k, k < 2 → w.cell? ⟨wb, k, none⟩ = some (.pointer (some ⟨t k, 0, none⟩)) ∧ w.cell? ⟨wb, 2 + k, none⟩ = some (.pointer (some ⟨r k, 0, none⟩))) ∧ w.cell? ⟨wb, 4, none⟩ = some vo ∧ w.cell? ⟨wb, 5, none⟩ = some vw ∧ ∀ o, w.frozen? ⟨wb, o, none⟩ = false := by
  have hb := h.blk
  refine ⟨fun k hk => ?_, by simp [World.cell?, hb], by simp [World.cell?, hb], fun o => by simp [World.frozen?, hb]⟩
  match k, hk with
  | 0, _ => constructor <;> simp [World.cell?, hb]
  | 1, _ => constructor <;> simp [World.cell?, hb]

theorem mod_two (on : Int) : ∃ k : Nat, k < 2 ∧ (wrap64 (on.tmod 2 + 2)).tmod 2 = (k : Int) := by
  rcases Int.tmod_two_eq on with h | h | h <;> rw [h]
  · exact ⟨1, by omega, by first | (rw [RowKit.wrap64_of (by decide) (by decide)]; rfl) | (simp [RowKit.wrap64]; done) | (unfold RowKit.wrap64; decide)⟩
  · exact ⟨0, by omega, by first | (rw [RowKit.wrap64_of (by decide) (by decide)]; rfl) | (simp [RowKit.wrap64]; done) | (unfold RowKit.wrap64; decide)⟩
  · exact ⟨1, by omega, by first | (rw [RowKit.wrap64_of (by decide) (by decide)]; rfl) | (simp [RowKit.wrap64]; done) | (unfold RowKit.wrap64; decide)⟩

theorem put1_self {α : Type} {f g : Nat → α} {k : Nat} {x : α} (h : f = g) : put1 f k x = put1 g k x := by rw [h]

theorem put1_id {α : Type} (f : Nat → α) (k : Nat) : put1 f k (f k) = f := by
  funext i
  unfold put1
  by_cases h : i = k
  · rw [if_pos h, h]
  · rw [if_neg h]

/-- What comes of Add. -/
def addL (most : Int) (L : List (List UInt8)) (x : List UInt8) : List (List UInt8) := if refZ L most x = 0 then L ++ [x] else L
def addN (most : Int) (L : List (List UInt8)) (x : List UInt8) : Int := if refZ L most x = 0 then (L.length : Int) else 0

theorem PS.add {w0 w : World} {wb N k : Nat} {τ t r : Nat → Nat} {most : Int} {R D : Nat → List (List UInt8)} {vo vw : Value} {po pw : List Nat} {olds : List (Nat × Nat)} {x : List UInt8} (h : PS w0 w wb τ t r most R D vo vw po pw olds N) (hk : k < 2) (hN : N ≤ 1000) :
    Calls Try.prog 17 #[.pointer (some ⟨t k, 0, none⟩), .string ⟨x.toArray⟩] w fun e w' => e = .returned (.tuple #[.int .i64 (addN most (R k) x), .int .i64 (refZ (R k) most x)]) ∧ ∃ τ', PS w0 w' wb τ' t r most (put1 R k (addL most (R k) x)) D vo vw po pw olds (N + 1) ∧ ∀ b, b < w.heap.size → τ b = 0 → τ' b = 0 ∧ w'.heap[b]? = w.heap[b]? := by
  have hl := h.lenR k hk
  obtain ⟨tb, mb, v, hT, f1, f2, f3, f4, hg⟩ := h.cal k hk
  by_cases hz : refZ (R k) most x = 0
  · refine (add_good (t k) tb mb v most (R k) x w hT (by omega) hz).mono ?_
    rintro e w' ⟨rfl, v', h1, h2, h3⟩
    have hgx := ref_good hz
    have hF2 : Frm (fun b => τ b = 1 + k) w w' := Frm.mono h2 (fun b _ hb => by
      rcases hb with e | e | e
      · rw [e]; exact f2
      · rw [e]; exact f3
      · exact f4 b e)
    have hlt : ∀ b, (b = t k ∨ b = tb ∨ b = mb ∨ v'.ownBlock = some b) → (τ b = 1 + k ∨ w.heap.size ≤ b) ∧ b < w'.heap.size := fun b hb => by
      rcases hb with e | e | e | e
      · rw [e]; exact ⟨Or.inl f1, Nat.lt_of_lt_of_le (blk_lt hT.hd) h2.size⟩
      · rw [e]; exact ⟨Or.inl f2, Nat.lt_of_lt_of_le (blk_lt hT.t.blk) h2.size⟩
      · rw [e]; exact ⟨Or.inl f3, Nat.lt_of_lt_of_le hT.t.km.lt h2.size⟩
      · obtain ⟨cur, hc⟩ := owns_block h1.t.row e
        exact ⟨(h3 b e).imp (fun h => f4 b h) id, blk_lt hc⟩
    have hTN : TN w' (t k) (fun b => b = t k ∨ b = tb ∨ b = mb ∨ v'.ownBlock = some b) most (R k ++ [x]) := ⟨tb, mb, v', h1, Or.inl rfl, Or.inr (Or.inl rfl), Or.inr (Or.inr (Or.inl rfl)), fun q hq => Or.inr (Or.inr (Or.inr hq)), hg.snoc hgx.1 hgx.2.1 hgx.2.2.1⟩
    have h4 := h.calm hk hTN hF2 hlt (N' := N + 1) (by omega) (by simp; omega)
    refine ⟨by rw [hz]; unfold addN; rw [if_pos hz], _, by unfold addL; rw [if_pos hz]; exact h4, fun b hb h0 => ⟨by rw [ext_low hb]; exact h0, hF2.block b hb (by omega)⟩⟩
  · refine (add_bad (t k) tb mb v most (R k) x w hT (by omega) hz).mono ?_
    rintro e w' ⟨rfl, h1⟩
    have h4 := h.olds h1
    refine ⟨by unfold addN; rw [if_neg hz], ext τ w.heap.size (fun _ => False) 0, ?_, fun b hb h0 => ⟨by rw [ext_low hb]; exact h0, h1.block b hb (fun h => h)⟩⟩
    unfold addL
    rw [if_neg hz, put1_id]
    exact ⟨h4.blk, h4.wbt, h4.cal, h4.doc, h4.rt, h4.rowo, h4.roww, h4.tgo, h4.tgw, h4.each, h4.bnd, h4.old, fun i hi => Nat.le_succ_of_le (h4.lenR i hi), fun i hi => Nat.le_succ_of_le (h4.lenD i hi)⟩

theorem PS.dadd {w0 w : World} {wb N k : Nat} {τ t r : Nat → Nat} {most : Int} {R D : Nat → List (List UInt8)} {vo vw : Value} {po pw : List Nat} {olds : List (Nat × Nat)} {x : List UInt8} (h : PS w0 w wb τ t r most R D vo vw po pw olds (N + 1)) (hk : k < 2) (hN : N ≤ 1000) (hDk : (D k).length ≤ N) :
    Calls Try.prog 25 #[.pointer (some ⟨r k, 0, none⟩), .string ⟨x.toArray⟩] w fun e w' => e = .returned (.tuple #[.int .i64 (addN most (D k) x), .int .i64 (refZ (D k) most x)]) ∧ ∃ τ', PS w0 w' wb τ' t r most R (put1 D k (addL most (D k) x)) vo vw po pw olds (N + 1) ∧ ∀ b, b < w.heap.size → τ b = 0 → τ' b = 0 ∧ w'.heap[b]? = w.heap[b]? := by
  obtain ⟨v, hD, hv⟩ := h.doc k hk
  have hrt := h.rt k hk
  by_cases hz : refZ (D k) most x = 0
  · refine (dadd_good (r k) v most (D k) x w hD (by omega) hz).mono ?_
    rintro e w' ⟨rfl, v', h1, h2, h3⟩
    have hlt : ∀ b, v'.ownBlock = some b → b < w'.heap.size := fun b hb => by
      rcases h1.lst with ⟨_, e⟩ | ⟨g, cap, e, h0, hc⟩
      · rw [e] at hb; simp [Value.ownBlock] at hb
      · rw [e] at hb
        simp [Value.ownBlock] at hb
        subst hb
        exact World.block_lt_of_cell? _ _ (hc 0 h0)
    have h4 := h.docm hk (R' := D k ++ [x]) ⟨v', h1, fun q hq => ⟨Or.inr (h3 q hq), hlt q hq⟩⟩ h2 (N' := N + 1) (Nat.le_refl _) (by simp; omega)
    refine ⟨by rw [hz]; unfold addN; rw [if_pos hz], _, by unfold addL; rw [if_pos hz]; exact h4, fun b hb h0 => ⟨by rw [ext_low hb]; exact h0, h2.block b hb (fun e => ?_)⟩⟩
    rw [e] at h0
    omega
  · refine (dadd_bad (r k) v most (D k) x w hD (by omega) hz).mono ?_
    rintro e w' ⟨rfl, h1⟩
    have h4 := h.olds h1
    refine ⟨by unfold addN; rw [if_neg hz], ext τ w.heap.size (fun _ => False) 0, ?_, fun b hb h0 => ⟨by rw [ext_low hb]; exact h0, h1.block b hb (fun h => h)⟩⟩
    unfold addL
    rw [if_neg hz, put1_id]
    exact h4
end Go.Proofs.Ytjkgijfddgppjaa
