/- Two calendars, the document's beside them, and those put aside: what lies where. -/
import Derived.Test.YtbaibikpdaphoaaB1
import Derived.Test.YtbaibikpdaphoaaS8
namespace Go.Proofs.Ytbaibikpdaphoaa
open Go.RowKit Go.Lib Go.Maps

theorem TkS.mono {w : World} {bt : Nat} {F F' : Nat → Prop} {now : Int} {R : List Due} (h : TkS w bt F now R) (hF : ∀ k, F k → F' k) : TkS w bt F' now R := by
  obtain ⟨bc, bm, v, G, P, h⟩ := h
  exact ⟨bc, bm, v, G, P, h.top, h.cal, h.perm, h.srt, hF _ h.ft, hF _ h.fc, hF _ h.fm, fun k hk => hF _ (h.fv k hk), h.nt⟩

theorem TkS.lt {w : World} {bt : Nat} {F : Nat → Prop} {now : Int} {R : List Due} (h : TkS w bt F now R) : bt < w.heap.size ∧ F bt := by
  obtain ⟨bc, bm, v, G, P, h⟩ := h
  exact ⟨(Array.getElem?_eq_some_iff.1 h.top).1, h.ft⟩

theorem TkS.ok {w : World} {bt : Nat} {F : Nat → Prop} {now : Int} {R : List Due} (h : TkS w bt F now R) : ∀ x ∈ R, i64ok x.2 := by
  obtain ⟨bc, bm, v, G, P, h⟩ := h
  exact fun x hx => h.cal.ok x (h.perm.mem_iff.2 hx)

theorem owns_kept {w w' : World} {B t n : Nat} {v : Value} {xs : List Value} (h : w.ownsRow B t 1 v n xs) (hk : ∀ k, v.ownBlock = some k → w'.heap[k]? = w.heap[k]?) : w'.ownsRow B t 1 v n xs := by
  obtain ⟨h1, h2⟩ := h
  refine ⟨h1, ?_⟩
  rcases h2 with h2 | ⟨g, cap, arr, rfl, hb, hg, h3⟩
  · exact Or.inl h2
  · exact Or.inr ⟨g, cap, arr, rfl, hb, by rw [hk g (by simp [Value.ownBlock])]; exact hg, h3⟩

/-- Pointers, as cells. -/
def ptrs (ps : List Nat) : List Value := ps.map (fun b => .pointer (some ⟨b, 0, none⟩))

/-- Calendars that were put aside, the document's beside them. -/
def EA (W : World) (τ : Nat → Nat) (olds : List (Nat × Nat)) : Prop := ∀ p ∈ olds, ∃ now L, TkS W p.1 (fun b => τ b = 8) now L ∧ Doc W p.2 (fun b => τ b = 8) now L ∧ τ p.2 = 8 ∧ L.length ≤ 1000

/-- All of it: who has which block (1, 2: the program's two; 3, 4: the document's; 5: the world; 6, 7: its two lists; 8: what is turned no more). -/
structure PS (w0 w : World) (wb : Nat) (τ : Nat → Nat) (t r : Nat → Nat) (nw nd : Nat → Int) (R D : Nat → List Due) (vo vw : Value) (po pw : List Nat) (olds : List (Nat × Nat)) (N : Nat) : Prop where
  blk : w.heap[wb]? = some (.cells #[.pointer (some ⟨t 0, 0, none⟩), .pointer (some ⟨t 1, 0, none⟩), .pointer (some ⟨r 0, 0, none⟩), .pointer (some ⟨r 1, 0, none⟩), vo, vw] 45 (0, 0))
  wbt : τ wb = 5
  cal : ∀ k, k < 2 → TkS w (t k) (fun b => τ b = 1 + k) (nw k) (R k)
  doc : ∀ k, k < 2 → Doc w (r k) (fun b => τ b = 8) (nd k) (D k)
  rt : ∀ k, k < 2 → τ (r k) = 3 + k
  rowo : w.ownsRow w0.heap.size 27 1 vo po.length (ptrs po)
  roww : w.ownsRow w0.heap.size 32 1 vw pw.length (ptrs pw)
  tgo : ∀ k, vo.ownBlock = some k → τ k = 6
  tgw : ∀ k, vw.ownBlock = some k → τ k = 7
  each : EA w τ olds
  bnd : ∀ b, τ b ≠ 0 → w0.heap.size ≤ b ∧ b < w.heap.size
  old : Old w0 w
  lenR : ∀ k, k < 2 → (R k).length ≤ N
  lenD : ∀ k, k < 2 → (D k).length ≤ N

/-- New blocks are given to c. -/
noncomputable def ext (τ : Nat → Nat) (n : Nat) (G : Nat → Prop) (c : Nat) : Nat → Nat := fun b => if b < n then τ b else @ite _ (G b) (Classical.propDecidable _) c 0

theorem ext_low {τ : Nat → Nat} {n c b : Nat} {G : Nat → Prop} (h : b < n) : ext τ n G c b = τ b := if_pos h
theorem ext_new {τ : Nat → Nat} {n c b : Nat} {G : Nat → Prop} (h : n ≤ b) (h2 : G b) : ext τ n G c b = c := by
  unfold ext; rw [if_neg (by omega), if_pos h2]
theorem ext_out {τ : Nat → Nat} {n c b : Nat} {G : Nat → Prop} (h : n ≤ b) (h2 : ¬ G b) : ext τ n G c b = 0 := by
  unfold ext; rw [if_neg (by omega), if_neg h2]

def put1 {α : Type} (f : Nat → α) (k : Nat) (x : α) : Nat → α := fun i => if i = k then x else f i
theorem put1_at {α : Type} (f : Nat → α) (k : Nat) (x : α) : put1 f k x k = x := if_pos rfl
theorem put1_ne {α : Type} (f : Nat → α) {k i : Nat} (x : α) (h : i ≠ k) : put1 f k x i = f i := if_neg h

structure Parts (w0 w : World) (wb : Nat) (c : Nat → Prop) (τ : Nat → Nat) (t r : Nat → Nat) (nw nd : Nat → Int) (R D : Nat → List Due) (vo vw : Value) (po pw : List Nat) (olds : List (Nat × Nat)) : Prop where
  blk : ¬ c 5 → w.heap[wb]? = some (.cells #[.pointer (some ⟨t 0, 0, none⟩), .pointer (some ⟨t 1, 0, none⟩), .pointer (some ⟨r 0, 0, none⟩), .pointer (some ⟨r 1, 0, none⟩), vo, vw] 45 (0, 0))
  wbt : τ wb = 5
  cal : ∀ k, k < 2 → ¬ c (1 + k) → TkS w (t k) (fun b => τ b = 1 + k) (nw k) (R k)
  doc : ∀ k, k < 2 → ¬ c (3 + k) → Doc w (r k) (fun b => τ b = 8) (nd k) (D k)
  rt : ∀ k, k < 2 → τ (r k) = 3 + k
  rowo : ¬ c 6 → w.ownsRow w0.heap.size 27 1 vo po.length (ptrs po)
  roww : ¬ c 7 → w.ownsRow w0.heap.size 32 1 vw pw.length (ptrs pw)
  tgo : ∀ k, vo.ownBlock = some k → τ k = 6
  tgw : ∀ k, vw.ownBlock = some k → τ k = 7
  each : EA w τ olds
  bnd : ∀ b, τ b ≠ 0 → w0.heap.size ≤ b ∧ b < w.heap.size
  old : Old w0 w

theorem PS.parts {w0 w w' : World} {wb c' N : Nat} {c : Nat → Prop} {τ t r : Nat → Nat} {nw nd : Nat → Int} {R D : Nat → List Due} {vo vw : Value} {po pw : List Nat} {olds : List (Nat × Nat)} {S G : Nat → Prop} (h : PS w0 w wb τ t r nw nd R D vo vw po pw olds N) (hf : Frm S w w') (hG : ∀ b, G b → b < w'.heap.size) (hc : ¬ c 8) (hS : ∀ b, b < w.heap.size → S b → (c (τ b) ∧ τ b ≠ 0) ∨ (τ b = 0 ∧ w0.heap.size ≤ b)) :
    Parts w0 w' wb c (ext τ w.heap.size G c') t r nw nd R D vo vw po pw olds := by
  have hsz := hf.size
  have lo : ∀ b, τ b ≠ 0 → ext τ w.heap.size G c' b = τ b := fun b hb => ext_low (h.bnd b hb).2
  have nS : ∀ b, τ b ≠ 0 → ¬ c (τ b) → ¬ S b := fun b hb hne hSb => (hS b (h.bnd b hb).2 hSb).elim (fun h => hne h.1) (fun h => hb h.1)
  have mo : ∀ m, m ≠ 0 → ∀ b, τ b = m → ext τ w.heap.size G c' b = m := fun m hm b hb => by rw [lo b (by omega)]; exact hb
  have wl : ∀ b, τ b ≠ 0 → ¬ c (τ b) → w'.heap[b]? = w.heap[b]? := fun b hb hne => hf.block b (h.bnd b hb).2 (nS b hb hne)
  refine ⟨fun h5 => ?_, ?_, fun k hk hne => ?_, fun k hk hne => ?_, fun k hk => ?_, fun h6 => ?_, fun h7 => ?_, fun k hk => ?_, fun k hk => ?_, fun p hp => ?_, fun b hb => ?_, ?_⟩
  · rw [wl wb (by rw [h.wbt]; omega) (by rw [h.wbt]; exact h5)]; exact h.blk
  · exact mo 5 (by omega) _ h.wbt
  · exact ((h.cal k hk).kept hf (fun b hb => nS b (by omega) (by rw [hb]; exact hne))).mono (fun b hb => mo _ (by omega) b hb)
  · refine ((h.doc k hk).kept hf (nS _ (by rw [h.rt k hk]; omega) (by rw [h.rt k hk]; exact hne)) (fun b hb => nS b (by omega) (by rw [hb]; exact hc))).mono (fun b _ hb => mo 8 (by omega) b hb)
  · exact mo _ (by omega) _ (h.rt k hk)
  · exact owns_kept h.rowo (fun k hk => wl k (by rw [h.tgo k hk]; omega) (by rw [h.tgo k hk]; exact h6))
  · exact owns_kept h.roww (fun k hk => wl k (by rw [h.tgw k hk]; omega) (by rw [h.tgw k hk]; exact h7))
  · exact mo 6 (by omega) _ (h.tgo k hk)
  · exact mo 7 (by omega) _ (h.tgw k hk)
  · obtain ⟨now, L, h1, h2, h3, h4⟩ := h.each p hp
    refine ⟨now, L, (h1.kept hf (fun b hb => nS b (by omega) (by rw [hb]; exact hc))).mono (fun b hb => mo 8 (by omega) b hb), (h2.kept hf (nS _ (by omega) (by rw [h3]; exact hc)) (fun b hb => nS b (by omega) (by rw [hb]; exact hc))).mono (fun b _ hb => mo 8 (by omega) b hb), mo 8 (by omega) _ h3, h4⟩
  · unfold ext at hb
    by_cases h1 : b < w.heap.size
    · rw [if_pos h1] at hb
      have := h.bnd b hb
      omega
    · rw [if_neg h1] at hb
      have := h.old.size
      by_cases h2 : G b
      · have := hG b h2
        omega
      · rw [if_neg h2] at hb; exact absurd rfl hb
  · refine Frm.trans h.old hf (fun b hb hSb => ?_)
    rcases hS b (Nat.lt_of_lt_of_le hb h.old.size) hSb with h1 | h1
    · have h2 := (h.bnd b (by omega)).1
      omega
    · omega

/-- Nothing has turned. -/
theorem PS.olds {w0 w w' : World} {wb N : Nat} {τ t r : Nat → Nat} {nw nd : Nat → Int} {R D : Nat → List Due} {vo vw : Value} {po pw : List Nat} {olds : List (Nat × Nat)} (h : PS w0 w wb τ t r nw nd R D vo vw po pw olds N) (hf : Old w w') :
    PS w0 w' wb (ext τ w.heap.size (fun _ => False) 0) t r nw nd R D vo vw po pw olds N := by
  have p := h.parts (c := fun _ => False) (c' := 0) (G := fun _ => False) hf (fun _ h => h.elim) (fun h => h) (fun _ _ h => h.elim)
  exact ⟨p.blk (fun h => h), p.wbt, fun k hk => p.cal k hk (fun h => h), fun k hk => p.doc k hk (fun h => h), p.rt, p.rowo (fun h => h), p.roww (fun h => h), p.tgo, p.tgw, p.each, p.bnd, p.old, h.lenR, h.lenD⟩

/-- What is nobody's has turned. -/
theorem PS.free {w0 w w' : World} {wb N : Nat} {τ t r : Nat → Nat} {nw nd : Nat → Int} {R D : Nat → List Due} {vo vw : Value} {po pw : List Nat} {olds : List (Nat × Nat)} {S : Nat → Prop} (h : PS w0 w wb τ t r nw nd R D vo vw po pw olds N) (hf : Frm S w w') (hS : ∀ b, S b → τ b = 0 ∧ w0.heap.size ≤ b) :
    PS w0 w' wb (ext τ w.heap.size (fun _ => False) 0) t r nw nd R D vo vw po pw olds N := by
  have p := h.parts (c := fun _ => False) (c' := 0) (G := fun _ => False) hf (fun _ h => h.elim) (fun h => h) (fun b _ hb => Or.inr (hS b hb))
  exact ⟨p.blk (fun h => h), p.wbt, fun k hk => p.cal k hk (fun h => h), fun k hk => p.doc k hk (fun h => h), p.rt, p.rowo (fun h => h), p.roww (fun h => h), p.tgo, p.tgw, p.each, p.bnd, p.old, h.lenR, h.lenD⟩

/-- One of the program's calendars has turned. -/
theorem PS.calm {w0 w w' : World} {wb N N' k : Nat} {τ t r : Nat → Nat} {nw nd : Nat → Int} {R D : Nat → List Due} {vo vw : Value} {po pw : List Nat} {olds : List (Nat × Nat)} {now : Int} {R' : List Due} {F' : Nat → Prop} (h : PS w0 w wb τ t r nw nd R D vo vw po pw olds N) (hk : k < 2)
    (h1 : TkS w' (t k) F' now R') (hf : Frm (fun b => τ b = 1 + k) w w') (h2 : ∀ b, F' b → (τ b = 1 + k ∨ w.heap.size ≤ b) ∧ b < w'.heap.size) (hN : N ≤ N') (hR : R'.length ≤ N') :
    PS w0 w' wb (ext τ w.heap.size F' (1 + k)) t r (put1 nw k now) nd (put1 R k R') D vo vw po pw olds N' := by
  have p := h.parts (c := fun m => m = 1 + k) (c' := 1 + k) (G := F') hf (fun b hb => (h2 b hb).2) (by intro h; omega) (fun b _ hb => Or.inl ⟨hb, by omega⟩)
  refine ⟨p.blk (by intro h; omega), p.wbt, fun i hi => ?_, fun i hi => p.doc i hi (by intro h; omega), p.rt, p.rowo (by intro h; omega), p.roww (by intro h; omega), p.tgo, p.tgw, p.each, p.bnd, p.old, fun i hi => ?_, fun i hi => Nat.le_trans (h.lenD i hi) hN⟩
  · by_cases e : i = k
    · subst e
      rw [put1_at, put1_at]
      refine h1.mono (fun b hb => ?_)
      obtain ⟨h3, _⟩ := h2 b hb
      rcases h3 with h3 | h3
      · rw [ext_low (h.bnd b (by omega)).2]; exact h3
      · exact ext_new h3 hb
    · rw [put1_ne _ _ e, put1_ne _ _ e]
      exact p.cal i hi (by intro h; omega)
  · by_cases e : i = k
    · subst e; rw [put1_at]; exact hR
    · rw [put1_ne _ _ e]; exact Nat.le_trans (h.lenR i hi) hN

/-- One of the document's calendars has turned. -/
theorem PS.docm {w0 w w' : World} {wb N N' k : Nat} {τ t r : Nat → Nat} {nw nd : Nat → Int} {R D : Nat → List Due} {vo vw : Value} {po pw : List Nat} {olds : List (Nat × Nat)} {now : Int} {R' : List Due} (h : PS w0 w wb τ t r nw nd R D vo vw po pw olds N) (hk : k < 2)
    (h1 : Doc w' (r k) (fun b => τ b = 8 ∨ w.heap.size ≤ b) now R') (hf : Frm (fun b => b = r k) w w') (hN : N ≤ N') (hR : R'.length ≤ N') :
    PS w0 w' wb (ext τ w.heap.size (fun b => b < w'.heap.size) 8) t r nw (put1 nd k now) R (put1 D k R') vo vw po pw olds N' := by
  have p := h.parts (c := fun m => m = 3 + k) (c' := 8) (G := fun b => b < w'.heap.size) hf (fun _ h => h) (by intro h; omega) (fun b _ hb => Or.inl ⟨by rw [hb]; exact h.rt k hk, by rw [hb, h.rt k hk]; omega⟩)
  refine ⟨p.blk (by intro h; omega), p.wbt, fun i hi => p.cal i hi (by intro h; omega), fun i hi => ?_, p.rt, p.rowo (by intro h; omega), p.roww (by intro h; omega), p.tgo, p.tgw, p.each, p.bnd, p.old, fun i hi => Nat.le_trans (h.lenR i hi) hN, fun i hi => ?_⟩
  · by_cases e : i = k
    · subst e
      rw [put1_at, put1_at]
      refine h1.mono (fun b hb h3 => ?_)
      rcases h3 with h3 | h3
      · rw [ext_low (h.bnd b (by omega)).2]; exact h3
      · exact ext_new h3 hb
    · rw [put1_ne _ _ e, put1_ne _ _ e]
      exact p.doc i hi (by intro h; omega)
  · by_cases e : i = k
    · subst e; rw [put1_at]; exact hR
    · rw [put1_ne _ _ e]; exact Nat.le_trans (h.lenD i hi) hN
end Go.Proofs.Ytbaibikpdaphoaa

/- A step of the play: a number is set. -/
namespace Go.Proofs.Ytbaibikpdaphoaa
open Go.RowKit Go.Lib Go.Maps

/-- Between two steps. -/
def PX (w0 w : World) (wb N : Nat) : Prop := ∃ τ t r nw R vo vw olds, PS w0 w wb τ t r nw nw R R vo vw (olds.map Prod.fst) (olds.map Prod.snd) olds N ∧ olds.length ≤ 10

theorem PS.cells {w0 w : World} {wb N : Nat} {τ t r : Nat → Nat} {nw nd : Nat → Int} {R D : Nat → List Due} {vo vw : Value} {po pw : List Nat} {olds : List (Nat × Nat)} (h : PS w0 w wb τ t r nw nd R D vo vw po pw olds N) :
    (∀ k, k < 2 → w.cell? ⟨wb, k, none⟩ = some (.pointer (some ⟨t k, 0, none⟩)) ∧ w.cell? ⟨wb, 2 + k, none⟩ = some (.pointer (some ⟨r k, 0, none⟩))) ∧ w.cell? ⟨wb, 4, none⟩ = some vo ∧ w.cell? ⟨wb, 5, none⟩ = some vw ∧ ∀ o, w.frozen? ⟨wb, o, none⟩ = false := by
  have hb := h.blk
  refine ⟨fun k hk => ?_, by simp [World.cell?, hb], by simp [World.cell?, hb], fun o => by simp [World.frozen?, hb]⟩
  match k, hk with
  | 0, _ => constructor <;> simp [World.cell?, hb]
  | 1, _ => constructor <;> simp [World.cell?, hb]

theorem mod_two (on : Int) : ∃ k : Nat, k < 2 ∧ (wrap64 (on.tmod 2 + 2)).tmod 2 = (k : Int) := by
  rcases Int.tmod_two_eq on with h | h | h <;> rw [h]
  · exact ⟨1, by omega, by first | (rw [RowKit.wrap64_of (by decide) (by decide)]; rfl) | (simp [RowKit.wrap64]; done) | (unfold RowKit.wrap64; decide)⟩
  · exact ⟨0, by omega, by first | (rw [RowKit.wrap64_of (by decide) (by decide)]; rfl) | (simp [RowKit.wrap64]; done) | (unfold RowKit.wrap64; decide)⟩
  · exact ⟨1, by omega, by first | (rw [RowKit.wrap64_of (by decide) (by decide)]; rfl) | (simp [RowKit.wrap64]; done) | (unfold RowKit.wrap64; decide)⟩

theorem put1_self {α : Type} {f g : Nat → α} {k : Nat} {x : α} (h : f = g) : put1 f k x = put1 g k x := by rw [h]

theorem put1_id {α : Type} (f : Nat → α) (k : Nat) : put1 f k (f k) = f := by
  funext i
  unfold put1
  by_cases h : i = k
  · rw [if_pos h, h]
  · rw [if_neg h]

/-- What comes of Set. -/
def setE (now : Int) (R : List Due) (d : Due) : List Due := if refE now d = 0 then setR R d else R

theorem PS.set {w0 w : World} {wb N k : Nat} {τ t r : Nat → Nat} {nw nd : Nat → Int} {R D : Nat → List Due} {vo vw : Value} {po pw : List Nat} {olds : List (Nat × Nat)} {n tick : Int} (h : PS w0 w wb τ t r nw nd R D vo vw po pw olds N) (hk : k < 2) (hN : N ≤ 1000) (hn : i64ok n) :
    Calls Try.prog 18 #[.pointer (some ⟨t k, 0, none⟩), .int .i64 n, .int .i64 tick] w fun e w' => e = .returned (.int .i64 (refE (nw k) (tick, n))) ∧ ∃ τ', PS w0 w' wb τ' t r nw nd (put1 R k (setE (nw k) (R k) (tick, n))) D vo vw po pw olds (N + 1) ∧ ∀ b, b < w.heap.size → τ b = 0 → τ' b = 0 ∧ w'.heap[b]? = w.heap[b]? := by
  have hl := h.lenR k hk
  by_cases hz : refE (nw k) (tick, n) = 0
  · refine (set_good (t k) _ (nw k) n tick (R k) w (h.cal k hk) hz (by omega) hn).mono ?_
    rintro e w' ⟨rfl, F', h1, h2, h3⟩
    have h4 := h.calm hk h1 h2 h3 (N' := N + 1) (by omega) (Nat.le_trans setR_length (by omega))
    rw [put1_id] at h4
    refine ⟨by rw [hz], _, by unfold setE; rw [if_pos hz]; exact h4, fun b hb h0 => ⟨by rw [ext_low hb]; exact h0, h2.block b hb (by omega)⟩⟩
  · refine (set_bad (t k) _ (nw k) n tick (R k) w (h.cal k hk) hz).mono ?_
    rintro e w' ⟨rfl, h1⟩
    have h4 := h.olds h1
    refine ⟨rfl, ext τ w.heap.size (fun _ => False) 0, ?_, fun b hb h0 => ⟨by rw [ext_low hb]; exact h0, h1.block b hb (fun h => h)⟩⟩
    unfold setE
    rw [if_neg hz, put1_id]
    exact ⟨h4.blk, h4.wbt, h4.cal, h4.doc, h4.rt, h4.rowo, h4.roww, h4.tgo, h4.tgw, h4.each, h4.bnd, h4.old, fun i hi => Nat.le_succ_of_le (h4.lenR i hi), fun i hi => Nat.le_succ_of_le (h4.lenD i hi)⟩

theorem PS.dset {w0 w : World} {wb N k : Nat} {τ t r : Nat → Nat} {nw nd : Nat → Int} {R D : Nat → List Due} {vo vw : Value} {po pw : List Nat} {olds : List (Nat × Nat)} {n tick : Int} (h : PS w0 w wb τ t r nw nd R D vo vw po pw olds (N + 1)) (hk : k < 2) (hN : N ≤ 1000) (hDk : (D k).length ≤ N) :
    Calls Try.prog 30 #[.pointer (some ⟨r k, 0, none⟩), .int .i64 n, .int .i64 tick] w fun e w' => e = .returned (.int .i64 (refE (nd k) (tick, n))) ∧ ∃ τ', PS w0 w' wb τ' t r nw nd R (put1 D k (setE (nd k) (D k) (tick, n))) vo vw po pw olds (N + 1) ∧ ∀ b, b < w.heap.size → τ b = 0 → τ' b = 0 ∧ w'.heap[b]? = w.heap[b]? := by
  by_cases hz : refE (nd k) (tick, n) = 0
  · refine (refset_good (r k) _ (nd k) n tick (D k) w (h.doc k hk) hz (by omega)).mono ?_
    rintro e w' ⟨rfl, h1, h2⟩
    have h4 := h.docm hk h1 h2 (N' := N + 1) (Nat.le_refl _) (Nat.le_trans setR_length (by omega))
    rw [put1_id] at h4
    refine ⟨by rw [hz], _, by unfold setE; rw [if_pos hz]; exact h4, fun b hb h0 => ⟨by rw [ext_low hb]; exact h0, h2.block b hb (fun e => ?_)⟩⟩
    have := h.rt k hk
    rw [← e] at this
    omega
  · refine (refset_bad (r k) _ (nd k) n tick _ (D k) w (h.doc k hk) rfl hz).mono ?_
    rintro e w' ⟨rfl, rfl⟩
    refine ⟨rfl, τ, ?_, fun b hb h0 => ⟨h0, rfl⟩⟩
    unfold setE
    rw [if_neg hz, put1_id]
    exact h

set_option maxRecDepth 100000 in
set_option maxHeartbeats 4000000 in
theorem step_set (w0 w : World) (wb N : Nat) (on n tick : Int) (hX : PX w0 w wb N) (hN : N ≤ 900) (hn : i64ok n) :
    Calls Try.prog 15 #[.pointer (some ⟨wb, 0, none⟩), .agg #[.int .i64 1, .int .i64 on, .int .i64 n, .int .i64 tick]] w fun e w' => e = .returned (.bool true) ∧ PX w0 w' wb (N + 1) := by
  obtain ⟨τ0, t, r, nw, R, vo, vw, olds, hP0, hol⟩ := hX
  obtain ⟨k, hk, hkm⟩ := mod_two on
  obtain ⟨w1, e1⟩ : ∃ w1, w.alloc (.cells #[.int .i64 1, .int .i64 on, .int .i64 n, .int .i64 tick] 48) = w1 := ⟨_, rfl⟩
  have ow1 : Hid (Old w w1) := by rw [← e1]; exact (Old.refl w).alloc _
  have hP := hid (hP0.olds ow1.out)
  have hts : Hid (ext τ0 w.heap.size (fun _ => False) 0 w.heap.size = 0) := ext_out (Nat.le_refl _) (fun h => h)
  generalize ext τ0 w.heap.size (fun _ => False) 0 = τ at hP hts
  have b0 : w1.cell? ⟨w.heap.size, 0, none⟩ = some (.int .i64 1) := by rw [← e1]; exact new_cell _ _ _ _ _ rfl
  have b1 : w1.cell? ⟨w.heap.size, 1, none⟩ = some (.int .i64 on) := by rw [← e1]; exact new_cell _ _ _ _ _ rfl
  have b2 : w1.cell? ⟨w.heap.size, 2, none⟩ = some (.int .i64 n) := by rw [← e1]; exact new_cell _ _ _ _ _ rfl
  have b3 : w1.cell? ⟨w.heap.size, 3, none⟩ = some (.int .i64 tick) := by rw [← e1]; exact new_cell _ _ _ _ _ rfl
  have hsl : Hid (w.heap.size < w1.heap.size) := by rw [← e1]; unfold Hid; simp
  obtain ⟨hc, c4, c5, hfz⟩ := hP.out.cells
  obtain ⟨ct, cr⟩ := hc k hk
  have hk2 : (k : Int) < 2 := by omega
  clear hP0 hc
  go_enter Try.func15, Try.ntmps15
  go_wp2_with fail
  try rw [e1]
  clear e1
  generalize w.heap.size = s at *
  try simp only [hkm]
  go_quiet (fail)
  obtain ⟨w2, hw2⟩ : ∃ w2, w1.drewN nq = w2 := ⟨_, rfl⟩
  have ow2 : Hid (Old w1 w2) := by rw [← hw2]; exact (Old.refl w1).drewN _
  rw [hw2]
  clear hw2
  have q0 := ow2.out.cell b0
  have q2 := ow2.out.cell b2
  have q3 := ow2.out.cell b3
  have x4 := ow2.out.cell c4
  have x5 := ow2.out.cell c5
  clear b0 b1 b2 b3 c4 c5 ct cr
  go_wp2_with fail
  refine wp_region_noPanic ?_
  refine wp_region_held_drew (S := fun X => X.cell? ⟨s, 2, none⟩ = some (.int .i64 n) ∧ X.cell? ⟨s, 3, none⟩ = some (.int .i64 tick)) (by kernel_rfl) ⟨((Old.refl w2).drewN 1).cell q2, ((Old.refl w2).drewN 1).cell q3⟩ (fun hHeld => ?_)
  have hP3 := hid (hP.out.olds (ow2.out.drewN 1))
  have hs3 : Hid (∀ b, b < w1.heap.size → τ b = 0 → ext τ w1.heap.size (fun _ => False) 0 b = 0) := fun b hb h0 => by rw [ext_low hb]; exact h0
  have hts3 := hid (hs3.out s hsl.out hts.out)
  generalize ext τ w1.heap.size (fun _ => False) 0 = τ3 at hP3 hts3
  have hsl3 : Hid (s < (w2.drewN 1).heap.size) := Nat.lt_of_lt_of_le hsl.out (ow2.out.drewN 1).size
  generalize hW3 : w2.drew = W3 at *
  rw [show w2.drewN 1 = W3 from hW3] at hP3 hsl3
  clear hW3 q0 q2 q3 x4 x5 hs3 hP hts
  refine' wpAnyH_take (i := 0) rfl (by kernel_rfl) (by kernel_rfl) (by kernel_rfl) (fun _ _ _ h => h) (Or.inl ⟨by rfl, ?_⟩) hHeld ?_
  rotate_left
  · intro W hSw
    have hSv : W.cell? ⟨s, 2, none⟩ = some (.int .i64 n) ∧ W.cell? ⟨s, 3, none⟩ = some (.int .i64 tick) := hSw
    clear hSw
    skip
    simp only [List.getElem_toArray, List.getElem_cons_zero]
    go_simp
    all_goals with_reducible rfl
  simp only [List.getElem_toArray, List.getElem_cons_zero, Act.put, List.setIfInBounds_toArray, List.set_cons_zero, List.set_cons_succ]
  refine' wpAnyH_take (i := 1) rfl (by kernel_rfl) (by kernel_rfl) (by kernel_rfl) (fun _ _ _ h => h) (Or.inl ⟨by rfl, ?_⟩) hHeld ?_
  rotate_left
  · intro W hSw
    have hSv : W.cell? ⟨s, 2, none⟩ = some (.int .i64 n) ∧ W.cell? ⟨s, 3, none⟩ = some (.int .i64 tick) := hSw
    clear hSw
    skip
    simp only [List.getElem_toArray, List.getElem_cons_zero, List.getElem_cons_succ]
    go_simp
    all_goals with_reducible rfl
  simp only [List.getElem_toArray, List.getElem_cons_zero, List.getElem_cons_succ, Act.put, List.setIfInBounds_toArray, List.set_cons_zero, List.set_cons_succ]
  refine' wpAnyH_take (i := 2) rfl (by kernel_rfl) (by kernel_rfl) (by kernel_rfl) (fun _ _ _ h => h) (Or.inl ⟨by rfl, ?_⟩) hHeld ?_
  rotate_left
  · intro W hSw
    have hSv : W.cell? ⟨s, 2, none⟩ = some (.int .i64 n) ∧ W.cell? ⟨s, 3, none⟩ = some (.int .i64 tick) := hSw
    clear hSw
    obtain ⟨z2, z3⟩ := hSv
    simp only [List.getElem_toArray, List.getElem_cons_zero, List.getElem_cons_succ]
    go_simp
    all_goals with_reducible rfl
  simp only [List.getElem_toArray, List.getElem_cons_zero, List.getElem_cons_succ, Act.put, List.setIfInBounds_toArray, List.set_cons_zero, List.set_cons_succ]
  refine' wpAnyH_take (i := 3) rfl (by kernel_rfl) (by kernel_rfl) (by kernel_rfl) (fun _ _ _ h => h) (Or.inl ⟨by rfl, ?_⟩) hHeld ?_
  rotate_left
  · intro W hSw
    have hSv : W.cell? ⟨s, 2, none⟩ = some (.int .i64 n) ∧ W.cell? ⟨s, 3, none⟩ = some (.int .i64 tick) := hSw
    clear hSw
    skip
    simp only [List.getElem_toArray, List.getElem_cons_zero, List.getElem_cons_succ]
    go_simp
    all_goals with_reducible rfl
  simp only [List.getElem_toArray, List.getElem_cons_zero, List.getElem_cons_succ, Act.put, List.setIfInBounds_toArray, List.set_cons_zero, List.set_cons_succ]
  refine' wpAnyH_take (i := 4) rfl (by kernel_rfl) (by kernel_rfl) (by kernel_rfl) (fun _ _ _ h => h) (Or.inl ⟨by rfl, ?_⟩) hHeld ?_
  rotate_left
  · intro W hSw
    have hSv : W.cell? ⟨s, 2, none⟩ = some (.int .i64 n) ∧ W.cell? ⟨s, 3, none⟩ = some (.int .i64 tick) := hSw
    clear hSw
    obtain ⟨z2, z3⟩ := hSv
    simp only [List.getElem_toArray, List.getElem_cons_zero, List.getElem_cons_succ]
    go_simp
    all_goals with_reducible rfl
  simp only [List.getElem_toArray, List.getElem_cons_zero, List.getElem_cons_succ, Act.put, List.setIfInBounds_toArray, List.set_cons_zero, List.set_cons_succ]
  refine' wpAnyH_take (i := 6) rfl (by kernel_rfl) (by kernel_rfl) (by kernel_rfl) (fun _ _ _ h => h) (Or.inl ⟨by rfl, ?_⟩) hHeld ?_
  rotate_left
  · intro W hSw
    have hSv : W.cell? ⟨s, 2, none⟩ = some (.int .i64 n) ∧ W.cell? ⟨s, 3, none⟩ = some (.int .i64 tick) := hSw
    clear hSw
    skip
    simp only [List.getElem_toArray, List.getElem_cons_zero, List.getElem_cons_succ]
    go_simp
    all_goals with_reducible rfl
  simp only [List.getElem_toArray, List.getElem_cons_zero, List.getElem_cons_succ, Act.put, List.setIfInBounds_toArray, List.set_cons_zero, List.set_cons_succ]
  refine' wpAnyH_take (i := 7) rfl (by kernel_rfl) (by kernel_rfl) (by kernel_rfl) (fun _ _ _ h => h) (Or.inl ⟨by rfl, ?_⟩) hHeld ?_
  rotate_left
  · intro W hSw
    have hSv : W.cell? ⟨s, 2, none⟩ = some (.int .i64 n) ∧ W.cell? ⟨s, 3, none⟩ = some (.int .i64 tick) := hSw
    clear hSw
    skip
    simp only [List.getElem_toArray, List.getElem_cons_zero, List.getElem_cons_succ]
    go_simp
    all_goals with_reducible rfl
  simp only [List.getElem_toArray, List.getElem_cons_zero, List.getElem_cons_succ, Act.put, List.setIfInBounds_toArray, List.set_cons_zero, List.set_cons_succ]
  refine' wpAnyH_take (i := 8) rfl (by kernel_rfl) (by kernel_rfl) (by kernel_rfl) (fun _ _ _ h => h) (Or.inl ⟨by rfl, ?_⟩) hHeld ?_
  rotate_left
  · intro W hSw
    have hSv : W.cell? ⟨s, 2, none⟩ = some (.int .i64 n) ∧ W.cell? ⟨s, 3, none⟩ = some (.int .i64 tick) := hSw
    clear hSw
    obtain ⟨z2, z3⟩ := hSv
    simp only [List.getElem_toArray, List.getElem_cons_zero, List.getElem_cons_succ]
    go_simp
    all_goals with_reducible rfl
  simp only [List.getElem_toArray, List.getElem_cons_zero, List.getElem_cons_succ, Act.put, List.setIfInBounds_toArray, List.set_cons_zero, List.set_cons_succ]
  refine' wpAnyH_take (i := 9) rfl (by kernel_rfl) (by kernel_rfl) (by kernel_rfl) (fun _ _ _ h => h) (Or.inl ⟨by rfl, ?_⟩) hHeld ?_
  rotate_left
  · intro W hSw
    have hSv : W.cell? ⟨s, 2, none⟩ = some (.int .i64 n) ∧ W.cell? ⟨s, 3, none⟩ = some (.int .i64 tick) := hSw
    clear hSw
    skip
    simp only [List.getElem_toArray, List.getElem_cons_zero, List.getElem_cons_succ]
    go_simp
    all_goals with_reducible rfl
  simp only [List.getElem_toArray, List.getElem_cons_zero, List.getElem_cons_succ, Act.put, List.setIfInBounds_toArray, List.set_cons_zero, List.set_cons_succ]
  refine' wpAnyH_take (i := 10) rfl (by kernel_rfl) (by kernel_rfl) (by kernel_rfl) (fun _ _ _ h => h) (Or.inl ⟨by rfl, ?_⟩) hHeld ?_
  rotate_left
  · intro W hSw
    have hSv : W.cell? ⟨s, 2, none⟩ = some (.int .i64 n) ∧ W.cell? ⟨s, 3, none⟩ = some (.int .i64 tick) := hSw
    clear hSw
    obtain ⟨z2, z3⟩ := hSv
    simp only [List.getElem_toArray, List.getElem_cons_zero, List.getElem_cons_succ]
    go_simp
    all_goals with_reducible rfl
  simp only [List.getElem_toArray, List.getElem_cons_zero, List.getElem_cons_succ, Act.put, List.setIfInBounds_toArray, List.set_cons_zero, List.set_cons_succ]
  refine wpAnyH_ready (rs := [5]) (by kernel_rfl) (by simp) ?_
  refine AllReadyH.cons (o := _) rfl (fun K hK => ?_) AllReadyH.nil
  simp only [List.getElem_toArray, List.getElem_cons_zero, List.getElem_cons_succ]
  go_simp
  refine (hP3.out.set (n := n) (tick := tick) hk (by omega) hn).mono ?_
  rintro e W4 ⟨rfl, τ4, hP4, hk4⟩
  have z := hk4 s hsl3.out hts3.out
  refine hK.out _ _ ⟨(World.cell?_of_block z.2).trans hHeld.1, (World.cell?_of_block z.2).trans hHeld.2⟩ (fun hHeld => ?_)
  clear hK K
  have hP4h := hid hP4
  have hts4 := hid z.1
  have hsl4 : Hid (s < W4.heap.size) := by
    have := (hP4.bnd wb (by rw [hP4.wbt]; omega))
    exact World.block_lt_of_cell? W4 _ hHeld.1
  have hDl := hid (hP3.out.lenD k hk)
  clear hP4 hk4 z
  try simp only [Act.put, List.setIfInBounds_toArray, List.set_cons_zero, List.set_cons_succ]
  refine wpAnyH_ready (rs := [11]) (by kernel_rfl) (by simp) ?_
  refine AllReadyH.cons (o := _) rfl (fun K hK => ?_) AllReadyH.nil
  simp only [List.getElem_toArray, List.getElem_cons_zero, List.getElem_cons_succ]
  go_simp
  refine (hP4h.out.dset (n := n) (tick := tick) hk (by omega) hDl.out).mono ?_
  rintro e W5 ⟨rfl, τ5, hP5, hk5⟩
  have z := hk5 s hsl4.out hts4.out
  refine hK.out _ _ ⟨(World.cell?_of_block z.2).trans hHeld.1, (World.cell?_of_block z.2).trans hHeld.2⟩ (fun hHeld => ?_)
  clear hK K
  have hP5h := hid hP5
  clear hP5 hk5 z
  try simp only [Act.put, List.setIfInBounds_toArray, List.set_cons_zero, List.set_cons_succ]
  refine' wpAnyH_take (i := 12) rfl (by kernel_rfl) (by kernel_rfl) (by kernel_rfl) (fun _ _ _ h => h) (Or.inl ⟨by rfl, ?_⟩) hHeld ?_
  rotate_left
  · intro W hSw
    have hSv : W.cell? ⟨s, 2, none⟩ = some (.int .i64 n) ∧ W.cell? ⟨s, 3, none⟩ = some (.int .i64 tick) := hSw
    clear hSw
    skip
    simp only [List.getElem_toArray, List.getElem_cons_zero, List.getElem_cons_succ]
    go_simp
    all_goals with_reducible rfl
  simp only [List.getElem_toArray, List.getElem_cons_zero, List.getElem_cons_succ, Act.put, List.setIfInBounds_toArray, List.set_cons_zero, List.set_cons_succ]
  refine' wpAnyH_take (i := 13) rfl (by kernel_rfl) (by kernel_rfl) (by kernel_rfl) (fun _ _ _ h => h) (Or.inl ⟨by rfl, ?_⟩) hHeld ?_
  rotate_left
  · intro W hSw
    have hSv : W.cell? ⟨s, 2, none⟩ = some (.int .i64 n) ∧ W.cell? ⟨s, 3, none⟩ = some (.int .i64 tick) := hSw
    clear hSw
    skip
    simp only [List.getElem_toArray, List.getElem_cons_zero, List.getElem_cons_succ]
    go_simp
    all_goals with_reducible rfl
  simp only [List.getElem_toArray, List.getElem_cons_zero, List.getElem_cons_succ, Act.put, List.setIfInBounds_toArray, List.set_cons_zero, List.set_cons_succ]
  refine wpAnyH_done (by kernel_rfl) ?_ _
  refine NoPanic.normal ?_
  go_wp2
  go_ret
  exact ⟨rfl, _, _, _, _, _, _, _, _, hP5h.out, hol⟩
end Go.Proofs.Ytbaibikpdaphoaa

/- Steps of the play: a number is dropped, asked for; a calendar tells of itself; nothing. -/
namespace Go.Proofs.Ytbaibikpdaphoaa
open Go.RowKit Go.Lib Go.Maps

theorem atR_mem {n t : Int} : ∀ {R : List Due}, atR n R = some t → (t, n) ∈ R
  | [], h => by cases h
  | x :: R, h => by
    unfold atR at h
    by_cases e : x.2 = n
    · rw [if_pos e] at h
      cases h
      have : x = (x.1, n) := by rw [← e]
      rw [← this]; simp
    · rw [if_neg e] at h
      exact List.mem_cons_of_mem _ (atR_mem h)

theorem atR_no {n : Int} : ∀ {R : List Due}, atR n R = none → ∀ x ∈ R, x.2 ≠ n
  | [], _, x, hx => by simp at hx
  | y :: R, h, x, hx => by
    unfold atR at h
    by_cases e : y.2 = n
    · rw [if_pos e] at h; cases h
    · rw [if_neg e] at h
      rcases List.mem_cons.1 hx with rfl | hx
      · exact e
      · exact atR_no h x hx

/-- What comes of Drop. -/
def dropE (n : Int) (R : List Due) : List Due := match atR n R with
  | none => R
  | some _ => wo n R

theorem PS.up {w0 w : World} {wb N N' : Nat} {τ t r : Nat → Nat} {nw nd : Nat → Int} {R D : Nat → List Due} {vo vw : Value} {po pw : List Nat} {olds : List (Nat × Nat)} (h : PS w0 w wb τ t r nw nd R D vo vw po pw olds N) (hN : N ≤ N') : PS w0 w wb τ t r nw nd R D vo vw po pw olds N' :=
  ⟨h.blk, h.wbt, h.cal, h.doc, h.rt, h.rowo, h.roww, h.tgo, h.tgw, h.each, h.bnd, h.old, fun i hi => Nat.le_trans (h.lenR i hi) hN, fun i hi => Nat.le_trans (h.lenD i hi) hN⟩

theorem PS.drop {w0 w : World} {wb N k : Nat} {τ t r : Nat → Nat} {nw nd : Nat → Int} {R D : Nat → List Due} {vo vw : Value} {po pw : List Nat} {olds : List (Nat × Nat)} {n : Int} (h : PS w0 w wb τ t r nw nd R D vo vw po pw olds N) (hk : k < 2) (hN : N ≤ 1000) (hn : i64ok n) :
    Calls Try.prog 19 #[.pointer (some ⟨t k, 0, none⟩), .int .i64 n] w fun e w' => e = .returned (.int .i64 (atE (atR n (R k)))) ∧ ∃ τ', PS w0 w' wb τ' t r nw nd (put1 R k (dropE n (R k))) D vo vw po pw olds N ∧ ∀ b, b < w.heap.size → τ b = 0 → τ' b = 0 ∧ w'.heap[b]? = w.heap[b]? := by
  have hl := h.lenR k hk
  cases ha : atR n (R k) with
  | none =>
    refine (drop_none (t k) _ (nw k) n (R k) w (h.cal k hk) (atR_no ha) hn).mono ?_
    rintro e w' ⟨rfl, rfl⟩
    refine ⟨rfl, τ, ?_, fun b hb h0 => ⟨h0, rfl⟩⟩
    unfold dropE
    rw [ha]
    simp only
    rw [put1_id]
    exact h
  | some x =>
    refine (drop_some (t k) _ (nw k) (x, n) (R k) w (h.cal k hk) (atR_mem ha) (by omega)).mono ?_
    rintro e w' ⟨rfl, F', h1, h2, h3⟩
    have h4 := h.calm hk h1 h2 h3 (N' := N) (Nat.le_refl _) (Nat.le_trans (List.length_filter_le _ _) hl)
    rw [put1_id] at h4
    refine ⟨rfl, _, by unfold dropE; rw [ha]; exact h4, fun b hb h0 => ⟨by rw [ext_low hb]; exact h0, h2.block b hb (by omega)⟩⟩

theorem PS.ddrop {w0 w : World} {wb N k : Nat} {τ t r : Nat → Nat} {nw nd : Nat → Int} {R D : Nat → List Due} {vo vw : Value} {po pw : List Nat} {olds : List (Nat × Nat)} {n : Int} (h : PS w0 w wb τ t r nw nd R D vo vw po pw olds N) (hk : k < 2) (hN : N ≤ 1000) :
    Calls Try.prog 32 #[.pointer (some ⟨r k, 0, none⟩), .int .i64 n] w fun e w' => e = .returned (.int .i64 (atE (atR n (D k)))) ∧ ∃ τ', PS w0 w' wb τ' t r nw nd R (put1 D k (dropE n (D k))) vo vw po pw olds N ∧ ∀ b, b < w.heap.size → τ b = 0 → τ' b = 0 ∧ w'.heap[b]? = w.heap[b]? := by
  have hl := h.lenD k hk
  cases ha : atR n (D k) with
  | none =>
    refine (refdrop_none (r k) _ (nd k) n (D k) w (h.doc k hk) (by omega) ha).mono ?_
    rintro e w' ⟨rfl, rfl⟩
    refine ⟨rfl, τ, ?_, fun b hb h0 => ⟨h0, rfl⟩⟩
    unfold dropE
    rw [ha]
    simp only
    rw [put1_id]
    exact h
  | some x =>
    refine (refdrop_some (r k) _ (nd k) n x (D k) w (h.doc k hk) (by omega) ha).mono ?_
    rintro e w' ⟨rfl, h1, h2⟩
    have h4 := h.docm hk h1 h2 (N' := N) (Nat.le_refl _) (Nat.le_trans (List.length_filter_le _ _) hl)
    rw [put1_id] at h4
    refine ⟨rfl, _, by unfold dropE; rw [ha]; exact h4, fun b hb h0 => ⟨by rw [ext_low hb]; exact h0, h2.block b hb (fun e => ?_)⟩⟩
    have := h.rt k hk
    rw [← e] at this
    omega

theorem PS.at {w0 w : World} {wb N k : Nat} {τ t r : Nat → Nat} {nw nd : Nat → Int} {R D : Nat → List Due} {vo vw : Value} {po pw : List Nat} {olds : List (Nat × Nat)} {n : Int} (h : PS w0 w wb τ t r nw nd R D vo vw po pw olds N) (hk : k < 2) (hn : i64ok n) :
    Calls Try.prog 33 #[.pointer (some ⟨t k, 0, none⟩), .int .i64 n] w fun e w' => e = .returned (.tuple #[.int .i64 (atV (atR n (R k))), .int .i64 (atE (atR n (R k)))]) ∧ w' = w := by
  cases ha : atR n (R k) with
  | none => exact at_none (t k) _ (nw k) n (R k) w (h.cal k hk) (atR_no ha) hn
  | some x => exact at_some (t k) _ (nw k) (x, n) (R k) w (h.cal k hk) (atR_mem ha)

set_option maxRecDepth 100000 in
set_option maxHeartbeats 4000000 in
theorem step_drop (w0 w : World) (wb N : Nat) (on n tick : Int) (hX : PX w0 w wb N) (hN : N ≤ 900) (hn : i64ok n) :
    Calls Try.prog 15 #[.pointer (some ⟨wb, 0, none⟩), .agg #[.int .i64 2, .int .i64 on, .int .i64 n, .int .i64 tick]] w fun e w' => e = .returned (.bool true) ∧ PX w0 w' wb (N + 1) := by
  obtain ⟨τ0, t, r, nw, R, vo, vw, olds, hP0, hol⟩ := hX
  obtain ⟨k, hk, hkm⟩ := mod_two on
  obtain ⟨w1, e1⟩ : ∃ w1, w.alloc (.cells #[.int .i64 2, .int .i64 on, .int .i64 n, .int .i64 tick] 48) = w1 := ⟨_, rfl⟩
  have ow1 : Hid (Old w w1) := by rw [← e1]; exact (Old.refl w).alloc _
  have hP := hid (hP0.olds ow1.out)
  have hts : Hid (ext τ0 w.heap.size (fun _ => False) 0 w.heap.size = 0) := ext_out (Nat.le_refl _) (fun h => h)
  generalize ext τ0 w.heap.size (fun _ => False) 0 = τ at hP hts
  have b0 : w1.cell? ⟨w.heap.size, 0, none⟩ = some (.int .i64 2) := by rw [← e1]; exact new_cell _ _ _ _ _ rfl
  have b1 : w1.cell? ⟨w.heap.size, 1, none⟩ = some (.int .i64 on) := by rw [← e1]; exact new_cell _ _ _ _ _ rfl
  have b2 : w1.cell? ⟨w.heap.size, 2, none⟩ = some (.int .i64 n) := by rw [← e1]; exact new_cell _ _ _ _ _ rfl
  have b3 : w1.cell? ⟨w.heap.size, 3, none⟩ = some (.int .i64 tick) := by rw [← e1]; exact new_cell _ _ _ _ _ rfl
  have hsl : Hid (w.heap.size < w1.heap.size) := by rw [← e1]; unfold Hid; simp
  obtain ⟨hc, c4, c5, hfz⟩ := hP.out.cells
  obtain ⟨ct, cr⟩ := hc k hk
  have hk2 : (k : Int) < 2 := by omega
  clear hP0 hc
  go_enter Try.func15, Try.ntmps15
  go_wp2_with fail
  try rw [e1]
  clear e1
  generalize w.heap.size = s at *
  try simp only [hkm]
  go_quiet (fail)
  obtain ⟨w2, hw2⟩ : ∃ w2, w1.drewN nq = w2 := ⟨_, rfl⟩
  have ow2 : Hid (Old w1 w2) := by rw [← hw2]; exact (Old.refl w1).drewN _
  rw [hw2]
  clear hw2
  have q0 := ow2.out.cell b0
  have q2 := ow2.out.cell b2
  have q3 := ow2.out.cell b3
  have x4 := ow2.out.cell c4
  have x5 := ow2.out.cell c5
  clear b0 b1 b2 b3 c4 c5 ct cr
  go_wp2_with fail
  refine wp_region_noPanic ?_
  refine wp_region_held_drew (S := fun X => X.cell? ⟨s, 2, none⟩ = some (.int .i64 n) ∧ X.cell? ⟨s, 3, none⟩ = some (.int .i64 tick)) (by kernel_rfl) ⟨((Old.refl w2).drewN 1).cell q2, ((Old.refl w2).drewN 1).cell q3⟩ (fun hHeld => ?_)
  have hP3 := hid (hP.out.olds (ow2.out.drewN 1))
  have hs3 : Hid (∀ b, b < w1.heap.size → τ b = 0 → ext τ w1.heap.size (fun _ => False) 0 b = 0) := fun b hb h0 => by rw [ext_low hb]; exact h0
  have hts3 := hid (hs3.out s hsl.out hts.out)
  generalize ext τ w1.heap.size (fun _ => False) 0 = τ3 at hP3 hts3
  have hsl3 : Hid (s < (w2.drewN 1).heap.size) := Nat.lt_of_lt_of_le hsl.out (ow2.out.drewN 1).size
  generalize hW3 : w2.drew = W3 at *
  rw [show w2.drewN 1 = W3 from hW3] at hP3 hsl3
  clear hW3 q0 q2 q3 x4 x5 hs3 hP hts
  refine' wpAnyH_take (i := 0) rfl (by kernel_rfl) (by kernel_rfl) (by kernel_rfl) (fun _ _ _ h => h) (Or.inl ⟨by rfl, ?_⟩) hHeld ?_
  rotate_left
  · intro W hSw
    have hSv : W.cell? ⟨s, 2, none⟩ = some (.int .i64 n) ∧ W.cell? ⟨s, 3, none⟩ = some (.int .i64 tick) := hSw
    clear hSw
    skip
    simp only [List.getElem_toArray, List.getElem_cons_zero]
    go_simp
    all_goals with_reducible rfl
  simp only [List.getElem_toArray, List.getElem_cons_zero, Act.put, List.setIfInBounds_toArray, List.set_cons_zero, List.set_cons_succ]
  refine' wpAnyH_take (i := 1) rfl (by kernel_rfl) (by kernel_rfl) (by kernel_rfl) (fun _ _ _ h => h) (Or.inl ⟨by rfl, ?_⟩) hHeld ?_
  rotate_left
  · intro W hSw
    have hSv : W.cell? ⟨s, 2, none⟩ = some (.int .i64 n) ∧ W.cell? ⟨s, 3, none⟩ = some (.int .i64 tick) := hSw
    clear hSw
    skip
    simp only [List.getElem_toArray, List.getElem_cons_zero, List.getElem_cons_succ]
    go_simp
    all_goals with_reducible rfl
  simp only [List.getElem_toArray, List.getElem_cons_zero, List.getElem_cons_succ, Act.put, List.setIfInBounds_toArray, List.set_cons_zero, List.set_cons_succ]
  refine' wpAnyH_take (i := 2) rfl (by kernel_rfl) (by kernel_rfl) (by kernel_rfl) (fun _ _ _ h => h) (Or.inl ⟨by rfl, ?_⟩) hHeld ?_
  rotate_left
  · intro W hSw
    have hSv : W.cell? ⟨s, 2, none⟩ = some (.int .i64 n) ∧ W.cell? ⟨s, 3, none⟩ = some (.int .i64 tick) := hSw
    clear hSw
    obtain ⟨z2, z3⟩ := hSv
    simp only [List.getElem_toArray, List.getElem_cons_zero, List.getElem_cons_succ]
    go_simp
    all_goals with_reducible rfl
  simp only [List.getElem_toArray, List.getElem_cons_zero, List.getElem_cons_succ, Act.put, List.setIfInBounds_toArray, List.set_cons_zero, List.set_cons_succ]
  refine' wpAnyH_take (i := 4) rfl (by kernel_rfl) (by kernel_rfl) (by kernel_rfl) (fun _ _ _ h => h) (Or.inl ⟨by rfl, ?_⟩) hHeld ?_
  rotate_left
  · intro W hSw
    have hSv : W.cell? ⟨s, 2, none⟩ = some (.int .i64 n) ∧ W.cell? ⟨s, 3, none⟩ = some (.int .i64 tick) := hSw
    clear hSw
    skip
    simp only [List.getElem_toArray, List.getElem_cons_zero, List.getElem_cons_succ]
    go_simp
    all_goals with_reducible rfl
  simp only [List.getElem_toArray, List.getElem_cons_zero, List.getElem_cons_succ, Act.put, List.setIfInBounds_toArray, List.set_cons_zero, List.set_cons_succ]
  refine' wpAnyH_take (i := 5) rfl (by kernel_rfl) (by kernel_rfl) (by kernel_rfl) (fun _ _ _ h => h) (Or.inl ⟨by rfl, ?_⟩) hHeld ?_
  rotate_left
  · intro W hSw
    have hSv : W.cell? ⟨s, 2, none⟩ = some (.int .i64 n) ∧ W.cell? ⟨s, 3, none⟩ = some (.int .i64 tick) := hSw
    clear hSw
    skip
    simp only [List.getElem_toArray, List.getElem_cons_zero, List.getElem_cons_succ]
    go_simp
    all_goals with_reducible rfl
  simp only [List.getElem_toArray, List.getElem_cons_zero, List.getElem_cons_succ, Act.put, List.setIfInBounds_toArray, List.set_cons_zero, List.set_cons_succ]
  refine' wpAnyH_take (i := 6) rfl (by kernel_rfl) (by kernel_rfl) (by kernel_rfl) (fun _ _ _ h => h) (Or.inl ⟨by rfl, ?_⟩) hHeld ?_
  rotate_left
  · intro W hSw
    have hSv : W.cell? ⟨s, 2, none⟩ = some (.int .i64 n) ∧ W.cell? ⟨s, 3, none⟩ = some (.int .i64 tick) := hSw
    clear hSw
    obtain ⟨z2, z3⟩ := hSv
    simp only [List.getElem_toArray, List.getElem_cons_zero, List.getElem_cons_succ]
    go_simp
    all_goals with_reducible rfl
  simp only [List.getElem_toArray, List.getElem_cons_zero, List.getElem_cons_succ, Act.put, List.setIfInBounds_toArray, List.set_cons_zero, List.set_cons_succ]
  refine wpAnyH_ready (rs := [3]) (by kernel_rfl) (by simp) ?_
  refine AllReadyH.cons (o := _) rfl (fun K hK => ?_) AllReadyH.nil
  simp only [List.getElem_toArray, List.getElem_cons_zero, List.getElem_cons_succ]
  go_simp
  refine (hP3.out.drop (n := n) hk (by omega) hn).mono ?_
  rintro e W4 ⟨rfl, τ4, hP4, hk4⟩
  have z := hk4 s hsl3.out hts3.out
  refine hK.out _ _ ⟨(World.cell?_of_block z.2).trans hHeld.1, (World.cell?_of_block z.2).trans hHeld.2⟩ (fun hHeld => ?_)
  clear hK K
  have hP4h := hid hP4
  have hts4 := hid z.1
  have hsl4 : Hid (s < W4.heap.size) := World.block_lt_of_cell? W4 _ hHeld.1
  clear hP4 hk4 z
  try simp only [Act.put, List.setIfInBounds_toArray, List.set_cons_zero, List.set_cons_succ]
  refine wpAnyH_ready (rs := [7]) (by kernel_rfl) (by simp) ?_
  refine AllReadyH.cons (o := _) rfl (fun K hK => ?_) AllReadyH.nil
  simp only [List.getElem_toArray, List.getElem_cons_zero, List.getElem_cons_succ]
  go_simp
  refine (hP4h.out.ddrop (n := n) hk (by omega)).mono ?_
  rintro e W5 ⟨rfl, τ5, hP5, hk5⟩
  have z := hk5 s hsl4.out hts4.out
  refine hK.out _ _ ⟨(World.cell?_of_block z.2).trans hHeld.1, (World.cell?_of_block z.2).trans hHeld.2⟩ (fun hHeld => ?_)
  clear hK K
  have hP5h := hid (hP5.up (Nat.le_succ N))
  clear hP5 hk5 z
  try simp only [Act.put, List.setIfInBounds_toArray, List.set_cons_zero, List.set_cons_succ]
  refine' wpAnyH_take (i := 8) rfl (by kernel_rfl) (by kernel_rfl) (by kernel_rfl) (fun _ _ _ h => h) (Or.inl ⟨by rfl, ?_⟩) hHeld ?_
  rotate_left
  · intro W hSw
    have hSv : W.cell? ⟨s, 2, none⟩ = some (.int .i64 n) ∧ W.cell? ⟨s, 3, none⟩ = some (.int .i64 tick) := hSw
    clear hSw
    skip
    simp only [List.getElem_toArray, List.getElem_cons_zero, List.getElem_cons_succ]
    go_simp
    all_goals with_reducible rfl
  simp only [List.getElem_toArray, List.getElem_cons_zero, List.getElem_cons_succ, Act.put, List.setIfInBounds_toArray, List.set_cons_zero, List.set_cons_succ]
  refine' wpAnyH_take (i := 9) rfl (by kernel_rfl) (by kernel_rfl) (by kernel_rfl) (fun _ _ _ h => h) (Or.inl ⟨by rfl, ?_⟩) hHeld ?_
  rotate_left
  · intro W hSw
    have hSv : W.cell? ⟨s, 2, none⟩ = some (.int .i64 n) ∧ W.cell? ⟨s, 3, none⟩ = some (.int .i64 tick) := hSw
    clear hSw
    skip
    simp only [List.getElem_toArray, List.getElem_cons_zero, List.getElem_cons_succ]
    go_simp
    all_goals with_reducible rfl
  simp only [List.getElem_toArray, List.getElem_cons_zero, List.getElem_cons_succ, Act.put, List.setIfInBounds_toArray, List.set_cons_zero, List.set_cons_succ]
  refine wpAnyH_done (by kernel_rfl) ?_ _
  refine NoPanic.normal ?_
  go_wp2
  go_ret
  exact ⟨rfl, _, _, _, _, _, _, _, _, hP5h.out, hol⟩

set_option maxRecDepth 100000 in
set_option maxHeartbeats 4000000 in
theorem step_at (w0 w : World) (wb N : Nat) (on n tick : Int) (hX : PX w0 w wb N) (hN : N ≤ 900) (hn : i64ok n) :
    Calls Try.prog 15 #[.pointer (some ⟨wb, 0, none⟩), .agg #[.int .i64 3, .int .i64 on, .int .i64 n, .int .i64 tick]] w fun e w' => e = .returned (.bool true) ∧ PX w0 w' wb (N + 1) := by
  obtain ⟨τ0, t, r, nw, R, vo, vw, olds, hP0, hol⟩ := hX
  obtain ⟨k, hk, hkm⟩ := mod_two on
  obtain ⟨w1, e1⟩ : ∃ w1, w.alloc (.cells #[.int .i64 3, .int .i64 on, .int .i64 n, .int .i64 tick] 48) = w1 := ⟨_, rfl⟩
  have ow1 : Hid (Old w w1) := by rw [← e1]; exact (Old.refl w).alloc _
  have hP := hid (hP0.olds ow1.out)
  have hts : Hid (ext τ0 w.heap.size (fun _ => False) 0 w.heap.size = 0) := ext_out (Nat.le_refl _) (fun h => h)
  generalize ext τ0 w.heap.size (fun _ => False) 0 = τ at hP hts
  have b0 : w1.cell? ⟨w.heap.size, 0, none⟩ = some (.int .i64 3) := by rw [← e1]; exact new_cell _ _ _ _ _ rfl
  have b1 : w1.cell? ⟨w.heap.size, 1, none⟩ = some (.int .i64 on) := by rw [← e1]; exact new_cell _ _ _ _ _ rfl
  have b2 : w1.cell? ⟨w.heap.size, 2, none⟩ = some (.int .i64 n) := by rw [← e1]; exact new_cell _ _ _ _ _ rfl
  have b3 : w1.cell? ⟨w.heap.size, 3, none⟩ = some (.int .i64 tick) := by rw [← e1]; exact new_cell _ _ _ _ _ rfl
  have hsl : Hid (w.heap.size < w1.heap.size) := by rw [← e1]; unfold Hid; simp
  obtain ⟨hc, c4, c5, hfz⟩ := hP.out.cells
  obtain ⟨ct, cr⟩ := hc k hk
  have hk2 : (k : Int) < 2 := by omega
  clear hP0 hc
  go_enter Try.func15, Try.ntmps15
  go_wp2_with fail
  try rw [e1]
  clear e1
  generalize w.heap.size = s at *
  try simp only [hkm]
  go_quiet (fail)
  obtain ⟨w2, hw2⟩ : ∃ w2, w1.drewN nq = w2 := ⟨_, rfl⟩
  have ow2 : Hid (Old w1 w2) := by rw [← hw2]; exact (Old.refl w1).drewN _
  rw [hw2]
  clear hw2
  have q0 := ow2.out.cell b0
  have q2 := ow2.out.cell b2
  have q3 := ow2.out.cell b3
  have x4 := ow2.out.cell c4
  have x5 := ow2.out.cell c5
  clear b0 b1 b2 b3 c4 c5 ct cr
  go_wp2_with fail
  have hP2 := hid (hP.out.olds ow2.out)
  have kA := hid (hP2.out.at (n := n) hk hn)
  have kB := hid (refat_any (r k) _ (nw k) n (R k) w2 (hP2.out.doc k hk) (by have := hP2.out.lenD k hk; omega))
  generalize atR n (R k) = a at kA kB
  refine kA.out.mono ?_
  rintro e w3 ⟨rfl, e3⟩
  rw [e3]
  clear e3
  go_wp2_with fail
  refine kB.out.mono ?_
  rintro e w4 ⟨rfl, e4⟩
  rw [e4]
  clear e4
  go_wp2
  go_ret
  exact ⟨rfl, _, _, _, _, _, _, _, _, hP2.out.up (Nat.le_succ N), hol⟩

set_option maxRecDepth 100000 in
set_option maxHeartbeats 4000000 in
theorem step_told (w0 w : World) (wb N : Nat) (on n tick : Int) (hX : PX w0 w wb N) (hN : N ≤ 900) :
    Calls Try.prog 15 #[.pointer (some ⟨wb, 0, none⟩), .agg #[.int .i64 5, .int .i64 on, .int .i64 n, .int .i64 tick]] w fun e w' => e = .returned (.bool true) ∧ PX w0 w' wb (N + 1) := by
  obtain ⟨τ0, t, r, nw, R, vo, vw, olds, hP0, hol⟩ := hX
  obtain ⟨k, hk, hkm⟩ := mod_two on
  obtain ⟨w1, e1⟩ : ∃ w1, w.alloc (.cells #[.int .i64 5, .int .i64 on, .int .i64 n, .int .i64 tick] 48) = w1 := ⟨_, rfl⟩
  have ow1 : Hid (Old w w1) := by rw [← e1]; exact (Old.refl w).alloc _
  have hP := hid (hP0.olds ow1.out)
  have hts : Hid (ext τ0 w.heap.size (fun _ => False) 0 w.heap.size = 0) := ext_out (Nat.le_refl _) (fun h => h)
  generalize ext τ0 w.heap.size (fun _ => False) 0 = τ at hP hts
  have b0 : w1.cell? ⟨w.heap.size, 0, none⟩ = some (.int .i64 5) := by rw [← e1]; exact new_cell _ _ _ _ _ rfl
  have b1 : w1.cell? ⟨w.heap.size, 1, none⟩ = some (.int .i64 on) := by rw [← e1]; exact new_cell _ _ _ _ _ rfl
  have b2 : w1.cell? ⟨w.heap.size, 2, none⟩ = some (.int .i64 n) := by rw [← e1]; exact new_cell _ _ _ _ _ rfl
  have b3 : w1.cell? ⟨w.heap.size, 3, none⟩ = some (.int .i64 tick) := by rw [← e1]; exact new_cell _ _ _ _ _ rfl
  have hsl : Hid (w.heap.size < w1.heap.size) := by rw [← e1]; unfold Hid; simp
  obtain ⟨hc, c4, c5, hfz⟩ := hP.out.cells
  obtain ⟨ct, cr⟩ := hc k hk
  have hk2 : (k : Int) < 2 := by omega
  clear hP0 hc
  go_enter Try.func15, Try.ntmps15
  go_wp2_with fail
  try rw [e1]
  clear e1
  generalize w.heap.size = s at *
  try simp only [hkm]
  go_quiet (fail)
  obtain ⟨w2, hw2⟩ : ∃ w2, w1.drewN nq = w2 := ⟨_, rfl⟩
  have ow2 : Hid (Old w1 w2) := by rw [← hw2]; exact (Old.refl w1).drewN _
  rw [hw2]
  clear hw2
  have q0 := ow2.out.cell b0
  have q2 := ow2.out.cell b2
  have q3 := ow2.out.cell b3
  have x4 := ow2.out.cell c4
  have x5 := ow2.out.cell c5
  clear b0 b1 b2 b3 c4 c5 ct cr
  go_wp2_with fail
  have hP2 := hid (hP.out.olds ow2.out)
  have kA := hid (tells_any (t k) (r k) _ _ (nw k) tick (R k) w2 (hP2.out.cal k hk) (hP2.out.doc k hk) (by have := hP2.out.lenD k hk; omega))
  refine kA.out.mono ?_
  rintro e w3 ⟨rfl, e3⟩
  have hP3 := hid (hP2.out.olds e3)
  clear e3
  go_wp2
  go_ret
  exact ⟨rfl, _, _, _, _, _, _, _, _, hP3.out.up (Nat.le_succ N), hol⟩

set_option maxRecDepth 100000 in
set_option maxHeartbeats 4000000 in
theorem step_other (w0 w : World) (wb N : Nat) (on n tick : Int) (hX : PX w0 w wb N) (kind : Int) (h1 : kind ≠ 1) (h2 : kind ≠ 2) (h3 : kind ≠ 3) (h4 : kind ≠ 4) (h5 : kind ≠ 5) (h6 : kind ≠ 6) :
    Calls Try.prog 15 #[.pointer (some ⟨wb, 0, none⟩), .agg #[.int .i64 kind, .int .i64 on, .int .i64 n, .int .i64 tick]] w fun e w' => e = .returned (.bool true) ∧ PX w0 w' wb (N + 1) := by
  obtain ⟨τ0, t, r, nw, R, vo, vw, olds, hP0, hol⟩ := hX
  obtain ⟨k, hk, hkm⟩ := mod_two on
  obtain ⟨w1, e1⟩ : ∃ w1, w.alloc (.cells #[.int .i64 kind, .int .i64 on, .int .i64 n, .int .i64 tick] 48) = w1 := ⟨_, rfl⟩
  have ow1 : Hid (Old w w1) := by rw [← e1]; exact (Old.refl w).alloc _
  have hP := hid (hP0.olds ow1.out)
  have hts : Hid (ext τ0 w.heap.size (fun _ => False) 0 w.heap.size = 0) := ext_out (Nat.le_refl _) (fun h => h)
  generalize ext τ0 w.heap.size (fun _ => False) 0 = τ at hP hts
  have b0 : w1.cell? ⟨w.heap.size, 0, none⟩ = some (.int .i64 kind) := by rw [← e1]; exact new_cell _ _ _ _ _ rfl
  have b1 : w1.cell? ⟨w.heap.size, 1, none⟩ = some (.int .i64 on) := by rw [← e1]; exact new_cell _ _ _ _ _ rfl
  have b2 : w1.cell? ⟨w.heap.size, 2, none⟩ = some (.int .i64 n) := by rw [← e1]; exact new_cell _ _ _ _ _ rfl
  have b3 : w1.cell? ⟨w.heap.size, 3, none⟩ = some (.int .i64 tick) := by rw [← e1]; exact new_cell _ _ _ _ _ rfl
  have hsl : Hid (w.heap.size < w1.heap.size) := by rw [← e1]; unfold Hid; simp
  obtain ⟨hc, c4, c5, hfz⟩ := hP.out.cells
  obtain ⟨ct, cr⟩ := hc k hk
  have hk2 : (k : Int) < 2 := by omega
  clear hP0 hc
  have j1 : (kind == 1) = false := beq_eq_false_iff_ne.2 h1
  have j2 : (kind == 2) = false := beq_eq_false_iff_ne.2 h2
  have j3 : (kind == 3) = false := beq_eq_false_iff_ne.2 h3
  have j4 : (kind == 4) = false := beq_eq_false_iff_ne.2 h4
  have j5 : (kind == 5) = false := beq_eq_false_iff_ne.2 h5
  have j6 : (kind == 6) = false := beq_eq_false_iff_ne.2 h6
  clear h1 h2 h3 h4 h5 h6
  go_enter Try.func15, Try.ntmps15
  go_wp2_with fail
  try rw [e1]
  clear e1
  generalize w.heap.size = s at *
  try simp only [hkm]
  go_quiet (fail)
  obtain ⟨w2, hw2⟩ : ∃ w2, w1.drewN nq = w2 := ⟨_, rfl⟩
  have ow2 : Hid (Old w1 w2) := by rw [← hw2]; exact (Old.refl w1).drewN _
  rw [hw2]
  clear hw2
  have q0 := ow2.out.cell b0
  have q2 := ow2.out.cell b2
  have q3 := ow2.out.cell b3
  have x4 := ow2.out.cell c4
  have x5 := ow2.out.cell c5
  clear b0 b1 b2 b3 c4 c5 ct cr
  go_wp2_with fail
  have hP2 := hid (hP.out.olds ow2.out)
  go_ret
  exact ⟨rfl, _, _, _, _, _, _, _, _, hP2.out.up (Nat.le_succ N), hol⟩
end Go.Proofs.Ytbaibikpdaphoaa

/- A step of the play: what is due. -/
namespace Go.Proofs.Ytbaibikpdaphoaa
open Go.RowKit Go.Lib Go.Maps

theorem rest_len (t : Int) (R : List Due) : (rest t R).length ≤ R.length := by
  have := due_rest t R
  have h2 := congrArg List.length this
  rw [List.length_append] at h2
  omega
theorem due_len (t : Int) (R : List Due) : (due t R).length ≤ R.length := by
  have := due_rest t R
  have h2 := congrArg List.length this
  rw [List.length_append] at h2
  omega


set_option maxRecDepth 100000 in
set_option maxHeartbeats 4000000 in
theorem step_upto (w0 w : World) (wb N : Nat) (on n tick : Int) (hX : PX w0 w wb N) (hN : N ≤ 900) :
    Calls Try.prog 15 #[.pointer (some ⟨wb, 0, none⟩), .agg #[.int .i64 4, .int .i64 on, .int .i64 n, .int .i64 tick]] w fun e w' => e = .returned (.bool true) ∧ PX w0 w' wb (N + 1) := by
  obtain ⟨τ0, t, r, nw, R, vo, vw, olds, hP0, hol⟩ := hX
  obtain ⟨k, hk, hkm⟩ := mod_two on
  obtain ⟨w1, e1⟩ : ∃ w1, w.alloc (.cells #[.int .i64 4, .int .i64 on, .int .i64 n, .int .i64 tick] 48) = w1 := ⟨_, rfl⟩
  have ow1 : Hid (Old w w1) := by rw [← e1]; exact (Old.refl w).alloc _
  have hP := hid (hP0.olds ow1.out)
  have hts : Hid (ext τ0 w.heap.size (fun _ => False) 0 w.heap.size = 0) := ext_out (Nat.le_refl _) (fun h => h)
  generalize ext τ0 w.heap.size (fun _ => False) 0 = τ at hP hts
  have b0 : w1.cell? ⟨w.heap.size, 0, none⟩ = some (.int .i64 4) := by rw [← e1]; exact new_cell _ _ _ _ _ rfl
  have b1 : w1.cell? ⟨w.heap.size, 1, none⟩ = some (.int .i64 on) := by rw [← e1]; exact new_cell _ _ _ _ _ rfl
  have b2 : w1.cell? ⟨w.heap.size, 2, none⟩ = some (.int .i64 n) := by rw [← e1]; exact new_cell _ _ _ _ _ rfl
  have b3 : w1.cell? ⟨w.heap.size, 3, none⟩ = some (.int .i64 tick) := by rw [← e1]; exact new_cell _ _ _ _ _ rfl
  have hsl : Hid (w.heap.size < w1.heap.size) := by rw [← e1]; unfold Hid; simp
  obtain ⟨hc, c4, c5, hfz⟩ := hP.out.cells
  obtain ⟨ct, cr⟩ := hc k hk
  have hk2 : (k : Int) < 2 := by omega
  clear hP0 hc
  go_enter Try.func15, Try.ntmps15
  go_wp2_with fail
  try rw [e1]
  clear e1
  generalize w.heap.size = s at *
  try simp only [hkm]
  go_quiet (fail)
  obtain ⟨w2, hw2⟩ : ∃ w2, w1.drewN nq = w2 := ⟨_, rfl⟩
  have ow2 : Hid (Old w1 w2) := by rw [← hw2]; exact (Old.refl w1).drewN _
  rw [hw2]
  clear hw2
  have q0 := ow2.out.cell b0
  have q2 := ow2.out.cell b2
  have q3 := ow2.out.cell b3
  have x4 := ow2.out.cell c4
  have x5 := ow2.out.cell c5
  clear b0 b1 b2 b3 c4 c5 ct cr
  go_wp2_with fail
  have hP2 := hid (hP.out.olds ow2.out)
  have hts2 : Hid (ext τ w1.heap.size (fun _ => False) 0 s = 0) := by rw [ext_low hsl.out]; exact hts.out
  generalize ext τ w1.heap.size (fun _ => False) 0 = τ2 at hP2 hts2
  clear hP hts q0 q2 x4 x5 hfz
  by_cases hz : refE (nw k) (tick, 0) = 0
  · have hl2 := hP2.out.lenR k hk
    refine (upto_good (t k) _ (nw k) tick (R k) w2 (hP2.out.cal k hk) hz (by omega)).mono ?_
    rintro e w3 ⟨told, F', rfl, hown, hT, hf, hF'⟩
    have hP3 := hid (hP2.out.calm hk hT hf (fun b hb => ⟨Or.inl (hF' b hb).1, Nat.lt_of_lt_of_le (hF' b hb).2 hf.size⟩) (N' := N) (Nat.le_refl _) (Nat.le_trans (rest_len _ _) hl2))
    have q3' := frm_cell hf q3 (by rw [hts2.out]; omega)
    have hz0 : Hid (∀ b, w2.heap.size ≤ b → ext τ2 w2.heap.size F' (1 + k) b = 0) := fun b hb => ext_out hb (fun h => by have := (hF' b h).2; omega)
    have hs23 : Hid (w2.heap.size ≤ w3.heap.size) := hf.size
    have hrk : Hid (r k < w2.heap.size) := (hP2.out.bnd (r k) (by rw [hP2.out.rt k hk]; omega)).2
    have hw0 : Hid (w0.heap.size ≤ w2.heap.size) := hP2.out.old.size
    generalize ext τ2 w2.heap.size F' (1 + k) = τ3 at hP3 hz0
    have kB := hid (refupto_good (r k) _ (nw k) tick (R k) w3 (hP3.out.doc k hk) (by rw [hP3.out.rt k hk]; omega) hz (by omega))
    have hdl := due_len tick (R k)
    have hrl := hid (rest_len tick (R k))
    have hl2h := hid hl2
    clear hT hf hF' q3 hts2 hP2
    obtain ⟨ao1, ca, rfl, hD1, h9⟩ := owns_dues hown
    have hownh := hid hown
    have hD1h := hid hD1
    have h9h := hid h9
    clear hown hD1 h9
    go_wp2_with fail
    refine kB.out.mono ?_
    rintro e w4 ⟨ao2, cb, rfl, hD2, hDoc, hf2⟩
    have hP4 := hid (hP3.out.docm hk (hDoc.mono (fun b _ h => Or.inl h)) hf2 (N' := N) (Nat.le_refl _) (Nat.le_trans hrl.out hl2h.out))
    have hz4 : Hid (∀ b, w2.heap.size ≤ b → b < w3.heap.size → ext τ3 w3.heap.size (fun b => b < w4.heap.size) 8 b = 0) := fun b hb hb2 => by rw [ext_low hb2]; exact hz0.out b hb
    generalize ext τ3 w3.heap.size (fun b => b < w4.heap.size) 8 = τ4 at hP4 hz4
    have hD1' : Hid (DueC w4 ao1 (due tick (R k))) := by
      rcases h9h.out with ⟨rfl, _, h⟩ | ⟨g, rfl, h1, h2, _⟩
      · rw [h]; exact fun i hi => by simp at hi
      · exact hD1h.out.frm hf2 (by have := hrk.out; omega)
    have hD2h := hid hD2
    have hf2h := hid hf2
    clear hD2 hDoc hf2 q3' kB
    have kS := hid (same_any ao1 ao2 ca cb (due tick (R k)) w4 hD1'.out hD2h.out (by omega))
    generalize hL : due tick (R k) = L at *
    obtain ⟨n2, hn2⟩ : ∃ n2, L.length = n2 := ⟨_, rfl⟩
    rw [hn2] at kS hdl ⊢
    have hn2h := hid hn2
    clear hn2 hL
    go_wp2_with fail
    refine kS.out.mono ?_
    rintro e w5 ⟨rfl, m, e5⟩
    obtain ⟨W5, hW5⟩ : ∃ W5, w4.drewN m = W5 := ⟨_, rfl⟩
    have o5 : Hid (Old w4 W5) := by rw [← hW5]; exact (Old.refl w4).drewN m
    have hP5 := hid (hP4.out.olds o5.out)
    have hz5 : Hid (∀ b, w2.heap.size ≤ b → b < w3.heap.size → ext τ4 w4.heap.size (fun _ => False) 0 b = 0) := fun b hb hb2 => by
      rw [ext_low (Nat.lt_of_lt_of_le hb2 hf2h.out.size)]; exact hz4.out b hb hb2
    generalize ext τ4 w4.heap.size (fun _ => False) 0 = τ5 at hP5 hz5
    rw [e5, hW5]
    clear e5 hW5 w5
    rcases h9h.out with ⟨rfl, rfl, hL0⟩ | ⟨g, rfl, hg1, hg2, hcp⟩
    · obtain rfl : n2 = 0 := by rw [← hn2h.out, hL0]; rfl
      clear hL0
      go_wp2_with fail
      go_loopw [16] (fun s wr => s = .int .i64 0 ∧ wr = W5) (fun _ _ => 0)
      case atStart => exact ⟨rfl, rfl⟩
      case round =>
        obtain ⟨rfl, rfl⟩ := hrel
        go_wp2_with fail
        go_ret
        exact ⟨rfl, _, _, _, _, _, _, _, _, hP5.out.up (Nat.le_succ N), hol⟩
    · have hR0 := (row_of_owns (n := L.length) hownh.out).1
      have hR5 : Hid (Row W5 g ca L) := (hR0.kept hf2h.out (by have := hrk.out; omega)).kept o5.out (fun h => h)
      have hfin : Hid (∀ W, Frm (fun b => b = g) W5 W → PX w0 W wb (N + 1)) := fun W hW => by
        refine ⟨_, _, _, _, _, _, _, _, (hP5.out.free hW (fun b e => ?_)).up (Nat.le_succ N), hol⟩
        rw [e]
        exact ⟨hz5.out g hg1 hg2, by have := hw0.out; omega⟩
      clear hR0 hg1 hg2 hcp
      go_wp2_with fail
      go_loopw [16] (fun s wr => ∃ i : Nat, i ≤ n2 ∧ s = .int .i64 (i : Int) ∧ ∃ M, M.length = n2 ∧ Row wr g ca M ∧ Frm (fun b => b = g) W5 wr) (fun s _ => n2 - (intOf s).toNat)
      case atStart => exact ⟨0, Nat.zero_le _, rfl, L, hn2h.out, hR5.out, Frm.refl _ _⟩
      case round =>
        obtain ⟨i, hi, rfl, M, hM, hRow, hfr⟩ := hrel
        have kM := hid hM
        have kR := hid hRow
        have kf := hid hfr
        clear hM hfr
        by_cases hin : i < n2
        · obtain ⟨v0, v1⟩ := hRow.cell (i := i) (by rw [kM.out]; exact hin)
          have fz0 := hRow.frozen (2 * i)
          have fz1 := hRow.frozen (2 * i + 1)
          have hset := hid (hRow.set (i := i) (by rw [kM.out]; exact hin) (9, 9))
          have e1 : i * 2 = 2 * i := by omega
          clear hRow
          go_wp2_with fail
          refine ⟨⟨i + 1, by omega, by go_num, M.set i (9, 9), by rw [List.length_set]; exact kM.out, hset.out, Frm.setCell (S := fun b => b = g) (Frm.setCell (S := fun b => b = g) kf.out ⟨g, 2 * i, none⟩ (Or.inr rfl) _) ⟨g, 2 * i + 1, none⟩ (Or.inr rfl) _⟩, by simp [intOf]; omega⟩
        · obtain rfl : i = n2 := by omega
          clear hRow
          go_wp2_with fail
          go_ret
          exact ⟨rfl, hfin.out _ kf.out⟩
  · refine (upto_bad (t k) _ (nw k) tick _ (R k) w2 (hP2.out.cal k hk) rfl hz).mono ?_
    rintro e w3 ⟨rfl, h3⟩
    have hP3 := hid (hP2.out.olds h3)
    have q3' := h3.cell q3
    have kB := hid (refupto_bad (r k) _ (nw k) tick _ (R k) w3 (hP3.out.doc k hk) rfl hz)
    generalize refE (nw k) (tick, 0) = z at *
    clear h3 q3
    go_wp2_with fail
    refine kB.out.mono ?_
    rintro e w4 ⟨rfl, e4⟩
    rw [e4]
    clear e4
    go_wp2_with fail
    refine (same_any none none 0 0 [] w3 (fun i hi => by simp at hi) (fun i hi => by simp at hi) (by simp)).mono ?_
    rintro e w5 ⟨rfl, m, e5⟩
    rw [e5]
    clear e5
    go_wp2_with fail
    obtain ⟨W5, hW5⟩ : ∃ W5, w3.drewN m = W5 := ⟨_, rfl⟩
    have hP5 : Hid (∃ τ', PS w0 W5 wb τ' t r nw nw R R vo vw (olds.map Prod.fst) (olds.map Prod.snd) olds N) := by
      rw [← hW5]; exact ⟨_, hP3.out.olds ((Old.refl w3).drewN m)⟩
    rw [hW5]
    clear hW5
    go_loopw [16] (fun s wr => s = .int .i64 0 ∧ wr = W5) (fun _ _ => 0)
    case atStart => exact ⟨rfl, rfl⟩
    case round =>
      obtain ⟨rfl, rfl⟩ := hrel
      go_wp2_with fail
      go_ret
      obtain ⟨τ', h6⟩ := hP5.out
      exact ⟨rfl, _, _, _, _, _, _, _, _, h6.up (Nat.le_succ N), hol⟩
end Go.Proofs.Ytbaibikpdaphoaa

/- What lies where, when a calendar is put aside. -/
namespace Go.Proofs.Ytbaibikpdaphoaa
open Go.RowKit Go.Lib Go.Maps

theorem ptrs_snoc (po : List Nat) (b : Nat) : ptrs (po ++ [b]) = ptrs po ++ [.pointer (some ⟨b, 0, none⟩)] := by simp [ptrs]

theorem PS.appo {w0 w w1 : World} {wb N b g cap : Nat} {τ t r : Nat → Nat} {nw nd : Nat → Int} {R D : Nat → List Due} {vo vw : Value} {po pw : List Nat} {olds : List (Nat × Nat)} (h : PS w0 w wb τ t r nw nd R D vo vw po pw olds N) (hg : w.grownBy w1 vo.ownBlock)
    (hown : w1.ownsRow w0.heap.size 27 1 (.slice (some ⟨g, 0, none⟩) (po.length + 1) cap) (po.length + 1) (ptrs po ++ [.pointer (some ⟨b, 0, none⟩)])) (hat : vo.ownBlock = some g ∨ w.heap.size ≤ g) (hlt : g < w1.heap.size) :
    ∃ τ', PS w0 (w1.setCell ⟨wb, 4, none⟩ (.slice (some ⟨g, 0, none⟩) (po.length + 1) cap)) wb τ' t r nw nd R D (.slice (some ⟨g, 0, none⟩) (po.length + 1) cap) vw (po ++ [b]) pw olds N ∧ (∀ q, q < w.heap.size → τ q = 0 → τ' q = 0 ∧ (w1.setCell ⟨wb, 4, none⟩ (.slice (some ⟨g, 0, none⟩) (po.length + 1) cap)).heap[q]? = w.heap[q]?) ∧ (∀ q, τ q = 8 → τ' q = 8) ∧ Frm (fun q => vo.ownBlock = some q ∨ q = wb) w (w1.setCell ⟨wb, 4, none⟩ (.slice (some ⟨g, 0, none⟩) (po.length + 1) cap)) := by
  have hwl := (h.bnd wb (by rw [h.wbt]; omega)).2
  have hne : ∀ q, vo.ownBlock = some q → q ≠ wb := fun q hq e => by
    have := h.tgo q hq
    rw [e, h.wbt] at this
    omega
  have hf1 : Frm (fun q => vo.ownBlock = some q) w w1 := ⟨hg.os, hg.tape, hg.output, hg.size, fun q hq hn => hg.block q hq (fun e => hn e.symm)⟩
  have hf : Frm (fun q => vo.ownBlock = some q ∨ q = wb) w (w1.setCell ⟨wb, 4, none⟩ (.slice (some ⟨g, 0, none⟩) (po.length + 1) cap)) :=
    Frm.setCell (S := fun q => vo.ownBlock = some q ∨ q = wb) (Frm.mono hf1 (fun _ _ h => Or.inl h)) ⟨wb, 4, none⟩ (Or.inr (Or.inr rfl)) _
  have hsz2 : (w1.setCell ⟨wb, 4, none⟩ (.slice (some ⟨g, 0, none⟩) (po.length + 1) cap)).heap.size = w1.heap.size := by simp [World.setCell]
  have p := h.parts (c := fun m => m = 6 ∨ m = 5) (c' := 6) (G := fun q => q = g) hf (fun q e => by rw [e, hsz2]; exact hlt) (by intro h; omega) (fun q _ hq => Or.inl (by
    rcases hq with hq | hq
    · exact ⟨Or.inl (h.tgo q hq), by rw [h.tgo q hq]; omega⟩
    · rw [hq, h.wbt]; exact ⟨Or.inr rfl, by omega⟩))
  have hgw : g ≠ wb := by
    rcases hat with e | e
    · exact hne g e
    · omega
  have hgt : ext τ w.heap.size (fun q => q = g) 6 g = 6 := by
    rcases hat with e | e
    · rw [ext_low (h.bnd g (by rw [h.tgo g e]; omega)).2]; exact h.tgo g e
    · exact ext_new e rfl
  refine ⟨ext τ w.heap.size (fun q => q = g) 6, ?_, fun q hq h0 => ⟨by rw [ext_low hq]; exact h0, hf.block q hq ?_⟩, fun q hq => by rw [ext_low (h.bnd q (by omega)).2]; exact hq, hf⟩
  · have hb1 : w1.heap[wb]? = w.heap[wb]? := hf1.block wb hwl (fun e => hne wb e rfl)
    have hown2 := owns_kept hown (w' := w1.setCell ⟨wb, 4, none⟩ (.slice (some ⟨g, 0, none⟩) (po.length + 1) cap)) (fun q hq => (frm_set w1 wb 4 _).block q (by simp [Value.ownBlock] at hq; omega) (by simp [Value.ownBlock] at hq; omega))
    refine ⟨?_, p.wbt, fun i hi => p.cal i hi (by intro h; omega), fun i hi => p.doc i hi (by intro h; omega), p.rt, (by rw [ptrs_snoc, List.length_append]; exact hown2), p.roww (by intro h; omega), (fun q hq => by simp [Value.ownBlock] at hq; rw [← hq]; exact hgt), p.tgw, p.each, p.bnd, p.old, h.lenR, h.lenD⟩
    simp [World.setCell, Array.getElem?_modify, hb1, h.blk]
  · rintro (e | e)
    · have := h.tgo q e; omega
    · rw [e, h.wbt] at h0; omega

theorem PS.appw {w0 w w1 : World} {wb N b g cap : Nat} {τ t r : Nat → Nat} {nw nd : Nat → Int} {R D : Nat → List Due} {vo vw : Value} {po pw : List Nat} {olds : List (Nat × Nat)} (h : PS w0 w wb τ t r nw nd R D vo vw po pw olds N) (hg : w.grownBy w1 vw.ownBlock)
    (hown : w1.ownsRow w0.heap.size 32 1 (.slice (some ⟨g, 0, none⟩) (pw.length + 1) cap) (pw.length + 1) (ptrs pw ++ [.pointer (some ⟨b, 0, none⟩)])) (hat : vw.ownBlock = some g ∨ w.heap.size ≤ g) (hlt : g < w1.heap.size) :
    ∃ τ', PS w0 (w1.setCell ⟨wb, 5, none⟩ (.slice (some ⟨g, 0, none⟩) (pw.length + 1) cap)) wb τ' t r nw nd R D vo (.slice (some ⟨g, 0, none⟩) (pw.length + 1) cap) po (pw ++ [b]) olds N ∧ (∀ q, q < w.heap.size → τ q = 0 → τ' q = 0 ∧ (w1.setCell ⟨wb, 5, none⟩ (.slice (some ⟨g, 0, none⟩) (pw.length + 1) cap)).heap[q]? = w.heap[q]?) ∧ (∀ q, τ q = 8 → τ' q = 8) ∧ Frm (fun q => vw.ownBlock = some q ∨ q = wb) w (w1.setCell ⟨wb, 5, none⟩ (.slice (some ⟨g, 0, none⟩) (pw.length + 1) cap)) := by
  have hwl := (h.bnd wb (by rw [h.wbt]; omega)).2
  have hne : ∀ q, vw.ownBlock = some q → q ≠ wb := fun q hq e => by
    have := h.tgw q hq
    rw [e, h.wbt] at this
    omega
  have hf1 : Frm (fun q => vw.ownBlock = some q) w w1 := ⟨hg.os, hg.tape, hg.output, hg.size, fun q hq hn => hg.block q hq (fun e => hn e.symm)⟩
  have hf : Frm (fun q => vw.ownBlock = some q ∨ q = wb) w (w1.setCell ⟨wb, 5, none⟩ (.slice (some ⟨g, 0, none⟩) (pw.length + 1) cap)) :=
    Frm.setCell (S := fun q => vw.ownBlock = some q ∨ q = wb) (Frm.mono hf1 (fun _ _ h => Or.inl h)) ⟨wb, 5, none⟩ (Or.inr (Or.inr rfl)) _
  have hsz2 : (w1.setCell ⟨wb, 5, none⟩ (.slice (some ⟨g, 0, none⟩) (pw.length + 1) cap)).heap.size = w1.heap.size := by simp [World.setCell]
  have p := h.parts (c := fun m => m = 7 ∨ m = 5) (c' := 7) (G := fun q => q = g) hf (fun q e => by rw [e, hsz2]; exact hlt) (by intro h; omega) (fun q _ hq => Or.inl (by
    rcases hq with hq | hq
    · exact ⟨Or.inl (h.tgw q hq), by rw [h.tgw q hq]; omega⟩
    · rw [hq, h.wbt]; exact ⟨Or.inr rfl, by omega⟩))
  have hgw : g ≠ wb := by
    rcases hat with e | e
    · exact hne g e
    · omega
  have hgt : ext τ w.heap.size (fun q => q = g) 7 g = 7 := by
    rcases hat with e | e
    · rw [ext_low (h.bnd g (by rw [h.tgw g e]; omega)).2]; exact h.tgw g e
    · exact ext_new e rfl
  refine ⟨ext τ w.heap.size (fun q => q = g) 7, ?_, fun q hq h0 => ⟨by rw [ext_low hq]; exact h0, hf.block q hq ?_⟩, fun q hq => by rw [ext_low (h.bnd q (by omega)).2]; exact hq, hf⟩
  · have hb1 : w1.heap[wb]? = w.heap[wb]? := hf1.block wb hwl (fun e => hne wb e rfl)
    have hown2 := owns_kept hown (w' := w1.setCell ⟨wb, 5, none⟩ (.slice (some ⟨g, 0, none⟩) (pw.length + 1) cap)) (fun q hq => (frm_set w1 wb 5 _).block q (by simp [Value.ownBlock] at hq; omega) (by simp [Value.ownBlock] at hq; omega))
    refine ⟨?_, p.wbt, fun i hi => p.cal i hi (by intro h; omega), fun i hi => p.doc i hi (by intro h; omega), p.rt, p.rowo (by intro h; omega), (by rw [ptrs_snoc, List.length_append]; exact hown2), p.tgo, (fun q hq => by simp [Value.ownBlock] at hq; rw [← hq]; exact hgt), p.each, p.bnd, p.old, h.lenR, h.lenD⟩
    simp [World.setCell, Array.getElem?_modify, hb1, h.blk]
  · rintro (e | e)
    · have := h.tgw q e; omega
    · rw [e, h.wbt] at h0; omega

theorem PS.copy {w0 w w1 : World} {wb N k bt : Nat} {τ t r : Nat → Nat} {nw nd : Nat → Int} {R D : Nat → List Due} {vo vw : Value} {po pw : List Nat} {olds olds' : List (Nat × Nat)} (h : PS w0 w wb τ t r nw nd R D vo vw po pw olds N) (hk : k < 2) (hN : N ≤ 1000) (hKS : KS w w1 bt (nw k) (R k))
    (ho : olds' = olds ∨ ∃ rc, olds' = olds ++ [(t k, rc)] ∧ Doc w rc (fun b => τ b = 8) (nw k) (R k) ∧ τ rc = 8) :
    ∃ τ', PS w0 (w1.setCell ⟨wb, k, none⟩ (.pointer (some ⟨bt, 0, none⟩))) wb τ' (put1 t k bt) r nw nd R D vo vw po pw olds' N := by
  obtain ⟨F, hT, hold, hF⟩ := hKS
  have h1 := h.olds hold
  have hτ1 : ∀ b, τ b ≠ 0 → ext τ w.heap.size (fun _ => False) 0 b = τ b := fun b hb => ext_low (h.bnd b hb).2
  have hτ0 : ∀ b, w.heap.size ≤ b → ext τ w.heap.size (fun _ => False) 0 b = 0 := fun b hb => ext_out hb (fun h => h)
  generalize ext τ w.heap.size (fun _ => False) 0 = τ1 at h1 hτ1 hτ0
  have hwl := (h.bnd wb (by rw [h.wbt]; omega)).2
  have hws := hold.size
  have hf := frm_set w1 wb k (.pointer (some ⟨bt, 0, none⟩))
  have p := h1.parts (c := fun m => m = 5) (c' := 0) (G := fun _ => False) hf (fun _ h => h.elim) (by intro h; omega) (fun b _ e => Or.inl (by rw [e, h1.wbt]; exact ⟨rfl, by omega⟩))
  have hτ2 : ∀ b, τ1 b ≠ 0 → ext τ1 w1.heap.size (fun _ => False) 0 b = τ1 b := fun b hb => ext_low (h1.bnd b hb).2
  have hF0 : ∀ b, F b → ext τ1 w1.heap.size (fun _ => False) 0 b = 0 := fun b hb => by rw [ext_low (hF b hb).2]; exact hτ0 b (hF b hb).1
  generalize ext τ1 w1.heap.size (fun _ => False) 0 = τ2 at p hτ2 hF0
  have key : ∃ τ' : Nat → Nat, (∀ b, F b → τ' b = 1 + k) ∧ (∀ b, τ2 b = 1 + k → τ' b = 8) ∧ (∀ b, τ2 b ≠ 0 → τ2 b ≠ 1 + k → τ' b = τ2 b) ∧ (∀ b, τ' b ≠ 0 → F b ∨ τ2 b ≠ 0) := by
    refine ⟨fun b => @ite _ (F b) (Classical.propDecidable _) (1 + k) (if τ2 b = 1 + k then 8 else τ2 b), fun b hb => if_pos hb, fun b hb => ?_, fun b h0 hb => ?_, fun b hb => ?_⟩
    · show @ite _ (F b) (Classical.propDecidable _) (1 + k) _ = _
      rw [if_neg (fun h => by have := hF0 b h; omega), if_pos hb]
    · show @ite _ (F b) (Classical.propDecidable _) (1 + k) _ = _
      rw [if_neg (fun h => h0 (hF0 b h)), if_neg hb]
    · by_cases hFb : F b
      · exact Or.inl hFb
      · right
        intro e
        apply hb
        show @ite _ (F b) (Classical.propDecidable _) (1 + k) _ = _
        rw [if_neg hFb, if_neg (by omega), e]
  obtain ⟨τ', t1, t2, t3, t4⟩ := key
  have t8 : ∀ b, τ2 b = 8 → τ' b = 8 := fun b hb => by rw [t3 b (by omega) (by omega)]; exact hb
  have hTw : TkS (w1.setCell ⟨wb, k, none⟩ (.pointer (some ⟨bt, 0, none⟩))) bt F (nw k) (R k) := hT.kept hf (fun b hb e => by have := (hF b hb).1; omega)
  have hsz2 : (w1.setCell ⟨wb, k, none⟩ (.pointer (some ⟨bt, 0, none⟩))).heap.size = w1.heap.size := by simp [World.setCell]
  refine ⟨τ', ?_, by rw [t3 wb (by rw [p.wbt]; omega) (by rw [p.wbt]; omega)]; exact p.wbt, fun i hi => ?_, fun i hi => (p.doc i hi (by intro h; omega)).mono (fun b _ hb => t8 b hb), fun i hi => by rw [t3 _ (by rw [p.rt i hi]; omega) (by rw [p.rt i hi]; omega)]; exact p.rt i hi, p.rowo (by intro h; omega), p.roww (by intro h; omega), fun q hq => by rw [t3 q (by rw [p.tgo q hq]; omega) (by rw [p.tgo q hq]; omega)]; exact p.tgo q hq, fun q hq => by rw [t3 q (by rw [p.tgw q hq]; omega) (by rw [p.tgw q hq]; omega)]; exact p.tgw q hq, fun x hx => ?_, fun b hb => ?_, p.old, h.lenR, h.lenD⟩
  · have hb := h1.blk
    match k, hk with
    | 0, _ => simp [World.setCell, Array.getElem?_modify, hb, put1]
    | 1, _ => simp [World.setCell, Array.getElem?_modify, hb, put1]
  · by_cases e : i = k
    · subst e
      rw [put1_at]
      exact hTw.mono t1
    · rw [put1_ne _ _ e]
      exact (p.cal i hi (by intro h; omega)).mono (fun b hb => by rw [t3 b (by omega) (by omega)]; exact hb)
  · have each : ∀ x ∈ olds, ∃ now L, TkS (w1.setCell ⟨wb, k, none⟩ (.pointer (some ⟨bt, 0, none⟩))) x.1 (fun b => τ' b = 8) now L ∧ Doc (w1.setCell ⟨wb, k, none⟩ (.pointer (some ⟨bt, 0, none⟩))) x.2 (fun b => τ' b = 8) now L ∧ τ' x.2 = 8 ∧ L.length ≤ 1000 := fun x hx => by
      obtain ⟨now, L, a1, a2, a3, a4⟩ := p.each x hx
      exact ⟨now, L, a1.mono (fun b hb => t8 b hb), a2.mono (fun b _ hb => t8 b hb), t8 _ a3, a4⟩
    rcases ho with rfl | ⟨rc, rfl, d1, d2⟩
    · exact each x hx
    · rcases List.mem_append.1 hx with hx | hx
      · exact each x hx
      · simp only [List.mem_singleton] at hx
        subst hx
        have e8 : ∀ b, τ b = 8 → τ2 b = 8 := fun b hb => by
          have a1 := hτ1 b (by omega)
          rw [hτ2 b (by omega), a1]; exact hb
        refine ⟨nw k, R k, (p.cal k hk (by intro h; omega)).mono t2, ((d1.old hold).kept hf (fun e => ?_) (fun b hb e => ?_)).mono (fun b _ hb => t8 b (e8 b hb)), t8 _ (e8 _ d2), by have := h.lenR k hk; omega⟩
        · rw [e, h.wbt] at d2; omega
        · rw [e, h.wbt] at hb; omega
  · rcases t4 b hb with h5 | h5
    · have h6 := hF b h5
      have := h.old.size
      rw [hsz2]
      omega
    · exact p.bnd b h5
end Go.Proofs.Ytbaibikpdaphoaa
