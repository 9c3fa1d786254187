/- What is known of parts: a map whose keys are structs, as a function. -/
import Derived.Test.YtmapejhacbmckaaDoorJ10
import Derived.Test.YtmapejhacbmckaaDoorJ2
import Derived.Maps.OwnSet
import Derived.DeepKeys4
namespace Go.Proofs.YtmapejhacbmckaaDoor
open Go.RowKit Go.Lib Go.Maps

theorem laidOut_q : laidOutB Tryd.prog = true := by kernel_rfl
theorem wide_part : (match Tryd.prog.underlying 82 with | some (.array _ _) | some (.struct _) => true | _ => false) = true := by kernel_rfl
theorem row_part : (82 : TypeId) < Tryd.prog.types.size := of_decide_eq_true (by kernel_rfl)
theorem kt_part : Tryd.prog.keyTypeAt 3 82 = true := by kernel_rfl
set_option maxRecDepth 100000 in
theorem law_part : Keyed Tryd.prog 82 := Keyed.of_law (deep_law_laid laidOut_q (m := 3) (by omega) row_part kt_part wide_part)
theorem zero_i64 (w : World) : (zeroValue 2).run Tryd.prog w = .ok (.int .i64 0) w := by kernel_rfl

def i64ok (x : Int) : Prop := -9223372036854775808 ≤ x ∧ x ≤ 9223372036854775807
theorem wf_of {x : Int} (h : i64ok x) : (Lit.int .i64 x).wf = true := by
  unfold i64ok at h
  simp [Lit.wf, IntKind.min, IntKind.max, IntKind.bits, IntKind.signed]
  omega
theorem wf_u32 {x : Nat} (h : x < 4294967296) : (Lit.int .u32 (x : Int)).wf = true := by
  simp [Lit.wf, IntKind.min, IntKind.max, IntKind.bits, IntKind.signed]
  omega

/-- A part as a value. -/
def partV (k f : Nat) : Value := .agg #[.int .i64 (k : Int), .int .u32 (f : Int)]
def keyL (k f : Nat) : Lit := .string (keyBytes [.int .i64 (k : Int), .int .u32 (f : Int)])

theorem pos_q : 0 < Tryd.prog.types.size := of_decide_eq_true (by kernel_rfl)
theorem size_q : ∃ n, Tryd.prog.types.size = n + 1 := by
  have h := pos_q
  generalize Tryd.prog.types.size = s at *
  exact ⟨s - 1, by omega⟩
theorem cells_part : Tryd.prog.cellsOf 82 = 2 := by kernel_rfl
theorem cells_int : Tryd.prog.cellsOf 3 = 1 := by kernel_rfl
theorem cells_goods : Tryd.prog.cellsOf 45 = 1 := by kernel_rfl

theorem key_part {k f : Nat} (hk : k ≤ 1000) (hf : f < 4294967296) : keyOf Tryd.prog 82 (partV k f) = some (keyL k f) := by
  have h1 := wf_of (x := (k : Int)) (by unfold i64ok; omega)
  have h2 := wf_u32 hf
  have h3 : Tryd.prog.keyType 82 = true := by kernel_rfl
  obtain ⟨n, hn⟩ := size_q
  unfold keyOf partV keyL
  simp only [Tryd.underlying82]
  rw [h3, hn]
  simp [Value.formed, Tryd.underlying82, Program.keyLits, cells_part, cells_int, cells_goods, Value.cells, Tryd.underlying3, Tryd.underlying45, h1, h2]

theorem key_inj {k f k' f' : Nat} (hk : k ≤ 1000) (hf : f < 4294967296) (hk' : k' ≤ 1000) (hf' : f' < 4294967296) (h : keyL k f = keyL k' f') : k = k' ∧ f = f' := by
  have h1 := key_part hk hf
  have h2 := key_part hk' hf'
  rw [← h] at h2
  have h3 := law_part.inj h1 h2
  unfold partV at h3
  simp at h3
  exact ⟨by omega, by omega⟩
theorem key_lit (k f : Nat) : WideAt.IsKeyLit (keyL k f) := trivial

/-- The keys that there can be. -/
def grid : List (Nat × Nat) := (List.range 33).flatMap (fun k => (List.range 1024).map (fun f => (k, f)))
theorem grid_mem {k f : Nat} (hk : k ≤ 32) (hf : f < 1024) : (k, f) ∈ grid := by
  unfold grid
  rw [List.mem_flatMap]
  exact ⟨k, by simp; omega, List.mem_map.2 ⟨f, by simpa using hf, rfl⟩⟩
theorem grid_in {x : Nat × Nat} (h : x ∈ grid) : x.1 ≤ 32 ∧ x.2 < 1024 := by
  unfold grid at h
  rw [List.mem_flatMap] at h
  obtain ⟨k, hk, h⟩ := h
  obtain ⟨f, hf, rfl⟩ := List.mem_map.1 h
  simp at hk hf
  exact ⟨by dsimp only; omega, hf⟩
theorem count_le {α : Type} {p q : α → Bool} : ∀ {l : List α}, (∀ x ∈ l, q x = true → p x = true) → (l.filter q).length ≤ (l.filter p).length
  | [], _ => Nat.le_refl _
  | x :: l, h => by
    have h1 := count_le (l := l) (fun y hy => h y (List.mem_cons_of_mem _ hy))
    have h2 := h x (List.mem_cons_self ..)
    cases hq : q x <;> cases hp : p x <;> simp [hq, hp] at * <;> omega
theorem count_lt {α : Type} {p q : α → Bool} : ∀ {l : List α} {a : α}, (∀ x ∈ l, q x = true → p x = true) → a ∈ l → p a = true → q a = false → (l.filter q).length < (l.filter p).length
  | x :: l, a, h, ha, h1, h2 => by
    have hl : ∀ y ∈ l, q y = true → p y = true := fun y hy => h y (List.mem_cons_of_mem _ hy)
    rcases List.mem_cons.1 ha with rfl | ha
    · have := count_le hl
      simp [h1, h2]
      omega
    · have h3 := count_lt hl ha h1 h2
      have h4 := h x (List.mem_cons_self ..)
      cases hq : q x <;> cases hp : p x <;> simp [hq, hp] at * <;> omega

/-- How many keys are not there. -/
def noneN (D : DataW Unit) : Nat := (grid.filter (fun x => !Maps.has D (keyL x.1 x.2))).length

/-- Block mb is a map of what parts are worth. -/
def KM (B : Ins) (W : World) (mb : Nat) : Prop :=
  ∃ D : DataW Unit, W.ownsMap Tryd.prog 82 (plainElem Tryd.prog 2) mb (Maps.size D) D ∧ Maps.size D + noneN D ≤ grid.length ∧
    ∀ k f, k ≤ 32 → f < 1024 → Maps.has D (keyL k f) = true → D.atKey (keyL k f) (.lit (.int .i64 0)) = .lit (.int .i64 (best (B.drop k) f))

theorem exact_of {H : Type} {w : World} {P : Program} {k : TypeId} {R : Value → Option (DataW H × List MemPlace)} {b n : Nat} {D : DataW H} (h : w.ownsMap P k R b n D) : w.ownsMap P k R b (Maps.size D) D := by
  obtain ⟨es, clock, hb, F, _, rfl⟩ := h
  refine ⟨es, clock, hb, F, ?_, rfl⟩
  simp [Maps.size, length_sorted]

theorem KM.made (B : Ins) (w : World) : KM B (w.alloc (.map #[] 0)) w.heap.size :=
  ⟨.map [], World.ownsMap_made _ _ _ _, by
    have e : Maps.size (DataW.map [] : DataW Unit) = 0 := rfl
    have e2 := List.length_filter_le (fun x : Nat × Nat => !Maps.has (DataW.map [] : DataW Unit) (keyL x.1 x.2)) grid
    unfold noneN
    generalize grid.length = q at *
    omega, fun k f _ _ h => by cases h⟩

theorem KM.lt {B : Ins} {W : World} {mb : Nat} (h : KM B W mb) : mb < W.heap.size := by
  obtain ⟨D, h1, _⟩ := h
  exact h1.lt
theorem KM.blk {B : Ins} {W : World} {mb : Nat} (h : KM B W mb) : ∃ es c, W.heap[mb]? = some (.map es c) := by
  obtain ⟨D, ⟨es, clock, hb, _⟩, _⟩ := h
  exact ⟨es, clock, hb⟩
theorem KM.same {B : Ins} {W W' : World} {mb : Nat} (h : KM B W mb) (e : W'.heap[mb]? = W.heap[mb]?) : KM B W' mb := by
  obtain ⟨D, ⟨es, clock, hb, r⟩, h2⟩ := h
  exact ⟨D, ⟨es, clock, by rw [e]; exact hb, r⟩, h2⟩
theorem KM.kept {B : Ins} {W W' : World} {mb : Nat} {S : Nat → Prop} (h : KM B W mb) (hf : Frm S W W') (hS : ¬ S mb) : KM B W' mb := h.same (hf.block mb h.lt hS)
theorem KM.noCell {B : Ins} {W : World} {mb : Nat} (h : KM B W mb) {p : Addr} {v : Value} (hc : W.cell? p = some v) : p.block ≠ mb := fun e => by
  obtain ⟨es, c, hb⟩ := h.blk
  rw [World.cell?, e, hb] at hc
  cases hc

/-- What is looked up. -/
theorem KM.look {B : Ins} {W : World} {mb : Nat} (h : KM B W mb) {k f : Nat} (hk : k ≤ 32) (hf : f < 1024) :
    ∃ (b : Bool) (z : Int), (b = true → z = best (B.drop k) f) ∧ (b = false → z = 0) ∧ ∀ W', W'.heap[mb]? = W.heap[mb]? → (Instr.lookup 106 (.map (some mb)) (.agg #[.int .i64 (k : Int), .int .u32 (f : Int)]) true).run Tryd.prog W' = .ok (.tuple #[.int .i64 z, .bool b]) W' := by
  obtain ⟨D, h1, h2, h3⟩ := h
  refine ⟨Maps.has D (keyL k f), if Maps.has D (keyL k f) then best (B.drop k) f else 0, fun e => by rw [if_pos e], fun e => by rw [if_neg (by rw [e]; simp)], fun W' hW' => ?_⟩
  have h1 : W'.ownsMap Tryd.prog 82 (plainElem Tryd.prog 2) mb (Maps.size D) D := by
    obtain ⟨es, clock, hb, r⟩ := h1
    exact ⟨es, clock, by rw [hW']; exact hb, r⟩
  show (Instr.lookup 106 (.map (some mb)) (partV k f) true).run Tryd.prog W' = _
  obtain ⟨v, ps, hrun, hv⟩ := h1.look_ok law_part Tryd.underlying106 (zero_i64 W') (plainElem_int Tryd.underlying2 (by decide)) (key_part (k := k) (f := f) (by omega) (by omega))
  rw [hrun]
  cases hb : Maps.has D (keyL k f)
  · rw [atKey_of_not_has hb] at hv
    obtain ⟨c, rfl, hc, hwc⟩ := plainElem_int_inv Tryd.underlying2 hv
    simp only [Prod.mk.injEq, DataW.lit.injEq, Lit.int.injEq, true_and] at hc
    rw [← hc.1]
    rfl
  · rw [h3 k f hk hf hb] at hv
    obtain ⟨c, rfl, hc, hwc⟩ := plainElem_int_inv Tryd.underlying2 hv
    simp only [Prod.mk.injEq, DataW.lit.injEq, Lit.int.injEq, true_and] at hc
    rw [← hc.1]
    rfl

/-- One more is known. -/
theorem KM.put {B : Ins} {W : World} {mb : Nat} (h : KM B W mb) {k f : Nat} (hk : k ≤ 32) (hf : f < 1024) (hb : i64ok (best (B.drop k) f)) :
    ∃ W', (Instr.mapUpdate 106 (.map (some mb)) (.agg #[.int .i64 (k : Int), .int .u32 (f : Int)]) (.int .i64 (best (B.drop k) f))).run Tryd.prog W = .ok () W' ∧ KM B W' mb ∧ Frm (fun k => k = mb) W W' := by
  obtain ⟨D, h1, h2, h3⟩ := h
  have hgl : grid.length = 33792 := by decide +kernel
  have hN : Maps.size D < maxLen := by unfold maxLen; omega
  obtain ⟨W', hrun, ho, ht⟩ := h1.store law_part Tryd.underlying106 hN (key_part (k := k) (f := f) (by omega) (by omega)) (plainElem_int Tryd.underlying2 (wf_of hb))
  refine ⟨W', hrun, ⟨_, exact_of ho, ?_, fun k' f' hk' hf' hh => ?_⟩, Frm.grown (Frm.refl _ _) ht.grown (fun q hq => Or.inr (by simp at hq; exact hq.symm))⟩
  · rw [size_put (h1.tidy law_part)]
    have hle : ∀ x ∈ grid, (!Maps.has (D.put (keyL k f) (.lit (.int .i64 (best (B.drop k) f)))) (keyL x.1 x.2)) = true → (!Maps.has D (keyL x.1 x.2)) = true := fun x hx hq => by
      by_cases e : keyL x.1 x.2 = keyL k f
      · rw [e, has_put_same h1.isMap (key_lit k f)] at hq
        cases hq
      · rw [has_put_other e] at hq
        exact hq
    cases hb' : Maps.has D (keyL k f)
    · rw [if_neg (by simp)]
      have := count_lt hle (grid_mem hk hf) (by simp [hb']) (by simp [has_put_same h1.isMap (key_lit k f)])
      unfold noneN at *
      omega
    · rw [if_pos rfl]
      have := count_le hle
      unfold noneN at *
      omega
  · by_cases e : keyL k' f' = keyL k f
    · obtain ⟨rfl, rfl⟩ := key_inj (by omega) (by omega) (by omega) (by omega) e
      exact atKey_put_same h1.isMap (key_lit _ _) _ _
    · rw [has_put_other e] at hh
      rw [atKey_put_other e]
      exact h3 k' f' hk' hf' hh
end Go.Proofs.YtmapejhacbmckaaDoor
