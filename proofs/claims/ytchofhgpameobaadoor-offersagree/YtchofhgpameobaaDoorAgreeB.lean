/- What OffersAgree goes by, besides. -/
import Derived.Test.YtchofhgpameobaaDoorH9
import Derived.Test.YtchofhgpameobaaDoorH10
import Derived.Test.YtchofhgpameobaaDoorH12
import Derived.Test.YtchofhgpameobaaDoorM8
namespace Go.Proofs.YtchofhgpameobaaDoor
open Go.RowKit

theorem low_low {c d : Int} (hc : 0 ≤ c) (hd : 0 ≤ d) (L : List Off) : lowL d (lowL c L) = lowL (c + d) L := by
  have e1 : max c 0 = c := by omega
  have e2 : max d 0 = d := by omega
  have e3 : max (c + d) 0 = c + d := by omega
  unfold lowL
  rw [e1, e2, e3]
  clear e1 e2 e3
  induction L with
  | nil => rfl
  | cons x r ih =>
    by_cases h1 : x.2 > c
    · rw [List.filterMap_cons_some (by simp [h1]; rfl)]
      by_cases h2 : x.2 - c > d
      · rw [List.filterMap_cons_some (b := (x.1, x.2 - c - d)) (by simp [h2]), List.filterMap_cons_some (b := (x.1, x.2 - (c + d))) (by rw [if_pos (by omega)]), ih]
        congr 2
        omega
      · rw [List.filterMap_cons_none (by simp; omega), List.filterMap_cons_none (by rw [if_neg (by omega)]), ih]
    · rw [List.filterMap_cons_none (by rw [if_neg h1]), List.filterMap_cons_none (by rw [if_neg (by omega)]), ih]

theorem low_le {c : Int} {L : List Off} {m : Int} (h : ∀ x ∈ L, x.2 ≤ m) : ∀ x ∈ lowL c L, x.2 ≤ m := by
  intro x hx
  unfold lowL at hx
  rw [List.mem_filterMap] at hx
  obtain ⟨y, hy, e⟩ := hx
  by_cases h1 : y.2 > max c 0
  · rw [if_pos h1] at e
    cases e
    have := h y hy
    show y.2 - max c 0 ≤ m
    omega
  · rw [if_neg h1] at e
    cases e

/-- At a step of a region that draws its order: offers in memory behind a row that one owns. -/
theorem step_appO {ops : Array Oper} {o : Oper} {a : Act} {K : Act → World → Prop} {Q : Exit → Act → World → Prop} {E : Prop} (W : World) (hgd : o.guard = none) (s x : Operand)
    (ho : o.op = .call { callee := .builtin .append, args := #[s, x], argTypes := #[22, 22] }) (B : Nat) (v : Value) (ad : Addr) (n2 c2 : Nat) (L1 L2 : List Off) (hs : a.eval s = v) (hx : a.eval x = .slice (some ad) n2 c2) (hn2 : L2.length = n2) (hown : W.ownsRow B 73 2 v L1.length (flatO L1)) (hO : OffC W (some ad) L2)
    (hl : L1.length + L2.length ≤ 1000000) (hB : B ≤ W.heap.size)
    (h : ∀ v' W', W'.ownsRow B 73 2 v' (L1 ++ L2).length (flatO (L1 ++ L2)) → W.grownBy W' v.ownBlock → K (a.put o.dst v') W') :
    if Region.wanted o (yielded ops a.tmps) = true then Oper.wp Tryd.prog o a W K Q else E := by
  have hw : Region.wanted o (yielded ops a.tmps) = true := by simp [Region.wanted, hgd]
  subst hn2
  rw [if_pos hw]
  obtain ⟨i0, hi0, hz0, hz1, hz2⟩ := parts_o
  exact wp_append_own W s x 22 ho B 73 i0 _ 2 16 Tryd.underlying22 hi0 hz0 hz1 hz2 rfl (by omega) v L1.length (flatO L1) hs hown ad L2.length c2 (flatO L2) hx (flatO_length L2) (off_cells hO) (flatO_one L2) (by unfold maxLen; omega) (by omega) hB (fun v' w' h8 h9 _ => h v' w' (by rw [List.length_append, flatO_append]; exact h8) h9)

/-- An array of 64 truths. -/
def ArrB (w : World) (b : Nat) : Prop := (∀ j, j < 64 → ∃ t, w.cell? ⟨b, j, none⟩ = some (.bool t)) ∧ ∀ j, w.frozen? ⟨b, j, none⟩ = false
theorem ArrB.old {w w' : World} {b : Nat} (h : ArrB w b) (hb : b < w.heap.size) (o : Old w w') : ArrB w' b :=
  ⟨fun j hj => by obtain ⟨t, ht⟩ := h.1 j hj; exact ⟨t, o.cell ht⟩, fun j => frm_frozen o hb (h.2 j) (fun h => h)⟩
theorem ArrB.set {w : World} {b i : Nat} (h : ArrB w b) (t : Bool) : ArrB (w.setCell ⟨b, i, none⟩ (.bool t)) b :=
  ⟨fun j hj => by
    obtain ⟨u, hu⟩ := h.1 j hj
    by_cases e : i = j
    · subst e
      exact ⟨t, set_same hu⟩
    · exact ⟨u, set_oth hu e⟩, fun j => set_fz h.2 j⟩

theorem rep_at {n j : Nat} {v : Value} (h : j < n) : (List.replicate n v).toArray[j]? = some v := by rw [List.getElem?_toArray, List.getElem?_replicate, if_pos h]
theorem ArrB.new (w : World) (t : TypeId) : ArrB (w.alloc (.cells (List.replicate 64 (Value.bool false)).toArray t)) w.heap.size := by
  have hb := heap_new w (.cells (List.replicate 64 (Value.bool false)).toArray t)
  exact ⟨fun j hj => ⟨false, blk_cells hb (rep_at hj)⟩, fun j => blk_fz hb j⟩
theorem ArrB.frm {w w' : World} {b : Nat} (h : ArrB w b) (hb : b < w.heap.size) {S : Nat → Prop} (f : Frm S w w') (hS : ¬ S b) : ArrB w' b :=
  ⟨fun j hj => by obtain ⟨t, ht⟩ := h.1 j hj; exact ⟨t, frm_cell f ht hS⟩, fun j => frm_frozen f hb (h.2 j) hS⟩
theorem OwnO.frm {w w' : World} {b : Nat} {L : List Off} (h : OwnO w b L) {S : Nat → Prop} (f : Frm S w w') (hS : ¬ S b) : OwnO w' b L :=
  ⟨fun i hi => ⟨frm_cell f (h.cell i hi).1 hS, frm_cell f (h.cell i hi).2 hS⟩, fun j => frm_frozen f h.lt (h.fz j) hS, Nat.lt_of_lt_of_le h.lt f.size⟩
theorem OwnO.behind {w : World} {b : Nat} {L : List Off} (h : OwnO w b L) (i : Nat) : OffC w (some ⟨b, i * 2, none⟩) (L.drop i) := fun j hj => by
  have hj' : i + j < L.length := by simp at hj; omega
  have := h.cell (i + j) hj'
  rw [show (i + j) * 2 = i * 2 + j * 2 by omega] at this
  exact ⟨b, i * 2, rfl, by rw [List.getElem_drop]; exact this.1, by rw [List.getElem_drop]; exact this.2⟩
theorem OwnO.ahead {w : World} {b : Nat} {L : List Off} (h : OwnO w b L) (i : Nat) : OffC w (some ⟨b, 0, none⟩) (L.take i) := fun j hj => by
  have hj' : j < L.length := by simp at hj; omega
  have := h.cell j hj'
  exact ⟨b, 0, rfl, by rw [Nat.zero_add, List.getElem_take]; exact this.1, by rw [Nat.zero_add, List.getElem_take]; exact this.2⟩

theorem may10 (x : Off) (w : World) : Calls Tryd.prog 43 #[.int .i64 10, .agg #[.int .u32 (x.1 : Int), .int .i64 x.2]] w fun e w' => e = .returned (.bool (okB 1023 x)) ∧ Old w w' := may_any 10 (by decide) x w

/-- What g without its lowest bit is. -/
def down (g : Nat) : Nat := g &&& ((g + 4294967295) % 4294967296)
theorem down_bits {g : Nat} (hg : g < 4294967296) : bits BinOp.and IntKind.u32 (g : Int) (((g : Int) - 1) % 4294967296) = (down g : Int) := by
  have e : ((g : Int) - 1) % 4294967296 = (((g + 4294967295) % 4294967296 : Nat) : Int) := by omega
  rw [e, bits_and_u32_nat g _ hg (Nat.mod_lt _ (by decide))]
  rfl
theorem down_sub {g : Nat} (hg : g < 4294967296) : subB (down g) g = true := and_sub g _ hg
theorem down_lt {g : Nat} (hg : g < 4294967296) : down g < 4294967296 := Nat.lt_of_le_of_lt Nat.and_le_left hg

/-- Are they worth the same for the sets below g? -/
def alkB (A B : List Off) : Nat → Bool
  | 0 => true
  | g + 1 => alkB A B g && ((wZ g B).1 == (wZ g A).1)
theorem alkB_iff (A B : List Off) : ∀ g, alkB A B g = true ↔ ∀ h, h < g → val h B = val h A
  | 0 => by simp [alkB]
  | g + 1 => by
    rw [alkB, Bool.and_eq_true, alkB_iff A B g, beq_iff_eq]
    constructor
    · rintro ⟨h1, h2⟩ h hh
      rcases Nat.lt_succ_iff_lt_or_eq.1 hh with k | k
      · exact h1 h k
      · subst k; exact h2
    · intro h
      exact ⟨fun k hk => h k (by omega), h g (by omega)⟩
end Go.Proofs.YtchofhgpameobaaDoor
