/- Operations of a region that may come up in any order, each of which leaves a word of its own; a map of method values. -/
import Derived.Test.YtpnnfkgnkalhlaaJ9
import Derived.Maps.OwnSet
namespace Go.Proofs.Ytpnnfkgnkalhlaa
open Go.RowKit Go.Lib Go.Maps

theorem wpAnyH_listed {P : Program} {ops : Array Oper} {Q : Exit → Act → World → Prop} {md : Region.Mode} {S : World → Prop} {fuel : Nat} {l : Array Bool} {a : Act} {w : World} (l' : Array Bool) (h : l = l') (k : wpAnyH P md ops Q S fuel l' a w) : wpAnyH P md ops Q S fuel l a w := by rw [h]; exact k

theorem wpAnyH_cfg {P : Program} {ops : Array Oper} {Q : Exit → Act → World → Prop} {md : Region.Mode} {S : World → Prop} {fuel : Nat} {l : Array Bool} {a : Act} {w : World} (fuel' : Nat) (l' : Array Bool) (hf : fuel = fuel') (h : l = l') (k : wpAnyH P md ops Q S fuel' l' a w) : wpAnyH P md ops Q S fuel l a w := by rw [h, hf]; exact k

/-- Which are over: all but those of rem. -/
def maskOf (n : Nat) (keep rem : List Nat) : Array Bool := ((List.range n).map fun i => !(keep.contains i || rem.contains i)).toArray

theorem wpAnyH_bag {P : Program} {ops : Array Oper} {Q : Exit → Act → World → Prop} {md : Region.Mode} {S : World → Prop} {a : Act} (n : Nat) (keep : List Nat) (subs : List (List Nat)) (fuel : Nat) (Inv : List Nat → World → Prop)
    (hstep : ∀ rem ∈ subs, ∀ W i, i ∈ rem → S W → Inv rem W → wpOp P ops Q i (fun a' w' => a' = a ∧ S w' ∧ Inv (rem.erase i) w') a W)
    (hready : ∀ rem ∈ subs, rem ≠ [] → Region.ready md ops (maskOf n keep rem) = rem)
    (hmask : ∀ rem ∈ subs, ∀ i ∈ rem, (maskOf n keep rem).setIfInBounds i true = maskOf n keep (rem.erase i))
    (hsubs : ∀ rem ∈ subs, ∀ i ∈ rem, rem.erase i ∈ subs)
    (hend : ∀ W, S W → Inv [] W → wpAnyH P md ops Q S fuel (maskOf n keep []) a W) :
    ∀ (m : Nat) (rem : List Nat), rem.length = m → rem ∈ subs → ∀ W, S W → Inv rem W → wpAnyH P md ops Q S (fuel + m) (maskOf n keep rem) a W := by
  intro m
  induction m with
  | zero =>
    intro rem hl hs W hS hI
    obtain rfl : rem = [] := List.length_eq_zero_iff.1 hl
    exact hend W hS hI
  | succ m ih =>
    intro rem hl hs W hS hI
    have hne : rem ≠ [] := by rintro rfl; simp at hl
    refine wpAnyH_ready (fuel := fuel + m) (hready rem hs hne) hne ?_
    intro i hi
    refine wpOp_mono ?_ (hstep rem hs W i hi hS hI)
    rintro a' w' ⟨rfl, hS', hI'⟩
    refine ⟨hS', ?_⟩
    rw [hmask rem hs i hi]
    exact ih (rem.erase i) (by rw [List.length_erase_of_mem hi]; omega) (hsubs rem hs i hi) w' hS' hI'
/-- A method value, as a datum: its function and its receiver's block. -/
def fnElem : Value → Option (DataW Unit × List MemPlace)
  | .nilFunc => some (.nil, [])
  | .func (.func g) a c => match a.toList, c.toList with
    | [.pointer (some ⟨p, 0, none⟩)], [] => some (.agg [.lit (.int .i64 (g : Int)), .lit (.int .i64 (p : Int))], [])
    | _, _ => none
  | _ => none

def fnD : Option (Nat × Nat) → DataW Unit
  | none => .nil
  | some (g, p) => .agg [.lit (.int .i64 (g : Int)), .lit (.int .i64 (p : Int))]
def fnV : Option (Nat × Nat) → Value
  | none => .nilFunc
  | some (g, p) => .func (.func g) #[.pointer (some ⟨p, 0, none⟩)] #[]

theorem fnElem_inv {v : Value} {o : Option (Nat × Nat)} {ps : List MemPlace} (h : fnElem v = some (fnD o, ps)) : v = fnV o := by
  unfold fnElem at h
  split at h
  · cases o
    · rfl
    · simp [fnD] at h
  · rename_i g a c
    split at h
    · rename_i p ha hc
      obtain ⟨a⟩ := a
      obtain ⟨c⟩ := c
      simp only at ha hc
      subst ha
      subst hc
      cases o with
      | none => simp [fnD] at h
      | some o =>
        obtain ⟨g', p'⟩ := o
        simp [fnD] at h
        obtain ⟨⟨h1, h2⟩, _⟩ := h
        obtain rfl : g = g' := Int.ofNat_inj.1 h1
        obtain rfl : p = p' := Int.ofNat_inj.1 h2
        rfl
    · cases h
  · cases h

theorem law55 : Keyed Try.prog 55 := int_keyed Try.underlying55
theorem zero156 (w : World) : (zeroValue 156).run Try.prog w = .ok .nilFunc w := by kernel_rfl

def i64ok (x : Int) : Prop := -9223372036854775808 ≤ x ∧ x ≤ 9223372036854775807
theorem wf_of {x : Int} (h : i64ok x) : (Lit.int .i64 x).wf = true := by
  unfold i64ok at h
  simp [Lit.wf, IntKind.min, IntKind.max, IntKind.bits, IntKind.signed]
  omega

/-- Block dm is a map of N deeds. -/
def DeedM (w : World) (dm N : Nat) (f : Int → Option (Nat × Nat)) : Prop :=
  ∃ D : DataW Unit, w.ownsMap Try.prog 55 fnElem dm N D ∧ Maps.size D = N ∧ ∀ x, i64ok x → Maps.has D (.int .i64 x) = (f x).isSome ∧ D.atKey (.int .i64 x) .nil = fnD (f x)

theorem exact_of {H : Type} {w : World} {P : Program} {k : TypeId} {R : Value → Option (DataW H × List MemPlace)} {b n : Nat} {D : DataW H} (h : w.ownsMap P k R b n D) : w.ownsMap P k R b (Maps.size D) D := by
  obtain ⟨es, clock, hb, F, _, rfl⟩ := h
  refine ⟨es, clock, hb, F, ?_, rfl⟩
  simp [Maps.size, length_sorted]

theorem DeedM.made (w : World) : DeedM (w.alloc (.map #[] 0)) w.heap.size 0 (fun _ => none) :=
  ⟨.map [], World.ownsMap_made _ _ _ _, rfl, fun _ _ => ⟨rfl, rfl⟩⟩

theorem DeedM.lt {w : World} {bm N : Nat} {f : Int → Option (Nat × Nat)} (h : DeedM w bm N f) : bm < w.heap.size := by
  obtain ⟨D, h1, _⟩ := h
  exact h1.lt

theorem DeedM.kept {w w' : World} {bm N : Nat} {f : Int → Option (Nat × Nat)} {S : Nat → Prop} (h : DeedM w bm N f) (hf : Frm S w w') (hS : ¬ S bm) : DeedM w' bm N f := by
  have hlt := h.lt
  obtain ⟨D, ⟨es, clock, hb, r⟩, h2⟩ := h
  exact ⟨D, ⟨es, clock, by rw [hf.block bm hlt hS]; exact hb, r⟩, h2⟩

theorem DeedM.noCell {w : World} {bm N : Nat} {f : Int → Option (Nat × Nat)} (h : DeedM w bm N f) (o : Nat) : w.cell? ⟨bm, o, none⟩ = none := by
  obtain ⟨D, ⟨es, clock, hb, _⟩, _⟩ := h
  simp [World.cell?, hb]

theorem DeedM.ext {w : World} {bm N : Nat} {f g : Int → Option (Nat × Nat)} (h : DeedM w bm N f) (e : ∀ x, f x = g x) : DeedM w bm N g := by
  obtain ⟨D, h1, h2, h3⟩ := h
  exact ⟨D, h1, h2, fun x hx => by rw [← e x]; exact h3 x hx⟩

theorem DeedM.look {w : World} {bm N : Nat} {f : Int → Option (Nat × Nat)} (h : DeedM w bm N f) {x : Int} (hx : i64ok x) :
    (Instr.lookup 153 (.map (some bm)) (.int .i64 x) true).run Try.prog w = .ok (.tuple #[fnV (f x), .bool (f x).isSome]) w := by
  obtain ⟨D, h1, h2, h3⟩ := h
  obtain ⟨v, ps, hrun, hv⟩ := h1.look_ok law55 Try.underlying153 (zero156 w) (zd := .nil) (zp := []) rfl (keyOf_int_mk Try.underlying55 (wf_of hx))
  obtain ⟨h4, h5⟩ := h3 x hx
  rw [h5] at hv
  rw [h4] at hrun
  rw [hrun, fnElem_inv hv]

def updD (f : Int → Option (Nat × Nat)) (x : Int) (p : Option (Nat × Nat)) : Int → Option (Nat × Nat) := fun y => if y = x then p else f y

theorem DeedM.put {w : World} {bm N : Nat} {f : Int → Option (Nat × Nat)} (h : DeedM w bm N f) {x : Int} (hx : i64ok x) (hf : f x = none) (g p : Nat) (hN : N < maxLen) :
    ∃ w', (Instr.mapUpdate 153 (.map (some bm)) (.int .i64 x) (.func (.func g) #[.pointer (some ⟨p, 0, none⟩)] #[])).run Try.prog w = .ok () w' ∧ DeedM w' bm (N + 1) (updD f x (some (g, p))) ∧ Frm (fun k => k = bm) w w' := by
  obtain ⟨D, h1, h2, h3⟩ := h
  obtain ⟨w', hrun, ho, ht⟩ := h1.store law55 Try.underlying153 hN (keyOf_int_mk Try.underlying55 (wf_of hx)) (val := .func (.func g) #[.pointer (some ⟨p, 0, none⟩)] #[]) (d := fnD (some (g, p))) (ps := []) rfl
  have hg := ht.grown
  have hsz := size_put (k := .int .i64 x) (h1.tidy law55) (fnD (some (g, p)))
  rw [(h3 x hx).1, h2, hf] at hsz
  simp only [Option.isSome_none, Bool.false_eq_true, if_false] at hsz
  refine ⟨w', hrun, ⟨_, ?_, hsz, fun y hy => ?_⟩, ?_⟩
  · have := exact_of ho
    rwa [hsz] at this
  · unfold updD
    by_cases e : y = x
    · subst e
      rw [if_pos rfl, has_put_same h1.isMap (by trivial), atKey_put_same h1.isMap (by trivial)]
      exact ⟨rfl, rfl⟩
    · rw [if_neg e, has_put_other (by simpa using e), atKey_put_other (by simpa using e)]
      exact h3 y hy
  · exact Frm.grown (Frm.refl _ _) hg (fun k hk => Or.inr (by simp at hk; exact hk.symm))
end Go.Proofs.Ytpnnfkgnkalhlaa

/- A bench: made. -/
namespace Go.Proofs.Ytpnnfkgnkalhlaa
open Go.RowKit Go.Lib Go.Maps



/-- The blocks of a bench that stay. -/
structure Names where
  bb : Nat
  cm : Nat
  cn : Nat
  mm : Nat
  mn : Nat
  qm : Nat
  qn : Nat
  gm : Nat
  gn : Nat
  tm : Nat
  tn : Nat
  dm : Nat

/-- What stands: the stripes, the mark, the best, how many have arrived, at how many the gate opens, how many are taken, of how many. -/
structure St where
  L : List Int
  mr : Int
  bs : Option (Int × Int)
  ar : Int
  gt : Int
  tk : Int
  ts : Int

/-- What does an op of which kind. -/
def deedF (B : Names) (k : Int) : Option (Nat × Nat) :=
  if k = 1 then some (62, B.cm) else if k = 2 then some (49, B.mm) else if k = 3 then some (53, B.qm) else if k = 4 then some (50, B.gm) else if k = 5 then some (51, B.tm) else none

/-- A bench, its blocks told apart by tags: 1 the count, 2 the mark, 3 the best, 4 the gate, 5 the tickets, 6 the bench itself, 7 what was offered. -/
structure BenchS (w : World) (τ : Nat → Nat) (B : Names) (p : Option Addr) (s : St) : Prop where
  c0 : w.cell? ⟨B.bb, 0, none⟩ = some (.pointer (some ⟨B.cm, 0, none⟩))
  c1 : w.cell? ⟨B.bb, 1, none⟩ = some (.pointer (some ⟨B.mm, 0, none⟩))
  c2 : w.cell? ⟨B.bb, 2, none⟩ = some (.pointer (some ⟨B.qm, 0, none⟩))
  c3 : w.cell? ⟨B.bb, 3, none⟩ = some (.pointer (some ⟨B.gm, 0, none⟩))
  c4 : w.cell? ⟨B.bb, 4, none⟩ = some (.pointer (some ⟨B.tm, 0, none⟩))
  c5 : w.cell? ⟨B.bb, 5, none⟩ = some (.map (some B.dm))
  dd : DeedM w B.dm 5 (deedF B)
  t6 : τ B.bb = 6 ∧ τ B.dm = 6
  cnt : ∃ lb sb, CountX w B.cm B.cn lb sb s.L ∧ τ lb = 1 ∧ τ sb = 1
  t1 : τ B.cm = 1 ∧ τ B.cn = 1
  mrk : MarkS w B.mm B.mn s.mr
  t2 : τ B.mm = 2 ∧ τ B.mn = 2
  bp : w.cell? ⟨B.qm, 0, none⟩ = some (.pointer (some ⟨B.qn, 0, none⟩))
  bn : ∃ t, w.heap[B.qn]? = some (.cells #[.pointer p] t (0, 0))
  bv : OffV w p s.bs
  be : B.qn ≠ B.qm
  t3 : τ B.qm = 3 ∧ τ B.qn = 3 ∧ ∀ a, p = some a → τ a.block = 7
  gte : GateS w B.gm B.gn s.gt s.ar
  t4 : τ B.gm = 4 ∧ τ B.gn = 4
  tks : TakeS w B.tm B.tn s.ts s.tk
  t5 : τ B.tm = 5 ∧ τ B.tn = 5

theorem updD_none {x y : Int} {f : Int → Option (Nat × Nat)} {o : Option (Nat × Nat)} (h : y ≠ x) : updD f x o y = f y := by simp [updD, h]

/-- The deeds that are laid: all but those of rem (by the place of their laying). -/
def laid (B : Names) (rem : List Nat) : Int → Option (Nat × Nat) := fun k =>
  if k = 1 ∧ 7 ∉ rem then some (62, B.cm) else if k = 2 ∧ 13 ∉ rem then some (49, B.mm) else if k = 3 ∧ 19 ∉ rem then some (53, B.qm) else if k = 4 ∧ 25 ∉ rem then some (50, B.gm) else if k = 5 ∧ 31 ∉ rem then some (51, B.tm) else none

/-- The subsets of the five layings. -/
def subs5 : List (List Nat) := [[], [7], [13], [19], [25], [31], [7, 13], [7, 19], [7, 25], [7, 31], [13, 19], [13, 25], [13, 31], [19, 25], [19, 31], [25, 31], [7, 13, 19], [7, 13, 25], [7, 13, 31], [7, 19, 25], [7, 19, 31], [7, 25, 31], [13, 19, 25], [13, 19, 31], [13, 25, 31], [19, 25, 31], [7, 13, 19, 25], [7, 13, 19, 31], [7, 13, 25, 31], [7, 19, 25, 31], [13, 19, 25, 31], [7, 13, 19, 25, 31]]

theorem subs_nodup : ∀ rem ∈ subs5, rem.Nodup ∧ rem.length ≤ 5 := by decide
theorem subs_erase : ∀ rem ∈ subs5, ∀ i ∈ rem, rem.erase i ∈ subs5 := by decide
theorem subs_mask : ∀ rem ∈ subs5, ∀ i ∈ rem, (maskOf 36 [32, 33, 34, 35] rem).setIfInBounds i true = maskOf 36 [32, 33, 34, 35] (rem.erase i) := by decide +kernel
theorem subs_mem : ∀ rem ∈ subs5, ∀ i ∈ rem, i = 7 ∨ i = 13 ∨ i = 19 ∨ i = 25 ∨ i = 31 := by decide
theorem subs_len {rem : List Nat} (h : rem ∈ subs5) {i : Nat} (hi : i ∈ rem) : 5 - (rem.erase i).length = 5 - rem.length + 1 := by
  have h1 := (subs_nodup rem h).2
  have h2 := List.length_erase_of_mem hi
  have h3 : 0 < rem.length := List.length_pos_of_mem hi
  omega
theorem not_erase {rem : List Nat} (h : rem ∈ subs5) (i : Nat) : i ∉ rem.erase i := fun hm => ((subs_nodup rem h).1.mem_erase_iff.1 hm).1 rfl
theorem in_erase {rem : List Nat} {i j : Nat} (hne : j ≠ i) : j ∉ rem.erase i ↔ j ∉ rem := by rw [List.mem_erase_of_ne hne]

theorem laid_all (B : Names) : ∀ k, laid B [] k = deedF B k := by intro k; simp [laid, deedF]
theorem laid_none (B : Names) : ∀ k, laid B [7, 13, 19, 25, 31] k = none := by intro k; simp [laid]

theorem laid_7 (B : Names) {rem : List Nat} (h : rem ∈ subs5) (hi : 7 ∈ rem) : laid B rem 1 = none ∧ ∀ k, updD (laid B rem) 1 (some (62, B.cm)) k = laid B (rem.erase 7) k := by
  have hn := not_erase h 7
  have e13 := in_erase (rem := rem) (i := 7) (j := 13) (by decide)
  have e19 := in_erase (rem := rem) (i := 7) (j := 19) (by decide)
  have e25 := in_erase (rem := rem) (i := 7) (j := 25) (by decide)
  have e31 := in_erase (rem := rem) (i := 7) (j := 31) (by decide)
  refine ⟨by simp [laid, hi], fun k => ?_⟩
  unfold updD laid
  by_cases hk : k = 1
  · subst hk
    simp [hn]
  · simp only [hk, if_false, false_and, hi, not_true, and_false, e13, e19, e25, e31]

theorem laid_13 (B : Names) {rem : List Nat} (h : rem ∈ subs5) (hi : 13 ∈ rem) : laid B rem 2 = none ∧ ∀ k, updD (laid B rem) 2 (some (49, B.mm)) k = laid B (rem.erase 13) k := by
  have hn := not_erase h 13
  have e7 := in_erase (rem := rem) (i := 13) (j := 7) (by decide)
  have e19 := in_erase (rem := rem) (i := 13) (j := 19) (by decide)
  have e25 := in_erase (rem := rem) (i := 13) (j := 25) (by decide)
  have e31 := in_erase (rem := rem) (i := 13) (j := 31) (by decide)
  refine ⟨by simp [laid, hi], fun k => ?_⟩
  unfold updD laid
  by_cases hk : k = 2
  · subst hk
    simp [hn]
  · simp only [hk, if_false, false_and, hi, not_true, and_false, e7, e19, e25, e31]

theorem laid_19 (B : Names) {rem : List Nat} (h : rem ∈ subs5) (hi : 19 ∈ rem) : laid B rem 3 = none ∧ ∀ k, updD (laid B rem) 3 (some (53, B.qm)) k = laid B (rem.erase 19) k := by
  have hn := not_erase h 19
  have e7 := in_erase (rem := rem) (i := 19) (j := 7) (by decide)
  have e13 := in_erase (rem := rem) (i := 19) (j := 13) (by decide)
  have e25 := in_erase (rem := rem) (i := 19) (j := 25) (by decide)
  have e31 := in_erase (rem := rem) (i := 19) (j := 31) (by decide)
  refine ⟨by simp [laid, hi], fun k => ?_⟩
  unfold updD laid
  by_cases hk : k = 3
  · subst hk
    simp [hn]
  · simp only [hk, if_false, false_and, hi, not_true, and_false, e7, e13, e25, e31]

theorem laid_25 (B : Names) {rem : List Nat} (h : rem ∈ subs5) (hi : 25 ∈ rem) : laid B rem 4 = none ∧ ∀ k, updD (laid B rem) 4 (some (50, B.gm)) k = laid B (rem.erase 25) k := by
  have hn := not_erase h 25
  have e7 := in_erase (rem := rem) (i := 25) (j := 7) (by decide)
  have e13 := in_erase (rem := rem) (i := 25) (j := 13) (by decide)
  have e19 := in_erase (rem := rem) (i := 25) (j := 19) (by decide)
  have e31 := in_erase (rem := rem) (i := 25) (j := 31) (by decide)
  refine ⟨by simp [laid, hi], fun k => ?_⟩
  unfold updD laid
  by_cases hk : k = 4
  · subst hk
    simp [hn]
  · simp only [hk, if_false, false_and, hi, not_true, and_false, e7, e13, e19, e31]

theorem laid_31 (B : Names) {rem : List Nat} (h : rem ∈ subs5) (hi : 31 ∈ rem) : laid B rem 5 = none ∧ ∀ k, updD (laid B rem) 5 (some (51, B.tm)) k = laid B (rem.erase 31) k := by
  have hn := not_erase h 31
  have e7 := in_erase (rem := rem) (i := 31) (j := 7) (by decide)
  have e13 := in_erase (rem := rem) (i := 31) (j := 13) (by decide)
  have e19 := in_erase (rem := rem) (i := 31) (j := 19) (by decide)
  have e25 := in_erase (rem := rem) (i := 31) (j := 25) (by decide)
  refine ⟨by simp [laid, hi], fun k => ?_⟩
  unfold updD laid
  by_cases hk : k = 5
  · subst hk
    simp [hn]
  · simp only [hk, if_false, false_and, hi, not_true, and_false, e7, e13, e19, e25]
end Go.Proofs.Ytpnnfkgnkalhlaa
