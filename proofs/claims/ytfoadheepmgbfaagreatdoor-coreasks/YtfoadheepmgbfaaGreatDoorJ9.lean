/- Choices of a part, their order, in plain words. -/
import Derived.Test.YtfoadheepmgbfaaGreatDoorJ8
import Derived.Test.YtfoadheepmgbfaaGreatDoorJ2
import Derived.Maps.OwnSet
import Derived.DeepKeys4
namespace Go.Proofs.YtfoadheepmgbfaaGreatDoor

/-- How far behind a number stands. -/
def rk (n : Int) : Int := if n < 0 then 18446744073709551615 else n
def cmpL : List Int → List Int → Int
  | [], [] => 0
  | [], _ :: _ => -1
  | _ :: _, [] => 1
  | x :: a, y :: b => if rk x < rk y then -1 else if rk y < rk x then 1 else cmpL a b
theorem cmpL_self : ∀ a : List Int, cmpL a a = 0
  | [] => rfl
  | x :: a => by rw [cmpL, if_neg (by omega), if_neg (by omega)]; exact cmpL_self a
theorem cmpL_cons (n : Int) (a b : List Int) : cmpL (n :: a) (n :: b) = cmpL a b := by rw [cmpL, if_neg (by omega), if_neg (by omega)]

theorem optA_sorted {f : Nat} : ∀ (L : List Off) (i : Nat), (i + L.length : Nat) < 1000000 → (optA f L i).Pairwise (fun a b => rk a.1 < rk b.1) ∧ ∀ o ∈ optA f L i, rk (i : Int) ≤ rk o.1
  | [], i, hi => by
    constructor
    · simp [optA]
    · intro o ho
      have : o = (-1, 0, f) := by simpa [optA] using ho
      subst this
      unfold rk
      simp at *
      omega
  | x :: L, i, hi => by
    have h := optA_sorted (f := f) L (i + 1) (by simp at hi; omega)
    have hr : rk (i : Int) < rk ((i + 1 : Nat) : Int) := by unfold rk; rw [if_neg (by omega), if_neg (by omega)]; omega
    rw [optA]
    split
    · refine ⟨List.pairwise_cons.2 ⟨fun o ho => ?_, h.1⟩, fun o ho => ?_⟩
      · have := h.2 o ho
        dsimp only
        omega
      · rcases List.mem_cons.1 ho with rfl | h1
        · exact Int.le_refl _
        · have := h.2 o h1
          omega
    · exact ⟨h.1, fun o ho => by have := h.2 o ho; omega⟩

theorem opts_sorted {L : List Off} {f : Nat} (h : L.length ≤ 1000) : (opts L f).Pairwise (fun a b => rk a.1 < rk b.1) := (optA_sorted L 0 (by omega)).1

theorem allC_sorted : ∀ {B : Ins} {f : Nat}, (∀ l ∈ B, l.length ≤ 1000) → (allC B f).Pairwise (fun c d => cmpL c d ≤ 0)
  | [], f, _ => by simp [allC]
  | l :: R, f, h => by
    rw [allC_cons, List.pairwise_flatMap]
    refine ⟨fun o _ => ?_, ?_⟩
    · split
      · rw [List.pairwise_map]
        exact (allC_sorted (fun x hx => h x (List.mem_cons_of_mem _ hx))).imp (fun {a b} hab => by rw [cmpL_cons]; exact hab)
      · exact List.Pairwise.nil
    · refine (opts_sorted (h l (List.mem_cons_self ..))).imp (fun {a b} hab => ?_)
      intro x hx y hy
      split at hx
      · split at hy
        · obtain ⟨c, _, rfl⟩ := List.mem_map.1 hx
          obtain ⟨d, _, rfl⟩ := List.mem_map.1 hy
          rw [cmpL, if_pos hab]
          omega
        · cases hy
      · cases hx

theorem allC_head {B : Ins} {f : Nat} (h : ∀ l ∈ B, l.length ≤ 1000) {c d : List Int} {T : List (List Int)} (e : allC B f = c :: T) (hd : d ∈ allC B f) : cmpL c d ≤ 0 := by
  have hp := allC_sorted (f := f) h
  rw [e] at hp hd
  rcases List.mem_cons.1 hd with rfl | h1
  · rw [cmpL_self]; omega
  · exact (List.pairwise_cons.1 hp).1 d h1

/-- What a choice of a part is worth, if it is one. -/
def chV : Ins → Nat → List Int → Option Int
  | [], _, [] => some 0
  | l :: R, f, n :: c => if n = -1 then chV R f c else if h : 0 ≤ n ∧ n.toNat < l.length then (if subB (l[n.toNat]'h.2).1 f then (chV R (less f (l[n.toNat]'h.2).1) c).map (fun v => (l[n.toNat]'h.2).2 + v) else none) else none
  | _, _, _ => none

theorem chV_opt {l : List Off} {R : Ins} {f : Nat} {n v : Int} {c : List Int} (h : chV (l :: R) f (n :: c) = some v) : ∃ o ∈ opts l f, o.1 = n ∧ ∃ u, chV R o.2.2 c = some u ∧ v = o.2.1 + u := by
  rw [chV] at h
  split at h
  · rename_i h1
    exact ⟨(-1, 0, f), opts_none l f, h1.symm, v, h, by dsimp only; omega⟩
  · split at h
    · rename_i h1 h2
      split at h
      · rename_i h3
        cases hc : chV R (less f (l[n.toNat]'h2.2).1) c with
        | none => rw [hc] at h; cases h
        | some u =>
          rw [hc] at h
          refine ⟨_, opts_has h2.2 h3, by dsimp only; omega, u, hc, ?_⟩
          simpa using h.symm
      · cases h
    · cases h

theorem chV_of {l : List Off} {R : Ins} {f : Nat} {o : Opt} {c : List Int} {u : Int} (ho : o ∈ opts l f) (h : chV R o.2.2 c = some u) : chV (l :: R) f (o.1 :: c) = some (o.2.1 + u) := by
  rcases opts_mem ho with rfl | ⟨j, hj, rfl, hs⟩
  · rw [chV, if_pos rfl]
    dsimp only at *
    rw [h]
    simp
  · dsimp only at *
    rw [chV, if_neg (by omega), dif_pos ⟨by omega, by simpa using hj⟩]
    simp only [Int.toNat_natCast]
    rw [if_pos hs, h]
    rfl

theorem chV_le : ∀ {B : Ins} {f : Nat} {c : List Int} {v : Int}, chV B f c = some v → v ≤ best B f
  | [], f, [], v, h => by
    have : 0 = v := by simpa [chV] using h
    rw [best_nil]
    omega
  | [], f, _ :: _, v, h => by simp [chV] at h
  | l :: R, f, [], v, h => by simp [chV] at h
  | l :: R, f, n :: c, v, h => by
    obtain ⟨o, ho, -, u, hu, rfl⟩ := chV_opt h
    have := chV_le hu
    have h2 := topL_mem (m := 0) (List.mem_map_of_mem (f := fun o : Opt => o.2.1 + best R o.2.2) ho)
    rw [best_cons]
    try dsimp only at h2
    omega

theorem chV_all : ∀ {B : Ins} {f : Nat} {c : List Int}, chV B f c = some (best B f) → c ∈ allC B f
  | [], f, [], _ => by simp [allC]
  | [], f, _ :: _, h => by simp [chV] at h
  | l :: R, f, [], h => by simp [chV] at h
  | l :: R, f, n :: c, h => by
    obtain ⟨o, ho, rfl, u, hu, e⟩ := chV_opt h
    have h1 := chV_le hu
    have h2 := topL_mem (m := 0) (List.mem_map_of_mem (f := fun o : Opt => o.2.1 + best R o.2.2) ho)
    rw [← best_cons] at h2
    try dsimp only at h2
    have e2 : u = best R o.2.2 := by omega
    subst e2
    rw [allC_cons, List.mem_flatMap]
    refine ⟨o, ho, ?_⟩
    rw [if_pos e.symm]
    exact List.mem_map_of_mem (chV_all hu)

theorem all_chV : ∀ {B : Ins} {f : Nat} {c : List Int}, c ∈ allC B f → chV B f c = some (best B f)
  | [], f, c, h => by
    have : c = [] := by simpa [allC] using h
    subst this
    rfl
  | l :: R, f, c, h => by
    rw [allC_cons, List.mem_flatMap] at h
    obtain ⟨o, ho, h⟩ := h
    split at h
    · rename_i e
      obtain ⟨d, hd, rfl⟩ := List.mem_map.1 h
      rw [chV_of ho (all_chV hd), e]
    · cases h

/-- What the statement's worth goes by: what was taken. -/
def lawW : Ins → Nat → List Int → Option Int
  | [], _, [] => some 0
  | l :: R, t, n :: c => if n < -1 ∨ (l.length : Int) ≤ n then none else if n < 0 then lawW R t c else if (l.getD n.toNat (0, 0)).1 &&& t ≠ 0 then none else (lawW R (t ||| (l.getD n.toNat (0, 0)).1) c).map (fun v => (l.getD n.toNat (0, 0)).2 + v)
  | _, _, _ => none

theorem less_less {all t g : Nat} (ha : all < 4294967296) : less all (t ||| g) = less (less all t) g := eq_of_bits (fun i => by
  rw [less_bit _ _ ha, less_bit _ _ (less_lt _ _), less_bit _ _ ha, Nat.testBit_or]
  cases all.testBit i <;> cases t.testBit i <;> cases g.testBit i <;> rfl)
theorem and_sub {all t g : Nat} (ha : all < 4294967296) (hg : g < 4294967296) (hs : Sub g all) : (g &&& t = 0) ↔ subB g (less all t) = true := by
  rw [subB_iff hg]
  constructor
  · intro h i hi
    rw [less_bit _ _ ha, hs i hi]
    have : (g &&& t).testBit i = false := by rw [h]; simp
    rw [Nat.testBit_and, hi] at this
    simp at this
    simp [this]
  · intro h
    refine eq_of_bits (fun i => ?_)
    rw [Nat.testBit_and]
    cases hi : g.testBit i with
    | false => simp
    | true =>
      have := h i hi
      rw [less_bit _ _ ha] at this
      simp at this
      simp [this.2]

theorem law_chV {all : Nat} (ha : all < 4294967296) : ∀ {B : Ins} {t : Nat} {c : List Int}, (∀ l ∈ B, OkO all l) → lawW B t c = chV B (less all t) c
  | [], t, [], _ => rfl
  | [], t, _ :: _, _ => rfl
  | l :: R, t, [], _ => rfl
  | l :: R, t, n :: c, hO => by
    have hR : ∀ l ∈ R, OkO all l := fun x hx => hO x (List.mem_cons_of_mem _ hx)
    rw [lawW, chV]
    by_cases h1 : n < -1 ∨ (l.length : Int) ≤ n
    · rw [if_pos h1, if_neg (by omega), dif_neg (by omega)]
    · rw [if_neg h1]
      by_cases h2 : n < 0
      · rw [if_pos h2, if_pos (by omega)]
        exact law_chV ha hR
      · have hn : n.toNat < l.length := by omega
        have hx := hO l (List.mem_cons_self ..) _ (List.getElem_mem hn)
        have e : l.getD n.toNat (0, 0) = l[n.toNat] := by rw [List.getD_eq_getElem?_getD, List.getElem?_eq_getElem hn]; rfl
        have hiff := and_sub (t := t) ha hx.1 ((subB_iff hx.1).1 hx.2.1)
        have hn1 : ¬ n = -1 := by omega
        rw [if_neg h2, if_neg hn1, dif_pos ⟨by omega, hn⟩, e]
        by_cases h3 : l[n.toNat].1 &&& t = 0
        · rw [if_neg (fun h => h h3), if_pos (hiff.1 h3), law_chV ha hR, less_less ha]
        · rw [if_pos h3, if_neg (fun h => h3 (hiff.2 h))]

theorem less_zero {all : Nat} (ha : all < 4294967296) : less all 0 = all := eq_of_bits (fun i => by rw [less_bit _ _ ha]; simp)
end Go.Proofs.YtfoadheepmgbfaaGreatDoor

/- What the search finds, step by step, in plain words. -/
namespace Go.Proofs.YtfoadheepmgbfaaGreatDoor

/-- What a part is worth by an option. -/
def val (R : Ins) (o : Opt) : Int := o.2.1 + best R o.2.2
/-- The greatest so far. -/
def wv (R : Ins) (p : List Opt) : Int := topL 0 (p.map (val R))
theorem wv_best (l : List Off) (R : Ins) (f : Nat) : wv R (opts l f) = best (l :: R) f := rfl
theorem wv_snoc (R : Ins) (p : List Opt) (o : Opt) : wv R (p ++ [o]) = max (wv R p) (val R o) := by
  unfold wv
  rw [List.map_append, List.map_cons, List.map_nil, topL_snoc]
theorem wv_pos (R : Ins) (p : List Opt) : 0 ≤ wv R p := topL_ge _ _
theorem wv_le {l : List Off} {R : Ins} {f : Nat} {p r : List Opt} (h : opts l f = p ++ r) : wv R p ≤ best (l :: R) f := by
  rw [← wv_best, h]
  unfold wv
  rw [List.map_append, topL_app]
  exact topL_ge _ _

/-- The bound of a part, as the search has it. -/
def bnZ (P : List Int) (all : Nat) (B : Ins) (f : Nat) : Int := cz P f + sg P all B

theorem opt_in {all : Nat} {l : List Off} {f : Nat} {o : Opt} (hl : OkO all l) (hf : f < 4294967296) (hs : Sub f all) (h : o ∈ opts l f) : o.2.2 < 4294967296 ∧ Sub o.2.2 all ∧ 0 ≤ o.2.1 ∧ o.2.1 ≤ 1099511627776 := by
  rcases opts_mem h with rfl | ⟨j, hj, rfl, hsj⟩
  · exact ⟨hf, hs, by dsimp only; omega, by dsimp only; omega⟩
  · have hx := hl l[j] (List.getElem_mem hj)
    exact ⟨less_lt _ _, less_sub hf hs, by dsimp only; omega, by dsimp only; omega⟩

theorem wv_skip {P : List Int} (hP : OkP P) {all : Nat} {R : Ins} {p : List Opt} {o : Opt} (hR : ∀ l ∈ R, OkO all l) (ho : o.2.2 < 4294967296 ∧ Sub o.2.2 all) (h : o.2.1 + bnZ P all R o.2.2 ≤ wv R p) : wv R (p ++ [o]) = wv R p := by
  have h1 := best_le hP hR ho.1 ho.2
  rw [wv_snoc]
  unfold val
  unfold bnZ at h
  omega

theorem wv_break {P : List Int} (hP : OkP P) {all : Nat} {l : List Off} {R : Ins} {f : Nat} {p r : List Opt} (hO : ∀ x ∈ l :: R, OkO all x) (hf : f < 4294967296) (hs : Sub f all) (h : opts l f = p ++ r) (hb : wv R p = bnZ P all (l :: R) f) : wv R p = best (l :: R) f := by
  have h1 := best_le hP hO hf hs
  have h2 := wv_le (R := R) h
  unfold bnZ at hb
  omega

theorem reach_is {P : List Int} (hP : OkP P) {all : Nat} {l : List Off} {R : Ins} {f : Nat} {o : Opt} (hR : ∀ l ∈ R, OkO all l) (ho : o ∈ opts l f) (hr : o.2.2 < 4294967296 ∧ Sub o.2.2 all) :
    (decide (o.2.1 + bnZ P all R o.2.2 ≥ best (l :: R) f) && decide (o.2.1 + best R o.2.2 ≥ best (l :: R) f)) = decide (o.2.1 + best R o.2.2 = best (l :: R) f) := by
  have h1 := best_le hP hR hr.1 hr.2
  have h2 := topL_mem (m := 0) (List.mem_map_of_mem (f := fun o : Opt => o.2.1 + best R o.2.2) ho)
  rw [← best_cons] at h2
  try dsimp only at h2
  unfold bnZ
  rw [← Bool.decide_and]
  refine decide_eq_decide.2 ⟨fun h => by omega, fun h => by omega⟩

/-- What is told by one option. -/
def optE (l : List Off) (R : Ins) (f : Nat) (o : Opt) : List (List Int) := if o.2.1 + best R o.2.2 = best (l :: R) f then (allC R o.2.2).map (fun c => o.1 :: c) else []
theorem allC_opts (l : List Off) (R : Ins) (f : Nat) : allC (l :: R) f = (opts l f).flatMap (optE l R f) := rfl

theorem bn_bnd {P : List Int} (hP : OkP P) {all : Nat} {B : Ins} (hO : ∀ l ∈ B, OkO all l) (hl : B.length ≤ 32) (f : Nat) : 0 ≤ bnZ P all B f ∧ bnZ P all B f ≤ 70368744177664 := by
  have h1 := cz_bnd hP f
  have h2 := sg_bnd hP (f := all) hO
  unfold bnZ
  omega

theorem sub_of_lt {f m : Nat} (hf : f < 2 ^ m) : Sub f (2 ^ m - 1) := fun i hi => by
  rw [all_bit]
  by_cases him : i < m
  · simpa using him
  · exfalso
    have := Nat.testBit_lt_two_pow (x := f) (i := i) (Nat.lt_of_lt_of_le hf (Nat.pow_le_pow_right (by decide) (by omega)))
    rw [this] at hi
    cases hi
theorem lt_of_sub {f m : Nat} (h : Sub f (2 ^ m - 1)) : f < 2 ^ m := Nat.lt_pow_two_of_testBit f (fun i hi => by
  cases e : f.testBit i with
  | false => rfl
  | true =>
    have := h i e
    rw [all_bit] at this
    simp at this
    omega)
end Go.Proofs.YtfoadheepmgbfaaGreatDoor

/- What is known of parts: a map whose keys are structs, as a function. -/
namespace Go.Proofs.YtfoadheepmgbfaaGreatDoor
open Go.RowKit Go.Lib Go.Maps

theorem laidOut_q : laidOutB Tryz.prog = true := by kernel_rfl
theorem wide_part : (match Tryz.prog.underlying 112 with | some (.array _ _) | some (.struct _) => true | _ => false) = true := by kernel_rfl
theorem row_part : (112 : TypeId) < Tryz.prog.types.size := of_decide_eq_true (by kernel_rfl)
theorem kt_part : Tryz.prog.keyTypeAt 3 112 = true := by kernel_rfl
set_option maxRecDepth 100000 in
theorem law_part : Keyed Tryz.prog 112 := Keyed.of_law (deep_law_laid laidOut_q (m := 3) (by omega) row_part kt_part wide_part)
theorem zero_i64 (w : World) : (zeroValue 2).run Tryz.prog w = .ok (.int .i64 0) w := by kernel_rfl

def i64ok (x : Int) : Prop := -9223372036854775808 ≤ x ∧ x ≤ 9223372036854775807
theorem wf_of {x : Int} (h : i64ok x) : (Lit.int .i64 x).wf = true := by
  unfold i64ok at h
  simp [Lit.wf, IntKind.min, IntKind.max, IntKind.bits, IntKind.signed]
  omega
theorem wf_u32 {x : Nat} (h : x < 4294967296) : (Lit.int .u32 (x : Int)).wf = true := by
  simp [Lit.wf, IntKind.min, IntKind.max, IntKind.bits, IntKind.signed]
  omega

/-- A part as a value. -/
def partV (k f : Nat) : Value := .agg #[.int .i64 (k : Int), .int .u32 (f : Int)]
def keyL (k f : Nat) : Lit := .string (keyBytes [.int .i64 (k : Int), .int .u32 (f : Int)])

theorem pos_q : 0 < Tryz.prog.types.size := of_decide_eq_true (by kernel_rfl)
theorem size_q : ∃ n, Tryz.prog.types.size = n + 1 := by
  have h := pos_q
  generalize Tryz.prog.types.size = s at *
  exact ⟨s - 1, by omega⟩
theorem cells_part : Tryz.prog.cellsOf 112 = 2 := by kernel_rfl
theorem cells_int : Tryz.prog.cellsOf 3 = 1 := by kernel_rfl
theorem cells_goods : Tryz.prog.cellsOf 60 = 1 := by kernel_rfl

theorem key_part {k f : Nat} (hk : k ≤ 1000) (hf : f < 4294967296) : keyOf Tryz.prog 112 (partV k f) = some (keyL k f) := by
  have h1 := wf_of (x := (k : Int)) (by unfold i64ok; omega)
  have h2 := wf_u32 hf
  have h3 : Tryz.prog.keyType 112 = true := by kernel_rfl
  obtain ⟨n, hn⟩ := size_q
  unfold keyOf partV keyL
  simp only [Tryz.underlying112]
  rw [h3, hn]
  simp [Value.formed, Tryz.underlying112, Program.keyLits, cells_part, cells_int, cells_goods, Value.cells, Tryz.underlying3, Tryz.underlying60, h1, h2]

theorem key_inj {k f k' f' : Nat} (hk : k ≤ 1000) (hf : f < 4294967296) (hk' : k' ≤ 1000) (hf' : f' < 4294967296) (h : keyL k f = keyL k' f') : k = k' ∧ f = f' := by
  have h1 := key_part hk hf
  have h2 := key_part hk' hf'
  rw [← h] at h2
  have h3 := law_part.inj h1 h2
  unfold partV at h3
  simp at h3
  exact ⟨by omega, by omega⟩
theorem key_lit (k f : Nat) : WideAt.IsKeyLit (keyL k f) := trivial

/-- The keys that there can be. -/
def grid : List (Nat × Nat) := (List.range 33).flatMap (fun k => (List.range 1024).map (fun f => (k, f)))
theorem grid_mem {k f : Nat} (hk : k ≤ 32) (hf : f < 1024) : (k, f) ∈ grid := by
  unfold grid
  rw [List.mem_flatMap]
  exact ⟨k, by simp; omega, List.mem_map.2 ⟨f, by simpa using hf, rfl⟩⟩
theorem grid_in {x : Nat × Nat} (h : x ∈ grid) : x.1 ≤ 32 ∧ x.2 < 1024 := by
  unfold grid at h
  rw [List.mem_flatMap] at h
  obtain ⟨k, hk, h⟩ := h
  obtain ⟨f, hf, rfl⟩ := List.mem_map.1 h
  simp at hk hf
  exact ⟨by dsimp only; omega, hf⟩
theorem count_le {α : Type} {p q : α → Bool} : ∀ {l : List α}, (∀ x ∈ l, q x = true → p x = true) → (l.filter q).length ≤ (l.filter p).length
  | [], _ => Nat.le_refl _
  | x :: l, h => by
    have h1 := count_le (l := l) (fun y hy => h y (List.mem_cons_of_mem _ hy))
    have h2 := h x (List.mem_cons_self ..)
    cases hq : q x <;> cases hp : p x <;> simp [hq, hp] at * <;> omega
theorem count_lt {α : Type} {p q : α → Bool} : ∀ {l : List α} {a : α}, (∀ x ∈ l, q x = true → p x = true) → a ∈ l → p a = true → q a = false → (l.filter q).length < (l.filter p).length
  | x :: l, a, h, ha, h1, h2 => by
    have hl : ∀ y ∈ l, q y = true → p y = true := fun y hy => h y (List.mem_cons_of_mem _ hy)
    rcases List.mem_cons.1 ha with rfl | ha
    · have := count_le hl
      simp [h1, h2]
      omega
    · have h3 := count_lt hl ha h1 h2
      have h4 := h x (List.mem_cons_self ..)
      cases hq : q x <;> cases hp : p x <;> simp [hq, hp] at * <;> omega

/-- How many keys are not there. -/
def noneN (D : DataW Unit) : Nat := (grid.filter (fun x => !Maps.has D (keyL x.1 x.2))).length

/-- Block mb is a map of what parts are worth. -/
def KM (B : Ins) (W : World) (mb : Nat) : Prop :=
  ∃ D : DataW Unit, W.ownsMap Tryz.prog 112 (plainElem Tryz.prog 2) mb (Maps.size D) D ∧ Maps.size D + noneN D ≤ grid.length ∧
    ∀ k f, k ≤ 32 → f < 1024 → Maps.has D (keyL k f) = true → D.atKey (keyL k f) (.lit (.int .i64 0)) = .lit (.int .i64 (best (B.drop k) f))

theorem exact_of {H : Type} {w : World} {P : Program} {k : TypeId} {R : Value → Option (DataW H × List MemPlace)} {b n : Nat} {D : DataW H} (h : w.ownsMap P k R b n D) : w.ownsMap P k R b (Maps.size D) D := by
  obtain ⟨es, clock, hb, F, _, rfl⟩ := h
  refine ⟨es, clock, hb, F, ?_, rfl⟩
  simp [Maps.size, length_sorted]

theorem KM.made (B : Ins) (w : World) : KM B (w.alloc (.map #[] 0)) w.heap.size :=
  ⟨.map [], World.ownsMap_made _ _ _ _, by
    have e : Maps.size (DataW.map [] : DataW Unit) = 0 := rfl
    have e2 := List.length_filter_le (fun x : Nat × Nat => !Maps.has (DataW.map [] : DataW Unit) (keyL x.1 x.2)) grid
    unfold noneN
    generalize grid.length = q at *
    omega, fun k f _ _ h => by cases h⟩

theorem KM.lt {B : Ins} {W : World} {mb : Nat} (h : KM B W mb) : mb < W.heap.size := by
  obtain ⟨D, h1, _⟩ := h
  exact h1.lt
theorem KM.blk {B : Ins} {W : World} {mb : Nat} (h : KM B W mb) : ∃ es c, W.heap[mb]? = some (.map es c) := by
  obtain ⟨D, ⟨es, clock, hb, _⟩, _⟩ := h
  exact ⟨es, clock, hb⟩
theorem KM.same {B : Ins} {W W' : World} {mb : Nat} (h : KM B W mb) (e : W'.heap[mb]? = W.heap[mb]?) : KM B W' mb := by
  obtain ⟨D, ⟨es, clock, hb, r⟩, h2⟩ := h
  exact ⟨D, ⟨es, clock, by rw [e]; exact hb, r⟩, h2⟩
theorem KM.kept {B : Ins} {W W' : World} {mb : Nat} {S : Nat → Prop} (h : KM B W mb) (hf : Frm S W W') (hS : ¬ S mb) : KM B W' mb := h.same (hf.block mb h.lt hS)
theorem KM.noCell {B : Ins} {W : World} {mb : Nat} (h : KM B W mb) {p : Addr} {v : Value} (hc : W.cell? p = some v) : p.block ≠ mb := fun e => by
  obtain ⟨es, c, hb⟩ := h.blk
  rw [World.cell?, e, hb] at hc
  cases hc

/-- What is looked up. -/
theorem KM.look {B : Ins} {W : World} {mb : Nat} (h : KM B W mb) {k f : Nat} (hk : k ≤ 32) (hf : f < 1024) :
    ∃ (b : Bool) (z : Int), (b = true → z = best (B.drop k) f) ∧ (b = false → z = 0) ∧ ∀ W', W'.heap[mb]? = W.heap[mb]? → (Instr.lookup 126 (.map (some mb)) (.agg #[.int .i64 (k : Int), .int .u32 (f : Int)]) true).run Tryz.prog W' = .ok (.tuple #[.int .i64 z, .bool b]) W' := by
  obtain ⟨D, h1, h2, h3⟩ := h
  refine ⟨Maps.has D (keyL k f), if Maps.has D (keyL k f) then best (B.drop k) f else 0, fun e => by rw [if_pos e], fun e => by rw [if_neg (by rw [e]; simp)], fun W' hW' => ?_⟩
  have h1 : W'.ownsMap Tryz.prog 112 (plainElem Tryz.prog 2) mb (Maps.size D) D := by
    obtain ⟨es, clock, hb, r⟩ := h1
    exact ⟨es, clock, by rw [hW']; exact hb, r⟩
  show (Instr.lookup 126 (.map (some mb)) (partV k f) true).run Tryz.prog W' = _
  obtain ⟨v, ps, hrun, hv⟩ := h1.look_ok law_part Tryz.underlying126 (zero_i64 W') (plainElem_int Tryz.underlying2 (by decide)) (key_part (k := k) (f := f) (by omega) (by omega))
  rw [hrun]
  cases hb : Maps.has D (keyL k f)
  · rw [atKey_of_not_has hb] at hv
    obtain ⟨c, rfl, hc, hwc⟩ := plainElem_int_inv Tryz.underlying2 hv
    simp only [Prod.mk.injEq, DataW.lit.injEq, Lit.int.injEq, true_and] at hc
    rw [← hc.1]
    rfl
  · rw [h3 k f hk hf hb] at hv
    obtain ⟨c, rfl, hc, hwc⟩ := plainElem_int_inv Tryz.underlying2 hv
    simp only [Prod.mk.injEq, DataW.lit.injEq, Lit.int.injEq, true_and] at hc
    rw [← hc.1]
    rfl

/-- One more is known. -/
theorem KM.put {B : Ins} {W : World} {mb : Nat} (h : KM B W mb) {k f : Nat} (hk : k ≤ 32) (hf : f < 1024) (hb : i64ok (best (B.drop k) f)) :
    ∃ W', (Instr.mapUpdate 126 (.map (some mb)) (.agg #[.int .i64 (k : Int), .int .u32 (f : Int)]) (.int .i64 (best (B.drop k) f))).run Tryz.prog W = .ok () W' ∧ KM B W' mb ∧ Frm (fun k => k = mb) W W' := by
  obtain ⟨D, h1, h2, h3⟩ := h
  have hgl : grid.length = 33792 := by decide +kernel
  have hN : Maps.size D < maxLen := by unfold maxLen; omega
  obtain ⟨W', hrun, ho, ht⟩ := h1.store law_part Tryz.underlying126 hN (key_part (k := k) (f := f) (by omega) (by omega)) (plainElem_int Tryz.underlying2 (wf_of hb))
  refine ⟨W', hrun, ⟨_, exact_of ho, ?_, fun k' f' hk' hf' hh => ?_⟩, Frm.grown (Frm.refl _ _) ht.grown (fun q hq => Or.inr (by simp at hq; exact hq.symm))⟩
  · rw [size_put (h1.tidy law_part)]
    have hle : ∀ x ∈ grid, (!Maps.has (D.put (keyL k f) (.lit (.int .i64 (best (B.drop k) f)))) (keyL x.1 x.2)) = true → (!Maps.has D (keyL x.1 x.2)) = true := fun x hx hq => by
      by_cases e : keyL x.1 x.2 = keyL k f
      · rw [e, has_put_same h1.isMap (key_lit k f)] at hq
        cases hq
      · rw [has_put_other e] at hq
        exact hq
    cases hb' : Maps.has D (keyL k f)
    · rw [if_neg (by simp)]
      have := count_lt hle (grid_mem hk hf) (by simp [hb']) (by simp [has_put_same h1.isMap (key_lit k f)])
      unfold noneN at *
      omega
    · rw [if_pos rfl]
      have := count_le hle
      unfold noneN at *
      omega
  · by_cases e : keyL k' f' = keyL k f
    · obtain ⟨rfl, rfl⟩ := key_inj (by omega) (by omega) (by omega) (by omega) e
      exact atKey_put_same h1.isMap (key_lit _ _) _ _
    · rw [has_put_other e] at hh
      rw [atKey_put_other e]
      exact h3 k' f' hk' hf' hh
end Go.Proofs.YtfoadheepmgbfaaGreatDoor
