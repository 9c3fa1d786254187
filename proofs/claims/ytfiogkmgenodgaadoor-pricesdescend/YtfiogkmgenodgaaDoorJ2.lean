/- What prices say, in whole numbers: no choice is worth more than the bound. -/
import Derived.Test.YtfiogkmgenodgaaDoorR4
import Derived.Test.YtfiogkmgenodgaaDoorD0
namespace Go.Proofs.YtfiogkmgenodgaaDoor
open Go.RowKit

/-- The sum of the first n. -/
def S (F : Nat → Int) : Nat → Int
  | 0 => 0
  | n + 1 => S F n + F n

theorem S_mono {F G : Nat → Int} : ∀ {n : Nat}, (∀ i, i < n → F i ≤ G i) → S F n ≤ S G n
  | 0, _ => Int.le_refl _
  | n + 1, h => by
    have h1 := S_mono (n := n) (fun i hi => h i (by omega))
    have h2 := h n (by omega)
    show S F n + F n ≤ S G n + G n
    omega
theorem S_congr {F G : Nat → Int} {n : Nat} (h : ∀ i, i < n → F i = G i) : S F n = S G n :=
  Int.le_antisymm (S_mono (fun i hi => Int.le_of_eq (h i hi))) (S_mono (fun i hi => Int.le_of_eq (h i hi).symm))
theorem S_add {F G : Nat → Int} : ∀ {n : Nat}, S (fun i => F i + G i) n = S F n + S G n
  | 0 => rfl
  | n + 1 => by
    have h1 := S_add (F := F) (G := G) (n := n)
    show S (fun i => F i + G i) n + (F n + G n) = (S F n + F n) + (S G n + G n)
    omega
theorem S_bnd {F : Nat → Int} {M : Int} : ∀ {n : Nat}, (∀ i, i < n → 0 ≤ F i ∧ F i ≤ M) → 0 ≤ S F n ∧ S F n ≤ M * (n : Int)
  | 0, _ => ⟨Int.le_refl _, by simp [S]⟩
  | n + 1, h => by
    have h1 := S_bnd (n := n) (fun i hi => h i (by omega))
    have h2 := h n (by omega)
    have e : M * ((n + 1 : Nat) : Int) = M * (n : Int) + M := by rw [Int.natCast_add, Int.mul_add]; simp
    rw [e]
    show 0 ≤ S F n + F n ∧ S F n + F n ≤ _
    omega

def OkP (P : List Int) : Prop := ∀ v ∈ P, 0 ≤ v ∧ v ≤ 1099511627776
theorem OkP.get {P : List Int} (h : OkP P) (g : Nat) : 0 ≤ P.getD g 0 ∧ P.getD g 0 ≤ 1099511627776 := by
  rw [List.getD_eq_getElem?_getD]
  by_cases hg : g < P.length
  · rw [List.getElem?_eq_getElem hg]
    exact h _ (List.getElem_mem hg)
  · rw [List.getElem?_eq_none (by omega)]
    decide

/-- A good's share of what a set costs. -/
def cf (P : List Int) (g i : Nat) : Int := if g.testBit i then P.getD i 0 else 0
theorem cf_bnd {P : List Int} (h : OkP P) (g i : Nat) : 0 ≤ cf P g i ∧ cf P g i ≤ 1099511627776 := by
  have := h.get i
  unfold cf
  split
  · exact this
  · omega
/-- What a set costs, in whole numbers. -/
def cz (P : List Int) (g : Nat) : Int := S (cf P g) 32
theorem cz_bnd {P : List Int} (h : OkP P) (g : Nat) : 0 ≤ cz P g ∧ cz P g ≤ 35184372088832 := by
  have := S_bnd (F := cf P g) (M := 1099511627776) (n := 32) (fun i _ => cf_bnd h g i)
  unfold cz
  omega

theorem wrap_id {x : Int} (h : -9223372036854775808 ≤ x ∧ x ≤ 9223372036854775807) : wrap64 x = x := by unfold wrap64; omega

theorem cost_S {P : List Int} (h : OkP P) (g : Nat) : ∀ n, n ≤ 32 → costF P 0 ((goodsN g n).filter (fun i => decide (i < P.length))) = S (cf P g) n
  | 0, _ => rfl
  | n + 1, hn => by
    have ih := cost_S h g n (by omega)
    have hb := S_bnd (F := cf P g) (M := 1099511627776) (n := n) (fun i _ => cf_bnd h g i)
    have hg := h.get n
    have hcf : cf P g n = if g.testBit n then P.getD n 0 else 0 := rfl
    have hS : S (cf P g) (n + 1) = S (cf P g) n + cf P g n := rfl
    rw [goodsN_succ, List.filter_append, hS]
    generalize S (cf P g) n = s at *
    cases ht : g.testBit n
    · rw [ht] at hcf
      rw [hcf]
      simp only [Bool.false_eq_true, if_false, List.filter_nil, List.append_nil, ih, Int.add_zero]
    · rw [ht] at hcf
      simp only [if_true] at hcf ⊢
      by_cases hl : n < P.length
      · have e : [n].filter (fun i => decide (i < P.length)) = [n] := by simp [hl]
        rw [e, costF_snoc, ih, hcf, wrap_id]
        have : (1099511627776 : Int) * (n : Int) ≤ 1099511627776 * 32 := by omega
        omega
      · have e : [n].filter (fun i => decide (i < P.length)) = [] := by simp; omega
        have e2 : P.getD n 0 = 0 := by rw [List.getD_eq_getElem?_getD, List.getElem?_eq_none (by omega)]; rfl
        rw [e, List.append_nil, ih, hcf, e2, Int.add_zero]

theorem cost_cz {P : List Int} (h : OkP P) (g : Nat) : costZ P g = cz P g := cost_S h g 32 (Nat.le_refl _)

theorem cz_mono {P : List Int} (h : OkP P) {f g : Nat} (hs : Sub f g) : cz P f ≤ cz P g := S_mono (fun i _ => by
  have h1 := cf_bnd h g i
  unfold cf at *
  cases hf : f.testBit i
  · simp only [Bool.false_eq_true, if_false]
    exact h1.1
  · rw [hs i hf]
    exact Int.le_refl _)
theorem cz_or {P : List Int} {a s : Nat} (h : a &&& s = 0) : cz P (a ||| s) = cz P a + cz P s := by
  unfold cz
  rw [← S_add]
  apply S_congr
  intro i _
  have hb : (a.testBit i && s.testBit i) = false := by rw [← Nat.testBit_and, h, Nat.zero_testBit]
  show cf P (a ||| s) i = cf P a i + cf P s i
  unfold cf
  rw [Nat.testBit_or]
  cases ha : a.testBit i <;> cases hs : s.testBit i
  · simp
  · simp
  · simp
  · rw [ha, hs] at hb
    cases hb
theorem S_zero : ∀ n, S (fun _ => 0) n = 0
  | 0 => rfl
  | n + 1 => by show S (fun _ => 0) n + 0 = 0; rw [S_zero n]; rfl
theorem cz_zero (P : List Int) : cz P 0 = 0 := by
  unfold cz
  rw [← S_zero 32]
  exact S_congr (fun i _ => by unfold cf; simp)

/-- Offers that may be, of these goods. -/
def OkO (all : Nat) (L : List Off) : Prop := ∀ x ∈ L, x.1 < 4294967296 ∧ subB x.1 all = true ∧ 1 ≤ x.2 ∧ x.2 ≤ 1099511627776

theorem gain_spec {P : List Int} (hP : OkP P) (f : Nat) : ∀ (L : List Off) (i : Nat) (v a : Int), (∀ x ∈ L, 1 ≤ x.2 ∧ x.2 ≤ 1099511627776) → 0 ≤ v → v ≤ 1099511627776 →
    v ≤ (gainA P f L i v a).1 ∧ (gainA P f L i v a).1 ≤ 1099511627776 ∧ (∀ x ∈ L, subB x.1 f = true → x.2 - cz P x.1 ≤ (gainA P f L i v a).1) ∧ ((gainA P f L i v a).1 = v ∨ ∃ x ∈ L, subB x.1 f = true ∧ (gainA P f L i v a).1 = x.2 - cz P x.1)
  | [], i, v, a, _, h0, h1 => ⟨Int.le_refl _, h1, fun x hx => by simp at hx, Or.inl rfl⟩
  | x :: r, i, v, a, hL, h0, h1 => by
    have hx := hL x (by simp)
    have hc := cz_bnd hP x.1
    have hw : wrap64 (x.2 - costZ P x.1) = x.2 - cz P x.1 := by rw [cost_cz hP, wrap_id (by omega)]
    rw [gainA, hw]
    split
    · rename_i h
      have ih := gain_spec hP f r (i + 1) (x.2 - cz P x.1) i (fun y hy => hL y (by simp [hy])) (by omega) (by omega)
      refine ⟨by omega, ih.2.1, fun y hy hs => ?_, Or.inr ?_⟩
      · rcases List.mem_cons.1 hy with rfl | hy
        · exact ih.1
        · exact ih.2.2.1 y hy hs
      · rcases ih.2.2.2 with e | ⟨y, hy, hs, e⟩
        · exact ⟨x, by simp, h.1, e⟩
        · exact ⟨y, by simp [hy], hs, e⟩
    · rename_i h
      have ih := gain_spec hP f r (i + 1) v a (fun y hy => hL y (by simp [hy])) h0 h1
      refine ⟨ih.1, ih.2.1, fun y hy hs => ?_, ?_⟩
      · rcases List.mem_cons.1 hy with rfl | hy
        · have : ¬ y.2 - cz P y.1 > v := fun e => h ⟨hs, e⟩
          omega
        · exact ih.2.2.1 y hy hs
      · rcases ih.2.2.2 with e | ⟨y, hy, hs, e⟩
        · exact Or.inl e
        · exact Or.inr ⟨y, by simp [hy], hs, e⟩

/-- What a list gains. -/
def gv (P : List Int) (f : Nat) (L : List Off) : Int := (gainZ P f L).1

theorem gv_bnd {P : List Int} (hP : OkP P) {f all : Nat} {L : List Off} (hL : OkO all L) : 0 ≤ gv P f L ∧ gv P f L ≤ 1099511627776 := by
  have := gain_spec hP f L 0 0 (-1) (fun x hx => (hL x hx).2.2) (by omega) (by omega)
  exact ⟨this.1, this.2.1⟩
theorem gv_ge {P : List Int} (hP : OkP P) {f all : Nat} {L : List Off} (hL : OkO all L) {x : Off} (hx : x ∈ L) (hs : subB x.1 f = true) : x.2 ≤ cz P x.1 + gv P f L := by
  have := (gain_spec hP f L 0 0 (-1) (fun x hx => (hL x hx).2.2) (by omega) (by omega)).2.2.1 x hx hs
  unfold gv gainZ
  omega
theorem gv_mono {P : List Int} (hP : OkP P) {f g all : Nat} {L : List Off} (hL : OkO all L) (hs : Sub f g) : gv P f L ≤ gv P g L := by
  rcases (gain_spec hP f L 0 0 (-1) (fun x hx => (hL x hx).2.2) (by omega) (by omega)).2.2.2 with e | ⟨x, hx, hxs, e⟩
  · have := (gv_bnd hP (f := g) hL).1
    unfold gv gainZ at *
    omega
  · have h1 := hL x hx
    have h2 : subB x.1 g = true := (subB_iff h1.1).2 (fun i hi => hs i ((subB_iff h1.1).1 hxs i hi))
    have := gv_ge hP hL hx h2
    unfold gv gainZ at *
    omega

/-- What all gain. -/
def sg (P : List Int) (f : Nat) : Ins → Int
  | [] => 0
  | l :: r => gv P f l + sg P f r

theorem sg_bnd {P : List Int} (hP : OkP P) {f all : Nat} : ∀ {B : Ins}, (∀ l ∈ B, OkO all l) → 0 ≤ sg P f B ∧ sg P f B ≤ 1099511627776 * (B.length : Int)
  | [], _ => by simp [sg]
  | l :: r, h => by
    have h1 := sg_bnd (f := f) hP (B := r) (fun l hl => h l (by simp [hl]))
    have h2 := gv_bnd hP (f := f) (h l (by simp))
    have e : (1099511627776 : Int) * ((l :: r).length : Int) = 1099511627776 * (r.length : Int) + 1099511627776 := by simp; omega
    rw [e]
    show 0 ≤ gv P f l + sg P f r ∧ gv P f l + sg P f r ≤ _
    omega

theorem boundA_eq {P : List Int} (hP : OkP P) {f all : Nat} : ∀ {B : Ins} {s : Int}, (∀ l ∈ B, OkO all l) → B.length ≤ 64 → 0 ≤ s → s ≤ 35184372088832 + 1099511627776 * (64 - (B.length : Int)) → boundA P f B s = s + sg P f B
  | [], s, _, _, _, _ => by simp [boundA, sg]
  | l :: r, s, h, hb, h0, h1 => by
    have h2 := gv_bnd hP (f := f) (h l (by simp))
    have hlen : ((l :: r).length : Int) = (r.length : Int) + 1 := by simp
    have hw : wrap64 (s + (gainZ P f l).1) = s + gv P f l := wrap_id (by
      show -9223372036854775808 ≤ s + gv P f l ∧ s + gv P f l ≤ 9223372036854775807
      simp at hb
      omega)
    rw [boundA, hw, boundA_eq hP (B := r) (fun l hl => h l (by simp [hl])) (by simp at hb; omega) (by omega) (by omega)]
    show _ = s + (gv P f l + sg P f r)
    omega

theorem boundZ_eq {P : List Int} (hP : OkP P) {f all : Nat} {B : Ins} (h : ∀ l ∈ B, OkO all l) (hb : B.length ≤ 64) : boundZ P f B = cz P f + sg P f B := by
  have hc := cz_bnd hP f
  unfold boundZ
  rw [cost_cz hP, boundA_eq hP h hb hc.1 (by omega)]

theorem sg_mono {P : List Int} (hP : OkP P) {f g all : Nat} (hs : Sub f g) : ∀ {B : Ins}, (∀ l ∈ B, OkO all l) → sg P f B ≤ sg P g B
  | [], _ => Int.le_refl _
  | l :: r, h => by
    have h1 := sg_mono hP hs (B := r) (fun l hl => h l (by simp [hl]))
    have h2 := gv_mono hP (h l (by simp)) hs
    show gv P f l + sg P f r ≤ gv P g l + sg P g r
    omega

/-- With fewer free goods the bound is not greater. -/
theorem bound_mono {P : List Int} (hP : OkP P) {f g all : Nat} {B : Ins} (hs : Sub f g) (h : ∀ l ∈ B, OkO all l) (hb : B.length ≤ 64) : boundZ P f B ≤ boundZ P g B := by
  rw [boundZ_eq hP h hb, boundZ_eq hP h hb]
  have h1 := cz_mono hP hs
  have h2 := sg_mono hP hs h
  omega

/-- With a buyer fewer likewise. -/
theorem bound_drop {P : List Int} (hP : OkP P) {f all : Nat} {B : Ins} {k : Nat} (hk : k < B.length) (h : ∀ l ∈ B, OkO all l) (hb : B.length ≤ 64) : boundZ P f (B.drop (k + 1)) ≤ boundZ P f (B.drop k) := by
  have h1 : ∀ l ∈ B.drop k, OkO all l := fun l hl => h l (List.mem_of_mem_drop hl)
  have h2 : ∀ l ∈ B.drop (k + 1), OkO all l := fun l hl => h l (List.mem_of_mem_drop hl)
  rw [boundZ_eq hP h1 (by simp; omega), boundZ_eq hP h2 (by simp; omega), List.drop_eq_getElem_cons hk]
  have := gv_bnd hP (f := f) (h B[k] (List.getElem_mem hk))
  show cz P f + sg P f (B.drop (k + 1)) ≤ cz P f + (gv P f B[k] + sg P f (B.drop (k + 1)))
  omega

/-- Sets that are apart cost together what each costs. -/
theorem apF_cz {P : List Int} : ∀ {l : List Nat} {a b : Nat}, apF l a = some b → cz P b = cz P a + (l.map (cz P)).sum
  | [], a, b, h => by
    simp only [apF, Option.some.injEq] at h
    subst h
    simp
  | s :: r, a, b, h => by
    rw [apF] at h
    split at h
    · rename_i h1
      have := apF_cz (P := P) h
      rw [this, cz_or h1]
      simp only [List.map_cons, List.sum_cons]
      omega
    · cases h
theorem apF_sub {all : Nat} : ∀ {l : List Nat} {a b : Nat}, apF l a = some b → Sub a all → (∀ s ∈ l, Sub s all) → Sub b all
  | [], a, b, h, ha, _ => by
    simp only [apF, Option.some.injEq] at h
    subst h
    exact ha
  | s :: r, a, b, h, ha, hl => by
    rw [apF] at h
    split at h
    · refine apF_sub h (fun i hi => ?_) (fun t ht => hl t (by simp [ht]))
      rw [Nat.testBit_or, Bool.or_eq_true] at hi
      rcases hi with hi | hi
      · exact ha i hi
      · exact hl s (by simp) i hi
    · cases h

/-- What is picked is worth at most what it costs, and what its buyers gain. -/
theorem picks_le {P : List Int} (hP : OkP P) {all : Nat} : ∀ {B : Ins} {R : List Off}, (∀ l ∈ B, OkO all l) → R.length = B.length → (∀ i (h : i < R.length) (h2 : i < B.length), R[i] = (0, 0) ∨ R[i] ∈ B[i]) → sumO R ≤ ((gsets R).map (cz P)).sum + sg P all B
  | [], [], _, _, _ => by simp [sumO, gsets, sg]
  | [], x :: r, _, h, _ => by simp at h
  | l :: B, [], _, h, _ => by simp at h
  | l :: B, x :: r, hB, hlen, h => by
    have ih := picks_le hP (B := B) (R := r) (fun l hl => hB l (by simp [hl])) (by simpa using hlen) (fun i h1 h2 => by
      have := h (i + 1) (by simp; omega) (by simp; omega)
      simpa using this)
    have h0 := h 0 (by simp) (by simp)
    simp only [List.getElem_cons_zero] at h0
    have hl := hB l (by simp)
    have hg := gv_bnd hP (f := all) hl
    have hx : x.2 ≤ cz P x.1 + gv P all l := by
      rcases h0 with rfl | hx
      · rw [cz_zero]
        show (0 : Int) ≤ 0 + gv P all l
        omega
      · exact gv_ge hP hl hx (hl x hx).2.1
    show x.2 + sumO r ≤ ((x.1 :: gsets r).map (cz P)).sum + (gv P all l + sg P all B)
    simp only [List.map_cons, List.sum_cons]
    omega
end Go.Proofs.YtfiogkmgenodgaaDoor

/- What follows for an instance that may be. -/
namespace Go.Proofs.YtfiogkmgenodgaaDoor
open Go.RowKit

theorem ok_of {gd : Int} {B : Ins} (h : insZ gd B = 0) (hlt : ∀ l ∈ B, ∀ x ∈ l, x.1 < 4294967296) : B.length ≤ 32 ∧ ∀ l ∈ B, OkO (2 ^ gd.toNat - 1) l := by
  obtain ⟨-, h1, h2⟩ := check_ok (ins_check h)
  refine ⟨h1, fun l hl x hx => ⟨hlt l hl x hx, ?_⟩⟩
  have := (h2 l hl).2 x hx
  unfold okB at this
  simp only [Bool.and_eq_true, decide_eq_true_eq] at this
  exact ⟨this.2.1, this.2.2.1, this.2.2.2⟩

theorem cho_ok {gd : Int} {B : Ins} {c : List Int} (hi : insZ gd B = 0) (h : choE gd B c = 0) : c.length = B.length ∧ (∀ i, i < c.length → (pkA B c i).isSome = true) ∧ ∃ a, apF (gsets (row B c)) 0 = some a := by
  unfold choE at h
  rw [if_neg (by simp [ins_check hi])] at h
  split at h
  · cases h
  · rename_i h1
    split at h
    · rename_i h2
      split at h
      · rename_i h3
        refine ⟨Classical.not_not.1 h1, h2, ?_⟩
        unfold apZ at h3
        cases ha : apF (gsets (row B c)) 0 with
        | some a => exact ⟨a, rfl⟩
        | none => rw [ha] at h3; cases h3
      · cases h
    · cases h

/-- By any prices no choice is worth more than the bound. -/
theorem hold_choice {gd : Int} {B : Ins} {c P : List Int} (hi : insZ gd B = 0) (hlt : ∀ l ∈ B, ∀ x ∈ l, x.1 < 4294967296) (hP : OkP P) (h : choE gd B c = 0) : worthZ gd B c ≤ boundZ P (2 ^ gd.toNat - 1) B := by
  obtain ⟨hB, hO⟩ := ok_of hi hlt
  obtain ⟨hl, hp, a, ha⟩ := cho_ok hi h
  rw [worthZ, if_pos h, boundZ_eq hP hO (by omega)]
  have hrow : ∀ i (h : i < (row B c).length) (h2 : i < B.length), (row B c)[i] = (0, 0) ∨ (row B c)[i] ∈ B[i] := fun i h1 h2 => by
    have hic : i < c.length := by rw [row_len] at h1; exact h1
    rw [row_get]
    obtain ⟨x, hx⟩ := Option.isSome_iff_exists.1 (hp i hic)
    rw [hx]
    have := pick_mem (l := B.getD i []) (n := c.getD i 0) (x := x) hx
    rcases this with e | e
    · exact Or.inl e
    · right
      rw [List.getD_eq_getElem?_getD, List.getElem?_eq_getElem h2] at e
      exact e
  have h1 := picks_le hP hO (by rw [row_len]; exact hl) hrow
  have h2 := apF_cz (P := P) ha
  have hsub : Sub a (2 ^ gd.toNat - 1) := by
    refine apF_sub ha (fun i hi => by simp at hi) (fun s hs => ?_)
    obtain ⟨x, hx, rfl⟩ := List.mem_map.1 hs
    obtain ⟨i, hi1, rfl⟩ := List.getElem_of_mem hx
    rcases hrow i hi1 (by rw [row_len] at hi1; omega) with e | e
    · rw [e]
      intro j hj
      simp at hj
    · have := hO _ (List.getElem_mem (by rw [row_len] at hi1; omega)) _ e
      exact (subB_iff this.1).1 this.2.1
  have h3 := cz_mono hP hsub
  rw [cz_zero] at h2
  omega

theorem gainA_congr {P Q : List Int} {f : Nat} : ∀ {L : List Off} {i : Nat} {v a : Int}, (∀ x ∈ L, costZ P x.1 = costZ Q x.1) → gainA P f L i v a = gainA Q f L i v a
  | [], _, _, _, _ => rfl
  | x :: r, i, v, a, h => by
    rw [gainA, gainA, h x (by simp)]
    split
    · exact gainA_congr (fun y hy => h y (by simp [hy]))
    · exact gainA_congr (fun y hy => h y (by simp [hy]))
theorem boundA_congr {P Q : List Int} {f : Nat} : ∀ {B : Ins} {s : Int}, (∀ l ∈ B, ∀ x ∈ l, costZ P x.1 = costZ Q x.1) → boundA P f B s = boundA Q f B s
  | [], _, _ => rfl
  | l :: r, s, h => by
    have e : gainZ P f l = gainZ Q f l := gainA_congr (h l (by simp))
    rw [boundA, boundA, e]
    exact boundA_congr (fun y hy => h y (by simp [hy]))

theorem all_bit {m i : Nat} : (2 ^ m - 1).testBit i = decide (i < m) := Nat.testBit_two_pow_sub_one m i

/-- Prices that are the same for the first m goods. -/
theorem bound_congr {P Q : List Int} (hP : OkP P) (hQ : OkP Q) {m : Nat} {B : Ins} (h : ∀ i, i < m → P.getD i 0 = Q.getD i 0) (hO : ∀ l ∈ B, OkO (2 ^ m - 1) l) : boundZ P (2 ^ m - 1) B = boundZ Q (2 ^ m - 1) B := by
  have key : ∀ g, Sub g (2 ^ m - 1) → costZ P g = costZ Q g := fun g hg => by
    rw [cost_cz hP, cost_cz hQ]
    unfold cz
    apply S_congr
    intro i _
    unfold cf
    cases hb : g.testBit i
    · rfl
    · have := hg i hb
      rw [all_bit, decide_eq_true_eq] at this
      simp only [if_true]
      exact h i this
  unfold boundZ
  rw [key _ (fun i hi => hi)]
  exact boundA_congr (fun l hl x hx => key _ ((subB_iff (hO l hl x hx).1).1 (hO l hl x hx).2.1))

/-- The greatest coins of each list, together. -/
def sw : Ins → Int
  | [] => 0
  | l :: r => (wZ 4294967295 l).1 + sw r
theorem sw_take {B : Ins} : ∀ {k : Nat} (h : k < B.length), sw (B.take (k + 1)) = sw (B.take k) + (wZ 4294967295 B[k]).1 := by
  induction B with
  | nil => intro k h; simp at h
  | cons l r ih =>
    intro k h
    cases k with
    | zero => simp [sw]
    | succ k =>
      have := ih (k := k) (by simpa using h)
      simp only [List.take_succ_cons, List.getElem_cons_succ]
      show (wZ 4294967295 l).1 + sw (r.take (k + 1)) = (wZ 4294967295 l).1 + sw (r.take k) + _
      rw [this]
      omega

theorem zero_ok (m : Nat) : OkP (List.replicate m 0) := fun v hv => by
  rw [List.mem_replicate] at hv
  omega
theorem zero_get (m i : Nat) : (List.replicate m (0 : Int)).getD i 0 = 0 := by
  rw [List.getD_eq_getElem?_getD, List.getElem?_replicate]
  split <;> rfl
theorem zero_cz (m g : Nat) : cz (List.replicate m 0) g = 0 := by
  unfold cz
  refine Eq.trans (S_congr (G := fun _ => 0) (fun i _ => ?_)) (S_zero 32)
  unfold cf
  rw [zero_get]
  simp
theorem sub_all32 {a : Nat} (h : a < 4294967296) : subB a 4294967295 = true := by
  rw [subB_iff h]
  intro i hi
  have h1 := bit_lt h hi
  rw [show (4294967295 : Nat) = 2 ^ 32 - 1 by decide, Nat.testBit_two_pow_sub_one]
  simpa using h1

theorem gain_zero {m all : Nat} : ∀ {L : List Off} {i : Nat} {v a : Int}, OkO all L → gainA (List.replicate m 0) all L i v a = wA 4294967295 L i v a
  | [], _, _, _, _ => rfl
  | x :: r, i, v, a, h => by
    have hx := h x (by simp)
    have hw : wrap64 (x.2 - costZ (List.replicate m 0) x.1) = x.2 := by rw [cost_cz (zero_ok m), zero_cz, Int.sub_zero, wrap_id (by omega)]
    have ih : ∀ {i v a}, gainA (List.replicate m 0) all r i v a = wA 4294967295 r i v a := fun {i v a} => gain_zero (fun y hy => h y (by simp [hy]))
    rw [gainA, wA, hw, hx.2.1, sub_all32 hx.1]
    by_cases hv : x.2 > v
    · rw [if_pos ⟨rfl, hv⟩, if_pos ⟨hv, rfl⟩, ih]
    · rw [if_neg (fun e => hv e.2), if_neg (fun e => hv e.1), ih]

theorem sg_sw {m all : Nat} : ∀ {B : Ins}, (∀ l ∈ B, OkO all l) → sg (List.replicate m 0) all B = sw B
  | [], _ => rfl
  | l :: r, h => by
    show gv (List.replicate m 0) all l + _ = _
    rw [sg_sw (fun l hl => h l (by simp [hl]))]
    unfold gv gainZ
    rw [gain_zero (h l (by simp))]
    rfl

/-- By prices of nothing the bound is what each buyer offers most. -/
theorem bound_zero {m all : Nat} {B : Ins} (h : ∀ l ∈ B, OkO all l) (hb : B.length ≤ 64) : boundZ (List.replicate m 0) all B = sw B := by
  rw [boundZ_eq (zero_ok m) h hb, zero_cz, sg_sw h]
  omega

theorem wz_bnd {all : Nat} {L : List Off} (h : OkO all L) : 0 ≤ (wZ 4294967295 L).1 ∧ (wZ 4294967295 L).1 ≤ 1099511627776 := by
  have e : (wZ 4294967295 L).1 = gv (List.replicate 0 0) all L := by
    unfold gv gainZ wZ
    rw [gain_zero h]
  rw [e]
  exact gv_bnd (zero_ok 0) h

/-- What stands behind a descent: its bound is the one by its prices. -/
def InvS (gd : Int) (B : Ins) (s : St) : Prop := s.2.1 = boundZ s.2.2 (allZ gd).1 B

theorem try_inv {gd : Int} {B : Ins} {s t : St} {g : Nat} {c : Int} (h : tryZ gd B s g c = some t) : InvS gd B t ∧ t.2.1 ≤ s.2.1 := by
  unfold tryZ at h
  split at h
  · rename_i h1
    rw [Option.some.injEq] at h
    subst h
    exact ⟨rfl, Int.le_of_lt h1.2⟩
  · cases h
theorem both_inv {gd : Int} {B : Ins} {s t : St} {g : Nat} {c : Int} (h : bothZ gd B s g c = some t) : InvS gd B t ∧ t.2.1 ≤ s.2.1 := by
  unfold bothZ at h
  split at h
  · rename_i u hu
    rw [Option.some.injEq] at h
    subst h
    exact try_inv hu
  · exact try_inv h
theorem goods_inv (gd : Int) (B : Ins) (c : Int) : ∀ (n g : Nat) (s : St), InvS gd B s → InvS gd B (goodsEv gd B c g n s).2 ∧ (goodsEv gd B c g n s).2.2.1 ≤ s.2.1
  | 0, _, s, h => ⟨h, Int.le_refl _⟩
  | n + 1, g, s, h => by
    rw [goodsEv]
    split
    · rename_i t ht
      have h1 := both_inv ht
      have ih := goods_inv gd B c n (g + 1) t h1.1
      exact ⟨ih.1, Int.le_trans ih.2 h1.2⟩
    · exact goods_inv gd B c n (g + 1) s h
theorem pass_inv (gd : Int) (B : Ins) (c : Int) : ∀ (n : Nat) (s : St), InvS gd B s → InvS gd B (passEv gd B c n s).2 ∧ (passEv gd B c n s).2.2.1 ≤ s.2.1
  | 0, s, h => ⟨h, Int.le_refl _⟩
  | n + 1, s, h => by
    have h1 := goods_inv gd B c gd.toNat 0 s h
    rw [passEv]
    split
    · exact h1
    · have ih := pass_inv gd B c n _ h1.1
      exact ⟨ih.1, Int.le_trans ih.2 h1.2⟩
theorem step_inv (gd : Int) (B : Ins) : ∀ (n : Nat) (s : St), InvS gd B s → InvS gd B (stepEv gd B n s).2 ∧ (stepEv gd B n s).2.2.1 ≤ s.2.1
  | 0, s, h => ⟨h, Int.le_refl _⟩
  | n + 1, s, h => by
    have h1 := pass_inv gd B (2 ^ n : Nat) 16 s h
    rw [stepEv]
    have ih := step_inv gd B n _ h1.1
    exact ⟨ih.1, Int.le_trans ih.2 h1.2⟩
theorem end_inv (gd : Int) (B : Ins) : (endS gd B).2.1 = boundZ (endS gd B).2.2 (allZ gd).1 B ∧ (endS gd B).2.1 ≤ boundZ zeros (allZ gd).1 B := step_inv gd B 41 (st0 gd B) rfl

theorem all_of {gd : Int} (h : 1 ≤ gd ∧ gd ≤ 10) : (allZ gd).1 = 2 ^ gd.toNat - 1 := by rw [allZ, if_pos (by omega)]
theorem OkP.take {P : List Int} (h : OkP P) (m : Nat) : OkP (P.take m) := fun v hv => h v (List.mem_of_mem_take hv)
theorem take_get {P : List Int} {m i : Nat} (h : i < m) : (P.take m).getD i 0 = P.getD i 0 := by
  rw [List.getD_eq_getElem?_getD, List.getD_eq_getElem?_getD, List.getElem?_take_of_lt h]

/-- What the descent's prices bound is what it says. -/
theorem again_is {gd : Int} {B : Ins} (hi : insZ gd B = 0) (hgd : 1 ≤ gd ∧ gd ≤ 10) (hlt : ∀ l ∈ B, ∀ x ∈ l, x.1 < 4294967296) : boundZ ((endS gd B).2.2.take gd.toNat) (2 ^ gd.toNat - 1) B = (endS gd B).2.1 := by
  obtain ⟨hB, hO⟩ := ok_of hi hlt
  have ho := (endS_ok gd B).2
  rw [(end_inv gd B).1, all_of hgd]
  exact bound_congr (OkP.take ho _) ho (fun i h => take_get h) hO
theorem end_zero {gd : Int} {B : Ins} (hi : insZ gd B = 0) (hgd : 1 ≤ gd ∧ gd ≤ 10) (hlt : ∀ l ∈ B, ∀ x ∈ l, x.1 < 4294967296) : (endS gd B).2.1 ≤ boundZ (List.replicate gd.toNat 0) (2 ^ gd.toNat - 1) B := by
  obtain ⟨hB, hO⟩ := ok_of hi hlt
  have h1 := (end_inv gd B).2
  rw [all_of hgd] at h1
  have : boundZ (List.replicate gd.toNat 0) (2 ^ gd.toNat - 1) B = boundZ zeros (2 ^ gd.toNat - 1) B := bound_congr (zero_ok _) (zero_ok 10) (fun i _ => by rw [zero_get]; exact (zero_get 10 i).symm) hO
  rw [this]
  exact h1

theorem ar_ok {m : Nat} {P : List Int} (hl : P.length = m) (h : OkP P) : arB (m : Int) P = true := by
  unfold arB
  have : P.any wrB = false := by
    rw [List.any_eq_false]
    intro v hv
    have := h v hv
    unfold wrB
    simp
    omega
  rw [this, decide_eq_true (by omega)]
  rfl
theorem rest_is {gd : Int} {B : Ins} {k : Nat} {f : Nat} {P : List Int} (hi : insZ gd B = 0) (ha : arB gd P = true) (hk : k ≤ B.length) (hs : subB f (allZ gd).1 = true) : restZ gd B k f P = (boundZ P f (B.drop k), 0) := by
  rw [restZ, if_neg (by simp [hi]), if_neg]
  · rw [Int.toNat_natCast]
  · unfold ptB
    rw [ha, hs]
    simp
    omega
theorem bnd_is {gd : Int} {B : Ins} {P : List Int} (hi : insZ gd B = 0) (ha : arB gd P = true) : bndZ gd B P = (boundZ P (allZ gd).1 B, 0) := by
  have := rest_is (k := 0) (f := (allZ gd).1) hi ha (by omega) ((subB_iff (allZ_lt gd)).2 (fun i hi => hi))
  rw [List.drop_zero] at this
  exact this
end Go.Proofs.YtfiogkmgenodgaaDoor
