/- The best choice where a buyer has no offers: walked. -/
import Derived.Test.YtfoadheepmgbfaaGreatDoorF10
namespace Go.Proofs.YtfoadheepmgbfaaGreatDoor
open Go.RowKit Go.Lib Go.Shelf
attribute [local go_sem] Oper.semAt_some

/-- What offers.With leaves where no offers are handed in. -/
def WiP (gd : Int) (B : Ins) (k : Int) (w : World) (e : Ending) (w' : World) : Prop := Old w w' ∧ ((wiE gd B k ≠ 0 ∧ e = .returned (.tuple #[.agg #[.int .i64 0, .slice none 0 0], .int .i64 (wiE gd B k)])) ∨ (wiE gd B k = 0 ∧ ∃ g, e = .returned (.tuple #[.agg #[.int .i64 gd, .slice (some ⟨g, 0, none⟩) B.length B.length], .int .i64 0]) ∧ w.heap.size ≤ g ∧ ∀ Y, Frm (fun q => q < g) w' Y → InsC Y (some ⟨g, 0, none⟩) (B.set k.toNat [])))


set_option maxRecDepth 100000 in
set_option maxHeartbeats 4000000 in
theorem owithout_any (gd : Int) (bo : Option Addr) (cap : Nat) (B : Ins) (k : Int) (w : World) (h : InsC w bo B) (hV : InsV w bo B) (hl : B.length ≤ 9223372036854775807) :
    Calls Tryz.prog 40 #[.agg #[.int .i64 gd, .slice bo B.length cap], .int .i64 k] w (WiP gd B k w) := by
  have o1 : Old w (w.alloc (.cells #[.int .i64 gd, .slice bo B.length cap] 24)) := (Old.refl w).alloc _
  have oR : Old (w.alloc (.cells #[.int .i64 gd, .slice bo B.length cap] 24)) ((w.alloc (.cells #[.int .i64 gd, .slice bo B.length cap] 24)).alloc (.cells #[.int .i64 0, .slice none 0 0] 24)) := (Old.refl _).alloc _
  have bR := heap_new (w.alloc (.cells #[.int .i64 gd, .slice bo B.length cap] 24)) (.cells #[.int .i64 0, .slice none 0 0] 24)
  rw [alloc_size] at bR
  have zR : ((w.alloc (.cells #[.int .i64 gd, .slice bo B.length cap] 24)).alloc (.cells #[.int .i64 0, .slice none 0 0] 24)).heap.size = w.heap.size + 1 + 1 := by rw [alloc_size, alloc_size]
  have ko := hid (o1.trans oR)
  have kbR := hid bR
  have kzR := hid zR
  have kW := hid (fun V (o : Old w V) => with_any gd bo cap B k V (h.old o) (hV.old o) hl)
  obtain ⟨s, hs⟩ : ∃ s, w.heap.size = s := ⟨_, rfl⟩
  rw [hs] at kbR kzR
  clear h hV o1 oR bR zR
  go_enter Tryz.func40, Tryz.ntmps40
  go_wp2_with fail
  refine (kW.out _ ko.out).mono ?_
  rintro e w2 ⟨o2, (⟨hw, rfl⟩ | ⟨hw, g, rfl, hg, hI⟩)⟩
  · have ko2 := hid (ko.out.trans o2)
    have kw := hid hw
    clear hw
    have b2 := (o2.block _ (blk_lt kbR.out) (fun h => h)).trans kbR.out
    have e0 := blk_cells (i := 0) b2 rfl
    have e1 := blk_fz b2 0
    have b3 := heap_set (i := 0) (.int .i64 0) b2
    have e4 := blk_cells (i := 1) b3 rfl
    have e5 := blk_fz b3 1
    have b4 := heap_set (i := 1) (.slice none 0 0) b3
    have fS := (frm_set w2 (s + 1) 0 (.int .i64 0)).trans (frm_set _ (s + 1) 1 (.slice none 0 0)) (fun _ _ e => e)
    go_wp2_with fail
    have fS2 : Hid (Frm (fun q => q = s + 1) w2 ((w2.setCell ⟨s + 1, 0, none⟩ (.int .i64 0)).setCell ⟨s + 1, 1, none⟩ (.slice none 0 0))) := fS
    have kb4 := hid b4
    clear fS b3 b4 e0 e1 e4 e5
    generalize (w2.setCell ⟨s + 1, 0, none⟩ (.int .i64 0)).setCell ⟨s + 1, 1, none⟩ (.slice none 0 0) = Z at *
    have q0 := blk_cells (v := .int .i64 0) (i := 0) kb4.out rfl
    have q1 := blk_cells (v := .slice none 0 0) (i := 1) kb4.out rfl
    refine bodyPost_ret (v := .tuple #[.agg #[.int .i64 0, .slice none 0 0], .int .i64 (wiE gd B k)]) ?_ rfl ?_
    · simp [results, Tryz.f40, go_sem, q0, q1]
    · exact ⟨Frm.trans ko2.out fS2.out (fun i hi e => by omega), .inl ⟨kw.out, rfl⟩⟩
  · have ko2 := hid (ko.out.trans o2)
    have kw := hid hw
    have kI := hid hI
    have kg : Hid (s + 1 < g) := by have := kzR.out; show _ < _; omega
    clear hw hI hg
    have b2 := (o2.block _ (blk_lt kbR.out) (fun h => h)).trans kbR.out
    have e0 := blk_cells (i := 0) b2 rfl
    have e1 := blk_fz b2 0
    have b3 := heap_set (i := 0) (.int .i64 gd) b2
    have e4 := blk_cells (i := 1) b3 rfl
    have e5 := blk_fz b3 1
    have b4 := heap_set (i := 1) (.slice (some ⟨g, 0, none⟩) B.length B.length) b3
    have fS := (frm_set w2 (s + 1) 0 (.int .i64 gd)).trans (frm_set _ (s + 1) 1 (.slice (some ⟨g, 0, none⟩) B.length B.length)) (fun _ _ e => e)
    go_wp2_with fail
    have fS2 : Hid (Frm (fun q => q = s + 1) w2 ((w2.setCell ⟨s + 1, 0, none⟩ (.int .i64 gd)).setCell ⟨s + 1, 1, none⟩ (.slice (some ⟨g, 0, none⟩) B.length B.length))) := fS
    have kb4 := hid b4
    clear fS b3 b4 e0 e1 e4 e5
    generalize (w2.setCell ⟨s + 1, 0, none⟩ (.int .i64 gd)).setCell ⟨s + 1, 1, none⟩ (.slice (some ⟨g, 0, none⟩) B.length B.length) = Z at *
    have q0 := blk_cells (v := .int .i64 gd) (i := 0) kb4.out rfl
    have q1 := blk_cells (v := .slice (some ⟨g, 0, none⟩) B.length B.length) (i := 1) kb4.out rfl
    refine bodyPost_ret (v := .tuple #[.agg #[.int .i64 gd, .slice (some ⟨g, 0, none⟩) B.length B.length], .int .i64 0]) ?_ rfl ?_
    · simp [results, Tryz.f40, go_sem, q0, q1]
    · have := kg.out
      exact ⟨Frm.trans ko2.out fS2.out (fun i hi e => by omega), .inr ⟨kw.out, g, rfl, by omega, fun Y hY => kI.out Y (Frm.trans (Frm.mono fS2.out (fun _ _ e => by omega)) hY (fun _ _ e => e))⟩⟩

/-- Without a buyer: the instance, the error. -/
def woB (B : Ins) (k : Int) : Ins := B.set k.toNat []
def woE (gd : Int) (B : Ins) (k : Int) : Int := if wiE gd B k ≠ 0 then wiE gd B k else ckZ gd (woB B k) 0 (allZ gd).1
def woW (gd : Int) (B : Ins) (k : Int) : Int := if wiE gd B k ≠ 0 then 0 else frZ gd (woB B k) 0 (allZ gd).1
def woC (gd : Int) (B : Ins) (k : Int) : List Int := if wiE gd B k ≠ 0 then [] else ptC gd (woB B k) 0 (allZ gd).1

end Go.Proofs.YtfoadheepmgbfaaGreatDoor

/- What is known of an instance that may be: its best choices by the statement's own worth. -/
namespace Go.Proofs.YtfoadheepmgbfaaGreatDoor
open Go.RowKit Go.Lib Go.Shelf

/-- The facts. -/
structure Tops (gd : Int) (B : Ins) : Prop where
  m : ∃ m : Nat, gd = m ∧ 1 ≤ m ∧ m ≤ 10 ∧ (allZ gd).1 = 2 ^ m - 1
  len : B.length ≤ 32
  eight : ∀ l ∈ B, l.length ≤ 8
  coins : ∀ l ∈ B, ∀ x ∈ l, 0 ≤ x.2 ∧ x.2 ≤ 1099511627776
  ck : ckZ gd B 0 (allZ gd).1 = 0
  fr : frZ gd B 0 (allZ gd).1 = best B (allZ gd).1
  pt : ∃ T, allC B (allZ gd).1 = ptC gd B 0 (allZ gd).1 :: T
  law : ∀ c, lawW B 0 c = chV B (allZ gd).1 c
  told : toldC B 0 (allZ gd).1 = allC B (allZ gd).1

theorem told_zero (B : Ins) (f : Nat) : toldC B 0 f = allC B f := by
  unfold toldC
  simp

theorem tops_of {gd : Int} {B : Ins} (hz : insZ gd B = 0) (hlt : ∀ l ∈ B, ∀ x ∈ l, x.1 < 4294967296) : Tops gd B := by
  have hg := ins_gd hz
  obtain ⟨m, rfl⟩ : ∃ m : Nat, gd = (m : Int) := ⟨gd.toNat, by omega⟩
  have ok := okB_of (P := []) hz rfl hlt (fun v hv => by cases hv)
  have ha : (allZ (m : Int)).1 = 2 ^ m - 1 := by unfold allZ; rw [if_pos (by omega), Int.toNat_natCast]
  have hal := all_lt (m : Int)
  have hp : 0 < 2 ^ m := Nat.pow_pos (by decide)
  have hck : ckZ (m : Int) B 0 (allZ (m : Int)).1 = 0 := by
    unfold ckZ
    rw [if_neg (by simp [hz])]
    unfold ptB
    rw [if_pos]
    simp only [Bool.and_eq_true, decide_eq_true_eq]
    refine ⟨by omega, by omega, ?_⟩
    exact (subB_iff hal).2 (fun i h => h)
  refine ⟨⟨m, rfl, by omega, by omega, ha⟩, ok.len, ok.eight, fun l hl x hx => ?_, hck, ?_, ?_, fun c => ?_, told_zero _ _⟩
  · exact ⟨by have := (ok.off l hl x hx).2.2.1; omega, (ok.off l hl x hx).2.2.2⟩
  · unfold frZ
    rw [if_pos hck]
    rfl
  · have h1 := allC_some B (allZ (m : Int)).1
    unfold ptC
    rw [if_pos hck]
    show ∃ T, allC B (allZ (m : Int)).1 = (toldC B 0 (allZ (m : Int)).1).headD [] :: T
    rw [told_zero]
    cases he : allC B (allZ (m : Int)).1 with
    | nil => exact absurd he h1
    | cons c T => exact ⟨T, rfl⟩
  · rw [law_chV hal (by rw [ha]; exact ok.off), less_zero hal]

theorem Tops.head {gd : Int} {B : Ins} (h : Tops gd B) : ptC gd B 0 (allZ gd).1 ∈ allC B (allZ gd).1 := by
  obtain ⟨T, e⟩ := h.pt
  rw [e]
  simp
end Go.Proofs.YtfoadheepmgbfaaGreatDoor

/- The winners of a choice, in plain words; what they pay. -/
namespace Go.Proofs.YtfoadheepmgbfaaGreatDoor
open Go.RowKit Go.Lib Go.Shelf

/-- Who gets an offer, from buyer i on, and which one. -/
def wn : List Int → Nat → List (Nat × Int)
  | [], _ => []
  | x :: c, i => if 0 ≤ x then (i, x) :: wn c (i + 1) else wn c (i + 1)

theorem wn_step {c : List Int} {i : Nat} (h : i < c.length) : wn (c.drop i) i = if 0 ≤ c[i] then (i, c[i]) :: wn (c.drop (i + 1)) (i + 1) else wn (c.drop (i + 1)) (i + 1) := by
  rw [List.drop_eq_getElem_cons h, wn]
theorem wn_end {c : List Int} {i : Nat} (h : c.length ≤ i) : wn (c.drop i) i = [] := by
  rw [List.drop_of_length_le h]
  rfl
theorem wn_mem : ∀ {c : List Int} {i : Nat} {x : Nat × Int}, x ∈ wn c i → ∃ k, k < c.length ∧ x.1 = i + k ∧ c[k]? = some x.2 ∧ 0 ≤ x.2
  | [], i, x, h => by cases h
  | y :: c, i, x, h => by
    unfold wn at h
    split at h
    · rcases List.mem_cons.1 h with rfl | h
      · exact ⟨0, by simp, rfl, rfl, by assumption⟩
      · obtain ⟨k, h1, h2, h3, h4⟩ := wn_mem h
        exact ⟨k + 1, by simp; omega, by omega, by simpa using h3, h4⟩
    · obtain ⟨k, h1, h2, h3, h4⟩ := wn_mem h
      exact ⟨k + 1, by simp; omega, by omega, by simpa using h3, h4⟩

/-- The coins of what a buyer wins by a choice. -/
def wonZ (B : Ins) (c : List Int) (i : Nat) : Int := if 0 ≤ c.getD i (-1) then ((B.getD i []).getD (c.getD i (-1)).toNat (0, 0)).2 else 0
/-- What a buyer pays: W without it, less what the others have. -/
def payZ (B : Ins) (f : Nat) (c : List Int) (i : Nat) : Int := if 0 ≤ c.getD i (-1) then best (B.set i []) f - (best B f - wonZ B c i) else 0
def payL (B : Ins) (f : Nat) (c : List Int) : List Int := (List.range c.length).map (payZ B f c)
/-- The payments, once some were told of. -/
def payS (B : Ins) (f : Nat) (c : List Int) (p : List (Nat × Int)) : List Int := p.foldl (fun l x => l.set x.1 (payZ B f c x.1)) (List.replicate c.length 0)
theorem payS_len (B : Ins) (f : Nat) (c : List Int) (p : List (Nat × Int)) : (payS B f c p).length = c.length := by
  unfold payS
  have : ∀ (p : List (Nat × Int)) (l : List Int), (p.foldl (fun l x => l.set x.1 (payZ B f c x.1)) l).length = l.length := fun p => by
    induction p with
    | nil => intro l; rfl
    | cons x p ih => intro l; rw [List.foldl_cons, ih, List.length_set]
  rw [this]
  simp
theorem payS_app (B : Ins) (f : Nat) (c : List Int) (p : List (Nat × Int)) (x : Nat × Int) : payS B f c (p ++ [x]) = (payS B f c p).set x.1 (payZ B f c x.1) := by
  unfold payS
  rw [List.foldl_append]
  rfl
theorem payS_get (B : Ins) (f : Nat) (c : List Int) : ∀ (p : List (Nat × Int)) (l : List Int) (j : Nat), (p.foldl (fun l x => l.set x.1 (payZ B f c x.1)) l)[j]? = if j ∈ p.map Prod.fst ∧ j < l.length then some (payZ B f c j) else l[j]? := fun p => by
  induction p with
  | nil => intro l j; simp
  | cons x p ih =>
    intro l j
    rw [List.foldl_cons, ih, List.length_set, List.map_cons]
    by_cases h1 : j ∈ p.map Prod.fst ∧ j < l.length
    · rw [if_pos h1, if_pos ⟨List.mem_cons_of_mem _ h1.1, h1.2⟩]
    · rw [if_neg h1]
      by_cases h2 : j = x.1
      · subst h2
        by_cases h3 : x.1 < l.length
        · rw [if_pos ⟨by simp, h3⟩, List.getElem?_set_self h3]
        · rw [if_neg (fun h => h3 h.2), List.getElem?_eq_none (by rw [List.length_set]; omega), List.getElem?_eq_none (by omega)]
      · rw [List.getElem?_set_ne (by omega), if_neg]
        rintro ⟨h3, h4⟩
        rcases List.mem_cons.1 h3 with h3 | h3
        · exact h2 h3
        · exact h1 ⟨h3, h4⟩
theorem wn_has : ∀ {c : List Int} {i k : Nat} (h : k < c.length), 0 ≤ c[k] → i + k ∈ (wn c i).map Prod.fst
  | y :: c, i, 0, h, hp => by
    have hp : 0 ≤ y := hp
    unfold wn
    rw [if_pos hp]
    simp
  | y :: c, i, k + 1, h, hp => by
    have h2 : k < c.length := by simpa using h
    have := wn_has (i := i + 1) h2 (by simpa using hp)
    unfold wn
    rw [show i + (k + 1) = i + 1 + k by omega]
    split
    · rw [List.map_cons]
      exact List.mem_cons_of_mem _ this
    · exact this
theorem pay_all (B : Ins) (f : Nat) (c : List Int) : payS B f c (wn c 0) = payL B f c := by
  apply List.ext_getElem?
  intro j
  unfold payS payL
  rw [payS_get]
  by_cases hj : j < c.length
  · have e : ((List.range c.length).map (payZ B f c))[j]? = some (payZ B f c j) := by simp [hj]
    rw [e]
    by_cases hp : 0 ≤ c[j]
    · have := wn_has (i := 0) hj hp
      rw [Nat.zero_add] at this
      rw [if_pos ⟨this, by simpa using hj⟩]
    · rw [if_neg]
      · have e2 : payZ B f c j = 0 := by
          unfold payZ
          rw [if_neg]
          rw [List.getD_eq_getElem?_getD, List.getElem?_eq_getElem hj]
          exact hp
        rw [e2]
        simp [hj]
      · rintro ⟨h1, -⟩
        obtain ⟨x, hx, rfl⟩ := List.mem_map.1 h1
        obtain ⟨k, h2, h3, h4, h5⟩ := wn_mem hx
        rw [Nat.zero_add] at h3
        have : c[x.1]? = some x.2 := by rw [h3]; exact h4
        rw [List.getElem?_eq_getElem hj] at this
        have := Option.some.inj this
        omega
  · rw [if_neg (fun h => hj (by simpa using h.2)), List.getElem?_eq_none (by simpa using hj), List.getElem?_eq_none (by simpa using hj)]

/-- A choice that is told is one: what it names is there. -/
theorem allC_ok : ∀ {B : Ins} {f : Nat} {c : List Int}, c ∈ allC B f → ∀ k (hk : k < c.length), 0 ≤ c[k] → c[k].toNat < (B.getD k []).length
  | [], f, c, hc, k, hk, _ => by
    have : c.length = 0 := by simpa using allC_len hc
    omega
  | l :: R, f, c, hc, k, hk, hp => by
    rw [allC_cons, List.mem_flatMap] at hc
    obtain ⟨o, ho, hc⟩ := hc
    split at hc
    · rw [List.mem_map] at hc
      obtain ⟨d, hd, rfl⟩ := hc
      cases k with
      | zero =>
        have hp : 0 ≤ o.1 := hp
        show o.1.toNat < l.length
        rcases opts_mem ho with rfl | ⟨j, hj, rfl, -⟩
        · dsimp only at hp
          omega
        · dsimp only
          omega
      | succ k =>
        have := allC_ok hd k (by simpa using hk) (by simpa using hp)
        simpa using this
    · cases hc
end Go.Proofs.YtfoadheepmgbfaaGreatDoor

/- How the greatest worth turns with the offers: in plain words. -/
namespace Go.Proofs.YtfoadheepmgbfaaGreatDoor
open Go.RowKit Go.Lib Go.Shelf

theorem ins_small {gd : Int} {B : Ins} (h : insZ gd B = 0) : B.length ≤ 32 ∧ ∀ i, i < B.length → (B.getD i []).length ≤ 8 := by
  unfold insZ at h
  split at h
  · cases h
  · split at h
    · cases h
    · rename_i h1
      have h2 : B.length ≤ 32 := Nat.le_of_not_lt (fun e => h1 (Or.inl e))
      refine ⟨h2, fun i hi => ?_⟩
      have h3 : ¬ lgB B = true := fun e => h1 (Or.inr e)
      apply Nat.le_of_not_lt
      intro h4
      apply h3
      unfold lgB
      rw [List.any_eq_true]
      refine ⟨B.getD i [], ?_, decide_eq_true h4⟩
      rw [List.getD_eq_getElem?_getD, List.getElem?_eq_getElem hi]
      exact List.getElem_mem hi

/-- All that is offered there is offered here. -/
def SubI : Ins → Ins → Prop
  | [], [] => True
  | l :: R, l' :: R' => (∀ x ∈ l, x ∈ l') ∧ SubI R R'
  | _, _ => False

theorem best_has1 {l : List Off} {R : Ins} {f : Nat} {x : Off} (hx : x ∈ l) (hs : subB x.1 f = true) : x.2 + best R (less f x.1) ≤ best (l :: R) f := by
  obtain ⟨j, hj, rfl⟩ := List.getElem_of_mem hx
  rw [best_cons]
  refine topL_mem ?_
  rw [List.mem_map]
  exact ⟨_, opts_has hj hs, rfl⟩
theorem best_none1 (l : List Off) (R : Ins) (f : Nat) : best R f ≤ best (l :: R) f := by
  rw [best_cons]
  have h : (0 : Int) + best R f ≤ topL 0 ((opts l f).map (fun o => o.2.1 + best R o.2.2)) := by
    refine topL_mem ?_
    rw [List.mem_map]
    exact ⟨_, opts_none l f, rfl⟩
  omega
theorem best_upto {l : List Off} {R : Ins} {f : Nat} {M : Int} (h0 : best R f ≤ M) (h : ∀ x ∈ l, subB x.1 f = true → x.2 + best R (less f x.1) ≤ M) : best (l :: R) f ≤ M := by
  rw [best_cons]
  have hp := best_pos R f
  refine topL_le (by omega) (fun v hv => ?_)
  rw [List.mem_map] at hv
  obtain ⟨o, ho, rfl⟩ := hv
  rcases opts_mem ho with rfl | ⟨j, hj, rfl, hs⟩
  · dsimp only; omega
  · exact h _ (List.getElem_mem hj) hs

theorem best_mono : ∀ {B B' : Ins} {f : Nat}, SubI B B' → best B f ≤ best B' f
  | [], [], f, _ => Int.le_refl _
  | l :: R, l' :: R', f, h => best_upto (Int.le_trans (best_mono h.2) (best_none1 l' R' f)) (fun x hx hs => by
      have h1 := best_mono (f := less f x.1) h.2
      have h2 := best_has1 (R := R') (h.1 x hx) hs
      omega)

theorem best_drop : ∀ (k : Nat) (B : Ins) (f : Nat), best (B.drop k) f ≤ best B f
  | 0, B, f => Int.le_refl _
  | k + 1, [], f => Int.le_refl _
  | k + 1, l :: R, f => by
    have h1 := best_drop k R f
    have h2 := best_none1 l R f
    exact Int.le_trans h1 h2

theorem less_sub2 {a b g : Nat} (ha : a < 4294967296) (hb : b < 4294967296) (h : Sub a b) : Sub (less a g) (less b g) := fun i hi => by
  rw [less_bit _ _ ha] at hi
  rw [less_bit _ _ hb]
  simp only [Bool.and_eq_true] at hi ⊢
  exact ⟨h i hi.1, hi.2⟩

theorem best_free : ∀ {B : Ins} {f' f : Nat}, (∀ l ∈ B, ∀ x ∈ l, x.1 < 4294967296) → f' < 4294967296 → f < 4294967296 → Sub f' f → best B f' ≤ best B f
  | [], f', f, _, _, _, _ => Int.le_refl _
  | l :: R, f', f, hB, h1, h2, hs => best_upto (Int.le_trans (best_free (fun l hl => hB l (by simp [hl])) h1 h2 hs) (best_none1 l R f)) (fun x hx hx2 => by
      have hxl := hB l (by simp) x hx
      have h3 : subB x.1 f = true := (subB_iff hxl).2 (fun i hi => hs i ((subB_iff hxl).1 hx2 i hi))
      have h4 := best_free (B := R) (fun l hl => hB l (by simp [hl])) (less_lt f' x.1) (less_lt f x.1) (less_sub2 h1 h2 hs)
      have h5 := best_has1 (R := R) hx h3
      omega)

theorem best_without : ∀ {B : Ins} {k f : Nat} {M : Int}, (∀ l ∈ B, ∀ x ∈ l, x.1 < 4294967296) → f < 4294967296 → 0 ≤ M → (∀ x ∈ B.getD k [], x.2 ≤ M) → best B f ≤ best (B.set k []) f + M
  | [], k, f, M, _, _, hM, _ => by
    simp [best_nil]
    exact hM
  | l :: R, 0, f, M, hB, hf, hM, hx => by
    show best (l :: R) f ≤ best ([] :: R) f + M
    have h0 := best_none1 [] R f
    refine best_upto (by omega) (fun x hx1 hs => ?_)
    have h1 := hx x (by simpa using hx1)
    have h2 := best_free (B := R) (f' := less f x.1) (f := f) (fun l hl => hB l (by simp [hl])) (less_lt f x.1) hf (fun i hi => by
      rw [less_bit _ _ hf] at hi
      simp only [Bool.and_eq_true] at hi
      exact hi.1)
    omega
  | l :: R, k + 1, f, M, hB, hf, hM, hx => by
    show best (l :: R) f ≤ best (l :: R.set k []) f + M
    have hB' : ∀ l ∈ R, ∀ x ∈ l, x.1 < 4294967296 := fun l hl => hB l (by simp [hl])
    have hx' : ∀ x ∈ R.getD k [], x.2 ≤ M := fun x h => hx x (by simpa using h)
    have h0 := best_none1 l (R.set k []) f
    have h1 := best_without (k := k) hB' hf hM hx'
    refine best_upto (by omega) (fun x hx1 hs => ?_)
    have h2 := best_without (k := k) hB' (less_lt f x.1) hM hx'
    have h3 := best_has1 (R := R.set k []) hx1 hs
    omega

theorem best_swap {a b : List Off} {R : Ins} {f : Nat} (ha : ∀ x ∈ a, x.1 < 4294967296) (hb : ∀ x ∈ b, x.1 < 4294967296) (hf : f < 4294967296) : best (a :: b :: R) f ≤ best (b :: a :: R) f := by
  have hlow : ∀ {l : List Off}, best (l :: R) f ≤ best (b :: l :: R) f := fun {l} => best_none1 b _ f
  refine best_upto (best_upto (Int.le_trans (best_none1 a R f) (best_none1 b _ f)) (fun y hy hs => ?_)) (fun x hx hs => ?_)
  · have h1 := best_has1 (R := a :: R) hy hs
    have h2 := best_none1 a R (less f y.1)
    omega
  · have hxl := ha x hx
    have hxs := (subB_iff hxl).1 hs
    have key : best (b :: R) (less f x.1) ≤ best (b :: a :: R) f - x.2 := by
      refine best_upto ?_ (fun y hy hs2 => ?_)
      · have h1 := best_has1 (R := R) hx hs
        have h2 := best_none1 b (a :: R) f
        omega
      · have hyl := hb y hy
        have hys := (subB_iff hyl).1 hs2
        have hyf : subB y.1 f = true := (subB_iff hyl).2 (fun i hi => by
          have := hys i hi
          rw [less_bit _ _ hf] at this
          simp only [Bool.and_eq_true] at this
          exact this.1)
        have hxf : subB x.1 (less f y.1) = true := (subB_iff hxl).2 (fun i hi => by
          rw [less_bit _ _ hf, hxs i hi]
          cases hy2 : y.1.testBit i with
          | false => rfl
          | true =>
            have := hys i hy2
            rw [less_bit _ _ hf, hi] at this
            simp at this)
        have h1 := best_has1 (R := a :: R) hy hyf
        have h2 := best_has1 (R := R) hx hxf
        have h3 : less (less f y.1) x.1 = less (less f x.1) y.1 := eq_of_bits (fun i => by
          rw [less_bit _ _ (less_lt _ _), less_bit _ _ hf, less_bit _ _ (less_lt _ _), less_bit _ _ hf]
          cases f.testBit i <;> cases x.1.testBit i <;> cases y.1.testBit i <;> rfl)
        rw [h3] at h2
        omega
    omega

theorem best_perm {B B' : Ins} (h : B.Perm B') : (∀ l ∈ B, ∀ x ∈ l, x.1 < 4294967296) → ∀ f, f < 4294967296 → best B f = best B' f := by
  induction h with
  | nil => exact fun _ _ _ => rfl
  | cons l h ih =>
    intro hB f hf
    have h1 := ih (fun l hl => hB l (by simp [hl]))
    rw [best_cons, best_cons]
    congr 1
    refine List.map_congr_left (fun o ho => ?_)
    rcases opts_mem ho with rfl | ⟨j, hj, rfl, -⟩
    · dsimp only; rw [h1 f hf]
    · dsimp only; rw [h1 _ (less_lt _ _)]
  | swap a b R =>
    intro hB f hf
    have ha := hB a (by simp)
    have hb := hB b (by simp)
    have h1 := best_swap (R := R) ha hb hf
    have h2 := best_swap (R := R) hb ha hf
    omega
  | trans h1 h2 ih1 ih2 =>
    intro hB f hf
    rw [ih1 hB f hf, ih2 (fun l hl => hB l (h1.mem_iff.2 hl)) f hf]

theorem subI_self : ∀ B : Ins, SubI B B
  | [] => trivial
  | _ :: R => ⟨fun _ h => h, subI_self R⟩
theorem subI_rev : ∀ B : Ins, SubI B (B.map List.reverse)
  | [] => trivial
  | _ :: R => ⟨fun x h => (by simpa using h), subI_rev R⟩
theorem subI_rev' : ∀ B : Ins, SubI (B.map List.reverse) B
  | [] => trivial
  | _ :: R => ⟨fun x h => (by simpa using h), subI_rev' R⟩
theorem subI_set : ∀ (B : Ins) (k : Nat), SubI (B.set k []) B
  | [], k => trivial
  | _ :: R, 0 => ⟨fun x h => (by cases h), subI_self R⟩
  | _ :: R, k + 1 => ⟨fun x h => h, subI_set R k⟩

/-- Buyers and their offers the other way round. -/
def turnI (B : Ins) : Ins := (B.map List.reverse).reverse
theorem turn_best {B : Ins} {f : Nat} (hB : ∀ l ∈ B, ∀ x ∈ l, x.1 < 4294967296) (hf : f < 4294967296) : best (turnI B) f = best B f := by
  unfold turnI
  have h1 : ∀ l ∈ B.map List.reverse, ∀ x ∈ l, x.1 < 4294967296 := fun l hl x hx => by
    rw [List.mem_map] at hl
    obtain ⟨l', hl', rfl⟩ := hl
    exact hB l' hl' x (by simpa using hx)
  rw [← best_perm (List.reverse_perm _).symm h1 f hf]
  have h2 := best_mono (f := f) (subI_rev B)
  have h3 := best_mono (f := f) (subI_rev' B)
  omega

/-- One offer more. -/
def moreI (B : Ins) (k : Nat) (o : Off) : Ins := B.set k (B.getD k [] ++ [o])
theorem subI_more : ∀ (B : Ins) (k : Nat) (o : Off), SubI B (moreI B k o)
  | [], k, o => trivial
  | _ :: R, 0, o => ⟨fun x h => (by simp [h]), subI_self R⟩
  | _ :: R, k + 1, o => ⟨fun x h => h, subI_more R k o⟩

theorem chk_none {all : Nat} : ∀ {l : List Off} {i : Nat}, chkO all l i = none ↔ ∀ x ∈ l, okB all x = true
  | [], i => by simp [chkO]
  | x :: l, i => by
    unfold chkO
    by_cases h : okB all x = true
    · rw [if_pos h, chk_none]
      simp [h]
    · rw [if_neg h]
      simp [h]

theorem ins_all {gd : Int} {B : Ins} (hz : insZ gd B = 0) : 1 ≤ gd ∧ gd ≤ 10 ∧ B.length ≤ 32 ∧ (∀ l ∈ B, l.length ≤ 8) ∧ ∀ l ∈ B, ∀ x ∈ l, okB (2 ^ gd.toNat - 1) x = true := by
  have hg := ins_gd hz
  have hsm := ins_small hz
  have hlg : lgB B = false := by
    unfold lgB
    rw [List.any_eq_false]
    intro l hl
    obtain ⟨i, hi, rfl⟩ := List.getElem_of_mem hl
    have := hsm.2 i hi
    rw [List.getD_eq_getElem?_getD, List.getElem?_eq_getElem hi] at this
    simpa using this
  have hr := ins_rest hg hsm.1 hlg
  rw [hz] at hr
  refine ⟨hg.1, hg.2, hsm.1, lgB_false hlg, fun l hl => ?_⟩
  split at hr
  · rename_i h
    exact chk_none.1 (h l hl)
  · cases hr
theorem ins_of {gd : Int} {B : Ins} (h1 : 1 ≤ gd ∧ gd ≤ 10) (h2 : B.length ≤ 32) (h3 : ∀ l ∈ B, l.length ≤ 8) (h4 : ∀ l ∈ B, ∀ x ∈ l, okB (2 ^ gd.toNat - 1) x = true) : insZ gd B = 0 := by
  have hlg : lgB B = false := by
    unfold lgB
    rw [List.any_eq_false]
    intro l hl
    have := h3 l hl
    simp
    omega
  rw [ins_rest h1 h2 hlg, if_pos (fun l hl => chk_none.2 (h4 l hl))]
theorem turn_ins {gd : Int} {B : Ins} (hz : insZ gd B = 0) : insZ gd (turnI B) = 0 := by
  obtain ⟨h1, h2, h3, h4, h5⟩ := ins_all hz
  refine ins_of ⟨h1, h2⟩ (by unfold turnI; simpa using h3) (fun l hl => ?_) (fun l hl => ?_)
  · unfold turnI at hl
    simp only [List.mem_reverse, List.mem_map] at hl
    obtain ⟨l', hl', rfl⟩ := hl
    simpa using h4 l' hl'
  · unfold turnI at hl
    simp only [List.mem_reverse, List.mem_map] at hl
    obtain ⟨l', hl', rfl⟩ := hl
    exact fun x hx => h5 l' hl' x (by simpa using hx)
theorem wo_ins {gd : Int} {B : Ins} {k : Nat} (hz : insZ gd B = 0) : insZ gd (B.set k []) = 0 := by
  obtain ⟨h1, h2, h3, h4, h5⟩ := ins_all hz
  refine ins_of ⟨h1, h2⟩ (by simpa using h3) (fun l hl => ?_) (fun l hl => ?_)
  · rcases List.mem_or_eq_of_mem_set hl with h | rfl
    · exact h4 l h
    · simp
  · rcases List.mem_or_eq_of_mem_set hl with h | rfl
    · exact h5 l h
    · exact fun x hx => by cases hx
end Go.Proofs.YtfoadheepmgbfaaGreatDoor
