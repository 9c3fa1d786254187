/- The best choice where a buyer has no offers: walked. -/
import Derived.Test.YtidocjgcckcooaaDoorF10
namespace Go.Proofs.YtidocjgcckcooaaDoor
open Go.RowKit Go.Lib Go.Shelf
attribute [local go_sem] Oper.semAt_some

/-- What offers.With leaves where no offers are handed in. -/
def WiP (gd : Int) (B : Ins) (k : Int) (w : World) (e : Ending) (w' : World) : Prop := Old w w' ∧ ((wiE gd B k ≠ 0 ∧ e = .returned (.tuple #[.agg #[.int .i64 0, .slice none 0 0], .int .i64 (wiE gd B k)])) ∨ (wiE gd B k = 0 ∧ ∃ g, e = .returned (.tuple #[.agg #[.int .i64 gd, .slice (some ⟨g, 0, none⟩) B.length B.length], .int .i64 0]) ∧ w.heap.size ≤ g ∧ ∀ Y, Frm (fun q => q < g) w' Y → InsC Y (some ⟨g, 0, none⟩) (B.set k.toNat [])))


set_option maxRecDepth 100000 in
set_option maxHeartbeats 4000000 in
theorem owithout_any (gd : Int) (bo : Option Addr) (cap : Nat) (B : Ins) (k : Int) (w : World) (h : InsC w bo B) (hV : InsV w bo B) (hl : B.length ≤ 9223372036854775807) :
    Calls Tryd.prog 54 #[.agg #[.int .i64 gd, .slice bo B.length cap], .int .i64 k] w (WiP gd B k w) := by
  have o1 : Old w (w.alloc (.cells #[.int .i64 gd, .slice bo B.length cap] 24)) := (Old.refl w).alloc _
  have oR : Old (w.alloc (.cells #[.int .i64 gd, .slice bo B.length cap] 24)) ((w.alloc (.cells #[.int .i64 gd, .slice bo B.length cap] 24)).alloc (.cells #[.int .i64 0, .slice none 0 0] 24)) := (Old.refl _).alloc _
  have bR := heap_new (w.alloc (.cells #[.int .i64 gd, .slice bo B.length cap] 24)) (.cells #[.int .i64 0, .slice none 0 0] 24)
  rw [alloc_size] at bR
  have zR : ((w.alloc (.cells #[.int .i64 gd, .slice bo B.length cap] 24)).alloc (.cells #[.int .i64 0, .slice none 0 0] 24)).heap.size = w.heap.size + 1 + 1 := by rw [alloc_size, alloc_size]
  have ko := hid (o1.trans oR)
  have kbR := hid bR
  have kzR := hid zR
  have kW := hid (fun V (o : Old w V) => with_any gd bo cap B k V (h.old o) (hV.old o) hl)
  obtain ⟨s, hs⟩ : ∃ s, w.heap.size = s := ⟨_, rfl⟩
  rw [hs] at kbR kzR
  clear h hV o1 oR bR zR
  go_enter Tryd.func54, Tryd.ntmps54
  go_wp2_with fail
  refine (kW.out _ ko.out).mono ?_
  rintro e w2 ⟨o2, (⟨hw, rfl⟩ | ⟨hw, g, rfl, hg, hI⟩)⟩
  · have ko2 := hid (ko.out.trans o2)
    have kw := hid hw
    clear hw
    have b2 := (o2.block _ (blk_lt kbR.out) (fun h => h)).trans kbR.out
    have e0 := blk_cells (i := 0) b2 rfl
    have e1 := blk_fz b2 0
    have b3 := heap_set (i := 0) (.int .i64 0) b2
    have e4 := blk_cells (i := 1) b3 rfl
    have e5 := blk_fz b3 1
    have b4 := heap_set (i := 1) (.slice none 0 0) b3
    have fS := (frm_set w2 (s + 1) 0 (.int .i64 0)).trans (frm_set _ (s + 1) 1 (.slice none 0 0)) (fun _ _ e => e)
    go_wp2_with fail
    have fS2 : Hid (Frm (fun q => q = s + 1) w2 ((w2.setCell ⟨s + 1, 0, none⟩ (.int .i64 0)).setCell ⟨s + 1, 1, none⟩ (.slice none 0 0))) := fS
    have kb4 := hid b4
    clear fS b3 b4 e0 e1 e4 e5
    generalize (w2.setCell ⟨s + 1, 0, none⟩ (.int .i64 0)).setCell ⟨s + 1, 1, none⟩ (.slice none 0 0) = Z at *
    have q0 := blk_cells (v := .int .i64 0) (i := 0) kb4.out rfl
    have q1 := blk_cells (v := .slice none 0 0) (i := 1) kb4.out rfl
    refine bodyPost_ret (v := .tuple #[.agg #[.int .i64 0, .slice none 0 0], .int .i64 (wiE gd B k)]) ?_ rfl ?_
    · simp [results, Tryd.f54, go_sem, q0, q1]
    · exact ⟨Frm.trans ko2.out fS2.out (fun i hi e => by omega), .inl ⟨kw.out, rfl⟩⟩
  · have ko2 := hid (ko.out.trans o2)
    have kw := hid hw
    have kI := hid hI
    have kg : Hid (s + 1 < g) := by have := kzR.out; show _ < _; omega
    clear hw hI hg
    have b2 := (o2.block _ (blk_lt kbR.out) (fun h => h)).trans kbR.out
    have e0 := blk_cells (i := 0) b2 rfl
    have e1 := blk_fz b2 0
    have b3 := heap_set (i := 0) (.int .i64 gd) b2
    have e4 := blk_cells (i := 1) b3 rfl
    have e5 := blk_fz b3 1
    have b4 := heap_set (i := 1) (.slice (some ⟨g, 0, none⟩) B.length B.length) b3
    have fS := (frm_set w2 (s + 1) 0 (.int .i64 gd)).trans (frm_set _ (s + 1) 1 (.slice (some ⟨g, 0, none⟩) B.length B.length)) (fun _ _ e => e)
    go_wp2_with fail
    have fS2 : Hid (Frm (fun q => q = s + 1) w2 ((w2.setCell ⟨s + 1, 0, none⟩ (.int .i64 gd)).setCell ⟨s + 1, 1, none⟩ (.slice (some ⟨g, 0, none⟩) B.length B.length))) := fS
    have kb4 := hid b4
    clear fS b3 b4 e0 e1 e4 e5
    generalize (w2.setCell ⟨s + 1, 0, none⟩ (.int .i64 gd)).setCell ⟨s + 1, 1, none⟩ (.slice (some ⟨g, 0, none⟩) B.length B.length) = Z at *
    have q0 := blk_cells (v := .int .i64 gd) (i := 0) kb4.out rfl
    have q1 := blk_cells (v := .slice (some ⟨g, 0, none⟩) B.length B.length) (i := 1) kb4.out rfl
    refine bodyPost_ret (v := .tuple #[.agg #[.int .i64 gd, .slice (some ⟨g, 0, none⟩) B.length B.length], .int .i64 0]) ?_ rfl ?_
    · simp [results, Tryd.f54, go_sem, q0, q1]
    · have := kg.out
      exact ⟨Frm.trans ko2.out fS2.out (fun i hi e => by omega), .inr ⟨kw.out, g, rfl, by omega, fun Y hY => kI.out Y (Frm.trans (Frm.mono fS2.out (fun _ _ e => by omega)) hY (fun _ _ e => e))⟩⟩

/-- Without a buyer: the instance, the error. -/
def woB (B : Ins) (k : Int) : Ins := B.set k.toNat []
def woE (gd : Int) (B : Ins) (k : Int) : Int := if wiE gd B k ≠ 0 then wiE gd B k else ckZ gd (woB B k) 0 (allZ gd).1
def woW (gd : Int) (B : Ins) (k : Int) : Int := if wiE gd B k ≠ 0 then 0 else frZ gd (woB B k) 0 (allZ gd).1
def woC (gd : Int) (B : Ins) (k : Int) : List Int := if wiE gd B k ≠ 0 then [] else ptC gd (woB B k) 0 (allZ gd).1

end Go.Proofs.YtidocjgcckcooaaDoor

/- What is known of an instance that may be: its best choices by the statement's own worth. -/
namespace Go.Proofs.YtidocjgcckcooaaDoor
open Go.RowKit Go.Lib Go.Shelf

/-- The facts. -/
structure Tops (gd : Int) (B : Ins) : Prop where
  m : ∃ m : Nat, gd = m ∧ 1 ≤ m ∧ m ≤ 10 ∧ (allZ gd).1 = 2 ^ m - 1
  len : B.length ≤ 32
  eight : ∀ l ∈ B, l.length ≤ 8
  coins : ∀ l ∈ B, ∀ x ∈ l, 0 ≤ x.2 ∧ x.2 ≤ 1099511627776
  ck : ckZ gd B 0 (allZ gd).1 = 0
  fr : frZ gd B 0 (allZ gd).1 = best B (allZ gd).1
  pt : ∃ T, allC B (allZ gd).1 = ptC gd B 0 (allZ gd).1 :: T
  law : ∀ c, lawW B 0 c = chV B (allZ gd).1 c
  told : toldC B 0 (allZ gd).1 = allC B (allZ gd).1

theorem told_zero (B : Ins) (f : Nat) : toldC B 0 f = allC B f := by
  unfold toldC
  simp

theorem tops_of {gd : Int} {B : Ins} (hz : insZ gd B = 0) (hlt : ∀ l ∈ B, ∀ x ∈ l, x.1 < 4294967296) : Tops gd B := by
  have hg := ins_gd hz
  obtain ⟨m, rfl⟩ : ∃ m : Nat, gd = (m : Int) := ⟨gd.toNat, by omega⟩
  have ok := okB_of (P := []) hz rfl hlt (fun v hv => by cases hv)
  have ha : (allZ (m : Int)).1 = 2 ^ m - 1 := by unfold allZ; rw [if_pos (by omega), Int.toNat_natCast]
  have hal := all_lt (m : Int)
  have hp : 0 < 2 ^ m := Nat.pow_pos (by decide)
  have hck : ckZ (m : Int) B 0 (allZ (m : Int)).1 = 0 := by
    unfold ckZ
    rw [if_neg (by simp [hz])]
    unfold ptB
    rw [if_pos]
    simp only [Bool.and_eq_true, decide_eq_true_eq]
    refine ⟨by omega, by omega, ?_⟩
    exact (subB_iff hal).2 (fun i h => h)
  refine ⟨⟨m, rfl, by omega, by omega, ha⟩, ok.len, ok.eight, fun l hl x hx => ?_, hck, ?_, ?_, fun c => ?_, told_zero _ _⟩
  · exact ⟨by have := (ok.off l hl x hx).2.2.1; omega, (ok.off l hl x hx).2.2.2⟩
  · unfold frZ
    rw [if_pos hck]
    rfl
  · have h1 := allC_some B (allZ (m : Int)).1
    unfold ptC
    rw [if_pos hck]
    show ∃ T, allC B (allZ (m : Int)).1 = (toldC B 0 (allZ (m : Int)).1).headD [] :: T
    rw [told_zero]
    cases he : allC B (allZ (m : Int)).1 with
    | nil => exact absurd he h1
    | cons c T => exact ⟨T, rfl⟩
  · rw [law_chV hal (by rw [ha]; exact ok.off), less_zero hal]

theorem Tops.head {gd : Int} {B : Ins} (h : Tops gd B) : ptC gd B 0 (allZ gd).1 ∈ allC B (allZ gd).1 := by
  obtain ⟨T, e⟩ := h.pt
  rw [e]
  simp
end Go.Proofs.YtidocjgcckcooaaDoor

/- The winners of a choice, in plain words; what they pay. -/
namespace Go.Proofs.YtidocjgcckcooaaDoor
open Go.RowKit Go.Lib Go.Shelf

/-- Who gets an offer, from buyer i on, and which one. -/
def wn : List Int → Nat → List (Nat × Int)
  | [], _ => []
  | x :: c, i => if 0 ≤ x then (i, x) :: wn c (i + 1) else wn c (i + 1)

theorem wn_step {c : List Int} {i : Nat} (h : i < c.length) : wn (c.drop i) i = if 0 ≤ c[i] then (i, c[i]) :: wn (c.drop (i + 1)) (i + 1) else wn (c.drop (i + 1)) (i + 1) := by
  rw [List.drop_eq_getElem_cons h, wn]
theorem wn_end {c : List Int} {i : Nat} (h : c.length ≤ i) : wn (c.drop i) i = [] := by
  rw [List.drop_of_length_le h]
  rfl
theorem wn_mem : ∀ {c : List Int} {i : Nat} {x : Nat × Int}, x ∈ wn c i → ∃ k, k < c.length ∧ x.1 = i + k ∧ c[k]? = some x.2 ∧ 0 ≤ x.2
  | [], i, x, h => by cases h
  | y :: c, i, x, h => by
    unfold wn at h
    split at h
    · rcases List.mem_cons.1 h with rfl | h
      · exact ⟨0, by simp, rfl, rfl, by assumption⟩
      · obtain ⟨k, h1, h2, h3, h4⟩ := wn_mem h
        exact ⟨k + 1, by simp; omega, by omega, by simpa using h3, h4⟩
    · obtain ⟨k, h1, h2, h3, h4⟩ := wn_mem h
      exact ⟨k + 1, by simp; omega, by omega, by simpa using h3, h4⟩

/-- The coins of what a buyer wins by a choice. -/
def wonZ (B : Ins) (c : List Int) (i : Nat) : Int := if 0 ≤ c.getD i (-1) then ((B.getD i []).getD (c.getD i (-1)).toNat (0, 0)).2 else 0
/-- What a buyer pays: W without it, less what the others have. -/
def payZ (B : Ins) (f : Nat) (c : List Int) (i : Nat) : Int := if 0 ≤ c.getD i (-1) then best (B.set i []) f - (best B f - wonZ B c i) else 0
def payL (B : Ins) (f : Nat) (c : List Int) : List Int := (List.range c.length).map (payZ B f c)
/-- The payments, once some were told of. -/
def payS (B : Ins) (f : Nat) (c : List Int) (p : List (Nat × Int)) : List Int := p.foldl (fun l x => l.set x.1 (payZ B f c x.1)) (List.replicate c.length 0)
theorem payS_len (B : Ins) (f : Nat) (c : List Int) (p : List (Nat × Int)) : (payS B f c p).length = c.length := by
  unfold payS
  have : ∀ (p : List (Nat × Int)) (l : List Int), (p.foldl (fun l x => l.set x.1 (payZ B f c x.1)) l).length = l.length := fun p => by
    induction p with
    | nil => intro l; rfl
    | cons x p ih => intro l; rw [List.foldl_cons, ih, List.length_set]
  rw [this]
  simp
theorem payS_app (B : Ins) (f : Nat) (c : List Int) (p : List (Nat × Int)) (x : Nat × Int) : payS B f c (p ++ [x]) = (payS B f c p).set x.1 (payZ B f c x.1) := by
  unfold payS
  rw [List.foldl_append]
  rfl
theorem payS_get (B : Ins) (f : Nat) (c : List Int) : ∀ (p : List (Nat × Int)) (l : List Int) (j : Nat), (p.foldl (fun l x => l.set x.1 (payZ B f c x.1)) l)[j]? = if j ∈ p.map Prod.fst ∧ j < l.length then some (payZ B f c j) else l[j]? := fun p => by
  induction p with
  | nil => intro l j; simp
  | cons x p ih =>
    intro l j
    rw [List.foldl_cons, ih, List.length_set, List.map_cons]
    by_cases h1 : j ∈ p.map Prod.fst ∧ j < l.length
    · rw [if_pos h1, if_pos ⟨List.mem_cons_of_mem _ h1.1, h1.2⟩]
    · rw [if_neg h1]
      by_cases h2 : j = x.1
      · subst h2
        by_cases h3 : x.1 < l.length
        · rw [if_pos ⟨by simp, h3⟩, List.getElem?_set_self h3]
        · rw [if_neg (fun h => h3 h.2), List.getElem?_eq_none (by rw [List.length_set]; omega), List.getElem?_eq_none (by omega)]
      · rw [List.getElem?_set_ne (by omega), if_neg]
        rintro ⟨h3, h4⟩
        rcases List.mem_cons.1 h3 with h3 | h3
        · exact h2 h3
        · exact h1 ⟨h3, h4⟩
theorem wn_has : ∀ {c : List Int} {i k : Nat} (h : k < c.length), 0 ≤ c[k] → i + k ∈ (wn c i).map Prod.fst
  | y :: c, i, 0, h, hp => by
    have hp : 0 ≤ y := hp
    unfold wn
    rw [if_pos hp]
    simp
  | y :: c, i, k + 1, h, hp => by
    have h2 : k < c.length := by simpa using h
    have := wn_has (i := i + 1) h2 (by simpa using hp)
    unfold wn
    rw [show i + (k + 1) = i + 1 + k by omega]
    split
    · rw [List.map_cons]
      exact List.mem_cons_of_mem _ this
    · exact this
theorem pay_all (B : Ins) (f : Nat) (c : List Int) : payS B f c (wn c 0) = payL B f c := by
  apply List.ext_getElem?
  intro j
  unfold payS payL
  rw [payS_get]
  by_cases hj : j < c.length
  · have e : ((List.range c.length).map (payZ B f c))[j]? = some (payZ B f c j) := by simp [hj]
    rw [e]
    by_cases hp : 0 ≤ c[j]
    · have := wn_has (i := 0) hj hp
      rw [Nat.zero_add] at this
      rw [if_pos ⟨this, by simpa using hj⟩]
    · rw [if_neg]
      · have e2 : payZ B f c j = 0 := by
          unfold payZ
          rw [if_neg]
          rw [List.getD_eq_getElem?_getD, List.getElem?_eq_getElem hj]
          exact hp
        rw [e2]
        simp [hj]
      · rintro ⟨h1, -⟩
        obtain ⟨x, hx, rfl⟩ := List.mem_map.1 h1
        obtain ⟨k, h2, h3, h4, h5⟩ := wn_mem hx
        rw [Nat.zero_add] at h3
        have : c[x.1]? = some x.2 := by rw [h3]; exact h4
        rw [List.getElem?_eq_getElem hj] at this
        have := Option.some.inj this
        omega
  · rw [if_neg (fun h => hj (by simpa using h.2)), List.getElem?_eq_none (by simpa using hj), List.getElem?_eq_none (by simpa using hj)]

/-- A choice that is told is one: what it names is there. -/
theorem allC_ok : ∀ {B : Ins} {f : Nat} {c : List Int}, c ∈ allC B f → ∀ k (hk : k < c.length), 0 ≤ c[k] → c[k].toNat < (B.getD k []).length
  | [], f, c, hc, k, hk, _ => by
    have : c.length = 0 := by simpa using allC_len hc
    omega
  | l :: R, f, c, hc, k, hk, hp => by
    rw [allC_cons, List.mem_flatMap] at hc
    obtain ⟨o, ho, hc⟩ := hc
    split at hc
    · rw [List.mem_map] at hc
      obtain ⟨d, hd, rfl⟩ := hc
      cases k with
      | zero =>
        have hp : 0 ≤ o.1 := hp
        show o.1.toNat < l.length
        rcases opts_mem ho with rfl | ⟨j, hj, rfl, -⟩
        · dsimp only at hp
          omega
        · dsimp only
          omega
      | succ k =>
        have := allC_ok hd k (by simpa using hk) (by simpa using hp)
        simpa using this
    · cases hc
end Go.Proofs.YtidocjgcckcooaaDoor
