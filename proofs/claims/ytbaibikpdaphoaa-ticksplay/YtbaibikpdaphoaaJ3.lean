/- The document's calendar: asked, dropped, copied. -/
import Derived.Test.YtbaibikpdaphoaaJ2
namespace Go.Proofs.Ytbaibikpdaphoaa
open Go.RowKit Go.Lib Go.Maps

/-- What the document's At finds. -/
def atR (n : Int) : List Due → Option Int
  | [] => none
  | x :: R => if x.2 = n then some x.1 else atR n R

theorem atR_at {n : Int} : ∀ {L : List Due} {k : Nat}, k < L.length → (∀ i, i < k → (at' L i).2 ≠ n) → (at' L k).2 = n → atR n L = some (at' L k).1
  | x :: L, 0, _, _, h => by
    have : x.2 = n := by simpa [at'] using h
    unfold atR; rw [if_pos this]; simp [at']
  | x :: L, k + 1, hk, h1, h2 => by
    have h0 : x.2 ≠ n := by simpa [at'] using h1 0 (by omega)
    unfold atR; rw [if_neg h0]
    have := atR_at (L := L) (k := k) (by simpa using hk) (fun i hi => by simpa [at'] using h1 (i + 1) (by omega)) (by simpa [at'] using h2)
    simpa [at'] using this

theorem atR_none {n : Int} : ∀ {L : List Due}, (∀ i, i < L.length → (at' L i).2 ≠ n) → atR n L = none
  | [], _ => rfl
  | x :: L, h => by
    have h0 : x.2 ≠ n := by simpa [at'] using h 0 (by simp)
    unfold atR; rw [if_neg h0]
    exact atR_none (fun i hi => by simpa [at'] using h (i + 1) (by simpa using hi))

def atV : Option Int → Int
  | some t => t
  | none => 0
def atE : Option Int → Int
  | some _ => 0
  | none => 4

set_option maxRecDepth 100000 in
set_option maxHeartbeats 4000000 in
theorem refat_any (rb : Nat) (Z : Nat → Prop) (now n : Int) (L : List Due) (w : World) (h : Doc w rb Z now L) (hl : L.length ≤ 1000000) :
    Calls Try.prog 34 #[.pointer (some ⟨rb, 0, none⟩), .int .i64 n] w fun e w' => e = .returned (.tuple #[.int .i64 (atV (atR n L)), .int .i64 (atE (atR n L))]) ∧ w' = w := by
  obtain ⟨ao, cap, h1, h2, h3⟩ := h
  obtain ⟨c0, c1⟩ := two_cells h1
  have kA := hid h2
  clear h1 h2 h3 c0
  obtain ⟨m, hm⟩ : ∃ m, L.length = m := ⟨_, rfl⟩
  rw [hm] at c1 hl
  have kL := hid hm
  clear hm
  go_enter Try.func34, Try.ntmps34
  go_wp2_with fail
  go_loopw [6] (fun s wr => ∃ k : Nat, k ≤ m ∧ s = .int .i64 (k : Int) ∧ (∀ i, i < k → (at' L i).2 ≠ n) ∧ wr = w) (fun s _ => m - (intOf s).toNat)
  case atStart => exact ⟨0, Nat.zero_le _, rfl, fun i hi => by omega, rfl⟩
  case round =>
    obtain ⟨k, hk, rfl, hbe, rfl⟩ := hrel
    have kB := hid hbe
    clear hbe
    by_cases hkm : k < m
    · obtain ⟨g, o, hao, v0, v1⟩ := kA.out k (by rw [kL.out]; exact hkm)
      have hlt := World.block_lt_of_cell? wr _ v0
      simp only at hlt
      obtain ⟨x, hx⟩ : ∃ x, at' L k = x := ⟨_, rfl⟩
      obtain ⟨t, q⟩ := x
      have kx := hid hx
      rw [hx] at v0 v1
      subst hao
      have e1 : k * 2 = 2 * k := by omega
      clear hx
      by_cases hq : q = n
      · have kR : Hid (atR n L = some t) := by
          have := atR_at (by rw [kL.out]; exact hkm) kB.out (by rw [kx.out]; exact hq)
          rw [kx.out] at this; exact this
        go_wp2_with fail
        go_ret2
        rw [kR.out]
        exact ⟨rfl, rfl⟩
      · go_wp2_with fail
        go_roundw
        case rel => exact ⟨k + 1, by omega, by go_num, fun i hi => by
          by_cases h : i < k
          · exact kB.out i h
          · obtain rfl : i = k := by omega
            rw [kx.out]; exact hq, by first | rfl | trivial⟩
        case measure => simp [intOf]; omega
    · obtain rfl : k = m := by omega
      have kR : Hid (atR n L = none) := atR_none (by rw [kL.out]; exact kB.out)
      go_wp2_with fail
      go_ret2
      rw [kR.out]
      exact ⟨rfl, rfl⟩

set_option maxRecDepth 100000 in
set_option maxHeartbeats 4000000 in
theorem refdrop_none (rb : Nat) (Z : Nat → Prop) (now n : Int) (L : List Due) (w : World) (h : Doc w rb Z now L) (hl : L.length ≤ 1000000) (hn : atR n L = none) :
    Calls Try.prog 32 #[.pointer (some ⟨rb, 0, none⟩), .int .i64 n] w fun e w' => e = .returned (.int .i64 4) ∧ w' = w := by
  have kA := hid (refat_any rb Z now n L w h hl)
  rw [hn] at kA
  go_enter Try.func32, Try.ntmps32
  go_wp2_with fail
  refine kA.out.mono ?_
  rintro e w2 ⟨rfl, e2⟩
  rw [e2]
  clear e2
  simp only [atV, atE]
  go_wp2
  go_ret
  exact ⟨rfl, rfl⟩

set_option maxRecDepth 100000 in
set_option maxHeartbeats 4000000 in
theorem refdrop_some (rb : Nat) (Z : Nat → Prop) (now n t : Int) (L : List Due) (w : World) (h : Doc w rb Z now L) (hl : L.length ≤ 1000000) (hn : atR n L = some t) :
    Calls Try.prog 32 #[.pointer (some ⟨rb, 0, none⟩), .int .i64 n] w fun e w' => e = .returned (.int .i64 0) ∧ DocP w rb Z now (wo n L) w' := by
  have kA := hid (refat_any rb Z now n L w h hl)
  rw [hn] at kA
  have hlt0 := h.lt
  obtain ⟨ao, cap, h1, h2, h3⟩ := h
  obtain ⟨c0, c1⟩ := two_cells h1
  have k1 := hid h1
  have kW := hid (without_any ao cap L.length n L w h2 rfl (by omega))
  clear h1 h2 h3 hl
  generalize L.length = m at c1 k1 kW
  go_enter Try.func32, Try.ntmps32
  go_wp2_with fail
  refine kA.out.mono ?_
  rintro e w2 ⟨rfl, e2⟩
  rw [e2]
  clear e2 w2
  simp only [atV, atE]
  go_wp2_with fail
  refine kW.out.mono ?_
  rintro e w4 ⟨v, rfl, hown, hold⟩
  obtain ⟨ao2, cap2, rfl, hD, h9⟩ := owns_dues hown
  have k4 := hid hold
  have hs4 := hold.size
  have kD := hid hD
  have kE := hid h9
  have hrb : Hid (w4.heap[rb]? = w.heap[rb]?) := k4.out.block rb hlt0 (fun h => h)
  have c2 := k4.out.cell c1
  have f1 : w4.frozen? ⟨rb, 1, none⟩ = false := by
    have := hrb.out; rw [k1.out] at this; simp [World.frozen?, this]
  clear hown hold hD h9
  go_wp2_with fail
  go_ret
  refine ⟨rfl, doc_lay (hrb.out.trans k1.out) kD.out ?_, Frm.setCell (S := fun k => k = rb) (Frm.mono k4.out (fun _ _ h => h.elim)) ⟨rb, 1, none⟩ (Or.inr rfl) _⟩
  rcases kE.out with h | ⟨g, e, h1, h2, h3⟩
  · exact Or.inl h
  · exact Or.inr ⟨g, 0, e, Or.inr (by omega), by omega, h2, h3⟩

set_option maxRecDepth 100000 in
set_option maxHeartbeats 4000000 in
theorem refcopy_any (rb : Nat) (Z : Nat → Prop) (now : Int) (L : List Due) (w : World) (h : Doc w rb Z now L) :
    Calls Try.prog 14 #[.pointer (some ⟨rb, 0, none⟩)] w fun e w' => ∃ rb', e = .returned (.pointer (some ⟨rb', 0, none⟩)) ∧ w.heap.size ≤ rb' ∧ Doc w' rb' Z now L ∧ Old w w' := by
  have kh := hid h
  obtain ⟨ao, cap, h1, h2, h3⟩ := h
  obtain ⟨c0, c1⟩ := two_cells h1
  have kA := hid (And.intro h2 h3)
  clear h1 h2 h3
  obtain ⟨m, hm⟩ : ∃ m, L.length = m := ⟨_, rfl⟩
  rw [hm] at c1
  have km := hid hm
  clear hm
  go_enter Try.func14, Try.ntmps14
  go_wp2_with fail
  go_ret
  have ho : Old w (w.alloc (.cells #[.int .i64 now, .slice ao m cap] 55)) := (Old.refl w).alloc _
  refine ⟨_, rfl, Nat.le_refl _, ⟨ao, cap, by rw [km.out]; exact heap_new _ _, kA.out.1.old ho, ?_⟩, ho⟩
  rcases kA.out.2 with h | ⟨g, o, e, h1, h2, h3⟩
  · exact Or.inl h
  · exact Or.inr ⟨g, o, e, h1, Nat.lt_of_lt_of_le h2 ho.size, h3⟩
end Go.Proofs.Ytbaibikpdaphoaa

/- The document's calendar: what is due. -/
namespace Go.Proofs.Ytbaibikpdaphoaa
open Go.RowKit Go.Lib Go.Maps

set_option maxRecDepth 100000 in
set_option maxHeartbeats 4000000 in
theorem refupto_bad (rb : Nat) (Z : Nat → Prop) (now t z : Int) (L : List Due) (w : World) (h : Doc w rb Z now L) (hz : refE now (t, 0) = z) (hz0 : z ≠ 0) :
    Calls Try.prog 35 #[.pointer (some ⟨rb, 0, none⟩), .int .i64 t] w fun e w' => e = .returned (.tuple #[.slice none 0 0, .int .i64 z]) ∧ w' = w := by
  obtain ⟨ao, cap, h1, h2, h3⟩ := h
  obtain ⟨c0, c1⟩ := two_cells h1
  clear h1 h2 h3
  have kT := hid (fun w => refIs_any t w)
  unfold refE at hz
  simp only at hz
  cases hb : tickB t with
  | false =>
    rw [hb] at kT
    rw [if_neg (by rw [hb]; simp)] at hz
    subst hz
    go_enter Try.func35, Try.ntmps35
    go_wp2_with fail
    refine (kT.out _).mono ?_
    rintro e w2 ⟨rfl, e2⟩
    rw [e2]
    go_wp2
    go_ret2
    exact ⟨rfl, rfl⟩
  | true =>
    rw [hb] at kT
    rw [if_pos ⟨hb, by omega⟩] at hz
    by_cases hlt : t < now
    · rw [if_pos hlt] at hz
      subst hz
      go_enter Try.func35, Try.ntmps35
      go_wp2_with fail
      refine (kT.out _).mono ?_
      rintro e w2 ⟨rfl, e2⟩
      rw [e2]
      go_wp2
      go_ret2
      exact ⟨rfl, rfl⟩
    · rw [if_neg hlt] at hz
      exact absurd hz.symm hz0

theorem due_at {t : Int} {L : List Due} {k : Nat} (hk : k ≤ L.length) (h1 : ∀ i, i < k → (at' L i).1 ≤ t) (h2 : k = L.length ∨ t < (at' L k).1) : due t L = L.take k ∧ rest t L = L.drop k := by
  have h := due_split (t := t) (D := L.take k) (R' := L.drop k) (fun x hx => ?_) ?_
  · rwa [List.take_append_drop] at h
  · obtain ⟨i, hi, e⟩ := List.getElem_of_mem hx
    rw [List.length_take] at hi
    have h3 := h1 i (by omega)
    rw [at_eq (show i < L.length by omega)] at h3
    rw [List.getElem_take] at e
    rw [← e]; exact h3
  · rcases h2 with rfl | h2
    · exact Or.inl (List.drop_length ..)
    · by_cases hl : k < L.length
      · rw [at_eq hl] at h2
        exact Or.inr ⟨L[k], L.drop (k + 1), List.drop_eq_getElem_cons hl, h2⟩
      · exact Or.inl (List.drop_eq_nil_of_le (by omega))

/-- What the document's Upto leaves. -/
def UpD (rb : Nat) (Z : Nat → Prop) (t : Int) (L : List Due) (w : World) (e : Ending) (w' : World) : Prop :=
  ∃ ao cap, e = .returned (.tuple #[.slice ao (due t L).length cap, .int .i64 0]) ∧ DueC w' ao (due t L) ∧ Doc w' rb Z t (rest t L) ∧ Frm (fun k => k = rb) w w'

theorem upD_of {rb m cap k cap1 cap2 : Nat} {Z : Nat → Prop} {t : Int} {L : List Due} {w w1 : World} {ao ao1 ao2 : Option Addr} {e : Ending} (hkE : due t L = L.take k ∧ rest t L = L.drop k) (hk : k ≤ L.length) (hb : w1.heap[rb]? = some (.cells #[.int .i64 t, .slice ao m cap] 55 (0, 0))) (hf : Frm (fun k => k = rb) w w1)
    (he : e = .returned (.tuple #[.slice ao1 k cap1, .int .i64 0])) (h1 : DueC w1 ao1 (L.take k)) (h2 : DueC w1 ao2 (L.drop k)) (hn : ∀ g o, ao1 = some ⟨g, o, none⟩ → g ≠ rb)
    (hE : (ao2 = none ∧ cap2 = 0 ∧ L.drop k = []) ∨ ∃ g o, ao2 = some ⟨g, o, none⟩ ∧ Z g ∧ g ≠ rb ∧ g < w1.heap.size ∧ (L.drop k).length ≤ cap2) : UpD rb Z t L w e (w1.setCell ⟨rb, 1, none⟩ (.slice ao2 (L.drop k).length cap2)) := by
  have hl : (L.take k).length = k := by rw [List.length_take]; omega
  refine ⟨ao1, cap1, by rw [hkE.1, hl]; exact he, ?_, by rw [hkE.2]; exact doc_lay hb h2 hE, Frm.setCell (S := fun k => k = rb) hf ⟨rb, 1, none⟩ (Or.inr rfl) _⟩
  rw [hkE.1]
  intro i hi
  obtain ⟨g, o, e, r0, r1⟩ := h1 i hi
  exact ⟨g, o, e, frm_cell (frm_set _ _ _ _) r0 (hn g o e), frm_cell (frm_set _ _ _ _) r1 (hn g o e)⟩

set_option maxRecDepth 100000 in
set_option maxHeartbeats 4000000 in
theorem refupto_good (rb : Nat) (Z : Nat → Prop) (now t : Int) (L : List Due) (w : World) (h : Doc w rb Z now L) (hZ : ¬ Z rb) (hz : refE now (t, 0) = 0) (hl : L.length ≤ 1000000) :
    Calls Try.prog 35 #[.pointer (some ⟨rb, 0, none⟩), .int .i64 t] w fun e w' => UpD rb Z t L w e w' := by
  have hlt0 := h.lt
  obtain ⟨ao, cap, h1, h2, h3⟩ := h
  obtain ⟨c0, c1⟩ := two_cells h1
  have kT := hid (fun w => refIs_any t w)
  unfold refE at hz
  simp only at hz
  have hb : tickB t = true := by
    cases hb : tickB t with
    | true => rfl
    | false => rw [if_neg (by rw [hb]; simp)] at hz; simp at hz
  have hnl : ¬ t < now := by
    intro hlt; rw [if_pos ⟨hb, by omega⟩, if_pos hlt] at hz; simp at hz
  rw [hb] at kT
  obtain ⟨m, hm⟩ : ∃ m, L.length = m := ⟨_, rfl⟩
  rw [hm] at c1 hl h1
  have k1 := hid h1
  have f0 : w.frozen? ⟨rb, 0, none⟩ = false := by simp [World.frozen?, h1]
  have kA := hid h2
  have k3 := hid h3
  have kL := hid hm
  obtain ⟨w1, e1⟩ : ∃ w1, w.setCell ⟨rb, 0, none⟩ (.int .i64 t) = w1 := ⟨_, rfl⟩
  have fr1 : Frm (fun k => k = rb) w w1 := by rw [← e1]; exact frm_set _ _ _ _
  have hb1 : w1.heap[rb]? = some (.cells #[.int .i64 t, .slice ao m cap] 55 (0, 0)) := by
    rw [← e1]; simp [World.setCell, Array.getElem?_modify, h1]
  obtain ⟨b0, b1⟩ := two_cells hb1
  have f1 : w1.frozen? ⟨rb, 1, none⟩ = false := by simp [World.frozen?, hb1]
  have kb := hid hb1
  have kf := hid fr1
  have kA1 : Hid (DueC w1 ao L) := by
    rcases h3 with ⟨rfl, _, rfl⟩ | ⟨g, o, rfl, hg, _⟩
    · exact fun i hi => by simp at hi
    · exact h2.frm fr1 (fun e => hZ (by rw [← e]; exact hg))
  clear h1 h2 h3 hz hb hm hb1 fr1
  go_enter Try.func35, Try.ntmps35
  go_wp2_with fail
  refine (kT.out _).mono ?_
  rintro e w2 ⟨rfl, e2⟩
  rw [e2]
  clear e2 w2
  go_wp2_with fail
  try rw [e1]
  clear e1
  go_loopw [6] (fun s wr => ∃ k : Nat, k ≤ m ∧ s = .int .i64 (k : Int) ∧ (∀ i, i < k → (at' L i).1 ≤ t) ∧ wr = w1) (fun s _ => m - (intOf s).toNat)
  case atStart => exact ⟨0, Nat.zero_le _, rfl, fun i hi => by omega, rfl⟩
  case round =>
    obtain ⟨k, hk, rfl, hbe, rfl⟩ := hrel
    have kB := hid hbe
    clear hbe
    have hend : ∀ (hk2 : k = L.length ∨ t < (at' L k).1), Hid (due t L = L.take k ∧ rest t L = L.drop k) := fun hk2 => due_at (by rw [kL.out]; exact hk) kB.out hk2
    by_cases hkm : k < m
    · obtain ⟨g, o, hao, v0, v1⟩ := kA1.out k (by rw [kL.out]; exact hkm)
      obtain ⟨x, hx⟩ : ∃ x, at' L k = x := ⟨_, rfl⟩
      obtain ⟨xt, q⟩ := x
      have kx := hid hx
      rw [hx] at v0 v1
      subst hao
      have e1 : k * 2 = 2 * k := by omega
      clear hx
      by_cases hq : xt ≤ t
      · clear hend
        go_wp2_with fail
        go_roundw
        case rel => exact ⟨k + 1, by omega, by go_num, fun i hi => by
          by_cases h : i < k
          · exact kB.out i h
          · obtain rfl : i = k := by omega
            rw [kx.out]; exact hq, by first | rfl | trivial⟩
        case measure => simp [intOf]; omega
      · have kE := hend (Or.inr (by rw [kx.out]; simp only; omega))
        have hcap : Hid (m ≤ cap) := by
          rcases k3.out with ⟨h, _⟩ | ⟨_, _, _, _, _, h⟩
          · cases h
          · rw [kL.out] at h; exact h
        have hkc : k ≤ cap := by have := hcap.out; omega
        have hkc2 : (k : Int) ≤ cap := by omega
        have hck : ¬ cap = k := by have := hcap.out; omega
        have hZg : Hid (Z g ∧ g < w.heap.size) := by
          rcases k3.out with ⟨h, _⟩ | ⟨g', o', h, h1, h2, _⟩
          · cases h
          · cases h; exact ⟨h1, h2⟩
        clear hend
        go_wp2_with fail
        go_ret2
        have hd : (L.drop k).length = m - k := by rw [List.length_drop, kL.out]
        have hgr : g ≠ rb := fun e => hZ (by rw [← e]; exact hZg.out.1)
        rw [← hd]
        refine upD_of (cap1 := cap) kE.out (by rw [kL.out]; exact hk) kb.out kf.out rfl (kA1.out.take k) (by have h9 := kA1.out.drop k; first | exact h9 | (rw [show k * 2 = 2 * k by omega] at h9; exact h9)) (fun g' o' e => by cases e; exact hgr) (Or.inr ⟨g, _, rfl, hZg.out.1, hgr, Nat.lt_of_lt_of_le hZg.out.2 kf.out.size, by rw [hd]; have := hcap.out; omega⟩)
    · obtain rfl : k = m := by omega
      have kE := hend (Or.inl kL.out.symm)
      clear hend
      have hd : Hid ((L.drop k).length = 0) := hid (by rw [List.length_drop, kL.out]; simp)
      have hd0 : Hid (L.drop k = []) := List.eq_nil_of_length_eq_zero hd.out
      cases ao with
      | none =>
        obtain ⟨rfl, hk0⟩ : cap = 0 ∧ k = 0 := by
          rcases k3.out with ⟨_, h, h2⟩ | ⟨_, _, h, _⟩
          · refine ⟨h, ?_⟩
            have := kL.out; rw [h2] at this; simpa using this.symm
          · cases h
        subst hk0
        go_wp2_with fail
        go_ret2
        have h9 := upD_of (Z := Z) (k := 0) (ao1 := none) (cap1 := 0) (ao2 := none) (cap2 := 0) kE.out (Nat.zero_le _) kb.out kf.out rfl (fun i hi => by simp at hi) (fun i hi => by rw [hd0.out] at hi; simp at hi) (fun g o e => by cases e) (Or.inl ⟨rfl, rfl, hd0.out⟩)
        rw [hd.out] at h9
        exact h9
      | some a =>
        obtain ⟨g, o, hZg, hcap, rfl⟩ : ∃ g o, Hid (Z g ∧ g < w.heap.size) ∧ Hid (k ≤ cap) ∧ a = ⟨g, o, none⟩ := by
          rcases k3.out with ⟨h, _⟩ | ⟨g, o, h, h1, h2, h3⟩
          · cases h
          · rw [kL.out] at h3
            exact ⟨g, o, ⟨h1, h2⟩, h3, Option.some.inj h⟩
        have hkc : k ≤ cap := hcap.out
        have hkc2 : (k : Int) ≤ cap := by omega
        have hgr : Hid (g ≠ rb) := fun e => hZ (by rw [← e]; exact hZg.out.1)
        by_cases hck : cap = k
        · go_wp2_with fail
          go_ret2
          have h9 := upD_of (Z := Z) (ao1 := some ⟨g, o, none⟩) (cap1 := k) (ao2 := some ⟨g, o, none⟩) (cap2 := 0) kE.out (by rw [kL.out]; exact Nat.le_refl _) kb.out kf.out rfl (kA1.out.take k) (fun i hi => by rw [hd0.out] at hi; simp at hi) (fun g' o' e => by cases e; exact hgr.out) (Or.inr ⟨g, o, rfl, hZg.out.1, hgr.out, Nat.lt_of_lt_of_le hZg.out.2 kf.out.size, by rw [hd.out]; exact Nat.zero_le _⟩)
          rw [hd.out] at h9
          exact h9
        · go_wp2_with fail
          go_ret2
          have h9 := upD_of (Z := Z) (ao1 := some ⟨g, o, none⟩) (cap1 := cap) (ao2 := some ⟨g, o + k * 2, none⟩) (cap2 := cap - k) kE.out (by rw [kL.out]; exact Nat.le_refl _) kb.out kf.out rfl (kA1.out.take k) (fun i hi => by rw [hd0.out] at hi; simp at hi) (fun g' o' e => by cases e; exact hgr.out) (Or.inr ⟨g, o + k * 2, rfl, hZg.out.1, hgr.out, Nat.lt_of_lt_of_le hZg.out.2 kf.out.size, by rw [hd.out]; exact Nat.zero_le _⟩)
          rw [hd.out] at h9
          exact h9
end Go.Proofs.Ytbaibikpdaphoaa
