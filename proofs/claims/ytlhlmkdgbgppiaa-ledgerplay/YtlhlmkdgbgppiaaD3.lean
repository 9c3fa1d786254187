/- The document's Post. -/
import Derived.Test.YtlhlmkdgbgppiaaD2
import Derived.Deep.SlicePairs
namespace Go.Proofs.Ytlhlmkdgbgppiaa
open Go.RowKit Go.Shelf Go.Maps

/-- Something appended to a row of one's own, or nothing. -/
theorem wpApp {P : Program} {ops : Array Oper} {rest : List Oper} {o : Oper} {a : Act} {Q : Exit → Act → World → Prop} {w : World} (hgd : o.guard = none) (s x : Operand) (t : TypeId)
    (ho : o.op = .call { callee := .builtin .append, args := #[s, x], argTypes := #[t, t] })
    (base : Nat) (e : TypeId) (i : TypeInfo) (z : Value) (size bytes : Nat) (ht : P.underlying t = some (.slice e)) (hi : P.info? e = some i) (hz : i.zero = some z)
    (hsize : i.size = size) (hby : i.bytes = bytes) (hzs : z.cells.size = size) (hsz : 0 < size)
    (v : Value) (n : Nat) (xs : List Value) (hs : a.eval s = v) (hown : w.ownsRow base e size v n xs)
    (ao : Option Addr) (m c : Nat) (news : List Value) (hx : a.eval x = .slice ao m c) (hno : ao = none → c = 0 ∧ m = 0) (hl : news.length = m * size) (hnews : ∀ ad, ao = some ad → ∀ j u, news[j]? = some u → w.cell? (ad.add j) = some u) (h1 : ∀ u ∈ news, u.oneCell' = true)
    (h63 : n + m ≤ maxLen) (hbytes : (n + m) * bytes ≤ 140737488355328) (hbase : base ≤ w.heap.size)
    (h : ∀ v' w', w'.ownsRow base e size v' (n + m) (xs ++ news) → Frm (fun k => v.ownBlock = some k) w w' → wpList P ops Q rest (a.put o.dst v') w') : wpList P ops Q (o :: rest) a w := by
  cases ao with
  | none =>
    obtain ⟨rfl, rfl⟩ := hno rfl
    have hn : news = [] := List.eq_nil_of_length_eq_zero (by omega)
    subst hn
    refine wpList_append_own_none hgd s x t ho base e i size ht hi v n xs hs hown hx ?_
    refine h v w ?_ (Frm.refl _ _)
    simpa using hown
  | some ad =>
    refine wpList_append_own _ hgd s x t ho base e i z size bytes ht hi hz hsize hby hzs hsz v n xs hs hown ad m c news hx hl (hnews ad rfl) h1 h63 hbytes hbase ?_
    intro v' w' hr hg _
    exact h v' w' hr (Frm.grown (Frm.refl _ _) hg (fun k hk => Or.inr hk))

theorem infoQ : (Try.prog.info? 39).map (fun i => (i.zero, i.size, i.bytes)) = some (some (.slice none 0 0), 1, 24) := by kernel_rfl
theorem infoE : (Try.prog.info? 76).map (fun i => (i.zero, i.size, i.bytes)) = some (some (.agg #[.string .empty, .int .i64 0]), 2, 24) := by kernel_rfl
theorem slice_one {ao : Option Addr} {n c : Nat} : (Value.slice ao n c).oneCell' = true := rfl
theorem flatS_one : ∀ (p : List Es), ∀ u ∈ flatS p, u.oneCell' = true
  | [], u, hu => by cases hu
  | e :: p, u, hu => by
    simp only [flatS, List.mem_cons] at hu
    rcases hu with rfl | rfl | hu
    · rfl
    · rfl
    · exact flatS_one p u hu
theorem esc_cells {w : World} {ad : Addr} {E : List Es} (h : EsC w (some ad) E) (j : Nat) (u : Value) (hu : (flatS E)[j]? = some u) : w.cell? (ad.add j) = some u := by
  have hj : j < E.length * 2 := by rw [← flatS_length]; exact (List.getElem?_eq_some_iff.1 hu).1
  obtain ⟨g, o, e, c0, c1⟩ := h (j / 2) (by omega)
  simp only [Option.some.injEq] at e
  subst e
  have hg := flatS_get E (j / 2) (by omega)
  rw [Addr.add_lit]
  have h2 : j % 2 = 0 ∨ j % 2 = 1 := by omega
  rcases h2 with h2 | h2
  · have e2 : j = j / 2 * 2 := by omega
    rw [e2] at hu ⊢
    rw [hg.1] at hu
    simp only [Option.some.injEq] at hu
    rw [← hu]
    simpa using c0
  · have e2 : j = j / 2 * 2 + 1 := by omega
    rw [e2] at hu ⊢
    rw [hg.2] at hu
    simp only [Option.some.injEq] at hu
    rw [← hu]
    have : (j / 2 * 2 + 1) / 2 = j / 2 := by omega
    rw [← Nat.add_assoc]
    simpa [this] using c1
/-- A row of entries of one's own, as entries. -/
theorem owns_ents {w : World} {B n : Nat} {v : Value} {E : List Es} (h : w.ownsRow B 76 2 v n (flatS E)) (hn : n = E.length) : SlE w (fun k => v.ownBlock = some k) v E := by
  subst hn
  rcases h.2 with ⟨rfl, h0⟩ | ⟨g, cap, cur, rfl, h3, h4, h5, h6, h7, h8⟩
  · have : E = [] := List.eq_nil_of_length_eq_zero h0
    subst this
    exact ⟨none, 0, rfl, fun i hi => by simp at hi, fun a h => by cases h⟩
  · refine ⟨_, cap, rfl, fun i hi => ?_, fun a ha => ?_⟩
    · have hg := flatS_get E i hi
      have h9 : ∀ j, j < E.length * 2 → cur[j]? = (flatS E)[j]? := fun j hj => by
        have := congrArg (fun l => l[j]?) h8
        rw [List.getElem?_take_of_lt (by omega)] at this
        simpa using this
      refine ⟨g, 0, rfl, ?_, ?_⟩
      · rw [Nat.zero_add]
        exact blk_cells h4 ((h9 _ (by omega)).trans hg.1)
      · rw [Nat.zero_add]
        exact blk_cells h4 ((h9 _ (by omega)).trans hg.2)
    · simp only [Option.some.injEq] at ha
      subst ha
      rfl

/-- The values of the postings. -/
theorem SlP.vals {w : World} {D : Nat → Prop} {v : Value} {P : List (List Es)} (h : SlP w D v P) : ∃ ao c, ∃ V : List Value, v = .slice ao P.length c ∧ V.length = P.length ∧ (ao = none → c = 0 ∧ P.length = 0) ∧ (∀ ad, ao = some ad → ∀ j u, V[j]? = some u → w.cell? (ad.add j) = some u) ∧ (∀ i, i < P.length → SlE w D (V.getD i undef) (P.getD i [])) := by
  obtain ⟨ao, c, rfl, h1, h2, h3⟩ := h
  have each : ∀ i, i < P.length → ∃ u, (∀ ad, ao = some ad → w.cell? (ad.add i) = some u) ∧ SlE w D u (P.getD i []) := fun i hi => by
    obtain ⟨g, o, u, rfl, hc, hu⟩ := h3 i hi
    refine ⟨u, fun ad e => ?_, by rw [getD_get hi]; exact hu⟩
    simp only [Option.some.injEq] at e
    subst e
    rw [Addr.add_lit]
    exact hc
  obtain ⟨F, hF⟩ := Deep.choose_lt each
  refine ⟨ao, c, (List.range P.length).map F, rfl, by simp, fun e => ⟨h2 e, ?_⟩, fun ad e j u hu => ?_, fun i hi => ?_⟩
  · by_cases h0 : 0 < P.length
    · obtain ⟨g, o, u, e2, _⟩ := h3 0 h0
      rw [e] at e2
      cases e2
    · omega
  · have hj : j < P.length := by simpa using (List.getElem?_eq_some_iff.1 hu).1
    simp [hj] at hu
    rw [← hu]
    exact (hF j hj).1 ad e
  · have : ((List.range P.length).map F).getD i undef = F i := by simp [List.getD_eq_getElem?_getD, hi]
    rw [this]
    exact (hF i hi).2
theorem SlS.wide {w : World} {D D' : Nat → Prop} {v : Value} {E : List (List UInt8)} (h : SlS w D v E) (hD : ∀ k, D k → D' k) : SlS w D' v E := by
  obtain ⟨ao, c, h1, h2, h3, h4⟩ := h
  exact ⟨ao, c, h1, h2, fun a e => hD _ (h3 a e), h4⟩
theorem SlN.wide {w : World} {D D' : Nat → Prop} {v : Value} {E : List Int} (h : SlN w D v E) (hD : ∀ k, D k → D' k) : SlN w D' v E := by
  obtain ⟨ao, c, h1, h2, h3, h4⟩ := h
  exact ⟨ao, c, h1, h2, fun a e => hD _ (h3 a e), h4⟩
theorem SlE.one {w : World} {D : Nat → Prop} {v : Value} {E : List Es} (h : SlE w D v E) : v.oneCell' = true := by
  obtain ⟨ao, c, rfl, _⟩ := h
  rfl
theorem SlE.wide {w : World} {D D' : Nat → Prop} {v : Value} {E : List Es} (h : SlE w D v E) (hD : ∀ k, D k → D' k) : SlE w D' v E := by
  obtain ⟨ao, c, h1, h2, h3⟩ := h
  exact ⟨ao, c, h1, h2, fun a e => hD _ (h3 a e)⟩
theorem owns_posts {w : World} {B n : Nat} {v : Value} {D : Nat → Prop} {V : List Value} {P : List (List Es)} (h : w.ownsRow B 39 1 v n V) (hn : n = P.length) (hp : ∀ i, i < P.length → SlE w D (V.getD i undef) (P.getD i [])) : SlP w (fun k => D k ∨ B ≤ k ∧ k < w.heap.size) v P := by
  subst hn
  have hlt := h.lt
  rcases h.2 with ⟨rfl, h0⟩ | ⟨g, cap, cur, rfl, h3, h4, h5, h6, h7, h8⟩
  · exact ⟨none, 0, by rw [h0], fun a h => (by cases h), fun _ => rfl, fun i hi => by omega⟩
  · refine ⟨_, cap, rfl, fun a ha => ?_, fun h => (by cases h), fun i hi => ?_⟩
    · simp only [Option.some.injEq] at ha
      subst ha
      exact Or.inr (hlt g rfl)
    · have hVl : V.length = P.length := by
        have := congrArg List.length h8
        rw [List.length_take] at this
        have h9 := h7
        simp at this h9
        omega
      have h9 : (cur.toList.take (P.length * 1))[i]? = V[i]? := by rw [h8]
      rw [List.getElem?_take_of_lt (by omega)] at h9
      have hi2 : i < V.length := by omega
      refine ⟨g, 0, V.getD i undef, rfl, ?_, ?_⟩
      · rw [Nat.zero_add]
        refine blk_cells h4 ?_
        rw [getD_get hi2]
        simpa [hi2] using h9
      · have := (hp i hi).wide (D' := fun k => D k ∨ B ≤ k ∧ k < w.heap.size) (fun k h => Or.inl h)
        rwa [getD_get hi] at this

set_option maxRecDepth 100000 in
set_option maxHeartbeats 8000000 in
theorem dpost_good (rb : Nat) (D : Nat → Prop) (L : List (List UInt8)) (B : List Int) (P : List (List Es)) (ao : Option Addr) (c : Nat) (p : List Es) (w : World) (h : Doc w rb D L B P) (hL : L.length ≤ 1048576) (hB : B.length = L.length) (hP : P.length ≤ 200) (hk : ∀ q ∈ P, OkN q) (hp : EsC w ao p) (hno : ao = none → c = 0) (hD : ∀ k, D k → k ≠ rb ∧ k < w.heap.size) (hz : dmayZ L B P p = 0) :
    Calls Try.prog 24 #[.pointer (some ⟨rb, 0, none⟩), .slice ao p.length c] w fun e w' => e = .returned (.tuple #[.int .i64 (P.length : Int), .int .i64 0]) ∧ Doc w' rb (fun k => D k ∨ w.heap.size ≤ k ∧ k < w'.heap.size) L B (P ++ [p]) ∧ Frm (fun k => k = rb) w w' := by
  have kM := hid (dmay_any rb D L B P ao c p w h hL hB hP hk hp)
  rw [hz] at kM
  have hp0 : 0 < p.length ∧ p.length ≤ 128 := by
    unfold dmayZ at hz
    split at hz
    · cases hz
    · omega
  obtain ⟨i1, hi1, hz1, hs1, hb1⟩ := info_parts infoQ
  obtain ⟨i2, hi2, hz2, hs2, hb2⟩ := info_parts infoE
  have kh := hid h
  have kp := hid hp
  clear h hp hz hk
  go_enter Try.func24, Try.ntmps24
  go_wp2_with fail
  refine kM.out.mono ?_
  rintro e w1 ⟨rfl, o1⟩
  obtain ⟨nv, lv, qv, hb, hn, hl, hq⟩ := kh.out.old o1
  obtain ⟨aq, cq, V, rfl, hVl, hqn, hqc, hqe⟩ := hq.vals
  have d2 : w1.cell? ⟨rb, 2, none⟩ = some (.slice aq P.length cq) := blk_cells hb rfl
  have hp1 := kp.out.old o1
  have kb := hid hb
  have kn := hid hn
  have kl := hid hl
  have kqe := hid hqe
  have ko1 := hid o1
  have hone : ∀ u ∈ V, u.oneCell' = true := fun u hu => by
    obtain ⟨i, hi, rfl⟩ := List.mem_iff_getElem.1 hu
    have := (hqe i (by omega)).one
    rwa [getD_get hi] at this
  have hnil1 : w1.ownsRow w.heap.size 39 1 (.slice none 0 0) 0 [] := ⟨rfl, Or.inl ⟨rfl, rfl⟩⟩
  have hpn : ao = none → c = 0 ∧ p.length = 0 := fun e => ⟨hno e, by
    obtain ⟨g, o, e2, _⟩ := hp1 0 hp0.1
    rw [e] at e2
    cases e2⟩
  have hws := o1.size
  clear hb hn hl hq hqe o1
  go_wp2_with (at_builtin; refine wpApp rfl _ _ 35 rfl w.heap.size 39 i1 (.slice none 0 0) 1 24 Try.underlying35 hi1 hz1 hs1 hb1 rfl (by omega) (.slice none 0 0) 0 [] rfl hnil1 aq P.length cq V rfl hqn (by omega) hqc hone (by unfold maxLen; omega) (by omega) hws ?_)
  intro v2 w2 r2 f2
  have o2 : Old w1 w2 := Frm.mono f2 (fun _ _ e => by simp [Value.ownBlock] at e)
  have r2' : w2.ownsRow w.heap.size 39 1 v2 P.length V := by simpa using r2
  have hp2 := hp1.old o2
  have hnil2 : w2.ownsRow w.heap.size 76 2 (.slice none 0 0) 0 [] := ⟨rfl, Or.inl ⟨rfl, rfl⟩⟩
  have hws2 := o2.size
  have ko2 := hid (ko1.out.trans o2)
  have ko12 := hid o2
  clear r2 f2 hqc hp1 hnil1 o2
  go_wp2_with (at_builtin; refine wpApp rfl _ _ 39 rfl w.heap.size 76 i2 (.agg #[.string .empty, .int .i64 0]) 2 24 Try.underlying39 hi2 hz2 hs2 hb2 rfl (by omega) (.slice none 0 0) 0 [] rfl hnil2 ao p.length c (flatS p) rfl hpn (flatS_length p) (fun ad e j u hu => by subst e; exact esc_cells hp2 j u hu) (flatS_one p) (by unfold maxLen; omega) (by omega) (by omega) ?_)
  intro v3 w3 r3 f3
  have o3 : Old w2 w3 := Frm.mono f3 (fun _ _ e => by simp [Value.ownBlock] at e)
  have r3' : w3.ownsRow w.heap.size 76 2 v3 p.length (flatS p) := by simpa using r3
  have hE3 := owns_ents r3' rfl
  have r23 := owns_kept r2' (fun k hk => o3.block k (r2'.lt k hk).2 (fun h => h))
  obtain ⟨a3, c3, hv3, -⟩ := id hE3
  subst hv3
  have o4 : Old w3 (w3.alloc (.cells #[.slice a3 p.length c3] 39)) := (Old.refl w3).alloc _
  have n4 := new_cell w3 #[.slice a3 p.length c3] 39 0 _ rfl
  have z4 := alloc_size w3 (.cells #[.slice a3 p.length c3] 39)
  have r24 := owns_kept r23 (fun k hk => o4.block k (r23.lt k hk).2 (fun h => h))
  have hnv2 : ∀ k, (Value.slice a3 p.length c3).ownBlock = some k → v2.ownBlock ≠ some k := fun k h1 h2 => by
    obtain ⟨cur, hc⟩ := owns_block r23 h2
    obtain ⟨cur', hc'⟩ : ∃ cur, w3.heap[k]? = some (.cells cur 76 (0, 0)) := by
      rcases r3'.2 with h | ⟨g', cap, cur, e, h3, h4, h5⟩
      · rcases h with ⟨e, _⟩
        rw [e] at h1
        simp [Value.ownBlock] at h1
      · rw [e] at h1
        simp [Value.ownBlock] at h1
        subst h1
        exact ⟨cur, h4⟩
    rw [hc] at hc'
    simp at hc'
  have hge3 : ∀ k, (Value.slice a3 p.length c3).ownBlock = some k → w.heap.size ≤ k ∧ k < w3.heap.size := fun k hk => r3'.lt k hk
  have kE4 := hid (hE3.frm o4 (fun _ _ h => h))
  have ko4 := hid ((ko2.out.trans o3).trans o4)
  have ko24 := hid (ko12.out.trans (o3.trans o4))
  have hws3 := o3.size
  have hcell : ∀ ad, (some (⟨w3.heap.size, 0, none⟩ : Addr)) = some ad → ∀ (j : Nat) (u : Value), [Value.slice a3 p.length c3][j]? = some u → (w3.alloc (.cells #[.slice a3 p.length c3] 39)).cell? (ad.add j) = some u := fun ad e j u hu => by
    simp only [Option.some.injEq] at e
    subst e
    match j, hu with
    | 0, hu =>
      simp only [List.getElem?_cons_zero, Option.some.injEq] at hu
      subst hu
      rw [Addr.add_lit]
      exact n4
  clear r3 f3 r3' hnil2 hp2 r2' r23 n4 hE3 o3 o4
  go_wp2_with (at_builtin; refine wpApp rfl _ _ 35 rfl w.heap.size 39 i1 (.slice none 0 0) 1 24 Try.underlying35 hi1 hz1 hs1 hb1 rfl (by omega) v2 P.length V rfl r24 (some ⟨w3.heap.size, 0, none⟩) 1 1 [.slice a3 p.length c3] rfl (fun e => by cases e) rfl hcell (by intro u hu; simp at hu; subst hu; rfl) (by unfold maxLen; omega) (by omega) (by rw [z4]; omega) ?_)
  intro v5 w5 r5 f5
  have hv2 : ∀ k, v2.ownBlock = some k → w.heap.size ≤ k := fun k hk => (r24.lt k hk).1
  have hrb := blk_lt kb.out
  have hrbw : rb < w.heap.size := by
    obtain ⟨nv', lv', qv', hb', -⟩ := kh.out
    exact blk_lt hb'
  obtain ⟨a5, c5, hv5⟩ : ∃ a5 c5, v5 = .slice a5 (P.length + 1) c5 := by
    rcases r5.2 with ⟨e, h0⟩ | ⟨g, cap, cur, e, _⟩
    · omega
    · exact ⟨_, _, e⟩
  subst hv5
  have hb5 : w5.heap[rb]? = some (.cells #[nv, lv, .slice aq P.length cq] 37 (0, 0)) := by
    rw [f5.block rb (by have := ko24.out.size; omega) (fun e => by have := hv2 rb e; omega), ko24.out.block rb hrb (fun h => h)]
    exact kb.out
  have e2 : w5.cell? ⟨rb, 2, none⟩ = some (.slice aq P.length cq) := blk_cells hb5 rfl
  have ef := fun i => blk_fz hb5 i
  have hb6 := heap_set (i := 2) (.slice a5 (P.length + 1) c5) hb5
  have e6 : (w5.setCell ⟨rb, 2, none⟩ (.slice a5 (P.length + 1) c5)).cell? ⟨rb, 2, none⟩ = some (.slice a5 (P.length + 1) c5) := blk_cells hb6 (by simp)
  have fs := frm_set w5 rb 2 (.slice a5 (P.length + 1) c5)
  have f15 : Frm (fun k => k = rb ∨ v2.ownBlock = some k) w1 (w5.setCell ⟨rb, 2, none⟩ (.slice a5 (P.length + 1) c5)) :=
    Frm.trans (Frm.trans (Frm.mono ko24.out (fun _ _ h => h.elim)) (Frm.mono f5 (fun _ _ h => Or.inr h)) (fun _ _ h => h)) fs (fun _ _ h => Or.inl h)
  have kD : Hid (∀ k, D k → ¬ (k = rb ∨ v2.ownBlock = some k)) := hid (fun k hk h => by
    have h1 := hD k hk
    rcases h with h | h
    · exact h1.1 h
    · have := hv2 k h; omega)
  have r6 := owns_kept r5 (w' := w5.setCell ⟨rb, 2, none⟩ (.slice a5 (P.length + 1) c5)) (fun k hk => fs.block k (r5.lt k hk).2 (by have := (r5.lt k hk).1; omega))
  have f46 : Frm (fun k => k = rb ∨ v2.ownBlock = some k) _ (w5.setCell ⟨rb, 2, none⟩ (.slice a5 (P.length + 1) c5)) := Frm.trans (Frm.mono f5 (fun _ _ h => Or.inr h)) fs (fun _ _ h => Or.inl h)
  have hlast := kE4.out.frm f46 (fun k hk h => by
    rcases h with h | h
    · have := (hge3 k hk).1; omega
    · exact hnv2 k hk h)
  have hposts := owns_posts (P := P ++ [p]) (D := fun k => D k ∨ (Value.slice a3 p.length c3).ownBlock = some k) r6 (by simp) (fun i hi => by
    have hi' : i < P.length + 1 := by simpa using hi
    by_cases e : i < P.length
    · have := ((kqe.out i e).frm f15 kD.out).wide (D' := fun k => D k ∨ (Value.slice a3 p.length c3).ownBlock = some k) (fun k h => Or.inl h)
      rw [List.getD_eq_getElem?_getD, List.getElem?_append_left (by omega), ← List.getD_eq_getElem?_getD, List.getD_eq_getElem?_getD (l := P ++ [p]), List.getElem?_append_left e, ← List.getD_eq_getElem?_getD]
      exact this
    · obtain rfl : i = P.length := by omega
      have := hlast.wide (D' := fun k => D k ∨ (Value.slice a3 p.length c3).ownBlock = some k) (fun k h => Or.inr h)
      rw [List.getD_eq_getElem?_getD, List.getElem?_append_right (by omega), hVl, Nat.sub_self, List.getD_eq_getElem?_getD, List.getElem?_append_right (by omega), Nat.sub_self]
      exact this)
  have f06 : Frm (fun k => k = rb) w (w5.setCell ⟨rb, 2, none⟩ (.slice a5 (P.length + 1) c5)) := Frm.trans (Frm.mono ko1.out (fun _ _ h => h.elim)) f15 (fun i hi h => by
    rcases h with h | h
    · exact h
    · have := hv2 i h; omega)
  have hz6 : w3.heap.size ≤ (w5.setCell ⟨rb, 2, none⟩ (.slice a5 (P.length + 1) c5)).heap.size := by have := f46.size; omega
  have kDoc : Hid (Doc (w5.setCell ⟨rb, 2, none⟩ (.slice a5 (P.length + 1) c5)) rb (fun k => D k ∨ w.heap.size ≤ k ∧ k < (w5.setCell ⟨rb, 2, none⟩ (.slice a5 (P.length + 1) c5)).heap.size) L B (P ++ [p])) := by
    refine ⟨nv, lv, .slice a5 (P.length + 1) c5, by simpa using hb6, (kn.out.frm f15 kD.out).wide (fun k h => Or.inl h), (kl.out.frm f15 kD.out).wide (fun k h => Or.inl h), ?_⟩
    obtain ⟨b1, b2, b3, b4, b5, b6⟩ := hposts
    refine ⟨b1, b2, b3, fun a ha => ?_, b5, fun i hi => ?_⟩
    · rcases b4 a ha with (h | h) | h
      · exact Or.inl h
      · exact Or.inr (by have := hge3 _ h; omega)
      · exact Or.inr h
    · obtain ⟨q1, q2, q3, q4, q5, q6⟩ := b6 i hi
      refine ⟨q1, q2, q3, q4, q5, q6.wide (fun k h => ?_)⟩
      rcases h with (h | h) | h
      · exact Or.inl h
      · exact Or.inr (by have := hge3 _ h; omega)
      · exact Or.inr h
  have kf06 := hid f06
  clear hposts hlast f46 f15 f06 fs r6 r5 f5 hb6 hb5 hz6
  go_wp2_with fail
  go_ret2
  exact ⟨rfl, kDoc.out, kf06.out⟩
end Go.Proofs.Ytlhlmkdgbgppiaa
