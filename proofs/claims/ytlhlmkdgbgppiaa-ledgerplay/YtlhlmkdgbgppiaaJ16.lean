/- The document's Back: its cases. -/
import Derived.Test.YtlhlmkdgbgppiaaDB
namespace Go.Proofs.Ytlhlmkdgbgppiaa
open Go.RowKit Go.Shelf Go.Maps

theorem SlP.wide {w : World} {D D' : Nat → Prop} {v : Value} {P : List (List Es)} (h : SlP w D v P) (hD : ∀ k, D k → D' k) : SlP w D' v P := by
  obtain ⟨ao, c, rfl, h1, h2, h3⟩ := h
  refine ⟨ao, c, rfl, fun a e => hD _ (h1 a e), h2, fun i hi => ?_⟩
  obtain ⟨g, o, u, e, hc, hu⟩ := h3 i hi
  exact ⟨g, o, u, e, hc, hu.wide hD⟩
theorem Doc.wide {w : World} {rb : Nat} {D D' : Nat → Prop} {L : List (List UInt8)} {B : List Int} {P : List (List Es)} (h : Doc w rb D L B P) (hD : ∀ k, D k → D' k) : Doc w rb D' L B P := by
  obtain ⟨nv, lv, qv, h1, h2, h3, h4⟩ := h
  exact ⟨nv, lv, qv, h1, h2.wide hD, h3.wide hD, h4.wide hD⟩

set_option maxRecDepth 100000 in
theorem dback_no (rb : Nat) (D : Nat → Prop) (L : List (List UInt8)) (B : List Int) (P : List (List Es)) (n : Int) (w : World) (h : Doc w rb D L B P) (hn : ¬ (0 ≤ n ∧ n < P.length)) :
    Calls Try.prog 34 #[.pointer (some ⟨rb, 0, none⟩), .int .i64 n] w fun e w' => e = .returned (.tuple #[.int .i64 0, .int .i64 4]) ∧ w' = w := by
  have kG := hid (dposting_bad rb D L B P n w h hn)
  clear h hn
  go_enter Try.func34, Try.ntmps34
  go_wp2_with fail
  refine kG.out.mono ?_
  rintro e w' ⟨rfl, e2⟩
  rw [e2]
  clear e2
  go_wp2_with fail
  go_ret2
  exact ⟨rfl, rfl⟩

theorem negE_ok {p : List Es} (h : OkN p) : OkN (negE p) where
  len := by simpa [negE] using h.len
  each := fun e he => by
    simp only [negE, List.mem_map] at he
    obtain ⟨a, ha, rfl⟩ := he
    have := h.each a ha
    dsimp only
    omega

theorem dback_bad (rb : Nat) (D : Nat → Prop) (L : List (List UInt8)) (B : List Int) (P : List (List Es)) (k : Nat) (w : World) (h : Doc w rb D L B P) (hn : k < P.length) (hL : L.length ≤ 1048576) (hB : B.length = L.length) (hP : P.length ≤ 200) (hk : ∀ q ∈ P, OkN q) (hz : dmayZ L B P (negE (P.getD k [])) ≠ 0) :
    Calls Try.prog 34 #[.pointer (some ⟨rb, 0, none⟩), .int .i64 (k : Int)] w fun e w' => e = .returned (.tuple #[.int .i64 0, .int .i64 (dmayZ L B P (negE (P.getD k [])))]) ∧ Old w w' := by
  have hok : OkN (P.getD k []) := by rw [getD_get hn]; exact hk _ (List.getElem_mem hn)
  refine (dback_run rb D L B P k w h hn hok 0 (dmayZ L B P (negE (P.getD k []))) (fun W w' => Old W w') ?_).mono ?_
  · intro W oW v hr
    obtain ⟨ao, c, rfl, hE, -⟩ := owns_ents hr rfl
    exact dpost_bad rb D L B P ao c (negE (P.getD k [])) W (h.old oW) hL hB hP hk hE hz
  · rintro e w' ⟨rfl, W, o1, o2⟩
    exact ⟨rfl, o1.trans o2⟩

theorem dback_good (rb : Nat) (D : Nat → Prop) (L : List (List UInt8)) (B : List Int) (P : List (List Es)) (k : Nat) (w : World) (h : Doc w rb D L B P) (hn : k < P.length) (hL : L.length ≤ 1048576) (hB : B.length = L.length) (hP : P.length ≤ 200) (hk : ∀ q ∈ P, OkN q) (hD : ∀ k, D k → k ≠ rb ∧ k < w.heap.size) (hz : dmayZ L B P (negE (P.getD k [])) = 0) :
    Calls Try.prog 34 #[.pointer (some ⟨rb, 0, none⟩), .int .i64 (k : Int)] w fun e w' => e = .returned (.tuple #[.int .i64 (P.length : Int), .int .i64 0]) ∧ Doc w' rb (fun k => D k ∨ w.heap.size ≤ k ∧ k < w'.heap.size) L B (P ++ [negE (P.getD k [])]) ∧ Frm (fun k => k = rb) w w' := by
  have hok : OkN (P.getD k []) := by rw [getD_get hn]; exact hk _ (List.getElem_mem hn)
  refine (dback_run rb D L B P k w h hn hok (P.length : Int) 0 (fun W w' => Doc w' rb (fun k => D k ∨ W.heap.size ≤ k ∧ k < w'.heap.size) L B (P ++ [negE (P.getD k [])]) ∧ Frm (fun k => k = rb) W w') ?_).mono ?_
  · intro W oW v hr
    have hno : ∀ ao c, v = .slice ao (negE (P.getD k [])).length c → ao = none → c = 0 := fun ao c e e2 => by
      subst e2
      rcases hr.2 with ⟨h1, _⟩ | ⟨g, cap, cur, h1, _⟩
      · rw [e] at h1
        injection h1
      · rw [e] at h1
        cases h1
    obtain ⟨ao, c, rfl, hE, -⟩ := owns_ents hr rfl
    exact dpost_good rb D L B P ao c (negE (P.getD k [])) W (h.old oW) hL hB hP hk hE (hno ao c rfl) (fun j hj => ⟨(hD j hj).1, Nat.lt_of_lt_of_le (hD j hj).2 oW.size⟩) hz
  · rintro e w' ⟨rfl, W, o1, hd, f⟩
    refine ⟨rfl, hd.wide (fun j hj => ?_), Frm.trans (Frm.mono o1 (fun _ _ h => h.elim)) f (fun _ _ h => h)⟩
    rcases hj with hj | hj
    · exact Or.inl hj
    · exact Or.inr ⟨Nat.le_trans o1.size hj.1, hj.2⟩
end Go.Proofs.Ytlhlmkdgbgppiaa

/- The law's over: a row written over. -/
namespace Go.Proofs.Ytlhlmkdgbgppiaa
open Go.RowKit Go.Shelf Go.Maps

set_option maxRecDepth 100000 in
set_option maxHeartbeats 2000000 in
theorem over_big (b n c : Nat) (cur : Array Value) (w : World) (h : w.heap[b]? = some (.cells cur 76 (0, 0))) (hn : n * 2 ≤ cur.size) (hl : n ≤ 8796093022208) :
    Calls Try.prog 26 #[.slice (some ⟨b, 0, none⟩) n c] w fun e w' => e = .returned (.tuple #[]) ∧ Frm (fun k => k = b) w w' := by
  have kh : Hid (∃ cr : Array Value, cr.size = cur.size ∧ w.heap[b]? = some (.cells cr 76 (0, 0))) := hid ⟨cur, rfl, h⟩
  have kc := hid hn
  clear h hn
  go_enter Try.func26, Try.ntmps26
  go_wp2_with fail
  go_loopw [2] (fun t wr => ∃ k : Nat, k ≤ n ∧ t = .int .i64 (k : Int) ∧ Hid (∃ cr : Array Value, cr.size = cur.size ∧ wr.heap[b]? = some (.cells cr 76 (0, 0))) ∧ Hid (Frm (fun k => k = b) w wr)) (fun t _ => n - (intOf t).toNat)
  case atStart => exact ⟨0, Nat.zero_le _, rfl, kh, hid (Frm.refl _ _)⟩
  case round =>
    obtain ⟨k, hk, rfl, hR, hF⟩ := hrel
    by_cases hlt : k < n
    · have hk' : (k : Int) < (n : Int) := by omega
      obtain ⟨cr, hcs, hb⟩ := hR.out
      have hc := kc.out
      have l0 : k * 2 < cr.size := by omega
      have l1 : k * 2 + 1 < cr.size := by omega
      have d0 : wr.cell? ⟨b, k * 2, none⟩ = some cr[k * 2] := blk_cells hb (Array.getElem?_eq_getElem l0)
      have d1 : wr.cell? ⟨b, k * 2 + 1, none⟩ = some cr[k * 2 + 1] := blk_cells hb (Array.getElem?_eq_getElem l1)
      have f0 := fun i => blk_fz hb i
      have kN := hid (heap_set (i := k * 2 + 1) (.int .i64 9) (heap_set (i := k * 2) (.string ⟨#[103, 111, 110, 101]⟩) hb))
      have kF := hid (Frm.trans (Frm.trans hF.out (frm_set wr b (k * 2) (.string ⟨#[103, 111, 110, 101]⟩)) (fun _ _ h => h)) (frm_set _ b (k * 2 + 1) (.int .i64 9)) (fun _ _ h => h))
      have kS : Hid (((cr.setIfInBounds (k * 2) (.string ⟨#[103, 111, 110, 101]⟩)).setIfInBounds (k * 2 + 1) (.int .i64 9)).size = cur.size) := hid (by simpa using hcs)
      generalize cr[k * 2] = z0 at *
      generalize cr[k * 2 + 1] = z1 at *
      clear hb hc l0 l1 hcs
      go_wp2_with fail
      go_roundw
      case rel => exact ⟨k + 1, by omega, by go_num, hid ⟨_, kS.out, kN.out⟩, kF⟩
      case measure => simp [intOf]; omega
    · obtain rfl : k = n := by omega
      go_wp2_with fail
      try simp only [Exit.inBlock, Exit.then]
      refine bodyPost_end (results_none rfl _ _ _) rfl ?_
      exact ⟨rfl, hF.out⟩
theorem over_any (b n c : Nat) (cur : Array Value) (w : World) (h : w.heap[b]? = some (.cells cur 76 (0, 0))) (hn : n * 2 ≤ cur.size) (hl : n ≤ 1048576) :
    Calls Try.prog 26 #[.slice (some ⟨b, 0, none⟩) n c] w fun e w' => e = .returned (.tuple #[]) ∧ Frm (fun k => k = b) w w' :=
  over_big b n c cur w h hn (by omega)
end Go.Proofs.Ytlhlmkdgbgppiaa

/- The law's lent: entries that are lent. -/
namespace Go.Proofs.Ytlhlmkdgbgppiaa
open Go.RowKit Go.Shelf Go.Maps

set_option maxRecDepth 100000 in
set_option maxHeartbeats 4000000 in
theorem lent_any (ao : Option Addr) (c : Nat) (E : List Es) (w : World) (hp : EsC w ao E) (hno : ao = none → c = 0) (hl : E.length ≤ 1000000) :
    Calls Try.prog 22 #[.slice ao E.length c] w fun e w' => ∃ g cap, ∃ cur : Array Value, e = .returned (.slice (some ⟨g, 0, none⟩) E.length cap) ∧ w.heap.size ≤ g ∧ w'.heap[g]? = some (.cells cur 76 (0, 0)) ∧ E.length * 2 ≤ cur.size ∧ EsC w' (some ⟨g, 0, none⟩) E ∧ Old w w' := by
  obtain ⟨i2, hi2, hz2, hs2, hb2⟩ := info_parts infoE
  have kp := hid hp
  have hpn : Hid (ao = none → c = 0 ∧ E.length = 0) := hid (fun h => ⟨hno h, by
    cases hE : E.length with
    | zero => rfl
    | succ n =>
      obtain ⟨g, o, e, -⟩ := hp 0 (by omega)
      rw [h] at e
      cases e⟩)
  have ki := hid hi2
  have kz := hid hz2
  have ks := hid hs2
  have kb := hid hb2
  have kn : Hid (w.ownsRow w.heap.size 76 2 (.slice none 0 0) 0 []) := hid ⟨rfl, Or.inl ⟨rfl, rfl⟩⟩
  clear hp hno hi2 hz2 hs2 hb2
  go_enter Try.func22, Try.ntmps22
  go_wp2_with (at_builtin; refine wpApp rfl _ _ 39 rfl w.heap.size 76 i2 (.agg #[.string .empty, .int .i64 0]) 2 24 Try.underlying39 ki.out kz.out ks.out kb.out rfl (by omega) (.slice none 0 0) 0 [] rfl kn.out ao E.length c (flatS E) rfl hpn.out (flatS_length E) (fun ad e j u hu => by subst e; exact esc_cells kp.out j u hu) (flatS_one E) (by unfold maxLen; omega) (by omega) (Nat.le_refl _) ?_)
  intro v3 w3 r3 f3
  have o3 : Old w w3 := Frm.mono f3 (fun _ _ e => by simp [Value.ownBlock] at e)
  have r3' : w3.ownsRow w.heap.size 76 2 v3 E.length (flatS E) := by simpa using r3
  have r4 := hid (r3'.alloc (.cells #[.string ⟨#[109, 97, 114, 107]⟩, .int .i64 0] 76))
  have o4 := hid (o3.alloc (.cells #[.string ⟨#[109, 97, 114, 107]⟩, .int .i64 0] 76))
  have n3 := new_cell w3 #[.string ⟨#[109, 97, 114, 107]⟩, .int .i64 0] 76 0 _ rfl
  have n4 := new_cell w3 #[.string ⟨#[109, 97, 114, 107]⟩, .int .i64 0] 76 1 _ rfl
  have hv3 := hid (fun k hk => (r3'.lt k hk).1)
  have kE : Hid (EsC (w3.alloc (.cells #[.string ⟨#[109, 97, 114, 107]⟩, .int .i64 0] 76)) (some ⟨w3.heap.size, 0, none⟩) [([109, 97, 114, 107], 0)]) := hid (fun i hi => by
    match i, hi with
    | 0, hi => exact ⟨_, _, rfl, n3, n4⟩)
  have hz := hid (o4.out.size)
  clear r3 f3 r3' o3 n3 n4
  go_wp2_with (at_builtin; refine wpApp rfl _ _ 39 rfl w.heap.size 76 i2 (.agg #[.string .empty, .int .i64 0]) 2 24 Try.underlying39 ki.out kz.out ks.out kb.out rfl (by omega) v3 E.length (flatS E) rfl r4.out (some ⟨w3.heap.size, 0, none⟩) 1 1 (flatS [([109, 97, 114, 107], 0)]) rfl (fun e => by cases e) (flatS_length _) (fun ad e j u hu => by cases e; exact esc_cells kE.out j u hu) (flatS_one _) (by unfold maxLen; omega) (by omega) hz.out ?_)
  intro v5 w5 r5 f5
  have o5 := hid (Frm.trans o4.out f5 (fun i hi e => by have := hv3.out i e; omega) : Old w w5)
  have r6 : w5.ownsRow w.heap.size 76 2 v5 (E.length + 1) (flatS (E ++ [([109, 97, 114, 107], 0)])) := by rw [flatS_app]; exact r5
  have hE6 := owns_ents r6 (by simp)
  obtain ⟨-, h2⟩ := r6
  rcases h2 with ⟨-, h0⟩ | ⟨g, cap, cur, rfl, h3, h4, h5, h6, h7, h8⟩
  · exact absurd h0 (by omega)
  · obtain ⟨a6, c6, e6, hE7, -⟩ := hE6
    have ha : a6 = some ⟨g, 0, none⟩ := by
      injection e6 with e7
      exact e7.symm
    rw [ha] at hE7
    have kE7 : Hid (EsC w5 (some ⟨g, 0, none⟩) E) := hid (fun i hi => by
      obtain ⟨g', o, e, x0, x1⟩ := hE7 i (by rw [List.length_append]; omega)
      rw [List.getElem_append_left hi] at x0 x1
      exact ⟨g', o, e, x0, x1⟩)
    have k4 := hid h4
    have k3 := hid h3
    have hcs : E.length * 2 ≤ cur.size := by omega
    have kcs := hid hcs
    have hcap : E.length + 1 ≤ cap := by omega
    have hcap2 : (E.length : Int) ≤ (cap : Int) := by omega
    clear hE7 h4 h3 h7 h8 e6 r5 f5 hcs
    go_wp2_with fail
    go_ret
    exact ⟨g, _, cur, rfl, k3.out, k4.out, kcs.out, kE7.out, o5.out⟩
end Go.Proofs.Ytlhlmkdgbgppiaa

/- The document's ledger and the program's, in plain words. -/
namespace Go.Proofs.Ytlhlmkdgbgppiaa
open Go.RowKit Go.Shelf Go.Maps

theorem idx_at' {L : List (List UInt8)} {x : List UInt8} {k : Nat} (h : idx L x = some k) : L.getD k [] = x := by
  have hk := idx_lt h
  unfold idx at h
  split at h
  · simp only [Option.some.injEq] at h
    subst h
    rw [getD_get hk, List.getElem_idxOf]
  · cases h

/-- What the two tell alike. -/
structure Rel (L : List (List UInt8)) (A : List Ac) (B : List Int) (P : List (List Es)) : Prop where
  lb : B = A.map Prod.fst
  has : ∀ k, k < A.length → (A.getD k (0, 0)).2 = ofN P (L.getD k [])

theorem sumE_plan {L : List (List UInt8)} {x : List UInt8} {k : Nat} (hx : idx L x = some k) : ∀ E : List Es, (∀ e ∈ E, idx L e.1 ≠ none) → sumE (planP L E) k = sumN E x
  | [], _ => rfl
  | e :: E, h => by
    have ih := sumE_plan hx E (fun y hy => h y (List.mem_cons_of_mem _ hy))
    have h1 := h e (List.mem_cons_self ..)
    simp only [planP, List.map_cons, sumE, sumN] at *
    rw [ih]
    congr 1
    cases hj : idx L e.1 with
    | none => exact absurd hj h1
    | some j =>
      simp only [Option.getD_some]
      by_cases ej : j = k
      · subst ej
        have : e.1 = x := by rw [← idx_at' hj, idx_at' hx]
        rw [if_pos rfl, if_pos this]
      · have : e.1 ≠ x := fun e2 => ej (by rw [e2, hx] at hj; exact (Option.some.inj hj).symm)
        rw [if_neg ej, if_neg this]

theorem Rel.low {L : List (List UInt8)} {A : List Ac} {B : List Int} {P : List (List Es)} (h : Rel L A B P) (hl : L.length = A.length) {E : List Es} (hE : ∀ e ∈ E, idx L e.1 ≠ none) {e : Es} (he : e ∈ E) : dlowE L B P E e.1 = lowE A (planP L E) ((idx L e.1).getD 0, e.2) := by
  cases hj : idx L e.1 with
  | none => exact absurd hj (hE e he)
  | some k =>
    have hk := idx_lt hj
    unfold dlowE lowE fndZ
    rw [hj]
    refine decide_eq_decide.2 ?_
    simp only [Option.getD_some, Int.toNat_natCast]
    rw [sumE_plan hj E hE, h.has k (by omega), idx_at' hj]
    have : B.getD k 0 = (A.getD k (0, 0)).1 := by
      rw [h.lb, getD_get (by rw [List.length_map]; omega), getD_get (by omega), List.getElem_map]
    rw [this]

theorem Rel.may {L : List (List UInt8)} {A : List Ac} {B : List Int} {P : List (List Es)} (h : Rel L A B P) (hl : L.length = A.length) (E : List Es) : dmayZ L B P E = planZ L A E := by
  unfold dmayZ planZ
  by_cases h4 : ∃ e ∈ E, idx L e.1 = none
  · simp only [if_pos h4]
  · have hE : ∀ e ∈ E, idx L e.1 ≠ none := fun e he e2 => h4 ⟨e, he, e2⟩
    simp only [if_neg h4]
    have hiff : (∃ e ∈ E, dlowE L B P E e.1 = true) ↔ lowB A (planP L E) = true := by
      unfold lowB
      rw [List.any_eq_true]
      constructor
      · rintro ⟨e, he, h1⟩
        exact ⟨((idx L e.1).getD 0, e.2), List.mem_map.2 ⟨e, he, rfl⟩, by rw [← h.low hl hE he]; exact h1⟩
      · rintro ⟨y, hy, h1⟩
        obtain ⟨e, he, rfl⟩ := List.mem_map.1 hy
        exact ⟨e, he, by rw [h.low hl hE he]; exact h1⟩
    simp only [hiff]

theorem sumN_none {x : List UInt8} : ∀ {E : List Es}, (∀ e ∈ E, e.1 ≠ x) → sumN E x = 0
  | [], _ => rfl
  | e :: E, h => by
    simp only [sumN]
    rw [if_neg (h e (List.mem_cons_self ..)), sumN_none (fun y hy => h y (List.mem_cons_of_mem _ hy)), Int.zero_add]

/-- A posting is posted by both. -/
theorem Rel.post {L : List (List UInt8)} {A : List Ac} {B : List Int} {P : List (List Es)} (h : Rel L A B P) (hl : L.length = A.length) (hnd : L.Nodup) {E : List Es} (hE : ∀ e ∈ E, idx L e.1 ≠ none) : Rel L (postA A (planP L E)) B (P ++ [E]) where
  lb := by
    rw [h.lb]
    refine List.ext_getElem (by simp [postA_len]) (fun i h1 h2 => ?_)
    rw [List.length_map] at h1
    have := postA_at (planP L E) A i h1
    rw [getD_get (by rw [postA_len]; exact h1), getD_get h1] at this
    rw [List.getElem_map, List.getElem_map, this]
  has := fun k hk => by
    rw [postA_len] at hk
    rw [postA_at _ _ _ hk, ofN_append, h.has k hk, sumE_plan (idx_at hnd (by omega)) E hE]
    simp [ofN]

/-- An account is opened by both. -/
theorem Rel.opened {L : List (List UInt8)} {A : List Ac} {B : List Int} {P : List (List Es)} (h : Rel L A B P) (hl : L.length = A.length) (x : List UInt8) (b : Int) (hx : ∀ p ∈ P, ∀ e ∈ p, e.1 ≠ x) : Rel (L ++ [x]) (A ++ [(b, 0)]) (B ++ [b]) P where
  lb := by rw [h.lb]; simp
  has := fun k hk => by
    by_cases e : k < A.length
    · rw [getD_get (by simp; omega), List.getElem_append_left e, getD_get (by simp; omega), List.getElem_append_left (by omega)]
      have := h.has k e
      rw [getD_get e, getD_get (by omega)] at this
      exact this
    · obtain rfl : k = A.length := by simp at hk; omega
      rw [getD_get (by simp), List.getElem_append_right (Nat.le_refl _), getD_get (by simp; omega), List.getElem_append_right (by omega)]
      simp only [hl, Nat.sub_self, List.getElem_cons_zero]
      clear hk h
      induction P with
      | nil => rfl
      | cons p P ih =>
        simp only [ofN]
        rw [sumN_none (hx p (List.mem_cons_self ..)), ← ih (fun q hq => hx q (List.mem_cons_of_mem _ hq))]
        rfl
end Go.Proofs.Ytlhlmkdgbgppiaa
