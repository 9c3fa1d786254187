/- The document's Post that is refused, Open, Posting, Copy. -/
import Derived.Test.YtlhlmkdgbgppiaaD3
import Derived.Test.YtlhlmkdgbgppiaaJ11
namespace Go.Proofs.Ytlhlmkdgbgppiaa
open Go.RowKit Go.Shelf Go.Maps

set_option maxRecDepth 100000 in
theorem dpost_bad (rb : Nat) (D : Nat → Prop) (L : List (List UInt8)) (B : List Int) (P : List (List Es)) (ao : Option Addr) (c : Nat) (p : List Es) (w : World) (h : Doc w rb D L B P) (hL : L.length ≤ 1048576) (hB : B.length = L.length) (hP : P.length ≤ 200) (hk : ∀ q ∈ P, OkN q) (hp : EsC w ao p) (hz : dmayZ L B P p ≠ 0) :
    Calls Try.prog 24 #[.pointer (some ⟨rb, 0, none⟩), .slice ao p.length c] w fun e w' => e = .returned (.tuple #[.int .i64 0, .int .i64 (dmayZ L B P p)]) ∧ Old w w' := by
  have kM := hid (dmay_any rb D L B P ao c p w h hL hB hP hk hp)
  have hq : (dmayZ L B P p != 0) = true := by simpa using hz
  clear h hp hz hk
  generalize dmayZ L B P p = z at *
  go_enter Try.func24, Try.ntmps24
  go_wp2_with fail
  refine kM.out.mono ?_
  rintro e w1 ⟨rfl, o1⟩
  have ko := hid o1
  clear o1
  go_wp2_with fail
  go_ret2
  exact ⟨rfl, ko.out⟩

set_option maxRecDepth 100000 in
theorem dposting_bad (rb : Nat) (D : Nat → Prop) (L : List (List UInt8)) (B : List Int) (P : List (List Es)) (n : Int) (w : World) (h : Doc w rb D L B P) (hn : ¬ (0 ≤ n ∧ n < P.length)) :
    Calls Try.prog 33 #[.pointer (some ⟨rb, 0, none⟩), .int .i64 n] w fun e w' => e = .returned (.tuple #[.slice none 0 0, .int .i64 4]) ∧ w' = w := by
  obtain ⟨nv, lv, qv, hb, -, -, ⟨ao, c, rfl, -⟩⟩ := h
  have d2 : w.cell? ⟨rb, 2, none⟩ = some (.slice ao P.length c) := blk_cells hb rfl
  clear hb
  generalize P.length = m at *
  by_cases h1 : n < 0
  · clear hn
    go_enter Try.func33, Try.ntmps33
    go_wp2_with fail
    go_ret2
    exact ⟨rfl, rfl⟩
  · have h2 : (m : Int) ≤ n := by omega
    clear hn
    go_enter Try.func33, Try.ntmps33
    go_wp2_with fail
    go_ret2
    exact ⟨rfl, rfl⟩

set_option maxRecDepth 100000 in
theorem dposting_good (rb : Nat) (D : Nat → Prop) (L : List (List UInt8)) (B : List Int) (P : List (List Es)) (k : Nat) (w : World) (h : Doc w rb D L B P) (hn : k < P.length) :
    Calls Try.prog 33 #[.pointer (some ⟨rb, 0, none⟩), .int .i64 (k : Int)] w fun e w' => ∃ u, e = .returned (.tuple #[u, .int .i64 0]) ∧ SlE w D u (P.getD k []) ∧ w' = w := by
  obtain ⟨nv, lv, qv, hb, -, -, ⟨ao, c, rfl, -, -, hs⟩⟩ := h
  have d2 : w.cell? ⟨rb, 2, none⟩ = some (.slice ao P.length c) := blk_cells hb rfl
  obtain ⟨g, o, u, rfl, hc, hu⟩ := hs k hn
  rw [← getD_get (d := []) hn] at hu
  have ku := hid hu
  obtain ⟨au, cu, hv, -⟩ := hu
  subst hv
  have hn' : (k : Int) < (P.length : Int) := by omega
  have hn0 : ¬ (k : Int) < 0 := by omega
  clear hb hn hs
  generalize P.length = m at *
  generalize P.getD k [] = E at *
  go_enter Try.func33, Try.ntmps33
  go_wp2_with fail
  go_ret2
  exact ⟨_, rfl, ku.out, rfl⟩

set_option maxRecDepth 100000 in
theorem dcopy_any (rb : Nat) (D : Nat → Prop) (L : List (List UInt8)) (B : List Int) (P : List (List Es)) (w : World) (h : Doc w rb D L B P) :
    Calls Try.prog 35 #[.pointer (some ⟨rb, 0, none⟩)] w fun e w' => e = .returned (.pointer (some ⟨w.heap.size, 0, none⟩)) ∧ Doc w' w.heap.size D L B P ∧ Old w w' ∧ w'.heap.size = w.heap.size + 1 := by
  obtain ⟨nv, lv, qv, hb, hn, hl, hq⟩ := h
  have d0 : w.cell? ⟨rb, 0, none⟩ = some nv := blk_cells hb rfl
  have d1 : w.cell? ⟨rb, 1, none⟩ = some lv := blk_cells hb rfl
  have d2 : w.cell? ⟨rb, 2, none⟩ = some qv := blk_cells hb rfl
  have o1 : Old w (w.alloc (.cells #[nv, lv, qv] 37)) := (Old.refl w).alloc _
  have kD : Hid (Doc (w.alloc (.cells #[nv, lv, qv] 37)) w.heap.size D L B P) := ⟨nv, lv, qv, heap_new w _, hn.frm o1 (fun _ _ h => h), hl.frm o1 (fun _ _ h => h), hq.frm o1 (fun _ _ h => h)⟩
  have ko := hid o1
  obtain ⟨a1, c1, rfl, -⟩ := hn
  obtain ⟨a2, c2, rfl, -⟩ := hl
  obtain ⟨a3, c3, rfl, -⟩ := hq
  clear o1 hb
  go_enter Try.func35, Try.ntmps35
  go_wp2_with fail
  go_ret
  exact ⟨rfl, kD.out, ko.out, by simp only [alloc_size]⟩

/-- Why the document opens no account. -/
def dopnZ (L : List (List UInt8)) (x : List UInt8) (b : Int) : Int := if chkZ x ≠ 0 ∨ 0 < b ∨ b < -70368744177664 then 2 else if x ∈ L then 5 else if 65536 ≤ L.length then 3 else 0
theorem fnd_in {L : List (List UInt8)} {x : List UInt8} : 0 ≤ fndZ L x ↔ x ∈ L := by
  unfold fndZ idx
  by_cases h : x ∈ L
  · simp [h]
  · simp [h]

set_option maxRecDepth 100000 in
set_option maxHeartbeats 2000000 in
theorem dopen_bad (rb : Nat) (D : Nat → Prop) (L : List (List UInt8)) (B : List Int) (P : List (List Es)) (x : List UInt8) (b : Int) (w : World) (h : Doc w rb D L B P) (hL : L.length ≤ 1048576) (hz : dopnZ L x b ≠ 0) :
    Calls Try.prog 21 #[.pointer (some ⟨rb, 0, none⟩), .string ⟨x.toArray⟩, .int .i64 b] w fun e w' => e = .returned (.tuple #[.int .i64 0, .int .i64 (dopnZ L x b)]) ∧ w' = w := by
  have kC := hid (dcheck_any x w)
  have kF := hid (dfind_any rb D L B P x w h hL)
  obtain ⟨nv, lv, qv, hb, ⟨ao, c, rfl, -⟩, -, -⟩ := h
  have d0 : w.cell? ⟨rb, 0, none⟩ = some (.slice ao L.length c) := blk_cells hb rfl
  have hin := hid (fnd_in (L := L) (x := x))
  unfold dopnZ at *
  clear hb
  by_cases h1 : chkZ x ≠ 0
  · rw [if_pos (Or.inl h1)]
    have hq : (chkZ x != 0) = true := by simpa using h1
    clear h1 hz
    generalize chkZ x = z at *
    go_enter Try.func21, Try.ntmps21
    go_wp2_with fail
    refine kC.out.mono ?_
    rintro e w' ⟨rfl, e2⟩
    rw [e2]
    clear e2
    go_wp2_with fail
    go_ret2
    exact ⟨rfl, rfl⟩
  · have h1' : chkZ x = 0 := by simpa using h1
    rw [h1'] at kC
    by_cases h2 : 0 < b
    · rw [if_pos (Or.inr (Or.inl h2))]
      clear h1 hz h1'
      go_enter Try.func21, Try.ntmps21
      go_wp2_with fail
      refine kC.out.mono ?_
      rintro e w' ⟨rfl, e2⟩
      rw [e2]
      clear e2
      go_wp2_with fail
      go_ret2
      exact ⟨rfl, rfl⟩
    · by_cases h3 : b < -70368744177664
      · rw [if_pos (Or.inr (Or.inr h3))]
        clear h1 hz h1'
        go_enter Try.func21, Try.ntmps21
        go_wp2_with fail
        refine kC.out.mono ?_
        rintro e w' ⟨rfl, e2⟩
        rw [e2]
        clear e2
        go_wp2_with fail
        go_ret2
        exact ⟨rfl, rfl⟩
      · rw [if_neg (fun h => h.elim h1 (fun h => h.elim h2 h3))] at *
        by_cases h4 : x ∈ L
        · rw [if_pos h4]
          have h4' := hin.out.2 h4
          clear h1 hz h1' h4
          generalize fndZ L x = f at *
          go_enter Try.func21, Try.ntmps21
          go_wp2_with fail
          refine kC.out.mono ?_
          rintro e w' ⟨rfl, e2⟩
          rw [e2]
          clear e2
          go_wp2_with fail
          refine kF.out.mono ?_
          rintro e w' ⟨rfl, e2⟩
          rw [e2]
          clear e2
          go_wp2_with fail
          go_ret2
          exact ⟨rfl, rfl⟩
        · rw [if_neg h4] at *
          have h5 : 65536 ≤ L.length := by
            by_cases h : 65536 ≤ L.length
            · exact h
            · rw [if_neg h] at hz; exact absurd rfl hz
          rw [if_pos h5]
          have h4' : ¬ 0 ≤ fndZ L x := fun h => h4 (hin.out.1 h)
          have h5' : (65536 : Int) ≤ (L.length : Int) := by omega
          clear h1 hz h1' h4 h5 hin
          generalize fndZ L x = f at *
          go_enter Try.func21, Try.ntmps21
          go_wp2_with fail
          refine kC.out.mono ?_
          rintro e w' ⟨rfl, e2⟩
          rw [e2]
          clear e2
          go_wp2_with fail
          refine kF.out.mono ?_
          rintro e w' ⟨rfl, e2⟩
          rw [e2]
          clear e2
          go_wp2_with fail
          go_ret2
          exact ⟨rfl, rfl⟩
end Go.Proofs.Ytlhlmkdgbgppiaa

/- The document's Open. -/
namespace Go.Proofs.Ytlhlmkdgbgppiaa
open Go.RowKit Go.Shelf Go.Maps

theorem strs_one (L : List (List UInt8)) : ∀ u ∈ strs L, u.oneCell' = true := fun u hu => by
  simp only [strs, List.mem_map] at hu
  obtain ⟨y, _, rfl⟩ := hu
  rfl
def nums64 (B : List Int) : List Value := B.map (Value.int .i64)
theorem nums_one (B : List Int) : ∀ u ∈ nums64 B, u.oneCell' = true := fun u hu => by
  simp only [nums64, List.mem_map] at hu
  obtain ⟨y, _, rfl⟩ := hu
  rfl
theorem str_cells {w : World} {ao : Option Addr} {L : List (List UInt8)} (h : StrC w ao L) (ad : Addr) (e : ao = some ad) (j : Nat) (u : Value) (hu : (strs L)[j]? = some u) : w.cell? (ad.add j) = some u := by
  have hj : j < L.length := by
    have := (List.getElem?_eq_some_iff.1 hu).1
    simpa [strs] using this
  obtain ⟨g, o, e2, hc⟩ := h j hj
  rw [e] at e2
  simp only [Option.some.injEq] at e2
  subst e2
  rw [Addr.add_lit, hc]
  simp [strs, hj] at hu
  rw [← hu]
  rfl
theorem num_cells {w : World} {ao : Option Addr} {B : List Int} (h : NumsC .i64 w ao B) (ad : Addr) (e : ao = some ad) (j : Nat) (u : Value) (hu : (nums64 B)[j]? = some u) : w.cell? (ad.add j) = some u := by
  have hj : j < B.length := by
    have := (List.getElem?_eq_some_iff.1 hu).1
    simpa [nums64] using this
  obtain ⟨g, o, e2, hc⟩ := h j hj
  rw [e] at e2
  simp only [Option.some.injEq] at e2
  subst e2
  rw [Addr.add_lit, hc]
  simp [nums64, hj] at hu
  rw [← hu]
theorem owns_strs {w : World} {B n : Nat} {v : Value} {L : List (List UInt8)} (h : w.ownsRow B 9 1 v n (strs L)) (hn : n = L.length) : SlS w (fun k => v.ownBlock = some k) v L := by
  subst hn
  rcases h.2 with ⟨rfl, h0⟩ | ⟨g, cap, cur, rfl, h3, h4, h5, h6, h7, h8⟩
  · exact ⟨none, 0, by rw [h0], fun i hi => by omega, fun a h => (by cases h), fun _ => rfl⟩
  · refine ⟨_, cap, rfl, fun i hi => ⟨g, 0, rfl, ?_⟩, fun a ha => ?_, fun h => (by cases h)⟩
    · rw [Nat.zero_add]
      refine blk_cells h4 ?_
      have h9 : (cur.toList.take (L.length * 1))[i]? = (strs L)[i]? := by rw [h8]
      rw [List.getElem?_take_of_lt (by omega)] at h9
      simpa [strs, hi, strV] using h9
    · simp only [Option.some.injEq] at ha
      subst ha
      rfl
theorem owns_nums {w : World} {B n : Nat} {v : Value} {L : List Int} (h : w.ownsRow B 2 1 v n (nums64 L)) (hn : n = L.length) : SlN w (fun k => v.ownBlock = some k) v L := by
  subst hn
  rcases h.2 with ⟨rfl, h0⟩ | ⟨g, cap, cur, rfl, h3, h4, h5, h6, h7, h8⟩
  · exact ⟨none, 0, by rw [h0], fun i hi => by omega, fun a h => (by cases h), fun _ => rfl⟩
  · refine ⟨_, cap, rfl, fun i hi => ⟨g, 0, rfl, ?_⟩, fun a ha => ?_, fun h => (by cases h)⟩
    · rw [Nat.zero_add]
      refine blk_cells h4 ?_
      have h9 : (cur.toList.take (L.length * 1))[i]? = (nums64 L)[i]? := by rw [h8]
      rw [List.getElem?_take_of_lt (by omega)] at h9
      simpa [nums64, hi] using h9
    · simp only [Option.some.injEq] at ha
      subst ha
      rfl
theorem own_form {w : World} {B : Nat} {e : TypeId} {v : Value} {n : Nat} {xs : List Value} (h : w.ownsRow B e 1 v n xs) : ∃ a c, v = .slice a n c := by
  rcases h.2 with ⟨rfl, h0⟩ | ⟨g, cap, cur, rfl, _⟩
  · exact ⟨none, 0, by rw [h0]⟩
  · exact ⟨_, _, rfl⟩

set_option maxRecDepth 100000 in
set_option maxHeartbeats 8000000 in
theorem dopen_good (rb : Nat) (D : Nat → Prop) (L : List (List UInt8)) (B : List Int) (P : List (List Es)) (x : List UInt8) (b : Int) (w : World) (h : Doc w rb D L B P) (hL : L.length ≤ 1048576) (hB : B.length = L.length) (hD : ∀ k, D k → k ≠ rb ∧ k < w.heap.size) (hz : dopnZ L x b = 0) :
    Calls Try.prog 21 #[.pointer (some ⟨rb, 0, none⟩), .string ⟨x.toArray⟩, .int .i64 b] w fun e w' => e = .returned (.tuple #[.int .i64 (L.length : Int), .int .i64 0]) ∧ Doc w' rb (fun k => D k ∨ w.heap.size ≤ k ∧ k < w'.heap.size) (L ++ [x]) (B ++ [b]) P ∧ Frm (fun k => k = rb) w w' := by
  have kC := hid (dcheck_any x w)
  have kF := hid (dfind_any rb D L B P x w h hL)
  have hfi := fnd_in (L := L) (x := x)
  unfold dopnZ at hz
  split at hz
  · cases hz
  rename_i hh
  split at hz
  · cases hz
  rename_i h4
  split at hz
  · cases hz
  rename_i h5
  have h1 : chkZ x = 0 := by
    by_cases h : chkZ x = 0
    · exact h
    · exact absurd (Or.inl h) hh
  rw [h1] at kC
  have h2 : ¬ 0 < b := fun h => hh (Or.inr (Or.inl h))
  have h3 : ¬ b < -70368744177664 := fun h => hh (Or.inr (Or.inr h))
  have h4' : ¬ 0 ≤ fndZ L x := fun h => h4 (hfi.1 h)
  have h5' : decide ((65536 : Int) ≤ (L.length : Int)) = false := decide_eq_false (by omega)
  obtain ⟨i1, hi1, hz1, hs1, hb1⟩ := info_parts info9
  obtain ⟨i2, hi2, hz2, hs2, hb2⟩ := info_parts infoI
  obtain ⟨nv, lv, qv, hb, ⟨an, cn, rfl, hns, hnD, hn0⟩, ⟨al, cl, rfl, hls, hlD, hl0⟩, hq⟩ := h
  have kq := hid hq
  have hrbw := blk_lt hb
  have d0 : w.cell? ⟨rb, 0, none⟩ = some (.slice an L.length cn) := blk_cells hb rfl
  obtain ⟨aq, cq, hqv, -⟩ := id hq
  have hnn : an = none → cn = 0 ∧ L.length = 0 := fun e => ⟨hn0 e, by
    by_cases h0 : 0 < L.length
    · obtain ⟨g, o, e2, _⟩ := hns 0 h0
      rw [e] at e2
      cases e2
    · omega⟩
  have hln : al = none → cl = 0 ∧ L.length = 0 := fun e => ⟨hl0 e, by
    by_cases h0 : 0 < B.length
    · obtain ⟨g, o, e2, _⟩ := hls 0 h0
      rw [e] at e2
      cases e2
    · omega⟩
  have hnc := hid (str_cells hns)
  have knn := hid hnn
  have kln := hid hln
  have kBl := hid hB
  have khD := hid hD
  have knD := hid hnD
  have klD := hid hlD
  have kn0 := hid hn0
  have kl0 := hid hl0
  have kls := hid hls
  have kb := hid hb
  have hnil : w.ownsRow w.heap.size 9 1 (.slice none 0 0) 0 [] := ⟨rfl, Or.inl ⟨rfl, rfl⟩⟩
  clear hz hh h4 h5 hfi h1 hq hb hls hns hnn hln hB hD hnD hlD hn0 hl0
  generalize fndZ L x = f at *
  go_enter Try.func21, Try.ntmps21
  go_wp2_with fail
  refine kC.out.mono ?_
  rintro e w' ⟨rfl, e2⟩
  rw [e2]
  clear e2
  go_wp2_with fail
  refine kF.out.mono ?_
  rintro e w' ⟨rfl, e2⟩
  rw [e2]
  clear e2
  go_wp2_with (at_builtin; refine wpApp rfl _ _ 33 rfl w.heap.size 9 i1 (.string .empty) 1 16 Try.underlying33 hi1 hz1 hs1 hb1 rfl (by omega) (.slice none 0 0) 0 [] rfl hnil an L.length cn (strs L) rfl knn.out (by simp [strs]) hnc.out (strs_one L) (by unfold maxLen; omega) (by omega) (Nat.le_refl _) ?_)
  intro v2 w2 r2 f2
  have o2 : Old w w2 := Frm.mono f2 (fun _ _ e => by simp [Value.ownBlock] at e)
  have r2' : w2.ownsRow w.heap.size 9 1 v2 L.length (strs L) := by simpa using r2
  have o3 : Old w2 (w2.alloc (.cells #[.string ⟨x.toArray⟩] 9)) := (Old.refl w2).alloc _
  have n3 := new_cell w2 #[.string ⟨x.toArray⟩] 9 0 _ rfl
  have r23 := owns_kept r2' (fun k hk => o3.block k (r2'.lt k hk).2 (fun h => h))
  have hc3 : ∀ ad, (some (⟨w2.heap.size, 0, none⟩ : Addr)) = some ad → ∀ (j : Nat) (u : Value), [strV x][j]? = some u → (w2.alloc (.cells #[.string ⟨x.toArray⟩] 9)).cell? (ad.add j) = some u := fun ad e j u hu => by
    simp only [Option.some.injEq] at e
    subst e
    match j, hu with
    | 0, hu =>
      simp only [List.getElem?_cons_zero, Option.some.injEq] at hu
      subst hu
      rw [Addr.add_lit]
      exact n3
  have hz3 := (o2.trans o3).size
  have ko3 := hid (o2.trans o3)
  clear r2 f2 hnc hnil r2' n3 o3
  go_wp2_with (at_builtin; refine wpApp rfl _ _ 33 rfl w.heap.size 9 i1 (.string .empty) 1 16 Try.underlying33 hi1 hz1 hs1 hb1 rfl (by omega) v2 L.length (strs L) rfl r23 (some ⟨w2.heap.size, 0, none⟩) 1 1 [strV x] rfl (fun e => by cases e) rfl hc3 (by intro u hu; simp at hu; subst hu; rfl) (by unfold maxLen; omega) (by omega) hz3 ?_)
  intro v4 w4 r4 f4
  rw [← strs_snoc] at r4
  have hv2 : ∀ k, v2.ownBlock = some k → w.heap.size ≤ k := fun k hk => (r23.lt k hk).1
  have f04 : Frm (fun k => v2.ownBlock = some k) w w4 := Frm.trans (Frm.mono ko3.out (fun _ _ h => h.elim)) f4 (fun _ _ h => h)
  have o04 : Old w w4 := Frm.trans ko3.out f4 (fun i hi e => by have := hv2 i e; omega)
  have hb4 := (o04.block rb hrbw (fun h => h)).trans kb.out
  obtain ⟨a4, c4, hv4⟩ := own_form r4
  subst hv4
  have e0 : w4.cell? ⟨rb, 0, none⟩ = some (.slice an L.length cn) := blk_cells hb4 rfl
  have ef := fun i => blk_fz hb4 i
  have hb5 := heap_set (i := 0) (.slice a4 (L.length + 1) c4) hb4
  have fs := frm_set w4 rb 0 (.slice a4 (L.length + 1) c4)
  have r5 := owns_kept r4 (w' := w4.setCell ⟨rb, 0, none⟩ (.slice a4 (L.length + 1) c4)) (fun k hk => fs.block k (r4.lt k hk).2 (by have := (r4.lt k hk).1; omega))
  have e1 : (w4.setCell ⟨rb, 0, none⟩ (.slice a4 (L.length + 1) c4)).cell? ⟨rb, 1, none⟩ = some (.slice al B.length cl) := blk_cells hb5 (by simp)
  rw [kBl.out] at e1
  have f05 : Frm (fun k => k = rb) w (w4.setCell ⟨rb, 0, none⟩ (.slice a4 (L.length + 1) c4)) := Frm.trans (Frm.mono o04 (fun _ _ h => h.elim)) fs (fun _ _ h => h)
  have kf05 := hid f05
  have kb5 := hid hb5
  have kr5 := hid r5
  have hbe := hid (knD.out)
  have hlc : ∀ (ad : Addr), al = some ad → ∀ j u, (nums64 B)[j]? = some u → (w4.setCell ⟨rb, 0, none⟩ (.slice a4 (L.length + 1) c4)).cell? (ad.add j) = some u := fun ad e j u hu => by
    refine frm_cell f05 (num_cells kls.out ad e j u hu) (fun h => ?_)
    have h1 := (khD.out _ (klD.out ad e)).1
    refine h1 ?_
    rw [← h]
    unfold Addr.add
    split <;> rfl
  have hz5 := f05.size
  have hnil2 : (w4.setCell ⟨rb, 0, none⟩ (.slice a4 (L.length + 1) c4)).ownsRow w.heap.size 2 1 (.slice none 0 0) 0 [] := ⟨rfl, Or.inl ⟨rfl, rfl⟩⟩
  have kz4 := hid (r4.lt)
  clear hb5 r5 r4 f4 r23 hc3 f04 o04 fs hb4 hz3 o2 f05
  obtain ⟨w5, hw5⟩ : ∃ w5, w4.setCell ⟨rb, 0, none⟩ (.slice a4 (L.length + 1) c4) = w5 := ⟨_, rfl⟩
  rw [hw5] at e1 kf05 kb5 kr5 hlc hz5 hnil2
  have kw5 := hid hw5
  go_wp2_with (at_builtin; refine wpApp rfl _ _ 34 rfl w.heap.size 2 i2 (.int .i64 0) 1 8 Try.underlying34 hi2 hz2 hs2 hb2 rfl (by omega) (.slice none 0 0) 0 [] rfl hnil2 al L.length cl (nums64 B) rfl kln.out (by simp [nums64, kBl.out]) hlc (nums_one B) (by unfold maxLen; omega) (by omega) hz5 ?_)
  intro v6 w6 r6 f6
  have o6 : Old w5 w6 := Frm.mono f6 (fun _ _ e => by simp [Value.ownBlock] at e)
  have r6' : w6.ownsRow w.heap.size 2 1 v6 L.length (nums64 B) := by simpa using r6
  have o7 : Old w6 (w6.alloc (.cells #[.int .i64 b] 2)) := (Old.refl w6).alloc _
  have n7 := new_cell w6 #[.int .i64 b] 2 0 _ rfl
  have r67 := owns_kept r6' (fun k hk => o7.block k (r6'.lt k hk).2 (fun h => h))
  have hc7 : ∀ ad, (some (⟨w6.heap.size, 0, none⟩ : Addr)) = some ad → ∀ (j : Nat) (u : Value), [Value.int .i64 b][j]? = some u → (w6.alloc (.cells #[.int .i64 b] 2)).cell? (ad.add j) = some u := fun ad e j u hu => by
    simp only [Option.some.injEq] at e
    subst e
    match j, hu with
    | 0, hu =>
      simp only [List.getElem?_cons_zero, Option.some.injEq] at hu
      subst hu
      rw [Addr.add_lit]
      exact n7
  have o57 := hid (o6.trans o7)
  have hz7 := (o6.trans o7).size
  clear r6 f6 hlc hnil2 r6' n7 o7 o6 e1
  go_wp2_with (at_builtin; refine wpApp rfl _ _ 34 rfl w.heap.size 2 i2 (.int .i64 0) 1 8 Try.underlying34 hi2 hz2 hs2 hb2 rfl (by omega) v6 L.length (nums64 B) rfl r67 (some ⟨w6.heap.size, 0, none⟩) 1 1 [Value.int .i64 b] rfl (fun e => by cases e) rfl hc7 (by intro u hu; simp at hu; subst hu; rfl) (by unfold maxLen; omega) (by omega) (by omega) ?_)
  intro v8 w8 r8 f8
  have hr8 : nums64 B ++ [Value.int .i64 b] = nums64 (B ++ [b]) := by simp [nums64]
  rw [hr8] at r8
  have hv6 : ∀ k, v6.ownBlock = some k → w.heap.size ≤ k := fun k hk => (r67.lt k hk).1
  have f58 : Frm (fun k => v6.ownBlock = some k) w5 w8 := Frm.trans (Frm.mono o57.out (fun _ _ h => h.elim)) f8 (fun _ _ h => h)
  have hrb5 := blk_lt kb5.out
  have hb8 := (f58.block rb hrb5 (fun e => by have := hv6 rb e; omega)).trans kb5.out
  have hne46 : ∀ k, (Value.slice a4 (L.length + 1) c4).ownBlock = some k → v6.ownBlock ≠ some k := fun k h1 h2 => by
    obtain ⟨cur, hc⟩ := owns_block kr5.out h1
    obtain ⟨cur', hc'⟩ := owns_block r67 h2
    rw [o57.out.block k (kr5.out.lt k h1).2 (fun h => h), hc] at hc'
    simp at hc'
  obtain ⟨a8, c8, hv8⟩ := own_form r8
  subst hv8
  have g1 : w8.cell? ⟨rb, 1, none⟩ = some (.slice al B.length cl) := blk_cells hb8 (by simp)
  have gf := fun i => blk_fz hb8 i
  have hb9 := heap_set (i := 1) (.slice a8 (L.length + 1) c8) hb8
  have fs := frm_set w8 rb 1 (.slice a8 (L.length + 1) c8)
  have g0 : (w8.setCell ⟨rb, 1, none⟩ (.slice a8 (L.length + 1) c8)).cell? ⟨rb, 0, none⟩ = some (.slice a4 (L.length + 1) c4) := blk_cells hb9 (by simp)
  have r9 := owns_kept r8 (w' := w8.setCell ⟨rb, 1, none⟩ (.slice a8 (L.length + 1) c8)) (fun k hk => fs.block k (r8.lt k hk).2 (by have := (r8.lt k hk).1; omega))
  have f59 : Frm (fun k => k = rb ∨ v6.ownBlock = some k) w5 (w8.setCell ⟨rb, 1, none⟩ (.slice a8 (L.length + 1) c8)) := Frm.trans (Frm.mono f58 (fun _ _ h => Or.inr h)) fs (fun _ _ h => Or.inl h)
  have f09 : Frm (fun k => k = rb) w (w8.setCell ⟨rb, 1, none⟩ (.slice a8 (L.length + 1) c8)) := Frm.trans kf05.out f59 (fun i hi h => h.elim id (fun h => by have := hv6 i h; omega))
  have hN := owns_strs kr5.out (by simp)
  have hN9 := hN.frm f59 (fun k hk h => by
    rcases h with h | h
    · have := (kr5.out.lt k hk).1; omega
    · exact hne46 k hk h)
  have hI9 := owns_nums r9 (by rw [List.length_append, kBl.out]; rfl)
  have hP9 := kq.out.frm f09 (fun k hk h => (khD.out k hk).1 h)
  have hlt9 : ∀ k, (Value.slice a4 (L.length + 1) c4).ownBlock = some k → w.heap.size ≤ k ∧ k < (w8.setCell ⟨rb, 1, none⟩ (.slice a8 (L.length + 1) c8)).heap.size := fun k hk => ⟨(kr5.out.lt k hk).1, Nat.lt_of_lt_of_le (kr5.out.lt k hk).2 f59.size⟩
  have kDoc : Hid (Doc (w8.setCell ⟨rb, 1, none⟩ (.slice a8 (L.length + 1) c8)) rb (fun k => D k ∨ w.heap.size ≤ k ∧ k < (w8.setCell ⟨rb, 1, none⟩ (.slice a8 (L.length + 1) c8)).heap.size) (L ++ [x]) (B ++ [b]) P) := by
    refine ⟨.slice a4 (L.length + 1) c4, .slice a8 (L.length + 1) c8, qv, by simpa using hb9, hN9.wide (fun k h => Or.inr (hlt9 k h)), hI9.wide (fun k h => Or.inr (r9.lt k h)), ?_⟩
    obtain ⟨b1, b2, b3, b4, b5, b6⟩ := hP9
    exact ⟨b1, b2, b3, fun a e => Or.inl (b4 a e), b5, fun i hi => by
      obtain ⟨q1, q2, q3, q4, q5, q6⟩ := b6 i hi
      exact ⟨q1, q2, q3, q4, q5, q6.wide (fun k h => Or.inl h)⟩⟩
  have kf09 := hid f09
  clear hN9 hI9 hP9 hN f09 f59 fs r9 r8 f8 hb9 hb8 f58 hlt9 hw5
  go_wp2_with fail
  go_ret2
  exact ⟨rfl, kDoc.out, kf09.out⟩
end Go.Proofs.Ytlhlmkdgbgppiaa
