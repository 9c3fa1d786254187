/- Lists of bids in memory; slices.Clone of one; All. -/
import Derived.Test.YtkhenigdppjlhaaM2
import Derived.Test.YtkhenigdppjlhaaB1
import Derived.Laws.AppendOwnNone
import Derived.Lib.SliceRun
namespace Go.Proofs.Ytkhenigdppjlhaa
open Go.RowKit Go.Lib

/-- A slice over cells that hold the bids L. -/
def BidsC (w : World) (ao : Option Addr) (L : List Bd) : Prop :=
  ∀ i, i < L.length → ∃ g o, ao = some ⟨g, o, none⟩ ∧ w.cell? ⟨g, o + 4 * i, none⟩ = some (.int .i64 (L.getD i noB).bidder) ∧ w.cell? ⟨g, o + 4 * i + 1, none⟩ = some (.int .i64 (L.getD i noB).limit) ∧ w.cell? ⟨g, o + 4 * i + 2, none⟩ = some (.int .i64 (L.getD i noB).free) ∧ w.cell? ⟨g, o + 4 * i + 3, none⟩ = some (.int .i64 (L.getD i noB).now)

theorem BidsC.frm {S : Nat → Prop} {w w' : World} {ao : Option Addr} {L : List Bd} (h : BidsC w ao L) (hf : Frm S w w') (hS : ∀ ad, ao = some ad → ¬ S ad.block) : BidsC w' ao L := by
  intro i hi
  obtain ⟨g, o, rfl, h1, h2, h3, h4⟩ := h i hi
  have hs := hS _ rfl
  exact ⟨g, o, rfl, frm_cell hf h1 hs, frm_cell hf h2 hs, frm_cell hf h3 hs, frm_cell hf h4 hs⟩
theorem BidsC.old {w w' : World} {ao : Option Addr} {L : List Bd} (h : BidsC w ao L) (hf : Old w w') : BidsC w' ao L := h.frm hf (fun _ _ h => h)

def flatB : List Bd → List Value
  | [] => []
  | d :: M => .int .i64 d.bidder :: .int .i64 d.limit :: .int .i64 d.free :: .int .i64 d.now :: flatB M

theorem flatB_length : ∀ M : List Bd, (flatB M).length = 4 * M.length
  | [] => rfl
  | d :: M => by simp [flatB, flatB_length M]; omega

theorem flatB_get : ∀ (M : List Bd) (i : Nat), i < M.length → (flatB M)[4 * i]? = some (.int .i64 (M.getD i noB).bidder) ∧ (flatB M)[4 * i + 1]? = some (.int .i64 (M.getD i noB).limit) ∧ (flatB M)[4 * i + 2]? = some (.int .i64 (M.getD i noB).free) ∧ (flatB M)[4 * i + 3]? = some (.int .i64 (M.getD i noB).now)
  | [], i, h => by simp at h
  | d :: M, 0, _ => by simp [flatB]
  | d :: M, i + 1, h => by
    have ih := flatB_get M i (by simpa using h)
    have e : 4 * (i + 1) = 4 * i + 1 + 1 + 1 + 1 := by omega
    rw [e]
    simp only [flatB, List.getElem?_cons_succ, List.getD_cons_succ]
    exact ih

theorem flatB_one : ∀ (L : List Bd), ∀ u ∈ flatB L, u.oneCell' = true
  | [], u, h => by simp [flatB] at h
  | d :: L, u, h => by
    simp only [flatB, List.mem_cons] at h
    rcases h with rfl | rfl | rfl | rfl | h
    · rfl
    · rfl
    · rfl
    · rfl
    · exact flatB_one L u h

theorem BidsC.news {w : World} {g o : Nat} {L : List Bd} (h : BidsC w (some ⟨g, o, none⟩) L) (j : Nat) (u : Value) (hu : (flatB L)[j]? = some u) : w.cell? ⟨g, o + j, none⟩ = some u := by
  have hj : j < 4 * L.length := by rw [← flatB_length]; exact (List.getElem?_eq_some_iff.1 hu).1
  obtain ⟨i, c, rfl, hc⟩ : ∃ i c, j = 4 * i + c ∧ c < 4 := ⟨j / 4, j % 4, by omega, by omega⟩
  have hi : i < L.length := by omega
  obtain ⟨g', o', e, h0, h1, h2, h3⟩ := h i hi
  simp only [Option.some.injEq, Addr.mk.injEq, and_true] at e
  obtain ⟨rfl, rfl⟩ := e
  obtain ⟨f0, f1, f2, f3⟩ := flatB_get L i hi
  rw [show o + (4 * i + c) = o + 4 * i + c by omega]
  match c, hc with
  | 0, _ => rw [Nat.add_zero, f0] at hu; rw [Nat.add_zero, h0, hu]
  | 1, _ => rw [f1] at hu; rw [h1, hu]
  | 2, _ => rw [f2] at hu; rw [h2, hu]
  | 3, _ => rw [f3] at hu; rw [h3, hu]

/-- Bids in new memory. -/
def NewB (B : Nat) (w : World) (v : Value) (L : List Bd) : Prop := ∃ ao cap, v = .slice ao L.length cap ∧ BidsC w ao L ∧ ∀ ad, ao = some ad → B ≤ ad.block ∧ ad.block < w.heap.size

theorem owns_newB {w : World} {B : Nat} {v : Value} {L : List Bd} (h : w.ownsRow B 29 4 v L.length (flatB L)) : NewB B w v L := by
  rcases h.2 with ⟨rfl, h0⟩ | ⟨g, cap, cur, rfl, h3, h4, h5, h6, h7, h8⟩
  · have : L = [] := List.eq_nil_of_length_eq_zero h0
    subst this
    exact ⟨none, 0, rfl, fun i hi => by simp at hi, fun ad e => by cases e⟩
  · refine ⟨some ⟨g, 0, none⟩, cap, rfl, fun i hi => ⟨g, 0, rfl, ?_⟩, fun ad e => by cases e; exact ⟨h3, blk_lt h4⟩⟩
    have key : ∀ c, c < 4 → ∀ u, (flatB L)[4 * i + c]? = some u → w.cell? ⟨g, 0 + 4 * i + c, none⟩ = some u := by
      intro c hc u hu
      refine blk_cells h4 ?_
      have h9 : (cur.toList.take (L.length * 4))[4 * i + c]? = (flatB L)[4 * i + c]? := by rw [h8]
      rw [List.getElem?_take_of_lt (by omega), hu] at h9
      rw [Nat.zero_add]
      simpa using h9
    obtain ⟨f0, f1, f2, f3⟩ := flatB_get L i hi
    exact ⟨key 0 (by omega) _ f0, key 1 (by omega) _ f1, key 2 (by omega) _ f2, key 3 (by omega) _ f3⟩

theorem infoB : (Try.prog.info? 29).map (fun i => (i.zero, i.size, i.bytes)) = some (some (.agg #[.int .i64 0, .int .i64 0, .int .i64 0, .int .i64 0]), 4, 32) := by kernel_rfl
theorem info_parts' {e : TypeId} {z : Value} {n b : Nat} (h : (Try.prog.info? e).map (fun i => (i.zero, i.size, i.bytes)) = some (some z, n, b)) : ∃ i, Try.prog.info? e = some i ∧ i.zero = some z ∧ i.size = n ∧ i.bytes = b := by
  obtain ⟨i, h1, h2⟩ := Option.map_eq_some_iff.1 h
  simp only [Prod.mk.injEq] at h2
  exact ⟨i, h1, h2.1, h2.2.1, h2.2.2⟩

set_option maxRecDepth 100000 in
set_option maxHeartbeats 2000000 in
theorem clone_any (ao : Option Addr) (cap : Nat) (L : List Bd) (w : World) (h : BidsC w ao L) (hn : ao = none → L = []) (hl : L.length ≤ 1000000) :
    Calls Try.prog 30 #[.slice ao L.length cap] w fun e w' => ∃ v, e = .returned v ∧ NewB w.heap.size w' v L ∧ Old w w' := by
  obtain ⟨i0, hi0, hz0, hz1, hz2⟩ := info_parts' infoB
  have q22 : ∀ (w : World) (a : Option Addr) (n c n' c' : Nat), (binOp .eql 48 (.slice a n c) (.slice none n' c')).run Try.prog w = .ok (.bool a.isNone) w := fun w a n c n' c' => Lib.run_eql_slice_nil w _ _ a n c n' c' Try.underlying48
  have kh := hid h
  clear h
  cases ao with
  | none =>
    obtain rfl := hn rfl
    clear hn hl
    go_enter Try.func30, Try.ntmps30
    go_wp2
    go_ret
    exact ⟨_, rfl, ⟨none, 0, rfl, fun i hi => by simp at hi, fun ad e => by cases e⟩, Old.refl w⟩
  | some ad =>
    obtain ⟨n, hN⟩ : ∃ n, L.length = n := ⟨_, rfl⟩
    have kN := hid hN
    rw [hN] at hl ⊢
    have hcells : ∀ j u, (flatB L)[j]? = some u → (w.alloc (.cells #[] 29)).cell? (ad.add j) = some u := by
      intro j u hu
      have hj : j < 4 * L.length := by rw [← flatB_length]; exact (List.getElem?_eq_some_iff.1 hu).1
      obtain ⟨g, o, e, -⟩ := kh.out 0 (by omega)
      simp only [Option.some.injEq] at e
      subst e
      rw [Addr.add_lit]
      exact Lib.cell?_alloc_some _ (kh.out.news j u hu)
    have kc := hid hcells
    clear hn hN hcells
    go_enter Try.func30, Try.ntmps30
    go_wp2_with (at_builtin; refine wpList_append_own _ (by rfl) _ _ 48 (by rfl) w.heap.size 29 i0 _ 4 32 Try.underlying48 hi0 hz0 hz1 hz2 rfl (by omega) _ 0 [] (by rfl) (World.ownsRow_made w #[] 0 (Nat.le_refl _) (Nat.zero_le _) rfl) ad n cap (flatB L) (by rfl) ?qc1 kc.out (flatB_one L) ?qc4 ?qc5 ?qc6 ?_)
    case qc1 => rw [flatB_length, kN.out]; omega
    case qc4 => unfold maxLen; omega
    case qc5 => omega
    case qc6 => simp
    intro v' w1 hown hgrow hnil
    have hO : Hid (Old w w1) := Frm.grown ((Old.refl w).alloc _) hgrow (fun k hk => by simp [Value.ownBlock] at hk; left; omega)
    have kk := hid (owns_newB (L := L) (by rw [kN.out]; simpa using hown))
    clear hown hgrow hnil
    go_wp2
    go_ret
    exact ⟨_, rfl, kk.out, hO.out⟩

set_option maxRecDepth 100000 in
set_option maxHeartbeats 2000000 in
theorem all_any (l : Lt) (ao : Option Addr) (cap : Nat) (L : List Bd) (w : World) (h : BidsC w ao L) (hn : ao = none → L = []) (hl : L.length ≤ 1000000) :
    Calls Try.prog 20 #[lotV l, .slice ao L.length cap] w fun e w' => ∃ v, e = .returned (.func (.func 31) #[] #[.pointer (some ⟨w.heap.size, 0, none⟩), .pointer (some ⟨w.heap.size + 1, 0, none⟩)]) ∧ LotC w' w.heap.size l ∧ w'.cell? ⟨w.heap.size + 1, 0, none⟩ = some v ∧ NewB (w.heap.size + 2) w' v L ∧ Old w w' := by
  have kL := hid (fun x => (lot_new l w).old ((Old.refl _).alloc x))
  have kC := hid (fun w h => clone_any ao cap L w h hn hl)
  have kh := hid h
  clear h hn hl
  unfold lotV
  obtain ⟨kind, opens, closes, start, step, extend, last, floor, fall, count, rule⟩ := l
  dsimp only at *
  go_enter Try.func20, Try.ntmps20
  go_wp2_with fail
  refine (kC.out _ (kh.out.old (old2 w _ _))).mono ?_
  rintro e w1 ⟨v, rfl, hN, o1⟩
  have hs : w.heap.size + 1 < w1.heap.size := by have := o1.size; simp at this; omega
  obtain ⟨hc, hf⟩ := o1.look
  have kl := hid ((kL.out (.cells #[.slice ao L.length cap] 48)).old o1)
  have c1 : Hid (w1.cell? ⟨w.heap.size + 1, 0, none⟩ = some (.slice ao L.length cap)) := o1.cell (by
    have h := new_cell (w.alloc (.cells #[.int .i64 kind, .int .i64 opens, .int .i64 closes, .int .i64 start, .int .i64 step, .int .i64 extend, .int .i64 last, .int .i64 floor, .int .i64 fall, .int .i64 count, .int .i64 rule] 25)) #[.slice ao L.length cap] 48 0 _ rfl
    rwa [alloc_size] at h)
  have ko := hid ((old2 w _ _).trans o1)
  obtain ⟨va, vc, rfl, hB1, hB2⟩ := hN
  have kB1 := hid hB1
  have kB2 := hid hB2
  clear o1 kL kC hB1 hB2
  go_wp2_with fail
  go_ret
  have hf1 := frm_set w1 (w.heap.size + 1) 0 (.slice va L.length vc)
  refine ⟨.slice va L.length vc, rfl, frm_lot kl.out hf1 (by omega), set_same c1.out, ⟨va, vc, rfl, kB1.out.frm hf1 (fun ad e => ?_), fun ad e => ?_⟩, Frm.setCell ko.out _ (Or.inl (by simp)) _⟩
  · have := (kB2.out ad e).1
    rw [alloc_size, alloc_size] at this
    omega
  · have := (kB2.out ad e).1
    rw [alloc_size, alloc_size] at this
    exact ⟨by omega, Nat.lt_of_lt_of_le (kB2.out ad e).2 hf1.size⟩

end Go.Proofs.Ytkhenigdppjlhaa
