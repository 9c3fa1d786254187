/- The document's Steps. -/
import Derived.Test.YtnhglckhkhmonaaS1
import Derived.Test.YtnhglckhkhmonaaR1
import Derived.Test.YtnhglckhkhmonaaGB
import Derived.Laws.AppendOwnNone
namespace Go.Proofs.Ytnhglckhkhmonaa
open Go.RowKit

theorem info_parts' {e : TypeId} {z : Value} {n b : Nat} (h : (Try.prog.info? e).map (fun i => (i.zero, i.size, i.bytes)) = some (some z, n, b)) : ∃ i, Try.prog.info? e = some i ∧ i.zero = some z ∧ i.size = n ∧ i.bytes = b := by
  cases hi : Try.prog.info? e with
  | none => rw [hi] at h; cases h
  | some i =>
    rw [hi] at h
    simp only [Option.map_some, Option.some.injEq, Prod.mk.injEq] at h
    exact ⟨i, rfl, h.1, h.2.1, h.2.2⟩

theorem infoS : (Try.prog.info? 44).map (fun i => (i.zero, i.size, i.bytes)) = some (some (.agg #[.int .i64 0, .int .i64 0]), 2, 16) := by kernel_rfl

def flatS : List (Int × Int) → List Value
  | [] => []
  | d :: M => .int .i64 d.1 :: .int .i64 d.2 :: flatS M

theorem flatS_append : ∀ (M N : List (Int × Int)), flatS (M ++ N) = flatS M ++ flatS N
  | [], N => rfl
  | d :: M, N => by simp [flatS, flatS_append M N]

theorem flatS_get : ∀ (M : List (Int × Int)) (i : Nat), i < M.length → (flatS M)[2 * i]? = some (.int .i64 (M.getD i (0, 0)).1) ∧ (flatS M)[2 * i + 1]? = some (.int .i64 (M.getD i (0, 0)).2)
  | [], i, h => by simp at h
  | d :: M, 0, _ => by simp [flatS]
  | d :: M, i + 1, h => by
    have ih := flatS_get M i (by simpa using h)
    have e : 2 * (i + 1) = 2 * i + 1 + 1 := by omega
    rw [e]
    simp only [flatS, List.getElem?_cons_succ, List.getD_cons_succ]
    exact ih

/-- Steps as they lie. -/
def StsC (w : World) (v : Value) (M : List (Int × Int)) : Prop := ∃ ao cap, v = .slice ao M.length cap ∧ ∀ i, i < M.length → ∃ g, ao = some ⟨g, 0, none⟩ ∧ w.cell? ⟨g, 2 * i, none⟩ = some (.int .i64 (M.getD i (0, 0)).1) ∧ w.cell? ⟨g, 2 * i + 1, none⟩ = some (.int .i64 (M.getD i (0, 0)).2)

theorem StsC.frm {S : Nat → Prop} {w w' : World} {v : Value} {M : List (Int × Int)} (h : StsC w v M) (hf : Frm S w w') (hS : ∀ g, v.ownBlock = some g → ¬ S g) : StsC w' v M := by
  obtain ⟨ao, cap, rfl, hc⟩ := h
  refine ⟨ao, cap, rfl, fun i hi => ?_⟩
  obtain ⟨g, rfl, h0, h1⟩ := hc i hi
  have hs := hS g rfl
  exact ⟨g, rfl, frm_cell hf h0 hs, frm_cell hf h1 hs⟩

theorem steps_of {w : World} {B : Nat} {v : Value} {M : List (Int × Int)} (h : w.ownsRow B 44 2 v M.length (flatS M)) : StsC w v M ∧ ∀ g, v.ownBlock = some g → B ≤ g ∧ g < w.heap.size := by
  rcases h.2 with ⟨rfl, h0⟩ | ⟨g, cap, cur, rfl, h3, h4, h5, h6, h7, h8⟩
  · have : M = [] := List.eq_nil_of_length_eq_zero h0
    subst this
    exact ⟨⟨none, 0, rfl, fun i hi => by simp at hi⟩, fun g e => by simp [Value.ownBlock] at e⟩
  · refine ⟨⟨some ⟨g, 0, none⟩, cap, rfl, fun i hi => ⟨g, rfl, ?_⟩⟩, fun k e => by simp [Value.ownBlock] at e; subst e; exact ⟨h3, blk_lt h4⟩⟩
    have key : ∀ c, c < 2 → ∀ u, (flatS M)[2 * i + c]? = some u → w.cell? ⟨g, 2 * i + c, none⟩ = some u := by
      intro c hc u hu
      refine blk_cells h4 ?_
      have h9 : (cur.toList.take (M.length * 2))[2 * i + c]? = (flatS M)[2 * i + c]? := by rw [h8]
      rw [List.getElem?_take_of_lt (by omega), hu] at h9
      simpa using h9
    obtain ⟨f0, f1⟩ := flatS_get M i hi
    exact ⟨key 0 (by omega) _ f0, key 1 (by omega) _ f1⟩

theorem own2_frm {S : Nat → Prop} {w w' : World} {B : Nat} {e : TypeId} {v : Value} {n : Nat} {xs : List Value} (h : w.ownsRow B e 2 v n xs) (hf : Frm S w w') (hS : ∀ g, v.ownBlock = some g → ¬ S g) : w'.ownsRow B e 2 v n xs := by
  refine ⟨h.1, ?_⟩
  rcases h.2 with h2 | ⟨g, cap, cur, rfl, h3, h4, h5⟩
  · exact Or.inl h2
  · exact Or.inr ⟨g, cap, cur, rfl, h3, by rw [hf.block g (blk_lt h4) (hS g rfl)]; exact h4, h5⟩

/-- The lot at bl, the steps. -/
structure SX (w wr : World) (bl : Nat) (l : Lt) (tv : Value) (M : List (Int × Int)) : Prop where
  old : Old w wr
  lot : LotC wr bl l
  own : wr.ownsRow w.heap.size 44 2 tv M.length (flatS M)
  ne : ∀ g, tv.ownBlock = some g → g ≠ bl

theorem SX.olds {w wr w2 : World} {bl : Nat} {l : Lt} {tv : Value} {T : List (Int × Int)} (h : SX w wr bl l tv T) (o : Old wr w2) : SX w w2 bl l tv T :=
  ⟨h.old.trans o, h.lot.old o, own2_frm h.own o (fun _ _ h => h), h.ne⟩

theorem lot_frm {S : Nat → Prop} {w w' : World} {b : Nat} {l : Lt} (h : LotC w b l) (hf : Frm S w w') (hS : ¬ S b) : LotC w' b l := by
  obtain ⟨c0, c1, c2, c3, c4, c5, c6, c7, c8, c9, c10⟩ := h
  exact ⟨frm_cell hf c0 hS, frm_cell hf c1 hS, frm_cell hf c2 hS, frm_cell hf c3 hS, frm_cell hf c4 hS, frm_cell hf c5 hS, frm_cell hf c6 hS, frm_cell hf c7 hS, frm_cell hf c8 hS, frm_cell hf c9 hS, frm_cell hf c10 hS⟩

theorem SX.app {w wr w' : World} {bl : Nat} {l : Lt} {tv : Value} {T : List (Int × Int)} {g cap : Nat} {x : Int × Int} (h : SX w wr bl l tv T) (hown : w'.ownsRow w.heap.size 44 2 (.slice (some ⟨g, 0, none⟩) (T.length + 1) cap) (T.length + 1) (flatS T ++ [.int .i64 x.1, .int .i64 x.2])) (hg : wr.grownBy w' tv.ownBlock) (hat : tv.ownBlock = some g ∨ g = wr.heap.size) : SX w w' bl l (.slice (some ⟨g, 0, none⟩) (T.length + 1) cap) (T ++ [x]) := by
  have hf : Frm (fun k => tv.ownBlock = some k) wr w' := Frm.grown (Frm.refl _ wr) hg (fun k hk => Or.inr hk)
  have h1 := cell_lt h.lot.1
  refine ⟨Frm.trans (S := fun _ => False) h.old hf (fun k hlt hk => ?_), lot_frm h.lot hf (fun e => (h.ne _ e) rfl), ?_, ?_⟩
  · have := ((steps_of h.own).2 k hk).1
    omega
  · simp only [List.length_append, List.length_cons, List.length_nil, flatS_append, flatS]
    exact hown
  · intro k hk
    simp [Value.ownBlock] at hk
    subst hk
    rcases hat with e | e
    · exact h.ne _ e
    · omega

def StepsOut (l : Lt) (w : World) (e : Ending) (w' : World) : Prop := ∃ v k, e = .returned v ∧ k ≤ 301 ∧ okS l k ∧ (k = 301 ∨ ¬ stB l k) ∧ StsC w' v (stL l k) ∧ (∀ g, v.ownBlock = some g → w.heap.size ≤ g ∧ g < w'.heap.size) ∧ Old w w'

set_option maxRecDepth 100000 in
set_option maxHeartbeats 4000000 in
theorem rsteps_no (l : Lt) (w : World) (hb : lotB l = false) : Calls Try.prog 18 #[lotV l, .int .i64 301] w (StepsOut l w) := by
  have kC := hid (fun w => rcheck_any l w)
  rw [ck_no hb] at kC
  have hnew := hid (LotC.new w l 25)
  have hold : Hid (Old w (w.alloc (lotO l 25))) := hid (old1 w _)
  have kb := hid hb
  unfold lotV at kC ⊢
  unfold lotO at hnew hold
  clear hb
  go_enter Try.func18, Try.ntmps18
  go_upto_region 1 with fail
  generalize w.alloc _ = w0 at *
  obtain ⟨lc0, lc1, lc2, lc3, lc4, lc5, lc6, lc7, lc8, lc9, lc10⟩ := hnew.out
  have lcb := cell_lt lc0
  go_wp2_with fail
  refine (kC.out _).mono ?_
  rintro e w1 ⟨rfl, o1⟩
  have ko := hid (hold.out.trans o1)
  clear o1
  go_wp2_with fail
  refine bodyPost_ret (v := .slice none 0 0) (by simp [results, Try.results18, go_sem]) rfl ?_
  exact ⟨_, 0, rfl, by omega, okS_zero l, Or.inr (fun h => by have := h.1; rw [kb.out] at this; cases this), ⟨none, 0, rfl, fun i hi => by simp [stL] at hi⟩, fun g e => by simp [Value.ownBlock] at e, ko.out⟩

end Go.Proofs.Ytnhglckhkhmonaa
