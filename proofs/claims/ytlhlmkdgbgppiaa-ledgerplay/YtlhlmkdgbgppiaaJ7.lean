/- Post, May; a posting's entries by names. -/
import Derived.Test.YtlhlmkdgbgppiaaL8
namespace Go.Proofs.Ytlhlmkdgbgppiaa
open Go.RowKit Go.Shelf Go.Maps

/-- The ledger behind a posting. -/
def Lx.posted (x : Lx) (q : List En) (pv : Value) : Lx := { x with A := postA x.A q, P := x.P ++ [q], pv := pv }
theorem OkL.posted {x : Lx} (h : OkL x) {q : List En} {pv : Value} (hq : OkP x.A.length q) (hl : lowB x.A q = false) : OkL (x.posted q pv) := by
  refine ⟨?_, h.oka.post hq hl, h.nd, h.chk, fun p hp => ?_⟩
  · show x.L.length = (postA x.A q).length
    rw [postA_len]; exact h.len
  · show OkP (postA x.A q).length p
    rw [postA_len]
    rcases List.mem_append.1 hp with hp | hp
    · exact h.ps p hp
    · rw [List.mem_singleton.1 hp]; exact hq
def Lx.wrote (x : Lx) (k : Nat) : Prop := k = x.ab ∨ k = x.ib ∨ x.pv.ownBlock = some k

set_option maxRecDepth 100000 in
theorem may2_any (x : Lx) (ao : Option Addr) (cap : Nat) (E : List Es) (w : World) (h : Ldg w x) (hk : OkL x) (hE : EsC w ao E) (hs : ∀ e ∈ E, e.1.length ≤ maxLen) :
    Calls Try.prog 12 #[x.ptr, .slice ao E.length cap] w fun e w' => e = .returned (.int .i64 (planZ x.L x.A E)) ∧ Old w w' := by
  have kP := hid (plan_any x ao cap E w h hk hE hs)
  unfold PlanP at kP
  clear h hk hE hs
  generalize x.ptr = pt at *
  generalize hz : planZ x.L x.A E = z at *
  clear hz
  go_enter Try.func12, Try.ntmps12
  go_wp2_with fail
  refine kP.out.mono ?_
  rintro e w' ⟨o, v, rfl, -⟩
  have ko := hid o
  clear o
  go_wp2_with fail
  go_ret
  exact ⟨rfl, ko.out⟩

set_option maxRecDepth 100000 in
theorem post_bad (x : Lx) (ao : Option Addr) (cap : Nat) (E : List Es) (w : World) (h : Ldg w x) (hk : OkL x) (hE : EsC w ao E) (hs : ∀ e ∈ E, e.1.length ≤ maxLen) (hz : planZ x.L x.A E ≠ 0) :
    Calls Try.prog 13 #[x.ptr, .slice ao E.length cap] w fun e w' => e = .returned (.tuple #[.int .i64 0, .int .i64 (planZ x.L x.A E)]) ∧ Old w w' := by
  have kP := hid (plan_any x ao cap E w h hk hE hs)
  unfold PlanP at kP
  have hq : (planZ x.L x.A E != 0) = true := by simpa using hz
  clear h hk hE hs hz
  generalize x.ptr = pt at *
  generalize planZ x.L x.A E = z at *
  go_enter Try.func13, Try.ntmps13
  go_wp2_with fail
  refine kP.out.mono ?_
  rintro e w' ⟨o, v, rfl, -⟩
  have ko := hid o
  clear o
  go_wp2_with fail
  go_ret2
  exact ⟨rfl, ko.out⟩

set_option maxRecDepth 100000 in
theorem post_good (x : Lx) (ao : Option Addr) (cap : Nat) (E : List Es) (w : World) (h : Ldg w x) (hk : OkL x) (hE : EsC w ao E) (hs : ∀ e ∈ E, e.1.length ≤ maxLen) (hP : x.P.length ≤ 1048576) (hz : planZ x.L x.A E = 0) :
    Calls Try.prog 13 #[x.ptr, .slice ao E.length cap] w fun e w' => e = .returned (.tuple #[.int .i64 (x.P.length : Int), .int .i64 0]) ∧ ∃ pv', Ldg w' (x.posted (planP x.L E) pv') ∧ OkL (x.posted (planP x.L E) pv') ∧ Frm x.wrote w w' ∧ ∀ k, pv'.ownBlock = some k → x.pv.ownBlock = some k ∨ w.heap.size ≤ k := by
  have kP := hid (plan_any x ao cap E w h hk hE hs)
  unfold PlanP at kP
  rw [hz] at kP
  obtain ⟨h1, h2⟩ := planP_ok hk.len hz
  have kI := hid (fun W v (o : Old w W) (hv : PosC W v (planP x.L E)) => ipost_any x (planP x.L E) v W (h.old o) hk hv h1 hP)
  have kO := hid (fun pv => hk.posted (pv := pv) h1 h2)
  have kh := hid h
  clear h hk hE hs hz h1 h2
  unfold Lx.ptr
  unfold Lx.inp at kI
  go_enter Try.func13, Try.ntmps13
  go_wp2_with fail
  refine kP.out.mono ?_
  rintro e w1 ⟨o, v, rfl, hv⟩
  obtain ⟨hv1, -⟩ := hv trivial
  have kII := hid (kI.out w1 v o hv1)
  obtain ⟨ao', n', c', hve⟩ : ∃ ao' n' c', v = .slice ao' n' c' := by
    obtain ⟨g, rfl, _⟩ := hv1
    exact ⟨_, _, _, rfl⟩
  subst hve
  have d0 := (kh.out.old o).c0
  have ko := hid o
  clear o hv1 hv kI
  go_wp2_with fail
  refine kII.out.mono ?_
  rintro e w2 ⟨rfl, pv', hL, hF, hv⟩
  have k1 := hid hL
  have k2 := hid hF
  have k3 := hid hv
  clear hL hF hv
  go_wp2_with fail
  go_ret2
  refine ⟨rfl, pv', k1.out, kO.out pv', Frm.trans (Frm.mono ko.out (fun _ _ h => h.elim)) k2.out (fun _ _ h => h), fun k hk => ?_⟩
  rcases k3.out k hk with h | h
  · exact Or.inl h
  · exact Or.inr (by have := ko.out.size; omega)

/-- Entries by names. -/
def flatS : List Es → List Value
  | [] => []
  | e :: p => .string ⟨e.1.toArray⟩ :: .int .i64 e.2 :: flatS p
theorem flatS_length : ∀ p : List Es, (flatS p).length = p.length * 2
  | [] => rfl
  | e :: p => by simp only [flatS, List.length_cons, flatS_length p]; omega
theorem flatS_get : ∀ (p : List Es) (i : Nat) (h : i < p.length), (flatS p)[i * 2]? = some (.string ⟨p[i].1.toArray⟩) ∧ (flatS p)[i * 2 + 1]? = some (.int .i64 p[i].2)
  | [], i, h => absurd h (by simp)
  | e :: p, 0, h => ⟨rfl, rfl⟩
  | e :: p, i + 1, h => by
    rw [show (i + 1) * 2 = i * 2 + 1 + 1 from by omega]
    simpa only [flatS, List.getElem?_cons_succ, List.getElem_cons_succ] using flatS_get p i (by simpa using h)
theorem flatS_set : ∀ (q : List Es) (i : Nat) (x : Es), flatS (q.set i x) = ((flatS q).set (i * 2) (.string ⟨x.1.toArray⟩)).set (i * 2 + 1) (.int .i64 x.2)
  | [], i, x => by simp [flatS]
  | e :: q, 0, x => rfl
  | e :: q, i + 1, x => by
    rw [show (i + 1) * 2 = i * 2 + 1 + 1 from by omega]
    simp only [List.set_cons_succ, flatS, flatS_set q i x]
def OwnS (w : World) (b : Nat) (E : List Es) : Prop := w.heap[b]? = some (.cells (flatS E).toArray 76 (0, 0))
theorem OwnS.frm {S : Nat → Prop} {w w' : World} {b : Nat} {q : List Es} (h : OwnS w b q) (f : Frm S w w') (hS : ¬ S b) : OwnS w' b q := by
  unfold OwnS
  rw [f.block b (blk_lt h) hS]
  exact h
theorem OwnS.esc {w : World} {b : Nat} {q : List Es} (h : OwnS w b q) : EsC w (some ⟨b, 0, none⟩) q := fun i hi => by
  have := flatS_get q i hi
  exact ⟨b, 0, rfl, by rw [Nat.zero_add]; exact blk_cells h (by simpa using this.1), by rw [Nat.zero_add]; exact blk_cells h (by simpa using this.2)⟩
theorem OwnS.set {w : World} {b i : Nat} {q : List Es} (h : OwnS w b q) (x : Es) : OwnS ((w.setCell ⟨b, i * 2, none⟩ (.string ⟨x.1.toArray⟩)).setCell ⟨b, i * 2 + 1, none⟩ (.int .i64 x.2)) b (q.set i x) := by
  unfold OwnS
  rw [heap_set _ (heap_set _ h), flatS_set]
  simp
theorem flatS_zero : ∀ n : Nat, ∀ i, i < n * 2 → (flatS (List.replicate n ([], 0)))[i]? = some (if i % 2 = 0 then .string .empty else .int .i64 0)
  | 0, i, h => by omega
  | n + 1, 0, h => rfl
  | n + 1, 1, h => rfl
  | n + 1, i + 2, h => by
    rw [List.replicate_succ]
    simp only [flatS, List.getElem?_cons_succ]
    rw [flatS_zero n i (by omega)]
    simp
theorem made_n (n : Nat) : madeCells (Value.agg #[.string .empty, .int .i64 0]).cells (n * 2) = (flatS (List.replicate n ([], 0))).toArray := by
  unfold madeCells
  apply Array.ext
  · simp [flatS_length]
  · intro i h1 h2
    have h3 : i < n * 2 := by simpa using h1
    have := flatS_zero n i h3
    rw [List.getElem?_eq_getElem (by rw [flatS_length]; simpa using h3)] at this
    simp only [Option.some.injEq] at this
    have h : i % 2 = 0 ∨ i % 2 = 1 := by omega
    simp only [List.getElem_toArray]
    rw [this]
    rcases h with h | h <;> simp [Value.cells, h]
theorem info_n : (Try.prog.info? 76).map (fun i => (i.zero, i.bytes, i.size)) = some (some (.agg #[.string .empty, .int .i64 0]), 24, 2) := by kernel_rfl
theorem make_n (n : Nat) (hn : n ≤ 128) (w : World) : (Instr.makeSlice 39 (.int .i64 (n : Int)) (.int .i64 (n : Int))).run Try.prog w = .ok (.slice (some ⟨w.heap.size, 0, none⟩) n n) (w.alloc (.cells (flatS (List.replicate n ([], 0))).toArray 76)) := by
  obtain ⟨i, hi, h2⟩ := Option.map_eq_some_iff.1 info_n
  simp only [Prod.mk.injEq] at h2
  obtain ⟨hz, hb, hs⟩ := h2
  have h := run_make (P := Try.prog) w 39 76 i (.agg #[.string .empty, .int .i64 0]) Try.underlying39 hi hz .i64 .i64 n n (by omega) (by omega) (by rw [hb]; omega) (by omega)
  rw [h, hs, ← made_n]
  simp only [Int.toNat_natCast]

def entsOf (L : List (List UInt8)) (p : List En) : List Es := p.map (fun e => (L.getD e.1 [], e.2))
def rowS (L : List (List UInt8)) (p : List En) (k : Nat) : List Es := (entsOf L p).take k ++ List.replicate (p.length - k) ([], 0)
theorem rowS_zero (L : List (List UInt8)) (p : List En) : rowS L p 0 = List.replicate p.length ([], 0) := by simp [rowS]
theorem rowS_all (L : List (List UInt8)) (p : List En) : rowS L p p.length = entsOf L p := by
  unfold rowS
  rw [List.take_of_length_le (by simp [entsOf])]
  simp
theorem rowS_set (L : List (List UInt8)) (p : List En) (k : Nat) (h : k < p.length) : (rowS L p k).set k (L.getD p[k].1 [], p[k].2) = rowS L p (k + 1) := by
  have h1 : (entsOf L p).length = p.length := by simp [entsOf]
  have h2 : ((entsOf L p).take k).length = k := by rw [List.length_take, h1]; omega
  unfold rowS
  rw [show p.length - k = (p.length - (k + 1)) + 1 from by omega, List.replicate_succ, List.set_append_right _ _ (by omega), h2, Nat.sub_self, List.set_cons_zero, List.take_succ_eq_append_getElem (by rw [h1]; exact h), List.append_assoc]
  simp [entsOf]
end Go.Proofs.Ytlhlmkdgbgppiaa

/- A posting told by names. -/
namespace Go.Proofs.Ytlhlmkdgbgppiaa
open Go.RowKit Go.Shelf Go.Maps


set_option maxRecDepth 100000 in
set_option maxHeartbeats 8000000 in
theorem entries_any (x : Lx) (p : List En) (v : Value) (w : World) (h : Ldg w x) (hk : OkL x) (hv : PosC w v p) (hp : OkP x.A.length p) :
    Calls Try.prog 60 #[x.inp, v] w fun e w' => e = .returned (.slice (some ⟨w.heap.size, 0, none⟩) p.length p.length) ∧ OwnS w' w.heap.size (entsOf x.L p) ∧ Old w w' := by
  obtain ⟨g, hve, hc⟩ := hv.at
  have kh := hid h
  have kc := hid hc
  have kN := hid (fun W (o : Old w W) k (hlt : k < x.L.length) => name_good x.nb x.tb x.mb x.v 65536 x.L W (h.nms.old o) k hlt (by
    have := hk.chk _ (List.getElem_mem hlt)
    unfold chkZ at this
    split at this <;> omega))
  have hlen := hk.len
  have hp128 : p.length ≤ 128 := hp.len.2
  have kp := hid (fun e he => (hp.each e he).1)
  have hmk := make_n p.length hp128 w
  have own0 := heap_new w (.cells (flatS (List.replicate p.length ([], 0))).toArray 76)
  rw [← rowS_zero x.L p] at hmk own0
  obtain ⟨s, hs⟩ : ∃ s, w.heap.size = s := ⟨_, rfl⟩
  rw [hs] at hmk own0 ⊢
  have ks := hid hs
  have kown := hid own0
  unfold Lx.inp
  subst hve
  clear h hk hv hp hc own0 hs
  go_enter Try.func60, Try.ntmps60
  go_wp2_with fail
  have kI : Hid (Old w (w.alloc (.cells (flatS (rowS x.L p 0)).toArray 76))) := (Old.refl w).alloc _
  generalize w.alloc (.cells (flatS (rowS x.L p 0)).toArray 76) = w0 at *
  go_loopw [15] (fun t wr => ∃ k : Nat, k ≤ p.length ∧ t = .int .i64 (k : Int) ∧ Hid (Old w wr) ∧ Hid (OwnS wr s (rowS x.L p k))) (fun t _ => p.length - (intOf t).toNat)
  case atStart => exact ⟨0, Nat.zero_le _, rfl, kI, kown⟩
  case round =>
    obtain ⟨k, hk, rfl, oW, hO⟩ := hrel
    by_cases hlt : k < p.length
    · have hlt' : (k : Int) < (p.length : Int) := by omega
      obtain ⟨x0, x1⟩ := kc.out k hlt
      have x0 := oW.out.cell x0
      have x1 := oW.out.cell x1
      have hset := hid (rowS_set x.L p k hlt)
      have hacl := kp.out p[k] (List.getElem_mem hlt)
      obtain ⟨⟨ac, co⟩, hx⟩ : ∃ y, p[k] = y := ⟨_, rfl⟩
      rw [hx] at x0 x1 hset hacl
      dsimp only at x0 x1 hset hacl
      have hlL : ac < x.L.length := by omega
      obtain ⟨nm, hnm⟩ : ∃ nm, x.L[ac] = nm := ⟨_, rfl⟩
      rw [getD_get hlL, hnm] at hset
      have kNm := hid (fun W (o : Old w W) => kN.out W o ac hlL)
      rw [hnm] at kNm
      obtain ⟨wb, hwb⟩ : ∃ wb, wr.alloc (.cells #[.int .i64 (ac : Int), .int .i64 co] 150) = wb := ⟨_, rfl⟩
      have ob : Old wr wb := by rw [← hwb]; exact (Old.refl wr).alloc _
      have d0 : wb.cell? ⟨wr.heap.size, 0, none⟩ = some (.int .i64 (ac : Int)) := by rw [← hwb]; exact new_cell wr _ _ 0 _ rfl
      have d2 : wb.cell? ⟨wr.heap.size, 1, none⟩ = some (.int .i64 co) := by rw [← hwb]; exact new_cell wr _ _ 1 _ rfl
      have oB : Hid (Old w wb) := oW.out.trans ob
      have d1 := (kh.out.old oB.out).i0
      have hOb := hid (hO.out.frm ob (fun h => h))
      clear hx ob hO hnm
      go_wp2_with fail
      have od : Old wb wb.drew := (Old.refl wb).drewN 1
      refine wp_region_noPanic ?_
      refine wp_region_held_drew (S := fun X => Old wb X) (by kernel_rfl) od (fun hHeld => ?_)
      obtain ⟨W0, hW0⟩ : ∃ W0, wb.drew = W0 := ⟨_, rfl⟩
      rw [hW0] at hHeld ⊢
      clear hW0 od
      refine' wpAnyH_take (i := 0) rfl (by kernel_rfl) (by kernel_rfl) (by kernel_rfl) (fun _ _ _ h => h) (Or.inl ⟨by rfl, ?_⟩) hHeld ?_
      rotate_left
      · intro W hSw
        simp only [List.getElem_toArray, List.getElem_cons_zero]
        go_simp
        all_goals with_reducible rfl
      simp only [List.getElem_toArray, List.getElem_cons_zero, Act.put, List.setIfInBounds_toArray, List.set_cons_zero, List.set_cons_succ]
      refine' wpAnyH_take (i := 1) rfl (by kernel_rfl) (by kernel_rfl) (by kernel_rfl) (fun _ _ _ h => h) (Or.inl ⟨by rfl, ?_⟩) hHeld ?_
      rotate_left
      · intro W hSw
        have s0 := hSw.cell d0
        have s1 := hSw.cell d1
        simp only [List.getElem_toArray, List.getElem_cons_zero, List.getElem_cons_succ]
        go_simp
        all_goals with_reducible rfl
      simp only [List.getElem_toArray, List.getElem_cons_zero, List.getElem_cons_succ, Act.put, List.setIfInBounds_toArray, List.set_cons_zero, List.set_cons_succ]
      refine' wpAnyH_take (i := 2) rfl (by kernel_rfl) (by kernel_rfl) (by kernel_rfl) (fun _ _ _ h => h) (Or.inl ⟨by rfl, ?_⟩) hHeld ?_
      rotate_left
      · intro W hSw
        have s0 := hSw.cell d0
        have s1 := hSw.cell d1
        simp only [List.getElem_toArray, List.getElem_cons_zero, List.getElem_cons_succ]
        go_simp
        all_goals with_reducible rfl
      simp only [List.getElem_toArray, List.getElem_cons_zero, List.getElem_cons_succ, Act.put, List.setIfInBounds_toArray, List.set_cons_zero, List.set_cons_succ]
      refine' wpAnyH_take (i := 3) rfl (by kernel_rfl) (by kernel_rfl) (by kernel_rfl) (fun _ _ _ h => h) (Or.inl ⟨by rfl, ?_⟩) hHeld ?_
      rotate_left
      · intro W hSw
        have s0 := hSw.cell d0
        have s1 := hSw.cell d1
        simp only [List.getElem_toArray, List.getElem_cons_zero, List.getElem_cons_succ]
        go_simp
        all_goals with_reducible rfl
      simp only [List.getElem_toArray, List.getElem_cons_zero, List.getElem_cons_succ, Act.put, List.setIfInBounds_toArray, List.set_cons_zero, List.set_cons_succ]
      refine' wpAnyH_take (i := 4) rfl (by kernel_rfl) (by kernel_rfl) (by kernel_rfl) (fun _ _ _ h => h) (Or.inl ⟨by rfl, ?_⟩) hHeld ?_
      rotate_left
      · intro W hSw
        have s0 := hSw.cell d0
        have s1 := hSw.cell d1
        simp only [List.getElem_toArray, List.getElem_cons_zero, List.getElem_cons_succ]
        go_simp
        all_goals with_reducible rfl
      simp only [List.getElem_toArray, List.getElem_cons_zero, List.getElem_cons_succ, Act.put, List.setIfInBounds_toArray, List.set_cons_zero, List.set_cons_succ]
      refine' wpAnyH_take (i := 5) rfl (by kernel_rfl) (by kernel_rfl) (by kernel_rfl) (fun _ _ _ h => h) (Or.inl ⟨by rfl, ?_⟩) hHeld ?_
      rotate_left
      · intro W hSw
        have s0 := hSw.cell d0
        have s1 := hSw.cell d1
        simp only [List.getElem_toArray, List.getElem_cons_zero, List.getElem_cons_succ]
        go_simp
        all_goals with_reducible rfl
      simp only [List.getElem_toArray, List.getElem_cons_zero, List.getElem_cons_succ, Act.put, List.setIfInBounds_toArray, List.set_cons_zero, List.set_cons_succ]
      refine wpAnyH_ready (rs := [6]) (by kernel_rfl) (by simp) ?_
      refine AllReadyH.cons (o := _) rfl (fun K hK => ?_) AllReadyH.nil
      simp only [List.getElem_toArray, List.getElem_cons_zero, List.getElem_cons_succ]
      have kC := hid (kNm.out W0 (oB.out.trans hHeld))
      go_simp
      refine kC.out.mono ?_
      rintro e' W1 ⟨rfl, o1⟩
      go_simp
      refine hK.out _ _ (hHeld.trans o1) (fun hHeld => ?_)
      clear hK K kC o1
      try simp only [Act.put, List.setIfInBounds_toArray, List.set_cons_zero, List.set_cons_succ]
      refine' wpAnyH_take (i := 7) rfl (by kernel_rfl) (by kernel_rfl) (by kernel_rfl) (fun _ _ _ h => h) (Or.inl ⟨by rfl, ?_⟩) hHeld ?_
      rotate_left
      · intro W hSw
        have s0 := hSw.cell d0
        have s1 := hSw.cell d1
        simp only [List.getElem_toArray, List.getElem_cons_zero, List.getElem_cons_succ]
        go_simp
        all_goals with_reducible rfl
      simp only [List.getElem_toArray, List.getElem_cons_zero, List.getElem_cons_succ, Act.put, List.setIfInBounds_toArray, List.set_cons_zero, List.set_cons_succ]
      refine' wpAnyH_take (i := 8) rfl (by kernel_rfl) (by kernel_rfl) (by kernel_rfl) (fun _ _ _ h => h) (Or.inl ⟨by rfl, ?_⟩) hHeld ?_
      rotate_left
      · intro W hSw
        have s0 := hSw.cell d0
        have s1 := hSw.cell d1
        simp only [List.getElem_toArray, List.getElem_cons_zero, List.getElem_cons_succ]
        go_simp
        all_goals with_reducible rfl
      simp only [List.getElem_toArray, List.getElem_cons_zero, List.getElem_cons_succ, Act.put, List.setIfInBounds_toArray, List.set_cons_zero, List.set_cons_succ]
      refine' wpAnyH_take (i := 9) rfl (by kernel_rfl) (by kernel_rfl) (by kernel_rfl) (fun _ _ _ h => h) (Or.inl ⟨by rfl, ?_⟩) hHeld ?_
      rotate_left
      · intro W hSw
        have s0 := hSw.cell d0
        have s1 := hSw.cell d1
        simp only [List.getElem_toArray, List.getElem_cons_zero, List.getElem_cons_succ]
        go_simp
        all_goals with_reducible rfl
      simp only [List.getElem_toArray, List.getElem_cons_zero, List.getElem_cons_succ, Act.put, List.setIfInBounds_toArray, List.set_cons_zero, List.set_cons_succ]
      refine' wpAnyH_take (i := 10) rfl (by kernel_rfl) (by kernel_rfl) (by kernel_rfl) (fun _ _ _ h => h) (Or.inl ⟨by rfl, ?_⟩) hHeld ?_
      rotate_left
      · intro W hSw
        have s0 := hSw.cell d0
        have s1 := hSw.cell d1
        simp only [List.getElem_toArray, List.getElem_cons_zero, List.getElem_cons_succ]
        go_simp
        all_goals with_reducible rfl
      simp only [List.getElem_toArray, List.getElem_cons_zero, List.getElem_cons_succ, Act.put, List.setIfInBounds_toArray, List.set_cons_zero, List.set_cons_succ]
      refine' wpAnyH_take (i := 11) rfl (by kernel_rfl) (by kernel_rfl) (by kernel_rfl) (fun _ _ _ h => h) (Or.inl ⟨by rfl, ?_⟩) hHeld ?_
      rotate_left
      · intro W hSw
        have s0 := hSw.cell d0
        have s1 := hSw.cell d1
        simp only [List.getElem_toArray, List.getElem_cons_zero, List.getElem_cons_succ]
        go_simp
        all_goals with_reducible rfl
      simp only [List.getElem_toArray, List.getElem_cons_zero, List.getElem_cons_succ, Act.put, List.setIfInBounds_toArray, List.set_cons_zero, List.set_cons_succ]
      refine wpAnyH_done (by kernel_rfl) ?_ _
      refine NoPanic.normal ?_
      have hO1 := hOb.out.frm hHeld (fun h => h)
      have g1 := hHeld.cell d2
      have hcell := flatS_get (rowS x.L p k) k (by simp [rowS, entsOf]; omega)
      have y0 : W1.cell? ⟨s, k * 2, none⟩ = some _ := blk_cells hO1 (by simpa using hcell.1)
      have y1 : W1.cell? ⟨s, k * 2 + 1, none⟩ = some _ := blk_cells hO1 (by simpa using hcell.2)
      have yf := fun i => blk_fz hO1 i
      have hO5 := hid (hO1.set (i := k) (nm, co))
      rw [hset.out] at hO5
      have oE := hid (setCell_old (setCell_old (oB.out.trans hHeld) (by have := ks.out; omega) (b := s) (i := k * 2) (.string ⟨nm.toArray⟩)) (by have := ks.out; omega) (b := s) (i := k * 2 + 1) (.int .i64 co))
      clear hcell hO1 hHeld
      go_wp2_with fail
      go_roundw
      case rel => exact ⟨k + 1, by omega, by go_num, oE, hO5⟩
      case measure => simp [intOf]; omega
    · obtain rfl : k = p.length := by omega
      rw [rowS_all] at hO
      go_wp2_with fail
      go_ret
      exact ⟨rfl, hO.out, oW.out⟩
end Go.Proofs.Ytlhlmkdgbgppiaa
