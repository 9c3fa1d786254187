/- The document's box: Find, Drop, Bid: walked. -/
import Derived.Test.YtfmeobelpideoaaB2
namespace Go.Proofs.Ytfmeobelpideoaa
open Go.RowKit

/-- The document's box in memory. -/
structure Rf (w : World) (rb : Nat) (fl : Int) (v : Value) (L : List Sec) : Prop where
  box : w.heap[rb]? = some (.cells #[.int .i64 fl, v] 54 (0, 0))
  sec : ∃ ao cap, v = .slice ao L.length cap ∧ SecC w ao L ∧ (ao = none → cap = 0) ∧ L.length ≤ cap ∧ ∀ g o s, ao = some ⟨g, o, s⟩ → ∃ cur, w.heap[g]? = some (.cells cur 39 (0, 0))

/-- The block of a row. -/
def rblk : Value → Option Nat
  | .slice (some a) _ _ => some a.block
  | _ => none

theorem SecC.frm {S : Nat → Prop} {w w' : World} {ao : Option Addr} {L : List Sec} (h : SecC w ao L) (f : Frm S w w') (hS : ∀ a, ao = some a → ¬ S a.block) : SecC w' ao L := by
  intro i hi
  obtain ⟨g, o, h1, h2, h3⟩ := h i hi
  have := hS _ h1
  exact ⟨g, o, h1, frm_cell f h2 this, frm_cell f h3 this⟩
theorem Rf.frm {S : Nat → Prop} {w w' : World} {rb : Nat} {fl : Int} {v : Value} {L : List Sec} (h : Rf w rb fl v L) (f : Frm S w w') (h1 : ¬ S rb) (h2 : ∀ k, rblk v = some k → ¬ S k) : Rf w' rb fl v L := by
  obtain ⟨ao, cap, rfl, hS, hn, hc, hg⟩ := h.sec
  refine ⟨by rw [f.block rb (blk_lt h.box) h1]; exact h.box, ao, cap, rfl, hS.frm f (fun a e => h2 _ (by rw [e]; rfl)), hn, hc, fun g o s e => by
    obtain ⟨cur, hcur⟩ := hg g o s e
    exact ⟨cur, by rw [f.block g (blk_lt hcur) (h2 g (by rw [e]; rfl))]; exact hcur⟩⟩
theorem Rf.old {w w' : World} {rb : Nat} {fl : Int} {v : Value} {L : List Sec} (h : Rf w rb fl v L) (o : Old w w') : Rf w' rb fl v L := h.frm o (fun h => h) (fun _ _ h => h)
theorem Rf.cells {w : World} {rb : Nat} {fl : Int} {v : Value} {L : List Sec} (h : Rf w rb fl v L) : w.cell? ⟨rb, 0, none⟩ = some (.int .i64 fl) ∧ w.cell? ⟨rb, 1, none⟩ = some v ∧ w.frozen? ⟨rb, 1, none⟩ = false := ⟨blk_cells h.box rfl, blk_cells h.box rfl, blk_fz h.box 1⟩
theorem Rf.blt {w : World} {rb : Nat} {fl : Int} {v : Value} {L : List Sec} (h : Rf w rb fl v L) {k : Nat} (hk : rblk v = some k) : k < w.heap.size := by
  obtain ⟨ao, cap, rfl, hS, hn, hc, hg⟩ := h.sec
  match ao, hk with
  | some ⟨g, o, s⟩, hk =>
    cases hk
    obtain ⟨cur, hcur⟩ := hg g o s rfl
    exact blk_lt hcur
theorem Rf.bty {w : World} {rb : Nat} {fl : Int} {v : Value} {L : List Sec} (h : Rf w rb fl v L) {k : Nat} (hk : rblk v = some k) : ∃ cur, w.heap[k]? = some (.cells cur 39 (0, 0)) := by
  obtain ⟨ao, cap, rfl, hS, hn, hc, hg⟩ := h.sec
  match ao, hk with
  | some ⟨g, o, s⟩, hk =>
    cases hk
    exact hg g o s rfl

theorem wpAppN {ops : Array Oper} {rest : List Oper} {o : Oper} {a : Act} {Q : Exit → Act → World → Prop} {w : World} (hgd : o.guard = none) (s x : Operand) (ho : o.op = .call { callee := .builtin .append, args := #[s, x], argTypes := #[22, 22] })
    (B : Nat) (v : Value) (xo : Option Addr) (n2 c2 : Nat) (L1 L2 : List Sec) (hn2 : L2.length = n2) (hs : a.eval s = v) (hx : a.eval x = .slice xo n2 c2) (hown : w.ownsRow B 39 2 v L1.length (flatS L1)) (hO : SecC w xo L2) (hn : xo = none → c2 = 0) (hl : L1.length + L2.length ≤ 1000000) (hB : B ≤ w.heap.size)
    (h : ∀ v' w', w'.ownsRow B 39 2 v' (L1 ++ L2).length (flatS (L1 ++ L2)) → w.grownBy w' v.ownBlock → wpList Try.prog ops Q rest (a.put o.dst v') w') : wpList Try.prog ops Q (o :: rest) a w := by
  subst hn2
  exact wpAppS hgd s x ho B v xo c2 L1 L2 hs hx hown hO hn hl hB h

set_option maxRecDepth 100000 in
set_option maxHeartbeats 2000000 in
theorem find_any (rb : Nat) (fl : Int) (v : Value) (L : List Sec) (b : Int) (w : World) (h : Rf w rb fl v L) (hl : L.length ≤ 1048576) :
    Calls Try.prog 39 #[.pointer (some ⟨rb, 0, none⟩), .int .i64 b] w fun e w' => e = .returned (.int .i64 (fiI (ofB b) L 0)) ∧ w' = w := by
  obtain ⟨c0, c1, -⟩ := h.cells
  obtain ⟨ao, cap, rfl, hS, -⟩ := h.sec
  have kS := hid hS
  clear h hS c0
  go_enter Try.func39, Try.ntmps39
  go_wp2_with fail
  go_loopw [5] (fun t wr => ∃ k : Nat, k ≤ L.length ∧ t = .int .i64 (k : Int) ∧ Hid (fiI (ofB b) L 0 = fiI (ofB b) (L.drop k) k) ∧ wr = w) (fun t _ => L.length - (intOf t).toNat)
  case atStart => exact ⟨0, Nat.zero_le _, rfl, rfl, by trivial⟩
  case round =>
    obtain ⟨k, hk, rfl, hA, hwr⟩ := hrel
    obtain rfl := hwr.symm
    by_cases hlt : k < L.length
    · obtain ⟨g, o, rfl, d1, d2⟩ := kS.out k hlt
      have hk' : (k : Int) < (L.length : Int) := by omega
      have hdr : Hid (L.drop k = L[k] :: L.drop (k + 1)) := List.drop_eq_getElem_cons hlt
      obtain ⟨x, hx⟩ : ∃ x, L[k] = x := ⟨_, rfl⟩
      rw [hx] at d1 d2 hdr
      obtain ⟨xb, xc⟩ := x
      dsimp only at d1 d2
      clear hx d2
      by_cases he : xb = b
      · have heb : (xb == b) = true := by simpa using he
        have kz : Hid (fiI (ofB b) L 0 = (k : Int)) := by
          show _ = _
          rw [hA.out, hdr.out, fiI, if_pos (by simpa [ofB] using he)]
        clear he
        go_wp2_with fail
        go_ret
        exact ⟨by rw [kz.out]; rfl, rfl⟩
      · have heb : (xb == b) = false := by simpa using he
        have kz : Hid (fiI (ofB b) L 0 = fiI (ofB b) (L.drop (k + 1)) (k + 1)) := by
          show _ = _
          rw [hA.out, hdr.out, fiI, if_neg (by simpa [ofB] using he)]
        clear he
        go_wp2_with fail
        go_roundw
        case rel => exact ⟨k + 1, by omega, by go_num, kz, by trivial⟩
        case measure => simp [intOf]; omega
    · obtain rfl : k = L.length := by omega
      have kz : Hid (fiI (ofB b) L 0 = -1) := by
        show _ = _
        rw [hA.out, List.drop_length, fiI]
      go_wp2_with fail
      go_ret
      exact ⟨by rw [kz.out]; rfl, rfl⟩

/-- Another row in the document's box. -/
theorem Rf.put {w w1 : World} {rb B : Nat} {fl : Int} {v v' : Value} {L L' : List Sec} (h : Rf w rb fl v L) (hb : w1.heap[rb]? = w.heap[rb]?) (hr : w1.ownsRow B 39 2 v' L'.length (flatS L')) : Rf (w1.setCell ⟨rb, 1, none⟩ v') rb fl v' L' := by
  have h1 := hb.trans h.box
  have h2 := heap_set (i := 1) v' h1
  refine ⟨by rw [h2]; rfl, ?_⟩
  have hr2 : (w1.setCell ⟨rb, 1, none⟩ v').ownsRow B 39 2 v' L'.length (flatS L') := owns_kept2 hr (fun k hk => by
    refine (frm_set w1 rb 1 v').block k (hr.lt k hk).2 (fun e => ?_)
    obtain ⟨cur, hc⟩ := owns_row_block hr hk
    rw [e, h1] at hc
    simp at hc)
  rcases owns_new hr2 with ⟨rfl, rfl⟩ | ⟨b, cap, rfl, hb, hc, ow⟩
  · exact ⟨none, 0, rfl, fun i hi => by simp at hi, fun _ => rfl, Nat.le_refl _, fun _ _ _ e => by cases e⟩
  · exact ⟨_, _, rfl, ow.off, (fun e => by cases e), hc, fun g o s e => by cases e; exact owns_row_block hr2 rfl⟩
theorem rblk_own {w : World} {B : Nat} {v : Value} {n : Nat} {xs : List Value} (h : w.ownsRow B 39 2 v n xs) {k : Nat} (hk : rblk v = some k) : v.ownBlock = some k := by
  rcases h.2 with ⟨rfl, _⟩ | ⟨g, cap, cur, rfl, _⟩
  · cases hk
  · cases hk
    rfl

set_option maxRecDepth 100000 in
set_option maxHeartbeats 4000000 in
theorem rdrop_any (rb : Nat) (fl : Int) (v : Value) (L : List Sec) (b : Int) (w : World) (h : Rf w rb fl v L) (hl : L.length ≤ 100000) :
    Calls Try.prog 37 #[.pointer (some ⟨rb, 0, none⟩), .int .i64 b] w fun e w' => e = .returned (.int .i64 (if L.any (ofB b) = true then 0 else 4)) ∧ ∃ v', Rf w' rb fl v' (dropL b L) ∧ (v' = v ∨ ∀ k, rblk v' = some k → w.heap.size ≤ k) ∧ Frm (fun k => k = rb) w w' := by
  have kF := hid (find_any rb fl v L b w h (by omega))
  have kh := hid h
  cases ha : L.any (ofB b)
  · have hz : fiI (ofB b) L 0 = -1 := by rw [fiI_eq, if_neg (by rw [ha]; simp)]
    have hd : Hid (dropL b L = L) := by show _ = _; rw [dropL, if_neg (by rw [ha]; simp)]
    rw [hz] at kF
    rw [if_neg (by simp)]
    clear ha hz h
    go_enter Try.func37, Try.ntmps37
    go_wp2_with fail
    refine kF.out.mono ?_
    rintro e w' ⟨rfl, e2⟩
    rw [e2]
    clear e2
    go_wp2_with fail
    go_ret
    exact ⟨rfl, v, by rw [hd.out]; exact kh.out, Or.inl rfl, Frm.refl _ _⟩
  · obtain ⟨i, hi⟩ : ∃ i, L.findIdx (ofB b) = i := ⟨_, rfl⟩
    have hz : fiI (ofB b) L 0 = (i : Int) := by rw [fiI_eq, if_pos ha, hi, Nat.zero_add]
    have hd : Hid (dropL b L = L.eraseIdx i) := by show _ = _; rw [dropL, if_pos ha, hi]
    have hil : i < L.length := by rw [← hi]; exact find_lt ha
    rw [hz] at kF
    rw [if_pos rfl]
    obtain ⟨c0, c1, cf⟩ := h.cells
    obtain ⟨ao, cap, rfl, hS, hn, hc, hg⟩ := h.sec
    obtain ⟨g, og, rfl, -, -⟩ := hS i hil
    have hSt : SecC w (some ⟨g, og, none⟩) (L.take i) := fun j hj => by
      have hj2 : j < L.length := by simp at hj; omega
      obtain ⟨g', o', e, h1, h2⟩ := hS j hj2
      exact ⟨g', o', e, by rw [List.getElem_take]; exact h1, by rw [List.getElem_take]; exact h2⟩
    obtain ⟨A, hA, hsrc⟩ : ∃ A : Addr, (if cap = i + 1 then some (⟨g, og, none⟩ : Addr) else some ⟨g, og + (i + 1) * 2, none⟩) = some A ∧ Hid (SecC w (some A) (L.drop (i + 1)) ∧ A.block = g) := by
      by_cases e : cap = i + 1
      · refine ⟨_, by rw [if_pos e], fun j hj => ?_, rfl⟩
        simp at hj
        omega
      · refine ⟨_, by rw [if_neg e], fun j hj => ?_, rfl⟩
        have hj2 : i + 1 + j < L.length := by simp at hj; omega
        obtain ⟨g', o', e, h1, h2⟩ := hS (i + 1 + j) hj2
        simp only [Option.some.injEq, Addr.mk.injEq, and_true] at e
        obtain ⟨rfl, rfl⟩ := e
        rw [show og + (i + 1 + j) * 2 = og + (i + 1) * 2 + j * 2 by omega] at h1 h2
        exact ⟨g, _, rfl, by rw [List.getElem_drop]; exact h1, by rw [List.getElem_drop]; exact h2⟩
    obtain ⟨T, hT⟩ : ∃ T, L.take i = T := ⟨_, rfl⟩
    obtain ⟨D, hD⟩ : ∃ D, L.drop (i + 1) = D := ⟨_, rfl⟩
    have hTl : T.length = i := by rw [← hT]; simp; omega
    have hDl : D.length = L.length - (i + 1) := by rw [← hD]; simp
    have hTD : Hid (L.eraseIdx i = T ++ D) := by show _ = _; rw [List.eraseIdx_eq_take_drop_succ, hT, hD]
    rw [hT] at hSt
    rw [hD] at hsrc
    have kTl := hid hTl
    have kDl := hid hDl
    clear hT hD
    have hk1 : (0 : Int) ≤ (i : Int) := by omega
    have hk2 : (i : Int) ≤ (cap : Int) := by omega
    have hk3 : (0 : Int) ≤ (i : Int) + 1 := by omega
    have hk4 : (i : Int) + 1 ≤ (L.length : Int) := by omega
    have hk5 : i ≤ cap := by omega
    have hk6 : i + 1 ≤ cap := by omega
    have ow0 : w.ownsRow w.heap.size 39 2 (.slice none 0 0) ([] : List Sec).length (flatS []) := ⟨rfl, Or.inl ⟨rfl, rfl⟩⟩
    clear ha hz h hi hn hS hg hTl hDl
    go_enter Try.func37, Try.ntmps37
    go_wp2_with fail
    refine kF.out.mono ?_
    rintro e w' ⟨rfl, e2⟩
    rw [e2]
    clear e2
    go_wp2_with (at_builtin; refine wpAppN (by rfl) _ _ (by rfl) w.heap.size (.slice none 0 0) (some ⟨g, og, none⟩) i cap [] T kTl.out (by rfl) (by rfl) ow0 hSt (fun h => by cases h) (by rw [kTl.out]; simp; omega) (Nat.le_refl _) ?_)
    intro v1 w1 r1 g1
    have o1 : Old w w1 := ⟨g1.os, g1.tape, g1.output, g1.size, fun q hq _ => g1.block q hq (by simp [Value.ownBlock])⟩
    have d1 := o1.cell c1
    have hr1 : w1.ownsRow w.heap.size 39 2 v1 T.length (flatS T) := by simpa using r1
    obtain ⟨a1, k1, hv1, -, -⟩ := (owns_new hr1).off
    rw [kTl.out] at hv1
    subst hv1
    have hsrc1 := hsrc.out.1.old o1
    have ko1 := hid o1
    have kr1 := hid hr1
    clear r1 g1 ow0 hSt c0 c1 cf
    go_wp2_with (at_builtin; refine wpAppN (by rfl) _ _ (by rfl) w.heap.size (.slice a1 i k1) (some A) (L.length - (i + 1)) (cap - (i + 1)) T D kDl.out (by rfl) (by rfl) hr1 hsrc1 (fun h => by cases h) (by rw [kTl.out, kDl.out]; omega) ko1.out.size ?_)
    intro v2 w2 r2 g2
    have f2 : Frm (fun q => (Value.slice a1 i k1).ownBlock = some q) w1 w2 := Frm.grown (Frm.refl _ _) g2 (fun q hq => Or.inr hq)
    have k2 : Hid (Old w w2) := Frm.trans ko1.out f2 (fun j hj e => by have := (kr1.out.lt j e).1; omega)
    have hrb : Hid (w2.heap[rb]? = w.heap[rb]?) := k2.out.block rb (blk_lt kh.out.box) (fun h => h)
    have e1 := hrb.out.trans kh.out.box
    have q1 := blk_cells (i := 1) (v := .slice (some ⟨g, og, none⟩) L.length cap) e1 rfl
    have qf := blk_fz e1 1
    have r3 : w2.ownsRow w.heap.size 39 2 v2 (L.eraseIdx i).length (flatS (L.eraseIdx i)) := by rw [hTD.out]; simpa using r2
    obtain ⟨a2, p2, hv2, -, -⟩ := (owns_new r3).off
    subst hv2
    have kr2 := hid r3
    clear r2 r3 g2 f2 e1 hr1 hsrc1 d1
    go_wp2_with fail
    go_ret
    refine ⟨rfl, _, by rw [hd.out]; exact kh.out.put hrb.out kr2.out, Or.inr (fun k hk => (kr2.out.lt k (rblk_own kr2.out hk)).1), Frm.trans (k2.out.mono (fun _ _ h => h.elim)) (frm_set w2 rb 1 _) (fun _ _ h => h)⟩
end Go.Proofs.Ytfmeobelpideoaa
