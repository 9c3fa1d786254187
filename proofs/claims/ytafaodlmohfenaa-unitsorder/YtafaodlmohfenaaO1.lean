/- Order by the program: bids copied, and gone over; bids that are written over. -/
import Derived.Test.YtafaodlmohfenaaB1
import Derived.Test.YtafaodlmohfenaaU6
namespace Go.Proofs.Ytafaodlmohfenaa
open Go.RowKit

set_option maxRecDepth 100000 in
set_option maxHeartbeats 2000000 in
theorem nclone_any (ao : Option Addr) (cap : Nat) (L : List Int) (w : World) (h : NumsC .i64 w ao L) (hl : L.length ≤ 100000) (hne : 0 < L.length) :
    Calls Try.prog 32 #[.slice ao L.length cap] w fun e w' => ∃ b c, e = .returned (.slice (some ⟨b, 0, none⟩) L.length c) ∧ L.length ≤ c ∧ RowN w.heap.size w' b L ∧ Old w w' := by
  have q22 : ∀ (w : World) (a : Option Addr) (n c n' c' : Nat), (binOp .eql 41 (.slice a n c) (.slice none n' c')).run Try.prog w = .ok (.bool a.isNone) w := fun w a n c n' c' => Lib.run_eql_slice_nil w _ _ a n c n' c' Try.underlying41
  obtain ⟨g, o, rfl, -⟩ := h 0 hne
  have o1 : Old w (w.alloc (.cells #[] 2)) := (Old.refl w).alloc _
  have hc' := num_cells (h.old o1)
  have ow0 : (w.alloc (.cells #[] 2)).ownsRow w.heap.size 2 1 (.slice (some ⟨w.heap.size, 0, none⟩) 0 0) ([] : List Value).length [] := ⟨rfl, Or.inr ⟨w.heap.size, 0, #[], rfl, Nat.le_refl _, heap_new w _, Nat.le_refl _, by unfold maxLen; omega, rfl, rfl⟩⟩
  have ko := hid o1
  have h1 := ints_one L
  obtain ⟨i0, hi0, hz0, hz1, hz2⟩ := parts_n
  clear o1 h
  go_enter Try.func32, Try.ntmps32
  go_wp2_with (at_builtin; refine wpList_append_own _ (by rfl) _ _ 41 (by rfl) w.heap.size 2 i0 _ 1 8 Try.underlying41 hi0 hz0 hz1 hz2 rfl (by omega) (.slice (some ⟨w.heap.size, 0, none⟩) 0 0) 0 [] (by rfl) ow0 ⟨g, o, none⟩ L.length cap (L.map (Value.int .i64)) (by rfl) (by simp) hc' h1 (by unfold maxLen; omega) (by omega) ko.out.size ?_)
  intro v2 w2 r2 g2 _
  have o2 : Hid (Old w w2) := by
    have f2 : Frm (fun q => q = w.heap.size) (w.alloc (.cells #[] 2)) w2 := Frm.grown (Frm.refl _ _) g2 (fun q hq => Or.inr (by simp [Value.ownBlock] at hq; exact hq.symm))
    exact Frm.trans ko.out f2 (fun i hi e => by omega)
  have r3 : w2.ownsRow w.heap.size 2 1 v2 L.length (L.map (Value.int .i64)) := by simpa using r2
  rcases r3.2 with ⟨-, e0⟩ | ⟨b, c, cur, rfl, h3, h4, h5, h6, h7, h8⟩
  · omega
  have kr : Hid (RowN w.heap.size w2 b L) := by
    refine ⟨fun i hi => ?_, fun j => blk_fz h4 j, ⟨cur, h4⟩, h3⟩
    have g1 : (cur.toList.take (L.length * 1))[i]? = (L.map (Value.int .i64))[i]? := by rw [h8]
    rw [List.getElem?_take_of_lt (by omega), List.getElem?_map, List.getElem?_eq_getElem hi] at g1
    rw [ct_eq hi]
    exact blk_cells h4 (by simpa using g1)
  have hlc : Hid (L.length ≤ c) := by show _ ≤ _; omega
  clear r2 r3 g2 ow0 hc' h1 h4 h5 h6 h7 h8
  go_wp2_with fail
  go_ret
  exact ⟨b, c, rfl, hlc.out, kr.out, o2.out⟩

/-- Bids that lie in blocks from N on. -/
def BidsH (N : Nat) (w : World) (ao : Option Addr) (B : List (List Int)) : Prop := ∀ i, i < B.length → ∃ g o ai c, ao = some ⟨g, o, none⟩ ∧ N ≤ g ∧ w.cell? ⟨g, o + i, none⟩ = some (.slice ai (bd B i).length c) ∧ (bd B i).length ≤ c ∧ ∀ p, p < (bd B i).length → ∃ gi oi, ai = some ⟨gi, oi, none⟩ ∧ N ≤ gi ∧ w.cell? ⟨gi, oi + p, none⟩ = some (.int .i64 (ct (bd B i) p))
theorem BidsH.bids {N : Nat} {w : World} {ao : Option Addr} {B : List (List Int)} (h : BidsH N w ao B) : BidsC w ao B := fun i hi => by
  obtain ⟨g, o, ai, c, h1, h2, h3, h4, h5⟩ := h i hi
  refine ⟨g, o, h1, ai, c, h3, h4, fun p hp => ?_⟩
  obtain ⟨gi, oi, e, _, hc⟩ := h5 p hp
  rw [ct_eq hp] at hc
  exact ⟨gi, oi, e, hc⟩
theorem BidsH.frm {N : Nat} {w w' : World} {ao : Option Addr} {B : List (List Int)} {S : Nat → Prop} (h : BidsH N w ao B) (f : Frm S w w') (hS : ∀ k, S k → k < N) : BidsH N w' ao B := fun i hi => by
  obtain ⟨g, o, ai, c, h1, h2, h3, h4, h5⟩ := h i hi
  refine ⟨g, o, ai, c, h1, h2, frm_cell f h3 (fun hs => by have := hS _ hs; simp at this; omega), h4, fun p hp => ?_⟩
  obtain ⟨gi, oi, e, hl, hc⟩ := h5 p hp
  exact ⟨gi, oi, e, hl, frm_cell f hc (fun hs => by have := hS _ hs; simp at this; omega)⟩
theorem BidsH.old {N : Nat} {w w' : World} {ao : Option Addr} {B : List (List Int)} (h : BidsH N w ao B) (f : Old w w') : BidsH N w' ao B := h.frm f (fun _ h => h.elim)

theorem info_l2 : (Try.prog.info? 41).map (fun i => (i.zero, i.bytes, i.size)) = some (some (.slice none 0 0), 24, 1) := by kernel_rfl
def zeroL (n : Nat) : Obj := .cells (Array.replicate n (.slice none 0 0)) 41
theorem made_sl (n : Nat) : madeCells (Value.slice none 0 0).cells n = Array.replicate n (Value.slice none 0 0) := by
  unfold madeCells
  apply Array.ext
  · simp
  · intro i h1 h2
    simp [Value.cells, Nat.mod_one]
theorem make_l (n : Nat) (hn : n ≤ 1048576) (w : World) : (Instr.makeSlice 22 (.int .i64 (n : Int)) (.int .i64 (n : Int))).run Try.prog w = .ok (.slice (some ⟨w.heap.size, 0, none⟩) n n) (w.alloc (zeroL n)) := by
  obtain ⟨i, hi, h2⟩ := Option.map_eq_some_iff.1 info_l2
  simp only [Prod.mk.injEq] at h2
  obtain ⟨hz, hb, hs⟩ := h2
  have h := run_make (P := Try.prog) w 22 41 i (.slice none 0 0) Try.underlying22 hi hz .i64 .i64 n n (by omega) (by omega) (by rw [hb]; omega) (by omega)
  rw [h, hs]
  simp only [Int.toNat_natCast, Nat.mul_one, made_sl]
  rfl

/-- The first k bids are copied. -/
structure CpS (w : World) (ob : Nat) (B : List (List Int)) (k : Nat) (W : World) : Prop where
  blk : ∃ arr : Array Value, W.heap[ob]? = some (.cells arr 41 (0, 0)) ∧ arr.size = B.length
  row : ∀ i, i < k → ∃ b c, W.cell? ⟨ob, i, none⟩ = some (.slice (some ⟨b, 0, none⟩) (bd B i).length c) ∧ (bd B i).length ≤ c ∧ RowN w.heap.size W b (bd B i)
  old : Old w W
  lo : w.heap.size ≤ ob
theorem CpS.step {w : World} {ob : Nat} {B : List (List Int)} {k : Nat} {W W' : World} (h : CpS w ob B k W) (hk : k < B.length) (o : Old W W') {b c : Nat} (hc : (bd B k).length ≤ c) (hr : RowN W.heap.size W' b (bd B k)) : CpS w ob B (k + 1) (W'.setCell ⟨ob, k, none⟩ (.slice (some ⟨b, 0, none⟩) (bd B k).length c)) := by
  obtain ⟨arr, ha, hsz⟩ := h.blk
  have ha' := blk_frm ha o (fun h => h)
  have f := frm_set W' ob k (.slice (some ⟨b, 0, none⟩) (bd B k).length c)
  have hnob : ∀ x L lo, RowN lo W' x L → x ≠ ob := fun x L lo hx => by
    obtain ⟨cur, hcur⟩ := hx.ty
    exact typ_ne hcur ha' (by decide)
  refine ⟨⟨_, heap_set _ ha', by simpa using hsz⟩, fun i hi => ?_, Frm.trans (h.old.trans o) f (fun i hi e => by have := h.lo; omega), h.lo⟩
  by_cases e : i = k
  · subst e
    have hce : W'.cell? ⟨ob, i, none⟩ = some (arr[i]'(by omega)) := blk_cells ha' (Array.getElem?_eq_getElem (by omega))
    refine ⟨b, c, set_same hce, hc, ?_⟩
    have := hr.frm f (hnob b _ _ hr)
    exact ⟨this.cell, this.fz, this.ty, by have := hr.lo; have := h.old.size; omega⟩
  · obtain ⟨b', c', h1, h2, h3⟩ := h.row i (by omega)
    have h3' := h3.frm o (fun h => h)
    exact ⟨b', c', set_oth (o.cell h1) (fun e2 => e e2.symm), h2, h3'.frm f (hnob b' _ _ h3')⟩
theorem CpS.bids {w : World} {ob : Nat} {B : List (List Int)} {W : World} (h : CpS w ob B B.length W) : BidsH w.heap.size W (some ⟨ob, 0, none⟩) B := fun i hi => by
  obtain ⟨b, c, h1, h2, h3⟩ := h.row i hi
  refine ⟨ob, 0, _, c, rfl, h.lo, by rw [Nat.zero_add]; exact h1, h2, fun p hp => ⟨b, 0, rfl, h3.lo, ?_⟩⟩
  rw [Nat.zero_add]
  exact h3.cell p hp

/-- What Order tells: a function over which one ranges, over copies. -/
def OrdP (w w' : World) (B : List (List Int)) (e : Ending) : Prop := ∃ cb ao cp, e = .returned (.func (.func 39) #[] #[.pointer (some ⟨cb, 0, none⟩)]) ∧ w'.cell? ⟨cb, 0, none⟩ = some (.slice ao B.length cp) ∧ BidsH w.heap.size w' ao B ∧ w.heap.size ≤ cb

set_option maxRecDepth 100000 in
set_option maxHeartbeats 4000000 in
theorem order_any (count fl : Int) (ao : Option Addr) (cp : Nat) (B : List (List Int)) (w : World) (hC : BidsC w ao B) (hf : Few B) :
    Calls Try.prog 23 #[.int .i64 count, .int .i64 fl, .slice ao B.length cp] w fun e w' => OrdP w w' (if rfZ count fl B = 0 then B else []) e ∧ Old w w' := by
  have kR := hid (refusal_any count fl ao cp B w hC hf)
  have kC := hid hC
  have hfew := hf.few
  have hM := fun w => make_l B.length (by omega) w
  have kI := hid inOrder_any
  by_cases h0 : rfZ count fl B = 0
  · have hok := (ok_of h0 hf).ok.ne
    have kne := hid hok
    have kf := hid hf
    rw [if_pos h0]
    rw [h0] at kR
    clear hC hf h0 hok
    go_enter Try.func23, Try.ntmps23
    go_wp2_with fail
    refine kR.out.mono ?_
    rintro e w' ⟨rfl, e2⟩
    rw [e2]
    clear e2 kR
    go_wp2_with fail
    have hS0 : Hid (CpS w w.heap.size B 0 (w.alloc (zeroL B.length))) := ⟨⟨_, heap_new w _, by simp⟩, fun i hi => by omega, (Old.refl w).alloc _, Nat.le_refl _⟩
    generalize w.alloc (zeroL B.length) = w1 at *
    obtain ⟨ob, hob⟩ : ∃ ob, w.heap.size = ob := ⟨_, rfl⟩
    rw [hob] at hS0 ⊢
    have kob := hid hob
    clear hob hM
    go_loopw [21] (fun t wr => ∃ k : Nat, k ≤ B.length ∧ t = .int .i64 (k : Int) ∧ Hid (CpS w ob B k wr)) (fun t _ => B.length - (intOf t).toNat)
    case atStart => exact ⟨0, Nat.zero_le _, rfl, hS0⟩
    case round =>
      clear hS0
      obtain ⟨k, hk, rfl, hS⟩ := hrel
      by_cases hlt : k < B.length
      · have hlt' : (k : Int) < (B.length : Int) := by omega
        obtain ⟨g, o, rfl, ai, c, l1, hcl, hn⟩ := kC.out.old hS.out.old k hlt
        have kN := hid (nclone_any ai c (bd B k) wr hn (by have := kf.out.row k hlt; omega) (kne.out k hlt))
        obtain ⟨arr, ha, hsz⟩ := hS.out.blk
        generalize hrl : (bd B k).length = rl at *
        have krl := hid hrl
        clear hn hrl
        go_wp2_with fail
        refine kN.out.mono ?_
        rintro e w2 ⟨b, c2, rfl, hc2, hr, o2⟩
        have ha2 := blk_frm ha o2 (fun h => h)
        have hce : w2.cell? ⟨ob, k, none⟩ = some (arr[k]'(by omega)) := blk_cells ha2 (Array.getElem?_eq_getElem (by omega))
        have fz := blk_fz ha2 k
        have hst := hid (hS.out.step hlt o2 (by rw [krl.out]; exact hc2) hr)
        rw [krl.out] at hst
        generalize arr[k]'(by omega) = u0 at *
        clear kN ha ha2 hsz hr o2 l1 hS hc2
        go_wp2_with fail
        go_roundw
        case rel => exact ⟨k + 1, by omega, by go_num, hst⟩
        case measure => simp [intOf]; omega
      · obtain rfl : k = B.length := by omega
        have hlt' : ¬ (B.length : Int) < (B.length : Int) := by omega
        go_wp2_with fail
        refine (kI.out _ _ _ wr).mono ?_
        rintro e w3 ⟨rfl, e3⟩
        have o3 : Old wr w3 := by rw [e3]; exact (Old.refl wr).alloc _
        have hc3 : w3.cell? ⟨wr.heap.size, 0, none⟩ = some (.slice (some ⟨ob, 0, none⟩) B.length B.length) := by rw [e3]; exact new_cell _ _ _ 0 _ rfl
        have kc3 := hid hc3
        have hB3 := hid (hS.out.bids.old o3)
        have kfin := hid (hS.out.old.trans o3)
        have hsz := hid hS.out.old.size
        clear e3 o3 hc3
        go_wp2_with fail
        go_ret
        exact ⟨⟨_, _, _, rfl, kc3.out, hB3.out, hsz.out⟩, kfin.out⟩
  · rw [if_neg h0]
    obtain ⟨z, hz⟩ : ∃ z, rfZ count fl B = z := ⟨_, rfl⟩
    rw [hz] at kR h0
    have hne : (z != 0) = true := by simpa using h0
    clear hC hf h0 hz hM
    go_enter Try.func23, Try.ntmps23
    go_wp2_with fail
    refine kR.out.mono ?_
    rintro e w' ⟨rfl, e2⟩
    rw [e2]
    clear e2 kR
    go_wp2_with fail
    refine (kI.out none 0 0 w).mono ?_
    rintro e w3 ⟨rfl, e3⟩
    have o3 : Hid (Old w w3) := by rw [e3]; exact (Old.refl w).alloc _
    have hc3 : Hid (w3.cell? ⟨w.heap.size, 0, none⟩ = some (.slice none 0 0)) := by rw [e3]; exact new_cell _ _ _ 0 _ rfl
    clear e3
    go_wp2_with fail
    go_ret
    exact ⟨⟨_, none, 0, rfl, hc3.out, fun i hi => by simp at hi, Nat.le_refl _⟩, o3.out⟩
end Go.Proofs.Ytafaodlmohfenaa
