/- Would an account have less than its least behind a posting? -/
import Derived.Test.YtlhlmkdgbgppiaaJ5
import Derived.Laws.MakeOwn
import Derived.Deep.AppendLies
import Derived.Laws.AppendOwnNone
import Derived.Lib.SliceRun
namespace Go.Proofs.Ytlhlmkdgbgppiaa
open Go.RowKit Go.Shelf Go.Maps

theorem OkP.sum_bnd {n : Nat} {p : List En} (h : OkP n p) (a : Nat) : -9007199254740992 ≤ sumE p a ∧ sumE p a ≤ 9007199254740992 := by
  have := sumE_bnd p a (fun e he => by have := h.each e he; omega)
  have := h.len
  omega

set_option maxRecDepth 100000 in
set_option maxHeartbeats 2000000 in
theorem behind1_any (b ib ab N nb : Nat) (pv : Value) (A : List Ac) (p : List En) (a : Nat) (w : World) (hB : Beh w b ib p) (h1 : w.heap[ib]? = some (.cells #[.pointer (some ⟨nb, 0, none⟩), .map (some ab), pv] 67 (0, 0))) (hA : AM w ab N (lkA A)) (hk : OkA A) (hp : OkP 65536 p) (ha : a < 65536) :
    Calls Try.prog 87 #[.int .i64 (a : Int), .pointer (some ⟨b, 0, none⟩), .pointer (some ⟨b + 2, 0, none⟩)] w fun e w' => e = .returned (.int .i64 ((A.getD a (0, 0)).2 + sumE p a)) ∧ ∃ m, w' = w.drewN m := by
  have c0 := hB.c0
  have c1 := hB.c1
  have i1 : w.cell? ⟨ib, 1, none⟩ = some (.map (some ab)) := blk_cells h1 rfl
  have hac : i64ok (a : Int) := by unfold i64ok; omega
  obtain ⟨M, f, hPM, hf⟩ := hB.pm
  have l1 := fun n => (hA.kept ((Old.refl w).drewN n) (fun h => h)).look1 hac
  have l2 := fun n => (hPM.kept ((Old.refl w).drewN n) (fun h => h)).look1 hac
  rw [hf a ha] at l2
  simp only [lkA_getD] at l1
  have hb := hk.at a
  have hs := hp.sum_bnd a
  generalize A.getD a (0, 0) = x at *
  generalize sumE p a = y at *
  obtain ⟨x1, x2⟩ := x
  unfold acV at l1
  dsimp only at l1 hb ⊢
  have hlo : -9223372036854775808 ≤ x2 + y := by omega
  have hhi : x2 + y ≤ 9223372036854775807 := by omega
  have hf1 := fun W => fld1 x1 x2 W
  clear hB h1 hA hk hp hf hPM hac hb hs ha
  go_enter Try.func87, Try.ntmps87
  go_wp2_with fail
  go_quiet (fail)
  go_wp2_with fail
  go_ret
  exact ⟨rfl, _, rfl⟩

/-- What an account's test asks: whether the closure tells it in a world. -/
structure LowC (W : World) (b s ib ab nb N : Nat) (pv : Value) (A : List Ac) (p : List En) : Prop where
  beh : Beh W b ib p
  bx : W.cell? ⟨s, 0, none⟩ = some (behV b)
  inb : W.cell? ⟨b - 1, 0, none⟩ = some (.pointer (some ⟨ib, 0, none⟩))
  ins : W.heap[ib]? = some (.cells #[.pointer (some ⟨nb, 0, none⟩), .map (some ab), pv] 67 (0, 0))
  am : AM W ab N (lkA A)
theorem LowC.old {W W' : World} {b s ib ab nb N : Nat} {pv : Value} {A : List Ac} {p : List En} (h : LowC W b s ib ab nb N pv A p) (o : Old W W') : LowC W' b s ib ab nb N pv A p :=
  ⟨h.beh.old o, o.cell h.bx, o.cell h.inb, by rw [o.block _ (blk_lt h.ins) (fun h => h)]; exact h.ins, h.am.kept o (fun h => h)⟩

set_option maxRecDepth 100000 in
set_option maxHeartbeats 4000000 in
theorem low1_any (b s ib ab nb N : Nat) (pv : Value) (A : List Ac) (p : List En) (e : En) (w : World) (h : LowC w b s ib ab nb N pv A p) (hk : OkA A) (hp : OkP 65536 p) (he : e.1 < 65536) :
    Calls Try.prog 85 #[.agg #[.int .i64 (e.1 : Int), .int .i64 e.2], .pointer (some ⟨s, 0, none⟩), .pointer (some ⟨b - 1, 0, none⟩)] w fun r w' => r = .returned (.bool (lowE A p e)) ∧ Old w w' := by
  obtain ⟨a, co⟩ := e
  have o1 : Old w (w.alloc (.cells #[.int .i64 (a : Int), .int .i64 co] 150)) := (Old.refl w).alloc _
  have n0 := new_cell w #[.int .i64 (a : Int), .int .i64 co] 150 0 _ rfl
  have h1 := h.old o1
  have c0 := h1.bx
  have c1 := h1.inb
  have i1 : (w.alloc (.cells #[.int .i64 (a : Int), .int .i64 co] 150)).cell? ⟨ib, 1, none⟩ = some (.map (some ab)) := blk_cells h1.ins rfl
  have hac : i64ok (a : Int) := by dsimp only at he; unfold i64ok; omega
  have kB := fun n => hid (behind1_any b ib ab N nb pv A p a _ (h1.old ((Old.refl _).drewN n)).beh (h1.old ((Old.refl _).drewN n)).ins (h1.old ((Old.refl _).drewN n)).am hk hp he)
  have l1 := fun n => (h1.old ((Old.refl _).drewN n)).am.look1 hac
  simp only [lkA_getD] at l1
  unfold lowE
  simp only
  have ko := hid o1
  unfold behV at c0
  clear h h1 hk hp he o1
  generalize A.getD a (0, 0) = x at *
  generalize sumE p a = y at *
  obtain ⟨x1, x2⟩ := x
  unfold acV at l1
  dsimp only at l1 kB ⊢
  have hf1 := fun W => fld0 x1 x2 W
  generalize b - 1 = bi at *
  go_enter Try.func85, Try.ntmps85
  go_wp2_with fail
  go_quiet (exact Calls.quiet_of (kB _).out)
  go_wp2_with fail
  go_ret
  exact ⟨rfl, ko.out.drewN _⟩

def idxI (f : En → Bool) : List En → Int → Int
  | [], _ => -1
  | e :: p, k => if f e = true then k else idxI f p (k + 1)
theorem idxI_any (f : En → Bool) : ∀ (p : List En) (k : Nat), decide (0 ≤ idxI f p (k : Int)) = p.any f
  | [], k => by simp [idxI]
  | e :: p, k => by
    unfold idxI
    rw [List.any_cons]
    cases h : f e
    · simp only [Bool.false_eq_true, if_false, Bool.false_or]
      exact idxI_any f p (k + 1)
    · simp

set_option maxRecDepth 100000 in
set_option maxHeartbeats 2000000 in
theorem index_any (b s ib ab nb N : Nat) (pv : Value) (A : List Ac) (p : List En) (v : Value) (w : World) (hv : PosC w v p) (h : LowC w b s ib ab nb N pv A p) (hk : OkA A) (hp : OkP 65536 p) :
    Calls Try.prog 88 #[v, .func (.func 85) #[] #[.pointer (some ⟨s, 0, none⟩), .pointer (some ⟨b - 1, 0, none⟩)]] w fun e w' => e = .returned (.int .i64 (idxI (lowE A p) p 0)) ∧ Old w w' := by
  obtain ⟨g, rfl, hc⟩ := hv.at
  have kc := hid hc
  have kL := hid (fun W (o : Old w W) e (he : e ∈ p) => low1_any b s ib ab nb N pv A p e W (h.old o) hk hp (hp.each e he).1)
  have hlen := hp.len.2
  clear hc h hk hp hv
  generalize lowE A p = f at *
  generalize b - 1 = bi at *
  go_enter Try.func88, Try.ntmps88
  go_wp2_with fail
  go_loopw [8] (fun t wr => ∃ k : Nat, k ≤ p.length ∧ t = .int .i64 (k : Int) ∧ Hid (idxI f p 0 = idxI f (p.drop k) k) ∧ Hid (Old w wr)) (fun t _ => p.length - (intOf t).toNat)
  case atStart => exact ⟨0, Nat.zero_le _, rfl, rfl, Old.refl _⟩
  case round =>
    obtain ⟨k, hk, rfl, hA, oW⟩ := hrel
    by_cases hlt : k < p.length
    · obtain ⟨x0, x1⟩ := kc.out k hlt
      have x0 := oW.out.cell x0
      have x1 := oW.out.cell x1
      have hk' : (k : Int) < (p.length : Int) := by omega
      have hdr : Hid (p.drop k = p[k] :: p.drop (k + 1)) := List.drop_eq_getElem_cons hlt
      have kE := hid (kL.out wr oW.out p[k] (List.getElem_mem hlt))
      obtain ⟨⟨a, co⟩, hle⟩ : ∃ l, p[k] = l := ⟨_, rfl⟩
      rw [hle] at x0 x1 hdr kE
      dsimp only at x0 x1 kE
      clear hle
      cases h8 : f (a, co)
      · rw [h8] at kE
        have kz : Hid (idxI f p 0 = idxI f (p.drop (k + 1)) ((k + 1 : Nat) : Int)) := by
          show _ = _
          rw [hA.out, hdr.out, idxI, h8]
          rfl
        clear h8
        go_wp2_with fail
        refine kE.out.mono ?_
        rintro e w' ⟨rfl, o2⟩
        have o3 := hid (oW.out.trans o2)
        clear o2
        go_wp2_with fail
        go_roundw
        case rel => exact ⟨k + 1, by omega, by go_num, kz, o3⟩
        case measure => simp [intOf]; omega
      · rw [h8] at kE
        have kz : Hid (idxI f p 0 = (k : Int)) := by
          show _ = _
          rw [hA.out, hdr.out, idxI, if_pos h8]
        clear h8
        go_wp2_with fail
        refine kE.out.mono ?_
        rintro e w' ⟨rfl, o2⟩
        have o3 := hid (oW.out.trans o2)
        clear o2
        go_wp2_with fail
        go_ret
        exact ⟨by rw [kz.out]; rfl, o3.out⟩
    · obtain rfl : k = p.length := by omega
      have kz : Hid (idxI f p 0 = -1) := by
        show _ = _
        rw [hA.out, List.drop_length, idxI]
      go_wp2_with fail
      go_ret
      exact ⟨by rw [kz.out]; rfl, oW.out⟩

set_option maxRecDepth 100000 in
theorem contains_any (b s ib ab nb N : Nat) (pv : Value) (A : List Ac) (p : List En) (v : Value) (w : World) (hv : PosC w v p) (h : LowC w b s ib ab nb N pv A p) (hk : OkA A) (hp : OkP 65536 p) :
    Calls Try.prog 84 #[v, .func (.func 85) #[] #[.pointer (some ⟨s, 0, none⟩), .pointer (some ⟨b - 1, 0, none⟩)]] w fun e w' => e = .returned (.bool (lowB A p)) ∧ Old w w' := by
  have k := hid (index_any b s ib ab nb N pv A p v w hv h hk hp)
  have kb := hid (idxI_any (lowE A p) p 0)
  simp only [Int.natCast_zero] at kb
  have kq : Hid (lowB A p = p.any (lowE A p)) := rfl
  obtain ⟨g, rfl, hc⟩ := hv.at
  clear hc h hk hp hv
  generalize idxI (lowE A p) p 0 = z at *
  generalize p.any (lowE A p) = q at *
  generalize lowB A p = r at *
  generalize b - 1 = bi at *
  go_enter Try.func84, Try.ntmps84
  go_wp2_with fail
  refine k.out.mono ?_
  rintro e w' ⟨rfl, o⟩
  have ko := hid o
  clear o
  go_wp2_with fail
  go_ret
  exact ⟨by rw [kq.out, ← kb.out]; rfl, ko.out⟩

set_option maxRecDepth 100000 in
set_option maxHeartbeats 2000000 in
theorem low_any (ib ab nb N : Nat) (pv : Value) (A : List Ac) (p : List En) (v : Value) (w : World) (hv : PosC w v p) (h1 : w.heap[ib]? = some (.cells #[.pointer (some ⟨nb, 0, none⟩), .map (some ab), pv] 67 (0, 0))) (hA : AM w ab N (lkA A)) (hk : OkA A) (hp : OkP 65536 p) :
    Calls Try.prog 71 #[.pointer (some ⟨ib, 0, none⟩), v] w fun e w' => e = .returned (.bool (lowB A p)) ∧ Old w w' := by
  have o1 : Old w (w.alloc (.cells #[.pointer (some ⟨ib, 0, none⟩)] 56)) := (Old.refl w).alloc _
  have n1 := new_cell w #[.pointer (some ⟨ib, 0, none⟩)] 56 0 _ rfl
  have z1 := alloc_size w (.cells #[.pointer (some ⟨ib, 0, none⟩)] 56)
  have kB := hid (behind_any ib p v _ (hv.frm o1 (NotP.none w)) hp)
  have kC := hid (fun W b s (o : Old w W) (h : LowC W b s ib ab nb N pv A p) => contains_any b s ib ab nb N pv A p v W (hv.frm o (NotP.none w)) h hk hp)
  obtain ⟨g, rfl, hc⟩ := hv.at
  have kh1 := hid h1
  have kA := hid hA
  have ko := hid o1
  have kz := hid z1
  clear hc h1 hA hk hp hv o1 z1
  generalize hr : lowB A p = r at *
  clear hr
  go_enter Try.func71, Try.ntmps71
  go_wp2_with fail
  refine kB.out.mono ?_
  rintro e w2 ⟨rfl, o2, hBeh⟩
  rw [kz.out] at hBeh ⊢
  have oA := hid (ko.out.trans o2)
  have m1 := o2.cell n1
  have o3 : Old w2 (w2.alloc (.cells #[behV (w.heap.size + 1)] 160)) := (Old.refl w2).alloc _
  have n3 := new_cell w2 #[behV (w.heap.size + 1)] 160 0 _ rfl
  have hLow : LowC (w2.alloc (.cells #[behV (w.heap.size + 1)] 160)) (w.heap.size + 1) w2.heap.size ib ab nb N pv A p :=
    ⟨hBeh.old o3, n3, o3.cell m1, by
      rw [o3.block _ (Nat.lt_of_lt_of_le (blk_lt kh1.out) oA.out.size) (fun h => h), oA.out.block _ (blk_lt kh1.out) (fun h => h)]
      exact kh1.out, (kA.out.kept oA.out (fun h => h)).kept o3 (fun h => h)⟩
  have kC2 := hid (kC.out _ _ _ (oA.out.trans o3) hLow)
  have oB := hid (oA.out.trans o3)
  clear hLow kC o3 n3 hBeh o2 oA
  rw [Nat.add_sub_cancel] at kC2
  unfold behV at kC2 oB ⊢
  go_wp2_with fail
  refine kC2.out.mono ?_
  rintro e w4 ⟨rfl, o4⟩
  have oC := hid (oB.out.trans o4)
  clear o4
  go_wp2_with fail
  go_ret
  exact ⟨rfl, oC.out⟩
end Go.Proofs.Ytlhlmkdgbgppiaa

/- Entries that are handed in; a posting while it is made. -/
namespace Go.Proofs.Ytlhlmkdgbgppiaa
open Go.RowKit Go.Shelf Go.Maps

/-- Entries as they lie. -/
def EsC (w : World) (ao : Option Addr) (E : List Es) : Prop :=
  ∀ i (h : i < E.length), ∃ g o, ao = some ⟨g, o, none⟩ ∧ w.cell? ⟨g, o + i * 2, none⟩ = some (.string ⟨E[i].1.toArray⟩) ∧ w.cell? ⟨g, o + i * 2 + 1, none⟩ = some (.int .i64 E[i].2)
theorem EsC.old {w w' : World} {ao : Option Addr} {E : List Es} (h : EsC w ao E) (o : Old w w') : EsC w' ao E := fun i hi => by
  obtain ⟨g, q, h1, h2, h3⟩ := h i hi
  exact ⟨g, q, h1, o.cell h2, o.cell h3⟩
theorem EsC.frm {S : Nat → Prop} {w w' : World} {ao : Option Addr} {E : List Es} (h : EsC w ao E) (o : Frm S w w') (hS : ∀ g o, ao = some ⟨g, o, none⟩ → ¬ S g) : EsC w' ao E := fun i hi => by
  obtain ⟨g, q, h1, h2, h3⟩ := h i hi
  exact ⟨g, q, h1, frm_cell o h2 (hS g q h1), frm_cell o h3 (hS g q h1)⟩

def OwnE (w : World) (b : Nat) (q : List En) : Prop := w.heap[b]? = some (.cells (flatE q).toArray 150 (0, 0))
theorem OwnE.pos {w : World} {b : Nat} {q : List En} (h : OwnE w b q) : PosC w (.slice (some ⟨b, 0, none⟩) q.length q.length) q := ⟨b, rfl, h⟩
theorem OwnE.frm {S : Nat → Prop} {w w' : World} {b : Nat} {q : List En} (h : OwnE w b q) (f : Frm S w w') (hS : ¬ S b) : OwnE w' b q := by
  unfold OwnE
  rw [f.block b (blk_lt h) hS]
  exact h
theorem flatE_set : ∀ (q : List En) (i : Nat) (x : En), flatE (q.set i x) = ((flatE q).set (i * 2) (.int .i64 (x.1 : Int))).set (i * 2 + 1) (.int .i64 x.2)
  | [], i, x => by simp [flatE]
  | e :: q, 0, x => rfl
  | e :: q, i + 1, x => by
    rw [show (i + 1) * 2 = i * 2 + 1 + 1 from by omega]
    simp only [List.set_cons_succ, flatE, flatE_set q i x]
theorem OwnE.set {w : World} {b i : Nat} {q : List En} (h : OwnE w b q) (x : En) : OwnE ((w.setCell ⟨b, i * 2, none⟩ (.int .i64 (x.1 : Int))).setCell ⟨b, i * 2 + 1, none⟩ (.int .i64 x.2)) b (q.set i x) := by
  unfold OwnE
  rw [heap_set _ (heap_set _ h), flatE_set]
  simp
theorem flatE_zero : ∀ n : Nat, flatE (List.replicate n (0, 0)) = List.replicate (n * 2) (.int .i64 0)
  | 0 => rfl
  | n + 1 => by
    rw [show (n + 1) * 2 = n * 2 + 1 + 1 from by omega]
    simp only [List.replicate_succ, flatE, flatE_zero n]
    rfl
theorem made_e (n : Nat) : madeCells (Value.agg #[.int .i64 0, .int .i64 0]).cells (n * 2) = (flatE (List.replicate n (0, 0))).toArray := by
  rw [flatE_zero]
  unfold madeCells
  apply Array.ext
  · simp
  · intro i h1 h2
    have : i % 2 = 0 ∨ i % 2 = 1 := by omega
    rcases this with h | h <;> simp [Value.cells, h]
theorem info_e : (Try.prog.info? 150).map (fun i => (i.zero, i.bytes, i.size)) = some (some (.agg #[.int .i64 0, .int .i64 0]), 16, 2) := by kernel_rfl
theorem make_e (n : Nat) (hn : n ≤ 128) (w : World) : (Instr.makeSlice 106 (.int .i64 (n : Int)) (.int .i64 (n : Int))).run Try.prog w = .ok (.slice (some ⟨w.heap.size, 0, none⟩) n n) (w.alloc (.cells (flatE (List.replicate n (0, 0))).toArray 150)) := by
  obtain ⟨i, hi, h2⟩ := Option.map_eq_some_iff.1 info_e
  simp only [Prod.mk.injEq] at h2
  obtain ⟨hz, hb, hs⟩ := h2
  have h := run_make (P := Try.prog) w 106 150 i (.agg #[.int .i64 0, .int .i64 0]) Try.underlying106 hi hz .i64 .i64 n n (by omega) (by omega) (by rw [hb]; omega) (by omega)
  rw [h, hs, ← made_e]
  simp only [Int.toNat_natCast]

/-- Those that were laid, and those that are to come. -/
def rowE (L : List (List UInt8)) (E : List Es) (k : Nat) : List En := (planP L E).take k ++ List.replicate (E.length - k) (0, 0)
theorem rowE_zero (L : List (List UInt8)) (E : List Es) : rowE L E 0 = List.replicate E.length (0, 0) := by simp [rowE]
theorem rowE_all (L : List (List UInt8)) (E : List Es) : rowE L E E.length = planP L E := by
  unfold rowE
  rw [List.take_of_length_le (by simp [planP])]
  simp
theorem rowE_set (L : List (List UInt8)) (E : List Es) (k : Nat) (h : k < E.length) : (rowE L E k).set k ((idx L E[k].1).getD 0, E[k].2) = rowE L E (k + 1) := by
  have h1 : (planP L E).length = E.length := by simp [planP]
  have h2 : ((planP L E).take k).length = k := by rw [List.length_take, h1]; omega
  unfold rowE
  rw [show E.length - k = (E.length - (k + 1)) + 1 from by omega, List.replicate_succ, List.set_append_right _ _ (by omega), h2, Nat.sub_self, List.set_cons_zero, List.take_succ_eq_append_getElem (by rw [h1]; exact h), List.append_assoc]
  simp [planP]

theorem sum_take (E : List Es) (k : Nat) (h : k < E.length) : sumC ((E.take (k + 1)).map Prod.snd) = sumC ((E.take k).map Prod.snd) + E[k].2 := by
  rw [List.take_succ_eq_append_getElem h, List.map_append, sumC_append]
  simp [sumC]
theorem mayB_bnd {e : Es} (h : mayB e = true) : -70368744177664 ≤ e.2 ∧ e.2 ≤ 70368744177664 := by
  simp only [mayB, decide_eq_true_eq] at h
  exact h.2.2
/-- The first error among so many entries. -/
def errT (L : List (List UInt8)) (E : List Es) (k : Nat) : Int := if ∃ e ∈ E.take k, idx L e.1 = none then 4 else 0
theorem errT_zero (L : List (List UInt8)) (E : List Es) : errT L E 0 = 0 := by simp [errT]
theorem errT_some (L : List (List UInt8)) (E : List Es) (k : Nat) (h : k < E.length) {i : Nat} (hi : idx L E[k].1 = some i) : errT L E (k + 1) = errT L E k := by
  unfold errT
  have : (∃ e ∈ E.take (k + 1), idx L e.1 = none) ↔ ∃ e ∈ E.take k, idx L e.1 = none := by
    rw [List.take_succ_eq_append_getElem h]
    constructor
    · rintro ⟨e, he, hn⟩
      rcases List.mem_append.1 he with he | he
      · exact ⟨e, he, hn⟩
      · rw [List.mem_singleton.1 he, hi] at hn
        cases hn
    · rintro ⟨e, he, hn⟩
      exact ⟨e, List.mem_append_left _ he, hn⟩
  simp only [this]
theorem errT_none (L : List (List UInt8)) (E : List Es) (k : Nat) (h : k < E.length) (hi : idx L E[k].1 = none) : errT L E (k + 1) = 4 := by
  unfold errT
  rw [if_pos ⟨E[k], by rw [List.take_succ_eq_append_getElem h]; exact List.mem_append_right _ (List.mem_singleton.2 rfl), hi⟩]
end Go.Proofs.Ytlhlmkdgbgppiaa
