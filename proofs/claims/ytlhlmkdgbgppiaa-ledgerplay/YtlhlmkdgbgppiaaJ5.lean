/- Has, Account, Len, of a ledger that is there. -/
import Derived.Test.YtlhlmkdgbgppiaaJ4
import Derived.Test.YtlhlmkdgbgppiaaJ2
import Derived.Deep.QuietTactic
import Derived.BigQuiet
namespace Go.Proofs.Ytlhlmkdgbgppiaa
open Go.RowKit Go.Shelf Go.Maps


theorem fld0 (a b : Int) (W : World) : (Instr.field 104 (.agg #[.int .i64 a, .int .i64 b]) 0).run Try.prog W = .ok (.int .i64 a) W := by kernel_rfl
theorem fld1 (a b : Int) (W : World) : (Instr.field 104 (.agg #[.int .i64 a, .int .i64 b]) 1).run Try.prog W = .ok (.int .i64 b) W := by kernel_rfl
theorem idx_lt {L : List (List UInt8)} {n : List UInt8} {k : Nat} (h : idx L n = some k) : k < L.length := by
  unfold idx at h
  split at h
  · rename_i hm
    simp only [Option.some.injEq] at h
    rw [← h]
    exact List.idxOf_lt_length_of_mem hm
  · cases h
theorem ok64 {k : Nat} {A : List Ac} (h : OkA A) (hk : k < A.length) : i64ok (k : Int) := by have := h.len; unfold i64ok; omega

set_option maxRecDepth 100000 in
set_option maxHeartbeats 1000000 in
theorem has_bad (x : Lx) (n : List UInt8) (w : World) (h : Ldg w x) (hn : n.length ≤ maxLen) (hi : idx x.L n = none) :
    Calls Try.prog 27 #[x.ptr, .string ⟨n.toArray⟩] w fun e w' => e = .returned (.tuple #[.int .i64 0, .int .i64 4]) ∧ w' = w := by
  have kM := hid (made_some x.lb x.ib w h.c0)
  have c0 := h.c0
  have i0 := h.i0
  have kF := hid (find_any x.nb x.tb x.mb x.v 65536 x.L n w h.nms hn)
  rw [hi] at kF
  simp only [numV, Option.getD_none, Option.isSome_none] at kF
  unfold Lx.ptr
  clear h hn hi
  go_enter Try.func27, Try.ntmps27
  go_wp2_with (go_at_call 40; refine kM.out.mono ?_; rintro e w' ⟨rfl, hw⟩; rw [hw]; clear hw w')
  refine kF.out.mono ?_
  rintro e w' ⟨rfl, hw⟩
  rw [hw]
  clear hw w'
  go_wp2_with fail
  go_ret2
  exact ⟨rfl, rfl⟩

set_option maxRecDepth 100000 in
set_option maxHeartbeats 1000000 in
theorem has_good (x : Lx) (n : List UInt8) (k : Nat) (w : World) (h : Ldg w x) (hk : OkL x) (hn : n.length ≤ maxLen) (hi : idx x.L n = some k) :
    Calls Try.prog 27 #[x.ptr, .string ⟨n.toArray⟩] w fun e w' => e = .returned (.tuple #[.int .i64 (x.A.getD k (0, 0)).2, .int .i64 0]) ∧ w' = w := by
  have kM := hid (made_some x.lb x.ib w h.c0)
  have c0 := h.c0
  have i0 := h.i0
  have i1 := h.i1
  have kF := hid (find_any x.nb x.tb x.mb x.v 65536 x.L n w h.nms hn)
  have hlt := idx_lt hi
  rw [hk.len] at hlt
  rw [hi] at kF
  simp only [numV, Option.getD_some, Option.isSome_some] at kF
  have hl := h.am.look1 (ok64 hk.oka hlt)
  rw [lkA_getD] at hl
  unfold Lx.ptr
  unfold acV at hl
  clear h hn hi hk
  obtain ⟨a, ha⟩ : ∃ a, x.A.getD k (0, 0) = a := ⟨_, rfl⟩
  rw [ha] at hl ⊢
  clear ha
  have hf1 := fld1 a.1 a.2 w
  go_enter Try.func27, Try.ntmps27
  go_wp2_with (go_at_call 40; refine kM.out.mono ?_; rintro e w' ⟨rfl, hw⟩; rw [hw]; clear hw w')
  refine kF.out.mono ?_
  rintro e w' ⟨rfl, hw⟩
  rw [hw]
  clear hw w'
  go_wp2_with fail
  go_ret2
  exact ⟨rfl, rfl⟩

set_option maxRecDepth 100000 in
set_option maxHeartbeats 1000000 in
theorem account_bad (x : Lx) (n : Int) (w : World) (h : Ldg w x) (hi : ¬ (0 ≤ n ∧ n < x.L.length)) :
    Calls Try.prog 30 #[x.ptr, .int .i64 n] w fun e w' => e = .returned (.tuple #[.agg #[.string ⟨#[]⟩, .int .i64 0, .int .i64 0], .int .i64 4]) ∧ Old w w' := by
  have kM := hid (fun W (o : Old w W) => made_some x.lb x.ib W (h.old o).c0)
  have o1 : Old w (w.alloc (.cells #[.string .empty, .int .i64 0, .int .i64 0] 82)) := (Old.refl w).alloc _
  have c0 := (h.old o1).c0
  have i0 := (h.old o1).i0
  have kF := hid (name_bad x.nb x.tb x.mb x.v 65536 x.L _ (h.nms.old o1) n hi)
  unfold Lx.ptr
  have ko := hid o1
  clear h hi o1
  go_enter Try.func30, Try.ntmps30
  go_wp2_with fail
  refine (kM.out _ ko.out).mono ?_
  rintro e w' ⟨rfl, hw⟩
  rw [hw]
  clear hw w'
  go_wp2_with fail
  refine kF.out.mono ?_
  rintro e w' ⟨rfl, hw⟩
  rw [hw]
  clear hw w'
  go_wp2_with fail
  refine bodyPost_ret (v := .tuple #[.agg #[.string ⟨#[]⟩, .int .i64 0, .int .i64 0], .int .i64 4]) ?_ rfl ⟨rfl, ko.out⟩
  simp [results, Try.f30, go_sem]
  trace_state
end Go.Proofs.Ytlhlmkdgbgppiaa

/- Account, Len of a ledger that is there; a posting by names. -/
namespace Go.Proofs.Ytlhlmkdgbgppiaa
open Go.RowKit Go.Shelf Go.Maps

theorem setCell_old {w w' : World} (h : Old w w') {b i : Nat} (hb : w.heap.size ≤ b) (u : Value) : Old w (w'.setCell ⟨b, i, none⟩ u) := Frm.setCell h ⟨b, i, none⟩ (Or.inl hb) u

set_option maxRecDepth 100000 in
set_option maxHeartbeats 2000000 in
theorem account_good (x : Lx) (k : Nat) (w : World) (h : Ldg w x) (hk : OkL x) (hi : k < x.L.length) :
    Calls Try.prog 30 #[x.ptr, .int .i64 (k : Int)] w fun e w' => e = .returned (.tuple #[.agg #[.string ⟨(x.L[k]).toArray⟩, .int .i64 (x.A.getD k (0, 0)).1, .int .i64 (x.A.getD k (0, 0)).2], .int .i64 0]) ∧ Old w w' := by
  have kM := hid (fun W (o : Old w W) => made_some x.lb x.ib W (h.old o).c0)
  have o1 : Old w (w.alloc (.cells #[.string .empty, .int .i64 0, .int .i64 0] 82)) := (Old.refl w).alloc _
  have n1 := heap_new w (.cells #[.string .empty, .int .i64 0, .int .i64 0] 82)
  have c0 := (h.old o1).c0
  have i0 := (h.old o1).i0
  have h64 : x.L[k].length ≤ 64 := by
    have := hk.chk _ (List.getElem_mem hi)
    unfold chkZ at this
    split at this <;> omega
  have kF := hid (name_good x.nb x.tb x.mb x.v 65536 x.L _ (h.nms.old o1) k hi h64)
  have hk2 : k < x.A.length := by rw [← hk.len]; exact hi
  obtain ⟨a, ha⟩ : ∃ a, x.A.getD k (0, 0) = a := ⟨_, rfl⟩
  have hl := hid (fun W (o : Old w W) => (h.old o).am.look1 (ok64 hk.oka hk2))
  rw [ha]
  unfold Lx.ptr
  have ko := hid o1
  have kn := hid n1
  have kh := hid h
  have ka := hid ha
  clear h hk hk2 h64 ha o1 n1
  generalize x.L[k] = nm at *
  clear hi
  go_enter Try.func30, Try.ntmps30
  go_wp2_with fail
  refine (kM.out _ ko.out).mono ?_
  rintro e w' ⟨rfl, hw⟩
  rw [hw]
  clear hw w'
  go_wp2_with fail
  refine kF.out.mono ?_
  rintro e w1 ⟨rfl, o2⟩
  have oW := ko.out.trans o2
  have d0 := (kh.out.old oW).c0
  have d1 := (kh.out.old oW).i1
  have hl1 := hl.out w1 oW
  rw [lkA_getD, ka.out] at hl1
  have kT := hid (told_any a nm w1)
  unfold acV at hl1 kT
  have k2 := hid o2
  have kW := hid oW
  clear o2 oW
  go_wp2_with fail
  refine kT.out.mono ?_
  rintro e w2 ⟨rfl, o3⟩
  have hB : w2.heap[w.heap.size]? = some (.cells #[.string .empty, .int .i64 0, .int .i64 0] 82 (0, 0)) := by
    rw [(k2.out.trans o3).block _ (by rw [alloc_size]; omega) (fun h => h)]
    exact kn.out
  have b0 : w2.cell? ⟨w.heap.size, 0, none⟩ = some (.string .empty) := blk_cells hB rfl
  have b1 : w2.cell? ⟨w.heap.size, 1, none⟩ = some (.int .i64 0) := blk_cells hB rfl
  have b2 : w2.cell? ⟨w.heap.size, 2, none⟩ = some (.int .i64 0) := blk_cells hB rfl
  have f0 := fun i => blk_fz hB i
  have oZ := hid (kW.out.trans o3)
  clear o3 hB
  go_wp2_with fail
  refine bodyPost_ret (v := .tuple #[.agg #[.string ⟨nm.toArray⟩, .int .i64 a.1, .int .i64 a.2], .int .i64 0]) ?_ rfl ⟨rfl, setCell_old (setCell_old (setCell_old oZ.out (Nat.le_refl _) _) (Nat.le_refl _) _) (Nat.le_refl _) _⟩
  simp [results, Try.f30, go_sem, b0, b1, b2]

set_option maxRecDepth 100000 in
set_option maxHeartbeats 1000000 in
theorem llen_any (x : Lx) (w : World) (h : Ldg w x) :
    Calls Try.prog 37 #[x.ptr] w fun e w' => e = .returned (.tuple #[.int .i64 (x.L.length : Int), .int .i64 (x.P.length : Int)]) ∧ ∃ n, w' = w.drewN n := by
  have kM := hid (made_some x.lb x.ib w h.c0)
  have c0 := h.c0
  have i0 := h.i0
  have i2 := h.i2
  obtain ⟨ao, cap, hf⟩ := h.row.form
  rw [hf] at i2
  have kL := fun n => hid (len_any x.nb x.tb x.mb x.v 65536 x.L (w.drewN n) (h.nms.old ((Old.refl w).drewN n)))
  unfold Lx.ptr
  clear h hf
  generalize x.L.length = nl at *
  generalize x.P.length = np at *
  go_enter Try.func37, Try.ntmps37
  go_wp2_with fail
  refine kM.out.mono ?_
  rintro e w' ⟨rfl, hw⟩
  rw [hw]
  clear hw w'
  go_wp2_with fail
  go_quiet (exact Calls.quiet_of_same (kL _).out)
  go_wp2_with fail
  go_ret2
  exact ⟨rfl, _, rfl⟩
end Go.Proofs.Ytlhlmkdgbgppiaa

/- What accounts would have behind a posting. -/
namespace Go.Proofs.Ytlhlmkdgbgppiaa
open Go.RowKit Go.Shelf Go.Maps

theorem mk_hint (n : Nat) (W : World) : (Instr.makeMap 164 (some (.int .i64 (n : Int)))).run Try.prog W = .ok (.map (some W.heap.size)) (W.alloc (.map #[] 0)) := by
  simp [Instr.makeMap, go_sem]

/-- A posting's sums in memory: the box of the accounts, the box of the sums. -/
structure Beh (W : World) (b : Nat) (ib : Nat) (p : List En) : Prop where
  c0 : W.cell? ⟨b, 0, none⟩ = some (.pointer (some ⟨ib, 0, none⟩))
  c1 : W.cell? ⟨b + 2, 0, none⟩ = some (.map (some (b + 1)))
  pm : ∃ N f, PM W (b + 1) N f ∧ ∀ a : Nat, a < 65536 → (f a).getD 0 = sumE p a
def behV (b : Nat) : Value := .func (.func 87) #[] #[.pointer (some ⟨b, 0, none⟩), .pointer (some ⟨b + 2, 0, none⟩)]
theorem Beh.old {W W' : World} {b ib : Nat} {p : List En} (h : Beh W b ib p) (o : Old W W') : Beh W' b ib p :=
  ⟨o.cell h.c0, o.cell h.c1, by obtain ⟨N, f, h1, h2⟩ := h.pm; exact ⟨N, f, h1.kept o (fun h => h), h2⟩⟩

theorem sumE_take (p : List En) (k a : Nat) (hk : k < p.length) : sumE (p.take (k + 1)) a = sumE (p.take k) a + (if p[k].1 = a then p[k].2 else 0) := by
  rw [List.take_succ_eq_append_getElem hk, sumE_append]
  simp [sumE]

set_option maxRecDepth 100000 in
set_option maxHeartbeats 2000000 in
theorem behind_any (ib : Nat) (p : List En) (v : Value) (w : World) (hp : PosC w v p) (h0 : OkP 65536 p) :
    Calls Try.prog 83 #[.pointer (some ⟨ib, 0, none⟩), v] w fun e w' => e = .returned (behV w.heap.size) ∧ Old w w' ∧ Beh w' w.heap.size ib p := by
  obtain ⟨g, rfl, hc⟩ := hp.at
  obtain ⟨⟨hl1, hl2⟩, he, -⟩ := h0
  have hmk := mk_hint p.length
  obtain ⟨s, hs⟩ : ∃ s, w.heap.size = s := ⟨_, rfl⟩
  rw [hs]
  have kc := hid hc
  have ke := hid he
  clear hc he hp
  go_enter Try.func83, Try.ntmps83
  go_wp2_with fail
  have oI : Old w (((w.alloc (.cells #[.pointer (some ⟨ib, 0, none⟩)] 56)).alloc (.map #[] 0)).alloc (.cells #[.map (some (s + 1))] 164)) := (((Old.refl w).alloc _).alloc _).alloc _
  have b0 : (((w.alloc (.cells #[.pointer (some ⟨ib, 0, none⟩)] 56)).alloc (.map #[] 0)).alloc (.cells #[.map (some (s + 1))] 164)).cell? ⟨s, 0, none⟩ = some (.pointer (some ⟨ib, 0, none⟩)) := by
    have := new_cell w #[.pointer (some ⟨ib, 0, none⟩)] 56 0 _ rfl
    rw [hs] at this
    exact (((Old.refl _).alloc _).trans ((Old.refl _).alloc _)).cell this
  have b1 : (((w.alloc (.cells #[.pointer (some ⟨ib, 0, none⟩)] 56)).alloc (.map #[] 0)).alloc (.cells #[.map (some (s + 1))] 164)).cell? ⟨s + 1 + 1, 0, none⟩ = some (.map (some (s + 1))) := by
    have := new_cell ((w.alloc (.cells #[.pointer (some ⟨ib, 0, none⟩)] 56)).alloc (.map #[] 0)) #[.map (some (s + 1))] 164 0 _ rfl
    simp only [alloc_size, hs] at this
    exact this
  have pm : PM (((w.alloc (.cells #[.pointer (some ⟨ib, 0, none⟩)] 56)).alloc (.map #[] 0)).alloc (.cells #[.map (some (s + 1))] 164)) (s + 1) 0 (fun _ => none) := by
    have := PM.made (w.alloc (.cells #[.pointer (some ⟨ib, 0, none⟩)] 56))
    rw [alloc_size, hs] at this
    exact this.kept ((Old.refl _).alloc _) (fun h => h)
  generalize (((w.alloc (.cells #[.pointer (some ⟨ib, 0, none⟩)] 56)).alloc (.map #[] 0)).alloc (.cells #[.map (some (s + 1))] 164)) = w0 at *
  have kI := hid oI
  have kpm := hid pm
  have kb0 := hid b0
  have kb1 := hid b1
  have ks := hid hs
  clear oI pm b0 b1 hs
  go_loopw [13] (fun t wr => ∃ k : Nat, k ≤ p.length ∧ t = .int .i64 (k : Int) ∧ Hid (Old w wr) ∧ wr.cell? ⟨s, 0, none⟩ = some (.pointer (some ⟨ib, 0, none⟩)) ∧ wr.cell? ⟨s + 1 + 1, 0, none⟩ = some (.map (some (s + 1))) ∧ Hid (∃ N f, N ≤ k ∧ PM wr (s + 1) N f ∧ ∀ a : Nat, a < 65536 → (f a).getD 0 = sumE (p.take k) a)) (fun t _ => p.length - (intOf t).toNat)
  case atStart => exact ⟨0, Nat.zero_le _, rfl, kI, kb0.out, kb1.out, 0, _, Nat.le_refl _, kpm.out, fun a _ => by simp [sumE]⟩
  case round =>
    obtain ⟨k, hk, rfl, oW, d0, d1, hpm⟩ := hrel
    by_cases hlt : k < p.length
    · have hlt' : (k : Int) < (p.length : Int) := by omega
      obtain ⟨x0, x1⟩ := kc.out k hlt
      have x0 := oW.out.cell x0
      have x1 := oW.out.cell x1
      obtain ⟨h1, -, h3, h4⟩ := ke.out p[k] (List.getElem_mem hlt)
      have hsum := hid (fun a => sumE_take p k a hlt)
      obtain ⟨N, f, hN, hPM, hf⟩ := hpm.out
      have hb := sumE_bnd (p.take k) p[k].1 (fun e he => by have := ke.out e (List.mem_of_mem_take he); omega)
      rw [List.length_take, Nat.min_eq_left hk] at hb
      rw [← hf _ h1] at hb
      obtain ⟨⟨ac, co⟩, hx⟩ : ∃ x, p[k] = x := ⟨_, rfl⟩
      rw [hx] at x0 x1 h1 h3 h4 hsum hb
      dsimp only at x0 x1 h1 h3 h4 hsum hb
      obtain ⟨y, hy⟩ : ∃ y, (f (ac : Int)).getD 0 = y := ⟨_, rfl⟩
      rw [hy] at hb
      have hb1 : -9007199254740992 ≤ y ∧ y ≤ 9007199254740992 := by omega
      have hac : i64ok (ac : Int) := by unfold i64ok; omega
      have hPM2 := hPM.kept ((Old.refl wr).alloc (.cells #[.int .i64 (ac : Int), .int .i64 co] 150)) (fun h => h)
      have hlk := hPM2.look1 hac
      rw [hy] at hlk
      obtain ⟨w2, hput, hPM3, f3⟩ := hPM2.put hac (p := y + co) (by unfold i64ok; omega) (by have : maxLen = 9223372036854775807 := rfl; omega)
      have hlo : -9223372036854775808 ≤ y + co := by omega
      have hhi : y + co ≤ 9223372036854775807 := by omega
      have oA := hid (oW.out.alloc (.cells #[.int .i64 (ac : Int), .int .i64 co] 150))
      have q0 := ((Old.refl wr).alloc (.cells #[.int .i64 (ac : Int), .int .i64 co] 150)).cell d0
      have q1 := ((Old.refl wr).alloc (.cells #[.int .i64 (ac : Int), .int .i64 co] 150)).cell d1
      have kq0 := hid q0
      have k3 := hid hPM3
      have kf3 := hid f3
      have kf := hid hf
      have ky := hid hy
      have kx := hid hx
      have kN := hid hN
      clear hPM hPM2 hPM3 f3 hf hy hb hx oW d0 d1 hpm hN hac q0
      go_wp2_with fail
      go_roundw
      case rel =>
        have f3 := kf3.out
        refine ⟨k + 1, by omega, by go_num, hid (Frm.trans oA.out f3 (fun i hi e => ?_)), ?_, ?_, hid ⟨moreN N (f ac), upd f ac (some (y + co)), ?_, k3.out, fun a ha => ?_⟩⟩
        · have := ks.out; omega
        · exact frm_cell f3 kq0.out (by simp)
        · exact frm_cell f3 q1 (by simp)
        · have := kN.out
          unfold moreN
          split <;> omega
        · rw [hsum.out]
          unfold upd
          by_cases e : (a : Int) = (ac : Int)
          · have e' : ac = a := by omega
            subst e'
            rw [if_pos rfl, if_pos rfl, Option.getD_some, ← kf.out ac ha, ky.out]
          · rw [if_neg e, if_neg (by omega), kf.out a ha]
            omega
      case measure => simp [intOf]; omega
    · obtain rfl : k = p.length := by omega
      rw [List.take_length] at hpm
      go_wp2_with fail
      go_ret
      refine ⟨rfl, oW.out, d0, d1, ?_⟩
      obtain ⟨N, f, _, h1, h2⟩ := hpm.out
      exact ⟨N, f, h1, h2⟩
end Go.Proofs.Ytlhlmkdgbgppiaa
