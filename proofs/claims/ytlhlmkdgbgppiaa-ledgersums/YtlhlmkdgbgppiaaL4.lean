/- What accounts would have behind a posting. -/
import Derived.Test.YtlhlmkdgbgppiaaL3
namespace Go.Proofs.Ytlhlmkdgbgppiaa
open Go.RowKit Go.Shelf Go.Maps

theorem mk_hint (n : Nat) (W : World) : (Instr.makeMap 164 (some (.int .i64 (n : Int)))).run Try.prog W = .ok (.map (some W.heap.size)) (W.alloc (.map #[] 0)) := by
  simp [Instr.makeMap, go_sem]

/-- A posting's sums in memory: the box of the accounts, the box of the sums. -/
structure Beh (W : World) (b : Nat) (ib : Nat) (p : List En) : Prop where
  c0 : W.cell? ⟨b, 0, none⟩ = some (.pointer (some ⟨ib, 0, none⟩))
  c1 : W.cell? ⟨b + 2, 0, none⟩ = some (.map (some (b + 1)))
  pm : ∃ N f, PM W (b + 1) N f ∧ ∀ a : Nat, a < 65536 → (f a).getD 0 = sumE p a
def behV (b : Nat) : Value := .func (.func 87) #[] #[.pointer (some ⟨b, 0, none⟩), .pointer (some ⟨b + 2, 0, none⟩)]
theorem Beh.old {W W' : World} {b ib : Nat} {p : List En} (h : Beh W b ib p) (o : Old W W') : Beh W' b ib p :=
  ⟨o.cell h.c0, o.cell h.c1, by obtain ⟨N, f, h1, h2⟩ := h.pm; exact ⟨N, f, h1.kept o (fun h => h), h2⟩⟩

theorem sumE_take (p : List En) (k a : Nat) (hk : k < p.length) : sumE (p.take (k + 1)) a = sumE (p.take k) a + (if p[k].1 = a then p[k].2 else 0) := by
  rw [List.take_succ_eq_append_getElem hk, sumE_append]
  simp [sumE]

set_option maxRecDepth 100000 in
set_option maxHeartbeats 2000000 in
theorem behind_any (ib : Nat) (p : List En) (v : Value) (w : World) (hp : PosC w v p) (h0 : OkP 65536 p) :
    Calls Try.prog 83 #[.pointer (some ⟨ib, 0, none⟩), v] w fun e w' => e = .returned (behV w.heap.size) ∧ Old w w' ∧ Beh w' w.heap.size ib p := by
  obtain ⟨g, rfl, hc⟩ := hp.at
  obtain ⟨⟨hl1, hl2⟩, he, -⟩ := h0
  have hmk := mk_hint p.length
  obtain ⟨s, hs⟩ : ∃ s, w.heap.size = s := ⟨_, rfl⟩
  rw [hs]
  have kc := hid hc
  have ke := hid he
  clear hc he hp
  go_enter Try.func83, Try.ntmps83
  go_wp2_with fail
  have oI : Old w (((w.alloc (.cells #[.pointer (some ⟨ib, 0, none⟩)] 56)).alloc (.map #[] 0)).alloc (.cells #[.map (some (s + 1))] 164)) := (((Old.refl w).alloc _).alloc _).alloc _
  have b0 : (((w.alloc (.cells #[.pointer (some ⟨ib, 0, none⟩)] 56)).alloc (.map #[] 0)).alloc (.cells #[.map (some (s + 1))] 164)).cell? ⟨s, 0, none⟩ = some (.pointer (some ⟨ib, 0, none⟩)) := by
    have := new_cell w #[.pointer (some ⟨ib, 0, none⟩)] 56 0 _ rfl
    rw [hs] at this
    exact (((Old.refl _).alloc _).trans ((Old.refl _).alloc _)).cell this
  have b1 : (((w.alloc (.cells #[.pointer (some ⟨ib, 0, none⟩)] 56)).alloc (.map #[] 0)).alloc (.cells #[.map (some (s + 1))] 164)).cell? ⟨s + 1 + 1, 0, none⟩ = some (.map (some (s + 1))) := by
    have := new_cell ((w.alloc (.cells #[.pointer (some ⟨ib, 0, none⟩)] 56)).alloc (.map #[] 0)) #[.map (some (s + 1))] 164 0 _ rfl
    simp only [alloc_size, hs] at this
    exact this
  have pm : PM (((w.alloc (.cells #[.pointer (some ⟨ib, 0, none⟩)] 56)).alloc (.map #[] 0)).alloc (.cells #[.map (some (s + 1))] 164)) (s + 1) 0 (fun _ => none) := by
    have := PM.made (w.alloc (.cells #[.pointer (some ⟨ib, 0, none⟩)] 56))
    rw [alloc_size, hs] at this
    exact this.kept ((Old.refl _).alloc _) (fun h => h)
  generalize (((w.alloc (.cells #[.pointer (some ⟨ib, 0, none⟩)] 56)).alloc (.map #[] 0)).alloc (.cells #[.map (some (s + 1))] 164)) = w0 at *
  have kI := hid oI
  have kpm := hid pm
  have kb0 := hid b0
  have kb1 := hid b1
  have ks := hid hs
  clear oI pm b0 b1 hs
  go_loopw [13] (fun t wr => ∃ k : Nat, k ≤ p.length ∧ t = .int .i64 (k : Int) ∧ Hid (Old w wr) ∧ wr.cell? ⟨s, 0, none⟩ = some (.pointer (some ⟨ib, 0, none⟩)) ∧ wr.cell? ⟨s + 1 + 1, 0, none⟩ = some (.map (some (s + 1))) ∧ Hid (∃ N f, N ≤ k ∧ PM wr (s + 1) N f ∧ ∀ a : Nat, a < 65536 → (f a).getD 0 = sumE (p.take k) a)) (fun t _ => p.length - (intOf t).toNat)
  case atStart => exact ⟨0, Nat.zero_le _, rfl, kI, kb0.out, kb1.out, 0, _, Nat.le_refl _, kpm.out, fun a _ => by simp [sumE]⟩
  case round =>
    obtain ⟨k, hk, rfl, oW, d0, d1, hpm⟩ := hrel
    by_cases hlt : k < p.length
    · have hlt' : (k : Int) < (p.length : Int) := by omega
      obtain ⟨x0, x1⟩ := kc.out k hlt
      have x0 := oW.out.cell x0
      have x1 := oW.out.cell x1
      obtain ⟨h1, -, h3, h4⟩ := ke.out p[k] (List.getElem_mem hlt)
      have hsum := hid (fun a => sumE_take p k a hlt)
      obtain ⟨N, f, hN, hPM, hf⟩ := hpm.out
      have hb := sumE_bnd (p.take k) p[k].1 (fun e he => by have := ke.out e (List.mem_of_mem_take he); omega)
      rw [List.length_take, Nat.min_eq_left hk] at hb
      rw [← hf _ h1] at hb
      obtain ⟨⟨ac, co⟩, hx⟩ : ∃ x, p[k] = x := ⟨_, rfl⟩
      rw [hx] at x0 x1 h1 h3 h4 hsum hb
      dsimp only at x0 x1 h1 h3 h4 hsum hb
      obtain ⟨y, hy⟩ : ∃ y, (f (ac : Int)).getD 0 = y := ⟨_, rfl⟩
      rw [hy] at hb
      have hb1 : -9007199254740992 ≤ y ∧ y ≤ 9007199254740992 := by omega
      have hac : i64ok (ac : Int) := by unfold i64ok; omega
      have hPM2 := hPM.kept ((Old.refl wr).alloc (.cells #[.int .i64 (ac : Int), .int .i64 co] 150)) (fun h => h)
      have hlk := hPM2.look1 hac
      rw [hy] at hlk
      obtain ⟨w2, hput, hPM3, f3⟩ := hPM2.put hac (p := y + co) (by unfold i64ok; omega) (by have : maxLen = 9223372036854775807 := rfl; omega)
      have hlo : -9223372036854775808 ≤ y + co := by omega
      have hhi : y + co ≤ 9223372036854775807 := by omega
      have oA := hid (oW.out.alloc (.cells #[.int .i64 (ac : Int), .int .i64 co] 150))
      have q0 := ((Old.refl wr).alloc (.cells #[.int .i64 (ac : Int), .int .i64 co] 150)).cell d0
      have q1 := ((Old.refl wr).alloc (.cells #[.int .i64 (ac : Int), .int .i64 co] 150)).cell d1
      have kq0 := hid q0
      have k3 := hid hPM3
      have kf3 := hid f3
      have kf := hid hf
      have ky := hid hy
      have kx := hid hx
      have kN := hid hN
      clear hPM hPM2 hPM3 f3 hf hy hb hx oW d0 d1 hpm hN hac q0
      go_wp2_with fail
      go_roundw
      case rel =>
        have f3 := kf3.out
        refine ⟨k + 1, by omega, by go_num, hid (Frm.trans oA.out f3 (fun i hi e => ?_)), ?_, ?_, hid ⟨moreN N (f ac), upd f ac (some (y + co)), ?_, k3.out, fun a ha => ?_⟩⟩
        · have := ks.out; omega
        · exact frm_cell f3 kq0.out (by simp)
        · exact frm_cell f3 q1 (by simp)
        · have := kN.out
          unfold moreN
          split <;> omega
        · rw [hsum.out]
          unfold upd
          by_cases e : (a : Int) = (ac : Int)
          · have e' : ac = a := by omega
            subst e'
            rw [if_pos rfl, if_pos rfl, Option.getD_some, ← kf.out ac ha, ky.out]
          · rw [if_neg e, if_neg (by omega), kf.out a ha]
            omega
      case measure => simp [intOf]; omega
    · obtain rfl : k = p.length := by omega
      rw [List.take_length] at hpm
      go_wp2_with fail
      go_ret
      refine ⟨rfl, oW.out, d0, d1, ?_⟩
      obtain ⟨N, f, _, h1, h2⟩ := hpm.out
      exact ⟨N, f, h1, h2⟩
end Go.Proofs.Ytlhlmkdgbgppiaa
