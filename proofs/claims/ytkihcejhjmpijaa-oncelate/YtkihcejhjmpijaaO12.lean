/- A keeper's keys. -/
import Derived.Test.YtkihcejhjmpijaaO11
import Derived.Maps.RangeWalk
import Derived.Sort.KeysCollected
import Derived.Sort.OwnSorted
import Derived.Laws.MakeOwn
namespace Go.Proofs.Ytkihcejhjmpijaa
open Go.RowKit Go.Maps Go.Sort

theorem info9 : (Try.prog.info? 9).map (fun i => (i.zero, i.size, i.bytes)) = some (some (.string ⟨#[]⟩), 1, 16) := by kernel_rfl
theorem owns_ge {w : World} {B e k n : Nat} {v : Value} {xs : List Value} (h : w.ownsRow B e k v n xs) : ∀ q, v.ownBlock = some q → B ≤ q ∧ q < w.heap.size := fun q hq => h.lt q hq

theorem none_or (o : Option Nat) : o = none ∨ o ≠ none := by cases o <;> simp
theorem frm_of_grown {w w' : World} {row : Option Nat} (h : w.grownBy w' row) : Frm (fun k => row = some k) w w' := Frm.grown (Frm.refl _ _) h (fun _ hk => Or.inr hk)

set_option maxRecDepth 100000 in
set_option maxHeartbeats 8000000 in
theorem keys_over (kb mb N : Nat) (runs : Int) (f : List UInt8 → Option Nat) (w : World) (h : KeepS w kb mb runs N f) (hov : ∀ x b, f x = some b → w.cell? ⟨b, 3, none⟩ = some (.int .u32 1) ∧ b ≠ kb ∧ x.length ≤ 281474976710656) (hN : N ≤ 1000000) :
    Calls Try.prog 34 #[.pointer (some ⟨kb, 0, none⟩)] w fun e w' => ∃ (v : Value) (ss : List (List UInt8)), e = .returned v ∧ ss.length = N ∧ w'.ownsRow w.heap.size 9 1 v N (ss.map encStr) ∧ Frm (fun k => k = kb) w w' ∧ KeepS w' kb mb runs N f := by
  have c0 := h.c0
  have z0 := h.fz 0
  have ne := h.ne
  have lk := h.lt
  have lm := h.km.lt
  have f1 := frm_set w kb 0 (.int .i32 1)
  have c2 : (w.setCell ⟨kb, 0, none⟩ (.int .i32 1)).cell? ⟨kb, 2, none⟩ = some (.map (some mb)) := set_oth h.c2 (by omega)
  have c0' : (w.setCell ⟨kb, 0, none⟩ (.int .i32 1)).cell? ⟨kb, 0, none⟩ = some (.int .i32 1) := set_same c0
  have c3' : (w.setCell ⟨kb, 0, none⟩ (.int .i32 1)).cell? ⟨kb, 3, none⟩ = some (.int .i64 runs) := set_oth h.c3 (by omega)
  have z0' := set_fz (u := .int .i32 1) (i := 0) h.fz
  have k1 := h.km.kept f1 (fun e => ne e.symm)
  have zz : (w.setCell ⟨kb, 0, none⟩ (.int .i32 1)).heap.size = w.heap.size := by simp [World.setCell]
  obtain ⟨i0, hi0, hz0, hz1, hz2⟩ := info_parts info9
  have kov : Hid (∀ x b, f x = some b → (w.setCell ⟨kb, 0, none⟩ (.int .i32 1)).cell? ⟨b, 3, none⟩ = some (.int .u32 1) ∧ x.length ≤ 281474976710656) := fun x b hb => ⟨frm_cell f1 (hov x b hb).1 (hov x b hb).2.1, (hov x b hb).2.2⟩
  clear hov
  have kl := hid (lock_free ⟨kb, 0, none⟩ w c0 z0)
  obtain ⟨w1, x1⟩ : ∃ w1, w.setCell ⟨kb, 0, none⟩ (.int .i32 1) = w1 := ⟨_, rfl⟩
  rw [x1] at c2 c0' c3' z0' k1 zz kov f1 kl
  obtain ⟨D, hD, hDs, hDf⟩ := k1
  have kf := hid f1
  have kDf := hid hDf
  have kc := hid c0'
  have kc3 := hid c3'
  have kc2 := hid c2
  have kz := hid z0'
  have kD := hid hD
  have ks := hid hDs
  clear x1 h c0 z0 f1 hDf c0' c3' z0' hDs
  go_enter_defers Try.func34, Try.ntmps34
  go_wp2_with (first
    | (go_at_call 38; refine kl.out.mono ?_; rintro e w' ⟨rfl, ew⟩; rw [ew]; clear ew w')
    | (at_range; refine wpList_range_own _ rfl _ 72 rfl 9 66 law9 Try.underlying72 _ mb N _ rfl hD ?_; intro w0 hrg0 hg0 hs0))
  have o0 : Hid (Old w1 w0) := Old.of_below ⟨hg0.os, hg0.tape, hg0.output, hg0.size, fun k hk => hg0.block k hk (by simp)⟩
  have kzz := hid zz
  clear hg0 hs0 zz c2
  obtain ⟨r, hr⟩ : ∃ r, w1.heap.size = r := ⟨_, rfl⟩
  have kr := hid hr
  rw [hr] at hrg0 ⊢
  clear hr
  go_frame
  go_loopw [3] (fun v wr => ∃ (left : Lit → Bool) (cnt : Nat) (ss : List (List UInt8)), wr.ranges Try.prog 9 ptrElem mb r N D left cnt ∧ ss.length + cnt ≤ N ∧ Collected D left ss ∧ wr.ownsRow r 9 1 v ss.length (ss.map encStr) ∧ Old w1 wr) (fun _ wr => wr.rangeLeft mb r)
  case atStart => exact ⟨_, _, [], hrg0, by rw [ks.out]; simp, Collected.start D, by simpa using World.ownsRow_nil _ _ _ _, o0.out⟩
  case round =>
    obtain ⟨left, cnt, ss, hrg, hcs, hC, hown, hold⟩ := hrel
    have kO := hid hold
    have kC := hid hC
    have kcs := hid hcs
    have kW := hid hown
    clear hold hC hcs o0 hrg0
    go_wp2_with (at_next; refine wpList_next_ranges _ rfl _ rfl 9 law9 ptrElem encStr ptrV (fun key kl hk => by obtain ⟨x, hx, _⟩ := Maps.keyOf_str Try.underlying9 hk; exact ⟨x, hx⟩) (fun v y hv => by obtain ⟨o, ho, _⟩ := ptrElem_some hv; exact ⟨o, ho⟩) mb r N _ _ _ rfl hrg ?_ ?_)
    · intro hc0 hl0
      have hp := kC.out.perm kD.out law9 Try.underlying9 hl0
      have hlen : Hid (ss.length = N) := by
        have h1 := hp.length_eq
        have h2 := ks.out
        obtain ⟨es, e1, _⟩ := hD.entries law9
        rw [e1] at h1 h2
        simp only [strKeys, List.length_map] at h1
        rw [h1]
        exact h2
      have g0 := kO.out.cell kc.out
      have g3 := kO.out.cell kc3.out
      have g2 := kO.out.cell (show w1.cell? ⟨kb, 2, none⟩ = some (.map (some mb)) from kc2.out)
      have l1 : kb < w1.heap.size := World.block_lt_of_cell? w1 ⟨kb, 0, none⟩ kc.out
      have gz : ∀ j, wr.frozen? ⟨kb, j, none⟩ = false := fun j => frm_frozen kO.out l1 (kz.out j) (fun h => h)
      go_wp2_with fail
      refine leaves_cons (f := 39) (args := #[.pointer (some ⟨kb, 0, none⟩)]) (by simp) (by simp [go_sem]) ?_
      refine (unlock_deferred ⟨kb, 0, none⟩ .returning _ g0 (gz 0)).mono ?_
      rintro e u' w'' ⟨rfl, rfl, rfl⟩
      have f4 := frm_set wr kb 0 (.int .i32 0)
      refine ⟨_, results_tmp rfl _ _ _, _, ss, rfl, hlen.out, ?_, ?_, ?_⟩
      · have h9 := kW.out
        rw [hlen.out, ← kr.out, kzz.out] at h9
        exact h9.kept (row := some kb) ⟨f4.os, f4.tape, f4.output, f4.size, fun k hk hne => f4.block k hk (fun e => hne (by rw [e]))⟩ (Or.inr (row_ne_low h9 lk).symm)
      · exact Frm.trans (Frm.trans kf.out kO.out (fun _ _ h => h.elim)) f4 (fun _ _ h => h)
      · have hk9 : KM w1 mb N f := ⟨D, kD.out, ks.out, kDf.out⟩
        exact ⟨set_same g0, set_oth g2 (by omega), set_oth g3 (by omega), set_fz gz, (hk9.kept kO.out (fun h => h)).kept f4 (fun e => ne e.symm)⟩
    · intro x c kl yd yp w2 cnt2 hkey hlk hv hat hrg2 hlt hg2 hs2 hen
      obtain ⟨x', ex, rfl, hxl⟩ := Maps.keyOf_str Try.underlying9 hkey
      obtain rfl : x = x' := encStr_inj ex
      obtain ⟨a1, a2⟩ := kDf.out x hxl
      have hhas : Maps.has D (.string x) = true := has_true_of_atKey hat
      rw [a1] at hhas
      obtain ⟨b, hb⟩ := Option.isSome_iff_exists.1 hhas
      have hyd : yd = ptrD (f x) := (hat .nil).symm.trans a2
      rw [hyd] at hv
      have hc : ptrV c = .pointer (some ⟨b, 0, none⟩) := by rw [ptrElem_inv hv, hb]; rfl
      rw [hc] at hen ⊢
      obtain ⟨cb, hx2⟩ := kov.out x b hb
      have hf2 := frm_of_grown hg2
      have o2 : Hid (Old w1 w2) := Frm.trans kO.out hf2 (fun k hk e => by have := kr.out; cases e; omega)
      have k2 := hid (kC.out.step hlk hat)
      have kw2 : Hid (w2.ownsRow r 9 1 u3 ss.length (ss.map encStr)) := kW.out.kept hg2 (Or.inr (row_ne_iter kW.out hrg).symm)
      have cb2 := o2.out.cell cb
      have kL := hid (load_bool ⟨b, 3, none⟩ 1 true rfl w2 cb2)
      have kK := hid (clone_any x w2 hx2)
      have kg := hid hrg2
      have klt := hid hlt
      have krg := hid hrg
      have hcs2 := kcs.out
      have hcn : Hid (ss.length + 1 ≤ N) := by unfold Hid; omega
      unfold encStr at hen ⊢
      clear hs2 hg2 hf2 hrg2 hlt hat hlk hv hyd hc hhas a1 a2 hkey ex cb2 hrg hown hcs2
      have hq1 : ss.length + 1 ≤ 1000000 := Nat.le_trans hcn.out hN
      go_wp2_with (first
        | (go_at_call 14; refine kL.out.mono ?_; rintro e w' ⟨rfl, ew⟩; rw [ew]; clear ew w')
        | (go_at_call 40; refine kK.out.mono ?_; rintro e w3 ⟨rfl, o3⟩; have hown3 : w3.ownsRow r 9 1 u3 ss.length (ss.map encStr) := (kw2.out.kept (row := none) ⟨o3.os, o3.tape, o3.output, o3.size, fun k hk _ => o3.block k hk (fun h => h)⟩ (none_or _)); have hs3 : r ≤ w3.heap.size := (by rw [← kr.out]; exact Nat.le_trans o2.out.size o3.size); have k3 := hid o3; clear o3)
        | (at_builtin; refine wpList_append_lies _ (by rfl) _ _ 61 (by rfl) r 9 i0 _ 1 16 Try.underlying61 hi0 hz0 hz1 hz2 rfl (by omega) _ ss.length (ss.map encStr) (by rfl) (World.ownsRow.alloc hown3 _) ⟨_, 0, none⟩ 1 1 [.string ⟨x.toArray⟩] (by rfl) (by rfl) (World.news_of_block (heap_new _ _)) (by simp [Value.oneCell']) (by omega) (by unfold maxLen; omega) (by omega) (Nat.le_trans hs3 (by simp)) _ rfl ?_; intro g4 cap4 w4 hown4 hgrow4 hat4 hlt4))
      have k5 : Hid (Old w1 w4) := Frm.grown ((Old.trans o2.out k3.out).alloc _) hgrow4 (fun j hj => Or.inl (by have := (owns_ge hown3 j hj).1; have := kr.out; omega))
      have fr4 : Frm (fun k => u3.ownBlock = some k) w2 w4 := Frm.trans (Frm.mono (k3.out.alloc _) (fun _ _ h => h.elim)) (frm_of_grown hgrow4) (fun _ _ h => h)
      have kg4 : Hid (w4.ranges Try.prog 9 ptrElem mb r N D (fun z => left z && !z.sameKey (.string x)) cnt2) := kg.out.kept (row := u3.ownBlock) ⟨fr4.os, fr4.tape, fr4.output, fr4.size, fun k hk hne => fr4.block k hk (fun e => hne e.symm)⟩ (row_ne_low kW.out (by have := kr.out; have := kzz.out; omega)) (row_ne_iter kW.out krg.out)
      have k6 := hid hown4
      clear hown4 hgrow4 hat4 hlt4 hown3 fr4
      go_roundw
      case rel => exact ⟨_, cnt2, ss ++ [x], kg4.out, by have := klt.out; have := kcs.out; simp; omega, k2.out, by simpa [encStr] using k6.out, k5.out⟩
      case measure => rw [kg4.out.left_eq, krg.out.left_eq]; exact klt.out
end Go.Proofs.Ytkihcejhjmpijaa
