/- All's iterator, walked. -/
import Derived.Test.YthibbenkibjghaaA7
namespace Go.Proofs.Ythibbenkibjghaa
open Go.RowKit Go.Lib Go.Shelf Go.Maps
attribute [local go_sem] Oper.semAt_some

def encH (x : Hd) : Array Value := #[.int .i64 x.1, .int .i64 x.2]

theorem kept_sec {T : Nat → Prop} {X Y : World} {ao : Option Addr} {L : List Hd} (h : HdC X ao L) (hk : KeptC T X Y) (ht : ∀ ad, ao = some ad → ¬ T ad.block) : HdC Y ao L := by
  intro i hi
  obtain ⟨g, o, rfl, h1, h2⟩ := h i hi
  have hs := ht _ rfl
  exact ⟨g, o, rfl, kept_cell hk (show ¬ T (⟨g, o + i * 2, none⟩ : Addr).block from hs) h1, kept_cell hk (show ¬ T (⟨g, o + i * 2 + 1, none⟩ : Addr).block from hs) h2⟩

theorem take_snoc {L : List Hd} {k : Nat} (h : k < L.length) : L.take k ++ [L[k]] = L.take (k + 1) := (List.take_succ_eq_append_getElem h).symm

set_option maxRecDepth 100000 in
set_option maxHeartbeats 8000000 in
theorem all1_good (d : Nat) (hd : 1 ≤ d) (lp cb pb bi bm n0 : Nat) (bud sp : Int) (T : Nat → Prop) (L : List Hd) (hok : OkR L) (hl : L.length ≤ 1099511627776) (hTb : ∀ k, T k → k < n0) (J Jx : List Hd → World → Prop)
    (hY : ∀ p x X, J p X → (∃ k, k ≤ L.length ∧ p ++ [x] = L.take k) → YieldAt Fence.wide (d - 1) Try.prog lp (encH x) X fun e Y => (e = .returned (.bool true) ∧ J (p ++ [x]) Y ∧ KeptC T X Y) ∨ (e = .returned (.bool false) ∧ Jx (p ++ [x]) Y))
    (W : World) (hn0 : n0 ≤ W.heap.size) (hc : W.cell? ⟨cb, 0, none⟩ = some (.pointer (some ⟨pb, 0, none⟩))) (hB : Acc W pb bi bm bud sp L)
    (hJ : ∀ p X Y, J p X → Frm (fun k => W.heap.size ≤ k) X Y → J p Y) (h0 : J [] W) :
    CallsIn Fence.wide d Try.prog 54 #[.func (.yield lp) #[] #[], .pointer (some ⟨cb, 0, none⟩)] W fun e Y => (∃ v, e = .returned v) ∧
      ((∃ q, q = L ∧ J q Y) ∨ (∃ p, (∃ k, k ≤ L.length ∧ p = L.take k) ∧ Jx p Y)) := by
  have q0 := blk_cell hB.a
  have kM := hid (isMade_any pb bi W q0)
  have kC := hid (list_any bi bm bud sp L W hB.ins hok hl)
  have kT := hid hTb
  clear hTb hB hok
  refine callsIn_of_wp Try.func54 rfl trivial ?_ rfl
  simp only [Try.ntmps54, List.size_toArray, List.length_cons, List.length_nil, Nat.reduceAdd, Nat.reduceSub, Array.replicate_succ, Array.replicate_zero, List.push_toArray, List.append_toArray, List.nil_append, List.cons_append]
  gi_wp2_with fail
  refine ⟨trivial, ?_⟩
  refine (callsIn_wide.2 kM.out).mono ?_
  rintro e w1 ⟨rfl, e2⟩
  rw [e2]
  clear e2
  gi_wp2_with fail
  refine ⟨trivial, ?_⟩
  refine (callsIn_wide.2 kC.out).mono ?_
  rintro e w2 ⟨v2, rfl, r2, o2⟩
  obtain ⟨a2, c2, rfl, hS2, -⟩ := (owns_new r2).off
  have hJ2 : Hid (J (L.take 0) w2) := by rw [List.take_zero]; exact hJ _ _ _ h0 (Frm.mono o2 (fun _ _ h => h.elim))
  have kS2 := hid hS2
  have ha2 : Hid (∀ ad, a2 = some ad → ¬ T ad.block) := fun ad e ht => by
    have h1 := kT.out _ ht
    have h2 := (r2.lt ad.block (by
      rcases r2.2 with ⟨e3, _⟩ | ⟨g, cap', cur, e3, _⟩
      · rw [e] at e3; cases e3
      · rw [e] at e3
        simp only [Value.slice.injEq, Option.some.injEq] at e3
        rw [e, e3.1]
        rfl)).1
    omega
  clear o2 r2 hS2 kC kM h0 q0 hc
  gi_wp2_with fail
  gi_loopw [4, 14] (fun _ i wr => ∃ k : Nat, k ≤ L.length ∧ i = .int .i64 (k : Int) ∧ Hid (J (L.take k) wr) ∧ Hid (HdC wr a2 L)) (fun _ i _ => L.length - (intOf i).toNat)
  case atStart => exact ⟨0, Nat.zero_le _, rfl, hJ2, kS2⟩
  case round =>
    clear hJ2 kS2
    obtain ⟨k, hk, rfl, hJk, hSk⟩ := hrel
    by_cases hlt : k < L.length
    · have hlt' : (k : Int) < (L.length : Int) := by omega
      obtain ⟨g, o, rfl, d1, d2⟩ := hSk.out k hlt
      have hes := hid (take_snoc hlt)
      obtain ⟨x, hx⟩ : ∃ x, L[k] = x := ⟨_, rfl⟩
      rw [hx] at d1 d2 hes
      obtain ⟨xb, xc⟩ := x
      dsimp only at d1 d2
      have n0' := new_cell wr #[.int .i64 xb, .int .i64 xc] 27 0 (.int .i64 xb) rfl
      have n1' := new_cell wr #[.int .i64 xb, .int .i64 xc] 27 1 (.int .i64 xc) rfl
      have oA : Old wr (wr.alloc (.cells #[.int .i64 xb, .int .i64 xc] 27)) := (Old.refl wr).alloc _
      have hSA := hid (hSk.out.old oA)
      obtain ⟨fn, tmps, assign, body, hy, hR⟩ := hY _ (xb, xc) _ (hJ _ _ _ hJk.out (Frm.mono oA (fun _ _ h => h.elim))) ⟨k + 1, by omega, hes.out⟩
      simp only [encH] at hy
      clear oA hx hJk hSk
      gi_wp2
      refine hR.mono ?_
      rintro e W3 (⟨rfl, hJ3, hk3⟩ | ⟨rfl, hJx3⟩)
      · have kk3 := hid hk3
        have kJ3 := hid hJ3
        clear hk3 hJ3
        gi_wp2
        go_roundw
        case rel => exact ⟨k + 1, by omega, by go_num, hid (by rw [← hes.out]; exact kJ3.out), hid (kept_sec hSA.out kk3.out ha2.out)⟩
        case measure => simp [intOf]; omega
      · gi_wp2
        refine bodyPost_ret (results_none rfl _ _ _) rfl ?_
        exact ⟨⟨_, rfl⟩, .inr ⟨_, ⟨k + 1, by omega, hes.out⟩, hJx3⟩⟩
    · obtain rfl : k = L.length := by omega
      gi_wp2
      go_end0
      exact ⟨⟨_, rfl⟩, .inl ⟨_, rfl, by have := hJk.out; rwa [List.take_length] at this⟩⟩

/-- All, as a function over which one ranges. -/
theorem all_stops (d : Nat) (hd : 1 ≤ d) (cb pb bi bm : Nat) (bud sp : Int) (T : Nat → Prop) (L : List Hd) (w : World) (hok : OkR L) (hl : L.length ≤ 1099511627776) (hTb : ∀ k, T k → k < w.heap.size)
    (hc : w.cell? ⟨cb, 0, none⟩ = some (.pointer (some ⟨pb, 0, none⟩))) (hB : Acc w pb bi bm bud sp L) :
    SeqP Try.prog d 54 #[.pointer (some ⟨cb, 0, none⟩)] encH (KeptC T) (fun q => ∃ k, k ≤ L.length ∧ q = L.take k) (fun q => q = L) (fun q => ∃ k, k ≤ L.length ∧ q = L.take k) w := by
  intro lp J Jx W hbe hJ hJx hY h0
  have hold : Old w W := Old.of_below hbe
  exact all1_good d hd lp cb pb bi bm w.heap.size bud sp T L hok hl hTb J Jx hY W hold.size (hold.cell hc) (hB.old hold) hJ h0

set_option maxRecDepth 100000 in
set_option maxHeartbeats 8000000 in
/-- Over an account that no call has made. -/
theorem all1_none (d : Nat) (hd : 1 ≤ d) (lp cb : Nat) (p : Option Addr) (W : World) (hc : W.cell? ⟨cb, 0, none⟩ = some (.pointer p)) (hM : Calls Try.prog 37 #[.pointer p] W fun e w' => e = .returned (.bool false) ∧ w' = W) :
    CallsIn Fence.wide d Try.prog 54 #[.func (.yield lp) #[] #[], .pointer (some ⟨cb, 0, none⟩)] W fun e Y => (∃ v, e = .returned v) ∧ Y = W := by
  have kM := hid hM
  clear hM
  refine callsIn_of_wp Try.func54 rfl trivial ?_ rfl
  simp only [Try.ntmps54, List.size_toArray, List.length_cons, List.length_nil, Nat.reduceAdd, Nat.reduceSub, Array.replicate_succ, Array.replicate_zero, List.push_toArray, List.append_toArray, List.nil_append, List.cons_append]
  gi_wp2_with fail
  refine ⟨trivial, ?_⟩
  refine (callsIn_wide.2 kM.out).mono ?_
  rintro e w1 ⟨rfl, e2⟩
  rw [e2]
  clear e2
  gi_wp2_with fail
  refine bodyPost_ret (results_none rfl _ _ _) rfl ?_
  exact ⟨⟨_, rfl⟩, rfl⟩

theorem none_stops (d : Nat) (hd : 1 ≤ d) (cb : Nat) (p : Option Addr) (T : Nat → Prop) (w : World) (hc : w.cell? ⟨cb, 0, none⟩ = some (.pointer p)) (hM : ∀ W, Old w W → Calls Try.prog 37 #[.pointer p] W fun e w' => e = .returned (.bool false) ∧ w' = W) :
    SeqP Try.prog d 54 #[.pointer (some ⟨cb, 0, none⟩)] encH (KeptC T) (fun _ => False) (fun q => q = []) (fun _ => False) w := by
  intro lp J Jx W hbe hJ hJx hY h0
  have hold : Old w W := Old.of_below hbe
  refine (all1_none d hd lp cb p W (hold.cell hc) (hM W hold)).mono ?_
  rintro e Y ⟨hv, rfl⟩
  exact ⟨hv, .inl ⟨[], rfl, h0⟩⟩
end Go.Proofs.Ythibbenkibjghaa
