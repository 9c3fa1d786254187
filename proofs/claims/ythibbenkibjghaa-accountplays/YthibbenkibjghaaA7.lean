/- list, All's function, walked. -/
import Derived.Test.YthibbenkibjghaaA6
import Derived.Test.YthibbenkibjghaaRP2
import Derived.Test.YthibbenkibjghaaRJ
namespace Go.Proofs.Ythibbenkibjghaa
open Go.RowKit Go.Lib Go.Maps Go.Shelf
attribute [local go_sem] Oper.semAt_some

theorem ints_cells {w : World} {B n : Nat} {v : Value} {L : List Int} (h : w.ownsRow B 3 1 v n (L.map encZ)) (hn : n = L.length) : ∃ ao cap, v = .slice ao L.length cap ∧ NumsC .i64 w ao L := by
  subst hn
  rcases h.2 with ⟨rfl, h0⟩ | ⟨g, cap, cur, rfl, h3, h4, h5, h6, h7, h8⟩
  · have : L = [] := List.eq_nil_of_length_eq_zero h0
    subst this
    exact ⟨none, 0, rfl, fun i hi => by simp at hi⟩
  · refine ⟨some ⟨g, 0, none⟩, cap, rfl, fun i hi => ⟨g, 0, rfl, ?_⟩⟩
    have g1 : (cur.toList.take (L.length * 1))[i]? = (L.map encZ)[i]? := by rw [h8]
    rw [List.getElem?_take_of_lt (by omega)] at g1
    rw [Nat.zero_add]
    refine blk_cells h4 ?_
    rw [← Array.getElem?_toList, g1]
    simp [hi]

theorem fst_at (R : List Hd) {k : Nat} (hk : k < R.length) (h2 : k < (R.map Prod.fst).length) : (R.map Prod.fst)[k] = R[k].1 := by simp

theorem owns_blk {w : World} {B k : Nat} {e : TypeId} {v : Value} {n : Nat} {xs : List Value} (h : w.ownsRow B e k v n xs) {g : Nat} (hg : v.ownBlock = some g) : ∃ cur, w.heap[g]? = some (.cells cur e (0, 0)) := by
  rcases h.2 with h2 | ⟨g', cap, cur, rfl, h3, h4, h5⟩
  · rcases h2 with ⟨rfl, _⟩
    simp [Value.ownBlock] at hg
  · simp [Value.ownBlock] at hg
    subst hg
    exact ⟨cur, h4⟩
theorem owns_keep {w w' : World} {B k : Nat} {e : TypeId} {v : Value} {n : Nat} {xs : List Value} (h : w.ownsRow B e k v n xs) (hb : ∀ q, v.ownBlock = some q → w'.heap[q]? = w.heap[q]?) : w'.ownsRow B e k v n xs := by
  refine ⟨h.1, ?_⟩
  rcases h.2 with h2 | ⟨g, cap, cur, rfl, h3, h4, h5⟩
  · exact Or.inl h2
  · exact Or.inr ⟨g, cap, cur, rfl, h3, by rw [hb g rfl]; exact h4, h5⟩
theorem owns_old {w w' : World} {B k : Nat} {e : TypeId} {v : Value} {n : Nat} {xs : List Value} (h : w.ownsRow B e k v n xs) (o : Old w w') : w'.ownsRow B e k v n xs := owns_keep h (fun q hq => o.block q (h.lt q hq).2 (fun h => h))
theorem owns_frm {S : Nat → Prop} {w w' : World} {B k : Nat} {e : TypeId} {v : Value} {n : Nat} {xs : List Value} (h : w.ownsRow B e k v n xs) (f : Frm S w w') (hS : ∀ q, v.ownBlock = some q → ¬ S q) : w'.ownsRow B e k v n xs := owns_keep h (fun q hq => f.block q (h.lt q hq).2 (hS q hq))
theorem hd_new (w : World) (x : Hd) : HdC (w.alloc (.cells #[.int .i64 x.1, .int .i64 x.2] 27)) (some ⟨w.heap.size, 0, none⟩) [x] := by
  have hn := heap_new w (.cells #[.int .i64 x.1, .int .i64 x.2] 27)
  intro j hj
  match j, hj with
  | 0, _ => exact ⟨w.heap.size, 0, rfl, blk_cells hn rfl, blk_cells hn rfl⟩

set_option maxRecDepth 100000 in
set_option maxHeartbeats 8000000 in
theorem list_any (bi bm : Nat) (bud sp : Int) (R : List Hd) (w : World) (h : Ins w bi bm bud sp R) (hk : OkR R) (hl : R.length ≤ 1099511627776) :
    Calls Try.prog 55 #[.pointer (some ⟨bi, 0, none⟩)] w fun e w' => ∃ v, e = .returned v ∧ w'.ownsRow w.heap.size 27 2 v R.length (flatS R) ∧ Old w w' := by
  obtain ⟨-, -, -, q3, -⟩ := h.cells
  have hmk := make_s R.length hl w
  have hlen : (Builtin.len_ #[76] 3 #[.map (some bm)]).run Try.prog w = .ok (.int .i64 (R.length : Int)) w := by
    obtain ⟨D, h1, h2, h3⟩ := h.m
    rw [h1.len Try.underlying76 3, h2]
  have kh := hid h
  have o1 : Old w (w.alloc (.cells (madeCells #[.int .i64 0, .int .i64 0] (R.length * 2)) 27)) := (Old.refl w).alloc _
  have r1 : Hid ((w.alloc (.cells (madeCells #[.int .i64 0, .int .i64 0] (R.length * 2)) 27)).ownsRow w.heap.size 27 2 (.slice (some ⟨w.heap.size, 0, none⟩) 0 R.length) 0 (flatS [])) :=
    ⟨rfl, Or.inr ⟨w.heap.size, R.length, _, rfl, Nat.le_refl _, heap_new w _, Nat.zero_le _, by unfold maxLen; omega, by simp [madeCells], by simp [flatS]⟩⟩
  have ko1 := hid o1
  have q31 := o1.cell q3
  have kkk := hid hk
  clear h o1 hk
  go_enter Try.func55, Try.ntmps55
  go_upto_region 2 with fail
  clear hmk hlen
  generalize w.alloc (.cells (madeCells #[.int .i64 0, .int .i64 0] (R.length * 2)) 27) = w1 at *
  have kS := hid (sorted_call bm R w1 (kh.out.old ko1.out).m kkk.out hl)
  go_wp2_with fail
  refine (keys_call (some bm) w1).mono ?_
  rintro e w2 ⟨rfl, e2⟩
  rw [e2]
  clear e2
  go_wp2_with fail
  refine kS.out.mono ?_
  rintro e w3 ⟨vk, rfl, rk, o3⟩
  have krk : Hid (w3.ownsRow w.heap.size 3 1 vk R.length ((R.map Prod.fst).map encZ)) := ownsRow_base_a rk ko1.out.size
  have ko3 := hid (ko1.out.trans o3)
  have r3 := hid (owns_old r1.out o3)
  obtain ⟨ao, cap, rfl, -⟩ := ints_cells rk (by simp)
  rw [List.length_map] at krk ⊢
  clear rk o3 kS r1 q31 q3 ko1
  generalize hws : w.heap.size = s at *
  have kws := hid hws
  clear hws
  go_wp2_with fail
  go_loopw [3, 5, 19] (fun v _ i wr => ∃ k : Nat, k ≤ R.length ∧ i = .int .i64 (k : Int) ∧ Hid (wr.ownsRow s 27 2 v (R.take k).length (flatS (R.take k))) ∧ Hid (wr.ownsRow s 3 1 (.slice ao R.length cap) R.length ((R.map Prod.fst).map encZ)) ∧ Hid (Old w wr)) (fun _ _ i _ => R.length - (intOf i).toNat)
  case atStart => exact ⟨0, Nat.zero_le _, rfl, by rw [List.take_zero]; exact r3, krk, ko3⟩
  case round =>
    clear r3 krk ko3
    obtain ⟨k, hk, rfl, hr, hq, ho⟩ := hrel
    by_cases hlt : k < R.length
    · have hlt' : (k : Int) < (R.length : Int) := by omega
      obtain ⟨ao', cap', e1, hN⟩ := ints_cells hq.out (by simp)
      obtain ⟨rfl, rfl⟩ : ao = ao' ∧ cap = cap' := by simp only [Value.slice.injEq] at e1; exact ⟨e1.1, e1.2.2⟩
      obtain ⟨g, o, rfl, d1⟩ := hN k (by simpa using hlt)
      rw [fst_at R hlt] at d1
      have hI := kh.out.old ho.out
      obtain ⟨-, -, -, q3, -⟩ := hI.cells
      have hmem := kkk.out.mem R[k] (List.getElem_mem _)
      have hlk := hI.m.look1 (x := R[k].1) (by unfold i64ok; omega)
      have hat : (lkR R R[k].1).getD 0 = R[k].2 := at_mem kkk.out (List.getElem_mem _)
      rw [hat] at hlk
      have hes := hid (getD_at R hlt)
      obtain ⟨⟨xl, xc⟩, hx⟩ : ∃ x, R[k] = x := ⟨_, rfl⟩
      rw [hx] at d1 hlk hes
      dsimp only at d1 hlk hes
      have oA : Old wr (wr.alloc (.cells #[.int .i64 xl, .int .i64 xc] 27)) := (Old.refl wr).alloc _
      have hrA := owns_old hr.out oA
      have hqA := hid (owns_old hq.out oA)
      have hO := hd_new wr (xl, xc)
      have hoA := hid (ho.out.trans oA)
      have hsz : s ≤ (wr.alloc (.cells #[.int .i64 xl, .int .i64 xc] 27)).heap.size := by
        have := hqA.out
        rw [alloc_size]
        exact Nat.le_trans ((hq.out.lt g rfl).1) (by have := (hq.out.lt g rfl).2; omega)
      have hkb : (k : Int) ≤ 1099511627776 := by omega
      have htl : (R.take k).length = k := by rw [List.length_take]; omega
      clear oA hr hq ho hI hN hmem hat hx e1
      go_wp2_with (at_builtin; refine wpAppS (by rfl) _ _ (by rfl) s u3 (some ⟨wr.heap.size, 0, none⟩) 1 (R.take k) [(xl, xc)] (by rfl) (by rfl) hrA hO (fun h => by cases h) (by rw [htl]; simp; omega) hsz ?_)
      intro v5 w5 r5 g5
      have f5 : Frm (fun q => u3.ownBlock = some q) (wr.alloc (.cells #[.int .i64 xl, .int .i64 xc] 27)) w5 := Frm.grown (Frm.refl _ _) g5 (fun q hq => Or.inr hq)
      have kr5 := hid r5
      have ko5 : Hid (Old w w5) := Frm.trans hoA.out f5 (fun j hj e => by
        have h1 := (hrA.lt j e).1
        have := kws.out
        omega)
      have kq5 : Hid (w5.ownsRow s 3 1 (.slice (some ⟨g, o, none⟩) R.length cap) R.length ((R.map Prod.fst).map encZ)) := owns_frm hqA.out f5 (fun q hq e => by
        obtain ⟨c1, b1⟩ := owns_blk hqA.out hq
        obtain ⟨c2, b2⟩ := owns_blk hrA e
        exact typ_ne b1 b2 (by decide) rfl)
      rw [hes.out] at kr5
      clear r5 g5 f5 hrA hO hqA hoA
      go_wp2_with fail
      go_roundw
      case rel => exact ⟨k + 1, by omega, by go_num, hid (by rw [show (R.take (k + 1)).length = k + 1 by rw [List.length_take]; omega]; exact kr5.out), kq5, ko5⟩
      case measure => simp [intOf]; omega
    · obtain rfl : k = R.length := by omega
      rw [List.take_length] at hr
      go_wp2_with fail
      go_ret
      exact ⟨_, rfl, by have := hr.out; rw [← kws.out] at this; exact this, ho.out⟩
end Go.Proofs.Ythibbenkibjghaa
