/- The shortest form of any list, whether two lists have the same, and lists lowered: walked. -/
import Derived.Test.YtchofhgpameobaaDoorH11
import Derived.Test.YtchofhgpameobaaDoorH8
namespace Go.Proofs.YtchofhgpameobaaDoor
open Go.RowKit

set_option maxRecDepth 100000 in
set_option maxHeartbeats 2000000 in
theorem copied_nil (ao : Option Addr) (cap : Nat) (w : World) (hn : ao = none → cap = 0) :
    Calls Tryd.prog 46 #[.slice ao 0 cap] w fun e w' => e = .returned (.slice none 0 0) ∧ Old w w' := by
  obtain ⟨i0, hi0, hz0, hz1, hz2⟩ := parts_o
  cases ao with
  | none =>
    rw [hn rfl]
    go_enter Tryd.func46, Tryd.ntmps46
    go_wp2_with (at_builtin; refine wpList_append_own_none (by rfl) _ _ 22 (by rfl) w.heap.size 73 i0 2 Tryd.underlying22 hi0 (.slice none 0 0) 0 [] (by rfl) ⟨rfl, Or.inl ⟨rfl, rfl⟩⟩ (by rfl) ?_)
    go_wp2_with fail
    go_ret
    exact ⟨rfl, Old.refl _⟩
  | some ad =>
    go_enter Tryd.func46, Tryd.ntmps46
    go_wp2_with (at_builtin; refine wpList_append_own _ (by rfl) _ _ 22 (by rfl) w.heap.size 73 i0 _ 2 16 Tryd.underlying22 hi0 hz0 hz1 hz2 rfl (by omega) (.slice none 0 0) 0 [] (by rfl) ⟨rfl, Or.inl ⟨rfl, rfl⟩⟩ ad 0 cap [] (by rfl) rfl (fun j u hu => by simp at hu) (fun u hu => by simp at hu) (by unfold maxLen; omega) (by omega) (Nat.le_refl _) ?_)
    intro v w' ow gr hnil
    first | (obtain rfl : v = .slice none 0 0 := hnil) | (obtain rfl : v = .slice none 0 0 := hnil.2 ⟨rfl, rfl⟩)
    have ko : Hid (Old w w') := ⟨gr.os, gr.tape, gr.output, gr.size, fun q hq _ => gr.block q hq (by simp [Value.ownBlock])⟩
    clear ow gr
    go_wp2_with fail
    go_ret
    exact ⟨rfl, ko.out⟩

set_option maxRecDepth 100000 in
set_option maxHeartbeats 4000000 in
theorem normal_nil (ao : Option Addr) (cap : Nat) (w : World) (hn : ao = none → cap = 0) :
    Calls Tryd.prog 25 #[.slice ao 0 cap] w fun e w' => e = .returned (.slice none 0 0) ∧ Old w w' := by
  have kC := hid (copied_nil ao cap w hn)
  go_enter Tryd.func25, Tryd.ntmps25
  go_wp2_with fail
  go_step3
  go_wp2_with fail
  refine kC.out.mono ?_
  rintro e w1 ⟨rfl, o1⟩
  have ko1 := hid o1
  have kS := hid (sort_nil w1)
  have kO := hid (outdoing_any (.slice none 0 0) ⟨_, _, _, rfl⟩ w1)
  clear kC o1
  go_wp2_with fail
  refine kS.out.mono ?_
  rintro e w' ⟨rfl, e1⟩
  rw [e1]
  clear e1 w'
  go_wp2_with fail
  refine kO.out.mono ?_
  rintro e w' ⟨rfl, e1⟩
  rw [e1]
  clear e1 w'
  have ko2 := hid (ko1.out.alloc (.cells #[.slice none 0 0] 22))
  generalize w1.alloc (.cells #[.slice none 0 0] 22) = w2 at *
  go_wp2_with fail
  go_step3
  go_wp2_with fail
  refine wp_loop_rounds 1 ?_
  rw [rounds_succ]
  go_wp2_with fail
  try rw [Exit.noGoto_ret]
  go_ret
  exact ⟨rfl, ko2.out⟩

theorem normL_nil : normL [] = [] := rfl

theorem normal_any (ao : Option Addr) (cap : Nat) (L : List Off) (w : World) (h : OffC w ao L) (hn : ao = none → cap = 0) (hl : L.length ≤ 1000000) :
    Calls Tryd.prog 25 #[.slice ao L.length cap] w fun e w' => ∃ v, e = .returned v ∧ NewO w.heap.size w' v (normL L) ∧ Old w w' := by
  by_cases h0 : L = []
  · subst h0
    refine (normal_nil ao cap w hn).mono ?_
    rintro e w' ⟨rfl, o⟩
    exact ⟨_, rfl, Or.inl ⟨rfl, rfl⟩, o⟩
  · refine (normal_some ao cap L w h hn hl h0).mono ?_
    rintro e w' ⟨o, b, rfl, hb, ow⟩
    exact ⟨_, rfl, Or.inr ⟨b, _, rfl, hb, Nat.le_refl _, ow⟩, o⟩

set_option maxRecDepth 100000 in
set_option maxHeartbeats 4000000 in
theorem osame_any (ao bo : Option Addr) (ca cb : Nat) (L M : List Off) (w : World) (h : OffC w ao L) (hn : ao = none → ca = 0) (hM : OffC w bo M) (hn2 : bo = none → cb = 0) (hl : L.length ≤ 1000000) (hl2 : M.length ≤ 1000000) :
    Calls Tryd.prog 30 #[.slice ao L.length ca, .slice bo M.length cb] w fun e w' => e = .returned (.bool (decide (normL L = normL M))) ∧ Old w w' := by
  have k1 := hid (normal_any ao ca L w h hn hl)
  have kM := hid hM
  have k2 := hid (fun w h => normal_any bo cb M w h hn2 hl2)
  clear h hM
  go_enter Tryd.func30, Tryd.ntmps30
  go_wp2_with fail
  refine k1.out.mono ?_
  rintro e w1 ⟨v1, rfl, hN1, o1⟩
  have k22 := hid (k2.out w1 (kM.out.old o1))
  have ko1 := hid o1
  have kw1 := hid hN1
  clear k1 o1 hN1
  go_wp2_with fail
  refine k22.out.mono ?_
  rintro e w2 ⟨v2, rfl, hN2, o2⟩
  obtain ⟨a1, c1, rfl, O1, -⟩ := NewO.off (kw1.out.old o2)
  obtain ⟨a2, c2, rfl, O2, -⟩ := NewO.off hN2
  have k3 := hid (equal_any a1 a2 c1 c2 (normL L) (normL M) w2 O1 O2 (normL_len L (by omega)))
  have ko2 := hid (ko1.out.trans o2)
  clear k22 o2 hN2 kw1 ko1 O1 O2
  go_wp2_with fail
  refine k3.out.mono ?_
  rintro e w3 ⟨rfl, o3⟩
  have ko3 := hid (ko2.out.trans o3)
  clear o3
  go_wp2_with fail
  go_ret
  exact ⟨rfl, ko3.out⟩

theorem owns_kept2 {w w' : World} {B : Nat} {e : TypeId} {v : Value} {n : Nat} {xs : List Value} (h : w.ownsRow B e 2 v n xs) (hb : ∀ k, v.ownBlock = some k → w'.heap[k]? = w.heap[k]?) : w'.ownsRow B e 2 v n xs := by
  refine ⟨h.1, ?_⟩
  rcases h.2 with h2 | ⟨g, cap, cur, rfl, h3, h4, h5⟩
  · exact Or.inl h2
  · exact Or.inr ⟨g, cap, cur, rfl, h3, by rw [hb g rfl]; exact h4, h5⟩
theorem frm_set0 {w : World} {b i j : Nat} {u x : Value} (h : w.cell? ⟨b, j, none⟩ = some x) (hn : i ≠ j) : (w.setCell ⟨b, i, none⟩ u).cell? ⟨b, j, none⟩ = some x := set_oth h hn

/-- A list lowered by c coins. -/
def lowL (c : Int) (L : List Off) : List Off := L.filterMap (fun x => if x.2 > max c 0 then some (x.1, x.2 - max c 0) else none)

theorem lowL_take {c : Int} {L : List Off} {k : Nat} (h : k < L.length) : lowL c (L.take (k + 1)) = lowL c (L.take k) ++ (if L[k].2 > max c 0 then [(L[k].1, L[k].2 - max c 0)] else []) := by
  unfold lowL
  rw [List.take_succ_eq_append_getElem h, List.filterMap_append]
  congr 1
  by_cases h1 : L[k].2 > max c 0
  · simp [h1]
  · simp [h1]
theorem lowL_len (c : Int) (L : List Off) : (lowL c L).length ≤ L.length := List.length_filterMap_le _ _

set_option maxRecDepth 100000 in
set_option maxHeartbeats 8000000 in
theorem lower_own (c : Int) (hc : -9223372036854775808 ≤ c ∧ c ≤ 9223372036854775807) (ao : Option Addr) (cap : Nat) (L : List Off) (w : World) (h : OffC w ao L) (hL : ∀ x ∈ L, x.2 ≤ 9223372036854775807) (hl : L.length ≤ 999999) :
    Calls Tryd.prog 26 #[.int .i64 c, .slice ao L.length cap] w fun e w' => ∃ v, e = .returned v ∧ w'.ownsRow w.heap.size 73 2 v (lowL c L).length (flatO (lowL c L)) ∧ Old w w' := by
  have kO := hid h
  have kL := hid hL
  have kl : Hid (∀ k (h : k < L.length), lowL c (L.take (k + 1)) = lowL c (L.take k) ++ (if L[k].2 > max c 0 then [(L[k].1, L[k].2 - max c 0)] else [])) := fun k h => lowL_take h
  clear h hL
  obtain ⟨m, hm⟩ : ∃ m, max c 0 = m := ⟨_, rfl⟩
  rw [hm] at kl
  have hm0 : 0 ≤ m ∧ m ≤ 9223372036854775807 := by omega
  go_enter Tryd.func26, Tryd.ntmps26
  go_wp2_with fail
  go_loopw [5, 12] (fun v t wr => ∃ k : Nat, k ≤ L.length ∧ t = .int .i64 (k : Int) ∧ Hid (wr.ownsRow w.heap.size 73 2 v (lowL c (L.take k)).length (flatO (lowL c (L.take k)))) ∧ Old w wr) (fun _ t _ => L.length - (intOf t).toNat)
  case atStart => exact ⟨0, Nat.zero_le _, rfl, hid ⟨rfl, Or.inl ⟨rfl, rfl⟩⟩, Old.refl _⟩
  case round =>
    obtain ⟨k, hk, rfl, hown, oW⟩ := hrel
    by_cases hlt : k < L.length
    · obtain ⟨bg, o, rfl, d1, d2⟩ := kO.out k hlt
      have e1 := oW.cell d1
      have e2 := oW.cell d2
      have hk' : (k : Int) < (L.length : Int) := by omega
      have hkl := hid (kl.out k hlt)
      have hxm := kL.out _ (List.getElem_mem hlt)
      have hll := lowL_len c (L.take k)
      have hll2 : (L.take k).length ≤ L.length := by simp; omega
      have hsz := oW.size
      obtain ⟨x, hx⟩ : ∃ x, L[k] = x := ⟨_, rfl⟩
      rw [hx] at e1 e2 hkl hxm
      obtain ⟨n0, n1⟩ := off_new wr x
      have oA : Old wr (wr.alloc (.cells #[.int .u32 (x.1 : Int), .int .i64 x.2] 73)) := (Old.refl wr).alloc _
      have hbA := heap_new wr (.cells #[.int .u32 (x.1 : Int), .int .i64 x.2] 73)
      have hsA := alloc_size wr (.cells #[.int .u32 (x.1 : Int), .int .i64 x.2] 73)
      have zA := blk_fz hbA 1
      obtain ⟨xg, xc⟩ := x
      dsimp only at e1 e2 n0 n1 hkl hxm oA hbA hsA zA
      have koW := hid oW
      clear hx d1 d2 oW hbA
      by_cases hgt : xc > m
      · rw [if_pos hgt] at hkl
        have hs1 : -9223372036854775808 ≤ xc - m := by omega
        have hs2 : xc - m ≤ 9223372036854775807 := by omega
        have f1 := frm_set (wr.alloc (.cells #[.int .u32 (xg : Int), .int .i64 xc] 73)) wr.heap.size 1 (.int .i64 (xc - m))
        have m0 := frm_set0 (u := .int .i64 (xc - m)) n0 (i := 1) (by omega)
        have m1 := set_same (u := .int .i64 (xc - m)) n1
        have ow2 : ((wr.alloc (.cells #[.int .u32 (xg : Int), .int .i64 xc] 73)).setCell ⟨wr.heap.size, 1, none⟩ (.int .i64 (xc - m))).ownsRow w.heap.size 73 2 u5 (lowL c (L.take k)).length (flatO (lowL c (L.take k))) := owns_kept2 (hown.out.alloc _) (fun q hq => by
          have hqv := (hown.out.lt q hq).2
          exact f1.block q (by omega) (by omega))
        have hge := hid (fun q hq => (hown.out.lt q hq).1)
        have hs3 : ((wr.alloc (.cells #[.int .u32 (xg : Int), .int .i64 xc] 73)).setCell ⟨wr.heap.size, 1, none⟩ (.int .i64 (xc - m))).heap.size = wr.heap.size + 1 := by simp [World.setCell]
        have o2 : Old w ((wr.alloc (.cells #[.int .u32 (xg : Int), .int .i64 xc] 73)).setCell ⟨wr.heap.size, 1, none⟩ (.int .i64 (xc - m))) := Frm.trans (koW.out.trans oA) f1 (fun i hi e => by omega)
        obtain ⟨w2, hw2⟩ : ∃ w2, (wr.alloc (.cells #[.int .u32 (xg : Int), .int .i64 xc] 73)).setCell ⟨wr.heap.size, 1, none⟩ (.int .i64 (xc - m)) = w2 := ⟨_, rfl⟩
        rw [hw2] at m0 m1 ow2 hs3 o2
        have hb3 := heap_new w2 (.cells #[.int .u32 (xg : Int), .int .i64 (xc - m)] 73)
        have hO3 : OffC (w2.alloc (.cells #[.int .u32 (xg : Int), .int .i64 (xc - m)] 73)) (some ⟨wr.heap.size + 1, 0, none⟩) [(xg, xc - m)] := by
          rw [hs3] at hb3
          exact off_blk (L := [(xg, xc - m)]) hb3
        have ow3 := ow2.alloc (.cells #[.int .u32 (xg : Int), .int .i64 (xc - m)] 73)
        have o3 := hid (o2.trans ((Old.refl w2).alloc (.cells #[.int .u32 (xg : Int), .int .i64 (xc - m)] 73)))
        have hs4 := alloc_size w2 (.cells #[.int .u32 (xg : Int), .int .i64 (xc - m)] 73)
        clear ow2 o2 f1 oA hb3 hown
        go_wp2_with (first | rw [hw2] | (at_builtin; refine wpAppO (by rfl) _ _ (by rfl) w.heap.size u5 (some ⟨wr.heap.size + 1, 0, none⟩) 1 (lowL c (L.take k)) [(xg, xc - m)] (by rfl) (by rfl) ow3 hO3 (fun h => by cases h) (by simp; omega) (by omega) ?_))
        generalize w2.alloc (.cells #[.int .u32 (xg : Int), .int .i64 (xc - m)] 73) = w3 at *
        intro v4 w4 ow4 gr4
        have o4 : Hid (Old w w4) := by
          refine ⟨gr4.os.trans o3.out.os, gr4.tape.trans o3.out.tape, gr4.output.trans o3.out.output, Nat.le_trans o3.out.size gr4.size, fun q hq _ => ?_⟩
          rw [gr4.block q (by omega) (fun e => by have := hge.out q e.symm; omega)]
          exact o3.out.block q hq (fun h => h)
        have kow := hid ow4
        clear ow4 gr4 ow3 hO3
        go_wp2_with fail
        go_roundw
        case rel => exact ⟨k + 1, by omega, by go_num, by rw [hkl.out, List.length_append]; exact kow, o4.out⟩
        case measure => simp [intOf]; omega
      · rw [if_neg hgt, List.append_nil] at hkl
        have kow := hid (hown.out.alloc (.cells #[.int .u32 (xg : Int), .int .i64 xc] 73))
        clear hown
        go_wp2_with fail
        go_roundw
        case rel => exact ⟨k + 1, by omega, by go_num, by rw [hkl.out]; exact kow, koW.out.trans oA⟩
        case measure => simp [intOf]; omega
    · obtain rfl : k = L.length := by omega
      rw [List.take_length] at hown
      have kn := hown
      clear hown
      go_wp2_with fail
      go_ret
      exact ⟨_, rfl, kn.out, oW⟩

theorem lower_any (c : Int) (hc : -9223372036854775808 ≤ c ∧ c ≤ 9223372036854775807) (ao : Option Addr) (cap : Nat) (L : List Off) (w : World) (h : OffC w ao L) (hL : ∀ x ∈ L, x.2 ≤ 9223372036854775807) (hl : L.length ≤ 999999) :
    Calls Tryd.prog 26 #[.int .i64 c, .slice ao L.length cap] w fun e w' => ∃ v, e = .returned v ∧ NewO w.heap.size w' v (lowL c L) ∧ Old w w' :=
  (lower_own c hc ao cap L w h hL hl).mono fun _ _ ⟨v, e, ho, o⟩ => ⟨v, e, owns_new ho, o⟩
end Go.Proofs.YtchofhgpameobaaDoor
