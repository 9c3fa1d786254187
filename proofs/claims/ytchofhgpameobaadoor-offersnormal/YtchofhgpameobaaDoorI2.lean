/- Lists lowered: the document's, walked; rows that are written in. -/
import Derived.Test.YtchofhgpameobaaDoorH12
namespace Go.Proofs.YtchofhgpameobaaDoor
open Go.RowKit

theorem flatO_set : ∀ (M : List Off) (i : Nat) (d : Off), i < M.length → ((flatO M).set (i * 2) (.int .u32 (d.1 : Int))).set (i * 2 + 1) (.int .i64 d.2) = flatO (M.set i d)
  | [], i, d, h => by simp at h
  | c :: M, 0, d, _ => by simp [flatO]
  | c :: M, i + 1, d, h => by
    have := flatO_set M i d (by simpa using h)
    have e : (i + 1) * 2 = i * 2 + 2 := by omega
    rw [e]
    simp [flatO, this]

theorem owns_setO {w : World} {B b n cap i : Nat} {R : List Off} (h : w.ownsRow B 73 2 (.slice (some ⟨b, 0, none⟩) n cap) n (flatO R)) (x : Off) (hi : i < R.length) :
    ((w.setCell ⟨b, i * 2, none⟩ (.int .u32 (x.1 : Int))).setCell ⟨b, i * 2 + 1, none⟩ (.int .i64 x.2)).ownsRow B 73 2 (.slice (some ⟨b, 0, none⟩) n cap) n (flatO (R.set i x)) := by
  have hl := h.1
  rw [flatO_length] at hl
  refine ⟨by rw [flatO_length, List.length_set]; exact hl, ?_⟩
  rcases h.2 with ⟨e, _⟩ | ⟨g, cp, cur, e, h3, h4, h5, h6, h7, h8⟩
  · cases e
  · simp only [Value.slice.injEq, Option.some.injEq, Addr.mk.injEq, and_true, true_and] at e
    obtain ⟨rfl, rfl⟩ := e
    refine Or.inr ⟨b, cap, _, rfl, h3, heap_set _ (heap_set _ h4), h5, h6, by simp [h7], ?_⟩
    rw [← flatO_set R i x hi, ← h8]
    simp only [Array.toList_setIfInBounds, List.take_set]

theorem rlow_pos {c : Int} (h : c > 0) : max c 0 = c := by omega
theorem rlow_neg {c : Int} (h : ¬ c > 0) : max c 0 = 0 := by omega

set_option maxRecDepth 100000 in
set_option maxHeartbeats 8000000 in
theorem rlower_pos (c : Int) (hc : -9223372036854775808 ≤ c ∧ c ≤ 9223372036854775807) (hc0 : c > 0) (ao : Option Addr) (cap : Nat) (L : List Off) (w : World) (h : OffC w ao L) (hL : ∀ x ∈ L, x.2 ≤ 9223372036854775807) (hl : L.length ≤ 999999) :
    Calls Tryd.prog 28 #[.int .i64 c, .slice ao L.length cap] w fun e w' => ∃ v, e = .returned v ∧ NewO w.heap.size w' v (lowL c L) ∧ Old w w' := by
  have kO := hid h
  have kL := hid hL
  have kl : Hid (∀ k (h : k < L.length), lowL c (L.take (k + 1)) = lowL c (L.take k) ++ (if L[k].2 > max c 0 then [(L[k].1, L[k].2 - max c 0)] else [])) := fun k h => lowL_take h
  clear h hL
  rw [rlow_pos hc0] at kl
  go_enter Tryd.func28, Tryd.ntmps28
  go_wp2_with fail
  go_loopw [5, 6] (fun v t wr => ∃ k : Nat, k ≤ L.length ∧ t = .int .i64 (k : Int) ∧ Hid (wr.ownsRow w.heap.size 73 2 v (lowL c (L.take k)).length (flatO (lowL c (L.take k)))) ∧ Old w wr) (fun _ t _ => L.length - (intOf t).toNat)
  case atStart => exact ⟨0, Nat.zero_le _, rfl, hid ⟨rfl, Or.inl ⟨rfl, rfl⟩⟩, Old.refl _⟩
  case round =>
    obtain ⟨k, hk, rfl, hown, oW⟩ := hrel
    by_cases hlt : k < L.length
    · obtain ⟨bg, o, rfl, d1, d2⟩ := kO.out k hlt
      have e1 := oW.cell d1
      have e2 := oW.cell d2
      have hk' : (k : Int) < (L.length : Int) := by omega
      have hkl := hid (kl.out k hlt)
      have hxm := kL.out _ (List.getElem_mem hlt)
      have hll := lowL_len c (L.take k)
      have hll2 : (L.take k).length ≤ L.length := by simp; omega
      have hsz := oW.size
      obtain ⟨x, hx⟩ : ∃ x, L[k] = x := ⟨_, rfl⟩
      rw [hx] at e1 e2 hkl hxm
      obtain ⟨n0, n1⟩ := off_new wr x
      have oA : Old wr (wr.alloc (.cells #[.int .u32 (x.1 : Int), .int .i64 x.2] 73)) := (Old.refl wr).alloc _
      have hbA := heap_new wr (.cells #[.int .u32 (x.1 : Int), .int .i64 x.2] 73)
      have hsA := alloc_size wr (.cells #[.int .u32 (x.1 : Int), .int .i64 x.2] 73)
      have zA := blk_fz hbA 1
      obtain ⟨xg, xc⟩ := x
      dsimp only at e1 e2 n0 n1 hkl hxm oA hbA hsA zA
      have koW := hid oW
      clear hx d1 d2 oW hbA
      by_cases hx1 : xc < 1
      · rw [if_neg (show ¬ xc > c by omega), List.append_nil] at hkl
        have kow := hid (hown.out.alloc (.cells #[.int .u32 (xg : Int), .int .i64 xc] 73))
        clear hown
        go_wp2_with fail
        go_roundw
        case rel => exact ⟨k + 1, by omega, by go_num, by rw [hkl.out]; exact kow, koW.out.trans oA⟩
        case measure => simp [intOf]; omega
      · by_cases hgt : xc > c
        · have hle : ¬ xc ≤ c := by omega
          rw [if_pos hgt] at hkl
          have hs1 : -9223372036854775808 ≤ xc - c := by omega
          have hs2 : xc - c ≤ 9223372036854775807 := by omega
          have f1 := frm_set (wr.alloc (.cells #[.int .u32 (xg : Int), .int .i64 xc] 73)) wr.heap.size 1 (.int .i64 (xc - c))
          have m0 := frm_set0 (u := .int .i64 (xc - c)) n0 (i := 1) (by omega)
          have m1 := set_same (u := .int .i64 (xc - c)) n1
          have ow2 : ((wr.alloc (.cells #[.int .u32 (xg : Int), .int .i64 xc] 73)).setCell ⟨wr.heap.size, 1, none⟩ (.int .i64 (xc - c))).ownsRow w.heap.size 73 2 u5 (lowL c (L.take k)).length (flatO (lowL c (L.take k))) := owns_kept2 (hown.out.alloc _) (fun q hq => by
            have hqv := (hown.out.lt q hq).2
            exact f1.block q (by omega) (by omega))
          have hge := hid (fun q hq => (hown.out.lt q hq).1)
          have hs3 : ((wr.alloc (.cells #[.int .u32 (xg : Int), .int .i64 xc] 73)).setCell ⟨wr.heap.size, 1, none⟩ (.int .i64 (xc - c))).heap.size = wr.heap.size + 1 := by simp [World.setCell]
          have o2 : Old w ((wr.alloc (.cells #[.int .u32 (xg : Int), .int .i64 xc] 73)).setCell ⟨wr.heap.size, 1, none⟩ (.int .i64 (xc - c))) := Frm.trans (koW.out.trans oA) f1 (fun i hi e => by omega)
          obtain ⟨w2, hw2⟩ : ∃ w2, (wr.alloc (.cells #[.int .u32 (xg : Int), .int .i64 xc] 73)).setCell ⟨wr.heap.size, 1, none⟩ (.int .i64 (xc - c)) = w2 := ⟨_, rfl⟩
          rw [hw2] at m0 m1 ow2 hs3 o2
          have hb3 := heap_new w2 (.cells #[.int .u32 (xg : Int), .int .i64 (xc - c)] 73)
          have hO3 : OffC (w2.alloc (.cells #[.int .u32 (xg : Int), .int .i64 (xc - c)] 73)) (some ⟨wr.heap.size + 1, 0, none⟩) [(xg, xc - c)] := by
            rw [hs3] at hb3
            exact off_blk (L := [(xg, xc - c)]) hb3
          have ow3 := ow2.alloc (.cells #[.int .u32 (xg : Int), .int .i64 (xc - c)] 73)
          have o3 := hid (o2.trans ((Old.refl w2).alloc (.cells #[.int .u32 (xg : Int), .int .i64 (xc - c)] 73)))
          have hs4 := alloc_size w2 (.cells #[.int .u32 (xg : Int), .int .i64 (xc - c)] 73)
          clear ow2 o2 f1 oA hb3 hown
          go_wp2_with (first | rw [hw2] | (at_builtin; refine wpAppO (by rfl) _ _ (by rfl) w.heap.size u5 (some ⟨wr.heap.size + 1, 0, none⟩) 1 (lowL c (L.take k)) [(xg, xc - c)] (by rfl) (by rfl) ow3 hO3 (fun h => by cases h) (by simp; omega) (by omega) ?_))
          generalize w2.alloc (.cells #[.int .u32 (xg : Int), .int .i64 (xc - c)] 73) = w3 at *
          intro v4 w4 ow4 gr4
          have o4 : Hid (Old w w4) := by
            refine ⟨gr4.os.trans o3.out.os, gr4.tape.trans o3.out.tape, gr4.output.trans o3.out.output, Nat.le_trans o3.out.size gr4.size, fun q hq _ => ?_⟩
            rw [gr4.block q (by omega) (fun e => by have := hge.out q e.symm; omega)]
            exact o3.out.block q hq (fun h => h)
          have kow := hid ow4
          clear ow4 gr4 ow3 hO3
          go_wp2_with fail
          go_roundw
          case rel => exact ⟨k + 1, by omega, by go_num, by rw [hkl.out, List.length_append]; exact kow, o4.out⟩
          case measure => simp [intOf]; omega
        · have hle : xc ≤ c := by omega
          rw [if_neg hgt, List.append_nil] at hkl
          have kow := hid (hown.out.alloc (.cells #[.int .u32 (xg : Int), .int .i64 xc] 73))
          clear hown
          go_wp2_with fail
          go_roundw
          case rel => exact ⟨k + 1, by omega, by go_num, by rw [hkl.out]; exact kow, koW.out.trans oA⟩
          case measure => simp [intOf]; omega
    · obtain rfl : k = L.length := by omega
      rw [List.take_length] at hown
      have kn := hid (owns_new hown.out)
      clear hown
      go_wp2_with fail
      go_ret
      exact ⟨_, rfl, kn.out, oW⟩

set_option maxRecDepth 100000 in
set_option maxHeartbeats 8000000 in
theorem rlower_neg (c : Int) (hc0 : ¬ c > 0) (ao : Option Addr) (cap : Nat) (L : List Off) (w : World) (h : OffC w ao L) (hL : ∀ x ∈ L, x.2 ≤ 9223372036854775807) (hl : L.length ≤ 999999) :
    Calls Tryd.prog 28 #[.int .i64 c, .slice ao L.length cap] w fun e w' => ∃ v, e = .returned v ∧ NewO w.heap.size w' v (lowL c L) ∧ Old w w' := by
  have kO := hid h
  have kL := hid hL
  have kl : Hid (∀ k (h : k < L.length), lowL c (L.take (k + 1)) = lowL c (L.take k) ++ (if L[k].2 > max c 0 then [(L[k].1, L[k].2 - max c 0)] else [])) := fun k h => lowL_take h
  clear h hL
  rw [rlow_neg hc0] at kl
  go_enter Tryd.func28, Tryd.ntmps28
  go_wp2_with fail
  go_loopw [5, 6] (fun v t wr => ∃ k : Nat, k ≤ L.length ∧ t = .int .i64 (k : Int) ∧ Hid (wr.ownsRow w.heap.size 73 2 v (lowL c (L.take k)).length (flatO (lowL c (L.take k)))) ∧ Old w wr) (fun _ t _ => L.length - (intOf t).toNat)
  case atStart => exact ⟨0, Nat.zero_le _, rfl, hid ⟨rfl, Or.inl ⟨rfl, rfl⟩⟩, Old.refl _⟩
  case round =>
    obtain ⟨k, hk, rfl, hown, oW⟩ := hrel
    by_cases hlt : k < L.length
    · obtain ⟨bg, o, rfl, d1, d2⟩ := kO.out k hlt
      have e1 := oW.cell d1
      have e2 := oW.cell d2
      have hk' : (k : Int) < (L.length : Int) := by omega
      have hkl := hid (kl.out k hlt)
      have hxm := kL.out _ (List.getElem_mem hlt)
      have hll := lowL_len c (L.take k)
      have hll2 : (L.take k).length ≤ L.length := by simp; omega
      have hsz := oW.size
      obtain ⟨x, hx⟩ : ∃ x, L[k] = x := ⟨_, rfl⟩
      rw [hx] at e1 e2 hkl hxm
      obtain ⟨n0, n1⟩ := off_new wr x
      have oA : Old wr (wr.alloc (.cells #[.int .u32 (x.1 : Int), .int .i64 x.2] 73)) := (Old.refl wr).alloc _
      have hbA := heap_new wr (.cells #[.int .u32 (x.1 : Int), .int .i64 x.2] 73)
      have hsA := alloc_size wr (.cells #[.int .u32 (x.1 : Int), .int .i64 x.2] 73)
      have zA := blk_fz hbA 1
      obtain ⟨xg, xc⟩ := x
      dsimp only at e1 e2 n0 n1 hkl hxm oA hbA hsA zA
      have koW := hid oW
      clear hx d1 d2 oW hbA
      by_cases hx1 : xc < 1
      · rw [if_neg (show ¬ xc > 0 by omega), List.append_nil] at hkl
        have kow := hid (hown.out.alloc (.cells #[.int .u32 (xg : Int), .int .i64 xc] 73))
        clear hown
        go_wp2_with fail
        go_roundw
        case rel => exact ⟨k + 1, by omega, by go_num, by rw [hkl.out]; exact kow, koW.out.trans oA⟩
        case measure => simp [intOf]; omega
      · rw [if_pos (show xc > 0 by omega), show xc - 0 = xc by omega] at hkl
        have ow2 := hown.out.alloc (.cells #[.int .u32 (xg : Int), .int .i64 xc] 73)
        have hge := hid (fun q hq => (hown.out.lt q hq).1)
        have o2 := koW.out.trans oA
        obtain ⟨w2, hw2⟩ : ∃ w2, wr.alloc (.cells #[.int .u32 (xg : Int), .int .i64 xc] 73) = w2 := ⟨_, rfl⟩
        rw [hw2] at n0 n1 ow2 o2 hsA
        have hb3 := heap_new w2 (.cells #[.int .u32 (xg : Int), .int .i64 xc] 73)
        have hO3 : OffC (w2.alloc (.cells #[.int .u32 (xg : Int), .int .i64 xc] 73)) (some ⟨wr.heap.size + 1, 0, none⟩) [(xg, xc)] := by
          rw [hsA] at hb3
          exact off_blk (L := [(xg, xc)]) hb3
        have ow3 := ow2.alloc (.cells #[.int .u32 (xg : Int), .int .i64 xc] 73)
        have o3 := hid (o2.trans ((Old.refl w2).alloc (.cells #[.int .u32 (xg : Int), .int .i64 xc] 73)))
        have hs4 := alloc_size w2 (.cells #[.int .u32 (xg : Int), .int .i64 xc] 73)
        clear ow2 o2 oA hb3 hown
        go_wp2_with (first | rw [hw2] | (at_builtin; refine wpAppO (by rfl) _ _ (by rfl) w.heap.size u5 (some ⟨wr.heap.size + 1, 0, none⟩) 1 (lowL c (L.take k)) [(xg, xc)] (by rfl) (by rfl) ow3 hO3 (fun h => by cases h) (by simp; omega) (by omega) ?_))
        generalize w2.alloc (.cells #[.int .u32 (xg : Int), .int .i64 xc] 73) = w3 at *
        intro v4 w4 ow4 gr4
        have o4 : Hid (Old w w4) := by
          refine ⟨gr4.os.trans o3.out.os, gr4.tape.trans o3.out.tape, gr4.output.trans o3.out.output, Nat.le_trans o3.out.size gr4.size, fun q hq _ => ?_⟩
          rw [gr4.block q (by omega) (fun e => by have := hge.out q e.symm; omega)]
          exact o3.out.block q hq (fun h => h)
        have kow := hid ow4
        clear ow4 gr4 ow3 hO3
        go_wp2_with fail
        go_roundw
        case rel => exact ⟨k + 1, by omega, by go_num, by rw [hkl.out, List.length_append]; exact kow, o4.out⟩
        case measure => simp [intOf]; omega
    · obtain rfl : k = L.length := by omega
      rw [List.take_length] at hown
      have kn := hid (owns_new hown.out)
      clear hown
      go_wp2_with fail
      go_ret
      exact ⟨_, rfl, kn.out, oW⟩

theorem rlower_any (c : Int) (hc : -9223372036854775808 ≤ c ∧ c ≤ 9223372036854775807) (ao : Option Addr) (cap : Nat) (L : List Off) (w : World) (h : OffC w ao L) (hL : ∀ x ∈ L, x.2 ≤ 9223372036854775807) (hl : L.length ≤ 999999) :
    Calls Tryd.prog 28 #[.int .i64 c, .slice ao L.length cap] w fun e w' => ∃ v, e = .returned v ∧ NewO w.heap.size w' v (lowL c L) ∧ Old w w' := by
  by_cases hc0 : c > 0
  · exact rlower_pos c hc hc0 ao cap L w h hL hl
  · exact rlower_neg c hc0 ao cap L w h hL hl
end Go.Proofs.YtchofhgpameobaaDoor
