/- CallClears: walked. -/
import Derived.Test.YtccbmmbcfcppeaaC1
import Derived.Test.YtccbmmbcfcppeaaR11
import Derived.Test.YtccbmmbcfcppeaaR7
namespace Go.Proofs.Ytccbmmbcfcppeaa
open Go.RowKit

set_option maxRecDepth 100000 in
set_option maxHeartbeats 4000000 in
theorem clears_great (ao bo : Option Addr) (ca cb : Nat) (L M : List Wt) (pr : Int) (w : World) (h1 : L.length ≤ 9223372036854775807) (h2 : M.length ≤ 9223372036854775807) (hg : grB L = true ∨ grB M = true) :
    Calls Try.prog 3 #[.slice ao L.length ca, .slice bo M.length cb, .int .i64 pr] w fun e w' => e = .returned (.bool true) ∧ Old w w' := by
  have kK := hid (known_any w)
  have kL := hid (great_any ao ca L w h1)
  have kM := hid (great_any bo cb M w h2)
  cases hgl : grB L
  · have hgm : grB M = true := by
      rcases hg with h | h
      · rw [hgl] at h; cases h
      · exact h
    rw [hgl] at kL
    rw [hgm] at kM
    clear hg hgl hgm
    go_enter Try.func3, Try.ntmps3
    go_wp2_with fail
    refine kL.out.mono ?_
    rintro e w2 ⟨rfl, e2⟩
    rw [e2]
    clear e2
    go_wp2_with fail
    refine kM.out.mono ?_
    rintro e w2 ⟨rfl, e2⟩
    rw [e2]
    clear e2
    go_wp2_with fail
    refine kK.out.mono ?_
    rintro e w2 ⟨rfl, o2⟩
    have ko := hid o2
    clear o2
    go_wp2_with fail
    go_ret
    exact ⟨rfl, ko.out⟩
  · rw [hgl] at kL
    clear hg hgl
    go_enter Try.func3, Try.ntmps3
    go_wp2_with fail
    refine kL.out.mono ?_
    rintro e w2 ⟨rfl, e2⟩
    rw [e2]
    clear e2
    go_wp2_with fail
    refine kK.out.mono ?_
    rintro e w2 ⟨rfl, o2⟩
    have ko := hid o2
    clear o2
    go_wp2_with fail
    go_ret
    exact ⟨rfl, ko.out⟩

set_option maxRecDepth 100000 in
set_option maxHeartbeats 16000000 in
theorem clears_main (ao bo : Option Addr) (ca cb : Nat) (L M : List Wt) (pr : Int) (w : World) (hL : WC w ao L) (hM : WC w bo M) (hna : ao = none → ca = 0) (hnb : bo = none → cb = 0) (h1 : L.length * 16 ≤ 140737488355312) (h2 : M.length * 16 ≤ 140737488355312) (hgl : grB L = false) (hgm : grB M = false) :
    Calls Try.prog 3 #[.slice ao L.length ca, .slice bo M.length cb, .int .i64 pr] w fun e w' => e = .returned (.bool true) ∧ Old w w' := by
  have kGL := hid (great_any ao ca L w (by omega))
  have kGM := hid (great_any bo cb M w (by omega))
  rw [hgl] at kGL
  rw [hgm] at kGM
  obtain ⟨p, t, l, h, G, H, hG, hH, hC, hR⟩ := clear_all L M (by omega) (by omega)
  have kC := hid hC
  have kR := hid hR
  have kN := hid num_any
  have kLL := hid (lent_any ao ca L w hL hna h1)
  have kLM := hid (fun X (hM : WC X bo M) => lent_any bo cb M X hM hnb h2)
  have kwL := hid hL
  have kwM := hid hM
  have kB : Hid (L.length ≤ 9223372036854775807 ∧ M.length ≤ 9223372036854775807) := ⟨by omega, by omega⟩
  have kGa := hid (fun ao bo ca cb X hL hM => gains_any ao bo ca cb L M X hL hM kB.out.1 kB.out.2)
  have kGr := hid (fun ao bo ca cb X hL hM => rgains_any ao bo ca cb L M X hL hM kB.out.1 kB.out.2)
  have kAt := hid (fun ao bo ca cb X hL hM => at_any ao bo ca cb L M pr X hL hM kB.out.1 kB.out.2)
  have kAr := hid (fun ao bo ca cb X hL hM => rat_any ao bo ca cb L M pr X hL hM kB.out.1 kB.out.2)
  have kCh := hid (fun ao bo ca cb X hL hM => check_any ao bo ca cb L M X hL hM kB.out.1 kB.out.2)
  have kFl := hid (fun b c X (o : OwnW X b (L ++ [(771, 0)])) (q : WC X ao L) (hc : L.length + 1 ≤ c) => left_any b c ao ca L X o q hc (by omega))
  have kFm := hid (fun b c X (o : OwnW X b (M ++ [(771, 0)])) (q : WC X bo M) (hc : M.length + 1 ≤ c) => left_any b c bo cb M X o q hc (by omega))
  have kS := hid (fun bo so bo' so' cb cs cb' cs' w h1 h2 h3 h4 => rsame_any p t l h G H bo so bo' so' cb cs cb' cs' w h1 h2 h3 h4 hG hH)
  have kK := hid known_any
  unfold calV at kS
  clear hC hR hL hM hna hnb hgl hgm
  generalize chZ L M = cz at *
  generalize gaZ L M = gz at *
  generalize (atA L M pr : Int) = az at *
  generalize (atB L M pr : Int) = bz at *
  generalize atE L M pr = ez at *
  have kh1 := hid h1
  have kh2 := hid h2
  clear h1 h2
  go_enter Try.func3, Try.ntmps3
  go_wp2_with fail
  refine kGL.out.mono ?_
  rintro e w0 ⟨rfl, e2⟩
  rw [e2]
  clear e2 w0 kGL
  go_wp2_with fail
  refine kGM.out.mono ?_
  rintro e w0 ⟨rfl, e2⟩
  rw [e2]
  clear e2 w0 kGM
  go_wp2_with fail
  refine kLL.out.mono ?_
  rintro e w1 ⟨b1, c1, rfl, hc1, ow1, o1, -⟩
  have kM1 := hid (kwM.out.old o1)
  have kL1 := hid (kwL.out.old o1)
  have ko1 := hid o1
  have kw1 := hid ow1
  have kc1 := hid hc1
  clear o1 ow1 hc1 kLL kwL kwM
  go_wp2_with fail
  refine (kLM.out w1 kM1.out).mono ?_
  rintro e w2 ⟨b2, c2, rfl, hc2, ow2, o2, -⟩
  have kA : Hid (LS w ao bo L M b1 b2 w2) := ⟨kL1.out.old o2, kM1.out.old o2, kw1.out.old o2, ow2, ko1.out.trans o2⟩
  have kc2 := hid hc2
  clear o2 ow2 hc2 kLM kM1 kL1 ko1 kw1
  go_wp2_with fail
  have kN0 := hid kA.out.old.size
  refine (kC.out _ _ c1 c2 w2 kA.out.ob.front.off kA.out.os.front.off).mono ?_
  rintro e w3 ⟨⟨xo, yo, rfl, r1, r2, d3⟩, o3⟩
  unfold calV
  have oA : Old w3 (w3.alloc (.cells #[.int .i64 p, .int .i64 t, .int .i64 l, .int .i64 h, .slice xo G.length G.length, .slice yo H.length H.length] 28)) := (Old.refl w3).alloc _
  have kc := hid (CB.new (p := p) (t := t) (l := l) (h := h) r1 r2 d3 o3.size)
  have kA := hid ((kA.out.mv o3).mv oA)
  clear o3 r1 r2 d3 oA
  go_wp2_with fail
  generalize (w3.alloc (.cells #[.int .i64 p, .int .i64 t, .int .i64 l, .int .i64 h, .slice xo G.length G.length, .slice yo H.length H.length] 28)) = W4 at *
  generalize w3.heap.size = k1 at *
  generalize w2.heap.size = N0 at *
  refine (kC.out _ _ c1 c2 W4 kA.out.ob.front.off kA.out.os.front.off).mono ?_
  rintro e w5 ⟨⟨xd, yd, rfl, r1, r2, d3⟩, o5⟩
  unfold calV
  have oA : Old w5 (w5.alloc (.cells #[.int .i64 p, .int .i64 t, .int .i64 l, .int .i64 h, .slice xd G.length G.length, .slice yd H.length H.length] 28)) := (Old.refl w5).alloc _
  have k12 := hid (blk_lt kc.out.box)
  have kd := hid (CB.new (p := p) (t := t) (l := l) (h := h) r1 r2 d3 o5.size)
  have kc := hid ((kc.out.old o5).old oA)
  have kA := hid ((kA.out.mv o5).mv oA)
  clear o5 r1 r2 d3 oA
  go_wp2_with fail
  generalize (w5.alloc (.cells #[.int .i64 p, .int .i64 t, .int .i64 l, .int .i64 h, .slice xd G.length G.length, .slice yd H.length H.length] 28)) = W6 at *
  generalize w5.heap.size = k2 at *
  generalize W4.heap.size = N4 at *
  refine (kR.out ao bo ca cb W6 kA.out.wl kA.out.wm).mono ?_
  rintro e w7 ⟨⟨xe, ye, rfl, r1, r2, d3⟩, o7⟩
  unfold calV
  have oA : Old w7 (w7.alloc (.cells #[.int .i64 p, .int .i64 t, .int .i64 l, .int .i64 h, .slice xe G.length G.length, .slice ye H.length H.length] 28)) := (Old.refl w7).alloc _
  have k13 := hid (blk_lt kc.out.box)
  have ke := hid (CB.new (p := p) (t := t) (l := l) (h := h) r1 r2 d3 o7.size)
  have kc := hid ((kc.out.old o7).old oA)
  have kd := hid ((kd.out.old o7).old oA)
  have kA := hid ((kA.out.mv o7).mv oA)
  clear o7 r1 r2 d3 oA kC kR
  go_wp2_with fail
  generalize (w7.alloc (.cells #[.int .i64 p, .int .i64 t, .int .i64 l, .int .i64 h, .slice xe G.length G.length, .slice ye H.length H.length] 28)) = W8 at *
  generalize w7.heap.size = k3 at *
  generalize W6.heap.size = N6 at *
  refine (kGa.out _ _ c1 c2 W8 kA.out.ob.front.off kA.out.os.front.off).mono ?_
  rintro e w9 ⟨rfl, o9⟩
  have kA := hid (kA.out.mv o9)
  have kc := hid (kc.out.old o9)
  have kd := hid (kd.out.old o9)
  have ke := hid (ke.out.old o9)
  clear o9
  go_wp2_with fail
  refine (kGr.out ao bo ca cb w9 kA.out.wl kA.out.wm).mono ?_
  rintro e wa ⟨rfl, o9⟩
  have kA := hid (kA.out.mv o9)
  have kc := hid (kc.out.old o9)
  have kd := hid (kd.out.old o9)
  have ke := hid (ke.out.old o9)
  clear o9
  go_wp2_with fail
  refine (kAt.out _ _ c1 c2 wa kA.out.ob.front.off kA.out.os.front.off).mono ?_
  rintro e wb ⟨rfl, o9⟩
  have kA := hid (kA.out.mv o9)
  have kc := hid (kc.out.old o9)
  have kd := hid (kd.out.old o9)
  have ke := hid (ke.out.old o9)
  clear o9
  go_wp2_with fail
  refine (kAr.out ao bo ca cb wb kA.out.wl kA.out.wm).mono ?_
  rintro e wc ⟨rfl, o9⟩
  have kA := hid (kA.out.mv o9)
  have kc := hid (kc.out.old o9)
  have kd := hid (kd.out.old o9)
  have ke := hid (ke.out.old o9)
  clear o9
  clear kGa kGr kAt kAr
  go_wp2_with (go_at_call 14; refine (kN.out _ _).mono ?_; rintro e w' ⟨rfl, e2⟩; rw [e2]; clear e2)
  refine (kCh.out _ _ c1 c2 wc kA.out.ob.front.off kA.out.os.front.off).mono ?_
  rintro e wd ⟨rfl, o9⟩
  have kA := hid (kA.out.mv o9)
  have kc := hid (kc.out.old o9)
  have kd := hid (kd.out.old o9)
  have ke := hid (ke.out.old o9)
  clear o9
  clear kCh
  have qp := blk_cells (i := 0) (v := .int .i64 p) kc.out.box rfl
  have qt := blk_cells (i := 1) (v := .int .i64 t) kc.out.box rfl
  have ql := blk_cells (i := 2) (v := .int .i64 l) kc.out.box rfl
  have qh := blk_cells (i := 3) (v := .int .i64 h) kc.out.box rfl
  have qx := blk_cells (i := 4) (v := .slice xo G.length G.length) kc.out.box rfl
  have qy := blk_cells (i := 5) (v := .slice yo H.length H.length) kc.out.box rfl
  have rp := blk_cells (i := 0) (v := .int .i64 p) ke.out.box rfl
  have rt := blk_cells (i := 1) (v := .int .i64 t) ke.out.box rfl
  have rl := blk_cells (i := 2) (v := .int .i64 l) ke.out.box rfl
  have rh := blk_cells (i := 3) (v := .int .i64 h) ke.out.box rfl
  have rx := blk_cells (i := 4) (v := .slice xe G.length G.length) ke.out.box rfl
  have ry := blk_cells (i := 5) (v := .slice ye H.length H.length) ke.out.box rfl
  go_wp2_with (go_at_call 14; refine (kN.out _ _).mono ?_; rintro e w' ⟨rfl, e2⟩; rw [e2]; clear e2)
  refine (kS.out xo yo xe ye _ _ _ _ wd kc.out.r1.nums kc.out.r2.nums ke.out.r1.nums ke.out.r2.nums).mono ?_
  rintro e we ⟨rfl, o9⟩
  have kA := hid (kA.out.mv o9)
  have kc := hid (kc.out.old o9)
  have kd := hid (kd.out.old o9)
  have ke := hid (ke.out.old o9)
  clear o9
  clear qp qt ql qh qx qy rp rt rl rh rx ry
  go_wp2_with (go_at_call 14; refine (kN.out _ _).mono ?_; rintro e w' ⟨rfl, e2⟩; rw [e2]; clear e2)
  refine (kFl.out b1 c1 we kA.out.ob kA.out.wl kc1.out).mono ?_
  rintro e wf ⟨rfl, o9⟩
  have kA := hid (kA.out.mv o9)
  have kc := hid (kc.out.old o9)
  have kd := hid (kd.out.old o9)
  have ke := hid (ke.out.old o9)
  clear o9
  clear kFl
  go_wp2_with fail
  refine (kFm.out b2 c2 wf kA.out.os kA.out.wm kc2.out).mono ?_
  rintro e X0 ⟨rfl, o9⟩
  have kA := hid (kA.out.mv o9)
  have kc := hid (kc.out.old o9)
  have kd := hid (kd.out.old o9)
  have ke := hid (ke.out.old o9)
  clear o9
  clear kFm kN
  have kI := hid (LI.start kc.out)
  have kold := hid kA.out.old
  have klo := hid kc.out.lo
  clear kA kc
  go_wp2_with fail
  go_loopw [25] (fun u wr => ∃ k : Nat, k ≤ G.length ∧ u = .int .i64 (k : Int) ∧ Hid (LI N0 k1 xo yo p t l h G.length H.length X0 wr)) (fun u _ => G.length - (intOf u).toNat)
  case atStart => exact ⟨0, Nat.zero_le _, rfl, kI⟩
  case round =>
    clear kI
    obtain ⟨k, hk, rfl, kI⟩ := hrel
    obtain ⟨c4, -, -⟩ := kI.out.cell
    by_cases hlt : k < G.length
    · have hlt' : (k : Int) < (G.length : Int) := by omega
      obtain ⟨b, rfl, ⟨v, hv⟩, hfz, hI2⟩ := kI.out.one hlt
      have kI2 := hid hI2
      clear hI2
      go_wp2_with fail
      go_roundw
      case rel => exact ⟨k + 1, by omega, by go_num, kI2⟩
      case measure => simp [intOf]; omega
    · obtain rfl : k = G.length := by omega
      have hlt' : ¬ (G.length : Int) < (G.length : Int) := by omega
      go_wp2_with fail
      clear c4
      go_loopw [26] (fun u wr => ∃ k : Nat, k ≤ H.length ∧ u = .int .i64 (k : Int) ∧ Hid (LI N0 k1 xo yo p t l h G.length H.length X0 wr)) (fun u _ => H.length - (intOf u).toNat)
      case atStart => exact ⟨0, Nat.zero_le _, rfl, kI⟩
      case round =>
        clear kI
        obtain ⟨k, hk, rfl, kI⟩ := hrel
        obtain ⟨c4, c5, cfz⟩ := kI.out.cell
        by_cases hlt : k < H.length
        · have hlt' : (k : Int) < (H.length : Int) := by omega
          obtain ⟨b, rfl, ⟨v, hv⟩, hfz, hI2⟩ := kI.out.two hlt
          have kI2 := hid hI2
          clear hI2
          go_wp2_with fail
          go_roundw
          case rel => exact ⟨k + 1, by omega, by go_num, kI2⟩
          case measure => simp [intOf]; omega
        · obtain rfl : k = H.length := by omega
          have hlt' : ¬ (H.length : Int) < (H.length : Int) := by omega
          obtain ⟨G', eG, own, hq⟩ := kI.out.row hG
          have oA : Old wr (wr.alloc (.cells #[.int .i64 (-9)] 3)) := (Old.refl wr).alloc _
          have ownA := owns_keptI own oA
          have hO : NumsC .i64 (wr.alloc (.cells #[.int .i64 (-9)] 3)) (some ⟨wr.heap.size, 0, none⟩) [(-9 : Int)] := nums_of (L := [(-9 : Int)]) (heap_new wr (.cells #[.int .i64 (-9)] 3))
          have hlw := World.block_lt_of_cell? wr _ c4
          dsimp only at hlw
          have hlo := klo.out
          have hz : (wr.alloc (.cells #[.int .i64 (-9)] 3)).heap.size = wr.heap.size + 1 := alloc_size _ _
          have hB : N0 ≤ (wr.alloc (.cells #[.int .i64 (-9)] 3)).heap.size := by omega
          have kF1 : Hid (Frm (fun j => N0 ≤ j ∧ j ≤ k1) X0 (wr.alloc (.cells #[.int .i64 (-9)] 3))) := Frm.trans kI.out.f oA (fun _ _ h => h.elim)
          have kd4 := hid (oA.cell c4)
          have kfz := hid (frm_frozen oA (World.block_lt_of_cell? wr _ c4) (cfz 4) (fun h => h))
          have keG := hid eG
          have kq := hid hq
          clear oA own hlw hlo hz eG hq
          go_wp2_with (at_builtin; refine wpAppN (by rfl) _ _ (by rfl) N0 (.slice xo G.length G.length) ⟨wr.heap.size, 0, none⟩ 1 G' G.length keG.out (-9) (by rfl) (by rfl) ownA hO hG hB ?_)
          intro ao' n' cap' wg hn' g9
          have f9 : Frm (fun q => (Value.slice xo G.length G.length).ownBlock = some q) (wr.alloc (.cells #[.int .i64 (-9)] 3)) wg := Frm.grown (Frm.refl _ _) g9 (fun q hq => Or.inr hq)
          have e4 := frm_cell f9 kd4.out (fun e => by have := kq.out _ e; dsimp only at this; omega)
          have efz := frm_frozen f9 (World.block_lt_of_cell? _ _ kd4.out) kfz.out (fun e => by have := kq.out _ e; dsimp only at this; omega)
          have kF2 : Hid (Frm (fun j => N0 ≤ j ∧ j ≤ k1) X0 wg) := Frm.trans kF1.out f9 (fun j _ e => by have := kq.out j e; omega)
          have fS := frm_set wg k1 4 (.slice ao' n' cap')
          have kF3 : Hid (Frm (fun j => N0 ≤ j ∧ j ≤ k1) X0 (wg.setCell ⟨k1, 4, none⟩ (.slice ao' n' cap'))) := Frm.trans kF2.out fS (fun j _ e => by subst e; exact ⟨klo.out, Nat.le_refl _⟩)
          have kd := hid (kd.out.frm kF3.out (fun j e => by have := k12.out; omega))
          have ke := hid (ke.out.frm kF3.out (fun j e => by have := k13.out; omega))
          have s4 : (wg.setCell ⟨k1, 4, none⟩ (.slice ao' n' cap')).cell? ⟨k1, 4, none⟩ = some (.slice ao' n' cap') := set_same e4
          have qp := blk_cells (i := 0) (v := .int .i64 p) kd.out.box rfl
          have qt := blk_cells (i := 1) (v := .int .i64 t) kd.out.box rfl
          have ql := blk_cells (i := 2) (v := .int .i64 l) kd.out.box rfl
          have qh := blk_cells (i := 3) (v := .int .i64 h) kd.out.box rfl
          have qx := blk_cells (i := 4) (v := .slice xd G.length G.length) kd.out.box rfl
          have qy := blk_cells (i := 5) (v := .slice yd H.length H.length) kd.out.box rfl
          have rp := blk_cells (i := 0) (v := .int .i64 p) ke.out.box rfl
          have rt := blk_cells (i := 1) (v := .int .i64 t) ke.out.box rfl
          have rl := blk_cells (i := 2) (v := .int .i64 l) ke.out.box rfl
          have rh := blk_cells (i := 3) (v := .int .i64 h) ke.out.box rfl
          have rx := blk_cells (i := 4) (v := .slice xe G.length G.length) ke.out.box rfl
          have ry := blk_cells (i := 5) (v := .slice ye H.length H.length) ke.out.box rfl
          have hgt : (n' : Int) > 0 := by omega
          have kold : Hid (Old w (wg.setCell ⟨k1, 4, none⟩ (.slice ao' n' cap'))) := Frm.trans kold.out kF3.out (fun j hj e => by have := kN0.out; omega)
          clear g9 f9 fS kF1 kF2 kF3 kd4 kfz kq keG ownA hO hB c4 c5 cfz
          go_wp2_with fail
          refine (kS.out xd yd xe ye _ _ _ _ _ kd.out.r1.nums kd.out.r2.nums ke.out.r1.nums ke.out.r2.nums).mono ?_
          rintro e wh ⟨rfl, o9⟩
          have kold := hid (kold.out.trans o9)
          clear o9 qp qt ql qh qx qy rp rt rl rh rx ry s4 kd ke e4 efz
          go_wp2_with fail
          refine (kK.out wh).mono ?_
          rintro e wi ⟨rfl, o9⟩
          have kold := hid (kold.out.trans o9)
          clear o9
          go_wp2_with fail
          go_ret
          exact ⟨rfl, kold.out⟩

theorem clears_walk (ao bo : Option Addr) (ca cb : Nat) (L M : List Wt) (pr : Int) (w : World) (hL : WC w ao L) (hM : WC w bo M) (hna : ao = none → ca = 0) (hnb : bo = none → cb = 0) (h1 : L.length * 16 ≤ 140737488355312) (h2 : M.length * 16 ≤ 140737488355312) :
    Calls Try.prog 3 #[.slice ao L.length ca, .slice bo M.length cb, .int .i64 pr] w fun e w' => e = .returned (.bool true) ∧ Old w w' := by
  by_cases hg : grB L = true ∨ grB M = true
  · exact clears_great ao bo ca cb L M pr w (by omega) (by omega) hg
  · rw [not_or, Bool.not_eq_true, Bool.not_eq_true] at hg
    exact clears_main ao bo ca cb L M pr w hL hM hna hnb h1 h2 hg.1 hg.2
end Go.Proofs.Ytccbmmbcfcppeaa
