/- SealedSells, walked. -/
import Derived.Test.YtfmeobelpideoaaN16
import Derived.Test.YtfmeobelpideoaaN13
import Derived.Test.YtfmeobelpideoaaTruthW
namespace Go.Proofs.Ytfmeobelpideoaa
open Go.RowKit

theorem RV.nums {B : Nat} {w : World} {v : Value} {n : Nat} {f : Dat} (h : RV B w v n f) : ∃ ao cap, v = .slice ao n cap ∧ NumsC .i64 w ao (dl n f) ∧ ∀ a, ao = some a → B ≤ a.block := by
  rcases h.form with ⟨e, rfl⟩ | ⟨b, cap, e, hr, hb⟩
  · exact ⟨none, 0, e, fun i hi => by simp [dl] at hi, fun a e => by cases e⟩
  · exact ⟨_, cap, e, hr.nums, fun a e => by cases e; exact hb⟩
theorem dl_same {L : List Sec} {n : Nat} {f g : Dat} (rf : Re 0 n (fun t => t) f) (sf : Srt L f 0 n) (rg : Re 0 n (fun t => t) g) (sg : Srt L g 0 n) : dl n f = dl n g := by
  have key := srt_uniq sf sg (fun i hi => by
    obtain ⟨s, _, h2, e⟩ := rg.mem (Nat.zero_le i) hi
    obtain ⟨t, _, h4, e2⟩ := rf.sur (Nat.zero_le s) h2
    exact ⟨t, h4, by rw [e2, e]⟩) (fun i hi => by
    obtain ⟨s, _, h2, e⟩ := rf.mem (Nat.zero_le i) hi
    obtain ⟨t, _, h4, e2⟩ := rg.sur (Nat.zero_le s) h2
    exact ⟨t, h4, by rw [e2, e]⟩)
  unfold dl
  apply List.map_congr_left
  intro t ht
  rw [key t (List.mem_range.1 ht)]
theorem NumsC.frm {S : Nat → Prop} {k : IntKind} {w w' : World} {ao : Option Addr} {L : List Int} (h : NumsC k w ao L) (f : Frm S w w') (hS : ∀ a, ao = some a → ¬ S a.block) : NumsC k w' ao L := fun i hi => by
  obtain ⟨g, o, e, hc⟩ := h i hi
  exact ⟨g, o, e, frm_cell f hc (hS ⟨g, o, none⟩ e)⟩

set_option maxRecDepth 100000 in
set_option maxHeartbeats 16000000 in
theorem sells_walk (fl : Int) (ao : Option Addr) (cap : Nat) (L : List Sec) (w : World) (hS : SecC w ao L) (hn : ao = none → cap = 0) :
    Calls Try.prog 3 #[.int .i64 fl, .slice ao L.length cap] w fun e w' => e = .returned (.bool true) ∧ Old w w' := by
  have kW := hid works_any
  by_cases hl : L.length > 300
  · have hl' : (L.length : Int) > 300 := by omega
    go_enter Try.func3, Try.ntmps3
    go_wp2_with fail
    refine (kW.out _).mono ?_
    rintro e w2 ⟨rfl, o2⟩
    have ko := hid o2
    clear o2
    go_wp2_with fail
    go_ret
    exact ⟨rfl, ko.out⟩
  · have hl' : ¬ (L.length : Int) > 300 := by omega
    have hl3 : L.length ≤ 300 := by omega
    have kh := hid hS
    have kL := hid (lent_any ao cap L w hS hn hl3)
    have kN := hid num_any
    clear hS
    go_enter Try.func3, Try.ntmps3
    go_wp2_with fail
    refine kL.out.mono ?_
    rintro e w1 ⟨b1, c1, rfl, hc1, own1, o1, hb1⟩
    have kown := hid own1
    have k1 := hid o1
    have kS1 := hid (sell_any fl (some ⟨b1, 0, none⟩) c1 L w1 own1.front.off (by omega))
    obtain ⟨q, x1, x2, x3, hv, -, -⟩ := sold_form (seO fl L)
    obtain ⟨ez, hez⟩ : ∃ ez, erZ fl L = ez := ⟨_, rfl⟩
    rw [hv, hez] at kS1
    clear own1 o1 kL
    go_wp2_with fail
    refine kS1.out.mono ?_
    rintro e w2 ⟨rfl, o2⟩
    have k2 := hid (o2.alloc (.cells #[.bool q, .int .i64 x1, .int .i64 x2, .int .i64 x3] 26))
    have kA2 : Hid ((w2.alloc (.cells #[.bool q, .int .i64 x1, .int .i64 x2, .int .i64 x3] 26)).heap[w2.heap.size]? = some (.cells #[.bool q, .int .i64 x1, .int .i64 x2, .int .i64 x3] 26)) := heap_new _ _
    have kR2 := hid (rsell_any fl ao cap L _ (kh.out.old (k1.out.trans k2.out)) (by omega))
    rw [hv, hez] at kR2
    clear o2 kS1
    go_upto_region 5 with fail
    generalize hp6 : w2.heap.size = p6 at *
    generalize hw3 : w2.alloc (.cells #[.bool q, .int .i64 x1, .int .i64 x2, .int .i64 x3] 26) = w3 at *
    go_wp2_with fail
    refine kR2.out.mono ?_
    rintro e w4 ⟨rfl, o4⟩
    have k4 := hid (o4.alloc (.cells #[.bool q, .int .i64 x1, .int .i64 x2, .int .i64 x3] 26))
    have kA4 : Hid ((w4.alloc (.cells #[.bool q, .int .i64 x1, .int .i64 x2, .int .i64 x3] 26)).heap[w4.heap.size]? = some (.cells #[.bool q, .int .i64 x1, .int .i64 x2, .int .i64 x3] 26)) := heap_new _ _
    clear o4 kR2 hp6 hw3
    go_upto_region 6 with fail
    generalize hp8 : w4.heap.size = p8 at *
    generalize hw5 : w4.alloc (.cells #[.bool q, .int .i64 x1, .int .i64 x2, .int .i64 x3] 26) = w5 at *
    clear hp8 hw5
    have k5 := hid (k2.out.trans k4.out)
    have own5 := kown.out.old k5.out
    have kO5 := hid (order_any (some ⟨b1, 0, none⟩) c1 L w5 own5.front.off hl3 (fun a e => by cases e; exact own5.lt))
    clear own5
    go_wp2_with fail
    refine kO5.out.mono ?_
    rintro e w6 ⟨ba, ga, rfl, owa, rea, sra, o6, hba⟩
    have k6 := hid (k5.out.trans o6)
    have own6 := kown.out.old k6.out
    have kO6 := hid (order_any (some ⟨b1, 0, none⟩) c1 L w6 own6.front.off hl3 (fun a e => by cases e; exact own6.lt))
    have kow := hid owa
    have kra := hid (show Re 0 L.length (fun t => t) ga ∧ Srt L ga 0 L.length from ⟨rea, sra⟩)
    have ko6 := hid o6
    clear own6 owa rea sra o6 kO5
    go_wp2_with fail
    refine kO6.out.mono ?_
    rintro e w7 ⟨bb7, gb, rfl, owb, reb, srb, o7, hbb⟩
    have k7 := hid (k6.out.trans o7)
    have kob := hid owb
    have krb := hid (show Re 0 L.length (fun t => t) gb ∧ Srt L gb 0 L.length from ⟨reb, srb⟩)
    have ko7 := hid (ko6.out.trans o7)
    have kow7 := hid (kow.out.kept o7 (fun h => h))
    have hab : ba ≠ bb7 := fun e => by have := kow.out.lt; omega
    clear owb reb srb o7 kO6
    have kO7 := hid (rorder_any ao cap L w7 (kh.out.old (k1.out.trans k7.out)) hl3)
    go_wp2_with fail
    refine kO7.out.mono ?_
    rintro e w8 ⟨v8, gw, rfl, hOI⟩
    obtain ⟨aw, cw, rfl, nw, hbw⟩ := hOI.row.nums
    have k8 := hid (k7.out.trans hOI.old)
    have kea : Hid (dl L.length ga = dl L.length gw) := dl_same kra.out.1 kra.out.2 hOI.re hOI.srt
    have keb : Hid (dl L.length gb = dl L.length gw) := dl_same krb.out.1 krb.out.2 hOI.re hOI.srt
    have kna : Hid (Own .i64 3 w8 ba (dl L.length gw)) := by have := kow7.out.kept hOI.old (fun h => h); rw [kea.out] at this; exact this
    have knb : Hid (Own .i64 3 w8 bb7 (dl L.length gw)) := by have := kob.out.kept hOI.old (fun h => h); rw [keb.out] at this; exact this
    have hA6 := (k4.out.trans (ko7.out.trans hOI.old)).block p6 (blk_lt kA2.out) (fun h => h)
    rw [kA2.out] at hA6
    have hA8 := (ko7.out.trans hOI.old).block p8 (blk_lt kA4.out) (fun h => h)
    rw [kA4.out] at hA8
    have a0 := blk_cells (i := 0) hA6 rfl
    have a1 := blk_cells (i := 1) hA6 rfl
    have a2 := blk_cells (i := 2) hA6 rfl
    have a3 := blk_cells (i := 3) hA6 rfl
    have d0 := blk_cells (i := 0) hA8 rfl
    have d1 := blk_cells (i := 1) hA8 rfl
    have d2 := blk_cells (i := 2) hA8 rfl
    have d3 := blk_cells (i := 3) hA8 rfl
    have kI := hid (ints_any (some ⟨ba, 0, none⟩) aw L.length cw (dl L.length gw) w8 kna.out.nums nw (by rw [dl_len]; omega))
    rw [dl_len] at kI
    have knw := hid nw
    have kbw : Hid (∀ a, aw = some a → a.block ≠ ba ∧ a.block ≠ bb7) := fun a e => by
      have h1 := hbw a e
      have h2 := kob.out.lt
      have h3 := kow7.out.lt
      omega
    have hb0 : (q != q) = false := by simp
    have hb1' : (x1 != x1) = false := by simp
    have hb2' : (x2 != x2) = false := by simp
    have hb3' : (x3 != x3) = false := by simp
    have hbz : (ez != ez) = false := by simp
    clear hOI nw hbw hA6 hA8 kO7
    go_wp2_with (first | (go_at_call 12; refine (kN.out _ _).mono ?_; rintro e w' ⟨rfl, e2⟩; rw [e2]; clear e2))
    refine kI.out.mono ?_
    rintro e w9 ⟨rfl, o9⟩
    have k9 := hid (k8.out.trans o9)
    have ko9 := hid o9
    have kSm := hid (same_any (some ⟨b1, 0, none⟩) ao c1 cap L w9 (kown.out.old k9.out).front.off (kh.out.old (k1.out.trans k9.out)) (by omega))
    clear o9 kI a0 a1 a2 a3 d0 d1 d2 d3
    go_wp2_with fail
    refine kSm.out.mono ?_
    rintro e wA ⟨rfl, oA⟩
    have kA := hid (k9.out.trans oA)
    have koA := hid (ko9.out.trans oA)
    obtain ⟨m1, -⟩ := (kown.out.old kA.out).cell L.length (by simp)
    have hmk : (L ++ [((-77 : Int), (0 : Int))])[L.length]'(by simp) = (-77, 0) := by simp
    rw [hmk] at m1
    have m1' : wA.cell? ⟨b1, L.length * 2, none⟩ = some (.int .i64 (-77)) := m1
    have hs1 : (0 : Int) ≤ (L.length : Int) + 1 := by omega
    have hs2 : (L.length : Int) + 1 ≤ (c1 : Int) := by omega
    have hs3 : L.length + 1 ≤ c1 := hc1
    have hs4 : (L.length : Int) < (L.length : Int) + 1 := by omega
    have kst : Hid (Own .i64 3 wA ba (dl L.length gw) ∧ Own .i64 3 wA bb7 (dl L.length gw) ∧ NumsC .i64 wA aw (dl L.length gw)) := ⟨kna.out.kept koA.out (fun h => h), knb.out.kept koA.out (fun h => h), knw.out.old koA.out⟩
    have kold := hid (k1.out.trans kA.out)
    have hbaw : Hid (w.heap.size ≤ ba) := by show _ ≤ _; have := k1.out.size; have := k5.out.size; omega
    clear m1 hmk oA kSm
    go_wp2_with fail
    go_loopw [13] (fun t wx => ∃ i : Nat, i ≤ L.length ∧ t = .int .i64 (i : Int) ∧ Hid ((∃ Z : List Int, Z.length = L.length ∧ Own .i64 3 wx ba Z) ∧ Own .i64 3 wx bb7 (dl L.length gw) ∧ NumsC .i64 wx aw (dl L.length gw) ∧ Old w wx)) (fun t _ => L.length - (intOf t).toNat)
    case atStart => exact ⟨0, Nat.zero_le _, rfl, ⟨⟨_, dl_len _ _, kst.out.1⟩, kst.out.2.1, kst.out.2.2, kold.out⟩⟩
    case round =>
      clear kst kold kA koA m1' k9 ko9
      obtain ⟨i, hi, rfl, hg⟩ := hrel
      obtain ⟨⟨Z, hZ, g1⟩, g2, g3, g4⟩ := hg.out
      by_cases hlt : i < L.length
      · have hlt2 : (i : Int) < (L.length : Int) := by omega
        obtain ⟨e1, e2⟩ := g1.cell (i := i) (by omega)
        have knx : Hid (∀ wx, wx = wr.setCell ⟨ba, i, none⟩ (.int .i64 (-5)) → (∃ Z : List Int, Z.length = L.length ∧ Own .i64 3 wx ba Z) ∧ Own .i64 3 wx bb7 (dl L.length gw) ∧ NumsC .i64 wx aw (dl L.length gw) ∧ Old w wx) := fun wx e => by
          rw [e]
          have f := frm_set wr ba i (.int .i64 (-5))
          exact ⟨⟨Z.set i (-5), by rw [List.length_set]; exact hZ, g1.set i (-5)⟩, g2.kept f (fun e => hab e.symm), g3.frm f (fun a e => (kbw.out a e).1), Frm.trans g4 f (fun j hj e => by have := hbaw.out; omega)⟩
        generalize Z[i] = z0 at *
        clear hg g1 g2 g3 g4 hZ
        go_wp2_with fail
        go_roundw
        case rel => exact ⟨i + 1, by omega, by go_num, knx.out _ rfl⟩
        case measure => simp [intOf]; omega
      · obtain rfl : i = L.length := by omega
        have hlt2 : ¬ (L.length : Int) < (L.length : Int) := by omega
        have kI := hid (ints_any (some ⟨bb7, 0, none⟩) aw L.length cw (dl L.length gw) wr g2.nums g3 (by rw [dl_len]; omega))
        rw [dl_len] at kI
        have k10 := hid g4
        clear hg g1 g2 g3 g4 hZ
        go_wp2_with fail
        refine kI.out.mono ?_
        rintro e wB ⟨rfl, oB⟩
        have kB := hid (k10.out.trans oB)
        clear oB kI
        go_wp2_with fail
        refine (kW.out wB).mono ?_
        rintro e wC ⟨rfl, oC⟩
        have kC := hid (kB.out.trans oC)
        clear oC
        go_wp2_with fail
        go_ret
        exact ⟨rfl, kC.out⟩
end Go.Proofs.Ytfmeobelpideoaa
