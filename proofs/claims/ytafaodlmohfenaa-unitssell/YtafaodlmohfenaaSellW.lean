/- UnitsSell, walked. -/
import Derived.Test.YtafaodlmohfenaaR4
import Derived.Test.YtafaodlmohfenaaW1
namespace Go.Proofs.Ytafaodlmohfenaa
open Go.RowKit

theorem seL_len (count fl : Int) (B : List (List Int)) : (seL count fl B).length ≤ B.length := by
  unfold seL
  split
  · rw [wonL_len]; exact Nat.le_refl _
  · simp
theorem seL_in {count fl : Int} {B : List (List Int)} {i : Nat} (h : i < (seL count fl B).length) : i < B.length := by have := seL_len count fl B; omega
theorem seL_ct {count fl : Int} {B : List (List Int)} (hf : Few B) {i : Nat} (h : i < (seL count fl B).length) : 0 ≤ ct (seL count fl B) i ∧ ct (seL count fl B) i ≤ 4096 := by
  unfold seL at h ⊢
  split
  · rename_i h0
    rw [if_pos h0, wonL_len] at h
    rw [ct_eq (by rw [wonL_len]; exact h), wonL_at h]
    have h1 := won_le B count.toNat h
    have h2 := hf.row i h
    omega
  · rename_i h0
    rw [if_neg h0] at h
    simp at h
theorem seP_co {count fl : Int} {B : List (List Int)} (hf : Few B) : 0 ≤ seP count fl B ∧ seP count fl B ≤ 1099511627776 := by
  unfold seP
  split
  · rename_i h0
    exact price_co (ok_of h0 hf) _
  · omega

/-- Three sales: what is told twice, and the document's. -/
structure QT (w : World) (N1 N2 s b1 b2 b3 : Nat) (count fl : Int) (ao : Option Addr) (cp : Nat) (B : List (List Int)) (p x : Int) (wo1 wo2 wo3 : Option Addr) (L : List Int) (W : World) : Prop where
  a0 : W.cell? ⟨s, 0, none⟩ = some (.int .i64 count)
  a1 : W.cell? ⟨s, 1, none⟩ = some (.int .i64 fl)
  a2 : W.cell? ⟨s, 2, none⟩ = some (.slice ao B.length cp)
  bids : BidsC W ao B
  s0 : W.cell? ⟨b1, 0, none⟩ = some (.int .i64 p)
  s1 : W.cell? ⟨b1, 1, none⟩ = some (.slice wo1 L.length L.length)
  s2 : W.cell? ⟨b1, 2, none⟩ = some (.int .i64 x)
  own : 0 < L.length → ∃ b, wo1 = some ⟨b, 0, none⟩ ∧ N1 ≤ b ∧ b < N2 ∧ Own .i64 3 W b L
  t0 : W.cell? ⟨b2, 0, none⟩ = some (.int .i64 p)
  t1 : W.cell? ⟨b2, 1, none⟩ = some (.slice wo2 L.length L.length)
  t2 : W.cell? ⟨b2, 2, none⟩ = some (.int .i64 x)
  tw : 0 < L.length → ∃ b, wo2 = some ⟨b, 0, none⟩ ∧ N2 ≤ b ∧ Own .i64 3 W b L
  u0 : W.cell? ⟨b3, 0, none⟩ = some (.int .i64 p)
  u1 : W.cell? ⟨b3, 1, none⟩ = some (.slice wo3 L.length L.length)
  u2 : W.cell? ⟨b3, 2, none⟩ = some (.int .i64 x)
  uw : 0 < L.length → ∃ b, wo3 = some ⟨b, 0, none⟩ ∧ N2 ≤ b ∧ Own .i64 3 W b L
  old : Old w W
  lt : w.heap.size ≤ N1 ∧ N2 ≤ b1 ∧ N2 ≤ b2 ∧ N2 ≤ b3
theorem QT.go {w : World} {N1 N2 s b1 b2 b3 : Nat} {count fl : Int} {ao : Option Addr} {cp : Nat} {B : List (List Int)} {p x : Int} {wo1 wo2 wo3 : Option Addr} {L : List Int} {W W' : World} (h : QT w N1 N2 s b1 b2 b3 count fl ao cp B p x wo1 wo2 wo3 L W) (o : Old W W') : QT w N1 N2 s b1 b2 b3 count fl ao cp B p x wo1 wo2 wo3 L W' :=
  ⟨o.cell h.a0, o.cell h.a1, o.cell h.a2, h.bids.old o, o.cell h.s0, o.cell h.s1, o.cell h.s2, fun hl => by obtain ⟨b, e, e1, e2, e3⟩ := h.own hl; exact ⟨b, e, e1, e2, e3.kept o (fun h => h)⟩,
    o.cell h.t0, o.cell h.t1, o.cell h.t2, fun hl => by obtain ⟨b, e, e1, e3⟩ := h.tw hl; exact ⟨b, e, e1, e3.kept o (fun h => h)⟩,
    o.cell h.u0, o.cell h.u1, o.cell h.u2, fun hl => by obtain ⟨b, e, e1, e3⟩ := h.uw hl; exact ⟨b, e, e1, e3.kept o (fun h => h)⟩, h.old.trans o, h.lt⟩
theorem nums_of_own {w : World} {ao : Option Addr} {L : List Int} {P : Nat → Prop} (h : 0 < L.length → ∃ b, ao = some ⟨b, 0, none⟩ ∧ P b ∧ Own .i64 3 w b L) : NumsC .i64 w ao L := fun i hi => by
  obtain ⟨b, rfl, -, ho⟩ := h (by omega)
  exact ho.nums i hi
theorem QT.n1 {w : World} {N1 N2 s b1 b2 b3 : Nat} {count fl : Int} {ao : Option Addr} {cp : Nat} {B : List (List Int)} {p x : Int} {wo1 wo2 wo3 : Option Addr} {L : List Int} {W : World} (h : QT w N1 N2 s b1 b2 b3 count fl ao cp B p x wo1 wo2 wo3 L W) : NumsC .i64 W wo1 L := fun i hi => by
  obtain ⟨b, rfl, -, -, ho⟩ := h.own (by omega)
  exact ho.nums i hi
/-- While the first one is written over. -/
structure QS (w : World) (N1 N2 b1 b2 b3 : Nat) (p x : Int) (wo1 wo2 wo3 : Option Addr) (L : List Int) (W : World) : Prop where
  s1 : W.cell? ⟨b1, 1, none⟩ = some (.slice wo1 L.length L.length)
  own : ∃ M : List Int, M.length = L.length ∧ (0 < L.length → ∃ b, wo1 = some ⟨b, 0, none⟩ ∧ N1 ≤ b ∧ b < N2 ∧ Own .i64 3 W b M)
  t0 : W.cell? ⟨b2, 0, none⟩ = some (.int .i64 p)
  t1 : W.cell? ⟨b2, 1, none⟩ = some (.slice wo2 L.length L.length)
  t2 : W.cell? ⟨b2, 2, none⟩ = some (.int .i64 x)
  tw : 0 < L.length → ∃ b, wo2 = some ⟨b, 0, none⟩ ∧ N2 ≤ b ∧ Own .i64 3 W b L
  u0 : W.cell? ⟨b3, 0, none⟩ = some (.int .i64 p)
  u1 : W.cell? ⟨b3, 1, none⟩ = some (.slice wo3 L.length L.length)
  u2 : W.cell? ⟨b3, 2, none⟩ = some (.int .i64 x)
  uw : 0 < L.length → ∃ b, wo3 = some ⟨b, 0, none⟩ ∧ N2 ≤ b ∧ Own .i64 3 W b L
  old : Old w W
  lt : w.heap.size ≤ N1 ∧ N2 ≤ b1 ∧ N2 ≤ b2 ∧ N2 ≤ b3
theorem QT.qs {w : World} {N1 N2 s b1 b2 b3 : Nat} {count fl : Int} {ao : Option Addr} {cp : Nat} {B : List (List Int)} {p x : Int} {wo1 wo2 wo3 : Option Addr} {L : List Int} {W : World} (h : QT w N1 N2 s b1 b2 b3 count fl ao cp B p x wo1 wo2 wo3 L W) : QS w N1 N2 b1 b2 b3 p x wo1 wo2 wo3 L W :=
  ⟨h.s1, ⟨L, rfl, h.own⟩, h.t0, h.t1, h.t2, h.tw, h.u0, h.u1, h.u2, h.uw, h.old, h.lt⟩
theorem QS.set {w : World} {N1 N2 b1 b2 b3 : Nat} {p x : Int} {b : Nat} {wo2 wo3 : Option Addr} {L : List Int} {W : World} (h : QS w N1 N2 b1 b2 b3 p x (some ⟨b, 0, none⟩) wo2 wo3 L W) (hl : 0 < L.length) (i : Nat) (y : Int) : QS w N1 N2 b1 b2 b3 p x (some ⟨b, 0, none⟩) wo2 wo3 L (W.setCell ⟨b, i, none⟩ (.int .i64 y)) := by
  have f := frm_set W b i (.int .i64 y)
  obtain ⟨M, hM, ho⟩ := h.own
  obtain ⟨b', e, h1, h2, h3⟩ := ho hl
  simp only [Option.some.injEq, Addr.mk.injEq, and_true] at e
  subst e
  have hlt := h.lt
  exact ⟨frm_cell f h.s1 (by show b1 ≠ b; omega), ⟨M.set i y, by rw [List.length_set]; exact hM, fun _ => ⟨b, rfl, h1, h2, h3.set i y⟩⟩,
    frm_cell f h.t0 (by show b2 ≠ b; omega), frm_cell f h.t1 (by show b2 ≠ b; omega), frm_cell f h.t2 (by show b2 ≠ b; omega), fun hl => by obtain ⟨c, e, e1, e3⟩ := h.tw hl; exact ⟨c, e, e1, e3.kept f (by omega)⟩,
    frm_cell f h.u0 (by show b3 ≠ b; omega), frm_cell f h.u1 (by show b3 ≠ b; omega), frm_cell f h.u2 (by show b3 ≠ b; omega), fun hl => by obtain ⟨c, e, e1, e3⟩ := h.uw hl; exact ⟨c, e, e1, e3.kept f (by omega)⟩, Frm.trans h.old f (fun i hi e => by omega), h.lt⟩




set_option maxRecDepth 100000 in
set_option maxHeartbeats 16000000 in
theorem sell_walk (count fl : Int) (ao : Option Addr) (cp : Nat) (B : List (List Int)) (bid : Int) (w : World) (hV : BidsV w ao B) (hl : B.length ≤ 9223372036854775807) (hr : ∀ i, i < B.length → (bd B i).length ≤ 9223372036854775807) :
    Calls Try.prog 3 #[askV count fl ao B.length cp, .int .i64 bid] w fun e w' => e = .returned (.bool true) ∧ Old w w' := by
  have o1 : Old w (w.alloc (.cells #[.int .i64 count, .int .i64 fl, .slice ao B.length cp] 24)) := (Old.refl w).alloc _
  have kL := hid (long_any count fl ao cp B _ (hV.old o1).bids hl hr)
  have c0 := new_cell w #[.int .i64 count, .int .i64 fl, .slice ao B.length cp] 24 0 (.int .i64 count) rfl
  have c1 := new_cell w #[.int .i64 count, .int .i64 fl, .slice ao B.length cp] 24 1 (.int .i64 fl) rfl
  have c2 := new_cell w #[.int .i64 count, .int .i64 fl, .slice ao B.length cp] 24 2 (.slice ao B.length cp) rfl
  have kV := hid (hV.old o1)
  have kK := hid known_any
  have ko := hid o1
  clear o1 hV hr
  unfold askV at kL ⊢
  go_enter Try.func3, Try.ntmps3
  go_wp2_with fail
  generalize w.alloc (.cells #[.int .i64 count, .int .i64 fl, .slice ao B.length cp] 24) = w1 at *
  generalize hws : w.heap.size = s at *
  have kws := hid hws
  clear hws
  cases hlg : lgB B
  · rw [hlg] at kL
    have hfw := few_lg hlg
    obtain ⟨h40, h100⟩ := few_of hlg
    refine kL.out.mono ?_
    rintro e w2 ⟨rfl, o2⟩
    replace c0 := o2.cell c0
    replace c1 := o2.cell c1
    replace c2 := o2.cell c2
    have kV2 := hid (kV.out.old o2)
    have ko2 := hid (ko.out.trans o2)
    have kLe := hid (lent_any ao cp B w2 kV2.out (by omega) (fun i hi => by have := h100 i hi; omega))
    have kh := hid h100
    have kF := hid hfw
    clear kV ko kL o2 hlg hfw h100 hl
    go_wp2_with fail
    refine kLe.out.mono ?_
    rintro e w3 ⟨v, rfl, hM, o3⟩
    replace c0 := o3.cell c0
    replace c1 := o3.cell c1
    replace c2 := o3.cell c2
    have kV3 := hid (kV2.out.old o3).bids
    have ko3 := hid (ko2.out.trans o3)
    obtain ⟨g, c, rfl, -⟩ := hM.at
    have kM := hid hM
    have kS1 := hid (sell_any count fl (some ⟨g, 0, none⟩) c B w3 hM.bids kF.out)
    clear kV2 ko2 kLe o3 hM
    go_wp2_with fail
    refine kS1.out.mono ?_
    rintro e w4 ⟨⟨wo1, rfl, hw1⟩, o4⟩
    replace c0 := o4.cell c0
    replace c1 := o4.cell c1
    replace c2 := o4.cell c2
    have z4 := cell_lt c0
    have kV4 := hid (kV3.out.old o4)
    have ko4 := hid (ko3.out.trans o4)
    have kM4 := hid (kM.out.old o4)
    have hN12 := hid o4.size
    have hw3 := hid ko3.out.size
    have kw1 := hid hw1
    have kw1lt : Hid (∀ b, 0 < (seL count fl B).length → wo1 = some ⟨b, 0, none⟩ → w3.heap.size ≤ b ∧ b < w4.heap.size) := fun b hl e => by
      obtain ⟨b', e', h1, h2⟩ := hw1 hl
      rw [e'] at e
      simp only [Option.some.injEq, Addr.mk.injEq, and_true] at e
      subst e
      exact ⟨h1, h2.lt⟩
    have kSe := hid (fun W (h : Old w4 W) => sell_any count fl (some ⟨g, 0, none⟩) c B W (kM4.out.old h).bids kF.out)
    have kRs := hid (fun W (h : Old w4 W) => rsell_any count fl ao cp B W (kV4.out.old h) h40 kh.out)
    have kPc := hid (seP_co (count := count) (fl := fl) kF.out)
    have kLc := hid (fun i => seL_ct (count := count) (fl := fl) kF.out (i := i))
    have kL40 : Hid ((seL count fl B).length ≤ 4096) := by have := seL_len count fl B; show _ ≤ _; omega
    have kLin := hid (fun i => seL_in (count := count) (fl := fl) (B := B) (i := i))
    generalize seL count fl B = L at *
    generalize seP count fl B = p at *
    generalize seX count fl B = x at *
    generalize rfZ count fl B = z at *
    unfold saleV
    clear kS1 kV3 ko3 kM o4 hw1
    go_wp2_with fail
    have oA : Old w4 (w4.alloc (.cells #[.int .i64 p, .slice wo1 L.length L.length, .int .i64 x] 30)) := (Old.refl w4).alloc _
    have s0 := new_cell w4 #[.int .i64 p, .slice wo1 L.length L.length, .int .i64 x] 30 0 (.int .i64 p) rfl
    have s1 := new_cell w4 #[.int .i64 p, .slice wo1 L.length L.length, .int .i64 x] 30 1 (.slice wo1 L.length L.length) rfl
    have s2 := new_cell w4 #[.int .i64 p, .slice wo1 L.length L.length, .int .i64 x] 30 2 (.int .i64 x) rfl
    replace c0 := oA.cell c0
    replace c1 := oA.cell c1
    replace c2 := oA.cell c2
    have koA := hid oA
    generalize w4.alloc (.cells #[.int .i64 p, .slice wo1 L.length L.length, .int .i64 x] 30) = w5 at *
    obtain ⟨b1, hb1⟩ : ∃ b1, w4.heap.size = b1 := ⟨_, rfl⟩
    have kb1 := hid hb1
    rw [hb1] at s0 s1 s2 ⊢
    clear oA hb1 z4
    refine (kSe.out w5 koA.out).mono ?_
    rintro e w6 ⟨⟨wo2, rfl, hw2⟩, o6⟩
    replace c0 := o6.cell c0
    replace c1 := o6.cell c1
    replace c2 := o6.cell c2
    replace s0 := o6.cell s0
    replace s1 := o6.cell s1
    replace s2 := o6.cell s2
    have z6 := cell_lt c0
    have z61 := cell_lt s0
    have ko6 := hid (koA.out.trans o6)
    have kw2 := hid hw2
    have h45 := hid koA.out.size
    unfold saleV
    clear o6 hw2 koA
    go_wp2_with fail
    have oA : Old w6 (w6.alloc (.cells #[.int .i64 p, .slice wo2 L.length L.length, .int .i64 x] 30)) := (Old.refl w6).alloc _
    have t0 := new_cell w6 #[.int .i64 p, .slice wo2 L.length L.length, .int .i64 x] 30 0 (.int .i64 p) rfl
    have t1 := new_cell w6 #[.int .i64 p, .slice wo2 L.length L.length, .int .i64 x] 30 1 (.slice wo2 L.length L.length) rfl
    have t2 := new_cell w6 #[.int .i64 p, .slice wo2 L.length L.length, .int .i64 x] 30 2 (.int .i64 x) rfl
    replace c0 := oA.cell c0
    replace c1 := oA.cell c1
    replace c2 := oA.cell c2
    replace s0 := oA.cell s0
    replace s1 := oA.cell s1
    replace s2 := oA.cell s2
    have kw2 := hid (kw2.out.old oA)
    have ko7 := hid (ko6.out.trans oA)
    generalize w6.alloc (.cells #[.int .i64 p, .slice wo2 L.length L.length, .int .i64 x] 30) = w7 at *
    obtain ⟨b2, hb2⟩ : ∃ b2, w6.heap.size = b2 := ⟨_, rfl⟩
    have kb2 : Hid (w4.heap.size ≤ b2) := by show _ ≤ _; rw [← hb2]; exact ko6.out.size
    rw [hb2] at t0 t1 t2 ⊢
    clear oA hb2 z6 z61 ko6
    refine (kRs.out w7 ko7.out).mono ?_
    rintro e w8 ⟨⟨wo3, rfl, hw3'⟩, o8⟩
    replace c0 := o8.cell c0
    replace c1 := o8.cell c1
    replace c2 := o8.cell c2
    replace s0 := o8.cell s0
    replace s1 := o8.cell s1
    replace s2 := o8.cell s2
    replace t0 := o8.cell t0
    replace t1 := o8.cell t1
    replace t2 := o8.cell t2
    have z8 := cell_lt c0
    have z81 := cell_lt s0
    have z82 := cell_lt t0
    have ko8 := hid (ko7.out.trans o8)
    have kw2 := hid (kw2.out.old o8)
    have kw3 := hid hw3'
    have h47 := hid ko7.out.size
    unfold saleV
    clear o8 hw3' ko7
    have hzz : (z != z) = false := by simp
    have u0 := new_cell w8 #[.int .i64 p, .slice wo3 L.length L.length, .int .i64 x] 30 0 (.int .i64 p) rfl
    have u1 := new_cell w8 #[.int .i64 p, .slice wo3 L.length L.length, .int .i64 x] 30 1 (.slice wo3 L.length L.length) rfl
    have u2 := new_cell w8 #[.int .i64 p, .slice wo3 L.length L.length, .int .i64 x] 30 2 (.int .i64 x) rfl
    go_wp2_with fail
    have hQT : Hid (QT w w3.heap.size w4.heap.size s b1 b2 w8.heap.size count fl ao cp B p x wo1 wo2 wo3 L (w8.alloc (.cells #[.int .i64 p, .slice wo3 L.length L.length, .int .i64 x] 30))) := by
      have oA : Old w8 (w8.alloc (.cells #[.int .i64 p, .slice wo3 L.length L.length, .int .i64 x] 30)) := (Old.refl w8).alloc _
      have oB := ko8.out.trans oA
      refine ⟨oA.cell c0, oA.cell c1, oA.cell c2, kV4.out.old oB, oA.cell s0, oA.cell s1, oA.cell s2, fun hl => ?_, oA.cell t0, oA.cell t1, oA.cell t2, fun hl => ?_, u0, u1, u2, fun hl => ?_, ko4.out.trans oB, hw3.out, ?_, kb2.out, ko8.out.size⟩
      · obtain ⟨b, e, -, h2⟩ := kw1.out hl
        obtain ⟨l1, l2⟩ := kw1lt.out b hl e
        exact ⟨b, e, l1, l2, h2.kept oB (fun h => h)⟩
      · obtain ⟨b, e, h1, h2⟩ := kw2.out hl
        exact ⟨b, e, Nat.le_trans h45.out h1, h2.kept oA (fun h => h)⟩
      · obtain ⟨b, e, h1, h2⟩ := kw3.out hl
        exact ⟨b, e, Nat.le_trans h47.out h1, h2.kept oA (fun h => h)⟩
      · rw [kb1.out]; exact Nat.le_refl _
    have ko9 := hid (ko8.out.alloc (.cells #[.int .i64 p, .slice wo3 L.length L.length, .int .i64 x] 30))
    generalize w8.alloc (.cells #[.int .i64 p, .slice wo3 L.length L.length, .int .i64 x] 30) = w9 at *
    generalize w8.heap.size = b3 at *
    generalize w3.heap.size = N1 at *
    generalize w4.heap.size = N2 at *
    clear c0 c1 c2 s0 s1 s2 t0 t1 t2 u0 u1 u2 z8 z81 z82 kw1 kw1lt kw2 kw3 ko8 h45 h47 kb1 kb2 kV4 ko4 hN12 hw3 kSe kRs hzz
    refine (same_any p x wo1 wo3 L.length L.length L w9 hQT.out.n1 (nums_of_own hQT.out.uw) kL40.out).mono ?_
    rintro e w10 ⟨rfl, o10⟩
    have hQ1 := hid (hQT.out.go o10)
    have ko10 := hid (ko9.out.trans o10)
    have a2 := hQ1.out.a2
    clear o10 ko9 hQT
    go_wp2_with fail
    refine (kept_any w2.heap.size (.slice (some ⟨g, 0, none⟩) B.length c) ao cp B w10 (kM4.out.old ko10.out) hQ1.out.bids (by omega) (fun i hi => by have := kh.out i hi; omega)).mono ?_
    rintro e w11 ⟨rfl, q11, e11⟩
    have o11 : Old w10 w11 := by rw [e11]; exact (Old.refl w10).drewN q11
    have hQ2 := hid (hQ1.out.go o11)
    have s0 := hQ2.out.s0
    have s1 := hQ2.out.s1
    have s2 := hQ2.out.s2
    clear o11 e11 hQ1 ko10 kM4 a2
    have kSp := hid (spent_any p x wo1 L bid w11 hQ2.out.n1 kPc.out kLc.out)
    unfold saleV at kSp
    go_wp2_with fail
    refine kSp.out.mono ?_
    rintro e w12 ⟨rfl, o12⟩
    have hQ3 := hid (hQ2.out.go o12)
    have u1 := hQ3.out.u1
    clear o12 hQ2 s0 s1 s2 kSp
    by_cases hb0 : bid < 0
    · have ke : spC p L bid = 0 ∧ spE L bid = 4 := by unfold spC spE; rw [if_neg (by omega), if_neg (by omega)]; exact ⟨rfl, rfl⟩
      rw [ke.1, ke.2]
      clear ke
      go_wp2_with fail
      clear u1
      have hL40 := kL40.out
      have hQS := hid hQ3.out.qs
      clear hQ3
      have q1 := hQS.out.s1
      go_wp2_with fail
      clear q1
      go_loopw [14] (fun t wr => ∃ k : Nat, k ≤ L.length ∧ t = .int .i64 (k : Int) ∧ Hid (QS w N1 N2 b1 b2 b3 p x wo1 wo2 wo3 L wr)) (fun t _ => L.length - (intOf t).toNat)
      case atStart => exact ⟨0, Nat.zero_le _, rfl, hQS⟩
      case round =>
        clear hQS
        obtain ⟨k, hk, rfl, hQ⟩ := hrel
        have q1 := hQ.out.s1
        by_cases hlt : k < L.length
        · have hlt' : (k : Int) < (L.length : Int) := by omega
          obtain ⟨M, hM, ho⟩ := hQ.out.own
          obtain ⟨b, rfl, -, -, hown⟩ := ho (by omega)
          obtain ⟨y0, yf⟩ := hown.cell (i := k) (by omega)
          have hst := hid (hQ.out.set (by omega) k (-9))
          clear ho hown hQ
          go_wp2_with fail
          go_roundw
          case rel => exact ⟨k + 1, by omega, by go_num, hst⟩
          case measure => simp [intOf]; omega
        · obtain rfl : k = L.length := by omega
          have hlt' : ¬ (L.length : Int) < (L.length : Int) := by omega
          have g0 := hQ.out.t0
          have g1 := hQ.out.t1
          have g2 := hQ.out.t2
          have g3 := hQ.out.u0
          have g4 := hQ.out.u1
          have g5 := hQ.out.u2
          have kM2 := hid (same_any p x wo2 wo3 L.length L.length L wr (nums_of_own hQ.out.tw) (nums_of_own hQ.out.uw) kL40.out)
          go_wp2_with fail
          refine kM2.out.mono ?_
          rintro e wz ⟨rfl, oz⟩
          have koz := hid (hQ.out.old.trans oz)
          clear oz kM2 hQ
          go_wp2_with fail
          refine (kK.out _).mono ?_
          rintro e wy ⟨rfl, oy⟩
          have koy := hid (koz.out.trans oy)
          clear oy
          go_wp2_with fail
          go_ret
          exact ⟨rfl, koy.out⟩
    · by_cases hb1 : bid ≥ (L.length : Int)
      · have ke : spC p L bid = 0 ∧ spE L bid = 4 := by unfold spC spE; rw [if_neg (by omega), if_neg (by omega)]; exact ⟨rfl, rfl⟩
        rw [ke.1, ke.2]
        clear ke
        go_wp2_with fail
        clear u1
        have hL40 := kL40.out
        have hQS := hid hQ3.out.qs
        clear hQ3
        have q1 := hQS.out.s1
        go_wp2_with fail
        clear q1
        go_loopw [14] (fun t wr => ∃ k : Nat, k ≤ L.length ∧ t = .int .i64 (k : Int) ∧ Hid (QS w N1 N2 b1 b2 b3 p x wo1 wo2 wo3 L wr)) (fun t _ => L.length - (intOf t).toNat)
        case atStart => exact ⟨0, Nat.zero_le _, rfl, hQS⟩
        case round =>
          clear hQS
          obtain ⟨k, hk, rfl, hQ⟩ := hrel
          have q1 := hQ.out.s1
          by_cases hlt : k < L.length
          · have hlt' : (k : Int) < (L.length : Int) := by omega
            obtain ⟨M, hM, ho⟩ := hQ.out.own
            obtain ⟨b, rfl, -, -, hown⟩ := ho (by omega)
            obtain ⟨y0, yf⟩ := hown.cell (i := k) (by omega)
            have hst := hid (hQ.out.set (by omega) k (-9))
            clear ho hown hQ
            go_wp2_with fail
            go_roundw
            case rel => exact ⟨k + 1, by omega, by go_num, hst⟩
            case measure => simp [intOf]; omega
          · obtain rfl : k = L.length := by omega
            have hlt' : ¬ (L.length : Int) < (L.length : Int) := by omega
            have g0 := hQ.out.t0
            have g1 := hQ.out.t1
            have g2 := hQ.out.t2
            have g3 := hQ.out.u0
            have g4 := hQ.out.u1
            have g5 := hQ.out.u2
            have kM2 := hid (same_any p x wo2 wo3 L.length L.length L wr (nums_of_own hQ.out.tw) (nums_of_own hQ.out.uw) kL40.out)
            go_wp2_with fail
            refine kM2.out.mono ?_
            rintro e wz ⟨rfl, oz⟩
            have koz := hid (hQ.out.old.trans oz)
            clear oz kM2 hQ
            go_wp2_with fail
            refine (kK.out _).mono ?_
            rintro e wy ⟨rfl, oy⟩
            have koy := hid (koz.out.trans oy)
            clear oy
            go_wp2_with fail
            go_ret
            exact ⟨rfl, koy.out⟩
      · obtain ⟨n, rfl⟩ : ∃ n : Nat, bid = (n : Int) := ⟨bid.toNat, by omega⟩
        have ke : spC p L (n : Int) = ct L n * p ∧ spE L (n : Int) = 0 := by unfold spC spE; rw [if_pos (by omega), if_pos (by omega)]; exact ⟨rfl, rfl⟩
        rw [ke.1, ke.2]
        have hnl : n < L.length := by omega
        have hnB := kLin.out n hnl
        have hyc := kLc.out n hnl
        have hpc := kPc.out
        have hmul : 0 ≤ ct L n * p ∧ ct L n * p ≤ 4096 * 1099511627776 := ⟨Int.mul_nonneg hyc.1 hpc.1, Int.mul_le_mul hyc.2 hpc.2 hpc.1 (by omega)⟩
        have a0 := hQ3.out.a0
        have a1 := hQ3.out.a1
        have a2 := hQ3.out.a2
        have u0 := hQ3.out.u0
        obtain ⟨gB, oB, rfl, ai, ci, l1, hci, hni⟩ := hQ3.out.bids n hnB
        obtain ⟨gW, oW, rfl, l2⟩ := nums_at (nums_of_own hQ3.out.uw) hnl
        have hrl := kh.out n hnB
        have kCh := hid (fun W (h : Old w12 W) => check_any count fl ai ci (bd B n) W (hni.old h) (by omega) hci)
        have kRc := hid (fun W (h : Old w12 W) => rcheck_any count fl ai ci (bd B n) W (hni.old h) (by omega))
        simp only [rf_one] at kCh
        generalize ckZ count fl (bd B n) = kz at *
        generalize (bd B n).length = rl at *
        generalize ct L n = y at *
        have hkk : (kz != kz) = false := by simp
        have hmc : p * y = y * p := Int.mul_comm p y
        have hwm : IntKind.i64.wrap (p * y) = y * p := by
          rw [hmc]
          have h1 := hmul.1
          have h2 := hmul.2
          simp only [IntKind.wrap, IntKind.bits, IntKind.signed]
          simp
          omega
        have hyy : ((y * p) != (y * p)) = false := by simp
        have hnl' : (n : Int) < (L.length : Int) := by omega
        have hnB' : (n : Int) < (B.length : Int) := by omega
        have z1 := cell_lt a0
        have z2 := cell_lt u0
        have z3 := cell_lt l1
        have z4 := cell_lt l2
        have kmc := hid hmc
        clear ke hni hmc hb1 hb0 hyc hpc
        obtain ⟨yp, hyp⟩ : ∃ yp, y * p = yp := ⟨_, rfl⟩
        rw [hyp] at hwm hyy hmul ⊢
        clear hyp
        go_wp2_with fail
        refine wp_region_noPanic ?_
        refine wp_region_held_drew (S := fun W => Old w12 W) (by kernel_rfl) ((Old.refl w12).drewN 1) (fun hHeld => ?_)
        have hO : Old w12 w12.drew := (Old.refl w12).drewN 1
        generalize w12.drew = V0 at *
        refine' wpAnyH_take (i := 0) rfl (by kernel_rfl) (by kernel_rfl) (by kernel_rfl) (fun _ _ _ h => h) (Or.inl ⟨by rfl, ?_⟩) hHeld ?_
        rotate_left
        · intro W hSw
          obtain ⟨hcW, -⟩ := Old.look hSw
          clear hSw
          simp only [List.getElem_toArray, List.getElem_cons_zero]
          go_simp
          all_goals with_reducible rfl
        simp only [List.getElem_toArray, List.getElem_cons_zero, Act.put, List.setIfInBounds_toArray, List.set_cons_zero, List.set_cons_succ]
        refine' wpAnyH_take (i := 1) rfl (by kernel_rfl) (by kernel_rfl) (by kernel_rfl) (fun _ _ _ h => h) (Or.inl ⟨by rfl, ?_⟩) hHeld ?_
        rotate_left
        · intro W hSw
          obtain ⟨hcW, -⟩ := Old.look hSw
          clear hSw
          simp only [List.getElem_toArray, List.getElem_cons_zero, List.getElem_cons_succ]
          go_simp
          all_goals with_reducible rfl
        simp only [List.getElem_toArray, List.getElem_cons_zero, List.getElem_cons_succ, Act.put, List.setIfInBounds_toArray, List.set_cons_zero, List.set_cons_succ]
        refine' wpAnyH_take (i := 2) rfl (by kernel_rfl) (by kernel_rfl) (by kernel_rfl) (fun _ _ _ h => h) (Or.inl ⟨by rfl, ?_⟩) hHeld ?_
        rotate_left
        · intro W hSw
          obtain ⟨hcW, -⟩ := Old.look hSw
          clear hSw
          simp only [List.getElem_toArray, List.getElem_cons_zero, List.getElem_cons_succ]
          go_simp
          all_goals with_reducible rfl
        simp only [List.getElem_toArray, List.getElem_cons_zero, List.getElem_cons_succ, Act.put, List.setIfInBounds_toArray, List.set_cons_zero, List.set_cons_succ]
        refine' wpAnyH_take (i := 3) rfl (by kernel_rfl) (by kernel_rfl) (by kernel_rfl) (fun _ _ _ h => h) (Or.inl ⟨by rfl, ?_⟩) hHeld ?_
        rotate_left
        · intro W hSw
          obtain ⟨hcW, -⟩ := Old.look hSw
          clear hSw
          simp only [List.getElem_toArray, List.getElem_cons_zero, List.getElem_cons_succ]
          go_simp
          all_goals with_reducible rfl
        simp only [List.getElem_toArray, List.getElem_cons_zero, List.getElem_cons_succ, Act.put, List.setIfInBounds_toArray, List.set_cons_zero, List.set_cons_succ]
        refine' wpAnyH_take (i := 4) rfl (by kernel_rfl) (by kernel_rfl) (by kernel_rfl) (fun _ _ _ h => h) (Or.inl ⟨by rfl, ?_⟩) hHeld ?_
        rotate_left
        · intro W hSw
          obtain ⟨hcW, -⟩ := Old.look hSw
          clear hSw
          simp only [List.getElem_toArray, List.getElem_cons_zero, List.getElem_cons_succ]
          go_simp
          all_goals with_reducible rfl
        simp only [List.getElem_toArray, List.getElem_cons_zero, List.getElem_cons_succ, Act.put, List.setIfInBounds_toArray, List.set_cons_zero, List.set_cons_succ]
        refine' wpAnyH_take (i := 5) rfl (by kernel_rfl) (by kernel_rfl) (by kernel_rfl) (fun _ _ _ h => h) (Or.inl ⟨by rfl, ?_⟩) hHeld ?_
        rotate_left
        · intro W hSw
          obtain ⟨hcW, -⟩ := Old.look hSw
          clear hSw
          simp only [List.getElem_toArray, List.getElem_cons_zero, List.getElem_cons_succ]
          go_simp
          all_goals with_reducible rfl
        simp only [List.getElem_toArray, List.getElem_cons_zero, List.getElem_cons_succ, Act.put, List.setIfInBounds_toArray, List.set_cons_zero, List.set_cons_succ]
        refine' wpAnyH_take (i := 6) rfl (by kernel_rfl) (by kernel_rfl) (by kernel_rfl) (fun _ _ _ h => h) (Or.inl ⟨by rfl, ?_⟩) hHeld ?_
        rotate_left
        · intro W hSw
          obtain ⟨hcW, -⟩ := Old.look hSw
          clear hSw
          simp only [List.getElem_toArray, List.getElem_cons_zero, List.getElem_cons_succ]
          go_simp
          all_goals with_reducible rfl
        simp only [List.getElem_toArray, List.getElem_cons_zero, List.getElem_cons_succ, Act.put, List.setIfInBounds_toArray, List.set_cons_zero, List.set_cons_succ]
        refine' wpAnyH_take (i := 7) rfl (by kernel_rfl) (by kernel_rfl) (by kernel_rfl) (fun _ _ _ h => h) (Or.inl ⟨by rfl, ?_⟩) hHeld ?_
        rotate_left
        · intro W hSw
          obtain ⟨hcW, -⟩ := Old.look hSw
          clear hSw
          simp only [List.getElem_toArray, List.getElem_cons_zero, List.getElem_cons_succ]
          go_simp
          all_goals with_reducible rfl
        simp only [List.getElem_toArray, List.getElem_cons_zero, List.getElem_cons_succ, Act.put, List.setIfInBounds_toArray, List.set_cons_zero, List.set_cons_succ]
        refine' wpAnyH_take (i := 8) rfl (by kernel_rfl) (by kernel_rfl) (by kernel_rfl) (fun _ _ _ h => h) (Or.inl ⟨by rfl, ?_⟩) hHeld ?_
        rotate_left
        · intro W hSw
          obtain ⟨hcW, -⟩ := Old.look hSw
          clear hSw
          simp only [List.getElem_toArray, List.getElem_cons_zero, List.getElem_cons_succ]
          go_simp
          all_goals with_reducible rfl
        simp only [List.getElem_toArray, List.getElem_cons_zero, List.getElem_cons_succ, Act.put, List.setIfInBounds_toArray, List.set_cons_zero, List.set_cons_succ]
        refine' wpAnyH_take (i := 9) rfl (by kernel_rfl) (by kernel_rfl) (by kernel_rfl) (fun _ _ _ h => h) (Or.inl ⟨by rfl, ?_⟩) hHeld ?_
        rotate_left
        · intro W hSw
          obtain ⟨hcW, -⟩ := Old.look hSw
          clear hSw
          simp only [List.getElem_toArray, List.getElem_cons_zero, List.getElem_cons_succ]
          go_simp
          all_goals with_reducible rfl
        simp only [List.getElem_toArray, List.getElem_cons_zero, List.getElem_cons_succ, Act.put, List.setIfInBounds_toArray, List.set_cons_zero, List.set_cons_succ]
        refine' wpAnyH_take (i := 10) rfl (by kernel_rfl) (by kernel_rfl) (by kernel_rfl) (fun _ _ _ h => h) (Or.inl ⟨by rfl, ?_⟩) hHeld ?_
        rotate_left
        · intro W hSw
          obtain ⟨hcW, -⟩ := Old.look hSw
          clear hSw
          simp only [List.getElem_toArray, List.getElem_cons_zero, List.getElem_cons_succ]
          go_simp
          all_goals with_reducible rfl
        simp only [List.getElem_toArray, List.getElem_cons_zero, List.getElem_cons_succ, Act.put, List.setIfInBounds_toArray, List.set_cons_zero, List.set_cons_succ]
        refine' wpAnyH_take (i := 11) rfl (by kernel_rfl) (by kernel_rfl) (by kernel_rfl) (fun _ _ _ h => h) (Or.inl ⟨by rfl, ?_⟩) hHeld ?_
        rotate_left
        · intro W hSw
          obtain ⟨hcW, -⟩ := Old.look hSw
          clear hSw
          simp only [List.getElem_toArray, List.getElem_cons_zero, List.getElem_cons_succ]
          go_simp
          all_goals with_reducible rfl
        simp only [List.getElem_toArray, List.getElem_cons_zero, List.getElem_cons_succ, Act.put, List.setIfInBounds_toArray, List.set_cons_zero, List.set_cons_succ]
        refine' wpAnyH_take (i := 12) rfl (by kernel_rfl) (by kernel_rfl) (by kernel_rfl) (fun _ _ _ h => h) (Or.inl ⟨by rfl, ?_⟩) hHeld ?_
        rotate_left
        · intro W hSw
          obtain ⟨hcW, -⟩ := Old.look hSw
          clear hSw
          simp only [List.getElem_toArray, List.getElem_cons_zero, List.getElem_cons_succ]
          go_simp
          all_goals with_reducible rfl
        simp only [List.getElem_toArray, List.getElem_cons_zero, List.getElem_cons_succ, Act.put, List.setIfInBounds_toArray, List.set_cons_zero, List.set_cons_succ]
        refine' wpAnyH_take (i := 13) rfl (by kernel_rfl) (by kernel_rfl) (by kernel_rfl) (fun _ _ _ h => h) (Or.inl ⟨by rfl, ?_⟩) hHeld ?_
        rotate_left
        · intro W hSw
          obtain ⟨hcW, -⟩ := Old.look hSw
          clear hSw
          simp only [List.getElem_toArray, List.getElem_cons_zero, List.getElem_cons_succ]
          go_simp
          all_goals with_reducible rfl
        simp only [List.getElem_toArray, List.getElem_cons_zero, List.getElem_cons_succ, Act.put, List.setIfInBounds_toArray, List.set_cons_zero, List.set_cons_succ]
        refine' wpAnyH_take (i := 14) rfl (by kernel_rfl) (by kernel_rfl) (by kernel_rfl) (fun _ _ _ h => h) (Or.inl ⟨by rfl, ?_⟩) hHeld ?_
        rotate_left
        · intro W hSw
          obtain ⟨hcW, -⟩ := Old.look hSw
          clear hSw
          simp only [List.getElem_toArray, List.getElem_cons_zero, List.getElem_cons_succ]
          go_simp
          all_goals with_reducible rfl
        simp only [List.getElem_toArray, List.getElem_cons_zero, List.getElem_cons_succ, Act.put, List.setIfInBounds_toArray, List.set_cons_zero, List.set_cons_succ]
        refine' wpAnyH_take (i := 15) rfl (by kernel_rfl) (by kernel_rfl) (by kernel_rfl) (fun _ _ _ h => h) (Or.inl ⟨by rfl, ?_⟩) hHeld ?_
        rotate_left
        · intro W hSw
          obtain ⟨hcW, -⟩ := Old.look hSw
          clear hSw
          simp only [List.getElem_toArray, List.getElem_cons_zero, List.getElem_cons_succ]
          go_simp
          all_goals with_reducible rfl
        simp only [List.getElem_toArray, List.getElem_cons_zero, List.getElem_cons_succ, Act.put, List.setIfInBounds_toArray, List.set_cons_zero, List.set_cons_succ]
        refine' wpAnyH_take (i := 16) rfl (by kernel_rfl) (by kernel_rfl) (by kernel_rfl) (fun _ _ _ h => h) (Or.inl ⟨by rfl, ?_⟩) hHeld ?_
        rotate_left
        · intro W hSw
          obtain ⟨hcW, -⟩ := Old.look hSw
          clear hSw
          simp only [List.getElem_toArray, List.getElem_cons_zero, List.getElem_cons_succ]
          go_simp
          all_goals with_reducible rfl
        simp only [List.getElem_toArray, List.getElem_cons_zero, List.getElem_cons_succ, Act.put, List.setIfInBounds_toArray, List.set_cons_zero, List.set_cons_succ]
        refine' wpAnyH_take (i := 17) rfl (by kernel_rfl) (by kernel_rfl) (by kernel_rfl) (fun _ _ _ h => h) (Or.inl ⟨by rfl, ?_⟩) hHeld ?_
        rotate_left
        · intro W hSw
          obtain ⟨hcW, -⟩ := Old.look hSw
          clear hSw
          simp only [List.getElem_toArray, List.getElem_cons_zero, List.getElem_cons_succ]
          go_simp
          all_goals with_reducible rfl
        simp only [List.getElem_toArray, List.getElem_cons_zero, List.getElem_cons_succ, Act.put, List.setIfInBounds_toArray, List.set_cons_zero, List.set_cons_succ]
        refine' wpAnyH_take (i := 18) rfl (by kernel_rfl) (by kernel_rfl) (by kernel_rfl) (fun _ _ _ h => h) (Or.inl ⟨by rfl, ?_⟩) hHeld ?_
        rotate_left
        · intro W hSw
          obtain ⟨hcW, -⟩ := Old.look hSw
          clear hSw
          simp only [List.getElem_toArray, List.getElem_cons_zero, List.getElem_cons_succ]
          go_simp
          all_goals with_reducible rfl
        simp only [List.getElem_toArray, List.getElem_cons_zero, List.getElem_cons_succ, Act.put, List.setIfInBounds_toArray, List.set_cons_zero, List.set_cons_succ]
        refine' wpAnyH_take (i := 19) rfl (by kernel_rfl) (by kernel_rfl) (by kernel_rfl) (fun _ _ _ h => h) (Or.inl ⟨by rfl, ?_⟩) hHeld ?_
        rotate_left
        · intro W hSw
          obtain ⟨hcW, -⟩ := Old.look hSw
          clear hSw
          simp only [List.getElem_toArray, List.getElem_cons_zero, List.getElem_cons_succ]
          go_simp
          all_goals with_reducible rfl
        simp only [List.getElem_toArray, List.getElem_cons_zero, List.getElem_cons_succ, Act.put, List.setIfInBounds_toArray, List.set_cons_zero, List.set_cons_succ]
        refine' wpAnyH_take (i := 20) rfl (by kernel_rfl) (by kernel_rfl) (by kernel_rfl) (fun _ _ _ h => h) (Or.inl ⟨by rfl, ?_⟩) hHeld ?_
        rotate_left
        · intro W hSw
          obtain ⟨hcW, -⟩ := Old.look hSw
          clear hSw
          simp only [List.getElem_toArray, List.getElem_cons_zero, List.getElem_cons_succ]
          go_simp
          all_goals with_reducible rfl
        simp only [List.getElem_toArray, List.getElem_cons_zero, List.getElem_cons_succ, Act.put, List.setIfInBounds_toArray, List.set_cons_zero, List.set_cons_succ]
        refine' wpAnyH_take (i := 21) rfl (by kernel_rfl) (by kernel_rfl) (by kernel_rfl) (fun _ _ _ h => h) (Or.inl ⟨by rfl, ?_⟩) hHeld ?_
        rotate_left
        · intro W hSw
          obtain ⟨hcW, -⟩ := Old.look hSw
          clear hSw
          simp only [List.getElem_toArray, List.getElem_cons_zero, List.getElem_cons_succ]
          go_simp
          all_goals with_reducible rfl
        simp only [List.getElem_toArray, List.getElem_cons_zero, List.getElem_cons_succ, Act.put, List.setIfInBounds_toArray, List.set_cons_zero, List.set_cons_succ]
        refine' wpAnyH_take (i := 22) rfl (by kernel_rfl) (by kernel_rfl) (by kernel_rfl) (fun _ _ _ h => h) (Or.inl ⟨by rfl, ?_⟩) hHeld ?_
        rotate_left
        · intro W hSw
          obtain ⟨hcW, -⟩ := Old.look hSw
          clear hSw
          simp only [List.getElem_toArray, List.getElem_cons_zero, List.getElem_cons_succ]
          go_simp
          all_goals with_reducible rfl
        simp only [List.getElem_toArray, List.getElem_cons_zero, List.getElem_cons_succ, Act.put, List.setIfInBounds_toArray, List.set_cons_zero, List.set_cons_succ]
        refine' wpAnyH_take (i := 23) rfl (by kernel_rfl) (by kernel_rfl) (by kernel_rfl) (fun _ _ _ h => h) (Or.inl ⟨by rfl, ?_⟩) hHeld ?_
        rotate_left
        · intro W hSw
          obtain ⟨hcW, -⟩ := Old.look hSw
          clear hSw
          simp only [List.getElem_toArray, List.getElem_cons_zero, List.getElem_cons_succ]
          go_simp
          all_goals with_reducible rfl
        simp only [List.getElem_toArray, List.getElem_cons_zero, List.getElem_cons_succ, Act.put, List.setIfInBounds_toArray, List.set_cons_zero, List.set_cons_succ]
        refine' wpAnyH_take (i := 25) rfl (by kernel_rfl) (by kernel_rfl) (by kernel_rfl) (fun _ _ _ h => h) (Or.inl ⟨by rfl, ?_⟩) hHeld ?_
        rotate_left
        · intro W hSw
          obtain ⟨hcW, -⟩ := Old.look hSw
          clear hSw
          simp only [List.getElem_toArray, List.getElem_cons_zero, List.getElem_cons_succ]
          go_simp
          all_goals with_reducible rfl
        simp only [List.getElem_toArray, List.getElem_cons_zero, List.getElem_cons_succ, Act.put, List.setIfInBounds_toArray, List.set_cons_zero, List.set_cons_succ]
        refine' wpAnyH_take (i := 26) rfl (by kernel_rfl) (by kernel_rfl) (by kernel_rfl) (fun _ _ _ h => h) (Or.inl ⟨by rfl, ?_⟩) hHeld ?_
        rotate_left
        · intro W hSw
          obtain ⟨hcW, -⟩ := Old.look hSw
          clear hSw
          simp only [List.getElem_toArray, List.getElem_cons_zero, List.getElem_cons_succ]
          go_simp
          all_goals with_reducible rfl
        simp only [List.getElem_toArray, List.getElem_cons_zero, List.getElem_cons_succ, Act.put, List.setIfInBounds_toArray, List.set_cons_zero, List.set_cons_succ]
        refine' wpAnyH_take (i := 27) rfl (by kernel_rfl) (by kernel_rfl) (by kernel_rfl) (fun _ _ _ h => h) (Or.inl ⟨by rfl, ?_⟩) hHeld ?_
        rotate_left
        · intro W hSw
          obtain ⟨hcW, -⟩ := Old.look hSw
          clear hSw
          simp only [List.getElem_toArray, List.getElem_cons_zero, List.getElem_cons_succ]
          go_simp
          all_goals with_reducible rfl
        simp only [List.getElem_toArray, List.getElem_cons_zero, List.getElem_cons_succ, Act.put, List.setIfInBounds_toArray, List.set_cons_zero, List.set_cons_succ]
        refine' wpAnyH_take (i := 28) rfl (by kernel_rfl) (by kernel_rfl) (by kernel_rfl) (fun _ _ _ h => h) (Or.inl ⟨by rfl, ?_⟩) hHeld ?_
        rotate_left
        · intro W hSw
          obtain ⟨hcW, -⟩ := Old.look hSw
          clear hSw
          simp only [List.getElem_toArray, List.getElem_cons_zero, List.getElem_cons_succ]
          go_simp
          all_goals with_reducible rfl
        simp only [List.getElem_toArray, List.getElem_cons_zero, List.getElem_cons_succ, Act.put, List.setIfInBounds_toArray, List.set_cons_zero, List.set_cons_succ]
        refine' wpAnyH_take (i := 29) rfl (by kernel_rfl) (by kernel_rfl) (by kernel_rfl) (fun _ _ _ h => h) (Or.inl ⟨by rfl, ?_⟩) hHeld ?_
        rotate_left
        · intro W hSw
          obtain ⟨hcW, -⟩ := Old.look hSw
          clear hSw
          simp only [List.getElem_toArray, List.getElem_cons_zero, List.getElem_cons_succ]
          go_simp
          all_goals with_reducible rfl
        simp only [List.getElem_toArray, List.getElem_cons_zero, List.getElem_cons_succ, Act.put, List.setIfInBounds_toArray, List.set_cons_zero, List.set_cons_succ]
        refine' wpAnyH_take (i := 30) rfl (by kernel_rfl) (by kernel_rfl) (by kernel_rfl) (fun _ _ _ h => h) (Or.inl ⟨by rfl, ?_⟩) hHeld ?_
        rotate_left
        · intro W hSw
          obtain ⟨hcW, -⟩ := Old.look hSw
          clear hSw
          simp only [List.getElem_toArray, List.getElem_cons_zero, List.getElem_cons_succ]
          go_simp
          all_goals with_reducible rfl
        simp only [List.getElem_toArray, List.getElem_cons_zero, List.getElem_cons_succ, Act.put, List.setIfInBounds_toArray, List.set_cons_zero, List.set_cons_succ]
        refine' wpAnyH_take (i := 31) rfl (by kernel_rfl) (by kernel_rfl) (by kernel_rfl) (fun _ _ _ h => h) (Or.inl ⟨by rfl, ?_⟩) hHeld ?_
        rotate_left
        · intro W hSw
          obtain ⟨hcW, -⟩ := Old.look hSw
          clear hSw
          simp only [List.getElem_toArray, List.getElem_cons_zero, List.getElem_cons_succ]
          go_simp
          all_goals with_reducible rfl
        simp only [List.getElem_toArray, List.getElem_cons_zero, List.getElem_cons_succ, Act.put, List.setIfInBounds_toArray, List.set_cons_zero, List.set_cons_succ]
        refine' wpAnyH_take (i := 32) rfl (by kernel_rfl) (by kernel_rfl) (by kernel_rfl) (fun _ _ _ h => h) (Or.inl ⟨by rfl, ?_⟩) hHeld ?_
        rotate_left
        · intro W hSw
          obtain ⟨hcW, -⟩ := Old.look hSw
          clear hSw
          simp only [List.getElem_toArray, List.getElem_cons_zero, List.getElem_cons_succ]
          go_simp
          all_goals with_reducible rfl
        simp only [List.getElem_toArray, List.getElem_cons_zero, List.getElem_cons_succ, Act.put, List.setIfInBounds_toArray, List.set_cons_zero, List.set_cons_succ]
        refine' wpAnyH_take (i := 33) rfl (by kernel_rfl) (by kernel_rfl) (by kernel_rfl) (fun _ _ _ h => h) (Or.inl ⟨by rfl, ?_⟩) hHeld ?_
        rotate_left
        · intro W hSw
          obtain ⟨hcW, -⟩ := Old.look hSw
          clear hSw
          simp only [List.getElem_toArray, List.getElem_cons_zero, List.getElem_cons_succ]
          go_simp
          all_goals with_reducible rfl
        simp only [List.getElem_toArray, List.getElem_cons_zero, List.getElem_cons_succ, Act.put, List.setIfInBounds_toArray, List.set_cons_zero, List.set_cons_succ]
        refine wpAnyH_ready (rs := [24]) (by kernel_rfl) (by simp) ?_
        refine AllReadyH.cons (o := _) rfl (fun K hK => ?_) AllReadyH.nil
        simp only [List.getElem_toArray, List.getElem_cons_zero, List.getElem_cons_succ]
        go_simp
        refine (kCh.out _ hO).mono ?_
        rintro e V1 ⟨rfl, p1⟩
        have hO1 := hO.trans p1
        clear p1
        refine hK.out _ _ (hO1) (fun hHeld2 => ?_)
        clear hHeld hK
        have hHeld := hHeld2
        clear hHeld2
        try simp only [Act.put, List.setIfInBounds_toArray, List.set_cons_zero, List.set_cons_succ]
        refine wpAnyH_ready (rs := [34]) (by kernel_rfl) (by simp) ?_
        refine AllReadyH.cons (o := _) rfl (fun K hK => ?_) AllReadyH.nil
        simp only [List.getElem_toArray, List.getElem_cons_zero, List.getElem_cons_succ]
        go_simp
        refine (kRc.out _ hO1).mono ?_
        rintro e V2 ⟨rfl, q2, e2⟩
        have hO2 : Old w12 V2 := by rw [e2]; exact hO1.drewN q2
        clear e2
        refine hK.out _ _ (hO2) (fun hHeld2 => ?_)
        clear hHeld hK
        have hHeld := hHeld2
        clear hHeld2
        try simp only [Act.put, List.setIfInBounds_toArray, List.set_cons_zero, List.set_cons_succ]
        refine' wpAnyH_take (i := 35) rfl (by kernel_rfl) (by kernel_rfl) (by kernel_rfl) (fun _ _ _ h => h) (Or.inl ⟨by rfl, ?_⟩) hHeld ?_
        rotate_left
        · intro W hSw
          obtain ⟨hcW, -⟩ := Old.look hSw
          clear hSw
          simp only [List.getElem_toArray, List.getElem_cons_zero, List.getElem_cons_succ]
          go_simp
          all_goals with_reducible rfl
        simp only [List.getElem_toArray, List.getElem_cons_zero, List.getElem_cons_succ, Act.put, List.setIfInBounds_toArray, List.set_cons_zero, List.set_cons_succ]
        refine' wpAnyH_take (i := 36) rfl (by kernel_rfl) (by kernel_rfl) (by kernel_rfl) (fun _ _ _ h => h) (Or.inl ⟨by rfl, ?_⟩) hHeld ?_
        rotate_left
        · intro W hSw
          obtain ⟨hcW, -⟩ := Old.look hSw
          clear hSw
          simp only [List.getElem_toArray, List.getElem_cons_zero, List.getElem_cons_succ]
          go_simp
          all_goals with_reducible rfl
        simp only [List.getElem_toArray, List.getElem_cons_zero, List.getElem_cons_succ, Act.put, List.setIfInBounds_toArray, List.set_cons_zero, List.set_cons_succ]
        refine wpAnyH_done (by kernel_rfl) ?_ _
        refine NoPanic.normal ?_
        clear hHeld
        have hQ4 := hid (hQ3.out.go hO2)
        clear a0 a1 a2 u0 u1 l1 l2 z1 z2 z3 z4 hQ3 hO hO1 hO2
        go_wp2_with fail
        have hL40 := kL40.out
        have hQS := hid hQ4.out.qs
        clear hQ4
        have q1 := hQS.out.s1
        go_wp2_with fail
        clear q1
        go_loopw [14] (fun t wr => ∃ k : Nat, k ≤ L.length ∧ t = .int .i64 (k : Int) ∧ Hid (QS w N1 N2 b1 b2 b3 p x wo1 wo2 (some ⟨gW, oW, none⟩) L wr)) (fun t _ => L.length - (intOf t).toNat)
        case atStart => exact ⟨0, Nat.zero_le _, rfl, hQS⟩
        case round =>
          clear hQS
          obtain ⟨k, hk, rfl, hQ⟩ := hrel
          have q1 := hQ.out.s1
          by_cases hlt : k < L.length
          · have hlt' : (k : Int) < (L.length : Int) := by omega
            obtain ⟨M, hM, ho⟩ := hQ.out.own
            obtain ⟨b, rfl, -, -, hown⟩ := ho (by omega)
            obtain ⟨y0, yf⟩ := hown.cell (i := k) (by omega)
            have hst := hid (hQ.out.set (by omega) k (-9))
            clear ho hown hQ
            go_wp2_with fail
            go_roundw
            case rel => exact ⟨k + 1, by omega, by go_num, hst⟩
            case measure => simp [intOf]; omega
          · obtain rfl : k = L.length := by omega
            have hlt' : ¬ (L.length : Int) < (L.length : Int) := by omega
            have g0 := hQ.out.t0
            have g1 := hQ.out.t1
            have g2 := hQ.out.t2
            have g3 := hQ.out.u0
            have g4 := hQ.out.u1
            have g5 := hQ.out.u2
            have kM2 := hid (same_any p x wo2 (some ⟨gW, oW, none⟩) L.length L.length L wr (nums_of_own hQ.out.tw) (nums_of_own hQ.out.uw) kL40.out)
            go_wp2_with fail
            refine kM2.out.mono ?_
            rintro e wz ⟨rfl, oz⟩
            have koz := hid (hQ.out.old.trans oz)
            clear oz kM2 hQ
            go_wp2_with fail
            refine (kK.out _).mono ?_
            rintro e wy ⟨rfl, oy⟩
            have koy := hid (koz.out.trans oy)
            clear oy
            go_wp2_with fail
            go_ret
            exact ⟨rfl, koy.out⟩
  · rw [hlg] at kL
    refine kL.out.mono ?_
    rintro e w2 ⟨rfl, o2⟩
    have ko2 := hid (ko.out.trans o2)
    clear o2
    go_wp2_with fail
    refine (kK.out _).mono ?_
    rintro e w5 ⟨rfl, o5⟩
    have ko5 := hid (ko2.out.trans o5)
    clear o5
    go_wp2_with fail
    go_ret
    exact ⟨rfl, ko5.out⟩
end Go.Proofs.Ytafaodlmohfenaa
