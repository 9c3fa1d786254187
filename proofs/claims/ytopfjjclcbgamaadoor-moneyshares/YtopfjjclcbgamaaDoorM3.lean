/- MoneyShares walked: shares that can be told. -/
import Derived.Test.YtopfjjclcbgamaaDoorM2
namespace Go.Proofs.YtopfjjclcbgamaaDoor
open Go.RowKit Go.Lib

/-- The first answer, the second one, and the document's. -/
structure Thr (w wr : World) (ba bb gw : Nat) (A out : List Int) : Prop where
  old : Old w wr
  a : Own .i64 2 wr ba A
  b : NumsC .i64 wr (some ⟨bb, 0, none⟩) out
  c : NumsC .i64 wr (some ⟨gw, 0, none⟩) out
  ge : w.heap.size ≤ ba
  ab : bb ≠ ba
  ac : gw ≠ ba

theorem NumsC.frm {k : IntKind} {S : Nat → Prop} {w w' : World} {g o : Nat} {L : List Int} (h : NumsC k w (some ⟨g, o, none⟩) L) (hf : Frm S w w') (hS : ¬ S g) : NumsC k w' (some ⟨g, o, none⟩) L := by
  intro i hi
  obtain ⟨g', o', h1, h2⟩ := h i hi
  simp only [Option.some.injEq, Addr.mk.injEq, and_true] at h1
  obtain ⟨rfl, rfl⟩ := h1
  exact ⟨g, o, rfl, frm_cell hf h2 hS⟩

theorem Thr.set {w wr : World} {ba bb gw : Nat} {A out : List Int} (h : Thr w wr ba bb gw A out) (i : Nat) (x : Int) : Thr w (wr.setCell ⟨ba, i, none⟩ (.int .i64 x)) ba bb gw (A.set i x) out := by
  have hf : Frm (fun k => k = ba) wr (wr.setCell ⟨ba, i, none⟩ (.int .i64 x)) := Frm.setCell (Frm.refl (fun k => k = ba) wr) ⟨ba, i, none⟩ (Or.inr rfl) _
  exact ⟨Frm.setCell h.old _ (Or.inl h.ge) _, h.a.set i x, h.b.frm hf h.ab, h.c.frm hf h.ac, h.ge, h.ab, h.ac⟩

set_option maxRecDepth 100000 in
set_option maxHeartbeats 4000000 in
theorem moneyShares_good (c : Int) (ao : Option Addr) (cap : Nat) (L : List Int) (w : World) (ha : NumsC .i64 w ao L) (hl : L.length ≤ 2000) (hz : ao = none → cap = 0 ∧ L = []) (hok : shareOk c L) :
    Calls Tryd.prog 4 #[.int .i64 c, .slice ao L.length cap] w fun e w' => e = .returned (.bool true) ∧ Old w w' := by
  have hW := hid works_any
  have hLt := hid (lent_any ao cap L w ha hl hz)
  have hN := hid num_any
  have hSh := hid (fun g cp w1 (h : NumsC .i64 w1 (some ⟨g, 0, none⟩) L) => share_good c (some ⟨g, 0, none⟩) cp L w1 h hok)
  have hRs := hid (fun o w1 (h : NumsC .i64 w1 ao L) ho => refShare_good c ao cap L o w1 h hok ho)
  have hSame := hid (fun a b ca cb M w1 (h1 : NumsC .i64 w1 (some ⟨a, 0, none⟩) M) (h2 : NumsC .i64 w1 (some ⟨b, 0, none⟩) M) (h3 : M.length ≤ 1000000000000) => same_any (some ⟨a, 0, none⟩) (some ⟨b, 0, none⟩) ca cb M w1 h1 h2 h3)
  have hKp := hid (fun g cp w1 (h1 : NumsC .i64 w1 ao L) (h2 : Lent w1 g cp L) => kept_any ao g cap cp L w1 h1 h2 hl)
  obtain ⟨i0, hi0, hz0, hz1, hz2⟩ := info_parts info2
  have ha' := hid ha
  have hok' := hid hok
  obtain ⟨n, hN2⟩ : ∃ n, L.length = n := ⟨_, rfl⟩
  have hNn := hid hN2
  rw [hN2] at hLt hSh hRs hKp hl ⊢
  clear ha hz hok hN2
  go_enter Tryd.func4, Tryd.ntmps4
  go_wp2_with fail
  refine hLt.out.mono ?_
  rintro e w1 ⟨g, cap', rfl, hL, hold, hge⟩
  have hL' := hid hL
  have hold' := hid hold
  clear hL hold hge hLt
  go_wp2_with fail
  refine (hSh.out _ _ _ hL'.out.nums).mono ?_
  rintro e w2 ⟨ba, out, rfl, hR1, hown1, ho1, hb1⟩
  have p1 := hid hR1; have p2 := hid hown1; have p3 := hid ho1; have p4 := hid hb1
  clear hR1 hown1 ho1 hb1
  go_wp2_with fail
  refine (hSh.out _ _ _ (hL'.out.nums.old p3.out)).mono ?_
  rintro e w3 ⟨bb, out2, rfl, hR2, hown2, ho2, hb2⟩
  obtain rfl := share_uniq hok'.out p1.out hR2
  have q2 := hid hown2; have q3 := hid ho2; have q4 := hid hb2
  clear hR2 hown2 ho2 hb2
  obtain ⟨o, hOo, hOe⟩ := p1.out
  have hO := hid hOo
  have hE := hid hOe
  have hout := hid (show out.length = n by rw [p1.out.len, hNn.out])
  clear hOo hOe
  go_wp2_with fail
  refine (hRs.out o _ (ha'.out.old ((hold'.out.trans p3.out).trans q3.out)) hO.out).mono ?_
  rintro e w4 ⟨gw, capw, rfl, hnw, how, hgw⟩
  rw [← hE.out] at hnw
  have r1 := hid hnw; have r2 := hid how; have r3 := hid hgw
  clear hnw how hgw
  have hThr := hid (show Thr w w4 ba bb gw out out from by
    have e1 := p2.out.lt
    have e2 := q2.out.lt
    have e3 := q4.out
    have e4 := r3.out
    have e5 := q3.out.size
    have e6 := p3.out.size
    have e7 := p4.out
    have e8 := hold'.out.size
    exact ⟨((hold'.out.trans p3.out).trans q3.out).trans r2.out, (p2.out.kept q3.out (fun h => h)).kept r2.out (fun h => h), (q2.out.kept r2.out (fun h => h)).nums, r1.out, by omega, by omega, by omega⟩)
  have hLw4 := hid (hL'.out.old ((p3.out.trans q3.out).trans r2.out))
  clear p1 p2 p3 p4 q2 q3 q4 r1 r2 r3 hL' hold' hO hE hSh hRs
  go_wp2_with fail
  refine (hN.out _ _).mono ?_
  rintro e w5 ⟨rfl, e5⟩
  rw [e5]
  clear e5 w5
  have hS1 := hid (hSame.out ba gw n capw out w4 hThr.out.a.nums hThr.out.c (by have := hout.out; omega))
  rw [hout.out] at hS1
  go_wp2_with fail
  refine hS1.out.mono ?_
  rintro e w5 ⟨rfl, m5, e5⟩
  rw [e5]
  clear e5 w5 hS1
  go_wp2_with fail
  refine (hKp.out _ _ _ (ha'.out.old (hThr.out.old.drewN m5)) (hLw4.out.old ((Old.refl w4).drewN m5))).mono ?_
  rintro e w5 ⟨rfl, m6, e5⟩
  obtain ⟨m7, e7⟩ : ∃ m7, w5 = w4.drewN m7 := ⟨m5 + m6, by rw [e5, World.drewN_drewN]⟩
  have hT5 := hid (show Thr w w5 ba bb gw out out from by
    rw [e7]
    have f := (Old.refl w4).drewN m7
    exact ⟨hThr.out.old.drewN m7, hThr.out.a.kept f (fun h => h), hThr.out.b.old f, hThr.out.c.old f, hThr.out.ge, hThr.out.ab, hThr.out.ac⟩)
  clear e5 e7 hThr hLw4 hKp
  go_wp2_with fail
  go_loopw [12] (fun s wr => ∃ k : Nat, k ≤ n ∧ s = .int .i64 (k : Int) ∧ ∃ A, A.length = n ∧ Thr w wr ba bb gw A out) (fun s _ => n - (intOf s).toNat)
  case atStart => exact ⟨0, Nat.zero_le _, rfl, out, hout.out, hT5.out⟩
  case round =>
    clear hT5
    obtain ⟨k, hk, rfl, A, hAn, hT⟩ := hrel
    by_cases hlt : k < n
    · obtain ⟨hc1, hf1⟩ := hT.a.cell (i := k) (by omega)
      have hT2 := hid (hT.set k (-9))
      have hAn' := hid (show (A.set k (-9)).length = n by rw [List.length_set]; exact hAn)
      generalize A[k]'_ = z at hc1
      clear hT hAn
      go_wp2
      go_roundw
      case rel => exact ⟨k + 1, by omega, by go_num, _, hAn'.out, hT2.out⟩
      case measure => simp [intOf]; omega
    · obtain rfl : k = n := by omega
      have hown := hT.a.owns hAn hT.ge (by omega)
      have hT0 := hid hT
      have hsz := hT.old.size
      clear hT
      go_wp2_with (first
        | (at_builtin; refine wpList_append_lies _ (by rfl) _ _ 22 (by rfl) w.heap.size 2 i0 _ 1 8 Tryd.underlying22 hi0 hz0 hz1 hz2 rfl (by omega) (.slice (some ⟨ba, 0, none⟩) k k) k (A.map (Value.int .i64)) (by rfl) (World.ownsRow.alloc hown _) ⟨wr.heap.size, 0, none⟩ 1 1 [.int .i64 (-9)] (by rfl) (by rfl) (World.news_of_block (heap_new wr _)) (by intro u hu; simp at hu; subst hu; rfl) (by omega) (by unfold maxLen; omega) (by omega) (Nat.le_trans hsz (by simp)) _ rfl ?_; intro g1 cap1 w6 hown6 hgrow6 hat6 hlt6)
        | fail)
      have hfr : Frm (fun k => k = ba) wr w6 := Frm.grown (Frm.alloc (Frm.refl _ wr) _) hgrow6 (fun k hk => by simp [Value.ownBlock] at hk; exact Or.inr hk.symm)
      have ho6 := hid (show Old w w6 from Frm.grown (hT0.out.old.alloc _) hgrow6 (fun k hk => Or.inl (by simp [Value.ownBlock] at hk; have := hT0.out.ge; omega)))
      have hb6 := hid (hT0.out.b.frm hfr hT0.out.ab)
      have hc6 := hid (hT0.out.c.frm hfr hT0.out.ac)
      clear hown6 hgrow6 hat6 hfr hT0 hown
      have hS2 := hid (hSame.out bb gw k capw out w6 hb6.out hc6.out (by have := hout.out; omega))
      rw [hout.out] at hS2
      go_wp2_with fail
      refine hS2.out.mono ?_
      rintro e w7 ⟨rfl, m7, e7⟩
      rw [e7]
      clear e7 w7 hS2
      go_wp2_with fail
      refine (hW.out _).mono ?_
      rintro e w8 ⟨rfl, h8⟩
      have h8' := hid h8
      clear h8
      go_wp2
      go_ret
      exact ⟨rfl, (ho6.out.drewN m7).trans h8'.out⟩
end Go.Proofs.YtopfjjclcbgamaaDoor
