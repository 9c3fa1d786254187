/- Lists in memory of their own, walked. -/
import Derived.Test.YtjkgijfddgppjaaN32
namespace Go.Proofs.Ytjkgijfddgppjaa
open Go.RowKit Go.Sort

/-- A list that may be written over. -/
structure Wl (w : World) (S : Nat → Prop) (ao : Option Addr) (n : Nat) : Prop where
  at' : ∀ i, i < n → ∃ g, ao = some ⟨g, 0, none⟩ ∧ (∃ u, w.cell? ⟨g, i, none⟩ = some u) ∧ w.frozen? ⟨g, i, none⟩ = false
  S : 0 < n → ∀ g o, ao = some ⟨g, o, none⟩ → S g

theorem Wl.frm {w w' : World} {S T : Nat → Prop} {ao : Option Addr} {n : Nat} (h : Wl w S ao n) (hf : Frm T w w') (hT : ∀ k, S k → ¬ T k) : Wl w' S ao n :=
  ⟨fun i hi => by
    obtain ⟨g, rfl, ⟨u, hu⟩, hz⟩ := h.at' i hi
    have hS := hT g (h.S (by omega) g 0 rfl)
    exact ⟨g, rfl, ⟨u, frm_cell hf hu hS⟩, frm_frozen hf (World.block_lt_of_cell? w _ hu) hz hS⟩, h.S⟩

theorem Wl.set {w : World} {S : Nat → Prop} {g n : Nat} (h : Wl w S (some ⟨g, 0, none⟩) n) (k : Nat) (u : Value) : Wl (w.setCell ⟨g, k, none⟩ u) S (some ⟨g, 0, none⟩) n :=
  ⟨fun i hi => by
    obtain ⟨g', e, ⟨x, hx⟩, hz⟩ := h.at' i hi
    simp only [Option.some.injEq, Addr.mk.injEq, and_true] at e
    subst e
    refine ⟨g, rfl, ?_, by simp [hz]⟩
    by_cases e : k = i
    · subst e; exact ⟨u, set_same hx⟩
    · exact ⟨x, set_oth hx e⟩, h.S⟩

theorem ListOf.wl {w w' : World} {ao : Option Addr} {R : List Nat} (hn : NumsC .i64 w' ao (nums R)) (hg : ∀ g o, ao = some ⟨g, o, none⟩ → w.heap.size ≤ g ∧ o = 0 ∧ ∀ i, i < R.length → w'.frozen? ⟨g, i, none⟩ = false) : Wl w' (fun k => w.heap.size ≤ k ∧ k < w'.heap.size) ao R.length := by
  refine ⟨fun i hi => ?_, fun h0 g o e => ?_⟩
  · obtain ⟨g, o, rfl, hc⟩ := hn i (by simp [nums]; omega)
    obtain ⟨h1, rfl, h3⟩ := hg g o rfl
    rw [Nat.zero_add] at hc
    exact ⟨g, rfl, ⟨_, hc⟩, h3 i hi⟩
  · obtain ⟨g', o', e', hc⟩ := hn 0 (by simp [nums]; omega)
    rw [e] at e'
    simp only [Option.some.injEq, Addr.mk.injEq, and_true] at e'
    obtain ⟨rfl, rfl⟩ := e'
    have h5 := World.block_lt_of_cell? _ _ hc
    simp only at h5
    exact ⟨(hg g o e).1, h5⟩

theorem NumsC.frm {k : IntKind} {w w' : World} {T : Nat → Prop} {ao : Option Addr} {L : List Int} (h : NumsC k w ao L) (hf : Frm T w w') (hT : 0 < L.length → ∀ g o, ao = some ⟨g, o, none⟩ → ¬ T g) : NumsC k w' ao L := by
  intro i hi
  obtain ⟨g, o, rfl, hc⟩ := h i hi
  exact ⟨g, o, rfl, frm_cell hf hc (hT (by omega) g o rfl)⟩


set_option maxRecDepth 100000 in
set_option maxHeartbeats 4000000 in
theorem lists_any (hb tb mb rb : Nat) (v vd : Value) (most md : Int) (L : List (List UInt8)) (x : List UInt8) (w : World) (h : Nms w hb tb mb v most L) (hd : Doc w rb vd md L) (gL : Good L) (hL : L.length ≤ 1048576) (hx : x.length ≤ 9223372036854775807) :
    Calls Try.prog 30 #[.pointer (some ⟨hb, 0, none⟩), .pointer (some ⟨rb, 0, none⟩), .string ⟨x.toArray⟩] w fun e w' => e = .returned (.bool true) ∧ Old w w' := by
  have kB := hid (fun W (hW : Old w W) => begins_any hb tb mb v most L x W (h.old hW) hL)
  have kS := hid (fun W (hW : Old w W) => sorted_any hb tb mb v most L W (h.old hW) hL)
  have kD := hid (fun W (hW : Old w W) => dbegins_any rb vd md L x W (hd.old hW) hL hx)
  have kE := hid (fun W (hW : Old w W) => dbegins_any rb vd md L [] W (hd.old hW) hL (by simp))
  have kU := hid (fun (R R' : List Nat) (y : List UInt8) (h1 : InOrd L (begN L y L.length) R) (h2 : InOrd L (begN L y L.length) R') => InOrd.uniq gL h1 h2)
  have kl := hid (fun (R : List Nat) (y : List UInt8) (h1 : InOrd L (begN L y L.length) R) => (show R.length ≤ 1048576 by rw [h1.1.length_eq]; have := begN_len L y L.length; omega))
  clear h hd gL
  go_enter Try.func30, Try.ntmps30
  go_wp2_with fail
  refine (kB.out w (Old.refl _)).mono ?_
  rintro e w1 ⟨va, R, rfl, hRa, ⟨aa, ca, rfl, na, fa⟩, q1⟩
  have ka := hid (And.intro na fa)
  have o1 := hid q1
  have kRa := hid hRa
  have hRl := kl.out R x hRa
  clear na fa q1 hRa
  go_wp2_with fail
  refine (kB.out w1 o1.out).mono ?_
  rintro e w2 ⟨vb, Rb, rfl, hRb, ⟨ab, cb, rfl, nb, fb⟩, q2⟩
  obtain rfl := kU.out R Rb x kRa.out hRb
  have kb := hid (And.intro nb fb)
  have o2 := hid (o1.out.trans q2)
  have p2 := hid q2
  clear nb fb q2 hRb
  go_wp2_with fail
  refine (kS.out w2 o2.out).mono ?_
  rintro e w3 ⟨vc, Q, rfl, hQc, ⟨ac, cc, rfl, nc, fc⟩, q3⟩
  have kc := hid (And.intro nc fc)
  have o3 := hid (o2.out.trans q3)
  have p3 := hid q3
  have kQc := hid hQc
  have hQl := kl.out Q [] hQc
  clear nc fc q3 hQc
  go_wp2_with fail
  refine (kS.out w3 o3.out).mono ?_
  rintro e w4 ⟨vd, Qd, rfl, hQd, ⟨ad, cd, rfl, nd, fd⟩, q4⟩
  obtain rfl := kU.out Q Qd [] kQc.out hQd
  have kd := hid (And.intro nd fd)
  have o4 := hid (o3.out.trans q4)
  have p4 := hid q4
  clear nd fd q4 hQd
  go_wp2_with fail
  refine (kD.out w4 o4.out).mono ?_
  rintro e w5 ⟨ve, Re, rfl, hRe, ⟨ae, ce, rfl, ne, fe⟩, q5⟩
  obtain rfl := kU.out R Re x kRa.out hRe
  have o5 := hid (o4.out.trans q5)
  have p5 := hid (p4.out.trans q5)
  have r5 := hid q5
  have kI1 := hid (sameInts_one aa ae ca ce R w5 (((ka.out.1.old p2.out).old p3.out).old p5.out) ne hRl)
  clear ne fe q5 hRe
  go_wp2_with fail
  refine kI1.out.mono ?_
  rintro e w6 ⟨rfl, q6⟩
  have o6 := hid (o5.out.trans q6)
  have p6 := hid (p5.out.trans q6)
  have r6 := hid (r5.out.trans q6)
  clear q6 kI1
  go_wp2_with fail
  refine (kE.out w6 o6.out).mono ?_
  rintro e w7 ⟨vf, Qf, rfl, hQf, ⟨af, cf, rfl, nf, ff⟩, q7⟩
  obtain rfl := kU.out Q Qf [] kQc.out hQf
  have o7 := hid (o6.out.trans q7)
  have p7 := hid (p6.out.trans q7)
  have r7 := hid (r6.out.trans q7)
  have kI2 := hid (sameInts_one ac af cc cf Q w7 (kc.out.1.old p7.out) nf hQl)
  clear nf ff q7 hQf
  go_wp2_with fail
  refine kI2.out.mono ?_
  rintro e w8 ⟨rfl, q8⟩
  have o8 := hid (o7.out.trans q8)
  have p8 := hid (p7.out.trans q8)
  have r8 := hid (r7.out.trans q8)
  clear q8 kI2
  have wa : Hid (Wl w8 (fun k => w.heap.size ≤ k ∧ k < w1.heap.size) aa R.length) := ((((ListOf.wl ka.out.1 ka.out.2).frm p2.out (fun _ _ h => h)).frm p3.out (fun _ _ h => h)).frm p8.out (fun _ _ h => h))
  have wc : Hid (Wl w8 (fun k => w2.heap.size ≤ k ∧ k < w3.heap.size) ac Q.length) := (ListOf.wl kc.out.1 kc.out.2).frm p8.out (fun _ _ h => h)
  have nb8 := hid ((kb.out.1.old p3.out).old p8.out)
  have nd8 := hid (kd.out.1.old r8.out)
  have hgb : Hid (∀ g o, ab = some ⟨g, o, none⟩ → w1.heap.size ≤ g) := fun g o e => (kb.out.2 g o e).1
  have hgd : Hid (∀ g o, ad = some ⟨g, o, none⟩ → w3.heap.size ≤ g) := fun g o e => (kd.out.2 g o e).1
  have hgb2 : Hid (0 < R.length → ∀ g o, ab = some ⟨g, o, none⟩ → g < w2.heap.size) := fun h0 g o e => by
    obtain ⟨g', o', e', hc⟩ := kb.out.1 0 (by simp [nums]; omega)
    rw [e] at e'
    simp only [Option.some.injEq, Addr.mk.injEq, and_true] at e'
    obtain ⟨rfl, rfl⟩ := e'
    exact World.block_lt_of_cell? _ _ hc
  have z1 := o1.out.size
  have z2 := p2.out.size
  have z3 := p3.out.size
  have z4 := p4.out.size
  have kz : Hid (w.heap.size ≤ w1.heap.size ∧ w1.heap.size ≤ w2.heap.size ∧ w2.heap.size ≤ w3.heap.size ∧ w3.heap.size ≤ w4.heap.size) := ⟨z1, z2, z3, z4⟩
  obtain ⟨SA, hSA⟩ : ∃ SA : Nat → Prop, (fun k => w.heap.size ≤ k ∧ k < w1.heap.size) = SA := ⟨_, rfl⟩
  obtain ⟨SC, hSC⟩ : ∃ SC : Nat → Prop, (fun k => w2.heap.size ≤ k ∧ k < w3.heap.size) = SC := ⟨_, rfl⟩
  have kSA : Hid (∀ k, SA k ↔ w.heap.size ≤ k ∧ k < w1.heap.size) := fun k => by rw [← hSA]
  have kSC : Hid (∀ k, SC k ↔ w2.heap.size ≤ k ∧ k < w3.heap.size) := fun k => by rw [← hSC]
  rw [hSA] at wa
  rw [hSC] at wc
  clear hSA hSC z1 z2 z3 z4 ka kb kc kd o1 o2 o3 o4 o5 o6 o7 p2 p3 p4 p5 p6 p7 p8 r5 r6 r7 r8 kl kB kS
  go_wp2_with fail
  go_loopw [11] (fun t wr => ∃ k : Nat, k ≤ R.length ∧ t = .int .i64 (k : Int) ∧ Hid (Frm SA w8 wr) ∧ Hid (Wl wr SA aa R.length)) (fun t _ => R.length - (intOf t).toNat)
  case atStart => exact ⟨0, Nat.zero_le _, rfl, Frm.refl _ _, wa⟩
  case round =>
    obtain ⟨k, hk, rfl, hF, hW⟩ := hrel
    by_cases hlt : k < R.length
    · obtain ⟨g, rfl, ⟨u, c1⟩, f1⟩ := hW.out.at' k hlt
      have hk' : (k : Int) < (R.length : Int) := by omega
      have hF2 : Hid (Frm SA w8 (wr.setCell ⟨g, k, none⟩ (.int .i64 (-9)))) := Frm.setCell hF.out ⟨g, k, none⟩ (Or.inr (hW.out.S (by omega) g 0 rfl)) _
      have hW2 := hid (hW.out.set k (.int .i64 (-9)))
      clear hF hW
      go_wp2_with fail
      go_roundw
      case rel => exact ⟨k + 1, by omega, by go_num, hF2, hW2⟩
      case measure => simp [intOf]; omega
    · have wc2 : Hid (Wl wr SC ac Q.length) := wc.out.frm hF.out (fun k hk h => by
        have h1 := (kSC.out k).1 hk
        have h2 := (kSA.out k).1 h
        have := kz.out
        omega)
      clear wc wa hW
      obtain ⟨W9, rfl⟩ : ∃ W9, W9 = wr := ⟨_, rfl⟩
      go_wp2_with fail
      go_loopw [12] (fun t wr => ∃ k : Nat, k ≤ Q.length ∧ t = .int .i64 (k : Int) ∧ Hid (Frm SC W9 wr) ∧ Hid (Wl wr SC ac Q.length)) (fun t _ => Q.length - (intOf t).toNat)
      case atStart => exact ⟨0, Nat.zero_le _, rfl, Frm.refl _ _, wc2⟩
      case round =>
        obtain ⟨j, hj, rfl, hF2, hW2⟩ := hrel
        by_cases hlt2 : j < Q.length
        · obtain ⟨g, rfl, ⟨u, c1⟩, f1⟩ := hW2.out.at' j hlt2
          have hj' : (j : Int) < (Q.length : Int) := by omega
          have hF3 : Hid (Frm SC W9 (wr.setCell ⟨g, j, none⟩ (.int .i64 (-9)))) := Frm.setCell hF2.out ⟨g, j, none⟩ (Or.inr (hW2.out.S (by omega) g 0 rfl)) _
          have hW3 := hid (hW2.out.set j (.int .i64 (-9)))
          clear hF2 hW2
          go_wp2_with fail
          go_roundw
          case rel => exact ⟨j + 1, by omega, by go_num, hF3, hW3⟩
          case measure => simp [intOf]; omega
        · have hT : Hid (Frm (fun k => SA k ∨ SC k) w8 wr) := Frm.trans (Frm.mono hF.out (fun _ _ h => Or.inl h)) hF2.out (fun _ _ h => Or.inr h)
          have oT : Hid (Old w wr) := Frm.trans o8.out hT.out (fun k hk h => by
            have := kz.out
            rcases h with h | h
            · have := (kSA.out k).1 h; omega
            · have := (kSC.out k).1 h; omega)
          have nbT : Hid (NumsC .i64 wr ab (nums R)) := nb8.out.frm hT.out (fun h0 g o e h => by
            have h0' : 0 < R.length := by simpa [nums] using h0
            have h3 := hgb.out g o e
            have h4 := hgb2.out h0' g o e
            have := kz.out
            rcases h with h | h
            · have := (kSA.out g).1 h; omega
            · have := (kSC.out g).1 h; omega)
          have ndT : Hid (NumsC .i64 wr ad (nums Q)) := nd8.out.frm hT.out (fun h0 g o e h => by
            have h3 := hgd.out g o e
            have := kz.out
            rcases h with h | h
            · have := (kSA.out g).1 h; omega
            · have := (kSC.out g).1 h; omega)
          clear hF hF2 hW2 nb8 nd8 wc2
          go_wp2_with fail
          refine (kD.out wr oT.out).mono ?_
          rintro e w10 ⟨vg, Rg, rfl, hRg, ⟨ag, cg, rfl, ng, fg⟩, q10⟩
          obtain rfl := kU.out R Rg x kRa.out hRg
          have o10 := hid (oT.out.trans q10)
          have kI3 := hid (sameInts_one ab ag cb cg R w10 (nbT.out.old q10) ng hRl)
          have nd10 := hid (ndT.out.old q10)
          clear ng fg q10 hRg
          go_wp2_with fail
          refine kI3.out.mono ?_
          rintro e w11 ⟨rfl, q11⟩
          have o11 := hid (o10.out.trans q11)
          have nd11 := hid (nd10.out.old q11)
          clear q11 kI3
          go_wp2_with fail
          refine (kE.out w11 o11.out).mono ?_
          rintro e w12 ⟨vh, Qh, rfl, hQh, ⟨ah, ch, rfl, nh, fh⟩, q12⟩
          obtain rfl := kU.out Q Qh [] kQc.out hQh
          have o12 := hid (o11.out.trans q12)
          have kI4 := hid (sameInts_one ad ah cd ch Q w12 (nd11.out.old q12) nh hQl)
          clear nh fh q12 hQh
          go_wp2_with fail
          refine kI4.out.mono ?_
          rintro e w13 ⟨rfl, q13⟩
          have o13 := hid (o12.out.trans q13)
          clear q13 kI4
          go_wp2_with fail
          go_ret
          exact ⟨rfl, o13.out⟩
end Go.Proofs.Ytjkgijfddgppjaa
