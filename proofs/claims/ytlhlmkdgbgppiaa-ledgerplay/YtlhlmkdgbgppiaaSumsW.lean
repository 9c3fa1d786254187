/- LedgerSums walked. -/
import Derived.Test.YtlhlmkdgbgppiaaJ11
namespace Go.Proofs.Ytlhlmkdgbgppiaa
open Go.RowKit Go.Shelf Go.Maps

/-- Texts, and lists of entries, that came in. -/
def StrC (w : World) (ao : Option Addr) (N : List (List UInt8)) : Prop := ∀ i (h : i < N.length), ∃ g o, ao = some ⟨g, o, none⟩ ∧ w.cell? ⟨g, o + i, none⟩ = some (.string ⟨N[i].toArray⟩)
def PsC (w : World) (bo : Option Addr) (Q : List (List Es)) : Prop := ∀ i (h : i < Q.length), ∃ g o a c, bo = some ⟨g, o, none⟩ ∧ w.cell? ⟨g, o + i, none⟩ = some (.slice a Q[i].length c) ∧ EsC w a Q[i]

/-- Where it stands. -/
structure SI (w X : World) (x : Lx) (m p : Nat) : Prop where
  h : Ldg X x
  k : OkL x
  n : New w.heap.size x
  l : x.L.length ≤ m
  p : x.P.length ≤ p
  o : Old w X
theorem SI.old {w X Y : World} {x : Lx} {m p : Nat} (s : SI w X x m p) (o : Old X Y) : SI w Y x m p := ⟨s.h.old o, s.k, s.n, s.l, s.p, s.o.trans o⟩


set_option maxRecDepth 100000 in
set_option maxHeartbeats 16000000 in
theorem sums_walk (ao bo : Option Addr) (ca cb : Nat) (N : List (List UInt8)) (b : Int) (Q : List (List Es)) (w : World) (hN : StrC w ao N) (hQ : PsC w bo Q) (hs : ∀ q ∈ Q, ∀ e ∈ q, e.1.length ≤ maxLen) :
    Calls Try.prog 4 #[.slice ao N.length ca, .int .i64 b, .slice bo Q.length cb] w fun e w' => e = .returned (.bool true) ∧ Old w w' := by
  have kN := hid hN
  have kQ := hid hQ
  have ks := hid hs
  clear hN hQ hs
  by_cases h1 : 50 < N.length
  · have h1' : (50 : Int) < (N.length : Int) := by omega
    clear h1
    go_enter Try.func4, Try.ntmps4
    go_wp2_with fail
    refine (lknown_any w).mono ?_
    rintro e w1 ⟨rfl, o1⟩
    have ko := hid o1
    clear o1
    go_wp2_with fail
    go_ret
    exact ⟨rfl, ko.out⟩
  have hN1 : ¬ ((50 : Int) < (N.length : Int)) := by omega
  have hN50 : (N.length : Int) ≤ 50 := by omega
  by_cases h2 : 60 < Q.length
  · have h2' : (60 : Int) < (Q.length : Int) := by omega
    clear h1 h2
    go_enter Try.func4, Try.ntmps4
    go_wp2_with fail
    refine (lknown_any w).mono ?_
    rintro e w1 ⟨rfl, o1⟩
    have ko := hid o1
    clear o1
    go_wp2_with fail
    go_ret
    exact ⟨rfl, ko.out⟩
  have hQ1 : ¬ ((60 : Int) < (Q.length : Int)) := by omega
  have hQ60 : (Q.length : Int) ≤ 60 := by omega
  clear h1 h2
  go_enter Try.func4, Try.ntmps4
  go_wp2_with fail
  refine (lnew_any w).mono ?_
  rintro e w1 ⟨rfl, o1, h1, z1⟩
  have kS0 : Hid (SI w w1 (Lx.fresh w.heap.size) 0 0) := hid ⟨h1, ok_fresh _, New.fresh _, Nat.le_refl _, Nat.le_refl _, o1⟩
  obtain ⟨x0, hx0⟩ : ∃ x0, Lx.fresh w.heap.size = x0 := ⟨_, rfl⟩
  rw [hx0] at kS0 ⊢
  clear hx0 h1 z1 o1
  unfold Lx.ptr
  obtain ⟨lb, hlb⟩ : ∃ lb, x0.lb = lb := ⟨_, rfl⟩
  rw [hlb]
  have klb := hid hlb
  clear hlb
  go_wp2_with fail
  go_loopw [8] (fun t wr => ∃ (k : Nat), k ≤ N.length ∧ t = .int .i64 (k : Int) ∧ Hid (∃ x : Lx, x.lb = lb ∧ SI w wr x k 0)) (fun t _ => N.length - (intOf t).toNat)
  case atStart => exact ⟨0, Nat.zero_le _, rfl, hid ⟨x0, klb.out, kS0.out⟩⟩
  case round =>
    clear kS0
    obtain ⟨k, hk, rfl, hX⟩ := hrel
    by_cases hlt : k < N.length
    · have hlt' : (k : Int) < (N.length : Int) := by omega
      obtain ⟨x, hxl, hS⟩ := hX.out
      obtain ⟨g, o, hao, c0⟩ := kN.out k hlt
      subst hao
      have c0 := hS.o.cell c0
      have kO := hid (open_both x N[k] b wr hS.h hS.k)
      unfold Lx.ptr at kO
      rw [hxl] at kO
      have kS := hid hS
      have kx := hid hxl
      obtain ⟨nm, hnm⟩ : ∃ nm, N[k] = nm := ⟨_, rfl⟩
      rw [hnm] at c0 kO
      clear hnm hS hX hxl
      go_wp2_with fail
      refine kO.out.mono ?_
      rintro e w2 ⟨a, r, rfl, y, g1, g2, g3, g4, g5, g6⟩
      have kY : Hid (∃ y : Lx, y.lb = lb ∧ SI w w2 y (k + 1) 0) := hid ⟨y, by rw [g3.lb, kx.out], g1, g2, kS.out.n.goes g3 kS.out.o.size, by have := kS.out.l; omega, by rw [g4]; exact kS.out.p, Frm.trans kS.out.o g6 (fun i hi hs => by have := kS.out.n i (Or.inr (Or.inr hs)); omega)⟩
      clear g1 g2 g3 g4 g5 g6 kS kO
      go_wp2_with fail
      go_roundw
      case rel => exact ⟨k + 1, by omega, by go_num, kY⟩
      case measure => simp [intOf]; omega
    · obtain rfl : k = N.length := by omega
      obtain ⟨x1, hx1, hS1⟩ := hX.out
      have kS1 : Hid (SI w wr x1 50 0) := hid ⟨hS1.h, hS1.k, hS1.n, by have := hS1.l; omega, hS1.p, hS1.o⟩
      have kx1 := hid hx1
      clear hX hS1 hx1
      go_wp2_with fail
      go_loopw [7, 9] (fun t7 t9 wr => ∃ (k : Nat) (x : Lx), k ≤ Q.length ∧ t9 = .int .i64 (k : Int) ∧ t7 = .pointer (some ⟨x.lb, 0, none⟩) ∧ Hid (SI w wr x 50 (2 * k))) (fun _ t _ => Q.length - (intOf t).toNat)
      case atStart => exact ⟨0, x1, Nat.zero_le _, rfl, by rw [kx1.out], kS1⟩
      case round =>
        clear kS1 kx1
        obtain ⟨k, x, hk, rfl, rfl, hS⟩ := hrel
        by_cases hlt : k < Q.length
        · have hlt' : (k : Int) < (Q.length : Int) := by omega
          obtain ⟨g, o, aq, cq, hbo, hcq, hEq⟩ := kQ.out k hlt
          subst hbo
          have kEl := hid (ks.out (Q[k]'hlt) (List.getElem_mem hlt))
          obtain ⟨E, hE⟩ : ∃ E, Q[k] = E := ⟨_, rfl⟩
          rw [hE] at hcq hEq kEl
          clear hE
          have kE := hid hEq
          have kcq := hid hcq
          have kH := hid (fun W (s : SI w W x 50 (2 * k)) => hads_any x W s.h s.k (by have := s.l; omega))
          have kMay := hid (fun W (s : SI w W x 50 (2 * k)) => may2_any x aq cq E W s.h s.k (kE.out.old s.o) kEl.out)
          have kPb := hid (fun W (s : SI w W x 50 (2 * k)) hz => post_bad x aq cq E W s.h s.k (kE.out.old s.o) kEl.out hz)
          have kPg := hid (fun W (s : SI w W x 50 (2 * k)) hz => post_good x aq cq E W s.h s.k (kE.out.old s.o) kEl.out (by have := s.p; omega) hz)
          have kNo := hid (fun (y : Lx) W (h : Ldg W y) (hk : OkL y) => nought_any y W h hk)
          have kok := hid (fun hz => planP_ok (L := x.L) (A := x.A) (E := E) hS.out.k.len hz)
          obtain ⟨z, hz⟩ : ∃ z, planZ x.L x.A E = z := ⟨_, rfl⟩
          rw [hz] at kMay kPb kPg kok
          have kz := hid hz
          unfold Lx.ptr at kH kMay kPb kPg kNo
          have hlx := hid hS.out.k.len
          clear hcq hEq hz
          go_wp2_with fail
          refine (kH.out wr hS.out).mono ?_
          rintro e w1 ⟨v1, rfl, hR1, o1⟩
          obtain ⟨a1, c1, hv1, -⟩ := hR1.form
          subst hv1
          have kR1 := hid hR1
          have kS1 := hid (hS.out.old o1)
          have kwr := hid o1
          have hcq1 := kS1.out.o.cell kcq.out
          clear hR1 o1 kE
          have hbx := hid (fun q (hq : x.all q) => (hS.out.h.tag hq).1)
          obtain ⟨B1, hB1⟩ : ∃ B, wr.heap.size = B := ⟨_, rfl⟩
          rw [hB1] at kR1 hbx
          have kB1 := hid hB1
          clear hB1
          go_wp2_with fail
          refine (kMay.out w1 kS1.out).mono ?_
          rintro e w2 ⟨rfl, o2⟩
          have kS2 := hid (kS1.out.old o2)
          have kF2 := hid o2
          have hcq2 := o2.cell hcq1
          clear o2 hcq1
          by_cases hz0 : z = 0
          · subst hz0
            go_wp2_with fail
            refine (kPg.out w2 kS2.out trivial).mono ?_
            rintro e w3 ⟨rfl, pv, hL3, hO3, hF3, hpv⟩
            obtain ⟨hq1, hq2⟩ := kok.out trivial
            have hG3 := goes_posted (x := x) (q := planP x.L E) (w := w2) hpv
            have kL3 := hid hL3
            have kO3 := hid hO3
            have kq1 := hid hq1
            have kN3 := hid (kS2.out.n.goes hG3 kS2.out.o.size)
            have hw1 := kF2.out.size
            have hxw : ∀ q, x.wrote q → q < B1 := fun q hq => hbx.out q (Or.inr (Or.inr (wrote_own hq)))
            have kxw := hid hxw
            have kF3 : Hid (Frm (fun q => x.wrote q ∨ w1.heap.size ≤ q) w1 w3) := hid (Frm.trans (Frm.mono kF2.out (fun _ _ h => h.elim)) hF3 (fun _ _ h => Or.inl h))
            have kP3 := hid (fun q (hq : (x.posted (planP x.L E) pv).wrote q) => (show x.wrote q ∨ w1.heap.size ≤ q by
              rcases hq with h | h | h
              · exact Or.inl (Or.inl h)
              · exact Or.inl (Or.inr (Or.inl h))
              · rcases hpv q h with h | h
                · exact Or.inl (Or.inr (Or.inr h))
                · exact Or.inr (by omega)))
            have kCp := hid (fun W (h : Ldg W (x.posted (planP x.L E) pv)) => lcopy_any (x.posted (planP x.L E) pv) W h hO3 (by have := kS2.out.p; simp [Lx.posted]; omega))
            have kBk := hid (fun W (h : Ldg W (x.posted (planP x.L E) pv)) => back_both x (planP x.L E) pv W h kS2.out.k hO3 hq1 (by have := kS2.out.p; omega))
            have kNo3 := hid (fun W (h : Ldg W (x.posted (planP x.L E) pv)) => kNo.out (x.posted (planP x.L E) pv) W h hO3)
            have hptr : (x.posted (planP x.L E) pv).lb = x.lb := rfl
            unfold Lx.ptr at kCp kBk
            simp only [hptr] at kCp kBk kNo3
            have kpl := hid (show (x.posted (planP x.L E) pv).P.length = x.P.length + 1 by simp [Lx.posted])
            have kLl := hid (show (x.posted (planP x.L E) pv).L = x.L from rfl)
            have kl3 := hid hptr
            clear hq1 hq2 hG3 hw1 hxw hpv hF3 hO3 hL3 hcq2 kok hptr
            generalize x.posted (planP x.L E) pv = x3 at *
            go_wp2_with fail
            refine (kNo3.out w3 kL3.out).mono ?_
            rintro e w4 ⟨rfl, o4⟩
            have kL4 := hid (kL3.out.old o4)
            have kF4 := hid (Frm.trans kF3.out (Frm.mono o4 (fun _ _ h => h.elim)) (fun _ _ h => h))
            clear o4
            go_wp2_with fail
            refine (kCp.out w4 kL4.out).mono ?_
            rintro e w5 ⟨y, rfl, hY5, hT, o5, hN5⟩
            have kL5 := hid (kL4.out.old o5)
            have kF5 := hid (Frm.trans kF4.out (Frm.mono o5 (fun _ _ h => h.elim)) (fun _ _ h => h))
            have kY5 := hid hY5
            have kT := hid hT
            have kOy := hid (kO3.out.twin hT)
            have kNy := hid hN5
            have kx34 := hid (fun q (hq : x3.all q) => (kL4.out.tag hq).1)
            have ko5 := hid o5
            clear hY5 hT o5 hN5
            go_wp2_with fail
            refine (kBk.out w5 kL5.out).mono ?_
            rintro e w6 (⟨⟨a, rfl⟩, z, hZ, hOz, hGz, hAz, hLz, hPz, hFz⟩ | ⟨rfl, o6⟩)
            · have kZ6 := hid hZ
              have kF6 := hid (Frm.trans kF5.out hFz (fun q hq hs => kP3.out q hs))
              have kNz := hid (fun W (o : Old w6 W) => kNo.out z W (hZ.old o) hOz)
              have kHz := hid (fun W (o : Old w6 W) => hads_any z W (hZ.old o) hOz (by rw [hLz]; have := kS2.out.l; omega))
              unfold Lx.ptr at kHz
              rw [hGz.lb, kl3.out] at kNz kHz
              have kAz := hid hAz
              have kzf := hid (show z.lb = x.lb by rw [hGz.lb, kl3.out])
              have kOz := hid hOz
              have kNwz := hid (kN3.out.goes hGz (by have := kS2.out.o.size; have := kF2.out.size; have := kF5.out.size; have := kwr.out.size; have := kS1.out.o.size; omega))
              have kLz := hid (show z.L.length ≤ 50 by rw [hLz]; exact kS2.out.l)
              have kPz := hid (show z.P.length ≤ 2 * k + 2 by rw [hPz]; have := kS2.out.p; omega)
              have kYz := hid (kY5.out.frm hFz (fun q hq hs => by
                have h1 := kNy.out q hq
                have h2 := kx34.out q (Or.inr (Or.inr (wrote_own hs)))
                omega) (fun q arr t e hs => kL5.out.notP q arr t e (wrote_own hs)))
              clear hZ hOz hGz hAz hLz hPz hFz
              go_wp2_with fail
              refine (kNz.out w6 (Old.refl _)).mono ?_
              rintro e w7 ⟨rfl, o7⟩
              have kF7 := hid (Frm.trans kF6.out (Frm.mono o7 (fun _ _ h => h.elim)) (fun _ _ h => h))
              have ko7 := hid o7
              clear o7
              go_wp2_with fail
              refine (kHz.out w7 ko7.out).mono ?_
              rintro e w8 ⟨v8, rfl, hR8, o8⟩
              obtain ⟨a8, c8, hv8, -⟩ := hR8.form
              subst hv8
              have ko8 := hid (ko7.out.trans o8)
              have kF8 := hid (Frm.trans kF7.out (Frm.mono o8 (fun _ _ h => h.elim)) (fun _ _ h => h))
              have hR18 := kR1.out.frm kF8.out (fun q hq1 hq2 hs => by
                rcases hs with hs | hs
                · have := kxw.out q hs; omega
                · omega)
              rw [kAz.out] at hR8
              have kSm := hid (same_hads B1 w7.heap.size _ _ x.A w8 hR18 hR8 (by have := hlx.out; have := kS2.out.l; omega))
              rw [kAz.out]
              clear o8 hR8 hR18
              go_wp2_with fail
              refine kSm.out.mono ?_
              rintro e w9 ⟨rfl, o9⟩
              have ko9 := hid (ko8.out.trans o9)
              have kOld := hid (show Old w w9 from Frm.trans kS1.out.o (Frm.trans kF8.out (Frm.mono o9 (fun _ _ h => h.elim)) (fun _ _ h => h)) (fun i hi hs => by
                rcases hs with hs | hs
                · have := kS2.out.n i (Or.inr (Or.inr (wrote_own hs))); omega
                · have := kS1.out.o.size; omega))
              have kwle := hid (show w.heap.size ≤ w4.heap.size by have := kS1.out.o.size; have := kF4.out.size; omega)
              clear o9
              go_wp2_with fail
              · refine ⟨⟨k + 1, y, by omega, by go_num, rfl, hid ⟨kYz.out.old ko9.out, kOy.out, fun q hq => Nat.le_trans kwle.out (kNy.out q hq), by rw [kT.out.l, kLl.out]; exact kS2.out.l, by rw [kT.out.p, kpl.out]; have := kS2.out.p; omega, kOld.out⟩⟩, by simp [intOf]; omega⟩
              · refine ⟨⟨k + 1, z, by omega, by go_num, by rw [kzf.out], hid ⟨kZ6.out.old ko9.out, kOz.out, kNwz.out, kLz.out, by have := kPz.out; omega, kOld.out⟩⟩, by simp [intOf]; omega⟩
            · have kL6 := hid (kL5.out.old o6)
              have kF6 := hid (Frm.trans kF5.out (Frm.mono o6 (fun _ _ h => h.elim)) (fun _ _ h => h))
              clear o6
              go_wp2_with fail
              refine (kNo3.out w6 kL6.out).mono ?_
              rintro e w7 ⟨rfl, o7⟩
              have kL7 := hid (kL6.out.old o7)
              have kOld := hid (show Old w w7 from Frm.trans kS1.out.o (Frm.trans kF6.out (Frm.mono o7 (fun _ _ h => h.elim)) (fun _ _ h => h)) (fun i hi hs => by
                rcases hs with hs | hs
                · have := kS2.out.n i (Or.inr (Or.inr (wrote_own hs))); omega
                · have := kS1.out.o.size; omega))
              clear o7
              go_wp2_with fail
              go_roundw
              case rel => exact ⟨k + 1, x3, by omega, by go_num, by rw [kl3.out], hid ⟨kL7.out, kO3.out, kN3.out, by rw [kLl.out]; exact kS2.out.l, by rw [kpl.out]; have := kS2.out.p; omega, kOld.out⟩⟩
              case measure => simp [intOf]; omega
          · have hzq : (z != 0) = true := by simpa using hz0
            have hzz : (z != z) = false := by simp
            go_wp2_with fail
            refine (kPb.out w2 kS2.out hz0).mono ?_
            rintro e w3 ⟨rfl, o3⟩
            have kS3 := hid (kS2.out.old o3)
            have kF3 := hid (kF2.out.trans o3)
            clear o3 hz0 hcq2
            go_wp2_with fail
            refine (kNo.out x w3 kS3.out.h kS3.out.k).mono ?_
            rintro e w4 ⟨rfl, o4⟩
            have kS4 := hid (kS3.out.old o4)
            have kF4 := hid (kF3.out.trans o4)
            clear o4
            go_wp2_with fail
            refine (kH.out w4 kS4.out).mono ?_
            rintro e w5 ⟨v5, rfl, hR5, o5⟩
            obtain ⟨a5, c5, hv5, -⟩ := hR5.form
            subst hv5
            have kS5 := hid (kS4.out.old o5)
            have hR15 := kR1.out.frm (kF4.out.trans o5) (fun _ _ _ h => h)
            have kSm := hid (same_hads B1 w4.heap.size _ _ x.A w5 hR15 hR5 (by have := hlx.out; have := kS5.out.l; omega))
            clear o5 hR5 hR15
            go_wp2_with fail
            refine kSm.out.mono ?_
            rintro e w6 ⟨rfl, o6⟩
            have kS6 := hid (kS5.out.old o6)
            clear o6
            go_wp2_with fail
            go_roundw
            case rel => exact ⟨k + 1, x, by omega, by go_num, rfl, hid ⟨kS6.out.h, kS6.out.k, kS6.out.n, kS6.out.l, by have := kS6.out.p; omega, kS6.out.o⟩⟩
            case measure => simp [intOf]; omega
        · go_wp2_with fail
          refine (lknown_any _).mono ?_
          rintro e w9 ⟨rfl, o9⟩
          have ko := hid (hS.out.o.trans o9)
          clear o9
          go_wp2_with fail
          go_ret
          exact ⟨rfl, ko.out⟩
end Go.Proofs.Ytlhlmkdgbgppiaa
