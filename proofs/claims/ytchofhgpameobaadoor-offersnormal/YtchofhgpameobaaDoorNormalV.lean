/- OffersNormal, walked. -/
import Derived.Test.YtchofhgpameobaaDoorNormalW
namespace Go.Proofs.YtchofhgpameobaaDoor
open Go.RowKit

/-- What lies in memory once all is told. -/
structure Pk (w : World) (A B N V : List Off) (s1 s2 s3 s4 s5 s6 s7 s8 : Nat) (vm vo vx vy vv vw vn vl : Value) (W : World) : Prop where
  old : Old w W
  lm : Lent s1 W vm A
  lo : Lent s2 W vo B
  nx : NewO s3 W vx N
  ny : NewO s4 W vy N
  nv : NewO s5 W vv V
  nw : NewO s6 W vw V
  nn : NewO s7 W vn N
  nl : NewO s8 W vl V
  rx : Rw W s3 vx N.length
  rv : Rw W s5 vv V.length
theorem Pk.go {w : World} {A B N V : List Off} {s1 s2 s3 s4 s5 s6 s7 s8 : Nat} {vm vo vx vy vv vw vn vl : Value} {W W' : World} (h : Pk w A B N V s1 s2 s3 s4 s5 s6 s7 s8 vm vo vx vy vv vw vn vl W) (o : Old W W') : Pk w A B N V s1 s2 s3 s4 s5 s6 s7 s8 vm vo vx vy vv vw vn vl W' :=
  ⟨h.old.trans o, h.lm.old o, h.lo.old o, h.nx.old o, h.ny.old o, h.nv.old o, h.nw.old o, h.nn.old o, h.nl.old o, h.rx.kept o (fun _ _ h => h), h.rv.kept o (fun _ _ h => h)⟩

theorem NewO.offc {B : Nat} {w : World} {ao : Option Addr} {cap : Nat} {L : List Off} (h : NewO B w (.slice ao L.length cap) L) : OffC w ao L := by
  obtain ⟨a, c, e, h1, -⟩ := h.off
  simp only [Value.slice.injEq, true_and] at e
  rw [e.1]
  exact h1
theorem Lent.offc {B : Nat} {w : World} {b n cap : Nat} {L : List Off} (h : Lent B w (.slice (some ⟨b, 0, none⟩) n cap) L) : OffC w (some ⟨b, 0, none⟩) L := by
  obtain ⟨b', c, e, _, _, ow⟩ := h
  simp only [Value.slice.injEq, Option.some.injEq, Addr.mk.injEq, and_true] at e
  rw [e.1]
  exact ow.front.off

set_option maxRecDepth 100000 in
set_option maxHeartbeats 16000000 in
theorem normal_walk (ao bo : Option Addr) (ca cb : Nat) (A B : List Off) (c : Int) (hc : -9223372036854775808 ≤ c ∧ c ≤ 9223372036854775807) (w : World) (hA : OffC w ao A) (hB : OffC w bo B) (hna : ao = none → ca = 0) (hnb : bo = none → cb = 0) (hla : A.length ≤ 9223372036854775807) (hlb : B.length ≤ 9223372036854775807) (hAx : ∀ x ∈ A, x.1 < 4294967296) (hBx : ∀ x ∈ B, x.1 < 4294967296) (hAm : ∀ x ∈ A, x.2 ≤ 9223372036854775807) (hT : Tabs w) :
    Calls Tryd.prog 5 #[.slice ao A.length ca, .slice bo B.length cb, .int .i64 c] w fun e w' => e = .returned (.bool true) ∧ Old w w' := by
  have q1 : Old w (w.alloc (.cells #[.slice ao A.length ca, .slice bo B.length cb] 22)) := (Old.refl w).alloc _
  have h1 := heap_new w (.cells #[.slice ao A.length ca, .slice bo B.length cb] 22)
  have hI : InsC (w.alloc (.cells #[.slice ao A.length ca, .slice bo B.length cb] 22)) (some ⟨w.heap.size, 0, none⟩) [A, B] := by
    intro i hi
    match i, hi with
    | 0, _ => exact ⟨w.heap.size, 0, ao, ca, rfl, blk_cells h1 rfl, hA.old q1, hla, hAx⟩
    | 1, _ => exact ⟨w.heap.size, 0, bo, cb, rfl, blk_cells h1 rfl, hB.old q1, hlb, hBx⟩
  have kLo := hid (long_any (some ⟨w.heap.size, 0, none⟩) 2 [A, B] _ hI (by simp))
  have kA := hid hA
  have kB := hid hB
  have kAx := hid hAx
  have kBx := hid hBx
  have kAm := hid hAm
  have ko := hid q1
  have kT := hid hT
  have kc := hid hc
  clear q1 h1 hI hA hB hT hAx hBx hAm hc
  cases hlo : lo60 [A, B]
  · rw [hlo] at kLo
    have h60 : A.length ≤ 60 ∧ B.length ≤ 60 := by
      simp [lo60] at hlo
      omega
    clear hlo
    go_enter Tryd.func5, Tryd.ntmps5
    go_wp2_with fail
    generalize w.alloc (.cells #[.slice ao A.length ca, .slice bo B.length cb] 22) = w1 at *
    refine kLo.out.mono ?_
    rintro e w' ⟨rfl, e1⟩
    rw [e1]
    clear e1 w' kLo
    have k2 := hid (lent_any ao ca A w1 (kA.out.old ko.out) hna (by omega))
    go_wp2_with fail
    refine k2.out.mono ?_
    rintro e w2 ⟨vm, rfl, lm, o2⟩
    have ko2 := hid (ko.out.trans o2)
    have k3 := hid (lent_any bo cb B w2 (kB.out.old ko2.out) hnb (by omega))
    have klm := hid lm
    clear o2 k2 lm
    go_wp2_with fail
    refine k3.out.mono ?_
    rintro e w3 ⟨vo, rfl, lo, o3⟩
    have ko3 := hid (ko2.out.trans o3)
    have klm3 := hid (klm.out.old o3)
    have klo3 := hid lo
    obtain ⟨mb, mc, rfl, hmc, hmb, owm⟩ := klm3.out
    obtain ⟨ob, oc, rfl, hoc, hob, owo⟩ := lo
    have kM := hid owm.front.off
    have kO := hid owo.front.off
    clear o3 k3 owm owo klm
    go_wp2_with fail
    go_loopw [9] (fun t wr => ∃ k : Nat, k ≤ A.length + 2 ∧ t = .int .i64 ((k : Int) - 1) ∧ Old w3 wr) (fun t _ => A.length + 2 - (intOf t + 1).toNat)
    case atStart => exact ⟨0, by omega, rfl, Old.refl _⟩
    case round =>
      obtain ⟨k, hk, rfl, oW⟩ := hrel
      by_cases hlt : k ≤ A.length + 1
      · have hle : (k : Int) - 1 ≤ (A.length : Int) := by omega
        have kI := hid (oidle_any (some ⟨mb, 0, none⟩) mc A ((k : Int) - 1) wr (kM.out.old oW) (by omega))
        have koW := hid oW
        clear oW
        go_wp2_with fail
        refine kI.out.mono ?_
        rintro e w4 ⟨rfl, o4⟩
        have ko4 := hid (koW.out.trans o4)
        have kJ := hid (ridle_any ao ca A ((k : Int) - 1) w4 (kA.out.old (ko3.out.trans ko4.out)) (by omega) kAx.out)
        clear o4 kI koW
        generalize idleZ A ((k : Int) - 1) = iz at *
        have hbb : (iz != iz) = false := by simp
        go_wp2_with fail
        refine kJ.out.mono ?_
        rintro e w5 ⟨rfl, o5⟩
        have ko5 := hid (ko4.out.trans o5)
        clear o5 kJ
        go_wp2_with fail
        go_roundw
        case rel => exact ⟨k + 1, by omega, by first | go_num | (congr 1; omega), ko5.out⟩
        case measure => simp [intOf]; omega
      · obtain rfl : k = A.length + 2 := by omega
        have hle : ¬ ((A.length + 2 : Nat) : Int) - 1 ≤ (A.length : Int) := by omega
        have k5 := hid (normal_rw (some ⟨mb, 0, none⟩) mc A wr (kM.out.old oW) (fun h => by cases h) (by omega))
        have koW := hid oW
        have z3 := oW.size
        clear oW hlt hk
        go_wp2_with fail
        refine k5.out.mono ?_
        rintro e w5 ⟨vx, rfl, nx, rx, o5⟩
        have ko5 := hid (koW.out.trans o5)
        have z5 := o5.size
        have k6 := hid (normal_rw (some ⟨mb, 0, none⟩) mc A w5 (kM.out.old ko5.out) (fun h => by cases h) (by omega))
        have knx := hid nx
        have krx := hid rx
        clear nx rx o5 k5 koW
        go_wp2_with fail
        refine k6.out.mono ?_
        rintro e w6 ⟨vy, rfl, ny, -, o6⟩
        have ko6 := hid (ko5.out.trans o6)
        have z6 := o6.size
        have k7 := hid (lower_rw c kc.out (some ⟨mb, 0, none⟩) mc A w6 (kM.out.old ko6.out) kAm.out (by omega))
        have kny := hid ny
        have kp6 := hid o6
        clear ny o6 k6 ko5
        go_wp2_with fail
        refine k7.out.mono ?_
        rintro e w7 ⟨vv, rfl, nv, rv, o7⟩
        have ko7 := hid (ko6.out.trans o7)
        have z7 := o7.size
        have k8 := hid (lower_rw c kc.out (some ⟨mb, 0, none⟩) mc A w7 (kM.out.old ko7.out) kAm.out (by omega))
        have knv := hid nv
        have krv := hid rv
        have kp7 := hid o7
        clear nv rv o7 k7 ko6
        go_wp2_with fail
        refine k8.out.mono ?_
        rintro e w8 ⟨vw, rfl, nw, -, o8⟩
        have ko8 := hid (ko7.out.trans o8)
        have z8 := o8.size
        have k9 := hid (rnormal_any ao ca A w8 (kA.out.old (ko3.out.trans ko8.out)) kAx.out (by omega))
        rw [refN_is kAx.out] at k9
        have knw := hid nw
        have kp8 := hid o8
        clear nw o8 k8 ko7
        go_wp2_with fail
        refine k9.out.mono ?_
        rintro e w9 ⟨vn, rfl, nn, o9⟩
        have ko9 := hid (ko8.out.trans o9)
        have z9 := o9.size
        have k10 := hid (rlower_any c kc.out ao ca A w9 (kA.out.old (ko3.out.trans ko9.out)) kAm.out (by omega))
        have knn := hid nn
        have kp9 := hid o9
        clear nn o9 k9 ko8
        go_wp2_with fail
        refine k10.out.mono ?_
        rintro e w10 ⟨vl, rfl, nl, o10⟩
        have z10 := o10.size
        have hbx := hid (fun k hk => knx.out.blk (k := k) hk)
        have hby := hid (fun k hk => kny.out.blk (k := k) hk)
        have hbv := hid (fun k hk => knv.out.blk (k := k) hk)
        have hbw := hid (fun k hk => knw.out.blk (k := k) hk)
        have hbn := hid (fun k hk => knn.out.blk (k := k) hk)
        have hbl := hid (fun k hk => nl.blk (k := k) hk)
        have hbm := hid (fun k hk => klm3.out.blk (k := k) hk)
        have hNl : (normL A).length ≤ 60 := by have := normL_len' A; omega
        have hVl : (lowL c A).length ≤ 60 := by have := lowL_len c A; omega
        have pk : Hid (Pk w A B (normL A) (lowL c A) w1.heap.size w2.heap.size wr.heap.size w5.heap.size w6.heap.size w7.heap.size w8.heap.size w9.heap.size (.slice (some ⟨mb, 0, none⟩) A.length mc) (.slice (some ⟨ob, 0, none⟩) B.length oc) vx vy vv vw vn vl w10) := by
          have p9 := o10
          have p8 := kp9.out.trans p9
          have p7 := kp8.out.trans p8
          have p6 := kp7.out.trans p7
          have p5 := kp6.out.trans p6
          exact ⟨ko3.out.trans (ko9.out.trans p9), klm3.out.old (ko9.out.trans p9), klo3.out.old (ko9.out.trans p9), knx.out.old p5, kny.out.old p6, knv.out.old p7, knw.out.old p8, knn.out.old p9, nl, krx.out.kept p5 (fun _ _ h => h), krv.out.kept p7 (fun _ _ h => h)⟩
        obtain ⟨xa, xc, rfl, -, -⟩ := NewO.off knx.out
        obtain ⟨ya, yc, rfl, -, -⟩ := NewO.off kny.out
        obtain ⟨va, vc, rfl, -, -⟩ := NewO.off knv.out
        obtain ⟨wa, wc, rfl, -, -⟩ := NewO.off knw.out
        obtain ⟨na, nc, rfl, -, -⟩ := NewO.off knn.out
        obtain ⟨la, lc, rfl, -, -⟩ := NewO.off nl
        have z1 := ko.out.size
        have z2 := ko2.out.size
        have zz3 := ko3.out.size
        clear nl o10 k10 ko9 knx kny knv knw knn krx krv kp6 kp7 kp8 kp9 klm3 klo3 kM kO
        have k11 := hid (sameO_any xa na xc nc (normL A) (normL A) w10 pk.out.nx.offc pk.out.nn.offc (by omega))
        rw [decide_eq_true rfl] at k11
        go_wp2_with fail
        refine k11.out.mono ?_
        rintro e w11 ⟨rfl, o11⟩
        have pk11 := hid (pk.out.go o11)
        have y11 := o11.size
        have k12 := hid (sameO_any va la vc lc (lowL c A) (lowL c A) w11 pk11.out.nv.offc pk11.out.nl.offc (by omega))
        rw [decide_eq_true rfl] at k12
        clear o11 k11 pk
        go_wp2_with fail
        refine k12.out.mono ?_
        rintro e w12 ⟨rfl, o12⟩
        have pk12 := hid (pk11.out.go o12)
        have y12 := o12.size
        have k13 := hid (osame_any (some ⟨mb, 0, none⟩) (some ⟨ob, 0, none⟩) mc oc A B w12 pk12.out.lm.offc (fun h => by cases h) pk12.out.lo.offc (fun h => by cases h) (by omega) (by omega))
        clear o12 k12 pk11
        go_wp2_with fail
        refine k13.out.mono ?_
        rintro e w13 ⟨rfl, o13⟩
        have pk13 := hid (pk12.out.go o13)
        have y13 := o13.size
        have k14 := hid (rsame_any ao bo ca cb A B w13 (kA.out.old pk13.out.old) (kB.out.old pk13.out.old) (by omega) (by omega) kAx.out kBx.out)
        clear o13 k13 pk12
        generalize decide (normL A = normL B) = sm at *
        have hbb : (sm != sm) = false := by simp
        go_wp2_with fail
        refine k14.out.mono ?_
        rintro e w14 ⟨rfl, o14⟩
        have pk14 := hid (pk13.out.go o14)
        have y14 := o14.size
        have k15 := hid (kept_any _ _ ao ca A w14 pk14.out.lm (kA.out.old pk14.out.old) (by omega))
        clear o14 k14 pk13
        go_wp2_with fail
        refine k15.out.mono ?_
        rintro e w15 ⟨rfl, o15⟩
        have pk15 := hid (pk14.out.go o15)
        have y15 := o15.size
        have k16 := hid (kept_any _ _ bo cb B w15 pk15.out.lo (kB.out.old pk15.out.old) (by omega))
        clear o15 k15 pk14
        go_wp2_with fail
        refine k16.out.mono ?_
        rintro e w16 ⟨rfl, o16⟩
        have pk16 := hid (pk15.out.go o16)
        have y16 := o16.size
        have k17 := hid (spoilt_any wr.heap.size _ (normL A).length w16 pk16.out.rx (by omega) (by omega))
        clear o16 k16 pk15
        go_wp2_with fail
        refine k17.out.mono ?_
        rintro e w17 ⟨rfl, f17⟩
        have old17 : Old w w17 := Frm.trans pk16.out.old f17 (fun i hi hS => by have := hbx.out i hS; omega)
        have rv17 := pk16.out.rv.kept f17 (fun k hk hS => by have := hbv.out k hk; have := hbx.out k hS; omega)
        have lm17 := pk16.out.lm.keep f17 (fun k _ hk hS => by have := hbm.out k hk; have := hbx.out k hS; omega)
        have ny17 := pk16.out.ny.keep f17 (fun k hk hS => by have := hby.out k hk; have := hbx.out k hS; omega)
        have nw17 := pk16.out.nw.keep f17 (fun k hk hS => by have := hbw.out k hk; have := hbx.out k hS; omega)
        have nn17 := pk16.out.nn.keep f17 (fun k hk hS => by have := hbn.out k hk; have := hbx.out k hS; omega)
        have nl17 := pk16.out.nl.keep f17 (fun k hk hS => by have := hbl.out k hk; have := hbx.out k hS; omega)
        have y17 := f17.size
        have k18 := hid (spoilt_any w6.heap.size _ (lowL c A).length w17 rv17 (by omega) (by omega))
        have h17 := hid (And.intro old17 (And.intro lm17 (And.intro ny17 (And.intro nw17 (And.intro nn17 nl17)))))
        clear f17 k17 old17 rv17 lm17 ny17 nw17 nn17 nl17 pk16
        go_wp2_with fail
        refine k18.out.mono ?_
        rintro e w18 ⟨rfl, f18⟩
        obtain ⟨old17, lm17, ny17, nw17, nn17, nl17⟩ := h17.out
        have old18 : Hid (Old w w18) := Frm.trans old17 f18 (fun i hi hS => by have := hbv.out i hS; omega)
        have lm18 := hid (lm17.keep f18 (fun k _ hk hS => by have := hbm.out k hk; have := hbv.out k hS; omega))
        have ny18 := hid (ny17.keep f18 (fun k hk hS => by have := hby.out k hk; have := hbv.out k hS; omega))
        have nw18 := hid (nw17.keep f18 (fun k hk hS => by have := hbw.out k hk; have := hbv.out k hS; omega))
        have nn18 := hid (nn17.keep f18 (fun k hk hS => by have := hbn.out k hk; have := hbv.out k hS; omega))
        have nl18 := hid (nl17.keep f18 (fun k hk hS => by have := hbl.out k hk; have := hbv.out k hS; omega))
        have k19 := hid (sameO_any ya na yc nc (normL A) (normL A) w18 ny18.out.offc nn18.out.offc (by omega))
        rw [decide_eq_true rfl] at k19
        clear f18 k18 h17 old17 lm17 ny17 nw17 nn17 nl17
        go_wp2_with fail
        refine k19.out.mono ?_
        rintro e w19 ⟨rfl, o19⟩
        have old19 := hid (old18.out.trans o19)
        have k20 := hid (sameO_any wa la wc lc (lowL c A) (lowL c A) w19 (nw18.out.old o19).offc (nl18.out.old o19).offc (by omega))
        rw [decide_eq_true rfl] at k20
        have lm19 := hid (lm18.out.old o19)
        clear o19 k19 old18 lm18 ny18 nw18 nn18 nl18
        go_wp2_with fail
        refine k20.out.mono ?_
        rintro e w20 ⟨rfl, o20⟩
        have old20 := hid (old19.out.trans o20)
        have k21 := hid (kept_any _ _ ao ca A w20 (lm19.out.old o20) (kA.out.old old20.out) (by omega))
        clear o20 k20 old19 lm19
        go_wp2_with fail
        refine k21.out.mono ?_
        rintro e w21 ⟨rfl, o21⟩
        have old21 := hid (old20.out.trans o21)
        have kK := hid (works_any w21 (kT.out.old old21.out))
        clear o21 k21 old20
        go_wp2_with fail
        refine kK.out.mono ?_
        rintro e w22 ⟨rfl, o22⟩
        have old22 := hid (old21.out.trans o22)
        clear o22 kK old21
        go_wp2_with fail
        go_ret
        exact ⟨rfl, old22.out⟩
  · rw [hlo] at kLo
    go_enter Tryd.func5, Tryd.ntmps5
    go_wp2_with fail
    generalize w.alloc (.cells #[.slice ao A.length ca, .slice bo B.length cb] 22) = w1 at *
    refine kLo.out.mono ?_
    rintro e w' ⟨rfl, e1⟩
    rw [e1]
    clear e1 w' kLo
    have kK := hid (works_any w1 (kT.out.old ko.out))
    go_wp2_with fail
    refine kK.out.mono ?_
    rintro e w2 ⟨rfl, o2⟩
    have ko2 := hid (ko.out.trans o2)
    clear o2 kK
    go_wp2_with fail
    go_ret
    exact ⟨rfl, ko2.out⟩
end Go.Proofs.YtchofhgpameobaaDoor
