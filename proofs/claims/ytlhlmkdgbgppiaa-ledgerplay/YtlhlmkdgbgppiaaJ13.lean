/- Ledgers that are the same: maps, rows and postings held against one another. -/
import Derived.Test.YtlhlmkdgbgppiaaE2
import Derived.Maps.RangeWalk
namespace Go.Proofs.Ytlhlmkdgbgppiaa
open Go.RowKit Go.Lib Go.Shelf Go.Maps

theorem AM.look2 {w : World} {bm N : Nat} {f : Int → Option Ac} (h : AM w bm N f) {x : Int} (hx : i64ok x) :
    (Instr.lookup 64 (.map (some bm)) (.int .i64 x) true).run Try.prog w = .ok (.tuple #[acV ((f x).getD (0, 0)), .bool (f x).isSome]) w := by
  obtain ⟨D, h1, h2, h3⟩ := h
  have hkey := keyOf_int_mk Try.underlying3 (wf_of hx)
  obtain ⟨v, ps, hrun, hv⟩ := h1.look_ok law3 Try.underlying64 (zeroA w) (acElem_mk (0, 0)) hkey
  obtain ⟨h4, h5⟩ := h3 x hx
  rw [h5] at hv
  rw [h4] at hrun
  rw [hrun, acElem_inv hv]
theorem acElem_shape (v : Value) (y : DataW Unit × List MemPlace) (h : acElem v = some y) : ∃ c : Ac, v = acV c := by
  unfold acElem at h
  split at h
  · rename_i cs
    split at h
    · rename_i a b hc
      refine ⟨(a, b), ?_⟩
      have : cs = #[.int .i64 a, .int .i64 b] := by rw [← hc, Array.toArray_toList]
      rw [this]
      rfl
    · cases h
  · cases h
theorem acD_inj {a b : Ac} (h : acD a = acD b) : a = b := by
  simp [acD] at h
  exact Prod.ext h.1 h.2

set_option maxRecDepth 100000 in
set_option maxHeartbeats 2000000 in
theorem sleq_any (p q : List En) (v u : Value) (w : World) (hp : PosC w v p) (hq : PosC w u q) (hl : p.length ≤ 1048576) (hl2 : q.length ≤ 1048576) :
    Calls Try.prog 75 #[v, u] w fun e w' => e = .returned (.bool (decide (p = q))) ∧ Old w w' := by
  obtain ⟨g, rfl, hc⟩ := hp.at
  obtain ⟨g2, rfl, hd⟩ := hq.at
  have kc := hid hc
  have kd := hid hd
  clear hp hq hc hd
  by_cases hlen : p.length = q.length
  · have hne : ((p.length : Int) != (p.length : Int)) = false := by simp
    obtain ⟨n, hn⟩ : ∃ n, q.length = n := ⟨_, rfl⟩
    rw [hn] at hlen
    rw [hlen] at hne hl
    rw [hn, hlen]
    have kp := hid hlen
    have kq := hid hn
    clear hlen hn
    have hf : (∀ i (h : i < n), p[i]'(by rw [kp.out]; exact h) = q[i]'(by rw [kq.out]; exact h)) ↔ p = q :=
      ⟨fun h => List.ext_getElem (by rw [kp.out, kq.out]) (fun i h1 h2 => h i (by have := kp.out; omega)), fun h i hi => by subst h; rfl⟩
    have kf := hid hf
    clear hf
    go_enter Try.func75, Try.ntmps75
    go_wp2_with fail
    go_loopw [13] (fun t wr => ∃ k : Nat, k ≤ n ∧ t = .int .i64 (k : Int) ∧ Hid (Old w wr ∧ ∀ i (h : i < n), i < k → p[i]'(by rw [kp.out]; exact h) = q[i]'(by rw [kq.out]; exact h))) (fun t _ => n - (RowKit.intOf t).toNat)
    case atStart => exact ⟨0, Nat.zero_le _, rfl, hid ⟨Old.refl w, fun i _ hi => by omega⟩⟩
    case round =>
      obtain ⟨k, hk, rfl, hw⟩ := hrel
      by_cases hlt : k < n
      · have hk' : (k : Int) < (n : Int) := by omega
        obtain ⟨c0, c1⟩ := kc.out k (by rw [kp.out]; exact hlt)
        obtain ⟨d0, d1⟩ := kd.out k (by rw [kq.out]; exact hlt)
        replace c0 := hw.out.1.cell c0
        replace c1 := hw.out.1.cell c1
        replace d0 := hw.out.1.cell d0
        replace d1 := hw.out.1.cell d1
        obtain ⟨a, ha⟩ : ∃ a, p[k]'(by rw [kp.out]; exact hlt) = a := ⟨_, rfl⟩
        obtain ⟨b, hb⟩ : ∃ b, q[k]'(by rw [kq.out]; exact hlt) = b := ⟨_, rfl⟩
        rw [ha] at c0 c1
        rw [hb] at d0 d1
        have ka := hid ha
        have kb := hid hb
        clear ha hb
        obtain ⟨a1, a2⟩ := a
        obtain ⟨b1, b2⟩ := b
        dsimp only at c0 c1 d0 d1
        have od := hid (hw.out.1.drewN 1)
        by_cases e1 : a1 = b1
        · subst e1
          by_cases e2 : a2 = b2
          · subst e2
            have hx : ((a1 : Int) == (a1 : Int)) = true := by simp
            have hy : (a2 == a2) = true := by simp
            have hd2 := hid hw.out.2
            clear hw
            go_wp2_with fail
            go_region
            go_wp2_with fail
            go_roundw
            case rel => exact ⟨k + 1, by omega, by go_num, hid ⟨od.out, fun i hi hik => by
              by_cases e : i = k
              · subst e
                rw [ka.out, kb.out]
              · exact hd2.out i hi (by omega)⟩⟩
            case measure => simp [RowKit.intOf]; omega
          · have hx : ((a1 : Int) == (a1 : Int)) = true := by simp
            have hy : (a2 == b2) = false := by simpa using e2
            have hne : ¬ p = q := fun e => e2 (by have := kf.out.2 e k hlt; rw [ka.out, kb.out] at this; exact (Prod.mk.inj this).2)
            clear hw
            go_wp2_with fail
            go_region
            go_wp2_with fail
            go_ret
            exact ⟨by rw [decide_eq_false hne]; rfl, od.out⟩
        · have hx : ((a1 : Int) == (b1 : Int)) = false := by simp; omega
          have hne : ¬ p = q := fun e => e1 (by have := kf.out.2 e k hlt; rw [ka.out, kb.out] at this; exact (Prod.mk.inj this).1)
          clear hw
          go_wp2_with fail
          go_region
          go_wp2_with fail
          go_ret
          exact ⟨by rw [decide_eq_false hne]; rfl, od.out⟩
      · obtain rfl : k = n := by omega
        have hk' : ¬ (k : Int) < (k : Int) := by omega
        go_wp2_with fail
        go_ret
        exact ⟨by rw [decide_eq_true (kf.out.1 (fun i hi => hw.out.2 i hi hi))]; rfl, hw.out.1⟩
  · have hne : ((p.length : Int) != (q.length : Int)) = true := by simp; omega
    have hneq : ¬ p = q := fun e => hlen (congrArg _ e)
    go_enter Try.func75, Try.ntmps75
    go_wp2_with fail
    go_ret
    exact ⟨by rw [decide_eq_false hneq]; rfl, Old.refl _⟩

set_option maxRecDepth 100000 in
theorem pequal_any (p q : List En) (v u : Value) (w : World) (hp : PosC w v p) (hq : PosC w u q) (hl : p.length ≤ 1048576) (hl2 : q.length ≤ 1048576) :
    Calls Try.prog 50 #[v, u] w fun e w' => e = .returned (.bool (decide (p = q))) ∧ Old w w' := by
  have kE := hid (sleq_any p q v u w hp hq hl hl2)
  clear hp hq
  go_enter Try.func50, Try.ntmps50
  go_wp2_with fail
  refine kE.out.mono ?_
  rintro e w' ⟨rfl, o⟩
  have ko := hid o
  clear o
  go_wp2_with fail
  go_ret
  exact ⟨rfl, ko.out⟩

set_option maxRecDepth 100000 in
set_option maxHeartbeats 2000000 in
theorem eqfunc_any (P Q : List (List En)) (v u : Value) (w : World) (hp : RowP w v P) (hq : RowP w u Q) (hl : P.length ≤ 1048576) (hP : ∀ p ∈ P, p.length ≤ 1048576) (hQ : ∀ p ∈ Q, p.length ≤ 1048576) :
    Calls Try.prog 49 #[v, u, .func (.func 50) #[] #[]] w fun e w' => e = .returned (.bool (decide (P = Q))) ∧ Old w w' := by
  obtain ⟨ao, cap, rfl⟩ := hp.form
  obtain ⟨bo, cap2, rfl⟩ := hq.form
  have kp := hid hp
  have kq := hid hq
  have kP := hid hP
  have kQ := hid hQ
  clear hp hq hP hQ
  by_cases hlen : P.length = Q.length
  · have hne : ((P.length : Int) != (P.length : Int)) = false := by simp
    obtain ⟨n, hn⟩ : ∃ n, Q.length = n := ⟨_, rfl⟩
    rw [hn] at hlen
    rw [hlen] at hne hl
    rw [hn, hlen]
    have klp := hid hlen
    have klq := hid hn
    clear hlen hn
    have hf : (∀ i, i < n → P.getD i [] = Q.getD i []) ↔ P = Q :=
      ⟨fun h => List.ext_getElem (by rw [klp.out, klq.out]) (fun i h1 h2 => by have := h i (by have := klp.out; omega); rwa [getD_get h1, getD_get h2] at this), fun h i hi => by rw [h]⟩
    have kf := hid hf
    clear hf
    go_enter Try.func49, Try.ntmps49
    go_wp2_with fail
    go_loopw [17] (fun t wr => ∃ k : Nat, k ≤ n ∧ t = .int .i64 (k : Int) ∧ Hid (Old w wr ∧ ∀ i, i < k → P.getD i [] = Q.getD i [])) (fun t _ => n - (RowKit.intOf t).toNat)
    case atStart => exact ⟨0, Nat.zero_le _, rfl, hid ⟨Old.refl w, fun i hi => by omega⟩⟩
    case round =>
      obtain ⟨k, hk, rfl, hw⟩ := hrel
      by_cases hlt : k < n
      · have hk' : (k : Int) < (n : Int) := by omega
        obtain ⟨g, c1, x1, e1, d1, p1⟩ := (kp.out.frm (S := fun _ => False) hw.out.1 (fun _ _ h => h) (NotP.none w)).nth (i := k) (by rw [klp.out]; exact hlt)
        obtain ⟨g2, c2, x2, e2, d2, p2⟩ := (kq.out.frm (S := fun _ => False) hw.out.1 (fun _ _ h => h) (NotP.none w)).nth (i := k) (by rw [klq.out]; exact hlt)
        rw [klp.out] at e1
        rw [klq.out] at e2
        simp only [Value.slice.injEq, true_and] at e1 e2
        obtain ⟨rfl, rfl⟩ := e1
        obtain ⟨rfl, rfl⟩ := e2
        have kE := hid (pequal_any (P.getD k []) (Q.getD k []) x1 x2 wr p1 p2 (by rw [getD_get (by rw [klp.out]; exact hlt)]; exact kP.out _ (List.getElem_mem _)) (by rw [getD_get (by rw [klq.out]; exact hlt)]; exact kQ.out _ (List.getElem_mem _)))
        clear p1 p2
        go_wp2_with fail
        refine kE.out.mono ?_
        rintro e w' ⟨rfl, o⟩
        have ho := hid (hw.out.1.trans o)
        have h2 := hid hw.out.2
        clear kE o hw d1 d2
        by_cases e : P.getD k [] = Q.getD k []
        · rw [decide_eq_true e]
          go_wp2_with fail
          go_roundw
          case rel => exact ⟨k + 1, by omega, by go_num, hid ⟨ho.out, fun i hi => by
            by_cases e3 : i = k
            · subst e3
              exact e
            · exact h2.out i (by omega)⟩⟩
          case measure => simp [RowKit.intOf]; omega
        · rw [decide_eq_false e]
          have hne : ¬ P = Q := fun e3 => e (by rw [e3])
          go_wp2_with fail
          go_ret
          exact ⟨by rw [decide_eq_false hne]; rfl, ho.out⟩
      · obtain rfl : k = n := by omega
        have hk' : ¬ (k : Int) < (k : Int) := by omega
        go_wp2_with fail
        go_ret
        exact ⟨by rw [decide_eq_true (kf.out.1 hw.out.2)]; rfl, hw.out.1⟩
  · have hne : ((P.length : Int) != (Q.length : Int)) = true := by simp; omega
    have hneq : ¬ P = Q := fun e => hlen (congrArg _ e)
    go_enter Try.func49, Try.ntmps49
    go_wp2_with fail
    go_ret
    exact ⟨by rw [decide_eq_false hneq]; rfl, Old.refl _⟩
end Go.Proofs.Ytlhlmkdgbgppiaa

/- Maps of accounts that are the same: walked. -/
namespace Go.Proofs.Ytlhlmkdgbgppiaa
open Go.RowKit Go.Lib Go.Shelf Go.Maps

theorem lkA_none {A : List Ac} {y : Int} (h : ¬ (0 ≤ y ∧ y < A.length)) : lkA A y = none := by
  unfold lkA
  split
  · rw [List.getElem?_eq_none]
    omega
  · rfl
theorem lkA_eq {A B : List Ac} (hl : A.length = B.length) (h : ∀ x, i64ok x → (lkA A x).isSome = true → lkA B x = lkA A x) (hA : A.length ≤ 9223372036854775807) : A = B := by
  refine List.ext_getElem hl (fun i h1 h2 => ?_)
  have h3 := h (i : Int) (by unfold i64ok; omega) (by rw [lkA_at A h1]; rfl)
  rw [lkA_at A h1, lkA_at B h2, getD_get h1, getD_get h2] at h3
  exact (Option.some.inj h3).symm

theorem eqstep {left : Lit → Bool} {D : DataW Unit} {A B : List Ac} {z : Int} (hm : ∀ x, i64ok x → Maps.has D (.int .i64 x) = true → left (.int .i64 x) = false → lkA B x = lkA A x) (hz : lkA B z = lkA A z) : ∀ x, i64ok x → Maps.has D (.int .i64 x) = true → (left (.int .i64 x) && !(Lit.int .i64 x).sameKey (.int .i64 z)) = false → lkA B x = lkA A x := fun x hx hh hl => by
  by_cases e : x = z
  · subst e
    exact hz
  · refine hm x hx hh ?_
    have : (Lit.int .i64 x).sameKey (.int .i64 z) = false := Maps.sameKey_ne (fun h => e (by cases h; rfl))
    rw [this] at hl
    simpa using hl

set_option maxRecDepth 100000 in
set_option maxHeartbeats 8000000 in
theorem meq_any (m1 m2 : Nat) (A B : List Ac) (w : World) (h1 : AM w m1 A.length (lkA A)) (h2 : AM w m2 B.length (lkA B)) (hA : A.length ≤ 1048576) :
    Calls Try.prog 48 #[.map (some m1), .map (some m2)] w fun e w' => e = .returned (.bool (decide (A = B))) ∧ Old w w' := by
  obtain ⟨D, hD, hDs, hDf⟩ := id h1
  obtain ⟨D2, hE, hEs, -⟩ := id h2
  have hL1 := fun ty => hD.len Try.underlying64 ty
  have hL2 := fun ty => hE.len Try.underlying64 ty
  rw [hDs] at hL1
  rw [hEs] at hL2
  have kD := hid hD
  have kDf := hid hDf
  have k2 := hid h2
  clear h1 h2 hDs hEs hDf hE
  by_cases hlen : A.length = B.length
  · have hne : ((A.length : Int) != (A.length : Int)) = false := by simp
    rw [← hlen] at hL2
    have klen := hid hlen
    clear hlen
    obtain ⟨n, hn⟩ : ∃ n, A.length = n := ⟨_, rfl⟩
    rw [hn] at hL1 hL2 hne hD kD
    have kn := hid hn
    clear hn
    go_enter Try.func48, Try.ntmps48
    go_wp2_with (at_range; refine wpList_range_own _ rfl _ 64 rfl 3 104 law3 Try.underlying64 _ m1 n _ rfl hD ?_; intro w0 hrg0 hg0 hs0)
    have o0 : Hid (Old w w0) := Old.of_below ⟨hg0.os, hg0.tape, hg0.output, hg0.size, fun k hk => hg0.block k hk (by simp)⟩
    clear hg0 hs0 hL1 hL2
    obtain ⟨r, hr⟩ : ∃ r, w.heap.size = r := ⟨_, rfl⟩
    have kr := hid hr
    rw [hr] at hrg0 ⊢
    clear hr
    try go_frame
    go_loopw [5] (fun _ wr => ∃ (left : Lit → Bool) (cnt : Nat), wr.ranges Try.prog 3 acElem m1 r n D left cnt ∧ Hid (Old w wr ∧ (∀ z, left z = true → Maps.has D z = true) ∧ ∀ x, i64ok x → Maps.has D (.int .i64 x) = true → left (.int .i64 x) = false → lkA B x = lkA A x)) (fun _ wr => wr.rangeLeft m1 r)
    case atStart => exact ⟨_, _, hrg0, hid ⟨o0.out, fun z h => h, fun x _ h1 h2 => by rw [h1] at h2; cases h2⟩⟩
    case round =>
      obtain ⟨left, cnt, hrg, hI⟩ := hrel
      clear o0 hrg0
      go_wp2_with (at_next; refine wpList_next_ranges _ rfl _ rfl 3 law3 acElem (Value.int .i64) acV (fun key kl hk => by obtain ⟨x, rfl, _⟩ := Maps.keyOf_int_inv Try.underlying3 hk; exact ⟨x, rfl⟩) acElem_shape m1 r n _ _ _ rfl hrg ?_ ?_)
      · intro hc0 hl0
        have hAB : A = B := lkA_eq klen.out (fun x hx hs => hI.out.2.2 x hx (by rw [(kDf.out x hx).1]; exact hs) (hl0 _)) (by have := kn.out; omega)
        go_wp2_with fail
        go_ret
        exact ⟨by rw [decide_eq_true hAB]; rfl, hI.out.1⟩
      · intro x c1 c2 kl yd yp w2 cnt2 hkey hlk hv hat hrg2 hlt hg2 hs2 hen
        obtain ⟨x', ex, rfl, hwx⟩ := Maps.keyOf_int_inv Try.underlying3 hkey
        cases ex
        have hx : i64ok x := by
          simp [Lit.wf, IntKind.min, IntKind.max, IntKind.bits, IntKind.signed] at hwx
          unfold i64ok
          omega
        obtain ⟨a1, a2⟩ := kDf.out x hx
        have hhas := hI.out.2.1 _ hlk
        rw [a1] at hhas
        obtain ⟨d, hd⟩ := Option.isSome_iff_exists.1 hhas
        have hc : d = (c1, c2) := by
          have h3 := hat (acD (0, 0))
          rw [a2, hd] at h3
          rw [acElem_mk] at hv
          simp only [Option.some.injEq, Prod.mk.injEq] at hv
          rw [← hv.1] at h3
          exact acD_inj h3
        subst hc
        have hf2 : Frm (fun k => some r = some k) wr w2 := Frm.grown (Frm.refl _ _) hg2 (fun _ hk => Or.inr hk)
        have o2 : Hid (Old w w2) := Frm.trans hI.out.1 hf2 (fun k hk e => by have := kr.out; cases e; omega)
        have kI := hid hI.out
        have kg := hid hrg2
        have klt := hid hlt
        have krg := hid hrg
        have khd := hid hd
        have kx := hid hx
        have oA : Old w2 (w2.alloc (.cells #[.int .i64 c1, .int .i64 c2] 104)) := (Old.refl w2).alloc _
        have hlook := ((k2.out.kept o2.out (fun h => h)).kept oA (fun h => h)).look2 hx
        obtain ⟨⟨d1, d2⟩, hd'⟩ : ∃ d, (lkA B x).getD (0, 0) = d := ⟨_, rfl⟩
        obtain ⟨z, hz⟩ : ∃ z, (lkA B x).isSome = z := ⟨_, rfl⟩
        rw [hd', hz] at hlook
        have kd' := hid hd'
        have kz := hid hz
        unfold acV at hen hlook ⊢
        have koA := hid oA
        have koB := hid (oA.alloc (.cells #[.int .i64 d1, .int .i64 d2] 104))
        have hnotA : Hid (¬ lkA B x = some (c1, c2) → ¬ A = B) := fun h e => h (by rw [← e]; exact khd.out)
        have hrg3 := hid ((kg.out.alloc (.cells #[.int .i64 c1, .int .i64 c2] 104)).alloc (.cells #[.int .i64 d1, .int .i64 d2] 104))
        clear hI a1 a2 hat hv hg2 hs2 hrg2 hlt hf2 hkey hwx hrg hd hhas hlk hx oA hd' hz
        cases z with
        | false =>
          have hne : ¬ A = B := hnotA.out (fun e => by have := kz.out; rw [e] at this; cases this)
          go_wp2_with fail
          go_ret
          exact ⟨by first | rfl | (rw [decide_eq_false hne]; rfl), o2.out.trans koB.out⟩
        | true =>
          obtain ⟨d, hd⟩ := Option.isSome_iff_exists.1 kz.out
          have hdd : d = (d1, d2) := by have := kd'.out; rw [hd] at this; exact this
          subst hdd
          have khB := hid hd
          clear hd
          by_cases e1 : c1 = d1
          · subst e1
            by_cases e2 : c2 = d2
            · subst e2
              have x1 : (c1 == c1) = true := by simp
              have x2 : (c2 == c2) = true := by simp
              go_wp2_with fail
              go_roundw
              case rel => exact ⟨_, _, hrg3.out, hid ⟨o2.out.trans koB.out, fun z hz => kI.out.2.1 z (by simp at hz; exact hz.1), eqstep kI.out.2.2 (by rw [khd.out, khB.out])⟩⟩
              case measure =>
                rw [hrg3.out.left_eq, krg.out.left_eq]
                exact klt.out
            · have x1 : (c1 == c1) = true := by simp
              have x2 : (c2 == d2) = false := by simpa using e2
              have hne : ¬ A = B := hnotA.out (fun e => e2 (by rw [khB.out] at e; simp at e; exact e.symm))
              go_wp2_with fail
              go_ret
              exact ⟨by first | rfl | (rw [decide_eq_false hne]; rfl), o2.out.trans koB.out⟩
          · have x1 : (c1 == d1) = false := by simpa using e1
            have hne : ¬ A = B := hnotA.out (fun e => e1 (by rw [khB.out] at e; simp at e; exact e.1.symm))
            go_wp2_with fail
            go_ret
            exact ⟨by first | rfl | (rw [decide_eq_false hne]; rfl), o2.out.trans koB.out⟩
  · have hne : ((A.length : Int) != (B.length : Int)) = true := by simp; omega
    have hneq : ¬ A = B := fun e => hlen (congrArg _ e)
    go_enter Try.func48, Try.ntmps48
    go_wp2_with fail
    go_ret
    exact ⟨by rw [decide_eq_false hneq]; rfl, Old.refl _⟩
end Go.Proofs.Ytlhlmkdgbgppiaa
