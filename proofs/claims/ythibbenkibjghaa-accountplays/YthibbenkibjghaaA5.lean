/- Of, New. -/
import Derived.Test.YthibbenkibjghaaA4
namespace Go.Proofs.Ythibbenkibjghaa
open Go.RowKit Go.Lib Go.Maps

/-- Why Of is refused. -/
def ofZ (bud sp : Int) (L : List Hd) : Int := if ¬ cB bud ∨ ¬ cB sp ∨ mayL (-1) L = false then 2 else if bud < sp + sumR L then 8 else 0

theorem sum_of_take {L : List Hd} (k : OkR L) (n : Nat) : sumR (L.take n) ≤ sumR L := sum_take k n
theorem getD_at (L : List Hd) {k : Nat} (hk : k < L.length) : L.take k ++ [L[k]] = L.take (k + 1) := (List.take_succ_eq_append_getElem hk).symm
theorem ins_take {L : List Hd} (h : OkR L) {k : Nat} (hk : k < L.length) : insR (L.take k) L[k].1 L[k].2 = L.take (k + 1) := by
  have hs : OkR (L.take k ++ L.drop k) := by rw [List.take_append_drop]; exact h
  have hd : L[k] ∈ L.drop k := by rw [List.drop_eq_getElem_cons hk]; exact List.mem_cons_self
  rw [ins_last (fun y hy => ok_lt hs y hy _ hd) (by have := (h.mem L[k] (List.getElem_mem _)).2; omega)]
  exact getD_at L hk
theorem at_take {L : List Hd} (h : OkR L) {k : Nat} (hk : k < L.length) : atR (L.take k) L[k].1 = 0 := by
  have hs : OkR (L.take k ++ L.drop k) := by rw [List.take_append_drop]; exact h
  have hd : L[k] ∈ L.drop k := by rw [List.drop_eq_getElem_cons hk]; exact List.mem_cons_self
  unfold atR
  rw [lk_none (fun y hy => by have := ok_lt hs y hy _ hd; omega)]
  rfl
theorem sum_succ (L : List Hd) {k : Nat} (hk : k < L.length) : sumR (L.take (k + 1)) = sumR (L.take k) + L[k].2 := by
  rw [← getD_at L hk, sum_append]
  show _ + (_ + 0) = _
  omega
theorem hold_take {bud sp : Int} {L : List Hd} (h : OkR L) {k : Nat} (hk : k < L.length) : holdZ bud sp (L.take k) L[k].1 L[k].2 = if bud < sp + sumR (L.take (k + 1)) then 8 else 0 := by
  have hm := h.mem L[k] (List.getElem_mem _)
  unfold holdZ refZ
  rw [if_neg (by rintro (e | e); omega; exact e ⟨by omega, by omega⟩), at_take h hk, sum_succ L hk]
  have : (bud - sp - sumR (L.take k) + 0 < L[k].2) = (bud < sp + (sumR (L.take k) + L[k].2)) := by
    apply propext
    omega
  simp only [this]

/-- What Of answers. -/
def OfP (bud sp : Int) (L : List Hd) (w : World) (e : Ending) (w' : World) : Prop :=
  (ofZ bud sp L ≠ 0 ∧ e = .returned (.tuple #[.pointer none, .int .i64 (ofZ bud sp L)]) ∧ Old w w') ∨
  (ofZ bud sp L = 0 ∧ ∃ ab bi bm, e = .returned (.tuple #[.pointer (some ⟨ab, 0, none⟩), .int .i64 0]) ∧ Acc w' ab bi bm bud sp L ∧ OkA bud sp L ∧ (w.heap.size ≤ ab ∧ w.heap.size ≤ bi ∧ w.heap.size ≤ bm) ∧ Old w w')

theorem ofZ_bud {bud sp : Int} {L : List Hd} (h : ¬ cB bud) : ofZ bud sp L = 2 := if_pos (Or.inl h)
theorem ofZ_sp {bud sp : Int} {L : List Hd} (h : ¬ cB sp) : ofZ bud sp L = 2 := if_pos (Or.inr (Or.inl h))
theorem ofZ_may {bud sp : Int} {L : List Hd} (h : mayL (-1) L = false) : ofZ bud sp L = 2 := if_pos (Or.inr (Or.inr h))
theorem ofZ_else {bud sp : Int} {L : List Hd} (h1 : cB bud) (h2 : cB sp) (h3 : mayL (-1) L = true) : ofZ bud sp L = if bud < sp + sumR L then 8 else 0 := if_neg (by
  rintro (e | e | e)
  · exact e h1
  · exact e h2
  · rw [h3] at e; cases e)

theorem old_of {w w' : World} {n bi bm : Nat} (f : Frm (fun k => k = bi ∨ k = bm) w w') {v : World} (o : Old v w) (h1 : v.heap.size ≤ bi) (h2 : v.heap.size ≤ bm) (_ : n = n) : Old v w' :=
  Frm.trans o f (fun i hi e => by omega)

set_option maxRecDepth 100000 in
set_option maxHeartbeats 8000000 in
theorem of_any (bud sp : Int) (ao : Option Addr) (cap : Nat) (L : List Hd) (w : World) (h : HdC w ao L) (hl : L.length ≤ 8796093022208) (hy : ∀ y ∈ L, i64ok y.1) :
    Calls Try.prog 8 #[.int .i64 bud, .int .i64 sp, .slice ao L.length cap] w (OfP bud sp L w) := by
  have k1 := hid (isCoins_any bud w)
  have k2 := hid (isCoins_any sp w)
  have k3 := hid (mayBe_any ao cap L w h hl)
  by_cases h1 : cB bud
  · rw [decide_eq_true h1] at k1
    by_cases h2 : cB sp
    · rw [decide_eq_true h2] at k2
      cases h3 : mayL (-1) L with
      | false =>
        have hZ := hid (ofZ_may (bud := bud) (sp := sp) h3)
        rw [h3] at k3
        clear h h1 h2 h3
        go_enter Try.func8, Try.ntmps8
        go_wp2_with fail
        refine k1.out.mono ?_
        rintro e w' ⟨rfl, e2⟩
        rw [e2]
        clear e2
        go_wp2_with fail
        refine k2.out.mono ?_
        rintro e w' ⟨rfl, e2⟩
        rw [e2]
        clear e2
        go_wp2_with fail
        refine k3.out.mono ?_
        rintro e w1 ⟨rfl, o1⟩
        have ko := hid o1
        clear o1
        go_wp2_with fail
        go_ret2
        exact .inl ⟨by rw [hZ.out]; decide, by rw [hZ.out]; rfl, ko.out⟩
      | true =>
        have hZ := hid (ofZ_else h1 h2 h3)
        have kok := hid (mayL_ok (by omega) (fun y hm => (hy y hm).2) h3).1
        rw [h3] at k3
        have kh := hid h
        have kb := hid h1
        have ks := hid h2
        have ky := hid hy
        clear h h1 h2 h3 hy
        go_enter Try.func8, Try.ntmps8
        go_wp2_with fail
        refine k1.out.mono ?_
        rintro e w' ⟨rfl, e2⟩
        rw [e2]
        clear e2
        go_wp2_with fail
        refine k2.out.mono ?_
        rintro e w' ⟨rfl, e2⟩
        rw [e2]
        clear e2
        go_wp2_with fail
        refine k3.out.mono ?_
        rintro e w1 ⟨rfl, o1⟩
        have ko1 := hid o1
        clear o1 k1 k2 k3
        go_wp2_with fail
        refine (newAcc_any bud 0 w1).mono ?_
        rintro e w2 ⟨ab, bi, bm, rfl, a2, hge, o2⟩
        have kge : Hid (w.heap.size ≤ ab ∧ w.heap.size ≤ bi ∧ w.heap.size ≤ bm) := by
          have := ko1.out.size
          show _ ∧ _
          omega
        have ko2 := hid (ko1.out.trans o2)
        have hk0 : OkA bud 0 [] := ⟨trivial, kb.out, Int.le_refl _, by have := kb.out.1; show 0 + 0 ≤ bud; omega⟩
        have kT := hid (take_any ab bi bm bud 0 [] sp w2 a2 hk0)
        have htz : takZ bud 0 [] sp = if bud < sp then 8 else 0 := by
          unfold takZ refZ
          have := ks.out
          rw [if_neg (by rintro (e | e); omega; exact e this)]
          have : (bud - 0 - sumR [] < sp) = (bud < sp) := by apply propext; show (bud - 0 - 0 < sp) ↔ _; omega
          simp only [this]
        have hts : takS bud 0 [] sp = if bud < sp then 0 else sp := by
          unfold takS
          rw [htz]
          split <;> simp
        rw [htz, hts] at kT
        clear a2 hge o2 ko1 htz hts hk0
        by_cases hlt : bud < sp
        · rw [if_pos hlt, if_pos hlt] at kT
          have hZ8 : Hid (ofZ bud sp L = 8) := hid (by
            rw [hZ.out, if_pos]
            have := sum_nonneg kok.out
            omega)
          clear hlt
          go_wp2_with fail
          refine kT.out.mono ?_
          rintro e w3 ⟨rfl, a3, f3⟩
          have ko3 := hid (old_of (n := 0) f3 ko2.out kge.out.2.1 kge.out.2.2 rfl)
          clear a3 f3
          go_wp2_with fail
          go_ret2
          exact .inl ⟨by rw [hZ8.out]; decide, by rw [hZ8.out]; rfl, ko3.out⟩
        · rw [if_neg hlt, if_neg hlt] at kT
          have hspb : Hid (sp ≤ bud) := by show _ ≤ _; omega
          clear hlt
          go_wp2_with fail
          refine kT.out.mono ?_
          rintro e w3 ⟨rfl, a3, f3⟩
          have ko3 := hid (old_of (n := 0) f3 ko2.out kge.out.2.1 kge.out.2.2 rfl)
          have ka3 := hid a3
          clear a3 f3 kT ko2
          go_wp2_with fail
          go_loopw [11, 12, 36] (fun _ _ s wr => ∃ k : Nat, k ≤ L.length ∧ s = .int .i64 (k : Int) ∧ Hid (Acc wr ab bi bm bud sp (L.take k)) ∧ Hid (OkA bud sp (L.take k)) ∧ Hid (Old w wr)) (fun _ _ s _ => L.length - (intOf s).toNat)
          case atStart =>
            exact ⟨0, Nat.zero_le _, rfl, hid (by rw [List.take_zero]; exact ka3.out), hid (by rw [List.take_zero]; exact ⟨trivial, kb.out, ks.out.1, by have := hspb.out; show sp + 0 ≤ bud; omega⟩), ko3⟩
          case round =>
            clear ka3 ko3
            obtain ⟨k, hk, rfl, hA, hO, ho⟩ := hrel
            by_cases hlt : k < L.length
            · have hlt' : (k : Int) < (L.length : Int) := by omega
              obtain ⟨g, o, rfl, d1, d2⟩ := kh.out.old ho.out k hlt
              have hkb : (k : Int) ≤ 8796093022208 := by omega
              have kH0 := hid (hold_take (bud := bud) (sp := sp) kok.out hlt)
              have kI := hid (ins_take kok.out hlt)
              have kyk := hid (ky.out L[k] (List.getElem_mem _))
              obtain ⟨⟨xl, xc⟩, hx⟩ : ∃ x, L[k] = x := ⟨_, rfl⟩
              rw [hx] at d1 d2 kH0 kI kyk
              dsimp only at d1 d2 kH0 kI kyk
              have n0' := new_cell wr #[.int .i64 xl, .int .i64 xc] 27 0 (.int .i64 xl) rfl
              have n1' := new_cell wr #[.int .i64 xl, .int .i64 xc] 27 1 (.int .i64 xc) rfl
              have oA : Old wr (wr.alloc (.cells #[.int .i64 xl, .int .i64 xc] 27)) := (Old.refl wr).alloc _
              have koA := hid (ho.out.trans oA)
              have kHo := hid (hold_any ab bi bm bud sp (L.take k) xl xc _ (hA.out.old oA) hO.out kyk.out)
              have hhR : holdR bud sp (L.take k) xl xc = if bud < sp + sumR (L.take (k + 1)) then L.take k else L.take (k + 1) := by
                unfold holdR
                rw [kH0.out, kI.out]
                split <;> simp
              rw [kH0.out, hhR] at kHo
              have kOk : Hid (¬ bud < sp + sumR (L.take (k + 1)) → OkA bud sp (L.take (k + 1))) := fun e => by
                have := hO.out.holdR (x := xl) (c := xc) kyk.out
                rwa [hhR, if_neg e] at this
              clear oA hx hA hO ho hhR kH0 kI kyk
              by_cases hov : bud < sp + sumR (L.take (k + 1))
              · rw [if_pos hov, if_pos hov] at kHo
                have hZ8 : Hid (ofZ bud sp L = 8) := hid (by
                  rw [hZ.out, if_pos]
                  have := sum_take kok.out (k + 1)
                  omega)
                clear hov
                go_wp2_with fail
                refine kHo.out.mono ?_
                rintro e w3 ⟨rfl, a3, f3⟩
                have ko3 := hid (old_of (n := 0) f3 koA.out kge.out.2.1 kge.out.2.2 rfl)
                clear a3 f3 kHo
                go_wp2_with fail
                go_ret2
                exact .inl ⟨by rw [hZ8.out]; decide, by rw [hZ8.out]; rfl, ko3.out⟩
              · rw [if_neg hov, if_neg hov] at kHo
                have kOk2 := hid (kOk.out hov)
                clear hov kOk
                go_wp2_with fail
                refine kHo.out.mono ?_
                rintro e w3 ⟨rfl, a3, f3⟩
                have ko3 := hid (old_of (n := 0) f3 koA.out kge.out.2.1 kge.out.2.2 rfl)
                have ka3 := hid a3
                clear a3 f3 kHo
                go_wp2_with fail
                go_roundw
                case rel => exact ⟨k + 1, by omega, by go_num, ka3, kOk2, ko3⟩
                case measure => simp [intOf]; omega
            · obtain rfl : k = L.length := by omega
              rw [List.take_length] at hA hO
              have hZ0 : Hid (ofZ bud sp L = 0) := hid (by
                rw [hZ.out, if_neg]
                have := hO.out.le
                omega)
              go_wp2_with fail
              go_ret2
              exact .inr ⟨hZ0.out, ab, bi, bm, rfl, hA.out, hO.out, kge.out, ho.out⟩
    · have hZ := hid (ofZ_sp (bud := bud) (L := L) h2)
      rw [decide_eq_false h2] at k2
      clear h h1 h2 k3
      go_enter Try.func8, Try.ntmps8
      go_wp2_with fail
      refine k1.out.mono ?_
      rintro e w' ⟨rfl, e2⟩
      rw [e2]
      clear e2
      go_wp2_with fail
      refine k2.out.mono ?_
      rintro e w' ⟨rfl, e2⟩
      rw [e2]
      clear e2
      go_wp2_with fail
      go_ret2
      exact .inl ⟨by rw [hZ.out]; decide, by rw [hZ.out]; rfl, Old.refl w⟩
  · have hZ := hid (ofZ_bud (sp := sp) (L := L) h1)
    rw [decide_eq_false h1] at k1
    clear h h1 k2 k3
    go_enter Try.func8, Try.ntmps8
    go_wp2_with fail
    refine k1.out.mono ?_
    rintro e w' ⟨rfl, e2⟩
    rw [e2]
    clear e2
    go_wp2_with fail
    go_ret2
    exact .inl ⟨by rw [hZ.out]; decide, by rw [hZ.out]; rfl, Old.refl w⟩

set_option maxRecDepth 100000 in
set_option maxHeartbeats 2000000 in
theorem new_any (bud : Int) (w : World) : Calls Try.prog 7 #[.int .i64 bud] w (OfP bud 0 [] w) := by
  have kO := hid (of_any bud 0 none 0 [] w (HdC.nil w none) (by simp) (by simp))
  go_enter Try.func7, Try.ntmps7
  go_wp2_with fail
  refine kO.out.mono ?_
  rintro e w' (⟨h1, rfl, o⟩ | ⟨h1, ab, bi, bm, rfl, hA, hO, hge, o⟩)
  · have kh := hid h1
    have ko := hid o
    clear h1 o kO
    generalize hz : ofZ bud 0 [] = z at *
    go_wp2_with fail
    go_ret2
    exact .inl ⟨by rw [hz]; exact kh.out, by rw [hz]; rfl, ko.out⟩
  · have kk : Hid (OfP bud 0 [] w (.returned (.tuple #[.pointer (some ⟨ab, 0, none⟩), .int .i64 0])) w') := .inr ⟨h1, ab, bi, bm, rfl, hA, hO, hge, o⟩
    clear h1 hA hO hge o kO
    go_wp2_with fail
    go_ret2
    exact kk.out
end Go.Proofs.Ythibbenkibjghaa
