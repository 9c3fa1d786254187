/- OffersAgree, walked. -/
import Derived.Test.YtchofhgpameobaaDoorAgreeB
namespace Go.Proofs.YtchofhgpameobaaDoor
open Go.RowKit

set_option maxRecDepth 100000 in
set_option maxHeartbeats 16000000 in
theorem agree_walk (ao bo : Option Addr) (ca cb : Nat) (A B : List Off) (c d : Int) (hc : -9223372036854775808 ≤ c ∧ c ≤ 9223372036854775807) (hd : -9223372036854775808 ≤ d ∧ d ≤ 9223372036854775807) (w : World) (hA : OffC w ao A) (hB : OffC w bo B) (hna : ao = none → ca = 0) (hnb : bo = none → cb = 0) (hla : A.length ≤ 9223372036854775807) (hlb : B.length ≤ 9223372036854775807) (hAx : ∀ x ∈ A, x.1 < 4294967296) (hBx : ∀ x ∈ B, x.1 < 4294967296) (hT : Tabs w) :
    Calls Tryd.prog 8 #[.slice ao A.length ca, .slice bo B.length cb, .agg #[.int .i64 c, .int .i64 d]] w fun e w' => e = .returned (.bool true) ∧ Old w w' := by
  have q0 : Old w (w.alloc (.cells #[.int .i64 c, .int .i64 d] 70)) := (Old.refl w).alloc _
  have p0 := new_cell w #[.int .i64 c, .int .i64 d] 70 0 _ rfl
  have p1 := new_cell w #[.int .i64 c, .int .i64 d] 70 1 _ rfl
  have hs0 := alloc_size w (.cells #[.int .i64 c, .int .i64 d] 70)
  obtain ⟨w0, hw0⟩ : ∃ w0, w.alloc (.cells #[.int .i64 c, .int .i64 d] 70) = w0 := ⟨_, rfl⟩
  rw [hw0] at q0 p0 p1 hs0
  have q1 : Old w0 (w0.alloc (.cells #[.slice ao A.length ca, .slice bo B.length cb] 22)) := (Old.refl w0).alloc _
  have h1 := heap_new w0 (.cells #[.slice ao A.length ca, .slice bo B.length cb] 22)
  have O1 := (hA.old q0).old q1
  have O2 := (hB.old q0).old q1
  have hI : InsC (w0.alloc (.cells #[.slice ao A.length ca, .slice bo B.length cb] 22)) (some ⟨w0.heap.size, 0, none⟩) [A, B] := by
    intro i hi
    match i, hi with
    | 0, _ => exact ⟨w0.heap.size, 0, ao, ca, rfl, blk_cells h1 rfl, O1, hla, hAx⟩
    | 1, _ => exact ⟨w0.heap.size, 0, bo, cb, rfl, blk_cells h1 rfl, O2, hlb, hBx⟩
  have kLo := hid (long_any (some ⟨w0.heap.size, 0, none⟩) 2 [A, B] _ hI (by simp))
  have r0 := hid (q1.cell p0)
  have r1 := hid (q1.cell p1)
  have kA := hid O1
  have kB := hid O2
  have kAx := hid hAx
  have kBx := hid hBx
  have ko := hid (q0.trans q1)
  have kT := hid ((hT.old q0).old q1)
  have kc := hid hc
  have kd := hid hd
  clear q0 p0 p1 h1 O1 O2 hI q1 hA hB hT hAx hBx hs0 hc hd
  cases hlo : lo60 [A, B]
  · rw [hlo] at kLo
    have h60 : A.length ≤ 60 ∧ B.length ≤ 60 := by
      simp [lo60] at hlo
      omega
    clear hlo
    go_enter Tryd.func8, Tryd.ntmps8
    go_wp2_with fail
    try rw [hw0]
    generalize w0.alloc (.cells #[.slice ao A.length ca, .slice bo B.length cb] 22) = w1 at *
    clear hw0
    generalize w.heap.size = pb at *
    refine kLo.out.mono ?_
    rintro e w' ⟨rfl, e1⟩
    rw [e1]
    clear e1 w' kLo
    have kK := hid (works_any w1 kT.out)
    go_wp2_with fail
    refine kK.out.mono ?_
    rintro e w2 ⟨rfl, o2⟩
    have ko2 := hid (ko.out.trans o2)
    have kA2 := hid (kA.out.old o2)
    have kB2 := hid (kB.out.old o2)
    have kT2 := hid (kT.out.old o2)
    have s0 := hid (o2.cell r0.out)
    have s1 := hid (o2.cell r1.out)
    clear o2 kK ko kA kB kT r0 r1 w1
    go_wp2_with fail
    go_loopw [7] (fun t wr => ∃ k : Nat, k ≤ A.length ∧ t = .int .i64 (k : Int) ∧ Hid (∀ x ∈ A.take k, okB 1023 x = true) ∧ Old w2 wr) (fun t _ => A.length - (intOf t).toNat)
    case atStart => exact ⟨0, Nat.zero_le _, rfl, by show ∀ x ∈ A.take 0, okB 1023 x = true; simp, Old.refl _⟩
    case round =>
      obtain ⟨k, hk, rfl, hOk, oW⟩ := hrel
      by_cases hlt : k < A.length
      · obtain ⟨bg, o, rfl, d1, d2⟩ := kA2.out k hlt
        have e1 := oW.cell d1
        have e2 := oW.cell d2
        have hk' : (k : Int) < (A.length : Int) := by omega
        have kM := hid (may10 A[k] wr)
        have hta : Hid (okB 1023 A[k] = true → ∀ x ∈ A.take (k + 1), okB 1023 x = true) := fun h x hx => by
          rw [List.take_succ_eq_append_getElem hlt] at hx
          rcases List.mem_append.1 hx with hx | hx
          · exact hOk.out x hx
          · simp at hx
            rw [hx]
            exact h
        have koW := hid oW
        obtain ⟨x, hx⟩ : ∃ x, A[k] = x := ⟨_, rfl⟩
        rw [hx] at e1 e2 kM hta
        clear hx d1 d2 oW hOk
        obtain ⟨xg, xc⟩ := x
        dsimp only at e1 e2 kM
        cases hok : okB 1023 (xg, xc)
        · rw [hok] at kM
          clear hok hta
          go_wp2_with fail
          refine kM.out.mono ?_
          rintro e w3 ⟨rfl, o3⟩
          have ko3 := hid (koW.out.trans o3)
          have kK := hid (works_any w3 (kT2.out.old ko3.out))
          clear o3 kM koW
          go_wp2_with fail
          refine kK.out.mono ?_
          rintro e w4 ⟨rfl, o4⟩
          have ko4 := hid (ko3.out.trans o4)
          clear o4 kK
          go_wp2_with fail
          go_ret
          exact ⟨rfl, ko2.out.trans ko4.out⟩
        · rw [hok] at kM
          have kt := hid (hta.out hok)
          clear hok hta
          go_wp2_with fail
          refine kM.out.mono ?_
          rintro e w3 ⟨rfl, o3⟩
          have ko3 := hid (koW.out.trans o3)
          clear o3 kM koW
          go_wp2_with fail
          go_roundw
          case rel => exact ⟨k + 1, by omega, by go_num, kt, ko3.out⟩
          case measure => simp [intOf]; omega
      · obtain rfl : k = A.length := by omega
        rw [List.take_length] at hOk
        have ko3 := hid (ko2.out.trans oW)
        have kA3 := hid (kA2.out.old oW)
        have kB3 := hid (kB2.out.old oW)
        have kT3 := hid (kT2.out.old oW)
        have s03 := hid (oW.cell s0.out)
        have s13 := hid (oW.cell s1.out)
        clear oW ko2 kA2 kB2 kT2 s0 s1 hlt hk
        go_wp2_with fail
        go_loopw [8] (fun t wr2 => ∃ k : Nat, k ≤ B.length ∧ t = .int .i64 (k : Int) ∧ Hid (∀ x ∈ B.take k, okB 1023 x = true) ∧ Old wr wr2) (fun t _ => B.length - (intOf t).toNat)
        case atStart => exact ⟨0, Nat.zero_le _, rfl, by show ∀ x ∈ B.take 0, okB 1023 x = true; simp, Old.refl _⟩
        case round =>
          obtain ⟨k, hk, rfl, hOk2, oW⟩ := hrel
          by_cases hlt : k < B.length
          · obtain ⟨bg, o, rfl, d1, d2⟩ := kB3.out k hlt
            have e1 := oW.cell d1
            have e2 := oW.cell d2
            have hk' : (k : Int) < (B.length : Int) := by omega
            have kM := hid (may10 B[k] wr)
            have hta : Hid (okB 1023 B[k] = true → ∀ x ∈ B.take (k + 1), okB 1023 x = true) := fun h x hx => by
              rw [List.take_succ_eq_append_getElem hlt] at hx
              rcases List.mem_append.1 hx with hx | hx
              · exact hOk2.out x hx
              · simp at hx
                rw [hx]
                exact h
            have koW := hid oW
            obtain ⟨x, hx⟩ : ∃ x, B[k] = x := ⟨_, rfl⟩
            rw [hx] at e1 e2 kM hta
            clear hx d1 d2 oW hOk2
            obtain ⟨xg, xc⟩ := x
            dsimp only at e1 e2 kM
            cases hok : okB 1023 (xg, xc)
            · rw [hok] at kM
              clear hok hta
              go_wp2_with fail
              refine kM.out.mono ?_
              rintro e w3 ⟨rfl, o3⟩
              have ko4 := hid (koW.out.trans o3)
              have kK := hid (works_any w3 (kT3.out.old ko4.out))
              clear o3 kM koW
              go_wp2_with fail
              refine kK.out.mono ?_
              rintro e w4 ⟨rfl, o4⟩
              have ko5 := hid (ko4.out.trans o4)
              clear o4 kK
              go_wp2_with fail
              go_ret
              exact ⟨rfl, ko3.out.trans ko5.out⟩
            · rw [hok] at kM
              have kt := hid (hta.out hok)
              clear hok hta
              go_wp2_with fail
              refine kM.out.mono ?_
              rintro e w3 ⟨rfl, o3⟩
              have ko4 := hid (koW.out.trans o3)
              clear o3 kM koW
              go_wp2_with fail
              go_roundw
              case rel => exact ⟨k + 1, by omega, by go_num, kt, ko4.out⟩
              case measure => simp [intOf]; omega
          · obtain rfl : k = B.length := by omega
            rw [List.take_length] at hOk2
            have ko4 := hid (ko3.out.trans oW)
            have kA4 := hid (kA3.out.old oW)
            have kB4 := hid (kB3.out.old oW)
            have kT4 := hid (kT3.out.old oW)
            have s04 := hid (oW.cell s03.out)
            have s14 := hid (oW.cell s13.out)
            have fA : Hid (Fit A) := fun x hx => ⟨(ok_fit (hOk.out x hx) (kAx.out x hx)).1, kAx.out x hx⟩
            have fB : Hid (Fit B) := fun x hx => ⟨(ok_fit (hOk2.out x hx) (kBx.out x hx)).1, kBx.out x hx⟩
            have sA : Hid (∀ x ∈ A, x.1 < 1024) := fun x hx => (ok_fit (hOk.out x hx) (kAx.out x hx)).2.2
            have sB : Hid (∀ x ∈ B, x.1 < 1024) := fun x hx => (ok_fit (hOk2.out x hx) (kBx.out x hx)).2.2
            have mA : Hid (∀ x ∈ A, x.2 ≤ 9223372036854775807) := fun x hx => by have := (ok_fit (hOk.out x hx) (kAx.out x hx)).2.1; omega
            have kN := hid (normal_any ao ca A wr kA4.out hna (by omega))
            clear oW ko3 kA3 kB3 kT3 s03 s13 hlt hk hOk hOk2 kAx kBx
            go_wp2_with fail
            refine kN.out.mono ?_
            rintro e w5 ⟨vN, rfl, hN, o5⟩
            have ko5 := hid (ko4.out.trans o5)
            have kA5 := hid (kA4.out.old o5)
            have kB5 := hid (kB4.out.old o5)
            have kT5 := hid (kT4.out.old o5)
            have s05 := hid (o5.cell s04.out)
            have s15 := hid (o5.cell s14.out)
            have kN5 := hid hN
            obtain ⟨no, nc, rfl, hNO, hno⟩ := NewO.off hN
            have kNO5 := hid hNO
            clear o5 kN ko4 kA4 kB4 kT4 s04 s14 hN hNO
            go_wp2_with fail
            change Code.wp _ _ _ _ (w5.alloc (.cells (List.replicate 64 (Value.bool false)).toArray 74))
            have q6 : Old w5 (w5.alloc (.cells (List.replicate 64 (Value.bool false)).toArray 74)) := (Old.refl w5).alloc _
            have ab := hid (ArrB.new w5 74)
            have hs6 := alloc_size w5 (.cells (List.replicate 64 (Value.bool false)).toArray 74)
            have ko6 := hid (ko5.out.trans q6)
            have kA6 := hid (kA5.out.old q6)
            have kB6 := hid (kB5.out.old q6)
            have kT6 := hid (kT5.out.old q6)
            have s06 := hid (q6.cell s05.out)
            have s16 := hid (q6.cell s15.out)
            have kNO6 := hid (kNO5.out.old q6)
            have kN6 : Hid (NewO wr.heap.size (w5.alloc (.cells (List.replicate 64 (Value.bool false)).toArray 74)) (.slice no (normL A).length nc) (normL A) ∧ ∀ b cp, (.slice no (normL A).length nc) = Value.slice (some ⟨b, 0, none⟩) (normL A).length cp → OwnO w5 b (normL A) → b < w5.heap.size) := ⟨kN5.out.old q6, fun b cp _ h => h.lt⟩
            have kNlt : Hid (∀ b o, no = some ⟨b, o, none⟩ → b < w5.heap.size) := fun b o e => by
              rcases kN5.out with ⟨e1, _⟩ | ⟨b', cp, e1, _, _, ow⟩
              · simp at e1
                rw [e1.1] at e
                cases e
              · simp only [Value.slice.injEq] at e1
                rw [e1.1] at e
                simp only [Option.some.injEq, Addr.mk.injEq] at e
                rw [← e.1]
                exact ow.lt
            have hNlen : (normL A).length ≤ 60 := by have := normL_len' A; omega
            have kq6 := hid q6
            clear q6 kN6 s06 s16 kT6 ko6
            generalize w5.alloc (.cells (List.replicate 64 (Value.bool false)).toArray 74) = w6 at *
            go_loopw [10, 12] (fun al t wr => ∃ g : Nat, g ≤ 1024 ∧ t = .int .u32 (g : Int) ∧ al = .bool (alkB A B g) ∧ Old w6 wr) (fun _ t _ => 1024 - (intOf t).toNat)
            case atStart => exact ⟨0, Nat.zero_le _, rfl, rfl, Old.refl _⟩
            case round =>
              obtain ⟨g, hg, rfl, rfl, oW⟩ := hrel
              by_cases hlt : g < 1024
              · have hg' : (g : Int) < 1024 := by omega
                have k1 := hid (oworth_any g ao ca A wr (kA6.out.old oW) hla)
                have hdn := down_bits (show g < 4294967296 by omega)
                have koW := hid oW
                clear oW
                go_wp2_with fail
                refine k1.out.mono ?_
                rintro e w7 ⟨rfl, o7⟩
                have ko7 := hid (koW.out.trans o7)
                have k2 := hid (oworth_any g no nc (normL A) w7 (kNO6.out.old ko7.out) (by omega))
                clear o7 k1 koW
                go_wp2_with fail
                refine k2.out.mono ?_
                rintro e w8 ⟨rfl, o8⟩
                have ko8 := hid (ko7.out.trans o8)
                have k3 := hid (oworth_any g bo cb B w8 (kB6.out.old ko8.out) hlb)
                clear o8 k2 ko7
                go_wp2_with fail
                refine k3.out.mono ?_
                rintro e w9 ⟨rfl, o9⟩
                have ko9 := hid (ko8.out.trans o9)
                have k4 := hid (oworth_any (down g) ao ca A w9 (kA6.out.old ko9.out) hla)
                clear o9 k3 ko8
                go_wp2_with fail
                refine k4.out.mono ?_
                rintro e w10 ⟨rfl, o10⟩
                have ko10 := hid (ko9.out.trans o10)
                have f1 : ((wZ g A).1 != (wZ g (normL A)).1) = false := by
                  have := norm_val fA.out g
                  unfold val at this
                  rw [this]
                  simp
                have f2 : ¬ (wZ (down g) A).1 > (wZ g A).1 := by
                  have := val_mono fA.out (down_lt (show g < 4294967296 by omega)) (down_sub (show g < 4294967296 by omega))
                  unfold val at this
                  omega
                have f3 : ¬ (wZ g (normL A)).2 ≥ ((normL A).length : Int) := by
                  have := at_lt g (normL A)
                  omega
                have f4 : Hid (alkB A B (g + 1) = (alkB A B g && ((wZ g B).1 == (wZ g A).1))) := rfl
                clear o10 k4 ko9 hdn
                cases hal : alkB A B g
                · rw [hal, Bool.false_and] at f4
                  clear hal
                  go_wp2_with fail
                  go_roundw
                  case rel => exact ⟨g + 1, by omega, by go_num, by rw [f4.out], ko10.out⟩
                  case measure => simp [intOf]; omega
                · rw [hal, Bool.true_and] at f4
                  clear hal
                  go_wp2_with fail
                  go_roundw
                  case rel => exact ⟨g + 1, by omega, by go_num, by rw [f4.out], ko10.out⟩
                  case measure => simp [intOf]; omega
              · obtain rfl : g = 1024 := by omega
                have o7 : Hid (Old w5 wr) := kq6.out.trans oW
                have ab7 := hid (ab.out.old (by omega) oW)
                have hs7 : w5.heap.size < wr.heap.size := by have := oW.size; omega
                clear oW hlt hg
                go_wp2_with fail
                generalize ((1024 : Nat) : Int) = z12 at *
                go_loopw [21] (fun t wr2 => ∃ i : Nat, i ≤ (normL A).length ∧ t = .int .i64 (i : Int) ∧ Old w5 wr2 ∧ ArrB wr2 w5.heap.size ∧ w5.heap.size < wr2.heap.size) (fun t _ => (normL A).length - (intOf t).toNat)
                case atStart => exact ⟨0, Nat.zero_le _, rfl, o7.out, ab7.out, hs7⟩
                case round =>
                  obtain ⟨i, hi, rfl, oW, abW, hsW⟩ := hrel
                  by_cases hlt : i < (normL A).length
                  · rcases kN5.out with ⟨e1, e2⟩ | ⟨b, cp, e1, e2, e3, ow⟩
                    · rw [e2] at hlt
                      simp at hlt
                    simp only [Value.slice.injEq, true_and] at e1
                    obtain ⟨rfl, rfl⟩ := e1
                    have owW := hid (ow.old oW)
                    have hlt' : (i : Int) < ((normL A).length : Int) := by omega
                    have hcp : i ≤ nc := by omega
                    have h4a : 0 ≤ (i : Int) + 1 := by omega
                    have h4b : (i : Int) + 1 ≤ ((normL A).length : Int) := by omega
                    have hwrp : IntKind.i64.wrap ((i : Int) + 1) = ((i + 1 : Nat) : Int) := by rw [IntKind.wrap_i64]; omega
                    have hcp2 : i + 1 ≤ (normL A).length := by omega
                    have hcp3 : (normL A).length ≤ nc := by omega
                    have hneed := norm_needs fA.out hlt
                    unfold val at hneed
                    have koW := hid oW
                    have kab := hid abW
                    clear oW abW ow
                    go_wp2_with fail
                    refine wp_region_noPanic ?_
                    refine wp_region_held_drew (S := fun W => Old wr W) (by kernel_rfl) ((Old.refl _).drew) (fun hHeld => ?_)
                    generalize wr.drew = W0 at *
                    refine' wpAnyH_take (i := 1) rfl (by kernel_rfl) (by kernel_rfl) (by kernel_rfl) (fun _ _ _ h => h) (Or.inl ⟨by rfl, ?_⟩) hHeld ?_
                    rotate_left
                    · intro W hSw
                      have hSv : Old wr W := hSw
                      clear hSw
                      skip
                      simp only [List.getElem_toArray, List.getElem_cons_zero, List.getElem_cons_succ]
                      go_simp
                      all_goals with_reducible rfl
                    simp only [List.getElem_toArray, List.getElem_cons_zero, List.getElem_cons_succ, Act.put, List.setIfInBounds_toArray, List.set_cons_zero, List.set_cons_succ]
                    refine' wpAnyH_take (i := 2) rfl (by kernel_rfl) (by kernel_rfl) (by kernel_rfl) (fun _ _ _ h => h) (Or.inl ⟨by rfl, ?_⟩) hHeld ?_
                    rotate_left
                    · intro W hSw
                      have hSv : Old wr W := hSw
                      clear hSw
                      skip
                      simp only [List.getElem_toArray, List.getElem_cons_zero, List.getElem_cons_succ]
                      go_simp
                      all_goals with_reducible rfl
                    simp only [List.getElem_toArray, List.getElem_cons_zero, List.getElem_cons_succ, Act.put, List.setIfInBounds_toArray, List.set_cons_zero, List.set_cons_succ]
                    refine' wpAnyH_take (i := 5) rfl (by kernel_rfl) (by kernel_rfl) (by kernel_rfl) (fun _ _ _ h => h) (Or.inl ⟨by rfl, ?_⟩) hHeld ?_
                    rotate_left
                    · intro W hSw
                      have hSv : Old wr W := hSw
                      clear hSw
                      skip
                      simp only [List.getElem_toArray, List.getElem_cons_zero, List.getElem_cons_succ]
                      go_simp
                      all_goals with_reducible rfl
                    simp only [List.getElem_toArray, List.getElem_cons_zero, List.getElem_cons_succ, Act.put, List.setIfInBounds_toArray, List.set_cons_zero, List.set_cons_succ]
                    refine' wpAnyH_take (i := 6) rfl (by kernel_rfl) (by kernel_rfl) (by kernel_rfl) (fun _ _ _ h => h) (Or.inl ⟨by rfl, ?_⟩) hHeld ?_
                    rotate_left
                    · intro W hSw
                      have hSv : Old wr W := hSw
                      clear hSw
                      skip
                      simp only [List.getElem_toArray, List.getElem_cons_zero, List.getElem_cons_succ]
                      go_simp
                      all_goals with_reducible rfl
                    simp only [List.getElem_toArray, List.getElem_cons_zero, List.getElem_cons_succ, Act.put, List.setIfInBounds_toArray, List.set_cons_zero, List.set_cons_succ]
                    refine' wpAnyH_take (i := 3) rfl (by kernel_rfl) (by kernel_rfl) (by kernel_rfl) (fun _ _ _ h => h) (Or.inl ⟨by rfl, ?_⟩) hHeld ?_
                    rotate_left
                    · intro W hSw
                      have hSv : Old wr W := hSw
                      clear hSw
                      skip
                      simp only [List.getElem_toArray, List.getElem_cons_zero, List.getElem_cons_succ]
                      go_simp
                      all_goals with_reducible rfl
                    simp only [List.getElem_toArray, List.getElem_cons_zero, List.getElem_cons_succ, Act.put, List.setIfInBounds_toArray, List.set_cons_zero, List.set_cons_succ]
                    refine' wpAnyH_take (i := 7) rfl (by kernel_rfl) (by kernel_rfl) (by kernel_rfl) (fun _ _ _ h => h) (Or.inl ⟨by rfl, ?_⟩) hHeld ?_
                    rotate_left
                    · intro W hSw
                      have hSv : Old wr W := hSw
                      clear hSw
                      skip
                      simp only [List.getElem_toArray, List.getElem_cons_zero, List.getElem_cons_succ]
                      go_simp
                      all_goals with_reducible rfl
                    simp only [List.getElem_toArray, List.getElem_cons_zero, List.getElem_cons_succ, Act.put, List.setIfInBounds_toArray, List.set_cons_zero, List.set_cons_succ]
                    try rw [hwrp]
                    refine' wpAnyH_take (i := 8) rfl (by kernel_rfl) (by kernel_rfl) (by kernel_rfl) (fun _ _ _ h => h) (Or.inl ⟨by rfl, ?_⟩) hHeld ?_
                    rotate_left
                    · intro W hSw
                      have hSv : Old wr W := hSw
                      clear hSw
                      skip
                      simp only [List.getElem_toArray, List.getElem_cons_zero, List.getElem_cons_succ]
                      go_simp
                      all_goals with_reducible rfl
                    simp only [List.getElem_toArray, List.getElem_cons_zero, List.getElem_cons_succ, Act.put, List.setIfInBounds_toArray, List.set_cons_zero, List.set_cons_succ]
                    obtain ⟨xo, hxo, hxO⟩ : ∃ ad : Addr, (if nc = i + 1 then some (⟨b, 0, none⟩ : Addr) else some ⟨b, (i + 1) * 2, none⟩) = some ad ∧ ∀ W, OwnO W b (normL A) → OffC W (some ad) ((normL A).drop (i + 1)) := by
                      by_cases hq : nc = i + 1
                      · refine ⟨⟨b, 0, none⟩, if_pos hq, fun W _ j hj => ?_⟩
                        simp at hj
                        omega
                      · exact ⟨_, if_neg hq, fun W h => h.behind (i + 1)⟩
                    try simp only [Int.toNat_natCast]
                    rw [hxo]
                    have kxO := hid hxO
                    clear hxO hxo
                    refine wpAnyH_ready (rs := [0]) (by kernel_rfl) (by simp) ?_
                    refine AllReadyH.cons (o := _) rfl (fun K hK => ?_) AllReadyH.nil
                    simp only [List.getElem_toArray, List.getElem_cons_zero]
                    go_simp
                    have hH1 : Old wr (W0.alloc (.cells #[] 73)) := hHeld.alloc _
                    refine hK.out _ _ hH1 (fun _ => ?_)
                    clear hK K
                    try simp only [Act.put, List.setIfInBounds_toArray, List.set_cons_zero, List.set_cons_succ]
                    have hb1 := heap_new W0 (.cells #[] 73)
                    have hz1 := alloc_size W0 (.cells #[] 73)
                    have hz0 := hHeld.size
                    have ow1 : (W0.alloc (.cells #[] 73)).ownsRow W0.heap.size 73 2 (.slice (some ⟨W0.heap.size, 0, none⟩) 0 0) 0 (flatO []) := ⟨rfl, Or.inr ⟨W0.heap.size, 0, #[], rfl, Nat.le_refl _, hb1, Nat.le_refl _, by unfold maxLen; omega, rfl, rfl⟩⟩
                    clear hb1
                    generalize W0.alloc (.cells #[] 73) = W1 at *
                    clear hHeld
                    refine wpAnyH_ready (rs := [4]) (by kernel_rfl) (by simp) ?_
                    refine AllReadyH.cons (o := _) rfl (fun K hK => ?_) AllReadyH.nil
                    refine step_appO _ (by rfl) _ _ (by rfl) W0.heap.size (.slice (some ⟨W0.heap.size, 0, none⟩) 0 0) ⟨b, 0, none⟩ i nc [] ((normL A).take i) (by rfl) (by rfl) (by simp; omega) ow1 ((owW.out.old hH1).ahead i) (by simp; omega) (by omega) ?_
                    intro v3 W3 ho3 hg3
                    have hH3 : Old wr W3 := Frm.trans hH1 (Frm.grown (Frm.refl (fun k => k = W0.heap.size) W1) hg3 (fun k hk => Or.inr (by simpa [Value.ownBlock] using hk.symm))) (fun k hk e => by omega)
                    have hge := fun q hq => (ho3.lt q hq).1
                    have hz3 := hg3.size
                    refine hK.out _ _ hH3 (fun _ => ?_)
                    clear hK K ow1
                    try simp only [Act.put, List.setIfInBounds_toArray]
                    refine wpAnyH_ready (rs := [9]) (by kernel_rfl) (by simp) ?_
                    refine AllReadyH.cons (o := _) rfl (fun K hK => ?_) AllReadyH.nil
                    refine step_appO _ (by rfl) _ _ (by rfl) W0.heap.size v3 xo _ _ ([] ++ (normL A).take i) ((normL A).drop (i + 1)) (by rfl) (by rfl) (by simp) ho3 (kxO.out W3 (owW.out.old hH3)) (by simp; omega) (by omega) ?_
                    intro v5 W5 ho5 hg5
                    have hH5 : Old wr W5 := Frm.trans hH3 (Frm.grown (Frm.refl (fun k => W0.heap.size ≤ k) W3) hg5 (fun k hk => Or.inr (hge k hk))) (fun k hk e => by omega)
                    refine hK.out _ _ hH5 (fun _ => ?_)
                    clear hK K
                    try simp only [Act.put]
                    refine wpAnyH_ready (rs := [10]) (by kernel_rfl) (by simp) ?_
                    refine AllReadyH.cons (o := _) rfl (fun K hK => ?_) AllReadyH.nil
                    simp only [List.getElem_toArray, List.getElem_cons_zero, List.getElem_cons_succ]
                    go_simp
                    refine hK.out _ _ hH5 (fun _ => ?_)
                    clear hK K
                    try simp only [Act.put, List.setIfInBounds_toArray, List.set_cons_zero, List.set_cons_succ]
                    refine wpAnyH_done (by kernel_rfl) ?_ _
                    refine NoPanic.normal ?_
                    have hrest : ([] ++ (normL A).take i) ++ (normL A).drop (i + 1) = (normL A).take i ++ (normL A).drop (i + 1) := by simp
                    rw [hrest] at ho5
                    obtain ⟨ro, rc, rfl, hRO, -⟩ := NewO.off (owns_new ho5)
                    have koW5 := hid (koW.out.trans hH5)
                    have kab5 := hid (kab.out.old hsW hH5)
                    have ow5 := hid (owW.out.old hH5)
                    have kRO := hid hRO
                    obtain ⟨g0, g1⟩ := ow5.out.cell i hlt
                    have hsz5 := hH5.size
                    have hrl : ((normL A).take i ++ (normL A).drop (i + 1)).length ≤ 60 := by simp; omega
                    have k1 := hid (oworth_any (normL A)[i].1 (some ⟨b, 0, none⟩) nc (normL A) W5 ow5.out.off (by omega))
                    have k2 := hid (fun W h => oworth_any (normL A)[i].1 ro rc ((normL A).take i ++ (normL A).drop (i + 1)) W h (by omega))
                    clear hH1 hH3 hH5 ho3 ho5 hg3 hg5 hge hrest hRO kxO hz0 hz1 hz3 hwrp h4a h4b
                    generalize (normL A).take i ++ (normL A).drop (i + 1) = R at *
                    generalize (normL A)[i] = y at *
                    go_wp2_with fail
                    refine k1.out.mono ?_
                    rintro e W6 ⟨rfl, o6⟩
                    have g06 := o6.cell g0
                    have k22 := hid (k2.out W6 (kRO.out.old o6))
                    have koW6 := hid (koW5.out.trans o6)
                    have kab6 := hid (kab5.out.old (by omega) o6)
                    have hsz6 := o6.size
                    clear o6 k1 k2 kRO
                    go_wp2_with fail
                    refine k22.out.mono ?_
                    rintro e W7 ⟨rfl, o7⟩
                    have koW7 := hid (koW6.out.trans o7)
                    have kab7 := hid (kab6.out.old (by omega) o7)
                    have hsz7 := o7.size
                    obtain ⟨bt, hbt⟩ := kab7.out.1 i (by omega)
                    have hfz := kab7.out.2 i
                    have hbt2 := set_same (u := .bool true) hbt
                    have h64 : (i : Int) < 64 := by omega
                    have hsz8 : w5.heap.size < (W7.setCell ⟨w5.heap.size, i, none⟩ (.bool true)).heap.size := by simp [World.setCell]; omega
                    have kset : Hid (Old w5 (W7.setCell ⟨w5.heap.size, i, none⟩ (.bool true))) := Frm.setCell koW7.out ⟨w5.heap.size, i, none⟩ (Or.inl (Nat.le_refl _)) _
                    have kabs := hid (kab7.out.set (i := i) true)
                    clear o7 k22 koW6 kab6 koW5 kab5
                    go_wp2_with fail
                    go_roundw
                    case rel => exact ⟨i + 1, by omega, by go_num, kset.out, kabs.out, hsz8⟩
                    case measure => simp [intOf]; omega
                  · obtain rfl : i = (normL A).length := by omega
                    have ko9 := hid (ko5.out.trans oW)
                    have kA9 := hid (kA5.out.old oW)
                    have kB9 := hid (kB5.out.old oW)
                    have kT9 := hid (kT5.out.old oW)
                    have s09 := hid (oW.cell s05.out)
                    have s19 := hid (oW.cell s15.out)
                    have kNO9 := hid (kNO5.out.old oW)
                    have kS := hid (osame_any ao bo ca cb A B wr kA9.out hna kB9.out hnb (by omega) (by omega))
                    have hsm : decide (normL A = normL B) = alkB A B 1024 := by
                      rw [Bool.eq_iff_iff, decide_eq_true_iff, alkB_iff]
                      exact norm_same fA.out fB.out sA.out sB.out
                    rw [hsm] at kS
                    have knn := hid (norm_norm fA.out sA.out)
                    clear hsm oW abW hlt hi o7 ab7
                    generalize alkB A B 1024 = al at *
                    go_wp2_with fail
                    refine kS.out.mono ?_
                    rintro e W1 ⟨rfl, o1⟩
                    have kN2 := hid (normal_any no nc (normL A) W1 (kNO9.out.old o1) hno (by omega))
                    rw [knn.out] at kN2
                    have hbb : (al != al) = false := by simp
                    have ko10 := hid (ko9.out.trans o1)
                    have kA10 := hid (kA9.out.old o1)
                    have kT10 := hid (kT9.out.old o1)
                    have s010 := hid (o1.cell s09.out)
                    have s110 := hid (o1.cell s19.out)
                    have kNO10 := hid (kNO9.out.old o1)
                    clear o1 kS ko9 kA9 kB9 kT9 s09 s19 kNO9
                    go_wp2_with fail
                    refine kN2.out.mono ?_
                    rintro e W2 ⟨v2, rfl, hN2, o2⟩
                    obtain ⟨a2, c2, rfl, O2, -⟩ := NewO.off hN2
                    have kQ := hid (sameO_any a2 no c2 nc (normL A) (normL A) W2 O2 (kNO10.out.old o2) (by omega))
                    rw [decide_eq_true rfl] at kQ
                    have ko11 := hid (ko10.out.trans o2)
                    have kA11 := hid (kA10.out.old o2)
                    have kT11 := hid (kT10.out.old o2)
                    have s011 := hid (o2.cell s010.out)
                    have s111 := hid (o2.cell s110.out)
                    clear o2 kN2 ko10 kA10 kT10 s010 s110 kNO10 hN2 O2
                    go_wp2_with fail
                    refine kQ.out.mono ?_
                    rintro e W3 ⟨rfl, o3⟩
                    have ko12 := hid (ko11.out.trans o3)
                    have kA12 := hid (kA11.out.old o3)
                    have kT12 := hid (kT11.out.old o3)
                    have t0 : W3.cell? ⟨pb, 0, none⟩ = some (.int .i64 c) := o3.cell s011.out
                    have t1 : W3.cell? ⟨pb, 1, none⟩ = some (.int .i64 d) := o3.cell s111.out
                    clear o3 kQ ko11 kA11 kT11 s011 s111
                    go_wp2_with fail
                    go_quiet (fail)
                    have o4 := (Old.refl W3).drewN nq
                    have ko13 := hid (ko12.out.trans o4)
                    have kA13 := hid (kA12.out.old o4)
                    have kT13 := hid (kT12.out.old o4)
                    clear ko12 kA12 kT12 t0 t1 o4
                    generalize W3.drewN nq = W4 at *
                    by_cases g1 : c < 0
                    · have kK := hid (works_any W4 kT13.out)
                      go_wp2_with fail
                      refine kK.out.mono ?_
                      rintro e w10 ⟨rfl, o10⟩
                      have ko14 := hid (ko13.out.trans o10)
                      clear o10 kK
                      go_wp2_with fail
                      go_ret
                      exact ⟨rfl, ko14.out⟩
                    · by_cases g2 : d < 0
                      · have kK := hid (works_any W4 kT13.out)
                        go_wp2_with fail
                        refine kK.out.mono ?_
                        rintro e w10 ⟨rfl, o10⟩
                        have ko14 := hid (ko13.out.trans o10)
                        clear o10 kK
                        go_wp2_with fail
                        go_ret
                        exact ⟨rfl, ko14.out⟩
                      · by_cases g3 : c > 2199023255552
                        · have kK := hid (works_any W4 kT13.out)
                          go_wp2_with fail
                          refine kK.out.mono ?_
                          rintro e w10 ⟨rfl, o10⟩
                          have ko14 := hid (ko13.out.trans o10)
                          clear o10 kK
                          go_wp2_with fail
                          go_ret
                          exact ⟨rfl, ko14.out⟩
                        · by_cases g4 : d > 2199023255552
                          · have kK := hid (works_any W4 kT13.out)
                            go_wp2_with fail
                            refine kK.out.mono ?_
                            rintro e w10 ⟨rfl, o10⟩
                            have ko14 := hid (ko13.out.trans o10)
                            clear o10 kK
                            go_wp2_with fail
                            go_ret
                            exact ⟨rfl, ko14.out⟩
                          · have hlA : (lowL c A).length ≤ 60 := Nat.le_trans (lowL_len c A) h60.1
                            have l1 := hid (lower_any c kc.out ao ca A W4 kA13.out mA.out (by omega))
                            have hcd1 : -9223372036854775808 ≤ c + d := by omega
                            have hcd2 : c + d ≤ 9223372036854775807 := by omega
                            have hlow := hid (low_low (c := c) (d := d) (by omega) (by omega) A)
                            go_wp2_with fail
                            refine l1.out.mono ?_
                            rintro e W5 ⟨v5, rfl, hN5, o5⟩
                            obtain ⟨a5, c5, rfl, O5, -⟩ := NewO.off hN5
                            have l2 := hid (lower_any d kd.out a5 c5 (lowL c A) W5 O5 (low_le mA.out) (by omega))
                            have ko14 := hid (ko13.out.trans o5)
                            have kA14 := hid (kA13.out.old o5)
                            have kT14 := hid (kT13.out.old o5)
                            clear o5 l1 ko13 kA13 kT13 hN5 O5
                            go_wp2_with fail
                            refine l2.out.mono ?_
                            rintro e W6 ⟨v6, rfl, hN6, o6⟩
                            obtain ⟨a6, c6, rfl, O6, -⟩ := NewO.off hN6
                            have l3 := hid (lower_any (c + d) ⟨hcd1, hcd2⟩ ao ca A W6 (kA14.out.old o6) mA.out (by omega))
                            have ko15 := hid (ko14.out.trans o6)
                            have kT15 := hid (kT14.out.old o6)
                            have kO6 := hid O6
                            clear o6 l2 ko14 kA14 kT14 hN6 O6
                            go_wp2_with fail
                            refine l3.out.mono ?_
                            rintro e W7 ⟨v7, rfl, hN7, o7⟩
                            obtain ⟨a7, c7, rfl, O7, -⟩ := NewO.off hN7
                            have hl6 : (lowL d (lowL c A)).length ≤ 60 := Nat.le_trans (lowL_len d _) hlA
                            have kQ := hid (sameO_any a6 a7 c6 c7 (lowL d (lowL c A)) (lowL (c + d) A) W7 (kO6.out.old o7) O7 (by omega))
                            rw [decide_eq_true hlow.out] at kQ
                            have ko16 := hid (ko15.out.trans o7)
                            have kT16 := hid (kT15.out.old o7)
                            clear o7 l3 ko15 kT15 hN7 O7 kO6
                            go_wp2_with fail
                            refine kQ.out.mono ?_
                            rintro e W8 ⟨rfl, o8⟩
                            have ko17 := hid (ko16.out.trans o8)
                            have kK := hid (works_any W8 (kT16.out.old o8))
                            clear o8 kQ ko16 kT16
                            go_wp2_with fail
                            refine kK.out.mono ?_
                            rintro e W9 ⟨rfl, o9⟩
                            have ko18 := hid (ko17.out.trans o9)
                            clear o9 kK ko17
                            go_wp2_with fail
                            go_ret
                            exact ⟨rfl, ko18.out⟩
  · rw [hlo] at kLo
    go_enter Tryd.func8, Tryd.ntmps8
    go_wp2_with fail
    try rw [hw0]
    generalize w0.alloc (.cells #[.slice ao A.length ca, .slice bo B.length cb] 22) = w1 at *
    refine kLo.out.mono ?_
    rintro e w' ⟨rfl, e1⟩
    rw [e1]
    clear e1 w' kLo
    have kK := hid (works_any w1 kT.out)
    go_wp2_with fail
    refine kK.out.mono ?_
    rintro e w2 ⟨rfl, o2⟩
    have ko2 := hid (ko.out.trans o2)
    clear o2 kK
    go_wp2_with fail
    go_ret
    exact ⟨rfl, ko2.out⟩
end Go.Proofs.YtchofhgpameobaaDoor
