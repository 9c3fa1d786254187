/- The document's Cost and Gain, walked. -/
import Derived.Test.YtfiogkmgenodgaaDoorP2
namespace Go.Proofs.YtfiogkmgenodgaaDoor
open Go.RowKit Go.Lib

theorem costN_succ (P : List Int) (g k : Nat) : costF P 0 (goodsN g (k + 1)) = if g.testBit k then wrap64 (costF P 0 (goodsN g k) + P.getD k 0) else costF P 0 (goodsN g k) := by
  rw [goodsN_succ]
  cases g.testBit k
  · simp
  · simp [costF_snoc]

theorem costZ_N (P : List Int) (g k : Nat) (hk : k = P.length ∨ (k = 32 ∧ 32 ≤ P.length)) (h32 : k ≤ 32) : costZ P g = costF P 0 (goodsN g k) := by
  unfold costZ
  congr 1
  unfold goodsL goodsN
  rw [List.filter_filter]
  have e : (32 : Nat) = k + (32 - k) := by omega
  rw [e, List.range_add, List.filter_append]
  have h1 : (List.range k).filter (fun i => decide (i < P.length) && g.testBit i) = (List.range k).filter (fun i => g.testBit i) := by
    apply List.filter_congr
    intro i hi
    simp only [List.mem_range] at hi
    have : i < P.length := by omega
    simp [this]
  have h2 : (List.map (fun x => k + x) (List.range (32 - k))).filter (fun i => decide (i < P.length) && g.testBit i) = [] := by
    rw [List.filter_eq_nil_iff]
    intro i hi
    simp only [List.mem_map, List.mem_range] at hi
    obtain ⟨j, hj, rfl⟩ := hi
    have : ¬ k + j < P.length := by omega
    simp [this]
  rw [h1, h2, List.append_nil]

set_option maxRecDepth 100000 in
set_option maxHeartbeats 4000000 in
theorem rcost_any (po : Option Addr) (cap : Nat) (P : List Int) (g : Nat) (w : World) (h : NumsC .i64 w po P) (hl : P.length ≤ 9223372036854775807) :
    Calls Tryd.prog 13 #[.slice po P.length cap, .int .u32 (g : Int)] w fun e w' => e = .returned (.int .i64 (costZ P g)) ∧ w' = w := by
  have kO := hid h
  clear h
  go_enter Tryd.func13, Tryd.ntmps13
  go_wp2_with fail
  go_loopw [5, 6] (fun v t wr => ∃ (k : Nat) (c : Int), k ≤ 32 ∧ k ≤ P.length ∧ t = .int .i64 (k : Int) ∧ v = .int .i64 c ∧ Hid (costF P 0 (goodsN g k) = c) ∧ wr = w) (fun _ t _ => 32 - (intOf t).toNat)
  case atStart => exact ⟨0, 0, by omega, by omega, rfl, rfl, rfl, by trivial⟩
  case round =>
    obtain ⟨k, c, hk, hkP, rfl, rfl, hA, hwr⟩ := hrel
    obtain rfl := hwr.symm
    by_cases hlt : k < P.length
    · by_cases h32 : k < 32
      · obtain ⟨gb, o, rfl, ck⟩ := kO.out k hlt
        have hk' : (k : Int) < (P.length : Int) := by omega
        have hk32 : (k : Int) < 32 := by omega
        have hsu := costN_succ P g k
        have htm : ((g : Int) / 2 ^ k).tmod 2 = ((g / 2 ^ k % 2 : Nat) : Int) := by
          rw [Int.tmod_eq_emod_of_nonneg (Int.ediv_nonneg (Int.natCast_nonneg _) (Int.le_of_lt (Int.pow_pos (by decide))))]
          simp
        have hgd : P.getD k 0 = P[k] := by
          rw [List.getD_eq_getElem?_getD, List.getElem?_eq_getElem hlt]; rfl
        rw [hgd, hA.out] at hsu
        have hsk := hid hsu
        obtain ⟨v, hv⟩ : ∃ v, P[k] = v := ⟨_, rfl⟩
        rw [hv] at ck hsk
        have htb := Nat.testBit_eq_decide_div_mod_eq (x := g) (i := k)
        clear hv hsu hgd
        by_cases hb : g / 2 ^ k % 2 = 1
        · have hb1 : g.testBit k = true := by rw [htb]; simpa using hb
          rw [hb1] at hsk
          clear htb
          have hx : (((g : Int) / 2 ^ k).tmod 2 == 1) = true := by
            rw [htm, hb]
            rfl
          clear htm hb
          go_wp2_with fail
          go_roundw
          case rel => exact ⟨k + 1, _, by omega, by omega, by go_num, rfl, hid (by rw [hsk.out]; rfl), by trivial⟩
          case measure => simp [intOf]; omega
        · have hb1 : g.testBit k = false := by rw [htb]; simpa using hb
          rw [hb1] at hsk
          clear htb
          have hx : (((g : Int) / 2 ^ k).tmod 2 == 1) = false := by
            rw [htm, beq_eq_false_iff_ne]
            omega
          clear htm hb
          go_wp2_with fail
          go_roundw
          case rel => exact ⟨k + 1, c, by omega, by omega, by go_num, rfl, hid (by rw [hsk.out]; rfl), by trivial⟩
          case measure => simp [intOf]; omega
      · obtain rfl : k = 32 := by omega
        have hz := hid (costZ_N P g 32 (Or.inr ⟨rfl, by omega⟩) (by omega))
        have hk' : ((32 : Nat) : Int) < (P.length : Int) := by omega
        go_wp2_with fail
        go_ret
        exact ⟨by rw [hz.out, hA.out]; rfl, rfl⟩
    · obtain rfl : k = P.length := by omega
      have hz := hid (costZ_N P g P.length (Or.inl rfl) hk)
      go_wp2_with fail
      go_ret
      exact ⟨by rw [hz.out, hA.out]; rfl, rfl⟩

theorem bits_sub (a b : Nat) : (bits BinOp.andNot IntKind.u32 (a : Int) (b : Int) == 0) = subB a b := by
  rw [bits_less, subB, Bool.eq_iff_iff, beq_iff_eq, beq_iff_eq]
  omega
theorem bits_nsub (a b : Nat) : (bits BinOp.andNot IntKind.u32 (a : Int) (b : Int) != 0) = !subB a b := by
  rw [← bits_sub]
  rfl

set_option maxRecDepth 100000 in
set_option maxHeartbeats 4000000 in
theorem rgain_any (ao po : Option Addr) (cap cp : Nat) (L : List Off) (P : List Int) (f : Nat) (w : World) (h : OffC w ao L) (hl : L.length ≤ 9223372036854775807) (hP : NumsC .i64 w po P) (hPl : P.length ≤ 9223372036854775807) :
    Calls Tryd.prog 11 #[.slice ao L.length cap, .slice po P.length cp, .int .u32 (f : Int)] w fun e w' => e = .returned (.tuple #[.int .i64 (gainZ P f L).1, .int .i64 (gainZ P f L).2]) ∧ Old w w' := by
  have kO := hid h
  have kC := hid (fun g W (o : Old w W) => rcost_any po cp P g W (hP.old o) hPl)
  clear h hP
  go_enter Tryd.func11, Tryd.ntmps11
  go_wp2_with fail
  go_loopw [8, 9, 10] (fun v a t wr => ∃ (k : Nat) (sv sa : Int), k ≤ L.length ∧ t = .int .i64 (k : Int) ∧ v = .int .i64 sv ∧ a = .int .i64 sa ∧ Hid (gainZ P f L = gainA P f (L.drop k) k sv sa) ∧ Old w wr) (fun _ _ t _ => L.length - (intOf t).toNat)
  case atStart => exact ⟨0, 0, -1, Nat.zero_le _, rfl, rfl, rfl, rfl, Old.refl _⟩
  case round =>
    obtain ⟨k, sv, sa, hk, rfl, rfl, rfl, hA, oW⟩ := hrel
    by_cases hlt : k < L.length
    · obtain ⟨bg, o, rfl, d1, d2⟩ := kO.out k hlt
      have e1 := oW.cell d1
      have e2 := oW.cell d2
      have hk' : (k : Int) < (L.length : Int) := by omega
      have hdr : Hid (L.drop k = L[k] :: L.drop (k + 1)) := List.drop_eq_getElem_cons hlt
      obtain ⟨x, hx⟩ : ∃ x, L[k] = x := ⟨_, rfl⟩
      rw [hx] at e1 e2 hdr
      obtain ⟨xg, xc⟩ := x
      dsimp only at e1 e2
      have koW := hid oW
      have hbs := bits_nsub xg f
      clear hx d1 d2 oW
      cases hs : subB xg f
      · rw [hs] at hbs
        have kz : Hid (gainZ P f L = gainA P f (L.drop (k + 1)) (k + 1) sv sa) := by
          show _ = _
          rw [hA.out, hdr.out, gainA, if_neg (by simp [hs])]
        go_wp2_with fail
        go_roundw
        case rel => exact ⟨k + 1, sv, sa, by omega, by go_num, rfl, rfl, kz, koW.out⟩
        case measure => simp [intOf]; omega
      · rw [hs] at hbs
        have kC2 := hid (fun W (oo : Old w W) => kC.out xg W oo)
        obtain ⟨c, hc⟩ : ∃ c, costZ P xg = c := ⟨_, rfl⟩
        have kz1 : Hid (wrap64 (xc - c) > sv → gainZ P f L = gainA P f (L.drop (k + 1)) (k + 1) (wrap64 (xc - c)) k) := fun hgt => by
          rw [hA.out, hdr.out, gainA, hc, if_pos ⟨hs, hgt⟩]
        have kz2 : Hid (¬ wrap64 (xc - c) > sv → gainZ P f L = gainA P f (L.drop (k + 1)) (k + 1) sv sa) := fun hgt => by
          rw [hA.out, hdr.out, gainA, hc, if_neg (fun h => hgt h.2)]
        rw [hc] at kC2
        clear hc hs hdr hA
        go_upto_region 7 with fail
        go_quiet (exact Calls.quiet_of_same (kC2.out _ (koW.out.drewN _)))
        by_cases hgt : wrap64 (xc - c) > sv
        · have kz := hid (kz1.out hgt)
          obtain ⟨d, hd⟩ : ∃ d, wrap64 (xc - c) = d := ⟨_, rfl⟩
          rw [hd] at kz hgt ⊢
          clear hd kz1 kz2
          go_wp2_with fail
          go_roundw
          case rel => exact ⟨k + 1, d, k, by omega, by go_num, rfl, rfl, kz, koW.out.drewN _⟩
          case measure => simp [intOf]; omega
        · have kz := hid (kz2.out hgt)
          obtain ⟨d, hd⟩ : ∃ d, wrap64 (xc - c) = d := ⟨_, rfl⟩
          rw [hd] at hgt ⊢
          clear hd kz1 kz2
          go_wp2_with fail
          go_roundw
          case rel => exact ⟨k + 1, sv, sa, by omega, by go_num, rfl, rfl, kz, koW.out.drewN _⟩
          case measure => simp [intOf]; omega
    · obtain rfl : k = L.length := by omega
      have kz : Hid (gainZ P f L = (sv, sa)) := by
        show _ = _
        rw [hA.out, List.drop_length, gainA]
      go_wp2_with fail
      go_ret2
      exact ⟨by rw [kz.out]; rfl, oW⟩
end Go.Proofs.YtfiogkmgenodgaaDoor
