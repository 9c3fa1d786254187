/- How much of a name is enough, walked. -/
import Derived.Test.YtjkgijfddgppjaaN19
namespace Go.Proofs.Ytjkgijfddgppjaa
open Go.RowKit Go.Shelf Go.Maps Go.Sort

set_option maxRecDepth 100000 in
set_option maxHeartbeats 4000000 in
theorem tshort_any (tb mb : Nat) (v : Value) (most : Int) (L : List (List UInt8)) (n : Nat) (w : World) (h : Tbl w tb mb v most L) (hn : n < L.length) (hx1 : 1 ≤ (L.getD n []).length) (h64 : ∀ m, (L.getD m []).length ≤ 64) (hL : L.length ≤ 1048576) :
    Calls Try.prog 48 #[.pointer (some ⟨tb, 0, none⟩), .int .i64 (n : Int)] w fun e w' => ∃ d : Nat, e = .returned (.int .i64 (d : Int)) ∧ Short L n d ∧ ∃ q, w' = w.drewN q := by
  obtain ⟨g, cap, hv, -⟩ := h.nth hn
  have c1 := h.cell1
  have kc : Hid (∀ k, k < L.length → w.cell? ⟨g, k, none⟩ = some (.string ⟨(L.getD k []).toArray⟩)) := fun k hk => by
    obtain ⟨g', cap', hv', ck⟩ := h.nth hk
    rw [hv] at hv'
    simp only [Value.slice.injEq, Option.some.injEq, Addr.mk.injEq, and_true, true_and] at hv'
    obtain ⟨rfl, rfl⟩ := hv'
    rw [getD_at hk]
    exact ck
  have cn := kc.out n hn
  rw [hv] at c1
  clear h
  have k64 := hid h64
  have hxl := h64 n
  clear h64
  obtain ⟨x, hx⟩ : ∃ x, L.getD n [] = x := ⟨_, rfl⟩
  have kx := hid hx
  rw [hx] at cn hx1 hxl
  have hI := hid (fun i (h : i < x.length) => run_byte x i h)
  obtain ⟨sx, hsx⟩ : ∃ s : ByteArray, (⟨x.toArray⟩ : ByteArray) = s := ⟨_, rfl⟩
  have hzx : sx.size = x.length := by rw [← hsx]; simp [ByteArray.size]
  simp only [hsx] at hI cn
  have hn' : (n : Int) < (L.length : Int) := by omega
  have kS : Hid (Shr L x n 0 1) := ⟨Nat.le_refl _, hx1, fun m hm => by omega, Or.inl rfl⟩
  clear hsx hx
  go_enter Try.func48, Try.ntmps48
  go_wp2_with fail
  go_step3
  go_wp2_with fail
  go_step3
  go_wp2_with fail
  go_loopg [6, 22] L.length (fun gh s6 s22 wr => ∃ k e : Nat, k + gh = L.length ∧ s22 = .int .i64 (k : Int) ∧ s6 = .int .i64 (e : Int) ∧ e ≤ 64 ∧ Hid (Shr L x n k e) ∧ ∃ q, wr = w.drewN q)
  case atStart => exact ⟨0, 1, by omega, rfl, rfl, by omega, kS, 0, rfl⟩
  case round =>
    obtain ⟨k, e, hkg, rfl, rfl, he64, hS, q, rfl⟩ := hrel
    cases gk with
    | zero =>
      have hkz : ¬ ((k : Int) < (L.length : Int)) := by omega
      go_wp2_with fail
      try rw [Exit.noGoto_ret]
      go_ret
      refine ⟨e, rfl, Or.inr ?_, q, rfl⟩
      rw [kx.out]
      obtain rfl : k = L.length := by omega
      exact hS.out
    | succ gh =>
      have hkz : (k : Int) < (L.length : Int) := by omega
      have ck := kc.out k (by omega)
      by_cases hkn : k = n
      · have hb : ((k : Int) == (n : Int)) = true := by rw [hkn]; simp
        go_wp2_with fail
        go_roundg gh
        case rel => exact ⟨k + 1, e, by omega, by go_num, rfl, he64, by subst hkn; exact hS.out.same, q, rfl⟩
        case measure => omega
      · have hb : ((k : Int) == (n : Int)) = false := by simp; omega
        obtain ⟨y, hy⟩ : ∃ y, L.getD k [] = y := ⟨_, rfl⟩
        have ky := hid hy
        have hyl := k64.out k
        rw [hy] at ck hyl
        have hJ := hid (fun i (h : i < y.length) => run_byte y i h)
        obtain ⟨sy, hsy⟩ : ∃ s : ByteArray, (⟨y.toArray⟩ : ByteArray) = s := ⟨_, rfl⟩
        have hzy : sy.size = y.length := by rw [← hsy]; simp [ByteArray.size]
        simp only [hsy] at hJ ck
        clear hsy hy
        go_wp2_with fail
        go_loopg [6, 32] x.length (fun g2 s6 s32 wr => ∃ i : Nat, i + g2 = x.length ∧ s32 = .int .i64 (i : Int) ∧ s6 = .int .i64 (e : Int) ∧ Hid (x.take i <+: y) ∧ ∃ q, wr = w.drewN q)
        case atStart => exact ⟨0, by omega, rfl, rfl, by show x.take 0 <+: y; simp, q, rfl⟩
        case round =>
          obtain ⟨i, hig, rfl, rfl, hP, q2, rfl⟩ := hrel
          cases gk with
          | zero =>
            have hiz : ¬ ((i : Int) < (x.length : Int)) := by omega
            go_wp2_with fail
            try rw [Exit.noGoto_ret]
            go_ret
            refine ⟨x.length, rfl, Or.inl ⟨⟨k, by omega, hkn, ?_⟩, by rw [kx.out]⟩, q2, rfl⟩
            rw [kx.out, ky.out]
            have := hP.out
            rwa [List.take_of_length_le (by omega)] at this
          | succ g3 =>
            have hiz : (i : Int) < (x.length : Int) := by omega
            have hix : i < x.length := by omega
            have hT := hid (take_succ_prefix hix hP.out)
            have xi := hI.out i hix
            have hmx : Hid (max (e : Int) ((i : Int) + 1) = ((max e (i + 1) : Nat) : Int)) := by show max (e : Int) ((i : Int) + 1) = ((max e (i + 1) : Nat) : Int); omega
            by_cases hiy : i = y.length
            · have hb1 : ((i : Int) == (y.length : Int)) = true := by rw [hiy]; simp
              have hN : Hid (¬ x.take (i + 1) <+: L.getD k []) := by
                rw [ky.out]
                exact fun hp => by obtain ⟨hh, _⟩ := hT.out.1 hp; omega
              go_wp2_with fail
              go_quiet (fail)
              go_wp2_with fail
              go_roundg gh
              case rel => exact ⟨k + 1, max e (i + 1), by omega, by go_num, by first | rfl | rw [hmx.out] | rw [← hiy, hmx.out], by omega, hS.out.next hkn hix (by rw [ky.out]; exact hP.out) hN.out, _, rfl⟩
              case measure => omega
            · have hb1 : ((i : Int) == (y.length : Int)) = false := by simp; omega
              have hiy2 : i < y.length := by
                obtain ⟨t, ht⟩ := hP.out
                have := congrArg List.length ht
                simp at this
                omega
              have yi := hJ.out i hiy2
              have hiy3 : (i : Int) < (y.length : Int) := by omega
              by_cases hxy : x[i] = y[i]
              · have hb2 : ((x[i].toNat : Int) != (y[i].toNat : Int)) = false := by rw [hxy]; simp
                have hP2 : Hid (x.take (i + 1) <+: y) := hT.out.2 ⟨hiy2, hxy⟩
                generalize (x[i].toNat : Int) = a at *
                generalize (y[i].toNat : Int) = b at *
                go_wp2_with fail
                go_quiet (fail)
                go_wp2_with fail
                go_roundg g3
                case rel => exact ⟨i + 1, by omega, by go_num, rfl, hP2, _, rfl⟩
                case measure => omega
              · have hb2 : ((x[i].toNat : Int) != (y[i].toNat : Int)) = true := by
                  simp only [bne_iff_ne]
                  exact fun e => hxy (UInt8.toNat_inj.1 (by omega))
                have hN : Hid (¬ x.take (i + 1) <+: L.getD k []) := by
                  rw [ky.out]
                  exact fun hp => by obtain ⟨_, hh⟩ := hT.out.1 hp; exact hxy hh
                generalize (x[i].toNat : Int) = a at *
                generalize (y[i].toNat : Int) = b at *
                go_wp2_with fail
                go_quiet (fail)
                go_wp2_with fail
                go_roundg gh
                case rel => exact ⟨k + 1, max e (i + 1), by omega, by go_num, by first | rfl | rw [hmx.out] | rw [← hiy, hmx.out], by omega, hS.out.next hkn hix (by rw [ky.out]; exact hP.out) hN.out, _, rfl⟩
                case measure => omega

set_option maxRecDepth 100000 in
theorem short_good (hb tb mb : Nat) (v : Value) (most : Int) (L : List (List UInt8)) (n : Nat) (w : World) (h : Nms w hb tb mb v most L) (hn : n < L.length) (hx1 : 1 ≤ (L.getD n []).length) (h64 : ∀ m, (L.getD m []).length ≤ 64) (hL : L.length ≤ 1048576) :
    Calls Try.prog 21 #[.pointer (some ⟨hb, 0, none⟩), .int .i64 (n : Int)] w fun e w' => ∃ d : Nat, e = .returned (.tuple #[.int .i64 (d : Int), .bool true]) ∧ Short L n d ∧ Old w w' := by
  have kH := hid (has_any hb tb mb v most L w h n)
  rw [decide_eq_true ⟨by omega, by omega⟩] at kH
  have c0 := h.c0
  have kS := hid (tshort_any tb mb v most L n w h.t hn hx1 h64 hL)
  clear h h64
  go_enter Try.func21, Try.ntmps21
  go_wp2_with fail
  refine kH.out.mono ?_
  rintro e w' ⟨rfl, e1⟩
  rw [e1]
  clear e1 w'
  go_wp2_with fail
  refine kS.out.mono ?_
  rintro e w2 ⟨d, rfl, hd, q, hq⟩
  have kd := hid hd
  have o2 : Hid (Old w w2) := by rw [hq]; exact (Old.refl w).drewN q
  clear hd hq
  go_wp2_with fail
  go_ret2
  exact ⟨d, rfl, kd.out, o2.out⟩

set_option maxRecDepth 100000 in
theorem short_bad (hb tb mb : Nat) (v : Value) (most : Int) (L : List (List UInt8)) (w : World) (h : Nms w hb tb mb v most L) (n : Int) (hn : ¬ (0 ≤ n ∧ n < L.length)) :
    Calls Try.prog 21 #[.pointer (some ⟨hb, 0, none⟩), .int .i64 n] w fun e w' => e = .returned (.tuple #[.int .i64 0, .bool false]) ∧ w' = w := by
  have kH := hid (has_any hb tb mb v most L w h n)
  rw [decide_eq_false hn] at kH
  clear h hn
  go_enter Try.func21, Try.ntmps21
  go_wp2_with fail
  refine kH.out.mono ?_
  rintro e w' ⟨rfl, e1⟩
  rw [e1]
  clear e1 w'
  go_wp2_with fail
  go_ret2
  exact ⟨rfl, rfl⟩
end Go.Proofs.Ytjkgijfddgppjaa
