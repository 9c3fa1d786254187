/- WirePairs where all pairs are read. -/
import Derived.Test.YtchjkcghaddmhaaP7
import Derived.ChangeKeysEq
namespace Go.Proofs.Ytchjkcghaddmhaa
open Go.RowKit

theorem prCells_get (L : List (Int × Int)) (k : Nat) (h : k < L.length) : (prCells L)[k * 2]? = some (.int .u64 L[k].1) ∧ (prCells L)[k * 2 + 1]? = some (.int .u64 L[k].2) := by
  induction L generalizing k with
  | nil => simp at h
  | cons ab L ih =>
    have e : prCells (ab :: L) = .int .u64 ab.1 :: .int .u64 ab.2 :: prCells L := by simp [prCells]
    rw [e]
    cases k with
    | zero => simp
    | succ k =>
      have := ih k (by simpa using h)
      rw [show (k + 1) * 2 = k * 2 + 1 + 1 from by omega]
      simpa using this

theorem Try.cells32 : Try.prog.cellsOf 32 = 1 := by kernel_rfl

theorem arr_eq (d : Nat) (a b : Int) (w : World) : (Op.equalIn (d + 1 + 1) 67 (.agg #[.int .u64 a, .int .u64 b]) (.agg #[.int .u64 a, .int .u64 b])).run Try.prog w = .ok true w := by
  obtain ⟨i0, hi0, hz0, hz1, hz2⟩ := info_parts Try.info32
  have hu : Try.prog.underlying 67 = some (.array 2 32) := Try.underlying67
  have hp : Try.prog.plainKey 32 = true := by kernel_rfl
  rw [run_equalIn_array w (d + 1) _ _ hu hi0, Try.cells32]
  have h1 : (part 32 #[.int .u64 a, .int .u64 b] 0).run Try.prog w = .ok (.int .u64 a) w := run_part_plain w hp rfl
  have h2 : (part 32 #[.int .u64 a, .int .u64 b] 1).run Try.prog w = .ok (.int .u64 b) w := run_part_plain w hp rfl
  have h3 : ∀ x : Int, (Op.equalIn (d + 1) 32 (.int .u64 x) (.int .u64 x)).run Try.prog w = .ok true w := fun x => by
    simp [Op.equalIn, run_underlying Try.underlying32]
  have e : List.range 2 = [0, 1] := rfl
  rw [e]
  simp [Op.eqItems, h1, h2, h3]

theorem arr_eq10 (a b : Int) (w : World) : (Op.equalIn 10000 67 (.agg #[.int .u64 a, .int .u64 b]) (.agg #[.int .u64 a, .int .u64 b])).run Try.prog w = .ok true w := arr_eq 9998 a b w

theorem pr_at {w : World} {base : Nat} {u : Value} {L : List (Int × Int)} (h : w.ownsRow base 67 2 u L.length (prCells L)) (k : Nat) (hk : k < L.length) :
    ∃ g cap, u = .slice (some ⟨g, 0, none⟩) L.length cap ∧ w.cell? ⟨g, k * 2, none⟩ = some (.int .u64 L[k].1) ∧ w.cell? ⟨g, k * 2 + 1, none⟩ = some (.int .u64 L[k].2) := by
  obtain ⟨g, cap, rfl, _, _⟩ := h.form (by omega)
  have h1 := h.cells (g := g) rfl (k * 2) _ (prCells_get L k hk).1
  have h2 := h.cells (g := g) rfl (k * 2 + 1) _ (prCells_get L k hk).2
  rw [Addr.add_lit, Nat.zero_add] at h1 h2
  exact ⟨g, cap, rfl, h1, h2⟩

set_option maxRecDepth 100000 in
set_option maxHeartbeats 4000000 in
theorem pairs_good (hk : Known) (ao : Option Addr) (cap : Nat) (xs : List UInt8) (most : Int) (w : World) (hs : Src w ao cap xs) (hlen : xs.length ≤ 900000000000) (hm1 : most ≤ 9223372036854775807)
    (hpos : 0 ≤ most) (N s0 : Nat) (hN1 : (N : Int) ≤ most) (hN2 : s0 + N ≤ xs.length) (L : List (Int × Int)) (c : Nat) (hR : Hid (rdPairs N (xs.drop s0) = (L, 0, c))) (hT : Hid (prTake (xs.drop 0) most = (L, 0, s0 + c))) (ht : Hid (rdNum (xs.drop 0) = ((N : Int), 0, s0))) :
    Calls Try.prog 7 #[.slice ao xs.length cap, .int .i64 most] w fun e w' => e = .returned (.bool true) ∧ Frm (fun _ => False) w w' := by
  obtain ⟨i0, hi0, hz0, hz1, hz2⟩ := info_parts Try.info67
  go_enter Try.func7, Try.ntmps7
  go_wp2_with fail
  refine (newReader_src ao cap xs _ hs hlen).mono ?_
  rintro e W1 ⟨rb, v, rfl, hrd, hF1, hrb, hvb⟩
  have hrd2 := hrd.kept (S := fun _ => False) ((Frm.refl _ W1).alloc (.cells #[.slice ao xs.length cap, .int .i64 0] 48)) (fun e => e) (fun _ _ e => e)
  go_wp2_with fail
  refine (prtake_any rb v xs 0 most _ hrd2 hlen hm1).mono ?_
  rintro e W3 ⟨u, rfl, hpa, hro, hfo⟩
  rw [hT.out] at hpa hro ⊢
  have PB0 := pb_new hs hF1 hrb hrd hro hpa hfo
  clear hrd hrd2 hF1 hrb hvb hpa hro hfo
  generalize W1.heap.size = db at *
  dsimp only at PB0 ⊢
  go_wp2_with fail
  refine (refNum_any db ao cap xs 0 _ PB0.rr hlen).mono ?_
  rintro e W4 ⟨rfl, hrr, hff⟩
  rw [ht.out] at hrr ⊢
  have PB1 := PB0.num hrr hff
  clear PB0 hrr hff
  dsimp only at PB1 ⊢
  obtain ⟨ao', cap', hu⟩ := slice_of_owns PB1.own
  subst hu
  go_wp2_with fail
  refine (refLeft_any db ao cap xs _ _ PB1.rr hlen).mono ?_
  rintro e W5 ⟨rfl, n5, rfl⟩
  have PB2 := PB1.grow ((Frm.refl _ W4).drewN n5)
  generalize W4.drewN n5 = W5 at *
  clear PB1
  have hlt4 : ¬ (xs.length : Int) - ((0 + s0 : Nat) : Int) < (N : Int) := by omega
  generalize hpl : 0 + (s0 + c) = pl at PB2
  generalize W3.heap.size = B at PB2
  rw [Nat.zero_add] at PB2
  have hI : LInv w W5 rb db v (.slice ao' L.length cap') ao cap xs pl L B s0 N 0 (.slice none 0 0) [] s0 := ⟨PB2, rfl, World.ownsRow_nil _ _ _ _, by simp, by simp, by simp⟩
  clear PB2
  go_wp2_with fail
  go_loopw [10, 11, 12] (fun f wn i wr => ∃ k : Nat, k ≤ N ∧ i = .int .u64 (k : Int) ∧ (f = .int .i64 0 ∧ ∃ Lw q, LInv w wr rb db v (.slice ao' L.length cap') ao cap xs pl L B s0 N k wn Lw q)) (fun _ _ i _ => N - (intOf i).toNat)
  case atStart => exact ⟨0, Nat.zero_le _, rfl, rfl, _, _, hI⟩
  case round =>
    clear hI
    obtain ⟨k, hkN, rfl, rfl, Lw, q, hinv⟩ := hrel
    by_cases hk1 : k < N
    · have C1 := hid (refNum_any db ao cap xs q wr hinv.pb.rr hlen)
      have pb := hinv.pb
      have hBW := pb.BW
      have hown := hinv.own
      by_cases h1 : (rdNum (xs.drop q)).2.1 = 0
      · have C2 := fun W (hR2 : RR w W db ao cap xs (q + (rdNum (xs.drop q)).2.2)) => hid (refNum_any db ao cap xs (q + (rdNum (xs.drop q)).2.2) W hR2 hlen)
        by_cases h2 : (rdNum (xs.drop (q + (rdNum (xs.drop q)).2.2))).2.1 = 0
        · have HX := hid (fun W2 wn' => hinv.next (W2 := W2) (wn' := wn') hk1 h1 h2)
          clear hinv
          generalize rdNum (xs.drop q) = A at *
          obtain ⟨x, e1, c1⟩ := A
          dsimp only at h1
          subst h1
          dsimp only at C2 h2 HX
          generalize rdNum (xs.drop (q + c1)) = A2 at *
          obtain ⟨y, e2, c2⟩ := A2
          dsimp only at h2
          subst h2
          go_wp2_with fail
          refine C1.out.mono ?_
          rintro e W6 ⟨rfl, hrr, hff⟩
          have pb6 := pb.num hrr hff
          have hown6 := owns_kept hown hff (fun g hg => by have := (hown.lt g hg).1; have := pb.dbB; omega)
          clear C1 pb hown hrr hff
          go_wp2_with fail
          refine (C2 _ pb6.rr).out.mono ?_
          rintro e W7 ⟨rfl, hrr, hff⟩
          have pb7 := pb6.num hrr hff
          have hown7 := owns_kept hown6 hff (fun g hg => by have := (hown6.lt g hg).1; have := pb6.dbB; omega)
          have hBW7 := pb7.BW
          clear C2 pb6 hown6 hrr hff
          go_wp2_with (at_builtin; refine wpList_append_own _ (by rfl) _ _ 64 (by rfl) B 67 i0 _ 2 16 Try.underlying64 hi0 hz0 hz1 hz2 rfl (by omega) u11 k (prCells Lw) (by rfl) (hown7.alloc _) ⟨W7.heap.size, 0, none⟩ 1 1 [.int .u64 x, .int .u64 y] (by rfl) (by rfl) (World.news_of_block (cs := #[.int .u64 x, .int .u64 y]) (t := 67) (fr := (0, 0)) (heap_alloc_new W7 _)) (by simp [Value.oneCell']) (by unfold maxLen; omega) (by omega) (by simp; omega) ?_; intro wn' W8 hown8 hgrow _)
          have hnx := HX.out W8 wn' (pb7.app hown7 hgrow) hown8
          clear hown8 hgrow hown7 pb7 HX
          go_wp2
          go_roundw
          case rel => exact ⟨k + 1, by omega, by go_num, rfl, _, _, hnx⟩
          case measure => simp [intOf]; omega
        · exfalso
          have h3 := hinv.second_err hk1 h1 h2
          rw [hR.out] at h3
          exact h2 h3.symm
      · exfalso
        have h3 := hinv.first_err hk1 h1
        rw [hR.out] at h3
        exact h1 h3.symm
    · obtain rfl : k = N := by omega
      have e1 := hinv.at_
      have e2 := hinv.all
      rw [hR.out, Nat.sub_self] at e1 e2
      simp only [rdPairs, Nat.add_zero, List.append_nil] at e1 e2
      have hlw := hinv.len
      have pb := hinv.pb
      have hown := hinv.own
      clear hinv
      subst e2
      rw [← hlw] at hown
      obtain rfl : pl = q := by omega
      obtain ⟨ao2, cap2, hu2⟩ := slice_of_owns hown
      subst hu2
      obtain ⟨rc0, rc1, _⟩ := pb.rr.cells
      have hrd := pb.rd
      clear hR hT ht e1 hpl
      obtain ⟨wo, rfl⟩ : ∃ wo : World, wo = wr := ⟨_, rfl⟩
      go_wp2_with fail
      go_quiet (first | (go_at_call 22; exact Calls.quiet_of_same (num_any _ _)) | (go_at_call 18; exact Calls.quiet_of_same (rplace_any rb _ xs _ _ (hrd.drewN _))))
      have pb2 := pb.grow ((Frm.refl (fun _ => False) wo).drewN nq)
      have hown2 := owns_kept hown ((Frm.refl (fun _ => False) wo).drewN nq) (fun _ _ e => e)
      generalize wo.drewN nq = w9 at *
      clear pb hown rc0 rc1 hrd
      go_wp2_with fail
      go_loopw [17] (fun i wr => ∃ m : Nat, m ≤ L.length ∧ i = .int .i64 (m : Int) ∧ PB w wr rb db v (.slice ao' L.length cap') ao cap xs pl L pl B ∧ wr.ownsRow B 67 2 (.slice ao2 L.length cap2) L.length (prCells L)) (fun i _ => L.length - (intOf i).toNat)
      case atStart => exact ⟨0, Nat.zero_le _, rfl, pb2, hown2⟩
      case round =>
        clear pb2 hown2
        obtain ⟨m, hm, rfl, pb3, hown3⟩ := hrel
        by_cases hlt : m < L.length
        · obtain ⟨g1, cp1, hq1, d0, d1⟩ := pr_at pb3.own m hlt
          obtain ⟨g2, cp2, hq2, d2, d3⟩ := pr_at hown3 m hlt
          simp only [Value.slice.injEq] at hq1 hq2
          obtain ⟨rfl, _, rfl⟩ := hq1
          obtain ⟨rfl, _, rfl⟩ := hq2
          have b1 : (0 : Int) ≤ (m : Int) := by omega
          have b2 : (m : Int) < (L.length : Int) := by omega
          generalize L[m] = ab at *
          obtain ⟨xa, xb⟩ := ab
          dsimp only at d0 d1 d2 d3
          have hne := fun W => arr_eq10 xa xb W
          go_wp2_with fail
          go_quiet (fail)
          have pb4 := pb3.grow ((Frm.refl (fun _ => False) wr).drewN nq)
          have hown4 := owns_kept hown3 ((Frm.refl (fun _ => False) wr).drewN nq) (fun _ _ e => e)
          clear pb3 hown3 d0 d1 d2 d3 hne
          go_wp2
          go_roundw
          case rel => exact ⟨m + 1, by omega, by go_num, pb4, hown4⟩
          case measure => simp [intOf]; omega
        · go_wp2_with fail
          refine (hk _).mono ?_
          rintro e W9 ⟨rfl, hF9⟩
          have hF := pb3.rr.frm
          go_wp2
          go_ret
          exact ⟨rfl, hF.trans hF9 (fun _ _ e => e)⟩

end Go.Proofs.Ytchjkcghaddmhaa
