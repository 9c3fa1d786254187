/- WirePairs where the count is read. -/
import Derived.Test.YtchjkcghaddmhaaP6
namespace Go.Proofs.Ytchjkcghaddmhaa
open Go.RowKit

/-- How the document's reading of a list of pairs stands, k pairs on. -/
structure LInv (w W : World) (rb db : Nat) (v u : Value) (ao : Option Addr) (cap : Nat) (xs : List UInt8) (pl : Nat) (L : List (Int × Int)) (B s0 N k : Nat) (wn : Value) (Lw : List (Int × Int)) (q : Nat) : Prop where
  pb : PB w W rb db v u ao cap xs pl L q B
  len : Lw.length = k
  own : W.ownsRow B 67 2 wn k (prCells Lw)
  at_ : s0 + (rdPairs N (xs.drop s0)).2.2 = q + (rdPairs (N - k) (xs.drop q)).2.2
  all : (rdPairs N (xs.drop s0)).1 = Lw ++ (rdPairs (N - k) (xs.drop q)).1
  err : (rdPairs N (xs.drop s0)).2.1 = (rdPairs (N - k) (xs.drop q)).2.1

theorem LInv.first_err {w W : World} {rb db : Nat} {v u : Value} {ao : Option Addr} {cap : Nat} {xs : List UInt8} {pl : Nat} {L : List (Int × Int)} {B s0 N k : Nat} {wn : Value} {Lw : List (Int × Int)} {q : Nat}
    (h : LInv w W rb db v u ao cap xs pl L B s0 N k wn Lw q) (hk : k < N) (h1 : (rdNum (xs.drop q)).2.1 ≠ 0) : (rdPairs N (xs.drop s0)).2.1 = (rdNum (xs.drop q)).2.1 := by
  have e : rdPair (xs.drop q) = ((0, 0), (rdNum (xs.drop q)).2.1, 0) := by unfold rdPair; rw [if_pos h1]
  rw [h.err, show N - k = (N - (k + 1)) + 1 from by omega, rdPairs_err _ _ (by rw [e]; exact h1), e]

theorem pair_of {l : List UInt8} (h1 : (rdNum l).2.1 = 0) : rdPair l = (((rdNum l).1, (rdNum (l.drop (rdNum l).2.2)).1), (rdNum (l.drop (rdNum l).2.2)).2.1, (rdNum l).2.2 + (rdNum (l.drop (rdNum l).2.2)).2.2) := by
  unfold rdPair; rw [if_neg (by omega)]

theorem LInv.second_err {w W : World} {rb db : Nat} {v u : Value} {ao : Option Addr} {cap : Nat} {xs : List UInt8} {pl : Nat} {L : List (Int × Int)} {B s0 N k : Nat} {wn : Value} {Lw : List (Int × Int)} {q : Nat}
    (h : LInv w W rb db v u ao cap xs pl L B s0 N k wn Lw q) (hk : k < N) (h1 : (rdNum (xs.drop q)).2.1 = 0) (h2 : (rdNum (xs.drop (q + (rdNum (xs.drop q)).2.2))).2.1 ≠ 0) :
    (rdPairs N (xs.drop s0)).2.1 = (rdNum (xs.drop (q + (rdNum (xs.drop q)).2.2))).2.1 := by
  have e := pair_of h1
  rw [List.drop_drop] at e
  rw [h.err, show N - k = (N - (k + 1)) + 1 from by omega, rdPairs_err _ _ (by rw [e]; exact h2), e]

theorem LInv.next {w W W2 : World} {rb db : Nat} {v u : Value} {ao : Option Addr} {cap : Nat} {xs : List UInt8} {pl : Nat} {L : List (Int × Int)} {B s0 N k : Nat} {wn wn' : Value} {Lw : List (Int × Int)} {q : Nat}
    (h : LInv w W rb db v u ao cap xs pl L B s0 N k wn Lw q) (hk : k < N) (h1 : (rdNum (xs.drop q)).2.1 = 0) (h2 : (rdNum (xs.drop (q + (rdNum (xs.drop q)).2.2))).2.1 = 0)
    (hpb : PB w W2 rb db v u ao cap xs pl L (q + (rdNum (xs.drop q)).2.2 + (rdNum (xs.drop (q + (rdNum (xs.drop q)).2.2))).2.2) B)
    (hown : W2.ownsRow B 67 2 wn' (k + 1) (prCells Lw ++ [.int .u64 (rdNum (xs.drop q)).1, .int .u64 (rdNum (xs.drop (q + (rdNum (xs.drop q)).2.2))).1])) :
    LInv w W2 rb db v u ao cap xs pl L B s0 N (k + 1) wn' (Lw ++ [((rdNum (xs.drop q)).1, (rdNum (xs.drop (q + (rdNum (xs.drop q)).2.2))).1)]) (q + (rdNum (xs.drop q)).2.2 + (rdNum (xs.drop (q + (rdNum (xs.drop q)).2.2))).2.2) := by
  have e := pair_of h1
  rw [List.drop_drop] at e
  have hN : N - k = (N - (k + 1)) + 1 := by omega
  have hs := rdPairs_succ (N - (k + 1)) (xs.drop q) (by rw [e]; exact h2)
  rw [← hN, List.drop_drop, e] at hs
  refine ⟨hpb, by simp [h.len], by rw [prCells_snoc]; exact hown, ?_, ?_, ?_⟩
  · rw [h.at_, hs]; simp only [Nat.add_assoc]
  · rw [h.all, hs]; simp [Nat.add_assoc]
  · rw [h.err, hs]; simp [Nat.add_assoc]

/-- want grows from B on. -/
theorem PB.app {w W W2 : World} {rb db : Nat} {v u : Value} {ao : Option Addr} {cap : Nat} {xs : List UInt8} {pl : Nat} {L : List (Int × Int)} {q B : Nat} {wn : Value} {n : Nat} {cs : List Value} {o : Obj} (h : PB w W rb db v u ao cap xs pl L q B) (hown : W.ownsRow B 67 2 wn n cs) (hg : (W.alloc o).grownBy W2 wn.ownBlock) :
    PB w W2 rb db v u ao cap xs pl L q B :=
  h.up (((Frm.refl (fun j => B ≤ j) W).alloc o).grown hg (fun k hk => .inr (hown.lt k hk).1))

set_option maxRecDepth 100000 in
set_option maxHeartbeats 4000000 in
theorem pairs_fail (hk : Known) (ao : Option Addr) (cap : Nat) (xs : List UInt8) (most : Int) (w : World) (hs : Src w ao cap xs) (hlen : xs.length ≤ 900000000000) (hm1 : most ≤ 9223372036854775807)
    (hpos : 0 ≤ most) (N s0 : Nat) (hN1 : (N : Int) ≤ most) (hN2 : s0 + N ≤ xs.length) (er : Int) (hne : (er != 0) = true) (heq : (er == 0) = false) (hR : Hid ((rdPairs N (xs.drop s0)).2.1 = er)) (hT : Hid (prTake (xs.drop 0) most = ([], er, 0))) (ht : Hid (rdNum (xs.drop 0) = ((N : Int), 0, s0))) :
    Calls Try.prog 7 #[.slice ao xs.length cap, .int .i64 most] w fun e w' => e = .returned (.bool true) ∧ Frm (fun _ => False) w w' := by
  obtain ⟨i0, hi0, hz0, hz1, hz2⟩ := info_parts Try.info67
  go_enter Try.func7, Try.ntmps7
  go_wp2_with fail
  refine (newReader_src ao cap xs _ hs hlen).mono ?_
  rintro e W1 ⟨rb, v, rfl, hrd, hF1, hrb, hvb⟩
  have hrd2 := hrd.kept (S := fun _ => False) ((Frm.refl _ W1).alloc (.cells #[.slice ao xs.length cap, .int .i64 0] 48)) (fun e => e) (fun _ _ e => e)
  go_wp2_with fail
  refine (prtake_any rb v xs 0 most _ hrd2 hlen hm1).mono ?_
  rintro e W3 ⟨u, rfl, hpa, hro, hfo⟩
  rw [hT.out] at hpa hro ⊢
  have PB0 := pb_new hs hF1 hrb hrd hro hpa hfo
  clear hrd hrd2 hF1 hrb hvb hpa hro hfo
  generalize W1.heap.size = db at *
  dsimp only at PB0 ⊢
  go_wp2_with fail
  refine (refNum_any db ao cap xs 0 _ PB0.rr hlen).mono ?_
  rintro e W4 ⟨rfl, hrr, hff⟩
  rw [ht.out] at hrr ⊢
  have PB1 := PB0.num hrr hff
  clear PB0 hrr hff
  dsimp only at PB1 ⊢
  obtain ⟨ao', cap', hu⟩ := slice_of_owns PB1.own
  rw [List.length_nil] at hu
  subst hu
  go_wp2_with fail
  refine (refLeft_any db ao cap xs _ _ PB1.rr hlen).mono ?_
  rintro e W5 ⟨rfl, n5, rfl⟩
  have PB2 := PB1.grow ((Frm.refl _ W4).drewN n5)
  generalize W4.drewN n5 = W5 at *
  clear PB1
  have hlt4 : ¬ (xs.length : Int) - ((0 + s0 : Nat) : Int) < (N : Int) := by omega
  generalize hpl : 0 + 0 = pl at PB2
  generalize W3.heap.size = B at PB2
  rw [Nat.zero_add] at PB2
  have hI : LInv w W5 rb db v (.slice ao' 0 cap') ao cap xs pl [] B s0 N 0 (.slice none 0 0) [] s0 := ⟨PB2, rfl, World.ownsRow_nil _ _ _ _, by simp, by simp, by simp⟩
  clear PB2
  go_wp2_with fail
  go_loopw [10, 11, 12] (fun f wn i wr => ∃ k : Nat, k ≤ N ∧ i = .int .u64 (k : Int) ∧ ((f = .int .i64 0 ∧ ∃ Lw q, LInv w wr rb db v (.slice ao' 0 cap') ao cap xs pl [] B s0 N k wn Lw q) ∨ (f = .int .i64 er ∧ ∃ q, PB w wr rb db v (.slice ao' 0 cap') ao cap xs pl [] q B))) (fun _ _ i _ => N - (intOf i).toNat)
  case atStart => exact ⟨0, Nat.zero_le _, rfl, .inl ⟨rfl, _, _, hI⟩⟩
  case round =>
    clear hI
    obtain ⟨k, hkN, rfl, hd | hd⟩ := hrel
    · obtain ⟨rfl, Lw, q, hinv⟩ := hd
      by_cases hk1 : k < N
      · have C1 := hid (refNum_any db ao cap xs q wr hinv.pb.rr hlen)
        have pb := hinv.pb
        have hBW := pb.BW
        have hown := hinv.own
        by_cases h1 : (rdNum (xs.drop q)).2.1 = 0
        · have C2 := fun W (hR2 : RR w W db ao cap xs (q + (rdNum (xs.drop q)).2.2)) => hid (refNum_any db ao cap xs (q + (rdNum (xs.drop q)).2.2) W hR2 hlen)
          by_cases h2 : (rdNum (xs.drop (q + (rdNum (xs.drop q)).2.2))).2.1 = 0
          · have HX := hid (fun W2 wn' => hinv.next (W2 := W2) (wn' := wn') hk1 h1 h2)
            clear hinv
            generalize rdNum (xs.drop q) = A at *
            obtain ⟨x, e1, c1⟩ := A
            dsimp only at h1
            subst h1
            dsimp only at C2 h2 HX
            generalize rdNum (xs.drop (q + c1)) = A2 at *
            obtain ⟨y, e2, c2⟩ := A2
            dsimp only at h2
            subst h2
            go_wp2_with fail
            refine C1.out.mono ?_
            rintro e W6 ⟨rfl, hrr, hff⟩
            have pb6 := pb.num hrr hff
            have hown6 := owns_kept hown hff (fun g hg => by have := (hown.lt g hg).1; have := pb.dbB; omega)
            clear C1 pb hown hrr hff
            go_wp2_with fail
            refine (C2 _ pb6.rr).out.mono ?_
            rintro e W7 ⟨rfl, hrr, hff⟩
            have pb7 := pb6.num hrr hff
            have hown7 := owns_kept hown6 hff (fun g hg => by have := (hown6.lt g hg).1; have := pb6.dbB; omega)
            have hBW7 := pb7.BW
            clear C2 pb6 hown6 hrr hff
            go_wp2_with (at_builtin; refine wpList_append_own _ (by rfl) _ _ 64 (by rfl) B 67 i0 _ 2 16 Try.underlying64 hi0 hz0 hz1 hz2 rfl (by omega) u11 k (prCells Lw) (by rfl) (hown7.alloc _) ⟨W7.heap.size, 0, none⟩ 1 1 [.int .u64 x, .int .u64 y] (by rfl) (by rfl) (World.news_of_block (cs := #[.int .u64 x, .int .u64 y]) (t := 67) (fr := (0, 0)) (heap_alloc_new W7 _)) (by simp [Value.oneCell']) (by unfold maxLen; omega) (by omega) (by simp; omega) ?_; intro wn' W8 hown8 hgrow _)
            have hnx := HX.out W8 wn' (pb7.app hown7 hgrow) hown8
            clear hown8 hgrow hown7 pb7 HX
            go_wp2
            go_roundw
            case rel => exact ⟨k + 1, by omega, by go_num, .inl ⟨rfl, _, _, hnx⟩⟩
            case measure => simp [intOf]; omega
          · have hE := hid (hinv.second_err hk1 h1 h2)
            clear hinv
            generalize rdNum (xs.drop q) = A at *
            obtain ⟨x, e1, c1⟩ := A
            dsimp only at h1
            subst h1
            dsimp only at C2 h2 hE
            generalize rdNum (xs.drop (q + c1)) = A2 at *
            obtain ⟨y, e2, c2⟩ := A2
            dsimp only at h2 hE
            obtain rfl : er = e2 := by rw [← hR.out, hE.out]
            go_wp2_with fail
            refine C1.out.mono ?_
            rintro e W6 ⟨rfl, hrr, hff⟩
            have pb6 := pb.num hrr hff
            have hown6 := owns_kept hown hff (fun g hg => by have := (hown.lt g hg).1; have := pb.dbB; omega)
            clear C1 pb hown hrr hff
            go_wp2_with fail
            refine (C2 _ pb6.rr).out.mono ?_
            rintro e W7 ⟨rfl, hrr, hff⟩
            have pb7 := pb6.num hrr hff
            have hown7 := owns_kept hown6 hff (fun g hg => by have := (hown6.lt g hg).1; have := pb6.dbB; omega)
            have hBW7 := pb7.BW
            clear C2 pb6 hown6 hrr hff
            go_wp2_with (at_builtin; refine wpList_append_own _ (by rfl) _ _ 64 (by rfl) B 67 i0 _ 2 16 Try.underlying64 hi0 hz0 hz1 hz2 rfl (by omega) u11 k (prCells Lw) (by rfl) (hown7.alloc _) ⟨W7.heap.size, 0, none⟩ 1 1 [.int .u64 x, .int .u64 y] (by rfl) (by rfl) (World.news_of_block (cs := #[.int .u64 x, .int .u64 y]) (t := 67) (fr := (0, 0)) (heap_alloc_new W7 _)) (by simp [Value.oneCell']) (by unfold maxLen; omega) (by omega) (by simp; omega) ?_; intro wn' W8 hown8 hgrow _)
            have pb8 := pb7.app hown7 hgrow
            clear hown8 hgrow hown7 pb7
            go_wp2
            go_roundw
            case rel => exact ⟨k + 1, by omega, by go_num, .inr ⟨rfl, _, pb8⟩⟩
            case measure => simp [intOf]; omega
        · have hE := hid (hinv.first_err hk1 h1)
          clear hinv
          generalize rdNum (xs.drop q) = A at *
          obtain ⟨x, e1, c1⟩ := A
          dsimp only at h1 hE
          obtain rfl : er = e1 := by rw [← hR.out, hE.out]
          go_wp2_with fail
          refine C1.out.mono ?_
          rintro e W6 ⟨rfl, hrr, hff⟩
          have PB1 := pb.num hrr hff
          clear C1 pb hown hrr hff
          subst hpl
          go_wp2_with fail
          refine (num_any _ _).mono ?_
          rintro e w' ⟨rfl, rfl⟩
          go_wp2_with fail
          refine (rplace_any rb _ xs _ _ PB1.rd).mono ?_
          rintro e w' ⟨rfl, rfl⟩
          go_wp2_with fail
          refine (hk _).mono ?_
          rintro e W9 ⟨rfl, hF9⟩
          have hF := PB1.rr.frm
          go_wp2
          go_ret
          exact ⟨rfl, hF.trans hF9 (fun _ _ e => e)⟩
      · exfalso
        obtain rfl : k = N := by omega
        have h1 := hinv.err
        rw [hR.out, Nat.sub_self] at h1
        simp only [rdPairs] at h1
        rw [h1] at hne
        simp at hne
    · obtain ⟨rfl, q, PB1⟩ := hd
      subst hpl
      go_wp2_with fail
      refine (num_any _ _).mono ?_
      rintro e w' ⟨rfl, rfl⟩
      go_wp2_with fail
      refine (rplace_any rb _ xs _ _ PB1.rd).mono ?_
      rintro e w' ⟨rfl, rfl⟩
      go_wp2_with fail
      refine (hk _).mono ?_
      rintro e W9 ⟨rfl, hF9⟩
      have hF := PB1.rr.frm
      go_wp2
      go_ret
      exact ⟨rfl, hF.trans hF9 (fun _ _ e => e)⟩

end Go.Proofs.Ytchjkcghaddmhaa
