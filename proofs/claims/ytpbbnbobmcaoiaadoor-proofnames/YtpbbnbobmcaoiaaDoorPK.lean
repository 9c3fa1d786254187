/- What is left of a part behind its first buyer: as a function over which one ranges. -/
import Derived.Test.YtpbbnbobmcaoiaaDoorPI
import Derived.Test.YtpbbnbobmcaoiaaDoorRN
namespace Go.Proofs.YtpbbnbobmcaoiaaDoor
open Go.RowKit Go.Lib Go.Shelf
attribute [local go_sem] Oper.semAt_some

abbrev Rt := Pt × Int
def encR (x : Rt) : Array Value := #[.agg #[.int .i64 x.1.1, .int .u32 (x.1.2 : Int)], .int .i64 x.2]
def rsA (k f : Nat) (L : List Off) : List Rt := (L.filter (fun x => subB x.1 f)).map (fun x => (((k : Int) + 1, less f x.1), x.2))
/-- What is told of a part. -/
def rsL (B : Ins) (k f : Nat) : List Rt := if B.length ≤ k then [] else (((k : Int) + 1, f), 0) :: rsA k f (B.getD k [])
theorem rsA_more {k f : Nat} {L : List Off} {n : Nat} (hn : n < L.length) (h : subB L[n].1 f = true) : rsA k f (L.drop n) = (((k : Int) + 1, less f L[n].1), L[n].2) :: rsA k f (L.drop (n + 1)) := by
  unfold rsA
  rw [List.drop_eq_getElem_cons hn, List.filter_cons_of_pos (by simpa using h), List.map_cons]
theorem rsA_less {k f : Nat} {L : List Off} {n : Nat} (hn : n < L.length) (h : subB L[n].1 f = false) : rsA k f (L.drop n) = rsA k f (L.drop (n + 1)) := by
  unfold rsA
  rw [List.drop_eq_getElem_cons hn, List.filter_cons_of_neg (by simp [h])]
/-- Where it finds what it tells. -/
structure RC (pb qb kb k f : Nat) (bo : Option Addr) (cap g o : Nat) (a0 : Option Addr) (c0 : Nat) (B : Ins) (W : World) : Prop where
  p0 : W.cell? ⟨pb, 0, none⟩ = some (.int .i64 (k : Int))
  p1 : W.cell? ⟨pb, 1, none⟩ = some (.int .u32 (f : Int))
  q0 : W.cell? ⟨qb, 0, none⟩ = some (.pointer (some ⟨kb, 0, none⟩))
  b1 : W.cell? ⟨kb, 1, none⟩ = some (.slice bo B.length cap)
  row (h : k < B.length) : bo = some ⟨g, o, none⟩ ∧ W.cell? ⟨g, o + k, none⟩ = some (.slice a0 (B[k]'h).length c0) ∧ OffC W a0 (B[k]'h)

set_option maxRecDepth 100000 in
set_option maxHeartbeats 4000000 in
theorem rests1_P (d : Nat) (hd : 1 ≤ d) (pb qb kb k f : Nat) (bo : Option Addr) (cap g o : Nat) (a0 : Option Addr) (c0 : Nat) (B : Ins) (hk : k ≤ B.length) (hB : B.length ≤ 4611686018427387904) (T : Nat → Prop) (w : World) (hC : ∀ Y, KeptC T w Y → RC pb qb kb k f bo cap g o a0 c0 B Y) (hlt32 : ∀ l ∈ B, l.length ≤ 4611686018427387904 ∧ ∀ x ∈ l, x.1 < 4294967296) :
    SeqP Tryd.prog d 76 #[.pointer (some ⟨pb, 0, none⟩), .pointer (some ⟨qb, 0, none⟩)] encR (KeptC T) (fun q => ∃ r, rsL B k f = q ++ r) (fun q => q = rsL B k f) (fun q => ∃ r, rsL B k f = q ++ r) w := by
  intro lp J Jx W hbe hJ _ hY h0
  have kt0 : KeptC T w W := KeptC.of_frm (Frm.mono (Old.of_below hbe) (fun _ _ h => h.elim))
  obtain ⟨p0, p1, q0, b1, -⟩ := hC W kt0
  have khY := hid hY
  have khJ := hid hJ
  have kh0 := hid h0
  have khC := hid hC
  have kkt := hid kt0
  have k32 := hid hlt32
  clear hY hJ h0 hC kt0 hbe hlt32
  refine callsIn_of_wp Tryd.func76 rfl trivial ?_ rfl
  simp only [Tryd.ntmps76, List.size_toArray, List.length_cons, List.length_nil, Nat.reduceAdd, Nat.reduceSub, Array.replicate_succ, Array.replicate_zero, List.push_toArray, List.append_toArray, List.nil_append, List.cons_append]
  by_cases hkB : B.length ≤ k
  · have hgt : (k : Int) + 1 > (B.length : Int) := by omega
    have hrs : Hid (rsL B k f = []) := hid (if_pos hkB)
    gi_wp2_with fail
    refine ⟨fun _ h => (by cases h), ?_⟩
    gi_wp2_with fail
    refine bodyPost_ret (results_none rfl _ _ _) rfl ?_
    exact ⟨⟨_, rfl⟩, .inl ⟨_, by rw [hrs.out], kh0.out⟩⟩
  · have hgt : ¬ (k : Int) + 1 > (B.length : Int) := by omega
    have hkl : (k : Int) < (B.length : Int) := by omega
    have hrs : Hid (rsL B k f = (((k : Int) + 1, f), 0) :: rsA k f (B.getD k [])) := hid (if_neg hkB)
    obtain ⟨fn, tmps, asn, bdy, hy, hR⟩ := khY.out [] (((k : Int) + 1, f), 0) _ kh0.out ⟨_, by rw [hrs.out]; rfl⟩
    dsimp only [encR] at hy
    gi_wp2_with fail
    refine (round_wide hR).mono ?_
    rintro e w7 (⟨rfl, hJ7, hp7⟩ | ⟨rfl, hJx7⟩)
    rotate_left
    · clear hy hR p0 p1 q0 b1
      gi_wp2_with fail
      refine bodyPost_ret (results_none rfl _ _ _) rfl ?_
      exact ⟨⟨_, rfl⟩, .inr ⟨_, ⟨_, by rw [hrs.out]; rfl⟩, hJx7⟩⟩
    have kt7 : Hid (KeptC T w w7) := hid (kkt.out.trans hp7)
    have kJ7 := hid hJ7
    have hkl' : k < B.length := by omega
    have hgk : B.getD k [] = B[k]'hkl' := by rw [List.getD_eq_getElem?_getD, List.getElem?_eq_getElem hkl']; rfl
    rw [hgk] at hrs
    have kl32 := hid (k32.out _ (List.getElem_mem hkl'))
    have kI := hid (fun Y (hK : KeptC T w Y) => And.intro (khC.out Y hK).p0 (And.intro (khC.out Y hK).p1 ((khC.out Y hK).row hkl')))
    obtain ⟨p0, p1, q0, b1, -⟩ := khC.out w7 kt7.out
    obtain ⟨-, -, rfl, r0, -⟩ := kI.out w7 kt7.out
    obtain ⟨BL, eBL⟩ : ∃ BL, BL = B.length := ⟨_, rfl⟩
    rw [← eBL] at b1 hkl hgt
    have kBL := hid eBL
    clear eBL
    generalize B[k]'hkl' = L at *
    clear hy hR kh0 kkt khC hgk
    gi_wp2_with fail
    refine wpIn_wide.2 ?_
    go_quiet (fail)
    have koN : Hid (Old w7 (w7.drewN nq)) := (Old.refl w7).drewN _
    generalize w7.drewN nq = W1 at *
    have kt1 : Hid (KeptC T w W1) := kt7.out.trans (KeptC.of_frm (Frm.mono koN.out (fun _ _ h => h.elim)))
    have kJ1 : Hid (J [(((k : Int) + 1, f), 0)] W1) := khJ.out _ _ _ kJ7.out (Frm.mono koN.out (fun _ _ h => h.elim))
    clear p0 p1 q0 b1 r0 kt7 kJ7
    gi_wp2_with fail
    have kWi := hid (fun a b w => within_any a b w)
    have hLb : L.length ≤ 4611686018427387904 := kl32.out.1
    gi_loopw [37] (fun v wr => ∃ (n : Nat) (p : List Rt), n ≤ L.length ∧ v = .int .i64 (n : Int) ∧ Hid (J p wr ∧ rsL B k f = p ++ rsA k f (L.drop n) ∧ KeptC T w wr)) (fun v _ => L.length - (intOf v).toNat)
    case atStart => exact ⟨0, _, Nat.zero_le _, rfl, hid ⟨kJ1.out, by rw [hrs.out]; rfl, kt1.out⟩⟩
    case round =>
      clear kJ1 kt1 koN W1 hJ7 hp7
      obtain ⟨n, p, hn, rfl, hD⟩ := hrel
      by_cases hlt : n < L.length
      · have hlt' : (n : Int) < (L.length : Int) := by omega
        obtain ⟨p0, p1, -, -, hoff⟩ := kI.out wr hD.out.2.2
        obtain ⟨gg, oo, rfl, r0, r1⟩ := hoff n hlt
        obtain ⟨x, hx⟩ : ∃ x, L[n] = x := ⟨_, rfl⟩
        have kyes := hid (rsA_more (k := k) (f := f) hlt)
        have kno := hid (rsA_less (k := k) (f := f) hlt)
        rw [hx] at r0 r1 kyes kno
        have hxl : x.1 < 4294967296 := by rw [← hx]; exact kl32.out.2 _ (List.getElem_mem hlt)
        obtain ⟨xg, xc⟩ := x
        dsimp only at r0 r1 kyes kno hxl
        have oA : Old wr (wr.alloc (.cells #[.int .u32 (xg : Int), .int .i64 xc] 66)) := (Old.refl wr).alloc _
        have p0 := oA.cell p0
        have p1 := oA.cell p1
        have v0 := new_cell wr #[.int .u32 (xg : Int), .int .i64 xc] 66 0 _ rfl
        have v1 := new_cell wr #[.int .u32 (xg : Int), .int .i64 xc] 66 1 _ rfl
        simp only [List.getElem_toArray, List.getElem_cons_zero, List.getElem_cons_succ] at v0 v1
        have hbl := bits_less f xg
        have kJA := hid (khJ.out _ _ _ hD.out.1 (Frm.mono oA (fun _ _ h => h.elim)))
        have ktA : Hid (KeptC T w (wr.alloc (.cells #[.int .u32 (xg : Int), .int .i64 xc] 66))) := hD.out.2.2.trans (KeptC.of_frm (Frm.mono oA (fun _ _ h => h.elim)))
        clear hx hoff oA
        gi_wp2_with fail
        refine ⟨trivial, ?_⟩
        refine (callsIn_wide.2 (kWi.out _ _ _)).mono ?_
        rintro e w' ⟨rfl, e9⟩
        rw [e9]
        clear e9 w'
        generalize wr.alloc (.cells #[.int .u32 (xg : Int), .int .i64 xc] 66) = W2 at *
        cases hsub : subB xg f
        · have hD2 : Hid (J p W2 ∧ rsL B k f = p ++ rsA k f (L.drop (n + 1)) ∧ KeptC T w W2) := hid ⟨kJA.out, by rw [hD.out.2.1, kno.out hsub], ktA.out⟩
          clear hD kJA ktA
          gi_wp2_with fail
          refine ⟨fun _ h => (by cases h), ?_⟩
          gi_wp2_with fail
          go_roundw
          case rel => exact ⟨n + 1, p, by omega, by go_num, hD2⟩
          case measure => simp [intOf]; omega
        · have hall : Hid (rsL B k f = (p ++ [(((k : Int) + 1, less f xg), xc)]) ++ rsA k f (L.drop (n + 1))) := by
            show _ = _
            rw [hD.out.2.1, kyes.out hsub, List.append_assoc]
            rfl
          obtain ⟨fn, tmps, asn, bdy, hy, hR⟩ := khY.out p (((k : Int) + 1, less f xg), xc) _ kJA.out ⟨_, hall.out⟩
          dsimp only [encR] at hy
          clear hD
          gi_wp2_with fail
          refine (round_wide hR).mono ?_
          rintro e w7 (⟨rfl, hJ7, hp7⟩ | ⟨rfl, hJx7⟩)
          · have hD7 : Hid (J (p ++ [(((k : Int) + 1, less f xg), xc)]) w7 ∧ rsL B k f = (p ++ [(((k : Int) + 1, less f xg), xc)]) ++ rsA k f (L.drop (n + 1)) ∧ KeptC T w w7) := hid ⟨hJ7, hall.out, ktA.out.trans hp7⟩
            clear hy hR kJA ktA hJ7 hp7 hall p0 p1 v0 v1 hbl
            gi_wp2_with fail
            go_roundw
            case rel => exact ⟨n + 1, _, by omega, by go_num, hD7⟩
            case measure => simp [intOf]; omega
          · clear hy hR kJA ktA p0 p1 v0 v1 hbl
            gi_wp2_with fail
            refine bodyPost_ret (results_none rfl _ _ _) rfl ?_
            exact ⟨⟨_, rfl⟩, .inr ⟨_, ⟨_, hall.out⟩, hJx7⟩⟩
      · have hlt' : ¬ (n : Int) < (L.length : Int) := by omega
        obtain rfl : n = L.length := by omega
        have hall : Hid (rsL B k f = p) := by
          show _ = _
          rw [hD.out.2.1, List.drop_length]
          simp [rsA]
        gi_wp2_with fail
        go_end0
        refine ⟨⟨_, rfl⟩, .inl ?_⟩
        first
        | exact ⟨p, hall.out.symm, hD.out.1⟩
        | (rw [hall.out]; exact hD.out.1)
end Go.Proofs.YtpbbnbobmcaoiaaDoor
