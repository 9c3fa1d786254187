/- The shortest form of a list, walked. -/
import Derived.Test.YtnambpbhkehijaaDoorH4
import Derived.Test.YtnambpbhkehijaaDoorH5
namespace Go.Proofs.YtnambpbhkehijaaDoor
open Go.RowKit

/-- Is y idle beside those that stay? -/
def idleB (K : List Off) (y : Off) : Bool := K.any (fun x => outB x y true)
def normA : List Off → List Off → List Off
  | [], K => K
  | y :: r, K => if y.2 < 1 then normA r K else if idleB K y then normA r K else normA r (K ++ [y])
/-- The shortest form. -/
def normL (L : List Off) : List Off := normA (srtL L) []

theorem normA_len : ∀ (r K : List Off), (normA r K).length ≤ r.length + K.length
  | [], K => by simp [normA]
  | y :: r, K => by
    rw [normA]
    have h1 := normA_len r K
    have h2 := normA_len r (K ++ [y])
    simp only [List.length_append, List.length_cons, List.length_nil] at *
    split
    · omega
    · split <;> omega
theorem normL_len' (L : List Off) : (normL L).length ≤ L.length := by
  have := normA_len (srtL L) []
  rw [srtL_len] at this
  simpa [normL] using this
theorem normL_len (L : List Off) (h : L.length ≤ 9223372036854775807) : (normL L).length ≤ 9223372036854775807 := Nat.le_trans (normL_len' L) h

theorem OwnO.at {w : World} {b i : Nat} {L : List Off} {x : Off} (h : OwnO w b L) (hx : L[i]? = some x) : w.cell? ⟨b, i * 2, none⟩ = some (.int .u32 (x.1 : Int)) ∧ w.cell? ⟨b, i * 2 + 1, none⟩ = some (.int .i64 x.2) := by
  obtain ⟨hi, e⟩ := List.getElem?_eq_some_iff.1 hx
  have := h.cell i hi
  rwa [e] at this

theorem row_at {K S : List Off} {k : Nat} (h1 : K.length ≤ k) (h2 : k < S.length) : (K ++ S.drop K.length)[k]? = some S[k] := by
  rw [List.getElem?_append_right h1, List.getElem?_drop, show K.length + (k - K.length) = k by omega]
  simp
theorem row_lo {K S : List Off} {i : Nat} (h : i < K.length) : (K ++ S.drop K.length)[i]? = some K[i] := by
  rw [List.getElem?_append_left h]
  simp
theorem row_set {K S : List Off} (y : Off) (h : K.length < S.length) : (K ++ S.drop K.length).set K.length y = (K ++ [y]) ++ S.drop (K ++ [y]).length := by
  have e : S.drop K.length = S[K.length] :: S.drop (K.length + 1) := List.drop_eq_getElem_cons h
  rw [List.set_append_right _ _ (Nat.le_refl _), Nat.sub_self, e, List.set_cons_zero, List.length_append]
  simp
theorem OwnO.front {w : World} {b : Nat} {K R : List Off} (h : OwnO w b (K ++ R)) : OwnO w b K :=
  ⟨fun i hi => h.at (by rw [List.getElem?_append_left hi]; simp), h.fz, h.lt⟩
theorem idle_take {K : List Off} {y : Off} {j : Nat} (h : j < K.length) (h1 : idleB (K.take j) y = false) (h2 : outB K[j] y true = false) : idleB (K.take (j + 1)) y = false := by
  unfold idleB at *
  rw [List.take_succ_eq_append_getElem h, List.any_append, h1]
  simp [h2]
theorem idle_hit {K : List Off} {y : Off} {j : Nat} (h : j < K.length) (h2 : outB K[j] y true = true) : idleB K y = true := by
  unfold idleB
  rw [List.any_eq_true]
  exact ⟨K[j], List.getElem_mem h, h2⟩

set_option maxRecDepth 100000 in
theorem outdoing_any (v : Value) (hv : ∃ a n c, v = .slice a n c) (w : World) : Calls Tryd.prog 45 #[v] w fun e w' => e = .returned (.func (.func 60) #[] #[.pointer (some ⟨w.heap.size, 0, none⟩)]) ∧ w' = w.alloc (.cells #[v] 22) := by
  obtain ⟨a, n, c, rfl⟩ := hv
  go_enter Tryd.func45, Tryd.ntmps45
  go_wp2
  go_ret
  exact ⟨rfl, rfl⟩

/-- What Normal answers. -/
def NorP (w : World) (N : List Off) (e : Ending) (w' : World) : Prop := Old w w' ∧ ∃ b, e = .returned (.slice (some ⟨b, 0, none⟩) N.length N.length) ∧ w.heap.size ≤ b ∧ OwnO w' b N

set_option maxRecDepth 100000 in
set_option maxHeartbeats 8000000 in
theorem normal_some (ao : Option Addr) (cap : Nat) (L : List Off) (w : World) (h : OffC w ao L) (hn : ao = none → cap = 0) (hl : L.length ≤ 1000000) (hne : L ≠ []) :
    Calls Tryd.prog 26 #[.slice ao L.length cap] w fun e w' => NorP w (normL L) e w' := by
  have kC := hid (copied_any ao cap L w h hn hl)
  clear h hn
  go_enter Tryd.func26, Tryd.ntmps26
  go_wp2_with fail
  go_step3
  go_wp2_with fail
  refine kC.out.mono ?_
  rintro e w1 ⟨v, rfl, hN, o1⟩
  rcases hN with ⟨rfl, rfl⟩ | ⟨b, c1, rfl, hb, hcap, ow⟩
  · exact absurd rfl hne
  have kS := hid (sort_offers (cap := c1) ow (by omega))
  have ko1 := hid o1
  have hbl := ow.lt
  clear kC o1 ow hne
  go_wp2_with fail
  refine kS.out.mono ?_
  rintro e w2 ⟨rfl, ow2, f2⟩
  have hSl := hid (srtL_len L)
  have kN : Hid (normL L = normA (srtL L) []) := rfl
  obtain ⟨S, hS⟩ : ∃ S, srtL L = S := ⟨_, rfl⟩
  rw [hS] at ow2 hSl kN
  have hSn := hSl.out
  have hs2 := f2.size
  have kf2 := hid f2
  have kow := hid ow2
  clear hS kS f2 ow2
  have kO := hid (outdoing_any (.slice (some ⟨b, 0, none⟩) L.length c1) ⟨_, _, _, rfl⟩ w2)
  go_wp2_with fail
  refine kO.out.mono ?_
  rintro e w3' ⟨rfl, e3⟩
  rw [e3]
  clear e3 kO w3'
  have q0 := new_cell w2 #[.slice (some ⟨b, 0, none⟩) L.length c1] 22 0 _ rfl
  have o3 : Old w2 (w2.alloc (.cells #[.slice (some ⟨b, 0, none⟩) L.length c1] 22)) := (Old.refl w2).alloc _
  have ow3 := hid (kow.out.old o3)
  have hpb : w2.heap.size ≠ b := by omega
  have ko3 := hid o3
  have hs3 := o3.size
  generalize w2.alloc (.cells #[.slice (some ⟨b, 0, none⟩) L.length c1] 22) = w3 at *
  obtain ⟨pb, hpbe⟩ : ∃ pb, w2.heap.size = pb := ⟨_, rfl⟩
  rw [hpbe] at q0 hpb ⊢
  have kq0 := hid q0
  clear kow hpbe o3 q0
  go_wp2_with fail
  go_step3
  go_wp2_with fail
  go_loopg [4, 16] L.length (fun gh s4 s16 wr => ∃ (k : Nat) (K : List Off), k + gh = L.length ∧ s16 = .int .i64 (k : Int) ∧ s4 = .int .i64 (K.length : Int) ∧ K.length ≤ k ∧ Hid (normL L = normA (S.drop k) K) ∧ Hid (OwnO wr b (K ++ S.drop K.length)) ∧ Hid (Frm (fun j => j = b) w3 wr))
  case atStart => exact ⟨0, [], by omega, rfl, rfl, Nat.le_refl _, kN, by simpa using ow3, hid (Frm.refl _ _)⟩
  case round =>
    obtain ⟨k, K, hkg, rfl, rfl, hKk, hA, hO, hF⟩ := hrel
    have hOF := hF.out
    have kp := frm_cell hOF kq0.out hpb
    have oWr : Hid (Old w wr) := by
      have h1 : Old w w2 := Frm.trans ko1.out kf2.out (fun i hi e => by omega)
      exact Frm.trans (h1.trans ko3.out) hOF (fun i hi e => by omega)
    have hKn : K.length ≤ L.length := by omega
    have hKc : K.length ≤ c1 := by omega
    clear hOF
    cases gk with
    | zero =>
      have hkz : ¬ ((k : Int) < (L.length : Int)) := by omega
      have kz : Hid (normL L = K) := by
        show _ = _
        rw [hA.out, List.drop_eq_nil_of_le (by omega), normA]
      go_wp2_with fail
      try rw [Exit.noGoto_ret]
      go_ret
      refine ⟨oWr.out, b, ?_, hb, ?_⟩
      · rw [kz.out]
        rfl
      · rw [kz.out]
        exact hO.out.front
    | succ gh =>
      have hkz : (k : Int) < (L.length : Int) := by omega
      have hkS : k < S.length := by omega
      have hdr : Hid (S.drop k = S[k] :: S.drop (k + 1)) := List.drop_eq_getElem_cons hkS
      obtain ⟨d1, d2⟩ := hO.out.at (row_at hKk hkS)
      obtain ⟨y, hy⟩ : ∃ y, S[k] = y := ⟨_, rfl⟩
      rw [hy] at hdr d1 d2
      have hyS := hid hy
      obtain ⟨n0, n1⟩ := off_new wr y
      have oA : Old wr (wr.alloc (.cells #[.int .u32 (y.1 : Int), .int .i64 y.2] 58)) := (Old.refl wr).alloc _
      have hszr := (Frm.size hF.out)
      have hOA := hid (hO.out.old oA)
      have pA := oA.cell kp
      have kFA : Hid (Frm (fun j => j = b) w3 (wr.alloc (.cells #[.int .u32 (y.1 : Int), .int .i64 y.2] 58))) := Frm.alloc hF.out _
      obtain ⟨yg, yc⟩ := y
      dsimp only at d1 d2 n0 n1 pA hOA kFA
      have hnb : wr.heap.size ≠ b := by omega
      by_cases hy1 : yc < 1
      · have kz : Hid (normL L = normA (S.drop (k + 1)) K) := by
          show _ = _
          rw [hA.out, hdr.out, normA, if_pos hy1]
        clear hy hA hdr oA hO kp oWr
        go_wp2_with fail
        go_roundg gh
        case rel => exact ⟨k + 1, K, by omega, by go_num, rfl, by omega, kz, hOA, kFA⟩
        case measure => omega
      · have kyes : Hid (idleB K (yg, yc) = true → normL L = normA (S.drop (k + 1)) K) := fun hi => by
          show normL L = _
          rw [hA.out, hdr.out, normA, if_neg hy1, if_pos hi]
        have kno : Hid (idleB K (yg, yc) = false → normL L = normA (S.drop (k + 1)) (K ++ [(yg, yc)])) := fun hi => by
          show normL L = _
          rw [hA.out, hdr.out, normA, if_neg hy1, if_neg (by simp [hi])]
        have kn0 := hid n0
        have kn1 := hid n1
        have kpA := hid pA
        clear hy hA hdr oA hO kp oWr
        go_wp2_with fail
        generalize wr.alloc (.cells #[.int .u32 (yg : Int), .int .i64 yc] 58) = wA at *
        generalize wr.heap.size = nb at *
        go_loopg [25] K.length (fun g2 s25 wr2 => ∃ j : Nat, j + g2 = K.length ∧ s25 = .int .i64 (j : Int) ∧ Hid (idleB (K.take j) (yg, yc) = false) ∧ ∃ q, wr2 = wA.drewN q)
        case atStart => exact ⟨0, by omega, rfl, by show idleB (K.take 0) (yg, yc) = false; rfl, 0, rfl⟩
        case round =>
          obtain ⟨j, hjg, rfl, hI, q, rfl⟩ := hrel
          have oB := (Old.refl wA).drewN q
          have kFB : Hid (Frm (fun j => j = b) w3 (wA.drewN q)) := Frm.drewN kFA.out q
          have hOB := hid (hOA.out.old oB)
          have m0 := oB.cell kn0.out
          have m1 := oB.cell kn1.out
          have pB := oB.cell kpA.out
          cases gk with
          | zero =>
            have hjz : ¬ ((j : Int) < (K.length : Int)) := by omega
            have kz := hid (kno.out (by have := hI.out; rwa [List.take_of_length_le (by omega)] at this))
            obtain ⟨q1, q2⟩ := hOB.out.at (row_at (Nat.le_refl K.length) (by omega))
            have q3 := hOB.out.fz
            have kS : Hid (OwnO (((wA.drewN q).setCell ⟨b, K.length * 2, none⟩ (.int .u32 (yg : Int))).setCell ⟨b, K.length * 2 + 1, none⟩ (.int .i64 yc)) b ((K ++ [(yg, yc)]) ++ S.drop (K ++ [(yg, yc)]).length)) := by
              rw [← row_set (yg, yc) (by omega)]
              exact hOB.out.set (yg, yc)
            have q1' := set_oth (i := K.length * 2) (j := K.length * 2 + 1) (u := .int .u32 (yg : Int)) q2 (by omega)
            have q3' := fun j => set_fz (i := K.length * 2) (u := .int .u32 (yg : Int)) q3 j
            have hlt : (K.length : Int) < (L.length : Int) := by omega
            clear kyes kno hOA hOB kFA hI pB
            generalize wA.drewN q = wB at *
            go_wp2_with fail
            go_roundg gh
            case rel => exact ⟨k + 1, K ++ [(yg, yc)], by omega, by go_num, by rw [List.length_append]; rfl, by simp; omega, kz, kS, Frm.setCell (Frm.setCell kFB.out ⟨b, _, none⟩ (Or.inr rfl) _) ⟨b, _, none⟩ (Or.inr rfl) _⟩
            case measure => omega
          | succ g3 =>
            have hjz : (j : Int) < (K.length : Int) := by omega
            have hjK : j < K.length := by omega
            obtain ⟨r1, r2⟩ := hOB.out.at (row_lo (S := S) hjK)
            obtain ⟨z1, z2⟩ := hOB.out.at (row_at hKk hkS)
            rw [hyS.out] at z1 z2
            have kO := hid (outdoes_any pb b 0 L.length c1 j k K[j] (yg, yc) (wA.drewN q) pB (by omega) (by omega) (by rw [Nat.zero_add]; exact r1) (by rw [Nat.zero_add]; exact r2) (by rw [Nat.zero_add]; exact z1) (by rw [Nat.zero_add]; exact z2))
            rw [decide_eq_true (show j < k by omega)] at kO
            clear r1 r2 z1 z2 pB m0 m1 oB
            cases ho : outB K[j] (yg, yc) true
            · rw [ho] at kO
              have hI2 := hid (idle_take hjK hI.out ho)
              clear ho kyes kno hI
              go_wp2_with fail
              refine kO.out.mono ?_
              rintro e w5 ⟨rfl, q5, e5⟩
              rw [e5]
              clear e5 w5
              go_wp2_with fail
              go_roundg g3
              case rel => exact ⟨j + 1, by omega, by go_num, hI2, q + q5, by first | rfl | rw [World.drewN_drewN]⟩
              case measure => omega
            · rw [ho] at kO
              have kz := hid (kyes.out (idle_hit hjK ho))
              clear ho kyes kno hI
              go_wp2_with fail
              refine kO.out.mono ?_
              rintro e w5 ⟨rfl, q5, e5⟩
              rw [e5]
              clear e5 w5
              go_wp2_with fail
              go_roundg gh
              case rel => exact ⟨k + 1, K, by omega, by go_num, rfl, by omega, kz, by first | exact hid (hOB.out.old ((Old.refl _).drewN q5)) | (rw [← World.drewN_drewN]; exact hid (hOB.out.old ((Old.refl _).drewN q5))), by first | exact hid (Frm.drewN kFB.out q5) | (rw [← World.drewN_drewN]; exact hid (Frm.drewN kFB.out q5))⟩
              case measure => omega
end Go.Proofs.YtnambpbhkehijaaDoor
