/- The document's shortest form, walked. -/
import Derived.Test.YtchofhgpameobaaDoorI1
import Derived.Test.YtchofhgpameobaaDoorI2
namespace Go.Proofs.YtchofhgpameobaaDoor
open Go.RowKit

/-- Where an offer goes among those that are there. -/
def posA (K : List Off) (y : Off) : Nat → Nat
  | 0 => 0
  | a + 1 => if (K.getD a (0, 0)).1 > y.1 then posA K y a else a + 1
def posG (K : List Off) (y : Off) : Nat := posA K y K.length
def insP (K : List Off) (y : Off) : List Off := K.take (posG K y) ++ y :: K.drop (posG K y)
def rnA (L : List Off) : List Off → Nat → List Off → List Off
  | [], _, K => K
  | y :: r, i, K => if y.2 < 1 ∨ idleZ L (i : Int) = true then rnA L r (i + 1) K else rnA L r (i + 1) (insP K y)
/-- The document's shortest form. -/
def refN (L : List Off) : List Off := rnA L L 0 []

theorem posA_le (K : List Off) (y : Off) : ∀ a, posA K y a ≤ a
  | 0 => Nat.le_refl _
  | a + 1 => by
    rw [posA]
    split
    · exact Nat.le_succ_of_le (posA_le K y a)
    · exact Nat.le_refl _
theorem insP_len (K : List Off) (y : Off) : (insP K y).length = K.length + 1 := by
  have := posA_le K y K.length
  simp [insP, posG]
  omega

theorem mid_at {K : List Off} {k : Nat} (z : Off) (hk : k ≤ K.length) (h0 : 0 < k) : (K.take k ++ z :: K.drop k)[k - 1]? = some (K.getD (k - 1) (0, 0)) := by
  have h1 : k - 1 < K.length := by omega
  rw [List.getElem?_append_left (by simp; omega), List.getElem?_take_of_lt (by omega), List.getD_eq_getElem?_getD, List.getElem?_eq_getElem h1]
  rfl
theorem mid_set {K : List Off} {k : Nat} (z x : Off) (hk : k ≤ K.length) : (K.take k ++ z :: K.drop k).set k x = K.take k ++ x :: K.drop k := by
  have hl : (K.take k).length = k := by simp; omega
  rw [List.set_append_right _ _ (by omega), hl, Nat.sub_self, List.set_cons_zero]
theorem mid_down {K : List Off} {k : Nat} (hk : k < K.length) : K.take (k + 1) ++ (K.getD k (0, 0)) :: K.drop (k + 1) = K.take k ++ (K.getD k (0, 0)) :: K.drop k := by
  have e : K.getD k (0, 0) = K[k] := by rw [List.getD_eq_getElem?_getD, List.getElem?_eq_getElem hk]; rfl
  have e2 : K.drop k = K[k] :: K.drop (k + 1) := List.drop_eq_getElem_cons hk
  rw [e, List.take_succ_eq_append_getElem hk, List.append_assoc, e2]
  rfl
theorem mid_end (K : List Off) (y : Off) : K ++ [y] = K.take K.length ++ y :: K.drop K.length := by simp

theorem owns_at {w : World} {B b n cap i : Nat} {R : List Off} {x : Off} (h : w.ownsRow B 73 2 (.slice (some ⟨b, 0, none⟩) n cap) n (flatO R)) (hx : R[i]? = some x) : w.cell? ⟨b, i * 2, none⟩ = some (.int .u32 (x.1 : Int)) ∧ w.cell? ⟨b, i * 2 + 1, none⟩ = some (.int .i64 x.2) ∧ (∀ j, w.frozen? ⟨b, j, none⟩ = false) ∧ b < w.heap.size ∧ B ≤ b ∧ n = R.length ∧ n ≤ cap := by
  have hl := h.1
  rw [flatO_length] at hl
  obtain rfl : R.length = n := by omega
  rcases owns_new h with ⟨e, _⟩ | ⟨b', cp, e, h3, hc, ow⟩
  · cases e
  · simp only [Value.slice.injEq, Option.some.injEq, Addr.mk.injEq, and_true, true_and] at e
    obtain ⟨rfl, rfl⟩ := e
    obtain ⟨c1, c2⟩ := ow.at hx
    exact ⟨c1, c2, ow.fz, ow.lt, h3, rfl, hc⟩

theorem owns_some {w : World} {B : Nat} {v : Value} {K : List Off} (h : w.ownsRow B 73 2 v K.length (flatO K)) (h0 : 0 < K.length) : ∃ b cap, v = .slice (some ⟨b, 0, none⟩) K.length cap := by
  rcases h.2 with ⟨_, e⟩ | ⟨g, cap, cur, rfl, _⟩
  · omega
  · exact ⟨g, cap, rfl⟩
theorem owns_val {w : World} {B : Nat} {v : Value} {K : List Off} (h : w.ownsRow B 73 2 v K.length (flatO K)) : ∃ ao cap, v = .slice ao K.length cap := by
  rcases h.2 with ⟨rfl, e⟩ | ⟨g, cap, cur, rfl, _⟩
  · exact ⟨none, 0, by rw [e]⟩
  · exact ⟨_, cap, rfl⟩

set_option maxRecDepth 100000 in
set_option maxHeartbeats 8000000 in
theorem rnormal_any (ao : Option Addr) (cap : Nat) (L : List Off) (w : World) (h : OffC w ao L) (hL : ∀ x ∈ L, x.1 < 4294967296) (hl : L.length ≤ 999998) :
    Calls Tryd.prog 27 #[.slice ao L.length cap] w fun e w' => ∃ v, e = .returned v ∧ NewO w.heap.size w' v (refN L) ∧ Old w w' := by
  have kO := hid h
  have kL := hid hL
  clear h hL
  go_enter Tryd.func27, Tryd.ntmps27
  go_wp2_with fail
  go_loopw [3, 4] (fun v t wr => ∃ (i : Nat) (K : List Off), i ≤ L.length ∧ t = .int .i64 (i : Int) ∧ K.length ≤ i ∧ Hid (refN L = rnA L (L.drop i) i K) ∧ Hid (wr.ownsRow w.heap.size 73 2 v K.length (flatO K)) ∧ Old w wr) (fun _ t _ => L.length - (intOf t).toNat)
  case atStart => exact ⟨0, [], Nat.zero_le _, rfl, Nat.le_refl _, rfl, hid ⟨rfl, Or.inl ⟨rfl, rfl⟩⟩, Old.refl _⟩
  case round =>
    obtain ⟨i, K, hi, rfl, hKi, hA, hown, oW⟩ := hrel
    by_cases hlt : i < L.length
    · obtain ⟨bg, o, rfl, d1, d2⟩ := kO.out i hlt
      have e1 := oW.cell d1
      have e2 := oW.cell d2
      have hi' : (i : Int) < (L.length : Int) := by omega
      have hdr : Hid (L.drop i = L[i] :: L.drop (i + 1)) := List.drop_eq_getElem_cons hlt
      obtain ⟨y, hy⟩ : ∃ y, L[i] = y := ⟨_, rfl⟩
      rw [hy] at e1 e2 hdr
      have hyS := hid hy
      have hsz := oW.size
      have koW := hid oW
      have kO2 := hid (kO.out.old oW)
      obtain ⟨va, vc, rfl⟩ := owns_val hown.out
      obtain ⟨yg, yc⟩ := y
      dsimp only at e1 e2
      clear hy d1 d2 oW
      by_cases hy1 : yc < 1
      · have kA : Hid (refN L = rnA L (L.drop (i + 1)) (i + 1) K) := by
          show _ = _
          rw [hA.out, hdr.out, rnA, if_pos (Or.inl hy1)]
        clear hA hdr
        go_wp2_with fail
        go_roundw
        case rel => exact ⟨i + 1, K, by omega, by go_num, by omega, kA, hown, koW.out⟩
        case measure => simp [intOf]; omega
      · have kI := hid (ridle_any (some ⟨bg, o, none⟩) cap L (i : Int) wr kO2.out (by omega) kL.out)
        cases hid' : idleZ L (i : Int)
        · rw [hid'] at kI
          have kA : Hid (refN L = rnA L (L.drop (i + 1)) (i + 1) (insP K (yg, yc))) := by
            show _ = _
            rw [hA.out, hdr.out, rnA, if_neg (by simp [hid', hy1])]
          clear hA hdr hid'
          go_wp2_with fail
          refine kI.out.mono ?_
          rintro e w2 ⟨rfl, o2⟩
          have f1 := o2.cell e1
          have f2 := o2.cell e2
          have ko2 := hid (koW.out.trans o2)
          have kO3 := hid (kO2.out.old o2)
          have hown2 := hid (owns_kept2 hown.out (fun q hq => o2.block q (hown.out.lt q hq).2 (fun h => h)))
          have hsz2 := o2.size
          clear o2 kI e1 e2 hown koW kO2
          go_wp2_with fail
          go_loopw [5] (fun t wr2 => ∃ a : Nat, a ≤ K.length ∧ t = .int .i64 (a : Int) ∧ Hid (posG K (yg, yc) = posA K (yg, yc) a) ∧ Old w2 wr2) (fun t _ => (intOf t).toNat)
          case atStart => exact ⟨K.length, Nat.le_refl _, rfl, rfl, Old.refl _⟩
          case round =>
            obtain ⟨p, hpK, rfl, hP, oB⟩ := hrel
            have g1 := oB.cell f1
            have g2 := oB.cell f2
            have koB := hid (ko2.out.trans oB)
            have owB := hid (owns_kept2 hown2.out (w' := wr) (fun k hk => oB.block k (hown2.out.lt k hk).2 (fun h => h)))
            have kB2 := hid oB
            clear oB
            cases p with
            | zero =>
              have hp : Hid (posG K (yg, yc) = 0) := hP
              go_wp2_with fail
              go_quiet (fail)
              have oT := (Old.refl wr).drewN nq
              have koT := hid (koB.out.trans oT)
              have t1 := oT.cell g1
              have t2 := oT.cell g2
              have owT := hid (owns_kept2 owB.out (w' := wr.drewN nq) (fun k hk => oT.block k (owB.out.lt k hk).2 (fun h => h)))
              clear oT koB owB g1 g2
              generalize wr.drewN nq = W at *
              obtain ⟨p, hp0⟩ : ∃ p : Nat, p = 0 := ⟨_, rfl⟩
              have hcast : ((0 : Nat) : Int) = (p : Int) := by rw [hp0]
              rw [hcast]
              rw [← hp0] at hp hpK
              clear hcast hp0 hP
              have hbT := heap_new W (.cells #[.int .u32 (yg : Int), .int .i64 yc] 73)
              have hO3 : OffC (W.alloc (.cells #[.int .u32 (yg : Int), .int .i64 yc] 73)) (some ⟨W.heap.size, 0, none⟩) [(yg, yc)] := off_blk (L := [(yg, yc)]) hbT
              have ow3 := owT.out.alloc (.cells #[.int .u32 (yg : Int), .int .i64 yc] 73)
              have hge := hid (fun q hq => (owT.out.lt q hq).1)
              have hs3 := alloc_size W (.cells #[.int .u32 (yg : Int), .int .i64 yc] 73)
              have o3 : Hid (Old w (W.alloc (.cells #[.int .u32 (yg : Int), .int .i64 yc] 73))) := koT.out.alloc _
              have hszT := koT.out.size
              clear hbT owT koT
              go_wp2_with (at_builtin; refine wpAppO (by rfl) _ _ (by rfl) w.heap.size _ (some ⟨W.heap.size, 0, none⟩) 1 K [(yg, yc)] (by rfl) (by rfl) ow3 hO3 (fun h => by cases h) (by simp; omega) (by omega) ?_)
              generalize W.alloc (.cells #[.int .u32 (yg : Int), .int .i64 yc] 73) = W3 at *
              intro v4 W4 ow4' gr4
              have ow4 : W4.ownsRow w.heap.size 73 2 v4 (K ++ [(yg, yc)]).length (flatO (K ++ [(yg, yc)])) := by simpa using ow4'
              have o4 : Old w W4 := by
                refine ⟨gr4.os.trans o3.out.os, gr4.tape.trans o3.out.tape, gr4.output.trans o3.out.output, Nat.le_trans o3.out.size gr4.size, fun q hq _ => ?_⟩
                rw [gr4.block q (by omega) (fun e => by have := hge.out q e.symm; omega)]
                exact o3.out.block q hq (fun h => h)
              obtain ⟨b4, c4, rfl⟩ := owns_some ow4 (by simp)
              have hl4 : (K ++ [(yg, yc)]).length = K.length + 1 := by simp
              rw [hl4, mid_end] at ow4
              rw [hl4]
              have kow4 := hid ow4
              have ko4 := hid o4
              clear ow4 ow4' gr4 o4 ow3 hO3 hge o3 hs3
              go_wp2_with fail
              go_loopw [6] (fun t wr3 => ∃ (k : Nat) (z : Off), p ≤ k ∧ k ≤ K.length ∧ t = .int .i64 (k : Int) ∧ Hid (wr3.ownsRow w.heap.size 73 2 (.slice (some ⟨b4, 0, none⟩) (K.length + 1) c4) (K.length + 1) (flatO (K.take k ++ z :: K.drop k))) ∧ Hid (Old w wr3)) (fun t _ => (intOf t).toNat)
              case atStart => exact ⟨K.length, (yg, yc), hpK, Nat.le_refl _, by go_num, kow4, ko4⟩
              case round =>
                obtain ⟨k, z, hpk, hkK, rfl, ow, oW3⟩ := hrel
                have hmid : (K.take k ++ z :: K.drop k)[k]? = some z := by
                  rw [List.getElem?_append_right (by simp; omega)]
                  have : k - (K.take k).length = 0 := by simp; omega
                  rw [this]
                  rfl
                have hmlen : (K.take k ++ z :: K.drop k).length = K.length + 1 := by simp; omega
                obtain ⟨r1, r2, rz, rb, rB, -, rc⟩ := owns_at ow.out hmid
                clear hmid
                by_cases hgt : p < k
                · obtain ⟨k', rfl⟩ : ∃ k', k = k' + 1 := ⟨k - 1, by omega⟩
                  have hgt' : (k' : Int) + 1 > (p : Int) := by omega
                  obtain ⟨c1, c2, -, -, -, -, -⟩ := owns_at ow.out (mid_at z hkK (by omega))
                  rw [show k' + 1 - 1 = k' by omega] at c1 c2
                  obtain ⟨x, hx⟩ : ∃ x, K.getD k' (0, 0) = x := ⟨_, rfl⟩
                  rw [hx] at c1 c2
                  have kset : Hid (((wr.setCell ⟨b4, (k' + 1) * 2, none⟩ (.int .u32 (x.1 : Int))).setCell ⟨b4, (k' + 1) * 2 + 1, none⟩ (.int .i64 x.2)).ownsRow w.heap.size 73 2 (.slice (some ⟨b4, 0, none⟩) (K.length + 1) c4) (K.length + 1) (flatO (K.take k' ++ x :: K.drop k'))) := by
                    have h1 := owns_setO ow.out x (i := k' + 1) (by omega)
                    rw [mid_set z x hkK, ← hx, mid_down (by omega), hx] at h1
                    exact h1
                  have kold : Hid (Old w ((wr.setCell ⟨b4, (k' + 1) * 2, none⟩ (.int .u32 (x.1 : Int))).setCell ⟨b4, (k' + 1) * 2 + 1, none⟩ (.int .i64 x.2))) := Frm.setCell (Frm.setCell oW3.out ⟨b4, _, none⟩ (Or.inl rB) _) ⟨b4, _, none⟩ (Or.inl rB) _
                  obtain ⟨xg, xc⟩ := x
                  dsimp only at c1 c2 kset kold
                  have q1' := set_oth (i := (k' + 1) * 2) (j := (k' + 1) * 2 + 1) (u := .int .u32 (xg : Int)) r2 (by omega)
                  have q3' := fun j => set_fz (i := (k' + 1) * 2) (u := .int .u32 (xg : Int)) rz j
                  have hk1 : (k' : Int) + 1 < (K.length : Int) + 1 := by omega
                  have hk2 : (k' : Int) < (K.length : Int) + 1 := by omega
                  clear ow oW3 hx
                  go_wp2_with fail
                  go_roundw
                  case rel => exact ⟨k', (xg, xc), by omega, by omega, by go_num, kset, kold⟩
                  case measure => simp [intOf]
                · obtain rfl : k = p := by omega
                  obtain ⟨g9, o9, e9, z1, z2⟩ := kO.out i hlt
                  simp only [Option.some.injEq, Addr.mk.injEq, and_true] at e9
                  obtain ⟨rfl, rfl⟩ := e9
                  have y1 := oW3.out.cell z1
                  have y2 := oW3.out.cell z2
                  rw [hyS.out] at y1 y2
                  dsimp only at y1 y2
                  have kset : Hid (((wr.setCell ⟨b4, k * 2, none⟩ (.int .u32 (yg : Int))).setCell ⟨b4, k * 2 + 1, none⟩ (.int .i64 yc)).ownsRow w.heap.size 73 2 (.slice (some ⟨b4, 0, none⟩) (K.length + 1) c4) (insP K (yg, yc)).length (flatO (insP K (yg, yc)))) := by
                    have h1 := owns_setO ow.out (yg, yc) (i := k) (by omega)
                    rw [mid_set z (yg, yc) hkK] at h1
                    rw [insP_len, insP, hp.out]
                    exact h1
                  have kold : Hid (Old w ((wr.setCell ⟨b4, k * 2, none⟩ (.int .u32 (yg : Int))).setCell ⟨b4, k * 2 + 1, none⟩ (.int .i64 yc))) := Frm.setCell (Frm.setCell oW3.out ⟨b4, _, none⟩ (Or.inl rB) _) ⟨b4, _, none⟩ (Or.inl rB) _
                  have q1' := set_oth (i := k * 2) (j := k * 2 + 1) (u := .int .u32 (yg : Int)) r2 (by omega)
                  have q3' := fun j => set_fz (i := k * 2) (u := .int .u32 (yg : Int)) rz j
                  have hk1 : (k : Int) < (K.length : Int) + 1 := by omega
                  have hil := insP_len K (yg, yc)
                  clear ow oW3 z1 z2
                  go_wp2_with fail
                  go_roundw
                  case rel => exact ⟨i + 1, insP K (yg, yc), by omega, by go_num, by omega, kA, kset, kold.out⟩
                  case measure => simp [intOf]; omega
            | succ p' =>
              obtain ⟨b, cp, ev⟩ := owns_some owB.out (by omega)
              simp only [Value.slice.injEq, true_and] at ev
              obtain ⟨rfl, rfl⟩ := ev
              have hp' : p' < K.length := by omega
              obtain ⟨r1, r2, -, -, -, -, -⟩ := owns_at owB.out (i := p') (List.getElem?_eq_getElem hp')
              have hx : K.getD p' (0, 0) = K[p'] := by rw [List.getD_eq_getElem?_getD, List.getElem?_eq_getElem hp']; rfl
              rw [posA, hx] at hP
              obtain ⟨x, hxe⟩ : ∃ x, K[p'] = x := ⟨_, rfl⟩
              rw [hxe] at r1 r2 hP
              obtain ⟨xg, xc⟩ := x
              dsimp only at r1 r2 hP
              have hpI : (p' : Int) < (K.length : Int) := by omega
              clear hx hxe
              by_cases hgt : xg > yg
              · rw [if_pos hgt] at hP
                have hd : decide ((xg : Int) > (yg : Int)) = true := decide_eq_true (by omega)
                go_wp2_with fail
                go_quiet (fail)
                have oT := hid (kB2.out.drewN nq)
                clear koB owB g1 g2 r1 r2 kB2
                generalize wr.drewN nq = W at *
                go_wp2_with fail
                go_roundw
                case rel => exact ⟨p', by omega, by go_num, hP, oT.out⟩
                case measure => simp [intOf]
              · rw [if_neg hgt] at hP
                have hd : decide ((xg : Int) > (yg : Int)) = false := decide_eq_false (by omega)
                go_wp2_with fail
                go_quiet (fail)
                have oT := (Old.refl wr).drewN nq
                have koT := hid (koB.out.trans oT)
                have t1 := oT.cell g1
                have t2 := oT.cell g2
                have owT := hid (owns_kept2 owB.out (w' := wr.drewN nq) (fun k hk => oT.block k (owB.out.lt k hk).2 (fun h => h)))
                clear oT koB owB g1 g2 r1 r2
                generalize wr.drewN nq = W at *
                obtain ⟨p, hp0⟩ : ∃ p : Nat, p = p' + 1 := ⟨_, rfl⟩
                have hp : Hid (posG K (yg, yc) = p) := by rw [hp0]; exact hP
                have hcast : ((p' + 1 : Nat) : Int) = (p : Int) := by rw [hp0]
                rw [hcast]
                rw [← hp0] at hpK
                clear hcast hp0 hP hpI hp' hd hgt
                have hbT := heap_new W (.cells #[.int .u32 (yg : Int), .int .i64 yc] 73)
                have hO3 : OffC (W.alloc (.cells #[.int .u32 (yg : Int), .int .i64 yc] 73)) (some ⟨W.heap.size, 0, none⟩) [(yg, yc)] := off_blk (L := [(yg, yc)]) hbT
                have ow3 := owT.out.alloc (.cells #[.int .u32 (yg : Int), .int .i64 yc] 73)
                have hge := hid (fun q hq => (owT.out.lt q hq).1)
                have hs3 := alloc_size W (.cells #[.int .u32 (yg : Int), .int .i64 yc] 73)
                have o3 : Hid (Old w (W.alloc (.cells #[.int .u32 (yg : Int), .int .i64 yc] 73))) := koT.out.alloc _
                have hszT := koT.out.size
                clear hbT owT koT
                go_wp2_with (at_builtin; refine wpAppO (by rfl) _ _ (by rfl) w.heap.size _ (some ⟨W.heap.size, 0, none⟩) 1 K [(yg, yc)] (by rfl) (by rfl) ow3 hO3 (fun h => by cases h) (by simp; omega) (by omega) ?_)
                generalize W.alloc (.cells #[.int .u32 (yg : Int), .int .i64 yc] 73) = W3 at *
                intro v4 W4 ow4' gr4
                have ow4 : W4.ownsRow w.heap.size 73 2 v4 (K ++ [(yg, yc)]).length (flatO (K ++ [(yg, yc)])) := by simpa using ow4'
                have o4 : Old w W4 := by
                  refine ⟨gr4.os.trans o3.out.os, gr4.tape.trans o3.out.tape, gr4.output.trans o3.out.output, Nat.le_trans o3.out.size gr4.size, fun q hq _ => ?_⟩
                  rw [gr4.block q (by omega) (fun e => by have := hge.out q e.symm; omega)]
                  exact o3.out.block q hq (fun h => h)
                obtain ⟨b4, c4, rfl⟩ := owns_some ow4 (by simp)
                have hl4 : (K ++ [(yg, yc)]).length = K.length + 1 := by simp
                rw [hl4, mid_end] at ow4
                rw [hl4]
                have kow4 := hid ow4
                have ko4 := hid o4
                clear ow4 ow4' gr4 o4 ow3 hO3 hge o3 hs3
                go_wp2_with fail
                go_loopw [6] (fun t wr3 => ∃ (k : Nat) (z : Off), p ≤ k ∧ k ≤ K.length ∧ t = .int .i64 (k : Int) ∧ Hid (wr3.ownsRow w.heap.size 73 2 (.slice (some ⟨b4, 0, none⟩) (K.length + 1) c4) (K.length + 1) (flatO (K.take k ++ z :: K.drop k))) ∧ Hid (Old w wr3)) (fun t _ => (intOf t).toNat)
                case atStart => exact ⟨K.length, (yg, yc), hpK, Nat.le_refl _, by go_num, kow4, ko4⟩
                case round =>
                  obtain ⟨k, z, hpk, hkK, rfl, ow, oW3⟩ := hrel
                  have hmid : (K.take k ++ z :: K.drop k)[k]? = some z := by
                    rw [List.getElem?_append_right (by simp; omega)]
                    have : k - (K.take k).length = 0 := by simp; omega
                    rw [this]
                    rfl
                  have hmlen : (K.take k ++ z :: K.drop k).length = K.length + 1 := by simp; omega
                  obtain ⟨r1, r2, rz, rb, rB, -, rc⟩ := owns_at ow.out hmid
                  clear hmid
                  by_cases hgt : p < k
                  · obtain ⟨k', rfl⟩ : ∃ k', k = k' + 1 := ⟨k - 1, by omega⟩
                    have hgt' : (k' : Int) + 1 > (p : Int) := by omega
                    obtain ⟨c1, c2, -, -, -, -, -⟩ := owns_at ow.out (mid_at z hkK (by omega))
                    rw [show k' + 1 - 1 = k' by omega] at c1 c2
                    obtain ⟨x, hx⟩ : ∃ x, K.getD k' (0, 0) = x := ⟨_, rfl⟩
                    rw [hx] at c1 c2
                    have kset : Hid (((wr.setCell ⟨b4, (k' + 1) * 2, none⟩ (.int .u32 (x.1 : Int))).setCell ⟨b4, (k' + 1) * 2 + 1, none⟩ (.int .i64 x.2)).ownsRow w.heap.size 73 2 (.slice (some ⟨b4, 0, none⟩) (K.length + 1) c4) (K.length + 1) (flatO (K.take k' ++ x :: K.drop k'))) := by
                      have h1 := owns_setO ow.out x (i := k' + 1) (by omega)
                      rw [mid_set z x hkK, ← hx, mid_down (by omega), hx] at h1
                      exact h1
                    have kold : Hid (Old w ((wr.setCell ⟨b4, (k' + 1) * 2, none⟩ (.int .u32 (x.1 : Int))).setCell ⟨b4, (k' + 1) * 2 + 1, none⟩ (.int .i64 x.2))) := Frm.setCell (Frm.setCell oW3.out ⟨b4, _, none⟩ (Or.inl rB) _) ⟨b4, _, none⟩ (Or.inl rB) _
                    obtain ⟨xg, xc⟩ := x
                    dsimp only at c1 c2 kset kold
                    have q1' := set_oth (i := (k' + 1) * 2) (j := (k' + 1) * 2 + 1) (u := .int .u32 (xg : Int)) r2 (by omega)
                    have q3' := fun j => set_fz (i := (k' + 1) * 2) (u := .int .u32 (xg : Int)) rz j
                    have hk1 : (k' : Int) + 1 < (K.length : Int) + 1 := by omega
                    have hk2 : (k' : Int) < (K.length : Int) + 1 := by omega
                    clear ow oW3 hx
                    go_wp2_with fail
                    go_roundw
                    case rel => exact ⟨k', (xg, xc), by omega, by omega, by go_num, kset, kold⟩
                    case measure => simp [intOf]
                  · obtain rfl : k = p := by omega
                    obtain ⟨g9, o9, e9, z1, z2⟩ := kO.out i hlt
                    simp only [Option.some.injEq, Addr.mk.injEq, and_true] at e9
                    obtain ⟨rfl, rfl⟩ := e9
                    have y1 := oW3.out.cell z1
                    have y2 := oW3.out.cell z2
                    rw [hyS.out] at y1 y2
                    dsimp only at y1 y2
                    have kset : Hid (((wr.setCell ⟨b4, k * 2, none⟩ (.int .u32 (yg : Int))).setCell ⟨b4, k * 2 + 1, none⟩ (.int .i64 yc)).ownsRow w.heap.size 73 2 (.slice (some ⟨b4, 0, none⟩) (K.length + 1) c4) (insP K (yg, yc)).length (flatO (insP K (yg, yc)))) := by
                      have h1 := owns_setO ow.out (yg, yc) (i := k) (by omega)
                      rw [mid_set z (yg, yc) hkK] at h1
                      rw [insP_len, insP, hp.out]
                      exact h1
                    have kold : Hid (Old w ((wr.setCell ⟨b4, k * 2, none⟩ (.int .u32 (yg : Int))).setCell ⟨b4, k * 2 + 1, none⟩ (.int .i64 yc))) := Frm.setCell (Frm.setCell oW3.out ⟨b4, _, none⟩ (Or.inl rB) _) ⟨b4, _, none⟩ (Or.inl rB) _
                    have q1' := set_oth (i := k * 2) (j := k * 2 + 1) (u := .int .u32 (yg : Int)) r2 (by omega)
                    have q3' := fun j => set_fz (i := k * 2) (u := .int .u32 (yg : Int)) rz j
                    have hk1 : (k : Int) < (K.length : Int) + 1 := by omega
                    have hil := insP_len K (yg, yc)
                    clear ow oW3 z1 z2
                    go_wp2_with fail
                    go_roundw
                    case rel => exact ⟨i + 1, insP K (yg, yc), by omega, by go_num, by omega, kA, kset, kold.out⟩
                    case measure => simp [intOf]; omega
        · rw [hid'] at kI
          have kA : Hid (refN L = rnA L (L.drop (i + 1)) (i + 1) K) := by
            show _ = _
            rw [hA.out, hdr.out, rnA, if_pos (Or.inr hid')]
          clear hA hdr hid'
          go_wp2_with fail
          refine kI.out.mono ?_
          rintro e w2 ⟨rfl, o2⟩
          have ko2 := hid (koW.out.trans o2)
          have hown2 := hid (owns_kept2 hown.out (fun q hq => o2.block q (hown.out.lt q hq).2 (fun h => h)))
          clear o2 kI
          go_wp2_with fail
          go_roundw
          case rel => exact ⟨i + 1, K, by omega, by go_num, by omega, kA, hown2, ko2.out⟩
          case measure => simp [intOf]; omega
    · obtain rfl : i = L.length := by omega
      have kA : Hid (refN L = K) := by
        show _ = _
        rw [hA.out, List.drop_length, rnA]
      have kn := hid (owns_new hown.out)
      obtain ⟨va, vc, rfl⟩ := owns_val hown.out
      clear hown
      go_wp2_with fail
      go_ret
      exact ⟨_, rfl, by rw [kA.out]; exact kn.out, oW⟩
end Go.Proofs.YtchofhgpameobaaDoor
