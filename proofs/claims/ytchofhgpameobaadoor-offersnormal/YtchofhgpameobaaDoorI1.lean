/- Which offers are idle: the program's and the document's, walked. -/
import Derived.Test.YtchofhgpameobaaDoorH9
import Derived.Test.YtchofhgpameobaaDoorM8
namespace Go.Proofs.YtchofhgpameobaaDoor
open Go.RowKit

/-- Is y, at the place i, made idle by one of these, from the place k on? -/
def idA (y : Off) (i : Nat) : List Off → Nat → Bool
  | [], _ => false
  | x :: r, k => if outB x y (decide (k < i)) = true then true else idA y i r (k + 1)
def idleZ (L : List Off) (i : Int) : Bool := if 0 ≤ i ∧ i < (L.length : Int) then idA (L.getD i.toNat (0, 0)) i.toNat L 0 else false

theorem idleZ_in {L : List Off} {n : Nat} (h : n < L.length) : idleZ L (n : Int) = idA L[n] n L 0 := by
  rw [idleZ, if_pos ⟨by omega, by omega⟩, Int.toNat_natCast, List.getD_eq_getElem?_getD, List.getElem?_eq_getElem h]
  rfl

set_option maxRecDepth 100000 in
set_option maxHeartbeats 4000000 in
theorem oidle_any (ao : Option Addr) (cap : Nat) (L : List Off) (i : Int) (w : World) (h : OffC w ao L) (hl : L.length ≤ 9223372036854775807) :
    Calls Tryd.prog 23 #[.slice ao L.length cap, .int .i64 i] w fun e w' => e = .returned (.bool (idleZ L i)) ∧ Old w w' := by
  by_cases h0 : i < 0
  · have kz : Hid (idleZ L i = false) := by
      show _ = _
      rw [idleZ, if_neg (by omega)]
    go_enter Tryd.func23, Tryd.ntmps23
    go_wp2_with fail
    go_ret
    exact ⟨by rw [kz.out]; rfl, Old.refl _⟩
  · by_cases h1 : i ≥ (L.length : Int)
    · have kz : Hid (idleZ L i = false) := by
        show _ = _
        rw [idleZ, if_neg (by omega)]
      go_enter Tryd.func23, Tryd.ntmps23
      go_wp2_with fail
      go_ret
      exact ⟨by rw [kz.out]; rfl, Old.refl _⟩
    · obtain ⟨n, rfl⟩ : ∃ n : Nat, i = n := ⟨i.toNat, by omega⟩
      have hn : n < L.length := by omega
      have kz := hid (idleZ_in hn)
      have q1 : Old w (w.alloc (.cells #[.slice ao L.length cap] 22)) := (Old.refl w).alloc _
      have p0 := new_cell w #[.slice ao L.length cap] 22 0 _ rfl
      have kD := hid (outdoing_any (.slice ao L.length cap) ⟨_, _, _, rfl⟩ w)
      have kO := hid (h.old q1)
      have ko := hid q1
      clear h q1
      go_enter Tryd.func23, Tryd.ntmps23
      go_wp2_with fail
      refine kD.out.mono ?_
      rintro e w' ⟨rfl, e1⟩
      rw [e1]
      clear e1 w' kD
      generalize w.alloc (.cells #[.slice ao L.length cap] 22) = w1 at *
      generalize w.heap.size = pb at *
      have kp := hid p0
      clear p0
      go_wp2_with fail
      go_loopw [19] (fun t wr => ∃ k : Nat, k ≤ L.length ∧ t = .int .i64 (k : Int) ∧ Hid (idA L[n] n L 0 = idA L[n] n (L.drop k) k) ∧ ∃ q, wr = w1.drewN q) (fun t _ => L.length - (intOf t).toNat)
      case atStart => exact ⟨0, Nat.zero_le _, rfl, rfl, 0, rfl⟩
      case round =>
        obtain ⟨k, hk, rfl, hA, q, rfl⟩ := hrel
        by_cases hlt : k < L.length
        · obtain ⟨g, o, rfl, d1, d2⟩ := kO.out k hlt
          obtain ⟨g', o', e', d3, d4⟩ := kO.out n hn
          simp only [Option.some.injEq, Addr.mk.injEq, and_true] at e'
          obtain ⟨rfl, rfl⟩ := e'
          have oB := (Old.refl w1).drewN q
          have hk' : (k : Int) < (L.length : Int) := by omega
          have hdr : Hid (L.drop k = L[k] :: L.drop (k + 1)) := List.drop_eq_getElem_cons hlt
          have kC := hid (outdoes_any pb g o L.length cap k n L[k] L[n] (w1.drewN q) (oB.cell kp.out) hlt hn (oB.cell d1) (oB.cell d2) (oB.cell d3) (oB.cell d4))
          clear d1 d2 d3 d4 oB
          cases hout : outB L[k] L[n] (decide (k < n))
          · rw [hout] at kC
            have kA : Hid (idA L[n] n L 0 = idA L[n] n (L.drop (k + 1)) (k + 1)) := by
              show _ = _
              rw [hA.out, hdr.out, idA, if_neg (by simp [hout])]
            clear hout hA hdr
            go_wp2_with fail
            refine kC.out.mono ?_
            rintro e w5 ⟨rfl, q5, e5⟩
            rw [e5]
            clear e5 w5
            go_wp2_with fail
            go_roundw
            case rel => exact ⟨k + 1, by omega, by go_num, kA, q + q5, by first | rfl | rw [World.drewN_drewN]⟩
            case measure => simp [intOf]; omega
          · rw [hout] at kC
            have kA : Hid (idleZ L (n : Int) = true) := by
              show _ = _
              rw [kz.out, hA.out, hdr.out, idA, if_pos hout]
            clear hout hA hdr
            go_wp2_with fail
            refine kC.out.mono ?_
            rintro e w5 ⟨rfl, q5, e5⟩
            rw [e5]
            clear e5 w5
            go_wp2_with fail
            go_ret
            refine ⟨by rw [kA.out]; rfl, ?_⟩
            first | exact ko.out.drewN _ | (rw [World.drewN_drewN]; exact ko.out.drewN _)
        · obtain rfl : k = L.length := by omega
          have kA : Hid (idleZ L (n : Int) = false) := by
            show _ = _
            rw [kz.out, hA.out, List.drop_length, idA]
          go_wp2_with fail
          go_ret
          exact ⟨by rw [kA.out]; rfl, ko.out.drewN q⟩

theorem out_val {x y : Off} {a : Bool} (hy : 1 ≤ y.2) : outB x y a = true ↔ (x = y ∧ a = true) ∨ (x ≠ y ∧ y.2 ≤ x.2 ∧ subB x.1 y.1 = true) := by
  unfold outB
  rw [if_neg (by omega)]
  by_cases h : x = y
  · simp [h]
  · simp [h]

set_option maxRecDepth 100000 in
set_option maxHeartbeats 8000000 in
theorem ridle_any (ao : Option Addr) (cap : Nat) (L : List Off) (i : Int) (w : World) (h : OffC w ao L) (hl : L.length ≤ 9223372036854775807) (hL : ∀ x ∈ L, x.1 < 4294967296) :
    Calls Tryd.prog 24 #[.slice ao L.length cap, .int .i64 i] w fun e w' => e = .returned (.bool (idleZ L i)) ∧ Old w w' := by
  by_cases h0 : i < 0
  · have kz : Hid (idleZ L i = false) := by
      show _ = _
      rw [idleZ, if_neg (by omega)]
    go_enter Tryd.func24, Tryd.ntmps24
    go_wp2_with fail
    go_ret
    exact ⟨by rw [kz.out]; rfl, Old.refl _⟩
  · by_cases h1 : i ≥ (L.length : Int)
    · have kz : Hid (idleZ L i = false) := by
        show _ = _
        rw [idleZ, if_neg (by omega)]
      go_enter Tryd.func24, Tryd.ntmps24
      go_wp2_with fail
      go_ret
      exact ⟨by rw [kz.out]; rfl, Old.refl _⟩
    · obtain ⟨n, rfl⟩ : ∃ n : Nat, i = n := ⟨i.toNat, by omega⟩
      have hn : n < L.length := by omega
      have hn' : (n : Int) < (L.length : Int) := by omega
      have kz := hid (idleZ_in hn)
      have kO := hid h
      have kL := hid hL
      obtain ⟨g, o, rfl, d1, d2⟩ := h n hn
      obtain ⟨y, hy⟩ : ∃ y, L[n] = y := ⟨_, rfl⟩
      have hyn := hid hy
      rw [hy] at d1 d2
      have hyl := kL.out _ (List.getElem_mem hn)
      rw [hy] at hyl
      obtain ⟨m0, m1⟩ := off_new w y
      have ko : Hid (Old w (w.alloc (.cells #[.int .u32 (y.1 : Int), .int .i64 y.2] 73))) := (Old.refl w).alloc _
      have ksz := alloc_size w (.cells #[.int .u32 (y.1 : Int), .int .i64 y.2] 73)
      obtain ⟨yg, yc⟩ := y
      dsimp only at d1 d2 m0 m1 ko ksz hyl
      clear hL h hy
      by_cases hy1 : yc < 1
      · have kA : Hid (idleZ L (n : Int) = false) := by
          show _ = _
          rw [kz.out, hyn.out]
          have : ∀ (r : List Off) (k : Nat), idA (yg, yc) n r k = false := fun r => by
            induction r with
            | nil => intro k; rfl
            | cons x r ih => intro k; rw [idA, if_neg (by simp [outB, hy1]), ih]
          exact this _ _
        go_enter Tryd.func24, Tryd.ntmps24
        go_wp2_with fail
        go_ret
        exact ⟨by rw [kA.out]; rfl, Old.refl _⟩
      · have hy2 : 1 ≤ yc := by omega
        go_enter Tryd.func24, Tryd.ntmps24
        go_wp2_with fail
        generalize w.alloc (.cells #[.int .u32 (yg : Int), .int .i64 yc] 73) = w1 at *
        generalize w.heap.size = yb at *
        have km0 := hid m0
        have km1 := hid m1
        clear m0 m1 d1 d2
        go_loopw [6] (fun t wr => ∃ k : Nat, k ≤ L.length ∧ t = .int .i64 (k : Int) ∧ Hid (idA L[n] n L 0 = idA L[n] n (L.drop k) k) ∧ Old w1 wr) (fun t _ => L.length - (intOf t).toNat)
        case atStart => exact ⟨0, Nat.zero_le _, rfl, rfl, Old.refl _⟩
        case round =>
          obtain ⟨k, hk, rfl, hA, oW⟩ := hrel
          by_cases hlt : k < L.length
          · obtain ⟨g', o', e', d1, d2⟩ := kO.out k hlt
            simp only [Option.some.injEq, Addr.mk.injEq, and_true] at e'
            obtain ⟨rfl, rfl⟩ := e'
            have e1 := oW.cell (ko.out.cell d1)
            have e2 := oW.cell (ko.out.cell d2)
            have hk' : (k : Int) < (L.length : Int) := by omega
            have hdr : Hid (L.drop k = L[k] :: L.drop (k + 1)) := List.drop_eq_getElem_cons hlt
            have hxl := kL.out _ (List.getElem_mem hlt)
            have hkn : k = n → L[k] = L[n] := fun e => by subst e; rfl
            rw [hyn.out] at hkn
            obtain ⟨x, hx⟩ : ∃ x, L[k] = x := ⟨_, rfl⟩
            have hxk := hid hx
            rw [hx] at e1 e2 hxl hkn
            obtain ⟨n0, n1⟩ := off_new wr x
            have oA : Old wr (wr.alloc (.cells #[.int .u32 (x.1 : Int), .int .i64 x.2] 73)) := (Old.refl wr).alloc _
            have y0 := oA.cell (oW.cell km0.out)
            have y1 := oA.cell (oW.cell km1.out)
            have koA := hid (ko.out.trans (oW.trans oA))
            have koV := hid (oW.trans oA)
            obtain ⟨xg, xc⟩ := x
            dsimp only at e1 e2 n0 n1 y0 y1 koA koV hxl
            have hbs : (bits BinOp.andNot IntKind.u32 (xg : Int) (yg : Int) != 0) = !subB xg yg := by
              rw [← bits_sub, bne]
            have hov := fun a => out_val (x := (xg, xc)) (y := (yg, yc)) (a := a) hy2
            have kov := hid hov
            clear hx d1 d2 oW oA hov
            by_cases p1 : k = n
            · have hb : ((k : Int) == (n : Int)) = true := by rw [p1]; simp
              have kp1 := hid p1
              clear p1
              have kA : Hid (idA L[n] n L 0 = idA L[n] n (L.drop (k + 1)) (k + 1)) := by
                show _ = _
                rw [hA.out, hdr.out, idA, if_neg (by rw [hyn.out, hxk.out]; intro hh; rcases (kov.out _).1 hh with ⟨_, ha⟩ | ⟨hq, _⟩; (have := kp1.out; simp at ha; omega); exact hq (hkn kp1.out))]
              clear hA hdr
              go_wp2_with fail
              go_roundw
              case rel => exact ⟨k + 1, by omega, by go_num, kA, koV.out⟩
              case measure => simp [intOf]; omega
            · have hb : ((k : Int) == (n : Int)) = false := by simp; omega
              by_cases p2 : xc < 1
              · have kA : Hid (idA L[n] n L 0 = idA L[n] n (L.drop (k + 1)) (k + 1)) := by
                  show _ = _
                  rw [hA.out, hdr.out, idA, if_neg (by rw [hyn.out, hxk.out]; intro hh; rcases (kov.out _).1 hh with ⟨ha, _⟩ | ⟨_, hq, _⟩; (simp only [Prod.mk.injEq] at ha; omega); (simp only at hq; omega))]
                clear hA hdr
                go_wp2_with fail
                go_roundw
                case rel => exact ⟨k + 1, by omega, by go_num, kA, koV.out⟩
                case measure => simp [intOf]; omega
              · cases hs : subB xg yg
                · rw [hs, Bool.not_false] at hbs
                  have kA : Hid (idA L[n] n L 0 = idA L[n] n (L.drop (k + 1)) (k + 1)) := by
                    show _ = _
                    rw [hA.out, hdr.out, idA, if_neg (by rw [hyn.out, hxk.out]; intro hh; rcases (kov.out _).1 hh with ⟨ha, _⟩ | ⟨_, _, hq⟩; (simp only [Prod.mk.injEq] at ha; rw [ha.1, sub_refl _ hyl] at hs; cases hs); (simp only at hq; rw [hs] at hq; cases hq))]
                  clear hA hdr
                  go_wp2_with fail
                  go_roundw
                  case rel => exact ⟨k + 1, by omega, by go_num, kA, koV.out⟩
                  case measure => simp [intOf]; omega
                · rw [hs, Bool.not_true] at hbs
                  by_cases p3 : xc > yc
                  · have kA : Hid (idleZ L (n : Int) = true) := by
                      show _ = _
                      rw [kz.out, hA.out, hdr.out, idA, if_pos (by rw [hyn.out, hxk.out]; exact (kov.out _).2 (Or.inr ⟨fun e => by (simp only [Prod.mk.injEq] at e; omega), by show yc ≤ xc; omega, hs⟩))]
                    clear hA hdr
                    go_wp2_with fail
                    go_ret
                    exact ⟨by rw [kA.out]; rfl, koA.out⟩
                  · by_cases p4 : xc = yc
                    · have hb4 : (xc == yc) = true := by rw [p4]; simp
                      have kp4 := hid p4
                      clear p4
                      by_cases p5 : xg = yg
                      · have hb5 : ((xg : Int) != (yg : Int)) = false := by rw [p5]; simp
                        have kp5 := hid p5
                        clear p5
                        by_cases p6 : k < n
                        · have p6' : (k : Int) < (n : Int) := by omega
                          have kA : Hid (idleZ L (n : Int) = true) := by
                            show _ = _
                            rw [kz.out, hA.out, hdr.out, idA, if_pos (by rw [hyn.out, hxk.out]; exact (kov.out _).2 (Or.inl ⟨by rw [kp4.out, kp5.out], decide_eq_true p6⟩))]
                          clear hA hdr
                          go_wp2_with fail
                          go_ret
                          exact ⟨by rw [kA.out]; rfl, koA.out⟩
                        · have p6' : ¬ (k : Int) < (n : Int) := by omega
                          have kA : Hid (idA L[n] n L 0 = idA L[n] n (L.drop (k + 1)) (k + 1)) := by
                            show _ = _
                            rw [hA.out, hdr.out, idA, if_neg (by rw [hyn.out, hxk.out]; intro hh; rcases (kov.out _).1 hh with ⟨_, ha⟩ | ⟨hq, _⟩; (simp at ha; omega); exact hq (by rw [kp4.out, kp5.out]))]
                          clear hA hdr
                          go_wp2_with fail
                          go_roundw
                          case rel => exact ⟨k + 1, by omega, by go_num, kA, koV.out⟩
                          case measure => simp [intOf]; omega
                      · have hb5 : ((xg : Int) != (yg : Int)) = true := by rw [bne_iff_ne]; omega
                        have kA : Hid (idleZ L (n : Int) = true) := by
                          show _ = _
                          rw [kz.out, hA.out, hdr.out, idA, if_pos (by rw [hyn.out, hxk.out]; exact (kov.out _).2 (Or.inr ⟨fun e => p5 (by simp only [Prod.mk.injEq] at e; exact e.1), by show yc ≤ xc; exact Int.le_of_eq kp4.out.symm, hs⟩))]
                        clear hA hdr
                        go_wp2_with fail
                        go_ret
                        exact ⟨by rw [kA.out]; rfl, koA.out⟩
                    · have hb4 : (xc == yc) = false := by simpa using p4
                      have kA : Hid (idA L[n] n L 0 = idA L[n] n (L.drop (k + 1)) (k + 1)) := by
                        show _ = _
                        rw [hA.out, hdr.out, idA, if_neg (by rw [hyn.out, hxk.out]; intro hh; rcases (kov.out _).1 hh with ⟨ha, _⟩ | ⟨_, hq, _⟩; (simp only [Prod.mk.injEq] at ha; exact p4 ha.2); (simp only at hq; omega))]
                      clear hA hdr
                      go_wp2_with fail
                      go_roundw
                      case rel => exact ⟨k + 1, by omega, by go_num, kA, koV.out⟩
                      case measure => simp [intOf]; omega
          · obtain rfl : k = L.length := by omega
            have kA : Hid (idleZ L (n : Int) = false) := by
              show _ = _
              rw [kz.out, hA.out, List.drop_length, idA]
            go_wp2_with fail
            go_ret
            exact ⟨by rw [kA.out]; rfl, ko.out.trans oW⟩
end Go.Proofs.YtchofhgpameobaaDoor
