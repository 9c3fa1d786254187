/- The document's Greatest; prices that are made: walked. Where PricesHold stands. -/
import Derived.Test.YtfiogkmgenodgaaDoorJ2
import Derived.Test.YtfiogkmgenodgaaDoorP11
import Derived.Test.YtfiogkmgenodgaaDoorV1
namespace Go.Proofs.YtfiogkmgenodgaaDoor
open Go.RowKit

set_option maxRecDepth 100000 in
set_option maxHeartbeats 4000000 in
theorem rgreatest_any (ao : Option Addr) (cap : Nat) (L : List Off) (w : World) (h : OffC w ao L) (hl : L.length ≤ 9223372036854775807) (hL : ∀ x ∈ L, x.1 < 4294967296) :
    Calls Tryd.prog 31 #[.slice ao L.length cap] w fun e w' => e = .returned (.tuple #[.int .i64 (wZ 4294967295 L).1, .int .i64 (wZ 4294967295 L).2]) ∧ w' = w := by
  have kO := hid h
  have kL := hid hL
  clear h hL
  go_enter Tryd.func31, Tryd.ntmps31
  go_wp2_with fail
  go_loopw [4, 5, 6] (fun v a t wr => ∃ (k : Nat) (sv sa : Int), k ≤ L.length ∧ t = .int .i64 (k : Int) ∧ v = .int .i64 sv ∧ a = .int .i64 sa ∧ Hid (wZ 4294967295 L = wA 4294967295 (L.drop k) k sv sa) ∧ wr = w) (fun _ _ t _ => L.length - (intOf t).toNat)
  case atStart => exact ⟨0, 0, -1, Nat.zero_le _, rfl, rfl, rfl, rfl, by trivial⟩
  case round =>
    obtain ⟨k, sv, sa, hk, rfl, rfl, rfl, hA, hwr⟩ := hrel
    obtain rfl := hwr.symm
    by_cases hlt : k < L.length
    · obtain ⟨bg, o, rfl, e1, e2⟩ := kO.out k hlt
      have hk' : (k : Int) < (L.length : Int) := by omega
      have hdr : Hid (L.drop k = L[k] :: L.drop (k + 1)) := List.drop_eq_getElem_cons hlt
      have hs := hid (sub_all32 (kL.out _ (List.getElem_mem hlt)))
      obtain ⟨x, hx⟩ : ∃ x, L[k] = x := ⟨_, rfl⟩
      rw [hx] at e1 e2 hdr hs
      obtain ⟨xg, xc⟩ := x
      dsimp only at e1 e2 hs
      clear hx
      by_cases hc : xc > sv
      · have kz : Hid (wZ 4294967295 L = wA 4294967295 (L.drop (k + 1)) (k + 1) xc k) := by
          show _ = _
          rw [hA.out, hdr.out, wA, if_pos ⟨hc, hs.out⟩]
        go_wp2_with fail
        go_roundw
        case rel => exact ⟨k + 1, xc, k, by omega, by go_num, rfl, rfl, kz, by trivial⟩
        case measure => simp [intOf]; omega
      · have kz : Hid (wZ 4294967295 L = wA 4294967295 (L.drop (k + 1)) (k + 1) sv sa) := by
          show _ = _
          rw [hA.out, hdr.out, wA, if_neg (fun h => hc h.1)]
        go_wp2_with fail
        go_roundw
        case rel => exact ⟨k + 1, sv, sa, by omega, by go_num, rfl, rfl, kz, by trivial⟩
        case measure => simp [intOf]; omega
    · obtain rfl : k = L.length := by omega
      have kz : Hid (wZ 4294967295 L = (sv, sa)) := by
        show _ = _
        rw [hA.out, List.drop_length, wA]
      go_wp2_with fail
      go_ret2
      exact ⟨by rw [kz.out]; rfl, rfl⟩


theorem info_n64 : (Tryd.prog.info? 2).map (fun i => (i.zero, i.bytes, i.size)) = some (some (.int .i64 0), 8, 1) := by kernel_rfl
theorem make_n (n : Nat) (hn : n ≤ 1048576) (w : World) : (Instr.makeSlice 22 (.int .i64 (n : Int)) (.int .i64 (n : Int))).run Tryd.prog w = .ok (.slice (some ⟨w.heap.size, 0, none⟩) n n) (w.alloc (.cells (Array.replicate n (Value.int .i64 0)) 2)) := by
  obtain ⟨i, hi, h2⟩ := Option.map_eq_some_iff.1 info_n64
  simp only [Prod.mk.injEq] at h2
  obtain ⟨hz, hb, hs⟩ := h2
  have h := run_make (P := Tryd.prog) w 22 2 i (.int .i64 0) Tryd.underlying22 hi hz .i64 .i64 n n (by omega) (by omega) (by rw [hb]; omega) (by omega)
  rw [h, hs]
  simp only [Int.toNat_natCast, Nat.mul_one, made_ints]

/-- What PricesHold reads all along. -/
structure HX (w : World) (s : Nat) (gd : Int) (bo : Option Addr) (cap : Nat) (B : Ins) (pb : Nat) (Q : List Int) (W : World) : Prop where
  old : Old w W
  x0 : W.cell? ⟨s, 0, none⟩ = some (.int .i64 gd)
  x1 : W.cell? ⟨s, 1, none⟩ = some (.slice bo B.length cap)
  p : NumsC .i64 W (some ⟨pb, 0, none⟩) Q
theorem HX.olds {w : World} {s : Nat} {gd : Int} {bo : Option Addr} {cap : Nat} {B : Ins} {pb : Nat} {Q : List Int} {W W' : World} (h : HX w s gd bo cap B pb Q W) (o : Old W W') : HX w s gd bo cap B pb Q W' := ⟨h.old.trans o, o.cell h.x0, o.cell h.x1, h.p.old o⟩
end Go.Proofs.YtfiogkmgenodgaaDoor
