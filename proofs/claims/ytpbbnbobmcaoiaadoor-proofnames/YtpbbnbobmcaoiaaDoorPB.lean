/- proof.Bound, proof.isNoPrice, proof.copied, proof.partOf: walked. -/
import Derived.Test.YtpbbnbobmcaoiaaDoorP4
namespace Go.Proofs.YtpbbnbobmcaoiaaDoor
open Go.RowKit

/-- What prices say, or that they may not be. -/
def pbdZ (gd : Int) (B : Ins) (k : Int) (f : Nat) (P : List Int) : Int × Int := if (restZ gd B k f P).2 ≠ 0 then (0, 2) else ((restZ gd B k f P).1, 0)
set_option maxRecDepth 100000 in
set_option maxHeartbeats 4000000 in
theorem prfbound_any (gd : Int) (bo po : Option Addr) (cap cp : Nat) (B : Ins) (k : Int) (f : Nat) (P : List Int) (w : World) (h : InsC w bo B) (hl : B.length ≤ 9223372036854775807) (hcap : B.length ≤ cap) (hf : f < 4294967296) (hP : NumsC .i64 w po P) (hPl : P.length ≤ 9223372036854775807) (hT : Tabs w) :
    Calls Tryd.prog 25 #[.agg #[.int .i64 gd, .slice bo B.length cap], .int .i64 k, .int .u32 (f : Int), .slice po P.length cp] w fun e w' => e = .returned (.tuple #[.int .i64 (pbdZ gd B k f P).1, .int .i64 (pbdZ gd B k f P).2]) ∧ Old w w' := by
  have oA : Old w (w.alloc (.cells #[.int .i64 gd, .slice bo B.length cap] 24)) := (Old.refl w).alloc _
  have c0 := new_cell w #[.int .i64 gd, .slice bo B.length cap] 24 0 (.int .i64 gd) rfl
  have c1 := new_cell w #[.int .i64 gd, .slice bo B.length cap] 24 1 (.slice bo B.length cap) rfl
  have kR := hid (rest_any gd bo po cap cp B k f P _ (h.old oA) hl hcap hf (hP.old oA) hPl (hT.old oA))
  have ko := hid oA
  have kz : Hid (pbdZ gd B k f P = if (restZ gd B k f P).2 ≠ 0 then (0, 2) else ((restZ gd B k f P).1, 0)) := rfl
  generalize restZ gd B k f P = rz at *
  generalize pbdZ gd B k f P = pz at *
  obtain ⟨r1, r2⟩ := rz
  dsimp only at kR kz
  clear oA hT h hP
  by_cases h2 : r2 = 0
  · subst h2
    have kz2 : Hid (pz = (r1, 0)) := kz.out
    go_enter Tryd.func25, Tryd.ntmps25
    go_wp2_with fail
    refine kR.out.mono ?_
    rintro e w2 ⟨rfl, o2⟩
    have ko := hid (ko.out.trans o2)
    clear o2 kR
    go_wp2_with fail
    go_ret2
    exact ⟨by rw [kz2.out]; rfl, ko.out⟩
  · have kz2 : Hid (pz = (0, 2)) := kz.out.trans (if_pos h2)
    go_enter Tryd.func25, Tryd.ntmps25
    go_wp2_with fail
    refine kR.out.mono ?_
    rintro e w2 ⟨rfl, o2⟩
    have ko := hid (ko.out.trans o2)
    clear o2 kR
    go_wp2_with fail
    go_ret2
    exact ⟨by rw [kz2.out]; rfl, ko.out⟩

/-- No good may have that price. -/
def npB (p : Int) : Bool := decide (p < 0) || decide (p > 1099511627776)
set_option maxRecDepth 100000 in
theorem isNoPrice_any (p : Int) (w : World) : Calls Tryd.prog 72 #[.int .i64 p] w fun e w' => e = .returned (.bool (npB p)) ∧ w' = w := by
  by_cases h1 : p < 0
  · have kg : Hid (npB p = true) := by show _ = _; unfold npB; rw [decide_eq_true h1]; rfl
    go_enter Tryd.func72, Tryd.ntmps72
    go_wp2_with fail
    go_ret
    exact ⟨by rw [kg.out]; rfl, rfl⟩
  · by_cases h2 : p > 1099511627776
    · have kg : Hid (npB p = true) := by show _ = _; unfold npB; rw [decide_eq_false h1, decide_eq_true h2]; rfl
      go_enter Tryd.func72, Tryd.ntmps72
      go_wp2_with fail
      go_ret
      exact ⟨by rw [kg.out]; rfl, rfl⟩
    · have kg : Hid (npB p = false) := by show _ = _; unfold npB; rw [decide_eq_false h1, decide_eq_false h2]; rfl
      go_enter Tryd.func72, Tryd.ntmps72
      go_wp2_with fail
      go_ret
      exact ⟨by rw [kg.out]; rfl, rfl⟩
end Go.Proofs.YtpbbnbobmcaoiaaDoor
