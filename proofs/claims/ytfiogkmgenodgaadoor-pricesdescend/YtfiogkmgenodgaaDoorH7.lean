/- What a choice is worth, walked. -/
import Derived.Test.YtfiogkmgenodgaaDoorH1
namespace Go.Proofs.YtfiogkmgenodgaaDoor
open Go.RowKit

/-- What a choice for an instance is worth: the answer and the error. -/
def chZ (gd : Int) (B : Ins) (c : List Int) : Int × Int := if insZ gd B ≠ 0 then (0, insZ gd B) else (worthZ gd B c, choE gd B c)

set_option maxRecDepth 100000 in
set_option maxHeartbeats 4000000 in
theorem choice_any (gd : Int) (bo co : Option Addr) (cap cc : Nat) (B : Ins) (c : List Int) (w : World) (h : InsC w bo B) (hl : B.length ≤ 9223372036854775807) (hc : NumsC .i64 w co c) (hcl : c.length ≤ 9223372036854775807) (hT : Tabs w) :
    Calls Tryd.prog 50 #[.agg #[.int .i64 gd, .slice bo B.length cap], .slice co c.length cc] w fun e w' => e = .returned (.tuple #[.int .i64 (chZ gd B c).1, .int .i64 (chZ gd B c).2]) ∧ Old w w' := by
  have o1 : Old w (w.alloc (.cells #[.int .i64 gd, .slice bo B.length cap] 38)) := (Old.refl w).alloc _
  have c0 := new_cell w #[.int .i64 gd, .slice bo B.length cap] 38 0 _ rfl
  have c1 := new_cell w #[.int .i64 gd, .slice bo B.length cap] 38 1 _ rfl
  have kI := hid (instance_any gd bo cap B _ (h.old o1) hl)
  have kh := hid (h.old o1)
  have kc := hid (hc.old o1)
  have kT := hid (hT.old o1)
  have ko := hid o1
  clear o1 h hc hT
  go_enter Tryd.func50, Tryd.ntmps50
  go_wp2_with fail
  generalize w.alloc (.cells #[.int .i64 gd, .slice bo B.length cap] 38) = w1 at *
  refine kI.out.mono ?_
  rintro e w2 ⟨rfl, o2⟩
  have d0 := o2.cell c0
  have d1 := o2.cell c1
  have ko2 := hid (ko.out.trans o2)
  by_cases hz : insZ gd B = 0
  · have kz : Hid (chZ gd B c = (worthZ gd B c, choE gd B c)) := by
      show _ = _
      rw [chZ, if_neg (by simp [hz])]
    have kW := hid (worth_any gd bo co cap cc B c w2 (kh.out.old o2) hl (kc.out.old o2) hcl (kT.out.old o2))
    rw [hz]
    clear hz o2 kI c0 c1
    go_wp2_with fail
    refine kW.out.mono ?_
    rintro e w3 ⟨rfl, o3⟩
    have ko3 := hid (ko2.out.trans o3)
    clear o3
    go_wp2_with fail
    go_ret2
    exact ⟨by rw [kz.out]; rfl, ko3.out⟩
  · have kz : Hid (chZ gd B c = (0, insZ gd B)) := by
      show _ = _
      rw [chZ, if_pos hz]
    have hzb : (insZ gd B != 0) = true := by simpa using hz
    clear hz o2 kI c0 c1
    go_wp2_with fail
    go_ret2
    exact ⟨by rw [kz.out]; rfl, ko2.out⟩
end Go.Proofs.YtfiogkmgenodgaaDoor
