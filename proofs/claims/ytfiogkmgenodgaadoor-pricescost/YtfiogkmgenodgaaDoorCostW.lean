/- PricesCost, walked. -/
import Derived.Test.YtfiogkmgenodgaaDoorP11
import Derived.Test.YtfiogkmgenodgaaDoorR1
import Derived.Test.YtfiogkmgenodgaaDoorL1
namespace Go.Proofs.YtfiogkmgenodgaaDoor
open Go.RowKit


set_option maxRecDepth 100000 in
set_option maxHeartbeats 8000000 in
theorem cost_walk (po ao : Option Addr) (cp ca : Nat) (P : List Int) (L : List Off) (g : Nat) (w : World) (hP : NumsC .i64 w po P) (hPn : po = none → cp = 0) (h : OffC w ao L) (hn : ao = none → ca = 0) (hL : ∀ x ∈ L, x.1 < 4294967296) (hg : g < 4294967296) (hT : Tabs w) :
    Calls Tryd.prog 3 #[.slice po P.length cp, .slice ao L.length ca, .int .u32 (g : Int)] w fun e w' => e = .returned (.bool true) ∧ Old w w' := by
  by_cases hp : P.length > 100
  · have hp' : (P.length : Int) > 100 := by omega
    go_enter Tryd.func3, Tryd.ntmps3
    have kK := hid (works_any w hT)
    go_wp2_with fail
    refine kK.out.mono ?_
    rintro e w9 ⟨rfl, o9⟩
    have ko9 := hid (Old.trans (Old.refl w) o9)
    clear o9
    go_wp2_with fail
    go_ret
    exact ⟨rfl, ko9.out⟩
  · have hp' : ¬ (P.length : Int) > 100 := by omega
    by_cases hl : L.length > 60
    · have hl' : (L.length : Int) > 60 := by omega
      go_enter Tryd.func3, Tryd.ntmps3
      have kK := hid (works_any w hT)
      go_wp2_with fail
      refine kK.out.mono ?_
      rintro e w9 ⟨rfl, o9⟩
      have ko9 := hid (Old.trans (Old.refl w) o9)
      clear o9
      go_wp2_with fail
      go_ret
      exact ⟨rfl, ko9.out⟩
    · have hl' : ¬ (L.length : Int) > 60 := by omega
      have k1 := hid (nlent_any po cp P w hP hPn (by omega))
      have kP := hid hP
      have kO := hid h
      have kT := hid hT
      have kL := hid hL
      clear hP h hT hL
      go_enter Tryd.func3, Tryd.ntmps3
      go_wp2_with fail
      refine k1.out.mono ?_
      rintro e w1 ⟨v1, rfl, hv1, o1⟩
      have kv1 := hid hv1
      have ko1 := hid o1
      have q2 : Old w1 (w1.alloc (.cells #[] 29)) := (Old.refl w1).alloc _
      have hO2 := (kO.out.old o1).old q2
      have hsz := alloc_size w1 (.cells #[] 29)
      have ow0 : (w1.alloc (.cells #[] 29)).ownsRow w1.heap.size 29 2 (.slice (some ⟨w1.heap.size, 0, none⟩) 0 0) 0 (flatO []) := ⟨rfl, Or.inr ⟨w1.heap.size, 0, #[], rfl, Nat.le_refl _, heap_new w1 _, Nat.le_refl _, by unfold maxLen; omega, rfl, rfl⟩⟩
      have ko2 := hid q2
      clear q2 hv1 o1 k1
      go_wp2_with (at_builtin; refine wpAppO (by rfl) _ _ (by rfl) w1.heap.size (.slice (some ⟨w1.heap.size, 0, none⟩) 0 0) ao ca [] L (by rfl) (by rfl) ow0 hO2 hn (by simp; omega) (by omega) ?_)
      generalize w1.alloc (.cells #[] 29) = w2 at *
      intro v3 w3 ow3 gr3
      have o3 : Old w1 w3 := by
        refine ⟨gr3.os.trans ko2.out.os, gr3.tape.trans ko2.out.tape, gr3.output.trans ko2.out.output, Nat.le_trans ko2.out.size gr3.size, fun q hq _ => ?_⟩
        rw [gr3.block q (by omega) (by simp [Value.ownBlock]; omega)]
        exact ko2.out.block q hq (fun h => h)
      have hsz3 := gr3.size
      try rw [List.nil_append] at ow3
      have q4 : Old w3 (w3.alloc (.cells #[.int .u32 77, .int .i64 0] 29)) := (Old.refl w3).alloc _
      have h4 := heap_new w3 (.cells #[.int .u32 77, .int .i64 0] 29)
      have hO4 : OffC (w3.alloc (.cells #[.int .u32 77, .int .i64 0] 29)) (some ⟨w3.heap.size, 0, none⟩) [(77, 0)] := by
        intro i hi
        match i, hi with
        | 0, _ => exact ⟨w3.heap.size, 0, rfl, blk_cells h4 rfl, blk_cells h4 rfl⟩
      have ow4 := ow3.alloc (.cells #[.int .u32 77, .int .i64 0] 29)
      have kge := hid (fun k hk => (ow3.lt k hk).1)
      have ko4 := hid (o3.trans q4)
      have hsz4 := alloc_size w3 (.cells #[.int .u32 77, .int .i64 0] 29)
      clear h4 o3 q4 ow3 gr3 ow0 hO2 ko2
      go_wp2_with (at_builtin; refine wpAppO (by rfl) _ _ (by rfl) w1.heap.size v3 (some ⟨w3.heap.size, 0, none⟩) 1 L [(77, 0)] (by rfl) (by rfl) ow4 hO4 (fun h => by cases h) (by simp; omega) (by omega) ?_)
      generalize w3.alloc (.cells #[.int .u32 77, .int .i64 0] 29) = w4 at *
      intro v5 w5 ow5 gr5
      have o5 : Hid (Old w1 w5) := by
        refine ⟨gr5.os.trans ko4.out.os, gr5.tape.trans ko4.out.tape, gr5.output.trans ko4.out.output, Nat.le_trans ko4.out.size gr5.size, fun q hq _ => ?_⟩
        rw [gr5.block q (by omega) (fun e => by have := kge.out q e.symm; omega)]
        exact ko4.out.block q hq (fun h => h)
      obtain ⟨b, c5, rfl, hb, hc5, own⟩ := owns_own (L := L ++ [((77, 0) : Off)]) (by simpa using ow5) (by simp)
      have hl1 : (L ++ [((77, 0) : Off)]).length = L.length + 1 := by simp
      rw [hl1] at hc5
      rw [hl1]
      have ko5 := hid (ko1.out.trans o5.out)
      have kown := hid own
      have kv5 := hid (kv1.out.old o5.out)
      obtain ⟨mb, mc, mcur, rfl, hmc, hmb, hmblk, hmtk⟩ := kv1.out
      have kN5 := hid ((LentN.cells hmblk hmtk).1.old o5.out)
      have kP5 := hid (kP.out.old ko5.out)
      have kO5 := hid (kO.out.old ko5.out)
      have kT5 := hid (kT.out.old ko5.out)
      have kG := hid (gain_any (some ⟨b, 0, none⟩) (some ⟨mb, 0, none⟩) c5 mc L P g w5 kown.out.front (by omega) kL.out kN5.out kT5.out)
      have hzg : Hid (gainZ P g L = gainZ P g L) := rfl
      obtain ⟨gz, hgz⟩ : ∃ gz, gainZ P g L = gz := ⟨_, rfl⟩
      have kgz := hid hgz
      rw [hgz] at kG
      obtain ⟨z0, z1⟩ := gz
      dsimp only at kG
      clear ow5 gr5 own hmblk hmtk kv1 ko1 o5 ow4 hO4 kge ko4 hgz
      go_wp2_with fail
      refine kG.out.mono ?_
      rintro e w6 ⟨rfl, o6⟩
      have kR := hid (rgain_any ao po ca cp L P g w6 (kO5.out.old o6) (by omega) (kP5.out.old o6) (by omega))
      rw [kgz.out] at kR
      have ko6 := hid (ko5.out.trans o6)
      have kv6 := hid (kv5.out.old o6)
      have kN6 := hid (kN5.out.old o6)
      have kow6 := hid (kown.out.old o6)
      clear o6 kG ko5 kv5 kN5 kown kP5 kO5 kT5
      go_wp2_with fail
      refine kR.out.mono ?_
      rintro e w7 ⟨rfl, o7⟩
      have ko7 := hid (ko6.out.trans o7)
      have kv7 := hid (kv6.out.old o7)
      have kN7 := hid (kN6.out.old o7)
      have kow7 := hid (kow6.out.old o7)
      clear o7 kR ko6 kv6 kN6 kow6
      have kC := hid (cost_any (some ⟨mb, 0, none⟩) mc P g w7 kN7.out hg (kT.out.old ko7.out))
      obtain ⟨cz, hcz⟩ : ∃ cz, costZ P g = cz := ⟨_, rfl⟩
      rw [hcz] at kC
      have kcz := hid hcz
      clear hcz
      go_wp2_with fail
      refine kC.out.mono ?_
      rintro e w8 ⟨rfl, o8⟩
      have ko8 := hid (ko7.out.trans o8)
      have kv8 := hid (kv7.out.old o8)
      have kow8 := hid (kow7.out.old o8)
      have kRC := hid (rcost_any po cp P g w8 (kP.out.old ko8.out) (by omega))
      rw [kcz.out] at kRC
      clear o8 kC ko7 kv7 kN7 kow7
      go_wp2_with fail
      refine kRC.out.mono ?_
      rintro e w' ⟨rfl, e1⟩
      rw [e1]
      clear e1 kRC
      have kK := hid (nkept_any w.heap.size _ po cp P w8 kv8.out (kP.out.old ko8.out) (by omega))
      have hz0 : (z0 == z0) = true := by simp
      have hz1 : (z1 == z1) = true := by simp
      have hcc : (cz == cz) = true := by simp
      go_wp2_with fail
      refine kK.out.mono ?_
      rintro e w10 ⟨rfl, o10⟩
      have ko10 := hid (ko8.out.trans o10)
      have kow10 := hid (kow8.out.old o10)
      have kS := hid (sameO_any (some ⟨b, 0, none⟩) ao c5 ca L L w10 kow10.out.front (kO.out.old ko10.out) (by omega))
      rw [decide_eq_true rfl] at kS
      clear o10 kK ko8 kow8 kv8
      go_wp2_with fail
      refine kS.out.mono ?_
      rintro e w11 ⟨rfl, o11⟩
      have ko11 := hid (ko10.out.trans o11)
      obtain ⟨m0, m1⟩ := (kow10.out.old o11).at (i := L.length) (x := (77, 0)) (by simp)
      have hd1 : (L.length : Int) + 1 ≤ (c5 : Int) := by omega
      have hd2 : (L.length : Int) < (L.length : Int) + 1 := by omega
      have kW := hid (works_any w11 (kT.out.old ko11.out))
      dsimp only at m0 m1
      clear o11 kS ko10 kow10
      go_wp2_with fail
      refine kW.out.mono ?_
      rintro e w12 ⟨rfl, o12⟩
      have ko12 := hid (ko11.out.trans o12)
      clear o12
      go_wp2_with fail
      go_ret
      exact ⟨rfl, ko12.out⟩
end Go.Proofs.YtfiogkmgenodgaaDoor
