/- MoneyEvens walked. -/
import Derived.Test.YtopfjjclcbgamaaDoorV3
import Derived.Test.YtopfjjclcbgamaaDoorW2
namespace Go.Proofs.YtopfjjclcbgamaaDoor
open Go.RowKit Go.Lib


set_option maxRecDepth 100000 in
set_option maxHeartbeats 4000000 in
theorem moneyEvens_any (c n leave : Int) (w : World) (hn2 : n ≤ 9223372036854775807) :
    Calls Tryd.prog 5 #[.int .i64 c, .int .i64 n, .int .i64 leave] w fun e w' => e = .returned (.bool true) ∧ Old w w' := by
  have hW := hid works_any
  have hE := hid (fun w => even_any c n w)
  by_cases h1 : leave < 1
  · go_enter Tryd.func5, Tryd.ntmps5
    go_wp2_with fail
    refine (hE.out _).mono ?_
    rintro e w1 ⟨rfl, e1⟩
    have hold1 := hid (show Old w w1 by rw [e1]; exact ((Old.refl w).alloc _).alloc _)
    have hc1 : w1.cell? ⟨w.heap.size, 0, none⟩ = some (.int .i64 c) := by rw [e1]; exact ((Boxed.new w 2 (.int .i64 c)).alloc _).cell
    have hn1 : w1.cell? ⟨w.heap.size + 1, 0, none⟩ = some (.int .i64 n) := by
      have := (Boxed.new (w.alloc (.cells #[.int .i64 c] 2)) 3 (.int .i64 n)).cell
      rw [World.size_alloc] at this
      rw [e1]; exact this
    have hs1 : w.heap.size + 1 < w1.heap.size := by rw [e1]; simp
    clear e1 hE
    have hc1' := hid hc1
    have hn1' := hid hn1
    clear hc1 hn1
    go_wp2_with fail
    refine (parts_any c n _ _ _ w1 hn2 (by omega) hs1 hc1'.out hn1'.out).mono ?_
    rintro e w2 ⟨rfl, h2⟩
    have h2' := hid h2
    clear h2
    go_wp2_with fail
    refine (parts_any c n _ _ _ w2 hn2 (by have := h2'.out.size; omega) (by have := h2'.out.size; omega) (h2'.out.cell hc1'.out) (h2'.out.cell hn1'.out)).mono ?_
    rintro e w3 ⟨rfl, h3⟩
    have h3' := hid h3
    clear h3
    go_wp2_with fail
    refine (hW.out _).mono ?_
    rintro e w4 ⟨rfl, h4⟩
    have h4' := hid h4
    clear h4
    go_wp2
    go_ret
    exact ⟨rfl, ((hold1.out.trans h2'.out).trans h3'.out).trans h4'.out⟩
  · by_cases h2 : leave > 300
    · go_enter Tryd.func5, Tryd.ntmps5
      go_wp2_with fail
      refine (hE.out _).mono ?_
      rintro e w1 ⟨rfl, e1⟩
      have hold1 := hid (show Old w w1 by rw [e1]; exact ((Old.refl w).alloc _).alloc _)
      have hc1 : w1.cell? ⟨w.heap.size, 0, none⟩ = some (.int .i64 c) := by rw [e1]; exact ((Boxed.new w 2 (.int .i64 c)).alloc _).cell
      have hn1 : w1.cell? ⟨w.heap.size + 1, 0, none⟩ = some (.int .i64 n) := by
        have := (Boxed.new (w.alloc (.cells #[.int .i64 c] 2)) 3 (.int .i64 n)).cell
        rw [World.size_alloc] at this
        rw [e1]; exact this
      have hs1 : w.heap.size + 1 < w1.heap.size := by rw [e1]; simp
      clear e1 hE
      have hc1' := hid hc1
      have hn1' := hid hn1
      clear hc1 hn1
      go_wp2_with fail
      refine (parts_any c n _ _ _ w1 hn2 (by omega) hs1 hc1'.out hn1'.out).mono ?_
      rintro e w2 ⟨rfl, h2⟩
      have h2' := hid h2
      clear h2
      go_wp2_with fail
      refine (parts_any c n _ _ _ w2 hn2 (by have := h2'.out.size; omega) (by have := h2'.out.size; omega) (h2'.out.cell hc1'.out) (h2'.out.cell hn1'.out)).mono ?_
      rintro e w3 ⟨rfl, h3⟩
      have h3' := hid h3
      clear h3
      go_wp2_with fail
      refine (hW.out _).mono ?_
      rintro e w4 ⟨rfl, h4⟩
      have h4' := hid h4
      clear h4
      go_wp2
      go_ret
      exact ⟨rfl, ((hold1.out.trans h2'.out).trans h3'.out).trans h4'.out⟩
    · go_enter Tryd.func5, Tryd.ntmps5
      go_wp2_with fail
      refine (hE.out _).mono ?_
      rintro e w1 ⟨rfl, e1⟩
      have hold1 := hid (show Old w w1 by rw [e1]; exact ((Old.refl w).alloc _).alloc _)
      have hc1 : w1.cell? ⟨w.heap.size, 0, none⟩ = some (.int .i64 c) := by rw [e1]; exact ((Boxed.new w 2 (.int .i64 c)).alloc _).cell
      have hn1 : w1.cell? ⟨w.heap.size + 1, 0, none⟩ = some (.int .i64 n) := by
        have := (Boxed.new (w.alloc (.cells #[.int .i64 c] 2)) 3 (.int .i64 n)).cell
        rw [World.size_alloc] at this
        rw [e1]; exact this
      have hs1 : w.heap.size + 1 < w1.heap.size := by rw [e1]; simp
      clear e1 hE
      have hc1' := hid hc1
      have hn1' := hid hn1
      clear hc1 hn1
      go_wp2_with fail
      refine (parts_any c n _ _ _ w1 hn2 (by omega) hs1 hc1'.out hn1'.out).mono ?_
      rintro e w2 ⟨rfl, h2⟩
      have h2' := hid h2
      clear h2
      go_wp2_with fail
      refine (parts_any c n _ _ _ w2 hn2 (by have := h2'.out.size; omega) (by have := h2'.out.size; omega) (h2'.out.cell hc1'.out) (h2'.out.cell hn1'.out)).mono ?_
      rintro e w3 ⟨rfl, h3⟩
      have h3' := hid h3
      clear h3
      go_wp2_with fail
      refine (hW.out _).mono ?_
      rintro e w4 ⟨rfl, h4⟩
      have h4' := hid h4
      clear h4
      go_wp2
      go_ret
      exact ⟨rfl, ((hold1.out.trans h2'.out).trans h3'.out).trans h4'.out⟩
end Go.Proofs.YtopfjjclcbgamaaDoor
