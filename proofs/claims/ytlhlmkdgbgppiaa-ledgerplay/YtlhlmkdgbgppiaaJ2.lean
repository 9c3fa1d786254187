/- The contracts of the library that this program calls, laid at its numbers. -/
import Derived.Shelf.LaysM
import Derived.Shelf.Strconv.Clone
import Derived.Ground.Names2Prog
import Derived.Shelf.Slices.Clone
import Derived.Test.YtlhlmkdgbgppiaaProg
import Derived.Test.YtlhlmkdgbgppiaaJ1
namespace Go.Proofs
open Go.Shelf
def Try.laysM316_ren : Go.Shelf.Ren := ⟨fun | 316 => 86 | n => n, fun | 9 => 9 | 3 => 3 | 4 => 4 | 37 => 166 | 0 => 0 | 127 => 167 | 5 => 5 | n => n, fun | n => n⟩
theorem Try.laysM316 : Go.Proofs.LaysM.n316 Try.prog Try.laysM316_ren := {
  mixed := by kernel_rfl
  f316 := Try.func86.trans (congrArg some (by kernel_rfl))
  t0 := Try.underlying0
  a0 := Try.isAgg0
  z0 := Try.sizeOf0
  v0 := Try.zeroValue0
  t3 := Try.underlying3
  a3 := Try.isAgg3
  z3 := Try.sizeOf3
  v3 := Try.zeroValue3
  t4 := Try.underlying4
  a4 := Try.isAgg4
  z4 := Try.sizeOf4
  v4 := Try.zeroValue4
  t9 := Try.underlying9
  a9 := Try.isAgg9
  z9 := Try.sizeOf9
  v9 := Try.zeroValue9
  t37 := Try.underlying166
  a37 := Try.isAgg166
  z37 := Try.sizeOf166
  v37 := Try.zeroValue166
  t127 := Try.underlying167
  a127 := Try.isAgg167
  z127 := Try.sizeOf167
  v127 := Try.zeroValue167
  t5 := Try.underlying5
  a5 := Try.isAgg5
  z5 := Try.sizeOf5
  v5 := Try.zeroValue5
  i0 := by kernel_rfl
  i3 := by kernel_rfl
  i4 := by kernel_rfl
  i5 := by kernel_rfl
  i9 := by kernel_rfl
  i37 := by kernel_rfl
  i127 := by kernel_rfl }
open Go.RowKit in
theorem Try.stringslite_Clone (s : ByteArray) (w : World) (hlim : s.size ≤ 281474976710656) :
    Calls Try.prog 86 #[.string s] w fun e w' => e = .returned (.string s) ∧ Below w.heap.size w w' := Any.stringslite_Clone Try.laysM316 s w hlim
def Try.laysNm216_ren : Go.Shelf.Ren := ⟨fun | 16 => 72 | n => n, fun | 24 => 33 | 9 => 9 | 4 => 4 | n => n, fun | n => n⟩
theorem Try.laysNm216 : Go.Proofs.Lays2.n16 Try.prog Try.laysNm216_ren := {
  mixed := by kernel_rfl
  f16 := Try.func72.trans (congrArg some (by kernel_rfl))
  t4 := Try.underlying4
  a4 := Try.isAgg4
  z4 := Try.sizeOf4
  v4 := Try.zeroValue4
  t9 := Try.underlying9
  a9 := Try.isAgg9
  z9 := Try.sizeOf9
  v9 := Try.zeroValue9
  t24 := Try.underlying33
  a24 := Try.isAgg33
  z24 := Try.sizeOf33
  v24 := Try.zeroValue33
  i9 := by kernel_rfl }
open Go.RowKit Go.Lib in
theorem Try.slices_Clone_string (b off n c : Nat) (zs : List ByteArray) (w : World) (hz : n ≤ zs.length) (hbig : n * 16 ≤ 140737488355328) (hc : ∀ j, j < zs.length → w.cell? ⟨b, off + j, none⟩ = some (.string (zs.getD j ByteArray.empty))) :
    Calls Try.prog 72 #[.slice (some ⟨b, off, none⟩) n c] w fun e w' => ∃ v', e = .returned v' ∧ w'.ownsRow w.heap.size 9 1 v' n ((zs.take n).map (Value.string)) ∧ v' ≠ .slice none 0 0 ∧ Below w.heap.size w w' := Any.slices_Clone_string Try.laysNm216 b off n c zs w hz hbig hc
open Go.RowKit Go.Lib in
theorem Try.slices_Clone_string_nil (n c : Nat) (w : World) :
    Calls Try.prog 72 #[.slice none n c] w fun e w' => e = .returned (.slice none 0 0) ∧ w' = w := Any.slices_Clone_string_nil Try.laysNm216 n c w
open Go.RowKit Go.Lib in
theorem Try.slices_Clone_string_zero (a : Addr) (c : Nat) (w : World) :
    Calls Try.prog 72 #[.slice (some a) 0 c] w fun e w' => ∃ v', e = .returned v' ∧ w'.ownsRow w.heap.size 9 1 v' 0 [] ∧ v' ≠ .slice none 0 0 ∧ Below w.heap.size w w' := Any.slices_Clone_string_zero Try.laysNm216 a c w
end Go.Proofs

/- A table: made, asked, added to. -/
namespace Go.Proofs.Ytlhlmkdgbgppiaa
open Go.RowKit Go.Shelf Go.Maps

set_option maxRecDepth 100000 in
theorem clone_any (x : List UInt8) (w : World) (hx : x.length ≤ 281474976710656) : Calls Try.prog 80 #[.string ⟨x.toArray⟩] w fun e w' => e = .returned (.string ⟨x.toArray⟩) ∧ Old w w' := by
  have kC := hid (Try.stringslite_Clone ⟨x.toArray⟩ w (by simpa [ByteArray.size] using hx))
  go_enter Try.func80, Try.ntmps80
  go_wp2_with (go_at_call 86; refine kC.out.mono ?_; rintro e w' ⟨rfl, ob⟩)
  go_ret
  exact ⟨rfl, Old.of_below ob⟩

set_option maxRecDepth 100000 in
theorem none_nil (w : World) : Calls Try.prog 67 #[.pointer none] w fun e w' => e = .returned (.bool true) ∧ w' = w := by
  go_enter Try.func67, Try.ntmps67
  go_wp2
  go_ret
  exact ⟨rfl, rfl⟩

set_option maxRecDepth 100000 in
theorem none_zero (hb : Nat) (w : World) (h : w.cell? ⟨hb, 0, none⟩ = some (.pointer none)) : Calls Try.prog 67 #[.pointer (some ⟨hb, 0, none⟩)] w fun e w' => e = .returned (.bool true) ∧ w' = w := by
  go_enter Try.func67, Try.ntmps67
  go_wp2
  go_ret
  exact ⟨rfl, rfl⟩

set_option maxRecDepth 100000 in
theorem none_some (hb tb : Nat) (w : World) (h : w.cell? ⟨hb, 0, none⟩ = some (.pointer (some ⟨tb, 0, none⟩))) : Calls Try.prog 67 #[.pointer (some ⟨hb, 0, none⟩)] w fun e w' => e = .returned (.bool false) ∧ w' = w := by
  go_enter Try.func67, Try.ntmps67
  go_wp2
  go_ret
  exact ⟨rfl, rfl⟩

/-- Is a text a name? -/
def chkZ (x : List UInt8) : Int := if 1 ≤ x.length ∧ x.length ≤ 64 then 0 else 2

set_option maxRecDepth 100000 in
theorem check_any (x : List UInt8) (w : World) : Calls Try.prog 82 #[.string ⟨x.toArray⟩] w fun e w' => e = .returned (.int .i64 (chkZ x)) ∧ w' = w := by
  obtain ⟨s, hs⟩ : ∃ s : ByteArray, (⟨x.toArray⟩ : ByteArray) = s := ⟨_, rfl⟩
  have hz : s.size = x.length := by rw [← hs]; simp [ByteArray.size]
  rw [hs]
  unfold chkZ
  generalize x.length = n at hz ⊢
  clear hs
  by_cases h1 : 1 ≤ n
  · by_cases h2 : n ≤ 64
    · rw [if_pos ⟨h1, h2⟩]
      go_enter Try.func82, Try.ntmps82
      go_wp2
      go_ret
      exact ⟨rfl, rfl⟩
    · rw [if_neg (fun h => h2 h.2)]
      go_enter Try.func82, Try.ntmps82
      go_wp2
      go_ret
      exact ⟨rfl, rfl⟩
  · rw [if_neg (fun h => h1 h.1)]
    go_enter Try.func82, Try.ntmps82
    go_wp2
    go_ret
    exact ⟨rfl, rfl⟩

/-- A table behind its pointer. -/
structure Nms (w : World) (hb tb mb : Nat) (v : Value) (most : Int) (L : List (List UInt8)) : Prop where
  hd : w.heap[hb]? = some (.cells #[.pointer (some ⟨tb, 0, none⟩)] 126 (0, 0))
  t : Tbl w tb mb v most L

theorem Nms.c0 {w : World} {hb tb mb : Nat} {v : Value} {most : Int} {L : List (List UInt8)} (h : Nms w hb tb mb v most L) : w.cell? ⟨hb, 0, none⟩ = some (.pointer (some ⟨tb, 0, none⟩)) := blk_cell h.hd
theorem Nms.frm {S : Nat → Prop} {w w' : World} {hb tb mb : Nat} {v : Value} {most : Int} {L : List (List UInt8)} (h : Nms w hb tb mb v most L) (hf : Frm S w w') (h0 : ¬ S hb) (h1 : ¬ S tb) (h2 : ¬ S mb) (h3 : ∀ k, v.ownBlock = some k → ¬ S k) : Nms w' hb tb mb v most L :=
  ⟨by rw [hf.block hb (blk_lt h.hd) h0]; exact h.hd, h.t.frm hf h1 h2 h3⟩
theorem Nms.old {w w' : World} {hb tb mb : Nat} {v : Value} {most : Int} {L : List (List UInt8)} (h : Nms w hb tb mb v most L) (hf : Old w w') : Nms w' hb tb mb v most L := h.frm hf (fun h => h) (fun h => h) (fun h => h) (fun _ _ h => h)
theorem Nms.ne0 {w : World} {hb tb mb : Nat} {v : Value} {most : Int} {L : List (List UInt8)} (h : Nms w hb tb mb v most L) : hb ≠ tb ∧ hb ≠ mb ∧ v.ownBlock ≠ some hb := by
  refine ⟨fun e => ?_, fun e => ?_, fun e => ?_⟩
  · have h1 := h.hd
    rw [e, h.t.blk] at h1
    cases h1
  · exact h.t.km.noCell (by rw [← e]; exact h.hd)
  · obtain ⟨cur, hc⟩ := owns_block h.t.row e
    rw [h.hd] at hc
    cases hc

set_option maxRecDepth 100000 in
theorem new_good (most : Int) (w : World) (h : 0 ≤ most ∧ most ≤ 1048576) :
    Calls Try.prog 20 #[.int .i64 most] w fun e w' => e = .returned (.tuple #[.pointer (some ⟨w.heap.size + 2, 0, none⟩), .int .i64 0]) ∧ Old w w' ∧ Nms w' (w.heap.size + 2) (w.heap.size + 1) w.heap.size (.slice none 0 0) most [] ∧ w'.heap.size = w.heap.size + 3 := by
  have hm := run_makeMap (P := Try.prog) 122 w
  obtain ⟨h1, h2⟩ := h
  go_enter Try.func20, Try.ntmps20
  go_wp2
  obtain ⟨oB, hB⟩ : ∃ oB, Obj.cells #[.int .i64 most, .slice none 0 0, .map (some w.heap.size)] 124 = oB := ⟨_, rfl⟩
  have n1 := heap_new (w.alloc (.map #[] 0)) oB
  have n2 := heap_new ((w.alloc (.map #[] 0)).alloc oB) (.cells #[.pointer (some ⟨w.heap.size + 1, 0, none⟩)] 126)
  have oC : Old ((w.alloc (.map #[] 0)).alloc oB) (((w.alloc (.map #[] 0)).alloc oB).alloc (.cells #[.pointer (some ⟨w.heap.size + 1, 0, none⟩)] 126)) := (Old.refl _).alloc _
  have oD : Old (w.alloc (.map #[] 0)) ((w.alloc (.map #[] 0)).alloc oB) := (Old.refl _).alloc _
  rw [alloc_size] at n1
  rw [alloc_size, alloc_size] at n2
  have n1' := (oC.block (w.heap.size + 1) (by simp only [alloc_size]; omega) (fun h => h)).trans n1
  have km := ((KM.made w).kept oD (fun h => h)).kept oC (fun h => h)
  rw [← hB] at n1' n2 km
  refine bodyPost_ret ?_ rfl ⟨rfl, (((Old.refl w).alloc _).alloc _).alloc _, ⟨n2, n1', ⟨by simp [strs], Or.inl ⟨rfl, rfl⟩⟩, ?_⟩, by simp only [alloc_size]⟩
  · simp [results, Try.f20, go_sem]
  · exact km

set_option maxRecDepth 100000 in
theorem new_bad (most : Int) (w : World) (h : ¬ (0 ≤ most ∧ most ≤ 1048576)) :
    Calls Try.prog 20 #[.int .i64 most] w fun e w' => e = .returned (.tuple #[.pointer none, .int .i64 2]) ∧ w' = w := by
  by_cases h1 : most < 0
  · go_enter Try.func20, Try.ntmps20
    go_wp2
    go_ret2
    exact ⟨rfl, rfl⟩
  · have h2 : most > 1048576 := by omega
    clear h
    go_enter Try.func20, Try.ntmps20
    go_wp2
    go_ret2
    exact ⟨rfl, rfl⟩

/-- Why a name may not come. -/
def refZ (L : List (List UInt8)) (most : Int) (x : List UInt8) : Int := if chkZ x ≠ 0 then chkZ x else if x ∈ L then 5 else if most ≤ L.length then 3 else 0

set_option maxRecDepth 100000 in
set_option maxHeartbeats 1000000 in
theorem refusal_any (tb mb : Nat) (v : Value) (most : Int) (L : List (List UInt8)) (x : List UInt8) (w : World) (h : Tbl w tb mb v most L) (_hL : L.length ≤ 1048576) :
    Calls Try.prog 68 #[.pointer (some ⟨tb, 0, none⟩), .string ⟨x.toArray⟩] w fun e w' => e = .returned (.int .i64 (refZ L most x)) ∧ ∃ n, w' = w.drewN n := by
  have c0 := h.cell0
  have c1 := h.cell1
  have c2 := h.cell2
  obtain ⟨ao, cap, rfl⟩ := h.form
  have kC := hid (check_any x w)
  unfold refZ
  by_cases hc : chkZ x = 0
  · have hx : x.length ≤ maxLen := by
      unfold chkZ at hc
      have : maxLen = 9223372036854775807 := rfl
      split at hc <;> omega
    have hl := h.km.look hx
    rw [if_neg (by simpa using hc)]
    rw [hc] at kC
    clear h hx
    by_cases hm : x ∈ L
    · rw [if_pos hm]
      simp only [idx, if_pos hm, strV, numV, Option.isSome_some] at hl
      go_enter Try.func68, Try.ntmps68
      go_wp2_with (go_at_call 82; refine kC.out.mono ?_; rintro e w' ⟨rfl, rfl⟩)
      go_ret
      exact ⟨rfl, 0, rfl⟩
    · rw [if_neg hm]
      simp only [idx, if_neg hm, strV, numV, Option.isSome_none] at hl
      generalize L.length = n at *
      by_cases hq : most ≤ n
      · rw [if_pos hq]
        go_enter Try.func68, Try.ntmps68
        go_wp2_with (go_at_call 82; refine kC.out.mono ?_; rintro e w' ⟨rfl, rfl⟩)
        go_quiet (fail)
        go_wp2
        go_ret
        exact ⟨rfl, _, rfl⟩
      · rw [if_neg hq]
        go_enter Try.func68, Try.ntmps68
        go_wp2_with (go_at_call 82; refine kC.out.mono ?_; rintro e w' ⟨rfl, rfl⟩)
        go_quiet (fail)
        go_wp2
        go_ret
        exact ⟨rfl, _, rfl⟩
  · rw [if_pos hc]
    clear h
    generalize chkZ x = c at *
    go_enter Try.func68, Try.ntmps68
    go_wp2_with (go_at_call 82; refine kC.out.mono ?_; rintro e w' ⟨rfl, rfl⟩)
    go_ret
    exact ⟨rfl, 0, rfl⟩
end Go.Proofs.Ytlhlmkdgbgppiaa
