/- The document's tables: New, Check, Find; does a text begin with another one? -/
import Derived.Test.YtjkgijfddgppjaaN21
namespace Go.Proofs.Ytjkgijfddgppjaa
open Go.RowKit Go.Sort

/-- A list of texts, as it lies. -/
def ListAt (w : World) (v : Value) (L : List (List UInt8)) : Prop :=
  (L = [] ∧ v = .slice none 0 0) ∨ ∃ g cap, v = .slice (some ⟨g, 0, none⟩) L.length cap ∧ 0 < L.length ∧ ∀ i (h : i < L.length), w.cell? ⟨g, i, none⟩ = some (strV L[i])

theorem ListAt.form {w : World} {v : Value} {L : List (List UInt8)} (h : ListAt w v L) : ∃ ao cap, v = .slice ao L.length cap := by
  rcases h with ⟨rfl, rfl⟩ | ⟨g, cap, rfl, _⟩
  · exact ⟨none, 0, rfl⟩
  · exact ⟨_, _, rfl⟩
theorem ListAt.nth {w : World} {v : Value} {L : List (List UInt8)} (h : ListAt w v L) {i : Nat} (hi : i < L.length) : ∃ g cap, v = .slice (some ⟨g, 0, none⟩) L.length cap ∧ w.cell? ⟨g, i, none⟩ = some (.string ⟨(L[i]).toArray⟩) := by
  rcases h with ⟨rfl, rfl⟩ | ⟨g, cap, rfl, hc⟩
  · simp at hi
  · exact ⟨g, cap, rfl, hc.2 i hi⟩
theorem ListAt.frm {S : Nat → Prop} {w w' : World} {v : Value} {L : List (List UInt8)} (h : ListAt w v L) (hf : Frm S w w') (hS : ∀ k, v.ownBlock = some k → ¬ S k) : ListAt w' v L := by
  rcases h with h | ⟨g, cap, rfl, hc⟩
  · exact Or.inl h
  · exact Or.inr ⟨g, cap, rfl, hc.1, fun i hi => frm_cell hf (hc.2 i hi) (hS g rfl)⟩

/-- The document's table. -/
structure Doc (w : World) (rb : Nat) (v : Value) (most : Int) (L : List (List UInt8)) : Prop where
  blk : w.heap[rb]? = some (.cells #[v, .int .i64 most] 72 (0, 0))
  lst : ListAt w v L

theorem Doc.c0 {w : World} {rb : Nat} {v : Value} {most : Int} {L : List (List UInt8)} (h : Doc w rb v most L) : w.cell? ⟨rb, 0, none⟩ = some v := blk_cells h.blk rfl
theorem Doc.c1 {w : World} {rb : Nat} {v : Value} {most : Int} {L : List (List UInt8)} (h : Doc w rb v most L) : w.cell? ⟨rb, 1, none⟩ = some (.int .i64 most) := blk_cells h.blk rfl
theorem Doc.frm {S : Nat → Prop} {w w' : World} {rb : Nat} {v : Value} {most : Int} {L : List (List UInt8)} (h : Doc w rb v most L) (hf : Frm S w w') (h0 : ¬ S rb) (hS : ∀ k, v.ownBlock = some k → ¬ S k) : Doc w' rb v most L :=
  ⟨by rw [hf.block rb (blk_lt h.blk) h0]; exact h.blk, h.lst.frm hf hS⟩
theorem Doc.old {w w' : World} {rb : Nat} {v : Value} {most : Int} {L : List (List UInt8)} (h : Doc w rb v most L) (hf : Old w w') : Doc w' rb v most L := h.frm hf (fun h => h) (fun _ _ h => h)

set_option maxRecDepth 100000 in
theorem dnew_good (most : Int) (w : World) (h : 0 ≤ most ∧ most ≤ 1048576) :
    Calls Try.prog 8 #[.int .i64 most] w fun e w' => e = .returned (.tuple #[.pointer (some ⟨w.heap.size, 0, none⟩), .int .i64 0]) ∧ Old w w' ∧ Doc w' w.heap.size (.slice none 0 0) most [] ∧ w'.heap.size = w.heap.size + 1 := by
  obtain ⟨h1, h2⟩ := h
  go_enter Try.func8, Try.ntmps8
  go_wp2
  refine bodyPost_ret ?_ rfl ⟨rfl, (Old.refl w).alloc _, ⟨heap_new _ _, Or.inl ⟨rfl, rfl⟩⟩, by simp only [alloc_size]⟩
  simp [results, Try.f8, go_sem]

set_option maxRecDepth 100000 in
theorem dnew_bad (most : Int) (w : World) (h : ¬ (0 ≤ most ∧ most ≤ 1048576)) :
    Calls Try.prog 8 #[.int .i64 most] w fun e w' => e = .returned (.tuple #[.pointer none, .int .i64 2]) ∧ w' = w := by
  by_cases h1 : most < 0
  · go_enter Try.func8, Try.ntmps8
    go_wp2
    go_ret2
    exact ⟨rfl, rfl⟩
  · have h2 : most > 1048576 := by omega
    clear h
    go_enter Try.func8, Try.ntmps8
    go_wp2
    go_ret2
    exact ⟨rfl, rfl⟩

set_option maxRecDepth 100000 in
theorem dcheck_any (x : List UInt8) (w : World) : Calls Try.prog 28 #[.string ⟨x.toArray⟩] w fun e w' => e = .returned (.int .i64 (chkZ x)) ∧ w' = w := by
  obtain ⟨s, hs⟩ : ∃ s : ByteArray, (⟨x.toArray⟩ : ByteArray) = s := ⟨_, rfl⟩
  have hz : s.size = x.length := by rw [← hs]; simp [ByteArray.size]
  rw [hs]
  unfold chkZ
  generalize x.length = n at hz ⊢
  clear hs
  by_cases h1 : 1 ≤ n
  · by_cases h2 : n ≤ 64
    · rw [if_pos ⟨h1, h2⟩]
      go_enter Try.func28, Try.ntmps28
      go_wp2
      go_ret
      exact ⟨rfl, rfl⟩
    · rw [if_neg (fun h => h2 h.2)]
      go_enter Try.func28, Try.ntmps28
      go_wp2
      go_ret
      exact ⟨rfl, rfl⟩
  · rw [if_neg (fun h => h1 h.1)]
    go_enter Try.func28, Try.ntmps28
    go_wp2
    go_ret
    exact ⟨rfl, rfl⟩

theorem idx_first {L : List (List UInt8)} {x : List UInt8} {k : Nat} (hk : k < L.length) (e : L[k] = x) (h : x ∉ L.take k) : idx L x = some k := by
  have hm : x ∈ L := by rw [← e]; exact List.getElem_mem hk
  unfold idx
  rw [if_pos hm]
  congr 1
  have h1 : L.take k ++ L.drop k = L := List.take_append_drop k L
  rw [← h1, List.idxOf_append, if_neg h, List.drop_eq_getElem_cons hk, e]
  simp
  omega

set_option maxRecDepth 100000 in
set_option maxHeartbeats 2000000 in
theorem dfind_any (rb : Nat) (v : Value) (most : Int) (L : List (List UInt8)) (x : List UInt8) (w : World) (h : Doc w rb v most L) (hL : L.length ≤ 1048576) :
    Calls Try.prog 26 #[.pointer (some ⟨rb, 0, none⟩), .string ⟨x.toArray⟩] w fun e w' => e = .returned (.tuple #[numV (idx L x), .bool (idx L x).isSome]) ∧ w' = w := by
  have c0 := h.c0
  obtain ⟨ao, cap, hv⟩ := h.lst.form
  rw [hv] at c0
  have kh := hid h
  clear h
  go_enter Try.func26, Try.ntmps26
  go_wp2_with fail
  go_loopw [6] (fun t wr => ∃ k : Nat, k ≤ L.length ∧ t = .int .i64 (k : Int) ∧ Hid (x ∉ L.take k) ∧ wr = w) (fun t _ => L.length - (intOf t).toNat)
  case atStart => exact ⟨0, Nat.zero_le _, rfl, by show x ∉ L.take 0; simp, by trivial⟩
  case round =>
    obtain ⟨k, hk, rfl, hx, hw⟩ := hrel
    obtain rfl := hw.symm
    by_cases hlt : k < L.length
    · obtain ⟨g, cap2, hv2, ci⟩ := kh.out.lst.nth hlt
      rw [hv] at hv2
      simp only [Value.slice.injEq, true_and] at hv2
      obtain ⟨rfl, rfl⟩ := hv2
      have hk' : (k : Int) < (L.length : Int) := by omega
      by_cases e : L[k] = x
      · have hi := hid (idx_first hlt e hx.out)
        rw [e] at ci
        have hbe : (x == x) = true := by simp
        go_wp2_with fail
        go_ret2
        exact ⟨by rw [hi.out]; rfl, rfl⟩
      · have hbe : (L[k] == x) = false := by simpa using e
        have hx2 : Hid (x ∉ L.take (k + 1)) := by
          show x ∉ L.take (k + 1)
          rw [List.take_succ_eq_append_getElem hlt]
          simp only [List.mem_append, List.mem_singleton]
          rintro (h | h)
          · exact hx.out h
          · exact e h.symm
        generalize L[k] = y at *
        go_wp2_with fail
        go_roundw
        case rel => exact ⟨k + 1, by omega, by go_num, hx2, by trivial⟩
        case measure => simp [intOf]; omega
    · have hi : Hid (idx L x = none) := by
        have := hx.out
        rw [List.take_of_length_le (by omega)] at this
        show idx L x = none
        unfold idx
        rw [if_neg this]
      go_wp2_with fail
      go_ret2
      exact ⟨by rw [hi.out]; rfl, rfl⟩

set_option maxRecDepth 100000 in
theorem dprefix_any (y x : List UInt8) (w : World) (hx : x.length ≤ 9223372036854775807) :
    Calls Try.prog 64 #[.string ⟨y.toArray⟩, .string ⟨x.toArray⟩] w fun e w' => e = .returned (.bool (Lib.hasPrefix y x)) ∧ w' = w := by
  obtain ⟨sy, hsy⟩ : ∃ s : ByteArray, (⟨y.toArray⟩ : ByteArray) = s := ⟨_, rfl⟩
  have hzy : sy.size = y.length := by rw [← hsy]; simp [ByteArray.size]
  obtain ⟨sx, hsx⟩ : ∃ s : ByteArray, (⟨x.toArray⟩ : ByteArray) = s := ⟨_, rfl⟩
  have hzx : sx.size = x.length := by rw [← hsx]; simp [ByteArray.size]
  have htx : sx.toList = x := by rw [← hsx]; exact ByteArray.toList_mk x
  by_cases hl : x.length ≤ y.length
  · have it : ∀ X, (Instr.slice 9 (.string sy) none (some (.int .i64 (x.length : Int))) none).run Try.prog X = .ok (.string ⟨(y.take x.length).toArray⟩) X := fun X => by
      have hz : (⟨y.toArray⟩ : ByteArray).size = y.length := by simp [ByteArray.size]
      rw [← hsy, run_slice_string_to_if _ _ _ _ _ Try.underlying9, if_pos ⟨by omega, by rw [hz]; omega⟩, ByteArray.extract_mk]
      simp
    have he : Hid ((y.take x.length == x) = Lib.hasPrefix y x) := by
      show (y.take x.length == x) = Lib.hasPrefix y x
      unfold Lib.hasPrefix
      rw [Bool.eq_iff_iff, beq_iff_eq, List.isPrefixOf_iff_prefix, List.prefix_iff_eq_take]
      exact eq_comm
    rw [hsy, hsx]
    clear hsy hsx
    generalize y.length = ny at *
    generalize x.length = nx at *
    go_enter Try.func64, Try.ntmps64
    go_wp2
    go_ret
    exact ⟨by rw [← he.out]; rfl, rfl⟩
  · have he : Hid (Lib.hasPrefix y x = false) := by
      show Lib.hasPrefix y x = false
      rw [← Bool.not_eq_true]
      unfold Lib.hasPrefix
      rw [List.isPrefixOf_iff_prefix]
      exact fun h => hl h.length_le
    rw [hsy, hsx]
    clear hsy hsx htx
    generalize y.length = ny at *
    generalize x.length = nx at *
    go_enter Try.func64, Try.ntmps64
    go_wp2
    go_ret
    exact ⟨by rw [he.out]; rfl, rfl⟩
end Go.Proofs.Ytjkgijfddgppjaa
