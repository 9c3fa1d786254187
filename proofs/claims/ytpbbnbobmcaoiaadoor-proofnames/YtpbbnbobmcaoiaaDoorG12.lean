/- Rows of offers of one's own; the offers' sets, walked. -/
import Derived.Test.YtpbbnbobmcaoiaaDoorG11
import Derived.Laws.MakeOwn
namespace Go.Proofs.YtpbbnbobmcaoiaaDoor
open Go.RowKit

theorem made_ints (k : IntKind) (n : Nat) : madeCells (Value.int k 0).cells n = Array.replicate n (Value.int k 0) := by
  unfold madeCells
  apply Array.ext
  · simp
  · intro i h1 h2
    simp [Value.cells, Nat.mod_one]

theorem info_g : (Tryd.prog.info? 45).map (fun i => (i.zero, i.bytes, i.size)) = some (some (.int .u32 0), 4, 1) := by kernel_rfl
theorem make_g (n : Nat) (hn : n ≤ 1048576) (w : World) : (Instr.makeSlice 61 (.int .i64 (n : Int)) (.int .i64 (n : Int))).run Tryd.prog w = .ok (.slice (some ⟨w.heap.size, 0, none⟩) n n) (w.alloc (.cells (Array.replicate n (Value.int .u32 0)) 45)) := by
  obtain ⟨i, hi, h2⟩ := Option.map_eq_some_iff.1 info_g
  simp only [Prod.mk.injEq] at h2
  obtain ⟨hz, hb, hs⟩ := h2
  have h := run_make (P := Tryd.prog) w 61 45 i (.int .u32 0) Tryd.underlying61 hi hz .i64 .i64 n n (by omega) (by omega) (by rw [hb]; omega) (by omega)
  rw [h, hs]
  simp only [Int.toNat_natCast, Nat.mul_one, made_ints]

theorem info_o : (Tryd.prog.info? 66).map (fun i => (i.zero, i.bytes, i.size)) = some (some (.agg #[.int .u32 0, .int .i64 0]), 16, 2) := by kernel_rfl
theorem make_o (n : Nat) (hn : n ≤ 1048576) (w : World) : (Instr.makeSlice 67 (.int .i64 (n : Int)) (.int .i64 (n : Int))).run Tryd.prog w = .ok (.slice (some ⟨w.heap.size, 0, none⟩) n n) (w.alloc (.cells (madeCells (Value.agg #[.int .u32 0, .int .i64 0]).cells (n * 2)) 66)) := by
  obtain ⟨i, hi, h2⟩ := Option.map_eq_some_iff.1 info_o
  simp only [Prod.mk.injEq] at h2
  obtain ⟨hz, hb, hs⟩ := h2
  have h := run_make (P := Tryd.prog) w 67 66 i (.agg #[.int .u32 0, .int .i64 0]) Tryd.underlying67 hi hz .i64 .i64 n n (by omega) (by omega) (by rw [hb]; omega) (by omega)
  rw [h, hs]
  simp only [Int.toNat_natCast]

/-- A row of offers of one's own. -/
structure OwnO (w : World) (b : Nat) (L : List Off) : Prop where
  cell : ∀ i (h : i < L.length), w.cell? ⟨b, i * 2, none⟩ = some (.int .u32 (L[i].1 : Int)) ∧ w.cell? ⟨b, i * 2 + 1, none⟩ = some (.int .i64 L[i].2)
  fz : ∀ j, w.frozen? ⟨b, j, none⟩ = false
  lt : b < w.heap.size

theorem OwnO.off {w : World} {b : Nat} {L : List Off} (h : OwnO w b L) : OffC w (some ⟨b, 0, none⟩) L := fun i hi => ⟨b, 0, rfl, by rw [Nat.zero_add]; exact (h.cell i hi).1, by rw [Nat.zero_add]; exact (h.cell i hi).2⟩

theorem OwnO.old {w w' : World} {b : Nat} {L : List Off} (h : OwnO w b L) (o : Old w w') : OwnO w' b L :=
  ⟨fun i hi => ⟨o.cell (h.cell i hi).1, o.cell (h.cell i hi).2⟩, fun j => frm_frozen o h.lt (h.fz j) (fun h => h), Nat.lt_of_lt_of_le h.lt o.size⟩

theorem OwnO.made (w : World) (n : Nat) : OwnO (w.alloc (.cells (madeCells (Value.agg #[.int .u32 0, .int .i64 0]).cells (n * 2)) 66)) w.heap.size (List.replicate n (0, 0)) := by
  have hb := heap_new w (.cells (madeCells (Value.agg #[.int .u32 0, .int .i64 0]).cells (n * 2)) 66)
  refine ⟨fun i hi => ?_, fun j => blk_fz hb j, by simp⟩
  have hi' : i < n := by simpa using hi
  have h1 : i * 2 < n * 2 := by omega
  have h2 : i * 2 + 1 < n * 2 := by omega
  refine ⟨blk_cells hb ?_, blk_cells hb ?_⟩
  · unfold madeCells
    simp [Value.cells, h1]
  · have h3 : (i * 2 + 1) % 2 = 1 := by omega
    unfold madeCells
    simp [Value.cells, h2, h3]

theorem OwnO.set {w : World} {b i : Nat} {L : List Off} (h : OwnO w b L) (x : Off) : OwnO ((w.setCell ⟨b, i * 2, none⟩ (.int .u32 (x.1 : Int))).setCell ⟨b, i * 2 + 1, none⟩ (.int .i64 x.2)) b (L.set i x) := by
  refine ⟨fun j hj => ?_, fun j => set_fz (set_fz h.fz) j, by simp [World.setCell]; exact h.lt⟩
  have hj' : j < L.length := by simpa using hj
  obtain ⟨c1, c2⟩ := h.cell j hj'
  rw [List.getElem_set]
  by_cases e : i = j
  · subst e
    rw [if_pos rfl]
    exact ⟨set_oth (set_same c1) (by omega), set_same (set_oth c2 (by omega))⟩
  · rw [if_neg e]
    exact ⟨set_oth (set_oth c1 (by omega)) (by omega), set_oth (set_oth c2 (by omega)) (by omega)⟩

def gsets (L : List Off) : List Nat := L.map (fun x => x.1)

set_option maxRecDepth 100000 in
set_option maxHeartbeats 2000000 in
theorem setsOf_any (ao : Option Addr) (cap : Nat) (L : List Off) (w : World) (h : OffC w ao L) (hl : L.length ≤ 1048576) :
    Calls Tryd.prog 78 #[.slice ao L.length cap] w fun e w' => ∃ b, e = .returned (.slice (some ⟨b, 0, none⟩) L.length L.length) ∧ Own .u32 45 w' b (nums (gsets L)) ∧ w.heap.size ≤ b ∧ Old w w' := by
  have hm := make_g L.length hl
  have o1 : Old w (w.alloc (.cells (Array.replicate L.length (Value.int .u32 0)) 45)) := (Old.refl w).alloc _
  have b1 : Own .u32 45 (w.alloc (.cells (Array.replicate L.length (Value.int .u32 0)) 45)) w.heap.size (List.replicate L.length 0) := ⟨by rw [heap_new]; simp⟩
  have hz1 : (w.alloc (.cells (Array.replicate L.length (Value.int .u32 0)) 45)).heap.size = w.heap.size + 1 := alloc_size ..
  go_enter Tryd.func78, Tryd.ntmps78
  go_wp2_with fail
  have h1 := h.old o1
  generalize w.alloc (.cells (Array.replicate L.length (Value.int .u32 0)) 45) = w1 at *
  obtain ⟨s, hs⟩ : ∃ s, w.heap.size = s := ⟨_, rfl⟩
  have ks := hid hs
  have ko := hid o1
  have kh := hid h1
  rw [hs] at b1 hz1 ⊢
  clear hs o1 h1 hm
  go_loopw [11] (fun t wr => ∃ k : Nat, k ≤ L.length ∧ t = .int .i64 (k : Int) ∧ Own .u32 45 wr s ((nums (gsets L)).take k ++ List.replicate (L.length - k) 0) ∧ Frm (fun q => q = s) w1 wr) (fun t _ => L.length - (intOf t).toNat)
  case atStart => exact ⟨0, Nat.zero_le _, rfl, by simpa using b1, Frm.refl _ _⟩
  case round =>
    obtain ⟨k, hk, rfl, hO, hF⟩ := hrel
    by_cases hlt : k < L.length
    · obtain ⟨g, o, rfl, d1, d2⟩ := kh.out k hlt
      have hgs : g ≠ s := by
        obtain ⟨g', o', e, d1', _⟩ := h k hlt
        simp only [Option.some.injEq, Addr.mk.injEq, and_true] at e
        obtain ⟨rfl, rfl⟩ := e
        have := World.block_lt_of_cell? w _ d1'
        have := ks.out
        simp only at *
        omega
      have e1 := frm_cell hF d1 hgs
      have e2 := frm_cell hF d2 hgs
      have hk' : (k : Int) < (L.length : Int) := by omega
      have hlen : ((nums (gsets L)).take k ++ List.replicate (L.length - k) 0).length = L.length := by simp [nums, gsets]; omega
      obtain ⟨cs, fs⟩ := hO.cell (i := k) (by omega)
      have kset : Hid (((nums (gsets L)).take k ++ List.replicate (L.length - k) 0).set k (L[k].1 : Int) = (nums (gsets L)).take (k + 1) ++ List.replicate (L.length - (k + 1)) 0) := by
        show _ = _
        have hl2 : (nums (gsets L)).length = L.length := by simp [nums, gsets]
        apply List.ext_getElem
        · simp [nums, gsets]; omega
        · intro i h3 h4
          have hi : i < L.length := by simp [nums, gsets] at h3; omega
          rw [List.getElem_set, List.getElem_append, List.getElem_append]
          by_cases e : k = i
          · subst e
            rw [if_pos rfl, dif_pos (by simp [nums, gsets]; omega)]
            simp [nums, gsets]
          · rw [if_neg e]
            by_cases hik : i < k
            · rw [dif_pos (by simp [nums, gsets]; omega), dif_pos (by simp [nums, gsets]; omega)]
              simp
            · rw [dif_neg (by simp [nums, gsets]; omega), dif_neg (by simp [nums, gsets]; omega)]
              simp
      obtain ⟨x, hxe⟩ : ∃ x, L[k] = x := ⟨_, rfl⟩
      rw [hxe] at e1 e2 kset
      obtain ⟨xg, xc⟩ := x
      dsimp only at e1 e2 kset
      have oA : Old wr (wr.alloc (.cells #[.int .u32 (xg : Int), .int .i64 xc] 66)) := (Old.refl wr).alloc _
      have n0 := new_cell wr #[.int .u32 (xg : Int), .int .i64 xc] 66 0 _ rfl
      have cs2 := oA.cell cs
      have fs2 := frm_frozen oA hO.lt fs (fun h => h)
      have kO2 := hid (hO.kept oA (fun h => h))
      have kF2 := hid (hF.alloc (.cells #[.int .u32 (xg : Int), .int .i64 xc] 66))
      clear hxe d1 d2 hO hF cs fs oA
      go_wp2_with fail
      go_roundw
      case rel => exact ⟨k + 1, by omega, by go_num, by rw [← kset.out]; exact kO2.out.set k _, Frm.setCell kF2.out ⟨s, _, none⟩ (Or.inr rfl) _⟩
      case measure => simp [intOf]; omega
    · obtain rfl : k = L.length := by omega
      have hO2 : Own .u32 45 wr s (nums (gsets L)) := by
        rw [Nat.sub_self, List.replicate_zero, List.append_nil, List.take_of_length_le (by simp [nums, gsets])] at hO
        exact hO
      have kO2 := hid hO2
      clear hO hO2
      go_wp2_with fail
      go_ret
      exact ⟨s, rfl, kO2.out, Nat.le_of_eq ks.out, Frm.trans ko.out hF (fun i hi e => by have := ks.out; omega)⟩
end Go.Proofs.YtpbbnbobmcaoiaaDoor
