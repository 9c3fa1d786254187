/- The forms that the document names: the writer and the reader side by side. -/
import Derived.Test.YtchjkcghaddmhaaR5
namespace Go.Proofs.Ytchjkcghaddmhaa
open Go.RowKit

/-- A writer and a reader side by side in a world that grew out of w. -/
structure KSt (w W : World) (b : Nat) (r : Option Nat) (xs : List UInt8) (rb : Nat) (v : Value) (ys : List UInt8) (p : Nat) : Prop where
  wr : Wr W b r xs
  rd : Rd W rb v ys p
  frm : Frm (fun _ => False) w W
  b_ge : w.heap.size ≤ b
  rb_ge : w.heap.size ≤ rb
  ne1 : rb ≠ b
  ne2 : r ≠ some rb
  ne3 : v.ownBlock ≠ some b
  ne4 : ∀ g, v.ownBlock = some g → r ≠ some g

theorem KSt.write {w W W' : World} {b : Nat} {r : Option Nat} {xs zs : List UInt8} {rb : Nat} {v : Value} {ys : List UInt8} {p : Nat} (h : KSt w W b r xs rb v ys p) (ho : WrOut W b r zs W') :
    ∃ r', KSt w W' b r' zs rb v ys p := by
  obtain ⟨r', h1, h2, h3⟩ := ho
  have hb := h.b_ge
  have hrow := h.wr.row
  refine ⟨r', h1, h.rd.kept h2 ?_ ?_, h.frm.trans h2 ?_, h.b_ge, h.rb_ge, h.ne1, ?_, h.ne3, ?_⟩
  · intro hS
    rcases hS with hS | hS
    · exact h.ne1 hS
    · exact h.ne2 hS.symm
  · intro g hg hS
    rcases hS with hS | hS
    · exact h.ne3 (by rw [hg, hS])
    · exact h.ne4 g hg hS.symm
  · intro i hi hS
    rcases hS with hS | hS
    · omega
    · have := hrow i hS.symm; omega
  · rcases h3 with h3 | ⟨g, h3, hg⟩
    · rw [h3]; exact h.ne2
    · intro e; rw [h3] at e; have := h.rd.lt; simp at e; omega
  · intro g hg
    rcases h3 with h3 | ⟨g', h3, hg'⟩
    · rw [h3]; exact h.ne4 g hg
    · intro e; rw [h3] at e; have := (h.rd.row.2.lt g hg).2; simp at e; omega

theorem KSt.read {w W W' : World} {b : Nat} {r : Option Nat} {xs : List UInt8} {rb : Nat} {v : Value} {ys : List UInt8} {p q : Nat} (h : KSt w W b r xs rb v ys p) (ho : RdOut W rb v ys q W') :
    KSt w W' b r xs rb v ys q :=
  ⟨h.wr.kept ho.2 (fun e => h.ne1 e.symm) (fun g hg e => h.ne2 (by rw [hg, e])), ho.1, h.frm.trans ho.2 (fun i hi e => by have := h.rb_ge; omega), h.b_ge, h.rb_ge, h.ne1, h.ne2, h.ne3, h.ne4⟩

theorem KSt.grow {w W W' : World} {b : Nat} {r : Option Nat} {xs : List UInt8} {rb : Nat} {v : Value} {ys : List UInt8} {p : Nat} (h : KSt w W b r xs rb v ys p) (hf : Frm (fun _ => False) W W') :
    KSt w W' b r xs rb v ys p :=
  ⟨h.wr.kept hf (fun e => e) (fun _ _ e => e), h.rd.kept hf (fun e => e) (fun _ _ e => e), h.frm.trans hf (fun _ _ e => e), h.b_ge, h.rb_ge, h.ne1, h.ne2, h.ne3, h.ne4⟩

/-- A new writer. -/
def NewWr (w : World) (e : Ending) (w' : World) : Prop :=
  ∃ b, e = .returned (.pointer (some ⟨b, 0, none⟩)) ∧ Wr w' b none [] ∧ Frm (fun _ => False) w w' ∧ w.heap.size ≤ b

theorem newWriter_new (w : World) : Calls Try.prog 9 #[] w fun e w' => NewWr w e w' := by
  refine (newWriter_any w).mono ?_
  rintro e w' ⟨rfl, rfl⟩
  exact ⟨_, rfl, wr_new w, (Frm.refl _ _).alloc _, Nat.le_refl _⟩

/-- A new block that holds just these bytes. -/
theorem row_lit (W : World) (xs : List UInt8) (C : Array Value) (hC : C = (xs.map byteV).toArray) (hlen : xs.length ≤ 1000) :
    Row (W.alloc (.cells C 5)) 0 (.slice (some ⟨W.heap.size, 0, none⟩) xs.length xs.length) (some W.heap.size) xs := by
  subst hC
  refine ⟨rfl, by simp, .inr ⟨W.heap.size, xs.length, _, rfl, Nat.zero_le _, heap_alloc_new W _, Nat.le_refl _, by unfold maxLen; omega, by simp, by simp [List.take_of_length_le]⟩⟩

/-- The bytes that known reads. -/
def kBytes : List UInt8 := [249, 1, 0, 2, 3, 248, 5, 9]

theorem kst_new {w W W1 W2 : World} {b rb : Nat} {v : Value} {ys : List UInt8} (h1 : Wr W b none []) (h2 : Frm (fun _ => False) w W) (h3 : w.heap.size ≤ b) (h4 : Frm (fun _ => False) W W1)
    (h5 : Rd W2 rb v ys 0) (h6 : Frm (fun _ => False) W1 W2) (h7 : W1.heap.size ≤ rb) (h8 : ∀ g, v.ownBlock = some g → W1.heap.size ≤ g) : KSt w W2 b none [] rb v ys 0 := by
  have hb := h1.lt
  have hs := h4.size
  have hs2 := h2.size
  have h46 := h4.trans h6 (fun _ _ e => e)
  refine ⟨h1.kept h46 (fun e => e) (fun _ _ e => e), h5, h2.trans h46 (fun _ _ e => e), h3, by omega, by omega, by simp, ?_, by simp⟩
  intro e
  have := h8 _ e
  omega

theorem nums_new (W : World) (L : List Nat) (C : Array Value) (S : Nat → Prop) (hC : C = (L.map (fun x : Nat => Value.int .u64 (x : Int))).toArray) (hS : ¬ S W.heap.size) :
    Nums (W.alloc (.cells C 32)) (some ⟨W.heap.size, 0, none⟩) L S := by
  subst hC
  intro i hi
  refine ⟨W.heap.size, 0, rfl, by simp, hS, ?_⟩
  rw [World.cell?_alloc_mark]
  simp [hi]

theorem kst_out {w W : World} {b : Nat} {r : Option Nat} {xs : List UInt8} {rb : Nat} {v : Value} {ys : List UInt8} {p : Nat} (h : KSt w W b r xs rb v ys p) : ¬ WrS b r W.heap.size := by
  intro hS
  rcases hS with hS | hS
  · have := h.wr.lt; omega
  · have := h.wr.row _ hS.symm; omega

/-- The bytes that known writes. -/
def kWant : List UInt8 := [248, 255, 1, 1, 2, 97, 98, 2, 3, 4, 63, 240, 0, 0, 0, 0, 0, 0]

/-- Before the last statement of known. -/
structure KF (w W : World) (b : Nat) (r : Option Nat) (rb : Nat) (v : Value) (wb : Nat) : Prop where
  k : KSt w W b r kWant rb v kBytes 3
  want : W.heap[wb]? = some (.cells (kWant.map byteV).toArray 5 (0, 0))

theorem KF.grow {w W W' : World} {b : Nat} {r : Option Nat} {rb : Nat} {v : Value} {wb : Nat} (hf : Frm (fun _ => False) W W') (h : KF w W b r rb v wb) : KF w W' b r rb v wb :=
  ⟨h.k.grow hf, by rw [hf.block wb (Array.getElem?_eq_some_iff.1 h.want).1 (fun e => e)]; exact h.want⟩

/-- 'string(b)' of bytes that are owned. -/
theorem conv_row {w : World} {base : Nat} {ao : Option Addr} {cap : Nat} {r : Option Nat} {xs : List UInt8} (h : Row w base (.slice ao xs.length cap) r xs) :
    (convert 25 9 (.slice ao xs.length cap)).run Try.prog w = .ok (.string ⟨xs.toArray⟩) w := by
  rcases h.2.2 with ⟨h1, h2⟩ | ⟨g, cap', cur, h1, _⟩
  · obtain rfl : xs = [] := List.eq_nil_of_length_eq_zero h2
    simp only [Value.slice.injEq] at h1
    obtain ⟨rfl, _, rfl⟩ := h1
    rw [run_convert_bytes_string w 25 9 5 none _ _ Try.underlying25 Try.underlying5 Try.underlying9]
    rfl
  · simp only [Value.slice.injEq] at h1
    obtain ⟨rfl, _, rfl⟩ := h1
    refine run_convert_bytes_back w 25 9 5 ⟨g, 0, none⟩ cap xs Try.underlying25 Try.underlying5 Try.underlying9 ?_
    intro j hj
    have := h.2.cells (g := g) rfl j (byteV xs[j]) (by simp [hj])
    exact this

theorem kf_conv {w W : World} {b : Nat} {r : Option Nat} {rb : Nat} {v : Value} {wb : Nat} (h : KF w W b r rb v wb) :
    (convert 25 9 (.slice (some ⟨wb, 0, none⟩) 18 18)).run Try.prog W = .ok (.string ⟨kWant.toArray⟩) W := by
  refine conv_row (base := 0) (r := some wb) (xs := kWant) ⟨rfl, by decide, .inr ⟨wb, 18, _, rfl, Nat.zero_le _, h.want, by decide, by decide, by decide, by rfl⟩⟩

theorem kf_len {w W : World} {b : Nat} {r : Option Nat} {rb : Nat} {v : Value} {wb : Nat} (h : KF w W b r rb v wb) :
    Calls Try.prog 12 #[.pointer (some ⟨b, 0, none⟩)] W fun e w' => e = .returned (.int .i64 18) ∧ w' = W := wlen_any b r kWant W h.k.wr

theorem kf_place {w W : World} {b : Nat} {r : Option Nat} {rb : Nat} {v : Value} {wb : Nat} (h : KF w W b r rb v wb) :
    Calls Try.prog 18 #[.pointer (some ⟨rb, 0, none⟩)] W fun e w' => e = .returned (.int .i64 3) ∧ w' = W := rplace_any rb v kBytes 3 W h.k.rd

theorem kf_end {w W : World} {b : Nat} {r : Option Nat} {rb : Nat} {v : Value} {wb : Nat} (h : KF w W b r rb v wb) :
    Calls Try.prog 23 #[.pointer (some ⟨rb, 0, none⟩)] W fun e w' => e = .returned (.int .i64 112) ∧ KF w w' b r rb v wb := by
  refine (rend_any rb v kBytes 3 W h.k.rd (by decide)).mono ?_
  rintro e w' ⟨rfl, n, rfl⟩
  exact ⟨by rw [if_pos (by decide)], h.grow ((Frm.refl _ W).drewN n)⟩

theorem kf_size (W : World) : Calls Try.prog 25 #[.int .u64 248] W fun e w' => e = .returned (.int .i64 2) ∧ w' = W := by
  refine (size_any 248 W (by omega) (by omega)).mono ?_
  rintro e w' ⟨rfl, rfl⟩
  exact ⟨ret_i (by decide), rfl⟩

theorem kf_unfold (W : World) : Calls Try.prog 29 #[.int .u64 3] W fun e w' => e = .returned (.int .i64 (-2)) ∧ w' = W := by
  refine (unfold_any 3 W (by omega) (by omega)).mono ?_
  rintro e w' ⟨rfl, rfl⟩
  exact ⟨ret_i (by decide), rfl⟩

theorem kf_bytes {w W : World} {b : Nat} {r : Option Nat} {rb : Nat} {v : Value} {wb : Nat} (h : KF w W b r rb v wb) :
    Calls Try.prog 13 #[.pointer (some ⟨b, 0, none⟩)] W fun e w' => ∃ ao cap, e = .returned (.slice ao kWant.length cap) ∧ (convert 25 9 (.slice ao kWant.length cap)).run Try.prog w' = .ok (.string ⟨kWant.toArray⟩) w' ∧ KF w w' b r rb v wb := by
  refine (wbytes_any b r kWant W h.k.wr (by decide)).mono ?_
  rintro e w' ⟨v', rfl, hrow, hf⟩
  obtain ⟨ao, cap, rfl⟩ := slice_of_owns hrow.2
  exact ⟨ao, cap, rfl, conv_row hrow, h.grow hf⟩

end Go.Proofs.Ytchjkcghaddmhaa
