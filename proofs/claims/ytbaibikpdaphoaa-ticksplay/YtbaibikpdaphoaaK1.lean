/- Two lists that are the same; three numbers, of which two are due. -/
import Derived.Test.YtbaibikpdaphoaaD5
import Derived.BigQuiet
namespace Go.Proofs.Ytbaibikpdaphoaa
open Go.RowKit Go.Lib Go.Maps

/-- Cells that hold these dues. -/
def DueC (w : World) (ao : Option Addr) (L : List Due) : Prop := ∀ i, i < L.length → ∃ g, ∃ o : Nat, ao = some ⟨g, o, none⟩ ∧ w.cell? ⟨g, o + 2 * i, none⟩ = some (.int .i64 (at' L i).1) ∧ w.cell? ⟨g, o + 2 * i + 1, none⟩ = some (.int .i64 (at' L i).2)

theorem DueC.old {w w' : World} {ao : Option Addr} {L : List Due} (h : DueC w ao L) (hf : Old w w') : DueC w' ao L := by
  intro i hi
  obtain ⟨g, o, h1, h2, h3⟩ := h i hi
  exact ⟨g, o, h1, hf.cell h2, hf.cell h3⟩

theorem DueC.frm {w w' : World} {g o : Nat} {L : List Due} {S : Nat → Prop} (h : DueC w (some ⟨g, o, none⟩) L) (hf : Frm S w w') (hS : ¬ S g) : DueC w' (some ⟨g, o, none⟩) L := by
  intro i hi
  obtain ⟨g', o', h1, h2, h3⟩ := h i hi
  simp only [Option.some.injEq, Addr.mk.injEq, and_true] at h1
  obtain ⟨rfl, rfl⟩ := h1
  exact ⟨g, o, rfl, frm_cell hf h2 hS, frm_cell hf h3 hS⟩

theorem Row.dues {w : World} {hb cap : Nat} {L : List Due} (h : Row w hb cap L) : DueC w (some ⟨hb, 0, none⟩) L := by
  intro i hi
  obtain ⟨h1, h2⟩ := h.cell hi
  exact ⟨hb, 0, rfl, by rw [Nat.zero_add]; exact h1, by rw [Nat.zero_add]; exact h2⟩

theorem dues_of_owns {w : World} {B n : Nat} {v : Value} {L : List Due} (h : w.ownsRow B 26 2 v n (flatD L)) : ∃ ao cap, v = .slice ao L.length cap ∧ n = L.length ∧ DueC w ao L ∧ (∀ a, ao = some a → ∃ g, a = ⟨g, 0, none⟩ ∧ B ≤ g ∧ g < w.heap.size) := by
  have h0 := h
  obtain ⟨h1, h2⟩ := h
  rw [flatD_length] at h1
  rcases h2 with ⟨rfl, h3⟩ | ⟨g, cap, arr, rfl, hb, hg, h4, h5, h6, h7⟩
  · have hM : L = [] := List.eq_nil_of_length_eq_zero (by omega)
    subst hM
    exact ⟨none, 0, rfl, h3, fun i hi => by simp at hi, fun a ha => by cases ha⟩
  · obtain ⟨r1, r2, _⟩ := row_of_owns h0
    exact ⟨some ⟨g, 0, none⟩, cap, by rw [r2], r2, r1.dues, fun a ha => ⟨g, (Option.some.inj ha).symm, hb, (Array.getElem?_eq_some_iff.1 hg).1⟩⟩

set_option maxRecDepth 100000 in
set_option maxHeartbeats 1000000 in
theorem same_any (ao bo : Option Addr) (ca cb : Nat) (L : List Due) (w : World) (ha : DueC w ao L) (hb : DueC w bo L) (hl : L.length ≤ 1000000000) :
    Calls Try.prog 12 #[.slice ao L.length ca, .slice bo L.length cb] w fun e w' => e = .returned (.bool true) ∧ ∃ n, w' = w.drewN n := by
  go_enter Try.func12, Try.ntmps12
  go_wp2_with fail
  go_loopw [5] (fun s wr => ∃ k : Nat, k ≤ L.length ∧ s = .int .i64 (k : Int) ∧ ∃ n, wr = w.drewN n) (fun s _ => L.length - (intOf s).toNat)
  case atStart => exact ⟨0, Nat.zero_le _, rfl, 0, rfl⟩
  case round =>
    obtain ⟨k, hk, rfl, n, rfl⟩ := hrel
    by_cases hlt : k < L.length
    · obtain ⟨g, o, hao, hc, hc'⟩ := ha k hlt
      obtain ⟨g2, o2, hbo, hd, hd'⟩ := hb k hlt
      subst hao hbo
      obtain ⟨y, hy⟩ : ∃ y, at' L k = y := ⟨_, rfl⟩
      obtain ⟨y0, y1⟩ := y
      rw [hy] at hc hc' hd hd'
      have e2 : k * 2 = 2 * k := by omega
      clear hy
      go_wp2_with fail
      go_quiet (fail)
      go_wp2
      go_roundw
      case rel => exact ⟨k + 1, by omega, by go_num, _, rfl⟩
      case measure => simp [intOf]; omega
    · obtain rfl : k = L.length := by omega
      go_wp2_with fail
      go_ret
      exact ⟨rfl, _, rfl⟩
end Go.Proofs.Ytbaibikpdaphoaa
