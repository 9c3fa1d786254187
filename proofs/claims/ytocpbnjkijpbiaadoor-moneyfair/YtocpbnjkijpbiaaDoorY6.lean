/- What is promised of shares, as the walk wants it. -/
import Derived.Test.YtocpbnjkijpbiaaDoorY5
namespace Go.Proofs.YtocpbnjkijpbiaaDoor
open Go.RowKit Go.Lib

/-- Weights and shares, place by place, and their sums. -/
structure FairF (c : Int) (n : Nat) (X V SX SV : Nat → Int) : Prop where
  x : ∀ i, i < n → 0 ≤ X i ∧ X i ≤ 1099511627776
  v : ∀ i, i < n → 0 ≤ V i ∧ V i ≤ c
  ord : ∀ i k, i < n → k < n → X k < X i → V k ≤ V i
  sx0 : SX 0 = 0
  sx : ∀ k, k < n → SX (k + 1) = SX k + X k
  sxb : ∀ k, k ≤ n → 0 ≤ SX k ∧ SX k ≤ 1099511627776 * k
  sv0 : SV 0 = 0
  sv : ∀ k, k < n → SV (k + 1) = SV k + V k
  svb : ∀ k, k ≤ n → 0 ≤ SV k ∧ SV k ≤ c
  all : SV n = c
  within : ∀ i, i < n → V i * SX n < c * X i + SX n ∧ c * X i < V i * SX n + SX n

/-- Cells that hold these numbers. -/
def Reads (w : World) (ao : Option Addr) (n : Nat) (X : Nat → Int) : Prop := ∀ i, i < n → ∃ g o, ao = some ⟨g, o, none⟩ ∧ w.cell? ⟨g, o + i, none⟩ = some (.int .i64 (X i))

theorem reads_of {w : World} {ao : Option Addr} {L : List Int} (h : NumsC .i64 w ao L) : Reads w ao L.length (fun i => L.getD i 0) := by
  intro i hi
  obtain ⟨g, o, h1, h2⟩ := h i hi
  exact ⟨g, o, h1, by rw [h2]; simp [List.getD_eq_getElem?_getD, hi]⟩

theorem fairF_of {c : Int} {L out : List Int} (hok : shareOk c L) (hS : ShareR c L out) : FairF c L.length (fun i => L.getD i 0) (fun i => out.getD i 0) (fun k => (L.take k).sum) (fun k => (out.take k).sum) := by
  have hlen := hS.len
  have gx : ∀ i (hi : i < L.length), L.getD i 0 = L[i] := fun i hi => by simp [List.getD_eq_getElem?_getD, hi]
  have gv : ∀ i (hi : i < out.length), out.getD i 0 = out[i] := fun i hi => by simp [List.getD_eq_getElem?_getD, hi]
  refine ⟨?_, ?_, ?_, rfl, ?_, ?_, rfl, ?_, ?_, ?_, ?_⟩
  · intro i hi
    simp only [gx i hi]
    exact areB_get hok.2.2.1 i hi
  · intro i hi
    simp only [gv i (by omega)]
    exact ⟨hS.nonneg hok i (by omega), hS.le hok i (by omega)⟩
  · intro i k hi hk h
    simp only [gx i hi, gx k hk] at h
    simp only [gv i (by omega), gv k (by omega)]
    exact hS.order hok i k hi hk h (by omega) (by omega)
  · intro k hk
    simp only [gx k hk]
    exact sum_take_succ hk
  · intro k hk
    exact sum_bounds hok.2.2.1 k hk
  · intro k hk
    simp only [gv k (by omega)]
    exact sum_take_succ (by omega)
  · intro k hk
    exact hS.prefix hok k (by omega)
  · show (out.take L.length).sum = c
    rw [← hlen, List.take_length]
    exact hS.sum hok
  · intro i hi
    simp only [gx i hi, gv i (by omega), List.take_length]
    exact hS.within hok i hi (by omega)

theorem mul_small {a b : Int} (ha0 : 0 ≤ a) (ha : a < 1000000) (hb0 : 0 ≤ b) (hb : b < 1000000) : 0 ≤ a * b ∧ a * b ≤ 1000000000000 := by
  refine ⟨Int.mul_nonneg ha0 hb0, ?_⟩
  have h1 : a * b ≤ a * 1000000 := Int.mul_le_mul_of_nonneg_left (by omega) ha0
  omega

/-- The weights times f, cell by cell. -/
theorem mulL_snoc {f : Int} {L : List Int} {k : Nat} (h : k < L.length) : (mulL f L).take (k + 1) = (mulL f L).take k ++ [f * L.getD k 0] := by
  rw [List.take_succ_eq_append_getElem (by rw [mulL_len]; exact h)]
  simp [mulL, List.getD_eq_getElem?_getD, h]

theorem info2 : (Tryd.prog.info? 2).map (fun i => (i.zero, i.size, i.bytes)) = some (some (.int .i64 0), 1, 8) := by kernel_rfl

/-- A slice that append has made, as numbers. -/
theorem nums_of_owns {w : World} {base : Nat} {v : Value} {n : Nat} {M : List Int} (h : w.ownsRow base 2 1 v n (M.map (Value.int .i64))) : ∃ ao cap, v = .slice ao n cap ∧ n = M.length ∧ NumsC .i64 w ao M := by
  obtain ⟨h1, h2⟩ := h
  have hn : n = M.length := by simpa using h1.symm
  rcases h2 with ⟨rfl, h3⟩ | ⟨g, cap, arr, rfl, hb, hg, h4, h5, h6, h7⟩
  · have hM : M = [] := List.eq_nil_of_length_eq_zero (by omega)
    subst hM
    exact ⟨none, 0, by rw [h3], hn, fun i hi => by simp at hi⟩
  · refine ⟨some ⟨g, 0, none⟩, cap, rfl, hn, fun i hi => ⟨g, 0, rfl, ?_⟩⟩
    have hget : (arr.toList.take (n * 1))[i]? = some (.int .i64 M[i]) := by rw [h7]; simp [hi]
    rw [List.getElem?_take, if_pos (by omega)] at hget
    simp [World.cell?, hg]
    simpa using hget
end Go.Proofs.YtocpbnjkijpbiaaDoor
