/- Of, and the document's Each, Of, All, Within, walked. -/
import Derived.Test.YtgbdnlpdicmaaaaDoorG1
import Derived.OwnWalk
namespace Go.Proofs.YtgbdnlpdicmaaaaDoor
open Go.RowKit

/-- The set of some goods, and the error. -/
def ofZ (l : List Int) : Nat × Int := if l.all goodB then (l.foldl (fun s g => s ||| 2 ^ g.toNat) 0, 0) else (0, 2)

def ofN (l : List Int) (k : Nat) : Nat := (l.take k).foldl (fun s g => s ||| 2 ^ g.toNat) 0

theorem ofN_succ {l : List Int} {k : Nat} (h : k < l.length) : ofN l (k + 1) = ofN l k ||| 2 ^ (l[k]).toNat := by
  unfold ofN
  rw [List.take_add_one, List.getElem?_eq_getElem h, List.foldl_append]
  rfl

theorem ofN_lt {l : List Int} : ∀ {k : Nat}, (∀ i (h : i < l.length), i < k → goodB l[i] = true) → ofN l k < 4294967296
  | 0, _ => by simp [ofN]
  | k + 1, h => by
    by_cases hk : k < l.length
    · rw [ofN_succ hk]
      refine or_lt (ofN_lt (fun i hi hik => h i hi (by omega))) (pow_lt32 ?_)
      have := h k hk (by omega)
      simp [goodB] at this
      omega
    · have e : ofN l (k + 1) = ofN l k := by
        unfold ofN
        rw [List.take_of_length_le (by omega), List.take_of_length_le (by omega)]
      rw [e]
      exact ofN_lt (fun i hi hik => h i hi (by omega))

theorem ofZ_good {l : List Int} (h : ∀ i (h : i < l.length), goodB l[i] = true) : ofZ l = (ofN l l.length, 0) := by
  have : l.all goodB = true := by
    rw [List.all_eq_true]
    intro x hx
    obtain ⟨i, hi, rfl⟩ := List.getElem_of_mem hx
    exact h i hi
  rw [ofZ, if_pos this, ofN, List.take_length]

theorem ofZ_bad {l : List Int} {i : Nat} (hi : i < l.length) (h : goodB l[i] = false) : ofZ l = (0, 2) := by
  rw [ofZ, if_neg]
  intro h2
  rw [List.all_eq_true] at h2
  rw [h2 _ (List.getElem_mem hi)] at h
  cases h

set_option maxRecDepth 100000 in
set_option maxHeartbeats 2000000 in
theorem of_any (ao : Option Addr) (cap : Nat) (L : List Int) (w : World) (h : NumsC .i64 w ao L) (hl : L.length ≤ 9223372036854775807) :
    Calls Tryd.prog 9 #[.slice ao L.length cap] w fun e w' => e = .returned (.tuple #[.int .u32 ((ofZ L).1 : Int), .int .i64 (ofZ L).2]) ∧ w' = w := by
  have kI := hid (fun g w => isGood_any g w)
  go_enter Tryd.func9, Tryd.ntmps9
  go_wp2_with fail
  go_loopw [4, 9] (fun s t wr => ∃ k : Nat, k ≤ L.length ∧ t = .int .i64 (k : Int) ∧ s = .int .u32 (ofN L k : Int) ∧ Hid (∀ i (h : i < L.length), i < k → goodB L[i] = true) ∧ wr = w) (fun _ t _ => L.length - (intOf t).toNat)
  case atStart => exact ⟨0, Nat.zero_le _, rfl, rfl, fun i _ hi => by omega, rfl⟩
  case round =>
    obtain ⟨k, hk, rfl, rfl, hA, rfl⟩ := hrel
    have hN := ofN_lt hA.out
    by_cases hlt : k < L.length
    · obtain ⟨g, o, rfl, ck⟩ := h k hlt
      have hk' : (k : Int) < (L.length : Int) := by omega
      have kS := hid (ofN_succ hlt)
      have ki := hid (kI.out L[k])
      have kb : Hid (∀ h : goodB L[k] = false, ofZ L = (0, 2)) := fun h => ofZ_bad hlt h
      have kg : Hid (goodB L[k] = true → ∀ i (h : i < L.length), i < k + 1 → goodB L[i] = true) := fun hg i hi hik => by
        by_cases e : i = k
        · subst e; exact hg
        · exact hA.out i hi (by omega)
      obtain ⟨x, hx⟩ : ∃ x, L[k] = x := ⟨_, rfl⟩
      rw [hx] at ck kS ki kb kg
      clear hx
      cases hb : goodB x
      · have kz := hid (kb.out hb)
        rw [hb] at ki
        clear hb kb kg kS
        go_wp2_with (go_at_call 42; refine (ki.out _).mono ?_; rintro e w' ⟨rfl, rfl⟩)
        go_ret2
        rw [kz.out]
        exact ⟨rfl, rfl⟩
      · rw [hb] at ki
        have hgx := kg.out hb
        have kgx := hid hgx
        obtain ⟨h0, h1⟩ : 0 ≤ x ∧ x < 32 := by simpa [goodB] using hb
        obtain ⟨n, rfl⟩ : ∃ n : Nat, x = n := ⟨x.toNat, by omega⟩
        clear hb kb kg hgx h0
        have hp := pow_lt32 (show n < 32 by omega)
        have e2 : bits BinOp.or IntKind.u32 (ofN L k : Int) ((2 ^ n : Nat) : Int) = (ofN L (k + 1) : Int) := by
          rw [bits_or_u32 _ _ hN hp, kS.out]
          rfl
        go_wp2_with (go_at_call 42; refine (ki.out _).mono ?_; rintro e w' ⟨rfl, rfl⟩)
        go_roundw
        case rel => exact ⟨k + 1, by omega, by go_num, by rw [show ((2 : Int) ^ n) = ((2 ^ n : Nat) : Int) by simp, show ((2 ^ n : Nat) : Int) % 4294967296 = ((2 ^ n : Nat) : Int) from Int.emod_eq_of_lt (Int.natCast_nonneg _) (Int.ofNat_lt.2 hp), e2], kgx, trivial⟩
        case measure => simp [intOf]; omega
    · obtain rfl : k = L.length := by omega
      go_wp2_with fail
      go_ret2
      rw [ofZ_good (fun i hi => hA.out i hi hi)]
      exact ⟨rfl, rfl⟩
end Go.Proofs.YtgbdnlpdicmaaaaDoor
