/- Lists of texts are written; two lists of numbers are held against each other. -/
import Derived.Test.YtchjkcghaddmhaaR5
namespace Go.Proofs.Ytchjkcghaddmhaa
open Go.RowKit

theorem wtextput_any (b : Nat) (r : Option Nat) (xs : List UInt8) (s : ByteArray) (w : World) (hw : Wr w b r xs) (hs : s.size ≤ 300000000000) (hlen : xs.length ≤ 300000000000) :
    Calls Try.prog 52 #[.pointer (some ⟨b, 0, none⟩), .string s] w fun e w' => e = .returned (.tuple #[]) ∧ WrOut w b r (xs ++ numF s.size ++ s.data.toList) w' := by
  go_enter Try.func52, Try.ntmps52
  go_wp2_with fail
  refine (wtext_any b r xs s _ hw hs hlen).mono ?_
  rintro e w1 ⟨rfl, ho⟩
  go_wp2
  go_end0
  exact ⟨rfl, ho⟩

/-- A text's form. -/
def textF (s : ByteArray) : List UInt8 := numF s.size ++ s.data.toList

/-- What a list of texts is written as, each by its form. -/
def textsF (T : List ByteArray) : List UInt8 := T.flatMap textF

theorem textF_length (s : ByteArray) : s.size + 1 ≤ (textF s).length ∧ (textF s).length ≤ s.size + 9 := by
  have h1 := numF_length s.size
  have h2 := sz_bd s.size
  have h3 : s.data.toList.length = s.size := rfl
  unfold textF
  rw [List.length_append]
  omega

theorem textsF_snoc (T : List ByteArray) (k : Nat) (h : k < T.length) : textsF (T.take (k + 1)) = textsF (T.take k) ++ textF T[k] := by
  rw [List.take_succ_eq_append_getElem h]; simp only [textsF, List.flatMap_append, List.flatMap_cons, List.flatMap_nil, List.append_nil]

theorem textsF_part (T : List ByteArray) (k : Nat) (h : k < T.length) : (textsF (T.take k)).length + (textF T[k]).length ≤ (textsF T).length := by
  have e : textsF T = textsF (T.take (k + 1)) ++ textsF (T.drop (k + 1)) := by
    unfold textsF
    rw [← List.flatMap_append, List.take_append_drop]
  rw [e, textsF_snoc T k h]
  simp only [List.length_append]
  omega

/-- The slice value over cells that hold the texts T, none of them the writer's. -/
def Texts (w : World) (ao : Option Addr) (T : List ByteArray) (S : Nat → Prop) : Prop :=
  ∀ i (h : i < T.length), ∃ g o, ao = some ⟨g, o, none⟩ ∧ g < w.heap.size ∧ ¬ S g ∧ w.cell? ⟨g, o + i, none⟩ = some (.string T[i])

theorem eql_func99 (f : Nat) (a c : Array Value) (w : World) : (binOp BinOp.eql 99 (Value.func (Fn.func f) a c) Value.nilFunc).run Try.prog w = .ok (.bool false) w := by kernel_rfl

set_option maxRecDepth 100000 in
set_option maxHeartbeats 1000000 in
theorem wtexts_any (b : Nat) (r : Option Nat) (xs : List UInt8) (ao : Option Addr) (cap : Nat) (T : List ByteArray) (w : World) (hw : Wr w b r xs) (hN : Texts w ao T (WrS b r)) (hlen : xs.length + T.length + (textsF T).length ≤ 200000000000) :
    Calls Try.prog 51 #[.pointer (some ⟨b, 0, none⟩), .slice ao T.length cap, .func (.func 52) #[] #[]] w fun e w' => e = .returned (.int .i64 0) ∧ WrOut w b r (xs ++ numF T.length ++ textsF T) w' := by
  have hnl := numF_length T.length
  have hzb := sz_bd T.length
  have hnf := fun w => eql_func99 52 #[] #[] w
  go_enter Try.func51, Try.ntmps51
  go_wp2_with fail
  refine (wnumber_any b r xs _ _ hw (by omega) (by omega) (by omega)).mono ?_
  rintro e w1 ⟨rfl, r1, hw1, hf1, hr1⟩
  rw [show ((T.length : Int)).toNat = T.length from by omega] at hw1
  have ho1 : WrOut w b r (xs ++ numF T.length ++ textsF (T.take 0)) w1 := ⟨r1, by simpa [textsF] using hw1, hf1, hr1⟩
  clear hw1 hf1 hr1 hnf
  go_wp2_with fail
  go_loopw [8, 22] (fun _ s wr => ∃ k : Nat, k ≤ T.length ∧ s = .int .i64 (k : Int) ∧ WrOut w b r (xs ++ numF T.length ++ textsF (T.take k)) wr) (fun _ s _ => T.length - (intOf s).toNat)
  case atStart => exact ⟨0, Nat.zero_le _, rfl, ho1⟩
  case round =>
    obtain ⟨k, hk, rfl, r2, hw2, hf2, hr2⟩ := hrel
    by_cases hlt : k < T.length
    · obtain ⟨g, o, hao, hg1, hg2, hc⟩ := hN k hlt
      subst hao
      have hc2 : wr.cell? ⟨g, o + k, none⟩ = some (.string T[k]) := by
        rw [World.cell?_of_block (w := w) (hf2.block g hg1 hg2)]; exact hc
      have hpk := textsF_part T k hlt
      have htk := textF_length T[k]
      have hst := textsF_snoc T k hlt
      generalize hy : T[k] = y at *
      have HY : Hid (T[k] = y) := hy
      have HS : Hid (textsF (T.take (k + 1)) = textsF (T.take k) ++ textF y) := hst
      clear hy hst hc
      have hl3 : (xs ++ numF T.length ++ textsF (T.take k)).length ≤ 300000000000 := by simp only [List.length_append]; omega
      have hys : y.size ≤ 300000000000 := by omega
      go_wp2_with fail
      refine (wtextput_any b r2 _ _ _ hw2 hys hl3).mono ?_
      rintro e w3 ⟨rfl, ho3⟩
      rw [List.append_assoc _ (numF y.size) _, show numF y.size ++ y.data.toList = textF y from rfl, List.append_assoc _ _ (textF y), ← HS.out] at ho3
      have ho4 := WrOut.next hf2 hr2 ho3
      clear ho3
      go_wp2
      go_roundw
      case rel => exact ⟨k + 1, by omega, by go_num, ho4⟩
      case measure => simp [intOf]; omega
    · obtain rfl : k = T.length := by omega
      rw [List.take_length] at hw2
      go_wp2_with fail
      go_ret
      exact ⟨rfl, r2, hw2, hf2, hr2⟩

/-- The slice value over cells that hold the numbers L. -/
def NumsC (w : World) (ao : Option Addr) (L : List Int) : Prop :=
  ∀ i (h : i < L.length), ∃ g o, ao = some ⟨g, o, none⟩ ∧ w.cell? ⟨g, o + i, none⟩ = some (.int .u64 L[i])

theorem NumsC.drewN {w : World} {ao : Option Addr} {L : List Int} (h : NumsC w ao L) (n : Nat) : NumsC (w.drewN n) ao L := by
  intro i hi
  obtain ⟨g, o, h1, h2⟩ := h i hi
  refine ⟨g, o, h1, ?_⟩
  rw [← h2]
  exact World.cell?_of_block (((Frm.refl (fun _ => False) w).drewN n).block g (by
    by_cases hg : g < w.heap.size
    · exact hg
    · simp [World.cell?, hg] at h2) (fun h => h))

set_option maxRecDepth 100000 in
set_option maxHeartbeats 1000000 in
theorem same_any (ao bo : Option Addr) (ca cb : Nat) (L : List Int) (w : World) (ha : NumsC w ao L) (hb : NumsC w bo L) (hl : L.length ≤ 1000000000000) :
    Calls Try.prog 50 #[.slice ao L.length ca, .slice bo L.length cb] w fun e w' => e = .returned (.bool true) ∧ ∃ n, w' = w.drewN n := by
  go_enter Try.func50, Try.ntmps50
  go_wp2_with fail
  go_loopw [5] (fun s wr => ∃ k : Nat, k ≤ L.length ∧ s = .int .i64 (k : Int) ∧ ∃ n, wr = w.drewN n) (fun s _ => L.length - (intOf s).toNat)
  case atStart => exact ⟨0, Nat.zero_le _, rfl, 0, rfl⟩
  case round =>
    obtain ⟨k, hk, rfl, n, rfl⟩ := hrel
    by_cases hlt : k < L.length
    · obtain ⟨g, o, hao, hc⟩ := ha k hlt
      obtain ⟨g2, o2, hbo, hd⟩ := hb k hlt
      subst hao hbo
      generalize L[k] = y at *
      go_wp2_with fail
      go_quiet (fail)
      go_wp2
      go_roundw
      case rel => exact ⟨k + 1, by omega, by go_num, _, rfl⟩
      case measure => simp [intOf]; omega
    · obtain rfl : k = L.length := by omega
      go_wp2_with fail
      go_ret
      exact ⟨rfl, _, rfl⟩

end Go.Proofs.Ytchjkcghaddmhaa
