/- The document's ledger: Find, sum, Of, Has, Posting. -/
import Derived.Test.YtlhlmkdgbgppiaaSumsW
namespace Go.Proofs.Ytlhlmkdgbgppiaa
open Go.RowKit Go.Shelf Go.Maps

/-- Lists as they lie, in blocks of D. -/
def SlS (w : World) (D : Nat → Prop) (v : Value) (L : List (List UInt8)) : Prop := ∃ ao c, v = .slice ao L.length c ∧ StrC w ao L ∧ (∀ a, ao = some a → D a.block) ∧ (ao = none → c = 0)
def SlN (w : World) (D : Nat → Prop) (v : Value) (B : List Int) : Prop := ∃ ao c, v = .slice ao B.length c ∧ NumsC .i64 w ao B ∧ (∀ a, ao = some a → D a.block) ∧ (ao = none → c = 0)
def SlE (w : World) (D : Nat → Prop) (v : Value) (E : List Es) : Prop := ∃ ao c, v = .slice ao E.length c ∧ EsC w ao E ∧ (∀ a, ao = some a → D a.block)
def SlP (w : World) (D : Nat → Prop) (v : Value) (P : List (List Es)) : Prop := ∃ ao c, v = .slice ao P.length c ∧ (∀ a, ao = some a → D a.block) ∧ (ao = none → c = 0) ∧ ∀ i (h : i < P.length), ∃ g o u, ao = some ⟨g, o, none⟩ ∧ w.cell? ⟨g, o + i, none⟩ = some u ∧ SlE w D u P[i]

theorem SlS.frm {S D : Nat → Prop} {w w' : World} {v : Value} {L : List (List UInt8)} (h : SlS w D v L) (f : Frm S w w') (hS : ∀ k, D k → ¬ S k) : SlS w' D v L := by
  obtain ⟨ao, c, rfl, h1, h2, h3⟩ := h
  refine ⟨ao, c, rfl, fun i hi => ?_, h2, h3⟩
  obtain ⟨g, o, rfl, hc⟩ := h1 i hi
  exact ⟨g, o, rfl, frm_cell f hc (hS g (h2 _ rfl))⟩
theorem SlN.frm {S D : Nat → Prop} {w w' : World} {v : Value} {B : List Int} (h : SlN w D v B) (f : Frm S w w') (hS : ∀ k, D k → ¬ S k) : SlN w' D v B := by
  obtain ⟨ao, c, rfl, h1, h2, h3⟩ := h
  refine ⟨ao, c, rfl, fun i hi => ?_, h2, h3⟩
  obtain ⟨g, o, rfl, hc⟩ := h1 i hi
  exact ⟨g, o, rfl, frm_cell f hc (hS g (h2 _ rfl))⟩
theorem SlE.frm {S D : Nat → Prop} {w w' : World} {v : Value} {E : List Es} (h : SlE w D v E) (f : Frm S w w') (hS : ∀ k, D k → ¬ S k) : SlE w' D v E := by
  obtain ⟨ao, c, rfl, h1, h2⟩ := h
  exact ⟨ao, c, rfl, h1.frm f (fun g o e => hS g (h2 _ e)), h2⟩
theorem SlP.frm {S D : Nat → Prop} {w w' : World} {v : Value} {P : List (List Es)} (h : SlP w D v P) (f : Frm S w w') (hS : ∀ k, D k → ¬ S k) : SlP w' D v P := by
  obtain ⟨ao, c, rfl, h2, h3, h1⟩ := h
  refine ⟨ao, c, rfl, h2, h3, fun i hi => ?_⟩
  obtain ⟨g, o, u, rfl, hc, hu⟩ := h1 i hi
  exact ⟨g, o, u, rfl, frm_cell f hc (hS g (h2 _ rfl)), hu.frm f hS⟩

/-- The document's ledger. -/
def Doc (w : World) (rb : Nat) (D : Nat → Prop) (L : List (List UInt8)) (B : List Int) (P : List (List Es)) : Prop :=
  ∃ nv lv qv, w.heap[rb]? = some (.cells #[nv, lv, qv] 37 (0, 0)) ∧ SlS w D nv L ∧ SlN w D lv B ∧ SlP w D qv P
theorem Doc.frm {S D : Nat → Prop} {w w' : World} {rb : Nat} {L : List (List UInt8)} {B : List Int} {P : List (List Es)} (h : Doc w rb D L B P) (f : Frm S w w') (h0 : ¬ S rb) (hS : ∀ k, D k → ¬ S k) : Doc w' rb D L B P := by
  obtain ⟨nv, lv, qv, h1, h2, h3, h4⟩ := h
  exact ⟨nv, lv, qv, by rw [f.block rb (blk_lt h1) h0]; exact h1, h2.frm f hS, h3.frm f hS, h4.frm f hS⟩
theorem Doc.old {D : Nat → Prop} {w w' : World} {rb : Nat} {L : List (List UInt8)} {B : List Int} {P : List (List Es)} (h : Doc w rb D L B P) (o : Old w w') : Doc w' rb D L B P := h.frm o (fun h => h) (fun _ _ h => h)

theorem idx_first {L : List (List UInt8)} {x : List UInt8} {k : Nat} (hk : k < L.length) (e : L[k] = x) (h : x ∉ L.take k) : idx L x = some k := by
  have hm : x ∈ L := by rw [← e]; exact List.getElem_mem hk
  unfold idx
  rw [if_pos hm]
  congr 1
  have h1 : L.take k ++ L.drop k = L := List.take_append_drop k L
  rw [← h1, List.idxOf_append, if_neg h, List.drop_eq_getElem_cons hk, e]
  simp
  omega

/-- An account's number, or -1. -/
def fndZ (L : List (List UInt8)) (x : List UInt8) : Int := match idx L x with
  | none => -1
  | some k => (k : Int)

set_option maxRecDepth 100000 in
set_option maxHeartbeats 2000000 in
theorem dfind_any (rb : Nat) (D : Nat → Prop) (L : List (List UInt8)) (B : List Int) (P : List (List Es)) (x : List UInt8) (w : World) (h : Doc w rb D L B P) (hL : L.length ≤ 1048576) :
    Calls Try.prog 53 #[.pointer (some ⟨rb, 0, none⟩), .string ⟨x.toArray⟩] w fun e w' => e = .returned (.int .i64 (fndZ L x)) ∧ w' = w := by
  obtain ⟨nv, lv, qv, hb, ⟨ao, c, rfl, hs, -⟩, -, -⟩ := h
  have c0 : w.cell? ⟨rb, 0, none⟩ = some (.slice ao L.length c) := blk_cells hb rfl
  have kh := hid hs
  clear hb hs
  go_enter Try.func53, Try.ntmps53
  go_wp2_with fail
  go_loopw [5] (fun t wr => ∃ k : Nat, k ≤ L.length ∧ t = .int .i64 (k : Int) ∧ Hid (x ∉ L.take k) ∧ wr = w) (fun t _ => L.length - (intOf t).toNat)
  case atStart => exact ⟨0, Nat.zero_le _, rfl, by show x ∉ L.take 0; simp, by trivial⟩
  case round =>
    obtain ⟨k, hk, rfl, hx, hw⟩ := hrel
    obtain rfl := hw.symm
    by_cases hlt : k < L.length
    · obtain ⟨g, o, rfl, ci⟩ := kh.out k hlt
      have hk' : (k : Int) < (L.length : Int) := by omega
      by_cases e : L[k] = x
      · have hi := hid (idx_first hlt e hx.out)
        rw [e] at ci
        have hbe : (x == x) = true := by simp
        go_wp2_with fail
        go_ret
        exact ⟨by unfold fndZ; rw [hi.out]; rfl, rfl⟩
      · have hbe : (L[k] == x) = false := by simpa using e
        have hx2 : Hid (x ∉ L.take (k + 1)) := by
          show x ∉ L.take (k + 1)
          rw [List.take_succ_eq_append_getElem hlt]
          simp only [List.mem_append, List.mem_singleton]
          rintro (h | h)
          · exact hx.out h
          · exact e h.symm
        generalize L[k] = y at *
        go_wp2_with fail
        go_roundw
        case rel => exact ⟨k + 1, by omega, by go_num, hx2, by trivial⟩
        case measure => simp [intOf]; omega
    · have hi : Hid (idx L x = none) := by
        have := hx.out
        rw [List.take_of_length_le (by omega)] at this
        show idx L x = none
        unfold idx
        rw [if_neg this]
      go_wp2_with fail
      go_ret
      exact ⟨by unfold fndZ; rw [hi.out]; rfl, rfl⟩

/-- What a name gets by entries, and whether any of them is its own. -/
def sumN : List Es → List UInt8 → Int
  | [], _ => 0
  | e :: p, x => (if e.1 = x then e.2 else 0) + sumN p x
def hasN (p : List Es) (x : List UInt8) : Bool := p.any (fun e => decide (e.1 = x))
theorem sumN_append : ∀ (p q : List Es) (x : List UInt8), sumN (p ++ q) x = sumN p x + sumN q x
  | [], q, x => by simp [sumN]
  | e :: p, q, x => by simp only [List.cons_append, sumN, sumN_append p q x]; omega
theorem sumN_bnd : ∀ (p : List Es) (x : List UInt8), (∀ e ∈ p, -70368744177664 ≤ e.2 ∧ e.2 ≤ 70368744177664) → -(70368744177664 * (p.length : Int)) ≤ sumN p x ∧ sumN p x ≤ 70368744177664 * (p.length : Int)
  | [], x, _ => by simp [sumN]
  | e :: p, x, h => by
    have h1 := sumN_bnd p x (fun a ha => h a (by simp [ha]))
    have h2 := h e (by simp)
    simp only [sumN, List.length_cons]
    split <;> omega
/-- Entries that may be summed. -/
structure OkN (p : List Es) : Prop where
  len : p.length ≤ 128
  each : ∀ e ∈ p, -70368744177664 ≤ e.2 ∧ e.2 ≤ 70368744177664
theorem OkN.bnd {p : List Es} (h : OkN p) (x : List UInt8) : -9007199254740992 ≤ sumN p x ∧ sumN p x ≤ 9007199254740992 := by
  have := sumN_bnd p x h.each
  have := h.len
  omega
theorem hasN_take (p : List Es) (x : List UInt8) (k : Nat) (h : k < p.length) : hasN (p.take (k + 1)) x = (hasN (p.take k) x || decide (p[k].1 = x)) := by
  unfold hasN
  rw [List.take_succ_eq_append_getElem h, List.any_append, List.any_cons, List.any_nil, Bool.or_false]
theorem sumN_take (p : List Es) (x : List UInt8) (k : Nat) (h : k < p.length) : sumN (p.take (k + 1)) x = sumN (p.take k) x + (if p[k].1 = x then p[k].2 else 0) := by
  rw [List.take_succ_eq_append_getElem h, sumN_append]
  simp [sumN]

set_option maxRecDepth 100000 in
set_option maxHeartbeats 2000000 in
theorem dsum_any (ao : Option Addr) (c : Nat) (p : List Es) (x : List UInt8) (w : World) (h : EsC w ao p) (hp : OkN p) :
    Calls Try.prog 54 #[.slice ao p.length c, .string ⟨x.toArray⟩] w fun e w' => e = .returned (.tuple #[.int .i64 (sumN p x), .bool (hasN p x)]) ∧ w' = w := by
  have kh := hid h
  have kp := hid hp
  have hl := hp.len
  clear h hp
  go_enter Try.func54, Try.ntmps54
  go_wp2_with fail
  go_loopw [6, 7, 8] (fun t6 t7 t8 wr => ∃ k : Nat, k ≤ p.length ∧ t8 = .int .i64 (k : Int) ∧ t6 = .int .i64 (sumN (p.take k) x) ∧ t7 = .bool (hasN (p.take k) x) ∧ wr = w) (fun _ _ t _ => p.length - (intOf t).toNat)
  case atStart => exact ⟨0, Nat.zero_le _, rfl, rfl, rfl, by trivial⟩
  case round =>
    obtain ⟨k, hk, rfl, rfl, rfl, hw⟩ := hrel
    obtain rfl := hw.symm
    by_cases hlt : k < p.length
    · obtain ⟨g, o, rfl, c0, c1⟩ := kh.out k hlt
      have hk' : (k : Int) < (p.length : Int) := by omega
      have hs1 := hid (sumN_take p x k hlt)
      have hs2 := hid (hasN_take p x k hlt)
      have hb := (OkN.mk (p := p.take (k + 1)) (by rw [List.length_take]; omega) (fun e he => kp.out.each e (List.mem_of_mem_take he))).bnd x
      rw [hs1.out] at hb
      obtain ⟨⟨y, co⟩, hy⟩ : ∃ y, p[k] = y := ⟨_, rfl⟩
      rw [hy] at c0 c1 hs1 hs2 hb
      dsimp only at c0 c1 hs1 hs2 hb
      clear hy
      by_cases e : y = x
      · subst e
        have hbe : (y == y) = true := by simp
        rw [if_pos rfl] at hs1 hb
        have hlo : -9223372036854775808 ≤ sumN (p.take k) y + co := by omega
        have hhi : sumN (p.take k) y + co ≤ 9223372036854775807 := by omega
        rw [decide_eq_true rfl, Bool.or_true] at hs2
        clear hb
        go_wp2_with fail
        go_roundw
        case rel => exact ⟨k + 1, by omega, by go_num, by rw [hs1.out], by rw [hs2.out], by trivial⟩
        case measure => simp [intOf]; omega
      · have hbe : (y == x) = false := by simpa using e
        rw [if_neg e, Int.add_zero] at hs1
        rw [decide_eq_false e, Bool.or_false] at hs2
        clear hb
        go_wp2_with fail
        go_roundw
        case rel => exact ⟨k + 1, by omega, by go_num, by rw [hs1.out], by rw [hs2.out], by trivial⟩
        case measure => simp [intOf]; omega
    · obtain rfl : k = p.length := by omega
      rw [List.take_length]
      go_wp2_with fail
      go_ret2
      exact ⟨rfl, rfl⟩

/-- What a name has out of all postings. -/
def ofN : List (List Es) → List UInt8 → Int
  | [], _ => 0
  | p :: P, x => sumN p x + ofN P x
theorem ofN_append : ∀ (P Q : List (List Es)) (x : List UInt8), ofN (P ++ Q) x = ofN P x + ofN Q x
  | [], Q, x => by simp [ofN]
  | p :: P, Q, x => by simp only [List.cons_append, ofN, ofN_append P Q x]; omega
theorem ofN_take (P : List (List Es)) (x : List UInt8) (k : Nat) (h : k < P.length) : ofN (P.take (k + 1)) x = ofN (P.take k) x + sumN P[k] x := by
  rw [List.take_succ_eq_append_getElem h, ofN_append]
  simp [ofN]
theorem ofN_bnd : ∀ (P : List (List Es)) (x : List UInt8), (∀ p ∈ P, OkN p) → -(9007199254740992 * (P.length : Int)) ≤ ofN P x ∧ ofN P x ≤ 9007199254740992 * (P.length : Int)
  | [], x, _ => by simp [ofN]
  | p :: P, x, h => by
    have h1 := ofN_bnd P x (fun a ha => h a (by simp [ha]))
    have h2 := (h p (by simp)).bnd x
    simp only [ofN, List.length_cons]
    omega

set_option maxRecDepth 100000 in
set_option maxHeartbeats 2000000 in
theorem dof_any (rb : Nat) (D : Nat → Prop) (L : List (List UInt8)) (B : List Int) (P : List (List Es)) (x : List UInt8) (w : World) (h : Doc w rb D L B P) (hP : P.length ≤ 200) (hk : ∀ p ∈ P, OkN p) :
    Calls Try.prog 55 #[.pointer (some ⟨rb, 0, none⟩), .string ⟨x.toArray⟩] w fun e w' => e = .returned (.int .i64 (ofN P x)) ∧ w' = w := by
  obtain ⟨nv, lv, qv, hb, -, -, ⟨ao, c, rfl, -, -, hs⟩⟩ := h
  have c0 : w.cell? ⟨rb, 2, none⟩ = some (.slice ao P.length c) := blk_cells hb rfl
  have kh := hid hs
  have kk := hid hk
  clear hb hs hk
  go_enter Try.func55, Try.ntmps55
  go_wp2_with fail
  go_loopw [5, 6] (fun t5 t6 wr => ∃ k : Nat, k ≤ P.length ∧ t6 = .int .i64 (k : Int) ∧ t5 = .int .i64 (ofN (P.take k) x) ∧ wr = w) (fun _ t _ => P.length - (intOf t).toNat)
  case atStart => exact ⟨0, Nat.zero_le _, rfl, rfl, by trivial⟩
  case round =>
    obtain ⟨k, hk, rfl, rfl, hw⟩ := hrel
    obtain rfl := hw.symm
    by_cases hlt : k < P.length
    · obtain ⟨g, o, u, rfl, cu, ⟨ae, ce, rfl, hE, -⟩⟩ := kh.out k hlt
      have hk' : (k : Int) < (P.length : Int) := by omega
      have hs1 := hid (ofN_take P x k hlt)
      have hb := ofN_bnd (P.take (k + 1)) x (fun p hp => kk.out p (List.mem_of_mem_take hp))
      rw [hs1.out, List.length_take] at hb
      have kS := hid (dsum_any ae ce P[k] x w hE (kk.out _ (List.getElem_mem hlt)))
      generalize hp : P[k] = p at *
      have hlo : -9223372036854775808 ≤ ofN (P.take k) x + sumN p x := by omega
      have hhi : ofN (P.take k) x + sumN p x ≤ 9223372036854775807 := by omega
      clear hb hE hp
      go_wp2_with fail
      refine kS.out.mono ?_
      rintro e w' ⟨rfl, e2⟩
      rw [e2]
      clear e2
      go_wp2_with fail
      go_roundw
      case rel => exact ⟨k + 1, by omega, by go_num, by rw [hs1.out], by trivial⟩
      case measure => simp [intOf]; omega
    · obtain rfl : k = P.length := by omega
      rw [List.take_length]
      go_wp2_with fail
      go_ret
      exact ⟨rfl, rfl⟩
end Go.Proofs.Ytlhlmkdgbgppiaa
