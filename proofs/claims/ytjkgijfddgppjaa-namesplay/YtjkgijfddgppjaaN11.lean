/- Unspell, walked: states that lead to one another. -/
import Derived.Test.YtjkgijfddgppjaaN10
import Derived.WalkMore
import Derived.ScopeJumps
import Derived.Laws.IdiomStrings
namespace Go.Proofs.Ytjkgijfddgppjaa
open Go.RowKit

/-- What holds at one of three labels. -/
def three (J0 J1 J2 : Act → World → Prop) : Nat → Act → World → Prop
  | 0 => J0
  | 1 => J1
  | 2 => J2
  | _ => fun _ _ => False

theorem wp_scope_three {P : Program} {a : Act} {w : World} {Q : Exit → Act → World → Prop} {c r0 r1 r2 : Code} (J0 J1 J2 : Act → World → Prop) (m0 m1 m2 : Act → World → Nat) (h0 : findLabel c 0 = some r0) (h1 : findLabel c 1 = some r1) (h2 : findLabel c 2 = some r2)
    (first : c.wp P (Exit.jumps (three J0 J1 J2) Q) a w)
    (pass0 : ∀ a w, J0 a w → r0.wp P (Exit.jumps (three (fun a' w' => J0 a' w' ∧ m0 a' w' < m0 a w) (fun a' w' => J1 a' w' ∧ m1 a' w' < m0 a w) (fun a' w' => J2 a' w' ∧ m2 a' w' < m0 a w)) Q) a w)
    (pass1 : ∀ a w, J1 a w → r1.wp P (Exit.jumps (three (fun a' w' => J0 a' w' ∧ m0 a' w' < m1 a w) (fun a' w' => J1 a' w' ∧ m1 a' w' < m1 a w) (fun a' w' => J2 a' w' ∧ m2 a' w' < m1 a w)) Q) a w)
    (pass2 : ∀ a w, J2 a w → r2.wp P (Exit.jumps (three (fun a' w' => J0 a' w' ∧ m0 a' w' < m2 a w) (fun a' w' => J1 a' w' ∧ m1 a' w' < m2 a w) (fun a' w' => J2 a' w' ∧ m2 a' w' < m2 a w)) Q) a w) : (Code.scope c).wp P Q a w := by
  have e : ∀ (F0 F1 F2 : Act → World → Nat) (n : Nat), (fun l' a' w' => three J0 J1 J2 l' a' w' ∧ (match l' with | 0 => F0 | 1 => F1 | _ => F2) a' w' < n) = three (fun a' w' => J0 a' w' ∧ F0 a' w' < n) (fun a' w' => J1 a' w' ∧ F1 a' w' < n) (fun a' w' => J2 a' w' ∧ F2 a' w' < n) := by
    intro F0 F1 F2 n
    funext l a w
    match l with
    | 0 => rfl
    | 1 => rfl
    | 2 => rfl
    | _ + 3 => simp [three]
  refine wp_scope_labels (three J0 J1 J2) (fun l => match l with | 0 => m0 | 1 => m1 | _ => m2) (fun l => match l with | 0 => r0 | 1 => r1 | _ => r2) ?_ first ?_
  · intro l a w h
    match l, h with
    | 0, _ => exact h0
    | 1, _ => exact h1
    | 2, _ => exact h2
    | _ + 3, h => exact h.elim
  · intro l a w h
    match l, h with
    | 0, h => rw [e]; exact pass0 a w h
    | 1, h => rw [e]; exact pass1 a w h
    | 2, h => rw [e]; exact pass2 a w h
    | _ + 3, h => exact h.elim

/-- What is told so far, in memory. -/
structure Told (w W : World) (m : List UInt8) (v : Value) (O t : List UInt8) : Prop where
  row : W.ownsRow w.heap.size 5 1 v O.length (Lib.byteCells O)
  bel : Below w.heap.size w W
  eq : m = O.flatMap encB ++ t

/-- .. at a label. -/
def AtL (w : World) (st : ByteArray) (m : List UInt8) (q : List UInt8 → Prop) (a' : Act) (W : World) : Prop :=
  ∃ (v : Value) (O t : List UInt8) (u1 u5 u7 u8 u9 u10 u11 u12 u13 u14 u15 u16 u17 u18 u19 u20 u21 u22 u23 u24 u25 u26 u27 u28 u29 u30 u31 u32 u33 u34 u35 u36 u37 u38 u39 u40 u41 u42 u43 u44 : Value), Told w W m v O t ∧ q t ∧ a' = { tmps := List.toArray (.string st :: u1 :: .string ⟨#[]⟩ :: .int .i64 0 :: .string ⟨t.toArray⟩ :: u5 :: v :: u7 :: u8 :: u9 :: u10 :: u11 :: u12 :: u13 :: u14 :: u15 :: u16 :: u17 :: u18 :: u19 :: u20 :: u21 :: u22 :: u23 :: u24 :: u25 :: u26 :: u27 :: u28 :: u29 :: u30 :: u31 :: u32 :: u33 :: u34 :: u35 :: u36 :: u37 :: u38 :: u39 :: u40 :: u41 :: u42 :: u43 :: u44 :: []), defers := [] }

/-- How much is left. -/
def leftL (k : Nat) (a' : Act) (_ : World) : Nat := match a'.tmps.getD 4 undef with
  | .string x => 2 * x.size + k
  | _ => 0

theorem row_form {w : World} {B : Nat} {v : Value} {O : List UInt8} (h : w.ownsRow B 5 1 v O.length (Lib.byteCells O)) : ∃ ao cap, v = .slice ao O.length cap := by
  rcases h.2 with ⟨rfl, h0⟩ | ⟨g, cap, cur, rfl, _⟩
  · exact ⟨none, 0, by rw [h0]⟩
  · exact ⟨_, _, rfl⟩

/-- 'string(b)' of bytes that are owned. -/
theorem conv_own {w : World} {B : Nat} {ao : Option Addr} {cap : Nat} {O : List UInt8} (h : w.ownsRow B 5 1 (.slice ao O.length cap) O.length (Lib.byteCells O)) :
    (convert 85 9 (.slice ao O.length cap)).run Try.prog w = .ok (.string ⟨O.toArray⟩) w := by
  rcases h.2 with ⟨h1, h2⟩ | ⟨g, cap', cur, h1, h3, h4, h5, h6, h7, h8⟩
  · obtain rfl : O = [] := List.eq_nil_of_length_eq_zero h2
    simp only [Value.slice.injEq] at h1
    obtain ⟨rfl, _, rfl⟩ := h1
    rw [run_convert_bytes_string w 85 9 5 none _ _ Try.underlying85 Try.underlying5 Try.underlying9]
    rfl
  · simp only [Value.slice.injEq] at h1
    obtain ⟨rfl, _, rfl⟩ := h1
    refine run_convert_bytes_back w 85 9 5 ⟨g, 0, none⟩ cap O Try.underlying85 Try.underlying5 Try.underlying9 ?_
    intro j hj
    have h9 : (cur.toList.take (O.length * 1))[j]? = (Lib.byteCells O)[j]? := by rw [h8]
    rw [List.getElem?_take_of_lt (by omega)] at h9
    have hadd : (⟨g, 0, none⟩ : Addr).add j = ⟨g, j, none⟩ := by unfold Addr.add; split <;> simp_all
    rw [hadd]
    exact blk_cells h4 (by simpa [Lib.byteCells, hj] using h9)

theorem Told.len {w W : World} {m : List UInt8} {v : Value} {O t : List UInt8} (h : Told w W m v O t) : O.length ≤ m.length := by
  have : ∀ O : List UInt8, O.length ≤ (O.flatMap encB).length := fun O => by
    induction O with
    | nil => simp
    | cons b O ih =>
      rw [List.flatMap_cons, List.length_append, List.length_cons]
      have := List.length_pos_iff.2 (enc_ne b)
      omega
  rw [h.eq, List.length_append]
  have := this O
  omega



set_option maxRecDepth 100000 in
set_option maxHeartbeats 4000000 in
theorem unspell_quoted (s : List UInt8) (w : World) (hs : s.length ≤ 1000000) (hq : uqB s = true) :
    Calls Try.prog 12 #[.string ⟨s.toArray⟩] w fun e w' => e = .returned (.tuple #[.string ⟨(unspR s).1.toArray⟩, .int .i64 (unspR s).2]) ∧ Old w w' := by
  obtain ⟨i5, hi, hz0, hz1, hz2⟩ := info_parts info5
  have kQ := hid (unquoted_any s w (by omega))
  rw [hq] at kQ
  obtain ⟨st, hst⟩ : ∃ st : ByteArray, (⟨s.toArray⟩ : ByteArray) = st := ⟨_, rfl⟩
  rw [hst] at kQ ⊢
  obtain ⟨m, hm⟩ : ∃ m, uqL s = m := ⟨_, rfl⟩
  rw [hm] at kQ
  have hml : m.length ≤ 1000000 := by
    have := congrArg List.length (uq_good hq)
    rw [hm] at this
    simp only [List.length_cons, List.length_append, List.length_nil] at this
    omega
  obtain ⟨w1, hmk, hown, hgrow⟩ := run_make_own (P := Try.prog) w w.heap.size 85 5 i5 (.int .u8 0) 1 Try.underlying85 hi hz0 hz1 .i64 .i64 m.length (by rw [hz2]; omega) (by unfold maxLen; omega) (Nat.le_refl _)
  have kT : Hid (Told w w1 m (.slice (some ⟨w.heap.size, 0, none⟩) 0 m.length) [] m) := ⟨hown, (Below.refl _ w).grown hgrow (Nat.le_refl _) (fun k hk => by cases hk), by simp⟩
  have hst := hid hst
  clear hown hgrow
  go_enter Try.func12, Try.ntmps12
  go_wp2_with fail
  refine wp_scope_three (AtL w st m (fun _ => True)) (AtL w st m (fun t => ∃ c r, t = c :: r ∧ plainZ c.toNat = true)) (AtL w st m (fun t => ∃ c r, t = c :: r ∧ plainZ c.toNat = false)) (leftL 1) (leftL 0) (leftL 0) rfl rfl rfl ?first ?pass0 ?pass1 ?pass2
  case first =>
    go_wp2_with fail
    refine kQ.out.mono ?_
    rintro e w' ⟨rfl, e1⟩
    rw [e1]
    clear e1 w'
    obtain ⟨sm, hsm⟩ : ∃ sm : ByteArray, (⟨m.toArray⟩ : ByteArray) = sm := ⟨_, rfl⟩
    have hz : sm.size = m.length := by rw [← hsm]; simp [ByteArray.size]
    rw [hsm]
    go_wp2_with fail
    go_step3
    have hT0 := kT.out
    obtain ⟨v, hv⟩ : ∃ v, Value.slice (some ⟨w.heap.size, 0, none⟩) 0 m.length = v := ⟨_, rfl⟩
    rw [hv] at hT0 ⊢
    obtain ⟨O, hO⟩ : ∃ O : List UInt8, O = [] := ⟨_, rfl⟩
    rw [← hO] at hT0
    obtain ⟨t, ht⟩ : ∃ t, m = t := ⟨_, rfl⟩
    have hT : Told w w1 m v O t := by rw [← ht]; exact hT0
    rw [← hsm, ht]
    clear hv hO ht hT0 kT hmk hz hsm kQ
    cases t with
    | nil =>
      obtain ⟨ao, cap, rfl⟩ := row_form hT.row
      have hcv := conv_own hT.row
      have hR : Hid (unspR s = (O, 0)) := unsp_good (by
        have := uq_good hq
        rw [hm, hT.eq, List.append_nil] at this
        exact this.symm)
      have hB := hid hT.bel
      clear hT
      go_wp2_with fail
      simp only [Exit.jumps]
      refine bodyPost_ret (v := .tuple #[.string ⟨O.toArray⟩, .int .i64 0]) ?_ rfl ⟨by rw [hR.out], Old.of_below hB.out⟩
      simp [results, Try.f12, go_sem]
    | cons c r =>
      have i0 : ∀ X, (Instr.index 9 (.string ⟨(c :: r).toArray⟩) (.int .i64 0)).run Try.prog X = .ok (.int .u8 (c.toNat : Int)) X := run_byte (c :: r) 0 (by simp)
      cases hc : plainZ c.toNat
      · go_wp2_with (go_at_call 36; refine (plain_any _ _).mono ?_; rintro e w' ⟨rfl, rfl⟩)
        go_step3
        refine ⟨v, O, c :: r, _, _, _, _, _, _, _, _, _, _, _, _, _, _, _, _, _, _, _, _, _, _, _, _, _, _, _, _, _, _, _, _, _, _, _, _, _, _, _, _, hT, ⟨c, r, rfl, hc⟩, rfl⟩
      · go_wp2_with (go_at_call 36; refine (plain_any _ _).mono ?_; rintro e w' ⟨rfl, rfl⟩)
        go_step3
        refine ⟨v, O, c :: r, _, _, _, _, _, _, _, _, _, _, _, _, _, _, _, _, _, _, _, _, _, _, _, _, _, _, _, _, _, _, _, _, _, _, _, _, _, _, _, _, hT, ⟨c, r, rfl, hc⟩, rfl⟩
  case pass0 =>
    rintro a' W ⟨v, O, t, u1, u5, u7, u8, u9, u10, u11, u12, u13, u14, u15, u16, u17, u18, u19, u20, u21, u22, u23, u24, u25, u26, u27, u28, u29, u30, u31, u32, u33, u34, u35, u36, u37, u38, u39, u40, u41, u42, u43, u44, hT, _, rfl⟩
    clear kT hmk
    cases t with
    | nil =>
      obtain ⟨ao, cap, rfl⟩ := row_form hT.row
      have hcv := conv_own hT.row
      have hR : Hid (unspR s = (O, 0)) := unsp_good (by
        have := uq_good hq
        rw [hm, hT.eq, List.append_nil] at this
        exact this.symm)
      have hB := hid hT.bel
      clear hT
      go_wp2_with fail
      simp only [Exit.jumps]
      refine bodyPost_ret (v := .tuple #[.string ⟨O.toArray⟩, .int .i64 0]) ?_ rfl ⟨by rw [hR.out], Old.of_below hB.out⟩
      simp [results, Try.f12, go_sem]
    | cons c r =>
      have i0 : ∀ X, (Instr.index 9 (.string ⟨(c :: r).toArray⟩) (.int .i64 0)).run Try.prog X = .ok (.int .u8 (c.toNat : Int)) X := run_byte (c :: r) 0 (by simp)
      cases hc : plainZ c.toNat
      · go_wp2_with (go_at_call 36; refine (plain_any _ _).mono ?_; rintro e w' ⟨rfl, rfl⟩)
        go_step3
        refine ⟨⟨v, O, c :: r, _, _, _, _, _, _, _, _, _, _, _, _, _, _, _, _, _, _, _, _, _, _, _, _, _, _, _, _, _, _, _, _, _, _, _, _, _, _, _, _, hT, ⟨c, r, rfl, hc⟩, rfl⟩, (by simp [leftL])⟩
      · go_wp2_with (go_at_call 36; refine (plain_any _ _).mono ?_; rintro e w' ⟨rfl, rfl⟩)
        go_step3
        refine ⟨⟨v, O, c :: r, _, _, _, _, _, _, _, _, _, _, _, _, _, _, _, _, _, _, _, _, _, _, _, _, _, _, _, _, _, _, _, _, _, _, _, _, _, _, _, _, hT, ⟨c, r, rfl, hc⟩, rfl⟩, (by simp [leftL])⟩
  case pass1 =>
    rintro a' W ⟨v, O, t, u1, u5, u7, u8, u9, u10, u11, u12, u13, u14, u15, u16, u17, u18, u19, u20, u21, u22, u23, u24, u25, u26, u27, u28, u29, u30, u31, u32, u33, u34, u35, u36, u37, u38, u39, u40, u41, u42, u43, u44, hT, ⟨c, r, rfl, hc⟩, rfl⟩
    clear kT hmk kQ
    have i0 : ∀ X, (Instr.index 9 (.string ⟨(c :: r).toArray⟩) (.int .i64 0)).run Try.prog X = .ok (.int .u8 (c.toNat : Int)) X := run_byte (c :: r) 0 (by simp)
    have i1 : ∀ X, (Instr.slice 9 (.string ⟨(c :: r).toArray⟩) (some (.int .i64 1)) none none).run Try.prog X = .ok (.string ⟨r.toArray⟩) X := run_from (c :: r) 1 (by simp)
    obtain ⟨sc, hsc⟩ : ∃ sc : ByteArray, (⟨(c :: r).toArray⟩ : ByteArray) = sc := ⟨_, rfl⟩
    have hzc : Hid (sc.size = r.length + 1) := by rw [← hsc]; rfl
    rw [hsc] at i0 i1 ⊢
    clear hsc
    obtain ⟨ao, cap, rfl⟩ := row_form hT.row
    have hl := hT.len
    have hrow := hT.row
    have hsz := hT.bel.size
    have hrow2 := hrow.alloc (.cells #[.int .u8 (c.toNat : Int)] 5)
    have kB := hid hT.bel
    have kE := hid hT.eq
    clear hT
    go_wp2_with (at_builtin; refine wpList_append_lies _ rfl _ _ 85 rfl w.heap.size 5 i5 (.int .u8 0) 1 1 Try.underlying85 hi hz0 hz1 hz2 rfl (by decide) _ _ _ rfl hrow2 ⟨W.heap.size, 0, none⟩ 1 1 [.int .u8 (c.toNat : Int)] rfl rfl ?c1 ?c2 (by decide) ?c3 ?c4 ?c5 _ rfl ?_)
    case c1 =>
      intro j u hj
      match j, hj with
      | 0, hj => simp at hj; subst hj; simp [Addr.add]
    case c2 => intro u hu; simp at hu; subst hu; rfl
    case c3 => unfold maxLen; omega
    case c4 => omega
    case c5 => simp; omega
    intro g cap' w2 hown2 hgrow hat hlt
    have hb3 : Hid (Below w.heap.size w w2) := ((kB.out.alloc hsz _).grown hgrow (by simp; omega) (fun k hk => (hrow.lt k hk).1))
    have ko := hid hown2
    clear hown2 hgrow hat hrow
    go_wp2_with fail
    go_step3
    refine ⟨⟨.slice (some ⟨g, 0, none⟩) (O.length + 1) cap', O ++ [c], r, _, _, _, _, _, _, _, _, _, _, _, _, _, _, _, _, _, _, _, _, _, _, _, _, _, _, _, _, _, _, _, _, _, _, _, _, _, _, _, _, ⟨?_, ?_, ?_⟩, trivial, rfl⟩, ?_⟩
    · rw [List.length_append, byteCells_append]; exact ko.out
    · exact hb3.out
    · have := kE.out
      rw [this, List.flatMap_append, List.append_assoc]
      simp [enc_plain hc]
    · show 2 * r.length + 1 < 2 * sc.size + 0
      have := hzc.out
      omega
  case pass2 =>
    rintro a' W ⟨v, O, t, u1, u5, u7, u8, u9, u10, u11, u12, u13, u14, u15, u16, u17, u18, u19, u20, u21, u22, u23, u24, u25, u26, u27, u28, u29, u30, u31, u32, u33, u34, u35, u36, u37, u38, u39, u40, u41, u42, u43, u44, hT, ⟨c, r, rfl, hc⟩, rfl⟩
    clear kT hmk kQ
    have kU := hid (unescaped_any (c :: r) W)
    obtain ⟨sc, hsc⟩ : ∃ sc : ByteArray, (⟨(c :: r).toArray⟩ : ByteArray) = sc := ⟨_, rfl⟩
    have hzc : Hid (sc.size = r.length + 1) := by rw [← hsc]; rfl
    rw [hsc] at kU ⊢
    clear hsc
    go_wp2_with fail
    refine kU.out.mono ?_
    rintro e W2 ⟨oW, hgood, hnone⟩
    have hT2 : Told w W2 m v O (c :: r) := ⟨owns_kept hT.row (fun k hk => by
      obtain ⟨cur, hcur⟩ := owns_block hT.row hk
      exact oW.block k (blk_lt hcur) (fun h => h)), hT.bel.trans (oW.below.mono (by have := hT.bel.size; omega)), hT.eq⟩
    clear hT oW kU
    have hT := hT2
    clear hT2
    cases hu : unesc (c :: r) with
    | none =>
      obtain ⟨bv, sv, rfl⟩ := hnone hu
      have hR : Hid (unspR s = ([], 160)) := unsp_bad (fun x hx => by
        have h1 := uq_good hq
        rw [hm, hT.eq] at h1
        rw [h1] at hx
        unfold spellL at hx
        simp only [List.cons.injEq, true_and] at hx
        exact unesc_none hc hu (List.append_cancel_right hx))
      have hB := hid hT.bel
      clear hT hgood hnone
      go_wp2_with fail
      simp only [Exit.jumps]
      refine bodyPost_ret (v := .tuple #[.string ⟨#[]⟩, .int .i64 160]) ?_ rfl ⟨by rw [hR.out], Old.of_below hB.out⟩
      simp [results, Try.f12, go_sem]
    | some bt =>
      obtain ⟨b, tl⟩ := bt
      rw [hgood b tl hu]
      have kN := hid (enc_unesc hu)
      clear hgood hnone hu
      obtain ⟨ao, cap, rfl⟩ := row_form hT.row
      have hl := hT.len
      have hrow := hT.row
      have hsz := hT.bel.size
      have hrow2 := hrow.alloc (.cells #[.int .u8 (b.toNat : Int)] 5)
      have kB := hid hT.bel
      have kE := hid hT.eq
      clear hT
      go_wp2_with (at_builtin; refine wpList_append_lies _ rfl _ _ 85 rfl w.heap.size 5 i5 (.int .u8 0) 1 1 Try.underlying85 hi hz0 hz1 hz2 rfl (by decide) _ _ _ rfl hrow2 ⟨W2.heap.size, 0, none⟩ 1 1 [.int .u8 (b.toNat : Int)] rfl rfl ?c1 ?c2 (by decide) ?c3 ?c4 ?c5 _ rfl ?_)
      case c1 =>
        intro j u hj
        match j, hj with
        | 0, hj => simp at hj; subst hj; simp [Addr.add]
      case c2 => intro u hu; simp at hu; subst hu; rfl
      case c3 => unfold maxLen; omega
      case c4 => omega
      case c5 => simp; omega
      intro g cap' w2 hown2 hgrow hat hlt
      have hb3 : Hid (Below w.heap.size w w2) := ((kB.out.alloc hsz _).grown hgrow (by simp; omega) (fun k hk => (hrow.lt k hk).1))
      have ko := hid hown2
      clear hown2 hgrow hat hrow
      go_wp2_with fail
      go_step3
      refine ⟨⟨.slice (some ⟨g, 0, none⟩) (O.length + 1) cap', O ++ [b], tl, _, _, _, _, _, _, _, _, _, _, _, _, _, _, _, _, _, _, _, _, _, _, _, _, _, _, _, _, _, _, _, _, _, _, _, _, _, _, _, _, ⟨?_, ?_, ?_⟩, trivial, rfl⟩, ?_⟩
      · rw [List.length_append, byteCells_append]; exact ko.out
      · exact hb3.out
      · have := kE.out
        rw [this, ← kN.out, List.flatMap_append, List.append_assoc]
        simp
      · show 2 * tl.length + 1 < 2 * sc.size + 0
        have h1 := hzc.out
        have h2 := congrArg List.length kN.out
        have h3 := List.length_pos_iff.2 (enc_ne b)
        rw [List.length_append, List.length_cons] at h2
        omega

set_option maxRecDepth 100000 in
set_option maxHeartbeats 1000000 in
theorem unspell_any (s : List UInt8) (w : World) (hs : s.length ≤ 1000000) :
    Calls Try.prog 12 #[.string ⟨s.toArray⟩] w fun e w' => e = .returned (.tuple #[.string ⟨(unspR s).1.toArray⟩, .int .i64 (unspR s).2]) ∧ Old w w' := by
  cases hq : uqB s
  · have hR : Hid (unspR s = ([], 160)) := unsp_bad (fun x hx => uq_bad hq hx.symm)
    have kQ := hid (unquoted_any s w (by omega))
    rw [hq] at kQ
    obtain ⟨st, hst⟩ : ∃ st : ByteArray, (⟨s.toArray⟩ : ByteArray) = st := ⟨_, rfl⟩
    rw [hst] at kQ ⊢
    have hst := hid hst
    go_enter Try.func12, Try.ntmps12
    go_wp2_with fail
    go_step3
    go_wp2_with fail
    refine kQ.out.mono ?_
    rintro e w' ⟨rfl, e1⟩
    rw [e1]
    clear e1 w'
    go_wp2_with fail
    rw [Exit.noGoto_ret]
    refine bodyPost_ret (v := .tuple #[.string ⟨#[]⟩, .int .i64 160]) ?_ rfl ⟨by rw [hR.out], Old.refl _⟩
    simp [results, Try.f12, go_sem]
  · exact unspell_quoted s w hs hq
end Go.Proofs.Ytjkgijfddgppjaa
