/- Builders of texts; the spelling of a text. -/
import Derived.Test.YtjkgijfddgppjaaN1
import Derived.Test.YtjkgijfddgppjaaShelf
namespace Go.Proofs.Ytjkgijfddgppjaa
open Go.RowKit Go.Shelf

theorem info92 : (Try.prog.info? 92).map (·.size) = some 2 := by kernel_rfl
theorem lies92 : liesAt Try.prog Try.prog.depth 92 (2 / Try.prog.cellsOf 92) 0 92 1 = true := by kernel_rfl
theorem info5 : (Try.prog.info? 5).map (fun i => (i.zero, i.size, i.bytes)) = some (some (.int .u8 0), 1, 1) := by kernel_rfl

set_option maxRecDepth 100000 in
set_option maxHeartbeats 1000000 in
theorem cc_used (b : Nat) (w : World) (h0 : w.cell? ⟨b, 0, none⟩ = some (.pointer (some ⟨b, 0, none⟩))) :
    Calls Try.prog 58 #[.pointer (some ⟨b, 0, none⟩)] w fun e w' => e = .returned (.tuple #[]) ∧ w' = w := by
  obtain ⟨j, hj, _⟩ := Option.map_eq_some_iff.1 info92
  go_enter Try.func58, Try.ntmps58
  go_wp2
  rw [Lib.run_neq_ptr_same w _ Try.underlying90 hj]
  go_wp2
  go_end0
  exact ⟨rfl, rfl⟩

set_option maxRecDepth 100000 in
set_option maxHeartbeats 1000000 in
theorem cc_fresh (b : Nat) (w : World) (h0 : w.cell? ⟨b, 0, none⟩ = some (.pointer none)) (hsh : w.shape? b = some (92, 2)) (hfz : w.frozen? ⟨b, 0, none⟩ = false) :
    Calls Try.prog 58 #[.pointer (some ⟨b, 0, none⟩)] w fun e w' => e = .returned (.tuple #[]) ∧ w' = w.setCell ⟨b, 0, none⟩ (.pointer (some ⟨b, 0, none⟩)) := by
  obtain ⟨j, hj, hjs⟩ := Option.map_eq_some_iff.1 info92
  go_enter Try.func58, Try.ntmps58
  go_wp2
  rw [Lib.run_to_unsafe w ⟨b, 0, none⟩ Try.underlying90 Try.underlying114 hj (by rw [hjs]; decide) hsh (Nat.zero_lt_succ 1)]
  simp only [Result.andThen]
  rw [Oper.upon_value]
  go_wp2
  rw [run_callFunc_extern Try.func69 (by kernel_rfl) (by kernel_rfl) (by kernel_rfl) (e := Extern.AbiNoEscape.same) (by kernel_rfl)]
  rw [Lib.run_noEscape]
  simp only [Result.andThen]
  rw [Oper.upon_value]
  go_wp2
  rw [Lib.run_from_unsafe w ⟨b, 0, none⟩ Try.underlying114 Try.underlying90 hj hsh lies92]
  simp only [Result.andThen]
  rw [Oper.upon_value]
  go_wp2
  go_end0
  exact ⟨rfl, rfl⟩

theorem cc_any (B b : Nat) (bs : List Value) (w : World) (h : Lib.IsBuilderF 92 5 B b bs w) :
    Calls Try.prog 58 #[.pointer (some ⟨b, 0, none⟩)] w fun e w' => e = .returned (.tuple #[]) ∧ (Lib.BuilderAtF 92 5 B b (.pointer (some ⟨b, 0, none⟩)) bs w' ∧ Below B w w') := by
  rcases h with h | h
  · refine (cc_fresh b w h.cell0 h.shape h.frozen0).mono ?_
    rintro e w' ⟨rfl, rfl⟩
    exact ⟨rfl, h.used _, (Below.refl B w).setCell (p := ⟨b, 0, none⟩) h.1 _⟩
  · refine (cc_used b w h.cell0).mono ?_
    rintro e w' ⟨rfl, rfl⟩
    exact ⟨rfl, h, Below.refl B _⟩

set_option maxHeartbeats 2000000 in
set_option maxRecDepth 100000 in
theorem write_byte (B b : Nat) (bs : List Value) (c : Int) (w : World) (h : Lib.IsBuilderF 92 5 B b bs w) (hlen : bs.length + 1 ≤ 140737488355328) (hBw : B ≤ w.heap.size) :
    Calls Try.prog 40 #[.pointer (some ⟨b, 0, none⟩), .int .u8 c] w fun e w' => e = .returned .nilIface ∧ (Lib.BuilderAtF 92 5 B b (.pointer (some ⟨b, 0, none⟩)) (bs ++ [.int .u8 c]) w' ∧ Below B w w') := by
  obtain ⟨i0, hi, hz0, hz1, hz2⟩ := info_parts info5
  go_enter Try.func40, Try.ntmps40
  go_wp2_with (go_at_call 58; refine (cc_any B b bs _ h).mono ?_)
  rintro e w1 ⟨rfl, h1, hb1⟩
  obtain ⟨hB, v, hbk, hown, hne⟩ := h1
  have c1 : w1.cell? ⟨b, 1, none⟩ = some v := blk_cells hbk rfl
  go_wp2_with (at_builtin; refine wpList_append_ownF _ rfl _ _ 85 rfl B 5 i0 (.int .u8 0) 1 1 Try.underlying85 hi hz0 hz1 hz2 rfl (by decide) _ _ _ rfl (hown.alloc _) ⟨w1.heap.size, 0, none⟩ 1 1 [.int .u8 c] rfl rfl ?c1 ?c2 ?c3 ?c4 ?c5 ?_)
  case c1 =>
    intro j u hj
    match j, hj with
    | 0, hj => simp at hj; subst hj; simp [Addr.add]
  case c2 => intro u hu; simp at hu; subst hu; rfl
  case c3 => unfold maxLen; omega
  case c4 => omega
  case c5 => have := hb1.size; simp; omega
  intro v' w2 hown' hgrow _
  have hlt := blk_lt hbk
  have hb2 : w2.heap[b]? = some (.cells #[.pointer (some ⟨b, 0, none⟩), v] 92 (0, 0)) := by
    rw [hgrow.block b (by simp; omega) (fun e => hne e.symm), Below.heap_alloc _ _ _ hlt]
    exact hbk
  have f1 : w2.frozen? ⟨b, 1, none⟩ = false := blk_fz hb2 1
  have d1 : w2.cell? ⟨b, 1, none⟩ = some v := blk_cells hb2 rfl
  obtain ⟨ao, n', cap, rfl⟩ : ∃ ao n' cap, v' = .slice ao n' cap := by
    rcases hown'.2 with ⟨hv, _⟩ | ⟨g, cap, cur, fz, hv, _⟩
    · exact ⟨_, _, _, hv⟩
    · exact ⟨_, _, _, hv⟩
  go_wp2
  go_ret
  refine ⟨rfl, ?_, ?_⟩
  · exact Lib.BuilderAtF.put (T := 92) (e := 5) hB hb2 (bs' := bs ++ [.int .u8 c]) (by simpa using hown') (by decide)
  · have hb3 : Below B w (w1.alloc (.cells #[.int .u8 c] 5)) := hb1.alloc (by have := hb1.size; omega) _
    exact (hb3.grown hgrow (by have := hb3.size; omega) (fun k hk => (hown.lt k hk).1)).setCell (p := ⟨b, 1, none⟩) hB _

set_option maxHeartbeats 2000000 in
set_option maxRecDepth 100000 in
theorem write_str (B b : Nat) (bs : List Value) (s : ByteArray) (w : World) (h : Lib.IsBuilderF 92 5 B b bs w) (hlen : bs.length + s.size ≤ 140737488355328) (hBw : B ≤ w.heap.size) :
    Calls Try.prog 39 #[.pointer (some ⟨b, 0, none⟩), .string s] w fun e w' => e = .returned (.tuple #[.int .i64 s.size, .nilIface]) ∧ (Lib.BuilderAtF 92 5 B b (.pointer (some ⟨b, 0, none⟩)) (bs ++ Lib.strCells s) w' ∧ Below B w w') := by
  obtain ⟨i0, hi, hz0, hz1, hz2⟩ := info_parts info5
  go_enter Try.func39, Try.ntmps39
  go_wp2_with (go_at_call 58; refine (cc_any B b bs _ h).mono ?_)
  rintro e w1 ⟨rfl, h1, hb1⟩
  obtain ⟨hB, v, hbk, hown, hne⟩ := h1
  have c1 : w1.cell? ⟨b, 1, none⟩ = some v := blk_cells hbk rfl
  go_wp2_with (at_builtin; refine Lib.wpList_append_own_stringF _ rfl _ _ 85 9 rfl B 5 i0 Try.underlying85 Try.underlying9 hi hz0 hz1 hz2 _ _ _ rfl hown s rfl ?c3 ?c4 ?c5 ?_)
  case c3 => unfold maxLen; omega
  case c4 => omega
  case c5 => have := hb1.size; omega
  intro v' w2 hown' hgrow _
  have hlt := blk_lt hbk
  have hb2 : w2.heap[b]? = some (.cells #[.pointer (some ⟨b, 0, none⟩), v] 92 (0, 0)) := by
    rw [hgrow.block b hlt (fun e => hne e.symm)]
    exact hbk
  have f1 : w2.frozen? ⟨b, 1, none⟩ = false := blk_fz hb2 1
  have d1 : w2.cell? ⟨b, 1, none⟩ = some v := blk_cells hb2 rfl
  obtain ⟨ao, n', cap, rfl⟩ : ∃ ao n' cap, v' = .slice ao n' cap := by
    rcases hown'.2 with ⟨hv, _⟩ | ⟨g, cap, cur, fz, hv, _⟩
    · exact ⟨_, _, _, hv⟩
    · exact ⟨_, _, _, hv⟩
  go_wp2
  go_ret2
  refine ⟨rfl, ?_, ?_⟩
  · exact Lib.BuilderAtF.put (T := 92) (e := 5) hB hb2 (bs' := bs ++ Lib.strCells s) (by simpa [Lib.strCells_length] using hown') (by decide)
  · exact (hb1.grown hgrow (by have := hb1.size; omega) (fun k hk => (hown.lt k hk).1)).setCell (p := ⟨b, 1, none⟩) hB _

/-- Is a byte spelt as it is? -/
def plainZ (n : Int) : Bool := decide (32 ≤ n ∧ n ≤ 126 ∧ n ≠ 34 ∧ n ≠ 92)

set_option maxRecDepth 100000 in
set_option maxHeartbeats 1000000 in
theorem plain_any (n : Int) (w : World) : Calls Try.prog 36 #[.int .u8 n] w fun e w' => e = .returned (.bool (plainZ n)) ∧ w' = w := by
  unfold plainZ
  by_cases h1 : 32 ≤ n
  · by_cases h2 : n ≤ 126
    · by_cases h3 : n = 34
      · rw [decide_eq_false (by omega)]
        go_enter Try.func36, Try.ntmps36
        go_wp2
        go_ret
        exact ⟨rfl, rfl⟩
      · by_cases h4 : n = 92
        · rw [decide_eq_false (by omega)]
          go_enter Try.func36, Try.ntmps36
          go_wp2
          go_ret
          exact ⟨rfl, rfl⟩
        · rw [decide_eq_true (by omega)]
          have h5 : (n != 34) = true := by simpa using h3
          have h6 : (n != 92) = true := by simpa using h4
          go_enter Try.func36, Try.ntmps36
          go_wp2
          go_ret
          exact ⟨rfl, rfl⟩
    · rw [decide_eq_false (by omega)]
      go_enter Try.func36, Try.ntmps36
      go_wp2
      go_ret
      exact ⟨rfl, rfl⟩
  · rw [decide_eq_false (by omega)]
    go_enter Try.func36, Try.ntmps36
    go_wp2
    go_ret
    exact ⟨rfl, rfl⟩

/-- A byte, spelt. -/
def hexZ (n : Int) : Int := if n < 10 then 48 + n else 87 + n
def hexB (n : Nat) : UInt8 := UInt8.ofNat (hexZ n).toNat
def encB (b : UInt8) : List UInt8 := if plainZ b.toNat then [b] else [92, 120, hexB (b.toNat / 16), hexB (b.toNat % 16)]
def spellL (x : List UInt8) : List UInt8 := 34 :: (x.flatMap encB ++ [34])

theorem run_digit (k : IntKind) (i : Int) (h : 0 ≤ i ∧ i < 16) (w : World) : (Instr.index 9 (.string ⟨#[48, 49, 50, 51, 52, 53, 54, 55, 56, 57, 97, 98, 99, 100, 101, 102]⟩) (.int k i)).run Try.prog w = .ok (.int .u8 (hexZ i)) w := by
  rw [run_index_string _ _ _ _ _ Try.underlying9]
  obtain ⟨n, rfl⟩ : ∃ n : Nat, i = n := ⟨i.toNat, by omega⟩
  have hn : n < 16 := by omega
  rcases n with _ | _ | _ | _ | _ | _ | _ | _ | _ | _ | _ | _ | _ | _ | _ | _ | n
  all_goals first | (exfalso; omega) | rfl

theorem run_byte (x : List UInt8) (k : Nat) (h : k < x.length) (w : World) : (Instr.index 9 (.string ⟨x.toArray⟩) (.int .i64 (k : Int))).run Try.prog w = .ok (.int .u8 (x[k].toNat : Int)) w := by
  rw [run_index_string _ _ _ _ _ Try.underlying9, dif_pos ⟨by omega, by simp [ByteArray.size]; exact h⟩]
  rfl

theorem digit_eq (m : Nat) (h : m < 16) : (⟨#[48, 49, 50, 51, 52, 53, 54, 55, 56, 57, 97, 98, 99, 100, 101, 102]⟩ : ByteArray)[m]'(by simpa [ByteArray.size] using h) = hexB m := by
  rcases m with _ | _ | _ | _ | _ | _ | _ | _ | _ | _ | _ | _ | _ | _ | _ | _ | m
  all_goals first | (exfalso; omega) | rfl

theorem enc_len (x : List UInt8) : (x.flatMap encB).length ≤ 4 * x.length := by
  induction x with
  | nil => simp
  | cons a r ih =>
    simp only [List.flatMap_cons, List.length_append, List.length_cons]
    have : (encB a).length ≤ 4 := by unfold encB; split <;> simp
    omega

theorem enc_succ (x : List UInt8) (k : Nat) (h : k < x.length) : (x.take (k + 1)).flatMap encB = (x.take k).flatMap encB ++ encB x[k] := by
  rw [List.take_succ_eq_append_getElem h, List.flatMap_append]; simp

theorem byteCells_append (a b : List UInt8) : Lib.byteCells (a ++ b) = Lib.byteCells a ++ Lib.byteCells b := by simp [Lib.byteCells]

theorem new_builder (w : World) : Lib.IsBuilderF 92 5 w.heap.size w.heap.size [] (w.alloc (.cells #[.pointer none, .slice none 0 0] 92)) :=
  Or.inl ⟨Nat.le_refl _, _, heap_new _ _, World.ownsRowF_nil _ _ _ _, by simp [Value.ownBlock]⟩

set_option maxRecDepth 100000 in
set_option maxHeartbeats 4000000 in
theorem spell_any (x : List UInt8) (w : World) (hx : x.length ≤ 1000000000000) :
    Calls Try.prog 14 #[.string ⟨x.toArray⟩] w fun e w' => e = .returned (.string ⟨(spellL x).toArray⟩) ∧ Old w w' := by
  have hI := fun k (h : k < x.length) => run_byte x k h
  obtain ⟨s, hs⟩ : ∃ s : ByteArray, (⟨x.toArray⟩ : ByteArray) = s := ⟨_, rfl⟩
  have hz : s.size = x.length := by rw [← hs]; simp [ByteArray.size]
  rw [hs]
  simp only [hs] at hI
  go_enter Try.func14, Try.ntmps14
  go_wp2_with (go_at_call 39; refine (write_str w.heap.size w.heap.size [] _ _ (new_builder w) (by decide) (by simp)).mono ?_)
  rintro e w1 ⟨rfl, h1, hb1⟩
  go_wp2_with fail
  go_loopw [4, 5, 9] (fun _ _ t wr => ∃ k : Nat, k ≤ x.length ∧ t = .int .i64 (k : Int) ∧ Lib.BuilderAtF 92 5 w.heap.size w.heap.size (.pointer (some ⟨w.heap.size, 0, none⟩)) (Lib.byteCells (34 :: (x.take k).flatMap encB)) wr ∧ Below w.heap.size w wr) (fun _ _ t _ => x.length - (intOf t).toNat)
  case atStart => exact ⟨0, Nat.zero_le _, rfl, h1, ((Below.refl _ w).alloc (Nat.le_refl _) _).trans hb1⟩
  case round =>
    obtain ⟨k, hk, rfl, hb, hw⟩ := hrel
    have kl : ∀ m : Nat, m ≤ 4 → (Lib.byteCells (34 :: (x.take k).flatMap encB)).length + m ≤ 140737488355328 := fun m hm => by
      have := enc_len (x.take k)
      rw [List.length_take] at this
      simp only [Lib.byteCells_length, List.length_cons]
      omega
    have hS := hw.size
    have hw' := hid hw
    clear hw
    by_cases hlt : k < x.length
    · have hIk := hI k hlt
      have hn : x[k].toNat < 256 := x[k].toNat_lt
      have hE := hid (enc_succ x k hlt)
      have hU : Hid (encB x[k] = if plainZ x[k].toNat then [x[k]] else [92, 120, hexB (x[k].toNat / 16), hexB (x[k].toNat % 16)]) := rfl
      have hV : Hid (Lib.byteCells [x[k]] = [.int .u8 (x[k].toNat : Int)]) := rfl
      generalize x[k] = y at hE hU hIk hV hn
      generalize y.toNat = n at hIk hU hV hn
      clear hI
      cases hp : plainZ n
      · have hD1 := hid (digit_eq (n / 16) (by omega))
        have hD2 := hid (digit_eq (n % 16) (by omega))
        go_wp2_with (go_at_call 36; refine (plain_any (n : Int) _).mono ?_; rintro e w' ⟨rfl, rfl⟩)
        refine (write_str w.heap.size w.heap.size _ ⟨#[92, 120]⟩ _ (Or.inr hb) (kl 2 (by omega)) hS).mono ?_
        rintro e w2 ⟨rfl, h2, b2⟩
        go_wp2_with fail
        refine (write_byte w.heap.size w.heap.size _ _ _ (Or.inr h2) (by rw [List.length_append]; exact kl 3 (by omega)) (Nat.le_trans hS b2.size)).mono ?_
        rintro e w3 ⟨rfl, h3, b3⟩
        go_wp2_with fail
        refine (write_byte w.heap.size w.heap.size _ _ _ (Or.inr h3) (by rw [List.length_append, List.length_append]; exact kl 4 (by omega)) (Nat.le_trans (Nat.le_trans hS b2.size) b3.size)).mono ?_
        rintro e w4 ⟨rfl, h4, b4⟩
        go_wp2_with fail
        go_roundw
        case rel =>
          refine ⟨k + 1, by omega, by go_num, ?_, ((hw'.out.trans b2).trans b3).trans b4⟩
          rw [hE.out, hU.out, hp, ← List.cons_append, byteCells_append]
          rw [hD1.out, hD2.out] at h4
          simpa [Lib.byteCells, Lib.strCells] using h4
        case measure => simp [intOf]; omega
      · go_wp2_with (go_at_call 36; refine (plain_any (n : Int) _).mono ?_; rintro e w' ⟨rfl, rfl⟩)
        refine (write_byte w.heap.size w.heap.size _ _ _ (Or.inr hb) (kl 1 (by omega)) hS).mono ?_
        rintro e w2 ⟨rfl, h2, b2⟩
        go_wp2_with fail
        go_roundw
        case rel =>
          refine ⟨k + 1, by omega, by go_num, ?_, hw'.out.trans b2⟩
          rw [hE.out, hU.out, hp, ← List.cons_append, byteCells_append, if_pos rfl, hV.out]
          exact h2
        case measure => simp [intOf]; omega
    · obtain rfl : k = x.length := by omega
      go_wp2_with fail
      refine (write_str w.heap.size w.heap.size _ ⟨#[34]⟩ _ (Or.inr hb) (kl 1 (by omega)) hS).mono ?_
      rintro e w2 ⟨rfl, h2, b2⟩
      go_wp2_with fail
      have h3 : Lib.BuilderAtF 92 5 w.heap.size w.heap.size (.pointer (some ⟨w.heap.size, 0, none⟩)) (Lib.byteCells (spellL x)) w2 := by
        rw [List.take_length] at h2
        simpa [spellL, Lib.byteCells, Lib.strCells] using h2
      refine (Try.Builder_String_any_f w.heap.size w.heap.size (spellL x) w2 (Or.inr h3) (Nat.le_trans hS b2.size)).mono ?_
      rintro e w3 ⟨rfl, _, b3⟩
      go_wp2_with fail
      go_ret
      exact ⟨rfl, Old.of_below ((hw'.out.trans b2).trans b3)⟩
end Go.Proofs.Ytjkgijfddgppjaa
