/- Copies of bytes, texts, real numbers, lists. -/
import Derived.Test.YtchjkcghaddmhaaW3
import Derived.Lib.AppendStr
import Derived.Laws.AppendOwnNone
namespace Go.Proofs.Ytchjkcghaddmhaa
open Go.RowKit

/-- A string is appended to bytes of the call's own; where the new slice lies. -/
theorem run_append_str_lies {P : Program} (w : World) (base : Nat) (t u ty e : TypeId) (i : TypeInfo) (ht : P.underlying t = some (.slice e)) (hu : P.underlying u = some .string) (hi : P.info? e = some i) (hz : i.zero = some (.int .u8 0))
    (hsize : i.size = 1) (hby : i.bytes = 1) (v : Value) (n : Nat) (xs : List Value) (hown : w.ownsRow base e 1 v n xs) (s : ByteArray)
    (h63 : n + s.size ≤ maxLen) (hbytes : n + s.size ≤ 140737488355328) (hbase : base ≤ w.heap.size) :
    ∃ v' w', (Builtin.append_ #[t, u] ty #[v, .string s]).run P w = .ok v' w' ∧ w'.ownsRow base e 1 v' (n + s.size) (xs ++ Lib.strCells s) ∧ w.grownBy w' v.ownBlock ∧
      (v'.ownBlock = v.ownBlock ∨ v'.ownBlock = some w.heap.size) := by
  obtain ⟨v', w', hr, h2, h3, h4⟩ := Lib.run_append_own_string (P := P) w base t u ty e i ht hu hi hz hsize hby v n xs hown s h63 hbytes hbase
  refine ⟨v', w', hr, h2, h3, ?_⟩
  have hm63 : n + s.size ≤ 9223372036854775807 := by simp only [maxLen] at h63; omega
  rcases hown.2 with ⟨rfl, rfl⟩ | ⟨g, cap, cur, rfl, hbg, hg, hnc, hcm, hcs, htake⟩
  · by_cases hm : s.size = 0
    · rw [h4.2 ⟨rfl, hm⟩]; exact .inl rfl
    · have hr2 := run_append_nil_string (P := P) w t u ty e i (.int .u8 0) ht hu hi hz s (by omega) (by omega) (by rw [hby]; omega)
      rw [hr2] at hr
      injection hr with e1 e2
      rw [← e1]; exact .inr rfl
  · by_cases hroom : n + s.size ≤ cap
    · have hr2 := Lib.run_append_room_string (P := P) w t u ty e i ht hu hi hsize g n cap cur hg s hroom (by omega)
      rw [hr2] at hr
      injection hr with e1 e2
      rw [← e1]; exact .inl rfl
    · have hr2 := Lib.run_append_grow_string (P := P) w t u ty e i (.int .u8 0) ht hu hi hz ⟨g, 0, none⟩ n cap xs (by rw [hsize]; simpa using hown.1) (hown.cells (g := g) rfl) s (by omega) (by omega) (by rw [hby]; exact growslice_fits (by omega) (by omega))
      rw [hr2] at hr
      injection hr with e1 e2
      rw [← e1]; exact .inr rfl

theorem wpList_append_str_lies {P : Program} {w : World} {ops : Array Oper} {rest : List Oper} {o : Oper} {a : Act} {Q : Exit → Act → World → Prop} (hgd : o.guard = none) (sl x : Operand) (t u : TypeId)
    (ho : o.op = .call { callee := .builtin .append, args := #[sl, x], argTypes := #[t, u] })
    (base : Nat) (e : TypeId) (i : TypeInfo) (ht : P.underlying t = some (.slice e)) (hu : P.underlying u = some .string) (hi : P.info? e = some i) (hz : i.zero = some (.int .u8 0))
    (hsize : i.size = 1) (hby : i.bytes = 1)
    (v : Value) (n : Nat) (xs : List Value) (hs : a.eval sl = v) (hown : w.ownsRow base e 1 v n xs) (s : ByteArray) (hx : a.eval x = .string s)
    (h63 : n + s.size ≤ maxLen) (hbytes : n + s.size ≤ 140737488355328) (hbase : base ≤ w.heap.size)
    (h : ∀ ao cap w', w'.ownsRow base e 1 (.slice ao (n + s.size) cap) (n + s.size) (xs ++ Lib.strCells s) → w.grownBy w' v.ownBlock → ((Value.slice ao (n + s.size) cap).ownBlock = v.ownBlock ∨ (Value.slice ao (n + s.size) cap).ownBlock = some w.heap.size) →
      wpList P ops Q rest (a.put o.dst (.slice ao (n + s.size) cap)) w') : wpList P ops Q (o :: rest) a w := by
  refine wpList_plain hgd fun K hK => ?_
  obtain ⟨v', w', hr, h2, h3, h4⟩ := run_append_str_lies (P := P) w base t u o.type e i ht hu hi hz hsize hby v n xs hown s h63 hbytes hbase
  obtain ⟨ao, cap, rfl⟩ := slice_of_owns h2
  unfold Oper.wp execOp
  simp only [ho, resolve, invoke, builtin, Sem.run_bind, Sem.run_pure, Result.andThen_ok, List.map_toArray, List.map_cons, List.map_nil, hs, hx, hr]
  exact hK _ _ (h ao cap w' h2 h3 h4)

theorem strCells_eq (s : ByteArray) : Lib.strCells s = s.data.toList.map byteV := by
  simp only [Lib.strCells]; rfl

set_option maxRecDepth 100000 in
set_option maxHeartbeats 1000000 in
theorem wtext_any (b : Nat) (r : Option Nat) (xs : List UInt8) (s : ByteArray) (w : World) (hw : Wr w b r xs) (hs : s.size ≤ 300000000000) (hlen : xs.length ≤ 300000000000) :
    Calls Try.prog 37 #[.pointer (some ⟨b, 0, none⟩), .string s] w fun e w' => e = .returned (.int .i64 0) ∧ WrOut w b r (xs ++ numF s.size ++ s.data.toList) w' := by
  obtain ⟨i0, hi0, hz0, hz1, hz2⟩ := info_parts Try.info5
  have hnl := numF_length s.size
  have hzb := sz_bd s.size
  go_enter Try.func37, Try.ntmps37
  go_wp2_with fail
  refine (wnumber_any b r xs _ _ hw (by omega) (by omega) (by omega)).mono ?_
  rintro e w1 ⟨rfl, r1, hw1, hf1, hr1⟩
  rw [show ((s.size : Int)).toNat = s.size from by omega] at hw1
  have hl2 : (xs ++ numF s.size).length ≤ 300000000009 := by rw [List.length_append, hnl]; omega
  generalize hy : xs ++ numF s.size = ys at *
  have HY : Hid (xs ++ numF s.size = ys) := hy
  clear hy
  obtain ⟨v, hv, hrow1, hrow2⟩ := hw1
  obtain ⟨hc, hfz⟩ := cell_wr hv
  have hbr : b < w1.heap.size := (Array.getElem?_eq_some_iff.1 hv).1
  go_wp2_with (at_builtin; refine wpList_append_str_lies (by rfl) _ _ 25 9 (by rfl) (b + 1) 5 i0 Try.underlying25 Try.underlying9 hi0 hz0 hz1 hz2 v ys.length (ys.map byteV) (by rfl) hrow2 s (by rfl) (by unfold maxLen; omega) (by omega) (by omega) ?_; intro ao cap w2 hown2 hgrow hat; obtain ⟨hc2, hfz2⟩ := cell_wr (wr_grown hv hrow2 (Frm.refl _ _) hgrow))
  go_ret
  refine ⟨rfl, ?_⟩
  rw [strCells_eq] at hown2
  rw [HY.out]
  exact wr_step2 (zs := s.data.toList) hf1 hr1 hv hrow1 hrow2 (Frm.refl _ _) hgrow (by rw [List.length_append]; rfl) hown2 hat (Nat.le_refl _)

set_option maxRecDepth 100000 in
set_option maxHeartbeats 1000000 in
theorem fresh_any (v : Value) (base : Nat) (r : Option Nat) (xs : List UInt8) (w : World) (hrow : Row w base v r xs) (hlen : xs.length ≤ 900000000000) :
    Calls Try.prog 53 #[v] w fun e w' => ∃ v', e = .returned v' ∧ Row w' w.heap.size v' v'.ownBlock xs ∧ Frm (fun _ => False) w w' := by
  obtain ⟨i0, hi0, hz0, hz1, hz2⟩ := info_parts Try.info5
  obtain ⟨hr1, hr2⟩ := hrow
  rcases hr2.2 with ⟨rfl, hn⟩ | ⟨g, cap, cur, rfl, hbg, hg, hnc, hcm, hcs, htake⟩
  · obtain rfl : xs = [] := List.eq_nil_of_length_eq_zero hn
    go_enter Try.func53, Try.ntmps53
    go_wp2_with (at_builtin; refine wpList_append_own_none (by rfl) _ _ 25 (by rfl) w.heap.size 5 i0 1 Try.underlying25 hi0 (.slice none 0 0) 0 [] (by rfl) (World.ownsRow_nil _ _ _ _) (by rfl) ?_)
    go_ret
    exact ⟨_, rfl, ⟨rfl, World.ownsRow_nil _ _ _ _⟩, Frm.refl _ _⟩
  · have hcells := hr2.cells (g := g) rfl
    go_enter Try.func53, Try.ntmps53
    go_wp2_with (at_builtin; refine wpList_append_own _ (by rfl) _ _ 25 (by rfl) w.heap.size 5 i0 _ 1 1 Try.underlying25 hi0 hz0 hz1 hz2 rfl (by omega) (.slice none 0 0) 0 [] (by rfl) (World.ownsRow_nil _ _ _ _) ⟨g, 0, none⟩ xs.length cap (xs.map byteV) (by rfl) (by simp) hcells (by intro u hu; simp at hu; obtain ⟨x, _, rfl⟩ := hu; rfl) (by unfold maxLen; omega) (by omega) (Nat.le_refl _) ?_; intro v' w' hown hgrow _)
    go_ret
    simp only [Nat.zero_add, List.nil_append] at hown
    exact ⟨v', rfl, ⟨rfl, hown⟩, ⟨hgrow.os, hgrow.tape, hgrow.output, hgrow.size, fun k hk _ => hgrow.block k hk (by simp [Value.ownBlock])⟩⟩

set_option maxHeartbeats 1000000 in
theorem wbytes_any (b : Nat) (r : Option Nat) (xs : List UInt8) (w : World) (hw : Wr w b r xs) (hlen : xs.length ≤ 900000000000) :
    Calls Try.prog 13 #[.pointer (some ⟨b, 0, none⟩)] w fun e w' => ∃ v', e = .returned v' ∧ Row w' w.heap.size v' v'.ownBlock xs ∧ Frm (fun _ => False) w w' := by
  obtain ⟨v, hv, hrow⟩ := hw
  obtain ⟨hc, hfz⟩ := cell_wr hv
  go_enter Try.func13, Try.ntmps13
  go_wp2_with fail
  refine (fresh_any v (b + 1) r xs _ hrow hlen).mono ?_
  rintro e w1 ⟨v', rfl, hrow', hf⟩
  go_wp2
  go_ret
  exact ⟨v', rfl, hrow', hf⟩

theorem f64bits (x : Nat) (w : World) : (callFunc 56 #[.float .f64 x]).run Try.prog w = .ok (.value (.int .u64 (x : Int))) w := by kernel_rfl
theorem f64from (x : Nat) (w : World) : (callFunc 48 #[.int .u64 (x : Int)]).run Try.prog w = .ok (.value (.float .f64 x)) w := by kernel_rfl

set_option maxHeartbeats 1000000 in
theorem wreal_any (b : Nat) (r : Option Nat) (xs : List UInt8) (x : Nat) (w : World) (hw : Wr w b r xs) (hlen : xs.length ≤ 800000000000) :
    Calls Try.prog 36 #[.pointer (some ⟨b, 0, none⟩), .float .f64 x] w fun e w' => e = .returned (.int .i64 0) ∧ WrOut w b r (xs ++ be 8 x) w' := by
  have hfb := f64bits
  go_enter Try.func36, Try.ntmps36
  go_wp2_with fail
  refine (high_any b r xs x 8 _ hw (by omega) (by omega)).mono ?_
  rintro e w1 ⟨rfl, ho⟩
  clear hfb
  go_wp2
  go_ret
  exact ⟨rfl, ho⟩

theorem put_any (b : Nat) (r : Option Nat) (xs : List UInt8) (x : Int) (w : World) (hw : Wr w b r xs) (hx : 0 ≤ x) (hX : x ≤ 18446744073709551615) (hlen : xs.length ≤ 800000000000) :
    Calls Try.prog 39 #[.pointer (some ⟨b, 0, none⟩), .int .u64 x] w fun e w' => e = .returned (.tuple #[]) ∧ WrOut w b r (xs ++ numF x.toNat) w' := by
  go_enter Try.func39, Try.ntmps39
  go_wp2_with fail
  refine (wnumber_any b r xs x _ hw hx hX hlen).mono ?_
  rintro e w1 ⟨rfl, ho⟩
  go_wp2
  go_end0
  exact ⟨rfl, ho⟩

/-- What a list of numbers is written as, each by its form. -/
def numsF (L : List Nat) : List UInt8 := L.flatMap numF

theorem numsF_length (L : List Nat) : (numsF L).length ≤ 9 * L.length := by
  induction L with
  | nil => simp [numsF]
  | cons x L ih =>
    have h1 := numF_length x
    have h2 := sz_bd x
    have : numsF (x :: L) = numF x ++ numsF L := by simp [numsF]
    rw [this, List.length_append, List.length_cons]
    omega

theorem numsF_snoc (L : List Nat) (k : Nat) (h : k < L.length) : numsF (L.take (k + 1)) = numsF (L.take k) ++ numF L[k] := by
  rw [List.take_succ_eq_append_getElem h]; simp only [numsF, List.flatMap_append, List.flatMap_cons, List.flatMap_nil, List.append_nil]

/-- The slice value over cells that hold the numbers L, none of them the writer's. -/
def Nums (w : World) (ao : Option Addr) (L : List Nat) (S : Nat → Prop) : Prop :=
  ∀ i (h : i < L.length), ∃ g o, ao = some ⟨g, o, none⟩ ∧ g < w.heap.size ∧ ¬ S g ∧ w.cell? ⟨g, o + i, none⟩ = some (.int .u64 (L[i] : Int))

theorem eql_func (f : Nat) (a c : Array Value) (w : World) : (binOp BinOp.eql 72 (Value.func (Fn.func f) a c) Value.nilFunc).run Try.prog w = .ok (.bool false) w := by kernel_rfl

set_option maxRecDepth 100000 in
set_option maxHeartbeats 1000000 in
theorem wlist_any (b : Nat) (r : Option Nat) (xs : List UInt8) (ao : Option Addr) (cap : Nat) (L : List Nat) (w : World) (hw : Wr w b r xs) (hN : Nums w ao L (WrS b r)) (hL : ∀ x ∈ L, x < 18446744073709551616) (hlen : xs.length + 9 * L.length ≤ 700000000000) :
    Calls Try.prog 38 #[.pointer (some ⟨b, 0, none⟩), .slice ao L.length cap, .func (.func 39) #[] #[]] w fun e w' => e = .returned (.int .i64 0) ∧ WrOut w b r (xs ++ numF L.length ++ numsF L) w' := by
  have hnl := numF_length L.length
  have hzb := sz_bd L.length
  have hnf := fun w => eql_func 39 #[] #[] w
  go_enter Try.func38, Try.ntmps38
  go_wp2_with fail
  refine (wnumber_any b r xs _ _ hw (by omega) (by omega) (by omega)).mono ?_
  rintro e w1 ⟨rfl, r1, hw1, hf1, hr1⟩
  rw [show ((L.length : Int)).toNat = L.length from by omega] at hw1
  have ho1 : WrOut w b r (xs ++ numF L.length ++ numsF (L.take 0)) w1 := ⟨r1, by simpa [numsF] using hw1, hf1, hr1⟩
  clear hw1 hf1 hr1 hnf
  go_wp2_with fail
  go_loopw [8, 22] (fun _ s wr => ∃ k : Nat, k ≤ L.length ∧ s = .int .i64 (k : Int) ∧ WrOut w b r (xs ++ numF L.length ++ numsF (L.take k)) wr) (fun _ s _ => L.length - (intOf s).toNat)
  case atStart => exact ⟨0, Nat.zero_le _, rfl, ho1⟩
  case round =>
    obtain ⟨k, hk, rfl, r2, hw2, hf2, hr2⟩ := hrel
    by_cases hlt : k < L.length
    · obtain ⟨g, o, hao, hg1, hg2, hc⟩ := hN k hlt
      subst hao
      have hc2 : wr.cell? ⟨g, o + k, none⟩ = some (.int .u64 (L[k] : Int)) := by
        rw [World.cell?_of_block (w := w) (hf2.block g hg1 hg2)]; exact hc
      have hLk := hL L[k] (List.getElem_mem hlt)
      have hnk := numsF_length (L.take k)
      rw [List.length_take] at hnk
      have hst := numsF_snoc L k hlt
      generalize hy : L[k] = y at *
      have HY : Hid (L[k] = y) := hy
      have HS : Hid (numsF (L.take (k + 1)) = numsF (L.take k) ++ numF y) := hst
      clear hy hst hc
      have hl3 : (xs ++ numF L.length ++ numsF (L.take k)).length ≤ 800000000000 := by simp only [List.length_append]; omega
      go_wp2_with fail
      refine (put_any b r2 _ _ _ hw2 (by omega) (by omega) hl3).mono ?_
      rintro e w3 ⟨rfl, ho3⟩
      rw [show ((y : Int)).toNat = y from by omega, List.append_assoc _ _ (numF y), ← HS.out] at ho3
      have ho4 := WrOut.next hf2 hr2 ho3
      clear ho3
      go_wp2
      go_roundw
      case rel => exact ⟨k + 1, by omega, by go_num, ho4⟩
      case measure => simp [intOf]; omega
    · obtain rfl : k = L.length := by omega
      rw [List.take_length] at hw2
      go_wp2_with fail
      go_ret
      exact ⟨rfl, r2, hw2, hf2, hr2⟩

end Go.Proofs.Ytchjkcghaddmhaa
