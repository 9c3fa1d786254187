/- The document's forms of texts and real numbers, and of whatever is to be written. -/
import Derived.Test.YtchjkcghaddmhaaF1
import Derived.Test.YtchjkcghaddmhaaB4
import Derived.Laws.OwnMore
namespace Go.Proofs.Ytchjkcghaddmhaa
open Go.RowKit

/-- A form that the document made. -/
def FormO (w : World) (xs : List UInt8) (e : Ending) (w' : World) : Prop :=
  ∃ v, e = .returned v ∧ OwnB w' w.heap.size v xs ∧ Frm (fun _ => False) w w'

theorem OwnB.base {w : World} {base base' : Nat} {v : Value} {xs : List UInt8} (h : OwnB w base v xs) (hb : base' ≤ base) : OwnB w base' v xs := by
  refine ⟨h.1, ?_⟩
  rcases h.2 with h | ⟨g, cap, cur, hv, hg, rest⟩
  · exact .inl h
  · exact .inr ⟨g, cap, cur, hv, Nat.le_trans hb hg, rest⟩

theorem OwnB.kept {w w' : World} {base : Nat} {v : Value} {xs : List UInt8} (h : OwnB w base v xs) (hf : Frm (fun _ => False) w w') : OwnB w' base v xs :=
  (Row.kept (r := v.ownBlock) ⟨rfl, h⟩ hf (fun _ _ e => e)).2

/-- Behind a box. -/
theorem form_unbox {w w' : World} {o : Obj} {v : Value} {xs : List UInt8} (h : OwnB w' (w.alloc o).heap.size v xs) (hf : Frm (fun _ => False) (w.alloc o) w') : FormO w xs (.returned v) w' :=
  ⟨v, rfl, h.base (by simp), ((Frm.refl _ w).alloc o).trans hf (fun _ _ e => e)⟩

set_option maxRecDepth 100000 in
set_option maxHeartbeats 1000000 in
theorem refTextF_any (s : ByteArray) (w : World) (hs : s.size ≤ 300000000000) :
    Calls Try.prog 49 #[.string s] w fun e w' => FormO w (textF s) e w' := by
  obtain ⟨i0, hi0, hz0, hz1, hz2⟩ := info_parts Try.info5
  have hnl := numF_length s.size
  have hzb := sz_bd s.size
  go_enter Try.func49, Try.ntmps49
  go_wp2_with fail
  refine (refNumber_any s.size _ (by show s.size < 18446744073709551616; omega)).mono ?_
  rintro e w1 ⟨v, rfl, hown, hf⟩
  have hsz := hf.size
  go_wp2_with (at_builtin; refine wpList_append_str_lies (by rfl) _ _ 25 9 (by rfl) w.heap.size 5 i0 Try.underlying25 Try.underlying9 hi0 hz0 hz1 hz2 v (numF s.size).length ((numF s.size).map byteV) (by rfl) hown s (by rfl) (by unfold maxLen; omega) (by omega) (by omega) ?_; intro ao cap w2 hown2 hgrow _)
  go_ret
  have hl := hown.lt
  refine ⟨_, rfl, ?_, hf.grown hgrow (fun k hk => .inl (hl k hk).1)⟩
  rw [strCells_eq] at hown2
  unfold OwnB
  rw [show (textF s).length = (numF s.size).length + s.size from by unfold textF; rw [List.length_append]; rfl, show (textF s).map byteV = (numF s.size).map byteV ++ s.data.toList.map byteV from by unfold textF; rw [List.map_append]]
  rw [hnl] at hown2 ⊢
  exact hown2

theorem row_put {w : World} {base : Nat} {g n cap : Nat} {ys : List UInt8} (h : OwnB w base (.slice (some ⟨g, 0, none⟩) n cap) ys) (k : Nat) (c : UInt8) (z : Value) (hz : z = byteV c) (hn : ys.length = n) :
    OwnB (w.setCell ⟨g, k, none⟩ z) base (.slice (some ⟨g, 0, none⟩) n cap) (ys.set k c) := by
  subst hn hz
  obtain ⟨h3, _⟩ := World.ownsRow.stored h k (byteV c)
  unfold OwnB
  rw [List.length_set, List.map_set]
  exact h3

theorem OwnB.ge {w : World} {base : Nat} {g n cap : Nat} {ys : List UInt8} (h : OwnB w base (.slice (some ⟨g, 0, none⟩) n cap) ys) : base ≤ g ∧ g < w.heap.size := h.lt g rfl

theorem set_rep (k : Nat) (c : UInt8) (l : List UInt8) (h : k < 8) : (List.replicate (8 - k) 0 ++ l).set (7 - k) c = List.replicate (8 - (k + 1)) 0 ++ c :: l := by
  have e : 8 - k = (7 - k) + 1 := by omega
  rw [e, List.replicate_succ', List.append_assoc, List.set_append_right _ _ (by simp)]
  simp

theorem make8 (w : World) : ∃ w', (Instr.makeSlice 25 (.int .i64 8) (.int .i64 8)).run Try.prog w = .ok (.slice (some ⟨w.heap.size, 0, none⟩) 8 8) w' ∧ OwnB w' w.heap.size (.slice (some ⟨w.heap.size, 0, none⟩) 8 8) (List.replicate 8 0) ∧ Frm (fun _ => False) w w' := by
  obtain ⟨i0, hi0, hz0, hz1, hz2⟩ := info_parts Try.info5
  obtain ⟨w', h1, h2, h3⟩ := run_makeSlice_full (P := Try.prog) w w.heap.size 25 5 i0 (.int .u8 0) 1 Try.underlying25 hi0 hz0 hz1 .i64 .i64 8 (by decide) (by rw [hz2]; decide) (by decide) (Nat.le_refl _)
  have e : (madeCells (Value.int IntKind.u8 0).cells (8 * 1)).toList = (List.replicate 8 (0 : UInt8)).map byteV := by
    rw [show (Value.int IntKind.u8 0).cells = #[.int .u8 0] from rfl, toList_madeCells_one]; rfl
  rw [e] at h2
  refine ⟨w', h1, h2, ⟨h3.os, h3.tape, h3.output, h3.size, fun k hk _ => h3.block k hk (by simp)⟩⟩

set_option maxRecDepth 100000 in
set_option maxHeartbeats 1000000 in
theorem refRealF_any (X : Nat) (w : World) (hX : Hid (X < 18446744073709551616)) :
    Calls Try.prog 47 #[.float .f64 X] w fun e w' => FormO w (be 8 X) e w' := by
  have hfb := f64bits
  obtain ⟨w1, hmk, hown, hf⟩ := make8 w
  go_enter Try.func47, Try.ntmps47
  go_wp2_with fail
  clear hfb hmk
  go_loopw [3, 5] (fun x i wr => ∃ k y : Nat, k ≤ 8 ∧ Hid (y = X / 256 ^ k) ∧ x = .int .u64 (y : Int) ∧ i = .int .i64 (7 - (k : Int)) ∧ OwnB wr w.heap.size (.slice (some ⟨w.heap.size, 0, none⟩) 8 8) (List.replicate (8 - k) 0 ++ be k X) ∧ Frm (fun _ => False) w wr) (fun _ i _ => (intOf i + 1).toNat)
  case atStart => exact ⟨0, X, by omega, by show X = X / 256 ^ 0; simp, rfl, rfl, by simpa [be] using hown, hf⟩
  case round =>
    clear hown hf
    obtain ⟨k, y, hk, hy, rfl, rfl, hown, hf⟩ := hrel
    by_cases hlt : k < 8
    · have hyb : (y : Int) ≤ 18446744073709551615 := by
        have h1 := hX.out
        have h2 : y ≤ X := by rw [hy.out]; exact Nat.div_le_self _ _
        omega
      have hl : (List.replicate (8 - k) 0 ++ be k X).length = 8 := by simp [be_length]; omega
      have hfz := World.ownsRow.frozenAt (n := 8) (by have h := hown; unfold OwnB at h; rw [hl] at h; exact h) (7 - k)
      obtain ⟨cur, hcur⟩ : ∃ cur, wr.cell? ⟨w.heap.size, 7 - k, none⟩ = some cur := by
        have h := hown
        unfold OwnB at h
        rw [hl] at h
        have hc := h.cellAt (7 - k) (by omega)
        rw [hc, List.getElem?_eq_getElem (by rw [List.length_map, hl]; omega)]
        exact ⟨_, rfl⟩
      have hst := hid (row_put hown (7 - k) (UInt8.ofNat (X / 256 ^ k)) (.int .u8 ((y : Int) % 256)) (by rw [byte_mod, hy.out]) hl)
      have hf2 := hid (hf.setCell ⟨w.heap.size, 7 - k, none⟩ (.inl (Nat.le_refl _)) (.int .u8 ((y : Int) % 256)))
      have e1 : ((7 : Int) - (k : Int)).toNat = 7 - k := by omega
      clear hl
      go_wp2
      go_roundw
      case rel => exact ⟨k + 1, y / 256, by omega, div_step hy.out, by go_num, by go_num, by have h := hst.out; rw [set_rep k _ _ hlt] at h; exact h, hf2.out⟩
      case measure => simp [intOf]; omega
    · obtain rfl : k = 8 := by omega
      go_wp2
      go_ret
      exact ⟨_, rfl, by simpa using hown, hf⟩

theorem ownB_at (w : World) (g : Nat) (hg : g = w.heap.size) (base : Nat) (hb : base ≤ g) (z : Int) (c : UInt8) (hz : byteV c = .int .u8 z) : OwnB (w.alloc (.cells #[.int .u8 z] 5)) base (.slice (some ⟨g, 0, none⟩) 1 1) [c] := by
  subst hg
  have h := ownB_new w base z hb
  rw [← hz] at h ⊢
  exact h

set_option maxRecDepth 100000 in
set_option maxHeartbeats 1000000 in
theorem form_1 (p : PutV) (w : World) (hk : p.kind = 1) (hx : Hid (p.x < 18446744073709551616)) :
    Calls Try.prog 10 #[.agg p.cells] w fun e w' => FormO w (putF p) e w' := by
  rw [show putF p = numF p.x from by unfold putF; rw [if_pos hk]]
  obtain ⟨kind, x, s, aL, cL, L, aT, cT, T⟩ := p
  dsimp only [PutV.cells] at *
  subst hk
  go_enter Try.func10, Try.ntmps10
  go_wp2_with fail
  refine (refNumber_any x _ hx).mono ?_
  rintro e w1 ⟨v, rfl, hown, hf⟩
  go_wp2
  go_ret
  exact form_unbox hown hf

set_option maxRecDepth 100000 in
set_option maxHeartbeats 1000000 in
theorem form_2 (p : PutV) (w : World) (hk : p.kind = 2) :
    Calls Try.prog 10 #[.agg p.cells] w fun e w' => FormO w (putF p) e w' := by
  rw [show putF p = numF (Lib.zigzag (wrap64 p.x)) from by unfold putF; rw [if_neg (by omega), if_pos hk]]
  obtain ⟨kind, x, s, aL, cL, L, aT, cT, T⟩ := p
  dsimp only [PutV.cells] at *
  subst hk
  have z1 : -9223372036854775808 ≤ wrap64 (x : Int) := by unfold wrap64; omega
  have z2 : wrap64 (x : Int) ≤ 9223372036854775807 := by unfold wrap64; omega
  have hz : Hid (Lib.zigzag (wrap64 (x : Int)) < 18446744073709551616) := by show Lib.zigzag (wrap64 (x : Int)) < 18446744073709551616; unfold Lib.zigzag; split <;> omega
  go_enter Try.func10, Try.ntmps10
  go_wp2_with fail
  refine (refFold_any (wrap64 (x : Int)) _ z1 z2).mono ?_
  rintro e w1 ⟨rfl, rfl⟩
  go_wp2_with fail
  refine (refNumber_any _ _ hz).mono ?_
  rintro e w1 ⟨v, rfl, hown, hf⟩
  go_wp2
  go_ret
  exact form_unbox hown hf

set_option maxRecDepth 100000 in
set_option maxHeartbeats 1000000 in
theorem form_3 (p : PutV) (w : World) (hk : p.kind = 3) :
    Calls Try.prog 10 #[.agg p.cells] w fun e w' => FormO w (putF p) e w' := by
  rw [show putF p = [if p.x % 2 = 1 then 1 else 0] from by unfold putF; rw [if_neg (by omega), if_neg (by omega), if_pos hk]]
  obtain ⟨kind, x, s, aL, cL, L, aT, cT, T⟩ := p
  dsimp only [PutV.cells] at *
  subst hk
  have hb : byteV (if x % 2 = 1 then 1 else 0) = .int .u8 ((x : Int) % 2) := by
    by_cases h : x % 2 = 1
    · rw [if_pos h, show (x : Int) % 2 = 1 from by omega]; rfl
    · rw [if_neg h, show (x : Int) % 2 = 0 from by omega]; rfl
  generalize (if x % 2 = 1 then (1 : UInt8) else 0) = c at *
  have HB := hid hb
  clear hb
  go_enter Try.func10, Try.ntmps10
  go_wp2
  go_ret
  exact form_unbox (ownB_at _ _ (by simp) _ (by simp) _ c HB.out) ((Frm.refl _ _).alloc _)

set_option maxRecDepth 100000 in
set_option maxHeartbeats 1000000 in
theorem form_4 (p : PutV) (w : World) (hk : p.kind = 4) (hx : Hid (p.x < 18446744073709551616)) :
    Calls Try.prog 10 #[.agg p.cells] w fun e w' => FormO w (putF p) e w' := by
  rw [show putF p = be 8 p.x from by unfold putF; rw [if_neg (by omega), if_neg (by omega), if_neg (by omega), if_pos hk]]
  obtain ⟨kind, x, s, aL, cL, L, aT, cT, T⟩ := p
  dsimp only [PutV.cells] at *
  subst hk
  have hff := f64from x
  go_enter Try.func10, Try.ntmps10
  go_wp2_with fail
  clear hff
  refine (refRealF_any x _ hx).mono ?_
  rintro e w1 ⟨v, rfl, hown, hf⟩
  go_wp2
  go_ret
  exact form_unbox hown hf

set_option maxRecDepth 100000 in
set_option maxHeartbeats 1000000 in
theorem form_5 (p : PutV) (w : World) (hk : p.kind = 5) (hs : p.s.size ≤ 1000000000) :
    Calls Try.prog 10 #[.agg p.cells] w fun e w' => FormO w (putF p) e w' := by
  rw [show putF p = textF p.s from by unfold putF; rw [if_neg (by omega), if_neg (by omega), if_neg (by omega), if_neg (by omega), if_pos hk]]
  obtain ⟨kind, x, s, aL, cL, L, aT, cT, T⟩ := p
  dsimp only [PutV.cells] at *
  subst hk
  go_enter Try.func10, Try.ntmps10
  go_wp2_with fail
  refine (refTextF_any s _ (by omega)).mono ?_
  rintro e w1 ⟨v, rfl, hown, hf⟩
  go_wp2
  go_ret
  exact form_unbox hown hf

theorem ownB_some {w : World} {base : Nat} {v : Value} {xs : List UInt8} (h : OwnB w base v xs) (h0 : 0 < xs.length) : ∃ g cap, v = .slice (some ⟨g, 0, none⟩) xs.length cap := by
  rcases h.2 with ⟨_, h1⟩ | ⟨g, cap, cur, hv, _⟩
  · omega
  · exact ⟨g, cap, hv⟩

theorem ownB_app {w : World} {base n : Nat} {v : Value} {xs ys : List UInt8} (hn : n = xs.length + ys.length) (h : w.ownsRow base 5 1 v n (xs.map byteV ++ ys.map byteV)) : OwnB w base v (xs ++ ys) := by
  unfold OwnB
  rw [List.length_append, List.map_append, ← hn]
  exact h

/-- The form so far. -/
def FormS (w W : World) (v : Value) (xs : List UInt8) : Prop := OwnB W w.heap.size v xs ∧ Frm (fun _ => False) w W

set_option maxRecDepth 100000 in
set_option maxHeartbeats 2000000 in
theorem form_6 (p : PutV) (w : World) (B : Nat) (hB : B ≤ w.heap.size) (hk : p.kind = 6) (hp : p.In w B) :
    Calls Try.prog 10 #[.agg p.cells] w fun e w' => FormO w (putF p) e w' := by
  rw [show putF p = numF p.L.length ++ numsF p.L from by unfold putF; rw [if_neg (by omega), if_neg (by omega), if_neg (by omega), if_neg (by omega), if_neg (by omega), if_pos hk]]
  have hN := hp.nums
  have hL := hp.L
  have hsz := hp.size
  clear hp
  obtain ⟨kind, x, s, aL, cL, L, aT, cT, T⟩ := p
  dsimp only [PutV.cells] at *
  subst hk
  obtain ⟨i0, hi0, hz0, hz1, hz2⟩ := info_parts Try.info5
  have hbx : ∀ W, Frm (fun _ => False) (w.alloc (.cells #[.int .i64 6, .int .u64 (x : Int), .string s, .slice aL L.length cL, .slice aT T.length cT] 36)) W → W.cell? ⟨w.heap.size, 3, none⟩ = some (.slice aL L.length cL) := fun W hf =>
    box_cell (by rw [hf.block w.heap.size (by simp) (fun e => e)]; exact heap_alloc_new w _) rfl
  have hwal : Frm (fun _ => False) w (w.alloc (.cells #[.int .i64 6, .int .u64 (x : Int), .string s, .slice aL L.length cL, .slice aT T.length cT] 36)) := (Frm.refl _ w).alloc _
  have hwbs : (w.alloc (.cells #[.int .i64 6, .int .u64 (x : Int), .string s, .slice aL L.length cL, .slice aT T.length cT] 36)).heap.size = w.heap.size + 1 := by simp
  go_enter Try.func10, Try.ntmps10
  go_wp2_with fail
  generalize w.alloc (.cells #[.int .i64 6, .int .u64 (x : Int), .string s, .slice aL L.length cL, .slice aT T.length cT] 36) = wb at *
  refine (refNumber_any L.length _ (by show L.length < 18446744073709551616; omega)).mono ?_
  rintro e w1 ⟨v, rfl, hown, hf⟩
  go_wp2_with fail
  have hS0 : FormS wb w1 v (numF L.length ++ numsF (L.take 0)) := ⟨by simpa [numsF] using hown, hf⟩
  clear hown hf
  go_loopw [3, 4] (fun v i wr => ∃ k : Nat, k ≤ L.length ∧ i = .int .i64 (k : Int) ∧ FormS wb wr v (numF L.length ++ numsF (L.take k))) (fun _ i _ => L.length - (intOf i).toNat)
  case atStart => exact ⟨0, Nat.zero_le _, rfl, hS0⟩
  case round =>
    clear hS0
    obtain ⟨k, hk, rfl, hown, hf⟩ := hrel
    have hbc := hbx wr hf
    by_cases hlt : k < L.length
    · obtain ⟨g, o, hao, hg, hc⟩ := hN k hlt
      subst hao
      have hc2 := (World.cell?_of_block (w := w) (a := ⟨g, o + k, none⟩) ((hwal.trans hf (fun _ _ e => e)).block g (by omega) (fun e => e))).trans hc
      clear hc
      have hlk := by
        have h1 := numF_length L.length
        have h2 := sz_bd L.length
        have h3 := numsF_length (L.take k)
        rw [List.length_take] at h3
        have h4 : (numF L.length ++ numsF (L.take k)).length ≤ 100000000000 := by rw [List.length_append]; omega
        exact h4
      have HS := hid (numsF_snoc L k hlt)
      have hLk : L[k] < 18446744073709551616 := hL L[k] (List.getElem_mem hlt)
      generalize L[k] = y at *
      generalize hys : numF L.length ++ numsF (L.take k) = ys at *
      have HY := hid hys
      clear hys
      go_wp2_with fail
      refine (refNumber_any y _ hLk).mono ?_
      rintro e w2 ⟨v2, rfl, hown2, hf2⟩
      obtain ⟨g2, cap2, rfl⟩ := ownB_some hown2 (by rw [numF_length]; exact (sz_bd _).1)
      have hcells := World.ownsRow.cells (g := g2) hown2 rfl
      have hown3 := hown.kept hf2
      have hsz2 := hf2.size
      have hsz1 := hf.size
      have hlen2 : (numF y).length ≤ 9 := by have h1 := numF_length y; have h2 := sz_bd y; omega
      generalize numF y = zs at *
      go_wp2_with (at_builtin; refine wpList_append_own _ (by rfl) _ _ 25 (by rfl) wb.heap.size 5 i0 _ 1 1 Try.underlying25 hi0 hz0 hz1 hz2 rfl (by omega) u3 ys.length (ys.map byteV) (by rfl) hown3 ⟨g2, 0, none⟩ zs.length cap2 (zs.map byteV) (by rfl) (by simp) hcells (by intro u hu; simp at hu; obtain ⟨x, _, rfl⟩ := hu; rfl) (by unfold maxLen; omega) (by omega) (by omega) ?_; intro v' w3 hown4 hgrow _)
      have hl := hown3.lt
      have hS : FormS wb w3 v' (numF L.length ++ numsF (L.take (k + 1))) := by
        refine ⟨?_, (hf.trans hf2 (fun _ _ e => e)).grown hgrow (fun k hk => .inl (hl k hk).1)⟩
        rw [HS.out, ← List.append_assoc, HY.out]
        exact ownB_app rfl hown4
      clear hown4 hgrow hcells hown3 hown2 hown hf hf2 hl
      go_wp2
      go_roundw
      case rel => exact ⟨k + 1, by omega, by go_num, hS⟩
      case measure => simp [intOf]; omega
    · obtain rfl : k = L.length := by omega
      rw [List.take_length] at hown
      go_wp2
      go_ret
      exact ⟨_, rfl, hown.base (by omega), hwal.trans hf (fun _ _ e => e)⟩


set_option maxRecDepth 100000 in
set_option maxHeartbeats 2000000 in
theorem form_7 (p : PutV) (w : World) (B : Nat) (hB : B ≤ w.heap.size) (hk : p.kind = 7) (hp : p.In w B) :
    Calls Try.prog 10 #[.agg p.cells] w fun e w' => FormO w (putF p) e w' := by
  rw [show putF p = numF p.T.length ++ textsF p.T from by unfold putF; rw [if_neg (by omega), if_neg (by omega), if_neg (by omega), if_neg (by omega), if_neg (by omega), if_neg (by omega), if_pos hk]]
  have hN := hp.texts
  have hsz := hp.size
  clear hp
  obtain ⟨kind, x, s, aL, cL, L, aT, cT, T⟩ := p
  dsimp only [PutV.cells] at *
  subst hk
  obtain ⟨i0, hi0, hz0, hz1, hz2⟩ := info_parts Try.info5
  have hbx : ∀ W, Frm (fun _ => False) (w.alloc (.cells #[.int .i64 7, .int .u64 (x : Int), .string s, .slice aL L.length cL, .slice aT T.length cT] 36)) W → W.cell? ⟨w.heap.size, 4, none⟩ = some (.slice aT T.length cT) := fun W hf =>
    box_cell (by rw [hf.block w.heap.size (by simp) (fun e => e)]; exact heap_alloc_new w _) rfl
  have hwal : Frm (fun _ => False) w (w.alloc (.cells #[.int .i64 7, .int .u64 (x : Int), .string s, .slice aL L.length cL, .slice aT T.length cT] 36)) := (Frm.refl _ w).alloc _
  have hwbs : (w.alloc (.cells #[.int .i64 7, .int .u64 (x : Int), .string s, .slice aL L.length cL, .slice aT T.length cT] 36)).heap.size = w.heap.size + 1 := by simp
  go_enter Try.func10, Try.ntmps10
  go_wp2_with fail
  generalize w.alloc (.cells #[.int .i64 7, .int .u64 (x : Int), .string s, .slice aL L.length cL, .slice aT T.length cT] 36) = wb at *
  refine (refNumber_any T.length _ (by show T.length < 18446744073709551616; omega)).mono ?_
  rintro e w1 ⟨v, rfl, hown, hf⟩
  go_wp2_with fail
  have hS0 : FormS wb w1 v (numF T.length ++ textsF (T.take 0)) := ⟨by simpa [textsF] using hown, hf⟩
  clear hown hf
  go_loopw [5, 6] (fun v i wr => ∃ k : Nat, k ≤ T.length ∧ i = .int .i64 (k : Int) ∧ FormS wb wr v (numF T.length ++ textsF (T.take k))) (fun _ i _ => T.length - (intOf i).toNat)
  case atStart => exact ⟨0, Nat.zero_le _, rfl, hS0⟩
  case round =>
    clear hS0
    obtain ⟨k, hk, rfl, hown, hf⟩ := hrel
    have hbc := hbx wr hf
    by_cases hlt : k < T.length
    · obtain ⟨g, o, hao, hg, hc⟩ := hN k hlt
      subst hao
      have hc2 := (World.cell?_of_block (w := w) (a := ⟨g, o + k, none⟩) ((hwal.trans hf (fun _ _ e => e)).block g (by omega) (fun e => e))).trans hc
      clear hc
      have hpart := textsF_part T k hlt
      have hlk : (numF T.length ++ textsF (T.take k)).length ≤ 100000000000 := by
        have h1 := numF_length T.length
        have h2 := sz_bd T.length
        rw [List.length_append]; omega
      have HS := hid (textsF_snoc T k hlt)
      have hLk : T[k].size ≤ 1000000000 := by have h1 := (textF_length T[k]).1; omega
      clear hpart
      generalize T[k] = y at *
      generalize hys : numF T.length ++ textsF (T.take k) = ys at *
      have HY := hid hys
      clear hys
      go_wp2_with fail
      refine (refTextF_any y _ (by omega)).mono ?_
      rintro e w2 ⟨v2, rfl, hown2, hf2⟩
      obtain ⟨g2, cap2, rfl⟩ := ownB_some hown2 (by have := (textF_length y).1; omega)
      have hcells := World.ownsRow.cells (g := g2) hown2 rfl
      have hown3 := hown.kept hf2
      have hsz2 := hf2.size
      have hsz1 := hf.size
      have hlen2 : (textF y).length ≤ 1000000009 := by have h1 := (textF_length y).2; omega
      generalize textF y = zs at *
      go_wp2_with (at_builtin; refine wpList_append_own _ (by rfl) _ _ 25 (by rfl) wb.heap.size 5 i0 _ 1 1 Try.underlying25 hi0 hz0 hz1 hz2 rfl (by omega) u5 ys.length (ys.map byteV) (by rfl) hown3 ⟨g2, 0, none⟩ zs.length cap2 (zs.map byteV) (by rfl) (by simp) hcells (by intro u hu; simp at hu; obtain ⟨x, _, rfl⟩ := hu; rfl) (by unfold maxLen; omega) (by omega) (by omega) ?_; intro v' w3 hown4 hgrow _)
      have hl := hown3.lt
      have hS : FormS wb w3 v' (numF T.length ++ textsF (T.take (k + 1))) := by
        refine ⟨?_, (hf.trans hf2 (fun _ _ e => e)).grown hgrow (fun k hk => .inl (hl k hk).1)⟩
        rw [HS.out, ← List.append_assoc, HY.out]
        exact ownB_app rfl hown4
      clear hown4 hgrow hcells hown3 hown2 hown hf hf2 hl
      go_wp2
      go_roundw
      case rel => exact ⟨k + 1, by omega, by go_num, hS⟩
      case measure => simp [intOf]; omega
    · obtain rfl : k = T.length := by omega
      rw [List.take_length] at hown
      go_wp2
      go_ret
      exact ⟨_, rfl, hown.base (by omega), hwal.trans hf (fun _ _ e => e)⟩


set_option maxRecDepth 100000 in
set_option maxHeartbeats 1000000 in
theorem form_0 (p : PutV) (w : World) (k1 : p.kind ≠ 1) (k2 : p.kind ≠ 2) (k3 : p.kind ≠ 3) (k4 : p.kind ≠ 4) (k5 : p.kind ≠ 5) (k6 : p.kind ≠ 6) (k7 : p.kind ≠ 7) :
    Calls Try.prog 10 #[.agg p.cells] w fun e w' => FormO w (putF p) e w' := by
  rw [show putF p = [] from by unfold putF; rw [if_neg k1, if_neg k2, if_neg k3, if_neg k4, if_neg k5, if_neg k6, if_neg k7]]
  obtain ⟨kind, x, s, aL, cL, L, aT, cT, T⟩ := p
  dsimp only [PutV.cells] at *
  have e1 : (kind == 1) = false := beq_eq_false_iff_ne.2 k1
  have e2 : (kind == 2) = false := beq_eq_false_iff_ne.2 k2
  have e3 : (kind == 3) = false := beq_eq_false_iff_ne.2 k3
  have e4 : (kind == 4) = false := beq_eq_false_iff_ne.2 k4
  have e5 : (kind == 5) = false := beq_eq_false_iff_ne.2 k5
  have e6 : (kind == 6) = false := beq_eq_false_iff_ne.2 k6
  have e7 : (kind == 7) = false := beq_eq_false_iff_ne.2 k7
  go_enter Try.func10, Try.ntmps10
  go_wp2
  go_ret
  exact ⟨_, rfl, World.ownsRow_nil _ _ _ _, (Frm.refl _ w).alloc _⟩

/-- The document's form, whatever it is. -/
theorem form_any (p : PutV) (w : World) (B : Nat) (hB : B ≤ w.heap.size) (hp : p.In w B) :
    Calls Try.prog 10 #[.agg p.cells] w fun e w' => FormO w (putF p) e w' := by
  have hs := hp.size
  by_cases k1 : p.kind = 1
  · exact form_1 p w k1 hp.x
  by_cases k2 : p.kind = 2
  · exact form_2 p w k2
  by_cases k3 : p.kind = 3
  · exact form_3 p w k3
  by_cases k4 : p.kind = 4
  · exact form_4 p w k4 hp.x
  by_cases k5 : p.kind = 5
  · exact form_5 p w k5 (by omega)
  by_cases k6 : p.kind = 6
  · exact form_6 p w B hB k6 hp
  by_cases k7 : p.kind = 7
  · exact form_7 p w B hB k7 hp
  exact form_0 p w k1 k2 k3 k4 k5 k6 k7

end Go.Proofs.Ytchjkcghaddmhaa
