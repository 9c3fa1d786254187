/- All that was written is read again, call by call. -/
import Derived.Test.YtchjkcghaddmhaaB6
import Derived.Test.YtchjkcghaddmhaaK2
namespace Go.Proofs.Ytchjkcghaddmhaa
open Go.RowKit

theorem back_put (b : Nat) (v : Value) (xs : List UInt8) (q : Nat) (p : PutV) (rest : List UInt8) (w : World) (hr : Rd w b v xs q) (hlen : xs.length ≤ 900000000000) (B : Nat) (hB : B ≤ b) (hp : p.In w B) (hd : xs.drop q = putF p ++ rest) :
    Calls Try.prog 21 #[.pointer (some ⟨b, 0, none⟩), .agg p.cells] w fun e w' => e = .returned (.bool true) ∧ RdOut w b v xs (q + (putF p).length) w' := by
  have hsz := hp.size
  by_cases k1 : p.kind = 1
  · exact back_1 b v xs q p rest w hr hlen k1 hp.x hd
  by_cases k2 : p.kind = 2
  · exact back_2 b v xs q p rest w hr hlen k2 hd
  by_cases k3 : p.kind = 3
  · by_cases ho : p.x % 2 = 1
    · exact back_3true b v xs q p rest w hr hlen k3 ho hd
    · exact back_3false b v xs q p rest w hr hlen k3 ho hd
  by_cases k4 : p.kind = 4
  · exact back_4 b v xs q p rest w hr hlen k4 hp.x hd
  by_cases k5 : p.kind = 5
  · exact back_5 b v xs q p rest w hr hlen k5 (by omega) hd
  by_cases k6 : p.kind = 6
  · exact back_6 b v xs q p rest w hr hlen B hB k6 hp.nums hp.L (by omega) hd
  by_cases k7 : p.kind = 7
  · exact back_7 b v xs q p rest w hr hlen B hB k7 hp.texts (by omega) hd
  exact back_0 b v xs q p w hr k1 k2 k3 k4 k5 k6 k7

theorem PutV.In.kept {p : PutV} {w w' : World} {B : Nat} (h : p.In w B) (hB : B ≤ w.heap.size) (hf : Frm (fun _ => False) w w') : p.In w' B := by
  refine ⟨h.kind, h.x, h.L, ?_, h.nil, ?_, h.size⟩
  · intro i hi
    obtain ⟨g, o, h1, h2, h3⟩ := h.nums i hi
    exact ⟨g, o, h1, h2, by rw [World.cell?_of_block (w := w) (hf.block g (show g < w.heap.size by omega) (fun h => h)), h3]⟩
  · intro i hi
    obtain ⟨g, o, h1, h2, h3⟩ := h.texts i hi
    exact ⟨g, o, h1, h2, by rw [World.cell?_of_block (w := w) (hf.block g (show g < w.heap.size by omega) (fun h => h)), h3]⟩

/-- A list of things that are to be written, in the memory below the block B. -/
structure PutsIn (w : World) (B : Nat) (ao : Option Addr) (ps : List PutV) : Prop where
  cells : ∀ i (h : i < ps.length), ∃ g o, ao = some ⟨g, o, none⟩ ∧ g < B ∧ ∀ j u, ps[i].cells[j]? = some u → w.cell? ⟨g, o + i * 5 + j, none⟩ = some u
  ins : ∀ p ∈ ps, p.In w B

theorem PutsIn.kept {w w' : World} {B : Nat} {ao : Option Addr} {ps : List PutV} (h : PutsIn w B ao ps) (hB : B ≤ w.heap.size) (hf : Frm (fun _ => False) w w') : PutsIn w' B ao ps := by
  refine ⟨?_, fun p hp => (h.ins p hp).kept hB hf⟩
  intro i hi
  obtain ⟨g, o, h1, h2, h3⟩ := h.cells i hi
  exact ⟨g, o, h1, h2, fun j u hu => by rw [World.cell?_of_block (w := w) (hf.block g (show g < w.heap.size by omega) (fun h => h)), h3 j u hu]⟩

/-- What they are written as. -/
def putsF (ps : List PutV) : List UInt8 := ps.flatMap putF

theorem putsF_snoc (ps : List PutV) (k : Nat) (h : k < ps.length) : putsF (ps.take (k + 1)) = putsF (ps.take k) ++ putF ps[k] := by
  rw [List.take_succ_eq_append_getElem h]; simp only [putsF, List.flatMap_append, List.flatMap_cons, List.flatMap_nil, List.append_nil]

theorem putsF_parts (ps : List PutV) (k : Nat) (h : k < ps.length) : putsF ps = putsF (ps.take k) ++ (putF ps[k] ++ putsF (ps.drop (k + 1))) := by
  have e1 : putsF ps = putsF (ps.take (k + 1)) ++ putsF (ps.drop (k + 1)) := by
    unfold putsF
    rw [← List.flatMap_append, List.take_append_drop]
  rw [e1, putsF_snoc ps k h, List.append_assoc]

/-- The five cells of the thing at k. -/
theorem PutsIn.five {w : World} {B : Nat} {ao : Option Addr} {ps : List PutV} (h : PutsIn w B ao ps) (k : Nat) (hk : k < ps.length) :
    ∃ g o, ao = some ⟨g, o, none⟩ ∧ w.cell? ⟨g, o + k * 5, none⟩ = some (.int .i64 ps[k].kind) ∧ w.cell? ⟨g, o + k * 5 + 1, none⟩ = some (.int .u64 (ps[k].x : Int)) ∧ w.cell? ⟨g, o + k * 5 + 2, none⟩ = some (.string ps[k].s) ∧
      w.cell? ⟨g, o + k * 5 + 3, none⟩ = some (.slice ps[k].aL ps[k].L.length ps[k].cL) ∧ w.cell? ⟨g, o + k * 5 + 4, none⟩ = some (.slice ps[k].aT ps[k].T.length ps[k].cT) := by
  obtain ⟨g, o, h1, _, h3⟩ := h.cells k hk
  exact ⟨g, o, h1, h3 0 _ rfl, h3 1 _ rfl, h3 2 _ rfl, h3 3 _ rfl, h3 4 _ rfl⟩

set_option maxRecDepth 100000 in
set_option maxHeartbeats 2000000 in
theorem wireBack_any (ao : Option Addr) (cap : Nat) (ps : List PutV) (w : World) (hps : PutsIn w w.heap.size ao ps) (hlen : (putsF ps).length ≤ 100000000000) (hpl : ps.length ≤ 1000000000) :
    Calls Try.prog 5 #[.slice ao ps.length cap] w fun e w' => e = .returned (.bool true) ∧ Frm (fun _ => False) w w' := by
  go_enter Try.func5, Try.ntmps5
  go_wp2_with fail
  refine (newWriter_any _).mono ?_
  rintro e w1 ⟨rfl, rfl⟩
  have hw1 := wr_new w
  have hf1 : Frm (fun _ => False) w (w.alloc (.cells #[.slice none 0 0] 27)) := (Frm.refl _ _).alloc _
  generalize w.alloc (.cells #[.slice none 0 0] 27) = w1 at *
  go_wp2_with fail
  refine (known_any _).mono ?_
  rintro e w2 ⟨rfl, hf2⟩
  have hw2 := hw1.kept hf2 (fun h => h) (fun _ _ h => h)
  have hf3 := hf1.trans hf2 (fun _ _ h => h)
  clear hw1 hf1 hf2
  go_wp2_with fail
  go_loopw [4] (fun i wr => ∃ k : Nat, k ≤ ps.length ∧ i = .int .i64 (k : Int) ∧ WrOut w2 w.heap.size none (putsF (ps.take k)) wr) (fun i _ => ps.length - (intOf i).toNat)
  case atStart => exact ⟨0, Nat.zero_le _, rfl, none, by simpa [putsF] using hw2, Frm.refl _ _, .inl rfl⟩
  case round =>
    obtain ⟨k, hk, rfl, r, hwr, hfr, hrr⟩ := hrel
    have hfw : Frm (fun _ => False) w wr := hf3.trans hfr (fun i hi e => by rcases e with e | e; · omega
                                                                            · cases e)
    by_cases hlt : k < ps.length
    · have hin := (hps.kept (Nat.le_refl _) hfw)
      obtain ⟨g, o, hao, c0, c1, c2, c3, c4⟩ := hin.five k hlt
      have hpk := hin.ins ps[k] (List.getElem_mem hlt)
      have hpt := hid (putsF_parts ps k hlt)
      have hsn := hid (putsF_snoc ps k hlt)
      have hll : (putsF (ps.take k)).length ≤ 100000000000 := by rw [hpt.out, List.length_append] at hlen; omega
      have hrB : ∀ g, r = some g → w.heap.size ≤ g := fun g e => by
        rcases hrr with h | ⟨g', h, hg'⟩
        · rw [h] at e; cases e
        · rw [h] at e; simp only [Option.some.injEq] at e; have := hf3.size; omega
      have hc := hid (puts_any w.heap.size r _ ps[k] wr hwr w.heap.size (Nat.le_refl _) hrB hpk hll)
      subst hao
      clear hin hpk
      go_wp2_with fail
      refine hc.out.mono ?_
      rintro e w3 ⟨rfl, ho⟩
      rw [← hsn.out] at ho
      have ho2 := hid (WrOut.next hfr hrr ho)
      clear ho hc c0 c1 c2 c3 c4
      go_wp2
      go_roundw
      case rel => exact ⟨k + 1, by omega, by go_num, ho2.out⟩
      case measure => simp [intOf]; omega
    · obtain rfl : k = ps.length := by omega
      rw [List.take_length] at hwr
      clear hw2
      have hps2 := hps.kept (Nat.le_refl _) hfw
      generalize hX : putsF ps = xs at *
      have HX : Hid (putsF ps = xs) := hX
      clear hX
      go_wp2_with fail
      refine (wbytes_any _ r xs _ hwr (by omega)).mono ?_
      rintro e w3 ⟨v3, rfl, hrow3, hf4⟩
      have hwr3 := hwr.kept hf4 (fun h => h) (fun _ _ h => h)
      go_wp2_with fail
      refine (newReader_any v3 _ _ xs _ hrow3 (by omega)).mono ?_
      rintro e w4 ⟨rb, v, rfl, hrd, hf5, hrb, hvb⟩
      have hwr4 := hwr3.kept hf5 (fun h => h) (fun _ _ h => h)
      have hf6 : Frm (fun _ => False) w w4 := (hfw.trans hf4 (fun _ _ h => h)).trans hf5 (fun _ _ h => h)
      have hbr : w.heap.size < rb := by have h1 := hwr.lt; have h2 := hf4.size; omega
      have hbr2 : ∀ g, r = some g → ¬ g = rb := fun g e => by have := (hwr3.row g e).2; omega
      clear hwr hwr3 hrow3 hf4 hf5 hf3 hfr hfw
      go_wp2_with fail
      go_loopw [6] (fun i wq => ∃ k : Nat, k ≤ ps.length ∧ i = .int .i64 (k : Int) ∧ RdOut w4 rb v xs (putsF (ps.take k)).length wq) (fun i _ => ps.length - (intOf i).toNat)
      case atStart => exact ⟨0, Nat.zero_le _, rfl, by simpa [putsF] using hrd, Frm.refl _ _⟩
      case round =>
        obtain ⟨k, hk, rfl, ho⟩ := hrel
        have hfw : Frm (fun _ => False) w wr := hf6.trans ho.2 (fun i hi e => by omega)
        by_cases hlt : k < ps.length
        · have hin := (hps.kept (Nat.le_refl _) hfw)
          obtain ⟨g, o, hao, c0, c1, c2, c3, c4⟩ := hin.five k hlt
          have hpk := hin.ins ps[k] (List.getElem_mem hlt)
          have hsn := hid (putsF_snoc ps k hlt)
          have hdr : xs.drop (putsF (ps.take k)).length = putF ps[k] ++ putsF (ps.drop (k + 1)) := by
            rw [← HX.out, putsF_parts ps k hlt, List.drop_left' rfl]
          have hc := hid (back_put rb v xs _ ps[k] _ wr ho.1 (by omega) w.heap.size (by omega) hpk hdr)
          subst hao
          clear hin hpk hdr
          go_wp2_with fail
          refine hc.out.mono ?_
          rintro e w5 ⟨rfl, ho5⟩
          rw [← List.length_append, ← hsn.out] at ho5
          have ho6 := hid (RdOut.next ho.2 ho5)
          clear ho5 hc c0 c1 c2 c3 c4 ho
          go_wp2
          go_roundw
          case rel => exact ⟨k + 1, by omega, by go_num, ho6.out⟩
          case measure => simp [intOf]; omega
        · obtain rfl : k = ps.length := by omega
          rw [List.take_length, HX.out] at ho
          have hrd5 := ho.1
          have hwr5 := hwr4.kept ho.2 (by omega) hbr2
          have hend := rend_any rb v xs xs.length wr hrd5 (by omega)
          rw [if_neg (by omega)] at hend
          have HE := hid hend
          clear hend
          go_wp2_with fail
          refine HE.out.mono ?_
          rintro e w6 ⟨rfl, n6, rfl⟩
          go_wp2_with fail
          refine (num_any 0 _).mono ?_
          rintro e w7 ⟨rfl, rfl⟩
          go_wp2_with fail
          refine (rleft_any rb v xs xs.length _ (hrd5.drewN _) (by omega)).mono ?_
          rintro e w8 ⟨rfl, n8, rfl⟩
          rw [Int.sub_self]
          have hrd6 := (hrd5.drewN n6).drewN n8
          have hwr6 := (hwr5.kept (S := fun _ => False) (((Frm.refl _ _).drewN n6).drewN n8) (fun h => h) (fun _ _ h => h))
          have hf9 := (hfw.drewN n6).drewN n8
          generalize (wr.drewN n6).drewN n8 = w9 at *
          go_wp2_with fail
          refine (rplace_any rb v xs xs.length _ hrd6).mono ?_
          rintro e w10 ⟨rfl, rfl⟩
          go_wp2_with fail
          refine (wlen_any _ r xs _ hwr6).mono ?_
          rintro e w11 ⟨rfl, rfl⟩
          go_wp2
          go_ret
          exact ⟨rfl, hf9⟩

end Go.Proofs.Ytchjkcghaddmhaa
