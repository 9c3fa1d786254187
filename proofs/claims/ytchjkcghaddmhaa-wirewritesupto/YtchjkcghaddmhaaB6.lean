/- A list of texts that was written is read again. -/
import Derived.Test.YtchjkcghaddmhaaB5
namespace Go.Proofs.Ytchjkcghaddmhaa
open Go.RowKit

theorem drop_texts {xs rest : List UInt8} {q : Nat} {T : List ByteArray} (h : xs.drop q = textsF T ++ rest) (k : Nat) (hk : k < T.length) :
    xs.drop (q + (textsF (T.take k)).length) = textF T[k] ++ (textsF (T.drop (k + 1)) ++ rest) := by
  have e : textsF T = textsF (T.take k) ++ (textF T[k] ++ textsF (T.drop (k + 1))) := by
    have e1 : textsF T = textsF (T.take (k + 1)) ++ textsF (T.drop (k + 1)) := by
      unfold textsF
      rw [← List.flatMap_append, List.take_append_drop]
    rw [e1, textsF_snoc T k hk, List.append_assoc]
  rw [← List.drop_drop, h, e, List.append_assoc, List.drop_left' rfl, List.append_assoc]

theorem texts_cell {w w' : World} {B : Nat} {S : Nat → Prop} {ao : Option Addr} {T : List ByteArray} (h : TextsB w B ao T) (hB : B ≤ w.heap.size) (hf : Frm S w w') (hS : ∀ g, g < B → ¬ S g) (i : Nat) (hi : i < T.length) :
    ∃ g o, ao = some ⟨g, o, none⟩ ∧ w'.cell? ⟨g, o + i, none⟩ = some (.string T[i]) := by
  obtain ⟨g, o, h1, h2, h3⟩ := h i hi
  exact ⟨g, o, h1, by rw [World.cell?_of_block (w := w) (hf.block g (show g < w.heap.size by omega) (hS g h2)), h3]⟩

theorem texts_ne {w : World} {B b : Nat} (hB : B ≤ b) {ao : Option Addr} {T : List ByteArray} (h : TextsB w B ao T) (i : Nat) (hi : i < T.length) {g o : Nat} (e : ao = some ⟨g, o, none⟩) : ¬ g = b := by
  obtain ⟨g', o', h1, h2, _⟩ := h i hi
  rw [h1] at e
  simp only [Option.some.injEq, Addr.mk.injEq] at e
  omega

set_option maxRecDepth 100000 in
set_option maxHeartbeats 2000000 in
theorem back_7 (b : Nat) (v : Value) (xs : List UInt8) (q : Nat) (p : PutV) (rest : List UInt8) (w : World) (hr : Rd w b v xs q) (hlen : xs.length ≤ 900000000000) (B : Nat) (hB : B ≤ b) (hk : p.kind = 7) (hT : TextsB w B p.aT p.T) (hs : p.T.length + (textsF p.T).length ≤ 1000000000) (hd : xs.drop q = putF p ++ rest) :
    Calls Try.prog 21 #[.pointer (some ⟨b, 0, none⟩), .agg p.cells] w fun e w' => e = .returned (.bool true) ∧ RdOut w b v xs (q + (putF p).length) w' := by
  have HP := hid (show putF p = numF p.T.length ++ textsF p.T from by unfold putF; rw [if_neg (by omega), if_neg (by omega), if_neg (by omega), if_neg (by omega), if_neg (by omega), if_neg (by omega), if_pos hk])
  rw [HP.out] at hd ⊢
  clear HP
  have hbl := hr.lt
  obtain ⟨kind, x, s, aL, cL, L, aT, cT, T⟩ := p
  dsimp only [PutV.cells] at *
  subst hk
  rw [List.append_assoc] at hd
  have hn := hid (fun o => rnumber_any b v xs q (w.alloc o) (rd_box hr o) hlen)
  rw [hd, rdNum_num _ _ (by omega)] at hn
  have hd2 : xs.drop (q + (numF T.length).length) = textsF T ++ rest := by rw [← List.drop_drop, hd, drop_num]
  rw [List.length_append, ← Nat.add_assoc]
  obtain ⟨q0, HQ⟩ : ∃ q0, Hid (q + (numF T.length).length = q0) := ⟨_, rfl⟩
  rw [HQ.out] at hd2 ⊢
  have HD := hid (fun k hk => drop_texts hd2 k hk)
  clear hd hd2
  go_enter Try.func21, Try.ntmps21
  go_wp2_with fail
  refine (hn.out _).mono ?_
  rintro e w1 ⟨rfl, ho⟩
  dsimp only at ho
  rw [HQ.out] at ho
  have hb4 := box_cell (i := 4) (box_kept hbl ho.2) (by rfl)
  clear hn
  go_wp2_with fail
  refine (num_any 0 _).mono ?_
  rintro e w2 ⟨rfl, rfl⟩
  go_wp2_with fail
  clear hb4
  go_loopw [19] (fun i wr => ∃ k : Nat, k ≤ T.length ∧ i = .int .i64 (k : Int) ∧ RdOut (w.alloc (.cells #[.int .i64 7, .int .u64 (x : Int), .string s, .slice aL L.length cL, .slice aT T.length cT] 36)) b v xs (q0 + (textsF (T.take k)).length) wr) (fun i _ => T.length - (intOf i).toNat)
  case atStart => exact ⟨0, Nat.zero_le _, rfl, by simpa [textsF] using ho⟩
  case round =>
    clear ho
    obtain ⟨k, hk, rfl, ho⟩ := hrel
    have hb4 := box_cell (i := 4) (box_kept hbl ho.2) (by rfl)
    by_cases hlt : k < T.length
    · obtain ⟨g, o, hao, hc⟩ := texts_cell hT (by omega) (((Frm.refl (fun k => k = b) w).alloc _).trans ho.2 (fun _ _ h => h)) (fun k hk => by omega) k hlt
      have hgb := fun g o e => texts_ne hB hT k hlt (g := g) (o := o) e
      have htl := textF_length T[k]
      have htp := textsF_part T k hlt
      have hn := hid (rtext_any b v xs _ (T[k].size : Int) wr ho.1 hlen (by omega))
      rw [HD.out k hlt, rdText_text _ (by omega)] at hn
      dsimp only at hn
      rw [bytes_eta] at hn
      have HS := hid (textsF_snoc T k hlt)
      subst hao
      generalize T[k] = y at *
      clear htl htp
      go_wp2_with fail
      refine hn.out.mono ?_
      rintro e w3 ⟨rfl, ho3⟩
      rw [Nat.add_assoc, ← List.length_append, ← HS.out] at ho3
      have hb43 := box_cell (i := 4) (box_kept hbl (ho.2.trans ho3.2 (fun _ _ h => h))) (by rfl)
      have hc3 : w3.cell? ⟨g, o + k, none⟩ = some (.string y) := by
        rw [World.cell?_of_block (w := wr) (ho3.2.block g (by
          by_cases hg : g < wr.heap.size
          · exact hg
          · simp [World.cell?, hg] at hc) (hgb g o rfl))]; exact hc
      have ho4 := hid (RdOut.next ho.2 ho3)
      clear hn hb4 hc ho ho3
      go_wp2_with fail
      refine (num_any 0 _).mono ?_
      rintro e w4 ⟨rfl, rfl⟩
      go_wp2
      go_roundw
      case rel => exact ⟨k + 1, by omega, by go_num, ho4.out⟩
      case measure => simp [intOf]; omega
    · obtain rfl : k = T.length := by omega
      rw [List.take_length] at ho
      go_wp2_with fail
      go_ret
      exact ⟨rfl, rd_unbox ho⟩

end Go.Proofs.Ytchjkcghaddmhaa
