/- A text's words, one by one: the library's function, walked. -/
import Derived.Test.YtgbdnlpdicmaaaaDoorG8
import Derived.Test.YtgbdnlpdicmaaaaDoorGC
namespace Go.Proofs.YtgbdnlpdicmaaaaDoor
open Go.RowKit Go.Lib Go.Shelf
attribute [local go_sem] Oper.semAt_some

/-- A text cut at each blank. -/
def splitL : List UInt8 → List (List UInt8)
  | [] => [[]]
  | b :: r => if b == 32 then [] :: splitL r else match splitL r with
    | h :: t => (b :: h) :: t
    | [] => [[b]]

theorem splitL_ne (l : List UInt8) : splitL l ≠ [] := by
  cases l with
  | nil => simp [splitL]
  | cons b r =>
    rw [splitL]
    split
    · simp
    · split <;> simp

theorem split_none : ∀ {l : List UInt8}, Lib.indexByte l 32 = -1 → splitL l = [l]
  | [], _ => rfl
  | b :: r, h => by
    rw [Lib.indexByte] at h
    rw [splitL]
    split at h
    · omega
    · rename_i hb
      split at h
      · rename_i hr
        rw [if_neg hb, split_none (by simpa using hr)]
      · rename_i hr
        have := Lib.indexByte_ge r 32
        omega

theorem split_some : ∀ {l : List UInt8} {i : Nat}, Lib.indexByte l 32 = (i : Int) → i < l.length ∧ splitL l = l.take i :: splitL (l.drop (i + 1))
  | [], i, h => by rw [Lib.indexByte] at h; omega
  | b :: r, i, h => by
    rw [Lib.indexByte] at h
    rw [splitL]
    split at h
    · rename_i hb
      obtain rfl : i = 0 := by omega
      rw [if_pos hb]
      simp
    · rename_i hb
      split at h
      · omega
      · rename_i hr
        have h1 := Lib.indexByte_ge r 32
        have h2 : Lib.indexByte r 32 ≠ -1 := by simpa using hr
        obtain ⟨j, rfl⟩ : ∃ j, i = j + 1 := ⟨i - 1, by omega⟩
        obtain ⟨h3, h4⟩ := split_some (l := r) (i := j) (by omega)
        rw [if_neg hb, h4]
        exact ⟨by simp; omega, by simp⟩

/-- A word, not too long for a machine. -/
abbrev Wrd := {x : List UInt8 // x.length ≤ 140737488355328}
def encW (x : Wrd) : Array Value := #[.string ⟨x.1.toArray⟩]

theorem ext_take (r : List UInt8) (i : Nat) : (⟨r.toArray⟩ : ByteArray).extract 0 i = ⟨(r.take i).toArray⟩ := by
  rw [ByteArray.extract_mk]
  simp
theorem ext_drop (r : List UInt8) (i n : Nat) (h : n = r.length) : (⟨r.toArray⟩ : ByteArray).extract i n = ⟨(r.drop i).toArray⟩ := by
  subst h
  rw [ByteArray.extract_mk]
  simp
  rw [List.take_of_length_le (by simp)]

set_option maxRecDepth 100000 in
set_option maxHeartbeats 2000000 in
theorem split1_good (d : Nat) (hd : 1 ≤ d) (l Bp Bs Bn : Nat) (hne1 : Bs ≠ Bp) (hne2 : Bs ≠ Bn) (x : List UInt8) (hx : x.length ≤ 140737488355328) (T : Nat → Prop) (hTp : ¬ T Bp) (hTs : ¬ T Bs) (hTn : ¬ T Bn) (J Jx : List Wrd → World → Prop)
    (hJ : ∀ p X b o u, b = Bs → J p X → J p (X.setCell ⟨b, o, none⟩ u))
    (hY : ∀ pre y W, J pre W → pre.length < (splitL x).length → YieldAt Fence.wide (d - 1) Tryd.prog l (encW y) W fun e W' =>
      (e = .returned (.bool true) ∧ J (pre ++ [y]) W' ∧ Frm T W W') ∨ (e = .returned (.bool false) ∧ Jx (pre ++ [y]) W'))
    (W : World) (hBp : Boxed W Bp 9 (.string ⟨#[32]⟩)) (hBs : Boxed W Bs 9 (.string ⟨x.toArray⟩)) (hBn : Boxed W Bn 3 (.int .i64 0)) (h0 : J [] W) :
    CallsIn Fence.wide d Tryd.prog 68 #[.func (.yield l) #[] #[], .pointer (some ⟨Bp, 0, none⟩), .pointer (some ⟨Bs, 0, none⟩), .pointer (some ⟨Bn, 0, none⟩)] W fun e W' => (∃ v, e = .returned v) ∧
      ((∃ ys, ys.map Subtype.val = splitL x ∧ J ys W') ∨ (∃ pre, (∃ t, pre.map Subtype.val ++ t = splitL x) ∧ Jx pre W')) := by
  have cp := hBp.cell
  have cs := hBs.cell
  have hsz1 : (ByteArray.mk #[32]).size = 1 := rfl
  refine callsIn_of_wp Tryd.func68 rfl trivial ?_ rfl
  simp only [Tryd.ntmps68, List.size_toArray, List.length_cons, List.length_nil, Nat.reduceAdd, Nat.reduceSub, Array.replicate_succ, Array.replicate_zero, List.push_toArray, List.append_toArray, List.nil_append, List.cons_append]
  gi_wp2_with fail
  gi_loopw [7] (fun _ wr => ∃ (p : List Wrd) (r : List UInt8), p.map Subtype.val ++ splitL r = splitL x ∧ r.length ≤ 140737488355328 ∧ J p wr ∧ Boxed wr Bp 9 (.string ⟨#[32]⟩) ∧ Boxed wr Bs 9 (.string ⟨r.toArray⟩) ∧ Boxed wr Bn 3 (.int .i64 0))
    (fun _ wr => match wr.cell? ⟨Bs, 0, none⟩ with | some (.string t) => t.size | _ => 0)
  case atStart => exact ⟨[], x, by simp, hx, h0, hBp, hBs, hBn⟩
  case round =>
    obtain ⟨p, r, hp, hr, hJs, bp, bs, bn⟩ := hrel
    have ki := hid (Tryd.strings_Index_one ⟨r.toArray⟩ 32 wr)
    have dp := bp.cell
    have ds := bs.cell
    have dn := bn.cell
    have kp := hid hp
    have kJ := hid hJs
    have kbp := hid bp
    have kbs := hid bs
    have kbn := hid bn
    have hlen : Hid (p.length + (splitL r).length = (splitL x).length) := by
      show _ = _
      rw [← hp]
      simp
    clear hp hJs bp bs bn cp cs hBp hBs hBn
    simp only at ki
    by_cases hi : Lib.indexByte r 32 = -1
    · have hs1 := split_none hi
      rw [hi] at ki
      rw [hs1] at kp hlen
      have hl2 : p.length < (splitL x).length := by have := hlen.out; simp at this; omega
      gi_wp2_with fail
      refine ⟨trivial, ?_⟩
      refine (callsIn_wide.2 ki.out).mono ?_
      rintro e w2 ⟨rfl, e2⟩
      rw [e2]
      clear e2 w2 ki
      obtain ⟨fn, tmps, assign, body, hy, hR⟩ := hY p ⟨r, hr⟩ _ kJ.out hl2
      simp only [encW] at hy
      gi_wp2
      refine hR.mono ?_
      rintro e W3 (⟨rfl, hJ3, hb3⟩ | ⟨rfl, hJx3⟩)
      · gi_wp2
        go_end0
        exact ⟨⟨_, rfl⟩, .inl ⟨p ++ [⟨r, hr⟩], by rw [List.map_append, ← kp.out]; rfl, hJ3⟩⟩
      · gi_wp2
        go_end0
        exact ⟨⟨_, rfl⟩, .inr ⟨p ++ [⟨r, hr⟩], ⟨[], by rw [List.map_append, ← kp.out]; simp⟩, hJx3⟩⟩
    · obtain ⟨i, hie⟩ : ∃ i : Nat, Lib.indexByte r 32 = (i : Int) := ⟨(Lib.indexByte r 32).toNat, by have := Lib.indexByte_ge r 32; omega⟩
      obtain ⟨h1, h2⟩ := split_some hie
      rw [hie] at ki
      gi_wp2_with fail
      refine ⟨trivial, ?_⟩
      refine (callsIn_wide.2 ki.out).mono ?_
      rintro e w2 ⟨rfl, e2⟩
      rw [e2]
      clear e2 w2 ki
      have hsz : (ByteArray.mk r.toArray).size = r.length := by simp [ByteArray.size]
      rw [h2] at kp hlen
      have hl2 : p.length < (splitL x).length := by have := hlen.out; simp at this; omega
      have ht : (r.take i).length ≤ 140737488355328 := by simp; omega
      have hdl : (r.drop (i + 1)).length ≤ 140737488355328 := by simp; omega
      have x1 := ext_take r i
      have x2 := ext_drop r (i + 1) r.length rfl
      obtain ⟨fn, tmps, assign, body, hy, hR⟩ := hY p ⟨r.take i, ht⟩ _ kJ.out hl2
      simp only [encW] at hy
      gi_wp2
      refine hR.mono ?_
      rintro e W3 (⟨rfl, hJ3, hb3⟩ | ⟨rfl, hJx3⟩)
      · have b1 := boxed_frm kbp.out hb3 hTp
        have b2 := boxed_frm kbs.out hb3 hTs
        have b3 := boxed_frm kbn.out hb3 hTn
        have d1 := b1.cell
        have d2 := b2.cell
        have d3 := b3.cell
        have q2 := b2.frozen
        have kb1 := hid b1
        have kb2 := hid b2
        have kb3 := hid b3
        clear b1 b2 b3 hb3 dp ds dn
        gi_wp2
        go_roundw
        case rel =>
          refine ⟨p ++ [⟨r.take i, ht⟩], r.drop (i + 1), ?_, hdl, hJ _ _ _ _ _ rfl hJ3, boxed_frm kb1.out (frm_set _ _ _ _) (by omega), ?_, boxed_frm kb3.out (frm_set _ _ _ _) (by omega)⟩
          · rw [List.map_append, ← kp.out]
            simp
          · have := Boxed.set (.string ⟨(r.drop (i + 1)).toArray⟩) kb2.out
            rw [← x2] at this ⊢
            first | exact this | (rw [hsz]; exact this) | (rw [hsz] at *; exact this)
        case measure =>
          rw [(Boxed.set (.string ⟨(r.drop (i + 1)).toArray⟩) kb2.out).cell, kbs.out.cell]
          simp [ByteArray.size]
          omega
      · gi_wp2
        refine bodyPost_ret (results_none rfl _ _ _) rfl ?_
        exact ⟨⟨_, rfl⟩, .inr ⟨p ++ [⟨r.take i, ht⟩], ⟨splitL (r.drop (i + 1)), by rw [List.map_append, ← kp.out]; simp⟩, hJx3⟩⟩

theorem split_stops (d : Nat) (hd : 1 ≤ d) (Bp Bs Bn : Nat) (hne1 : Bs ≠ Bp) (hne2 : Bs ≠ Bn) (x : List UInt8) (hx : x.length ≤ 140737488355328) (T : Nat → Prop) (hTp : ¬ T Bp) (hTs : ¬ T Bs) (hTn : ¬ T Bn) (w : World)
    (hBp : Boxed w Bp 9 (.string ⟨#[32]⟩)) (hBs : Boxed w Bs 9 (.string ⟨x.toArray⟩)) (hBn : Boxed w Bn 3 (.int .i64 0)) :
    SeqC Tryd.prog d 68 #[.pointer (some ⟨Bp, 0, none⟩), .pointer (some ⟨Bs, 0, none⟩), .pointer (some ⟨Bn, 0, none⟩)] encW (fun b => b = Bs) (Frm T) (fun q => q.map Subtype.val = splitL x) (fun p => ∃ t, p.map Subtype.val ++ t = splitL x) (splitL x).length w := fun l J Jx W hW hJ _ hY h0 =>
  split1_good d hd l Bp Bs Bn hne1 hne2 x hx T hTp hTs hTn J Jx hJ hY W (boxed_olds hBp (Old.of_below hW)) (boxed_olds hBs (Old.of_below hW)) (boxed_olds hBn (Old.of_below hW)) h0

set_option maxRecDepth 100000 in
theorem splitSeq_any (x : ByteArray) (w : World) : Calls Tryd.prog 62 #[.string x, .string ⟨#[32]⟩, .int .i64 0] w fun e w' => e = .returned (.func (.func 68) #[] #[.pointer (some ⟨w.heap.size + 1, 0, none⟩), .pointer (some ⟨w.heap.size, 0, none⟩), .pointer (some ⟨w.heap.size + 1 + 1, 0, none⟩)]) ∧ w' = ((w.alloc (.cells #[.string x] 9)).alloc (.cells #[.string ⟨#[32]⟩] 9)).alloc (.cells #[.int .i64 0] 3) := by
  go_enter Tryd.func62, Tryd.ntmps62
  go_wp2
  go_ret
  exact ⟨rfl, rfl⟩

set_option maxRecDepth 100000 in
theorem SplitSeq_any (x : ByteArray) (w : World) : Calls Tryd.prog 50 #[.string x, .string ⟨#[32]⟩] w fun e w' => e = .returned (.func (.func 68) #[] #[.pointer (some ⟨w.heap.size + 1, 0, none⟩), .pointer (some ⟨w.heap.size, 0, none⟩), .pointer (some ⟨w.heap.size + 1 + 1, 0, none⟩)]) ∧ w' = ((w.alloc (.cells #[.string x] 9)).alloc (.cells #[.string ⟨#[32]⟩] 9)).alloc (.cells #[.int .i64 0] 3) := by
  have k := hid (splitSeq_any x w)
  go_enter Tryd.func50, Tryd.ntmps50
  go_wp2_with fail
  refine k.out.mono ?_
  rintro e w' ⟨rfl, rfl⟩
  go_wp2
  go_ret
  exact ⟨rfl, rfl⟩
end Go.Proofs.YtgbdnlpdicmaaaaDoor
