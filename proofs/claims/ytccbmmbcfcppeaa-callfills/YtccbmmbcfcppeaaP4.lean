/- Places in order; a function that goes over who trades: walked. -/
import Derived.Test.YtccbmmbcfcppeaaP3
import Derived.Test.YtccbmmbcfcppeaaGM
import Derived.Test.YtccbmmbcfcppeaaN10
namespace Go.Proofs.Ytccbmmbcfcppeaa
open Go.RowKit

theorem made_ints (k : IntKind) (n : Nat) : madeCells (Value.int k 0).cells n = Array.replicate n (Value.int k 0) := by
  unfold madeCells
  apply Array.ext
  · simp
  · intro i h1 h2
    simp [Value.cells, Nat.mod_one]
theorem info_i : (Try.prog.info? 3).map (fun i => (i.zero, i.bytes, i.size)) = some (some (.int .i64 0), 8, 1) := by kernel_rfl
theorem make_i (n : Nat) (hn : n ≤ 1048576) (w : World) : (Instr.makeSlice 26 (.int .i64 (n : Int)) (.int .i64 (n : Int))).run Try.prog w = .ok (.slice (some ⟨w.heap.size, 0, none⟩) n n) (w.alloc (.cells (Array.replicate n (Value.int .i64 0)) 3)) := by
  obtain ⟨i, hi, h2⟩ := Option.map_eq_some_iff.1 info_i
  simp only [Prod.mk.injEq] at h2
  obtain ⟨hz, hb, hs⟩ := h2
  have h := run_make (P := Try.prog) w 26 3 i (.int .i64 0) Try.underlying26 hi hz .i64 .i64 n n (by omega) (by omega) (by rw [hb]; omega) (by omega)
  rw [h, hs]
  simp only [Int.toNat_natCast, Nat.mul_one, made_ints]

/-- The first k places are laid. -/
def fl (k : Nat) : Dat := fun t => if t < k then t else 0
theorem OD.congr {w0 w : World} {blk n : Nat} {f g : Dat} (h : OD w0 blk n f w) (e : ∀ t, t < n → g t = f t) : OD w0 blk n g w := by
  have : dl n g = dl n f := by
    unfold dl
    apply List.map_congr_left
    intro t ht
    rw [e t (List.mem_range.1 ht)]
  exact ⟨by rw [this]; exact h.own, h.frm⟩
theorem OD.lay {w0 w : World} {blk n k : Nat} (h : OD w0 blk n (fl k) w) : OD w0 blk n (fl (k + 1)) (w.setCell ⟨blk, k, none⟩ (.int .i64 (k : Int))) := by
  refine ⟨?_, Frm.setCell h.frm ⟨blk, k, none⟩ (Or.inr rfl) _⟩
  have := h.own.set k (k : Int)
  have e : (dl n (fl k)).set k (k : Int) = dl n (fl (k + 1)) := by
    apply List.ext_getElem
    · simp [dl_len]
    · intro t h1 h2
      have ht : t < n := by rw [dl_len] at h2; exact h2
      rw [dl_at ht, List.getElem_set]
      unfold fl
      by_cases e1 : k = t
      · rw [if_pos e1, if_pos (by omega), e1]
      · rw [if_neg e1, dl_at ht]
        by_cases e2 : t < k
        · rw [if_pos e2, if_pos (by omega)]
        · rw [if_neg e2, if_neg (by omega)]
  rw [e] at this
  exact this
theorem OD.start (w : World) (n : Nat) : OD w w.heap.size n (fl 0) (w.alloc (.cells (Array.replicate n (Value.int .i64 0)) 3)) := by
  refine ⟨⟨?_⟩, (Frm.refl _ w).alloc _⟩
  rw [heap_new]
  congr 2
  apply Array.ext
  · simp [dl_len]
  · intro i h1 h2
    simp [dl, fl]

/-- The type of comparisons. -/
abbrev cmpT : Nat := 72

set_option maxRecDepth 100000 in
set_option maxHeartbeats 4000000 in
theorem inOrder_any (K : Nat → Int) (n : Nat) (f : Nat) (cb : Nat) (w : World) (hl : n ≤ 4096) (hC : Cmp (w.alloc (.cells #[.func (.func f) #[] #[.pointer (some ⟨cb, 0, none⟩)]] cmpT)) w.heap.size (w.heap.size + 1) n K) :
    Calls Try.prog 36 #[.int .i64 (n : Int), .func (.func f) #[] #[.pointer (some ⟨cb, 0, none⟩)]] w fun e w' => ∃ b, e = .returned (.slice (some ⟨b, 0, none⟩) n n) ∧ Own .i64 3 w' b (dl n (og K n)) ∧ Old w w' ∧ w.heap.size ≤ b := by
  have hmk := make_i n (by omega)
  have hmf : ∀ (fn : Fn) (first cap : Array Value) (w : World), (Instr.makeFunc fn first cap).run Try.prog w = .ok (.func fn first cap) w := fun _ _ _ _ => rfl
  have kC := hid hC
  have kO : Hid (Old w (w.alloc (.cells #[.func (.func f) #[] #[.pointer (some ⟨cb, 0, none⟩)]] cmpT))) := (Old.refl w).alloc _
  have kD := hid (OD.start (w.alloc (.cells #[.func (.func f) #[] #[.pointer (some ⟨cb, 0, none⟩)]] cmpT)) n)
  rw [alloc_size] at kD
  have hsz : (w.alloc (.cells #[.func (.func f) #[] #[.pointer (some ⟨cb, 0, none⟩)]] cmpT)).heap.size = w.heap.size + 1 := alloc_size _ _
  clear hC
  unfold cmpT at *
  go_enter Try.func36, Try.ntmps36
  go_wp2_with fail
  generalize w.alloc (.cells #[.func (.func f) #[] #[.pointer (some ⟨cb, 0, none⟩)]] 72) = W1 at *
  obtain ⟨blk, hblk⟩ : ∃ blk, blk = w.heap.size + 1 := ⟨_, rfl⟩
  rw [← hblk] at kC kD
  simp only [← hblk]
  have kblk := hid hblk
  clear hblk hsz
  go_loopw [6, 11] (fun _ t wr => ∃ k : Nat, k ≤ n ∧ t = .int .i64 (k : Int) ∧ Hid (OD W1 blk n (fl k) wr)) (fun _ t _ => n - (intOf t).toNat)
  case atStart => exact ⟨0, Nat.zero_le _, rfl, kD⟩
  case round =>
    clear kD
    obtain ⟨k, hk, rfl, hO⟩ := hrel
    by_cases hlt : k < n
    · have hlt' : (k : Int) < (n : Int) := by omega
      obtain ⟨d1, e1⟩ := hO.out.cell (i := k) hlt
      have hst := hid hO.out.lay
      clear hO
      go_wp2_with fail
      go_roundw
      case rel => exact ⟨k + 1, by omega, by go_num, hst⟩
      case measure => simp [intOf]; omega
    · obtain rfl : k = n := by omega
      have hlt' : ¬ (k : Int) < (k : Int) := by omega
      have kS := hid (sortStable_any W1 wr w.heap.size blk K k kC.out hl (hO.out.congr (fun t ht => by unfold fl; rw [if_pos ht])))
      clear hO
      go_wp2_with fail
      refine kS.out.mono ?_
      rintro e w2 ⟨rfl, g, o1, o2, o3⟩
      have kF : Hid (Own .i64 3 w2 blk (dl k (og K k)) ∧ Old w w2 ∧ w.heap.size ≤ blk) := ⟨(o1.congr (fun t ht => (og_uniq o2 o3 t ht).symm)).own, Frm.trans kO.out o1.frm (fun i hi h => by have := kblk.out; omega), by have := kblk.out; omega⟩
      clear o1 o2 o3 kS
      go_wp2_with fail
      go_ret
      exact ⟨_, rfl, kF.out⟩

theorem cmp_buys (w : World) (cb : Nat) (ao : Option Addr) (cap : Nat) (L : List Wt) (c0 : w.cell? ⟨cb, 0, none⟩ = some (.slice ao L.length cap)) (hS : WC w ao L) : Cmp (w.alloc (.cells #[.func (.func 37) #[] #[.pointer (some ⟨cb, 0, none⟩)]] cmpT)) w.heap.size (w.heap.size + 1) L.length (keyB L) := by
  refine ⟨fun W x y hf hx hy => ?_⟩
  have o1 : Old w (w.alloc (.cells #[.func (.func 37) #[] #[.pointer (some ⟨cb, 0, none⟩)]] cmpT)) := (Old.refl w).alloc _
  have c1 := new_cell w #[.func (.func 37) #[] #[.pointer (some ⟨cb, 0, none⟩)]] cmpT 0 _ rfl
  have hlt := World.block_lt_of_cell? w _ c0
  refine in1_buys w.heap.size cb ao cap L x y W (frm_cell hf c1 (by dsimp only; omega)) (frm_cell hf (o1.cell c0) (by dsimp only at hlt ⊢; omega)) ((hS.old o1).frm hf (fun hp ad e => ?_)) hx hy
  have := hS.lt hp ad e
  omega
theorem cmp_sells (w : World) (cb : Nat) (ao : Option Addr) (cap : Nat) (L : List Wt) (c0 : w.cell? ⟨cb, 0, none⟩ = some (.slice ao L.length cap)) (hS : WC w ao L) : Cmp (w.alloc (.cells #[.func (.func 39) #[] #[.pointer (some ⟨cb, 0, none⟩)]] cmpT)) w.heap.size (w.heap.size + 1) L.length (keyS L) := by
  refine ⟨fun W x y hf hx hy => ?_⟩
  have o1 : Old w (w.alloc (.cells #[.func (.func 39) #[] #[.pointer (some ⟨cb, 0, none⟩)]] cmpT)) := (Old.refl w).alloc _
  have c1 := new_cell w #[.func (.func 39) #[] #[.pointer (some ⟨cb, 0, none⟩)]] cmpT 0 _ rfl
  have hlt := World.block_lt_of_cell? w _ c0
  refine in1_sells w.heap.size cb ao cap L x y W (frm_cell hf c1 (by dsimp only; omega)) (frm_cell hf (o1.cell c0) (by dsimp only at hlt ⊢; omega)) ((hS.old o1).frm hf (fun hp ad e => ?_)) hx hy
  have := hS.lt hp ad e
  omega

/-- Where that lies over which one goes. -/
structure TrC (w : World) (b5 b6 b2 b3 rb rs : Nat) (ao bo : Option Addr) (ca cb : Nat) (L M : List Wt) : Prop where
  c5 : w.cell? ⟨b5, 0, none⟩ = some (.slice (some ⟨rb, 0, none⟩) L.length L.length)
  c6 : w.cell? ⟨b6, 0, none⟩ = some (.slice (some ⟨rs, 0, none⟩) M.length M.length)
  c2 : w.cell? ⟨b2, 0, none⟩ = some (.slice ao L.length ca)
  c3 : w.cell? ⟨b3, 0, none⟩ = some (.slice bo M.length cb)
  r5 : NumsC .i64 w (some ⟨rb, 0, none⟩) (dl L.length (og (keyB L) L.length))
  r6 : NumsC .i64 w (some ⟨rs, 0, none⟩) (dl M.length (og (keyS M) M.length))
  wl : WC w ao L
  wm : WC w bo M
theorem TrC.old {w w' : World} {b5 b6 b2 b3 rb rs : Nat} {ao bo : Option Addr} {ca cb : Nat} {L M : List Wt} (h : TrC w b5 b6 b2 b3 rb rs ao bo ca cb L M) (o : Old w w') : TrC w' b5 b6 b2 b3 rb rs ao bo ca cb L M :=
  ⟨o.cell h.c5, o.cell h.c6, o.cell h.c2, o.cell h.c3, h.r5.old o, h.r6.old o, h.wl.old o, h.wm.old o⟩

set_option maxRecDepth 100000 in
set_option maxHeartbeats 4000000 in
theorem trades_any (ao bo : Option Addr) (ca cb : Nat) (L M : List Wt) (w : World) (hL : WC w ao L) (hM : WC w bo M) (h1 : L.length ≤ 4096) (h2 : M.length ≤ 4096) :
    Calls Try.prog 21 #[.slice ao L.length ca, .slice bo M.length cb] w fun e w' => ∃ b5 b6 b2 b3 rb rs, e = .returned (.func (.func 40) #[] #[.pointer (some ⟨b5, 0, none⟩), .pointer (some ⟨b6, 0, none⟩), .pointer (some ⟨b2, 0, none⟩), .pointer (some ⟨b3, 0, none⟩)]) ∧ TrC w' b5 b6 b2 b3 rb rs ao bo ca cb L M ∧ Old w w' ∧ w.heap.size ≤ b5 ∧ w.heap.size ≤ b6 ∧ w.heap.size ≤ b2 ∧ w.heap.size ≤ b3 ∧ w.heap.size ≤ rb ∧ w.heap.size ≤ rs := by
  have hmf : ∀ (fn : Fn) (first cap : Array Value) (w : World), (Instr.makeFunc fn first cap).run Try.prog w = .ok (.func fn first cap) w := fun _ _ _ _ => rfl
  have oA : Old w ((w.alloc (.cells #[.slice ao L.length ca] 22)).alloc (.cells #[.slice bo M.length cb] 22)) := ((Old.refl w).alloc _).alloc _
  obtain ⟨kb1, kb2⟩ := boxed_two w (.slice ao L.length ca) (.slice bo M.length cb) 22 22
  have c2 := kb1.cell
  have c3 := kb2.cell
  have hz : ((w.alloc (.cells #[.slice ao L.length ca] 22)).alloc (.cells #[.slice bo M.length cb] 22)).heap.size = w.heap.size + 2 := by simp only [alloc_size]
  have kL := hid (hL.old oA)
  have kM := hid (hM.old oA)
  have koA := hid oA
  clear hL hM oA kb1 kb2
  go_enter Try.func21, Try.ntmps21
  go_wp2_with fail
  generalize (w.alloc (.cells #[.slice ao L.length ca] 22)).alloc (.cells #[.slice bo M.length cb] 22) = W1 at *
  obtain ⟨s, hs0⟩ : ∃ s, w.heap.size = s := ⟨_, rfl⟩
  rw [hs0] at c2 c3 hz
  simp only [hs0]
  have hs := hid hs0
  clear hs0
  have kI := hid (inOrder_any (keyB L) L.length 37 s W1 h1 (cmp_buys W1 s ao ca L c2 kL.out))
  refine kI.out.mono ?_
  rintro e w2 ⟨rb, rfl, r5, o2, hrb⟩
  have c2 := o2.cell c2
  have c3 := o2.cell c3
  have kL := hid (kL.out.old o2)
  have kM := hid (kM.out.old o2)
  have ko2 := hid (koA.out.trans o2)
  have kr5 := hid r5.nums
  have hz2 := o2.size
  rw [hz] at hrb hz2
  have oB : Old w2 (w2.alloc (.cells #[.slice (some ⟨rb, 0, none⟩) L.length L.length] 26)) := (Old.refl w2).alloc _
  have c2 := oB.cell c2
  have c3 := oB.cell c3
  have c5 := new_cell w2 #[.slice (some ⟨rb, 0, none⟩) L.length L.length] 26 0 _ rfl
  have kL := hid (kL.out.old oB)
  have kM := hid (kM.out.old oB)
  have ko3 := hid (ko2.out.trans oB)
  have kr5 := hid (kr5.out.old oB)
  clear kI koA r5 o2 hz ko2 oB
  go_wp2_with fail
  generalize w2.alloc (.cells #[.slice (some ⟨rb, 0, none⟩) L.length L.length] 26) = W3 at *
  generalize w2.heap.size = b5 at *
  have kI := hid (inOrder_any (keyS M) M.length 39 (s + 1) W3 h2 (cmp_sells W3 (s + 1) bo cb M c3 kM.out))
  refine kI.out.mono ?_
  rintro e w4 ⟨rs, rfl, r6, o4, hrs⟩
  have c2 := o4.cell c2
  have c3 := o4.cell c3
  have c5 := o4.cell c5
  have kT := hid (show Hid (WC w4 ao L) ∧ Hid (WC w4 bo M) ∧ Hid (NumsC .i64 w4 (some ⟨rb, 0, none⟩) (dl L.length (og (keyB L) L.length))) from ⟨hid (kL.out.old o4), hid (kM.out.old o4), hid (kr5.out.old o4)⟩)
  have ko5 := hid (ko3.out.trans o4)
  have kr6 := hid r6.nums
  have hz4 := hid (Nat.le_trans (ko3.out.size) o4.size)
  have hrs2 := hid (Nat.le_trans (ko3.out.size) hrs)
  clear kI r6 o4 ko3 kr5 kL kM hrs
  go_wp2_with fail
  go_ret
  have oC : Old w4 (w4.alloc (.cells #[.slice (some ⟨rs, 0, none⟩) M.length M.length] 26)) := (Old.refl w4).alloc _
  refine ⟨b5, w4.heap.size, s, s + 1, rb, rs, rfl, ⟨oC.cell c5, new_cell _ _ _ 0 _ rfl, oC.cell c2, oC.cell c3, kT.out.2.2.out.old oC, kr6.out.old oC, kT.out.1.out.old oC, kT.out.2.1.out.old oC⟩, ko5.out.trans oC, ?_⟩
  have := hz4.out
  have := hrs2.out
  have := hs.out
  omega
end Go.Proofs.Ytccbmmbcfcppeaa
