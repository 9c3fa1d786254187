/- The document's box: Bid; what comes of bids by the document: Best, Come: walked. -/
import Derived.Test.YtfmeobelpideoaaP2
import Derived.Test.YtfmeobelpideoaaS4
import Derived.Test.YtfmeobelpideoaaM1
namespace Go.Proofs.Ytfmeobelpideoaa
open Go.RowKit

theorem bidZ_rf (fl b c : Int) : bidZ fl b c = if b < 0 ∨ coB c = false then 2 else if c < fl then 7 else 0 := by
  unfold bidZ wrB
  dsimp only
  by_cases h1 : b < 0
  · simp [h1]
  · cases h2 : coB c
    · simp
    · simp [h1]

set_option maxRecDepth 100000 in
set_option maxHeartbeats 4000000 in
theorem rbid_any (rb : Nat) (fl : Int) (v : Value) (L : List Sec) (b c : Int) (w : World) (h : Rf w rb fl v L) (hl : L.length ≤ 99999) :
    Calls Try.prog 35 #[.pointer (some ⟨rb, 0, none⟩), .int .i64 b, .int .i64 c] w fun e w' => e = .returned (.int .i64 (bidZ fl b c)) ∧ ∃ v', Rf w' rb fl v' (if bidZ fl b c = 0 then bidL b c L else L) ∧ (v' = v ∨ ∀ k, rblk v' = some k → w.heap.size ≤ k) ∧ Frm (fun k => k = rb) w w' := by
  obtain ⟨c0, c1, cf⟩ := h.cells
  have kA := hid (fun w => rare_any c w)
  have kD := hid (rdrop_any rb fl v L b w h (by omega))
  have kh := hid h
  by_cases h1 : b < 0
  · have hz : bidZ fl b c = 2 := by rw [bidZ_rf, if_pos (Or.inl h1)]
    rw [hz, if_neg (by decide)]
    clear h
    go_enter Try.func35, Try.ntmps35
    go_wp2_with fail
    go_ret
    exact ⟨rfl, v, kh.out, Or.inl rfl, Frm.refl _ _⟩
  · cases h2 : coB c
    · have hz : bidZ fl b c = 2 := by rw [bidZ_rf, if_pos (Or.inr h2)]
      rw [hz, if_neg (by decide)]
      rw [h2] at kA
      clear h hz h2
      go_enter Try.func35, Try.ntmps35
      go_wp2_with (go_at_call 16; refine (kA.out _).mono ?_; rintro e w' ⟨rfl, e2⟩; rw [e2]; clear e2)
      go_ret
      exact ⟨rfl, v, kh.out, Or.inl rfl, Frm.refl _ _⟩
    · rw [h2] at kA
      by_cases h3 : c < fl
      · have hz : bidZ fl b c = 7 := by rw [bidZ_rf, if_neg (by simp [h1, h2]), if_pos h3]
        rw [hz, if_neg (by decide)]
        clear h hz h2
        go_enter Try.func35, Try.ntmps35
        go_wp2_with (go_at_call 16; refine (kA.out _).mono ?_; rintro e w' ⟨rfl, e2⟩; rw [e2]; clear e2)
        go_ret
        exact ⟨rfl, v, kh.out, Or.inl rfl, Frm.refl _ _⟩
      · have hz : bidZ fl b c = 0 := by rw [bidZ_rf, if_neg (by simp [h1, h2]), if_neg h3]
        rw [hz, if_pos rfl]
        obtain ⟨zz, hzz⟩ : ∃ zz, (if L.any (ofB b) = true then (0 : Int) else 4) = zz := ⟨_, rfl⟩
        rw [hzz] at kD
        clear h hz h2 hzz
        go_enter Try.func35, Try.ntmps35
        go_wp2_with (first | (go_at_call 16; refine (kA.out _).mono ?_; rintro e w' ⟨rfl, e2⟩; rw [e2]; clear e2))
        refine kD.out.mono ?_
        rintro e w2 ⟨rfl, v2, h2, -, f2⟩
        have hdl := drop_len b L
        generalize hdL : dropL b L = D at *
        have kdL := hid hdL
        obtain ⟨d0, d1, df⟩ := h2.cells
        obtain ⟨ao, cap, rfl, hS, hn, -⟩ := h2.sec
        have ow0 : w2.ownsRow w.heap.size 39 2 (.slice none 0 0) ([] : List Sec).length (flatS []) := ⟨rfl, Or.inl ⟨rfl, rfl⟩⟩
        have kf2 := hid f2
        have kh2 := hid h2
        have hDl : D.length ≤ 99999 := by omega
        clear f2 h2 hdL hdl c0 c1 cf d0 df kD
        go_wp2_with (at_builtin; refine wpAppN (by rfl) _ _ (by rfl) w.heap.size (.slice none 0 0) ao D.length cap [] D rfl (by rfl) (by rfl) ow0 hS hn (by simp; omega) kf2.out.size ?_)
        intro v3 w3 r3 g3
        have o3 : Old w2 w3 := ⟨g3.os, g3.tape, g3.output, g3.size, fun q hq _ => g3.block q hq (by simp [Value.ownBlock])⟩
        have hr3 : w3.ownsRow w.heap.size 39 2 v3 D.length (flatS D) := by simpa using r3
        obtain ⟨a3, p3, hv3, -, -⟩ := (owns_new hr3).off
        subst hv3
        have oA : Old w3 (w3.alloc (.cells #[.int .i64 b, .int .i64 c] 39)) := (Old.refl w3).alloc _
        have hrA : (w3.alloc (.cells #[.int .i64 b, .int .i64 c] 39)).ownsRow w.heap.size 39 2 (.slice a3 D.length p3) D.length (flatS D) := owns_kept2 hr3 (fun k hk => oA.block k (hr3.lt k hk).2 (fun h => h))
        have hO : SecC (w3.alloc (.cells #[.int .i64 b, .int .i64 c] 39)) (some ⟨w3.heap.size, 0, none⟩) [(b, c)] := by
          have hn := heap_new w3 (.cells #[.int .i64 b, .int .i64 c] 39)
          intro j hj
          match j, hj with
          | 0, _ => exact ⟨w3.heap.size, 0, rfl, blk_cells hn rfl, blk_cells hn rfl⟩
        have ko3 := hid (o3.trans oA)
        have hB4 : w.heap.size ≤ (w3.alloc (.cells #[.int .i64 b, .int .i64 c] 39)).heap.size := Nat.le_trans kf2.out.size ko3.out.size
        clear r3 g3 o3 hr3 oA ow0 hS d1
        go_wp2_with (at_builtin; refine wpAppN (by rfl) _ _ (by rfl) w.heap.size (.slice a3 D.length p3) (some ⟨w3.heap.size, 0, none⟩) 1 1 D [(b, c)] rfl (by rfl) (by rfl) hrA hO (fun h => by cases h) (by simp; omega) hB4 ?_)
        intro v5 w5 r5 g5
        have f5 : Frm (fun q => (Value.slice a3 D.length p3).ownBlock = some q) (w3.alloc (.cells #[.int .i64 b, .int .i64 c] 39)) w5 := Frm.grown (Frm.refl _ _) g5 (fun q hq => Or.inr hq)
        have hbr : Hid (rb < w.heap.size) := by show _ < _; exact blk_lt kh.out.box
        have hrb : Hid (w5.heap[rb]? = w2.heap[rb]?) := by
          show _ = _
          have e1 : rb < w2.heap.size := blk_lt kh2.out.box
          have e2 : rb < (w3.alloc (.cells #[.int .i64 b, .int .i64 c] 39)).heap.size := Nat.lt_of_lt_of_le e1 ko3.out.size
          rw [f5.block rb e2 (fun e => by have := (hrA.lt rb e).1; have := hbr.out; omega)]
          exact ko3.out.block rb e1 (fun h => h)
        have k5 : Hid (Frm (fun k => k = rb) w w5) := Frm.trans (Frm.trans kf2.out (ko3.out.mono (fun _ _ h => h.elim)) (fun _ _ h => h)) f5 (fun j hj e => by have := (hrA.lt j e).1; omega)
        have e1 := hrb.out.trans kh2.out.box
        have q1 := blk_cells (i := 1) (v := .slice ao D.length cap) e1 rfl
        have qf := blk_fz e1 1
        have r6 : w5.ownsRow w.heap.size 39 2 v5 (bidL b c L).length (flatS (bidL b c L)) := by rw [bidL, kdL.out]; simpa using r5
        obtain ⟨a5, p5, hv5, -, -⟩ := (owns_new r6).off
        subst hv5
        have kr5 := hid r6
        clear r5 r6 g5 f5 e1 hrA hO hB4
        go_wp2_with fail
        go_ret
        refine ⟨rfl, _, kh2.out.put hrb.out kr5.out, Or.inr (fun k hk => (kr5.out.lt k (rblk_own kr5.out hk)).1), Frm.trans k5.out (frm_set w5 rb 1 _) (fun _ _ h => h)⟩
/-- The highest bid by the document, of the first n, one place left out. -/
def bestN (fl : Int) (L : List Sec) (but : Int) : Nat → Int
  | 0 => -1
  | n + 1 => if (n : Int) ≠ but ∧ fl ≤ cc L n ∧ (bestN fl L but n < 0 ∨ cc L n > cc L (bestN fl L but n).toNat) then (n : Int) else bestN fl L but n

theorem best_range (fl : Int) (L : List Sec) (but : Int) : ∀ n, bestN fl L but n = -1 ∨ (0 ≤ bestN fl L but n ∧ bestN fl L but n < (n : Int))
  | 0 => Or.inl rfl
  | n + 1 => by
    rw [bestN]
    split
    · right; omega
    · rcases best_range fl L but n with h | h
      · exact Or.inl h
      · right; omega

set_option maxRecDepth 100000 in
set_option maxHeartbeats 4000000 in
theorem best_any (fl : Int) (ao : Option Addr) (cap : Nat) (L : List Sec) (but : Int) (w : World) (h : SecC w ao L) (hl : L.length ≤ 1048576) :
    Calls Try.prog 49 #[.int .i64 fl, .slice ao L.length cap, .int .i64 but] w fun e w' => e = .returned (.int .i64 (bestN fl L but L.length)) ∧ Old w w' := by
  have kS := hid h
  clear h
  go_enter Try.func49, Try.ntmps49
  go_wp2_with fail
  go_loopw [7, 8] (fun v t wr => ∃ k : Nat, k ≤ L.length ∧ t = .int .i64 (k : Int) ∧ v = .int .i64 (bestN fl L but k) ∧ Hid (Old w wr)) (fun _ t _ => L.length - (intOf t).toNat)
  case atStart => exact ⟨0, Nat.zero_le _, rfl, rfl, Old.refl _⟩
  case round =>
    obtain ⟨k, hk, rfl, rfl, hO⟩ := hrel
    by_cases hlt : k < L.length
    · obtain ⟨g, o, rfl, d1, d2⟩ := kS.out k hlt
      have e2 := hO.out.cell d2
      rw [← cc_at hlt] at e2
      have hk' : (k : Int) < (L.length : Int) := by omega
      have hst : Hid (bestN fl L but (k + 1) = if (k : Int) ≠ but ∧ fl ≤ cc L k ∧ (bestN fl L but k < 0 ∨ cc L k > cc L (bestN fl L but k).toNat) then (k : Int) else bestN fl L but k) := rfl
      have hrg := best_range fl L but k
      obtain ⟨x, hx⟩ : ∃ x, cc L k = x := ⟨_, rfl⟩
      rw [hx] at e2 hst
      generalize bestN fl L but k = z at *
      clear d1 d2 hx
      by_cases h1 : (k : Int) = but
      · have h1b : ((k : Int) != but) = false := by simpa using h1
        rw [if_neg (fun h => h.1 h1)] at hst
        clear h1
        go_wp2_with fail
        go_quiet (fail)
        go_wp2_with fail
        go_roundw
        case rel => exact ⟨k + 1, by omega, by go_num, by rw [hst.out], hid (hO.out.drewN _)⟩
        case measure => simp [intOf]; omega
      · have h1b : ((k : Int) != but) = true := by simpa using h1
        by_cases h2 : x ≥ fl
        · by_cases h3 : z < 0
          · rw [if_pos ⟨h1, h2, Or.inl h3⟩] at hst
            clear h1
            go_wp2_with fail
            go_quiet (fail)
            go_wp2_with fail
            go_roundw
            case rel => exact ⟨k + 1, by omega, by go_num, by rw [hst.out], hid (hO.out.drewN _)⟩
            case measure => simp [intOf]; omega
          · obtain ⟨m, rfl⟩ : ∃ m : Nat, z = m := ⟨z.toNat, by omega⟩
            have hm : m < L.length := by omega
            obtain ⟨g', o', e, f1, f2⟩ := kS.out m hm
            simp only [Option.some.injEq, Addr.mk.injEq, and_true] at e
            obtain ⟨rfl, rfl⟩ := e
            have f3 := hO.out.cell f2
            rw [← cc_at hm] at f3
            obtain ⟨y, hy⟩ : ∃ y, cc L m = y := ⟨_, rfl⟩
            rw [Int.toNat_natCast, hy] at hst
            rw [hy] at f3
            have hm' : (m : Int) < (L.length : Int) := by omega
            clear f1 f2 hy
            by_cases h4 : x > y
            · rw [if_pos ⟨h1, h2, Or.inr h4⟩] at hst
              clear h1
              go_wp2_with fail
              go_quiet (fail)
              go_wp2_with fail
              go_roundw
              case rel => exact ⟨k + 1, by omega, by go_num, by rw [hst.out], hid (hO.out.drewN _)⟩
              case measure => simp [intOf]; omega
            · rw [if_neg (fun h => by rcases h.2.2 with h | h; exact h3 h; exact h4 h)] at hst
              clear h1
              go_wp2_with fail
              go_quiet (fail)
              go_wp2_with fail
              go_roundw
              case rel => exact ⟨k + 1, by omega, by go_num, by rw [hst.out], hid (hO.out.drewN _)⟩
              case measure => simp [intOf]; omega
        · rw [if_neg (fun h => h2 h.2.1)] at hst
          have h2b : decide (fl ≤ x) = false := by simpa using h2
          clear h1 h2
          go_wp2_with fail
          go_quiet (fail)
          go_wp2_with fail
          go_roundw
          case rel => exact ⟨k + 1, by omega, by go_num, by rw [hst.out], hid (hO.out.drewN _)⟩
          case measure => simp [intOf]; omega
    · obtain rfl : k = L.length := by omega
      go_wp2_with fail
      go_ret
      exact ⟨rfl, hO.out⟩
end Go.Proofs.Ytfmeobelpideoaa
