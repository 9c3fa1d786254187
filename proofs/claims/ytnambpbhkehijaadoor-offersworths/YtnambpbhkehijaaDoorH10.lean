/- Lists lent, and whether they are as they were; lists that are not gone over: walked. -/
import Derived.Test.YtnambpbhkehijaaDoorH7
namespace Go.Proofs.YtnambpbhkehijaaDoor
open Go.RowKit

def mark : Off := (77, -77)

/-- Offers lent: in memory of their own, with a mark behind. -/
def Lent (B : Nat) (w : World) (v : Value) (L : List Off) : Prop := ∃ b cap, v = .slice (some ⟨b, 0, none⟩) L.length cap ∧ L.length + 1 ≤ cap ∧ B ≤ b ∧ OwnO w b (L ++ [mark])
theorem Lent.old {B : Nat} {w w' : World} {v : Value} {L : List Off} (h : Lent B w v L) (o : Old w w') : Lent B w' v L := by
  obtain ⟨b, cap, h1, h2, h3, ow⟩ := h
  exact ⟨b, cap, h1, h2, h3, ow.old o⟩

set_option maxRecDepth 100000 in
set_option maxHeartbeats 4000000 in
theorem lent_any (ao : Option Addr) (cap : Nat) (L : List Off) (w : World) (h : OffC w ao L) (hn : ao = none → cap = 0) (hl : L.length ≤ 999999) :
    Calls Tryd.prog 8 #[.slice ao L.length cap] w fun e w' => ∃ v, e = .returned v ∧ Lent w.heap.size w' v L ∧ Old w w' := by
  have q1 : Old w (w.alloc (.cells #[] 58)) := (Old.refl w).alloc _
  have h1 := heap_new w (.cells #[] 58)
  have hO := h.old q1
  have hsz := alloc_size w (.cells #[] 58)
  have ow0 : (w.alloc (.cells #[] 58)).ownsRow w.heap.size 58 2 (.slice (some ⟨w.heap.size, 0, none⟩) 0 0) 0 (flatO []) := ⟨rfl, Or.inr ⟨w.heap.size, 0, #[], rfl, Nat.le_refl _, h1, Nat.le_refl _, by unfold maxLen; omega, rfl, rfl⟩⟩
  have ko := hid q1
  clear q1 h1 h
  go_enter Tryd.func8, Tryd.ntmps8
  go_wp2_with (at_builtin; refine wpAppO (by rfl) _ _ (by rfl) w.heap.size (.slice (some ⟨w.heap.size, 0, none⟩) 0 0) ao cap [] L (by rfl) (by rfl) ow0 hO hn (by simp; omega) (by omega) ?_)
  generalize w.alloc (.cells #[] 58) = w1 at *
  intro v2 w2 ow2 gr2
  have o2 : Old w w2 := by
    refine ⟨gr2.os.trans ko.out.os, gr2.tape.trans ko.out.tape, gr2.output.trans ko.out.output, Nat.le_trans ko.out.size gr2.size, fun q hq _ => ?_⟩
    rw [gr2.block q (by omega) (by simp [Value.ownBlock]; omega)]
    exact ko.out.block q hq (fun h => h)
  have hsz2 := gr2.size
  try rw [List.nil_append] at ow2
  have q3 : Old w2 (w2.alloc (.cells #[.int .u32 77, .int .i64 (-77)] 58)) := (Old.refl w2).alloc _
  have h3 := heap_new w2 (.cells #[.int .u32 77, .int .i64 (-77)] 58)
  have hO3 : OffC (w2.alloc (.cells #[.int .u32 77, .int .i64 (-77)] 58)) (some ⟨w2.heap.size, 0, none⟩) [mark] := by
    intro i hi
    match i, hi with
    | 0, _ => exact ⟨w2.heap.size, 0, rfl, blk_cells h3 rfl, blk_cells h3 rfl⟩
  have ow3 := ow2.alloc (.cells #[.int .u32 77, .int .i64 (-77)] 58)
  have hge := fun k hk => (ow2.lt k hk).1
  have kge := hid hge
  have ko2 := hid (o2.trans q3)
  have hsz3 := alloc_size w2 (.cells #[.int .u32 77, .int .i64 (-77)] 58)
  clear h3 o2 ow2 gr2 ko hge ow0 hO
  go_wp2_with (at_builtin; refine wpAppO (by rfl) _ _ (by rfl) w.heap.size v2 (some ⟨w2.heap.size, 0, none⟩) 1 L [mark] (by rfl) (by rfl) ow3 hO3 (fun h => by cases h) (by simp; omega) (by omega) ?_)
  generalize w2.alloc (.cells #[.int .u32 77, .int .i64 (-77)] 58) = w3 at *
  intro v4 w4 ow4 gr4
  have o4 : Hid (Old w w4) := by
    refine ⟨gr4.os.trans ko2.out.os, gr4.tape.trans ko2.out.tape, gr4.output.trans ko2.out.output, Nat.le_trans ko2.out.size gr4.size, fun q hq _ => ?_⟩
    rw [gr4.block q (by omega) (fun e => by have := kge.out q e.symm; omega)]
    exact ko2.out.block q hq (fun h => h)
  rcases owns_new (L := L ++ [mark]) (by simpa using ow4) with ⟨-, h0⟩ | ⟨b, c4, rfl, hb, hc4, own⟩
  · simp at h0
  have hc5 : L.length + 1 ≤ c4 := by simpa using hc4
  have kown := hid own
  clear own ow4 gr4 hO3 ow3 kge hc4
  have hl1 : (L ++ [mark]).length = L.length + 1 := by simp
  rw [hl1]
  go_wp2_with fail
  go_ret
  exact ⟨_, rfl, ⟨b, c4, rfl, hc5, hb, kown.out⟩, o4.out⟩

set_option maxRecDepth 100000 in
set_option maxHeartbeats 4000000 in
theorem sameO_any (ao bo : Option Addr) (ca cb : Nat) (L M : List Off) (w : World) (h : OffC w ao L) (hM : OffC w bo M) (hl : L.length ≤ 9223372036854775807) :
    Calls Tryd.prog 33 #[.slice ao L.length ca, .slice bo M.length cb] w fun e w' => e = .returned (.bool (decide (L = M))) ∧ Old w w' := by
  by_cases hlen : L.length = M.length
  · have hne : ((L.length : Int) != (M.length : Int)) = false := by rw [hlen]; simp
    have klen := hid hlen
    clear hlen
    go_enter Tryd.func33, Tryd.ntmps33
    go_wp2_with fail
    go_loopw [5] (fun t wr => ∃ k : Nat, k ≤ L.length ∧ t = .int .i64 (k : Int) ∧ Hid (L.take k = M.take k) ∧ Old w wr) (fun t _ => L.length - (intOf t).toNat)
    case atStart => exact ⟨0, Nat.zero_le _, rfl, by show _ = _; simp, Old.refl _⟩
    case round =>
      obtain ⟨k, hk, rfl, hA, oW⟩ := hrel
      by_cases hlt : k < L.length
      · have hlt2 : k < M.length := by have := klen.out; omega
        obtain ⟨g, o, rfl, d1, d1'⟩ := h k hlt
        obtain ⟨g2, o2, rfl, d2, d2'⟩ := hM k hlt2
        have e1 := oW.cell d1
        have e1' := oW.cell d1'
        have e2 := oW.cell d2
        have e2' := oW.cell d2'
        have hk' : (k : Int) < (L.length : Int) := by omega
        have hk'' : (k : Int) < (M.length : Int) := by omega
        have hst : Hid (L[k] = M[k] → L.take (k + 1) = M.take (k + 1)) := fun e => by
          show L.take (k + 1) = M.take (k + 1)
          rw [List.take_succ_eq_append_getElem hlt, List.take_succ_eq_append_getElem hlt2, hA.out, e]
        have hno : Hid (¬ L[k] = M[k] → ¬ L = M) := fun e e2 => by
          subst e2
          exact e rfl
        have koW := hid oW
        obtain ⟨x, hx⟩ : ∃ x, L[k] = x := ⟨_, rfl⟩
        obtain ⟨y, hy⟩ : ∃ y, M[k] = y := ⟨_, rfl⟩
        rw [hx] at e1 e1' hst hno
        rw [hy] at e2 e2' hst hno
        obtain ⟨xg, xc⟩ := x
        obtain ⟨yg, yc⟩ := y
        dsimp only at e1 e1' e2 e2'
        clear hx hy d1 d1' d2 d2' oW
        by_cases hg : xg = yg
        · subst hg
          by_cases hc : xc = yc
          · subst hc
            have kt := hid (hst.out rfl)
            clear hst hno
            go_wp2_with fail
            go_quiet (fail)
            go_wp2_with fail
            go_roundw
            case rel => exact ⟨k + 1, by omega, by go_num, kt, koW.out.drewN _⟩
            case measure => simp [intOf]; omega
          · have hb : (xc == yc) = false := by simpa using hc
            have kn := hid (hno.out (fun e => hc (Prod.mk.injEq _ _ _ _ ▸ e).2))
            clear hst hno hc
            go_wp2_with fail
            go_quiet (fail)
            go_wp2_with fail
            go_ret
            exact ⟨by rw [decide_eq_false kn.out]; rfl, koW.out.drewN _⟩
        · have hb : ((xg : Int) == (yg : Int)) = false := by simp; omega
          have kn := hid (hno.out (fun e => hg (Prod.mk.injEq _ _ _ _ ▸ e).1))
          clear hst hno hg
          go_wp2_with fail
          go_quiet (fail)
          go_wp2_with fail
          go_ret
          exact ⟨by rw [decide_eq_false kn.out]; rfl, koW.out.drewN _⟩
      · obtain rfl : k = L.length := by omega
        have he : Hid (L = M) := by
          have := hA.out
          rw [List.take_length, klen.out, List.take_length] at this
          exact this
        go_wp2_with fail
        go_ret
        exact ⟨by rw [decide_eq_true he.out]; rfl, oW⟩
  · have hne : ((L.length : Int) != (M.length : Int)) = true := by rw [bne_iff_ne]; omega
    have kn : Hid (¬ L = M) := fun e => hlen (by rw [e])
    go_enter Tryd.func33, Tryd.ntmps33
    go_wp2_with fail
    go_ret
    exact ⟨by rw [decide_eq_false kn.out]; rfl, Old.refl _⟩

set_option maxRecDepth 100000 in
set_option maxHeartbeats 4000000 in
theorem kept_any (B : Nat) (v : Value) (lo : Option Addr) (cl : Nat) (L : List Off) (w : World) (hv : Lent B w v L) (h : OffC w lo L) (hl : L.length ≤ 999999) :
    Calls Tryd.prog 10 #[v, .slice lo L.length cl] w fun e w' => e = .returned (.bool true) ∧ Old w w' := by
  obtain ⟨b, cap, rfl, hcap, hB, ow⟩ := hv
  have kS := hid (sameO_any (some ⟨b, 0, none⟩) lo cap cl L L w ow.front.off h (by omega))
  rw [decide_eq_true rfl] at kS
  have kow := hid ow
  clear ow h
  go_enter Tryd.func10, Tryd.ntmps10
  go_wp2_with fail
  refine kS.out.mono ?_
  rintro e w2 ⟨rfl, o2⟩
  obtain ⟨m0, m1⟩ := (kow.out.old o2).at (i := L.length) (x := mark) (by simp)
  have ko2 := hid o2
  have hc1 : (L.length : Int) + 1 ≤ (cap : Int) := by omega
  have hc2 : (L.length : Int) < (L.length : Int) + 1 := by omega
  simp only [mark] at m0 m1
  clear o2 kS
  go_wp2_with fail
  go_ret
  exact ⟨rfl, ko2.out⟩

/-- Is one of the lists too long to be gone over? -/
def lo60 (B : Ins) : Bool := B.any (fun l => decide (60 < l.length)) || decide (60 < B.length)

set_option maxRecDepth 100000 in
set_option maxHeartbeats 4000000 in
theorem long_any (bo : Option Addr) (cap : Nat) (B : Ins) (w : World) (h : InsC w bo B) (hl : B.length ≤ 9223372036854775807) :
    Calls Tryd.prog 6 #[.slice bo B.length cap] w fun e w' => e = .returned (.bool (lo60 B)) ∧ w' = w := by
  have kO := hid h
  clear h
  go_enter Tryd.func6, Tryd.ntmps6
  go_wp2_with fail
  go_loopw [3] (fun t wr => ∃ k : Nat, k ≤ B.length ∧ t = .int .i64 (k : Int) ∧ Hid ((B.take k).any (fun l => decide (60 < l.length)) = false) ∧ wr = w) (fun t _ => B.length - (intOf t).toNat)
  case atStart => exact ⟨0, Nat.zero_le _, rfl, rfl, by trivial⟩
  case round =>
    obtain ⟨k, hk, rfl, hA, hwr⟩ := hrel
    obtain rfl := hwr.symm
    by_cases hlt : k < B.length
    · obtain ⟨g, o, a0, cc, rfl, ck, -, -, -⟩ := kO.out k hlt
      have hk' : (k : Int) < (B.length : Int) := by omega
      by_cases h60 : 60 < B[k].length
      · have kz : Hid (lo60 B = true) := by
          show _ = _
          rw [lo60, List.any_eq_true.2 ⟨B[k], List.getElem_mem hlt, decide_eq_true h60⟩]
          rfl
        have h60' : (B[k].length : Int) > 60 := by omega
        obtain ⟨n, hn⟩ : ∃ n, B[k].length = n := ⟨_, rfl⟩
        rw [hn] at ck h60'
        clear hn h60
        go_wp2_with fail
        go_ret
        exact ⟨by rw [kz.out]; rfl, rfl⟩
      · have kz : Hid ((B.take (k + 1)).any (fun l => decide (60 < l.length)) = false) := by
          show _ = _
          rw [List.take_succ_eq_append_getElem hlt, List.any_append, hA.out]
          simp [h60]
        have h60' : ¬ (B[k].length : Int) > 60 := by omega
        obtain ⟨n, hn⟩ : ∃ n, B[k].length = n := ⟨_, rfl⟩
        rw [hn] at ck h60'
        clear hn h60
        go_wp2_with fail
        go_roundw
        case rel => exact ⟨k + 1, by omega, by go_num, kz, by trivial⟩
        case measure => simp [intOf]; omega
    · obtain rfl : k = B.length := by omega
      have kz : Hid (lo60 B = decide (60 < B.length)) := by
        show _ = _
        have := hA.out
        rw [List.take_length] at this
        rw [lo60, this]
        rfl
      have hb : ((B.length : Int) > 60) ↔ 60 < B.length := by omega
      go_wp2_with fail
      go_ret
      refine ⟨?_, rfl⟩
      rw [kz.out]
      first | rfl | (simp only [hb]; rfl)
end Go.Proofs.YtnambpbhkehijaaDoor
