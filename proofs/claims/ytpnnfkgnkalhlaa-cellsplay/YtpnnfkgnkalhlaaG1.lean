/- The stripes of a count, told one by one, as a function over which one ranges; goes: where it stands in memory. -/
import Derived.Test.YtpnnfkgnkalhlaaJ14
import Derived.Test.YtpnnfkgnkalhlaaRP2
import Derived.Lib.MinMax
namespace Go.Proofs.Ytpnnfkgnkalhlaa
open Go.RowKit Go.Lib Go.Shelf Go.Maps
attribute [local go_sem] Oper.semAt_some

abbrev Sx := Int × Int
def encX (x : Sx) : Array Value := #[.int .i64 x.1, .int .i64 x.2]

theorem kept_obj {T : Nat → Prop} {X Y : World} (h : KeptC T X Y) {b : Nat} {arr : Array Value} {t : TypeId} {z : Nat × Nat} (ht : ¬ T b) (hb : X.heap[b]? = some (.cells arr t z)) : Y.heap[b]? = some (.cells arr t z) := h b _ ht hb rfl

theorem CountX.kept {T : Nat → Prop} {X Y : World} {mb nb lb sb : Nat} {L : List Int} (h : CountX X mb nb lb sb L) (k : KeptC T X Y) (h1 : ¬ T mb) (h2 : ¬ T nb) (h3 : ¬ T lb) (h4 : ¬ T sb) : CountX Y mb nb lb sb L := by
  obtain ⟨c, hc⟩ := h.cnt
  obtain ⟨t, hr⟩ := h.row
  obtain ⟨t2, hn⟩ := hc.num
  exact ⟨⟨c, ⟨kept_cell k h1 hc.ptr, ⟨t2, kept_obj k h2 hn⟩, kept_obj k h3 (show X.heap[lb]? = _ from hc.list), hc.ne, hc.ne2⟩⟩, ⟨t, kept_obj k h4 hr⟩, h.ne⟩
theorem CountX.at {X : World} {mb nb lb sb : Nat} {L : List Int} (h : CountX X mb nb lb sb L) {i : Nat} (hi : i < L.length) : X.cell? ⟨sb, i, none⟩ = some (.int .i64 (L[i]?.getD 0)) := by
  obtain ⟨t, hr⟩ := h.row
  simp [World.cell?, hr, hi]

set_option maxRecDepth 100000 in
set_option maxHeartbeats 8000000 in
theorem all1_X (d : Nat) (hd : 1 ≤ d) (lp B mb nb lb sb : Nat) (T : Nat → Prop) (L : List Int) (hn : L.length ≤ 64) (h1 : ¬ T B) (h2 : ¬ T mb) (h3 : ¬ T nb) (h4 : ¬ T lb) (h5 : ¬ T sb) (J Jx : List Sx → World → Prop)
    (hY : ∀ p x X, J p X → (∃ k, k ≤ L.length ∧ p ++ [x] = evs L k) → YieldAt Fence.wide (d - 1) Try.prog lp (encX x) X fun e Y => (e = .returned (.bool true) ∧ J (p ++ [x]) Y ∧ KeptC T X Y) ∨ (e = .returned (.bool false) ∧ Jx (p ++ [x]) Y))
    (W : World) (hB : W.cell? ⟨B, 0, none⟩ = some (.pointer (some ⟨mb, 0, none⟩))) (hA : CountX W mb nb lb sb L) (h0 : J [] W) :
    CallsIn Fence.wide d Try.prog 59 #[.func (.yield lp) #[] #[], .pointer (some ⟨B, 0, none⟩)] W fun e Y => (∃ v, e = .returned v) ∧
      ((∃ q, q = evs L L.length ∧ J q Y) ∨ (∃ p, (∃ k, k ≤ L.length ∧ p = evs L k) ∧ Jx p Y)) := by
  have kW := hid (fun w (h : CountX w mb nb lb sb L) => count_width mb nb lb (some ⟨sb, 0, none⟩) L.length _ w h.cnt.choose_spec)
  have kL := hid (fun w (h : CountX w mb nb lb sb L) => list_load nb lb (some ⟨sb, 0, none⟩) L.length _ w (cell_of h.cnt.choose_spec.num.choose_spec) h.cnt.choose_spec.list)
  refine callsIn_of_wp Try.func59 rfl trivial ?_ rfl
  simp only [Try.ntmps59, List.size_toArray, List.length_cons, List.length_nil, Nat.reduceAdd, Nat.reduceSub, Array.replicate_succ, Array.replicate_zero, List.push_toArray, List.append_toArray, List.nil_append, List.cons_append]
  gi_wp2_with (refine ⟨trivial, ?_⟩; gi_at_call 32; refine (callsIn_wide.2 (kW.out _ hA)).mono ?_; rintro e w2 ⟨rfl, e2⟩; rw [e2]; clear e2)
  gi_loopw [6] (fun i wr => ∃ k : Nat, k ≤ L.length ∧ i = .int .i64 k ∧ J (evs L k) wr ∧ CountX wr mb nb lb sb L ∧ wr.cell? ⟨B, 0, none⟩ = some (.pointer (some ⟨mb, 0, none⟩)))
    (fun i _ => L.length - (intOf i).toNat)
  case atStart => exact ⟨0, Nat.zero_le _, rfl, h0, hA, hB⟩
  case round =>
    obtain ⟨k, hk, rfl, hJs, hC, hb⟩ := hrel
    obtain ⟨n, hN⟩ : ∃ n, L.length = n := ⟨_, rfl⟩
    by_cases hlt : k < L.length
    · obtain ⟨fn, tmps, assign, body, hy, hR⟩ := hY _ ((k : Int), L[k]?.getD 0) wr hJs ⟨k + 1, by omega, (evs_succ L k).symm⟩
      have hta := hid (evs_succ L k)
      have c0 := hb
      obtain ⟨cc, hcc⟩ := hC.cnt
      have c1 := hcc.ptr
      have c2 := cell_of (show wr.heap[lb]? = _ from hcc.list)
      have c3 := hC.at hlt
      have kC := hid hC
      have kb := hid hb
      have kl : Hid (Calls Try.prog 55 _ wr _) := hid (kL.out _ hC)
      dsimp only [encX] at hy
      generalize L[k]?.getD 0 = x at *
      have hlt' : (k : Int) < (L.length : Int) := by omega
      clear hA hB hC hb hN n hcc
      gi_wp2_with (refine ⟨trivial, ?_⟩; gi_at_call 55; refine (callsIn_wide.2 kl.out).mono ?_; rintro e w2 ⟨rfl, e2⟩; rw [e2]; clear e2)
      refine hR.mono ?_
      rintro e W3 (⟨rfl, hJ3, hb3⟩ | ⟨rfl, hJx3⟩)
      · have hC3 := hid (kC.out.kept hb3 h2 h3 h4 h5)
        have hB3 := hid (kept_cell hb3 (show ¬ T (⟨B, 0, none⟩ : Addr).block from h1) kb.out)
        gi_wp2
        go_roundw
        case rel => exact ⟨k + 1, by omega, by simp, by rw [hta.out]; exact hJ3, hC3.out, hB3.out⟩
        case measure => simp [intOf]; omega
      · gi_wp2
        refine bodyPost_ret (results_none rfl _ _ _) rfl ?_
        exact ⟨⟨_, rfl⟩, .inr ⟨_, ⟨k + 1, by omega, hta.out.symm⟩, hJx3⟩⟩
    · obtain rfl : k = L.length := by omega
      gi_wp2
      go_end0
      exact ⟨⟨_, rfl⟩, .inl ⟨_, rfl, hJs⟩⟩

theorem all_X (d : Nat) (hd : 1 ≤ d) (B mb nb lb sb : Nat) (T : Nat → Prop) (L : List Int) (hn : L.length ≤ 64) (w : World) (h1 : ¬ T B) (h2 : ¬ T mb) (h3 : ¬ T nb) (h4 : ¬ T lb) (h5 : ¬ T sb) (hB : w.cell? ⟨B, 0, none⟩ = some (.pointer (some ⟨mb, 0, none⟩))) (hA : CountX w mb nb lb sb L) :
    SeqP Try.prog d 59 #[.pointer (some ⟨B, 0, none⟩)] encX (KeptC T) (fun q => ∃ k, k ≤ L.length ∧ q = evs L k) (fun q => q = evs L L.length) (fun q => ∃ k, k ≤ L.length ∧ q = evs L k) w := by
  intro lp J Jx W hbe hJ hJx hY h0
  have o := Old.of_below hbe
  exact all1_X d hd lp B mb nb lb sb T L hn h1 h2 h3 h4 h5 J Jx hY W (o.cell hB) (hA.frm o (fun h => h) (fun h => h) (fun h => h) (fun h => h)) h0

theorem cell_lt {w : World} {b o : Nat} {v : Value} (h : w.cell? ⟨b, o, none⟩ = some v) : b < w.heap.size := World.block_lt_of_cell? w _ h
/-- Numbers in a slice. -/
def NumS (w : World) (ao : Option Addr) (L : List Int) : Prop := NumsC .i64 w ao L

structure EX (w Y : World) (s0 : Nat) (ao : Option Addr) (cap : Nat) (L : List Int) (leave : Int) (mb : Nat) : Prop where
  want : Boxed Y s0 59 (.slice ao L.length cap)
  lea : Boxed Y (s0 + 1) 2 (.int .i64 leave)
  res : Boxed Y (s0 + 2) 4 (.bool false)
  cb : Y.cell? ⟨s0 + 3, 0, none⟩ = some (.pointer (some ⟨mb, 0, none⟩))
  hd : NumsC .i64 Y ao L
  lo : ∀ a, ao = some a → a.block < s0
  old : Old w Y

theorem EX.frm {w Y Y' : World} {s0 : Nat} {ao : Option Addr} {cap : Nat} {L : List Int} {leave : Int} {mb : Nat} {S : Nat → Prop} (h : EX w Y s0 ao cap L leave mb) (hf : Frm S Y Y') (hS : ∀ b, S b → s0 + 3 < b) (h2 : w.heap.size = s0) : EX w Y' s0 ao cap L leave mb := by
  have e0 : ¬ S s0 := fun e => by have := hS _ e; omega
  have e1 : ¬ S (s0 + 1) := fun e => by have := hS _ e; omega
  have e2 : ¬ S (s0 + 2) := fun e => by have := hS _ e; omega
  have e3 : ¬ S (s0 + 3) := fun e => by have := hS _ e; omega
  exact ⟨boxed_frm h.want hf e0, boxed_frm h.lea hf e1, boxed_frm h.res hf e2, frm_cell hf h.cb e3, fun i hi => by
    obtain ⟨g, o, ea, hc⟩ := h.hd i hi
    exact ⟨g, o, ea, frm_cell hf hc (fun e => by have := hS _ e; have := h.lo _ ea; simp only at *; omega)⟩, h.lo, Frm.trans h.old hf (fun i hi e => by have := hS _ e; omega)⟩

/-- While it is told. -/
structure TI (w : World) (s0 bt ba : Nat) (ao : Option Addr) (cap : Nat) (L : List Int) (leave : Int) (mb : Nat) (j : Int) (k : Nat) (Y : World) : Prop where
  at' : Boxed Y ba 3 (.int .i64 (k : Int))
  turn : Boxed Y bt 3 (.int .i64 j)
  ex : EX w Y s0 ao cap L leave mb

theorem TI.frm {w : World} {s0 bt ba : Nat} {ao : Option Addr} {cap : Nat} {L : List Int} {leave : Int} {mb : Nat} {j : Int} {k : Nat} {S : Nat → Prop} {X Y : World} (h : TI w s0 bt ba ao cap L leave mb j k X) (hf : Frm S X Y) (hS : ∀ b, S b → ba < b) (h2 : w.heap.size = s0) (h4 : s0 + 3 < bt) (h5 : bt < ba) : TI w s0 bt ba ao cap L leave mb j k Y :=
  ⟨boxed_frm h.at' hf (fun e => by have := hS _ e; omega), boxed_frm h.turn hf (fun e => by have := hS _ e; omega), h.ex.frm hf (fun b e => by have := hS _ e; omega) h2⟩

theorem TI.next {w : World} {s0 bt ba : Nat} {ao : Option Addr} {cap : Nat} {L : List Int} {leave : Int} {mb : Nat} {j : Int} {k N : Nat} {Y : World} (h : TI w s0 bt ba ao cap L leave mb j k Y) (h2 : w.heap.size = s0) (h4 : s0 + 3 < bt) (h5 : bt < ba) (h6 : ba < N) :
    KeepsFrom N Y (Y.setCell ⟨ba, 0, none⟩ (.int .i64 ((k : Int) + 1))) ∧ KeptC (fun k => k = ba) Y (Y.setCell ⟨ba, 0, none⟩ (.int .i64 ((k : Int) + 1))) ∧ TI w s0 bt ba ao cap L leave mb j (k + 1) (Y.setCell ⟨ba, 0, none⟩ (.int .i64 ((k : Int) + 1))) := by
  have hf := frm_set Y ba 0 (.int .i64 ((k : Int) + 1))
  exact ⟨⟨hf.size, fun i ob hi hk2 _ => by rw [hf.block i (Array.getElem?_eq_some_iff.1 hk2).1 (by omega)]; exact hk2⟩, KeptC.of_frm hf, ⟨Boxed.set _ h.at', boxed_frm h.turn hf (by omega), h.ex.frm hf (fun b e => by omega) h2⟩⟩

theorem fin_done {L : List Int} {k : Nat} {leave : Int} (hk : k = L.length) (hl : ∀ i : Nat, 1 ≤ i → i ≤ k → (i : Int) ≠ leave) : (leave > 0 → min leave (L.length : Int) = (k : Int)) ∧ (leave ≤ 0 → (k : Int) = (L.length : Int)) := by
  refine ⟨fun hp => ?_, fun hp => by omega⟩
  have : ¬ leave ≤ k := fun hc => hl leave.toNat (by omega) (by omega) (by omega)
  omega
theorem fin_left {L : List Int} {k : Nat} {leave : Int} (hk : k ≤ L.length) (h1 : 1 ≤ k) (h : (k : Int) = leave) : (leave > 0 → min leave (L.length : Int) = (k : Int)) ∧ (leave ≤ 0 → (k : Int) = (L.length : Int)) := ⟨fun hp => by omega, fun hp => by omega⟩
theorem pre_nextX {L : List Int} {p : List Sx} {x : Sx} {k : Nat} (hk : k ≤ L.length) (h : p ++ [x] = evs L k) : ∃ j, k = j + 1 ∧ j < L.length ∧ p = evs L j ∧ x = ((j : Int), L[j]?.getD 0) := by
  have hl := congrArg List.length h
  rw [List.length_append, evs_length] at hl
  simp only [List.length_cons, List.length_nil] at hl
  refine ⟨p.length, by omega, by omega, ?_, ?_⟩
  · rw [← hl, evs_succ] at h
    exact List.append_inj_left' h rfl
  · rw [← hl, evs_succ] at h
    have := List.append_inj_right' h rfl
    simpa using this

/-- All of a count, as a function over which one ranges. -/
def AllF (w : World) (mb : Nat) (L : List Int) : Prop := ∀ (W : World) (cb : Nat) (T : Nat → Prop), Old w W → W.cell? ⟨cb, 0, none⟩ = some (.pointer (some ⟨mb, 0, none⟩)) → (∀ k, T k → w.heap.size ≤ k ∧ k ≠ cb) →
  SeqP Try.prog 4 59 #[.pointer (some ⟨cb, 0, none⟩)] encX (KeptC T) (fun q => ∃ k, k ≤ L.length ∧ q = evs L k) (fun q => q = evs L L.length) (fun q => ∃ k, k ≤ L.length ∧ q = evs L k) W
theorem AllF.old {w w' : World} {mb : Nat} {L : List Int} (h : AllF w mb L) (o : Old w w') : AllF w' mb L := fun W cb T oW hc hT => h W cb T (o.trans oW) hc (fun k hk => ⟨by have := (hT k hk).1; have := o.size; omega, (hT k hk).2⟩)
theorem AllF.of {w : World} {mb nb lb sb : Nat} {L : List Int} (h : CountX w mb nb lb sb L) (hn : L.length ≤ 64) : AllF w mb L := fun W cb T oW hc hT => by
  obtain ⟨l1, l2, l3, l4⟩ := h.lt
  have ht : ∀ k, k < w.heap.size → ¬ T k := fun k hk e => by have := (hT k e).1; omega
  exact all_X 4 (by omega) cb mb nb lb sb T L hn W (fun e => (hT _ e).2 rfl) (ht _ l1) (ht _ l2) (ht _ l3) (ht _ l4) hc (h.frm oW (fun h => h) (fun h => h) (fun h => h) (fun h => h))
end Go.Proofs.Ytpnnfkgnkalhlaa
