/- A box in memory; its functions, walked. -/
import Derived.Test.YtfmeobelpideoaaS4
import Derived.Test.YtfmeobelpideoaaD1
namespace Go.Proofs.Ytfmeobelpideoaa
open Go.RowKit

theorem fiI_eq (p : Sec → Bool) : ∀ (L : List Sec) (k : Nat), fiI p L k = if L.any p = true then ((k + L.findIdx p : Nat) : Int) else -1
  | [], k => by simp [fiI]
  | x :: r, k => by
    rw [fiI]
    cases h : p x
    · rw [if_neg (by simp), fiI_eq p r (k + 1)]
      simp only [List.any_cons, h, Bool.false_or, List.findIdx_cons, cond_false]
      by_cases h2 : r.any p = true
      · rw [if_pos h2, if_pos h2]
        congr 1
        omega
      · rw [if_neg h2, if_neg h2]
    · rw [if_pos rfl]
      simp [h, List.findIdx_cons]

/-- The bids without a bidder's. -/
def dropL (b : Int) (L : List Sec) : List Sec := if L.any (ofB b) = true then L.eraseIdx (L.findIdx (ofB b)) else L
theorem find_lt {b : Int} {L : List Sec} (h : L.any (ofB b) = true) : L.findIdx (ofB b) < L.length := by
  rw [List.findIdx_lt_length]
  simpa using h

/-- A box: its block, what is inside, and its row. -/
structure Bx (w : World) (pb ib B : Nat) (fl : Int) (v : Value) (L : List Sec) : Prop where
  box : w.heap[pb]? = some (.cells #[.pointer (some ⟨ib, 0, none⟩)] 66 (0, 0))
  ins : w.heap[ib]? = some (.cells #[.int .i64 fl, v] 83 (0, 0))
  row : w.ownsRow B 39 2 v L.length (flatS L)

theorem owns_kept2 {w w' : World} {B : Nat} {v : Value} {n : Nat} {xs : List Value} (h : w.ownsRow B 39 2 v n xs) (hb : ∀ k, v.ownBlock = some k → w'.heap[k]? = w.heap[k]?) : w'.ownsRow B 39 2 v n xs := by
  refine ⟨h.1, ?_⟩
  rcases h.2 with h2 | ⟨g, cap, cur, rfl, h3, h4, h5⟩
  · exact Or.inl h2
  · exact Or.inr ⟨g, cap, cur, rfl, h3, by rw [hb g rfl]; exact h4, h5⟩
theorem owns_row_block {w : World} {B : Nat} {v : Value} {n : Nat} {xs : List Value} (h : w.ownsRow B 39 2 v n xs) {k : Nat} (hk : v.ownBlock = some k) : ∃ cur, w.heap[k]? = some (.cells cur 39 (0, 0)) := by
  rcases h.2 with ⟨rfl, h2⟩ | ⟨g, cap, cur, rfl, h3, h4, h5⟩
  · simp [Value.ownBlock] at hk
  · simp [Value.ownBlock] at hk
    subst hk
    exact ⟨cur, h4⟩

theorem Bx.frm {S : Nat → Prop} {w w' : World} {pb ib B : Nat} {fl : Int} {v : Value} {L : List Sec} (h : Bx w pb ib B fl v L) (f : Frm S w w') (h1 : ¬ S pb) (h2 : ¬ S ib) (h3 : ∀ k, v.ownBlock = some k → ¬ S k) : Bx w' pb ib B fl v L :=
  ⟨by rw [f.block pb (blk_lt h.box) h1]; exact h.box, by rw [f.block ib (blk_lt h.ins) h2]; exact h.ins, owns_kept2 h.row (fun k hk => f.block k (h.row.lt k hk).2 (h3 k hk))⟩
theorem Bx.old {w w' : World} {pb ib B : Nat} {fl : Int} {v : Value} {L : List Sec} (h : Bx w pb ib B fl v L) (o : Old w w') : Bx w' pb ib B fl v L := h.frm o (fun h => h) (fun h => h) (fun _ _ h => h)
theorem Bx.ne {w : World} {pb ib B : Nat} {fl : Int} {v : Value} {L : List Sec} (h : Bx w pb ib B fl v L) : pb ≠ ib := fun e => by
  have h1 := h.box
  rw [e, h.ins] at h1
  simp at h1
theorem Bx.rne {w : World} {pb ib B : Nat} {fl : Int} {v : Value} {L : List Sec} (h : Bx w pb ib B fl v L) {k : Nat} (hk : v.ownBlock = some k) : k ≠ pb ∧ k ≠ ib := by
  obtain ⟨cur, hc⟩ := owns_row_block h.row hk
  constructor
  · rintro rfl
    have := h.box
    rw [hc] at this
    simp at this
  · rintro rfl
    have := h.ins
    rw [hc] at this
    simp at this
theorem Bx.cells {w : World} {pb ib B : Nat} {fl : Int} {v : Value} {L : List Sec} (h : Bx w pb ib B fl v L) : w.cell? ⟨pb, 0, none⟩ = some (.pointer (some ⟨ib, 0, none⟩)) ∧ w.cell? ⟨ib, 0, none⟩ = some (.int .i64 fl) ∧ w.cell? ⟨ib, 1, none⟩ = some v ∧ w.frozen? ⟨ib, 1, none⟩ = false :=
  ⟨blk_cells h.box rfl, blk_cells h.ins rfl, blk_cells h.ins rfl, blk_fz h.ins 1⟩
theorem Bx.sec {w : World} {pb ib B : Nat} {fl : Int} {v : Value} {L : List Sec} (h : Bx w pb ib B fl v L) : ∃ ao cap, v = .slice ao L.length cap ∧ SecC w ao L ∧ (ao = none → cap = 0) := (owns_new h.row).off
/-- Another row inside. -/
theorem Bx.put {w w1 : World} {pb ib B : Nat} {fl : Int} {v v' : Value} {L L' : List Sec} (h : Bx w pb ib B fl v L) (hb : w1.heap[pb]? = w.heap[pb]?) (hi : w1.heap[ib]? = w.heap[ib]?) (hr : w1.ownsRow B 39 2 v' L'.length (flatS L')) : Bx (w1.setCell ⟨ib, 1, none⟩ v') pb ib B fl v' L' := by
  have h1 : w1.heap[ib]? = some (.cells #[.int .i64 fl, v] 83 (0, 0)) := hi.trans h.ins
  have h2 := heap_set (i := 1) v' h1
  refine ⟨?_, by rw [h2]; rfl, owns_kept2 hr (fun k hk => ?_)⟩
  · rw [(frm_set w1 ib 1 v').block pb (blk_lt (hb.trans h.box)) h.ne, hb]
    exact h.box
  · refine (frm_set w1 ib 1 v').block k (hr.lt k hk).2 (fun e => ?_)
    obtain ⟨cur, hc⟩ := owns_row_block hr hk
    rw [e, h1] at hc
    simp at hc

set_option maxRecDepth 100000 in
theorem isMade_any (pb ib : Nat) (w : World) (hc : w.cell? ⟨pb, 0, none⟩ = some (.pointer (some ⟨ib, 0, none⟩))) : Calls Try.prog 41 #[.pointer (some ⟨pb, 0, none⟩)] w fun e w' => e = .returned (.bool true) ∧ w' = w := by
  go_enter Try.func41, Try.ntmps41
  go_wp2
  go_ret
  exact ⟨rfl, rfl⟩
set_option maxRecDepth 100000 in
theorem isMade_nil (w : World) : Calls Try.prog 41 #[.pointer none] w fun e w' => e = .returned (.bool false) ∧ w' = w := by
  go_enter Try.func41, Try.ntmps41
  go_wp2
  go_ret
  exact ⟨rfl, rfl⟩
set_option maxRecDepth 100000 in
theorem isMade_zero (pb : Nat) (w : World) (hc : w.cell? ⟨pb, 0, none⟩ = some (.pointer none)) : Calls Try.prog 41 #[.pointer (some ⟨pb, 0, none⟩)] w fun e w' => e = .returned (.bool false) ∧ w' = w := by
  go_enter Try.func41, Try.ntmps41
  go_wp2
  go_ret
  exact ⟨rfl, rfl⟩

set_option maxRecDepth 100000 in
set_option maxHeartbeats 2000000 in
theorem place_any (pb ib B : Nat) (fl : Int) (v : Value) (L : List Sec) (b : Int) (w : World) (h : Bx w pb ib B fl v L) (hl : L.length ≤ 1048576) :
    Calls Try.prog 52 #[.pointer (some ⟨ib, 0, none⟩), .int .i64 b] w fun e w' => e = .returned (.int .i64 (fiI (ofB b) L 0)) ∧ Old w w' := by
  obtain ⟨ao, cap, rfl, hS, -⟩ := h.sec
  have o1 : Old w (w.alloc (.cells #[.int .i64 b] 3)) := (Old.refl w).alloc _
  have c0 := new_cell w #[.int .i64 b] 3 0 _ rfl
  have c1 := o1.cell h.cells.2.2.1
  have kI := hid (indexP_any ao cap L _ b w.heap.size (hS.old o1) (by omega) (fun x W oW => placeF_any x b w.heap.size W (oW.cell c0)))
  have ko := hid o1
  clear o1 hS h c0
  go_enter Try.func52, Try.ntmps52
  go_wp2_with fail
  refine kI.out.mono ?_
  rintro e w' ⟨rfl, o2⟩
  have k2 := hid (ko.out.trans o2)
  clear o2
  go_wp2_with fail
  go_ret
  exact ⟨rfl, k2.out⟩

set_option maxRecDepth 100000 in
set_option maxHeartbeats 2000000 in
theorem drop_any (pb ib B : Nat) (fl : Int) (v : Value) (L : List Sec) (b : Int) (w : World) (h : Bx w pb ib B fl v L) (hl : L.length ≤ 1048576) :
    Calls Try.prog 44 #[.pointer (some ⟨ib, 0, none⟩), .int .i64 b] w fun e w' => e = .returned (.bool (L.any (ofB b))) ∧ ∃ v', Bx w' pb ib B fl v' (dropL b L) ∧ v'.ownBlock = v.ownBlock ∧ Frm (fun k => k = ib ∨ v.ownBlock = some k) w w' := by
  have kP := hid (place_any pb ib B fl v L b w h hl)
  cases ha : L.any (ofB b)
  · have hz : fiI (ofB b) L 0 = -1 := by rw [fiI_eq, if_neg (by rw [ha]; simp)]
    have hd : Hid (dropL b L = L) := by show _ = _; rw [dropL, if_neg (by rw [ha]; simp)]
    rw [hz] at kP
    have kh := hid h
    clear h hz ha
    go_enter Try.func44, Try.ntmps44
    go_wp2_with fail
    refine kP.out.mono ?_
    rintro e w' ⟨rfl, o2⟩
    have k2 := hid o2
    clear o2
    go_wp2_with fail
    go_ret
    exact ⟨rfl, v, by rw [hd.out]; exact kh.out.old k2.out, rfl, k2.out.mono (fun _ _ h => h.elim)⟩
  · obtain ⟨i, hi⟩ : ∃ i, L.findIdx (ofB b) = i := ⟨_, rfl⟩
    have hz : fiI (ofB b) L 0 = (i : Int) := by rw [fiI_eq, if_pos ha, hi, Nat.zero_add]
    have hd : Hid (dropL b L = L.eraseIdx i) := by show _ = _; rw [dropL, if_pos ha, hi]
    have hil : i < L.length := by rw [← hi]; exact find_lt ha
    rw [hz] at kP
    have kh := hid h
    clear h hz ha hi
    go_enter Try.func44, Try.ntmps44
    go_wp2_with fail
    refine kP.out.mono ?_
    rintro e w2 ⟨rfl, o2⟩
    have h2 := kh.out.old o2
    have k2 := hid o2
    obtain ⟨-, -, c2, f2⟩ := h2.cells
    have kD := hid (delete_any B v L i w2 h2.row hil)
    have kh2 := hid h2
    clear o2 h2 kh kP
    go_wp2_with fail
    refine kD.out.mono ?_
    rintro e w3 ⟨v3, rfl, e3, r3, f3⟩
    have hib : Hid (w3.heap[ib]? = w2.heap[ib]?) := f3.block ib (blk_lt kh2.out.ins) (fun e => (kh2.out.rne e).2 rfl)
    have hpb : Hid (w3.heap[pb]? = w2.heap[pb]?) := f3.block pb (blk_lt kh2.out.box) (fun e => (kh2.out.rne e).1 rfl)
    have hin : w3.heap[ib]? = _ := hib.out.trans kh2.out.ins
    have c3 : w3.cell? ⟨ib, 1, none⟩ = some v := blk_cells hin rfl
    have g3 : w3.frozen? ⟨ib, 1, none⟩ = false := blk_fz hin 1
    have kr := hid r3
    have ke := hid e3
    have kf := hid f3
    obtain ⟨a3, p3, rfl, -, -⟩ := (owns_new r3).off
    clear r3 e3 f3 kD hin c2 f2
    go_wp2_with fail
    go_ret
    refine ⟨rfl, _, ?_, ke.out, ?_⟩
    · rw [hd.out]
      exact kh2.out.put hpb.out hib.out kr.out
    · refine Frm.trans (k2.out.mono (fun _ _ h => h.elim)) ?_ (fun _ _ h => h)
      refine Frm.trans (kf.out.mono (fun k _ e => Or.inr e)) ?_ (fun _ _ h => h)
      exact (frm_set w3 ib 1 _).mono (fun k _ e => Or.inl e)
/-- At a step of a region that draws its order: bids in memory behind a row that one owns. -/
theorem step_appS {ops : Array Oper} {o : Oper} {a : Act} {K : Act → World → Prop} {Q : Exit → Act → World → Prop} {E : Prop} (W : World) (hgd : o.guard = none) (s x : Operand)
    (ho : o.op = .call { callee := .builtin .append, args := #[s, x], argTypes := #[22, 22] }) (B : Nat) (v : Value) (ad : Addr) (n2 c2 : Nat) (L1 L2 : List Sec) (hs : a.eval s = v) (hx : a.eval x = .slice (some ad) n2 c2) (hn2 : L2.length = n2) (hown : W.ownsRow B 39 2 v L1.length (flatS L1)) (hO : SecC W (some ad) L2)
    (hl : L1.length + L2.length ≤ 1000000) (hB : B ≤ W.heap.size)
    (h : ∀ v' W', W'.ownsRow B 39 2 v' (L1 ++ L2).length (flatS (L1 ++ L2)) → W.grownBy W' v.ownBlock → (v'.ownBlock = v.ownBlock ∨ v'.ownBlock = some W.heap.size) → K (a.put o.dst v') W') :
    if Region.wanted o (yielded ops a.tmps) = true then Oper.wp Try.prog o a W K Q else E := by
  have hw : Region.wanted o (yielded ops a.tmps) = true := by simp [Region.wanted, hgd]
  subst hn2
  rw [if_pos hw]
  obtain ⟨i0, hi0, hz0, hz1, hz2⟩ := parts_s
  obtain ⟨v', w', hr, h2, h3, h4, h5⟩ := run_append_own_at (P := Try.prog) W B 22 o.type 39 i0 _ 2 16 Try.underlying22 hi0 hz0 hz1 hz2 rfl (by omega) v L1.length (flatS L1) hown ad L2.length c2 (flatS L2) (flatS_length L2) (off_cells hO) (flatS_one L2) (by unfold maxLen; omega) (by omega) hB
  unfold Oper.wp execOp
  simp only [ho, resolve, invoke, builtin, Sem.run_bind, Sem.run_pure, Result.andThen_ok, List.map_toArray, List.map_cons, List.map_nil, hs, hx, hr]
  exact h v' w' (by rw [List.length_append, flatS_append]; exact h2) h3 h5

/-- The bids once one is made. -/
def bidL (b c : Int) (L : List Sec) : List Sec := dropL b L ++ [(b, c)]
/-- Its error. -/
def bidZ (fl b c : Int) : Int := if wrB (b, c) = true then 2 else if c < fl then 7 else 0

theorem drop_len (b : Int) (L : List Sec) : (dropL b L).length ≤ L.length := by
  unfold dropL
  split
  · exact List.length_eraseIdx_le _ _
  · exact Nat.le_refl _


/-- What is read as a bid is laid down. -/
def Bh (pb ib s : Nat) (b c : Int) (W : World) : Prop := W.cell? ⟨pb, 0, none⟩ = some (.pointer (some ⟨ib, 0, none⟩)) ∧ W.cell? ⟨s, 0, none⟩ = some (.int .i64 b) ∧ W.cell? ⟨s, 1, none⟩ = some (.int .i64 c)
theorem Bh.frm {S : Nat → Prop} {pb ib s : Nat} {b c : Int} {W W' : World} (h : Bh pb ib s b c W) (f : Frm S W W') (h1 : ¬ S pb) (h3 : ¬ S s) : Bh pb ib s b c W' := ⟨frm_cell f h.1 h1, frm_cell f h.2.1 h3, frm_cell f h.2.2 h3⟩


set_option maxRecDepth 100000 in
set_option maxHeartbeats 4000000 in
theorem bid_good (pb ib B : Nat) (fl : Int) (v : Value) (L : List Sec) (b c : Int) (w : World) (h : Bx w pb ib B fl v L) (hl : L.length ≤ 999999) (hB : B ≤ w.heap.size) (hz : bidZ fl b c = 0) :
    Calls Try.prog 23 #[.pointer (some ⟨pb, 0, none⟩), .int .i64 b, .int .i64 c] w fun e w' => e = .returned (.int .i64 0) ∧ ∃ v', Bx w' pb ib B fl v' (bidL b c L) ∧ (v'.ownBlock = v.ownBlock ∨ ∃ k, v'.ownBlock = some k ∧ w.heap.size ≤ k) ∧ Frm (fun k => k = ib ∨ v.ownBlock = some k) w w' := by
  have hw : wrB (b, c) = false := by
    cases e : wrB (b, c)
    · rfl
    · simp [bidZ, e] at hz
  have hc : ¬ c < fl := fun e => by simp [bidZ, hw, e] at hz
  have kM := hid (fun w hc => isMade_any pb ib w hc)
  have kW := hid (fun w => isWrong_any (b, c) w)
  rw [hw] at kW
  dsimp only at kW
  obtain ⟨c0, c1, c2, f2⟩ := h.cells
  have o1 : Old w (w.alloc (.cells #[.int .i64 b, .int .i64 c] 39)) := (Old.refl w).alloc _
  have n0 := new_cell w #[.int .i64 b, .int .i64 c] 39 0 (.int .i64 b) rfl
  have n1 := new_cell w #[.int .i64 b, .int .i64 c] 39 1 (.int .i64 c) rfl
  have d0 := o1.cell c0
  have d1 := o1.cell c1
  have h1 := hid (h.old o1)
  have ko := hid o1
  have kib := hid (blk_lt h.ins)
  have kpb := hid (blk_lt h.box)
  have krw := hid (fun k hk => (h.row.lt k hk).2)
  clear h o1 c1 c2 f2 hz hw
  go_enter Try.func23, Try.ntmps23
  go_wp2_with fail
  refine (kM.out w c0).mono ?_
  rintro e w' ⟨rfl, e2⟩
  rw [e2]
  clear e2 c0
  go_wp2_with fail
  obtain ⟨w1, hw1⟩ : ∃ w1, w.alloc (.cells #[.int .i64 b, .int .i64 c] 39) = w1 := ⟨_, rfl⟩
  rw [hw1] at n0 n1 d0 d1 h1 ko ⊢
  obtain ⟨s, hs⟩ : ∃ s, w.heap.size = s := ⟨_, rfl⟩
  rw [hs] at n0 n1 hB ⊢
  have ks := hid hs
  clear hw1 hs
  refine (kW.out w1).mono ?_
  rintro e w2 ⟨rfl, o2⟩
  have m0 := o2.cell n0
  have m1 := o2.cell n1
  have e0 := o2.cell d0
  have e1 := o2.cell d1
  have h2 := h1.out.old o2
  have kD := hid (drop_any pb ib B fl v L b w2 h2 (by omega))
  have k2 := hid (ko.out.trans o2)
  have kh2 := hid h2
  have s2 : s < w2.heap.size := World.block_lt_of_cell? w2 ⟨s, 0, none⟩ m0
  clear o2 n0 n1 d0 d1 h1 ko h2 kW
  go_wp2_with fail
  refine kD.out.mono ?_
  rintro e w3 ⟨rfl, v3, h3, e3, f3⟩
  have hns : ¬ (s = ib ∨ v.ownBlock = some s) := by
    rintro (e | e)
    · have := kib.out
      have := ks.out
      omega
    · have := krw.out s e
      have := ks.out
      omega
  have p0 := frm_cell f3 m0 hns
  have p1 := frm_cell f3 m1 hns
  obtain ⟨q0, q1, q2, q3⟩ := h3.cells
  obtain ⟨a3, p3, hv3, -, -⟩ := h3.sec
  subst hv3
  have kf : Hid (Frm (fun k => k = ib ∨ v.ownBlock = some k) w w3) := Frm.trans (k2.out.mono (fun _ _ h => h.elim)) f3 (fun _ _ h => h)
  have hs3 := f3.size
  have hdl := drop_len b L
  generalize hdL : dropL b L = D at *
  have kdL := hid hdL
  have ke3 := hid e3
  have kh3 := hid h3
  have r3 := h3.row
  have hB3 : B ≤ w3.heap.size := by omega
  have hl3 : D.length + 1 ≤ 1000000 := by omega
  have kr3 : Hid ((w3.drew.alloc (.cells #[.int .i64 b, .int .i64 c] 39)).ownsRow B 39 2 (.slice a3 D.length p3) D.length (flatS D)) := owns_kept2 r3 (fun k hk => by
    exact Below.heap_alloc w3.drew _ _ (r3.lt k hk).2)
  have kO : Hid (SecC (w3.drew.alloc (.cells #[.int .i64 b, .int .i64 c] 39)) (some ⟨w3.heap.size, 0, none⟩) [(b, c)]) := by
    have hn := heap_new w3.drew (.cells #[.int .i64 b, .int .i64 c] 39)
    intro i hi
    match i, hi with
    | 0, _ => exact ⟨w3.heap.size, 0, rfl, blk_cells hn rfl, blk_cells hn rfl⟩
  have hrn : ∀ k, (Value.slice a3 D.length p3).ownBlock = some k → k ≠ pb ∧ k ≠ ib := fun k hk => h3.rne hk
  have ki3 := hid (blk_lt h3.ins)
  have kp3 := hid (blk_lt h3.box)
  have kB4 : Hid (∀ w4, (w3.drew.alloc (.cells #[.int .i64 b, .int .i64 c] 39)).grownBy w4 (Value.slice a3 D.length p3).ownBlock → w4.heap[ib]? = w3.heap[ib]? ∧ w4.heap[pb]? = w3.heap[pb]?) := fun w4 g4 => by
    constructor
    · rw [g4.block ib (by rw [alloc_size]; exact Nat.lt_succ_of_lt ki3.out) (fun e => (hrn ib e.symm).2 rfl)]
      exact Below.heap_alloc w3.drew _ _ ki3.out
    · rw [g4.block pb (by rw [alloc_size]; exact Nat.lt_succ_of_lt kp3.out) (fun e => (hrn pb e.symm).1 rfl)]
      exact Below.heap_alloc w3.drew _ _ kp3.out
  have kU : Hid (∀ (v4 : Value) w4, (w3.drew.alloc (.cells #[.int .i64 b, .int .i64 c] 39)).grownBy w4 (Value.slice a3 D.length p3).ownBlock → w4.cell? ⟨ib, 1, none⟩ = some (.slice a3 D.length p3) ∧ w4.frozen? ⟨ib, 1, none⟩ = false ∧ w4.cell? ⟨pb, 0, none⟩ = some (.pointer (some ⟨ib, 0, none⟩))) := fun v4 w4 g4 => by
    have := (kB4.out w4 g4).1.trans kh3.out.ins
    exact ⟨blk_cells this rfl, blk_fz this 1, blk_cells ((kB4.out w4 g4).2.trans kh3.out.box) rfl⟩
  have hB0 : Bh pb ib s b c w3 := ⟨q0, p0, p1⟩
  have kne : Hid (¬ (Value.slice a3 D.length p3).ownBlock = some pb ∧ ¬ (Value.slice a3 D.length p3).ownBlock = some s) := ⟨fun e => (hrn pb e).1 rfl, fun e => by
    rw [ke3.out] at e
    have := krw.out s e
    have := ks.out
    omega⟩
  have kbi : Hid (¬ pb = ib) := kh3.out.ne
  have kbs : Hid (¬ s = ib) := fun e => by
    have := kib.out
    have := ks.out
    omega
  have y2 := ((Old.refl w3).alloc (.cells #[.int .i64 b, .int .i64 c] 39)).cell q2
  clear f3 h3 e3 e0 e1 m0 m1 hns hdl hdL r3 kD kh2 s2 hrn q0 q1 q3 p0 p1
  go_upto_region 9 with fail
  refine wp_region_noPanic ?_
  refine wp_region_held_drew (S := fun W => Bh pb ib s b c W) (by kernel_rfl) hB0 (fun hHeld => ?_)
  clear hB0
  refine' wpAnyH_take (i := 0) rfl (by kernel_rfl) (by kernel_rfl) (by kernel_rfl) (fun _ _ _ h => h) (Or.inl ⟨by rfl, ?_⟩) hHeld ?_
  rotate_left
  · intro W hSw
    obtain ⟨r1, r2, r3⟩ := (show Bh _ _ _ _ _ W from hSw)
    clear hSw
    simp only [List.getElem_toArray, List.getElem_cons_zero]
    go_simp
    all_goals with_reducible rfl
  simp only [List.getElem_toArray, List.getElem_cons_zero, Act.put, List.setIfInBounds_toArray, List.set_cons_zero, List.set_cons_succ]
  refine' wpAnyH_take (i := 1) rfl (by kernel_rfl) (by kernel_rfl) (by kernel_rfl) (fun _ _ _ h => h) (Or.inl ⟨by rfl, ?_⟩) hHeld ?_
  rotate_left
  · intro W hSw
    obtain ⟨r1, r2, r3⟩ := (show Bh _ _ _ _ _ W from hSw)
    clear hSw
    simp only [List.getElem_toArray, List.getElem_cons_zero, List.getElem_cons_succ]
    go_simp
    all_goals with_reducible rfl
  simp only [List.getElem_toArray, List.getElem_cons_zero, List.getElem_cons_succ, Act.put, List.setIfInBounds_toArray, List.set_cons_zero, List.set_cons_succ]
  refine' wpAnyH_take (i := 2) rfl (by kernel_rfl) (by kernel_rfl) (by kernel_rfl) (fun _ _ _ h => h) (Or.inl ⟨by rfl, ?_⟩) hHeld ?_
  rotate_left
  · intro W hSw
    obtain ⟨r1, r2, r3⟩ := (show Bh _ _ _ _ _ W from hSw)
    clear hSw
    simp only [List.getElem_toArray, List.getElem_cons_zero, List.getElem_cons_succ]
    go_simp
    all_goals with_reducible rfl
  simp only [List.getElem_toArray, List.getElem_cons_zero, List.getElem_cons_succ, Act.put, List.setIfInBounds_toArray, List.set_cons_zero, List.set_cons_succ]
  refine' wpAnyH_take (i := 3) rfl (by kernel_rfl) (by kernel_rfl) (by kernel_rfl) (fun _ _ _ h => h) (Or.inl ⟨by rfl, ?_⟩) hHeld ?_
  rotate_left
  · intro W hSw
    obtain ⟨r1, r2, r3⟩ := (show Bh _ _ _ _ _ W from hSw)
    clear hSw
    simp only [List.getElem_toArray, List.getElem_cons_zero, List.getElem_cons_succ]
    go_simp
    all_goals with_reducible rfl
  simp only [List.getElem_toArray, List.getElem_cons_zero, List.getElem_cons_succ, Act.put, List.setIfInBounds_toArray, List.set_cons_zero, List.set_cons_succ]
  refine' wpAnyH_take (i := 4) rfl (by kernel_rfl) (by kernel_rfl) (by kernel_rfl) (fun _ _ _ h => h) (Or.inl ⟨by rfl, ?_⟩) hHeld ?_
  rotate_left
  · intro W hSw
    obtain ⟨r1, r2, r3⟩ := (show Bh _ _ _ _ _ W from hSw)
    clear hSw
    simp only [List.getElem_toArray, List.getElem_cons_zero, List.getElem_cons_succ]
    go_simp
    all_goals with_reducible rfl
  simp only [List.getElem_toArray, List.getElem_cons_zero, List.getElem_cons_succ, Act.put, List.setIfInBounds_toArray, List.set_cons_zero, List.set_cons_succ]
  refine' wpAnyH_take (i := 5) rfl (by kernel_rfl) (by kernel_rfl) (by kernel_rfl) (fun _ _ _ h => h) (Or.inl ⟨by rfl, ?_⟩) hHeld ?_
  rotate_left
  · intro W hSw
    obtain ⟨r1, r2, r3⟩ := (show Bh _ _ _ _ _ W from hSw)
    clear hSw
    simp only [List.getElem_toArray, List.getElem_cons_zero, List.getElem_cons_succ]
    go_simp
    all_goals with_reducible rfl
  simp only [List.getElem_toArray, List.getElem_cons_zero, List.getElem_cons_succ, Act.put, List.setIfInBounds_toArray, List.set_cons_zero, List.set_cons_succ]
  refine' wpAnyH_take (i := 6) rfl (by kernel_rfl) (by kernel_rfl) (by kernel_rfl) (fun _ _ _ h => h) (Or.inl ⟨by rfl, ?_⟩) hHeld ?_
  rotate_left
  · intro W hSw
    obtain ⟨r1, r2, r3⟩ := (show Bh _ _ _ _ _ W from hSw)
    clear hSw
    simp only [List.getElem_toArray, List.getElem_cons_zero, List.getElem_cons_succ]
    go_simp
    all_goals with_reducible rfl
  simp only [List.getElem_toArray, List.getElem_cons_zero, List.getElem_cons_succ, Act.put, List.setIfInBounds_toArray, List.set_cons_zero, List.set_cons_succ]
  refine' wpAnyH_take (i := 7) rfl (by kernel_rfl) (by kernel_rfl) (by kernel_rfl) (fun _ _ _ h => h) (Or.inl ⟨by rfl, ?_⟩) hHeld ?_
  rotate_left
  · intro W hSw
    obtain ⟨r1, r2, r3⟩ := (show Bh _ _ _ _ _ W from hSw)
    clear hSw
    simp only [List.getElem_toArray, List.getElem_cons_zero, List.getElem_cons_succ]
    go_simp
    all_goals with_reducible rfl
  simp only [List.getElem_toArray, List.getElem_cons_zero, List.getElem_cons_succ, Act.put, List.setIfInBounds_toArray, List.set_cons_zero, List.set_cons_succ]
  refine' wpAnyH_take (i := 8) rfl (by kernel_rfl) (by kernel_rfl) (by kernel_rfl) (fun _ _ _ h => h) (Or.inl ⟨by rfl, ?_⟩) hHeld ?_
  rotate_left
  · intro W hSw
    obtain ⟨r1, r2, r3⟩ := (show Bh _ _ _ _ _ W from hSw)
    clear hSw
    simp only [List.getElem_toArray, List.getElem_cons_zero, List.getElem_cons_succ]
    go_simp
    all_goals with_reducible rfl
  simp only [List.getElem_toArray, List.getElem_cons_zero, List.getElem_cons_succ, Act.put, List.setIfInBounds_toArray, List.set_cons_zero, List.set_cons_succ]
  refine' wpAnyH_take (i := 9) rfl (by kernel_rfl) (by kernel_rfl) (by kernel_rfl) (fun _ _ _ h => h) (Or.inl ⟨by rfl, ?_⟩) hHeld ?_
  rotate_left
  · intro W hSw
    obtain ⟨r1, r2, r3⟩ := (show Bh _ _ _ _ _ W from hSw)
    clear hSw
    simp only [List.getElem_toArray, List.getElem_cons_zero, List.getElem_cons_succ]
    go_simp
    all_goals with_reducible rfl
  simp only [List.getElem_toArray, List.getElem_cons_zero, List.getElem_cons_succ, Act.put, List.setIfInBounds_toArray, List.set_cons_zero, List.set_cons_succ]
  refine' wpAnyH_take (i := 11) rfl (by kernel_rfl) (by kernel_rfl) (by kernel_rfl) (fun _ _ _ h => h) (Or.inl ⟨by rfl, ?_⟩) hHeld ?_
  rotate_left
  · intro W hSw
    obtain ⟨r1, r2, r3⟩ := (show Bh _ _ _ _ _ W from hSw)
    clear hSw
    simp only [List.getElem_toArray, List.getElem_cons_zero, List.getElem_cons_succ]
    go_simp
    all_goals with_reducible rfl
  simp only [List.getElem_toArray, List.getElem_cons_zero, List.getElem_cons_succ, Act.put, List.setIfInBounds_toArray, List.set_cons_zero, List.set_cons_succ]
  refine wpAnyH_ready (rs := [10, 12]) (by kernel_rfl) (by simp) ?_
  refine AllReadyH.cons (o := _) rfl (fun K hK => ?_) (AllReadyH.cons (o := _) rfl (fun K hK => ?_) AllReadyH.nil)
  · simp only [List.getElem_toArray, List.getElem_cons_zero, List.getElem_cons_succ]
    go_simp
    refine hK.out _ _ hHeld (fun hHeld2 => ?_)
    clear hHeld hK
    have hHeld := hHeld2
    clear hHeld2
    try simp only [Act.put, List.setIfInBounds_toArray, List.set_cons_zero, List.set_cons_succ]
    refine wpAnyH_ready (rs := [12]) (by kernel_rfl) (by simp) ?_
    refine AllReadyH.cons (o := _) rfl (fun K hK => ?_) AllReadyH.nil
    simp only [List.getElem_toArray, List.getElem_cons_zero, List.getElem_cons_succ]
    go_simp
    refine hK.out _ _ (hHeld.frm ((Old.refl _).alloc _) (fun h => h) (fun h => h)) (fun hHeld2 => ?_)
    clear hHeld hK
    have hHeld := hHeld2
    clear hHeld2
    try simp only [Act.put, List.setIfInBounds_toArray, List.set_cons_zero, List.set_cons_succ]
    refine wpAnyH_ready (rs := [13]) (by kernel_rfl) (by simp) ?_
    refine AllReadyH.cons (o := _) rfl (fun K hK => ?_) AllReadyH.nil
    refine step_appS (w3.drew.alloc (.cells #[.int .i64 b, .int .i64 c] 39)) (by rfl) (.tmp 41) (.tmp 43) (by rfl) B (.slice a3 D.length p3) ⟨w3.heap.size, 0, none⟩ 1 1 D [(b, c)] (by rfl) (by rfl) rfl kr3.out kO.out hl3 (by simp; omega) ?_
    intro v4 w4 r4 g4 e4
    obtain ⟨z1, z2, z3⟩ := kU.out v4 w4 g4
    obtain ⟨a4, p4, hv4, -, -⟩ := (owns_new r4).off
    subst hv4
    have kr4 := hid r4
    have kg4 := hid g4
    have ke4 := hid e4
    have f4 : Frm (fun k => (Value.slice a3 D.length p3).ownBlock = some k) (w3.drew.alloc (.cells #[.int .i64 b, .int .i64 c] 39)) w4 := Frm.grown (Frm.refl _ _) g4 (fun k hk => Or.inr hk)
    have hB4 := hHeld.frm f4 (fun e => kne.out.1 e) (fun e => kne.out.2 e)
    refine hK.out _ _ hB4 (fun hHeld2 => ?_)
    clear hHeld hK r4 g4 e4 f4 hB4
    have hHeld := hHeld2
    clear hHeld2
    try simp only [Act.put, List.setIfInBounds_toArray]
    refine' wpAnyH_take (i := 14) rfl (by kernel_rfl) (by kernel_rfl) (by kernel_rfl) (fun _ _ _ h => h) (Or.inl ⟨by rfl, ?_⟩) hHeld ?_
    rotate_left
    · intro W hSw
      obtain ⟨r1, r2, r3⟩ := (show Bh _ _ _ _ _ W from hSw)
      clear hSw
      simp only [List.getElem_toArray, List.getElem_cons_zero, List.getElem_cons_succ]
      go_simp
      all_goals with_reducible rfl
    simp only [List.getElem_toArray, List.getElem_cons_zero, List.getElem_cons_succ, Act.put, List.setIfInBounds_toArray, List.set_cons_zero, List.set_cons_succ]
    refine' wpAnyH_take (i := 15) rfl (by kernel_rfl) (by kernel_rfl) (by kernel_rfl) (fun _ _ _ h => h) (Or.inl ⟨by rfl, ?_⟩) hHeld ?_
    rotate_left
    · intro W hSw
      obtain ⟨r1, r2, r3⟩ := (show Bh _ _ _ _ _ W from hSw)
      clear hSw
      simp only [List.getElem_toArray, List.getElem_cons_zero, List.getElem_cons_succ]
      go_simp
      all_goals with_reducible rfl
    simp only [List.getElem_toArray, List.getElem_cons_zero, List.getElem_cons_succ, Act.put, List.setIfInBounds_toArray, List.set_cons_zero, List.set_cons_succ]
    refine wpAnyH_ready (rs := [16]) (by kernel_rfl) (by simp) ?_
    refine AllReadyH.cons (o := _) rfl (fun K hK => ?_) AllReadyH.nil
    simp only [List.getElem_toArray, List.getElem_cons_zero, List.getElem_cons_succ]
    go_simp
    refine hK.out _ _ (hHeld.frm (frm_set w4 ib 1 _) kbi.out kbs.out) (fun hHeld2 => ?_)
    clear hHeld hHeld2 hK
    try simp only [Act.put]
    refine wpAnyH_done (by kernel_rfl) ?_ _
    refine NoPanic.normal ?_
    go_wp2_with fail
    go_ret
    obtain ⟨x1, x2⟩ := kB4.out w4 kg4.out
    refine ⟨rfl, .slice a4 (D.length + 1) p4, ?_, ?_, ?_⟩
    · rw [bidL, kdL.out]
      have := kh3.out.put x2 x1 kr4.out
      rwa [show (D ++ [(b, c)]).length = D.length + 1 by simp] at this
    · have hob : (Value.slice a4 (D.length + 1) p4).ownBlock = (Value.slice a4 (D ++ [(b, c)]).length p4).ownBlock := by rw [show (D ++ [(b, c)]).length = D.length + 1 by simp]
      rcases ke4.out with e | e
      · exact Or.inl (hob.trans (e.trans ke3.out))
      · refine Or.inr ⟨_, hob.trans e, ?_⟩
        have := kf.out.size
        rw [alloc_size]
        exact Nat.le_succ_of_le this
    · have g1 : Frm (fun k => v.ownBlock = some k) w3 w4 := Frm.grown (((Frm.refl _ w3).drew).alloc _) kg4.out (fun k hk => Or.inr (by rw [← ke3.out]; exact hk))
      exact Frm.trans (Frm.trans kf.out g1 (fun _ _ h => Or.inr h)) (frm_set w4 ib 1 _) (fun _ _ h => Or.inl h)
  · simp only [List.getElem_toArray, List.getElem_cons_zero, List.getElem_cons_succ]
    go_simp
    refine hK.out _ _ (hHeld.frm ((Old.refl _).alloc _) (fun h => h) (fun h => h)) (fun hHeld2 => ?_)
    clear hHeld hK
    have hHeld := hHeld2
    clear hHeld2
    try simp only [Act.put, List.setIfInBounds_toArray, List.set_cons_zero, List.set_cons_succ]
    refine wpAnyH_ready (rs := [10]) (by kernel_rfl) (by simp) ?_
    refine AllReadyH.cons (o := _) rfl (fun K hK => ?_) AllReadyH.nil
    simp only [List.getElem_toArray, List.getElem_cons_zero, List.getElem_cons_succ]
    go_simp
    refine hK.out _ _ hHeld (fun hHeld2 => ?_)
    clear hHeld hK
    have hHeld := hHeld2
    clear hHeld2
    try simp only [Act.put, List.setIfInBounds_toArray, List.set_cons_zero, List.set_cons_succ]
    refine wpAnyH_ready (rs := [13]) (by kernel_rfl) (by simp) ?_
    refine AllReadyH.cons (o := _) rfl (fun K hK => ?_) AllReadyH.nil
    refine step_appS (w3.drew.alloc (.cells #[.int .i64 b, .int .i64 c] 39)) (by rfl) (.tmp 41) (.tmp 43) (by rfl) B (.slice a3 D.length p3) ⟨w3.heap.size, 0, none⟩ 1 1 D [(b, c)] (by rfl) (by rfl) rfl kr3.out kO.out hl3 (by simp; omega) ?_
    intro v4 w4 r4 g4 e4
    obtain ⟨z1, z2, z3⟩ := kU.out v4 w4 g4
    obtain ⟨a4, p4, hv4, -, -⟩ := (owns_new r4).off
    subst hv4
    have kr4 := hid r4
    have kg4 := hid g4
    have ke4 := hid e4
    have f4 : Frm (fun k => (Value.slice a3 D.length p3).ownBlock = some k) (w3.drew.alloc (.cells #[.int .i64 b, .int .i64 c] 39)) w4 := Frm.grown (Frm.refl _ _) g4 (fun k hk => Or.inr hk)
    have hB4 := hHeld.frm f4 (fun e => kne.out.1 e) (fun e => kne.out.2 e)
    refine hK.out _ _ hB4 (fun hHeld2 => ?_)
    clear hHeld hK r4 g4 e4 f4 hB4
    have hHeld := hHeld2
    clear hHeld2
    try simp only [Act.put, List.setIfInBounds_toArray]
    refine' wpAnyH_take (i := 14) rfl (by kernel_rfl) (by kernel_rfl) (by kernel_rfl) (fun _ _ _ h => h) (Or.inl ⟨by rfl, ?_⟩) hHeld ?_
    rotate_left
    · intro W hSw
      obtain ⟨r1, r2, r3⟩ := (show Bh _ _ _ _ _ W from hSw)
      clear hSw
      simp only [List.getElem_toArray, List.getElem_cons_zero, List.getElem_cons_succ]
      go_simp
      all_goals with_reducible rfl
    simp only [List.getElem_toArray, List.getElem_cons_zero, List.getElem_cons_succ, Act.put, List.setIfInBounds_toArray, List.set_cons_zero, List.set_cons_succ]
    refine' wpAnyH_take (i := 15) rfl (by kernel_rfl) (by kernel_rfl) (by kernel_rfl) (fun _ _ _ h => h) (Or.inl ⟨by rfl, ?_⟩) hHeld ?_
    rotate_left
    · intro W hSw
      obtain ⟨r1, r2, r3⟩ := (show Bh _ _ _ _ _ W from hSw)
      clear hSw
      simp only [List.getElem_toArray, List.getElem_cons_zero, List.getElem_cons_succ]
      go_simp
      all_goals with_reducible rfl
    simp only [List.getElem_toArray, List.getElem_cons_zero, List.getElem_cons_succ, Act.put, List.setIfInBounds_toArray, List.set_cons_zero, List.set_cons_succ]
    refine wpAnyH_ready (rs := [16]) (by kernel_rfl) (by simp) ?_
    refine AllReadyH.cons (o := _) rfl (fun K hK => ?_) AllReadyH.nil
    simp only [List.getElem_toArray, List.getElem_cons_zero, List.getElem_cons_succ]
    go_simp
    refine hK.out _ _ (hHeld.frm (frm_set w4 ib 1 _) kbi.out kbs.out) (fun hHeld2 => ?_)
    clear hHeld hHeld2 hK
    try simp only [Act.put]
    refine wpAnyH_done (by kernel_rfl) ?_ _
    refine NoPanic.normal ?_
    go_wp2_with fail
    go_ret
    obtain ⟨x1, x2⟩ := kB4.out w4 kg4.out
    refine ⟨rfl, .slice a4 (D.length + 1) p4, ?_, ?_, ?_⟩
    · rw [bidL, kdL.out]
      have := kh3.out.put x2 x1 kr4.out
      rwa [show (D ++ [(b, c)]).length = D.length + 1 by simp] at this
    · have hob : (Value.slice a4 (D.length + 1) p4).ownBlock = (Value.slice a4 (D ++ [(b, c)]).length p4).ownBlock := by rw [show (D ++ [(b, c)]).length = D.length + 1 by simp]
      rcases ke4.out with e | e
      · exact Or.inl (hob.trans (e.trans ke3.out))
      · refine Or.inr ⟨_, hob.trans e, ?_⟩
        have := kf.out.size
        rw [alloc_size]
        exact Nat.le_succ_of_le this
    · have g1 : Frm (fun k => v.ownBlock = some k) w3 w4 := Frm.grown (((Frm.refl _ w3).drew).alloc _) kg4.out (fun k hk => Or.inr (by rw [← ke3.out]; exact hk))
      exact Frm.trans (Frm.trans kf.out g1 (fun _ _ h => Or.inr h)) (frm_set w4 ib 1 _) (fun _ _ h => Or.inl h)
end Go.Proofs.Ytfmeobelpideoaa
