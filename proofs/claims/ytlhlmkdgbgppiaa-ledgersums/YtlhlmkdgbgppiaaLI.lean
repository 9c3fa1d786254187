/- A ledger in memory. -/
import Derived.Test.YtlhlmkdgbgppiaaLA
import Derived.Test.YtlhlmkdgbgppiaaN4
namespace Go.Proofs.Ytlhlmkdgbgppiaa
open Go.RowKit Go.Shelf Go.Maps

def flatE : List En → List Value
  | [] => []
  | e :: p => .int .i64 (e.1 : Int) :: .int .i64 e.2 :: flatE p
theorem flatE_length : ∀ p : List En, (flatE p).length = p.length * 2
  | [] => rfl
  | e :: p => by simp only [flatE, List.length_cons, flatE_length p]; omega
theorem flatE_get : ∀ (p : List En) (i : Nat) (h : i < p.length), (flatE p)[i * 2]? = some (.int .i64 (p[i].1 : Int)) ∧ (flatE p)[i * 2 + 1]? = some (.int .i64 p[i].2)
  | [], i, h => absurd h (by simp)
  | e :: p, 0, h => ⟨rfl, rfl⟩
  | e :: p, i + 1, h => by
    rw [show (i + 1) * 2 = i * 2 + 1 + 1 from by omega]
    simpa only [flatE, List.getElem?_cons_succ, List.getElem_cons_succ] using flatE_get p i (by simpa using h)
theorem flatE_append : ∀ (p q : List En), flatE (p ++ q) = flatE p ++ flatE q
  | [], q => rfl
  | e :: p, q => by simp only [List.cons_append, flatE, flatE_append p q]

/-- A posting as it lies. -/
def PosC (w : World) (v : Value) (p : List En) : Prop := ∃ g, v = .slice (some ⟨g, 0, none⟩) p.length p.length ∧ w.heap[g]? = some (.cells (flatE p).toArray 150 (0, 0))
theorem PosC.at {w : World} {v : Value} {p : List En} (h : PosC w v p) : ∃ g, v = .slice (some ⟨g, 0, none⟩) p.length p.length ∧ ∀ i (h : i < p.length), w.cell? ⟨g, i * 2, none⟩ = some (.int .i64 (p[i].1 : Int)) ∧ w.cell? ⟨g, i * 2 + 1, none⟩ = some (.int .i64 p[i].2) := by
  obtain ⟨g, rfl, hb⟩ := h
  refine ⟨g, rfl, fun i hi => ?_⟩
  have := flatE_get p i hi
  exact ⟨blk_cells hb (by simpa using this.1), blk_cells hb (by simpa using this.2)⟩
/-- What no posting lies in. -/
def NotP (w : World) (S : Nat → Prop) : Prop := ∀ k arr z, w.heap[k]? = some (.cells arr 150 z) → ¬ S k
theorem NotP.none (w : World) : NotP w (fun _ => False) := fun _ _ _ _ h => h
theorem PosC.frm {S : Nat → Prop} {w w' : World} {v : Value} {p : List En} (h : PosC w v p) (hf : Frm S w w') (hS : NotP w S) : PosC w' v p := by
  obtain ⟨g, rfl, hb⟩ := h
  exact ⟨g, rfl, by rw [hf.block g (blk_lt hb) (hS g _ _ hb)]; exact hb⟩

/-- The row of postings. -/
def RowP (w : World) (pv : Value) (P : List (List En)) : Prop := ∃ V : List Value, V.length = P.length ∧ w.ownsRow 0 106 1 pv P.length V ∧ ∀ i, i < P.length → PosC w (V.getD i undef) (P.getD i [])
theorem RowP.frm {S : Nat → Prop} {w w' : World} {pv : Value} {P : List (List En)} (h : RowP w pv P) (hf : Frm S w w') (h1 : ∀ k, pv.ownBlock = some k → ¬ S k) (hS : NotP w S) : RowP w' pv P := by
  obtain ⟨V, h0, hr, hp⟩ := h
  refine ⟨V, h0, owns_kept hr (fun k hk => ?_), fun i hi => (hp i hi).frm hf hS⟩
  obtain ⟨cur, hc⟩ := owns_block hr hk
  exact hf.block k (blk_lt hc) (h1 k hk)
theorem RowP.form {w : World} {pv : Value} {P : List (List En)} (h : RowP w pv P) : ∃ ao cap, pv = .slice ao P.length cap := by
  obtain ⟨V, h0, hr, hp⟩ := h
  rcases hr.2 with ⟨rfl, h0⟩ | ⟨g, cap, cur, rfl, _⟩
  · exact ⟨none, 0, by rw [h0]⟩
  · exact ⟨_, _, rfl⟩
theorem RowP.nth {w : World} {pv : Value} {P : List (List En)} (h : RowP w pv P) {i : Nat} (hi : i < P.length) : ∃ g cap u, pv = .slice (some ⟨g, 0, none⟩) P.length cap ∧ w.cell? ⟨g, i, none⟩ = some u ∧ PosC w u (P.getD i []) := by
  obtain ⟨V, h0, hr, hp⟩ := h
  rcases hr.2 with ⟨_, h0⟩ | ⟨g, cap, cur, rfl, h3, h4, h5, h6, h7, h8⟩
  · omega
  · refine ⟨g, cap, _, rfl, blk_cells h4 ?_, hp i hi⟩
    have h9 : (cur.toList.take (P.length * 1))[i]? = V[i]? := by rw [h8]
    rw [List.getElem?_take_of_lt (by omega)] at h9
    have : i < V.length := by omega
    simpa [List.getD_eq_getElem?_getD, this] using h9
theorem RowP.tag {w : World} {pv : Value} {P : List (List En)} (h : RowP w pv P) {k : Nat} (hk : pv.ownBlock = some k) : ∃ cur, w.heap[k]? = some (.cells cur 106 (0, 0)) := by
  obtain ⟨V, h0, hr, hp⟩ := h
  exact owns_block hr hk

/-- Which ledger. -/
structure Lx where
  lb : Nat
  ib : Nat
  nb : Nat
  tb : Nat
  mb : Nat
  ab : Nat
  v : Value
  pv : Value
  L : List (List UInt8)
  A : List Ac
  P : List (List En)

def Lx.own (x : Lx) (k : Nat) : Prop := k = x.ib ∨ k = x.tb ∨ k = x.mb ∨ k = x.ab ∨ x.v.ownBlock = some k ∨ x.pv.ownBlock = some k
def Lx.all (x : Lx) (k : Nat) : Prop := k = x.lb ∨ k = x.nb ∨ x.own k
def Lx.ptr (x : Lx) : Value := .pointer (some ⟨x.lb, 0, none⟩)
def Lx.inp (x : Lx) : Value := .pointer (some ⟨x.ib, 0, none⟩)

structure Ldg (w : World) (x : Lx) : Prop where
  hd : w.heap[x.lb]? = some (.cells #[.pointer (some ⟨x.ib, 0, none⟩)] 58 (0, 0))
  ins : w.heap[x.ib]? = some (.cells #[.pointer (some ⟨x.nb, 0, none⟩), .map (some x.ab), x.pv] 67 (0, 0))
  nms : Nms w x.nb x.tb x.mb x.v 65536 x.L
  am : AM w x.ab x.A.length (lkA x.A)
  row : RowP w x.pv x.P
  mm : x.mb ≠ x.ab
  pn : x.P = [] → x.pv = .slice none 0 0
structure OkL (x : Lx) : Prop where
  len : x.L.length = x.A.length
  oka : OkA x.A
  nd : x.L.Nodup
  chk : ∀ n ∈ x.L, chkZ n = 0
  ps : ∀ p ∈ x.P, OkP x.A.length p

theorem Ldg.c0 {w : World} {x : Lx} (h : Ldg w x) : w.cell? ⟨x.lb, 0, none⟩ = some (.pointer (some ⟨x.ib, 0, none⟩)) := blk_cell h.hd
theorem Ldg.i0 {w : World} {x : Lx} (h : Ldg w x) : w.cell? ⟨x.ib, 0, none⟩ = some (.pointer (some ⟨x.nb, 0, none⟩)) := blk_cells h.ins rfl
theorem Ldg.i1 {w : World} {x : Lx} (h : Ldg w x) : w.cell? ⟨x.ib, 1, none⟩ = some (.map (some x.ab)) := blk_cells h.ins rfl
theorem Ldg.i2 {w : World} {x : Lx} (h : Ldg w x) : w.cell? ⟨x.ib, 2, none⟩ = some x.pv := blk_cells h.ins rfl
theorem Ldg.frm {S : Nat → Prop} {w w' : World} {x : Lx} (h : Ldg w x) (hf : Frm S w w') (h1 : ∀ k, x.all k → ¬ S k) (hS : NotP w S) : Ldg w' x where
  hd := by rw [hf.block x.lb (blk_lt h.hd) (h1 _ (Or.inl rfl))]; exact h.hd
  ins := by rw [hf.block x.ib (blk_lt h.ins) (h1 _ (Or.inr (Or.inr (Or.inl rfl))))]; exact h.ins
  nms := h.nms.frm hf (h1 _ (Or.inr (Or.inl rfl))) (h1 _ (Or.inr (Or.inr (Or.inr (Or.inl rfl))))) (h1 _ (Or.inr (Or.inr (Or.inr (Or.inr (Or.inl rfl)))))) (fun k hk => h1 k (Or.inr (Or.inr (Or.inr (Or.inr (Or.inr (Or.inr (Or.inl hk))))))))
  am := h.am.kept hf (h1 _ (Or.inr (Or.inr (Or.inr (Or.inr (Or.inr (Or.inl rfl)))))))
  row := h.row.frm hf (fun k hk => h1 k (Or.inr (Or.inr (Or.inr (Or.inr (Or.inr (Or.inr (Or.inr hk)))))))) hS
  mm := h.mm
  pn := h.pn
theorem Ldg.old {w w' : World} {x : Lx} (h : Ldg w x) (hf : Old w w') : Ldg w' x := h.frm hf (fun _ _ h => h) (NotP.none w)

/-- What lies in which block. -/
theorem Ldg.tag {w : World} {x : Lx} (h : Ldg w x) {k : Nat} (hk : x.all k) : k < w.heap.size ∧ ∀ arr z, w.heap[k]? ≠ some (.cells arr 150 z) := by
  rcases hk with rfl | rfl | rfl | rfl | rfl | rfl | hk | hk
  · exact ⟨blk_lt h.hd, fun arr z e => by rw [h.hd] at e; cases e⟩
  · exact ⟨blk_lt h.nms.hd, fun arr z e => by rw [h.nms.hd] at e; cases e⟩
  · exact ⟨blk_lt h.ins, fun arr z e => by rw [h.ins] at e; cases e⟩
  · exact ⟨blk_lt h.nms.t.blk, fun arr z e => by rw [h.nms.t.blk] at e; cases e⟩
  · exact ⟨h.nms.t.km.lt, fun arr z e => h.nms.t.km.noCell e⟩
  · exact ⟨h.am.lt, fun arr z e => h.am.noCell e⟩
  · obtain ⟨cur, hc⟩ := owns_block h.nms.t.row hk
    exact ⟨blk_lt hc, fun arr z e => by rw [hc] at e; cases e⟩
  · obtain ⟨cur, hc⟩ := h.row.tag hk
    exact ⟨blk_lt hc, fun arr z e => by rw [hc] at e; cases e⟩
theorem Ldg.notP {w : World} {x : Lx} (h : Ldg w x) : NotP w x.own := fun _ arr z e hk => (h.tag (Or.inr (Or.inr hk))).2 arr z e

/-- The blocks of a ledger are as many as they seem. -/
theorem Ldg.ne {w : World} {x : Lx} (h : Ldg w x) : x.lb ≠ x.ib ∧ x.lb ≠ x.nb ∧ x.lb ≠ x.tb ∧ x.lb ≠ x.mb ∧ x.lb ≠ x.ab ∧ x.v.ownBlock ≠ some x.lb ∧ x.pv.ownBlock ≠ some x.lb ∧ x.nb ≠ x.ib ∧ x.nb ≠ x.ab ∧ x.pv.ownBlock ≠ some x.nb ∧ x.ib ≠ x.tb ∧ x.ib ≠ x.mb ∧ x.ib ≠ x.ab ∧ x.v.ownBlock ≠ some x.ib ∧ x.pv.ownBlock ≠ some x.ib ∧ x.tb ≠ x.ab ∧ x.pv.ownBlock ≠ some x.tb ∧ x.pv.ownBlock ≠ some x.mb ∧ x.v.ownBlock ≠ some x.ab ∧ x.pv.ownBlock ≠ some x.ab ∧ (∀ k, x.v.ownBlock = some k → x.pv.ownBlock ≠ some k) ∧ x.mb ≠ x.ab := by
  have tv : ∀ k, x.v.ownBlock = some k → ∃ cur, w.heap[k]? = some (.cells cur 9 (0, 0)) := fun k hk => owns_block h.nms.t.row hk
  have tp : ∀ k, x.pv.ownBlock = some k → ∃ cur, w.heap[k]? = some (.cells cur 106 (0, 0)) := fun k hk => h.row.tag hk
  have h1 := h.hd
  have h2 := h.ins
  have h3 := h.nms.hd
  have h4 := h.nms.t.blk
  have h5 : ∀ {arr : Array Value} {t : TypeId} {z : Nat × Nat}, w.heap[x.mb]? = some (.cells arr t z) → False := fun hb => h.nms.t.km.noCell hb
  have h6 : ∀ {arr : Array Value} {t : TypeId} {z : Nat × Nat}, w.heap[x.ab]? = some (.cells arr t z) → False := fun hb => h.am.noCell hb
  refine ⟨fun e => ?_, fun e => ?_, fun e => ?_, fun e => ?_, fun e => ?_, fun e => ?_, fun e => ?_, fun e => ?_, fun e => ?_, fun e => ?_, fun e => ?_, fun e => ?_, fun e => ?_, fun e => ?_, fun e => ?_, fun e => ?_, fun e => ?_, fun e => ?_, fun e => ?_, fun e => ?_, fun k hk e => ?_, h.mm⟩
  · rw [e, h2] at h1; simp at h1
  · rw [e, h3] at h1; simp at h1
  · rw [e, h4] at h1; simp at h1
  · exact h5 (e ▸ h1)
  · exact h6 (e ▸ h1)
  · obtain ⟨c, hc⟩ := tv _ e; rw [h1] at hc; simp at hc
  · obtain ⟨c, hc⟩ := tp _ e; rw [h1] at hc; simp at hc
  · rw [e, h2] at h3; simp at h3
  · exact h6 (e ▸ h3)
  · obtain ⟨c, hc⟩ := tp _ e; rw [h3] at hc; simp at hc
  · rw [e, h4] at h2; simp at h2
  · exact h5 (e ▸ h2)
  · exact h6 (e ▸ h2)
  · obtain ⟨c, hc⟩ := tv _ e; rw [h2] at hc; simp at hc
  · obtain ⟨c, hc⟩ := tp _ e; rw [h2] at hc; simp at hc
  · exact h6 (e ▸ h4)
  · obtain ⟨c, hc⟩ := tp _ e; rw [h4] at hc; simp at hc
  · obtain ⟨c, hc⟩ := tp _ e; exact h5 hc
  · obtain ⟨c, hc⟩ := tv _ e; exact h6 hc
  · obtain ⟨c, hc⟩ := tp _ e; exact h6 hc
  · obtain ⟨c, hc⟩ := tp _ e; obtain ⟨d, hd⟩ := tv _ hk; rw [hc] at hd; simp at hd

set_option maxRecDepth 100000 in
theorem made_nil (w : World) : Calls Try.prog 40 #[.pointer none] w fun e w' => e = .returned (.bool false) ∧ w' = w := by
  go_enter Try.func40, Try.ntmps40
  go_wp2
  go_ret
  exact ⟨rfl, rfl⟩
set_option maxRecDepth 100000 in
theorem made_zero (lb : Nat) (w : World) (h : w.cell? ⟨lb, 0, none⟩ = some (.pointer none)) : Calls Try.prog 40 #[.pointer (some ⟨lb, 0, none⟩)] w fun e w' => e = .returned (.bool false) ∧ w' = w := by
  go_enter Try.func40, Try.ntmps40
  go_wp2
  go_ret
  exact ⟨rfl, rfl⟩
set_option maxRecDepth 100000 in
theorem made_some (lb ib : Nat) (w : World) (h : w.cell? ⟨lb, 0, none⟩ = some (.pointer (some ⟨ib, 0, none⟩))) : Calls Try.prog 40 #[.pointer (some ⟨lb, 0, none⟩)] w fun e w' => e = .returned (.bool true) ∧ w' = w := by
  go_enter Try.func40, Try.ntmps40
  go_wp2
  go_ret
  exact ⟨rfl, rfl⟩

set_option maxRecDepth 100000 in
theorem told_any (a : Ac) (x : List UInt8) (w : World) : Calls Try.prog 59 #[acV a, .string ⟨x.toArray⟩] w fun e w' => e = .returned (.agg #[.string ⟨x.toArray⟩, .int .i64 a.1, .int .i64 a.2]) ∧ Old w w' := by
  unfold acV
  go_enter Try.func59, Try.ntmps59
  go_wp2
  refine bodyPost_ret (v := .agg #[.string ⟨x.toArray⟩, .int .i64 a.1, .int .i64 a.2]) ?_ rfl ⟨rfl, ((Old.refl w).alloc _).alloc _⟩
  simp [results, Try.f59, go_sem]

set_option maxRecDepth 100000 in
set_option maxHeartbeats 1000000 in
theorem may_any (e : Es) (w : World) : Calls Try.prog 70 #[.agg #[.string ⟨e.1.toArray⟩, .int .i64 e.2]] w fun r w' => r = .returned (.bool (mayB e)) ∧ Old w w' := by
  obtain ⟨x, c⟩ := e
  have kC := fun W => hid (check_any x W)
  unfold mayB
  simp only
  generalize hz : chkZ x = z at *
  clear hz
  by_cases h1 : z = 0
  · subst h1
    by_cases h2 : c = 0
    · rw [decide_eq_false (fun h => h.2.1 h2)]
      subst h2
      go_enter Try.func70, Try.ntmps70
      go_wp2_with (go_at_call 82; refine (kC _).out.mono ?_; rintro e w' ⟨rfl, rfl⟩)
      go_ret
      exact ⟨rfl, (Old.refl w).alloc _⟩
    · have h2' : (c != 0) = true := by simpa using h2
      by_cases h3 : -70368744177664 ≤ c
      · by_cases h4 : c ≤ 70368744177664
        · rw [decide_eq_true ⟨rfl, h2, h3, h4⟩]
          clear h2
          go_enter Try.func70, Try.ntmps70
          go_wp2_with (go_at_call 82; refine (kC _).out.mono ?_; rintro e w' ⟨rfl, rfl⟩)
          go_ret
          exact ⟨rfl, (Old.refl w).alloc _⟩
        · rw [decide_eq_false (fun h => h4 h.2.2.2)]
          clear h2
          go_enter Try.func70, Try.ntmps70
          go_wp2_with (go_at_call 82; refine (kC _).out.mono ?_; rintro e w' ⟨rfl, rfl⟩)
          go_ret
          refine ⟨?_, (Old.refl w).alloc _⟩
          show Ending.returned (.bool (decide (c ≤ 70368744177664))) = _
          rw [decide_eq_false (by omega)]
      · rw [decide_eq_false (fun h => h3 h.2.2.1)]
        clear h2
        go_enter Try.func70, Try.ntmps70
        go_wp2_with (go_at_call 82; refine (kC _).out.mono ?_; rintro e w' ⟨rfl, rfl⟩)
        go_ret
        exact ⟨rfl, (Old.refl w).alloc _⟩
  · rw [decide_eq_false (fun h => h1 h.1)]
    have h1' : (z == 0) = false := by simpa using h1
    clear h1
    go_enter Try.func70, Try.ntmps70
    go_wp2_with (go_at_call 82; refine (kC _).out.mono ?_; rintro e w' ⟨rfl, rfl⟩)
    go_ret
    exact ⟨rfl, (Old.refl w).alloc _⟩
end Go.Proofs.Ytlhlmkdgbgppiaa
