/- A ledger in memory. -/
import Derived.Test.YtlhlmkdgbgppiaaJ3
import Derived.Test.YtlhlmkdgbgppiaaJ2
namespace Go.Proofs.Ytlhlmkdgbgppiaa
open Go.RowKit Go.Shelf Go.Maps

def flatE : List En → List Value
  | [] => []
  | e :: p => .int .i64 (e.1 : Int) :: .int .i64 e.2 :: flatE p
theorem flatE_length : ∀ p : List En, (flatE p).length = p.length * 2
  | [] => rfl
  | e :: p => by simp only [flatE, List.length_cons, flatE_length p]; omega
theorem flatE_get : ∀ (p : List En) (i : Nat) (h : i < p.length), (flatE p)[i * 2]? = some (.int .i64 (p[i].1 : Int)) ∧ (flatE p)[i * 2 + 1]? = some (.int .i64 p[i].2)
  | [], i, h => absurd h (by simp)
  | e :: p, 0, h => ⟨rfl, rfl⟩
  | e :: p, i + 1, h => by
    rw [show (i + 1) * 2 = i * 2 + 1 + 1 from by omega]
    simpa only [flatE, List.getElem?_cons_succ, List.getElem_cons_succ] using flatE_get p i (by simpa using h)
theorem flatE_append : ∀ (p q : List En), flatE (p ++ q) = flatE p ++ flatE q
  | [], q => rfl
  | e :: p, q => by simp only [List.cons_append, flatE, flatE_append p q]

/-- A posting as it lies. -/
def PosC (w : World) (v : Value) (p : List En) : Prop := ∃ g, v = .slice (some ⟨g, 0, none⟩) p.length p.length ∧ w.heap[g]? = some (.cells (flatE p).toArray 150 (0, 0))
theorem PosC.at {w : World} {v : Value} {p : List En} (h : PosC w v p) : ∃ g, v = .slice (some ⟨g, 0, none⟩) p.length p.length ∧ ∀ i (h : i < p.length), w.cell? ⟨g, i * 2, none⟩ = some (.int .i64 (p[i].1 : Int)) ∧ w.cell? ⟨g, i * 2 + 1, none⟩ = some (.int .i64 p[i].2) := by
  obtain ⟨g, rfl, hb⟩ := h
  refine ⟨g, rfl, fun i hi => ?_⟩
  have := flatE_get p i hi
  exact ⟨blk_cells hb (by simpa using this.1), blk_cells hb (by simpa using this.2)⟩
/-- What no posting lies in. -/
def NotP (w : World) (S : Nat → Prop) : Prop := ∀ k arr z, w.heap[k]? = some (.cells arr 150 z) → ¬ S k
theorem NotP.none (w : World) : NotP w (fun _ => False) := fun _ _ _ _ h => h
theorem PosC.frm {S : Nat → Prop} {w w' : World} {v : Value} {p : List En} (h : PosC w v p) (hf : Frm S w w') (hS : NotP w S) : PosC w' v p := by
  obtain ⟨g, rfl, hb⟩ := h
  exact ⟨g, rfl, by rw [hf.block g (blk_lt hb) (hS g _ _ hb)]; exact hb⟩

/-- The row of postings. -/
def RowP (w : World) (pv : Value) (P : List (List En)) : Prop := ∃ V : List Value, V.length = P.length ∧ w.ownsRow 0 106 1 pv P.length V ∧ ∀ i, i < P.length → PosC w (V.getD i undef) (P.getD i [])
theorem RowP.frm {S : Nat → Prop} {w w' : World} {pv : Value} {P : List (List En)} (h : RowP w pv P) (hf : Frm S w w') (h1 : ∀ k, pv.ownBlock = some k → ¬ S k) (hS : NotP w S) : RowP w' pv P := by
  obtain ⟨V, h0, hr, hp⟩ := h
  refine ⟨V, h0, owns_kept hr (fun k hk => ?_), fun i hi => (hp i hi).frm hf hS⟩
  obtain ⟨cur, hc⟩ := owns_block hr hk
  exact hf.block k (blk_lt hc) (h1 k hk)
theorem RowP.form {w : World} {pv : Value} {P : List (List En)} (h : RowP w pv P) : ∃ ao cap, pv = .slice ao P.length cap := by
  obtain ⟨V, h0, hr, hp⟩ := h
  rcases hr.2 with ⟨rfl, h0⟩ | ⟨g, cap, cur, rfl, _⟩
  · exact ⟨none, 0, by rw [h0]⟩
  · exact ⟨_, _, rfl⟩
theorem RowP.nth {w : World} {pv : Value} {P : List (List En)} (h : RowP w pv P) {i : Nat} (hi : i < P.length) : ∃ g cap u, pv = .slice (some ⟨g, 0, none⟩) P.length cap ∧ w.cell? ⟨g, i, none⟩ = some u ∧ PosC w u (P.getD i []) := by
  obtain ⟨V, h0, hr, hp⟩ := h
  rcases hr.2 with ⟨_, h0⟩ | ⟨g, cap, cur, rfl, h3, h4, h5, h6, h7, h8⟩
  · omega
  · refine ⟨g, cap, _, rfl, blk_cells h4 ?_, hp i hi⟩
    have h9 : (cur.toList.take (P.length * 1))[i]? = V[i]? := by rw [h8]
    rw [List.getElem?_take_of_lt (by omega)] at h9
    have : i < V.length := by omega
    simpa [List.getD_eq_getElem?_getD, this] using h9
theorem RowP.tag {w : World} {pv : Value} {P : List (List En)} (h : RowP w pv P) {k : Nat} (hk : pv.ownBlock = some k) : ∃ cur, w.heap[k]? = some (.cells cur 106 (0, 0)) := by
  obtain ⟨V, h0, hr, hp⟩ := h
  exact owns_block hr hk

/-- Which ledger. -/
structure Lx where
  lb : Nat
  ib : Nat
  nb : Nat
  tb : Nat
  mb : Nat
  ab : Nat
  v : Value
  pv : Value
  L : List (List UInt8)
  A : List Ac
  P : List (List En)

def Lx.own (x : Lx) (k : Nat) : Prop := k = x.ib ∨ k = x.tb ∨ k = x.mb ∨ k = x.ab ∨ x.v.ownBlock = some k ∨ x.pv.ownBlock = some k
def Lx.all (x : Lx) (k : Nat) : Prop := k = x.lb ∨ k = x.nb ∨ x.own k
def Lx.ptr (x : Lx) : Value := .pointer (some ⟨x.lb, 0, none⟩)
def Lx.inp (x : Lx) : Value := .pointer (some ⟨x.ib, 0, none⟩)

structure Ldg (w : World) (x : Lx) : Prop where
  hd : w.heap[x.lb]? = some (.cells #[.pointer (some ⟨x.ib, 0, none⟩)] 58 (0, 0))
  ins : w.heap[x.ib]? = some (.cells #[.pointer (some ⟨x.nb, 0, none⟩), .map (some x.ab), x.pv] 67 (0, 0))
  nms : Nms w x.nb x.tb x.mb x.v 65536 x.L
  am : AM w x.ab x.A.length (lkA x.A)
  row : RowP w x.pv x.P
  mm : x.mb ≠ x.ab
  pn : x.P = [] → x.pv = .slice none 0 0
structure OkL (x : Lx) : Prop where
  len : x.L.length = x.A.length
  oka : OkA x.A
  nd : x.L.Nodup
  chk : ∀ n ∈ x.L, chkZ n = 0
  ps : ∀ p ∈ x.P, OkP x.A.length p

theorem Ldg.c0 {w : World} {x : Lx} (h : Ldg w x) : w.cell? ⟨x.lb, 0, none⟩ = some (.pointer (some ⟨x.ib, 0, none⟩)) := blk_cell h.hd
theorem Ldg.i0 {w : World} {x : Lx} (h : Ldg w x) : w.cell? ⟨x.ib, 0, none⟩ = some (.pointer (some ⟨x.nb, 0, none⟩)) := blk_cells h.ins rfl
theorem Ldg.i1 {w : World} {x : Lx} (h : Ldg w x) : w.cell? ⟨x.ib, 1, none⟩ = some (.map (some x.ab)) := blk_cells h.ins rfl
theorem Ldg.i2 {w : World} {x : Lx} (h : Ldg w x) : w.cell? ⟨x.ib, 2, none⟩ = some x.pv := blk_cells h.ins rfl
theorem Ldg.frm {S : Nat → Prop} {w w' : World} {x : Lx} (h : Ldg w x) (hf : Frm S w w') (h1 : ∀ k, x.all k → ¬ S k) (hS : NotP w S) : Ldg w' x where
  hd := by rw [hf.block x.lb (blk_lt h.hd) (h1 _ (Or.inl rfl))]; exact h.hd
  ins := by rw [hf.block x.ib (blk_lt h.ins) (h1 _ (Or.inr (Or.inr (Or.inl rfl))))]; exact h.ins
  nms := h.nms.frm hf (h1 _ (Or.inr (Or.inl rfl))) (h1 _ (Or.inr (Or.inr (Or.inr (Or.inl rfl))))) (h1 _ (Or.inr (Or.inr (Or.inr (Or.inr (Or.inl rfl)))))) (fun k hk => h1 k (Or.inr (Or.inr (Or.inr (Or.inr (Or.inr (Or.inr (Or.inl hk))))))))
  am := h.am.kept hf (h1 _ (Or.inr (Or.inr (Or.inr (Or.inr (Or.inr (Or.inl rfl)))))))
  row := h.row.frm hf (fun k hk => h1 k (Or.inr (Or.inr (Or.inr (Or.inr (Or.inr (Or.inr (Or.inr hk)))))))) hS
  mm := h.mm
  pn := h.pn
theorem Ldg.old {w w' : World} {x : Lx} (h : Ldg w x) (hf : Old w w') : Ldg w' x := h.frm hf (fun _ _ h => h) (NotP.none w)

/-- What lies in which block. -/
theorem Ldg.tag {w : World} {x : Lx} (h : Ldg w x) {k : Nat} (hk : x.all k) : k < w.heap.size ∧ ∀ arr z, w.heap[k]? ≠ some (.cells arr 150 z) := by
  rcases hk with rfl | rfl | rfl | rfl | rfl | rfl | hk | hk
  · exact ⟨blk_lt h.hd, fun arr z e => by rw [h.hd] at e; cases e⟩
  · exact ⟨blk_lt h.nms.hd, fun arr z e => by rw [h.nms.hd] at e; cases e⟩
  · exact ⟨blk_lt h.ins, fun arr z e => by rw [h.ins] at e; cases e⟩
  · exact ⟨blk_lt h.nms.t.blk, fun arr z e => by rw [h.nms.t.blk] at e; cases e⟩
  · exact ⟨h.nms.t.km.lt, fun arr z e => h.nms.t.km.noCell e⟩
  · exact ⟨h.am.lt, fun arr z e => h.am.noCell e⟩
  · obtain ⟨cur, hc⟩ := owns_block h.nms.t.row hk
    exact ⟨blk_lt hc, fun arr z e => by rw [hc] at e; cases e⟩
  · obtain ⟨cur, hc⟩ := h.row.tag hk
    exact ⟨blk_lt hc, fun arr z e => by rw [hc] at e; cases e⟩
theorem Ldg.notP {w : World} {x : Lx} (h : Ldg w x) : NotP w x.own := fun _ arr z e hk => (h.tag (Or.inr (Or.inr hk))).2 arr z e

/-- The blocks of a ledger are as many as they seem. -/
theorem Ldg.ne {w : World} {x : Lx} (h : Ldg w x) : x.lb ≠ x.ib ∧ x.lb ≠ x.nb ∧ x.lb ≠ x.tb ∧ x.lb ≠ x.mb ∧ x.lb ≠ x.ab ∧ x.v.ownBlock ≠ some x.lb ∧ x.pv.ownBlock ≠ some x.lb ∧ x.nb ≠ x.ib ∧ x.nb ≠ x.ab ∧ x.pv.ownBlock ≠ some x.nb ∧ x.ib ≠ x.tb ∧ x.ib ≠ x.mb ∧ x.ib ≠ x.ab ∧ x.v.ownBlock ≠ some x.ib ∧ x.pv.ownBlock ≠ some x.ib ∧ x.tb ≠ x.ab ∧ x.pv.ownBlock ≠ some x.tb ∧ x.pv.ownBlock ≠ some x.mb ∧ x.v.ownBlock ≠ some x.ab ∧ x.pv.ownBlock ≠ some x.ab ∧ (∀ k, x.v.ownBlock = some k → x.pv.ownBlock ≠ some k) ∧ x.mb ≠ x.ab := by
  have tv : ∀ k, x.v.ownBlock = some k → ∃ cur, w.heap[k]? = some (.cells cur 9 (0, 0)) := fun k hk => owns_block h.nms.t.row hk
  have tp : ∀ k, x.pv.ownBlock = some k → ∃ cur, w.heap[k]? = some (.cells cur 106 (0, 0)) := fun k hk => h.row.tag hk
  have h1 := h.hd
  have h2 := h.ins
  have h3 := h.nms.hd
  have h4 := h.nms.t.blk
  have h5 : ∀ {arr : Array Value} {t : TypeId} {z : Nat × Nat}, w.heap[x.mb]? = some (.cells arr t z) → False := fun hb => h.nms.t.km.noCell hb
  have h6 : ∀ {arr : Array Value} {t : TypeId} {z : Nat × Nat}, w.heap[x.ab]? = some (.cells arr t z) → False := fun hb => h.am.noCell hb
  refine ⟨fun e => ?_, fun e => ?_, fun e => ?_, fun e => ?_, fun e => ?_, fun e => ?_, fun e => ?_, fun e => ?_, fun e => ?_, fun e => ?_, fun e => ?_, fun e => ?_, fun e => ?_, fun e => ?_, fun e => ?_, fun e => ?_, fun e => ?_, fun e => ?_, fun e => ?_, fun e => ?_, fun k hk e => ?_, h.mm⟩
  · rw [e, h2] at h1; simp at h1
  · rw [e, h3] at h1; simp at h1
  · rw [e, h4] at h1; simp at h1
  · exact h5 (e ▸ h1)
  · exact h6 (e ▸ h1)
  · obtain ⟨c, hc⟩ := tv _ e; rw [h1] at hc; simp at hc
  · obtain ⟨c, hc⟩ := tp _ e; rw [h1] at hc; simp at hc
  · rw [e, h2] at h3; simp at h3
  · exact h6 (e ▸ h3)
  · obtain ⟨c, hc⟩ := tp _ e; rw [h3] at hc; simp at hc
  · rw [e, h4] at h2; simp at h2
  · exact h5 (e ▸ h2)
  · exact h6 (e ▸ h2)
  · obtain ⟨c, hc⟩ := tv _ e; rw [h2] at hc; simp at hc
  · obtain ⟨c, hc⟩ := tp _ e; rw [h2] at hc; simp at hc
  · exact h6 (e ▸ h4)
  · obtain ⟨c, hc⟩ := tp _ e; rw [h4] at hc; simp at hc
  · obtain ⟨c, hc⟩ := tp _ e; exact h5 hc
  · obtain ⟨c, hc⟩ := tv _ e; exact h6 hc
  · obtain ⟨c, hc⟩ := tp _ e; exact h6 hc
  · obtain ⟨c, hc⟩ := tp _ e; obtain ⟨d, hd⟩ := tv _ hk; rw [hc] at hd; simp at hd

set_option maxRecDepth 100000 in
theorem made_nil (w : World) : Calls Try.prog 40 #[.pointer none] w fun e w' => e = .returned (.bool false) ∧ w' = w := by
  go_enter Try.func40, Try.ntmps40
  go_wp2
  go_ret
  exact ⟨rfl, rfl⟩
set_option maxRecDepth 100000 in
theorem made_zero (lb : Nat) (w : World) (h : w.cell? ⟨lb, 0, none⟩ = some (.pointer none)) : Calls Try.prog 40 #[.pointer (some ⟨lb, 0, none⟩)] w fun e w' => e = .returned (.bool false) ∧ w' = w := by
  go_enter Try.func40, Try.ntmps40
  go_wp2
  go_ret
  exact ⟨rfl, rfl⟩
set_option maxRecDepth 100000 in
theorem made_some (lb ib : Nat) (w : World) (h : w.cell? ⟨lb, 0, none⟩ = some (.pointer (some ⟨ib, 0, none⟩))) : Calls Try.prog 40 #[.pointer (some ⟨lb, 0, none⟩)] w fun e w' => e = .returned (.bool true) ∧ w' = w := by
  go_enter Try.func40, Try.ntmps40
  go_wp2
  go_ret
  exact ⟨rfl, rfl⟩

set_option maxRecDepth 100000 in
theorem told_any (a : Ac) (x : List UInt8) (w : World) : Calls Try.prog 59 #[acV a, .string ⟨x.toArray⟩] w fun e w' => e = .returned (.agg #[.string ⟨x.toArray⟩, .int .i64 a.1, .int .i64 a.2]) ∧ Old w w' := by
  unfold acV
  go_enter Try.func59, Try.ntmps59
  go_wp2
  refine bodyPost_ret (v := .agg #[.string ⟨x.toArray⟩, .int .i64 a.1, .int .i64 a.2]) ?_ rfl ⟨rfl, ((Old.refl w).alloc _).alloc _⟩
  simp [results, Try.f59, go_sem]

set_option maxRecDepth 100000 in
set_option maxHeartbeats 1000000 in
theorem may_any (e : Es) (w : World) : Calls Try.prog 70 #[.agg #[.string ⟨e.1.toArray⟩, .int .i64 e.2]] w fun r w' => r = .returned (.bool (mayB e)) ∧ Old w w' := by
  obtain ⟨x, c⟩ := e
  have kC := fun W => hid (check_any x W)
  unfold mayB
  simp only
  generalize hz : chkZ x = z at *
  clear hz
  by_cases h1 : z = 0
  · subst h1
    by_cases h2 : c = 0
    · rw [decide_eq_false (fun h => h.2.1 h2)]
      subst h2
      go_enter Try.func70, Try.ntmps70
      go_wp2_with (go_at_call 82; refine (kC _).out.mono ?_; rintro e w' ⟨rfl, rfl⟩)
      go_ret
      exact ⟨rfl, (Old.refl w).alloc _⟩
    · have h2' : (c != 0) = true := by simpa using h2
      by_cases h3 : -70368744177664 ≤ c
      · by_cases h4 : c ≤ 70368744177664
        · rw [decide_eq_true ⟨rfl, h2, h3, h4⟩]
          clear h2
          go_enter Try.func70, Try.ntmps70
          go_wp2_with (go_at_call 82; refine (kC _).out.mono ?_; rintro e w' ⟨rfl, rfl⟩)
          go_ret
          exact ⟨rfl, (Old.refl w).alloc _⟩
        · rw [decide_eq_false (fun h => h4 h.2.2.2)]
          clear h2
          go_enter Try.func70, Try.ntmps70
          go_wp2_with (go_at_call 82; refine (kC _).out.mono ?_; rintro e w' ⟨rfl, rfl⟩)
          go_ret
          refine ⟨?_, (Old.refl w).alloc _⟩
          show Ending.returned (.bool (decide (c ≤ 70368744177664))) = _
          rw [decide_eq_false (by omega)]
      · rw [decide_eq_false (fun h => h3 h.2.2.1)]
        clear h2
        go_enter Try.func70, Try.ntmps70
        go_wp2_with (go_at_call 82; refine (kC _).out.mono ?_; rintro e w' ⟨rfl, rfl⟩)
        go_ret
        exact ⟨rfl, (Old.refl w).alloc _⟩
  · rw [decide_eq_false (fun h => h1 h.1)]
    have h1' : (z == 0) = false := by simpa using h1
    clear h1
    go_enter Try.func70, Try.ntmps70
    go_wp2_with (go_at_call 82; refine (kC _).out.mono ?_; rintro e w' ⟨rfl, rfl⟩)
    go_ret
    exact ⟨rfl, (Old.refl w).alloc _⟩
end Go.Proofs.Ytlhlmkdgbgppiaa

/- A ledger is made; an account is opened, or not. -/
namespace Go.Proofs.Ytlhlmkdgbgppiaa
open Go.RowKit Go.Shelf Go.Maps

def Lx.fresh (s : Nat) : Lx := ⟨s + 5, s + 4, s + 2, s + 1, s, s + 3, .slice none 0 0, .slice none 0 0, [], [], []⟩

theorem ok_fresh (s : Nat) : OkL (Lx.fresh s) := ⟨rfl, ⟨by simp [Lx.fresh], by simp [Lx.fresh], rfl⟩, by simp [Lx.fresh], by simp [Lx.fresh], by simp [Lx.fresh]⟩

set_option maxRecDepth 100000 in
set_option maxHeartbeats 1000000 in
theorem lnew_any (w : World) : Calls Try.prog 6 #[] w fun e w' => e = .returned (Lx.fresh w.heap.size).ptr ∧ Old w w' ∧ Ldg w' (Lx.fresh w.heap.size) ∧ w'.heap.size = w.heap.size + 6 := by
  have kN := hid (new_good 65536 w ⟨by omega, by omega⟩)
  obtain ⟨s, hs⟩ : ∃ s, w.heap.size = s := ⟨_, rfl⟩
  rw [hs] at kN ⊢
  go_enter Try.func6, Try.ntmps6
  go_wp2_with (go_at_call 20; refine kN.out.mono ?_)
  rintro e w1 ⟨rfl, o1, h1, z1⟩
  have hm := run_makeMap (P := Try.prog) 64 w1
  have k1 := hid h1
  have ko := hid o1
  have kz := hid z1
  clear kN h1 o1 z1
  go_wp2_with fail
  have z1 := kz.out
  obtain ⟨oA, hA⟩ : ∃ oA, Obj.map #[] 0 = oA := ⟨_, rfl⟩
  obtain ⟨oB, hB⟩ : ∃ oB, Obj.cells #[.pointer (some ⟨s + 2, 0, none⟩), .map (some w1.heap.size), .slice none 0 0] 67 = oB := ⟨_, rfl⟩
  obtain ⟨oC, hC⟩ : ∃ oC, Obj.cells #[.pointer (some ⟨w1.heap.size + 1, 0, none⟩)] 58 = oC := ⟨_, rfl⟩
  have km := AM.made w1
  rw [hA] at km ⊢
  rw [hB] at ⊢
  rw [hC] at ⊢
  have o2 : Old w1 (w1.alloc oA) := (Old.refl _).alloc _
  have z2 := alloc_size w1 oA
  have o3 : Old (w1.alloc oA) ((w1.alloc oA).alloc oB) := (Old.refl _).alloc _
  have z3 := alloc_size (w1.alloc oA) oB
  have n3 := heap_new (w1.alloc oA) oB
  have o4 : Old ((w1.alloc oA).alloc oB) (((w1.alloc oA).alloc oB).alloc oC) := (Old.refl _).alloc _
  have z4 := alloc_size ((w1.alloc oA).alloc oB) oC
  have n4 := heap_new ((w1.alloc oA).alloc oB) oC
  generalize ((w1.alloc oA).alloc oB).alloc oC = w4 at *
  generalize (w1.alloc oA).alloc oB = w3 at *
  generalize w1.alloc oA = w2 at *
  rw [z3] at z4 n4
  rw [z2] at z3 z4 n3 n4
  have n3' := (o4.block _ (by omega) (fun h => h)).trans n3
  refine bodyPost_ret (v := .pointer (some ⟨w1.heap.size + 1 + 1, 0, none⟩)) ?_ rfl ⟨?_, (((ko.out).trans o2).trans o3).trans o4, ?_, by omega⟩
  · simp [results, Try.f6, go_sem]
  · simp only [Lx.ptr, Lx.fresh]
    rw [show w1.heap.size + 1 + 1 = s + 5 from by omega]
  · have e1 : s + 3 = w1.heap.size := by omega
    have e2 : s + 4 = w1.heap.size + 1 := by omega
    have e3 : s + 5 = w1.heap.size + 1 + 1 := by omega
    subst hB
    subst hC
    refine ⟨?_, ?_, ?_, ?_, ?_, ?_, fun _ => rfl⟩
    · show w4.heap[s + 5]? = some (.cells #[.pointer (some ⟨s + 4, 0, none⟩)] 58 (0, 0))
      rw [e3, e2]; exact n4
    · show w4.heap[s + 4]? = some (.cells #[.pointer (some ⟨s + 2, 0, none⟩), .map (some (s + 3)), .slice none 0 0] 67 (0, 0))
      rw [e2, e1]; exact n3'
    · exact ((k1.out.old o2).old o3).old o4
    · show AM w4 (s + 3) 0 (lkA [])
      rw [e1]
      exact ((km.kept o3 (fun h => h)).kept o4 (fun h => h)).ext (by funext x; simp [lkA])
    · exact ⟨[], rfl, ⟨rfl, Or.inl ⟨rfl, rfl⟩⟩, fun i hi => absurd hi (by simp [Lx.fresh])⟩
    · simp [Lx.fresh]

/-- Why an account may not be opened. -/
def opnZ (L : List (List UInt8)) (x : List UInt8) (b : Int) : Int := if b < -70368744177664 ∨ 0 < b then 2 else refZ L 65536 x

set_option maxRecDepth 100000 in
set_option maxHeartbeats 1000000 in
theorem open_bad (x : Lx) (n : List UInt8) (b : Int) (w : World) (h : Ldg w x) (hk : OkL x) (hr : opnZ x.L n b ≠ 0) :
    Calls Try.prog 10 #[x.ptr, .string ⟨n.toArray⟩, .int .i64 b] w fun e w' => e = .returned (.tuple #[.int .i64 0, .int .i64 (opnZ x.L n b)]) ∧ Old w w' := by
  have kM := hid (made_some x.lb x.ib w h.c0)
  have c0 := h.c0
  have i0 := h.i0
  have hl : x.L.length ≤ 1048576 := by have := hk.len; have := hk.oka.len; omega
  unfold opnZ at *
  unfold Lx.ptr
  by_cases h1 : b < -70368744177664
  · rw [if_pos (Or.inl h1)]
    clear h hk hr
    go_enter Try.func10, Try.ntmps10
    go_wp2_with (go_at_call 40; refine kM.out.mono ?_; rintro e w' ⟨rfl, hw⟩; rw [hw]; clear hw w')
    go_ret2
    exact ⟨rfl, Old.refl _⟩
  · by_cases h2 : 0 < b
    · rw [if_pos (Or.inr h2)]
      clear h hk hr
      go_enter Try.func10, Try.ntmps10
      go_wp2_with (go_at_call 40; refine kM.out.mono ?_; rintro e w' ⟨rfl, hw⟩; rw [hw]; clear hw w')
      go_ret2
      exact ⟨rfl, Old.refl _⟩
    · rw [if_neg (by omega)] at *
      have kA := hid (add_bad x.nb x.tb x.mb x.v 65536 x.L n w h.nms hl hr)
      have hq : (refZ x.L 65536 n != 0) = true := by simpa using hr
      clear h hk hr
      generalize refZ x.L 65536 n = r at *
      go_enter Try.func10, Try.ntmps10
      go_wp2_with (go_at_call 40; refine kM.out.mono ?_; rintro e w' ⟨rfl, hw⟩; rw [hw]; clear hw w')
      refine kA.out.mono ?_
      rintro e w1 ⟨rfl, o1⟩
      go_wp2_with fail
      go_ret2
      exact ⟨rfl, o1⟩

set_option maxRecDepth 100000 in
set_option maxHeartbeats 1000000 in
theorem open_good (x : Lx) (n : List UInt8) (b : Int) (w : World) (h : Ldg w x) (hk : OkL x) (hr : opnZ x.L n b = 0) :
    Calls Try.prog 10 #[x.ptr, .string ⟨n.toArray⟩, .int .i64 b] w fun e w' => e = .returned (.tuple #[.int .i64 (x.A.length : Int), .int .i64 0]) ∧ ∃ v', Ldg w' { x with v := v', L := x.L ++ [n], A := x.A ++ [(b, 0)] } ∧ Frm x.own w w' ∧ ∀ k, v'.ownBlock = some k → x.v.ownBlock = some k ∨ w.heap.size ≤ k := by
  have kM := hid (made_some x.lb x.ib w h.c0)
  have c0 := h.c0
  have i0 := h.i0
  have hl : x.L.length ≤ 1048576 := by have := hk.len; have := hk.oka.len; omega
  have hl2 := hk.oka.len
  unfold opnZ at hr
  split at hr
  · cases hr
  rename_i hb
  have hb1 : ¬ b < -70368744177664 := fun h => hb (Or.inl h)
  have hb2 : ¬ 0 < b := fun h => hb (Or.inr h)
  have kA := hid (add_good x.nb x.tb x.mb x.v 65536 x.L n w h.nms hl hr)
  rw [hk.len] at kA
  have kh := hid h
  have ne := hid h.ne
  unfold Lx.ptr
  clear h hk hr hb
  go_enter Try.func10, Try.ntmps10
  go_wp2_with (go_at_call 40; refine kM.out.mono ?_; rintro e w' ⟨rfl, hw⟩; rw [hw]; clear hw w')
  refine kA.out.mono ?_
  rintro e w1 ⟨rfl, v', hN, hf, hv⟩
  obtain ⟨e1, e2, e3, e4, e5, e6, e7, e8, e9, e10, e11, e12, e13, e14, e15, e16, e17, e18, e19, e20, e21, e22⟩ := ne.out
  have d0 : w1.cell? ⟨x.lb, 0, none⟩ = some (.pointer (some ⟨x.ib, 0, none⟩)) := frm_cell hf c0 (fun h => h.elim e3 (fun h => h.elim e4 e6))
  have d1 : w1.cell? ⟨x.ib, 1, none⟩ = some (.map (some x.ab)) := frm_cell hf kh.out.i1 (fun h => h.elim e11 (fun h => h.elim e12 e14))
  have hA := kh.out.am.kept hf (fun h => h.elim (fun h => e16 h.symm) (fun h => h.elim (fun h => e22 h.symm) e19))
  obtain ⟨w2, hput, hA2, f2⟩ := hA.put (x := (x.A.length : Int)) (by unfold i64ok; omega) (b, 0) (by have : maxLen = 9223372036854775807 := rfl; omega)
  have kN := hid hN
  have kf := hid hf
  have kv := hid hv
  have kA2 := hid hA2
  have kf2 := hid f2
  unfold acV at hput
  clear hN hf hv hA hA2 f2
  go_wp2_with fail
  go_ret2
  have f2 := kf2.out
  have hf := kf.out
  have hF : Frm x.own w w2 := Frm.trans (Frm.mono hf (fun i _ h => h.elim (fun h => Or.inr (Or.inl h)) (fun h => h.elim (fun h => Or.inr (Or.inr (Or.inl h))) (fun h => Or.inr (Or.inr (Or.inr (Or.inr (Or.inl h)))))))) f2 (fun i _ h => Or.inr (Or.inr (Or.inr (Or.inl h))))
  have hn : lkA x.A (x.A.length : Int) = none := by simp [lkA]
  have hab := kh.out.am.lt
  refine ⟨rfl, v', ⟨?_, ?_, ?_, ?_, ?_, e22, kh.out.pn⟩, hF, kv.out⟩
  · show w2.heap[x.lb]? = _
    rw [f2.block _ (Nat.lt_of_lt_of_le (blk_lt kh.out.hd) hf.size) e5, hf.block _ (blk_lt kh.out.hd) (fun h => h.elim e3 (fun h => h.elim e4 e6))]
    exact kh.out.hd
  · show w2.heap[x.ib]? = _
    rw [f2.block _ (Nat.lt_of_lt_of_le (blk_lt kh.out.ins) hf.size) e13, hf.block _ (blk_lt kh.out.ins) (fun h => h.elim e11 (fun h => h.elim e12 e14))]
    exact kh.out.ins
  · refine kN.out.frm f2 e9 e16 e22 (fun k hk h => ?_)
    subst h
    rcases kv.out x.ab hk with h | h
    · exact e19 h
    · omega
  · have hz := kA2.out
    unfold moreN at hz
    rw [hn] at hz
    have hz := hz.ext (lkA_snoc (b, 0))
    show AM w2 x.ab (x.A ++ [(b, 0)]).length (lkA (x.A ++ [(b, 0)]))
    rw [List.length_append]
    exact hz
  · show RowP w2 x.pv x.P
    have hG : Frm (fun k => k = x.tb ∨ k = x.mb ∨ x.v.ownBlock = some k ∨ k = x.ab) w w2 := Frm.trans (Frm.mono hf (fun i _ h => h.elim Or.inl (fun h => h.elim (fun h => Or.inr (Or.inl h)) (fun h => Or.inr (Or.inr (Or.inl h)))))) f2 (fun i _ h => Or.inr (Or.inr (Or.inr h)))
    refine kh.out.row.frm hG (fun k hk h => ?_) (fun k arr z e h => ?_)
    · rcases h with h | h | h | h
      · exact e17 (h ▸ hk)
      · exact e18 (h ▸ hk)
      · exact e21 k h hk
      · exact e20 (h ▸ hk)
    · refine kh.out.notP k arr z e ?_
      rcases h with h | h | h | h
      · exact Or.inr (Or.inl h)
      · exact Or.inr (Or.inr (Or.inl h))
      · exact Or.inr (Or.inr (Or.inr (Or.inr (Or.inl h))))
      · exact Or.inr (Or.inr (Or.inr (Or.inl h)))
end Go.Proofs.Ytlhlmkdgbgppiaa
