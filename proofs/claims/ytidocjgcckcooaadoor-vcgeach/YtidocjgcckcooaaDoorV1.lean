/- Instances that are not gone over; instances given, in memory of their own: in plain words. -/
import Derived.Test.YtidocjgcckcooaaDoorJ19
import Derived.Test.YtidocjgcckcooaaDoorJ18
import Derived.Test.YtidocjgcckcooaaDoorR2
import Derived.Laws.OwnMore
namespace Go.Proofs.YtidocjgcckcooaaDoor
open Go.RowKit Go.Lib Go.Shelf
attribute [local go_sem] Oper.semAt_some

theorem flatO_append : ∀ (M : List Off) (N : List Off), flatO (M ++ N) = flatO M ++ flatO N
  | [], N => rfl
  | d :: M, N => by simp [flatO, flatO_append M N]

/-- Is it too great to be gone over? -/
def lo40 (B : Ins) : Bool := B.any (fun l => decide (40 < l.length)) || decide (40 < B.length)

set_option maxRecDepth 100000 in
set_option maxHeartbeats 4000000 in
theorem great_any (gd : Int) (bo : Option Addr) (cap : Nat) (B : Ins) (w : World) (h : InsC w bo B) (hl : B.length ≤ 9223372036854775807) :
    Calls Tryd.prog 8 #[.agg #[.int .i64 gd, .slice bo B.length cap]] w fun e w' => e = .returned (.bool (lo40 B)) ∧ Old w w' := by
  have o1 : Old w (w.alloc (.cells #[.int .i64 gd, .slice bo B.length cap] 24)) := (Old.refl w).alloc _
  have c1 := new_cell w #[.int .i64 gd, .slice bo B.length cap] 24 1 _ rfl
  have ko := hid o1
  have kO := hid (h.old o1)
  clear o1 h
  go_enter Tryd.func8, Tryd.ntmps8
  go_upto_region 1 with fail
  generalize w.alloc (.cells #[.int .i64 gd, .slice bo B.length cap] 24) = w1 at *
  generalize w.heap.size = xb at *
  go_wp2_with fail
  go_loopw [3] (fun t wr => ∃ k : Nat, k ≤ B.length ∧ t = .int .i64 (k : Int) ∧ Hid ((B.take k).any (fun l => decide (40 < l.length)) = false) ∧ wr = w1) (fun t _ => B.length - (intOf t).toNat)
  case atStart => exact ⟨0, Nat.zero_le _, rfl, rfl, by trivial⟩
  case round =>
    obtain ⟨k, hk, rfl, hA, hwr⟩ := hrel
    obtain rfl := hwr.symm
    by_cases hlt : k < B.length
    · obtain ⟨g, o, a0, cc, rfl, ck, -, -, -⟩ := kO.out k hlt
      have hk' : (k : Int) < (B.length : Int) := by omega
      by_cases h40 : 40 < B[k].length
      · have kz : Hid (lo40 B = true) := by
          show _ = _
          rw [lo40, List.any_eq_true.2 ⟨B[k], List.getElem_mem hlt, decide_eq_true h40⟩]
          rfl
        have h40' : (B[k].length : Int) > 40 := by omega
        obtain ⟨n, hn⟩ : ∃ n, B[k].length = n := ⟨_, rfl⟩
        rw [hn] at ck h40'
        clear hn h40
        go_wp2_with fail
        go_ret
        exact ⟨by rw [kz.out]; rfl, ko.out⟩
      · have kz : Hid ((B.take (k + 1)).any (fun l => decide (40 < l.length)) = false) := by
          show _ = _
          rw [List.take_succ_eq_append_getElem hlt, List.any_append, hA.out]
          simp [h40]
        have h40' : ¬ (B[k].length : Int) > 40 := by omega
        obtain ⟨n, hn⟩ : ∃ n, B[k].length = n := ⟨_, rfl⟩
        rw [hn] at ck h40'
        clear hn h40
        go_wp2_with fail
        go_roundw
        case rel => exact ⟨k + 1, by omega, by go_num, kz, by trivial⟩
        case measure => simp [intOf]; omega
    · obtain rfl : k = B.length := by omega
      have kz : Hid (lo40 B = decide (40 < B.length)) := by
        show _ = _
        have := hA.out
        rw [List.take_length] at this
        rw [lo40, this]
        rfl
      have hb : ((B.length : Int) > 40) ↔ 40 < B.length := by omega
      go_wp2_with fail
      go_ret
      refine ⟨?_, ko.out⟩
      rw [kz.out]
      first | rfl | (simp only [hb]; rfl)

theorem lo40_false {B : Ins} (h : lo40 B = false) : B.length ≤ 40 ∧ ∀ i, i < B.length → (B.getD i []).length ≤ 40 := by
  unfold lo40 at h
  rw [Bool.or_eq_false_iff] at h
  refine ⟨by simpa using h.2, fun i hi => ?_⟩
  have := h.1
  rw [List.any_eq_false] at this
  have h2 := this B[i] (List.getElem_mem hi)
  rw [List.getD_eq_getElem?_getD, List.getElem?_eq_getElem hi]
  simpa using h2

/-- A row of offers, of its type, in a block from lo on. -/
structure RowT (lo : Nat) (w : World) (g : Nat) (L : List Off) : Prop where
  own : OwnO w g L
  ty : ∃ cur, w.heap[g]? = some (.cells cur 62 (0, 0))
  lo : lo ≤ g

theorem RowT.frm {lo g : Nat} {S : Nat → Prop} {w w' : World} {L : List Off} (h : RowT lo w g L) (hf : Frm S w w') (hS : ¬ S g) : RowT lo w' g L := by
  obtain ⟨⟨h4, h5, h6⟩, ⟨cur, hc⟩, hl⟩ := h
  refine ⟨⟨fun i hi => ⟨frm_cell hf (h4 i hi).1 hS, frm_cell hf (h4 i hi).2 hS⟩, fun j => frm_frozen hf h6 (h5 j) hS, Nat.lt_of_lt_of_le h6 hf.size⟩, ⟨cur, by rw [hf.block g h6 hS]; exact hc⟩, hl⟩

theorem typ_ne {w : World} {b c : Nat} {x y : Array Value} {s t : TypeId} (h : w.heap[b]? = some (.cells x s (0, 0))) (k : w.heap[c]? = some (.cells y t (0, 0))) (hn : s ≠ t) : b ≠ c := by
  rintro rfl
  rw [h] at k
  simp only [Option.some.injEq, Obj.cells.injEq] at k
  exact hn k.2.1

theorem parts_sl : ∃ i, Tryd.prog.info? 58 = some i ∧ i.zero = some (.slice none 0 0) ∧ i.size = 1 ∧ i.bytes = 24 := by
  obtain ⟨i, hi, h2⟩ := Option.map_eq_some_iff.1 info_s
  simp only [Prod.mk.injEq] at h2
  exact ⟨i, hi, h2.1, h2.2.2, h2.2.1⟩

/-- Offers, or none, appended in a region that draws. -/
theorem step_appX {ops : Array Oper} {o : Oper} {a : Act} {K : Act → World → Prop} {Q : Exit → Act → World → Prop} {E : Prop} (W : World) (hgd : o.guard = none) (s x : Operand)
    (ho : o.op = .call { callee := .builtin .append, args := #[s, x], argTypes := #[58, 58] }) (B : Nat) (v : Value) (xo : Option Addr) (n2 c2 : Nat) (L1 L2 : List Off) (hs : a.eval s = v) (hx : a.eval x = .slice xo n2 c2) (hn2 : L2.length = n2) (hn : xo = none → c2 = 0) (hown : W.ownsRow B 62 2 v L1.length (flatO L1)) (hO : OffC W xo L2)
    (hl : L1.length + L2.length ≤ 1000000) (hB : B ≤ W.heap.size)
    (h : ∀ v' W', W'.ownsRow B 62 2 v' (L1 ++ L2).length (flatO (L1 ++ L2)) → W.grownBy W' v.ownBlock → K (a.put o.dst v') W') :
    if Region.wanted o (yielded ops a.tmps) = true then Oper.wp Tryd.prog o a W K Q else E := by
  have hw : Region.wanted o (yielded ops a.tmps) = true := by simp [Region.wanted, hgd]
  subst hn2
  rw [if_pos hw]
  obtain ⟨i0, hi0, hz0, hz1, hz2⟩ := parts_o
  cases xo with
  | none =>
    obtain rfl := hO.nil
    rw [hn rfl] at hx
    have hrun := run_append_owned_none (P := Tryd.prog) (w := W) B 58 o.type 62 i0 2 Tryd.underlying58 hi0 v L1.length (flatO L1) hown
    have hk := h v W (by simpa using hown) ⟨rfl, rfl, rfl, Nat.le_refl _, fun _ _ _ => rfl⟩
    unfold Oper.wp
    simp [execOp, ho, resolve, invoke, builtin, hs, hx, hrun, Result.andThen]
    exact hk
  | some ad =>
    exact wp_append_own W s x 58 ho B 62 i0 _ 2 16 Tryd.underlying58 hi0 hz0 hz1 hz2 rfl (by omega) v L1.length (flatO L1) hs hown ad L2.length c2 (flatO L2) hx (flatO_length L2) (off_cells hO) (flatO_one L2) (by unfold maxLen; omega) (by omega) hB (fun v' w' h8 h9 _ => h v' w' (by rw [List.length_append, flatO_append]; exact h8) h9)

/-- A list lent: its mark behind it. -/
def LtO (B : Nat) (w : World) (v : Value) (L : List Off) (m : Off) : Prop := ∃ b cap, v = .slice (some ⟨b, 0, none⟩) L.length cap ∧ L.length + 1 ≤ cap ∧ RowT B w b (L ++ [m])

theorem LtO.frm {B : Nat} {S : Nat → Prop} {w w' : World} {v : Value} {L : List Off} {m : Off} (h : LtO B w v L m) (hf : Frm S w w') (hS : ∀ b, S b → (∃ cur, w.heap[b]? = some (.cells cur 62 (0, 0))) → b < B) : LtO B w' v L m := by
  obtain ⟨b, cap, h1, h2, h3⟩ := h
  refine ⟨b, cap, h1, h2, h3.frm hf (fun e => ?_)⟩
  have := hS b e h3.ty
  have := h3.lo
  omega
theorem LtO.low {B C : Nat} {w : World} {v : Value} {L : List Off} {m : Off} (h : LtO B w v L m) (hc : C ≤ B) : LtO C w v L m := by
  obtain ⟨b, cap, h1, h2, h3⟩ := h
  exact ⟨b, cap, h1, h2, h3.own, h3.ty, by have := h3.lo; omega⟩

theorem own_lent {w : World} {B : Nat} {v : Value} {L : List Off} {m : Off} (h : w.ownsRow B 62 2 v (L ++ [m]).length (flatO (L ++ [m]))) : ∃ b cap, v = .slice (some ⟨b, 0, none⟩) (L.length + 1) cap ∧ L.length + 1 ≤ cap ∧ RowT B w b (L ++ [m]) := by
  rcases h.2 with ⟨rfl, h0⟩ | ⟨g, cap, cur, rfl, h3, h4, h5, h6, h7, h8⟩
  · simp at h0
  · refine ⟨g, cap, by simp, by simpa using h5, ⟨fun i hi => ?_, fun j => blk_fz h4 j, blk_lt h4⟩, ⟨_, h4⟩, h3⟩
    obtain ⟨f1, f2⟩ := flatO_get (L ++ [m]) i hi
    have g1 : (cur.toList.take ((L ++ [m]).length * 2))[i * 2]? = (flatO (L ++ [m]))[i * 2]? := by rw [h8]
    have g2 : (cur.toList.take ((L ++ [m]).length * 2))[i * 2 + 1]? = (flatO (L ++ [m]))[i * 2 + 1]? := by rw [h8]
    rw [List.getElem?_take_of_lt (by omega), f1] at g1
    rw [List.getElem?_take_of_lt (by omega), f2] at g2
    exact ⟨blk_cells h4 (by simpa using g1), blk_cells h4 (by simpa using g2)⟩

theorem own_len {w : World} {B : Nat} {e : TypeId} {v : Value} {n : Nat} {V : List Value} (h : w.ownsRow B e 1 v n V) : V.length = n := by have := h.1; omega

theorem grown_none {w w' : World} (h : w.grownBy w' none) : Old w w' := Frm.grown (Frm.refl _ w) h (fun k hk => by cases hk)
theorem grown_own {w0 w w' : World} {v : Value} {L : List Off} (o : Old w0 w) (hv : w.ownsRow w0.heap.size 62 2 v L.length (flatO L)) (h : w.grownBy w' v.ownBlock) : Old w0 w' := by
  have hf : Frm (fun q => v.ownBlock = some q) w w' := Frm.grown (Frm.refl _ w) h (fun k hk => Or.inr hk)
  refine Frm.trans (S := fun _ => False) o hf (fun i hi e => ?_)
  rcases hv.2 with ⟨e2, _⟩ | ⟨q, c, cur, e2, h3, _⟩
  · rw [e2] at e; simp [Value.ownBlock] at e
  · rw [e2] at e
    simp [Value.ownBlock] at e
    omega
theorem own_old2 {w w' : World} {B : Nat} {e : TypeId} {v : Value} {n : Nat} {xs : List Value} (h : w.ownsRow B e 2 v n xs) (o : Old w w') : w'.ownsRow B e 2 v n xs := by
  refine ⟨h.1, ?_⟩
  rcases h.2 with h2 | ⟨g, cap, cur, rfl, h3, h4, h5⟩
  · exact Or.inl h2
  · exact Or.inr ⟨g, cap, cur, rfl, h3, by rw [o.block g (blk_lt h4) (fun h => h)]; exact h4, h5⟩

theorem own_cap {w : World} {B : Nat} {e : TypeId} {a : Option Addr} {n c : Nat} {xs : List Value} (h : w.ownsRow B e 1 (.slice a (n + 1) c) (n + 1) xs) : (n : Int) ≤ (c : Int) ∧ n + 1 ≤ c := by
  rcases h.2 with ⟨_, e0⟩ | ⟨g, cap, cur, e2, h3, h4, h5, _⟩
  · omega
  · simp only [Value.slice.injEq, true_and] at e2
    omega


/-- As it is given: the lists of the first k buyers. -/
structure LY (w wr : World) (xb : Nat) (gd : Int) (s tv : Value) (B : Ins) (k : Nat) : Prop where
  old : Old w wr
  lo : w.heap.size ≤ xb
  x : wr.heap[xb]? = some (.cells #[.int .i64 gd, s] 24 (0, 0))
  r : wr.heap[xb + 1]? = some (.cells #[.int .i64 0, .slice none 0 0] 24 (0, 0))
  y : wr.heap[xb + 1 + 1]? = some (.cells #[.int .i64 gd, tv] 24 (0, 0))
  row : ∃ V : List Value, wr.ownsRow w.heap.size 58 1 tv k V ∧ ∀ i, i < k → LtO w.heap.size wr (V.getD i nilS) (B.getD i []) (77, 0)

/-- A list more: whatever was made and turned on the way. -/
theorem LY.next {w wr w2 : World} {xb : Nat} {gd : Int} {s tv tv' v : Value} {B : Ins} {k : Nat} {V : List Value} (h : LY w wr xb gd s tv B k) (hV : wr.ownsRow w.heap.size 58 1 tv k V) (hVL : ∀ i, i < k → LtO w.heap.size wr (V.getD i nilS) (B.getD i []) (77, 0))
    (hf : Frm (fun q => tv.ownBlock = some q) wr w2) (hown : w2.ownsRow w.heap.size 58 1 tv' (k + 1) (V ++ [v])) (hl : LtO wr.heap.size w2 v (B.getD k []) (77, 0)) : LY w (w2.setCell ⟨xb + 1 + 1, 1, none⟩ tv') xb gd s tv' B (k + 1) := by
  have vt : ∀ q, tv.ownBlock = some q → ∃ cur, wr.heap[q]? = some (.cells cur 58 (0, 0)) := fun q hq => owns_block hV hq
  have hVl := own_len hV
  have hx := (hf.block xb (blk_lt h.x) (fun e => by obtain ⟨cur, hc⟩ := vt _ e; exact typ_ne h.x hc (by decide) rfl)).trans h.x
  have hr := (hf.block (xb + 1) (blk_lt h.r) (fun e => by obtain ⟨cur, hc⟩ := vt _ e; exact typ_ne h.r hc (by decide) rfl)).trans h.r
  have hy := (hf.block (xb + 1 + 1) (blk_lt h.y) (fun e => by obtain ⟨cur, hc⟩ := vt _ e; exact typ_ne h.y hc (by decide) rfl)).trans h.y
  have hs := frm_set w2 (xb + 1 + 1) 1 tv'
  have hold : Old w w2 := Frm.trans (S := fun _ => False) h.old hf (fun i hi e => by
    rcases hV.2 with ⟨e2, _⟩ | ⟨q, c, cur, e2, h3, _⟩
    · rw [e2] at e; simp [Value.ownBlock] at e
    · rw [e2] at e
      simp [Value.ownBlock] at e
      omega)
  refine ⟨Frm.trans (S := fun _ => False) hold hs (fun i hi e => by have := h.lo; omega), h.lo, ?_, ?_, ?_, V ++ [v], ?_, fun i hi => ?_⟩
  · rw [hs.block xb (blk_lt hx) (by omega)]; exact hx
  · rw [hs.block (xb + 1) (blk_lt hr) (by omega)]; exact hr
  · exact heap_set tv' hy
  · refine owns_kept hown (fun q hq => ?_)
    obtain ⟨cur, hc⟩ := owns_block hown hq
    exact hs.block q (blk_lt hc) (fun e => by subst e; exact typ_ne hy hc (by decide) rfl)
  · have hset : ∀ b, b = xb + 1 + 1 → (∃ cur, w2.heap[b]? = some (.cells cur 62 (0, 0))) → b < w.heap.size := fun b e ⟨cur, hc⟩ => by
      subst e
      exact absurd rfl (typ_ne hc hy (by decide))
    by_cases e : i < k
    · have e2 : (V ++ [v]).getD i nilS = V.getD i nilS := by simp [List.getD_eq_getElem?_getD, List.getElem?_append_left (show i < V.length by omega)]
      rw [e2]
      exact ((hVL i e).frm hf (fun b e1 ⟨cur, hc⟩ => by obtain ⟨cur', hc'⟩ := vt b e1; exact absurd rfl (typ_ne hc hc' (by decide)))).frm hs hset
    · have e3 : i = k := by omega
      subst e3
      have e2 : (V ++ [v]).getD i nilS = v := by simp [List.getD_eq_getElem?_getD, ← hVl]
      rw [e2]
      exact (hl.low h.old.size).frm hs hset

theorem LY.olds {w wr w2 : World} {xb : Nat} {gd : Int} {s tv : Value} {B : Ins} {k : Nat} (h : LY w wr xb gd s tv B k) (o : Old wr w2) : LY w w2 xb gd s tv B k := by
  obtain ⟨V, h1, h2⟩ := h.row
  exact ⟨h.old.trans o, h.lo, by rw [o.block xb (blk_lt h.x) (fun h => h)]; exact h.x, by rw [o.block (xb + 1) (blk_lt h.r) (fun h => h)]; exact h.r, by rw [o.block (xb + 1 + 1) (blk_lt h.y) (fun h => h)]; exact h.y, V, owns_kept h1 (fun q hq => by obtain ⟨cur, hc⟩ := owns_block h1 hq; exact o.block q (blk_lt hc) (fun h => h)), fun i hi => (h2 i hi).frm o (fun b e => e.elim)⟩

/-- An instance's lists given. -/
def GivI (lo : Nat) (w : World) (v : Value) (B : Ins) : Prop := ∃ V : List Value, w.ownsRow lo 58 1 v B.length V ∧ ∀ i, i < B.length → LtO lo w (V.getD i nilS) (B.getD i []) (77, 0)
end Go.Proofs.YtidocjgcckcooaaDoor
