/- All's iterator, beside a row that its consumer grows: walked. -/
import Derived.Test.YthibbenkibjghaaA9
import Derived.Test.YthibbenkibjghaaRT
import Derived.Maps.OwnIn
namespace Go.Proofs.Ythibbenkibjghaa
open Go.RowKit Go.Lib Go.Shelf Go.Maps
attribute [local go_sem] Oper.semAt_some

/-- Blocks of cells are kept, but for those of Row; those are of before, or new. -/
def KeptR (Row : World → Nat → Prop) (X Y : World) : Prop := (∀ k o, ¬ Row X k → X.heap[k]? = some o → o.isCells = true → Y.heap[k]? = some o) ∧ (∀ k, Row Y k → Row X k ∨ X.heap.size ≤ k) ∧ X.heap.size ≤ Y.heap.size
theorem KeptR.refl (Row : World → Nat → Prop) (X : World) : KeptR Row X X := ⟨fun _ _ _ h _ => h, fun _ h => .inl h, Nat.le_refl _⟩
theorem KeptR.trans {Row : World → Nat → Prop} {A B C : World} (h : KeptR Row A B) (k : KeptR Row B C) : KeptR Row A C := by
  refine ⟨fun i o hn hi ho => ?_, fun i hr => ?_, Nat.le_trans h.2.2 k.2.2⟩
  · have hlt := (Array.getElem?_eq_some_iff.1 hi).1
    exact k.1 i o (fun hr => by rcases h.2.1 i hr with h1 | h1; exact hn h1; omega) (h.1 i o hn hi ho) ho
  · rcases k.2.1 i hr with h1 | h1
    · exact h.2.1 i h1
    · exact .inr (Nat.le_trans h.2.2 h1)
theorem KeptR.cell {Row : World → Nat → Prop} {X Y : World} (h : KeptR Row X Y) {p : Addr} {v : Value} (ht : ¬ Row X p.block) (hc : X.cell? p = some v) : Y.cell? p = some v := by
  have hg : p.block < X.heap.size := World.block_lt_of_cell? X _ hc
  obtain ⟨o, ho⟩ : ∃ o, X.heap[p.block]? = some o := ⟨_, Array.getElem?_eq_getElem hg⟩
  have hcell : o.isCells = true := by
    cases o <;> simp [World.cell?, ho] at hc ⊢
    all_goals rfl
  rw [← hc]
  exact World.cell?_of_block ((h.1 _ _ ht ho hcell).trans ho.symm)
theorem keptR_sec {Row : World → Nat → Prop} {X Y : World} {ao : Option Addr} {L : List Hd} (h : HdC X ao L) (hk : KeptR Row X Y) (ht : ∀ ad, ao = some ad → ¬ Row X ad.block) : HdC Y ao L := by
  intro i hi
  obtain ⟨g, o, rfl, h1, h2⟩ := h i hi
  have hs := ht _ rfl
  exact ⟨g, o, rfl, hk.cell (show ¬ Row X (⟨g, o + i * 2, none⟩ : Addr).block from hs) h1, hk.cell (show ¬ Row X (⟨g, o + i * 2 + 1, none⟩ : Addr).block from hs) h2⟩

/-- A list that is none of Row's. -/
def OffR (Row : World → Nat → Prop) (X : World) (ao : Option Addr) : Prop := ∀ ad, ao = some ad → ¬ Row X ad.block ∧ ad.block < X.heap.size
theorem OffR.kept {Row : World → Nat → Prop} {X Y : World} {ao : Option Addr} (h : OffR Row X ao) (k : KeptR Row X Y) : OffR Row Y ao := fun ad e => by
  obtain ⟨h1, h2⟩ := h ad e
  refine ⟨fun hr => ?_, Nat.lt_of_lt_of_le h2 k.2.2⟩
  rcases k.2.1 _ hr with h3 | h3
  · exact h1 h3
  · omega

set_option maxRecDepth 100000 in
set_option maxHeartbeats 8000000 in
theorem all1_R (d : Nat) (hd : 1 ≤ d) (lp cb pb bi bm n0 : Nat) (bud sp : Int) (Row : World → Nat → Prop) (L : List Hd) (hok : OkR L) (hl : L.length ≤ 1099511627776)
    (hRow : ∀ X Y k, n0 ≤ X.heap.size → Old X Y → Row Y k → Row X k) (J Jx : List Hd → World → Prop) (W : World)
    (hY : ∀ p x X, J p X → (∃ k, k ≤ L.length ∧ p ++ [x] = L.take k) → YieldAt Fence.wide (d - 1) Try.prog lp (encH x) X fun e Y => KeepsFrom W.heap.size X Y ∧ ((e = .returned (.bool true) ∧ J (p ++ [x]) Y ∧ KeptR Row X Y) ∨ (e = .returned (.bool false) ∧ Jx (p ++ [x]) Y)))
    (hn0 : n0 ≤ W.heap.size) (hc : W.cell? ⟨cb, 0, none⟩ = some (.pointer (some ⟨pb, 0, none⟩))) (hB : Acc W pb bi bm bud sp L)
    (hRi : ∀ p X, J p X → ∀ k, Row X k → k < X.heap.size) (hJ : ∀ p X Y, J p X → Old X Y → J p Y) (h0 : J [] W) :
    CallsIn Fence.wide d Try.prog 54 #[.func (.yield lp) #[] #[], .pointer (some ⟨cb, 0, none⟩)] W fun e Y => (∃ v, e = .returned v) ∧
      ((∃ q, q = L ∧ J q Y) ∨ (∃ p, (∃ k, k ≤ L.length ∧ p = L.take k) ∧ Jx p Y)) := by
  have q0 := blk_cell hB.a
  have kM := hid (isMade_any pb bi W q0)
  have kC := hid (list_any bi bm bud sp L W hB.ins hok hl)
  have kR := hid hRow
  have kRi := hid hRi
  clear hRow hB hok hRi
  refine callsIn_of_wp Try.func54 rfl trivial ?_ rfl
  simp only [Try.ntmps54, List.size_toArray, List.length_cons, List.length_nil, Nat.reduceAdd, Nat.reduceSub, Array.replicate_succ, Array.replicate_zero, List.push_toArray, List.append_toArray, List.nil_append, List.cons_append]
  gi_wp2_with fail
  refine ⟨trivial, ?_⟩
  refine (callsIn_wide.2 kM.out).mono ?_
  rintro e w1 ⟨rfl, e2⟩
  rw [e2]
  clear e2
  gi_wp2_with fail
  refine ⟨trivial, ?_⟩
  refine (callsIn_wide.2 kC.out).mono ?_
  rintro e w2 ⟨v2, rfl, r2, o2⟩
  obtain ⟨a2, c2, rfl, hS2, -⟩ := (owns_new r2).off
  have hJ2 : Hid (J (L.take 0) w2) := by rw [List.take_zero]; exact hJ _ _ _ h0 o2
  have kS2 := hid hS2
  have ha2 : Hid (OffR Row w2 a2) := fun ad e => by
    have h2 := r2.lt ad.block (by
      rcases r2.2 with ⟨e3, _⟩ | ⟨g, cap', cur, e3, _⟩
      · rw [e] at e3; cases e3
      · rw [e] at e3
        simp only [Value.slice.injEq, Option.some.injEq] at e3
        rw [e, e3.1]
        rfl)
    refine ⟨fun hr => ?_, h2.2⟩
    have h3 := kRi.out _ _ h0 _ (kR.out _ _ _ hn0 o2 hr)
    have h4 := h2.1
    omega
  have kn2 : Hid (n0 ≤ w2.heap.size) := Nat.le_trans hn0 o2.size
  clear o2 r2 hS2 kC kM h0 q0 hc hn0
  gi_wp2_with fail
  gi_loopw [4, 14] (fun _ i wr => ∃ k : Nat, k ≤ L.length ∧ i = .int .i64 (k : Int) ∧ Hid (J (L.take k) wr) ∧ Hid (HdC wr a2 L) ∧ Hid (OffR Row wr a2) ∧ Hid (n0 ≤ wr.heap.size)) (fun _ i _ => L.length - (intOf i).toNat)
  case atStart => exact ⟨0, Nat.zero_le _, rfl, hJ2, kS2, ha2, kn2⟩
  case round =>
    clear hJ2 kS2 ha2 kn2
    obtain ⟨k, hk, rfl, hJk, hSk, hOk, hnk⟩ := hrel
    by_cases hlt : k < L.length
    · have hlt' : (k : Int) < (L.length : Int) := by omega
      obtain ⟨g, o, rfl, d1, d2⟩ := hSk.out k hlt
      have hes := hid (take_snoc hlt)
      obtain ⟨x, hx⟩ : ∃ x, L[k] = x := ⟨_, rfl⟩
      rw [hx] at d1 d2 hes
      obtain ⟨xb, xc⟩ := x
      dsimp only at d1 d2
      have n0' := new_cell wr #[.int .i64 xb, .int .i64 xc] 27 0 (.int .i64 xb) rfl
      have n1' := new_cell wr #[.int .i64 xb, .int .i64 xc] 27 1 (.int .i64 xc) rfl
      have oA : Old wr (wr.alloc (.cells #[.int .i64 xb, .int .i64 xc] 27)) := (Old.refl wr).alloc _
      have hSA := hid (hSk.out.old oA)
      have hOA : Hid (OffR Row (wr.alloc (.cells #[.int .i64 xb, .int .i64 xc] 27)) (some ⟨g, o, none⟩)) := fun ad e => by
        obtain ⟨h1, h2⟩ := hOk.out ad e
        exact ⟨fun hr => h1 (kR.out _ _ _ hnk.out oA hr), Nat.lt_of_lt_of_le h2 oA.size⟩
      have hnA : Hid (n0 ≤ (wr.alloc (.cells #[.int .i64 xb, .int .i64 xc] 27)).heap.size) := Nat.le_trans hnk.out oA.size
      obtain ⟨fn, tmps, assign, body, hy, hR⟩ := hY _ (xb, xc) _ (hJ _ _ _ hJk.out oA) ⟨k + 1, by omega, hes.out⟩
      simp only [encH] at hy
      clear oA hx hJk hSk hOk hnk
      gi_wp2
      refine hR.mono ?_
      rintro e W3 ⟨-, (⟨rfl, hJ3, hk3⟩ | ⟨rfl, hJx3⟩)⟩
      · have kk3 := hid hk3
        have kJ3 := hid hJ3
        clear hk3 hJ3
        gi_wp2
        go_roundw
        case rel => exact ⟨k + 1, by omega, by go_num, hid (by rw [← hes.out]; exact kJ3.out), hid (keptR_sec hSA.out kk3.out (fun ad e => (hOA.out ad e).1)), hid (hOA.out.kept kk3.out), hid (Nat.le_trans hnA.out kk3.out.2.2)⟩
        case measure => simp [intOf]; omega
      · gi_wp2
        refine bodyPost_ret (results_none rfl _ _ _) rfl ?_
        exact ⟨⟨_, rfl⟩, .inr ⟨_, ⟨k + 1, by omega, hes.out⟩, hJx3⟩⟩
    · obtain rfl : k = L.length := by omega
      gi_wp2
      go_end0
      exact ⟨⟨_, rfl⟩, .inl ⟨_, rfl, by have := hJk.out; rwa [List.take_length] at this⟩⟩

/-- All, as a function over which one ranges. -/
theorem all_T (d : Nat) (hd : 1 ≤ d) (cb pb bi bm : Nat) (bud sp : Int) (Row : World → Nat → Prop) (L : List Hd) (w : World) (hok : OkR L) (hl : L.length ≤ 1099511627776) (hRow : ∀ X Y k, w.heap.size ≤ X.heap.size → Old X Y → Row Y k → Row X k)
    (hc : w.cell? ⟨cb, 0, none⟩ = some (.pointer (some ⟨pb, 0, none⟩))) (hB : Acc w pb bi bm bud sp L) :
    SeqT (fun X => ∀ k, Row X k → k < X.heap.size) Try.prog d 54 #[.pointer (some ⟨cb, 0, none⟩)] encH (KeptR Row) (fun q => ∃ k, k ≤ L.length ∧ q = L.take k) (fun q => q = L) (fun q => ∃ k, k ≤ L.length ∧ q = L.take k) w := by
  intro lp J Jx W hbe hRi hJ hJx hY h0
  have hold : Old w W := Old.of_below hbe
  exact all1_R d hd lp cb pb bi bm w.heap.size bud sp Row L hok hl hRow J Jx W hY hold.size (hold.cell hc) (hB.old hold) hRi hJ h0

/-- A row of held coins in new memory, appended to inside a fence. -/
theorem wpAppSI {F : Fence} {nf : Nat} {ops : Array Oper} {rest : List Oper} {o : Oper} {a : Act} {Q : Exit → Act → World → Prop} {w : World} (hgd : o.guard = none) (s x : Operand) (ho : o.op = .call { callee := .builtin .append, args := #[s, x], argTypes := #[22, 22] })
    (B : Nat) (v : Value) (ad : Addr) (c2 : Nat) (L1 L2 : List Hd) (hs : a.eval s = v) (hx : a.eval x = .slice (some ad) L2.length c2) (hown : w.ownsRow B 27 2 v L1.length (flatS L1)) (hO : HdC w (some ad) L2) (hl : L1.length + L2.length ≤ 8796093022208) (hB : B ≤ w.heap.size)
    (h : ∀ v' w', w'.ownsRow B 27 2 v' (L1 ++ L2).length (flatS (L1 ++ L2)) → w.grownBy w' v.ownBlock → (v'.ownBlock = v.ownBlock ∨ v'.ownBlock = some w.heap.size) → wpListIn F nf Try.prog ops Q rest (a.put o.dst v') w') : wpListIn F nf Try.prog ops Q (o :: rest) a w := by
  obtain ⟨i0, hi0, hz0, hz1, hz2⟩ := parts_s
  exact wpListIn_append_own_at _ hgd s x 22 ho B 27 i0 _ 2 16 Try.underlying22 hi0 hz0 hz1 hz2 rfl (by omega) v L1.length (flatS L1) hs hown ad L2.length c2 (flatS L2) hx (flatS_length L2) (off_cells hO) (flatS_one L2) (by unfold maxLen; omega) (by omega) hB (fun v' w' h8 h9 _ h10 => h v' w' (by rw [List.length_append, flatS_append]; exact h8) h9 h10)
end Go.Proofs.Ythibbenkibjghaa
