/- What CallClears has in memory: a call in a box, its rows, and what is appended. -/
import Derived.Test.YtccbmmbcfcppeaaLF
import Derived.Test.YtccbmmbcfcppeaaF1
import Derived.Test.YtccbmmbcfcppeaaR8
import Derived.Test.YtccbmmbcfcppeaaR10
namespace Go.Proofs.Ytccbmmbcfcppeaa
open Go.RowKit

/-- A row of numbers in new memory, or none. -/
def RowO (X : World) (N : Nat) (vo : Option Addr) (G : List Int) : Prop := (vo = none ∧ G = []) ∨ ∃ b, vo = some ⟨b, 0, none⟩ ∧ N ≤ b ∧ Own .i64 3 X b G
theorem RowO.frm {S : Nat → Prop} {X Y : World} {N : Nat} {vo : Option Addr} {G : List Int} (h : RowO X N vo G) (f : Frm S X Y) (hS : ∀ ad, vo = some ad → ¬ S ad.block) : RowO Y N vo G := by
  rcases h with h | ⟨b, e, hb, ow⟩
  · exact Or.inl h
  · exact Or.inr ⟨b, e, hb, ow.kept f (hS _ e)⟩
theorem RowO.nums {X : World} {N : Nat} {vo : Option Addr} {G : List Int} (h : RowO X N vo G) : NumsC .i64 X vo G := by
  rcases h with ⟨rfl, rfl⟩ | ⟨b, rfl, hb, ow⟩
  · intro i hi
    simp at hi
  · exact ow.nums
theorem RowO.lt {X : World} {N : Nat} {vo : Option Addr} {G : List Int} (h : RowO X N vo G) {ad : Addr} (e : vo = some ad) : N ≤ ad.block ∧ ad.block < X.heap.size := by
  rcases h with ⟨rfl, rfl⟩ | ⟨b, rfl, hb, ow⟩
  · cases e
  · cases e
    exact ⟨hb, ow.lt⟩

/-- What Clear answers, of wants that may be and of others. -/
def CalA (w w' : World) (p t l h : Int) (G H : List Int) (e : Ending) (er : Int) : Prop := ∃ xo yo, e = .returned (.tuple #[calV p t l h xo yo G.length G.length H.length H.length, .int .i64 er]) ∧ RowO w' w.heap.size xo G ∧ RowO w' w.heap.size yo H ∧ ∀ ad ad', xo = some ad → yo = some ad' → ad.block ≠ ad'.block
theorem CalP.A {w w' : World} {p t l h : Int} {G H : List Int} {e : Ending} {er : Int} (c : CalP w w' p t l h G H e er) : CalA w w' p t l h G H e er := by
  obtain ⟨bb, sb, e1, o1, o2, l1, l2, hne⟩ := c
  refine ⟨_, _, e1, Or.inr ⟨bb, rfl, l1, o1⟩, Or.inr ⟨sb, rfl, l2, o2⟩, fun ad ad' x y => ?_⟩
  cases x
  cases y
  exact hne

theorem clear_all (L M : List Wt) (h1 : L.length ≤ 9223372036854775807) (h2 : M.length ≤ 9223372036854775807) : ∃ p t l h G H, G.length ≤ 1048576 ∧ H.length ≤ 1048576 ∧
    (∀ (ao bo : Option Addr) (ca cb : Nat) (w : World), WC w ao L → WC w bo M → Calls Try.prog 8 #[.slice ao L.length ca, .slice bo M.length cb] w fun e w' => CalA w w' p t l h G H e (chZ L M) ∧ Old w w') ∧
    (∀ (ao bo : Option Addr) (ca cb : Nat) (w : World), WC w ao L → WC w bo M → Calls Try.prog 9 #[.slice ao L.length ca, .slice bo M.length cb] w fun e w' => CalA w w' p t l h G H e (chZ L M) ∧ Old w w') := by
  by_cases hc : chZ L M = 0
  · obtain ⟨oL, oM⟩ := chZ_ok hc
    have hfL := oL.few
    have hfM := oM.few
    refine ⟨_, _, _, _, _, _, ?_, ?_, fun ao bo ca cb w hL hM => ((clear_good ao bo ca cb L M w hL hM hc).mono fun e w' h => ⟨by rw [hc]; exact h.1.A, h.2⟩), fun ao bo ca cb w hL hM => ((rclear_good ao bo ca cb L M w hL hM hc).mono fun e w' h => ⟨by rw [hc]; exact h.1.A, h.2⟩)⟩
    · rw [dl_len]; omega
    · rw [dl_len]; omega
  · have bad : ∀ {w w' : World} {e : Ending}, e = .returned (.tuple #[calV 0 0 0 0 none none 0 0 0 0, .int .i64 (chZ L M)]) ∧ Old w w' → CalA w w' 0 0 0 0 [] [] e (chZ L M) ∧ Old w w' := fun h => ⟨⟨none, none, h.1, Or.inl ⟨rfl, rfl⟩, Or.inl ⟨rfl, rfl⟩, fun ad ad' x => by cases x⟩, h.2⟩
    exact ⟨0, 0, 0, 0, [], [], by simp, by simp, fun ao bo ca cb w hL hM => ((clear_bad ao bo ca cb L M w hL hM h1 h2 hc).mono fun e w' h => bad h), fun ao bo ca cb w hL hM => ((rclear_bad ao bo ca cb L M w hL hM h1 h2 hc).mono fun e w' h => bad h)⟩

/-- A call in a box. -/
structure CB (N k : Nat) (xo yo : Option Addr) (p t l h : Int) (G H : List Int) (X : World) : Prop where
  box : X.heap[k]? = some (.cells #[.int .i64 p, .int .i64 t, .int .i64 l, .int .i64 h, .slice xo G.length G.length, .slice yo H.length H.length] 28 (0, 0))
  r1 : RowO X N xo G
  r2 : RowO X N yo H
  d1 : ∀ ad, xo = some ad → ad.block < k
  d2 : ∀ ad, yo = some ad → ad.block < k
  d3 : ∀ ad ad', xo = some ad → yo = some ad' → ad.block ≠ ad'.block
  lo : N ≤ k
theorem CB.new {w' : World} {N : Nat} {xo yo : Option Addr} {p t l h : Int} {G H : List Int} (r1 : RowO w' N xo G) (r2 : RowO w' N yo H) (d3 : ∀ ad ad', xo = some ad → yo = some ad' → ad.block ≠ ad'.block) (hN : N ≤ w'.heap.size) :
    CB N w'.heap.size xo yo p t l h G H (w'.alloc (.cells #[.int .i64 p, .int .i64 t, .int .i64 l, .int .i64 h, .slice xo G.length G.length, .slice yo H.length H.length] 28)) :=
  have oA : Old w' (w'.alloc (.cells #[.int .i64 p, .int .i64 t, .int .i64 l, .int .i64 h, .slice xo G.length G.length, .slice yo H.length H.length] 28)) := (Old.refl w').alloc _
  ⟨heap_new w' _, r1.frm oA (fun _ _ h => h), r2.frm oA (fun _ _ h => h), fun _ e => (r1.lt e).2, fun _ e => (r2.lt e).2, d3, hN⟩
theorem CB.frm {S : Nat → Prop} {N k : Nat} {xo yo : Option Addr} {p t l h : Int} {G H : List Int} {X Y : World} (c : CB N k xo yo p t l h G H X) (f : Frm S X Y) (hS : ∀ j, S j → j < N) : CB N k xo yo p t l h G H Y :=
  ⟨blk_frm c.box f (fun e => by have := hS _ e; have := c.lo; omega), c.r1.frm f (fun _ e s => by have := hS _ s; have := (c.r1.lt e).1; omega), c.r2.frm f (fun _ e s => by have := hS _ s; have := (c.r2.lt e).1; omega), c.d1, c.d2, c.d3, c.lo⟩
theorem CB.old {N k : Nat} {xo yo : Option Addr} {p t l h : Int} {G H : List Int} {X Y : World} (c : CB N k xo yo p t l h G H X) (f : Old X Y) : CB N k xo yo p t l h G H Y := c.frm f (fun _ h => h.elim)

/-- Wants lent, and what came in. -/
structure LS (w : World) (ao bo : Option Addr) (L M : List Wt) (b1 b2 : Nat) (X : World) : Prop where
  wl : WC X ao L
  wm : WC X bo M
  ob : OwnW X b1 (L ++ [(771, 0)])
  os : OwnW X b2 (M ++ [(771, 0)])
  old : Old w X
theorem LS.mv {w : World} {ao bo : Option Addr} {L M : List Wt} {b1 b2 : Nat} {X Y : World} (h : LS w ao bo L M b1 b2 X) (f : Old X Y) : LS w ao bo L M b1 b2 Y := ⟨h.wl.old f, h.wm.old f, h.ob.old f, h.os.old f, h.old.trans f⟩

/-- While what was answered is written over. -/
structure LI (N k : Nat) (xo yo : Option Addr) (p t l h : Int) (n m : Nat) (X0 X : World) : Prop where
  c : ∃ G H : List Int, G.length = n ∧ H.length = m ∧ CB N k xo yo p t l h G H X
  f : Frm (fun j => N ≤ j ∧ j ≤ k) X0 X
theorem LI.start {N k : Nat} {xo yo : Option Addr} {p t l h : Int} {G H : List Int} {X : World} (c : CB N k xo yo p t l h G H X) : LI N k xo yo p t l h G.length H.length X X := ⟨⟨G, H, rfl, rfl, c⟩, Frm.refl _ _⟩
theorem LI.cell {N k : Nat} {xo yo : Option Addr} {p t l h : Int} {n m : Nat} {X0 X : World} (i : LI N k xo yo p t l h n m X0 X) : X.cell? ⟨k, 4, none⟩ = some (.slice xo n n) ∧ X.cell? ⟨k, 5, none⟩ = some (.slice yo m m) ∧ ∀ j, X.frozen? ⟨k, j, none⟩ = false := by
  obtain ⟨G, H, rfl, rfl, c⟩ := i.c
  exact ⟨blk_cells c.box rfl, blk_cells c.box rfl, fun j => blk_fz c.box j⟩
theorem LI.one {N k : Nat} {xo yo : Option Addr} {p t l h : Int} {n m : Nat} {X0 X : World} (i : LI N k xo yo p t l h n m X0 X) {q : Nat} (hq : q < n) : ∃ b, xo = some ⟨b, 0, none⟩ ∧ (∃ v : Int, X.cell? ⟨b, q, none⟩ = some (.int .i64 v)) ∧ X.frozen? ⟨b, q, none⟩ = false ∧ LI N k xo yo p t l h n m X0 (X.setCell ⟨b, q, none⟩ (.int .i64 (-9))) := by
  obtain ⟨G, H, rfl, rfl, c⟩ := i.c
  rcases c.r1 with ⟨-, e⟩ | ⟨b, e, hb, ow⟩
  · subst e
    simp at hq
  · have f := frm_set X b q (.int .i64 (-9))
    have hk := c.d1 _ e
    dsimp only at hk
    refine ⟨b, e, ⟨G[q], ?_⟩, blk_fz ow.blk q, ⟨G.set q (-9), H, by simp, rfl, ?_, ?_, ?_, c.d1, c.d2, c.d3, c.lo⟩, ?_⟩
    · exact blk_cells ow.blk (by simp [hq])
    · rw [List.length_set]
      exact blk_frm c.box f (by omega)
    · exact Or.inr ⟨b, e, hb, ow.set q _⟩
    · refine c.r2.frm f (fun ad e2 s => ?_)
      have := c.d3 _ _ e e2
      dsimp only at this
      omega
    · exact Frm.trans i.f (Frm.mono f (fun j _ hj => by subst hj; exact ⟨hb, by omega⟩)) (fun _ _ h => h)
theorem LI.two {N k : Nat} {xo yo : Option Addr} {p t l h : Int} {n m : Nat} {X0 X : World} (i : LI N k xo yo p t l h n m X0 X) {q : Nat} (hq : q < m) : ∃ b, yo = some ⟨b, 0, none⟩ ∧ (∃ v : Int, X.cell? ⟨b, q, none⟩ = some (.int .i64 v)) ∧ X.frozen? ⟨b, q, none⟩ = false ∧ LI N k xo yo p t l h n m X0 (X.setCell ⟨b, q, none⟩ (.int .i64 (-9))) := by
  obtain ⟨G, H, rfl, rfl, c⟩ := i.c
  rcases c.r2 with ⟨-, e⟩ | ⟨b, e, hb, ow⟩
  · subst e
    simp at hq
  · have f := frm_set X b q (.int .i64 (-9))
    have hk := c.d2 _ e
    dsimp only at hk
    refine ⟨b, e, ⟨H[q], ?_⟩, blk_fz ow.blk q, ⟨G, H.set q (-9), rfl, by simp, ?_, ?_, ?_, c.d1, c.d2, c.d3, c.lo⟩, ?_⟩
    · exact blk_cells ow.blk (by simp [hq])
    · rw [List.length_set]
      exact blk_frm c.box f (by omega)
    · refine c.r1.frm f (fun ad e2 s => ?_)
      have := c.d3 _ _ e2 e
      dsimp only at this
      omega
    · exact Or.inr ⟨b, e, hb, ow.set q _⟩
    · exact Frm.trans i.f (Frm.mono f (fun j _ hj => by subst hj; exact ⟨hb, by omega⟩)) (fun _ _ h => h)
theorem LI.row {N k : Nat} {xo yo : Option Addr} {p t l h : Int} {n m : Nat} {X0 X : World} (i : LI N k xo yo p t l h n m X0 X) (hn : n ≤ 1048576) : ∃ G : List Int, G.length = n ∧ X.ownsRow N 3 1 (.slice xo n n) n (G.map (Value.int .i64)) ∧ ∀ q, (Value.slice xo n n).ownBlock = some q → N ≤ q ∧ q < k := by
  obtain ⟨G, H, rfl, rfl, c⟩ := i.c
  rcases c.r1 with ⟨rfl, rfl⟩ | ⟨b, rfl, hb, ow⟩
  · exact ⟨[], rfl, ⟨rfl, Or.inl ⟨rfl, rfl⟩⟩, fun q hq => by simp [Value.ownBlock] at hq⟩
  · have hk := c.d1 _ rfl
    dsimp only at hk
    refine ⟨G, rfl, ⟨by simp, Or.inr ⟨b, G.length, (G.map (Value.int .i64)).toArray, rfl, hb, ow.blk, Nat.le_refl _, by unfold maxLen; omega, by simp, by simp [List.take_of_length_le]⟩⟩, fun q hq => ?_⟩
    simp [Value.ownBlock] at hq
    omega

/-- A number appended to a row that one owns. -/
theorem wpAppN {ops : Array Oper} {rest : List Oper} {o : Oper} {a : Act} {Q : Exit → Act → World → Prop} {w : World} (hgd : o.guard = none) (s x : Operand) (ho : o.op = .call { callee := .builtin .append, args := #[s, x], argTypes := #[26, 26] })
    (B : Nat) (v : Value) (ad : Addr) (c2 : Nat) (L1 : List Int) (n1 : Nat) (hn1 : L1.length = n1) (z : Int) (hs : a.eval s = v) (hx : a.eval x = .slice (some ad) 1 c2) (hown : w.ownsRow B 3 1 v n1 (L1.map (Value.int .i64))) (hO : NumsC .i64 w (some ad) [z]) (hl : n1 ≤ 1048576) (hB : B ≤ w.heap.size)
    (h : ∀ ao' n' cap' w', 0 < n' → w.grownBy w' v.ownBlock → wpList Try.prog ops Q rest (a.put o.dst (.slice ao' n' cap')) w') : wpList Try.prog ops Q (o :: rest) a w := by
  obtain ⟨i0, hi0, hz0, hz1, hz2⟩ := parts_i
  subst hn1
  refine wpList_append_own _ hgd s x 26 ho B 3 i0 _ 1 8 Try.underlying26 hi0 hz0 hz1 hz2 rfl (by omega) v L1.length (L1.map (Value.int .i64)) hs hown ad 1 c2 ([z].map (Value.int .i64)) hx (by simp) (num_cells hO) (ints_one [z]) (by unfold maxLen; omega) (by omega) hB (fun v' w' h8 h9 _ => ?_)
  rcases h8.2 with ⟨rfl, h0⟩ | ⟨g, cap, cur, rfl, _⟩
  · omega
  · exact h _ _ cap w' (by omega) h9
theorem owns_keptI {w w' : World} {B : Nat} {v : Value} {n : Nat} {xs : List Value} (h : w.ownsRow B 3 1 v n xs) (o : Old w w') : w'.ownsRow B 3 1 v n xs := by
  refine ⟨h.1, ?_⟩
  rcases h.2 with h2 | ⟨g, cap, cur, rfl, h3, h4, h5⟩
  · exact Or.inl h2
  · exact Or.inr ⟨g, cap, cur, rfl, h3, blk_frm h4 o (fun h => h), h5⟩
end Go.Proofs.Ytccbmmbcfcppeaa
