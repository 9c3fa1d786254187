/- Cells beside one another, told apart by tags. -/
import Derived.Test.YtpnnfkgnkalhlaaP1
import Derived.Test.YtpnnfkgnkalhlaaK50
import Derived.Laws.Pointers
import Derived.Maps.OwnSet
import Derived.Maps.AppendAt
import Derived.RegionCalls
import Derived.BigQuiet
namespace Go.Proofs.Ytpnnfkgnkalhlaa
open Go.RowKit Go.Lib Go.Maps

/-- The best, and where what was offered lies. -/
structure BestP (w : World) (mb nb : Nat) (p : Option Addr) (o : Option (Int × Int)) : Prop where
  ptr : w.cell? ⟨mb, 0, none⟩ = some (.pointer (some ⟨nb, 0, none⟩))
  num : ∃ t, w.heap[nb]? = some (.cells #[.pointer p] t (0, 0))
  ov : OffV w p o
  ne : nb ≠ mb
theorem BestP.s {w : World} {mb nb : Nat} {p : Option Addr} {o : Option (Int × Int)} (h : BestP w mb nb p o) : BestS w mb nb o := by
  obtain ⟨t, ht⟩ := h.num
  exact ⟨h.ptr, ⟨t, p, ht, h.ov⟩, h.ne⟩

set_option maxRecDepth 100000 in
theorem best_offerP (mb nb : Nat) (p : Option Addr) (who x : Int) (o : Option (Int × Int)) (w : World) (h : BestP w mb nb p o) :
    Calls Try.prog 30 #[.pointer (some ⟨mb, 0, none⟩), .int .i64 who, .int .i64 x] w fun e w' => e = .returned (.bool (takesIt who x o)) ∧ Frm (fun k => k = nb) w w' ∧ ∃ p', BestP w' mb nb p' (if takesIt who x o then some (who, x) else o) ∧ (p' = p ∨ ∃ b, p' = some ⟨b, 0, none⟩ ∧ w.heap.size ≤ b ∧ b < w'.heap.size) := by
  obtain ⟨y, hy⟩ : ∃ y, takesIt who x o = y := ⟨_, rfl⟩
  rw [hy]
  obtain ⟨m, hm⟩ : ∃ m, (if y then some (who, x) else o) = m := ⟨_, rfl⟩
  rw [hm]
  have ky := hid hy
  have km := hid hm
  clear hy hm
  obtain ⟨t, h3⟩ := h.num
  have hp := h.ov
  have h2 := h.ptr
  have hne := h.ne
  have l2 := World.block_lt_of_cell? w _ h2
  have l3 : nb < w.heap.size := (Array.getElem?_eq_some_iff.1 h3).1
  simp only at l2
  have k3 := hid h3
  have k2 := hid h2
  have kp := hid hp
  clear h h3 hp
  have kR := hid (best_offering (some ⟨mb, 0, none⟩) who x w)
  go_enter Try.func30, Try.ntmps30
  go_wp2_with (go_at_call 53; refine kR.out.mono ?_; rintro e w1 ⟨rfl, o1, ⟨t1, a1⟩, ⟨t2, a2⟩, a3, a4, ⟨t5, a5⟩, a6⟩; clear kR)
  have hp1 := kp.out.frm o1 (fun _ _ h => h)
  refine (offer_whole w.heap.size (w.heap.size + 2) (w.heap.size + 1) (w.heap.size + 4) (w.heap.size + 3) mb nb who x p o t w1 (cell_of a1) (o1.cell h2) ((o1.block nb l3 (fun h => h)).trans k3.out) hp1 (cell_of a2) (cell_of a5) a4 a3 (by omega) hne (by omega) (by omega) (by omega) (by omega) (by omega) (by omega) (by omega) (by omega) (by omega)).mono ?_
  rintro e w2 ⟨rfl, f2, b2⟩
  have fz : Frm (fun k => k = nb) w w2 := Frm.trans (Frm.mono o1 (fun _ _ h => h.elim)) f2 (fun k hk h => by omega)
  have hO : OffV w2 (if takesIt who x o then some ⟨w.heap.size + 3, 0, none⟩ else p) m := by
    rw [ky.out, ← km.out]
    cases y with
    | true => exact ⟨_, rfl, (f2.block _ (by omega) (by omega)).trans a4⟩
    | false => exact kp.out.frm fz (fun a ha e => kp.out.ne k3.out a ha e)
  have hP : (if takesIt who x o then some (⟨w.heap.size + 3, 0, none⟩ : Addr) else p) = p ∨ ∃ b, (if takesIt who x o then some (⟨w.heap.size + 3, 0, none⟩ : Addr) else p) = some ⟨b, 0, none⟩ ∧ w.heap.size ≤ b ∧ b < w2.heap.size := by
    rw [ky.out]
    cases y with
    | true => exact Or.inr ⟨w.heap.size + 3, rfl, by omega, by have := f2.size; have := (Array.getElem?_eq_some_iff.1 a4).1; omega⟩
    | false => exact Or.inl rfl
  have kP := hid hP
  clear hP
  have kf := hid fz
  have kb := hid b2
  have kO := hid hO
  rw [ky.out]
  clear o1 a1 a2 a3 a4 a5 a6 f2 b2 h2 hp1 fz hO
  unfold ans
  go_wp2
  rw [field_yes]
  go_wp2
  go_ret

  exact ⟨rfl, kf.out, _, ⟨frm_cell kf.out k2.out (by simp only; omega), ⟨t, kb.out⟩, kO.out, hne⟩, kP.out⟩

/-- The world goes on but for S, the tags go on, and what bears the tag i is none of S. -/
def Tg (w w' : World) (τ τ' : Nat → Nat) (S : Nat → Prop) (i : Nat) : Prop := Frm S w w' ∧ (∀ k, k < w.heap.size → S k → τ k ≠ i) ∧ ∀ k, k < w.heap.size → τ' k = τ k
theorem Tg.old {w w' : World} {τ : Nat → Nat} {i : Nat} (o : Old w w') : Tg w w' τ τ (fun _ => False) i := ⟨o, fun _ _ h => h.elim, fun _ _ => rfl⟩
/-- New blocks bear the tag i. -/
def tagN (w : World) (τ : Nat → Nat) (i : Nat) : Nat → Nat := fun k => if k < w.heap.size then τ k else i
theorem tagN_old {w : World} {τ : Nat → Nat} {i k : Nat} (h : k < w.heap.size) : tagN w τ i k = τ k := if_pos h
theorem tagN_new {w : World} {τ : Nat → Nat} {i k : Nat} (h : w.heap.size ≤ k) : tagN w τ i k = i := if_neg (by omega)

def CntT (w : World) (τ : Nat → Nat) (mb : Nat) (L : List Int) : Prop := ∃ nb lb sb, CountX w mb nb lb sb L ∧ τ mb = 1 ∧ τ nb = 1 ∧ τ lb = 1 ∧ τ sb = 1
theorem CntT.keep {w w' : World} {τ τ' : Nat → Nat} {S : Nat → Prop} {mb : Nat} {L : List Int} (h : CntT w τ mb L) (t : Tg w w' τ τ' S 1) : CntT w' τ' mb L := by
  obtain ⟨nb, lb, sb, hx, t1, t2, t3, t4⟩ := h
  obtain ⟨l1, l2, l3, l4⟩ := hx.lt
  exact ⟨nb, lb, sb, hx.frm t.1 (fun e => t.2.1 _ l1 e t1) (fun e => t.2.1 _ l2 e t2) (fun e => t.2.1 _ l3 e t3) (fun e => t.2.1 _ l4 e t4), by rw [t.2.2 _ l1]; exact t1, by rw [t.2.2 _ l2]; exact t2, by rw [t.2.2 _ l3]; exact t3, by rw [t.2.2 _ l4]; exact t4⟩
def MrkT (w : World) (τ : Nat → Nat) (mb : Nat) (v : Int) : Prop := ∃ nb, MarkS w mb nb v ∧ τ mb = 2 ∧ τ nb = 2
theorem MrkT.keep {w w' : World} {τ τ' : Nat → Nat} {S : Nat → Prop} {mb : Nat} {v : Int} (h : MrkT w τ mb v) (t : Tg w w' τ τ' S 2) : MrkT w' τ' mb v := by
  obtain ⟨nb, hx, t1, t2⟩ := h
  obtain ⟨l1, l2⟩ := hx.lt
  exact ⟨nb, hx.frm t.1 (fun e => t.2.1 _ l1 e t1) (fun e => t.2.1 _ l2 e t2), by rw [t.2.2 _ l1]; exact t1, by rw [t.2.2 _ l2]; exact t2⟩
def GteT (w : World) (τ : Nat → Nat) (mb : Nat) (x v : Int) : Prop := ∃ nb, GateS w mb nb x v ∧ τ mb = 4 ∧ τ nb = 4
theorem GteT.keep {w w' : World} {τ τ' : Nat → Nat} {S : Nat → Prop} {mb : Nat} {x v : Int} (h : GteT w τ mb x v) (t : Tg w w' τ τ' S 4) : GteT w' τ' mb x v := by
  obtain ⟨nb, hx, t1, t2⟩ := h
  obtain ⟨l1, l2⟩ := hx.lt
  exact ⟨nb, hx.frm t.1 (fun e => t.2.1 _ l1 e t1) (fun e => t.2.1 _ l2 e t2), by rw [t.2.2 _ l1]; exact t1, by rw [t.2.2 _ l2]; exact t2⟩
def TksT (w : World) (τ : Nat → Nat) (mb : Nat) (x v : Int) : Prop := ∃ nb, TakeS w mb nb x v ∧ τ mb = 5 ∧ τ nb = 5
theorem TksT.keep {w w' : World} {τ τ' : Nat → Nat} {S : Nat → Prop} {mb : Nat} {x v : Int} (h : TksT w τ mb x v) (t : Tg w w' τ τ' S 5) : TksT w' τ' mb x v := by
  obtain ⟨nb, hx, t1, t2⟩ := h
  obtain ⟨l1, l2⟩ := hx.lt
  exact ⟨nb, hx.frm t.1 (fun e => t.2.1 _ l1 e t1) (fun e => t.2.1 _ l2 e t2), by rw [t.2.2 _ l1]; exact t1, by rw [t.2.2 _ l2]; exact t2⟩
def BstT (w : World) (τ : Nat → Nat) (mb : Nat) (o : Option (Int × Int)) : Prop := ∃ nb p, BestP w mb nb p o ∧ τ mb = 3 ∧ τ nb = 3 ∧ ∀ a, p = some a → τ a.block = 3
theorem BstT.keep {w w' : World} {τ τ' : Nat → Nat} {S : Nat → Prop} {mb : Nat} {o : Option (Int × Int)} (h : BstT w τ mb o) (t : Tg w w' τ τ' S 3) : BstT w' τ' mb o := by
  obtain ⟨nb, p, hx, t1, t2, t3⟩ := h
  obtain ⟨l1, l2⟩ := hx.s.lt
  obtain ⟨ty, hn⟩ := hx.num
  have l3 : ∀ a, p = some a → a.block < w.heap.size := hx.ov.lt
  exact ⟨nb, p, ⟨frm_cell t.1 hx.ptr (fun e => t.2.1 _ l1 e t1), ⟨ty, (t.1.block _ l2 (fun e => t.2.1 _ l2 e t2)).trans hn⟩, hx.ov.frm t.1 (fun a ha e => t.2.1 _ (l3 a ha) e (t3 a ha)), hx.ne⟩, by rw [t.2.2 _ l1]; exact t1, by rw [t.2.2 _ l2]; exact t2, fun a ha => by rw [t.2.2 _ (l3 a ha)]; exact t3 a ha⟩
def DocT (w : World) (τ : Nat → Nat) (db : Nat) (s : St) : Prop := ∃ sb, DocX w db sb s ∧ τ db = 8 ∧ τ sb = 8
theorem DocX.lt {w : World} {db sb : Nat} {s : St} (h : DocX w db sb s) : db < w.heap.size ∧ sb < w.heap.size := by
  obtain ⟨c, t, hb⟩ := h.blk
  exact ⟨(Array.getElem?_eq_some_iff.1 hb).1, (Array.getElem?_eq_some_iff.1 h.row.choose_spec).1⟩
theorem DocT.keep {w w' : World} {τ τ' : Nat → Nat} {S : Nat → Prop} {db : Nat} {s : St} (h : DocT w τ db s) (t : Tg w w' τ τ' S 8) : DocT w' τ' db s := by
  obtain ⟨sb, hx, t1, t2⟩ := h
  obtain ⟨l1, l2⟩ := hx.lt
  exact ⟨sb, hx.frm t.1 (fun e => t.2.1 _ l1 e t1) (fun e => t.2.1 _ l2 e t2), by rw [t.2.2 _ l1]; exact t1, by rw [t.2.2 _ l2]; exact t2⟩

/-- Where the five lie. -/
structure N5 where
  c : Nat
  m : Nat
  b : Nat
  g : Nat
  t : Nat
/-- The five. -/
structure Five (w : World) (τ : Nat → Nat) (B : N5) (s : St) : Prop where
  cnt : CntT w τ B.c s.L
  mrk : MrkT w τ B.m s.mr
  bst : BstT w τ B.b s.bs
  gte : GteT w τ B.g s.gt s.ar
  tks : TksT w τ B.t s.ts s.tk
theorem Five.keep {w w' : World} {τ τ' : Nat → Nat} {S : Nat → Prop} {B : N5} {s : St} (h : Five w τ B s) (f : Frm S w w') (hS : ∀ k, k < w.heap.size → S k → ¬ (1 ≤ τ k ∧ τ k ≤ 5)) (ht : ∀ k, k < w.heap.size → τ' k = τ k) : Five w' τ' B s where
  cnt := h.cnt.keep ⟨f, fun k hk e e2 => hS k hk e (by omega), ht⟩
  mrk := h.mrk.keep ⟨f, fun k hk e e2 => hS k hk e (by omega), ht⟩
  bst := h.bst.keep ⟨f, fun k hk e e2 => hS k hk e (by omega), ht⟩
  gte := h.gte.keep ⟨f, fun k hk e e2 => hS k hk e (by omega), ht⟩
  tks := h.tks.keep ⟨f, fun k hk e e2 => hS k hk e (by omega), ht⟩
theorem Five.old {w w' : World} {τ : Nat → Nat} {B : N5} {s : St} (h : Five w τ B s) (f : Old w w') : Five w' τ B s := h.keep f (fun _ _ h => h.elim) (fun _ _ => rfl)

/-- What an op leaves. -/
def Turns (w w' : World) (τ : Nat → Nat) (B : N5) (s : St) : Prop := ∃ S τ', Frm S w w' ∧ (∀ k, k < w.heap.size → S k → 1 ≤ τ k ∧ τ k ≤ 5) ∧ (∀ k, k < w.heap.size → τ' k = τ k) ∧ Five w' τ' B s

theorem five_add {w : World} {τ : Nat → Nat} {B : N5} {s : St} (h : Five w τ B s) (hL : s.L.length ≤ 64) (k : Nat) (hk : k < s.L.length) (x : Int) :
    Calls Try.prog 14 #[.pointer (some ⟨B.c, 0, none⟩), .int .i64 k, .int .i64 x] w fun e w' => e = .returned (.tuple #[.int .i64 (IntKind.i64.wrap (s.L[k]! + x)), .int .i64 0]) ∧ Turns w w' τ B { s with L := s.L.set k (IntKind.i64.wrap (s.L[k]! + x)) } := by
  obtain ⟨nb, lb, sb, hx, t1, t2, t3, t4⟩ := h.cnt
  obtain ⟨l1, l2, l3, l4⟩ := hx.lt
  refine (count_addX B.c nb k x s.L w hx.v hL hk).mono ?_
  rintro e w' ⟨rfl, f, lb', sb', hy, h1, h2⟩
  have ht : ∀ k, k < w.heap.size → tagN w τ 1 k = τ k := fun k hk => tagN_old hk
  refine ⟨rfl, fun k => k = nb, tagN w τ 1, f, fun k _ e => by subst e; omega, ht, ⟨⟨nb, lb', sb', hy, by rw [ht _ l1]; exact t1, by rw [ht _ l2]; exact t2, tagN_new h1, tagN_new h2⟩, h.mrk.keep ⟨f, ?_, ht⟩, h.bst.keep ⟨f, ?_, ht⟩, h.gte.keep ⟨f, ?_, ht⟩, h.tks.keep ⟨f, ?_, ht⟩⟩⟩ <;> (intro k _ e; subst e; omega)
theorem five_raise {w : World} {τ : Nat → Nat} {B : N5} {s : St} (h : Five w τ B s) (x : Int) :
    Calls Try.prog 26 #[.pointer (some ⟨B.m, 0, none⟩), .int .i64 x] w fun e w' => e = .returned (.tuple #[.int .i64 s.mr, .bool (decide (s.mr < x))]) ∧ Turns w w' τ B { s with mr := if s.mr < x then x else s.mr } := by
  obtain ⟨nb, hx, t1, t2⟩ := h.mrk
  refine (mark_raise B.m nb s.mr x w hx).mono ?_
  rintro e w' ⟨rfl, f, hy⟩
  have ht : ∀ k, k < w.heap.size → τ k = τ k := fun k hk => rfl
  refine ⟨rfl, fun k => k = nb, τ, f, fun k _ e => by subst e; omega, ht, ⟨h.cnt.keep ⟨f, ?_, ht⟩, ⟨nb, hy, t1, t2⟩, h.bst.keep ⟨f, ?_, ht⟩, h.gte.keep ⟨f, ?_, ht⟩, h.tks.keep ⟨f, ?_, ht⟩⟩⟩ <;> (intro k _ e; subst e; omega)
theorem five_offer {w : World} {τ : Nat → Nat} {B : N5} {s : St} (h : Five w τ B s) (who x : Int) :
    Calls Try.prog 30 #[.pointer (some ⟨B.b, 0, none⟩), .int .i64 who, .int .i64 x] w fun e w' => e = .returned (.bool (takesIt who x s.bs)) ∧ Turns w w' τ B { s with bs := if takesIt who x s.bs then some (who, x) else s.bs } := by
  obtain ⟨nb, p, hx, t1, t2, t3⟩ := h.bst
  obtain ⟨l1, l2⟩ := hx.s.lt
  have l3 : ∀ a, p = some a → a.block < w.heap.size := hx.ov.lt
  refine (best_offerP B.b nb p who x s.bs w hx).mono ?_
  rintro e w' ⟨rfl, f, p', hy, hp⟩
  have ht : ∀ k, k < w.heap.size → tagN w τ 3 k = τ k := fun k hk => tagN_old hk
  refine ⟨rfl, fun k => k = nb, tagN w τ 3, f, fun k _ e => by subst e; omega, ht, ⟨h.cnt.keep ⟨f, ?_, ht⟩, h.mrk.keep ⟨f, ?_, ht⟩, ⟨nb, p', hy, by rw [ht _ l1]; exact t1, by rw [ht _ l2]; exact t2, fun a ha => ?_⟩, h.gte.keep ⟨f, ?_, ht⟩, h.tks.keep ⟨f, ?_, ht⟩⟩⟩
  · intro k _ e; subst e; omega
  · intro k _ e; subst e; omega
  · rcases hp with rfl | ⟨b, rfl, hb, _⟩
    · rw [ht _ (l3 a ha)]; exact t3 a ha
    · cases ha; exact tagN_new hb
  · intro k _ e; subst e; omega
  · intro k _ e; subst e; omega
theorem five_arrive {w : World} {τ : Nat → Nat} {B : N5} {s : St} (h : Five w τ B s) (hr : IntKind.i64.wrap (s.ar + 1) = s.ar + 1) (hq : wrap64 s.ar = s.ar) :
    Calls Try.prog 27 #[.pointer (some ⟨B.g, 0, none⟩)] w fun e w' => e = .returned (.tuple #[.int .i64 s.ar, .bool (decide (s.gt ≤ s.ar + 1))]) ∧ Turns w w' τ B { s with ar := s.ar + 1 } := by
  obtain ⟨nb, hx, t1, t2⟩ := h.gte
  refine (gate_arrive B.g nb s.ar s.gt w hx hr hq).mono ?_
  rintro e w' ⟨rfl, f, hy⟩
  have ht : ∀ k, k < w.heap.size → τ k = τ k := fun k hk => rfl
  refine ⟨rfl, fun k => k = nb, τ, f, fun k _ e => by subst e; omega, ht, ⟨h.cnt.keep ⟨f, ?_, ht⟩, h.mrk.keep ⟨f, ?_, ht⟩, h.bst.keep ⟨f, ?_, ht⟩, ⟨nb, hy, t1, t2⟩, h.tks.keep ⟨f, ?_, ht⟩⟩⟩ <;> (intro k _ e; subst e; omega)
theorem five_take {w : World} {τ : Nat → Nat} {B : N5} {s : St} (h : Five w τ B s) (hr : s.tk < s.ts → IntKind.i64.wrap (s.tk + 1) = s.tk + 1) :
    Calls Try.prog 28 #[.pointer (some ⟨B.t, 0, none⟩)] w fun e w' => e = .returned (.tuple #[.int .i64 (if s.tk < s.ts then s.tk else 0), .bool (decide (s.tk < s.ts))]) ∧ Turns w w' τ B { s with tk := if s.tk < s.ts then s.tk + 1 else s.tk } := by
  obtain ⟨nb, hx, t1, t2⟩ := h.tks
  refine (tick_take B.t nb s.tk s.ts w hx hr).mono ?_
  rintro e w' ⟨rfl, f, hy⟩
  have ht : ∀ k, k < w.heap.size → τ k = τ k := fun k hk => rfl
  refine ⟨rfl, fun k => k = nb, τ, f, fun k _ e => by subst e; omega, ht, ⟨h.cnt.keep ⟨f, ?_, ht⟩, h.mrk.keep ⟨f, ?_, ht⟩, h.bst.keep ⟨f, ?_, ht⟩, h.gte.keep ⟨f, ?_, ht⟩, ⟨nb, hy, t1, t2⟩⟩⟩ <;> (intro k _ e; subst e; omega)
end Go.Proofs.Ytpnnfkgnkalhlaa

/- Blocks, cells and rows in memory. -/
namespace Go.Proofs.Ytpnnfkgnkalhlaa
open Go.RowKit

theorem set_oth {w : World} {b i j : Nat} {u x : Value} (h : w.cell? ⟨b, j, none⟩ = some x) (hn : i ≠ j) : (w.setCell ⟨b, i, none⟩ u).cell? ⟨b, j, none⟩ = some x :=
  (World.cell?_setCell_other w ⟨b, i, none⟩ ⟨b, j, none⟩ u (fun h => hn (congrArg Addr.off h))).trans h
theorem set_same {w : World} {b i : Nat} {u x : Value} (h : w.cell? ⟨b, i, none⟩ = some x) : (w.setCell ⟨b, i, none⟩ u).cell? ⟨b, i, none⟩ = some u := World.cell?_setCell_same w ⟨b, i, none⟩ u h
theorem set_fz {w : World} {b i : Nat} {u : Value} (h : ∀ j, w.frozen? ⟨b, j, none⟩ = false) (j : Nat) : (w.setCell ⟨b, i, none⟩ u).frozen? ⟨b, j, none⟩ = false := by simp [h j]
theorem alloc_size (w : World) (o : Obj) : (w.alloc o).heap.size = w.heap.size + 1 := by simp only [World.alloc, Array.size_push]
theorem blk_cell {w : World} {b : Nat} {v : Value} {t : TypeId} (h : w.heap[b]? = some (.cells #[v] t (0, 0))) : w.cell? ⟨b, 0, none⟩ = some v := by simp [World.cell?, h]
theorem blk_cells {w : World} {b i : Nat} {arr : Array Value} {v : Value} {t : TypeId} {f : Nat × Nat} (h : w.heap[b]? = some (.cells arr t f)) (hi : arr[i]? = some v) : w.cell? ⟨b, i, none⟩ = some v := by simp [World.cell?, h, hi]
theorem blk_fz {w : World} {b : Nat} {arr : Array Value} {t : TypeId} (h : w.heap[b]? = some (.cells arr t (0, 0))) (i : Nat) : w.frozen? ⟨b, i, none⟩ = false := by simp [World.frozen?, h]
theorem blk_lt {w : World} {b : Nat} {o : Obj} (h : w.heap[b]? = some o) : b < w.heap.size := (Array.getElem?_eq_some_iff.1 h).1


theorem owns_kept {w w' : World} {B : Nat} {e : TypeId} {v : Value} {n : Nat} {xs : List Value} (h : w.ownsRow B e 1 v n xs) (hb : ∀ k, v.ownBlock = some k → w'.heap[k]? = w.heap[k]?) : w'.ownsRow B e 1 v n xs := by
  refine ⟨h.1, ?_⟩
  rcases h.2 with h2 | ⟨g, cap, cur, rfl, h3, h4, h5⟩
  · exact Or.inl h2
  · exact Or.inr ⟨g, cap, cur, rfl, h3, by rw [hb g rfl]; exact h4, h5⟩

theorem owns_block {w : World} {B : Nat} {e : TypeId} {v : Value} {n : Nat} {xs : List Value} (h : w.ownsRow B e 1 v n xs) {g : Nat} (hg : v.ownBlock = some g) : ∃ cur, w.heap[g]? = some (.cells cur e (0, 0)) := by
  rcases h.2 with h2 | ⟨g', cap, cur, rfl, h3, h4, h5⟩
  · rcases h2 with ⟨rfl, _⟩
    simp [Value.ownBlock] at hg
  · simp [Value.ownBlock] at hg
    subst hg
    exact ⟨cur, h4⟩

end Go.Proofs.Ytpnnfkgnkalhlaa
