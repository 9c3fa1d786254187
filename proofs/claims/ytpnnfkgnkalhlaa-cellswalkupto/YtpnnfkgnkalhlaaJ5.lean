/- The best of what is offered. -/
import Derived.Test.YtpnnfkgnkalhlaaK16
import Derived.BigQuiet
namespace Go.Proofs.Ytpnnfkgnkalhlaa
open Go.RowKit

set_option maxRecDepth 100000 in
set_option maxHeartbeats 4000000 in
theorem best_offering (q : Option Addr) (who x : Int) (w : World) :
    Calls Try.prog 53 #[.pointer q, .int .i64 who, .int .i64 x] w fun e w' => e = .returned (.tuple #[.func (.func 75) #[] #[.pointer (some ⟨w.heap.size, 0, none⟩), .pointer (some ⟨w.heap.size + 2, 0, none⟩), .pointer (some ⟨w.heap.size + 1, 0, none⟩), .pointer (some ⟨w.heap.size + 4, 0, none⟩)], .func (.func 77) #[] #[.pointer (some ⟨w.heap.size + 1, 0, none⟩), .pointer (some ⟨w.heap.size, 0, none⟩), .pointer (some ⟨w.heap.size + 2, 0, none⟩), .pointer (some ⟨w.heap.size + 4, 0, none⟩)]]) ∧ Old w w' ∧ (∃ t, w'.heap[w.heap.size]? = some (.cells #[.pointer q] t (0, 0))) ∧ (∃ t, w'.heap[w.heap.size + 1]? = some (.cells #[.int .i64 x] t (0, 0))) ∧ w'.heap[w.heap.size + 2]? = some (.cells #[.pointer none] 103 (0, 0)) ∧ w'.heap[w.heap.size + 3]? = some (.cells #[.int .i64 who, .int .i64 x] 152 (0, 0)) ∧ (∃ t, w'.heap[w.heap.size + 4]? = some (.cells #[.pointer (some ⟨w.heap.size + 3, 0, none⟩)] t (0, 0))) ∧ w'.heap.size = w.heap.size + 5 := by
  go_enter Try.func53, Try.ntmps53
  go_wp2
  refine bodyPost_ret ?_ rfl ⟨rfl, (((((Old.refl w).alloc _).alloc _).alloc _).alloc _).alloc _, ?_⟩
  · simp [results, Try.f53, go_sem]
  obtain ⟨a, b, c, d⟩ := three_news w (.cells #[.pointer q] 43) (.cells #[.int .i64 x] 2) (.cells #[.pointer none] 103)
  obtain ⟨w3, e3⟩ : ∃ w3, ((w.alloc (.cells #[.pointer q] 43)).alloc (.cells #[.int .i64 x] 2)).alloc (.cells #[.pointer none] 103) = w3 := ⟨_, rfl⟩
  rw [e3] at a b c d ⊢
  obtain ⟨a', b', c'⟩ := two_news w3 (.cells #[.int .i64 who, .int .i64 x] 152) (.cells #[.pointer (some ⟨w.heap.size + 1 + 1 + 1, 0, none⟩)] 103)
  have o := ((Old.refl w3).alloc (.cells #[.int .i64 who, .int .i64 x] 152)).alloc (.cells #[.pointer (some ⟨w.heap.size + 1 + 1 + 1, 0, none⟩)] 103)
  rw [d] at a' b' c'
  exact ⟨⟨_, (o.block _ (by omega) (fun h => h)).trans a⟩, ⟨_, (o.block _ (by omega) (fun h => h)).trans b⟩, (o.block _ (by omega) (fun h => h)).trans c, a', ⟨_, b'⟩, c'⟩

/-- What stands there: nothing, or an offer. -/
def OffV (w : World) (p : Option Addr) : Option (Int × Int) → Prop
  | none => p = none
  | some v => ∃ ob, p = some ⟨ob, 0, none⟩ ∧ w.heap[ob]? = some (.cells #[.int .i64 v.1, .int .i64 v.2] 152 (0, 0))

theorem OffV.offp {w : World} {p : Option Addr} {o : Option (Int × Int)} (h : OffV w p o) : OffP w p := by
  cases o with
  | none => exact Or.inl h
  | some v => obtain ⟨ob, h1, h2⟩ := h; exact Or.inr ⟨ob, v.1, v.2, h1, h2⟩

theorem OffV.frm {w w' : World} {S : Nat → Prop} {p : Option Addr} {o : Option (Int × Int)} (h : OffV w p o) (f : Frm S w w') (hS : ∀ a, p = some a → ¬ S a.block) : OffV w' p o := by
  cases o with
  | none => exact h
  | some v => obtain ⟨ob, rfl, h2⟩ := h; exact ⟨ob, rfl, (f.block ob (Array.getElem?_eq_some_iff.1 h2).1 (hS _ rfl)).trans h2⟩

/-- An offer lies in no block of one cell. -/
theorem OffV.ne {w : World} {p : Option Addr} {o : Option (Int × Int)} (h : OffV w p o) {b : Nat} {u : Value} {t : TypeId} (hb : w.heap[b]? = some (.cells #[u] t (0, 0))) : ∀ a, p = some a → a.block ≠ b := by
  intro a ha e
  cases o with
  | none => simp only [OffV] at h; rw [h] at ha; exact absurd ha (by simp)
  | some v =>
    obtain ⟨ob, h1, h2⟩ := h
    rw [h1] at ha
    obtain rfl := Option.some.inj ha
    simp only at e
    rw [e, hb] at h2
    simp at h2

theorem OffV.lt {w : World} {p : Option Addr} {o : Option (Int × Int)} (h : OffV w p o) : ∀ a, p = some a → a.block < w.heap.size := by
  intro a ha
  cases o with
  | none => simp only [OffV] at h; rw [h] at ha; exact absurd ha (by simp)
  | some v =>
    obtain ⟨ob, h1, h2⟩ := h
    rw [h1] at ha
    obtain rfl := Option.some.inj ha
    exact (Array.getElem?_eq_some_iff.1 h2).1

/-- Whether who's x takes the place. -/
def takesIt (who x : Int) : Option (Int × Int) → Bool
  | none => true
  | some v => better who x v.1 v.2

theorem replaces_any (ob : Nat) (who x : Int) (p : Option Addr) (o : Option (Int × Int)) (w : World) (h : w.heap[ob]? = some (.cells #[.int .i64 who, .int .i64 x] 152 (0, 0))) (hp : OffV w p o) :
    Calls Try.prog 76 #[.pointer (some ⟨ob, 0, none⟩), .pointer p] w fun e w' => e = .returned (.bool (takesIt who x o)) ∧ Old w w' := by
  cases o with
  | none => simp only [OffV] at hp; subst hp; exact replaces_none ob w
  | some v =>
    obtain ⟨pb, rfl, h2⟩ := hp
    exact replaces_some ob pb who x v.1 v.2 w (cells_of h rfl) (cells_of h rfl) (cells_of h2 rfl) (cells_of h2 rfl)

theorem offer_whole (bm bs bx bo ob mb nb : Nat) (who x : Int) (p : Option Addr) (o : Option (Int × Int)) (t : TypeId) (w : World) (h1 : w.cell? ⟨bm, 0, none⟩ = some (.pointer (some ⟨mb, 0, none⟩))) (h2 : w.cell? ⟨mb, 0, none⟩ = some (.pointer (some ⟨nb, 0, none⟩))) (h3 : w.heap[nb]? = some (.cells #[.pointer p] t (0, 0))) (hp : OffV w p o) (h4 : w.cell? ⟨bx, 0, none⟩ = some (.int .i64 x)) (h6 : w.cell? ⟨bo, 0, none⟩ = some (.pointer (some ⟨ob, 0, none⟩))) (h7 : w.heap[ob]? = some (.cells #[.int .i64 who, .int .i64 x] 152 (0, 0))) (h5 : w.heap[bs]? = some (.cells #[.pointer none] 103 (0, 0))) (n1 : nb ≠ bm) (n2 : nb ≠ mb) (n3 : nb ≠ bs) (n4 : nb ≠ bx) (n5 : nb ≠ bo) (m1 : bs ≠ bx) (m2 : bs ≠ bm) (m3 : bs ≠ mb) (m4 : bs ≠ bo) (m5 : bs ≠ ob) (m6 : nb ≠ ob) :
    Calls Try.prog 33 #[.func (.func 75) #[] #[.pointer (some ⟨bm, 0, none⟩), .pointer (some ⟨bs, 0, none⟩), .pointer (some ⟨bx, 0, none⟩), .pointer (some ⟨bo, 0, none⟩)], .func (.func 77) #[] #[.pointer (some ⟨bx, 0, none⟩), .pointer (some ⟨bm, 0, none⟩), .pointer (some ⟨bs, 0, none⟩), .pointer (some ⟨bo, 0, none⟩)]] w fun e w' => e = .returned (ans x (takesIt who x o)) ∧ Frm (fun k => k = bs ∨ k = nb) w w' ∧ w'.heap[nb]? = some (.cells #[.pointer (if takesIt who x o then some ⟨ob, 0, none⟩ else p)] t (0, 0)) := by
  have e1 : ∀ args w, (callFunc 75 args).run Try.prog w = .ok (.enter 75 args) w := enters_of Try.func75 (by kernel_rfl) rfl
  have e2 : ∀ args w, (callFunc 77 args).run Try.prog w = .ok (.enter 77 args) w := enters_of Try.func77 (by kernel_rfl) rfl
  have l3 : nb < w.heap.size := (Array.getElem?_eq_some_iff.1 h3).1
  have l5 : bs < w.heap.size := (Array.getElem?_eq_some_iff.1 h5).1
  have l7 : ob < w.heap.size := (Array.getElem?_eq_some_iff.1 h7).1
  have q1 := hp.ne h5
  have q2 := hp.ne h3
  have hq : OffP w (some ⟨ob, 0, none⟩) := Or.inr ⟨ob, who, x, rfl, h7⟩
  have look : ∀ W, Old w W → Calls Try.prog 75 #[.pointer (some ⟨bm, 0, none⟩), .pointer (some ⟨bs, 0, none⟩), .pointer (some ⟨bx, 0, none⟩), .pointer (some ⟨bo, 0, none⟩)] W fun e w' => e = .returned (.tuple #[ans x false, .bool (!takesIt who x o)]) ∧ Frm (fun k => k = bs) W w' ∧ w'.heap[bs]? = some (.cells #[.pointer p] 103 (0, 0)) := by
    intro W hW
    refine offer_look bm mb nb bs bx bo ob x p none (takesIt who x o) W (hW.cell h1) (hW.cell h2) (hW.cell (cell_of h3)) (hp.offp.frm hW (fun _ _ h => h)) (hW.cell h4) (hW.cell h6) ((hW.block bs l5 (fun h => h)).trans h5) m1 m4 ?_
    intro W2 hW2
    have hF : Frm (fun k => k = bs) w W2 := Frm.trans (Frm.mono hW (fun _ _ h => h.elim)) hW2 (fun _ _ h => h)
    exact replaces_any ob who x p o W2 ((hF.block ob l7 (by omega)).trans h7) (hp.frm hF (fun a ha e => q1 a ha e))
  by_cases hv : takesIt who x o = true
  · rw [hv] at look
    refine (whole_two 75 77 _ _ x x false true w (fun W' => Frm (fun k => k = bs) w W' ∧ W'.heap[bs]? = some (.cells #[.pointer p] 103 (0, 0))) (fun W' => Frm (fun k => k = bs ∨ k = nb) w W' ∧ W'.heap[nb]? = some (.cells #[.pointer (some ⟨ob, 0, none⟩)] t (0, 0))) e2 e1 ?_ ?_).mono ?_
    · intro W hW
      refine (look W hW).mono ?_
      rintro e W' ⟨rfl, hf, hb⟩
      exact ⟨rfl, Frm.mono hf (fun k _ e => by omega), Frm.trans (Frm.mono hW (fun _ _ h => h.elim)) hf (fun _ _ h => h), hb⟩
    · rintro W W' ⟨hf, hb⟩ hn
      have hW : Frm (fun k => k = bs) w W' := Frm.trans hf hn (fun k hk h => by omega)
      have lb : bs < W.heap.size := Nat.lt_of_lt_of_le l5 hf.size
      have hb' := (hn.block bs lb (by omega)).trans hb
      refine (offer_put bm mb nb bs bx bo ob x p t W' (frm_cell hW h1 (by simp only; omega)) (frm_cell hW h2 (by simp only; omega)) ((hW.block nb l3 (by omega)).trans h3) (frm_cell hW h4 (by simp only; omega)) (frm_cell hW h6 (by simp only; omega)) (cell_of hb') (hp.offp.frm hW (fun a ha e => q1 a ha e)) (hq.frm hW (fun a ha e => by obtain rfl := Option.some.inj ha; simp only at e; omega)) n1 n2 n3 n4 n5).mono ?_
      rintro e W'' ⟨rfl, hf2, hb2⟩
      exact ⟨rfl, Frm.mono hf2 (fun k _ e => by omega), Frm.trans (Frm.mono hW (fun _ _ h => Or.inl h)) hf2 (fun _ _ h => Or.inr h), hb2⟩
    · rintro e w' ⟨rfl, W', ⟨hf, hb⟩, hn⟩
      refine ⟨by rw [hv], Frm.trans hf hn (fun k hk h => by omega), ?_⟩
      rw [if_pos hv]
      exact (hn.block nb (Nat.lt_of_lt_of_le l3 hf.size) (by omega)).trans hb
  · have hv' : takesIt who x o = false := by simpa using hv
    rw [hv'] at look
    refine (whole_one 75 _ _ _ _ x false w (fun W' => Frm (fun k => k = bs) w W') e1 ?_).mono ?_
    · intro W hW
      refine (look W hW).mono ?_
      rintro e W' ⟨rfl, hf, hb⟩
      exact ⟨rfl, Frm.mono hf (fun k _ e => by omega), Frm.trans (Frm.mono hW (fun _ _ h => h.elim)) hf (fun _ _ h => h)⟩
    · rintro e w' ⟨rfl, W', hf, hn⟩
      have hF : Frm (fun k => k = bs) w w' := Frm.trans hf hn (fun k hk h => by omega)
      refine ⟨by rw [hv'], Frm.mono hF (fun _ _ h => Or.inl h), ?_⟩
      rw [if_neg hv]
      exact (hF.block nb l3 (by omega)).trans h3
end Go.Proofs.Ytpnnfkgnkalhlaa

/- The best of what is offered: offered, read, made. -/
namespace Go.Proofs.Ytpnnfkgnkalhlaa
open Go.RowKit

theorem field_yes (x z : Int) (y : Bool) (W : World) : (Instr.field 52 (.agg #[.int .i64 x, .bool y, .int .i64 z]) 1).run Try.prog W = .ok (.bool y) W := by kernel_rfl

/-- The best at mb, its place at nb: what was offered best, and by whom. -/
structure BestS (w : World) (mb nb : Nat) (o : Option (Int × Int)) : Prop where
  ptr : w.cell? ⟨mb, 0, none⟩ = some (.pointer (some ⟨nb, 0, none⟩))
  num : ∃ t p, w.heap[nb]? = some (.cells #[.pointer p] t (0, 0)) ∧ OffV w p o
  ne : nb ≠ mb

set_option maxRecDepth 100000 in
set_option maxHeartbeats 4000000 in
theorem best_offer (mb nb : Nat) (who x : Int) (o : Option (Int × Int)) (w : World) (h : BestS w mb nb o) :
    Calls Try.prog 30 #[.pointer (some ⟨mb, 0, none⟩), .int .i64 who, .int .i64 x] w fun e w' => e = .returned (.bool (takesIt who x o)) ∧ Frm (fun k => k = nb) w w' ∧ BestS w' mb nb (if takesIt who x o then some (who, x) else o) := by
  obtain ⟨y, hy⟩ : ∃ y, takesIt who x o = y := ⟨_, rfl⟩
  rw [hy]
  obtain ⟨m, hm⟩ : ∃ m, (if y then some (who, x) else o) = m := ⟨_, rfl⟩
  rw [hm]
  have ky := hid hy
  have km := hid hm
  clear hy hm
  obtain ⟨t, p, h3, hp⟩ := h.num
  have h2 := h.ptr
  have hne := h.ne
  have l2 := World.block_lt_of_cell? w _ h2
  have l3 : nb < w.heap.size := (Array.getElem?_eq_some_iff.1 h3).1
  simp only at l2
  have k3 := hid h3
  have k2 := hid h2
  have kp := hid hp
  clear h h3 hp
  have kR := hid (best_offering (some ⟨mb, 0, none⟩) who x w)
  go_enter Try.func30, Try.ntmps30
  go_wp2_with (go_at_call 53; refine kR.out.mono ?_; rintro e w1 ⟨rfl, o1, ⟨t1, a1⟩, ⟨t2, a2⟩, a3, a4, ⟨t5, a5⟩, a6⟩; clear kR)
  have hp1 := kp.out.frm o1 (fun _ _ h => h)
  refine (offer_whole w.heap.size (w.heap.size + 2) (w.heap.size + 1) (w.heap.size + 4) (w.heap.size + 3) mb nb who x p o t w1 (cell_of a1) (o1.cell h2) ((o1.block nb l3 (fun h => h)).trans k3.out) hp1 (cell_of a2) (cell_of a5) a4 a3 (by omega) hne (by omega) (by omega) (by omega) (by omega) (by omega) (by omega) (by omega) (by omega) (by omega)).mono ?_
  rintro e w2 ⟨rfl, f2, b2⟩
  have fz : Frm (fun k => k = nb) w w2 := Frm.trans (Frm.mono o1 (fun _ _ h => h.elim)) f2 (fun k hk h => by omega)
  have hO : OffV w2 (if takesIt who x o then some ⟨w.heap.size + 3, 0, none⟩ else p) m := by
    rw [ky.out, ← km.out]
    cases y with
    | true => exact ⟨_, rfl, (f2.block _ (by omega) (by omega)).trans a4⟩
    | false => exact kp.out.frm fz (fun a ha e => kp.out.ne k3.out a ha e)
  have kf := hid fz
  have kb := hid b2
  have kO := hid hO
  rw [ky.out]
  clear o1 a1 a2 a3 a4 a5 a6 f2 b2 h2 hp1 fz hO
  unfold ans
  go_wp2
  rw [field_yes]
  go_wp2
  go_ret
  exact ⟨rfl, kf.out, ⟨frm_cell kf.out k2.out (by simp only; omega), ⟨t, _, kb.out, kO.out⟩, hne⟩⟩

theorem best_new (w : World) :
    Calls Try.prog 13 #[] w fun e w' => ∃ mb nb, e = .returned (.pointer (some ⟨mb, 0, none⟩)) ∧ Old w w' ∧ BestS w' mb nb none ∧ w.heap.size ≤ mb ∧ w.heap.size ≤ nb := by
  go_enter Try.func13, Try.ntmps13
  go_wp2
  obtain ⟨a, b, c⟩ := two_news w (.cells #[.pointer none] 107) (.cells #[.pointer (some ⟨w.heap.size, 0, none⟩)] 109)
  go_ret
  exact ⟨_, _, rfl, ((Old.refl w).alloc _).alloc _, ⟨cell_of b, ⟨_, _, a, rfl⟩, by omega⟩, by omega, by omega⟩

set_option maxRecDepth 100000 in
theorem best_get_none (mb nb : Nat) (w : World) (h : BestS w mb nb none) :
    Calls Try.prog 37 #[.pointer (some ⟨mb, 0, none⟩)] w fun e w' => e = .returned (.tuple #[.int .i64 0, .int .i64 0, .bool false]) ∧ w' = w := by
  obtain ⟨t, p, h3, hp⟩ := h.num
  have hp0 : p = none := hp
  subst hp0
  have h2 := h.ptr
  have kL := hid (best_load nb none w (cell_of h3) (Or.inl rfl))
  clear h h3 hp
  go_enter Try.func37, Try.ntmps37
  go_wp2_with (go_at_call 60; refine kL.out.mono ?_; rintro e w2 ⟨rfl, rfl⟩)
  refine bodyPost_ret ?_ rfl ⟨rfl, rfl⟩
  simp [results, Try.f37, go_sem]

set_option maxRecDepth 100000 in
set_option maxHeartbeats 4000000 in
theorem best_get_some (mb nb : Nat) (v : Int × Int) (w : World) (h : BestS w mb nb (some v)) :
    Calls Try.prog 37 #[.pointer (some ⟨mb, 0, none⟩)] w fun e w' => e = .returned (.tuple #[.int .i64 v.1, .int .i64 v.2, .bool true]) ∧ Old w w' := by
  obtain ⟨t, p, h3, hp⟩ := h.num
  have h2 := h.ptr
  have hq := hp.offp
  obtain ⟨ob, rfl, h7⟩ := hp
  have c0 : w.cell? ⟨ob, 0, none⟩ = some (.int .i64 v.1) := cells_of h7 rfl
  have c1 : w.cell? ⟨ob, 1, none⟩ = some (.int .i64 v.2) := cells_of h7 rfl
  have kL := hid (best_load nb _ w (cell_of h3) hq)
  clear h h3 hq h7
  go_enter Try.func37, Try.ntmps37
  go_wp2_with (go_at_call 60; refine kL.out.mono ?_; rintro e w2 ⟨rfl, rfl⟩)
  go_quiet (fail)
  go_wp2
  refine bodyPost_ret ?_ rfl ⟨rfl, (Old.refl _).drewN _⟩
  simp [results, Try.f37, go_sem]
end Go.Proofs.Ytpnnfkgnkalhlaa

/- sync/atomic's Pointer of a list of stripes. -/
namespace Go.Proofs.Ytpnnfkgnkalhlaa
open Go.RowKit

/-- A list at lb. -/
def ListAt (w : World) (lb : Nat) (o : Option Addr) (n c : Nat) : Prop := w.heap[lb]? = some (.cells #[.slice o n c] 59 (0, 0))

theorem ListAt.to {w : World} {lb : Nat} {o : Option Addr} {n c : Nat} (h : ListAt w lb o n c) : (convert 81 105 (.pointer (some ⟨lb, 0, none⟩))).run Try.prog w = .ok (.pointer (some ⟨lb, 0, none⟩)) w :=
  run_convert_to_unsafe (t := 59) (by kernel_rfl) (by kernel_rfl) (by kernel_rfl) (cell_of h)

theorem ListAt.back {w : World} {lb : Nat} {o : Option Addr} {n c : Nat} (h : ListAt w lb o n c) : (convert 105 81 (.pointer (some ⟨lb, 0, none⟩))).run Try.prog w = .ok (.pointer (some ⟨lb, 0, none⟩)) w := by
  have hsh : w.shape? lb = some (59, 1) := by rw [ListAt] at h; simp [World.shape?, h]
  obtain ⟨j, hj⟩ : ∃ j, Try.prog.info? 59 = some j := Option.isSome_iff_exists.1 (by kernel_rfl)
  exact Go.Lib.run_from_unsafe (u := 59) (e := 59) (cells := 1) w ⟨lb, 0, none⟩ (by kernel_rfl) (by kernel_rfl) hj hsh (by kernel_rfl)

theorem lit1of2 (x y : Value) (h1 : #[x, y].size = 2) (h2 : 1 < 2) : #[x, y].getLit 1 h1 h2 = y := rfl

theorem storep {a : Addr} {u : Value} {q : Option Addr} {w : World} (h : w.cell? a = some u) (hz : w.frozen? a = false) : (callFunc 67 #[.pointer (some a), .pointer q]).run Try.prog w = .ok (.value (.tuple #[])) (w.setCell a (.pointer q)) := by
  rw [run_callFunc_extern Try.func67 (by kernel_rfl) (by kernel_rfl) (by kernel_rfl) (e := Extern.Atomic.storeT) (by kernel_rfl)]
  change (Sem.run Try.prog (Bind.bind (asAddr (.pointer (some a))) _) w).andThen _ = _
  simp [asAddr, lit1of2, h, hz, run_store Try.prog w a (.pointer q) .atomic rfl, Result.andThen, Extern.Atomic.none_]

set_option maxRecDepth 100000 in
theorem list_load (a lb : Nat) (o : Option Addr) (n c : Nat) (w : World) (h : w.cell? ⟨a, 0, none⟩ = some (.pointer (some ⟨lb, 0, none⟩))) (hp : ListAt w lb o n c) : Calls Try.prog 55 #[.pointer (some ⟨a, 0, none⟩)] w fun e w' => e = .returned (.pointer (some ⟨lb, 0, none⟩)) ∧ w' = w := by
  have hd := loadp h
  have hc := hp.back
  clear hp
  go_enter Try.func55, Try.ntmps55
  go_wp2
  go_ret
  exact ⟨rfl, rfl⟩

set_option maxRecDepth 100000 in
theorem list_cas (a lb lb2 : Nat) (o o2 : Option Addr) (n c n2 c2 : Nat) (w : World) (h : w.cell? ⟨a, 0, none⟩ = some (.pointer (some ⟨lb, 0, none⟩))) (hz : w.frozen? ⟨a, 0, none⟩ = false) (hp : ListAt w lb o n c) (hq : ListAt w lb2 o2 n2 c2) : Calls Try.prog 58 #[.pointer (some ⟨a, 0, none⟩), .pointer (some ⟨lb, 0, none⟩), .pointer (some ⟨lb2, 0, none⟩)] w fun e w' => e = .returned (.bool true) ∧ w' = w.setCell ⟨a, 0, none⟩ (.pointer (some ⟨lb2, 0, none⟩)) := by
  have hd := casp (q := some ⟨lb2, 0, none⟩) h hz
  have hc := hp.to
  have hc2 := hq.to
  clear hp hq
  go_enter Try.func58, Try.ntmps58
  go_wp2
  go_ret
  exact ⟨rfl, rfl⟩

set_option maxRecDepth 100000 in
theorem list_store (a lb : Nat) (u : Value) (o : Option Addr) (n c : Nat) (w : World) (h : w.cell? ⟨a, 0, none⟩ = some u) (hz : w.frozen? ⟨a, 0, none⟩ = false) (hp : ListAt w lb o n c) : Calls Try.prog 48 #[.pointer (some ⟨a, 0, none⟩), .pointer (some ⟨lb, 0, none⟩)] w fun e w' => e = .returned (.tuple #[]) ∧ w' = w.setCell ⟨a, 0, none⟩ (.pointer (some ⟨lb, 0, none⟩)) := by
  have hd := storep (q := some ⟨lb, 0, none⟩) h hz
  have hc := hp.to
  clear hp
  go_enter Try.func48, Try.ntmps48
  go_wp2
  go_end0
  exact ⟨rfl, rfl⟩
end Go.Proofs.Ytpnnfkgnkalhlaa

/- A count: its list, its width. -/
namespace Go.Proofs.Ytpnnfkgnkalhlaa
open Go.RowKit

/-- A count at mb: at nb the pointer to its list, which lies at lb. -/
structure CountS (w : World) (mb nb lb : Nat) (o : Option Addr) (n c : Nat) : Prop where
  ptr : w.cell? ⟨mb, 0, none⟩ = some (.pointer (some ⟨nb, 0, none⟩))
  num : ∃ t, w.heap[nb]? = some (.cells #[.pointer (some ⟨lb, 0, none⟩)] t (0, 0))
  list : ListAt w lb o n c
  ne : nb ≠ mb
  ne2 : nb ≠ lb

set_option maxRecDepth 100000 in
theorem count_width (mb nb lb : Nat) (o : Option Addr) (n c : Nat) (w : World) (h : CountS w mb nb lb o n c) :
    Calls Try.prog 32 #[.pointer (some ⟨mb, 0, none⟩)] w fun e w' => e = .returned (.int .i64 n) ∧ w' = w := by
  obtain ⟨t, h3⟩ := h.num
  have h2 := h.ptr
  have h4 := cell_of h.list
  have kL := hid (list_load nb lb o n c w (cell_of h3) h.list)
  clear h h3
  go_enter Try.func32, Try.ntmps32
  go_wp2_with (go_at_call 55; refine kL.out.mono ?_; rintro e w2 ⟨rfl, rfl⟩)
  go_ret
  exact ⟨rfl, rfl⟩

set_option maxRecDepth 100000 in
theorem count_at (lb : Nat) (o : Option Addr) (n c : Nat) (w : World) (h : ListAt w lb o n c) :
    Calls Try.prog 25 #[.pointer (some ⟨lb, 0, none⟩)] w fun e w' => ∃ mb nb, e = .returned (.pointer (some ⟨mb, 0, none⟩)) ∧ Old w w' ∧ CountS w' mb nb lb o n c ∧ w.heap.size ≤ mb ∧ w.heap.size ≤ nb := by
  have ll : lb < w.heap.size := (Array.getElem?_eq_some_iff.1 h).1
  have kS := hid (fun a u W h z hp => list_store a lb u o n c W h z hp)
  have kh := hid h
  clear h
  go_enter Try.func25, Try.ntmps25
  go_wp2_with fail
  obtain ⟨a, b, d⟩ := two_news w (.cells #[.pointer none] 140) (.cells #[.pointer (some ⟨w.heap.size, 0, none⟩)] 142)
  have ow := ((Old.refl w).alloc (.cells #[.pointer none] 140)).alloc (.cells #[.pointer (some ⟨w.heap.size, 0, none⟩)] 142)
  obtain ⟨w1, e1⟩ : ∃ w1, (w.alloc (.cells #[.pointer none] 140)).alloc (.cells #[.pointer (some ⟨w.heap.size, 0, none⟩)] 142) = w1 := ⟨_, rfl⟩
  rw [e1] at a b d ow ⊢
  have hl1 : ListAt w1 lb o n c := (ow.block lb ll (fun h => h)).trans kh.out
  refine (kS.out _ _ _ (cell_of a) (by simp [World.frozen?, a]) hl1).mono ?_
  rintro e w2 ⟨rfl, rfl⟩
  have f2 := frm_set w1 w.heap.size 0 (.pointer (some ⟨lb, 0, none⟩))
  have fo : Old w (w1.setCell ⟨w.heap.size, 0, none⟩ (.pointer (some ⟨lb, 0, none⟩))) := Frm.trans ow f2 (fun k hk e => by omega)
  have hb : (w1.setCell ⟨w.heap.size, 0, none⟩ (.pointer (some ⟨lb, 0, none⟩))).heap[w.heap.size]? = some (.cells #[.pointer (some ⟨lb, 0, none⟩)] 140 (0, 0)) := by simp [World.setCell, Array.getElem?_modify, a]
  have hp := frm_cell f2 (cell_of b) (by simp only; omega)
  have hl : ListAt (w1.setCell ⟨w.heap.size, 0, none⟩ (.pointer (some ⟨lb, 0, none⟩))) lb o n c := (f2.block lb (by omega) (by omega)).trans hl1
  obtain ⟨w2, e2⟩ : ∃ w2, w1.setCell ⟨w.heap.size, 0, none⟩ (.pointer (some ⟨lb, 0, none⟩)) = w2 := ⟨_, rfl⟩
  rw [e2] at fo hb hp hl ⊢
  have k1 := hid fo
  have k2 := hid hb
  have k3 := hid hp
  have k4 := hid hl
  clear a b d ow e1 e2 f2 fo hb hp hl hl1 kS
  go_wp2
  go_ret
  exact ⟨_, _, rfl, k1.out, ⟨k3.out, ⟨_, k2.out⟩, k4.out, by omega, by omega⟩, by omega, by omega⟩
end Go.Proofs.Ytpnnfkgnkalhlaa
