/- Three accounts and the document's beside them: who has which block; what each call does. -/
import Derived.Test.YthibbenkibjghaaP3
import Derived.Test.YthibbenkibjghaaA9b
namespace Go.Proofs.Ythibbenkibjghaa
open Go.RowKit Go.Lib Go.Shelf Go.Maps

theorem two_step {f g : Nat} {X Y : Array Value} {v : Value} {w : World} {ab bi bm rb : Nat} {bud sp bud' sp' : Int} {R R' : List Hd} (hA : Acc w ab bi bm bud sp R) (hR : Rf w rb bud sp R)
    (h1 : ∀ W, Acc W ab bi bm bud sp R → Calls Try.prog f X W fun e W' => e = .returned v ∧ Acc W' ab bi bm bud' sp' R' ∧ Frm (fun k => k = bi ∨ k = bm) W W')
    (h2 : ∀ W, Rf W rb bud sp R → Calls Try.prog g Y W fun e W' => e = .returned v ∧ Rf W' rb bud' sp' R' ∧ Frm (fun k => k = rb) W W') :
    Two f g X Y v (fun k => k = bi ∨ k = bm ∨ k = rb) (fun W => Acc W ab bi bm bud' sp' R' ∧ Rf W rb bud' sp' R') w := by
  have hne : ∀ {W : World} {b s b2 s2 : Int} {M M2 : List Hd}, Acc W ab bi bm b s M → Rf W rb b2 s2 M2 → ab ≠ rb ∧ bi ≠ rb ∧ bm ≠ rb := fun ha ⟨ao, cap, hr⟩ => ⟨typ_ne ha.a hr.blk (by decide), typ_ne ha.ins.i hr.blk (by decide), fun e => map_ne hr.blk ha.ins.m e.symm⟩
  refine ⟨?_, fun W => Acc W ab bi bm bud' sp' R' ∧ Rf W rb bud sp R, fun W o => ?_, fun W ⟨ha, hr⟩ => ?_⟩
  · rintro k (rfl | rfl | rfl)
    · exact blk_lt hA.ins.i
    · exact hA.ins.m.lt
    · exact hR.lt
  · refine (h1 W (hA.old o)).mono ?_
    rintro e W' ⟨he, ha, hf⟩
    have hr := hR.old o
    obtain ⟨n1, n2, n3⟩ := hne (hA.old o) hr
    refine ⟨he, hf.mono (fun k _ h => h.elim Or.inl (fun h => Or.inr (Or.inl h))), ha, hr.frm hf ?_ ?_⟩
    · rintro (e | e)
      · exact n2 e.symm
      · exact n3 e.symm
    · rintro k (rfl | rfl) ⟨cur, fz, hk⟩
      · exact typ_ne hk (hA.old o).ins.i (by decide) rfl
      · exact map_ne hk (hA.old o).ins.m rfl
  · refine (h2 W hr).mono ?_
    rintro e W' ⟨he, hr2, hf⟩
    obtain ⟨n1, n2, n3⟩ := hne ha hr
    exact ⟨he, hf.mono (fun k _ h => Or.inr (Or.inr h)), ha.frm hf n1 n2 n3, hr2⟩

theorem two_quiet {f g : Nat} {X Y : Array Value} {v : Value} {w : World} {T : World → Prop} (hT : T w) (hO : ∀ {W W'}, T W → Old W W' → T W')
    (h1 : ∀ W, T W → Calls Try.prog f X W fun e W' => e = .returned v ∧ Old W W') (h2 : ∀ W, T W → Calls Try.prog g Y W fun e W' => e = .returned v ∧ Old W W') :
    Two f g X Y v (fun _ => False) T w := by
  refine ⟨fun k h => h.elim, T, fun W o => ?_, fun W hW => ?_⟩
  · exact (h1 W (hO hT o)).mono fun e W' ⟨a, b⟩ => ⟨a, b, hO (hO hT o) b⟩
  · exact (h2 W hW).mono fun e W' ⟨a, b⟩ => ⟨a, b, hO hW b⟩

theorem DocL.rf {w : World} {rb : Nat} {bud sp : Int} {R : List Hd} (h : Rf w rb bud sp R) : DocL w (some ⟨rb, 0, none⟩) R := by
  obtain ⟨ao, cap, h⟩ := h
  exact ⟨rb, ao, cap, rfl, h.cells.2.2, h.hd, fun a e => (h.row a e).lt⟩

/-- A step at accounts that are there. -/
theorem does_acc (ab bi bm rb : Nat) (bud sp : Int) (R : List Hd) (s : Stp) (hl : i64ok s.lot) (w : World) (hA : Acc w ab bi bm bud sp R) (hR : Rf w rb bud sp R) (hO : OkA bud sp R) :
    Calls Try.prog 17 #[.pointer (some ⟨ab, 0, none⟩), .pointer (some ⟨rb, 0, none⟩), stpV s] w fun e w' => e = .returned (.bool true) ∧ Frm (fun k => k = bi ∨ k = bm ∨ k = rb) w w' ∧ ∃ b2 s2 R2, Acc w' ab bi bm b2 s2 R2 ∧ Rf w' rb b2 s2 R2 ∧ OkA b2 s2 R2 := by
  by_cases h1 : s.kind = 1
  · exact (does_1 _ _ s h1 (briZ bud s.coins) _ _ w (two_step hA hR (fun W h => bring_any ab bi bm bud sp R s.coins W h hO) (fun W h => rbring_any rb bud sp R s.coins W h hO))).mono fun e w' ⟨a, b, c, d⟩ => ⟨a, b, _, _, _, c, d, hO.briB⟩
  by_cases h2 : s.kind = 2
  · exact (does_2 _ _ s h2 (holdZ bud sp R s.lot s.coins) _ _ w (two_step hA hR (fun W h => hold_any ab bi bm bud sp R s.lot s.coins W h hO hl) (fun W h => rhold_any rb bud sp R s.lot s.coins W h hO))).mono fun e w' ⟨a, b, c, d⟩ => ⟨a, b, _, _, _, c, d, hO.holdR hl⟩
  by_cases h3 : s.kind = 3
  · exact (does_3 _ _ s h3 (relZ R s.lot) (relV R s.lot) _ _ w (two_step hA hR (fun W h => rel_any ab bi bm bud sp R s.lot W h hO hl) (fun W h => rrel_any rb bud sp R s.lot W h hO))).mono fun e w' ⟨a, b, c, d⟩ => ⟨a, b, _, _, _, c, d, hO.relR hl⟩
  by_cases h4 : s.kind = 4
  · exact (does_4 _ _ s h4 (payZ R s.lot s.coins) _ _ w (two_step hA hR (fun W h => pay_any ab bi bm bud sp R s.lot s.coins W h hO hl) (fun W h => rpay_any rb bud sp R s.lot s.coins W h hO))).mono fun e w' ⟨a, b, c, d⟩ => ⟨a, b, _, _, _, c, d, hO.payR hl⟩
  by_cases h5 : s.kind = 5
  · exact (does_5 _ _ s h5 (takZ bud sp R s.coins) _ _ w (two_step hA hR (fun W h => take_any ab bi bm bud sp R s.coins W h hO) (fun W h => rtake_any rb bud sp R s.coins W h hO))).mono fun e w' ⟨a, b, c, d⟩ => ⟨a, b, _, _, _, c, d, hO.takS⟩
  have fin : ∀ (e : Ending) (w' : World), (e = .returned (.bool true) ∧ Old w w') → e = .returned (.bool true) ∧ Frm (fun k => k = bi ∨ k = bm ∨ k = rb) w w' ∧ ∃ b2 s2 R2, Acc w' ab bi bm b2 s2 R2 ∧ Rf w' rb b2 s2 R2 ∧ OkA b2 s2 R2 := fun e w' ⟨a, o⟩ => ⟨a, o.mono (fun _ _ h => h.elim), _, _, _, hA.old o, hR.old o, hO⟩
  by_cases h6 : s.kind = 6
  · exact (does_6 _ _ s h6 (holdZ bud sp R s.lot s.coins == 0) _ (fun W => Acc W ab bi bm bud sp R ∧ Rf W rb bud sp R) w (two_quiet ⟨hA, hR⟩ (fun h o => ⟨h.1.old o, h.2.old o⟩) (fun W h => can_any ab bi bm bud sp R s.lot s.coins W h.1 hO hl) (fun W h => rcan_any rb bud sp R s.lot s.coins W h.2 hO))).mono fun e w' ⟨a, b, _⟩ => fin e w' ⟨a, b⟩
  by_cases h9 : s.kind = 9
  · exact (does_9 _ _ s h9 R w (AllF.acc hA hO) (DocL.rf hR) hO.bounds.2.2.2.2.2.2).mono fin
  exact (does_0 _ _ s ⟨h1, h2, h3, h4, h5, h6, h9⟩ w).mono fin

/-- At such as are not there. -/
theorem does_nil (s : Stp) (w : World) : Calls Try.prog 17 #[.pointer none, .pointer none, stpV s] w fun e w' => e = .returned (.bool true) ∧ Old w w' := by
  have sh : ∀ {f g : Nat} {X Y : Array Value} {v : Value}, (∀ W, Calls Try.prog f X W fun e W' => e = .returned v ∧ Old W W') → (∀ W, Calls Try.prog g Y W fun e W' => e = .returned v ∧ W' = W) → Two f g X Y v (fun _ => False) (fun _ => True) w := fun h1 h2 =>
    two_quiet trivial (fun _ _ => trivial) (fun W _ => h1 W) (fun W _ => (h2 W).mono fun _ _ ⟨a, b⟩ => ⟨a, b ▸ Old.refl _⟩)
  have fin : ∀ (e : Ending) (w' : World), (e = .returned (.bool true) ∧ Frm (fun _ => False) w w' ∧ True) → e = .returned (.bool true) ∧ Old w w' := fun e w' ⟨a, o, _⟩ => ⟨a, o⟩
  by_cases h1 : s.kind = 1
  · exact (does_1 _ _ s h1 1 _ _ w (sh (fun W => bring_no none s.coins W (NM.nil W)) (fun W => rbring_nil s.coins W))).mono fin
  by_cases h2 : s.kind = 2
  · exact (does_2 _ _ s h2 1 _ _ w (sh (fun W => hold_no none s.lot s.coins W (NM.nil W)) (fun W => rhold_nil s.lot s.coins W))).mono fin
  by_cases h3 : s.kind = 3
  · exact (does_3 _ _ s h3 1 0 _ _ w (sh (fun W => rel_no none s.lot W (NM.nil W)) (fun W => rrel_nil s.lot W))).mono fin
  by_cases h4 : s.kind = 4
  · exact (does_4 _ _ s h4 1 _ _ w (sh (fun W => pay_no none s.lot s.coins W (NM.nil W)) (fun W => rpay_nil s.lot s.coins W))).mono fin
  by_cases h5 : s.kind = 5
  · exact (does_5 _ _ s h5 1 _ _ w (sh (fun W => take_no none s.coins W (NM.nil W)) (fun W => rtake_nil s.coins W))).mono fin
  by_cases h6 : s.kind = 6
  · exact (does_6 _ _ s h6 false _ _ w (sh (fun W => can_no none s.lot s.coins W (NM.nil W)) (fun W => rcan_nil s.lot s.coins W))).mono fin
  by_cases h9 : s.kind = 9
  · exact does_9 _ _ s h9 [] w (AllF.none (NM.nil w)) rfl (by simp)
  exact does_0 _ _ s ⟨h1, h2, h3, h4, h5, h6, h9⟩ w

/-- An account that is there, and the document's. -/
structure Pk where
  ab : Nat
  bi : Nat
  bm : Nat
  rb : Nat
  bud : Int
  sp : Int
  R : List Hd
def Pk.p (k : Option Pk) : Option Addr := k.map (fun k => ⟨k.ab, 0, none⟩)
def Pk.q (k : Option Pk) : Option Addr := k.map (fun k => ⟨k.rb, 0, none⟩)
structure Pk.Is (k : Pk) (w : World) : Prop where
  acc : Acc w k.ab k.bi k.bm k.bud k.sp k.R
  rf : Rf w k.rb k.bud k.sp k.R
  ok : OkA k.bud k.sp k.R
theorem Pk.Is.frm {k : Pk} {S : Nat → Prop} {w w' : World} (h : k.Is w) (f : Frm S w w') (h0 : ¬ S k.ab) (h1 : ¬ S k.bi) (h2 : ¬ S k.bm) (h3 : ¬ S k.rb) (h4 : ∀ j, S j → ¬ HRow w j) : k.Is w' := ⟨h.acc.frm f h0 h1 h2, h.rf.frm f h3 h4, h.ok⟩
theorem Pk.Is.old {k : Pk} {w w' : World} (h : k.Is w) (o : Old w w') : k.Is w' := ⟨h.acc.old o, h.rf.old o, h.ok⟩
theorem Pk.Is.lt {k : Pk} {w : World} (h : k.Is w) : k.ab < w.heap.size ∧ k.bi < w.heap.size ∧ k.bm < w.heap.size ∧ k.rb < w.heap.size := ⟨blk_lt h.acc.a, blk_lt h.acc.ins.i, h.acc.ins.m.lt, h.rf.lt⟩

/-- Three of them, some not there. -/
structure PW (w0 w : World) (bt br : Nat) (st : Nat → Option Pk) : Prop where
  tb : w.heap[bt]? = some (.cells #[.pointer (Pk.p (st 0)), .pointer (Pk.p (st 1)), .pointer (Pk.p (st 2))] 38 (0, 0))
  rb : w.heap[br]? = some (.cells #[.pointer (Pk.q (st 0)), .pointer (Pk.q (st 1)), .pointer (Pk.q (st 2))] 39 (0, 0))
  is : ∀ i k, i < 3 → st i = some k → k.Is w
  ne : ∀ i j k l, i < 3 → j < 3 → i ≠ j → st i = some k → st j = some l → k.bi ≠ l.bi ∧ k.bm ≠ l.bm ∧ k.rb ≠ l.rb
  lo : w0.heap.size ≤ bt ∧ w0.heap.size ≤ br ∧ ∀ i k, i < 3 → st i = some k → w0.heap.size ≤ k.bi ∧ w0.heap.size ≤ k.bm ∧ w0.heap.size ≤ k.rb
  old : Old w0 w

theorem PW.olds {w0 w w' : World} {bt br : Nat} {st : Nat → Option Pk} (h : PW w0 w bt br st) (o : Old w w') : PW w0 w' bt br st :=
  ⟨(o.block _ (blk_lt h.tb) (fun e => e)).trans h.tb, (o.block _ (blk_lt h.rb) (fun e => e)).trans h.rb, fun i k hi hk => (h.is i k hi hk).old o, h.ne, h.lo, h.old.trans o⟩

theorem PW.cell {w0 w : World} {bt br : Nat} {st : Nat → Option Pk} (h : PW w0 w bt br st) {k : Nat} (hk : k < 3) : w.cell? ⟨bt, k, none⟩ = some (.pointer (Pk.p (st k))) ∧ w.cell? ⟨br, k, none⟩ = some (.pointer (Pk.q (st k))) := by
  match k, hk with
  | 0, _ => exact ⟨blk_cells h.tb rfl, blk_cells h.rb rfl⟩
  | 1, _ => exact ⟨blk_cells h.tb rfl, blk_cells h.rb rfl⟩
  | 2, _ => exact ⟨blk_cells h.tb rfl, blk_cells h.rb rfl⟩

def upS (st : Nat → Option Pk) (j : Nat) (k : Option Pk) : Nat → Option Pk := fun i => if i = j then k else st i

/-- A step at one of them. -/
theorem PW.step {w0 w w' : World} {bt br i : Nat} {st : Nat → Option Pk} {k : Pk} (h : PW w0 w bt br st) (hi : i < 3) (hk : st i = some k) (f : Frm (fun j => j = k.bi ∨ j = k.bm ∨ j = k.rb) w w') {b s : Int} {M : List Hd}
    (ha : Acc w' k.ab k.bi k.bm b s M) (hr : Rf w' k.rb b s M) (ho : OkA b s M) : PW w0 w' bt br (upS st i (some { k with bud := b, sp := s, R := M })) := by
  have hI := h.is i k hi hk
  obtain ⟨ao, cap, hRa⟩ := hI.rf
  have keep : ∀ {a : Nat} {c : Array Value} {t : TypeId} {z : Nat × Nat}, w.heap[a]? = some (.cells c t z) → t ≠ 78 → t ≠ 73 → ¬ (a = k.bi ∨ a = k.bm ∨ a = k.rb) := by
    rintro a c t z hc h1 h2 (e | e | e)
    · exact typ_ne hc hI.acc.ins.i h1 e
    · exact map_ne hc hI.acc.ins.m e
    · exact typ_ne hc hRa.blk h2 e
  have hp : ∀ j, Pk.p (upS st i (some { k with bud := b, sp := s, R := M }) j) = Pk.p (st j) := fun j => by
    unfold upS
    by_cases e : j = i
    · rw [if_pos e, e, hk]; rfl
    · rw [if_neg e]
  have hq : ∀ j, Pk.q (upS st i (some { k with bud := b, sp := s, R := M }) j) = Pk.q (st j) := fun j => by
    unfold upS
    by_cases e : j = i
    · rw [if_pos e, e, hk]; rfl
    · rw [if_neg e]
  have hu : ∀ j l, upS st i (some { k with bud := b, sp := s, R := M }) j = some l → (j = i ∧ l = { k with bud := b, sp := s, R := M }) ∨ (j ≠ i ∧ st j = some l) := fun j l e => by
    unfold upS at e
    by_cases e2 : j = i
    · rw [if_pos e2] at e; exact .inl ⟨e2, (Option.some.inj e).symm⟩
    · rw [if_neg e2] at e; exact .inr ⟨e2, e⟩
  refine ⟨?_, ?_, ?_, ?_, ⟨h.lo.1, h.lo.2.1, ?_⟩, Frm.trans h.old f (fun j hj e => ?_)⟩
  · rw [hp, hp, hp]
    exact (f.block _ (blk_lt h.tb) (keep h.tb (by decide) (by decide))).trans h.tb
  · rw [hq, hq, hq]
    exact (f.block _ (blk_lt h.rb) (keep h.rb (by decide) (by decide))).trans h.rb
  · intro j l hj hl
    rcases hu j l hl with ⟨rfl, rfl⟩ | ⟨hne, hl⟩
    · exact ⟨ha, hr, ho⟩
    · have hJ := h.is j l hj hl
      obtain ⟨n1, n2, n3⟩ := h.ne j i l k hj hi hne hl hk
      obtain ⟨ao2, cap2, hRb⟩ := hJ.rf
      refine hJ.frm f (keep hJ.acc.a (by decide) (by decide)) ?_ ?_ ?_ ?_
      · rintro (e | e | e)
        · exact n1 e
        · exact map_ne hJ.acc.ins.i hI.acc.ins.m e
        · exact typ_ne hJ.acc.ins.i hRa.blk (by decide) e
      · rintro (e | e | e)
        · exact map_ne hI.acc.ins.i hJ.acc.ins.m e.symm
        · exact n2 e
        · exact map_ne hRa.blk hJ.acc.ins.m e.symm
      · rintro (e | e | e)
        · exact typ_ne hRb.blk hI.acc.ins.i (by decide) e
        · exact map_ne hRb.blk hI.acc.ins.m e
        · exact n3 e
      · rintro j2 hj2 ⟨c, z, hc⟩
        exact keep hc (by decide) (by decide) hj2
  · intro a c l m ha' hc hac hl hm
    rcases hu a l hl with ⟨e1, e2⟩ | ⟨hne, hl9⟩
    · rcases hu c m hm with ⟨e3, e4⟩ | ⟨hne2, hm9⟩
      · exact absurd (e1.trans e3.symm) hac
      · have := h.ne a c k m ha' hc hac (e1 ▸ hk) hm9
        rw [e2]
        exact this
    · rcases hu c m hm with ⟨e3, e4⟩ | ⟨hne2, hm9⟩
      · have := h.ne a c l k ha' hc hac hl9 (e3 ▸ hk)
        rw [e4]
        exact this
      · exact h.ne a c l m ha' hc hac hl9 hm9
  · intro j l hj hl
    rcases hu j l hl with ⟨rfl, rfl⟩ | ⟨hne, hl⟩
    · exact h.lo.2.2 j k hj hk
    · exact h.lo.2.2 j l hj hl
  · obtain ⟨l1, l2, l3⟩ := h.lo.2.2 i k hi hk
    rcases e with e | e | e <;> omega

/-- One in the place of another. -/
theorem PW.put {w0 w w2 w4 : World} {bt br j : Nat} {st : Nat → Option Pk} {k : Option Pk} (h : PW w0 w bt br st) (o2 : Old w w2) (hk : ∀ l, k = some l → l.Is w2 ∧ w.heap.size ≤ l.bi ∧ w.heap.size ≤ l.bm ∧ w.heap.size ≤ l.rb)
    (f4 : Frm (fun q => q = bt ∨ q = br) w2 w4) (h1 : w4.heap[bt]? = some (.cells #[.pointer (Pk.p (upS st j k 0)), .pointer (Pk.p (upS st j k 1)), .pointer (Pk.p (upS st j k 2))] 38 (0, 0)))
    (h2 : w4.heap[br]? = some (.cells #[.pointer (Pk.q (upS st j k 0)), .pointer (Pk.q (upS st j k 1)), .pointer (Pk.q (upS st j k 2))] 39 (0, 0))) : PW w0 w4 bt br (upS st j k) := by
  have hO := h.olds o2
  have keep : ∀ {a : Nat} {c : Array Value} {t : TypeId} {z : Nat × Nat}, w2.heap[a]? = some (.cells c t z) → t ≠ 38 → t ≠ 39 → ¬ (a = bt ∨ a = br) := by
    rintro a c t z hc h1 h2 (e | e)
    · exact typ_ne hc hO.tb h1 e
    · exact typ_ne hc hO.rb h2 e
  have keepI : ∀ l : Pk, l.Is w2 → l.Is w4 := fun l hl => by
    obtain ⟨ao, cap, hRa⟩ := hl.rf
    refine hl.frm f4 (keep hl.acc.a (by decide) (by decide)) (keep hl.acc.ins.i (by decide) (by decide)) ?_ (keep hRa.blk (by decide) (by decide)) ?_
    · rintro (e | e)
      · exact map_ne hO.tb hl.acc.ins.m e.symm
      · exact map_ne hO.rb hl.acc.ins.m e.symm
    · rintro j2 hj2 ⟨c, z, hc⟩
      exact keep hc (by decide) (by decide) hj2
  have hu : ∀ i l, upS st j k i = some l → (i = j ∧ k = some l) ∨ (i ≠ j ∧ st i = some l) := fun i l e => by
    unfold upS at e
    by_cases e2 : i = j
    · rw [if_pos e2] at e; exact .inl ⟨e2, e⟩
    · rw [if_neg e2] at e; exact .inr ⟨e2, e⟩
  have hs0 := h.old.size
  refine ⟨h1, h2, ?_, ?_, ⟨h.lo.1, h.lo.2.1, ?_⟩, Frm.trans hO.old f4 (fun i hi e => by have := h.lo; rcases e with e | e <;> omega)⟩
  · intro i l hi hl
    rcases hu i l hl with ⟨_, hl⟩ | ⟨_, hl⟩
    · exact keepI l (hk l hl).1
    · exact keepI l (hO.is i l hi hl)
  · intro a c l m ha hc hac hl hm
    rcases hu a l hl with ⟨e1, hl9⟩ | ⟨hne, hl9⟩
    · rcases hu c m hm with ⟨e3, hm9⟩ | ⟨hne2, hm9⟩
      · exact absurd (e1.trans e3.symm) hac
      · have := (hk l hl9).2
        have := (h.is c m hc hm9).lt
        omega
    · rcases hu c m hm with ⟨e3, hm9⟩ | ⟨hne2, hm9⟩
      · have := (hk m hm9).2
        have := (h.is a l ha hl9).lt
        omega
      · exact h.ne a c l m ha hc hac hl9 hm9
  · intro i l hi hl
    rcases hu i l hl with ⟨_, hl⟩ | ⟨_, hl⟩
    · have := (hk l hl).2
      omega
    · exact h.lo.2.2 i l hi hl
end Go.Proofs.Ythibbenkibjghaa
