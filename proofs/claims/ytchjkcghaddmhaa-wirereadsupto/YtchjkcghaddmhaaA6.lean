/- What is asked, of the program's reader and of the document's. -/
import Derived.Test.YtchjkcghaddmhaaA4
import Derived.Test.YtchjkcghaddmhaaA5
import Derived.Test.YtchjkcghaddmhaaB5
namespace Go.Proofs.Ytchjkcghaddmhaa
open Go.RowKit

/-- The slice value over cells that hold the texts L. -/
def TextsC (w : World) (ao : Option Addr) (L : List (List UInt8)) : Prop :=
  ∀ i (h : i < L.length), ∃ g o, ao = some ⟨g, o, none⟩ ∧ w.cell? ⟨g, o + i, none⟩ = some (.string ⟨L[i].toArray⟩)

set_option maxRecDepth 100000 in
set_option maxHeartbeats 1000000 in
theorem sameTexts_any (ao bo : Option Addr) (ca cb n : Nat) (L : List (List UInt8)) (w : World) (hn : L.length = n) (ha : TextsC w ao L) (hb : TextsC w bo L) (hl : n ≤ 1000000000000) :
    Calls Try.prog 62 #[.slice ao n ca, .slice bo n cb] w fun e w' => e = .returned (.bool true) ∧ ∃ n, w' = w.drewN n := by
  subst hn
  go_enter Try.func62, Try.ntmps62
  go_wp2_with fail
  go_loopw [5] (fun s wr => ∃ k : Nat, k ≤ L.length ∧ s = .int .i64 (k : Int) ∧ ∃ n, wr = w.drewN n) (fun s _ => L.length - (intOf s).toNat)
  case atStart => exact ⟨0, Nat.zero_le _, rfl, 0, rfl⟩
  case round =>
    obtain ⟨k, hk, rfl, n, rfl⟩ := hrel
    by_cases hlt : k < L.length
    · obtain ⟨g, o, hao, hc⟩ := ha k hlt
      obtain ⟨g2, o2, hbo, hd⟩ := hb k hlt
      subst hao hbo
      generalize (⟨L[k].toArray⟩ : ByteArray) = y at *
      go_wp2_with fail
      go_quiet (fail)
      go_wp2
      go_roundw
      case rel => exact ⟨k + 1, by omega, by go_num, _, rfl⟩
      case measure => simp [intOf]; omega
    · obtain rfl : k = L.length := by omega
      go_wp2_with fail
      go_ret
      exact ⟨rfl, _, rfl⟩

theorem textsAt_c {w : World} {base : Nat} {ao : Option Addr} {n cap : Nat} {L : List (List UInt8)} (h : TextsAt w base (.slice ao n cap) L) : TextsC w ao L := by
  intro i hi
  rcases h.2 with ⟨_, h0⟩ | ⟨g, cap', cur, hv, _⟩
  · omega
  · injection hv with h1 h2 h3
    subst h1
    refine ⟨g, 0, rfl, ?_⟩
    have := h.cells (g := g) rfl i (strV L[i]) (by simp [hi])
    rw [Addr.add_lit] at this
    exact this

/-- Both readers at one place. -/
structure Both (w0 w : World) (b : Nat) (v : Value) (db : Nat) (ao : Option Addr) (cap : Nat) (xs : List UInt8) (p : Nat) : Prop where
  rd : Rd w b v xs p
  rr : RR w0 w db ao cap xs p
  ne : b ≠ db
  vdb : v.ownBlock ≠ some db
  bge : w0.heap.size ≤ b

def AskOut (w0 w : World) (b : Nat) (v : Value) (db : Nat) (ao : Option Addr) (cap : Nat) (xs : List UInt8) (e : Ending) (w' : World) : Prop :=
  e = .returned (.bool true) ∧ (∃ q, Both w0 w' b v db ao cap xs q) ∧ Frm (fun k => k = b ∨ k = db) w w'

theorem Both.grow {w0 w w' : World} {b : Nat} {v : Value} {db : Nat} {ao : Option Addr} {cap : Nat} {xs : List UInt8} {p : Nat} (h : Both w0 w b v db ao cap xs p) (hf : Frm (fun _ => False) w w') : Both w0 w' b v db ao cap xs p :=
  ⟨h.rd.kept hf (fun e => e) (fun _ _ e => e), h.rr.grow hf, h.ne, h.vdb, h.bge⟩

theorem Both.box {w0 w : World} {b : Nat} {v : Value} {db : Nat} {ao : Option Addr} {cap : Nat} {xs : List UInt8} {p : Nat} (h : Both w0 w b v db ao cap xs p) (o : Obj) : Both w0 (w.alloc o) b v db ao cap xs p :=
  h.grow ((Frm.refl _ w).alloc o)

/-- Behind the program's reader. -/
theorem Both.one {w0 w w1 : World} {b : Nat} {v : Value} {db : Nat} {ao : Option Addr} {cap : Nat} {xs : List UInt8} {p q : Nat} (h : Both w0 w b v db ao cap xs p) (ho : RdOut w b v xs q w1) : RR w0 w1 db ao cap xs p :=
  h.rr.kept ho.2 (fun e => h.ne e.symm) (fun k e => by rw [e]; exact h.bge)

/-- Behind the document's too. -/
theorem Both.two {w0 w w1 w2 : World} {b : Nat} {v : Value} {db : Nat} {ao : Option Addr} {cap : Nat} {xs : List UInt8} {p q : Nat} (h : Both w0 w b v db ao cap xs p) (ho : RdOut w b v xs q w1) (hr : RR w0 w2 db ao cap xs q) (hf : Frm (fun k => k = db) w1 w2) :
    Both w0 w2 b v db ao cap xs q ∧ Frm (fun k => k = b ∨ k = db) w w2 :=
  ⟨⟨ho.1.kept hf (fun e => h.ne e) (fun g hg e => h.vdb (by rw [hg, e])), hr, h.ne, h.vdb, h.bge⟩, (ho.2.mono (fun _ _ e => .inl e)).trans hf (fun _ _ e => .inr e)⟩

theorem ask_out {w0 w w' : World} {o : Obj} {b : Nat} {v : Value} {db : Nat} {ao : Option Addr} {cap : Nat} {xs : List UInt8} {q : Nat} (h : Both w0 w' b v db ao cap xs q ∧ Frm (fun k => k = b ∨ k = db) (w.alloc o) w') : AskOut w0 w b v db ao cap xs (.returned (.bool true)) w' :=
  ⟨rfl, ⟨q, h.1⟩, ((Frm.refl _ w).alloc o).trans h.2 (fun _ _ e => e)⟩

theorem askBox {w w' : World} {b db : Nat} {o : Obj} (hb : b < w.heap.size) (hd : db < w.heap.size) (hf : Frm (fun k => k = b ∨ k = db) (w.alloc o) w') : w'.heap[w.heap.size]? = some o := by
  rw [hf.block _ (by simp) (by omega)]
  exact heap_alloc_new w o

theorem pair_drewN {w0 w w' : World} {b : Nat} {v : Value} {db : Nat} {ao : Option Addr} {cap : Nat} {xs : List UInt8} {q : Nat} (h : Both w0 w' b v db ao cap xs q ∧ Frm (fun k => k = b ∨ k = db) w w') (n : Nat) :
    Both w0 (w'.drewN n) b v db ao cap xs q ∧ Frm (fun k => k = b ∨ k = db) w (w'.drewN n) := ⟨h.1.grow ((Frm.refl _ w').drewN n), h.2.drewN n⟩

set_option maxRecDepth 100000 in
set_option maxHeartbeats 4000000 in
theorem asks_1 {w0 : World} (b : Nat) (v : Value) (db : Nat) (ao : Option Addr) (cap : Nat) (xs : List UInt8) (p : Nat) (n : Int) (w : World) (hB : Both w0 w b v db ao cap xs p) (hlen : xs.length ≤ 900000000000) :
    Calls Try.prog 17 #[.pointer (some ⟨b, 0, none⟩), .pointer (some ⟨db, 0, none⟩), .agg #[.int .i64 1, .int .i64 n]] w fun e w' => AskOut w0 w b v db ao cap xs e w' := by
  have hB2 := fun o => hB.box o
  have hn1 := hid (fun o => rnumber_any b v xs p (w.alloc o) (hB2 o).rd hlen)
  have hn2 := hid (fun w1 hr => refNum_any (w0 := w0) db ao cap xs p w1 hr hlen)
  generalize rdNum (xs.drop p) = t at *
  obtain ⟨x, er, c⟩ := t
  go_enter Try.func17, Try.ntmps17
  go_wp2_with fail
  refine (hn1.out _).mono ?_
  rintro e w1 ⟨rfl, ho⟩
  have hr1 := (hB2 _).one ho
  go_wp2_with fail
  refine (hn2.out _ hr1).mono ?_
  rintro e w2 ⟨rfl, hr2, hf2⟩
  have hfin := hid (ask_out ((hB2 _).two ho hr2 hf2))
  clear hn1 hn2 hr1 hr2 hf2 ho hB2 hB
  go_wp2_with fail
  refine (num_any _ _).mono ?_
  rintro e w3 ⟨rfl, rfl⟩
  go_wp2
  go_ret
  exact hfin.out

theorem rdNum_zero (l : List UInt8) (h : (rdNum l).2.1 ≠ 0) : (rdNum l).1 = 0 := by
  cases l with
  | nil => rfl
  | cons c l =>
    simp only [rdNum] at h ⊢
    split at h
    · exact absurd rfl h
    · rename_i h1
      rw [if_neg h1]
      split at h
      · rename_i h2; rw [if_pos h2]
      · rename_i h2
        rw [if_neg h2]
        split at h
        · exact absurd rfl h
        · rename_i h3; rw [if_neg h3]

set_option maxRecDepth 100000 in
set_option maxHeartbeats 4000000 in
theorem asks_2 {w0 : World} (b : Nat) (v : Value) (db : Nat) (ao : Option Addr) (cap : Nat) (xs : List UInt8) (p : Nat) (n : Int) (w : World) (hB : Both w0 w b v db ao cap xs p) (hlen : xs.length ≤ 900000000000) :
    Calls Try.prog 17 #[.pointer (some ⟨b, 0, none⟩), .pointer (some ⟨db, 0, none⟩), .agg #[.int .i64 2, .int .i64 n]] w fun e w' => AskOut w0 w b v db ao cap xs e w' := by
  have hB2 := fun o => hB.box o
  have hn1 := hid (fun o => rsigned_any b v xs p (w.alloc o) (hB2 o).rd hlen)
  have hn2 := hid (fun w1 hr => refNum_any (w0 := w0) db ao cap xs p w1 hr hlen)
  have hz := rdNum_zero (xs.drop p)
  obtain ⟨f1, f2, f3, f4, f5, f6⟩ := rdNum_facts (xs.drop p)
  generalize rdNum (xs.drop p) = t at *
  obtain ⟨x, er, c⟩ := t
  dsimp only at hz f1 f2
  clear f3 f4 f5 f6
  by_cases he : er = 0
  · subst he
    clear hz
    go_enter Try.func17, Try.ntmps17
    go_wp2_with fail
    refine (hn1.out _).mono ?_
    rintro e w1 ⟨rfl, ho⟩
    have hr1 := (hB2 _).one ho
    go_wp2_with fail
    refine (hn2.out _ hr1).mono ?_
    rintro e w2 ⟨rfl, hr2, hf2⟩
    have hfin := hid (ask_out ((hB2 _).two ho hr2 hf2))
    clear hn1 hn2 hr1 hr2 hf2 ho hB2 hB
    go_wp2_with fail
    refine (refUnfold_any x _ f1 f2).mono ?_
    rintro e w3 ⟨rfl, rfl⟩
    go_wp2_with fail
    refine (num_any _ _).mono ?_
    rintro e w3 ⟨rfl, rfl⟩
    go_wp2
    go_ret
    exact hfin.out
  · have hx := hz he
    subst hx
    have ht : (er != 0) = true := by rw [bne_iff_ne]; exact he
    rw [show unfoldN 0 = 0 from rfl] at hn1
    clear hz he
    go_enter Try.func17, Try.ntmps17
    go_wp2_with fail
    refine (hn1.out _).mono ?_
    rintro e w1 ⟨rfl, ho⟩
    have hr1 := (hB2 _).one ho
    go_wp2_with fail
    refine (hn2.out _ hr1).mono ?_
    rintro e w2 ⟨rfl, hr2, hf2⟩
    have hfin := hid (ask_out ((hB2 _).two ho hr2 hf2))
    clear hn1 hn2 hr1 hr2 hf2 ho hB2 hB
    go_wp2_with fail
    refine (num_any _ _).mono ?_
    rintro e w3 ⟨rfl, rfl⟩
    go_wp2
    go_ret
    exact hfin.out

set_option maxRecDepth 100000 in
set_option maxHeartbeats 4000000 in
theorem asks_3 {w0 : World} (b : Nat) (v : Value) (db : Nat) (ao : Option Addr) (cap : Nat) (xs : List UInt8) (p : Nat) (n : Int) (w : World) (hB : Both w0 w b v db ao cap xs p) (hlen : xs.length ≤ 900000000000) :
    Calls Try.prog 17 #[.pointer (some ⟨b, 0, none⟩), .pointer (some ⟨db, 0, none⟩), .agg #[.int .i64 3, .int .i64 n]] w fun e w' => AskOut w0 w b v db ao cap xs e w' := by
  have hB2 := fun o => hB.box o
  have hn1 := hid (fun o => rflag_any b v xs p (w.alloc o) (hB2 o).rd hlen)
  have hn2 := hid (fun w1 hr => refFlag_any (w0 := w0) db ao cap xs p w1 hr hlen)
  generalize rdFlag (xs.drop p) = t at *
  obtain ⟨x, er, c⟩ := t
  go_enter Try.func17, Try.ntmps17
  go_wp2_with fail
  refine (hn1.out _).mono ?_
  rintro e w1 ⟨rfl, ho⟩
  have hr1 := (hB2 _).one ho
  go_wp2_with fail
  refine (hn2.out _ hr1).mono ?_
  rintro e w2 ⟨rfl, hr2, hf2⟩
  have hfin := hid (ask_out ((hB2 _).two ho hr2 hf2))
  clear hn1 hn2 hr1 hr2 hf2 ho hB2 hB
  go_wp2_with fail
  refine (num_any _ _).mono ?_
  rintro e w3 ⟨rfl, rfl⟩
  go_wp2
  go_ret
  exact hfin.out

set_option maxRecDepth 100000 in
set_option maxHeartbeats 4000000 in
theorem asks_4 {w0 : World} (b : Nat) (v : Value) (db : Nat) (ao : Option Addr) (cap : Nat) (xs : List UInt8) (p : Nat) (n : Int) (w : World) (hB : Both w0 w b v db ao cap xs p) (hlen : xs.length ≤ 900000000000) :
    Calls Try.prog 17 #[.pointer (some ⟨b, 0, none⟩), .pointer (some ⟨db, 0, none⟩), .agg #[.int .i64 4, .int .i64 n]] w fun e w' => AskOut w0 w b v db ao cap xs e w' := by
  have hB2 := fun o => hB.box o
  have hn1 := hid (fun o => rreal_any b v xs p (w.alloc o) (hB2 o).rd hlen)
  have hn2 := hid (fun w1 hr => refReal_any (w0 := w0) db ao cap xs p w1 hr hlen)
  generalize rdReal (xs.drop p) = t at *
  obtain ⟨x, er, c⟩ := t
  have hfb := f64bits x
  go_enter Try.func17, Try.ntmps17
  go_wp2_with fail
  refine (hn1.out _).mono ?_
  rintro e w1 ⟨rfl, ho⟩
  have hr1 := (hB2 _).one ho
  go_wp2_with fail
  refine (hn2.out _ hr1).mono ?_
  rintro e w2 ⟨rfl, hr2, hf2⟩
  have hfin := hid (ask_out ((hB2 _).two ho hr2 hf2))
  clear hn1 hn2 hr1 hr2 hf2 ho hB2 hB
  go_wp2_with fail
  refine (num_any _ _).mono ?_
  rintro e w3 ⟨rfl, rfl⟩
  go_wp2
  go_ret
  exact hfin.out


end Go.Proofs.Ytchjkcghaddmhaa
