/- Bytes that came in; a reader of them; the document's reader. -/
import Derived.Test.YtchjkcghaddmhaaM1
import Derived.Test.YtchjkcghaddmhaaK1
namespace Go.Proofs.Ytchjkcghaddmhaa
open Go.RowKit

/-- A slice that came in holds the bytes xs. -/
structure Src (w : World) (ao : Option Addr) (cap : Nat) (xs : List UInt8) : Prop where
  nil : ao = none → xs = [] ∧ cap = 0
  le : xs.length ≤ cap
  cells : ∀ i (h : i < xs.length), ∃ g o, ao = some ⟨g, o, none⟩ ∧ g < w.heap.size ∧ w.cell? ⟨g, o + i, none⟩ = some (.int .u8 (xs[i].toNat : Int))

theorem Src.grow {w w' : World} {ao : Option Addr} {cap : Nat} {xs : List UInt8} (h : Src w ao cap xs) (hf : Frm (fun _ => False) w w') : Src w' ao cap xs :=
  ⟨h.nil, h.le, fun i hi => by
    obtain ⟨g, o, h1, h2, h3⟩ := h.cells i hi
    refine ⟨g, o, h1, Nat.lt_of_lt_of_le h2 hf.size, ?_⟩
    rw [World.cell?_of_block (w := w) (hf.block g h2 (fun e => e))]; exact h3⟩

theorem Src.news {w : World} {ad : Addr} {cap : Nat} {xs : List UInt8} (h : Src w (some ad) cap xs) : ∀ (j : Nat) (u : Value), (xs.map byteV)[j]? = some u → w.cell? (ad.add j) = some u := by
  intro j u hu
  have hj : j < xs.length := by
    rcases Nat.lt_or_ge j xs.length with h | h
    · exact h
    · rw [List.getElem?_eq_none (by simpa using h)] at hu; cases hu
  obtain ⟨g, o, h1, _, h3⟩ := h.cells j hj
  cases h1
  rw [Addr.add_lit, h3]
  simp [hj] at hu
  rw [← hu]
  rfl

set_option maxRecDepth 100000 in
set_option maxHeartbeats 1000000 in
theorem fresh_src (ao : Option Addr) (cap : Nat) (xs : List UInt8) (w : World) (hs : Src w ao cap xs) (hlen : xs.length ≤ 900000000000) :
    Calls Try.prog 53 #[.slice ao xs.length cap] w fun e w' => ∃ v', e = .returned v' ∧ Row w' w.heap.size v' v'.ownBlock xs ∧ Frm (fun _ => False) w w' := by
  obtain ⟨i0, hi0, hz0, hz1, hz2⟩ := info_parts Try.info5
  cases ao with
  | none =>
    obtain ⟨rfl, rfl⟩ := hs.nil rfl
    go_enter Try.func53, Try.ntmps53
    go_wp2_with (at_builtin; refine wpList_append_own_none (by rfl) _ _ 25 (by rfl) w.heap.size 5 i0 1 Try.underlying25 hi0 (.slice none 0 0) 0 [] (by rfl) (World.ownsRow_nil _ _ _ _) (by rfl) ?_)
    go_ret
    exact ⟨_, rfl, ⟨rfl, World.ownsRow_nil _ _ _ _⟩, Frm.refl _ _⟩
  | some ad =>
    have hcells := hs.news
    clear hs
    go_enter Try.func53, Try.ntmps53
    go_wp2_with (at_builtin; refine wpList_append_own _ (by rfl) _ _ 25 (by rfl) w.heap.size 5 i0 _ 1 1 Try.underlying25 hi0 hz0 hz1 hz2 rfl (by omega) (.slice none 0 0) 0 [] (by rfl) (World.ownsRow_nil _ _ _ _) ad xs.length cap (xs.map byteV) (by rfl) (by simp) hcells (by intro u hu; simp at hu; obtain ⟨x, _, rfl⟩ := hu; rfl) (by unfold maxLen; omega) (by omega) (Nat.le_refl _) ?_; intro v' w' hown hgrow _)
    go_ret
    simp only [Nat.zero_add, List.nil_append] at hown
    exact ⟨v', rfl, ⟨rfl, hown⟩, ⟨hgrow.os, hgrow.tape, hgrow.output, hgrow.size, fun k hk _ => hgrow.block k hk (by simp [Value.ownBlock])⟩⟩

set_option maxHeartbeats 1000000 in
theorem newReader_src (ao : Option Addr) (cap : Nat) (xs : List UInt8) (w : World) (hs : Src w ao cap xs) (hlen : xs.length ≤ 900000000000) :
    Calls Try.prog 16 #[.slice ao xs.length cap] w fun e w' => NewRd w xs e w' := by
  go_enter Try.func16, Try.ntmps16
  go_wp2_with fail
  refine (fresh_src ao cap xs _ hs hlen).mono ?_
  rintro e w1 ⟨v', rfl, hrow', hf⟩
  obtain ⟨ao', cap', rfl⟩ := slice_of_owns hrow'.2
  go_wp2
  go_ret
  exact newRd_of hrow' hf

/-- The document's reader in a world that grew out of w0: block db, over the bytes that came in. -/
structure RR (w0 W : World) (db : Nat) (ao : Option Addr) (cap : Nat) (xs : List UInt8) (p : Nat) : Prop where
  src : Src w0 ao cap xs
  blk : W.heap[db]? = some (.cells #[.slice ao xs.length cap, .int .i64 (p : Int)] 48 (0, 0))
  frm : Frm (fun _ => False) w0 W
  ge : w0.heap.size ≤ db
  le : p ≤ xs.length

theorem RR.lt {w0 W : World} {db : Nat} {ao : Option Addr} {cap : Nat} {xs : List UInt8} {p : Nat} (h : RR w0 W db ao cap xs p) : db < W.heap.size := (Array.getElem?_eq_some_iff.1 h.blk).1

theorem RR.kept {w0 W W' : World} {db : Nat} {ao : Option Addr} {cap : Nat} {xs : List UInt8} {p : Nat} {S : Nat → Prop} (h : RR w0 W db ao cap xs p) (hf : Frm S W W') (hdb : ¬ S db) (hS : ∀ k, S k → w0.heap.size ≤ k) : RR w0 W' db ao cap xs p :=
  ⟨h.src, by rw [hf.block db h.lt hdb]; exact h.blk, h.frm.trans hf (fun i hi e => by have := hS i e; omega), h.ge, h.le⟩

theorem RR.grow {w0 W W' : World} {db : Nat} {ao : Option Addr} {cap : Nat} {xs : List UInt8} {p : Nat} (h : RR w0 W db ao cap xs p) (hf : Frm (fun _ => False) W W') : RR w0 W' db ao cap xs p :=
  h.kept hf (fun e => e) (fun _ e => e.elim)

theorem RR.cells {w0 W : World} {db : Nat} {ao : Option Addr} {cap : Nat} {xs : List UInt8} {p : Nat} (h : RR w0 W db ao cap xs p) :
    W.cell? ⟨db, 0, none⟩ = some (.slice ao xs.length cap) ∧ W.cell? ⟨db, 1, none⟩ = some (.int .i64 (p : Int)) ∧ W.frozen? ⟨db, 1, none⟩ = false := by
  have := h.blk
  refine ⟨?_, ?_, ?_⟩ <;> simp [World.cell?, World.frozen?, this]

theorem RR.byte {w0 W : World} {db : Nat} {ao : Option Addr} {cap : Nat} {xs : List UInt8} {p : Nat} (h : RR w0 W db ao cap xs p) (i : Nat) (hi : i < xs.length) :
    ∃ g o, ao = some ⟨g, o, none⟩ ∧ W.cell? ⟨g, o + i, none⟩ = some (.int .u8 (xs[i].toNat : Int)) := by
  obtain ⟨g, o, h1, _, h3⟩ := (h.src.grow h.frm).cells i hi
  exact ⟨g, o, h1, h3⟩

theorem RR.set {w0 W : World} {db : Nat} {ao : Option Addr} {cap : Nat} {xs : List UInt8} {p q : Nat} (h : RR w0 W db ao cap xs p) (hq : q ≤ xs.length) :
    RR w0 (W.setCell ⟨db, 1, none⟩ (.int .i64 (q : Int))) db ao cap xs q ∧ Frm (fun k => k = db) W (W.setCell ⟨db, 1, none⟩ (.int .i64 (q : Int))) := by
  have hf : Frm (fun k => k = db) W (W.setCell ⟨db, 1, none⟩ (.int .i64 (q : Int))) := (Frm.refl (fun k => k = db) W).setCell ⟨db, 1, none⟩ (.inr rfl) _
  refine ⟨⟨h.src, ?_, h.frm.trans hf (fun i hi e => by have := h.ge; omega), h.ge, hq⟩, hf⟩
  have := h.blk
  simp [World.setCell, Array.getElem?_modify, this]

set_option maxHeartbeats 1000000 in
theorem refLeft_any {w0 : World} (db : Nat) (ao : Option Addr) (cap : Nat) (xs : List UInt8) (p : Nat) (w : World) (hr : RR w0 w db ao cap xs p) (hlen : xs.length ≤ 900000000000) :
    Calls Try.prog 20 #[.pointer (some ⟨db, 0, none⟩)] w fun e w' => e = .returned (.int .i64 ((xs.length : Int) - (p : Int))) ∧ ∃ n, w' = w.drewN n := by
  obtain ⟨hc0, hc1, _⟩ := hr.cells
  have hle := hr.le
  go_enter Try.func20, Try.ntmps20
  go_wp2_with fail
  go_quiet (fail)
  go_wp2
  go_ret
  exact ⟨rfl, _, rfl⟩

/-- What the document's reader leaves. -/
def RNum (w0 w : World) (db : Nat) (ao : Option Addr) (cap : Nat) (xs : List UInt8) (p : Nat) (t : Int × Int × Nat) (e : Ending) (w' : World) : Prop :=
  e = .returned (.tuple #[.int .u64 t.1, .int .i64 t.2.1]) ∧ RR w0 w' db ao cap xs (p + t.2.2) ∧ Frm (fun k => k = db) w w'

set_option maxRecDepth 100000 in
set_option maxHeartbeats 2000000 in
theorem refNum_end {w0 : World} (db : Nat) (ao : Option Addr) (cap : Nat) (xs : List UInt8) (p : Nat) (w : World) (hr : RR w0 w db ao cap xs p) (hlen : xs.length ≤ 900000000000) (h : xs.drop p = []) :
    Calls Try.prog 33 #[.pointer (some ⟨db, 0, none⟩)] w fun e w' => RNum w0 w db ao cap xs p (0, 110, 0) e w' := by
  have hle := hr.le
  have hl := congrArg List.length h
  simp only [List.length_drop, List.length_nil] at hl
  have hd : (xs.length : Int) - (p : Int) < 1 := by omega
  go_enter Try.func33, Try.ntmps33
  go_wp2_with fail
  refine (refLeft_any db ao cap xs p _ hr hlen).mono ?_
  rintro e w1 ⟨rfl, k, rfl⟩
  go_wp2
  go_ret2
  exact ⟨rfl, hr.grow ((Frm.refl _ w).drewN k), (Frm.refl _ w).drewN k⟩

set_option maxRecDepth 100000 in
set_option maxHeartbeats 2000000 in
theorem refNum_one {w0 : World} (db : Nat) (ao : Option Addr) (cap : Nat) (xs l : List UInt8) (c : UInt8) (p : Nat) (w : World) (hr : RR w0 w db ao cap xs p) (hlen : xs.length ≤ 900000000000) (h : xs.drop p = c :: l) (hc : c.toNat ≤ 247) :
    Calls Try.prog 33 #[.pointer (some ⟨db, 0, none⟩)] w fun e w' => RNum w0 w db ao cap xs p (c.toNat, 0, 1) e w' := by
  have hle := hr.le
  obtain ⟨hlt, hdp, hl⟩ := drop_cons h
  have hcv : xs[p] = c := by
    have := List.getElem_drop (xs := xs) (i := p) (j := 0) (h := by simp; omega)
    simp only [h] at this
    simpa using this.symm
  have hd : ¬ (xs.length : Int) - (p : Int) < 1 := by omega
  clear h hdp
  go_enter Try.func33, Try.ntmps33
  go_wp2_with fail
  refine (refLeft_any db ao cap xs p _ hr hlen).mono ?_
  rintro e w1 ⟨rfl, k, rfl⟩
  have hr1 := hr.grow ((Frm.refl (fun _ => False) w).drewN k)
  have hf1 : Frm (fun k => k = db) w (w.drewN k) := (Frm.refl _ w).drewN k
  generalize w.drewN k = w1 at *
  clear hr
  obtain ⟨hc0, hc1, hz1⟩ := hr1.cells
  obtain ⟨g, o, hao, hcell⟩ := hr1.byte p hlt
  rw [hcv] at hcell
  clear hcv
  subst hao
  have hcb := c.toNat_lt
  have b1 : (0 : Int) ≤ (p : Int) := by omega
  have b2 : (p : Int) < (xs.length : Int) := by omega
  go_wp2_with fail
  go_quiet (fail)
  have hr2 := hr1.grow ((Frm.refl (fun _ => False) w1).drewN nq)
  have hf2 := hf1.drewN nq
  generalize w1.drewN nq = w2 at *
  clear hr1 hf1 hc0 hc1 hz1
  obtain ⟨hc0, hc1, hz1⟩ := hr2.cells
  have hst := hid (hr2.set (q := p + 1) (by omega))
  go_wp2
  go_ret2
  exact ⟨rfl, hst.out.1, hf2.trans hst.out.2 (fun _ _ h => h)⟩

set_option maxRecDepth 100000 in
set_option maxHeartbeats 2000000 in
theorem refNum_short {w0 : World} (db : Nat) (ao : Option Addr) (cap : Nat) (xs l : List UInt8) (c : UInt8) (p : Nat) (w : World) (hr : RR w0 w db ao cap xs p) (hlen : xs.length ≤ 900000000000) (h : xs.drop p = c :: l) (hc : ¬ c.toNat ≤ 247) (hs : l.length < c.toNat - 247) :
    Calls Try.prog 33 #[.pointer (some ⟨db, 0, none⟩)] w fun e w' => RNum w0 w db ao cap xs p (0, 110, 0) e w' := by
  have hle := hr.le
  obtain ⟨hlt, hdp, hl⟩ := drop_cons h
  have hcv : xs[p] = c := by
    have := List.getElem_drop (xs := xs) (i := p) (j := 0) (h := by simp; omega)
    simp only [h] at this
    simpa using this.symm
  have hd : ¬ (xs.length : Int) - (p : Int) < 1 := by omega
  clear h hdp
  go_enter Try.func33, Try.ntmps33
  go_wp2_with fail
  refine (refLeft_any db ao cap xs p _ hr hlen).mono ?_
  rintro e w1 ⟨rfl, k, rfl⟩
  have hr1 := hr.grow ((Frm.refl (fun _ => False) w).drewN k)
  have hf1 : Frm (fun k => k = db) w (w.drewN k) := (Frm.refl _ w).drewN k
  generalize w.drewN k = w1 at *
  clear hr
  obtain ⟨hc0, hc1, hz1⟩ := hr1.cells
  obtain ⟨g, o, hao, hcell⟩ := hr1.byte p hlt
  rw [hcv] at hcell
  clear hcv
  subst hao
  have hcb := c.toNat_lt
  have b1 : (0 : Int) ≤ (p : Int) := by omega
  have b2 : (p : Int) < (xs.length : Int) := by omega
  go_wp2_with fail
  go_quiet (fail)
  have hr2 := hr1.grow ((Frm.refl (fun _ => False) w1).drewN nq)
  have hf2 := hf1.drewN nq
  generalize w1.drewN nq = w2 at *
  clear hr1 hf1 hc0 hc1 hz1 hcell
  have hd2 : (xs.length : Int) - (p : Int) < 1 + ((c.toNat : Int) - 247) := by omega
  go_wp2_with fail
  refine (refLeft_any db _ cap xs p _ hr2 hlen).mono ?_
  rintro e w3 ⟨rfl, k2, rfl⟩
  go_wp2
  go_ret2
  exact ⟨rfl, hr2.grow ((Frm.refl _ w2).drewN k2), hf2.drewN k2⟩

/-- The same as numbers over Nat. -/
def valN (a : Nat) (l : List UInt8) : Nat := l.foldl (fun a c => a * 256 + c.toNat) a

theorem val_valN (l : List UInt8) : val l = (valN 0 l : Int) := by
  suffices h : ∀ (l : List UInt8) (a : Nat), l.foldl (fun (a : Int) c => a * 256 + (c.toNat : Int)) (a : Int) = (valN a l : Int) from h l 0
  intro l
  induction l with
  | nil => intro a; rfl
  | cons c l ih =>
    intro a
    simp only [List.foldl_cons, valN]
    have := ih (a * 256 + c.toNat)
    simp only [valN] at this
    rw [← this]
    congr 1

theorem valN_eq (l : List UInt8) : ∀ a, valN a l = a * 256 ^ l.length + valN 0 l := by
  induction l with
  | nil => intro a; simp [valN]
  | cons c l ih =>
    intro a
    have h1 := ih (a * 256 + c.toNat)
    have h2 := ih (0 * 256 + c.toNat)
    simp only [valN, List.foldl_cons, List.length_cons] at *
    rw [h1, h2, Nat.pow_succ]
    simp only [Nat.zero_mul, Nat.zero_add, Nat.add_mul, Nat.mul_assoc, Nat.add_assoc]
    rw [Nat.mul_comm 256 (256 ^ l.length)]

theorem valN_lt (l : List UInt8) : valN 0 l < 256 ^ l.length := by
  induction l with
  | nil => simp [valN]
  | cons c l ih =>
    have h := valN_eq l c.toNat
    have hc := c.toNat_lt
    have e : valN 0 (c :: l) = valN c.toNat l := by simp [valN]
    rw [e, h, List.length_cons, Nat.pow_succ, Nat.mul_comm (256 ^ l.length)]
    have : c.toNat * 256 ^ l.length ≤ 255 * 256 ^ l.length := Nat.mul_le_mul_right _ (by omega)
    omega

theorem be_valN (l : List UInt8) : ∀ a, be l.length (valN a l) = l := by
  induction l with
  | nil => intro a; rfl
  | cons c l ih =>
    intro a
    have e : valN a (c :: l) = valN (a * 256 + c.toNat) l := by simp [valN]
    rw [e, List.length_cons]
    simp only [be]
    rw [ih]
    congr 1
    rw [valN_eq, Nat.mul_comm, Nat.mul_add_div (Nat.pow_pos (by decide)), Nat.div_eq_of_lt (valN_lt l), Nat.add_zero, ofNat_mod]
    have hc := c.toNat_lt
    rw [show (a * 256 + c.toNat) % 256 = c.toNat from by omega]
    simp

/-- A form that is read is a number's form just where it is as long as that. -/
theorem form_iff (c : UInt8) (l : List UInt8) (n : Nat) (hn : l.length = n) (hc : c.toNat = 247 + n) (h1 : 1 ≤ n) (h8 : n ≤ 8) :
    (numF (val l).toNat == c :: l) = decide (sz (val l).toNat = 1 + n) := by
  rw [val_valN, Int.toNat_natCast]
  have hbv := be_valN l 0
  rw [hn] at hbv
  generalize valN 0 l = X at *
  by_cases h : sz X = 1 + n
  · have hx : ¬ X ≤ 247 := by
      intro hx
      unfold sz at h
      rw [if_pos hx] at h
      omega
    have hnb : nb X = n := by unfold sz at h; rw [if_neg hx] at h; omega
    rw [decide_eq_true h, beq_iff_eq]
    unfold numF
    rw [if_neg hx, hnb, hbv]
    congr 1
    rw [← hc]; simp
  · rw [decide_eq_false h, beq_eq_false_iff_ne]
    intro e
    have := congrArg List.length e
    rw [numF_length, List.length_cons, hn] at this
    omega

end Go.Proofs.Ytchjkcghaddmhaa
