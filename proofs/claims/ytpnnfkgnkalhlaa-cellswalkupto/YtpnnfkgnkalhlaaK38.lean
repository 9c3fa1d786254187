/- A bench whose cells are turned, one by one. -/
import Derived.Test.YtpnnfkgnkalhlaaK37
namespace Go.Proofs.Ytpnnfkgnkalhlaa
open Go.RowKit Go.Lib Go.Maps

theorem BenchS.retag {w : World} {τ τ' : Nat → Nat} {B : Names} {p : Option Addr} {s : St} (h : BenchS w τ B p s) (ht : ∀ k, k < w.heap.size → τ' k = τ k) : BenchS w τ' B p s := by
  obtain ⟨lb, sb, hx, t1, t2⟩ := h.cnt
  obtain ⟨c, hcs⟩ := hx.cnt
  obtain ⟨tr, hr⟩ := hx.row
  have hlb : lb < w.heap.size := (Array.getElem?_eq_some_iff.1 (show w.heap[lb]? = _ from hcs.list)).1
  have hcm : B.cm < w.heap.size := World.block_lt_of_cell? w ⟨B.cm, 0, none⟩ hcs.ptr
  have hcn : B.cn < w.heap.size := (Array.getElem?_eq_some_iff.1 hcs.num.choose_spec).1
  have hsb : sb < w.heap.size := (Array.getElem?_eq_some_iff.1 hr).1
  have hbb : B.bb < w.heap.size := World.block_lt_of_cell? w ⟨B.bb, 0, none⟩ h.c0
  have hdm := h.dd.lt
  have hmm : B.mm < w.heap.size := World.block_lt_of_cell? w ⟨B.mm, 0, none⟩ h.mrk.ptr
  have hmn : B.mn < w.heap.size := (Array.getElem?_eq_some_iff.1 h.mrk.num.choose_spec).1
  have hqm : B.qm < w.heap.size := World.block_lt_of_cell? w ⟨B.qm, 0, none⟩ h.bp
  have hqn : B.qn < w.heap.size := (Array.getElem?_eq_some_iff.1 h.bn.choose_spec).1
  have hgm : B.gm < w.heap.size := World.block_lt_of_cell? w ⟨B.gm, 0, none⟩ h.gte.ptr
  have hgn : B.gn < w.heap.size := (Array.getElem?_eq_some_iff.1 h.gte.num.choose_spec).1
  have htm : B.tm < w.heap.size := World.block_lt_of_cell? w ⟨B.tm, 0, none⟩ h.tks.ptr
  have htn : B.tn < w.heap.size := (Array.getElem?_eq_some_iff.1 h.tks.num.choose_spec).1
  refine ⟨h.c0, h.c1, h.c2, h.c3, h.c4, h.c5, h.dd, ?_, ⟨lb, sb, hx, by rw [ht _ hlb]; exact t1, by rw [ht _ hsb]; exact t2⟩, ?_, h.mrk, ?_, h.bp, h.bn, h.bv, h.be, ?_, h.gte, ?_, h.tks, ?_⟩
  · rw [ht _ hbb, ht _ hdm]; exact h.t6
  · rw [ht _ hcm, ht _ hcn]; exact h.t1
  · rw [ht _ hmm, ht _ hmn]; exact h.t2
  · rw [ht _ hqm, ht _ hqn]; exact ⟨h.t3.1, h.t3.2.1, fun a ha => by rw [ht _ (h.bv.lt a ha)]; exact h.t3.2.2 a ha⟩
  · rw [ht _ hgm, ht _ hgn]; exact h.t4
  · rw [ht _ htm, ht _ htn]; exact h.t5

theorem BenchS.upd2 {w w' : World} {S : Nat → Prop} {τ : Nat → Nat} {B : Names} {p : Option Addr} {s : St} {x : Int} (h : BenchS w τ B p s) (f : Frm S w w') (hS : ∀ k, S k → k < w.heap.size → τ k = 2 ∨ τ k = 0 ∨ 7 < τ k) (hN : MarkS w' B.mm B.mn x) : BenchS w' τ B p { s with mr := x } := by
  have hb : ∀ k obj, w.heap[k]? = some obj → (τ k ≠ 0 ∧ τ k ≤ 7 ∧ τ k ≠ 2) → w'.heap[k]? = some obj := fun k obj hk ht => (f.block k (Array.getElem?_eq_some_iff.1 hk).1 (fun e => by have := hS k e (Array.getElem?_eq_some_iff.1 hk).1; omega)).trans hk
  have hc : ∀ k i v, w.cell? ⟨k, i, none⟩ = some v → (τ k ≠ 0 ∧ τ k ≤ 7 ∧ τ k ≠ 2) → w'.cell? ⟨k, i, none⟩ = some v := fun k i v hv ht => frm_cell f hv (fun e => by have := hS k e (World.block_lt_of_cell? w _ hv); omega)
  have hn : ∀ k, (τ k ≠ 0 ∧ τ k ≤ 7 ∧ τ k ≠ 2) → k < w.heap.size → ¬ S k := fun k ht hk e => by have := hS k e hk; omega
  obtain ⟨lb, sb, hx, t1, t2⟩ := h.cnt
  obtain ⟨c, hcs⟩ := hx.cnt
  obtain ⟨tr, hr⟩ := hx.row
  obtain ⟨tb, hbn⟩ := h.bn
  have hlb : lb < w.heap.size := (Array.getElem?_eq_some_iff.1 (show w.heap[lb]? = _ from hcs.list)).1
  have hcm : B.cm < w.heap.size := World.block_lt_of_cell? w ⟨B.cm, 0, none⟩ hcs.ptr
  have hcn : B.cn < w.heap.size := (Array.getElem?_eq_some_iff.1 hcs.num.choose_spec).1
  have hsb : sb < w.heap.size := (Array.getElem?_eq_some_iff.1 hr).1
  have u1 := h.t1
  have u2 := h.t2
  have u3 := h.t3
  have u4 := h.t4
  have u5 := h.t5
  have u6 := h.t6
  refine ⟨hc _ _ _ h.c0 (by omega), hc _ _ _ h.c1 (by omega), hc _ _ _ h.c2 (by omega), hc _ _ _ h.c3 (by omega), hc _ _ _ h.c4 (by omega), hc _ _ _ h.c5 (by omega), h.dd.kept f (hn _ (by omega) h.dd.lt), h.t6, ⟨lb, sb, hx.frm f (hn _ (by omega) hcm) (hn _ (by omega) hcn) (hn _ (by omega) hlb) (hn _ (by omega) hsb), t1, t2⟩, h.t1, hN, h.t2, hc _ _ _ h.bp (by omega), ⟨_, hb _ _ hbn (by omega)⟩, h.bv.frm f (fun a ha => hn _ (by have := u3.2.2 a ha; omega) (h.bv.lt a ha)), h.be, h.t3, ⟨hc _ _ _ h.gte.ptr (by omega), hc _ _ _ h.gte.opens (by omega), ⟨_, hb _ _ h.gte.num.choose_spec (by omega)⟩, h.gte.ne⟩, h.t4, ⟨hc _ _ _ h.tks.ptr (by omega), hc _ _ _ h.tks.many (by omega), ⟨_, hb _ _ h.tks.num.choose_spec (by omega)⟩, h.tks.ne⟩, h.t5⟩


theorem BenchS.upd4 {w w' : World} {S : Nat → Prop} {τ : Nat → Nat} {B : Names} {p : Option Addr} {s : St} {x : Int} (h : BenchS w τ B p s) (f : Frm S w w') (hS : ∀ k, S k → k < w.heap.size → τ k = 4 ∨ τ k = 0 ∨ 7 < τ k) (hN : GateS w' B.gm B.gn s.gt x) : BenchS w' τ B p { s with ar := x } := by
  have hb : ∀ k obj, w.heap[k]? = some obj → (τ k ≠ 0 ∧ τ k ≤ 7 ∧ τ k ≠ 4) → w'.heap[k]? = some obj := fun k obj hk ht => (f.block k (Array.getElem?_eq_some_iff.1 hk).1 (fun e => by have := hS k e (Array.getElem?_eq_some_iff.1 hk).1; omega)).trans hk
  have hc : ∀ k i v, w.cell? ⟨k, i, none⟩ = some v → (τ k ≠ 0 ∧ τ k ≤ 7 ∧ τ k ≠ 4) → w'.cell? ⟨k, i, none⟩ = some v := fun k i v hv ht => frm_cell f hv (fun e => by have := hS k e (World.block_lt_of_cell? w _ hv); omega)
  have hn : ∀ k, (τ k ≠ 0 ∧ τ k ≤ 7 ∧ τ k ≠ 4) → k < w.heap.size → ¬ S k := fun k ht hk e => by have := hS k e hk; omega
  obtain ⟨lb, sb, hx, t1, t2⟩ := h.cnt
  obtain ⟨c, hcs⟩ := hx.cnt
  obtain ⟨tr, hr⟩ := hx.row
  obtain ⟨tb, hbn⟩ := h.bn
  have hlb : lb < w.heap.size := (Array.getElem?_eq_some_iff.1 (show w.heap[lb]? = _ from hcs.list)).1
  have hcm : B.cm < w.heap.size := World.block_lt_of_cell? w ⟨B.cm, 0, none⟩ hcs.ptr
  have hcn : B.cn < w.heap.size := (Array.getElem?_eq_some_iff.1 hcs.num.choose_spec).1
  have hsb : sb < w.heap.size := (Array.getElem?_eq_some_iff.1 hr).1
  have u1 := h.t1
  have u2 := h.t2
  have u3 := h.t3
  have u4 := h.t4
  have u5 := h.t5
  have u6 := h.t6
  refine ⟨hc _ _ _ h.c0 (by omega), hc _ _ _ h.c1 (by omega), hc _ _ _ h.c2 (by omega), hc _ _ _ h.c3 (by omega), hc _ _ _ h.c4 (by omega), hc _ _ _ h.c5 (by omega), h.dd.kept f (hn _ (by omega) h.dd.lt), h.t6, ⟨lb, sb, hx.frm f (hn _ (by omega) hcm) (hn _ (by omega) hcn) (hn _ (by omega) hlb) (hn _ (by omega) hsb), t1, t2⟩, h.t1, ⟨hc _ _ _ h.mrk.ptr (by omega), ⟨_, hb _ _ h.mrk.num.choose_spec (by omega)⟩, h.mrk.ne⟩, h.t2, hc _ _ _ h.bp (by omega), ⟨_, hb _ _ hbn (by omega)⟩, h.bv.frm f (fun a ha => hn _ (by have := u3.2.2 a ha; omega) (h.bv.lt a ha)), h.be, h.t3, hN, h.t4, ⟨hc _ _ _ h.tks.ptr (by omega), hc _ _ _ h.tks.many (by omega), ⟨_, hb _ _ h.tks.num.choose_spec (by omega)⟩, h.tks.ne⟩, h.t5⟩


theorem BenchS.upd5 {w w' : World} {S : Nat → Prop} {τ : Nat → Nat} {B : Names} {p : Option Addr} {s : St} {x : Int} (h : BenchS w τ B p s) (f : Frm S w w') (hS : ∀ k, S k → k < w.heap.size → τ k = 5 ∨ τ k = 0 ∨ 7 < τ k) (hN : TakeS w' B.tm B.tn s.ts x) : BenchS w' τ B p { s with tk := x } := by
  have hb : ∀ k obj, w.heap[k]? = some obj → (τ k ≠ 0 ∧ τ k ≤ 7 ∧ τ k ≠ 5) → w'.heap[k]? = some obj := fun k obj hk ht => (f.block k (Array.getElem?_eq_some_iff.1 hk).1 (fun e => by have := hS k e (Array.getElem?_eq_some_iff.1 hk).1; omega)).trans hk
  have hc : ∀ k i v, w.cell? ⟨k, i, none⟩ = some v → (τ k ≠ 0 ∧ τ k ≤ 7 ∧ τ k ≠ 5) → w'.cell? ⟨k, i, none⟩ = some v := fun k i v hv ht => frm_cell f hv (fun e => by have := hS k e (World.block_lt_of_cell? w _ hv); omega)
  have hn : ∀ k, (τ k ≠ 0 ∧ τ k ≤ 7 ∧ τ k ≠ 5) → k < w.heap.size → ¬ S k := fun k ht hk e => by have := hS k e hk; omega
  obtain ⟨lb, sb, hx, t1, t2⟩ := h.cnt
  obtain ⟨c, hcs⟩ := hx.cnt
  obtain ⟨tr, hr⟩ := hx.row
  obtain ⟨tb, hbn⟩ := h.bn
  have hlb : lb < w.heap.size := (Array.getElem?_eq_some_iff.1 (show w.heap[lb]? = _ from hcs.list)).1
  have hcm : B.cm < w.heap.size := World.block_lt_of_cell? w ⟨B.cm, 0, none⟩ hcs.ptr
  have hcn : B.cn < w.heap.size := (Array.getElem?_eq_some_iff.1 hcs.num.choose_spec).1
  have hsb : sb < w.heap.size := (Array.getElem?_eq_some_iff.1 hr).1
  have u1 := h.t1
  have u2 := h.t2
  have u3 := h.t3
  have u4 := h.t4
  have u5 := h.t5
  have u6 := h.t6
  refine ⟨hc _ _ _ h.c0 (by omega), hc _ _ _ h.c1 (by omega), hc _ _ _ h.c2 (by omega), hc _ _ _ h.c3 (by omega), hc _ _ _ h.c4 (by omega), hc _ _ _ h.c5 (by omega), h.dd.kept f (hn _ (by omega) h.dd.lt), h.t6, ⟨lb, sb, hx.frm f (hn _ (by omega) hcm) (hn _ (by omega) hcn) (hn _ (by omega) hlb) (hn _ (by omega) hsb), t1, t2⟩, h.t1, ⟨hc _ _ _ h.mrk.ptr (by omega), ⟨_, hb _ _ h.mrk.num.choose_spec (by omega)⟩, h.mrk.ne⟩, h.t2, hc _ _ _ h.bp (by omega), ⟨_, hb _ _ hbn (by omega)⟩, h.bv.frm f (fun a ha => hn _ (by have := u3.2.2 a ha; omega) (h.bv.lt a ha)), h.be, h.t3, ⟨hc _ _ _ h.gte.ptr (by omega), hc _ _ _ h.gte.opens (by omega), ⟨_, hb _ _ h.gte.num.choose_spec (by omega)⟩, h.gte.ne⟩, h.t4, hN, h.t5⟩


theorem BenchS.upd1 {w w' : World} {S : Nat → Prop} {τ : Nat → Nat} {B : Names} {p : Option Addr} {s : St} {L : List Int} (h : BenchS w τ B p s) (f : Frm S w w') (hS : ∀ k, S k → k < w.heap.size → τ k = 1 ∨ τ k = 0 ∨ 7 < τ k) (hN : ∃ lb sb, CountX w' B.cm B.cn lb sb L ∧ τ lb = 1 ∧ τ sb = 1) : BenchS w' τ B p { s with L := L } := by
  have hb : ∀ k obj, w.heap[k]? = some obj → (τ k ≠ 0 ∧ τ k ≤ 7 ∧ τ k ≠ 1) → w'.heap[k]? = some obj := fun k obj hk ht => (f.block k (Array.getElem?_eq_some_iff.1 hk).1 (fun e => by have := hS k e (Array.getElem?_eq_some_iff.1 hk).1; omega)).trans hk
  have hc : ∀ k i v, w.cell? ⟨k, i, none⟩ = some v → (τ k ≠ 0 ∧ τ k ≤ 7 ∧ τ k ≠ 1) → w'.cell? ⟨k, i, none⟩ = some v := fun k i v hv ht => frm_cell f hv (fun e => by have := hS k e (World.block_lt_of_cell? w _ hv); omega)
  have hn : ∀ k, (τ k ≠ 0 ∧ τ k ≤ 7 ∧ τ k ≠ 1) → k < w.heap.size → ¬ S k := fun k ht hk e => by have := hS k e hk; omega
  obtain ⟨lb, sb, hx, t1, t2⟩ := h.cnt
  obtain ⟨c, hcs⟩ := hx.cnt
  obtain ⟨tr, hr⟩ := hx.row
  obtain ⟨tb, hbn⟩ := h.bn
  have hlb : lb < w.heap.size := (Array.getElem?_eq_some_iff.1 (show w.heap[lb]? = _ from hcs.list)).1
  have hcm : B.cm < w.heap.size := World.block_lt_of_cell? w ⟨B.cm, 0, none⟩ hcs.ptr
  have hcn : B.cn < w.heap.size := (Array.getElem?_eq_some_iff.1 hcs.num.choose_spec).1
  have hsb : sb < w.heap.size := (Array.getElem?_eq_some_iff.1 hr).1
  have u1 := h.t1
  have u2 := h.t2
  have u3 := h.t3
  have u4 := h.t4
  have u5 := h.t5
  have u6 := h.t6
  refine ⟨hc _ _ _ h.c0 (by omega), hc _ _ _ h.c1 (by omega), hc _ _ _ h.c2 (by omega), hc _ _ _ h.c3 (by omega), hc _ _ _ h.c4 (by omega), hc _ _ _ h.c5 (by omega), h.dd.kept f (hn _ (by omega) h.dd.lt), h.t6, hN, h.t1, ⟨hc _ _ _ h.mrk.ptr (by omega), ⟨_, hb _ _ h.mrk.num.choose_spec (by omega)⟩, h.mrk.ne⟩, h.t2, hc _ _ _ h.bp (by omega), ⟨_, hb _ _ hbn (by omega)⟩, h.bv.frm f (fun a ha => hn _ (by have := u3.2.2 a ha; omega) (h.bv.lt a ha)), h.be, h.t3, ⟨hc _ _ _ h.gte.ptr (by omega), hc _ _ _ h.gte.opens (by omega), ⟨_, hb _ _ h.gte.num.choose_spec (by omega)⟩, h.gte.ne⟩, h.t4, ⟨hc _ _ _ h.tks.ptr (by omega), hc _ _ _ h.tks.many (by omega), ⟨_, hb _ _ h.tks.num.choose_spec (by omega)⟩, h.tks.ne⟩, h.t5⟩


theorem BenchS.upd3 {w w' : World} {S : Nat → Prop} {τ : Nat → Nat} {B : Names} {p : Option Addr} {s : St} {p' : Option Addr} {o : Option (Int × Int)} (h : BenchS w τ B p s) (f : Frm S w w') (hS : ∀ k, S k → k < w.heap.size → τ k = 3 ∨ τ k = 0 ∨ 7 < τ k) (hq : w'.cell? ⟨B.qm, 0, none⟩ = some (.pointer (some ⟨B.qn, 0, none⟩))) (hN : ∃ t, w'.heap[B.qn]? = some (.cells #[.pointer p'] t (0, 0))) (hV : OffV w' p' o) (h7 : ∀ a, p' = some a → τ a.block = 7) : BenchS w' τ B p' { s with bs := o } := by
  have hb : ∀ k obj, w.heap[k]? = some obj → (τ k ≠ 0 ∧ τ k ≤ 7 ∧ τ k ≠ 3) → w'.heap[k]? = some obj := fun k obj hk ht => (f.block k (Array.getElem?_eq_some_iff.1 hk).1 (fun e => by have := hS k e (Array.getElem?_eq_some_iff.1 hk).1; omega)).trans hk
  have hc : ∀ k i v, w.cell? ⟨k, i, none⟩ = some v → (τ k ≠ 0 ∧ τ k ≤ 7 ∧ τ k ≠ 3) → w'.cell? ⟨k, i, none⟩ = some v := fun k i v hv ht => frm_cell f hv (fun e => by have := hS k e (World.block_lt_of_cell? w _ hv); omega)
  have hn : ∀ k, (τ k ≠ 0 ∧ τ k ≤ 7 ∧ τ k ≠ 3) → k < w.heap.size → ¬ S k := fun k ht hk e => by have := hS k e hk; omega
  obtain ⟨lb, sb, hx, t1, t2⟩ := h.cnt
  obtain ⟨c, hcs⟩ := hx.cnt
  obtain ⟨tr, hr⟩ := hx.row
  obtain ⟨tb, hbn⟩ := h.bn
  have hlb : lb < w.heap.size := (Array.getElem?_eq_some_iff.1 (show w.heap[lb]? = _ from hcs.list)).1
  have hcm : B.cm < w.heap.size := World.block_lt_of_cell? w ⟨B.cm, 0, none⟩ hcs.ptr
  have hcn : B.cn < w.heap.size := (Array.getElem?_eq_some_iff.1 hcs.num.choose_spec).1
  have hsb : sb < w.heap.size := (Array.getElem?_eq_some_iff.1 hr).1
  have u1 := h.t1
  have u2 := h.t2
  have u3 := h.t3
  have u4 := h.t4
  have u5 := h.t5
  have u6 := h.t6
  refine ⟨hc _ _ _ h.c0 (by omega), hc _ _ _ h.c1 (by omega), hc _ _ _ h.c2 (by omega), hc _ _ _ h.c3 (by omega), hc _ _ _ h.c4 (by omega), hc _ _ _ h.c5 (by omega), h.dd.kept f (hn _ (by omega) h.dd.lt), h.t6, ⟨lb, sb, hx.frm f (hn _ (by omega) hcm) (hn _ (by omega) hcn) (hn _ (by omega) hlb) (hn _ (by omega) hsb), t1, t2⟩, h.t1, ⟨hc _ _ _ h.mrk.ptr (by omega), ⟨_, hb _ _ h.mrk.num.choose_spec (by omega)⟩, h.mrk.ne⟩, h.t2, hq, hN, hV, h.be, ⟨h.t3.1, h.t3.2.1, h7⟩, ⟨hc _ _ _ h.gte.ptr (by omega), hc _ _ _ h.gte.opens (by omega), ⟨_, hb _ _ h.gte.num.choose_spec (by omega)⟩, h.gte.ne⟩, h.t4, ⟨hc _ _ _ h.tks.ptr (by omega), hc _ _ _ h.tks.many (by omega), ⟨_, hb _ _ h.tks.num.choose_spec (by omega)⟩, h.tks.ne⟩, h.t5⟩


end Go.Proofs.Ytpnnfkgnkalhlaa
