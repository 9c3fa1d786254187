/- outcome: what comes of bids, walked. -/
import Derived.Test.YtfmeobelpideoaaS1
namespace Go.Proofs.Ytfmeobelpideoaa
open Go.RowKit

def soldA : Out → Array Value
  | none => #[.bool false, .int .i64 0, .int .i64 0, .int .i64 0]
  | some (a, b, c) => #[.bool true, .int .i64 a, .int .i64 b, .int .i64 c]
theorem soldV_eq (o : Out) : soldV o = .agg (soldA o) := by
  match o with
  | none => rfl
  | some (a, b, c) => rfl

/-- What came of bids, in a block of its own. -/
def SB (w : World) (b : Nat) (o : Out) : Prop := w.heap[b]? = some (.cells (soldA o) 26 (0, 0))
theorem SB.frm {S : Nat → Prop} {w w' : World} {b : Nat} {o : Out} (h : SB w b o) (hf : Frm S w w') (hS : ¬ S b) : SB w' b o := by
  unfold SB at *
  rw [hf.block b (blk_lt h) hS]
  exact h
theorem SB.old {w w' : World} {b : Nat} {o : Out} (h : SB w b o) (hf : Old w w') : SB w' b o := h.frm hf (fun h => h)
theorem SB.set {w : World} {b : Nat} {o : Out} (h : SB w b o) (x y z : Int) : SB ((((w.setCell ⟨b, 0, none⟩ (.bool true)).setCell ⟨b, 1, none⟩ (.int .i64 x)).setCell ⟨b, 2, none⟩ (.int .i64 y)).setCell ⟨b, 3, none⟩ (.int .i64 z)) b (some (x, y, z)) := by
  have := heap_set (i := 3) (.int .i64 z) (heap_set (i := 2) (.int .i64 y) (heap_set (i := 1) (.int .i64 x) (heap_set (i := 0) (.bool true) h)))
  unfold SB
  rw [this]
  match o with
  | none => rfl
  | some (a, b, c) => rfl
theorem SB.price {w : World} {b : Nat} {x y z : Int} (h : SB w b (some (x, y, z))) (p : Int) : SB (w.setCell ⟨b, 3, none⟩ (.int .i64 p)) b (some (x, y, p)) := heap_set _ h
theorem SB.none {w : World} {b : Nat} (h : SB w b none) : w.cell? ⟨b, 0, Option.none⟩ = some (.bool false) ∧ w.cell? ⟨b, 1, Option.none⟩ = some (.int .i64 0) ∧ w.cell? ⟨b, 2, Option.none⟩ = some (.int .i64 0) ∧ w.cell? ⟨b, 3, Option.none⟩ = some (.int .i64 0) ∧ ∀ j, w.frozen? ⟨b, j, Option.none⟩ = false := ⟨blk_cells h rfl, blk_cells h rfl, blk_cells h rfl, blk_cells h rfl, fun j => blk_fz h j⟩
theorem SB.some {w : World} {b : Nat} {x y z : Int} (h : SB w b (some (x, y, z))) : w.cell? ⟨b, 0, Option.none⟩ = some (.bool true) ∧ w.cell? ⟨b, 1, Option.none⟩ = some (.int .i64 x) ∧ w.cell? ⟨b, 2, Option.none⟩ = some (.int .i64 y) ∧ w.cell? ⟨b, 3, Option.none⟩ = some (.int .i64 z) ∧ ∀ j, w.frozen? ⟨b, j, Option.none⟩ = false := ⟨blk_cells h rfl, blk_cells h rfl, blk_cells h rfl, blk_cells h rfl, fun j => blk_fz h j⟩
theorem frm_four (w : World) (b : Nat) (x0 x1 x2 x3 : Value) : Frm (fun k => k = b) w ((((w.setCell ⟨b, 0, none⟩ x0).setCell ⟨b, 1, none⟩ x1).setCell ⟨b, 2, none⟩ x2).setCell ⟨b, 3, none⟩ x3) :=
  Frm.setCell (Frm.setCell (Frm.setCell (Frm.setCell (Frm.refl (fun k => k = b) w) ⟨b, 0, none⟩ (Or.inr rfl) _) ⟨b, 1, none⟩ (Or.inr rfl) _) ⟨b, 2, none⟩ (Or.inr rfl) _) ⟨b, 3, none⟩ (Or.inr rfl) _
theorem old_of {w w1 w' : World} {b : Nat} (h : Old w w1) (hb : w.heap.size ≤ b) (f : Frm (fun k => k = b) w1 w') : Old w w' := Frm.trans h f (fun i hi e => by omega)

/-- Where outcome stands. -/
structure OC (w wr : World) (t : Out) : Prop where
  res : SB wr w.heap.size none
  un : SB wr (w.heap.size + 1) none
  told : SB wr (w.heap.size + 2) t
  old : Old w wr
theorem OC.go {w wr w' : World} {t : Out} (h : OC w wr t) (o : Old wr w') : OC w w' t := ⟨h.res.old o, h.un.old o, h.told.old o, h.old.trans o⟩
theorem OC.upd {w wr w' : World} {t u : Out} (h : OC w wr t) (f : Frm (fun k => k = w.heap.size + 2) wr w') (hu : SB w' (w.heap.size + 2) u) : OC w w' u := ⟨h.res.frm f (by omega), h.un.frm f (by omega), hu, old_of h.old (by omega) f⟩

set_option maxRecDepth 100000 in
set_option maxHeartbeats 4000000 in
theorem outcome_any (fl : Int) (ao : Option Addr) (cap : Nat) (L : List Sec) (w : World) (h : SecC w ao L) (hl : L.length ≤ 9223372036854775807) :
    Calls Try.prog 29 #[.int .i64 fl, .slice ao L.length cap] w fun e w' => e = .returned (soldV (outL fl L)) ∧ Old w w' := by
  have kO := hid h
  clear h
  have hC : OC w (((w.alloc (.cells #[.bool false, .int .i64 0, .int .i64 0, .int .i64 0] 26)).alloc (.cells #[.bool false, .int .i64 0, .int .i64 0, .int .i64 0] 26)).alloc (.cells #[.bool false, .int .i64 0, .int .i64 0, .int .i64 0] 26)) none := by
    generalize hx : (Obj.cells #[.bool false, .int .i64 0, .int .i64 0, .int .i64 0] 26) = x
    have e1 := heap_new w x
    have e2 := heap_new (w.alloc x) x
    have e3 := heap_new ((w.alloc x).alloc x) x
    have q2 : Old (w.alloc x) ((w.alloc x).alloc x) := (Old.refl _).alloc _
    have q3 : Old ((w.alloc x).alloc x) (((w.alloc x).alloc x).alloc x) := (Old.refl _).alloc _
    rw [alloc_size] at e2 e3
    rw [alloc_size] at e3
    subst hx
    exact ⟨SB.old (SB.old e1 q2) q3, SB.old e2 q3, e3, ((Old.refl w).alloc _).trans (q2.trans q3)⟩
  go_enter Try.func29, Try.ntmps29
  go_wp2_with fail
  generalize (((w.alloc (.cells #[.bool false, .int .i64 0, .int .i64 0, .int .i64 0] 26)).alloc (.cells #[.bool false, .int .i64 0, .int .i64 0, .int .i64 0] 26)).alloc (.cells #[.bool false, .int .i64 0, .int .i64 0, .int .i64 0] 26)) = w1 at *
  obtain ⟨s, hs⟩ : ∃ s, w.heap.size = s := ⟨_, rfl⟩
  have ks := hid hs
  have kC := hid hC
  rw [hs] at ⊢
  clear hs hC
  go_loopw [11] (fun t wr => ∃ k : Nat, k ≤ L.length ∧ t = .int .i64 (k : Int) ∧ Hid (OC w wr (outL fl (L.take k)))) (fun t _ => L.length - (intOf t).toNat)
  case atStart => exact ⟨0, Nat.zero_le _, rfl, kC⟩
  case round =>
    clear kC
    obtain ⟨k, hk, rfl, hA⟩ := hrel
    by_cases hlt : k < L.length
    · obtain ⟨bg, o, rfl, d1, d2⟩ := kO.out k hlt
      have e1 := hA.out.old.cell d1
      have e2 := hA.out.old.cell d2
      have hk' : (k : Int) < (L.length : Int) := by omega
      have hst := hid (out_succ (fl := fl) hlt)
      obtain ⟨x, hx⟩ : ∃ x, L[k] = x := ⟨_, rfl⟩
      rw [hx] at e1 e2 hst
      obtain ⟨xb, xc⟩ := x
      dsimp only at e1 e2
      have n0 := new_cell wr #[.int .i64 xb, .int .i64 xc] 39 0 _ rfl
      have n1 := new_cell wr #[.int .i64 xb, .int .i64 xc] 39 1 _ rfl
      have oA : Old wr (wr.alloc (.cells #[.int .i64 xb, .int .i64 xc] 39)) := (Old.refl wr).alloc _
      have hC2 := hA.out.go oA
      clear hx d1 d2 oA hA
      by_cases hc : xc < fl
      · have kz : Hid (OC w (wr.alloc (.cells #[.int .i64 xb, .int .i64 xc] 39)) (outL fl (L.take (k + 1)))) := by
          show OC _ _ _
          rw [hst.out, outS_low hc]
          exact hC2
        clear hC2
        go_wp2_with fail
        go_roundw
        case rel => exact ⟨k + 1, by omega, by go_num, kz⟩
        case measure => simp [intOf]; omega
      · have kW := hid (fun p w => won_any (xb, xc) p w)
        dsimp only [soldV] at kW
        have kC2 := hid hC2
        obtain ⟨q0, q1, q2, q3, -⟩ := hC2.un.none
        rw [ks.out] at q0 q1 q2 q3
        have n0lt : s + 2 < (wr.alloc (.cells #[.int .i64 xb, .int .i64 xc] 39)).heap.size := by rw [← ks.out]; exact blk_lt hC2.told
        generalize hw2 : wr.alloc (.cells #[.int .i64 xb, .int .i64 xc] 39) = w2 at *
        rcases ht : outL fl (L.take k) with _ | ⟨tx, ty, tz⟩
        · rw [ht] at kC2 hst hC2
          rw [outS_first hc] at hst
          obtain ⟨p0, p1, p2, p3, pf⟩ := hC2.told.none
          rw [ks.out] at p0 p1 p2 p3 pf
          have kw := hid (fun w => kW.out fl w)
          clear hC2 kW ht
          subst hw2
          go_wp2_with fail
          refine (kw.out _).mono ?_
          rintro e w3 ⟨rfl, o3⟩
          have p0' := o3.cell p0
          have p1' := o3.cell p1
          have p2' := o3.cell p2
          have p3' := o3.cell p3
          have pf' := fun j => frm_frozen o3 (p := ⟨s + 2, j, none⟩) n0lt (pf j) (fun h => h)
          have kC3 := hid (kC2.out.go o3)
          clear o3 p0 p1 p2 p3 pf kC2 q0 q1 q2 q3 n0 n1 e1 e2
          go_wp2_with fail
          go_roundw
          case rel => exact ⟨k + 1, by omega, by go_num, by
            show OC _ _ _
            rw [hst.out]
            have f := frm_four w3 (s + 2) (.bool true) (.int .i64 xb) (.int .i64 xc) (.int .i64 fl)
            have hu := kC3.out.told.set xb xc fl
            rw [ks.out] at hu
            rw [← ks.out] at f hu ⊢
            exact kC3.out.upd f hu⟩
          case measure => simp [intOf]; omega
        · rw [ht] at kC2 hst hC2
          obtain ⟨p0, p1, p2, p3, pf⟩ := hC2.told.some
          rw [ks.out] at p0 p1 p2 p3 pf
          have kw := hid (fun w => kW.out ty w)
          clear hC2 kW ht
          by_cases hg : xc > ty
          · rw [outS_top hc hg] at hst
            subst hw2
            go_wp2_with fail
            refine (kw.out _).mono ?_
            rintro e w3 ⟨rfl, o3⟩
            have p0' := o3.cell p0
            have p1' := o3.cell p1
            have p2' := o3.cell p2
            have p3' := o3.cell p3
            have pf' := fun j => frm_frozen o3 (p := ⟨s + 2, j, none⟩) n0lt (pf j) (fun h => h)
            have kC3 := hid (kC2.out.go o3)
            clear o3 p0 p1 p2 p3 pf kC2 q0 q1 q2 q3 n0 n1 e1 e2
            go_wp2_with fail
            go_roundw
            case rel => exact ⟨k + 1, by omega, by go_num, by
              show OC _ _ _
              rw [hst.out]
              have f := frm_four w3 (s + 2) (.bool true) (.int .i64 xb) (.int .i64 xc) (.int .i64 ty)
              have hu := kC3.out.told.set xb xc ty
              rw [ks.out] at hu
              rw [← ks.out] at f hu ⊢
              exact kC3.out.upd f hu⟩
            case measure => simp [intOf]; omega
          · rw [outS_next hc hg] at hst
            have hmx : Hid (∀ wm, wm = max tz xc → outL fl (L.take (k + 1)) = some (tx, ty, wm)) := fun wm e => by rw [hst.out, e]
            clear hst
            by_cases hm : xc ≤ tz
            · have km := hid (hmx.out tz (by omega))
              have hm2 : max tz xc = tz := by omega
              clear hmx
              subst hw2
              go_wp2_with fail
              go_roundw
              case rel => exact ⟨k + 1, by omega, by go_num, by
                show OC _ _ _
                rw [km.out]
                have f := frm_set (wr.alloc (.cells #[.int .i64 xb, .int .i64 xc] 39)) (s + 2) 3 (.int .i64 tz)
                have hu := kC2.out.told.price tz
                rw [ks.out] at hu
                rw [← ks.out] at f hu ⊢
                exact kC2.out.upd f hu⟩
              case measure => simp [intOf]; omega
            · have km := hid (hmx.out xc (by omega))
              have hm2 : max tz xc = xc := by omega
              clear hmx
              subst hw2
              go_wp2_with fail
              go_roundw
              case rel => exact ⟨k + 1, by omega, by go_num, by
                show OC _ _ _
                rw [km.out]
                have f := frm_set (wr.alloc (.cells #[.int .i64 xb, .int .i64 xc] 39)) (s + 2) 3 (.int .i64 xc)
                have hu := kC2.out.told.price xc
                rw [ks.out] at hu
                rw [← ks.out] at f hu ⊢
                exact kC2.out.upd f hu⟩
              case measure => simp [intOf]; omega
    · obtain rfl : k = L.length := by omega
      have hz := hA.out
      rw [List.take_length] at hz
      rcases ht : outL fl L with _ | ⟨tx, ty, tz⟩
      · rw [ht] at hz
        obtain ⟨p0, p1, p2, p3, pf⟩ := hz.told.none
        obtain ⟨r0, r1, r2, r3, rf⟩ := hz.res.none
        rw [ks.out] at p0 p1 p2 p3 pf r0 r1 r2 r3 rf
        have kz := hid hz
        clear hz hA
        go_wp2_with fail
        exact bodyPost_ret (v := .agg #[.bool false, .int .i64 0, .int .i64 0, .int .i64 0]) (by simp [results, Try.results29, go_sem, r0, r1, r2, r3]) rfl ⟨by rw [ht]; rfl, old_of kz.out.old (b := s) (by rw [ks.out]; exact Nat.le_refl _) (frm_four _ _ _ _ _ _)⟩
      · rw [ht] at hz
        obtain ⟨p0, p1, p2, p3, pf⟩ := hz.told.some
        obtain ⟨r0, r1, r2, r3, rf⟩ := hz.res.none
        rw [ks.out] at p0 p1 p2 p3 pf r0 r1 r2 r3 rf
        have kz := hid hz
        clear hz hA
        go_wp2_with fail
        exact bodyPost_ret (v := .agg #[.bool true, .int .i64 tx, .int .i64 ty, .int .i64 tz]) (by simp [results, Try.results29, go_sem, r0, r1, r2, r3]) rfl ⟨by rw [ht]; rfl, old_of kz.out.old (b := s) (by rw [ks.out]; exact Nat.le_refl _) (frm_four _ _ _ _ _ _)⟩
end Go.Proofs.Ytfmeobelpideoaa
