/- turned: back to front, walked. -/
import Derived.Test.YtfmeobelpideoaaM1
import Derived.Test.YtfmeobelpideoaaW1
namespace Go.Proofs.Ytfmeobelpideoaa
open Go.RowKit

/-- Where turned stands: so many bids are turned. -/
structure TS (w wr : World) (v : Value) (R : List Sec) (q : Nat) (o : Out) : Prop where
  row : wr.ownsRow w.heap.size 39 2 v (R.take q).length (flatS (R.take q))
  box : SB wr w.heap.size o
  old : Old w wr
theorem TS.go {w wr w2 : World} {v : Value} {R : List Sec} {q : Nat} {o : Out} (h : TS w wr v R q o) (k : Old wr w2) : TS w w2 v R q o := ⟨owns_kept2 h.row (fun b hb => k.block b (h.row.lt b hb).2 (fun h => h)), h.box.old k, h.old.trans k⟩
theorem TS.val {w wr : World} {v : Value} {R : List Sec} {q : Nat} {o : Out} (h : TS w wr v R q o) (hq : q ≤ R.length) : ∃ ao cap, v = .slice ao q cap ∧ SecC wr ao (R.take q) := by
  obtain ⟨ao, cap, e, hS, -⟩ := (owns_new h.row).off
  rw [List.length_take, Nat.min_eq_left hq] at e
  exact ⟨ao, cap, e, hS⟩
theorem TS.next {w wr w1 w2 : World} {v v' : Value} {R : List Sec} {q : Nat} {o : Out} (h : TS w wr v R q o) (hq : q < R.length) (k : Old wr w1) (g : w1.grownBy w2 v.ownBlock) (hr : w2.ownsRow w.heap.size 39 2 v' (R.take q ++ [R[q]]).length (flatS (R.take q ++ [R[q]]))) : TS w w2 v' R (q + 1) o := by
  have h1 := h.go k
  have f : Frm (fun b => v.ownBlock = some b) w1 w2 := Frm.grown (Frm.refl _ _) g (fun b hb => Or.inr hb)
  refine ⟨?_, h1.box.frm f (fun e => ?_), Frm.trans h1.old f (fun i hi e => ?_)⟩
  · rw [List.take_succ_eq_append_getElem hq]
    exact hr
  · obtain ⟨cur, hc⟩ := owns_row_block h1.row e
    have := h1.box
    unfold SB at this
    rw [hc] at this
    simp at this
  · have := (h1.row.lt i e).1
    omega

theorem nd_snoc {Z : List Int} {z : Int} (h : Z.Nodup) (hz : ∀ x ∈ Z, x ≠ z) : (Z ++ [z]).Nodup := by
  rw [List.nodup_append]
  exact ⟨h, by simp, fun a ha b hb => by simp at hb; subst hb; exact hz a ha⟩

set_option maxRecDepth 100000 in
set_option maxHeartbeats 8000000 in
theorem turned_any (fl : Int) (ao : Option Addr) (cap : Nat) (L : List Sec) (w : World) (h : SecC w ao L) (hl : L.length ≤ 1000) (hok : Ok fl L) :
    Calls Try.prog 22 #[.int .i64 fl, .slice ao L.length cap, soldV (outL fl L)] w fun e w' => e = .returned (.bool true) ∧ Old w w' := by
  obtain ⟨R, hR⟩ : ∃ R, L.reverse = R := ⟨_, rfl⟩
  have hRl : R.length = L.length := by rw [← hR]; simp
  have kR := hid hR
  have kRl := hid hRl
  have kok := hid hok
  have kh := hid h
  obtain ⟨o, ho⟩ : ∃ o, outL fl L = o := ⟨_, rfl⟩
  have ko := hid ho
  rw [ho]
  have hbx : ∀ A, soldA o = A → TS w (w.alloc (.cells A 26)) (.slice none 0 0) R 0 o := fun A e => ⟨⟨by rw [List.take_zero]; rfl, Or.inl ⟨rfl, by rw [List.take_zero]; rfl⟩⟩, by subst e; exact heap_new w _, (Old.refl w).alloc _⟩
  rw [soldV_eq]
  obtain ⟨A0, hA0⟩ : ∃ A0, soldA o = A0 := ⟨_, rfl⟩
  have kb := hid (hbx A0 hA0)
  rw [hA0]
  have hA4 : ∃ x0 x1 x2 x3, A0 = #[x0, x1, x2, x3] := by
    rw [← hA0]
    match o with
    | none => exact ⟨_, _, _, _, rfl⟩
    | some (a, b, c) => exact ⟨_, _, _, _, rfl⟩
  obtain ⟨x0, x1, x2, x3, rfl⟩ := hA4
  clear h hR hRl hok ho hbx
  go_enter Try.func22, Try.ntmps22
  go_wp2_with fail
  generalize w.alloc (.cells #[x0, x1, x2, x3] 26) = w1 at *
  go_loopw [7, 8] (fun vb iv wr => ∃ q : Nat, q ≤ L.length ∧ iv = .int .i64 ((L.length : Int) - 1 - (q : Int)) ∧ Hid (TS w wr vb R q o) ∧ Hid (((R.take q).map Prod.snd).Nodup)) (fun _ iv _ => (intOf iv + 1).toNat)
  case atStart => exact ⟨0, Nat.zero_le _, by simp, kb, by show List.Nodup _; simp⟩
  case round =>
    clear kb
    obtain ⟨q, hq, rfl, hT, hN⟩ := hrel
    obtain ⟨ab, cb, rfl, hS⟩ := hT.out.val (by rw [kRl.out]; exact hq)
    have kS := hid hS
    clear hS
    by_cases hlt : q < L.length
    · have hge : (L.length : Int) - 1 - (q : Int) ≥ 0 := by omega
      obtain ⟨i, hi⟩ : ∃ i : Nat, (L.length : Int) - 1 - (q : Int) = i := ⟨L.length - 1 - q, by omega⟩
      have hil : i < L.length := by omega
      rw [hi]
      obtain ⟨g, og, rfl, d1, d2⟩ := kh.out i hil
      have hx : R[q]'(by rw [kRl.out]; exact hlt) = L[i] := by
        have := kR.out
        subst this
        rw [List.getElem_reverse]
        congr 1
        omega
      have kx := hid hx
      obtain ⟨x, hxe⟩ : ∃ x, L[i] = x := ⟨_, rfl⟩
      rw [hxe] at d1 d2 kx
      obtain ⟨xb, xc⟩ := x
      dsimp only at d1 d2
      have hil' : (i : Int) < (L.length : Int) := by omega
      clear hx hxe hge
      go_wp2_with fail
      go_loopw [9] (fun kv wr2 => ∃ k : Nat, k ≤ q ∧ kv = .int .i64 (k : Int) ∧ Hid (TS w wr2 (.slice ab q cb) R q o) ∧ Hid (∀ j, j < k → cc R j ≠ xc)) (fun kv _ => q - (intOf kv).toNat)
      case atStart => exact ⟨0, Nat.zero_le _, rfl, hT, fun j hj => by omega⟩
      case round =>
        clear kS hT
        obtain ⟨k, hk, rfl, hT2, hD⟩ := hrel
        have e1 := hT2.out.old.cell d1
        have e2 := hT2.out.old.cell d2
        by_cases hk2 : k < q
        · obtain ⟨ab2, cb2, ev, hS2⟩ := hT2.out.val (by rw [kRl.out]; exact hq)
          simp only [Value.slice.injEq, true_and] at ev
          obtain ⟨rfl, rfl⟩ := ev
          have hkt : k < (R.take q).length := by rw [List.length_take, kRl.out]; omega
          obtain ⟨gb, ob, rfl, -, c2⟩ := hS2 k hkt
          have hkR : k < R.length := by rw [kRl.out]; omega
          have hck : ((R.take q)[k]).2 = cc R k := by rw [List.getElem_take, cc_at hkR]
          rw [hck] at c2
          have hk' : (k : Int) < (q : Int) := by omega
          have kck := hid (show cc R k = cc R k from rfl)
          obtain ⟨y, hy⟩ : ∃ y, cc R k = y := ⟨_, rfl⟩
          rw [hy] at c2
          have ky := hid hy
          have kold := hid hT2.out.old
          clear hS2 hkt hck hy kck hi
          by_cases he : y = xc
          · subst he
            go_wp2_with fail
            go_quiet (fail)
            go_wp2_with fail
            go_ret
            exact ⟨rfl, kold.out.drewN _⟩
          · have hb : (y == xc) = false := by simpa using he
            have kD2 : Hid (∀ j, j < k + 1 → cc R j ≠ xc) := fun j hj => by
              by_cases e : j = k
              · rw [e, ky.out]; exact he
              · exact hD.out j (by omega)
            clear he
            go_wp2_with fail
            go_quiet (fail)
            go_wp2_with fail
            go_roundw
            case rel => exact ⟨k + 1, by omega, by go_num, hid (hT2.out.go ((Old.refl _).drewN _)), kD2⟩
            case measure => simp [intOf]; omega
        · obtain rfl : k = q := by omega
          have hqR : k < R.length := by rw [kRl.out]; exact hlt
          have htl : (R.take k).length = k := by rw [List.length_take]; omega
          have oA : Old wr (wr.alloc (.cells #[.int .i64 xb, .int .i64 xc] 39)) := (Old.refl wr).alloc _
          have hTA := hT2.out.go oA
          have hrA := hTA.row
          have hO : SecC (wr.alloc (.cells #[.int .i64 xb, .int .i64 xc] 39)) (some ⟨wr.heap.size, 0, none⟩) [(xb, xc)] := by
            have hn := heap_new wr (.cells #[.int .i64 xb, .int .i64 xc] 39)
            intro j hj
            match j, hj with
            | 0, _ => exact ⟨wr.heap.size, 0, rfl, blk_cells hn rfl, blk_cells hn rfl⟩
          have hlen : (R.take k).length + 1 ≤ 1000000 := by omega
          have hB : w.heap.size ≤ (wr.alloc (.cells #[.int .i64 xb, .int .i64 xc] 39)).heap.size := hTA.old.size
          have kN2 : Hid (((R.take (k + 1)).map Prod.snd).Nodup) := by
            show List.Nodup _
            rw [List.take_succ_eq_append_getElem hqR, List.map_append, kx.out]
            refine nd_snoc hN.out (fun z hz => ?_)
            obtain ⟨j, hj, e⟩ := List.mem_iff_getElem.1 hz
            have hj2 : j < k := by simp at hj; omega
            rw [List.getElem_map, List.getElem_take, ← cc_at (by omega)] at e
            rw [← e]
            exact hD.out j hj2
          have koA := hid oA
          clear oA hTA htl hD hN
          go_wp2_with (at_builtin; refine wpAppS (by rfl) _ _ (by rfl) w.heap.size (.slice ab k cb) (some ⟨wr.heap.size, 0, none⟩) 1 (R.take k) [(xb, xc)] (by rfl) (by rfl) hrA hO (fun h => by cases h) hlen hB ?_)
          intro v3 w3 r3 g3
          have kT3 : Hid (TS w w3 v3 R (k + 1) o) := hT2.out.next hqR koA.out g3 (by rw [kx.out]; simpa using r3)
          obtain ⟨a3, c3, rfl, -⟩ := kT3.out.val (by rw [kRl.out]; omega)
          clear r3 g3 hrA hO hB koA hT2
          go_wp2_with fail
          go_roundw
          case rel => exact ⟨k + 1, by omega, by rw [← hi]; go_num, kT3, kN2⟩
          case measure => simp [intOf]
    · obtain rfl : q = L.length := by omega
      have hlt0 : ¬ (L.length : Int) - 1 - (L.length : Int) ≥ 0 := by omega
      have hRt : R.take L.length = R := by rw [← kRl.out, List.take_length]
      have hNd : ((L.map Prod.snd)).Nodup := by
        have := hN.out
        rw [hRt, ← kR.out, List.map_reverse] at this
        exact (List.reverse_perm _).nodup_iff.1 this
      have hS2 := kS.out
      rw [hRt] at hS2
      have kSl := hid (sell_any fl ab cb R wr hS2 (by rw [kRl.out]; omega))
      have hokR : Ok fl R := by rw [← kR.out]; exact kok.out.rev
      have hz : erZ fl R = 0 := er_ok.2 hokR
      have hse : seO fl R = o := by
        rw [se_ok hz, ← kR.out, truth_back hNd]
        exact ko.out
      rw [hse, hz, kRl.out, soldV_eq, hA0] at kSl
      have hbx := hT.out.box
      unfold SB at hbx
      rw [hA0] at hbx
      have kold := hid hT.out.old
      have b0 : wr.cell? ⟨w.heap.size, 0, none⟩ = some x0 := blk_cells hbx rfl
      have b1 : wr.cell? ⟨w.heap.size, 1, none⟩ = some x1 := blk_cells hbx rfl
      have b2 : wr.cell? ⟨w.heap.size, 2, none⟩ = some x2 := blk_cells hbx rfl
      have b3 : wr.cell? ⟨w.heap.size, 3, none⟩ = some x3 := blk_cells hbx rfl
      clear hS2 hRt hNd hokR hz hse kS hT hN hbx
      go_wp2_with fail
      refine kSl.out.mono ?_
      rintro e w2 ⟨rfl, o2⟩
      have d0 := o2.cell b0
      have d1 := o2.cell b1
      have d2 := o2.cell b2
      have d3 := o2.cell b3
      have k2 := hid (kold.out.trans o2)
      have sl : w.heap.size < w2.heap.size := World.block_lt_of_cell? w2 ⟨w.heap.size, 0, none⟩ d0
      clear o2 b0 b1 b2 b3 kold kSl
      match o, hA0 with
      | none, hA0 =>
        simp only [soldA, Array.mk.injEq, List.cons.injEq, and_true] at hA0
        obtain ⟨rfl, rfl, rfl, rfl⟩ := hA0
        go_wp2_with (first | (go_at_call 12; refine (num_any _ _).mono ?_; rintro e w' ⟨rfl, e2⟩; rw [e2]; clear e2))
        go_ret
        exact ⟨rfl, k2.out.alloc _⟩
      | some (ya, yb, yc), hA0 =>
        simp only [soldA, Array.mk.injEq, List.cons.injEq, and_true] at hA0
        obtain ⟨rfl, rfl, rfl, rfl⟩ := hA0
        go_wp2_with (first | (go_at_call 12; refine (num_any _ _).mono ?_; rintro e w' ⟨rfl, e2⟩; rw [e2]; clear e2))
        go_ret
        exact ⟨rfl, k2.out.alloc _⟩
end Go.Proofs.Ytfmeobelpideoaa
