/- goes: what All tells, told against a list, left behind some turns and gone over once more: walked. -/
import Derived.Test.YtpnnfkgnkalhlaaG1
namespace Go.Proofs.Ytpnnfkgnkalhlaa
open Go.RowKit Go.Lib Go.Shelf Go.Maps
attribute [local go_sem] Oper.semAt_some

theorem pre_next {L : List Int} {k k' : Nat} {x : Sx} (hk' : k' ≤ L.length) (h : evs L k ++ [x] = evs L k') : k < L.length ∧ k' = k + 1 ∧ x = ((k : Int), L[k]?.getD 0) := by
  obtain ⟨j, rfl, hj, hq, hx⟩ := pre_nextX hk' h
  have e := congrArg List.length hq
  rw [evs_length, evs_length] at e
  subst e
  exact ⟨hj, rfl, hx⟩

theorem boxed_three (w : World) (v u x : Value) (t s r : TypeId) : Boxed (((w.alloc (.cells #[v] t)).alloc (.cells #[u] s)).alloc (.cells #[x] r)) w.heap.size t v ∧ Boxed (((w.alloc (.cells #[v] t)).alloc (.cells #[u] s)).alloc (.cells #[x] r)) (w.heap.size + 1) s u ∧ Boxed (((w.alloc (.cells #[v] t)).alloc (.cells #[u] s)).alloc (.cells #[x] r)) (w.heap.size + 2) r x := by
  obtain ⟨h1, h2⟩ := boxed_two w v u t s
  refine ⟨h1.alloc _, h2.alloc _, ?_⟩
  have := Boxed.new ((w.alloc (.cells #[v] t)).alloc (.cells #[u] s)) r x
  rwa [World.size_alloc, World.size_alloc] at this


set_option maxRecDepth 100000 in
set_option maxHeartbeats 16000000 in
theorem goes_any (mb : Nat) (ao : Option Addr) (cap : Nat) (L : List Int) (leave : Int) (w : World) (hA : AllF w mb L) (hD : NumsC .i64 w ao L) (hlo : ∀ a, ao = some a → a.block < w.heap.size) (hl : L.length ≤ 64) :
    Calls Try.prog 17 #[.pointer (some ⟨mb, 0, none⟩), .slice ao L.length cap, .int .i64 leave] w fun e w' => e = .returned (.bool true) ∧ Old w w' := by
  have hfn : ∀ (p : Value) (w : World), (binOp BinOp.eql 117 (.func (.func 59) #[] #[p]) .nilFunc).run Try.prog w = .ok (.bool false) w := fun _ _ => by kernel_rfl
  have hall := hid hA
  have khd := hid hD
  have klo := hid hlo
  clear hA hD hlo
  refine (callsIn_wide (n := 5)).1 ?_
  refine callsIn_of_wp_marks Try.func17 rfl trivial ?_ rfl
  simp only [Try.ntmps17, List.size_toArray, List.length_cons, List.length_nil, Nat.reduceAdd, Nat.reduceSub, Array.replicate_succ, Array.replicate_zero, List.push_toArray, List.append_toArray, List.nil_append, List.cons_append]
  refine wpIn_wide.2 ?_
  go_upto_region 1 with fail
  have b1 := hid (boxed_three w (.slice ao L.length cap) (.int .i64 leave) (.bool false) 59 2 4)
  have o1 : Hid (Old w (((w.alloc (.cells #[.slice ao L.length cap] 59)).alloc (.cells #[.int .i64 leave] 2)).alloc (.cells #[.bool false] 4))) := (((Old.refl w).alloc _).alloc _).alloc _
  have z1 : Hid ((((w.alloc (.cells #[.slice ao L.length cap] 59)).alloc (.cells #[.int .i64 leave] 2)).alloc (.cells #[.bool false] 4)).heap.size = w.heap.size + 3) := by show _ = _; simp only [alloc_size]
  generalize ((w.alloc (.cells #[.slice ao L.length cap] 59)).alloc (.cells #[.int .i64 leave] 2)).alloc (.cells #[.bool false] 4) = W1 at *
  go_wp2_with fail
  refine (count_all (some ⟨mb, 0, none⟩) _).mono ?_
  rintro e w2 ⟨rfl, o2, ⟨ct, hc9⟩, zz2⟩
  have hc2 : w2.cell? ⟨W1.heap.size, 0, none⟩ = some (.pointer (some ⟨mb, 0, none⟩)) := blk_cell hc9
  obtain ⟨s0, hs0⟩ : ∃ s0, w.heap.size = s0 := ⟨_, rfl⟩
  have kss := hid hs0
  have kwx : Hid (w.heap.size = s0) := hid hs0
  rw [z1.out, hs0] at hc2 ⊢
  have kz2 : Hid (w2.heap.size = s0 + 4) := hid (by rw [zz2, z1.out, hs0])
  rw [hs0] at b1
  have ex1 : Hid (EX w w2 s0 ao cap L leave mb) := by
    have oo := o1.out.trans o2
    exact ⟨boxed_olds b1.out.1 o2, boxed_olds b1.out.2.1 o2, boxed_olds b1.out.2.2 o2, hc2, fun i hi => by
      obtain ⟨g, o, ea, hc⟩ := khd.out i hi
      exact ⟨g, o, ea, oo.cell hc⟩, fun a e => by have := klo.out a e; omega, oo⟩
  clear o2 hc2 hc9 zz2 hs0 b1 o1 z1 khd klo
  go_wp2_with fail
  have oo : Old w2 (w2.alloc (.cells #[.int .i64 0] 3)) := (Old.refl w2).alloc _
  have fbt1 : Hid (Boxed (w2.alloc (.cells #[.int .i64 0] 3)) (s0 + 4) 3 (.int .i64 0)) := hid (by
    have bw := Boxed.new w2 3 (.int .i64 0)
    rwa [kz2.out] at bw)
  have kex : Hid (EX w (w2.alloc (.cells #[.int .i64 0] 3)) s0 ao cap L leave mb) := hid (ex1.out.frm oo (fun b e => e.elim) kss.out)
  have hz9 : Hid ((w2.alloc (.cells #[.int .i64 0] 3)).heap.size = s0 + 5) := hid (by rw [alloc_size, kz2.out])
  have hs3 := kz2.out
  rw [hs3]
  clear hs3 oo ex1
  generalize w2.alloc (.cells #[.int .i64 0] 3) = W9 at *
  clear kz2
  refine wp_loop_rounds 3 ?_
  rw [rounds_succ]
  have bc0 := fbt1.out.cell
  go_wp2_with fail
  have tI1 : Hid (TI w s0 (s0 + 4) W9.heap.size ao cap L leave mb 0 0 (W9.alloc (.cells #[.int .i64 0] 3))) := ⟨Boxed.new W9 3 (.int .i64 0), boxed_olds fbt1.out ((Old.refl _).alloc _), kex.out.frm ((Old.refl W9).alloc _) (fun b e => e.elim) kss.out⟩
  have hz1 : Hid ((W9.alloc (.cells #[.int .i64 0] 3)).heap.size = s0 + 6) := hid (by rw [alloc_size, hz9.out])
  rw [hz9.out] at tI1 ⊢
  clear bc0 fbt1 kex
  generalize W9.alloc (.cells #[.int .i64 0] 3) = W10 at *
  have e3 := hz1.out
  refine range_joinP (n := 5) (by omega) (gf := 59) (lb := #[.pointer (some ⟨s0 + 3, 0, none⟩)]) rfl (enters_of Try.func59 (by kernel_rfl) rfl)
    (hall.out W10 (s0 + 3) (fun k => k = s0 + 5) tI1.out.ex.old tI1.out.ex.cb (fun k h => by have := kwx.out; omega))
    (fun h k => h.trans k) (fun W l o o' _ h1 h2 => KeptC.put W l o o' h1 h2) (fun _ => rfl) 2
    (fun q Y => ∃ k, q = evs L k ∧ k ≤ L.length ∧ TI w s0 (s0 + 4) (s0 + 5) ao cap L leave mb 0 k Y ∧ (∀ i : Nat, 1 ≤ i → i ≤ k → (i : Int) ≠ leave))
    (fun q Y => ∃ k, k ≤ L.length ∧ 1 ≤ k ∧ TI w s0 (s0 + 4) (s0 + 5) ao cap L leave mb 0 k Y ∧ (k : Int) = leave)
    (fun _ Y => ∃ k, TI w s0 (s0 + 4) (s0 + 5) ao cap L leave mb 0 k Y ∧ (leave > 0 → min leave (L.length : Int) = (k : Int)) ∧ (leave ≤ 0 → (k : Int) = (L.length : Int)))
    (fun q A B ⟨k, h1, h2, h3, hnl⟩ hf => ⟨k, h1, h2, h3.frm hf (fun b e => by omega) kss.out (by omega) (by omega), hnl⟩)
    (fun q A B ⟨k, h1, h2, h3, h4⟩ hf => ⟨k, h1, h2, h3.frm hf (fun b e => by omega) kss.out (by omega) (by omega), h4⟩)
    ⟨0, rfl, by omega, tI1.out, fun i h1 h2 => by omega⟩
    (fun x t => (((t.setIfInBounds 21 (.int .i64 x.1)).setIfInBounds 22 (.int .i64 x.2)).setIfInBounds 10 (.int .i64 x.1)).setIfInBounds 11 (.int .i64 x.2))
    ?assign1 ?body1
    (fun q W hq ⟨k, h1, h2, h3, hnl⟩ => ⟨k, h3, fin_done (by have := congrArg List.length (h1.symm.trans hq); rw [evs_length, evs_length] at this; omega) hnl⟩)
    (fun q W _ ⟨k, h1, h2, h3, h4⟩ => ⟨k, h3, fin_left h1 h2 h4⟩) ?hQ1 ?end1
  case assign1 =>
    intro l' x W K hK
    simp only [encX]
    simp only [List.setIfInBounds_toArray, List.set_cons_zero, List.set_cons_succ] at hK
    gi_wp2
    exact hK
  case hQ1 =>
    intro b W h
    exact inBlock_both (Or.inr rfl) h
  case body1 =>
    rintro l' q x Y ⟨k, rfl, hk3, tI, hnl⟩ ⟨k', hk', hpk⟩
    simp only [List.setIfInBounds_toArray, List.set_cons_zero, List.set_cons_succ]
    obtain ⟨hlt, rfl, rfl⟩ := pre_next hk' hpk
    have kev := hid (evs_succ L k).symm
    have kI := hid tI
    obtain ⟨g, og, rfl, c0⟩ := tI.ex.hd k hlt
    rw [show L[k] = L[k]?.getD 0 by rw [List.getElem?_eq_getElem hlt]; rfl] at c0
    have wc0 := tI.ex.want.cell
    have ac0 := tI.at'.cell
    have tc0 := tI.turn.cell
    have vc0 := tI.ex.lea.cell
    have afz := tI.at'.frozen
    have hk9 : (k : Int) ≤ 1099511627776 := by omega
    have hkw' : (k : Int) < (L.length : Int) := by omega
    have hd1 : decide (L.length ≤ k) = false := by simpa using hlt
    have hne1 : ((k : Int) != (k : Int)) = false := by simp
    have knx := hid (kI.out.next (N := W10.heap.size) kss.out (by omega) (by omega) (by omega))
    clear hpk tI hk'
    generalize L[k]?.getD 0 = x at *
    have hne2 : (x != x) = false := by simp
    dsimp only at *
    have knl := hid hnl
    clear hnl
    by_cases hlv : (k : Int) + 1 = leave
    · have hlv2 : ((k : Int) + 1 == leave) = true := by simpa using hlv
      have hlv3 : Hid ((k : Int) + 1 = leave) := hlv
      clear hlv
      gi_wp2
      rw [kev.out]
      obtain ⟨p1, p2, p3⟩ := knx.out
      exact ⟨p1, rfl, k + 1, by omega, by omega, p3, hlv3.out⟩
    · have hlv2 : ((k : Int) + 1 == leave) = false := by simpa using hlv
      have hlv3 : Hid ((k : Int) + 1 ≠ leave) := hlv
      clear hlv
      gi_wp2
      rw [kev.out]
      obtain ⟨p1, p2, p3⟩ := knx.out
      exact ⟨p1, p2, k + 1, rfl, by omega, p3, fun i h1 h2 => by
        by_cases e : i = k + 1
        · subst e
          have := hlv3.out
          omega
        · exact knl.out i h1 (by omega)⟩
  case end1 =>
    rintro D1 q Y hD1 ⟨k, tI, hfp, hfn0⟩ hK1
    have wc0 := tI.ex.want.cell
    have ac0 := tI.at'.cell
    have tc0 := tI.turn.cell
    have vc0 := tI.ex.lea.cell
    have kI := hid tI
    have kK1 := hid hK1
    have kfp := hid hfp
    have kfn0 := hid hfn0
    clear tI hK1 tI1 hfp hfn0
    refine inBlock_both (Or.inl rfl) ?_
    dsimp only
    go_upto_region 15 with fail
    go_cut [76] from 49 to 76 (fun p wx => p = .bool false ∧ wx = Y)
    case first =>
      by_cases hl0 : leave > 0
      · have hmin := kfp.out hl0
        have hl1 : ¬ leave ≤ 0 := by omega
        go_wp2_with fail
        go_meet
        case rel => exact ⟨rfl, rfl⟩
      · have hke := kfn0.out (by omega)
        have hl1 : leave ≤ 0 := by omega
        have hkb : ((k : Int) != (L.length : Int)) = false := by rw [hke]; simp
        clear hke
        go_wp2_with fail
        go_meet
        case rel => exact ⟨rfl, rfl⟩
    case rest =>
      obtain ⟨rfl, rfl⟩ := hcut
      clear wc0 ac0 vc0 kfp kfn0
      go_wp2_with fail
      rw [rounds_succ]
      have fbt2 := hid (Boxed.new wc 3 (.int .i64 1))
      have ex2 := hid (kI.out.ex.frm ((Old.refl wc).alloc (.cells #[.int .i64 1] 3)) (fun b e => e.elim) kss.out)
      have hbt2 := hid (show s0 + 3 < wc.heap.size from cell_lt kI.out.ex.cb)
      have hD1l := (Array.getElem?_eq_some_iff.1 kK1.out).1
      have kD1 := hid ((Below.heap_alloc wc (.cells #[.int .i64 1] 3) D1 hD1l).trans kK1.out)
      have hDb1 : D1 < wc.heap.size ∧ s0 + 5 < D1 := ⟨hD1l, by omega⟩
      clear kI kK1 tc0
      generalize wc.alloc (.cells #[.int .i64 1] 3) = W11 at *
      generalize wc.heap.size = bt2 at *
      have bc0 := fbt2.out.cell
      go_wp2_with fail
      have hba2 := hid (blk_lt fbt2.out)
      have tI2 : Hid (TI w s0 bt2 W11.heap.size ao cap L leave mb 1 0 (W11.alloc (.cells #[.int .i64 0] 3))) := ⟨Boxed.new W11 3 (.int .i64 0), boxed_olds fbt2.out ((Old.refl _).alloc _), ex2.out.frm ((Old.refl W11).alloc _) (fun b e => e.elim) kss.out⟩
      have hz2 : Hid ((W11.alloc (.cells #[.int .i64 0] 3)).heap.size = W11.heap.size + 1) := alloc_size _ _
      clear bc0
      have kD1 := hid ((Below.heap_alloc W11 (.cells #[.int .i64 0] 3) D1 (blk_lt kD1.out)).trans kD1.out)
      generalize W11.alloc (.cells #[.int .i64 0] 3) = W12 at *
      generalize W11.heap.size = ba2 at *
      have e1 := hba2.out
      have e2 := hbt2.out
      have e3 := hz2.out
      refine range_joinP (n := 5) (by omega) (gf := 59) (lb := #[.pointer (some ⟨s0 + 3, 0, none⟩)]) rfl (enters_of Try.func59 (by kernel_rfl) rfl)
        (hall.out W12 (s0 + 3) (fun k => k = ba2) tI2.out.ex.old tI2.out.ex.cb (fun k h => by have := kwx.out; omega))
        (fun h k => h.trans k) (fun W l o o' _ h1 h2 => KeptC.put W l o o' h1 h2) (fun _ => rfl) 2
        (fun q Y => ∃ k, q = evs L k ∧ k ≤ L.length ∧ TI w s0 bt2 ba2 ao cap L leave mb 1 k Y ∧ Y.heap[D1]? = some (.deferred (some [])))
        (fun q Y => False)
        (fun _ Y => ∃ k : Nat, TI w s0 bt2 ba2 ao cap L leave mb 1 k Y ∧ (k : Int) = (L.length : Int) ∧ Y.heap[D1]? = some (.deferred (some [])))
        (fun q A B ⟨k, h1, h2, h3, hm⟩ hf => ⟨k, h1, h2, h3.frm hf (fun b e => by omega) kss.out (by omega) (by omega), by rw [hf.block D1 (Array.getElem?_eq_some_iff.1 hm).1 (by omega)]; exact hm⟩)
        (fun q A B h hf => h)
        ⟨0, rfl, by omega, tI2.out, kD1.out⟩
        (fun x t => (((t.setIfInBounds 21 (.int .i64 x.1)).setIfInBounds 22 (.int .i64 x.2)).setIfInBounds 10 (.int .i64 x.1)).setIfInBounds 11 (.int .i64 x.2))
        ?assign2 ?body2
        (fun q W hq ⟨k, h1, h2, h3, hm⟩ => ⟨k, h3, by have := congrArg List.length (h1.symm.trans hq); rw [evs_length, evs_length] at this; omega, hm⟩)
        (fun q W _ h => h.elim) ?hQ2 ?end2
      case assign2 =>
        intro l' x W K hK
        simp only [encX]
        simp only [List.setIfInBounds_toArray, List.set_cons_zero, List.set_cons_succ] at hK
        gi_wp2
        exact hK
      case hQ2 =>
        intro b W h
        exact inBlock_both (Or.inr rfl) h
      case body2 =>
        rintro l' q x Y ⟨k, rfl, hk3, tI, hmD1⟩ ⟨k', hk', hpk⟩
        simp only [List.setIfInBounds_toArray, List.set_cons_zero, List.set_cons_succ]
        obtain ⟨hlt, rfl, rfl⟩ := pre_next hk' hpk
        have kev := hid (evs_succ L k).symm
        have kI := hid tI
        obtain ⟨g, og, rfl, c0⟩ := tI.ex.hd k hlt
        rw [show L[k] = L[k]?.getD 0 by rw [List.getElem?_eq_getElem hlt]; rfl] at c0
        have wc0 := tI.ex.want.cell
        have ac0 := tI.at'.cell
        have tc0 := tI.turn.cell
        have vc0 := tI.ex.lea.cell
        have afz := tI.at'.frozen
        have hk9 : (k : Int) ≤ 1099511627776 := by omega
        have hkw' : (k : Int) < (L.length : Int) := by omega
        have hd1 : decide (L.length ≤ k) = false := by simpa using hlt
        have hne1 : ((k : Int) != (k : Int)) = false := by simp
        have knx := hid (kI.out.next (N := W12.heap.size) kss.out (by omega) (by omega) (by omega))
        clear hpk tI hk'
        generalize L[k]?.getD 0 = x at *
        have hne2 : (x != x) = false := by simp
        dsimp only at *
        have kM := hid (((frm_set Y ba2 0 (.int .i64 ((k : Int) + 1))).block D1 (Array.getElem?_eq_some_iff.1 hmD1).1 (by omega)).trans hmD1)
        clear hmD1
        gi_wp2
        rw [kev.out]
        obtain ⟨p1, p2, p3⟩ := knx.out
        exact ⟨p1, p2, k + 1, rfl, by omega, p3, kM.out⟩
      case end2 =>
        rintro D2 q Y hD2 ⟨k, tI, hke, hmD1⟩ hK2
        have wc0 := tI.ex.want.cell
        have ac0 := tI.at'.cell
        have tc0 := tI.turn.cell
        have vc0 := tI.ex.lea.cell
        have kI := hid tI
        have kK2 := hid hK2
        have kD1 := hid hmD1
        have hkb : ((k : Int) != (L.length : Int)) = false := by rw [hke]; simp
        clear hmD1 hke
        clear tI hK2 tI2
        refine inBlock_both (Or.inl rfl) ?_
        dsimp only
        go_upto_region 15 with fail
        go_cut [76] from 49 to 76 (fun p wx => p = .bool false ∧ wx = Y)
        case first =>
          go_wp2_with fail
          go_meet
          case rel => exact ⟨rfl, rfl⟩
        case rest =>
          obtain ⟨rfl, rfl⟩ := hcut
          clear wc0 ac0 vc0 hkb
          go_wp2_with fail
          rw [rounds_succ]
          have fb3 := (Boxed.new wc 3 (.int .i64 2)).cell
          have om : Old wc (wc.alloc (.cells #[.int .i64 2] 3)) := (Old.refl wc).alloc _
          have hres := boxed_olds kI.out.ex.res om
          have rc1 := hres.cell
          have rf1 := hres.frozen
          have kres := hid hres
          have kold := hid (kI.out.ex.old.trans om)
          have l1 := (Array.getElem?_eq_some_iff.1 kD1.out).1
          have l2 := (Array.getElem?_eq_some_iff.1 kK2.out).1
          have m1 := hid ((om.block D1 l1 (fun h => h)).trans kD1.out)
          have m2 := hid ((om.block D2 l2 (fun h => h)).trans kK2.out)
          have hz9 := om.size
          clear om hres
          generalize wc.alloc (.cells #[.int .i64 2] 3) = w9 at *
          go_wp2_with fail
          have hfx := frm_set w9 (s0 + 2) 0 (.bool true)
          refine leave_marks [D2, D1] _ ⟨by simp; omega, fun r hr => ?_⟩ (fun W' hW' => ?_)
          · simp only [List.mem_cons, List.not_mem_nil, or_false] at hr
            rcases hr with rfl | rfl
            · rw [hfx.block r (by omega) (by omega)]
              exact m2.out
            · rw [hfx.block r (by omega) (by omega)]
              exact m1.out
          · have hge : ∀ r ∈ [D2, D1], s0 + 3 ≤ r := fun r hr => by
              simp only [List.mem_cons, List.not_mem_nil, or_false] at hr
              rcases hr with rfl | rfl <;> omega
            have hc0 := (boxed_frm (Boxed.set (.bool true) kres.out) hW' (fun h => by have := hge _ h; omega)).cell
            refine ⟨.bool true, ?_, rfl, ?_⟩
            · simp [results, Try.f17, go_sem, hc0]
            · exact Frm.trans (Frm.trans kold.out hfx (fun i hi e => by have := kss.out; omega)) hW' (fun i hi e => by have := kss.out; have := hge _ e; omega)
end Go.Proofs.Ytpnnfkgnkalhlaa
