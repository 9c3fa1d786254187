/- The law's line: what Line tells, told against the document's, left behind some turns and gone over once more: walked. -/
import Derived.Test.YtlhlmkdgbgppiaaE7
import Derived.Test.YtlhlmkdgbgppiaaJ15
namespace Go.Proofs.Ytlhlmkdgbgppiaa
open Go.RowKit Go.Lib Go.Shelf Go.Maps
attribute [local go_sem] Oper.semAt_some

/-- Points as they lie. -/
def PtC (w : World) (ao : Option Addr) (Q : List (Int × Int)) : Prop := ∀ i (h : i < Q.length), ∃ g, ao = some ⟨g, 0, none⟩ ∧ w.cell? ⟨g, i * 2, none⟩ = some (.int .i64 Q[i].1) ∧ w.cell? ⟨g, i * 2 + 1, none⟩ = some (.int .i64 Q[i].2)
theorem PtC.frm {S : Nat → Prop} {w w' : World} {ao : Option Addr} {Q : List (Int × Int)} (h : PtC w ao Q) (hf : Frm S w w') (hS : ∀ a, ao = some a → ¬ S a.block) : PtC w' ao Q := fun i hi => by
  obtain ⟨g, rfl, h1, h2⟩ := h i hi
  exact ⟨g, rfl, frm_cell hf h1 (hS ⟨g, 0, none⟩ rfl), frm_cell hf h2 (hS ⟨g, 0, none⟩ rfl)⟩
theorem flatI_length : ∀ p : List (Int × Int), (flatI p).length = p.length * 2
  | [] => rfl
  | e :: p => by simp only [flatI, List.length_cons, flatI_length p]; omega
theorem flatI_get : ∀ (p : List (Int × Int)) (i : Nat) (h : i < p.length), (flatI p)[i * 2]? = some (.int .i64 p[i].1) ∧ (flatI p)[i * 2 + 1]? = some (.int .i64 p[i].2)
  | [], i, h => absurd h (by simp)
  | e :: p, 0, h => ⟨rfl, rfl⟩
  | e :: p, i + 1, h => by
    rw [show (i + 1) * 2 = i * 2 + 1 + 1 from by omega]
    simpa only [flatI, List.getElem?_cons_succ, List.getElem_cons_succ] using flatI_get p i (by simpa using h)
theorem owns_pt {w : World} {B : Nat} {v : Value} {Q : List (Int × Int)} (h : w.ownsRow B 136 2 v Q.length (flatI Q)) : ∃ ao cap, v = .slice ao Q.length cap ∧ PtC w ao Q ∧ ∀ a, ao = some a → a.block < w.heap.size := by
  rcases h.2 with ⟨rfl, h0⟩ | ⟨g, cap, cur, rfl, h3, h4, h5, h6, h7, h8⟩
  · exact ⟨none, 0, by rw [h0], fun i hi => by omega, fun a e => by cases e⟩
  · refine ⟨_, cap, rfl, fun i hi => ⟨g, rfl, ?_⟩, fun a e => by cases e; exact blk_lt h4⟩
    obtain ⟨f1, f2⟩ := flatI_get Q i hi
    have g1 : (cur.toList.take (Q.length * 2))[i * 2]? = (flatI Q)[i * 2]? := by rw [h8]
    have g2 : (cur.toList.take (Q.length * 2))[i * 2 + 1]? = (flatI Q)[i * 2 + 1]? := by rw [h8]
    rw [List.getElem?_take_of_lt (by omega), f1] at g1
    rw [List.getElem?_take_of_lt (by omega), f2] at g2
    exact ⟨blk_cells h4 (by simpa using g1), blk_cells h4 (by simpa using g2)⟩

theorem preQ_at {Q q : List (Int × Int)} {x : Int × Int} {k : Nat} (h : PreQ Q (q ++ [x])) (hk : q.length = k) : ∃ hlt : k < Q.length, Q[k] = x := by
  subst hk
  obtain ⟨t, rfl⟩ := h
  refine ⟨by simp, ?_⟩
  rw [List.getElem_append_left (by simp)]
  simp

structure EL (w W2 Y : World) (s0 wb : Nat) (ao : Option Addr) (cap : Nat) (Q : List (Int × Int)) (leave : Int) : Prop where
  lea : Boxed Y s0 2 (.int .i64 leave)
  res : Boxed Y (s0 + 1) 4 (.bool false)
  want : Boxed Y wb 133 (.slice ao Q.length cap)
  pts : PtC Y ao Q
  lo : ∀ a, ao = some a → a.block < wb
  sl : s0 + 1 < wb
  wl : W2.heap.size ≤ wb
  old : Old w Y
  oW : Old W2 Y
theorem EL.frm {w W2 Y Y' : World} {s0 wb : Nat} {ao : Option Addr} {cap : Nat} {Q : List (Int × Int)} {leave : Int} {S : Nat → Prop} (h : EL w W2 Y s0 wb ao cap Q leave) (hf : Frm S Y Y') (hS : ∀ b, S b → wb < b) (h2 : w.heap.size = s0) : EL w W2 Y' s0 wb ao cap Q leave := by
  have := h.sl
  exact ⟨boxed_frm h.lea hf (fun e => by have := hS _ e; omega), boxed_frm h.res hf (fun e => by have := hS _ e; omega), boxed_frm h.want hf (fun e => by have := hS _ e; omega), h.pts.frm hf (fun a e h9 => by have := hS _ h9; have := h.lo a e; omega), h.lo, h.sl, h.wl, Frm.trans h.old hf (fun i hi e => by have := hS _ e; omega), Frm.trans h.oW hf (fun i hi e => by have := hS _ e; have := h.wl; omega)⟩
/-- While it is told. -/
structure TL (w W2 : World) (s0 wb bt ba : Nat) (ao : Option Addr) (cap : Nat) (Q : List (Int × Int)) (leave : Int) (j : Int) (k : Nat) (Y : World) : Prop where
  at' : Boxed Y ba 3 (.int .i64 (k : Int))
  turn : Boxed Y bt 3 (.int .i64 j)
  ex : EL w W2 Y s0 wb ao cap Q leave
theorem TL.frm {w W2 : World} {s0 wb bt ba : Nat} {ao : Option Addr} {cap : Nat} {Q : List (Int × Int)} {leave j : Int} {k : Nat} {S : Nat → Prop} {X Y : World} (h : TL w W2 s0 wb bt ba ao cap Q leave j k X) (hf : Frm S X Y) (hS : ∀ b, S b → ba < b) (h2 : w.heap.size = s0) (h4 : wb < bt) (h5 : bt < ba) : TL w W2 s0 wb bt ba ao cap Q leave j k Y :=
  ⟨boxed_frm h.at' hf (fun e => by have := hS _ e; omega), boxed_frm h.turn hf (fun e => by have := hS _ e; omega), h.ex.frm hf (fun b e => by have := hS _ e; omega) h2⟩
theorem TL.next {w W2 : World} {s0 wb bt ba : Nat} {ao : Option Addr} {cap : Nat} {Q : List (Int × Int)} {leave j : Int} {k N : Nat} {Y : World} (h : TL w W2 s0 wb bt ba ao cap Q leave j k Y) (h2 : w.heap.size = s0) (h4 : wb < bt) (h5 : bt < ba) (h6 : ba < N) :
    KeepsFrom N Y (Y.setCell ⟨ba, 0, none⟩ (.int .i64 ((k : Int) + 1))) ∧ TL w W2 s0 wb bt ba ao cap Q leave j (k + 1) (Y.setCell ⟨ba, 0, none⟩ (.int .i64 ((k : Int) + 1))) := by
  have hf := frm_set Y ba 0 (.int .i64 ((k : Int) + 1))
  exact ⟨⟨hf.size, fun i ob hi hk2 _ => by rw [hf.block i (Array.getElem?_eq_some_iff.1 hk2).1 (by omega)]; exact hk2⟩, ⟨Boxed.set _ h.at', boxed_frm h.turn hf (by omega), h.ex.frm hf (fun b e => by omega) h2⟩⟩




set_option maxRecDepth 100000 in
set_option maxHeartbeats 16000000 in
theorem lawline_any (x : Lx) (rb : Nat) (D : Nat → Prop) (B : List Int) (P : List (List Es)) (nm : List UInt8) (leave : Int) (w : World) (h : Ldg w x) (hk : OkL x) (hd : Doc w rb D x.L B P) (hn : nm.length ≤ maxLen) (hPl : P.length = x.P.length) (hP : x.P.length ≤ 200) (hok : ∀ p ∈ P, OkN p) (hrel : ∀ k, idx x.L nm = some k → lnN P nm P.length = lnE x.P k x.P.length) :
    Calls Try.prog 29 #[x.ptr, .pointer (some ⟨rb, 0, none⟩), .string ⟨nm.toArray⟩, .int .i64 leave] w fun e w' => e = .returned (.bool true) ∧ Old w w' := by
  have kL := hid (fun W (o : Old w W) => lineF_any x nm W (h.old o) hk hn hP)
  have kD := hid (fun W (o : Old w W) => dline_any rb D x.L B P nm W (hd.old o) (by omega) hok)
  have kF := hid (fun W (o : Old w W) => dfind_any rb D x.L B P nm W (hd.old o) (by have := hk.len; have := hk.oka.len; omega))
  have krel := hid hrel
  have kle := hid (lnN_len P nm P.length)
  have kPl := hid hPl
  unfold Lx.ptr at *
  clear h hk hd hn hrel hok hPl
  refine (callsIn_wide (n := 5)).1 ?_
  refine callsIn_of_wp_marks Try.func29 rfl trivial ?_ rfl
  simp only [Try.ntmps29, List.size_toArray, List.length_cons, List.length_nil, Nat.reduceAdd, Nat.reduceSub, Array.replicate_succ, Array.replicate_zero, List.push_toArray, List.append_toArray, List.nil_append, List.cons_append]
  refine wpIn_wide.2 ?_
  go_upto_region 1 with fail
  have b1 := hid (boxed_two w (.int .i64 leave) (.bool false) 2 4)
  have o1 : Hid (Old w ((w.alloc (.cells #[.int .i64 leave] 2)).alloc (.cells #[.bool false] 4))) := ((Old.refl w).alloc _).alloc _
  have z1 : Hid (((w.alloc (.cells #[.int .i64 leave] 2)).alloc (.cells #[.bool false] 4)).heap.size = w.heap.size + 2) := by show _ = _; simp only [alloc_size]
  generalize (w.alloc (.cells #[.int .i64 leave] 2)).alloc (.cells #[.bool false] 4) = W1 at *
  go_wp2_with fail
  refine (kL.out W1 o1.out).mono ?_
  rintro e W2 ⟨gf, lb, rfl, ⟨heg, hfn, Kp, hKt, hKb, hKs, hsq⟩, o2⟩
  obtain ⟨s0, hs0⟩ : ∃ s0, w.heap.size = s0 := ⟨_, rfl⟩
  have kss := hid hs0
  rw [hs0] at b1 z1 ⊢
  have kls : Hid (s0 + 2 ≤ W2.heap.size) := by have := o2.size; have := z1.out; show _ ≤ _; omega
  have kb1 := hid (boxed_olds b1.out.1 o2)
  have kb2 := hid (boxed_olds b1.out.2 o2)
  have ko2 := hid (o1.out.trans o2)
  have keg := hid heg
  have kfn := hid hfn
  have kKt := hid hKt
  have kKb := hid hKb
  have kKs := hid hKs
  have ksq := hid hsq
  have hfw := hfn W2
  clear o2 hs0 b1 o1 z1 heg hfn hKt hKb hKs hsq kL
  go_wp2_with fail
  refine (kD.out W2 ko2.out).mono ?_
  rintro e W3 ⟨v, rfl, hv, o3⟩
  obtain ⟨ao, cap, rfl, hpt, hao⟩ := owns_pt hv
  have o4 : Old W3 (W3.alloc (.cells #[.slice ao (lnN P nm P.length).length cap] 133)) := (Old.refl W3).alloc _
  have kex0 : Hid (EL w W2 (W3.alloc (.cells #[.slice ao (lnN P nm P.length).length cap] 133)) s0 W3.heap.size ao cap (lnN P nm P.length) leave) := ⟨boxed_olds kb1.out (o3.trans o4), boxed_olds kb2.out (o3.trans o4), Boxed.new W3 _ _, hpt.frm o4 (fun _ _ h => h), hao, by have := o3.size; have := kls.out; omega, o3.size, (ko2.out.trans o3).trans o4, o3.trans o4⟩
  have kF4 := hid (kF.out _ ((ko2.out.trans o3).trans o4))
  clear o3 hv hpt hao kb1 kb2 kF kD o4 hfw
  go_wp2_with fail
  generalize W3.alloc (.cells #[.slice ao (lnN P nm P.length).length cap] 133) = Wz at *
  generalize W3.heap.size = wb at *
  refine kF4.out.mono ?_
  rintro e we ⟨rfl, ew⟩
  rw [ew]
  clear ew we kF4
  have hQl : (lnN P nm P.length).length ≤ 200 := by have := kle.out; have := kPl.out; omega
  cases hi : idx x.L nm with
  | some k =>
    have hfz : fndZ x.L nm = (k : Int) := by unfold fndZ; rw [hi]
    rw [hfz]
    have ksq2 := ksq.out
    rw [hi] at ksq2
    dsimp only at ksq2
    rw [← krel.out k hi] at ksq2
    obtain ⟨Q, hQ⟩ : ∃ Q, lnN P nm P.length = Q := ⟨_, rfl⟩
    rw [hQ] at kex0 hQl ksq2
    clear ksq
    have ksq := hid ksq2
    have kex := kex0
    clear hi hfz hQ kex0 ksq2
    go_upto_region 7 with fail
    have hwb : Hid (wb < Wz.heap.size) := kex.out.want.lt
    have fbt1 := hid (Boxed.new Wz 3 (.int .i64 0))
    have kex2 := hid (kex.out.frm ((Old.refl Wz).alloc (.cells #[.int .i64 0] 3)) (fun b e => e.elim) kss.out)
    have hz9 : Hid ((Wz.alloc (.cells #[.int .i64 0] 3)).heap.size = Wz.heap.size + 1) := alloc_size _ _
    go_wp2_with fail
    clear kex
    generalize Wz.alloc (.cells #[.int .i64 0] 3) = W9 at *
    generalize Wz.heap.size = bt1 at *
    have kex := kex2
    clear kex2
    refine wp_loop_rounds 3 ?_
    rw [rounds_succ]
    have bc0 := fbt1.out.cell
    go_wp2_with fail
    have tI1 : Hid (TL w W2 s0 wb bt1 W9.heap.size ao cap Q leave 0 0 (W9.alloc (.cells #[.int .i64 0] 3))) := ⟨Boxed.new W9 3 (.int .i64 0), boxed_olds fbt1.out ((Old.refl _).alloc _), kex.out.frm ((Old.refl W9).alloc _) (fun b e => e.elim) kss.out⟩
    have hz1 : Hid ((W9.alloc (.cells #[.int .i64 0] 3)).heap.size = bt1 + 2) := hid (by rw [alloc_size, hz9.out])
    rw [hz9.out] at tI1 ⊢
    clear bc0 fbt1 kex
    generalize W9.alloc (.cells #[.int .i64 0] 3) = W10 at *
    have e3 := hz1.out
    have e4 := hwb.out
    have kW2 : Hid (W2.heap.size ≤ bt1 + 1) := by have := tI1.out.ex.wl; show _ ≤ _; omega
    refine range_joinP (n := 5) (by omega) (gf := gf) (lb := lb) rfl keg.out
      (ksq.out W10 tI1.out.ex.oW)
      (fun h k => kKt.out _ _ _ h k) (fun W l o o' hl h1 h2 => kKb.out W l o o' (by have := tI1.out.ex.oW.size; omega) h1 h2) (fun _ => rfl) 2
      (fun q Y => ∃ k, q.length = k ∧ PreQ Q q ∧ TL w W2 s0 wb bt1 (bt1 + 1) ao cap Q leave 0 k Y)
      (fun q Y => ∃ k : Nat, TL w W2 s0 wb bt1 (bt1 + 1) ao cap Q leave 0 k Y ∧ (k : Int) = leave)
      (fun _ Y => ∃ k : Nat, TL w W2 s0 wb bt1 (bt1 + 1) ao cap Q leave 0 k Y ∧ ((k : Int) = (Q.length : Int) ∨ (k : Int) = leave))
      (fun q A B ⟨k, h1, h2, h3⟩ hf => ⟨k, h1, h2, h3.frm hf (fun b e => by omega) kss.out (by omega) (by omega)⟩)
      (fun q A B ⟨k, h3, h4⟩ hf => ⟨k, h3.frm hf (fun b e => by omega) kss.out (by omega) (by omega), h4⟩)
      ⟨0, rfl, ⟨Q, rfl⟩, tI1.out⟩
      (fun x t => (((t.setIfInBounds 32 (.int .i64 x.1)).setIfInBounds 33 (.int .i64 x.2)).setIfInBounds 13 (.int .i64 x.1)).setIfInBounds 14 (.int .i64 x.2))
      ?assign1 ?body1
      (fun q W hq ⟨k, h1, h2, h3⟩ => ⟨k, h3, Or.inl (by subst hq; rw [h1])⟩)
      (fun q W _ ⟨k, h3, h4⟩ => ⟨k, h3, Or.inr h4⟩) ?hQ1 ?end1
    case assign1 =>
      intro l' x W K hK
      simp only [encL]
      simp only [List.setIfInBounds_toArray, List.set_cons_zero, List.set_cons_succ] at hK
      gi_wp2
      exact hK
    case hQ1 =>
      intro b W h
      exact inBlock_both (Or.inr rfl) h
    case body1 =>
      rintro l' q x Y ⟨k, hql, -, tI⟩ hpre
      simp only [List.setIfInBounds_toArray, List.set_cons_zero, List.set_cons_succ]
      obtain ⟨hlt, hat⟩ := preQ_at hpre hql
      have kev : Hid ((q ++ [x]).length = k + 1) := by show _ = _; simp [hql]
      have kI := hid tI
      obtain ⟨g, rfl, c0, c1⟩ := tI.ex.pts k hlt
      have wc0 := tI.ex.want.cell
      have ac0 := tI.at'.cell
      have tc0 := tI.turn.cell
      have vc0 := tI.ex.lea.cell
      have afz := tI.at'.frozen
      have hk9 : (k : Int) ≤ 1099511627776 := by omega
      have hkw' : (k : Int) < (Q.length : Int) := by omega
      have hd1 : decide (Q.length ≤ k) = false := by simpa using hlt
      have kKp := hid (kKs.out _ _ _ (.int .i64 ((k : Int) + 1)) (by have := kW2.out; omega) tI.at')
      have knx := hid (kI.out.next (N := W10.heap.size) kss.out (by omega) (by omega) (by omega))
      have kpre := hid hpre
      clear hpre tI hql
      rw [hat] at c0 c1
      clear hat
      obtain ⟨x1, x2⟩ := x
      dsimp only at *
      have vc1 := (boxed_frm kI.out.ex.lea (frm_set Y (bt1 + 1) 0 (.int .i64 ((k : Int) + 1))) (by have := kI.out.ex.sl; omega)).cell
      by_cases hlv : (k : Int) + 1 = leave
      · have hlv2 : ((k : Int) + 1 == leave) = true := by simpa using hlv
        have hlv3 : Hid ((k : Int) + 1 = leave) := hlv
        clear hlv
        gi_wp2
        obtain ⟨p1, p3⟩ := knx.out
        exact ⟨p1, rfl, k + 1, p3, hlv3.out⟩
      · have hlv2 : ((k : Int) + 1 == leave) = false := by simpa using hlv
        have hlv3 : Hid ((k : Int) + 1 ≠ leave) := hlv
        clear hlv
        gi_wp2
        obtain ⟨p1, p3⟩ := knx.out
        exact ⟨p1, kKp.out, k + 1, kev.out, kpre.out, p3⟩
    case end1 =>
      rintro D1 q Y hD1 ⟨k, tI, hfin⟩ hK1
      have wc0 := tI.ex.want.cell
      have ac0 := tI.at'.cell
      have tc0 := tI.turn.cell
      have vc0 := tI.ex.lea.cell
      have kI := hid tI
      have e7 := tI.ex.sl
      have kK1 := hid hK1
      have kfin := hid hfin
      clear tI hK1 tI1 hfin
      refine inBlock_both (Or.inl rfl) ?_
      dsimp only
      go_upto_region 18 with fail
      go_cut [87] from 65 to 87 (fun p wx => p = .bool false ∧ wx = Y)
      case first =>
        by_cases hke : (k : Int) = (Q.length : Int)
        · have hkb : ((k : Int) != (Q.length : Int)) = false := by rw [hke]; simp
          clear hke
          go_wp2_with fail
          go_meet
          case rel => exact ⟨rfl, rfl⟩
        · have hkb : ((k : Int) != (Q.length : Int)) = true := by simpa using hke
          have hkl : ((k : Int) != leave) = false := by rw [kfin.out.resolve_left hke]; simp
          go_wp2_with fail
          go_meet
          case rel => exact ⟨rfl, rfl⟩
      case rest =>
        obtain ⟨rfl, rfl⟩ := hcut
        clear wc0 ac0 vc0 kfin
        go_wp2_with fail
        rw [rounds_succ]
        have fbt2 := hid (Boxed.new wc 3 (.int .i64 1))
        have ex2 := hid (kI.out.ex.frm ((Old.refl wc).alloc (.cells #[.int .i64 1] 3)) (fun b e => e.elim) kss.out)
        have hbt2 := hid (show wb < wc.heap.size from blk_lt kI.out.ex.want)
        have hD1l := (Array.getElem?_eq_some_iff.1 kK1.out).1
        have kD1 := hid ((Below.heap_alloc wc (.cells #[.int .i64 1] 3) D1 hD1l).trans kK1.out)
        have hDb1 : D1 < wc.heap.size ∧ bt1 + 1 < D1 := ⟨hD1l, by omega⟩
        clear kI kK1 tc0
        generalize wc.alloc (.cells #[.int .i64 1] 3) = W11 at *
        generalize wc.heap.size = bt2 at *
        have bc0 := fbt2.out.cell
        go_wp2_with fail
        have hba2 := hid (blk_lt fbt2.out)
        have tI2 : Hid (TL w W2 s0 wb bt2 W11.heap.size ao cap Q leave 1 0 (W11.alloc (.cells #[.int .i64 0] 3))) := ⟨Boxed.new W11 3 (.int .i64 0), boxed_olds fbt2.out ((Old.refl _).alloc _), ex2.out.frm ((Old.refl W11).alloc _) (fun b e => e.elim) kss.out⟩
        have hz2 : Hid ((W11.alloc (.cells #[.int .i64 0] 3)).heap.size = W11.heap.size + 1) := alloc_size _ _
        clear bc0
        have kD1 := hid ((Below.heap_alloc W11 (.cells #[.int .i64 0] 3) D1 (blk_lt kD1.out)).trans kD1.out)
        generalize W11.alloc (.cells #[.int .i64 0] 3) = W12 at *
        generalize W11.heap.size = ba2 at *
        have e1 := hba2.out
        have e2 := hbt2.out
        have e3 := hz2.out
        refine range_joinP (n := 5) (by omega) (gf := gf) (lb := lb) rfl keg.out
          (ksq.out W12 tI2.out.ex.oW)
          (fun h k => kKt.out _ _ _ h k) (fun W l o o' hl h1 h2 => kKb.out W l o o' (by have := tI2.out.ex.oW.size; omega) h1 h2) (fun _ => rfl) 2
          (fun q Y => ∃ k, q.length = k ∧ PreQ Q q ∧ TL w W2 s0 wb bt2 ba2 ao cap Q leave 1 k Y ∧ Y.heap[D1]? = some (.deferred (some [])))
          (fun q Y => False)
          (fun _ Y => ∃ k : Nat, TL w W2 s0 wb bt2 ba2 ao cap Q leave 1 k Y ∧ (k : Int) = (Q.length : Int) ∧ Y.heap[D1]? = some (.deferred (some [])))
          (fun q A B ⟨k, h1, h2, h3, hm⟩ hf => ⟨k, h1, h2, h3.frm hf (fun b e => by omega) kss.out (by omega) (by omega), by rw [hf.block D1 (Array.getElem?_eq_some_iff.1 hm).1 (by omega)]; exact hm⟩)
          (fun q A B h hf => h)
          ⟨0, rfl, ⟨Q, rfl⟩, tI2.out, kD1.out⟩
          (fun x t => (((t.setIfInBounds 32 (.int .i64 x.1)).setIfInBounds 33 (.int .i64 x.2)).setIfInBounds 13 (.int .i64 x.1)).setIfInBounds 14 (.int .i64 x.2))
          ?assign2 ?body2
          (fun q W hq ⟨k, h1, h2, h3, hm⟩ => ⟨k, h3, by subst hq; rw [h1], hm⟩)
          (fun q W _ h => h.elim) ?hQ2 ?end2
        case assign2 =>
          intro l' x W K hK
          simp only [encL]
          simp only [List.setIfInBounds_toArray, List.set_cons_zero, List.set_cons_succ] at hK
          gi_wp2
          exact hK
        case hQ2 =>
          intro b W h
          exact inBlock_both (Or.inr rfl) h
        case body2 =>
          rintro l' q x Y ⟨k, hql, -, tI, hmD1⟩ hpre
          simp only [List.setIfInBounds_toArray, List.set_cons_zero, List.set_cons_succ]
          obtain ⟨hlt, hat⟩ := preQ_at hpre hql
          have kev : Hid ((q ++ [x]).length = k + 1) := by show _ = _; simp [hql]
          have kI := hid tI
          obtain ⟨g, rfl, c0, c1⟩ := tI.ex.pts k hlt
          have wc0 := tI.ex.want.cell
          have ac0 := tI.at'.cell
          have tc0 := tI.turn.cell
          have vc0 := tI.ex.lea.cell
          have afz := tI.at'.frozen
          have hk9 : (k : Int) ≤ 1099511627776 := by omega
          have hkw' : (k : Int) < (Q.length : Int) := by omega
          have hd1 : decide (Q.length ≤ k) = false := by simpa using hlt
          have kKp := hid (kKs.out _ _ _ (.int .i64 ((k : Int) + 1)) (by have := kW2.out; omega) tI.at')
          have knx := hid (kI.out.next (N := W12.heap.size) kss.out (by omega) (by omega) (by omega))
          have kpre := hid hpre
          clear hpre tI hql
          rw [hat] at c0 c1
          clear hat
          obtain ⟨x1, x2⟩ := x
          dsimp only at *
          have kM := hid (((frm_set Y ba2 0 (.int .i64 ((k : Int) + 1))).block D1 (Array.getElem?_eq_some_iff.1 hmD1).1 (by omega)).trans hmD1)
          clear hmD1
          gi_wp2
          obtain ⟨p1, p3⟩ := knx.out
          exact ⟨p1, kKp.out, k + 1, kev.out, kpre.out, p3, kM.out⟩
        case end2 =>
          rintro D2 q Y hD2 ⟨k, tI, hke, hmD1⟩ hK2
          have wc0 := tI.ex.want.cell
          have ac0 := tI.at'.cell
          have tc0 := tI.turn.cell
          have vc0 := tI.ex.lea.cell
          have kI := hid tI
          have e8 := tI.ex.sl
          have kK2 := hid hK2
          have kD1 := hid hmD1
          have hkb : ((k : Int) != (Q.length : Int)) = false := by rw [hke]; simp
          clear hmD1 hke
          clear tI hK2 tI2
          refine inBlock_both (Or.inl rfl) ?_
          dsimp only
          go_upto_region 18 with fail
          go_cut [87] from 65 to 87 (fun p wx => p = .bool false ∧ wx = Y)
          case first =>
            go_wp2_with fail
            go_meet
            case rel => exact ⟨rfl, rfl⟩
          case rest =>
            obtain ⟨rfl, rfl⟩ := hcut
            clear wc0 ac0 vc0 hkb
            go_wp2_with fail
            rw [rounds_succ]
            have fb3 := (Boxed.new wc 3 (.int .i64 2)).cell
            have om : Old wc (wc.alloc (.cells #[.int .i64 2] 3)) := (Old.refl wc).alloc _
            have hres := boxed_olds kI.out.ex.res om
            have rc1 := hres.cell
            have rf1 := hres.frozen
            have kres := hid hres
            have kold := hid (kI.out.ex.old.trans om)
            have l1 := (Array.getElem?_eq_some_iff.1 kD1.out).1
            have l2 := (Array.getElem?_eq_some_iff.1 kK2.out).1
            have m1 := hid ((om.block D1 l1 (fun h => h)).trans kD1.out)
            have m2 := hid ((om.block D2 l2 (fun h => h)).trans kK2.out)
            have hz9 := om.size
            clear om hres
            generalize wc.alloc (.cells #[.int .i64 2] 3) = w9 at *
            go_wp2_with fail
            have hfx := frm_set w9 (s0 + 1) 0 (.bool true)
            refine leave_marks [D2, D1] _ ⟨by simp; omega, fun r hr => ?_⟩ (fun W' hW' => ?_)
            · simp only [List.mem_cons, List.not_mem_nil, or_false] at hr
              rcases hr with rfl | rfl
              · rw [hfx.block r (by omega) (by omega)]
                exact m2.out
              · rw [hfx.block r (by omega) (by omega)]
                exact m1.out
            · have hge : ∀ r ∈ [D2, D1], wb < r := fun r hr => by
                simp only [List.mem_cons, List.not_mem_nil, or_false] at hr
                rcases hr with rfl | rfl <;> omega
              have hc0 := (boxed_frm (Boxed.set (.bool true) kres.out) hW' (fun h => by have := hge _ h; omega)).cell
              refine ⟨.bool true, ?_, rfl, ?_⟩
              · simp [results, Try.f29, go_sem, hc0]
              · exact Frm.trans (Frm.trans kold.out hfx (fun i hi e => by have := kss.out; omega)) hW' (fun i hi e => by have := kss.out; have := hge _ e; omega)
  | none =>
    have hfz : fndZ x.L nm = -1 := by unfold fndZ; rw [hi]
    rw [hfz]
    have ksq2 := ksq.out
    rw [hi] at ksq2
    dsimp only at ksq2
    clear ksq
    have ksq := hid ksq2
    have wc := kex0.out.want.cell
    have wf := kex0.out.want.frozen
    have hwk : Hid (EL w W2 (Wz.setCell ⟨wb, 0, none⟩ (.slice none 0 0)) s0 wb none 0 [] leave) := by
      have hz := frm_set Wz wb 0 (.slice none 0 0)
      have k0 := kex0.out
      exact ⟨boxed_frm k0.lea hz (by have := k0.sl; omega), boxed_frm k0.res hz (by have := k0.sl; omega), Boxed.set _ k0.want, fun i hi => by simp at hi, fun a e => (by cases e), k0.sl, k0.wl, Frm.trans k0.old hz (fun i hi e => by have := k0.sl; have := kss.out; omega), Frm.trans k0.oW hz (fun i hi e => by have := k0.wl; omega)⟩
    clear hi hfz ksq2 kex0 hQl
    go_upto_region 7 with fail
    generalize Wz.setCell ⟨wb, 0, none⟩ (.slice none 0 0) = Wy at *
    clear wc wf
    obtain ⟨Wz, hWz⟩ : ∃ Wz, Wy = Wz := ⟨_, rfl⟩
    rw [hWz] at hwk ⊢
    clear hWz
    obtain ⟨ao, hao⟩ : ∃ ao : Option Addr, none = ao := ⟨_, rfl⟩
    obtain ⟨Q, hQ⟩ : ∃ Q : List (Int × Int), [] = Q := ⟨_, rfl⟩
    have hQl : Q.length ≤ 200 := by rw [← hQ]; simp
    rw [hao, hQ] at hwk
    rw [hQ] at ksq
    obtain ⟨cap, hcap⟩ : ∃ cap : Nat, 0 = cap := ⟨_, rfl⟩
    have kex := hwk
    clear hwk hao hQ
    rw [hcap] at kex
    clear hcap
    have hwb : Hid (wb < Wz.heap.size) := kex.out.want.lt
    have fbt1 := hid (Boxed.new Wz 3 (.int .i64 0))
    have kex2 := hid (kex.out.frm ((Old.refl Wz).alloc (.cells #[.int .i64 0] 3)) (fun b e => e.elim) kss.out)
    have hz9 : Hid ((Wz.alloc (.cells #[.int .i64 0] 3)).heap.size = Wz.heap.size + 1) := alloc_size _ _
    go_wp2_with fail
    clear kex
    generalize Wz.alloc (.cells #[.int .i64 0] 3) = W9 at *
    generalize Wz.heap.size = bt1 at *
    have kex := kex2
    clear kex2
    refine wp_loop_rounds 3 ?_
    rw [rounds_succ]
    have bc0 := fbt1.out.cell
    go_wp2_with fail
    have tI1 : Hid (TL w W2 s0 wb bt1 W9.heap.size ao cap Q leave 0 0 (W9.alloc (.cells #[.int .i64 0] 3))) := ⟨Boxed.new W9 3 (.int .i64 0), boxed_olds fbt1.out ((Old.refl _).alloc _), kex.out.frm ((Old.refl W9).alloc _) (fun b e => e.elim) kss.out⟩
    have hz1 : Hid ((W9.alloc (.cells #[.int .i64 0] 3)).heap.size = bt1 + 2) := hid (by rw [alloc_size, hz9.out])
    rw [hz9.out] at tI1 ⊢
    clear bc0 fbt1 kex
    generalize W9.alloc (.cells #[.int .i64 0] 3) = W10 at *
    have e3 := hz1.out
    have e4 := hwb.out
    have kW2 : Hid (W2.heap.size ≤ bt1 + 1) := by have := tI1.out.ex.wl; show _ ≤ _; omega
    refine range_joinP (n := 5) (by omega) (gf := gf) (lb := lb) rfl keg.out
      (ksq.out W10 tI1.out.ex.oW)
      (fun h k => kKt.out _ _ _ h k) (fun W l o o' hl h1 h2 => kKb.out W l o o' (by have := tI1.out.ex.oW.size; omega) h1 h2) (fun _ => rfl) 2
      (fun q Y => ∃ k, q.length = k ∧ PreQ Q q ∧ TL w W2 s0 wb bt1 (bt1 + 1) ao cap Q leave 0 k Y)
      (fun q Y => ∃ k : Nat, TL w W2 s0 wb bt1 (bt1 + 1) ao cap Q leave 0 k Y ∧ (k : Int) = leave)
      (fun _ Y => ∃ k : Nat, TL w W2 s0 wb bt1 (bt1 + 1) ao cap Q leave 0 k Y ∧ ((k : Int) = (Q.length : Int) ∨ (k : Int) = leave))
      (fun q A B ⟨k, h1, h2, h3⟩ hf => ⟨k, h1, h2, h3.frm hf (fun b e => by omega) kss.out (by omega) (by omega)⟩)
      (fun q A B ⟨k, h3, h4⟩ hf => ⟨k, h3.frm hf (fun b e => by omega) kss.out (by omega) (by omega), h4⟩)
      ⟨0, rfl, ⟨Q, rfl⟩, tI1.out⟩
      (fun x t => (((t.setIfInBounds 32 (.int .i64 x.1)).setIfInBounds 33 (.int .i64 x.2)).setIfInBounds 13 (.int .i64 x.1)).setIfInBounds 14 (.int .i64 x.2))
      ?assign1 ?body1
      (fun q W hq ⟨k, h1, h2, h3⟩ => ⟨k, h3, Or.inl (by subst hq; rw [h1])⟩)
      (fun q W _ ⟨k, h3, h4⟩ => ⟨k, h3, Or.inr h4⟩) ?hQ1 ?end1
    case assign1 =>
      intro l' x W K hK
      simp only [encL]
      simp only [List.setIfInBounds_toArray, List.set_cons_zero, List.set_cons_succ] at hK
      gi_wp2
      exact hK
    case hQ1 =>
      intro b W h
      exact inBlock_both (Or.inr rfl) h
    case body1 =>
      rintro l' q x Y ⟨k, hql, -, tI⟩ hpre
      simp only [List.setIfInBounds_toArray, List.set_cons_zero, List.set_cons_succ]
      obtain ⟨hlt, hat⟩ := preQ_at hpre hql
      have kev : Hid ((q ++ [x]).length = k + 1) := by show _ = _; simp [hql]
      have kI := hid tI
      obtain ⟨g, rfl, c0, c1⟩ := tI.ex.pts k hlt
      have wc0 := tI.ex.want.cell
      have ac0 := tI.at'.cell
      have tc0 := tI.turn.cell
      have vc0 := tI.ex.lea.cell
      have afz := tI.at'.frozen
      have hk9 : (k : Int) ≤ 1099511627776 := by omega
      have hkw' : (k : Int) < (Q.length : Int) := by omega
      have hd1 : decide (Q.length ≤ k) = false := by simpa using hlt
      have kKp := hid (kKs.out _ _ _ (.int .i64 ((k : Int) + 1)) (by have := kW2.out; omega) tI.at')
      have knx := hid (kI.out.next (N := W10.heap.size) kss.out (by omega) (by omega) (by omega))
      have kpre := hid hpre
      clear hpre tI hql
      rw [hat] at c0 c1
      clear hat
      obtain ⟨x1, x2⟩ := x
      dsimp only at *
      have vc1 := (boxed_frm kI.out.ex.lea (frm_set Y (bt1 + 1) 0 (.int .i64 ((k : Int) + 1))) (by have := kI.out.ex.sl; omega)).cell
      by_cases hlv : (k : Int) + 1 = leave
      · have hlv2 : ((k : Int) + 1 == leave) = true := by simpa using hlv
        have hlv3 : Hid ((k : Int) + 1 = leave) := hlv
        clear hlv
        gi_wp2
        obtain ⟨p1, p3⟩ := knx.out
        exact ⟨p1, rfl, k + 1, p3, hlv3.out⟩
      · have hlv2 : ((k : Int) + 1 == leave) = false := by simpa using hlv
        have hlv3 : Hid ((k : Int) + 1 ≠ leave) := hlv
        clear hlv
        gi_wp2
        obtain ⟨p1, p3⟩ := knx.out
        exact ⟨p1, kKp.out, k + 1, kev.out, kpre.out, p3⟩
    case end1 =>
      rintro D1 q Y hD1 ⟨k, tI, hfin⟩ hK1
      have wc0 := tI.ex.want.cell
      have ac0 := tI.at'.cell
      have tc0 := tI.turn.cell
      have vc0 := tI.ex.lea.cell
      have kI := hid tI
      have e7 := tI.ex.sl
      have kK1 := hid hK1
      have kfin := hid hfin
      clear tI hK1 tI1 hfin
      refine inBlock_both (Or.inl rfl) ?_
      dsimp only
      go_upto_region 18 with fail
      go_cut [87] from 65 to 87 (fun p wx => p = .bool false ∧ wx = Y)
      case first =>
        by_cases hke : (k : Int) = (Q.length : Int)
        · have hkb : ((k : Int) != (Q.length : Int)) = false := by rw [hke]; simp
          clear hke
          go_wp2_with fail
          go_meet
          case rel => exact ⟨rfl, rfl⟩
        · have hkb : ((k : Int) != (Q.length : Int)) = true := by simpa using hke
          have hkl : ((k : Int) != leave) = false := by rw [kfin.out.resolve_left hke]; simp
          go_wp2_with fail
          go_meet
          case rel => exact ⟨rfl, rfl⟩
      case rest =>
        obtain ⟨rfl, rfl⟩ := hcut
        clear wc0 ac0 vc0 kfin
        go_wp2_with fail
        rw [rounds_succ]
        have fbt2 := hid (Boxed.new wc 3 (.int .i64 1))
        have ex2 := hid (kI.out.ex.frm ((Old.refl wc).alloc (.cells #[.int .i64 1] 3)) (fun b e => e.elim) kss.out)
        have hbt2 := hid (show wb < wc.heap.size from blk_lt kI.out.ex.want)
        have hD1l := (Array.getElem?_eq_some_iff.1 kK1.out).1
        have kD1 := hid ((Below.heap_alloc wc (.cells #[.int .i64 1] 3) D1 hD1l).trans kK1.out)
        have hDb1 : D1 < wc.heap.size ∧ bt1 + 1 < D1 := ⟨hD1l, by omega⟩
        clear kI kK1 tc0
        generalize wc.alloc (.cells #[.int .i64 1] 3) = W11 at *
        generalize wc.heap.size = bt2 at *
        have bc0 := fbt2.out.cell
        go_wp2_with fail
        have hba2 := hid (blk_lt fbt2.out)
        have tI2 : Hid (TL w W2 s0 wb bt2 W11.heap.size ao cap Q leave 1 0 (W11.alloc (.cells #[.int .i64 0] 3))) := ⟨Boxed.new W11 3 (.int .i64 0), boxed_olds fbt2.out ((Old.refl _).alloc _), ex2.out.frm ((Old.refl W11).alloc _) (fun b e => e.elim) kss.out⟩
        have hz2 : Hid ((W11.alloc (.cells #[.int .i64 0] 3)).heap.size = W11.heap.size + 1) := alloc_size _ _
        clear bc0
        have kD1 := hid ((Below.heap_alloc W11 (.cells #[.int .i64 0] 3) D1 (blk_lt kD1.out)).trans kD1.out)
        generalize W11.alloc (.cells #[.int .i64 0] 3) = W12 at *
        generalize W11.heap.size = ba2 at *
        have e1 := hba2.out
        have e2 := hbt2.out
        have e3 := hz2.out
        refine range_joinP (n := 5) (by omega) (gf := gf) (lb := lb) rfl keg.out
          (ksq.out W12 tI2.out.ex.oW)
          (fun h k => kKt.out _ _ _ h k) (fun W l o o' hl h1 h2 => kKb.out W l o o' (by have := tI2.out.ex.oW.size; omega) h1 h2) (fun _ => rfl) 2
          (fun q Y => ∃ k, q.length = k ∧ PreQ Q q ∧ TL w W2 s0 wb bt2 ba2 ao cap Q leave 1 k Y ∧ Y.heap[D1]? = some (.deferred (some [])))
          (fun q Y => False)
          (fun _ Y => ∃ k : Nat, TL w W2 s0 wb bt2 ba2 ao cap Q leave 1 k Y ∧ (k : Int) = (Q.length : Int) ∧ Y.heap[D1]? = some (.deferred (some [])))
          (fun q A B ⟨k, h1, h2, h3, hm⟩ hf => ⟨k, h1, h2, h3.frm hf (fun b e => by omega) kss.out (by omega) (by omega), by rw [hf.block D1 (Array.getElem?_eq_some_iff.1 hm).1 (by omega)]; exact hm⟩)
          (fun q A B h hf => h)
          ⟨0, rfl, ⟨Q, rfl⟩, tI2.out, kD1.out⟩
          (fun x t => (((t.setIfInBounds 32 (.int .i64 x.1)).setIfInBounds 33 (.int .i64 x.2)).setIfInBounds 13 (.int .i64 x.1)).setIfInBounds 14 (.int .i64 x.2))
          ?assign2 ?body2
          (fun q W hq ⟨k, h1, h2, h3, hm⟩ => ⟨k, h3, by subst hq; rw [h1], hm⟩)
          (fun q W _ h => h.elim) ?hQ2 ?end2
        case assign2 =>
          intro l' x W K hK
          simp only [encL]
          simp only [List.setIfInBounds_toArray, List.set_cons_zero, List.set_cons_succ] at hK
          gi_wp2
          exact hK
        case hQ2 =>
          intro b W h
          exact inBlock_both (Or.inr rfl) h
        case body2 =>
          rintro l' q x Y ⟨k, hql, -, tI, hmD1⟩ hpre
          simp only [List.setIfInBounds_toArray, List.set_cons_zero, List.set_cons_succ]
          obtain ⟨hlt, hat⟩ := preQ_at hpre hql
          have kev : Hid ((q ++ [x]).length = k + 1) := by show _ = _; simp [hql]
          have kI := hid tI
          obtain ⟨g, rfl, c0, c1⟩ := tI.ex.pts k hlt
          have wc0 := tI.ex.want.cell
          have ac0 := tI.at'.cell
          have tc0 := tI.turn.cell
          have vc0 := tI.ex.lea.cell
          have afz := tI.at'.frozen
          have hk9 : (k : Int) ≤ 1099511627776 := by omega
          have hkw' : (k : Int) < (Q.length : Int) := by omega
          have hd1 : decide (Q.length ≤ k) = false := by simpa using hlt
          have kKp := hid (kKs.out _ _ _ (.int .i64 ((k : Int) + 1)) (by have := kW2.out; omega) tI.at')
          have knx := hid (kI.out.next (N := W12.heap.size) kss.out (by omega) (by omega) (by omega))
          have kpre := hid hpre
          clear hpre tI hql
          rw [hat] at c0 c1
          clear hat
          obtain ⟨x1, x2⟩ := x
          dsimp only at *
          have kM := hid (((frm_set Y ba2 0 (.int .i64 ((k : Int) + 1))).block D1 (Array.getElem?_eq_some_iff.1 hmD1).1 (by omega)).trans hmD1)
          clear hmD1
          gi_wp2
          obtain ⟨p1, p3⟩ := knx.out
          exact ⟨p1, kKp.out, k + 1, kev.out, kpre.out, p3, kM.out⟩
        case end2 =>
          rintro D2 q Y hD2 ⟨k, tI, hke, hmD1⟩ hK2
          have wc0 := tI.ex.want.cell
          have ac0 := tI.at'.cell
          have tc0 := tI.turn.cell
          have vc0 := tI.ex.lea.cell
          have kI := hid tI
          have e8 := tI.ex.sl
          have kK2 := hid hK2
          have kD1 := hid hmD1
          have hkb : ((k : Int) != (Q.length : Int)) = false := by rw [hke]; simp
          clear hmD1 hke
          clear tI hK2 tI2
          refine inBlock_both (Or.inl rfl) ?_
          dsimp only
          go_upto_region 18 with fail
          go_cut [87] from 65 to 87 (fun p wx => p = .bool false ∧ wx = Y)
          case first =>
            go_wp2_with fail
            go_meet
            case rel => exact ⟨rfl, rfl⟩
          case rest =>
            obtain ⟨rfl, rfl⟩ := hcut
            clear wc0 ac0 vc0 hkb
            go_wp2_with fail
            rw [rounds_succ]
            have fb3 := (Boxed.new wc 3 (.int .i64 2)).cell
            have om : Old wc (wc.alloc (.cells #[.int .i64 2] 3)) := (Old.refl wc).alloc _
            have hres := boxed_olds kI.out.ex.res om
            have rc1 := hres.cell
            have rf1 := hres.frozen
            have kres := hid hres
            have kold := hid (kI.out.ex.old.trans om)
            have l1 := (Array.getElem?_eq_some_iff.1 kD1.out).1
            have l2 := (Array.getElem?_eq_some_iff.1 kK2.out).1
            have m1 := hid ((om.block D1 l1 (fun h => h)).trans kD1.out)
            have m2 := hid ((om.block D2 l2 (fun h => h)).trans kK2.out)
            have hz9 := om.size
            clear om hres
            generalize wc.alloc (.cells #[.int .i64 2] 3) = w9 at *
            go_wp2_with fail
            have hfx := frm_set w9 (s0 + 1) 0 (.bool true)
            refine leave_marks [D2, D1] _ ⟨by simp; omega, fun r hr => ?_⟩ (fun W' hW' => ?_)
            · simp only [List.mem_cons, List.not_mem_nil, or_false] at hr
              rcases hr with rfl | rfl
              · rw [hfx.block r (by omega) (by omega)]
                exact m2.out
              · rw [hfx.block r (by omega) (by omega)]
                exact m1.out
            · have hge : ∀ r ∈ [D2, D1], wb < r := fun r hr => by
                simp only [List.mem_cons, List.not_mem_nil, or_false] at hr
                rcases hr with rfl | rfl <;> omega
              have hc0 := (boxed_frm (Boxed.set (.bool true) kres.out) hW' (fun h => by have := hge _ h; omega)).cell
              refine ⟨.bool true, ?_, rfl, ?_⟩
              · simp [results, Try.f29, go_sem, hc0]
              · exact Frm.trans (Frm.trans kold.out hfx (fun i hi e => by have := kss.out; omega)) hW' (fun i hi e => by have := kss.out; have := hge _ e; omega)
end Go.Proofs.Ytlhlmkdgbgppiaa
