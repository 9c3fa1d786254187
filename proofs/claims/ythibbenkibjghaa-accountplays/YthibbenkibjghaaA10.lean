/- Copy: walked. -/
import Derived.Test.YthibbenkibjghaaA9
namespace Go.Proofs.Ythibbenkibjghaa
open Go.RowKit Go.Lib Go.Shelf Go.Maps
attribute [local go_sem] Oper.semAt_some

theorem pre_next {L : List Hd} {k k' : Nat} {x : Hd} (hk : k ≤ L.length) (hk' : k' ≤ L.length) (h : L.take k ++ [x] = L.take k') : ∃ hlt : k < L.length, x = L[k] ∧ k' = k + 1 := by
  have hlen := congrArg List.length h
  simp at hlen
  have e : k' = k + 1 := by omega
  subst e
  have hlt : k < L.length := by omega
  rw [List.take_succ_eq_append_getElem hlt] at h
  have := List.append_cancel_left h
  exact ⟨hlt, by simpa using this, rfl⟩
theorem keeps_frm {S : Nat → Prop} {B : Nat} {X Z : World} (f : Frm S X Z) (hS : ∀ j, S j → j < B) : KeepsFrom B X Z := ⟨f.size, fun k ob hB hk _ => by rw [f.block k (Array.getElem?_eq_some_iff.1 hk).1 (fun e => by have := hS k e; omega)]; exact hk⟩

theorem range_plain {α : Type} {P : Program} {n : Nat} {g : Operand} {ps : Array Tmp} {assign body : Code} {Q : Exit → Act → World → Prop} {a : Act} {w : World} (hn : 1 ≤ n) {gf : Nat} {lb : Array Value}
    (hg : a.eval g = .func (.func gf) #[] lb) (eg : ∀ args w, (callFunc gf args).run P w = .ok (.enter gf args) w) {enc : α → Array Value} {Kp : World → World → Prop} {Pre S Sp : List α → Prop}
    (hseq : SeqP P (n - 1) gf lb enc Kp Pre S Sp w) (hKt : ∀ {A B D : World}, Kp A B → Kp B D → Kp A D)
    (hKb : ∀ (W : World) (l : Nat) (o o' : Obj), w.heap.size ≤ l → W.heap[l]? = some o → o.isCells = false → Kp W (W.putObj l o')) (hps : ∀ x, (enc x).size = ps.size)
    (I : List α → World → Prop) (Ix : Code → List α → World → Prop) (hI : OwnFrom w.heap.size I) (hIx : ∀ c, OwnFrom w.heap.size (Ix c))
    (hIP : ∀ p X Y, I p X → Frm (fun k => w.heap.size + 2 ≤ k) X Y → I p Y) (hIxP : ∀ c p X Y, Ix c p X → Frm (fun k => w.heap.size + 2 ≤ k) X Y → Ix c p Y) (h0 : I [] w) (upd : α → Array Value → Array Value)
    (hassign : ∀ (l : Nat) (x : α) (W : World) (K : Act → World → Prop), K { tmps := upd x a.tmps, defers := [] } W → assign.wpIn (Fence.wide.inRound l) (n - 1 - 1) P (Exit.then K (fun _ _ _ => False)) { tmps := (ps.zip (enc x)).foldl (fun t (p, v) => t.setIfInBounds p v) a.tmps, defers := [] } W)
    (hbody : ∀ (l : Nat) (p : List α) (x : α) (W : World), I p W → Pre (p ++ [x]) → body.wpIn (Fence.wide.inRound l) (n - 1 - 1) P (ownPostG w.heap.size Kp I Ix (p ++ [x]) W) { tmps := upd x a.tmps, defers := [] } W)
    (hdone : ∀ (D : Nat) (q : List α) (W : World), w.heap.size ≤ D → S q → I q W → W.heap[D]? = some (.deferred (some [])) → Q .normal { a with defers := { target := .collected D, args := #[] } :: a.defers } W)
    (hstop : ∀ (D : Nat) (c : Code) (p : List α) (W : World), w.heap.size ≤ D → Sp p → Ix c p W → W.heap[D]? = some (.deferred (some [])) → c.wpIn Fence.wide n P Q { a with defers := { target := .collected D, args := #[] } :: a.defers } W) :
    (Code.rangeFunc g ps assign body).wpIn Fence.wide n P Q a w :=
  range_priv hn hg eg hseq hKt hKb hps I Ix hI hIx hIP hIxP h0 (fun x => { tmps := upd x a.tmps, defers := [] }) hassign hbody hdone hstop

/-- Where a copy stands behind so many lots. -/
structure CI (w : World) (sb ab bi bm : Nat) (bud sp : Int) (R : List Hd) (k : Nat) (Y : World) : Prop where
  acc : Acc Y ab bi bm bud sp (R.take k)
  box : Boxed Y sb 28 (.pointer (some ⟨ab, 0, none⟩))
  old : Old w Y
theorem CI.frm {S : Nat → Prop} {w : World} {sb ab bi bm : Nat} {bud sp : Int} {R : List Hd} {k : Nat} {X Y : World} (h : CI w sb ab bi bm bud sp R k X) (f : Frm S X Y) (h1 : ¬ S sb) (h2 : ¬ S ab) (h3 : ¬ S bi) (h4 : ¬ S bm) (h5 : ∀ j, j < w.heap.size → ¬ S j) : CI w sb ab bi bm bud sp R k Y :=
  ⟨h.acc.frm f h2 h3 h4, boxed_frm h.box f h1, Frm.trans h.old f (fun i hi e => (h5 i hi e).elim)⟩

set_option maxRecDepth 100000 in
set_option maxHeartbeats 16000000 in
theorem copy_any (pb ib mb : Nat) (bud sp : Int) (R : List Hd) (w : World) (h : Acc w pb ib mb bud sp R) (hok : OkA bud sp R) :
    Calls Try.prog 13 #[.pointer (some ⟨pb, 0, none⟩)] w fun e w' => ∃ ab bi bm, e = .returned (.pointer (some ⟨ab, 0, none⟩)) ∧ Acc w' ab bi bm bud sp R ∧ (w.heap.size ≤ ab ∧ w.heap.size ≤ bi ∧ w.heap.size ≤ bm) ∧ Old w w' := by
  have hbd := hok.bounds
  have hlen : R.length ≤ 1099511627776 := hbd.2.2.2.2.2.2
  have kM := hid (isMade_any pb ib w (blk_cell h.a))
  have k1 := hid (budget_any pb ib mb bud sp R w h)
  have k2 := hid (spent_any pb ib mb bud sp R w h)
  have kh := hid h
  have kok := hid hok
  clear h hok hbd
  refine (callsIn_wide (n := 5)).1 ?_
  refine callsIn_of_wp_marks Try.func13 rfl trivial ?_ rfl
  simp only [Try.ntmps13, List.size_toArray, List.length_cons, List.length_nil, Nat.reduceAdd, Nat.reduceSub, Array.replicate_succ, Array.replicate_zero, List.push_toArray, List.append_toArray, List.nil_append, List.cons_append]
  gi_wp2_with fail
  refine ⟨trivial, ?_⟩
  refine (callsIn_wide.2 kM.out).mono ?_
  rintro e w' ⟨rfl, e2⟩
  rw [e2]
  clear e2 kM
  gi_wp2_with fail
  refine ⟨trivial, ?_⟩
  refine (callsIn_wide.2 k1.out).mono ?_
  rintro e w' ⟨rfl, e2⟩
  rw [e2]
  clear e2 k1
  gi_wp2_with fail
  refine ⟨trivial, ?_⟩
  refine (callsIn_wide.2 k2.out).mono ?_
  rintro e w' ⟨rfl, e2⟩
  rw [e2]
  clear e2 k2
  gi_wp2_with fail
  refine ⟨trivial, ?_⟩
  refine (callsIn_wide.2 (newAcc_any bud sp w)).mono ?_
  rintro e w1 ⟨ab, bi, bm, rfl, a1, hge, o1⟩
  have o2 : Old w1 (w1.alloc (.cells #[.pointer (some ⟨ab, 0, none⟩)] 28)) := (Old.refl w1).alloc _
  have kge := hid hge
  have kb2 : Hid (Boxed (w1.alloc (.cells #[.pointer (some ⟨ab, 0, none⟩)] 28)) w1.heap.size 28 (.pointer (some ⟨ab, 0, none⟩))) := Boxed.new w1 28 _
  have ka2 := hid (a1.old o2)
  have ko2 := hid (o1.trans o2)
  have ks1 : Hid (w.heap.size ≤ w1.heap.size) := o1.size
  have hlts : Hid (ab < w1.heap.size ∧ bi < w1.heap.size ∧ bm < w1.heap.size) := ⟨blk_lt a1.a, blk_lt a1.ins.i, a1.ins.m.lt⟩
  clear a1 hge o1 o2
  gi_wp2_with fail
  refine ⟨trivial, ?_⟩
  refine (callsIn_wide.2 (all_any (some ⟨pb, 0, none⟩) _)).mono ?_
  rintro e w3 ⟨rfl, e3⟩
  have o3 : Old (w1.alloc (.cells #[.pointer (some ⟨ab, 0, none⟩)] 28)) w3 := by rw [e3]; exact (Old.refl _).alloc _
  have hc3 : Hid (w3.cell? ⟨w1.heap.size + 1, 0, none⟩ = some (.pointer (some ⟨pb, 0, none⟩))) := hid (by
    rw [e3]
    have := new_cell (w1.alloc (.cells #[.pointer (some ⟨ab, 0, none⟩)] 28)) #[.pointer (some ⟨pb, 0, none⟩)] 28 0 _ rfl
    rwa [alloc_size] at this)
  have hz3 : Hid (w3.heap.size = w1.heap.size + 2) := hid (by rw [e3, alloc_size, alloc_size])
  have hCI : Hid (CI w w1.heap.size ab bi bm bud sp R 0 w3) := hid ⟨by rw [List.take_zero]; exact ka2.out.old o3, boxed_olds kb2.out o3, ko2.out.trans o3⟩
  have kh3 := hid (kh.out.old (ko2.out.trans o3))
  rw [alloc_size]
  generalize hs : w1.heap.size = s at *
  clear o3 e3 kb2 ka2 ko2 hs
  gi_wp2_with fail
  have hzz := hz3.out
  have hl1 := hlts.out
  have hg1 := kge.out
  have hs1 := ks1.out
  refine range_plain (by omega) (gf := 54) (lb := #[.pointer (some ⟨s + 1, 0, none⟩)]) rfl (enters_of Try.func54 (by kernel_rfl) rfl)
    (all_stops 4 (by omega) (s + 1) pb ib mb bud sp (fun k => k = bi ∨ k = bm) R w3 kok.out.r hlen (fun k h => by omega) hc3.out kh3.out)
    (fun h k => h.trans k) (fun W l o o' _ h1 h2 => KeptC.put W l o o' h1 h2) (fun _ => rfl)
    (fun p Y => ∃ k, p = R.take k ∧ k ≤ R.length ∧ CI w s ab bi bm bud sp R k Y) (fun _ _ _ => False)
    (fun p X Y row ⟨k, h1, h2, h3⟩ hg hr => ⟨k, h1, h2, h3.frm (Frm.grown (Frm.refl (fun j => s + 2 ≤ j) X) hg (fun k e => Or.inr (by have := (hr k e).1; omega))) (by omega) (by omega) (by omega) (by omega) (fun j hj e => by omega)⟩)
    (fun c p X Y row h _ _ => h)
    (fun p X Y ⟨k, h1, h2, h3⟩ hf => ⟨k, h1, h2, h3.frm hf (by omega) (by omega) (by omega) (by omega) (fun j hj e => by omega)⟩)
    (fun c p X Y h _ => h)
    ⟨0, by rw [List.take_zero], Nat.zero_le _, hCI.out⟩
    (fun x t => (((t.setIfInBounds 16 (.int .i64 x.1)).setIfInBounds 17 (.int .i64 x.2)).setIfInBounds 4 (.int .i64 x.1)).setIfInBounds 5 (.int .i64 x.2)) ?assign ?body ?done ?stop
  case assign =>
    intro l' x W K hK
    simp only [encH]
    simp only [List.setIfInBounds_toArray, List.set_cons_zero, List.set_cons_succ] at hK
    gi_wp2
    exact hK
  case body =>
    rintro l' p x Y ⟨k, rfl, hkl, hI⟩ ⟨k', hk', hpk⟩
    obtain ⟨hlt, rfl, rfl⟩ := pre_next hkl hk' hpk
    have hes := hid hpk
    have hmem := kok.out.r.mem R[k] (List.getElem_mem _)
    have kP := hid (put_any bi bm bud sp (R.take k) R[k].1 R[k].2 Y hI.acc.ins (ok_take kok.out.r k) (by unfold i64ok; omega) ⟨by omega, by omega⟩ (by have := sum_take kok.out.r k; have := kok.out.bounds; omega))
    rw [ins_take kok.out.r hlt] at kP
    have c0 := hI.box.cell
    have c1 := blk_cell hI.acc.a
    have kI := hid hI
    simp only [List.setIfInBounds_toArray, List.set_cons_zero, List.set_cons_succ]
    clear hI hpk hmem
    gi_wp2_with fail
    refine ⟨trivial, ?_⟩
    refine (callsIn_wide.2 kP.out).mono ?_
    rintro e Y2 ⟨rfl, i2, f2⟩
    have kst : Hid (CI w s ab bi bm bud sp R (k + 1) Y2) := hid ⟨kI.out.acc.step f2 i2, boxed_frm kI.out.box f2 (by omega), Frm.trans kI.out.old f2 (fun i hi e => by omega)⟩
    have kf2 := hid f2
    clear i2 f2
    gi_wp2
    exact ⟨keeps_frm kf2.out (fun j h => by omega), KeptC.of_frm kf2.out, k + 1, hes.out, by omega, kst.out⟩
  case done =>
    rintro D q Y hD rfl ⟨k, hq, hkl, hI⟩ hK
    have hk : k = q.length := by
      have := congrArg List.length hq
      rw [List.length_take] at this
      omega
    subst hk
    have kI := hid hI
    have kK := hid hK
    have c0 := hI.box.cell
    clear hI hK hq
    gi_wp2
    refine leave_marks [D] _ ⟨by simp, fun r hr => ?_⟩ (fun W' hW' => ?_)
    · obtain rfl : r = D := by simpa using hr
      exact kK.out
    · have hge : ∀ r ∈ [D], s + 2 ≤ r := fun r hr => by
        obtain rfl : r = D := by simpa using hr
        omega
      have hfin := kI.out.frm hW' (fun h => by have := hge _ h; omega) (fun h => by have := hge _ h; omega) (fun h => by have := hge _ h; omega) (fun h => by have := hge _ h; omega) (fun j hj h => by have := hge _ h; omega)
      refine ⟨.pointer (some ⟨ab, 0, none⟩), ?_, ab, bi, bm, rfl, ?_, kge.out, hfin.old⟩
      · simp [results, Try.f13, go_sem]
      · have := hfin.acc
        rwa [List.take_length] at this
  case stop =>
    rintro D c p Y hD hS hF hK
    exact hF.elim
end Go.Proofs.Ythibbenkibjghaa
