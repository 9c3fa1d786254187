/- All's function: walked. -/
import Derived.Test.YtmapejhacbmckaaDoorJ20
import Derived.Test.YtmapejhacbmckaaDoorRM
namespace Go.Proofs.YtmapejhacbmckaaDoor
open Go.RowKit Go.Lib Go.Shelf
attribute [local go_sem] Oper.semAt_some



/-- What All's function finds. -/
def AllG (m : Nat) (n : Nat) (s a : Nat) (ao : Option Addr) (cap : Nat) (Y : World) : Prop := Y.cell? ⟨s, 0, none⟩ = some (.int .i64 (m : Int)) ∧ Y.cell? ⟨s, 1, none⟩ = some (.slice ao n cap) ∧ Y.cell? ⟨a, 0, none⟩ = some (.int .u32 ((allZ (m : Int)).1 : Int))

theorem AllG.frm {m n s a : Nat} {ao : Option Addr} {cap : Nat} {S : Nat → Prop} {X Y : World} (h : AllG m n s a ao cap X) (hf : Frm S X Y) (h1 : ¬ S s) (h2 : ¬ S a) : AllG m n s a ao cap Y := ⟨frm_cell hf h.1 h1, frm_cell hf h.2.1 h1, frm_cell hf h.2.2 h2⟩
theorem AllG.old {m n s a : Nat} {ao : Option Addr} {cap : Nat} {X Y : World} (h : AllG m n s a ao cap X) (o : Old X Y) : AllG m n s a ao cap Y := h.frm o (fun h => h) (fun h => h)
theorem AllG.kept {m n s a : Nat} {ao : Option Addr} {cap : Nat} {T : Nat → Prop} {X Y : World} (h : AllG m n s a ao cap X) (hk : KeptC T X Y) (h1 : ¬ T s) (h2 : ¬ T a) : AllG m n s a ao cap Y := ⟨kept_cell hk h1 h.1, kept_cell hk h1 h.2.1, kept_cell hk h2 h.2.2⟩

set_option maxRecDepth 100000 in
set_option maxHeartbeats 4000000 in
theorem all2_M (d : Nat) (m : Nat) (B : Ins) (s a : Nat) (ao : Option Addr) (cap : Nat) (T : Nat → Prop) (w : World) (hz : insZ (m : Int) B = 0) (hcap : B.length ≤ cap)
    (hI : InsK T w ao B) (hG : AllG m B.length s a ao cap w) (hT : Tabs w) (htn : ∀ q, T q → q < w.heap.size) (hsa : s < w.heap.size ∧ a < w.heap.size ∧ ¬ T s ∧ ¬ T a) (hlt : ∀ l ∈ B, ∀ x ∈ l, x.1 < 4294967296) :
    SeqM Tryd.prog d 48 #[.pointer (some ⟨s, 0, none⟩), .pointer (some ⟨a, 0, none⟩)] encC (fun _ => False) (fun x X Y => KeptC (Tb T x.1) X Y) (fun x X => NewZ w.heap.size X x.1 x.2) (fun _ => True) Fd
      (fun q => ∃ r, allC B (allZ (m : Int)).1 = q.map Prod.snd ++ r) (fun q => q.map Prod.snd = allC B (allZ (m : Int)).1) (fun q => ∃ r, allC B (allZ (m : Int)).1 = q.map Prod.snd ++ r) w := by
  intro lp J Jx W hbe hJ hJx hY h0
  have oW := Old.of_below hbe
  have tp := tops_of hz hlt
  obtain ⟨m', hm', hm1, hm10, hall⟩ := tp.m
  obtain rfl : m = m' := by omega
  have hfl : (allZ (m : Int)).1 < 2 ^ m := by rw [hall]; have : 0 < 2 ^ m := Nat.pow_pos (by decide); omega
  have hal := all_lt (m : Int)
  have kcW : KeptC T w W := KeptC.of_frm (Frm.mono oW (fun _ _ h => h.elim))
  have kI := hid (hI.next kcW)
  have kG := hid (hG.old oW)
  have kS := hid (fun V (o : Old W V) => newSearch_any m ao cap B 0 (by omega) hz hcap V ((hI.next kcW).ins (KeptC.of_frm (Frm.mono o (fun _ _ h => h.elim)))) ((hT.old oW).old o))
  have khJ := hid hJ
  have khJx := hid hJx
  have khY := hid hY
  have kh0 := hid h0
  have koW := hid oW
  have ktn := hid htn
  have ksa := hid hsa
  clear hI hG hT hJ hJx hY h0 oW hbe kcW htn hsa hm' tp
  clear hall
  generalize hf : (allZ (m : Int)).1 = f at *
  refine callsIn_wide.2 ((callsIn_wide (n := 5)).1 ?_)
  refine callsIn_of_wp_marks Tryd.func48 rfl trivial ?_ rfl
  simp only [Tryd.ntmps48, List.size_toArray, List.length_cons, List.length_nil, Nat.reduceAdd, Nat.reduceSub, Array.replicate_succ, Array.replicate_zero, List.push_toArray, List.append_toArray, List.nil_append, List.cons_append]
  gi_wp2_with fail
  refine wpIn_wide.2 ?_
  refine wp_region_noPanic ?_
  refine wp_region_held_drew (S := AllG m B.length s a ao cap) (by kernel_rfl) (kG.out.old ((Old.refl W).drewN 1)) (fun hHeld => ?_)
  have koV : Hid (Old W W.drew) := (Old.refl W).drewN 1
  generalize W.drew = V at *
  refine' wpAnyH_take (i := 0) rfl (by kernel_rfl) (by kernel_rfl) (by kernel_rfl) (fun _ _ _ h => h) (Or.inl ⟨by rfl, ?_⟩) hHeld ?_
  rotate_left
  · intro W hSw
    obtain ⟨r1, r2, r3⟩ := hSw
    simp only [List.getElem_toArray, List.getElem_cons_zero]
    go_simp
    all_goals with_reducible rfl
  simp only [List.getElem_toArray, List.getElem_cons_zero, Act.put, List.setIfInBounds_toArray, List.set_cons_zero, List.set_cons_succ]
  refine' wpAnyH_take (i := 2) rfl (by kernel_rfl) (by kernel_rfl) (by kernel_rfl) (fun _ _ _ h => h) (Or.inl ⟨by rfl, ?_⟩) hHeld ?_
  rotate_left
  · intro W hSw
    obtain ⟨r1, r2, r3⟩ := hSw
    simp only [List.getElem_toArray, List.getElem_cons_zero, List.getElem_cons_succ]
    go_simp
    all_goals with_reducible rfl
  simp only [List.getElem_toArray, List.getElem_cons_zero, List.getElem_cons_succ, Act.put, List.setIfInBounds_toArray, List.set_cons_zero, List.set_cons_succ]
  refine' wpAnyH_take (i := 3) rfl (by kernel_rfl) (by kernel_rfl) (by kernel_rfl) (fun _ _ _ h => h) (Or.inl ⟨by rfl, ?_⟩) hHeld ?_
  rotate_left
  · intro W hSw
    obtain ⟨r1, r2, r3⟩ := hSw
    simp only [List.getElem_toArray, List.getElem_cons_zero, List.getElem_cons_succ]
    go_simp
    all_goals with_reducible rfl
  simp only [List.getElem_toArray, List.getElem_cons_zero, List.getElem_cons_succ, Act.put, List.setIfInBounds_toArray, List.set_cons_zero, List.set_cons_succ]
  refine' wpAnyH_take (i := 5) rfl (by kernel_rfl) (by kernel_rfl) (by kernel_rfl) (fun _ _ _ h => h) (Or.inl ⟨by rfl, ?_⟩) hHeld ?_
  rotate_left
  · intro W hSw
    obtain ⟨r1, r2, r3⟩ := hSw
    simp only [List.getElem_toArray, List.getElem_cons_zero, List.getElem_cons_succ]
    go_simp
    all_goals with_reducible rfl
  simp only [List.getElem_toArray, List.getElem_cons_zero, List.getElem_cons_succ, Act.put, List.setIfInBounds_toArray, List.set_cons_zero, List.set_cons_succ]
  refine wpAnyH_ready (rs := [1]) (by kernel_rfl) (by simp) ?_
  refine AllReadyH.cons (o := _) rfl (fun K hK => ?_) AllReadyH.nil
  simp only [List.getElem_toArray, List.getElem_cons_zero, List.getElem_cons_succ]
  go_simp
  refine (kS.out V koV.out).mono ?_
  rintro e w3 ⟨P, sb, mb, cb, cc, rfl, ok, hsr, hm, o3, g1, g2, g3⟩
  refine hK.out _ _ (hHeld.old o3) (fun hHeld2 => ?_)
  clear hHeld hK
  have hHeld := hHeld2
  clear hHeld2
  try simp only [Act.put, List.setIfInBounds_toArray, List.set_cons_zero, List.set_cons_succ]
  have kCh := hid (fun V => choices_any (sb := sb) 0 f V)
  unfold partV at kCh
  rw [show ((0 : Nat) : Int) = 0 from rfl] at kCh
  refine wpAnyH_ready (rs := [4]) (by kernel_rfl) (by simp) ?_
  refine AllReadyH.cons (o := _) rfl (fun K hK => ?_) AllReadyH.nil
  simp only [List.getElem_toArray, List.getElem_cons_zero, List.getElem_cons_succ]
  go_simp
  refine (kCh.out w3).mono ?_
  rintro e w' ⟨rfl, e9⟩
  rw [e9]
  clear e9 w'
  obtain ⟨qb, hqb⟩ : ∃ qb, w3.heap.size = qb := ⟨_, rfl⟩
  rw [hqb]
  have o6 : Old w3 (w3.alloc (.cells #[.pointer (some ⟨sb, 0, none⟩)] 78)) := (Old.refl w3).alloc _
  have b6 := heap_new w3 (.cells #[.pointer (some ⟨sb, 0, none⟩)] 78)
  have z6 := alloc_size w3 (.cells #[.pointer (some ⟨sb, 0, none⟩)] 78)
  rw [hqb] at b6 z6
  generalize w3.alloc (.cells #[.pointer (some ⟨sb, 0, none⟩)] 78) = w6 at *
  have o7 : Old w6 (w6.alloc (.cells #[.int .i64 (0 : Int), .int .u32 (f : Int)] 82)) := (Old.refl w6).alloc _
  have b7 := heap_new w6 (.cells #[.int .i64 (0 : Int), .int .u32 (f : Int)] 82)
  have z7 := alloc_size w6 (.cells #[.int .i64 (0 : Int), .int .u32 (f : Int)] 82)
  rw [z6] at b7 z7
  have oX := o6.trans o7
  refine hK.out _ _ (hHeld.old oX) (fun hHeld2 => ?_)
  clear hHeld hK
  have hHeld := hHeld2
  clear hHeld2
  try simp only [Act.put, List.setIfInBounds_toArray, List.set_cons_zero, List.set_cons_succ]
  have kHX := hid hHeld
  generalize w6.alloc (.cells #[.int .i64 (0 : Int), .int .u32 (f : Int)] 82) = X0 at *
  have kb6 := hid ((o7.block _ (blk_lt b6) (fun h => h)).trans b6)
  have kb7 := hid b7
  have kzX := hid z7
  have koX := hid oX
  have kWX := hid ((koV.out.trans o3).trans oX)
  have kWV := koV.out.size
  have kWw := koW.out.size
  have h3s := o3.size
  have kTX : ∀ q, T q → q < W.heap.size := fun q e => by have := ktn.out q e; omega
  have hnT : ∀ q, W.heap.size ≤ q → ¬ T q := fun q h e => by have := kTX q e; omega
  have hmlt := hm.lt
  have kMs := hid (choices1_M d ok 0 f (by omega) hfl qb (qb + 1) T X0 (SrK.ofK (N := W.heap.size) hsr koX.out (kI.out.next (KeptC.of_frm (Frm.mono (koV.out.trans o3) (fun _ _ h => h.elim)))) kTX (by omega) (by omega))
      (fun Y hY => by
        have d0 := blk_cells (i := 0) kb7.out rfl
        have d1 := blk_cells (i := 1) kb7.out rfl
        simp only [List.getElem_toArray, List.getElem_cons_zero, List.getElem_cons_succ] at d0 d1
        exact ⟨kept_cell hY (hnT _ (by dsimp only; omega)) (blk_cell kb6.out), kept_cell hY (hnT _ (by dsimp only; omega)) d0, kept_cell hY (hnT _ (by dsimp only; omega)) d1⟩) (hm.kept koX.out (fun h => h)) (fun q e => by have := kTX q e; omega))
  have kmb : mb < X0.heap.size ∧ W.heap.size ≤ mb := ⟨by omega, by omega⟩
  have hs2 := ksa.out
  have kRun := hid (kMs.out lp (fun p X => J p X ∧ Bw X0.heap.size X.heap.size p ∧ AllG m B.length s a ao cap X) (fun p X => Jx p X ∧ Bw X0.heap.size X.heap.size p ∧ AllG m B.length s a ao cap X) X0 (Old.refl X0).below
    (fun p X Y ⟨h1, h2, h3⟩ hf => ⟨khJ.out p X Y h1 (Frm.mono hf (fun k _ e => by
        rcases e with rfl | e
        · exact .inr ⟨kmb.2, h2.fd (.inl kmb.1)⟩
        · exact .inr ⟨by omega, e.2⟩)), h2.mono (Nat.le_refl _) hf.size, h3.frm hf (by omega) (by omega)⟩)
    (fun p X Y ⟨h1, h2, h3⟩ hf => ⟨khJx.out p X Y h1 (Frm.mono hf (fun k _ e => by
        rcases e with rfl | e
        · exact .inr ⟨kmb.2, h2.fd (.inl kmb.1)⟩
        · exact .inr ⟨by omega, e.2⟩)), h2.mono (Nat.le_refl _) hf.size, h3.frm hf (by omega) (by omega)⟩)
    (fun p x X ⟨h1, h2, h3⟩ hp ⟨hz1, hkm⟩ => by
      have hz2 : NewZ w.heap.size X x.1 x.2 := hz1.up (by omega)
      have hp2 : ∃ r, allC B f = (p ++ [x]).map Prod.snd ++ r := by rw [← told_zero]; exact hp
      refine YieldAt.mono (khY.out p x X h1 hp2 hz2) ?_
      rintro e Y ⟨g4, g5, g6⟩
      obtain ⟨es, cm, hblk⟩ := hkm.blk
      have hbw : Bw X0.heap.size Y.heap.size (p ++ [x]) := (h2.mono (Nat.le_refl _) g4.size).app (fun y hy t n c e => by
        obtain rfl : y = x := by simpa using hy
        obtain ⟨ao', c', e1, e2⟩ := hz1
        rw [e] at e1
        rcases e2 with ⟨e2, -⟩ | ⟨b, cur, e2, e3, e4, -⟩
        · rw [e2] at e1
          cases e1
        · rw [e2] at e1
          obtain rfl : t = b := by
            simp only [Value.slice.injEq, Option.some.injEq, Addr.mk.injEq] at e1
            exact e1.1.1
          have := blk_lt e4
          have := g4.size
          exact ⟨e3, by omega⟩)
      have hnx : ∀ q, q < X0.heap.size → ¬ T q → ¬ Tb T x.1 q := fun q hq hT e => by
        rcases e with e | ⟨n, c, e⟩
        · exact hT e
        · have := hbw x (by simp) q n c e
          omega
      have hG2 : AllG m B.length s a ao cap Y := h3.kept g5 (hnx s (by omega) hs2.2.2.1) (hnx a (by omega) hs2.2.2.2)
      refine ⟨keeps_up g4 (by omega), ⟨g5, ?_⟩, g6.imp (fun g => ⟨g.1, g.2, hbw, hG2⟩) (fun g => ⟨g.1, g.2, hbw, hG2⟩)⟩
      rw [hblk]
      exact g4.same mb _ kmb.2 hblk rfl)
    ⟨khJ.out _ _ _ kh0.out (Frm.mono kWX.out (fun _ _ h => h.elim)), Bw.nil, kHX.out⟩)
  refine wpAnyH_ready (rs := [6]) (by kernel_rfl) (by simp) ?_
  refine AllReadyH.cons (o := _) rfl (fun K hK => ?_) AllReadyH.nil
  simp only [List.getElem_toArray, List.getElem_cons_zero, List.getElem_cons_succ]
  go_simp
  refine (callsIn_wide.1 kRun.out).mono ?_
  rintro e Y ⟨⟨v, rfl⟩, -, hfin⟩
  have hfin2 : Hid (AllG m B.length s a ao cap Y ∧ ((∃ q, q.map Prod.snd = allC B f ∧ J q Y) ∨ (∃ p, (∃ r, allC B f = p.map Prod.snd ++ r) ∧ Jx p Y))) := by
    rcases hfin with ⟨q, f1, f2, f3, f4⟩ | ⟨q, f1, f2, f3, f4⟩
    · exact ⟨f4, .inl ⟨q, by rw [← told_zero]; exact f1, f2⟩⟩
    · exact ⟨f4, .inr ⟨q, by rw [← told_zero]; exact f1, f2⟩⟩
  clear hfin
  refine hK.out _ _ (hfin2.out.1) (fun hHeld2 => ?_)
  clear hHeld hK
  have hHeld := hHeld2
  clear hHeld2
  try simp only [Act.put, List.setIfInBounds_toArray, List.set_cons_zero, List.set_cons_succ]
  refine wpAnyH_done (by kernel_rfl) ?_ _
  refine NoPanic.normal ?_
  gi_wp2_with fail
  refine leave_marks [] _ ⟨by simp, fun r hr => by simp at hr⟩ (fun W' hW' => ?_)
  have hfo : ∀ p : List Ch, Frm (fun k => False ∨ (W.heap.size ≤ k ∧ Fd p k)) Y W' := fun p => Frm.mono hW' (fun _ _ h => by simp at h)
  refine ⟨_, results_none rfl _ _ _, ⟨_, rfl⟩, ?_⟩
  exact hfin2.out.2.imp (fun ⟨q, g1, g2⟩ => ⟨q, g1, khJ.out _ _ _ g2 (hfo _)⟩) (fun ⟨q, g1, g2⟩ => ⟨q, g1, khJx.out _ _ _ g2 (hfo _)⟩)
end Go.Proofs.YtmapejhacbmckaaDoor

/- A range over a function that tells of things in new memory, whose variable lies in no box. -/
namespace Go.Proofs.YtmapejhacbmckaaDoor
open Go.RowKit Go.Lib Go.Shelf

theorem range_Mp {α : Type} {P : Program} {n : Nat} {g : Operand} {ps : Array Tmp} {assign body : Code} {Q : Exit → Act → World → Prop} {a : Act} {w : World} (hn : 1 ≤ n) {gf : Nat} {lb : Array Value}
    (hg : a.eval g = .func (.func gf) #[] lb) (eg : ∀ args w, (callFunc gf args).run P w = .ok (.enter gf args) w) {enc : α → Array Value} {M : Nat → Prop} {Kp : α → World → World → Prop} {Told : α → World → Prop} {Own : World → Prop} {Fr : List α → Nat → Prop} {Pre S Sp : List α → Prop}
    (hseq : SeqM P (n - 1) gf lb enc M Kp Told Own Fr Pre S Sp w) (hOw : ∀ (W : World) (o o' : Obj), Own W → W.heap[w.heap.size + 1]? = some o → o.isCells = false → Own (W.putObj (w.heap.size + 1) o')) (hM : ∀ k, M k → k < w.heap.size) (hKt : ∀ {x : α} {A B D : World}, Kp x A B → Kp x B D → Kp x A D) (hKr : ∀ (x : α) (W : World), Kp x W W)
    (hKb : ∀ (x : α) (W : World) (o o' : Obj), W.heap[w.heap.size + 1]? = some o → o.isCells = false → Kp x W (W.putObj (w.heap.size + 1) o')) (hTo : ∀ (x : α) (W : World) (o o' : Obj), Told x W → W.heap[w.heap.size + 1]? = some o → o.isCells = false → Told x (W.putObj (w.heap.size + 1) o')) (hps : ∀ x, (enc x).size = ps.size)
    (I : List α → World → Prop) (Ix : Code → List α → World → Prop)
    (hI : ∀ p X Y, I p X → Frm (fun k => M k ∨ (w.heap.size ≤ k ∧ Fr p k)) X Y → I p Y) (hIx : ∀ c p X Y, Ix c p X → Frm (fun k => M k ∨ (w.heap.size ≤ k ∧ Fr p k)) X Y → Ix c p Y)
    (pI : ∀ (p : List α) (X : World) (o o' : Obj), I p X → X.heap[w.heap.size + 1]? = some o → o.isCells = false → I p (X.putObj (w.heap.size + 1) o')) (pX : ∀ (c : Code) (p : List α) (X : World) (o o' : Obj), Ix c p X → X.heap[w.heap.size + 1]? = some o → o.isCells = false → Ix c p (X.putObj (w.heap.size + 1) o')) (h0 : I [] w) (upd : α → Array Value → Array Value)
    (hassign : ∀ (l : Nat) (p : List α) (x : α) (W : World) (K : Act → World → Prop), Pre (p ++ [x]) → Told x W → K { tmps := upd x a.tmps, defers := [] } W → assign.wpIn (Fence.wide.inRound l) (n - 1 - 1) P (Exit.then K (fun _ _ _ => False)) { tmps := (ps.zip (enc x)).foldl (fun t (p, v) => t.setIfInBounds p v) a.tmps, defers := [] } W)
    (hbody : ∀ (l : Nat) (p : List α) (x : α) (W : World), I p W → Pre (p ++ [x]) → Told x W → w.heap.size + 2 ≤ W.heap.size → body.wpIn (Fence.wide.inRound l) (n - 1 - 1) P (ownPostM w.heap.size (Kp x) I Ix (p ++ [x]) W) { tmps := upd x a.tmps, defers := [] } W)
    (hdone : ∀ (D : Nat) (q : List α) (W : World), w.heap.size = D → S q → I q W → Own W → W.heap[D]? = some (.deferred (some [])) → Q .normal { a with defers := { target := .collected D, args := #[] } :: a.defers } W)
    (hstop : ∀ (D : Nat) (c : Code) (p : List α) (W : World), w.heap.size = D → Sp p → Ix c p W → Own W → W.heap[D]? = some (.deferred (some [])) → c.wpIn Fence.wide n P Q { a with defers := { target := .collected D, args := #[] } :: a.defers } W) :
    (Code.rangeFunc g ps assign body).wpIn Fence.wide n P Q a w :=
  range_M hn hg eg hseq hOw hM hKt hKb hps I Ix hI hIx pI pX h0 (fun p x a' W => I p W ∧ Pre (p ++ [x]) ∧ Told x W ∧ w.heap.size + 2 ≤ W.heap.size ∧ a' = { tmps := upd x a.tmps, defers := [] })
    (fun p x a' W o o' ⟨h1, h2, h3, h4, h5⟩ ho hc => ⟨pI _ _ _ _ h1 ho hc, h2, hTo _ _ _ _ h3 ho hc, by simpa [World.putObj] using h4, h5⟩)
    (fun l p x W K h1 h2 h3 h4 hK => hassign l p x W K h2 h3 (hK _ _ ⟨h1, h2, h3, h4, rfl⟩ (hKr _ _) (keeps_old (Old.refl W))))
    (fun l p x a' W ⟨h1, h2, h3, h4, h5⟩ => by rw [h5]; exact hbody l p x W h1 h2 h3 h4)
    hdone hstop
end Go.Proofs.YtmapejhacbmckaaDoor
