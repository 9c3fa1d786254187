/- The steps of an instance, whichever function they are, gone over; what was lent, written over. -/
import Derived.Test.YtgikkbkgmjacmaaDoorJ33
import Derived.Test.YtgikkbkgmjacmaaDoorLN3
namespace Go.Proofs.YtgikkbkgmjacmaaDoor
open Go.RowKit Go.Lib Go.Shelf
attribute [local go_sem] Oper.semAt_some

/-- Its row and its lists, from some buyer on, whatever stands in them; all lie between lo and hi. -/
def YW (lo hi g : Nat) (B : Ins) (i0 : Nat) (w : World) : Prop := (lo ≤ g ∧ g < hi) ∧ ∃ curg : Array Value, w.heap[g]? = some (.cells curg 42 (0, 0)) ∧ B.length ≤ curg.size ∧ ∀ i, i0 ≤ i → i < B.length → ∃ (b cap : Nat) (curb : Array Value), curg[i]? = some (.slice (some ⟨b, 0, none⟩) (B.getD i []).length cap) ∧ lo ≤ b ∧ b < hi ∧ w.heap[b]? = some (.cells curb 46 (0, 0)) ∧ (B.getD i []).length * 2 ≤ curb.size

theorem YW.old {lo hi g : Nat} {B : Ins} {i0 : Nat} {w w' : World} (h : YW lo hi g B i0 w) (o : Old w w') : YW lo hi g B i0 w' := by
  obtain ⟨h1, curg, h2, h3, h4⟩ := h
  refine ⟨h1, curg, (o.block _ (blk_lt h2) (fun h => h)).trans h2, h3, fun i k1 k2 => ?_⟩
  obtain ⟨b, cap, curb, e1, e2, e3, e4, e5⟩ := h4 i k1 k2
  exact ⟨b, cap, curb, e1, e2, e3, (o.block _ (blk_lt e4) (fun h => h)).trans e4, e5⟩

theorem cells_size {w : World} {b : Nat} {cur : Array Value} {t : TypeId} {j : Nat} {u : Value} (h : w.heap[b]? = some (.cells cur t (0, 0))) (hc : w.cell? ⟨b, j, none⟩ = some u) : j < cur.size := by
  simp [World.cell?, h] at hc
  exact (Array.getElem?_eq_some_iff.1 hc).1

theorem LenI.yw {lo : Nat} {w : World} {g n c : Nat} {B : Ins} (h : LenI lo w (.slice (some ⟨g, 0, none⟩) n c) B) : YW lo w.heap.size g B 0 w := by
  obtain ⟨a, c', V, ub, e1, hVl, hown, hrows, -⟩ := h
  simp only [Value.slice.injEq] at e1
  obtain ⟨rfl, rfl, rfl⟩ := e1
  rcases hown.2 with ⟨e0, -⟩ | ⟨g', cap, cur, e2, h3, h4, h5, h6, h7, h8⟩
  · simp at e0
  · simp only [Value.slice.injEq, Option.some.injEq, Addr.mk.injEq, and_true, true_and] at e2
    obtain ⟨rfl, rfl⟩ := e2
    refine ⟨⟨h3, blk_lt h4⟩, cur, h4, by omega, fun i _ hi => ?_⟩
    obtain ⟨b, c2, hv, hc2, hrow⟩ := hrows i hi
    obtain ⟨curb, hb⟩ := hrow.ty
    have h9 : (cur.toList.take ((B.length + 1) * 1))[i]? = (V ++ [.slice (some ⟨ub, 0, none⟩) 1 1])[i]? := by rw [h8]
    rw [List.getElem?_take_of_lt (by omega), List.getElem?_append_left (show i < V.length by omega)] at h9
    have e8 : V[i]? = some (V.getD i nilS) := by rw [List.getD_eq_getElem?_getD, List.getElem?_eq_getElem (show i < V.length by omega)]; rfl
    rw [e8, hv] at h9
    refine ⟨b, c2, curb, by simpa using h9, hrow.lo, blk_lt hb, hb, ?_⟩
    have h10 := (hrow.own.cell (B.getD i []).length (by simp)).2
    have h11 := cells_size hb h10
    omega

/-- An offer is written over. -/
theorem YW.put {lo hi g : Nat} {B : Ins} {i0 b j : Nat} {w : World} {u : Value} {cur : Array Value} (h : YW lo hi g B i0 w) (hb : w.heap[b]? = some (.cells cur 46 (0, 0))) : YW lo hi g B i0 (w.setCell ⟨b, j, none⟩ u) := by
  obtain ⟨h1, curg, h2, h3, h4⟩ := h
  have hs := frm_set w b j u
  have hbg : g ≠ b := typ_no h2 hb (by decide)
  refine ⟨h1, curg, (hs.block _ (blk_lt h2) hbg).trans h2, h3, fun i k1 k2 => ?_⟩
  obtain ⟨b', cap, curb, e1, e2, e3, e4, e5⟩ := h4 i k1 k2
  by_cases e : b' = b
  · subst e
    have e6 : curb = cur := by
      rw [e4] at hb
      simpa using hb
    subst e6
    exact ⟨b', cap, _, e1, e2, e3, heap_set u e4, by simpa using e5⟩
  · exact ⟨b', cap, curb, e1, e2, e3, (hs.block _ (blk_lt e4) e).trans e4, e5⟩

/-- A buyer's list is taken away. -/
theorem YW.nil {lo hi g : Nat} {B : Ins} {i0 : Nat} {w : World} {u : Value} (h : YW lo hi g B i0 w) : YW lo hi g B (i0 + 1) (w.setCell ⟨g, i0, none⟩ u) := by
  obtain ⟨h1, curg, h2, h3, h4⟩ := h
  have hs := frm_set w g i0 u
  refine ⟨h1, _, heap_set u h2, by simpa using h3, fun i k1 k2 => ?_⟩
  obtain ⟨b, cap, curb, e1, e2, e3, e4, e5⟩ := h4 i (by omega) k2
  refine ⟨b, cap, curb, ?_, e2, e3, (hs.block _ (blk_lt e4) (typ_no e4 h2 (by decide))).trans e4, e5⟩
  rw [Array.getElem?_setIfInBounds_ne (by omega)]
  exact e1
theorem range_joinN {α : Type} {P : Program} {n : Nat} {g : Operand} {ps : Array Tmp} {assign body : Code} {Q : Exit → Act → World → Prop} {a : Act} {w : World} (hn : 1 ≤ n) {gf : Nat} {pb lb : Array Value}
    (hg : a.eval g = .func (.func gf) pb lb) (eg : ∀ args w, (callFunc gf args).run P w = .ok (.enter gf args) w) {enc : α → Array Value} {M : Nat → Prop} {Kp : α → World → World → Prop} {Told : α → World → Prop} {Own : World → Prop} {Fr : List α → Nat → Prop} {Pre S Sp : List α → Prop}
    (hseq : SeqB P (n - 1) gf pb lb enc M Kp Told Own Fr Pre S Sp w) (hOw : ∀ (W : World) (o o' : Obj), Own W → W.heap[w.heap.size + 1]? = some o → o.isCells = false → Own (W.putObj (w.heap.size + 1) o')) (hM : ∀ k, M k → k < w.heap.size) (hKt : ∀ {x : α} {A B D : World}, Kp x A B → Kp x B D → Kp x A D) (hKr : ∀ (x : α) (W : World), Kp x W W)
    (hKb : ∀ (x : α) (W : World) (o o' : Obj), W.heap[w.heap.size + 1]? = some o → o.isCells = false → Kp x W (W.putObj (w.heap.size + 1) o')) (hTo : ∀ (x : α) (W : World) (o o' : Obj), Told x W → W.heap[w.heap.size + 1]? = some o → o.isCells = false → Told x (W.putObj (w.heap.size + 1) o')) (hps : ∀ x, (enc x).size = ps.size)
    (id : Nat) (I X : List α → World → Prop) (Fin : World → Prop)
    (hI : ∀ p X Y, I p X → Frm (fun k => M k ∨ (w.heap.size ≤ k ∧ Fr p k)) X Y → I p Y) (hX : ∀ p A B, X p A → Frm (fun k => M k ∨ (w.heap.size ≤ k ∧ Fr p k)) A B → X p B)
    (pI : ∀ (p : List α) (A : World) (o o' : Obj), I p A → A.heap[w.heap.size + 1]? = some o → o.isCells = false → I p (A.putObj (w.heap.size + 1) o')) (pX : ∀ (p : List α) (A : World) (o o' : Obj), X p A → A.heap[w.heap.size + 1]? = some o → o.isCells = false → X p (A.putObj (w.heap.size + 1) o')) (h0 : I [] w) (upd : α → Array Value → Array Value)
    (hassign : ∀ (l : Nat) (p : List α) (x : α) (W : World) (K : Act → World → Prop), Pre (p ++ [x]) → Told x W → K { tmps := upd x a.tmps, defers := [] } W → assign.wpIn (Fence.wide.inRound l) (n - 1 - 1) P (Exit.then K (fun _ _ _ => False)) { tmps := (ps.zip (enc x)).foldl (fun t (p, v) => t.setIfInBounds p v) a.tmps, defers := [] } W)
    (hbody : ∀ (l : Nat) (p : List α) (x : α) (W : World), I p W → Pre (p ++ [x]) → Told x W → w.heap.size + 2 ≤ W.heap.size → body.wpIn (Fence.wide.inRound l) (n - 1 - 1) P (ownPostM w.heap.size (Kp x) I (fun c q Y => c = .exit id ∧ X q Y) (p ++ [x]) W) { tmps := upd x a.tmps, defers := [] } W)
    (hS : ∀ q W, S q → I q W → Fin W) (hSp : ∀ q W, Sp q → X q W → Fin W) (hQ : ∀ b W, Q .normal b W → Q (.exit id) b W)
    (hend : ∀ (D : Nat) (W : World), w.heap.size = D → Fin W → W.heap[D]? = some (.deferred (some [])) → Q .normal { a with defers := { target := .collected D, args := #[] } :: a.defers } W) :
    (Code.rangeFunc g ps assign body).wp P Q a w := by
  refine (wpIn_wide (n := n)).1 ?_
  refine range_Bp hn hg eg hseq hOw hM hKt hKr hKb hTo hps I (fun c q Y => c = .exit id ∧ X q Y) hI
    (fun c p A B h hf => ⟨h.1, hX p A B h.2 hf⟩) pI (fun c p A o o' h ho hc => ⟨h.1, pX p A o o' h.2 ho hc⟩) h0 upd hassign hbody
    (fun D q W hD hs hi _ hK => hend D W hD (hS q W hs hi) hK) ?_
  rintro D c p W hD hs ⟨rfl, hx⟩ - hK
  refine wpIn_wide.2 ?_
  exact wp_exit (hQ _ _ (hend D W hD (hSp p W hs hx) hK))

theorem ovr_new {N : Nat} {X : World} {ao : Option Addr} {n c : Nat} {L : List Int} (h : NewL N X (.slice ao n c) L) {q o : Nat} (e : ao = some ⟨q, o, none⟩) : N ≤ q ∧ o = 0 ∧ ∃ cur, X.heap[q]? = some (.cells cur 2 (0, 0)) := by
  obtain ⟨ao', c', e1, h⟩ := h
  simp only [Value.slice.injEq] at e1
  obtain ⟨rfl, -, -⟩ := e1
  rcases h with ⟨h, -⟩ | ⟨b, cur, h, h1, h2, -⟩
  · rw [h] at e
    cases e
  · rw [h] at e
    simp only [Option.some.injEq, Addr.mk.injEq, and_true] at e
    obtain ⟨rfl, rfl⟩ := e
    exact ⟨h1, rfl, cur, h2⟩
theorem keeps_ovr {N B : Nat} {X Y : World} {ao : Option Addr} {n c : Nat} {L : List Int} (h : NewL N X (.slice ao n c) L) (hf : Frm (fun q => ∃ o, ao = some ⟨q, o, none⟩) X Y) : KeepsFrom B X Y := ⟨hf.size, fun k o _ h1 h2 => by
  by_cases e : ∃ o, ao = some ⟨k, o, none⟩
  · obtain ⟨o', e⟩ := e
    obtain ⟨-, -, cur, h3⟩ := ovr_new h e
    rw [h3] at h1
    cases h1
    cases h2
  · rw [hf.block k (blk_lt h1) e]; exact h1⟩
theorem kept_ovr {N : Nat} {X Y : World} {ao : Option Addr} {n c : Nat} {L : List Int} {T : Nat → Prop} (h : NewL N X (.slice ao n c) L) (hf : Frm (fun q => ∃ o, ao = some ⟨q, o, none⟩) X Y) : KeptC (Tb T (.slice ao n c)) X Y := fun k o hk ho _ => by
  rw [hf.block k (blk_lt ho) ?_]
  · exact ho
  · rintro ⟨o', e⟩
    obtain ⟨-, rfl, -⟩ := ovr_new h e
    exact hk (.inr ⟨n, c, by rw [e]⟩)

theorem LenI.insW {lo : Nat} {w : World} {ao : Option Addr} {n c : Nat} {B : Ins} (h : LenI lo w (.slice ao n c) B) : InsV w ao B := by
  obtain ⟨g, c', e, _, _, _, hr, _⟩ := h.at
  simp only [Value.slice.injEq] at e
  obtain ⟨rfl, rfl, rfl⟩ := e
  have each : ∀ i, i < B.length → ∃ d : Nat × Nat, w.cell? ⟨g, i, none⟩ = some (.slice (some ⟨d.1, 0, none⟩) (B.getD i []).length d.2) ∧ OffC w (some ⟨d.1, 0, none⟩) (B.getD i []) := fun i hi => by
    obtain ⟨b, cap, e1, h1, h2, h3, _⟩ := hr i hi
    exact ⟨(b, cap), h1, h3⟩
  obtain ⟨F, hF⟩ := Deep.choose_lt each
  refine ⟨(List.range B.length).map (fun i => Value.slice (some ⟨(F i).1, 0, none⟩) (B.getD i []).length (F i).2), by simp, fun i hi => ?_, fun i hi => ?_⟩
  · have hi' : i < B.length := by simpa using hi
    obtain ⟨h1, _⟩ := hF i hi'
    refine ⟨g, 0, rfl, ?_, ?_⟩
    · rw [Nat.zero_add, h1]
      simp
    · simp [Value.oneCell']
  · obtain ⟨h1, h3⟩ := hF i hi
    refine ⟨some ⟨(F i).1, 0, none⟩, (F i).2, ?_, h3, fun h => by cases h⟩
    rw [List.getD_eq_getElem?_getD, List.getElem?_eq_getElem (by simpa using hi)]
    simp


theorem InsN.keep {N : Nat} {w Y : World} {v : Value} {Q : Ins} (h : InsN N w v Q) (hk : ∀ q o, N ≤ q → w.heap[q]? = some o → o.isCells = true → Y.heap[q]? = some o) : InsN N Y v Q := by
  obtain ⟨V, h1, h2⟩ := h
  exact ⟨V, ownK h1 (fun q cur _ hq hN => by rw [hk q _ hN hq rfl, hq]), fun i hi => ownK (h2 i hi) (fun q cur _ hq hN => by rw [hk q _ hN hq rfl, hq])⟩

set_option maxRecDepth 100000 in
set_option maxHeartbeats 4000000 in
theorem csteps_bad (gd : Int) (bo : Option Addr) (cap : Nat) (B : Ins) (w : World) (h : InsC w bo B) (hcap : B.length ≤ cap) (hl : B.length ≤ 9223372036854775807) (hT : Tabs w) (hz0 : insZ gd B ≠ 0) :
    Calls Tryd.prog 14 #[.agg #[.int .i64 gd, .slice bo B.length cap]] w fun e w' => e = .returned (.func (.func 46) #[] #[]) ∧ Old w w' := by
  have o1 : Old w (w.alloc (.cells #[.int .i64 gd, .slice bo B.length cap] 24)) := (Old.refl w).alloc _
  have b1 := heap_new w (.cells #[.int .i64 gd, .slice bo B.length cap] 24)
  have x0 := blk_cells (i := 0) b1 rfl
  have x1 := blk_cells (i := 1) b1 rfl
  simp only [List.getElem_toArray, List.getElem_cons_zero, List.getElem_cons_succ] at x0 x1
  have ko := hid o1
  have kC := hid (fun V (o : Old w V) => clearing_any gd bo cap B V (h.old o) hcap hl (hT.old o))
  have khz := hid hz0
  clear o1 b1 h hT hz0
  go_enter Tryd.func14, Tryd.ntmps14
  go_wp2_with fail
  generalize w.alloc (.cells #[.int .i64 gd, .slice bo B.length cap] 24) = w1 at *
  refine (kC.out _ ko.out).mono ?_
  rintro e w2 ⟨o2, h2⟩
  have ko2 := hid (ko.out.trans o2)
  obtain ⟨hz, -⟩ | ⟨hz, rfl⟩ := h2
  · exact absurd hz khz.out
  · have hzb : (insZ gd B != 0) = true := by simpa using hz
    have q2 : Old w2 (w2.alloc (.cells (wonA 0 nilS [] nilS) 85)) := (Old.refl w2).alloc _
    clear hz x0 x1 o2
    go_upto_region 2 with (refine wpList_store_row rfl 85 _ _ rfl w2.heap.size _ rfl rfl 85 _ (heap_new w2 _) (wonA_info ..) (by rw [wonA_size]; rfl) (wonA_one _ _ _ _ rfl rfl) ?_)
    rw [World.setRow_alloc_new]
    have ko3 := hid (ko2.out.trans q2)
    generalize w2.alloc (.cells (wonA 0 nilS [] nilS) 85) = w3 at *
    clear q2
    go_wp2_with fail
    go_ret
    exact ⟨rfl, ko3.out⟩

set_option maxRecDepth 100000 in
set_option maxHeartbeats 4000000 in
/-- A function that tells nothing. -/
theorem none_B (d : Nat) (Kp : Sp → World → World → Prop) (Told : Sp → World → Prop) (Fr : List Sp → Nat → Prop) (Pre S Sq : List Sp → Prop) (hS : S []) (w : World) :
    SeqB Tryd.prog d 46 #[] #[] encT (fun _ => False) Kp Told (fun _ => True) Fr Pre S Sq w := by
  intro lp J Jx W hbe hJ hJx hY h0
  have kh0 := hid h0
  have khS := hid hS
  clear hJ hJx hY h0 hbe hS
  refine callsIn_of_wp Tryd.func46 rfl trivial ?_ rfl
  simp only [Tryd.ntmps46, List.size_toArray, List.length_cons, List.length_nil, Nat.reduceAdd, Nat.reduceSub, Array.replicate_succ, Array.replicate_zero, List.push_toArray, List.append_toArray, List.nil_append, List.cons_append, List.append_nil]
  gi_wp2_with fail
  go_end0
  exact ⟨⟨_, rfl⟩, trivial, .inl ⟨[], khS.out, kh0.out⟩⟩

/-- Which function Steps answers, and that it goes over all steps, whatever became of what was handed in. -/
structure StQ (gd : Int) (B : Ins) (w w' : World) (gf : Nat) (pb lb : Array Value) : Prop where
  en : ∀ args w, (callFunc gf args).run Tryd.prog w = .ok (.enter gf args) w
  go : ∀ (lo hi nb : Nat) (Z : World), (∀ Y, KeptC (fun q => (lo ≤ q ∧ q < hi) ∨ q = nb) Z Y → Tabs Y) → hi ≤ w.heap.size → Frm (fun q => (lo ≤ q ∧ q < hi) ∨ w'.heap.size ≤ q) w' Z → w'.heap.size ≤ nb → nb < Z.heap.size →
    SeqB Tryd.prog 4 gf pb lb encT (fun _ => False) (fun x X Y => KeptC (Tb (fun q => (lo ≤ q ∧ q < hi) ∨ q = nb) x.2.1) X Y) (fun x X => NewL Z.heap.size X x.2.1 x.2.2 ∧ SmV x.2.1) (fun _ => True) (fun p t => Fd (p.map Prod.snd) t)
      (fun q => ∃ r, stsL gd B = q.map unT ++ r) (fun q => q.map unT = stsL gd B) (fun q => ∃ r, stsL gd B = q.map unT ++ r) Z
theorem StsP.q {gd : Int} {B : Ins} {w w' : World} {e : Ending} (hz : insZ gd B = 0) (h : StsP gd B w e w') (hlt : ∀ l ∈ B, ∀ x ∈ l, x.1 < 4294967296) : ∃ gf pb lb, e = .returned (.func (.func gf) pb lb) ∧ StQ gd B w w' gf pb lb := by
  obtain ⟨hold, x, rb, m, rfl, hN, hC⟩ := h
  have hsz := hold.size
  refine ⟨_, _, _, rfl, ⟨enters_of Tryd.func43 (by kernel_rfl) rfl, ?_⟩⟩
  intro lo hi nb Z hT hhi hf hn1 hn2
  have hbd : ∀ l ∈ B, l.length ≤ 9223372036854775807 ∧ ∀ x ∈ l, x.1 < 4294967296 := fun l hl => ⟨by have := (ins_all hz).2.2.2.1 l hl; omega, hlt l hl⟩
  obtain ⟨xa, xc, rfl, -⟩ := hN.ins hbd
  have hL : stsL gd B = toK B (allZ gd).1 (wonL B (cosC gd B)) (cosC gd B) 32 := by unfold stsL; rw [if_pos hz]
  rw [hL]
  have hNB := won_nb hz hlt
  have hk : ∀ Y, KeptC (fun q => (lo ≤ q ∧ q < hi) ∨ q = nb) Z Y → ∀ q o, w.heap.size ≤ q → w'.heap[q]? = some o → o.isCells = true → Y.heap[q]? = some o := fun Y hY q o hq ho hc => by
    have h1 := blk_lt ho
    refine hY q o (by omega) ?_ hc
    rw [hf.block q h1 (by omega)]
    exact ho
  have hcl : (cosC gd B).length = B.length := (win_of hz hlt).len
  exact steps_B 4 (by omega) gd xa rb 0 xc m B (cosC gd B) (wonL B (cosC gd B)) hcl (payB_of hz hlt hNB.le) _ rfl hNB hz (fun q => (lo ≤ q ∧ q < hi) ∨ q = nb) Z (fun q e => by have := hf.size; rcases e with e | e <;> omega) (fun Y hY => by
    refine ⟨?_, ?_, hT Y hY⟩
    · obtain ⟨xa', xc', e, hI, -⟩ := (hN.keep (hk Y hY)).ins hbd
      simp only [Value.slice.injEq] at e
      rw [e.1]
      exact hI
    · have h2 : NewL w.heap.size Y (.slice (some ⟨rb, 0, none⟩) (wonL B (cosC gd B)).length m) (wonL B (cosC gd B)) := by
        obtain ⟨ao, c', e1, h⟩ := hC
        refine ⟨ao, c', e1, h.imp id ?_⟩
        rintro ⟨b, cur, e2, e3, e4, e5⟩
        exact ⟨b, cur, e2, e3, hk Y hY b _ e3 e4 rfl, e5⟩
      exact h2.nums)
end Go.Proofs.YtgikkbkgmjacmaaDoor

/- CorePay: the program's and the document's answers in one form each; a turn over the steps. -/
namespace Go.Proofs.YtgikkbkgmjacmaaDoor
open Go.RowKit Go.Lib Go.Shelf

def payW (gd : Int) (B : Ins) : List Int := if insZ gd B = 0 then coreP gd B else []
theorem payW_len {gd : Int} {B : Ins} (hlt : ∀ l ∈ B, ∀ x ∈ l, x.1 < 4294967296) : (payW gd B).length ≤ 32 := by
  unfold payW
  split
  · rename_i hz
    rw [(core_k hz hlt).nb.len]
    exact (win_of hz hlt).few
  · exact Nat.zero_le _
theorem payU (gd : Int) (bo : Option Addr) (cap : Nat) (B : Ins) (w : World) (h : InsC w bo B) (hcap : B.length ≤ cap) (hl : B.length ≤ 9223372036854775807) (hT : Tabs w) :
    Calls Tryd.prog 11 #[.agg #[.int .i64 gd, .slice bo B.length cap]] w fun e w' => ∃ ao c, e = .returned (.tuple #[.slice ao (payW gd B).length c, .int .i64 (insZ gd B)]) ∧ NewL w.heap.size w' (.slice ao (payW gd B).length c) (payW gd B) ∧ Old w w' := by
  refine (pay_any gd bo cap B w h hcap hl hT).mono ?_
  rintro e w' ⟨o, ⟨hz, v, rfl, hv, -⟩ | ⟨hz, rfl⟩⟩
  · have hL : payW gd B = coreP gd B := if_pos hz
    obtain ⟨ao, c, rfl, -⟩ := id hv
    rw [hL, hz]
    exact ⟨ao, c, rfl, hv, o⟩
  · have hL : payW gd B = [] := if_neg hz
    rw [hL]
    exact ⟨none, 0, rfl, ⟨none, 0, rfl, .inl ⟨rfl, rfl⟩⟩, o⟩
theorem rpayU (gd : Int) (bo : Option Addr) (cap : Nat) (B : Ins) (w : World) (h : InsC w bo B) (hl : B.length ≤ 9223372036854775807) :
    Calls Tryd.prog 12 #[.agg #[.int .i64 gd, .slice bo B.length cap]] w fun e w' => ∃ ao c, e = .returned (.tuple #[.slice ao (payW gd B).length c, .int .i64 (insZ gd B)]) ∧ NewL w.heap.size w' (.slice ao (payW gd B).length c) (payW gd B) ∧ Old w w' := by
  refine (rpay_any gd bo cap B w h hl).mono ?_
  rintro e w' ⟨o, ⟨hz, v, rfl, hv⟩ | ⟨hz, rfl⟩⟩
  · have hL : payW gd B = coreP gd B := if_pos hz
    obtain ⟨ao, c, rfl, -⟩ := id hv
    rw [hL, hz]
    exact ⟨ao, c, rfl, hv, o⟩
  · have hL : payW gd B = [] := if_neg hz
    rw [hL]
    exact ⟨none, 0, rfl, ⟨none, 0, rfl, .inl ⟨rfl, rfl⟩⟩, o⟩
theorem fn_eq (gf : Nat) (pb lb : Array Value) (w : World) : (binOp BinOp.eql 37 (.func (.func gf) pb lb) .nilFunc).run Tryd.prog w = .ok (.bool false) w := by kernel_rfl
theorem stepsU (gd : Int) (bo : Option Addr) (cap : Nat) (B : Ins) (w : World) (h : InsC w bo B) (hcap : B.length ≤ cap) (hl : B.length ≤ 9223372036854775807) (hT : Tabs w) (hlt : ∀ l ∈ B, ∀ x ∈ l, x.1 < 4294967296) :
    Calls Tryd.prog 14 #[.agg #[.int .i64 gd, .slice bo B.length cap]] w fun e w' => ∃ gf pb lb, e = .returned (.func (.func gf) pb lb) ∧ StQ gd B w w' gf pb lb ∧ Old w w' := by
  by_cases hz : insZ gd B = 0
  · refine (csteps_any gd bo cap B w h hcap hl hT hz).mono ?_
    rintro e w' hP
    obtain ⟨gf, pb, lb, e1, e2⟩ := hP.q hz hlt
    exact ⟨gf, pb, lb, e1, e2, hP.1⟩
  · refine (csteps_bad gd bo cap B w h hcap hl hT hz).mono ?_
    rintro e w' ⟨rfl, o⟩
    have hL : stsL gd B = [] := if_neg hz
    refine ⟨_, _, _, rfl, ⟨enters_of Tryd.func46 (by kernel_rfl) rfl, ?_⟩, o⟩
    intro lo hi nb Z hT hhi hf hn1 hn2
    exact none_B 4 _ _ _ _ _ _ (by rw [hL]; rfl) Z

theorem stsL_few (gd : Int) (B : Ins) : (stsL gd B).length ≤ 32 := by
  unfold stsL
  split
  · exact toK_few ..
  · exact Nat.zero_le _
theorem stsL_at {gd : Int} {B : Ins} (hlt : ∀ l ∈ B, ∀ x ∈ l, x.1 < 4294967296) {p : List Sp} {x : Sp} {r : List (Nat × List Int)} (h : stsL gd B = (p ++ [x]).map unT ++ r) : p.length < (stsL gd B).length ∧ (stsL gd B).getD p.length (0, []) = unT x ∧ x.2.2.length ≤ 32 := by
  refine ⟨by rw [h]; simp, by rw [h, List.getD_eq_getElem?_getD]; simp, ?_⟩
  by_cases hz : insZ gd B = 0
  · have hL : stsL gd B = toK B (allZ gd).1 (wonL B (cosC gd B)) (cosC gd B) 32 := if_pos hz
    rw [hL, List.map_append] at h
    obtain ⟨j, -, -, -, hy⟩ := toK_pre 32 h
    have : x.2.2 = paK B (allZ gd).1 (wonL B (cosC gd B)) (cosC gd B) (j + 1) := congrArg Prod.snd hy
    rw [this, paK_len, (won_nb hz hlt).len]
    exact (win_of hz hlt).few
  · have hL : stsL gd B = [] := if_neg hz
    rw [hL] at h
    simp at h

def TuI (nb : Nat) (X0 : World) (p : List Sp) (Y : World) : Prop := Y.heap[nb]? = some (.cells #[.int .i64 (p.length : Int)] 3 (0, 0)) ∧ Frm (fun q => q = nb ∨ X0.heap.size ≤ q) X0 Y
def TuX (nb : Nat) (tn lv : Int) (X0 : World) (p : List Sp) (Y : World) : Prop := Y.heap[nb]? = some (.cells #[.int .i64 (p.length : Int)] 3 (0, 0)) ∧ (tn = 0 ∧ (p.length : Int) = lv) ∧ Frm (fun q => q = nb ∨ X0.heap.size ≤ q) X0 Y
def TuF (n nb : Nat) (tn lv : Int) (X0 : World) (Y : World) : Prop := ∃ k : Nat, Y.heap[nb]? = some (.cells #[.int .i64 (k : Int)] 3 (0, 0)) ∧ (k = n ∨ (tn = 0 ∧ (k : Int) = lv)) ∧ k ≤ n ∧ Frm (fun q => q = nb ∨ X0.heap.size ≤ q) X0 Y
theorem TuI.frm {nb : Nat} {X0 X Y : World} {p : List Sp} {F : Nat → Prop} (h : TuI nb X0 p X) (hn : nb < X0.heap.size) (hf : Frm (fun k => False ∨ (X0.heap.size ≤ k ∧ F k)) X Y) : TuI nb X0 p Y :=
  ⟨by rw [hf.block _ (blk_lt h.1) (by rintro (e | e); exact e; omega)]; exact h.1, Frm.trans h.2 hf (fun i _ e => .inr (e.elim (fun h => h.elim) (fun e => e.1)))⟩
theorem TuX.frm {nb : Nat} {tn lv : Int} {X0 X Y : World} {p : List Sp} {F : Nat → Prop} (h : TuX nb tn lv X0 p X) (hn : nb < X0.heap.size) (hf : Frm (fun k => False ∨ (X0.heap.size ≤ k ∧ F k)) X Y) : TuX nb tn lv X0 p Y :=
  ⟨by rw [hf.block _ (blk_lt h.1) (by rintro (e | e); exact e; omega)]; exact h.1, h.2.1, Frm.trans h.2.2 hf (fun i _ e => .inr (e.elim (fun h => h.elim) (fun e => e.1)))⟩
theorem put_oneB {X : World} {k : Nat} (o' : Obj) : Frm (fun q => q = k) X (X.putObj k o') := put_one o'
theorem TuI.put {nb : Nat} {X0 X : World} {p : List Sp} (h : TuI nb X0 p X) (hn : nb < X0.heap.size) (o' : Obj) : TuI nb X0 p (X.putObj (X0.heap.size + 1) o') :=
  ⟨by rw [(put_one o').block _ (blk_lt h.1) (by omega)]; exact h.1, Frm.trans h.2 (put_one o') (fun i _ e => .inr (by omega))⟩
theorem TuX.put {nb : Nat} {tn lv : Int} {X0 X : World} {p : List Sp} (h : TuX nb tn lv X0 p X) (hn : nb < X0.heap.size) (o' : Obj) : TuX nb tn lv X0 p (X.putObj (X0.heap.size + 1) o') :=
  ⟨by rw [(put_one o').block _ (blk_lt h.1) (by omega)]; exact h.1, h.2.1, Frm.trans h.2.2 (put_one o') (fun i _ e => .inr (by omega))⟩
theorem TuI.fin {nb : Nat} {tn lv : Int} {X0 Y : World} {q : List Sp} {L : List (Nat × List Int)} (hS : q.map unT = L) (h : TuI nb X0 q Y) : TuF L.length nb tn lv X0 Y :=
  ⟨q.length, h.1, .inl (by rw [← hS, List.length_map]), by rw [← hS, List.length_map]; exact Nat.le_refl _, h.2⟩
theorem TuX.fin {nb : Nat} {tn lv : Int} {X0 Y : World} {q : List Sp} {L : List (Nat × List Int)} (hS : ∃ r, L = q.map unT ++ r) (h : TuX nb tn lv X0 q Y) : TuF L.length nb tn lv X0 Y := by
  obtain ⟨r, rfl⟩ := hS
  exact ⟨q.length, h.1, .inr h.2.1, by rw [List.length_append, List.length_map]; omega, h.2.2⟩
end Go.Proofs.YtgikkbkgmjacmaaDoor
