/- All's function, whichever it is, gone over: one end for going through and for leaving. -/
import Derived.Test.YtmapejhacbmckaaDoorJ25
namespace Go.Proofs.YtmapejhacbmckaaDoor
open Go.RowKit Go.Lib Go.Shelf

theorem SeqM.post {α : Type} {P : Program} {n g : Nat} {lb : Array Value} {enc : α → Array Value} {M : Nat → Prop} {Kp : α → World → World → Prop} {Told : α → World → Prop} {Own : World → Prop} {Fr : List α → Nat → Prop} {Pre S S' Sp : List α → Prop} {w : World} (h : SeqM P n g lb enc M Kp Told Own Fr Pre S Sp w) (hS : ∀ q, S q → S' q) : SeqM P n g lb enc M Kp Told Own Fr Pre S' Sp w := by
  intro l J Jx W a b c d e
  refine (h l J Jx W a b c d e).mono ?_
  rintro e Y ⟨h1, h2, h3⟩
  refine ⟨h1, h2, h3.imp ?_ id⟩
  rintro ⟨q, h4, h5⟩
  exact ⟨q, hS q h4, h5⟩

theorem range_joinM {α : Type} {P : Program} {n : Nat} {g : Operand} {ps : Array Tmp} {assign body : Code} {Q : Exit → Act → World → Prop} {a : Act} {w : World} (hn : 1 ≤ n) {gf : Nat} {lb : Array Value}
    (hg : a.eval g = .func (.func gf) #[] lb) (eg : ∀ args w, (callFunc gf args).run P w = .ok (.enter gf args) w) {enc : α → Array Value} {M : Nat → Prop} {Kp : α → World → World → Prop} {Told : α → World → Prop} {Own : World → Prop} {Fr : List α → Nat → Prop} {Pre S Sp : List α → Prop}
    (hseq : SeqM P (n - 1) gf lb enc M Kp Told Own Fr Pre S Sp w) (hOw : ∀ (W : World) (o o' : Obj), Own W → W.heap[w.heap.size + 1]? = some o → o.isCells = false → Own (W.putObj (w.heap.size + 1) o')) (hM : ∀ k, M k → k < w.heap.size) (hKt : ∀ {x : α} {A B D : World}, Kp x A B → Kp x B D → Kp x A D) (hKr : ∀ (x : α) (W : World), Kp x W W)
    (hKb : ∀ (x : α) (W : World) (o o' : Obj), W.heap[w.heap.size + 1]? = some o → o.isCells = false → Kp x W (W.putObj (w.heap.size + 1) o')) (hTo : ∀ (x : α) (W : World) (o o' : Obj), Told x W → W.heap[w.heap.size + 1]? = some o → o.isCells = false → Told x (W.putObj (w.heap.size + 1) o')) (hps : ∀ x, (enc x).size = ps.size)
    (id : Nat) (I X : List α → World → Prop) (Fin : World → Prop)
    (hI : ∀ p X Y, I p X → Frm (fun k => M k ∨ (w.heap.size ≤ k ∧ Fr p k)) X Y → I p Y) (hX : ∀ p A B, X p A → Frm (fun k => M k ∨ (w.heap.size ≤ k ∧ Fr p k)) A B → X p B)
    (pI : ∀ (p : List α) (A : World) (o o' : Obj), I p A → A.heap[w.heap.size + 1]? = some o → o.isCells = false → I p (A.putObj (w.heap.size + 1) o')) (pX : ∀ (p : List α) (A : World) (o o' : Obj), X p A → A.heap[w.heap.size + 1]? = some o → o.isCells = false → X p (A.putObj (w.heap.size + 1) o')) (h0 : I [] w) (upd : α → Array Value → Array Value)
    (hassign : ∀ (l : Nat) (p : List α) (x : α) (W : World) (K : Act → World → Prop), Pre (p ++ [x]) → Told x W → K { tmps := upd x a.tmps, defers := [] } W → assign.wpIn (Fence.wide.inRound l) (n - 1 - 1) P (Exit.then K (fun _ _ _ => False)) { tmps := (ps.zip (enc x)).foldl (fun t (p, v) => t.setIfInBounds p v) a.tmps, defers := [] } W)
    (hbody : ∀ (l : Nat) (p : List α) (x : α) (W : World), I p W → Pre (p ++ [x]) → Told x W → w.heap.size + 2 ≤ W.heap.size → body.wpIn (Fence.wide.inRound l) (n - 1 - 1) P (ownPostM w.heap.size (Kp x) I (fun c q Y => c = .exit id ∧ X q Y) (p ++ [x]) W) { tmps := upd x a.tmps, defers := [] } W)
    (hS : ∀ q W, S q → I q W → Fin W) (hSp : ∀ q W, Sp q → X q W → Fin W) (hQ : ∀ b W, Q .normal b W → Q (.exit id) b W)
    (hend : ∀ (D : Nat) (W : World), w.heap.size = D → Fin W → W.heap[D]? = some (.deferred (some [])) → Q .normal { a with defers := { target := .collected D, args := #[] } :: a.defers } W) :
    (Code.rangeFunc g ps assign body).wp P Q a w := by
  refine (wpIn_wide (n := n)).1 ?_
  refine range_Mp hn hg eg hseq hOw hM hKt hKr hKb hTo hps I (fun c q Y => c = .exit id ∧ X q Y) hI
    (fun c p A B h hf => ⟨h.1, hX p A B h.2 hf⟩) pI (fun c p A o o' h ho hc => ⟨h.1, pX p A o o' h.2 ho hc⟩) h0 upd hassign hbody
    (fun D q W hD hs hi _ hK => hend D W hD (hS q W hs hi) hK) ?_
  rintro D c p W hD hs ⟨rfl, hx⟩ - hK
  refine wpIn_wide.2 ?_
  exact wp_exit (hQ _ _ (hend D W hD (hSp p W hs hx) hK))

/-- All choices, or none of an instance that may not be. -/
def allL (gd : Int) (B : Ins) : List (List Int) := if insZ gd B = 0 then allC B (allZ gd).1 else []

theorem allL_take (gd : Int) (B : Ins) (n : Nat) : (if insZ gd B = 0 then (allC B (allZ gd).1).take n else []) = (allL gd B).take n := by
  unfold allL
  split <;> simp

theorem allL_len {gd : Int} {B : Ins} {c : List Int} (h : c ∈ allL gd B) : c.length = B.length := by
  unfold allL at h
  split at h
  · exact allC_len h
  · cases h

/-- What All answers: which function, and that it goes over all choices, whatever became of what was handed in. -/
structure AllQ (gd : Int) (B : Ins) (w w' : World) (gf : Nat) (lb : Array Value) : Prop where
  eq : ∀ w, (binOp BinOp.eql 53 (.func (.func gf) #[] lb) .nilFunc).run Tryd.prog w = .ok (.bool false) w
  en : ∀ args w, (callFunc gf args).run Tryd.prog w = .ok (.enter gf args) w
  go : ∀ (lo hi nb : Nat) (Z : World), Tabs Z → hi ≤ w.heap.size → Frm (fun q => (lo ≤ q ∧ q < hi) ∨ w'.heap.size ≤ q) w' Z → w'.heap.size ≤ nb → nb < Z.heap.size →
    SeqM Tryd.prog 4 gf lb encC (fun _ => False) (fun x X Y => KeptC (Tb (fun q => (lo ≤ q ∧ q < hi) ∨ q = nb) x.1) X Y) (fun x X => NewZ Z.heap.size X x.1 x.2) (fun _ => True) Fd
      (fun q => ∃ r, allL gd B = q.map Prod.snd ++ r) (fun q => q.map Prod.snd = allL gd B) (fun q => ∃ r, allL gd B = q.map Prod.snd ++ r) Z

theorem AllP.q {gd : Int} {B : Ins} {w w' : World} {e : Ending} (h : AllP gd B w e w') (hlt : ∀ l ∈ B, ∀ x ∈ l, x.1 < 4294967296) : ∃ gf lb, e = .returned (.func (.func gf) #[] lb) ∧ AllQ gd B w w' gf lb := by
  obtain ⟨-, ⟨hz, s, a, v, rfl, hs, hb, hN, ha, hsa⟩ | ⟨hz, rfl⟩⟩ := h
  · refine ⟨_, _, rfl, ⟨fun _ => by kernel_rfl, enters_of Tryd.func48 (by kernel_rfl) rfl, ?_⟩⟩
    intro lo hi nb Z hT hhi hf hn1 hn2
    have tp := tops_of hz hlt
    obtain ⟨m, rfl, -, -, -⟩ := tp.m
    obtain ⟨ao, ac, rfl, hIK, hac⟩ := hN.insK (T := fun q => (lo ≤ q ∧ q < hi) ∨ q = nb) (fun l hl => ⟨by have := tp.eight l hl; omega, hlt l hl⟩) (fun q e => by omega)
    have hk : KeptC (fun q => (lo ≤ q ∧ q < hi) ∨ q = nb) w' Z := fun k o hk ho _ => by
      have := blk_lt ho
      rw [hf.block k this (by omega)]
      exact ho
    have hs1 := blk_lt hb
    have ha1 := blk_lt ha
    have hz2 := hf.size
    have c0 := kept_cell hk (p := ⟨s, 0, none⟩) (by dsimp only; omega) (blk_cells (i := 0) hb rfl)
    have c1 := kept_cell hk (p := ⟨s, 1, none⟩) (by dsimp only; omega) (blk_cells (i := 1) hb rfl)
    have c2 := kept_cell hk (p := ⟨a, 0, none⟩) (by dsimp only; omega) (blk_cell ha)
    have hL : allL (m : Int) B = allC B (allZ (m : Int)).1 := by unfold allL; rw [if_pos hz]
    rw [hL]
    exact all2_M 4 m B s a ao ac _ Z hz hac (hIK.next hk) ⟨c0, c1, c2⟩ hT (fun q e => by omega) ⟨by omega, by omega, by omega, by omega⟩ hlt
  · refine ⟨_, _, rfl, ⟨fun _ => by kernel_rfl, enters_of Tryd.func46 (by kernel_rfl) rfl, ?_⟩⟩
    intro lo hi nb Z hT hhi hf hn1 hn2
    have hL : allL gd B = [] := by unfold allL; rw [if_neg hz]
    rw [hL]
    exact (all1_M 4 _ _ _ _ Z).post (fun q hq => by rw [hq]; rfl)
theorem RowsI.old {N : Nat} {w w' : World} {v : Value} {O : List (List Int)} (h : RowsI N w v O) (o : Old w w') : RowsI N w' v O := by
  obtain ⟨VO, h1, h2⟩ := h
  exact ⟨VO, owns_kept h1 (fun q hq => by obtain ⟨cur, hc⟩ := owns_block h1 hq; exact o.block q (blk_lt hc) (fun h => h)), fun i hi => (h2 i hi).old o⟩
theorem RowsI.row {N : Nat} {w : World} {wa : Option Addr} {n wc : Nat} {O : List (List Int)} (h : RowsI N w (.slice wa n wc) O) {k : Nat} (hk : k < O.length) : ∃ g ra rc, wa = some ⟨g, 0, none⟩ ∧ w.cell? ⟨g, k, none⟩ = some (.slice ra (O[k]).length rc) ∧ NumsC .i64 w ra O[k] := by
  obtain ⟨VO, h1, h2⟩ := h
  have hl := own_len h1
  rcases h1.2 with ⟨_, h0⟩ | ⟨g, cap, cur, e, h3, h4, h5, h6, h7, h8⟩
  · omega
  · simp only [Value.slice.injEq] at e
    obtain ⟨rfl, -, -⟩ := e
    have h9 := h2 k hk
    obtain ⟨ra, rc, e1, e2, -⟩ := h9.nums
    have e3 : (cur.toList.take (O.length * 1))[k]? = VO[k]? := by rw [h8]
    have e4 : VO.getD k nilS = VO[k]'(by omega) := by rw [List.getD_eq_getElem?_getD, List.getElem?_eq_getElem (by omega)]; rfl
    have e5 : O.getD k [] = O[k] := by rw [List.getD_eq_getElem?_getD, List.getElem?_eq_getElem hk]; rfl
    rw [List.getElem?_take_of_lt (by omega), List.getElem?_eq_getElem (by omega : k < VO.length)] at e3
    rw [e4, e5] at e1
    rw [e5] at e2
    rw [e1] at e3
    exact ⟨g, ra, rc, rfl, blk_cells h4 (by simpa using e3), e2⟩

theorem over_new {N : Nat} {X : World} {ao : Option Addr} {n c : Nat} {L : List Int} (h : NewZ N X (.slice ao n c) L) {q o : Nat} (e : ao = some ⟨q, o, none⟩) : N ≤ q ∧ o = 0 ∧ ∃ cur, X.heap[q]? = some (.cells cur 3 (0, 0)) := by
  obtain ⟨ao', c', e1, h⟩ := h
  simp only [Value.slice.injEq] at e1
  obtain ⟨rfl, -, -⟩ := e1
  rcases h with ⟨h, -⟩ | ⟨b, cur, h, h1, h2, -⟩
  · rw [h] at e
    cases e
  · rw [h] at e
    simp only [Option.some.injEq, Addr.mk.injEq, and_true] at e
    obtain ⟨rfl, rfl⟩ := e
    exact ⟨h1, rfl, cur, h2⟩
theorem keeps_over {N B : Nat} {X Y : World} {ao : Option Addr} {n c : Nat} {L : List Int} (h : NewZ N X (.slice ao n c) L) (hf : Frm (fun q => ∃ o, ao = some ⟨q, o, none⟩) X Y) : KeepsFrom B X Y := ⟨hf.size, fun k o _ h1 h2 => by
  by_cases e : ∃ o, ao = some ⟨k, o, none⟩
  · obtain ⟨o', e⟩ := e
    obtain ⟨-, -, cur, h3⟩ := over_new h e
    rw [h3] at h1
    cases h1
    cases h2
  · rw [hf.block k (blk_lt h1) e]; exact h1⟩
theorem kept_over {N : Nat} {X Y : World} {ao : Option Addr} {n c : Nat} {L : List Int} {T : Nat → Prop} (h : NewZ N X (.slice ao n c) L) (hf : Frm (fun q => ∃ o, ao = some ⟨q, o, none⟩) X Y) : KeptC (Tb T (.slice ao n c)) X Y := fun k o hk ho _ => by
  rw [hf.block k (blk_lt ho) ?_]
  · exact ho
  · rintro ⟨o', e⟩
    obtain ⟨-, rfl, -⟩ := over_new h e
    exact hk (.inr ⟨n, c, by rw [e]⟩)

/-- A turn: between two choices, when it is left, behind it. -/
def TuI (nb : Nat) (X0 : World) (p : List Ch) (Y : World) : Prop := Y.heap[nb]? = some (.cells #[.int .i64 (p.length : Int)] 3 (0, 0)) ∧ p.length ≤ 39 ∧ Frm (fun q => q = nb ∨ X0.heap.size ≤ q) X0 Y
def TuX (nb : Nat) (tn lv : Int) (X0 : World) (p : List Ch) (Y : World) : Prop := Y.heap[nb]? = some (.cells #[.int .i64 (p.length : Int)] 3 (0, 0)) ∧ (p.length = 40 ∨ (tn = 0 ∧ (p.length : Int) = lv ∧ p.length ≤ 40)) ∧ Frm (fun q => q = nb ∨ X0.heap.size ≤ q) X0 Y
def TuF (n nb : Nat) (tn lv : Int) (X0 : World) (Y : World) : Prop := ∃ k : Nat, Y.heap[nb]? = some (.cells #[.int .i64 (k : Int)] 3 (0, 0)) ∧ (k = min n 40 ∨ (tn = 0 ∧ (k : Int) = lv)) ∧ k ≤ 40 ∧ Frm (fun q => q = nb ∨ X0.heap.size ≤ q) X0 Y
theorem TuI.frm {nb : Nat} {X0 X Y : World} {p : List Ch} {F : Nat → Prop} (h : TuI nb X0 p X) (hn : nb < X0.heap.size) (hf : Frm (fun k => False ∨ (X0.heap.size ≤ k ∧ F k)) X Y) : TuI nb X0 p Y :=
  ⟨by rw [hf.block _ (blk_lt h.1) (by rintro (e | e); exact e; omega)]; exact h.1, h.2.1, Frm.trans h.2.2 hf (fun i _ e => .inr (e.elim (fun h => h.elim) (fun e => e.1)))⟩
theorem TuX.frm {nb : Nat} {tn lv : Int} {X0 X Y : World} {p : List Ch} {F : Nat → Prop} (h : TuX nb tn lv X0 p X) (hn : nb < X0.heap.size) (hf : Frm (fun k => False ∨ (X0.heap.size ≤ k ∧ F k)) X Y) : TuX nb tn lv X0 p Y :=
  ⟨by rw [hf.block _ (blk_lt h.1) (by rintro (e | e); exact e; omega)]; exact h.1, h.2.1, Frm.trans h.2.2 hf (fun i _ e => .inr (e.elim (fun h => h.elim) (fun e => e.1)))⟩
theorem TuI.put {nb : Nat} {X0 X : World} {p : List Ch} (h : TuI nb X0 p X) (hn : nb < X0.heap.size) (o' : Obj) : TuI nb X0 p (X.putObj (X0.heap.size + 1) o') :=
  ⟨by rw [(put_one o').block _ (blk_lt h.1) (by omega)]; exact h.1, h.2.1, Frm.trans h.2.2 (put_one o') (fun i _ e => .inr (by omega))⟩
theorem TuX.put {nb : Nat} {tn lv : Int} {X0 X : World} {p : List Ch} (h : TuX nb tn lv X0 p X) (hn : nb < X0.heap.size) (o' : Obj) : TuX nb tn lv X0 p (X.putObj (X0.heap.size + 1) o') :=
  ⟨by rw [(put_one o').block _ (blk_lt h.1) (by omega)]; exact h.1, h.2.1, Frm.trans h.2.2 (put_one o') (fun i _ e => .inr (by omega))⟩
theorem TuI.fin {nb : Nat} {tn lv : Int} {X0 Y : World} {q : List Ch} {L : List (List Int)} (hS : q.map Prod.snd = L) (h : TuI nb X0 q Y) : TuF L.length nb tn lv X0 Y :=
  ⟨q.length, h.1, .inl (by rw [← hS, List.length_map]; have := h.2.1; omega), by have := h.2.1; omega, h.2.2⟩
theorem TuX.fin {nb : Nat} {tn lv : Int} {X0 Y : World} {q : List Ch} {L : List (List Int)} (hS : ∃ r, L = q.map Prod.snd ++ r) (h : TuX nb tn lv X0 q Y) : TuF L.length nb tn lv X0 Y := by
  obtain ⟨r, rfl⟩ := hS
  refine ⟨q.length, h.1, ?_, by have := h.2.1; omega, h.2.2⟩
  rw [List.length_append, List.length_map]
  have := h.2.1
  omega
theorem allL_at {gd : Int} {B : Ins} {p : List Ch} {x : Ch} {r : List (List Int)} (h : allL gd B = (p ++ [x]).map Prod.snd ++ r) (hp : p.length ≤ 39) : ∃ hk : p.length < ((allL gd B).take 41).length, ((allL gd B).take 41)[p.length] = x.2 ∧ x.2.length = B.length := by
  have hm : x.2 ∈ allL gd B := by rw [h]; simp
  have hk : p.length < ((allL gd B).take 41).length := by rw [h]; simp; omega
  refine ⟨hk, ?_, allL_len hm⟩
  rw [List.getElem_take]
  have e : (allL gd B)[p.length]? = some x.2 := by rw [h]; simp
  rw [List.getElem?_eq_getElem (by simp at hk; omega)] at e
  exact Option.some.inj e
end Go.Proofs.YtmapejhacbmckaaDoor
