/- Run and All, whatever the lot; ranges that may be left by a break. -/
import Derived.Test.YtkhenigdppjlhaaP1
import Derived.Test.YtkhenigdppjlhaaQ2
namespace Go.Proofs.Ytkhenigdppjlhaa
open Go.RowKit Go.Lib Go.Shelf
attribute [local go_sem] Oper.semAt_some

/-- How many steps there are. -/
def eN (l : Lt) (L : List Bd) : Nat := if lotB l = true then L.length else 0
def eR (l : Lt) (L : List Bd) : Rs := if lotB l = true then rK l L L.length else noR
def eC (l : Lt) (L : List Bd) : Int := if lotB l = true then cK l L L.length else 0

theorem eN_le (l : Lt) (L : List Bd) : eN l L ≤ L.length := by
  unfold eN
  split <;> omega

theorem run_any (l : Lt) (ao : Option Addr) (cap : Nat) (L : List Bd) (w : World) (hB : BidsC w ao L) (hna : ao = none → L = []) (hn : L.length ≤ 200) (hfr : ∀ i, i < L.length → (L.getD i noB).free ≤ 9223372036854775807) : Calls Try.prog 19 #[lotV l, .slice ao L.length cap] w fun e w' => e = .returned (.tuple #[riseV (eR l L), .int .i64 (eC l L), .int .i64 (ckZ l)]) ∧ Old w w' := by
  cases hl : lotB l
  · rw [show eR l L = noR by simp [eR, hl], show eC l L = 0 by simp [eC, hl], ck_no hl]
    exact run_no l ao L.length cap w hl
  · rw [show eR l L = rK l L L.length by simp [eR, hl], show eC l L = cK l L L.length by simp [eC, hl], ck_yes hl]
    exact run_yes l ao cap L w hB hna hn hl hfr

theorem rrun_any (l : Lt) (ao : Option Addr) (cap : Nat) (L : List Bd) (w : World) (hB : BidsC w ao L) (hn : L.length ≤ 200) : Calls Try.prog 21 #[lotV l, .slice ao L.length cap] w fun e w' => ∃ v, e = .returned (.tuple #[v, riseV (eR l L), .int .i64 (eC l L), .int .i64 (ckZ l)]) ∧ StepsC w' v (evs l L (eN l L)) ∧ (∀ g, v.ownBlock = some g → w.heap.size ≤ g ∧ g < w'.heap.size) ∧ Old w w' := by
  cases hl : lotB l
  · rw [show eR l L = noR by simp [eR, hl], show eC l L = 0 by simp [eC, hl], ck_no hl, show eN l L = 0 by simp [eN, hl]]
    refine (rrun_no l ao L.length cap w hl).mono fun e w' ⟨h1, h2⟩ => ?_
    exact ⟨.slice none 0 0, h1, ⟨none, 0, rfl, fun i hi => by simp [evs] at hi⟩, fun g e => by simp [Value.ownBlock] at e, h2⟩
  · rw [show eR l L = rK l L L.length by simp [eR, hl], show eC l L = cK l L L.length by simp [eC, hl], ck_yes hl, show eN l L = L.length by simp [eN, hl]]
    exact rrun_yes l ao cap L w hB hn hl

set_option maxRecDepth 100000 in
set_option maxHeartbeats 8000000 in
/-- Of a lot that may not be nothing is told. -/
theorem all1_none (d : Nat) (hd : 1 ≤ d) (lp lb sb : Nat) (l : Lt) (hlot : lotB l = false) (J : List (Rs × Int) → World → Prop) (W : World) (hL : LotC W lb l)
    (hJ : ∀ p X Y, J p X → Frm (fun k => W.heap.size ≤ k) X Y → J p Y) (h0 : J [] W) :
    CallsIn Fence.wide d Try.prog 31 #[.func (.yield lp) #[] #[], .pointer (some ⟨lb, 0, none⟩), .pointer (some ⟨sb, 0, none⟩)] W fun e Y => (∃ v, e = .returned v) ∧ J [] Y := by
  have kBeg := hid (fun w => begin_any l w)
  rw [ck_no hlot, show begR l = noR by simp [begR, hlot]] at kBeg
  clear hlot
  unfold lotV riseV noR at kBeg
  refine callsIn_of_wp Try.func31 rfl trivial ?_ rfl
  simp only [Try.ntmps31, List.size_toArray, List.length_cons, List.length_nil, Nat.reduceAdd, Nat.reduceSub, Array.replicate_succ, Array.replicate_zero, List.push_toArray, List.append_toArray, List.nil_append, List.cons_append]
  obtain ⟨lc0, lc1, lc2, lc3, lc4, lc5, lc6, lc7, lc8, lc9, lc10⟩ := hL
  gi_wp2_with fail
  refine ⟨trivial, ?_⟩
  refine (callsIn_wide.2 (kBeg.out _)).mono ?_
  rintro e w1 ⟨rfl, o1⟩
  have hJ1 := hid (hJ _ _ _ h0 (Frm.mono (o1.alloc (.cells #[.int .i64 0, .int .i64 0, .int .i64 0, .int .i64 0] 27)) (fun _ _ h => h.elim)))
  clear o1 kBeg lc0 lc1 lc2 lc3 lc4 lc5 lc6 lc7 lc8 lc9 lc10 hJ h0
  gi_wp2_with fail
  refine bodyPost_ret (results_none rfl _ _ _) rfl ?_
  exact ⟨⟨_, rfl⟩, hJ1.out⟩

/-- All, whatever the lot. -/
theorem all_stopsU (d : Nat) (hd : 1 ≤ d) (lb sb : Nat) (v : Value) (T : Nat → Prop) (l : Lt) (L : List Bd) (w : World) (hl : L.length ≤ 1000000) (hfr : ∀ i, i < L.length → (L.getD i noB).free ≤ 9223372036854775807) (hTb : ∀ k, T k → k < w.heap.size) (hTl : ¬ T lb) (hTs : ¬ T sb)
    (hL : LotC w lb l) (hS : w.cell? ⟨sb, 0, none⟩ = some v) (hN : ∃ ao cap, v = .slice ao L.length cap ∧ BidsC w ao L ∧ ∀ ad, ao = some ad → ¬ T ad.block ∧ ad.block < w.heap.size) :
    SeqP Try.prog d 31 #[.pointer (some ⟨lb, 0, none⟩), .pointer (some ⟨sb, 0, none⟩)] encE (KeptC T) (fun q => ∃ k, k ≤ eN l L ∧ q = evs l L k) (fun q => q = evs l L (eN l L)) (fun q => ∃ k, k ≤ eN l L ∧ q = evs l L k) w := by
  cases hlot : lotB l
  · intro lp J Jx W hbe hJ hJx hY h0
    have hold : Old w W := Old.of_below hbe
    refine (all1_none d hd lp lb sb l hlot J W (hL.old hold) hJ h0).mono fun e Y ⟨h1, h2⟩ => ?_
    exact ⟨h1, Or.inl ⟨[], by simp [eN, hlot, evs], h2⟩⟩
  · have e : eN l L = L.length := by simp [eN, hlot]
    rw [e]
    exact all_stops d hd lb sb v T l L w hl hlot hfr hTb hTl hTs hL hS hN

/-- A range that is gone through, or left by a break. -/
theorem range_join {α : Type} {P : Program} {n : Nat} {g : Operand} {ps : Array Tmp} {assign body : Code} {Q : Exit → Act → World → Prop} {a : Act} {w : World} (hn : 1 ≤ n) {gf : Nat} {lb : Array Value}
    (hg : a.eval g = .func (.func gf) #[] lb) (eg : ∀ args w, (callFunc gf args).run P w = .ok (.enter gf args) w) {enc : α → Array Value} {Kp : World → World → Prop} {Pre S Sp : List α → Prop}
    (hseq : SeqP P (n - 1) gf lb enc Kp Pre S Sp w) (hKt : ∀ {A B D : World}, Kp A B → Kp B D → Kp A D)
    (hKa : ∀ (W : World) (o : Obj), Kp W (W.alloc o)) (hKb : ∀ (W : World) (l : Nat) (o o' : Obj), w.heap.size ≤ l → W.heap[l]? = some o → o.isCells = false → Kp W (W.putObj l o')) (hps : ∀ x, (enc x).size = ps.size)
    (id : Nat) (I X Fin : List α → World → Prop) (hI : ∀ p A B, I p A → Frm (fun k => w.heap.size ≤ k) A B → I p B) (hX : ∀ p A B, X p A → Frm (fun k => w.heap.size ≤ k) A B → X p B)
    (h0 : I [] w) (ob : α → Obj) (upd : α → Nat → Array Value → Array Value)
    (hassign : ∀ (l : Nat) (x : α) (W : World) (K : Act → World → Prop), K { tmps := upd x W.heap.size a.tmps, defers := [] } (W.alloc (ob x)) → assign.wpIn (Fence.wide.inRound l) (n - 1 - 1) P (Exit.then K (fun _ _ _ => False)) { tmps := (ps.zip (enc x)).foldl (fun t (p, v) => t.setIfInBounds p v) a.tmps, defers := [] } W)
    (hbody : ∀ (l : Nat) (p : List α) (x : α) (m : Nat) (W : World), I p W → Pre (p ++ [x]) → W.heap[m]? = some (ob x) → w.heap.size + 2 ≤ m → body.wpIn (Fence.wide.inRound l) (n - 1 - 1) P (ownPostG w.heap.size Kp I (fun c q Y => c = .exit id ∧ X q Y) (p ++ [x]) W) { tmps := upd x m a.tmps, defers := [] } W)
    (hS : ∀ q W, S q → I q W → Fin q W) (hSp : ∀ q W, Sp q → X q W → Fin q W) (hQ : ∀ b W, Q .normal b W → Q (.exit id) b W)
    (hend : ∀ (D : Nat) (q : List α) (W : World), w.heap.size ≤ D → Fin q W → W.heap[D]? = some (.deferred (some [])) → Q .normal { a with defers := { target := .collected D, args := #[] } :: a.defers } W) :
    (Code.rangeFunc g ps assign body).wp P Q a w := by
  refine (wpIn_wide (n := n)).1 ?_
  refine range_upd hn hg eg hseq hKt hKa hKb hps I (fun c q Y => c = .exit id ∧ X q Y)
    (fun p A B row h hg hr => hI p A B h (Frm.grown (Frm.refl _ A) hg (fun k e => Or.inr (hr k e).1)))
    (fun c p A B row h hg hr => ⟨h.1, hX p A B h.2 (Frm.grown (Frm.refl _ A) hg (fun k e => Or.inr (hr k e).1))⟩)
    (fun p A B h hf => hI p A B h (Frm.mono hf (fun k _ e => by omega)))
    (fun c p A B h hf => ⟨h.1, hX p A B h.2 (Frm.mono hf (fun k _ e => by omega))⟩)
    h0 ob upd hassign hbody (fun D q W hD hs hi hK => hend D q W hD (hS q W hs hi) hK) ?_
  rintro D c p W hD hs ⟨rfl, hx⟩ hK
  refine wpIn_wide.2 ?_
  exact wp_exit (hQ _ _ (hend D p W hD (hSp p W hs hx) hK))

end Go.Proofs.Ytkhenigdppjlhaa
