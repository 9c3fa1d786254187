/- A range over a function that is gone through, or left by a break: one end for both. -/
import Derived.Test.YtpbbnbobmcaoiaaDoorRP
namespace Go.Proofs.YtpbbnbobmcaoiaaDoor
open Go.RowKit Go.Lib Go.Shelf

theorem kept_cell {T : Nat → Prop} {X Y : World} (h : KeptC T X Y) {p : Addr} {v : Value} (ht : ¬ T p.block) (hc : X.cell? p = some v) : Y.cell? p = some v := by
  have hg : p.block < X.heap.size := World.block_lt_of_cell? X _ hc
  obtain ⟨o, ho⟩ : ∃ o, X.heap[p.block]? = some o := ⟨_, Array.getElem?_eq_getElem hg⟩
  have hcell : o.isCells = true := by
    cases o <;> simp [World.cell?, ho] at hc ⊢
    all_goals rfl
  rw [← hc]
  exact World.cell?_of_block ((h _ _ ht ho hcell).trans ho.symm)

theorem range_joinP {α : Type} {P : Program} {n : Nat} {g : Operand} {ps : Array Tmp} {assign body : Code} {Q : Exit → Act → World → Prop} {a : Act} {w : World} (hn : 1 ≤ n) {gf : Nat} {lb : Array Value}
    (hg : a.eval g = .func (.func gf) #[] lb) (eg : ∀ args w, (callFunc gf args).run P w = .ok (.enter gf args) w) {enc : α → Array Value} {Kp : World → World → Prop} {Pre S Sp : List α → Prop}
    (hseq : SeqP P (n - 1) gf lb enc Kp Pre S Sp w) (hKt : ∀ {A B D : World}, Kp A B → Kp B D → Kp A D)
    (hKb : ∀ (W : World) (l : Nat) (o o' : Obj), w.heap.size ≤ l → W.heap[l]? = some o → o.isCells = false → Kp W (W.putObj l o')) (hps : ∀ x, (enc x).size = ps.size)
    (id : Nat) (I X Fin : List α → World → Prop) (hI : ∀ p A B, I p A → Frm (fun k => w.heap.size ≤ k) A B → I p B) (hX : ∀ p A B, X p A → Frm (fun k => w.heap.size ≤ k) A B → X p B)
    (h0 : I [] w) (upd : α → Array Value → Array Value)
    (hassign : ∀ (l : Nat) (x : α) (W : World) (K : Act → World → Prop), K { tmps := upd x a.tmps, defers := [] } W → assign.wpIn (Fence.wide.inRound l) (n - 1 - 1) P (Exit.then K (fun _ _ _ => False)) { tmps := (ps.zip (enc x)).foldl (fun t (p, v) => t.setIfInBounds p v) a.tmps, defers := [] } W)
    (hbody : ∀ (l : Nat) (p : List α) (x : α) (W : World), I p W → Pre (p ++ [x]) → body.wpIn (Fence.wide.inRound l) (n - 1 - 1) P (ownPostG w.heap.size Kp I (fun c q Y => c = .exit id ∧ X q Y) (p ++ [x]) W) { tmps := upd x a.tmps, defers := [] } W)
    (hS : ∀ q W, S q → I q W → Fin q W) (hSp : ∀ q W, Sp q → X q W → Fin q W) (hQ : ∀ b W, Q .normal b W → Q (.exit id) b W)
    (hend : ∀ (D : Nat) (q : List α) (W : World), w.heap.size ≤ D → Fin q W → W.heap[D]? = some (.deferred (some [])) → Q .normal { a with defers := { target := .collected D, args := #[] } :: a.defers } W) :
    (Code.rangeFunc g ps assign body).wp P Q a w := by
  refine (wpIn_wide (n := n)).1 ?_
  refine range_priv hn hg eg hseq hKt hKb hps I (fun c q Y => c = .exit id ∧ X q Y)
    (fun p A B row h hg hr => hI p A B h (Frm.grown (Frm.refl _ A) hg (fun k e => Or.inr (hr k e).1)))
    (fun c p A B row h hg hr => ⟨h.1, hX p A B h.2 (Frm.grown (Frm.refl _ A) hg (fun k e => Or.inr (hr k e).1))⟩)
    (fun p A B h hf => hI p A B h (Frm.mono hf (fun k _ e => by omega)))
    (fun c p A B h hf => ⟨h.1, hX p A B h.2 (Frm.mono hf (fun k _ e => by omega))⟩)
    h0 (fun x => { tmps := upd x a.tmps, defers := [] }) hassign hbody (fun D q W hD hs hi hK => hend D q W hD (hS q W hs hi) hK) ?_
  rintro D c p W hD hs ⟨rfl, hx⟩ hK
  refine wpIn_wide.2 ?_
  exact wp_exit (hQ _ _ (hend D p W hD (hSp p W hs hx) hK))

end Go.Proofs.YtpbbnbobmcaoiaaDoor
