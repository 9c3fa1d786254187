/- A range over a function whose variable lies in a box, and that is never left. -/
import Derived.Test.YtccbmmbcfcppeaaJ1
namespace Go.Proofs.Ytccbmmbcfcppeaa
open Go.RowKit Go.Lib Go.Shelf

theorem range_onlyB {α : Type} {P : Program} {n : Nat} {g : Operand} {ps : Array Tmp} {assign body : Code} {Q : Exit → Act → World → Prop} {a : Act} {w : World} (hn : 1 ≤ n) {gf : Nat} {lb : Array Value}
    (hg : a.eval g = .func (.func gf) #[] lb) (eg : ∀ args w, (callFunc gf args).run P w = .ok (.enter gf args) w) {enc : α → Array Value} {Kp : World → World → Prop} {Pre S Sp : List α → Prop}
    (hseq : SeqP P (n - 1) gf lb enc Kp Pre S Sp w) (hKt : ∀ {A B D : World}, Kp A B → Kp B D → Kp A D)
    (hKa : ∀ (W : World) (o : Obj), Kp W (W.alloc o)) (hKb : ∀ (W : World) (l : Nat) (o o' : Obj), w.heap.size ≤ l → W.heap[l]? = some o → o.isCells = false → Kp W (W.putObj l o')) (hps : ∀ x, (enc x).size = ps.size)
    (I : List α → World → Prop) (hI : ∀ p A B, I p A → Frm (fun k => w.heap.size ≤ k) A B → I p B)
    (h0 : I [] w) (ob : α → Obj) (upd : α → Nat → Array Value → Array Value)
    (hassign : ∀ (l : Nat) (x : α) (W : World) (K : Act → World → Prop), K { tmps := upd x W.heap.size a.tmps, defers := [] } (W.alloc (ob x)) → assign.wpIn (Fence.wide.inRound l) (n - 1 - 1) P (Exit.then K (fun _ _ _ => False)) { tmps := (ps.zip (enc x)).foldl (fun t (p, v) => t.setIfInBounds p v) a.tmps, defers := [] } W)
    (hbody : ∀ (l : Nat) (p : List α) (x : α) (m : Nat) (W : World), I p W → Pre (p ++ [x]) → W.heap[m]? = some (ob x) → w.heap.size + 2 ≤ m → body.wpIn (Fence.wide.inRound l) (n - 1 - 1) P (ownPostG w.heap.size Kp I (fun _ _ _ => False) (p ++ [x]) W) { tmps := upd x m a.tmps, defers := [] } W)
    (hend : ∀ (D : Nat) (q : List α) (W : World), w.heap.size ≤ D → S q → I q W → W.heap[D]? = some (.deferred (some [])) → Q .normal { a with defers := { target := .collected D, args := #[] } :: a.defers } W) :
    (Code.rangeFunc g ps assign body).wp P Q a w := by
  refine (wpIn_wide (n := n)).1 ?_
  exact range_upd hn hg eg hseq hKt hKa hKb hps I (fun _ _ _ => False)
    (fun p A B row h hg hr => hI p A B h (Frm.grown (Frm.refl _ A) hg (fun k e => Or.inr (hr k e).1)))
    (fun c p A B row h hg hr => h)
    (fun p A B h hf => hI p A B h (Frm.mono hf (fun k _ e => by omega)))
    (fun c p A B h hf => h)
    h0 ob upd hassign hbody hend (fun D c p W hD hs h hK => h.elim)
end Go.Proofs.Ytccbmmbcfcppeaa
