/- What All tells, for every body that keeps what lay below. -/
import Derived.Test.YtbaibikpdaphoaaS5
namespace Go.Proofs.Ytbaibikpdaphoaa
open Go.RowKit Go.Lib Go.Shelf

theorem told_stops (d : Nat) (hd : 1 ≤ d) (B : Nat) (v : Value) (R : List Due) (hl : R.length ≤ 1000000000) (w0 w : World) (hB : B < w.heap.size) (hc : w.cell? ⟨B, 0, none⟩ = some v) (hT : Told w0 w v R) (Kp : World → World → Prop) (hKg : ∀ A C, Kp A C → ∀ g, v.ownBlock = some g → C.heap[g]? = A.heap[g]?) :
    SeqStopsK Fence.wide d Try.prog 48 #[.pointer (some ⟨B, 0, none⟩)] (fun x : {x : Due // x ∈ R} => #[Value.agg #[.int .i64 x.1.1, .int .i64 x.1.2]]) Kp
      (fun ys => ys.map Subtype.val = R) (fun pre => ∃ k, k ≤ R.length ∧ pre.map Subtype.val = R.take k) R.length w := fun l J Jx W hW hJ _ hY h0 => by
  have hc' := (hW.cell (p := ⟨B, 0, none⟩) hB).trans hc
  rcases hT with ⟨rfl, rfl⟩ | ⟨g, c, rfl, _, hg, hD⟩
  · exact (values_none d l B W hc').mono fun e W' ⟨he, hw⟩ => ⟨he, .inl ⟨[], rfl, by rw [hw]; exact h0⟩⟩
  · refine (values_good d hd l B g c R hl Kp (fun A C h => hKg A C h g rfl) (fun pre W => ∃ p : List {x : Due // x ∈ R}, p.map Subtype.val = pre ∧ J p W) (fun pre W => ∃ p : List {x : Due // x ∈ R}, p.map Subtype.val = pre ∧ Jx p W) ?_ W hc' (hD.same (hW.block g hg)) ?_ ⟨[], rfl, h0⟩).mono ?_
    · rintro pre x W1 ⟨p, rfl, hj⟩ hlen hx
      obtain ⟨fn, tmps, assign, body, hy, hR⟩ := hY p ⟨x, hx⟩ W1 hj (by simpa using hlen)
      refine ⟨fn, tmps, assign, body, hy, hR.mono ?_⟩
      rintro e W' (⟨he, h1, h2⟩ | ⟨he, h1⟩)
      · exact .inl ⟨he, ⟨_, by simp, h1⟩, h2⟩
      · exact .inr ⟨he, ⟨_, by simp, h1⟩⟩
    · rintro s X Y row ⟨p, hp, hj⟩ hgr hr
      exact ⟨p, hp, hJ p X Y row hj hgr hr⟩
    · rintro e W' ⟨he, (⟨ys, rfl, p, hp, hj⟩ | ⟨pre, ⟨k, hk, hpre⟩, p, hp, hj⟩)⟩
      · exact ⟨he, .inl ⟨p, hp, hj⟩⟩
      · exact ⟨he, .inr ⟨p, ⟨k, hk, by rw [hp, hpre]⟩, hj⟩⟩
end Go.Proofs.Ytbaibikpdaphoaa
