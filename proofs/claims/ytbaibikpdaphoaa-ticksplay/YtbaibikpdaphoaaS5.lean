/- The dues of a list, told one after another. -/
import Derived.Test.YtbaibikpdaphoaaN2
import Derived.Test.YtbaibikpdaphoaaD6
import Derived.Test.YtbaibikpdaphoaaS4
namespace Go.Proofs.Ytbaibikpdaphoaa
open Go.RowKit Go.Lib Go.Shelf
attribute [local go_sem] Oper.semAt_some

theorem DueC.same {w w' : World} {g o : Nat} {L : List Due} (h : DueC w (some ⟨g, o, none⟩) L) (hf : w'.heap[g]? = w.heap[g]?) : DueC w' (some ⟨g, o, none⟩) L := by
  intro i hi
  obtain ⟨b, p, e, h1, h2⟩ := h i hi
  cases e
  refine ⟨g, o, rfl, ?_, ?_⟩
  · rw [← h1]; exact World.cell?_of_block hf
  · rw [← h2]; exact World.cell?_of_block hf

set_option maxRecDepth 100000 in
set_option maxHeartbeats 2000000 in
theorem values_good (d : Nat) (hd : 1 ≤ d) (l B g c : Nat) (R : List Due) (hl : R.length ≤ 1000000000) (Kp : World → World → Prop) (hKg : ∀ A C, Kp A C → C.heap[g]? = A.heap[g]?) (J Jx : List Due → World → Prop)
    (hY : ∀ pre x W1, J pre W1 → pre.length < R.length → x ∈ R → YieldAt Fence.wide (d - 1) Try.prog l #[.agg #[.int .i64 x.1, .int .i64 x.2]] W1 fun e W' =>
      (e = .returned (.bool true) ∧ J (pre ++ [x]) W' ∧ Kp W1 W') ∨ (e = .returned (.bool false) ∧ Jx (pre ++ [x]) W'))
    (W : World) (hB : W.cell? ⟨B, 0, none⟩ = some (.slice (some ⟨g, 0, none⟩) R.length c)) (hD : DueC W (some ⟨g, 0, none⟩) R) (hJ : AbidesFrom W.heap.size J) (h0 : J [] W) :
    CallsIn Fence.wide d Try.prog 48 #[.func (.yield l) #[] #[], .pointer (some ⟨B, 0, none⟩)] W fun e W' => (∃ v, e = .returned v) ∧
      ((∃ ys, ys = R ∧ J ys W') ∨ (∃ pre, (∃ k, k ≤ R.length ∧ pre = R.take k) ∧ Jx pre W')) := by
  obtain ⟨n, hn⟩ : ∃ n, R.length = n := ⟨_, rfl⟩
  rw [hn] at hB hl hY
  refine callsIn_of_wp Try.func48 rfl trivial ?_ rfl
  simp only [Try.ntmps48, List.size_toArray, List.length_cons, List.length_nil, Nat.reduceAdd, Nat.reduceSub, Array.replicate_succ, Array.replicate_zero, List.push_toArray, List.append_toArray, List.nil_append, List.cons_append]
  gi_wp2
  gi_loopw [7] (fun i wr => ∃ k : Nat, k ≤ n ∧ i = .int .i64 k ∧ J (R.take k) wr ∧ DueC wr (some ⟨g, 0, none⟩) R)
    (fun i _ => n - (intOf i).toNat)
  case atStart => exact ⟨0, Nat.zero_le _, rfl, h0, hD⟩
  case round =>
    obtain ⟨k, hk, rfl, hJs, hDs⟩ := hrel
    by_cases hlt : k < n
    · obtain ⟨b, o, he, c0, c1⟩ := hDs k (by omega)
      cases he
      rw [show 0 + 2 * k = k * 2 by omega] at c0 c1
      have hO : Old wr (wr.alloc (.cells #[.int .i64 (at' R k).1, .int .i64 (at' R k).2] 26)) := (Old.refl wr).alloc _
      have hJa : J (R.take k) (wr.alloc (.cells #[.int .i64 (at' R k).1, .int .i64 (at' R k).2] 26)) := hJ _ _ _ none hJs ⟨rfl, rfl, rfl, hO.size, fun i hi _ => hO.block i hi (fun h => h)⟩ (fun _ e => by cases e)
      have hDa := hDs.old hO
      obtain ⟨fn, tmps, assign, body, hy, hR⟩ := hY _ ((at' R k).1, (at' R k).2) _ hJa (by rw [List.length_take]; omega) (by rw [at_eq (show k < R.length by omega)]; exact List.getElem_mem _)
      have hta := hid (take_due (L := R) (k := k) (by omega))
      dsimp only at hy
      generalize (at' R k).1 = x0 at *
      generalize (at' R k).2 = x1 at *
      gi_wp2
      refine hR.mono ?_
      rintro e W3 (⟨rfl, hJ3, hb3⟩ | ⟨rfl, hJx3⟩)
      · have hD3 := hid (hDa.same (hKg _ _ hb3))
        gi_wp2
        go_roundw
        case rel => exact ⟨k + 1, by omega, by simp, by rw [hta.out]; exact hJ3, hD3.out⟩
        case measure => simp [intOf]; omega
      · gi_wp2
        refine bodyPost_ret (results_none rfl _ _ _) rfl ?_
        exact ⟨⟨_, rfl⟩, .inr ⟨_, ⟨k + 1, by omega, hta.out.symm⟩, hJx3⟩⟩
    · obtain rfl : k = n := by omega
      gi_wp2
      go_end0
      exact ⟨⟨_, rfl⟩, .inl ⟨_, rfl, by rw [← hn, List.take_length] at hJs; exact hJs⟩⟩
end Go.Proofs.Ytbaibikpdaphoaa
