/- What Open and Back come to, whatever is handed in. -/
import Derived.Test.YtlhlmkdgbgppiaaHA
import Derived.Test.YtlhlmkdgbgppiaaLM2
namespace Go.Proofs.Ytlhlmkdgbgppiaa
open Go.RowKit Go.Shelf Go.Maps

/-- A ledger that goes on. -/
structure Goes (w : World) (x y : Lx) : Prop where
  lb : y.lb = x.lb
  all : ∀ k, y.all k → x.all k ∨ w.heap.size ≤ k
theorem Goes.refl (w : World) (x : Lx) : Goes w x x := ⟨rfl, fun _ h => Or.inl h⟩
theorem New.goes {B : Nat} {w : World} {x y : Lx} (h : New B x) (g : Goes w x y) (hB : B ≤ w.heap.size) : New B y := fun k hk => by
  rcases g.all k hk with h1 | h1
  · exact h k h1
  · omega
theorem goes_posted {w : World} {x : Lx} {q : List En} {v : Value} (hv : ∀ k, v.ownBlock = some k → x.pv.ownBlock = some k ∨ w.heap.size ≤ k) : Goes w x (x.posted q v) := ⟨rfl, fun k hk => by
  rcases hk with hk | hk | hk | hk | hk | hk | hk | hk
  · exact Or.inl (Or.inl hk)
  · exact Or.inl (Or.inr (Or.inl hk))
  · exact Or.inl (Or.inr (Or.inr (Or.inl hk)))
  · exact Or.inl (Or.inr (Or.inr (Or.inr (Or.inl hk))))
  · exact Or.inl (Or.inr (Or.inr (Or.inr (Or.inr (Or.inl hk)))))
  · exact Or.inl (Or.inr (Or.inr (Or.inr (Or.inr (Or.inr (Or.inl hk))))))
  · exact Or.inl (Or.inr (Or.inr (Or.inr (Or.inr (Or.inr (Or.inr (Or.inl hk)))))))
  · rcases hv k hk with h1 | h1
    · exact Or.inl (Or.inr (Or.inr (Or.inr (Or.inr (Or.inr (Or.inr (Or.inr h1)))))))
    · exact Or.inr h1⟩
theorem goes_opened {w : World} {x : Lx} {n : List UInt8} {b : Int} {v : Value} (hv : ∀ k, v.ownBlock = some k → x.v.ownBlock = some k ∨ w.heap.size ≤ k) : Goes w x (x.opened n b v) := ⟨rfl, fun k hk => by
  rcases hk with hk | hk | hk | hk | hk | hk | hk | hk
  · exact Or.inl (Or.inl hk)
  · exact Or.inl (Or.inr (Or.inl hk))
  · exact Or.inl (Or.inr (Or.inr (Or.inl hk)))
  · exact Or.inl (Or.inr (Or.inr (Or.inr (Or.inl hk))))
  · exact Or.inl (Or.inr (Or.inr (Or.inr (Or.inr (Or.inl hk)))))
  · exact Or.inl (Or.inr (Or.inr (Or.inr (Or.inr (Or.inr (Or.inl hk))))))
  · rcases hv k hk with h1 | h1
    · exact Or.inl (Or.inr (Or.inr (Or.inr (Or.inr (Or.inr (Or.inr (Or.inl h1)))))))
    · exact Or.inr h1
  · exact Or.inl (Or.inr (Or.inr (Or.inr (Or.inr (Or.inr (Or.inr (Or.inr hk)))))))⟩

theorem open_both (x : Lx) (n : List UInt8) (b : Int) (w : World) (h : Ldg w x) (hk : OkL x) :
    Calls Try.prog 10 #[x.ptr, .string ⟨n.toArray⟩, .int .i64 b] w fun e w' => ∃ a r, e = .returned (.tuple #[.int .i64 a, .int .i64 r]) ∧ ∃ y : Lx, Ldg w' y ∧ OkL y ∧ Goes w x y ∧ y.P = x.P ∧ y.L.length ≤ x.L.length + 1 ∧ Frm x.own w w' := by
  by_cases hz : opnZ x.L n b = 0
  · refine (open_good x n b w h hk hz).mono ?_
    rintro e w' ⟨rfl, v', h1, h2, h3⟩
    exact ⟨_, _, rfl, x.opened n b v', h1, hk.opened hz, goes_opened h3, rfl, by simp [Lx.opened], h2⟩
  · refine (open_bad x n b w h hk hz).mono ?_
    rintro e w' ⟨rfl, o⟩
    exact ⟨_, _, rfl, x, h.old o, hk, Goes.refl w x, rfl, by omega, Frm.mono o (fun _ _ h => h.elim)⟩

theorem bk_is (x : Lx) (q : List En) (pv : Value) : (x.posted q pv).bk x.P.length = negE (entsOf x.L q) := by
  unfold Lx.bk
  show negE (entsOf x.L ((x.P ++ [q]).getD x.P.length [])) = _
  rw [List.getD_eq_getElem?_getD, List.getElem?_append_right (Nat.le_refl _), Nat.sub_self]
  rfl

theorem back_both (x : Lx) (q : List En) (pv : Value) (w : World) (h : Ldg w (x.posted q pv)) (hk0 : OkL x) (hk : OkL (x.posted q pv)) (hq : OkP x.A.length q) (hP : x.P.length ≤ 1000) :
    Calls Try.prog 17 #[(x.posted q pv).ptr, .int .i64 (x.P.length : Int)] w fun e w' =>
      ((∃ a, e = .returned (.tuple #[.int .i64 a, .int .i64 0])) ∧ ∃ z : Lx, Ldg w' z ∧ OkL z ∧ Goes w (x.posted q pv) z ∧ z.A = x.A ∧ z.L = x.L ∧ z.P.length = x.P.length + 2 ∧ Frm (x.posted q pv).wrote w w') ∨
      (e = .returned (.tuple #[.int .i64 0, .int .i64 7]) ∧ Old w w') := by
  have hls : ∀ e ∈ q, e.1 < x.L.length := fun e he => by rw [hk0.len]; exact (hq.each e he).1
  have hml : ∀ e ∈ negE (entsOf x.L q), e.1.length ≤ maxLen := fun e he => by
    obtain ⟨y, hy, rfl⟩ := List.mem_map.1 he
    obtain ⟨z, hz, rfl⟩ := List.mem_map.1 hy
    have hc := hk0.chk (x.L.getD z.1 []) (by rw [getD_get (hls z hz)]; exact List.getElem_mem _)
    unfold chkZ at hc
    have : maxLen = 9223372036854775807 := rfl
    simp only
    split at hc <;> omega
  have hq2 : OkP (x.posted q pv).A.length q := by show OkP (postA x.A q).length q; rw [postA_len]; exact hq
  refine back_any (x.posted q pv) x.P.length w _ h hk (by simp [Lx.posted]) (fun W b oW hb hO => ?_)
  have hpl := back_plan hk hq2
  rw [bk_is] at hO ⊢
  rcases hpl with hz | hz
  · refine (post_good (x.posted q pv) (some ⟨b, 0, none⟩) (negE (entsOf x.L q)).length (negE (entsOf x.L q)) W (h.old oW) hk hO.esc hml (by simp [Lx.posted]; omega) hz).mono ?_
    rintro e w' ⟨rfl, pv', h1, h2, h3, h4⟩
    refine ⟨_, _, rfl, Or.inl ⟨⟨_, rfl⟩, _, h1, h2, goes_posted (fun k hk => ?_), ?_, rfl, ?_, Frm.trans (Frm.mono oW (fun _ _ h => h.elim)) h3 (fun _ _ h => h)⟩⟩
    · rcases h4 k hk with h5 | h5
      · exact Or.inl h5
      · exact Or.inr (by have := oW.size; omega)
    · show postA (postA x.A q) (planP x.L (negE (entsOf x.L q))) = x.A
      rw [plan_neg hk0.nd hls, post_back]
    · simp [Lx.posted]
  · have hb := post_bad (x.posted q pv) (some ⟨b, 0, none⟩) (negE (entsOf x.L q)).length (negE (entsOf x.L q)) W (h.old oW) hk hO.esc hml (by rw [show planZ (x.posted q pv).L (x.posted q pv).A (negE (entsOf x.L q)) = 7 from hz]; decide)
    rw [show planZ (x.posted q pv).L (x.posted q pv).A (negE (entsOf x.L q)) = 7 from hz] at hb
    refine hb.mono ?_
    rintro e w' ⟨rfl, o⟩
    exact ⟨_, _, rfl, Or.inr ⟨rfl, oW.trans o⟩⟩
end Go.Proofs.Ytlhlmkdgbgppiaa
