/- A walk, as plain words; what another one's step leaves of an op under way. -/
import Derived.Test.YtpnnfkgnkalhlaaK44
namespace Go.Proofs.Ytpnnfkgnkalhlaa
open Go.RowKit Go.Lib Go.Maps

theorem Box2.retag {w : World} {τ τ' : Nat → Nat} {t mm : Nat} {x v : Int} {bm bs bx : Nat} (h : Box2 w τ t mm x v bm bs bx) (ht : ∀ k, k < w.heap.size → τ' k = τ k) : Box2 w τ' t mm x v bm bs bx :=
  ⟨h.c0, h.c1, h.c2, by rw [ht _ (World.block_lt_of_cell? w ⟨bm, 0, none⟩ h.c0), ht _ (Array.getElem?_eq_some_iff.1 h.c1).1, ht _ (World.block_lt_of_cell? w ⟨bx, 0, none⟩ h.c2)]; exact h.tg, h.ne⟩
theorem Box5.retag {w : World} {τ τ' : Nat → Nat} {t tm : Nat} {v : Int} {bm bs : Nat} (h : Box5 w τ t tm v bm bs) (ht : ∀ k, k < w.heap.size → τ' k = τ k) : Box5 w τ' t tm v bm bs :=
  ⟨h.c0, h.c1, by rw [ht _ (World.block_lt_of_cell? w ⟨bm, 0, none⟩ h.c0), ht _ (Array.getElem?_eq_some_iff.1 h.c1).1]; exact h.tg, h.ne⟩
theorem Box3.retag {w : World} {τ τ' : Nat → Nat} {t qm : Nat} {wk x : Int} {r : Option Addr} {o : Option (Int × Int)} {bm bs bx bo ob : Nat} (h : Box3 w τ t qm wk x r o bm bs bx bo ob) (ht : ∀ k, k < w.heap.size → τ' k = τ k) : Box3 w τ' t qm wk x r o bm bs bx bo ob :=
  ⟨h.c0, h.c1, h.c2, h.c3, h.c4, h.sv, by rw [ht _ (World.block_lt_of_cell? w ⟨bm, 0, none⟩ h.c0), ht _ (Array.getElem?_eq_some_iff.1 h.c1).1, ht _ (World.block_lt_of_cell? w ⟨bx, 0, none⟩ h.c2), ht _ (World.block_lt_of_cell? w ⟨bo, 0, none⟩ h.c3), ht _ (Array.getElem?_eq_some_iff.1 h.c4).1]; exact h.tg, fun a ha => by rw [ht _ (h.sv.lt a ha)]; exact h.t7 a ha, h.ne⟩

theorem OffV.inj {w : World} {r : Option Addr} {o o' : Option (Int × Int)} (h : OffV w r o) (k : OffV w r o') : o = o' := by
  cases o with
  | none =>
    have h0 : r = none := h
    cases o' with
    | none => rfl
    | some v => obtain ⟨ob, h1, _⟩ := k; rw [h0] at h1; cases h1
  | some u =>
    obtain ⟨ob, h1, h2⟩ := h
    cases o' with
    | none => have k0 : r = none := k; rw [k0] at h1; cases h1
    | some v =>
      obtain ⟨ob', k1, k2⟩ := k
      rw [h1] at k1
      cases k1
      rw [h2] at k2
      simp at k2
      exact congrArg some (Prod.ext k2.1 k2.2)

/-- What another one's step leaves of an op under way. -/
theorem Und.keep {w w' : World} {τ τ' : Nat → Nat} {S : Nat → Prop} {B : Names} {t wk : Nat} {kd x : Int} {p p' : Option Addr} {s s' : St} {sn : Sn} {l pv : Value} (h : Und w τ B t wk kd x p s sn l pv) (f : Frm S w w') (hS : ∀ k, S k → k < w.heap.size → τ k ≠ t ∧ τ k ≠ 7) (hr : ∀ k, k < w.heap.size → τ' k = τ k) (hts : s'.ts = s.ts) (hb : (p' = p ∧ s'.bs = s.bs) ∨ Btr s'.bs s.bs) (hv : OffV w' p' s'.bs) : Und w' τ' B t wk kd x p' s' sn l pv := by
  have hr' : ∀ k, k < w.heap.size → τ' k = τ k := hr
  rcases h with ⟨rfl, e0, bm, bs, bx, rfl, rfl, b⟩ | ⟨rfl, e0, bm, bs, bx, bo, ob, r, rfl, rfl, b, hx, hq⟩ | ⟨rfl, e0, lt, l0, bm, bs, rfl, rfl, b⟩
  · exact Or.inl ⟨rfl, e0, bm, bs, bx, rfl, rfl, (b.retag hr).frm f (fun k hk hl => by rw [hr k hl]; exact (hS k hk hl).1)⟩
  · have b' : Box3 w' τ' t B.qm wk x r sn.2 bm bs bx bo ob := (b.retag hr).frm f (fun k hk hl => by rw [hr k hl]; exact hS k hk hl)
    refine Or.inr (Or.inl ⟨rfl, e0, bm, bs, bx, bo, ob, r, rfl, rfl, b', hx, ?_⟩)
    rcases hb with ⟨rfl, hb⟩ | hb
    · rw [hb]; exact hq
    · have hbb : Btr s'.bs sn.2 := by
        rcases hq with ⟨_, hq⟩ | ⟨_, hq⟩
        · rw [hq]; exact hb
        · exact hb.trans hq
      refine Or.inr ⟨fun e => ?_, hbb⟩
      rw [e] at b'
      rw [b'.sv.inj hv] at hbb
      exact hbb.irrefl
  · exact Or.inr (Or.inr ⟨rfl, e0, by rw [hts]; exact lt, l0, bm, bs, rfl, rfl, (b.retag hr).frm f (fun k hk hl => by rw [hr k hl]; exact (hS k hk hl).1)⟩)

/-- The worker that is picked. -/
def pickOf (pk : Int) (n : Nat) : Nat := (pk % n).toNat

theorem mod_pick (x : Int) (n : Nat) (h1 : 1 ≤ n) (h2 : n ≤ 64) : (wrap64 (x.tmod n + n)).tmod n = (pickOf x n : Int) := by
  have a1 := Int.tmod_lt_of_pos x (show (0 : Int) < n by omega)
  have a2 := Int.lt_tmod_of_pos x (show (0 : Int) < n by omega)
  have a3 := Int.mul_tdiv_add_tmod x n
  have a4 := Int.emod_nonneg x (show (n : Int) ≠ 0 by omega)
  have e1 : wrap64 (x.tmod n + n) = x.tmod n + n := by unfold wrap64; omega
  rw [e1, Int.tmod_eq_emod_of_nonneg (by omega), Int.add_emod_right]
  have e2 : x % n = x.tmod n % n := by
    conv => lhs; rw [← a3]
    rw [Int.add_comm, Int.add_mul_emod_self_left]
  unfold pickOf
  rw [← e2]
  omega

set_option maxRecDepth 100000 in
theorem modulo_any (x : Int) (n : Nat) (h1 : 1 ≤ n) (h2 : n ≤ 64) (w : World) : Calls Try.prog 43 #[.int .i64 x, .int .i64 n] w fun e w' => e = .returned (.int .i64 (pickOf x n : Int)) ∧ w' = w := by
  have hn0 : (n : Int) ≠ 0 := by omega
  have hnz : ((n : Int) == 0) = false := by simp; omega
  go_enter Try.func43, Try.ntmps43
  go_wp2
  go_ret
  exact ⟨by rw [mod_pick x n h1 h2]; rfl, rfl⟩

/-- Where a walk stands: what stands, what each has looked at, what each was answered. -/
structure WSt where
  s : St
  sn : Nat → Option Sn
  out : Nat → List (Int × Bool × Int)

def setAt {α : Type} (f : Nat → α) (k : Nat) (v : α) : Nat → α := fun j => if j = k then v else f j

/-- One pick. -/
def walkStep (O : List (List (Int × Int))) (W : WSt) (i : Nat) (pk : Int) : WSt :=
  let w := pickOf pk O.length
  if (W.out w).length = (O[w]?.getD []).length then W
  else
    let op := (O[w]?.getD [])[(W.out w).length]?.getD (0, 0)
    let R := stepS W.s w op.1 op.2 (W.sn w)
    match R.2.2 with
    | some a => ⟨R.1, setAt W.sn w none, setAt W.out w (W.out w ++ [(a.1, a.2, (i : Int))])⟩
    | none => ⟨R.1, setAt W.sn w R.2.1, W.out⟩

/-- The first k picks. -/
def walkTo (O : List (List (Int × Int))) (P : List Int) (W : WSt) : Nat → WSt
  | 0 => W
  | k + 1 => walkStep O (walkTo O P W k) k (P[k]?.getD 0)

/-- Answers, as cells. -/
def flatA : List (Int × Bool × Int) → List Value := fun l => l.flatMap fun a => [.int .i64 a.1, .bool a.2.1, .int .i64 a.2.2]
end Go.Proofs.Ytpnnfkgnkalhlaa
