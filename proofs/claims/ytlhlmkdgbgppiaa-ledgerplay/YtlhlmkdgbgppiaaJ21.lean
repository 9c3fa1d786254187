/- The law's world once one of them is put aside. -/
import Derived.Test.YtlhlmkdgbgppiaaG5
namespace Go.Proofs.Ytlhlmkdgbgppiaa
open Go.RowKit Go.Shelf Go.Maps

/-- One is put aside, its copy goes on. -/
def putF (f : Nat → Bk) (i n rb' : Nat) (y : Lx) : Nat → Bk := fun j => if j = n + 2 then ⟨(f i).x, rb', (f i).D, (f i).B, (f i).P⟩ else if j = i then ⟨y, (f i).rb, (f i).D, (f i).B, (f i).P⟩ else f j
theorem putF_new (f : Nat → Bk) (i n rb' : Nat) (y : Lx) : putF f i n rb' y (n + 2) = ⟨(f i).x, rb', (f i).D, (f i).B, (f i).P⟩ := by simp [putF]
theorem putF_cur (f : Nat → Bk) {i n : Nat} (rb' : Nat) (y : Lx) (hi : i < n + 2) : putF f i n rb' y i = ⟨y, (f i).rb, (f i).D, (f i).B, (f i).P⟩ := by
  unfold putF
  rw [if_neg (by omega), if_pos rfl]
theorem putF_old (f : Nat → Bk) {i n j : Nat} (rb' : Nat) (y : Lx) (hj : j < n + 2) (hji : j ≠ i) : putF f i n rb' y j = f j := by
  unfold putF
  rw [if_neg (by omega), if_neg hji]
theorem ptrsF_put (f : Nat → Bk) {i n : Nat} (rb' : Nat) (y : Lx) (hi : i < 2) : ptrsF (putF f i n rb' y) (n + 1) = ptrsF f n ++ [(f i).x.ptr] := by
  unfold ptrsF
  rw [List.range_succ, List.map_append, List.map_cons, List.map_nil, putF_new]
  congr 1
  refine List.map_congr_left (fun j hj => ?_)
  rw [putF_old f rb' y (by have := List.mem_range.1 hj; omega) (by omega)]
theorem refsF_put (f : Nat → Bk) {i n : Nat} (rb' : Nat) (y : Lx) (hi : i < 2) : refsF (putF f i n rb' y) (n + 1) = refsF f n ++ [.pointer (some ⟨rb', 0, none⟩)] := by
  unfold refsF
  rw [List.range_succ, List.map_append, List.map_cons, List.map_nil, putF_new]
  congr 1
  refine List.map_congr_left (fun j hj => ?_)
  rw [putF_old f rb' y (by have := List.mem_range.1 hj; omega) (by omega)]

theorem St.copied {w W : World} {B0 : World} {wb : Nat} {f : Nat → Bk} {n m : Nat} {lv dv lv' dv' : Value} (h : St w B0 wb f n m lv dv) {i rb' : Nat} {y : Lx} (hi : i < 2)
    (hblk : W.heap[wb]? = some (.cells #[(putF f i n rb' y 0).x.ptr, (putF f i n rb' y 1).x.ptr, (putF f i n rb' y 0).ref, (putF f i n rb' y 1).ref, lv', dv'] 31 (0, 0)))
    (hl : W.ownsRow B0.heap.size 24 1 lv' (n + 1) (ptrsF f n ++ [(f i).x.ptr])) (hd : W.ownsRow B0.heap.size 26 1 dv' (n + 1) (refsF f n ++ [.pointer (some ⟨rb', 0, none⟩)]))
    (hold : ∀ j, j < n + 2 → BkOk W (f j)) (h1 : BkOk W ⟨(f i).x, rb', (f i).D, (f i).B, (f i).P⟩) (h2 : BkOk W ⟨y, (f i).rb, (f i).D, (f i).B, (f i).P⟩) (hp : y.P = (f i).x.P)
    (hy : ∀ b, y.all b → w.heap.size ≤ b ∧ b ≠ rb' ∧ lv'.ownBlock ≠ some b ∧ dv'.ownBlock ≠ some b) (hr : w.heap.size ≤ rb' ∧ lv'.ownBlock ≠ some rb' ∧ dv'.ownBlock ≠ some rb')
    (hlv : ∀ b, lv'.ownBlock = some b → lv.ownBlock = some b ∨ w.heap.size ≤ b) (hdv : ∀ b, dv'.ownBlock = some b → dv.ownBlock = some b ∨ w.heap.size ≤ b) (hbs : Old B0 W) :
    St W B0 wb (putF f i n rb' y) (n + 1) m lv' dv' := by
  have hin : i < n + 2 := by omega
  have hlt : ∀ j, j < n + 2 → ∀ b, (f j).own b → b < w.heap.size := fun j hj b hb => (h.ok j hj).lt hb
  have hwb := blk_lt h.blk
  have hall : ∀ j, j < n + 1 + 2 → j = n + 2 ∨ j = i ∨ (j < n + 2 ∧ j ≠ i) := fun j hj => by omega
  have oldsep : ∀ j, j < n + 2 → ∀ b, (f j).own b → b ≠ wb ∧ lv'.ownBlock ≠ some b ∧ dv'.ownBlock ≠ some b := fun j hj b hb => by
    have h3 := h.sep j hj b hb
    have h4 := hlt j hj b hb
    refine ⟨h3.1, fun e => ?_, fun e => ?_⟩
    · rcases hlv b e with h5 | h5
      · exact h3.2.1 h5
      · omega
    · rcases hdv b e with h5 | h5
      · exact h3.2.2 h5
      · omega
  have ownN : ∀ b, (⟨(f i).x, rb', (f i).D, (f i).B, (f i).P⟩ : Bk).own b → (f i).own b ∨ b = rb' := fun b hb => by
    rcases hb with hb | hb | hb
    · exact Or.inl (Or.inl hb)
    · exact Or.inr hb
    · exact Or.inl (Or.inr (Or.inr hb))
  have ownC : ∀ b, (⟨y, (f i).rb, (f i).D, (f i).B, (f i).P⟩ : Bk).own b → (f i).own b ∨ y.all b := fun b hb => by
    rcases hb with hb | hb | hb
    · exact Or.inr hb
    · exact Or.inl (Or.inr (Or.inl hb))
    · exact Or.inl (Or.inr (Or.inr hb))
  have mutN : ∀ b, (⟨(f i).x, rb', (f i).D, (f i).B, (f i).P⟩ : Bk).mut b → (f i).mut b ∨ b = rb' := fun b hb => hb.elim (fun e => Or.inl (Or.inl e)) Or.inr
  have mutC : ∀ b, (⟨y, (f i).rb, (f i).D, (f i).B, (f i).P⟩ : Bk).mut b → (f i).mut b ∨ y.all b := fun b hb => hb.elim Or.inr (fun e => Or.inl (Or.inr e))
  have m2o : ∀ j, ∀ b, (f j).mut b → (f j).own b := fun j b hb => hb.elim Or.inl (fun e => Or.inr (Or.inl e))
  have sx := (h.ok i hin).sx
  have dl := (h.ok i hin).dl
  refine ⟨hblk, by rw [ptrsF_put f rb' y hi]; exact hl, by rw [refsF_put f rb' y hi]; exact hd, fun j hj => ?_, fun a b ha hb hab => ?_, fun j hj b hb => ?_, fun j hj => ?_, hbs, fun j hj b hb => ?_, h.wb0⟩
  · rcases hall j hj with rfl | rfl | ⟨h3, h4⟩
    · rw [putF_new]; exact h1
    · rw [putF_cur f rb' y hin]; exact h2
    · rw [putF_old f rb' y h3 h4]; exact hold j h3
  · rcases hall a ha with rfl | rfl | ⟨a1, a2⟩ <;> rcases hall b hb with rfl | rfl | ⟨b1, b2⟩
    · exact absurd rfl hab
    · rw [putF_new, putF_cur f rb' y hin]
      intro q hq ho
      rcases hq with hq | hq
      · have hs := hlt b hin q (Or.inl hq)
        rcases ho with ho | ho | ho
        · have := (hy q ho).1; omega
        · exact (sx q hq).1 ho
        · exact (sx q hq).2 ho
      · have hq' : q = rb' := hq
        rcases ownC q ho with ho | ho
        · have := hlt b hin q ho; omega
        · exact (hy q ho).2.1 hq'
    · rw [putF_new, putF_old f rb' y b1 b2]
      intro q hq ho
      rcases mutN q hq with hq | hq
      · exact h.ap i b hin b1 (fun e => b2 e.symm) q hq ho
      · have := hlt b b1 q ho; omega
    · rw [putF_cur f rb' y hin, putF_new]
      intro q hq ho
      rcases hq with hq | hq
      · have h5 := hy q hq
        rcases ownN q ho with ho | ho
        · have := hlt a hin q ho; omega
        · exact h5.2.1 ho
      · have hq' : q = (f a).rb := hq
        have h6 := hlt a hin q (Or.inr (Or.inl hq'))
        rcases ho with ho | ho | ho
        · exact (sx q ho).1 hq'
        · have ho' : q = rb' := ho
          omega
        · exact (dl q ho).1 hq'
    · exact absurd rfl hab
    · rw [putF_cur f rb' y hin, putF_old f rb' y b1 b2]
      intro q hq ho
      rcases mutC q hq with hq | hq
      · exact h.ap a b hin b1 (fun e => b2 e.symm) q hq ho
      · have := hlt b b1 q ho
        have := (hy q hq).1
        omega
    · rw [putF_old f rb' y a1 a2, putF_new]
      intro q hq ho
      rcases ownN q ho with ho | ho
      · exact h.ap a i a1 hin a2 q hq ho
      · have := hlt a a1 q (m2o a q hq); omega
    · rw [putF_old f rb' y a1 a2, putF_cur f rb' y hin]
      intro q hq ho
      rcases ownC q ho with ho | ho
      · exact h.ap a b a1 hin a2 q hq ho
      · have := hlt a a1 q (m2o a q hq)
        have := (hy q ho).1
        omega
    · rw [putF_old f rb' y a1 a2, putF_old f rb' y b1 b2]
      exact h.ap a b a1 b1 hab
  · rcases hall j hj with rfl | rfl | ⟨h3, h4⟩
    · rw [putF_new] at hb
      rcases ownN b hb with hb | hb
      · exact oldsep i hin b hb
      · subst hb
        exact ⟨by omega, hr.2.1, hr.2.2⟩
    · rw [putF_cur f rb' y hin] at hb
      rcases ownC b hb with hb | hb
      · exact oldsep j hin b hb
      · have h5 := hy b hb
        exact ⟨by omega, h5.2.2.1, h5.2.2.2⟩
    · rw [putF_old f rb' y h3 h4] at hb
      exact oldsep j h3 b hb
  · rcases hall j hj with rfl | rfl | ⟨h3, h4⟩
    · rw [putF_new]; exact h.pl i hin
    · rw [putF_cur f rb' y hin]
      show y.P.length ≤ m
      rw [hp]
      exact h.pl j hin
    · rw [putF_old f rb' y h3 h4]; exact h.pl j h3
  · have hb0 := h.b0
    rcases hall j hj with rfl | rfl | ⟨h3, h4⟩
    · rw [putF_new] at hb
      rcases mutN b hb with hb | hb
      · exact h.hi i hin b hb
      · have := hr.1
        omega
    · rw [putF_cur f rb' y hin] at hb
      rcases mutC b hb with hb | hb
      · exact h.hi j hin b hb
      · have := (hy b hb).1
        omega
    · rw [putF_old f rb' y h3 h4] at hb
      exact h.hi j h3 b hb
end Go.Proofs.Ytlhlmkdgbgppiaa

/- Steps of the law's: a copy goes on, none is put aside. -/
namespace Go.Proofs.Ytlhlmkdgbgppiaa
open Go.RowKit Go.Lib Go.Shelf Go.Maps
attribute [local go_sem] Oper.semAt_some

theorem St.turned {w W : World} {B0 : World} {wb : Nat} {f : Nat → Bk} {n m : Nat} {lv dv : Value} (h : St w B0 wb f n m lv dv) {i : Nat} {y : Lx} (hi : i < 2)
    (hf : Frm (fun b => b = wb) w W)
    (hblk : W.heap[wb]? = some (.cells #[(updF f i ⟨y, (f i).rb, (f i).D, (f i).B, (f i).P⟩ 0).x.ptr, (updF f i ⟨y, (f i).rb, (f i).D, (f i).B, (f i).P⟩ 1).x.ptr, (updF f i ⟨y, (f i).rb, (f i).D, (f i).B, (f i).P⟩ 0).ref, (updF f i ⟨y, (f i).rb, (f i).D, (f i).B, (f i).P⟩ 1).ref, lv, dv] 31 (0, 0)))
    (h2 : BkOk W ⟨y, (f i).rb, (f i).D, (f i).B, (f i).P⟩) (hp : y.P = (f i).x.P) (hy : New w.heap.size y) : St W B0 wb (updF f i ⟨y, (f i).rb, (f i).D, (f i).B, (f i).P⟩) n m lv dv := by
  have hin : i < n + 2 := by omega
  have hlt : ∀ j, j < n + 2 → ∀ b, (f j).own b → b < w.heap.size := fun j hj b hb => (h.ok j hj).lt hb
  have hwb := blk_lt h.blk
  have ownC : ∀ b, (⟨y, (f i).rb, (f i).D, (f i).B, (f i).P⟩ : Bk).own b → (f i).own b ∨ y.all b := fun b hb => by
    rcases hb with hb | hb | hb
    · exact Or.inr hb
    · exact Or.inl (Or.inr (Or.inl hb))
    · exact Or.inl (Or.inr (Or.inr hb))
  have mutC : ∀ b, (⟨y, (f i).rb, (f i).D, (f i).B, (f i).P⟩ : Bk).mut b → (f i).mut b ∨ y.all b := fun b hb => hb.elim Or.inr (fun e => Or.inl (Or.inr e))
  have m2o : ∀ j, ∀ b, (f j).mut b → (f j).own b := fun j b hb => hb.elim Or.inl (fun e => Or.inr (Or.inl e))
  have hN : NotP w (fun b => b = wb) := fun q arr z hq e => by
    have e' : q = wb := e
    rw [e', h.blk] at hq
    simp at hq
  have hrow : ∀ {t : TypeId} {v : Value} {xs : List Value}, t ≠ 31 → w.ownsRow B0.heap.size t 1 v n xs → W.ownsRow B0.heap.size t 1 v n xs := fun ht hr => owns_kept hr (fun b hb => hf.block b (hr.lt b hb).2 (fun e => by
    obtain ⟨cur, hc⟩ := owns_block hr hb
    have e' : b = wb := e
    rw [e', h.blk] at hc
    simp at hc
    exact ht hc.2.symm))
  have e1 : ptrsF (updF f i ⟨y, (f i).rb, (f i).D, (f i).B, (f i).P⟩) n = ptrsF f n := List.map_congr_left (fun j _ => by rw [updF_ne (by omega)])
  have e2 : refsF (updF f i ⟨y, (f i).rb, (f i).D, (f i).B, (f i).P⟩) n = refsF f n := List.map_congr_left (fun j _ => by rw [updF_ne (by omega)])
  refine ⟨hblk, by rw [e1]; exact hrow (by decide) h.lrow, by rw [e2]; exact hrow (by decide) h.drow, fun j hj => ?_, fun a b ha hb hab => ?_, fun j hj b hb => ?_, fun j hj => ?_, Frm.trans h.base hf (fun b hb e => by have e9 : b = wb := e; have := h.wb0; omega), fun j hj b hb => ?_, h.wb0⟩
  · by_cases e : j = i
    · subst e
      rw [updF_same]
      exact h2
    · rw [updF_ne e]
      exact (h.ok j hj).frm hf (fun b hb e3 => (h.sep j hj b hb).1 e3) hN
  · by_cases ea : a = i
    · subst ea
      rw [updF_same, updF_ne (fun e => hab e.symm)]
      intro q hq ho
      rcases mutC q hq with hq | hq
      · exact h.ap a b ha hb hab q hq ho
      · have := hlt b hb q ho
        have := hy q hq
        omega
    · rw [updF_ne ea]
      by_cases eb : b = i
      · subst eb
        rw [updF_same]
        intro q hq ho
        rcases ownC q ho with ho | ho
        · exact h.ap a b ha hb hab q hq ho
        · have := hlt a ha q (m2o a q hq)
          have := hy q ho
          omega
      · rw [updF_ne eb]
        exact h.ap a b ha hb hab
  · by_cases e : j = i
    · subst e
      rw [updF_same] at hb
      rcases ownC b hb with hb | hb
      · exact h.sep j hj b hb
      · have h5 := hy b hb
        exact ⟨by omega, fun e => by have := (h.lrow.lt b e).2; omega, fun e => by have := (h.drow.lt b e).2; omega⟩
    · rw [updF_ne e] at hb
      exact h.sep j hj b hb
  · by_cases e : j = i
    · subst e
      rw [updF_same]
      show y.P.length ≤ m
      rw [hp]
      exact h.pl j hj
    · rw [updF_ne e]
      exact h.pl j hj
  · by_cases e : j = i
    · subst e
      rw [updF_same] at hb
      rcases mutC b hb with hb | hb
      · exact h.hi j hj b hb
      · exact Nat.le_trans h.b0 (hy b hb)
    · rw [updF_ne e] at hb
      exact h.hi j hj b hb
end Go.Proofs.Ytlhlmkdgbgppiaa
