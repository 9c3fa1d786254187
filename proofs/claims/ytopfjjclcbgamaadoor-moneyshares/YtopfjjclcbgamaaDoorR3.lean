/- The document's shares, walked. -/
import Derived.Test.YtopfjjclcbgamaaDoorR2
namespace Go.Proofs.YtopfjjclcbgamaaDoor
open Go.RowKit Go.Lib

/-- Two rows of their own, apart. -/
structure Two (w wr : World) (vo vr : Value) (A B : List Int) : Prop where
  old : Old w wr
  a : OwnL wr w.heap.size vo A
  b : OwnL wr w.heap.size vr B
  ap : ∀ g, vo.ownBlock = some g → vr.ownBlock ≠ some g

theorem Two.drewN {w wr : World} {vo vr : Value} {A B : List Int} (h : Two w wr vo vr A B) (n : Nat) : Two w (wr.drewN n) vo vr A B :=
  ⟨h.old.drewN n, h.a.kept ((Old.refl wr).drewN n) (fun _ _ h => h), h.b.kept ((Old.refl wr).drewN n) (fun _ _ h => h), h.ap⟩

theorem OwnL.alloc {w : World} {base : Nat} {v : Value} {L : List Int} (h : OwnL w base v L) (o : Obj) : OwnL (w.alloc o) base v L := h.kept ((Old.refl w).alloc o) (fun _ _ h => h)

/-- The first row grows. -/
theorem Two.left {w wr w1 : World} {vo vr : Value} {A B : List Int} {x : Int} {o : Obj} {g cap n : Nat} (h : Two w wr vo vr A B) (hn : A.length = n)
    (hown : w1.ownsRow w.heap.size 2 1 (.slice (some ⟨g, 0, none⟩) (n + 1) cap) (n + 1) (A.map (Value.int .i64) ++ [.int .i64 x])) (hg : (wr.alloc o).grownBy w1 vo.ownBlock) (hat : vo.ownBlock = some g ∨ g = (wr.alloc o).heap.size) :
    Two w w1 (.slice (some ⟨g, 0, none⟩) (n + 1) cap) vr (A ++ [x]) B := by
  subst hn
  have hsz := h.old.size
  have hf : Frm (fun k => vo.ownBlock = some k) wr w1 := Frm.grown ((Frm.refl _ wr).alloc o) hg (fun k hk => Or.inr hk)
  refine ⟨Frm.grown (h.old.alloc o) hg (fun k hk => Or.inl (h.a.lt k hk).1), ?_, h.b.kept hf (fun k hk hk2 => h.ap k hk2 hk), ?_⟩
  · unfold OwnL
    simpa using hown
  · intro k hk
    simp only [Value.ownBlock, Option.some.injEq] at hk
    subst hk
    rcases hat with hat | hat
    · exact h.ap g hat
    · intro hb
      have := (h.b.lt g hb).2
      simp at hat
      omega

/-- The second row grows. -/
theorem Two.right {w wr w1 : World} {vo vr : Value} {A B : List Int} {x : Int} {o : Obj} {g cap n : Nat} (h : Two w wr vo vr A B) (hn : B.length = n)
    (hown : w1.ownsRow w.heap.size 2 1 (.slice (some ⟨g, 0, none⟩) (n + 1) cap) (n + 1) (B.map (Value.int .i64) ++ [.int .i64 x])) (hg : (wr.alloc o).grownBy w1 vr.ownBlock) (hat : vr.ownBlock = some g ∨ g = (wr.alloc o).heap.size) :
    Two w w1 vo (.slice (some ⟨g, 0, none⟩) (n + 1) cap) A (B ++ [x]) := by
  subst hn
  have hsz := h.old.size
  have hf : Frm (fun k => vr.ownBlock = some k) wr w1 := Frm.grown ((Frm.refl _ wr).alloc o) hg (fun k hk => Or.inr hk)
  refine ⟨Frm.grown (h.old.alloc o) hg (fun k hk => Or.inl (h.b.lt k hk).1), h.a.kept hf (fun k hk hk2 => h.ap k hk hk2), ?_, ?_⟩
  · unfold OwnL
    simpa using hown
  · intro k hk
    simp only [Value.ownBlock, ne_eq, Option.some.injEq]
    rintro rfl
    rcases hat with hat | hat
    · exact h.ap g hk hat
    · have := (h.a.lt g hk).2
      simp at hat
      omega

theorem Two.setA {w wr : World} {ga gb na nb ca cb : Nat} {A B : List Int} (h : Two w wr (.slice (some ⟨ga, 0, none⟩) na ca) (.slice (some ⟨gb, 0, none⟩) nb cb) A B) (hn : A.length = na) (i : Nat) (x : Int) :
    Two w (wr.setCell ⟨ga, i, none⟩ (.int .i64 x)) (.slice (some ⟨ga, 0, none⟩) na ca) (.slice (some ⟨gb, 0, none⟩) nb cb) (A.set i x) B := by
  have hne : gb ≠ ga := fun e => h.ap ga rfl (by rw [e]; rfl)
  refine ⟨Frm.setCell h.old _ (Or.inl (h.a.lt ga rfl).1) _, h.a.set hn i x, h.b.kept (Frm.setCell (Frm.refl (fun k => k = ga) wr) _ (Or.inr rfl) _) (fun g hg e => ?_), h.ap⟩
  simp [Value.ownBlock] at hg
  omega

theorem Two.setB {w wr : World} {ga gb na nb ca cb : Nat} {A B : List Int} (h : Two w wr (.slice (some ⟨ga, 0, none⟩) na ca) (.slice (some ⟨gb, 0, none⟩) nb cb) A B) (hn : B.length = nb) (i : Nat) (x : Int) :
    Two w (wr.setCell ⟨gb, i, none⟩ (.int .i64 x)) (.slice (some ⟨ga, 0, none⟩) na ca) (.slice (some ⟨gb, 0, none⟩) nb cb) A (B.set i x) := by
  have hne : gb ≠ ga := fun e => h.ap ga rfl (by rw [e]; rfl)
  refine ⟨Frm.setCell h.old _ (Or.inl (h.b.lt gb rfl).1) _, h.a.kept (Frm.setCell (Frm.refl (fun k => k = gb) wr) _ (Or.inr rfl) _) (fun g hg e => ?_), h.b.set hn i x, h.ap⟩
  simp [Value.ownBlock] at hg
  omega
end Go.Proofs.YtopfjjclcbgamaaDoor
