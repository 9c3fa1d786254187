/- A calendar in memory; a number is put into it. -/
import Derived.Test.YtbaibikpdaphoaaL5
import Derived.Test.YtbaibikpdaphoaaJ1
namespace Go.Proofs.Ytbaibikpdaphoaa
open Go.RowKit Go.Lib Go.Maps

/-- The heap's slice: nil, or a row. -/
def Sl (w : World) (bc : Nat) (v : Value) (G : List Due) : Prop := (v = .slice none 0 0 ∧ G = []) ∨ ∃ hb cap, v = .slice (some ⟨hb, 0, none⟩) G.length cap ∧ Row w hb cap G ∧ hb ≠ bc ∧ cap ≤ maxLen

/-- Calendar bc: its now, its heap G, its places. -/
structure Cal (w : World) (bc bm : Nat) (v : Value) (now : Int) (G : List Due) (P : Int → Option Nat) : Prop where
  blk : w.heap[bc]? = some (.cells #[.int .i64 now, v, .map (some bm)] 78 (0, 0))
  sl : Sl w bc v G
  map : PM w bm G.length P
  pl : Pl G P
  heap : IsHeap G
  nd : ND G
  ok : ∀ x ∈ G, i64ok x.2

theorem Cal.cells {w : World} {bc bm : Nat} {v : Value} {now : Int} {G : List Due} {P : Int → Option Nat} (h : Cal w bc bm v now G P) :
    w.cell? ⟨bc, 0, none⟩ = some (.int .i64 now) ∧ w.cell? ⟨bc, 1, none⟩ = some v ∧ w.cell? ⟨bc, 2, none⟩ = some (.map (some bm)) ∧ (∀ o, w.frozen? ⟨bc, o, none⟩ = false) := by
  have := h.blk
  refine ⟨?_, ?_, ?_, fun o => ?_⟩
  · simp [World.cell?, this]
  · simp [World.cell?, this]
  · simp [World.cell?, this]
  · simp [World.frozen?, this]

theorem Cal.lt {w : World} {bc bm : Nat} {v : Value} {now : Int} {G : List Due} {P : Int → Option Nat} (h : Cal w bc bm v now G P) : bc < w.heap.size := (Array.getElem?_eq_some_iff.1 h.blk).1

theorem Sl.kept {w w' : World} {bc : Nat} {v : Value} {G : List Due} {S : Nat → Prop} (h : Sl w bc v G) (hf : Frm S w w') (hS : ∀ k, v.ownBlock = some k → ¬ S k) : Sl w' bc v G := by
  rcases h with h | ⟨hb, cap, rfl, h1, h2⟩
  · exact Or.inl h
  · exact Or.inr ⟨hb, cap, rfl, h1.kept hf (hS hb rfl), h2⟩

theorem Cal.kept {w w' : World} {bc bm : Nat} {v : Value} {now : Int} {G : List Due} {P : Int → Option Nat} {S : Nat → Prop} (h : Cal w bc bm v now G P) (hf : Frm S w w') (h1 : ¬ S bc) (h2 : ¬ S bm) (h3 : ∀ k, v.ownBlock = some k → ¬ S k) : Cal w' bc bm v now G P :=
  ⟨by rw [hf.block bc h.lt h1]; exact h.blk, h.sl.kept hf h3, h.map.kept hf h2, h.pl, h.heap, h.nd, h.ok⟩

theorem Cal.old {w w' : World} {bc bm : Nat} {v : Value} {now : Int} {G : List Due} {P : Int → Option Nat} (h : Cal w bc bm v now G P) (hf : Old w w') : Cal w' bc bm v now G P := h.kept hf (fun h => h) (fun h => h) (fun _ _ h => h)

theorem Sl.owns {w : World} {bc : Nat} {v : Value} {G : List Due} (h : Sl w bc v G) : w.ownsRow 0 26 2 v G.length (flatD G) := by
  refine ⟨by rw [flatD_length]; omega, ?_⟩
  rcases h with ⟨h1, rfl⟩ | ⟨hb, cap, rfl, h1, _, h2⟩
  · exact Or.inl ⟨h1, rfl⟩
  · have hle := h1.le
    obtain ⟨J, h3, h4⟩ := h1
    exact Or.inr ⟨hb, cap, _, rfl, Nat.zero_le _, h3, hle, h2, by simpa using h4, by simp; rw [Nat.mul_comm, ← flatD_length G, List.take_left]⟩

theorem row_of_owns {w : World} {base g n cap : Nat} {G : List Due} (h : w.ownsRow base 26 2 (.slice (some ⟨g, 0, none⟩) n cap) n (flatD G)) : Row w g cap G ∧ n = G.length ∧ cap ≤ maxLen := by
  obtain ⟨h1, h2⟩ := h
  rw [flatD_length] at h1
  rcases h2 with ⟨h2, _⟩ | ⟨g', cap', cur, h2, _, h3, h4, h5, h6, h7⟩
  · cases h2
  · injection h2 with h8 h9 h10
    simp only [Option.some.injEq, Addr.mk.injEq, and_true] at h8
    subst h8 h10
    refine ⟨⟨cur.toList.drop (n * 2), ?_, ?_⟩, by omega, h5⟩
    · rw [← h7, List.take_append_drop, h3]
    · rw [← h7, List.take_append_drop]; simpa using h6

set_option maxRecDepth 100000 in
set_option maxHeartbeats 4000000 in
theorem put_set (bc hb bm cap n : Nat) (now : Int) (G : List Due) (P : Int → Option Nat) (d : Due) (p : Nat) (w : World) (h : Cal w bc bm (.slice (some ⟨hb, 0, none⟩) n cap) now G P) (hn : G.length = n) (hn2 : n ≤ 1000000000) (hd : i64ok d.2) (hp : P d.2 = some p) (hpl : p < n) (hat : (at' G p).2 = d.2) (hrow : Row w hb cap G) (hne : hb ≠ bc) :
    Calls Try.prog 28 #[.pointer (some ⟨bc, 0, none⟩), .agg #[.int .i64 d.1, .int .i64 d.2]] w fun e w' => e = .returned (.tuple #[]) ∧ ∃ G' P', Row w' hb cap G' ∧ IsHeap G' ∧ G'.Perm (G.set p d) ∧ PM w' bm n P' ∧ Pl G' P' ∧ Frm (fun k => k = hb ∨ k = bm) w w' := by
  obtain ⟨c0, c1, c2, c3⟩ := h.cells
  obtain ⟨w1, e1, g1, b1, b2⟩ : ∃ w1, w.alloc (.cells #[.int .i64 d.1, .int .i64 d.2] 26) = w1 ∧ Gr w w1 ∧ w1.cell? ⟨w.heap.size, 0, none⟩ = some (.int .i64 d.1) ∧ w1.cell? ⟨w.heap.size, 1, none⟩ = some (.int .i64 d.2) :=
    ⟨_, rfl, (Gr.refl w).alloc _, new_cell _ _ _ _ _ rfl, new_cell _ _ _ _ _ rfl⟩
  have hlook : ∀ m, (Instr.lookup 76 (.map (some bm)) (.int .i64 d.2) true).run Try.prog (w1.drewN m) = .ok (.tuple #[.int .i64 (p : Int), .bool true]) (w1.drewN m) := by
    intro m
    have := (h.map.kept (g1.drewN m).old (fun h => h)).look hd
    rw [hp] at this
    exact this
  have kl := hid (fun W (hW : Gr w W) => lay_any bc hb bm cap n n d G (G.set p d) p P W (hW.cell c1) (hW.cell c2) (hrow.kept hW.old (fun h => h)) (hn ▸ h.map.kept hW.old (fun h => h)) hn hne (Mv.set h.heap h.nd h.pl (by omega) hat) (by rw [List.length_set]; exact hn) hn2 hn2 (fun x hx => by
    rcases List.mem_or_eq_of_mem_set hx with h1 | h1
    · exact h.ok x h1
    · rw [h1]; exact hd))
  have kg := hid g1
  replace c1 := g1.cell c1
  replace c2 := g1.cell c2
  obtain ⟨d0, d1⟩ := d
  have hp' := hid hp
  clear h hrow g1 hp hat
  go_enter Try.func28, Try.ntmps28
  go_wp2_with fail
  try rw [e1]
  clear e1
  generalize w.heap.size = s at *
  go_quiet (fail)
  go_wp2_with fail
  refine (kl.out _ (kg.out.drewN _)).mono ?_
  rintro e w5 ⟨rfl, G', P', r1, r2, r3, r4, r5, r6⟩
  rw [hp'.out] at r4
  have kk := hid (show ∃ G' P', Row w5 hb cap G' ∧ IsHeap G' ∧ G'.Perm (G.set p (d0, d1)) ∧ PM w5 bm n P' ∧ Pl G' P' ∧ Frm (fun k => k = hb ∨ k = bm) w w5 from ⟨G', P', r1, r2, r3, r4, r5, Frm.trans (Frm.mono (kg.out.drewN _).old (fun _ _ h => h.elim)) r6 (fun _ _ h => h)⟩)
  clear r1 r2 r3 r4 r5 r6
  go_wp2
  go_end0
  exact ⟨rfl, kk.out⟩

theorem info26 : (Try.prog.info? 26).map (fun i => (i.zero, i.size, i.bytes)) = some (some (.agg #[.int .i64 0, .int .i64 0]), 2, 16) := by kernel_rfl

theorem after_app {w w2 w3 : World} {bc bm : Nat} {v : Value} {now : Int} {G : List Due} {P : Int → Option Nat} {o : Obj} (h : Cal w bc bm v now G P) (hg : Gr w w2) (hw : (w2.alloc o).drew.grownBy w3 v.ownBlock) : w3.cell? ⟨bc, 1, none⟩ = some v ∧ w3.frozen? ⟨bc, 1, none⟩ = false := by
  have hf : Frm (fun k => v.ownBlock = some k) w w3 := Frm.grown (Frm.mono ((hg.alloc o).drew).old (fun _ _ h => h.elim)) hw (fun k hk => Or.inr hk)
  have hne : ¬ v.ownBlock = some bc := by
    rcases h.sl with ⟨rfl, _⟩ | ⟨hb, cap, rfl, _, h2, _⟩
    · simp [Value.ownBlock]
    · simpa [Value.ownBlock] using h2
  have hb : w3.heap[bc]? = some (.cells #[.int .i64 now, v, .map (some bm)] 78 (0, 0)) := by rw [hf.block bc h.lt hne]; exact h.blk
  constructor
  · simp [World.cell?, hb]
  · simp [World.frozen?, hb]

theorem sl_map {w : World} {bc bm N : Nat} {v : Value} {G : List Due} {P : Int → Option Nat} (h : Sl w bc v G) (hm : PM w bm N P) : v.ownBlock ≠ some bm := by
  rcases h with ⟨rfl, _⟩ | ⟨hb, cap, rfl, ⟨J, h1, _⟩, _⟩
  · simp [Value.ownBlock]
  · intro e
    simp [Value.ownBlock] at e
    subst e
    obtain ⟨D, ⟨es, clock, hb2, _⟩, _⟩ := hm
    rw [h1] at hb2
    cases hb2

theorem app_world {w w2 w3 : World} {bc bm g cap n : Nat} {v : Value} {now : Int} {G : List Due} {P : Int → Option Nat} {o : Obj} {d : Due} (h : Cal w bc bm v now G P) (hg : Gr w w2) (hn : G.length = n)
    (hown3 : w3.ownsRow 0 26 2 (.slice (some ⟨g, 0, none⟩) (n + 1) cap) (n + 1) (flatD G ++ [.int .i64 d.1, .int .i64 d.2])) (hgrow : (w2.alloc o).drew.grownBy w3 v.ownBlock) (hat : v.ownBlock = some g ∨ g = w2.heap.size + 1) :
    Row (w3.setCell ⟨bc, 1, none⟩ (.slice (some ⟨g, 0, none⟩) (n + 1) cap)) g cap (G ++ [d]) ∧ PM (w3.setCell ⟨bc, 1, none⟩ (.slice (some ⟨g, 0, none⟩) (n + 1) cap)) bm n P ∧
    (w3.setCell ⟨bc, 1, none⟩ (.slice (some ⟨g, 0, none⟩) (n + 1) cap)).heap[bc]? = some (.cells #[.int .i64 now, .slice (some ⟨g, 0, none⟩) (n + 1) cap, .map (some bm)] 78 (0, 0)) ∧ g ≠ bc ∧ cap ≤ maxLen ∧ (v.ownBlock = some g ∨ w.heap.size ≤ g) ∧
    Frm (fun k => k = bc ∨ v.ownBlock = some k) w (w3.setCell ⟨bc, 1, none⟩ (.slice (some ⟨g, 0, none⟩) (n + 1) cap)) ∧ Frm (fun k => k = bc ∨ v.ownBlock = some k) w2 (w3.setCell ⟨bc, 1, none⟩ (.slice (some ⟨g, 0, none⟩) (n + 1) cap)) := by
  have hf3 : Frm (fun k => v.ownBlock = some k) w2 w3 := Frm.grown (Frm.mono (((Gr.refl w2).alloc o).drew).old (fun _ _ h => h.elim)) hgrow (fun k hk => Or.inr hk)
  have hsz := hg.old.size
  have hlt := h.lt
  have hne : ¬ v.ownBlock = some bc := by
    rcases h.sl with ⟨rfl, _⟩ | ⟨hb, cap, rfl, _, h2, _⟩
    · simp [Value.ownBlock]
    · simpa [Value.ownBlock] using h2
  have hb3 : w3.heap[bc]? = some (.cells #[.int .i64 now, v, .map (some bm)] 78 (0, 0)) := by
    rw [hf3.block bc (by omega) hne, hg.old.block bc hlt (fun h => h)]; exact h.blk
  have hgb : g ≠ bc := by
    rcases hat with h1 | h1
    · intro e; rw [e] at h1; exact hne h1
    · omega
  have hr : w3.ownsRow 0 26 2 (.slice (some ⟨g, 0, none⟩) (n + 1) cap) (n + 1) (flatD (G ++ [d])) := by rw [flatD_append]; exact hown3
  obtain ⟨r1, _, r3⟩ := row_of_owns hr
  have hfs := frm_set w3 bc 1 (.slice (some ⟨g, 0, none⟩) (n + 1) cap)
  have hf4 : Frm (fun k => k = bc ∨ v.ownBlock = some k) w2 (w3.setCell ⟨bc, 1, none⟩ (.slice (some ⟨g, 0, none⟩) (n + 1) cap)) := Frm.trans (Frm.mono hf3 (fun _ _ h => Or.inr h)) hfs (fun _ _ h => Or.inl h)
  have hm2 : PM w2 bm n P := by have := h.map.kept hg.old (fun h => h); rw [hn] at this; exact this
  refine ⟨r1.kept hfs hgb, ?_, ?_, hgb, r3, ?_, Frm.trans (Frm.mono hg.old (fun _ _ h => h.elim)) hf4 (fun _ _ h => h), hf4⟩
  · refine hm2.kept hf4 (fun e => ?_)
    rcases e with e | e
    · have := h.cells.1
      exact ne_of_cell h.map this e.symm
    · exact sl_map h.sl h.map e
  · simp [World.setCell, Array.getElem?_modify, hb3]
  · rcases hat with h1 | h1
    · exact Or.inl h1
    · right; omega

theorem box_kept {w w2 w4 : World} {bc bm s : Nat} {v a b : Value} {now : Int} {G : List Due} {P : Int → Option Nat} (h : Cal w bc bm v now G P) (hf : Frm (fun k => k = bc ∨ v.ownBlock = some k) w2 w4) (hs : w.heap.size ≤ s) (b1 : w2.cell? ⟨s, 0, none⟩ = some a) (b2 : w2.cell? ⟨s, 1, none⟩ = some b) :
    w4.cell? ⟨s, 0, none⟩ = some a ∧ w4.cell? ⟨s, 1, none⟩ = some b := by
  have hlt := h.lt
  have hn : ¬ (s = bc ∨ v.ownBlock = some s) := by
    rintro (e | e)
    · omega
    · rcases h.sl with ⟨rfl, _⟩ | ⟨hb, cap, rfl, h1, _⟩
      · simp [Value.ownBlock] at e
      · simp [Value.ownBlock] at e
        have := h1.lt
        omega
  exact ⟨frm_cell hf b1 hn, frm_cell hf b2 hn⟩

theorem put_done {w4 w5 : World} {bc bm g cap n : Nat} {now : Int} {G' : List Due} {P' : Int → Option Nat} (q3 : w4.heap[bc]? = some (.cells #[.int .i64 now, .slice (some ⟨g, 0, none⟩) (n + 1) cap, .map (some bm)] 78 (0, 0))) (q4 : g ≠ bc) (q5 : cap ≤ maxLen) (hbm : bc ≠ bm) (hl : G'.length = n + 1)
    (r1 : Row w5 g cap G') (r2 : IsHeap G') (r4 : PM w5 bm (moreN n none) P') (r5 : Pl G' P') (r6 : Frm (fun k => k = g ∨ k = bm) w4 w5) (nd : ND G') (ok : ∀ x ∈ G', i64ok x.2) : Cal w5 bc bm (.slice (some ⟨g, 0, none⟩) (n + 1) cap) now G' P' := by
  refine ⟨?_, Or.inr ⟨g, cap, by rw [hl], r1, q4, q5⟩, ?_, r5, r2, nd, ok⟩
  · rw [r6.block bc (Array.getElem?_eq_some_iff.1 q3).1 (fun e => ?_)]
    · exact q3
    · rcases e with e | e
      · exact q4 e.symm
      · exact hbm e
  · rw [hl]; exact r4

set_option maxRecDepth 100000 in
set_option maxHeartbeats 4000000 in
theorem put_new (bc bm n : Nat) (v : Value) (now : Int) (G : List Due) (P : Int → Option Nat) (d : Due) (w : World) (h : Cal w bc bm v now G P) (hn : G.length = n) (hn2 : n < 1000000000) (hd : i64ok d.2) (hp : P d.2 = none) (hv : ∃ ao cap, v = .slice ao n cap) :
    Calls Try.prog 28 #[.pointer (some ⟨bc, 0, none⟩), .agg #[.int .i64 d.1, .int .i64 d.2]] w fun e w' => e = .returned (.tuple #[]) ∧ ∃ hb cap G' P', Cal w' bc bm (.slice (some ⟨hb, 0, none⟩) (n + 1) cap) now G' P' ∧ G'.Perm (G ++ [d]) ∧ (v.ownBlock = some hb ∨ w.heap.size ≤ hb) ∧ Frm (fun k => k = bc ∨ k = bm ∨ v.ownBlock = some k) w w' := by
  obtain ⟨c0, c1, c2, c3⟩ := h.cells
  obtain ⟨i0, hi0, hz0, hz1, hz2⟩ := info_parts info26
  obtain ⟨w1, e1, g1, b1, b2⟩ : ∃ w1, w.alloc (.cells #[.int .i64 d.1, .int .i64 d.2] 26) = w1 ∧ Gr w w1 ∧ w1.cell? ⟨w.heap.size, 0, none⟩ = some (.int .i64 d.1) ∧ w1.cell? ⟨w.heap.size, 1, none⟩ = some (.int .i64 d.2) :=
    ⟨_, rfl, (Gr.refl w).alloc _, new_cell _ _ _ _ _ rfl, new_cell _ _ _ _ _ rfl⟩
  have hlook : ∀ m, (Instr.lookup 76 (.map (some bm)) (.int .i64 d.2) true).run Try.prog (w1.drewN m) = .ok (.tuple #[.int .i64 0, .bool false]) (w1.drewN m) := by
    intro m
    have := (h.map.kept (g1.drewN m).old (fun h => h)).look hd
    rw [hp] at this
    exact this
  obtain ⟨ao, cap0, rfl⟩ := hv
  have kC := hid h
  have kg := hid g1
  have hp' := hid hp
  have hd' := hid hd
  have hN := hid hn
  replace c1 := g1.cell c1
  replace c2 := g1.cell c2
  obtain ⟨d0, d1⟩ := d
  clear h g1 hp hd hn
  go_enter Try.func28, Try.ntmps28
  go_wp2_with fail
  try rw [e1]
  clear e1
  generalize hws : w.heap.size = s at *
  have kS := hid hws
  clear hws
  go_quiet (fail)
  clear hlook
  go_wp2_with fail
  have kg2 := hid (kg.out.drewN nq)
  replace c1 := ((Gr.refl w1).drewN nq).cell c1
  replace b1 := ((Gr.refl w1).drewN nq).cell b1
  replace b2 := ((Gr.refl w1).drewN nq).cell b2
  generalize w1.drewN nq = w2 at *
  have hown := kC.out.sl.owns
  rw [hN.out] at hown
  have hown2 : w2.ownsRow 0 26 2 (.slice ao n cap0) n (flatD G) := (kC.out.sl.kept kg2.out.old (fun _ _ h => h)).owns |> fun h => by rw [hN.out] at h; exact h
  clear hown
  have l1 := World.block_lt_of_cell? w2 _ c1
  have l2 := World.block_lt_of_cell? w2 _ b1
  simp only at l1 l2
  go_region_law ((refine step_append_lies _ (by rfl) _ _ _ (by rfl) 0 26 i0 _ 2 16 Try.underlying22 hi0 hz0 hz1 hz2 rfl (by omega) (.slice ao n cap0) n (flatD G) (by rfl) ((hown2.alloc _).drew) ⟨w2.heap.size, 0, none⟩ 1 1 [.int .i64 d0, .int .i64 d1] (by rfl) (by rfl) (World.news_of_block (cs := #[.int .i64 d0, .int .i64 d1]) (t := 26) (fr := (0, 0)) (heap_new w2 _)) (by simp [Value.oneCell']) (by omega) (by unfold maxLen; omega) (by omega) (by omega) (w2.heap.size + 1) (by simp) ?_; intro g cap w3 hown3 hgrow hat hlt3; have hx3 := after_app kC.out kg2.out hgrow; obtain ⟨j1, j2⟩ := hx3))
  all_goals
    have hx4 := app_world (d := (d0, d1)) kC.out kg2.out hN.out hown3 hgrow hat
    clear hgrow hown3 hat j1 j2 hown2
    generalize w3.setCell ⟨bc, 1, none⟩ (.slice (some ⟨g, 0, none⟩) (n + 1) cap) = w4 at *
    obtain ⟨t1, t2, t3, t4, t5, t6, t7, t8⟩ := hx4
    have hx5 := box_kept kC.out t8 (by rw [kS.out]; exact Nat.le_refl _) b1 b2
    obtain ⟨y1, y2⟩ := hx5
    have kl := hid (lay_any bc g bm cap (n + 1) n (d0, d1) (G ++ [(d0, d1)]) (G ++ [(d0, d1)]) n P w4 (by simp [World.cell?, t3]) (by simp [World.cell?, t3]) t1 t2 (by simp [hN.out]) t4 (by have := Mv.snoc (d := (d0, d1)) kC.out.heap kC.out.nd kC.out.pl hp'.out; rw [hN.out] at this; exact this) (by simp [hN.out]) (by omega) (by omega) (fun x hx => by
      rcases List.mem_append.1 hx with h1 | h1
      · exact kC.out.ok x h1
      · simp at h1; rw [h1]; exact hd'.out))
    have q3 := hid t3
    have q5 := hid t5
    have q6 := hid t6
    have q7 := hid t7
    have q1 := hid t1
    have q4 := hid t4
    clear t1 t2 t3 t4 t5 t6 t7 t8
    go_wp2_with fail
    refine kl.out.mono ?_
    rintro e w5 ⟨rfl, G', P', r1, r2, r3, r4, r5, r6⟩
    rw [hp'.out] at r4
    have kk := hid (put_done q3.out q4.out q5.out (ne_of_cell kC.out.map kC.out.cells.1) (n := n) (by rw [r3.length_eq]; simp [hN.out]) r1 r2 r4 r5 r6 ((Mv.snoc (d := (d0, d1)) kC.out.heap kC.out.nd kC.out.pl hp'.out).nd.perm r3) (fun x hx => by
      rcases List.mem_append.1 (r3.mem_iff.1 hx) with h1 | h1
      · exact kC.out.ok x h1
      · simp at h1; rw [h1]; exact hd'.out))
    have kp := hid r3
    have kf := hid (show Frm (fun k => k = bc ∨ k = bm ∨ Value.ownBlock (.slice ao n cap0) = some k) w w5 from Frm.trans (Frm.mono q7.out (fun _ _ h => h.elim Or.inl (fun h => Or.inr (Or.inr h)))) r6 (fun k hk h => by
      rcases h with h | h
      · rcases q6.out with h2 | h2
        · rw [h]; exact Or.inr (Or.inr h2)
        · have := kS.out; omega
      · exact Or.inr (Or.inl h)))
    clear r1 r2 r3 r4 r5 r6
    go_wp2
    go_end0
    exact ⟨rfl, g, cap, G', P', kk.out, kp.out, q6.out, kf.out⟩
end Go.Proofs.Ytbaibikpdaphoaa
