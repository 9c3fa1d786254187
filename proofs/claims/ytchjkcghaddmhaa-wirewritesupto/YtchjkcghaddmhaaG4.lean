/- WireWrites walked. -/
import Derived.Test.YtchjkcghaddmhaaG3
import Derived.Deep.CutRange
namespace Go.Proofs.Ytchjkcghaddmhaa
open Go.RowKit
set_option linter.unusedSimpArgs false

/-- What the loads of a round read. -/
structure Ld (w W : World) (c6 k : Nat) (sl : Value) : Prop where
  frm : Frm (fun _ => False) w W
  c : W.cell? ⟨c6, k, none⟩ = some sl

theorem Ld.grow {w W W' : World} {c6 k : Nat} {sl : Value} (h : Ld w W c6 k sl) (hc : c6 < W.heap.size) (hf : Frm (fun _ => False) W W') : Ld w W' c6 k sl :=
  ⟨h.frm.trans hf (fun _ _ e => e), by rw [World.cell?_of_block (w := W) (a := ⟨c6, k, none⟩) (hf.block c6 hc (fun e => e))]; exact h.c⟩

theorem Ld.at {w W : World} {c6 k : Nat} {sl : Value} (h : Ld w W c6 k sl) {g i : Nat} {u : Value} (hc : w.cell? ⟨g, i, none⟩ = some u) : W.cell? ⟨g, i, none⟩ = some u := by
  rw [World.cell?_of_block (w := w) (a := ⟨g, i, none⟩) (h.frm.block g (World.block_lt_of_cell? w _ hc) (fun e => e))]
  exact hc

/-- Behind the append, and behind the store. -/
theorem WS.app {w W W1 : World} {ao : Nat → Option Addr} {cp : Nat → Nat} {ps : Nat → List PutV} {tag : Nat → Nat} {r : Nat → Option Nat} {v : Nat → Value} {xs ys : Nat → List UInt8} {c6 c7 k : Nat} {sl : Value}
    (h : WS w W ao cp ps tag r v xs ys) (hk : k < 2) (h6 : c6 = w.heap.size + 3) (h7 : c7 = w.heap.size + 4) (hg : W.grownBy W1 (v k).ownBlock) (hl : Ld w W c6 k sl) :
    Ld w W1 c6 k sl ∧ W1.cell? ⟨c7, k, none⟩ = some (v k) ∧ W1.frozen? ⟨c7, k, none⟩ = false ∧ ∀ u, Ld w (W1.setCell ⟨c7, k, none⟩ u) c6 k sl := by
  subst h6 h7
  have hsz := h.sz
  have hge : ∀ g, (v k).ownBlock = some g → w.heap.size + 5 ≤ g := fun g hg => (h.tg g (by rw [h.tv k hk g hg]; omega)).1
  have hb : ∀ g, g < w.heap.size + 5 → W1.heap[g]? = W.heap[g]? := fun g h1 => hg.block g (by omega) (fun e => by have := hge g e.symm; omega)
  have hf : Frm (fun _ => False) w W1 := hl.frm.grown hg (fun g e => .inl (by have := hge g e; omega))
  have h1 : Ld w W1 (w.heap.size + 3) k sl := ⟨hf, by rw [World.cell?_of_block (w := W) (a := ⟨w.heap.size + 3, k, none⟩) (hb _ (by dsimp only; omega))]; exact hl.c⟩
  refine ⟨h1, ?_, ?_, fun u => ⟨hf.setCell _ (.inl (by dsimp only; omega)) _, ?_⟩⟩
  · rw [World.cell?_of_block (w := W) (a := ⟨w.heap.size + 4, k, none⟩) (hb _ (by dsimp only; omega))]; exact (h.h7 k hk).1
  · rw [World.frozen?_of_block (w := W) (a := ⟨w.heap.size + 4, k, none⟩) (hb _ (by dsimp only; omega))]; exact (h.h7 k hk).2
  · rw [World.cell?_setCell_other _ _ _ _ (by intro e2; simp only [Addr.mk.injEq] at e2; omega)]; exact h1.c

/-- What the loads of the writing statement read. -/
structure L14 (w W : World) (c5 c6 c7 k : Nat) (sl v7 : Value) : Prop where
  frm : Frm (fun _ => False) w W
  a5 : W.cell? ⟨c5, k, none⟩ = some (.pointer (some ⟨w.heap.size + k, 0, none⟩))
  a6 : W.cell? ⟨c6, k, none⟩ = some sl
  a7 : W.cell? ⟨c7, k, none⟩ = some v7

theorem L14.at {w W : World} {c5 c6 c7 k : Nat} {sl v7 : Value} (h : L14 w W c5 c6 c7 k sl v7) {g i : Nat} {u : Value} (hc : w.cell? ⟨g, i, none⟩ = some u) : W.cell? ⟨g, i, none⟩ = some u := by
  rw [World.cell?_of_block (w := w) (a := ⟨g, i, none⟩) (h.frm.block g (World.block_lt_of_cell? w _ hc) (fun e => e))]
  exact hc

theorem WS.l14 {w W : World} {ao : Nat → Option Addr} {cp : Nat → Nat} {ps : Nat → List PutV} {tag : Nat → Nat} {r : Nat → Option Nat} {v : Nat → Value} {xs ys : Nat → List UInt8} {c5 c6 c7 k : Nat} {ad : Option Addr} {v7 : Value}
    (h : WS w W ao cp ps tag r v xs ys) (hk : k < 2) (h5 : c5 = w.heap.size + 2) (h6 : c6 = w.heap.size + 3) (h7 : c7 = w.heap.size + 4) (hao : ao k = ad) (hv : v k = v7) : L14 w W c5 c6 c7 k (.slice ad (ps k).length (cp k)) v7 := by
  subst h5 h6 h7 hao hv
  exact ⟨h.frm, h.h5 k hk, h.h6 k hk, (h.h7 k hk).1⟩

theorem WS.rge {w W : World} {ao : Nat → Option Addr} {cp : Nat → Nat} {ps : Nat → List PutV} {tag : Nat → Nat} {r : Nat → Option Nat} {v : Nat → Value} {xs ys : Nat → List UInt8} {k : Nat} (h : WS w W ao cp ps tag r v xs ys) (hk : k < 2) : ∀ g, r k = some g → w.heap.size ≤ g := fun g hg => by
  have := (h.tg g (by rw [h.tr k hk g hg]; omega)).1
  omega

/-- All that is to be written, as it is written. -/
def allF (ps : Nat → List PutV) : Nat → List UInt8 := fun j => putsF (ps j)

def Fin (w W : World) (ao : Nat → Option Addr) (cp : Nat → Nat) (ps : Nat → List PutV) : Prop := ∃ tag r v, WS w W ao cp ps tag r v (allF ps) (allF ps)

theorem St.fin {w W : World} {ao : Nat → Option Addr} {cp : Nat → Nat} {ps : Nat → List PutV} {n : Nat} (h : St w W ao cp ps n 0) (h0 : (ps 0).length ≤ n) (h1 : (ps 1).length ≤ n) : Fin w W ao cp ps := by
  obtain ⟨tag, r, v, h⟩ := h
  have e : ∀ j, j < 2 → allF ps j = cnt ps n 0 j := by
    intro j hj
    unfold cnt allF
    rw [if_neg (by omega), List.take_of_length_le]
    rcases (show j = 0 ∨ j = 1 from by omega) with rfl | rfl
    · exact h0
    · exact h1
  exact ⟨tag, r, v, h.congr e e⟩

theorem conv_own {W : World} {base : Nat} {ao : Option Addr} {cap : Nat} {xs : List UInt8} (h : OwnB W base (.slice ao xs.length cap) xs) : (convert 25 9 (.slice ao xs.length cap)).run Try.prog W = .ok (.string ⟨xs.toArray⟩) W :=
  conv_row (base := base) (r := (Value.slice ao xs.length cap).ownBlock) ⟨rfl, h⟩

/-- The two texts that were told, beside the writers. -/
structure XY (w W : World) (ao : Nat → Option Addr) (cp : Nat → Nat) (ps : Nat → List PutV) (tag : Nat → Nat) (r : Nat → Option Nat) (v : Nat → Value) (D : Nat) (X0 : List UInt8) (vy x : Value) (len : Nat) : Prop where
  ws : WS w W ao cp ps tag r v (allF ps) (allF ps)
  yo : OwnB W D vy X0
  xo : ∃ zs : List UInt8, zs.length = len ∧ OwnB W D x zs
  ne : ∀ g, x.ownBlock = some g → vy.ownBlock ≠ some g
  td : ∀ g, tag g ≠ 0 → g < D
  dw : w.heap.size + 5 ≤ D
  ds : D ≤ W.heap.size

section
variable {w W : World} {ao : Nat → Option Addr} {cp : Nat → Nat} {ps : Nat → List PutV} {tag : Nat → Nat} {r : Nat → Option Nat} {v : Nat → Value} {D : Nat} {X0 : List UInt8} {vy x : Value} {len : Nat}

theorem XY.grow {W' : World} (h : XY w W ao cp ps tag r v D X0 vy x len) (hf : Frm (fun _ => False) W W') : XY w W' ao cp ps tag r v D X0 vy x len := by
  obtain ⟨zs, h1, h2⟩ := h.xo
  exact ⟨h.ws.grow hf, h.yo.kept hf, ⟨zs, h1, h2.kept hf⟩, h.ne, h.td, h.dw, Nat.le_trans h.ds hf.size⟩

/-- Whatever is done to the first text. -/
theorem XY.turn {W' : World} {x' : Value} {len' : Nat} {zs' : List UInt8} (h : XY w W ao cp ps tag r v D X0 vy x len) (hf : Frm (fun g => some g = x.ownBlock) W W') (hl : zs'.length = len') (ho : OwnB W' D x' zs') (hat : x.ownBlock = x'.ownBlock ∨ x'.ownBlock = some W.heap.size) : XY w W' ao cp ps tag r v D X0 vy x' len' := by
  obtain ⟨zs, h1, h2⟩ := h.xo
  have hx := World.ownsRow.lt h2
  have hy := World.ownsRow.lt h.yo
  have hdw := h.dw
  refine ⟨h.ws.kept hf (fun g hg => ⟨by have := (hx g hg.symm).1; omega, ?_⟩), h.yo.keptS hf (fun g hg e => h.ne g e.symm hg), ⟨zs', hl, ho⟩, ?_, h.td, h.dw, Nat.le_trans h.ds hf.size⟩
  · rcases Nat.eq_zero_or_pos (tag g) with e | e
    · exact e
    · have := h.td g (by omega)
      have := (hx g hg.symm).1
      omega
  · intro g hg hy2
    rcases hat with e | e
    · exact h.ne g (by rw [e]; exact hg) hy2
    · rw [e] at hg
      simp only [Option.some.injEq] at hg
      have := (hy g hy2).2
      omega

/-- One byte more. -/
theorem XY.more {W1 : World} {o : Obj} {x' : Value} {n : Nat} (h : XY w W ao cp ps tag r v D X0 vy x len) {zs : List UInt8} (hl : zs.length = len) (hg : (W.alloc o).grownBy W1 x.ownBlock) (hn : n = len + 1) (ho : W1.ownsRow D 5 1 x' n (zs.map byteV ++ [.int .u8 99])) (hat : x.ownBlock = x'.ownBlock ∨ x'.ownBlock = some (W.alloc o).heap.size) : XY w W1 ao cp ps tag r v D X0 vy x' (len + 1) := by
  subst hn hl
  have h2 := h.grow ((Frm.refl (fun _ => False) W).alloc o)
  refine h2.turn (zs' := zs ++ [99]) ((Frm.refl _ _).grown hg (fun g e => .inr e.symm)) (by simp) ?_ hat
  unfold OwnB
  rw [List.length_append, List.map_append]
  exact ho

theorem XY.more' {W1 : World} {o : Obj} {g3 cap3 n : Nat} (h : XY w W ao cp ps tag r v D X0 vy x len) {zs : List UInt8} (hl : zs.length = len) (hn : n = len + 1) (hg : (W.alloc o).grownBy W1 x.ownBlock) (ho : W1.ownsRow D 5 1 (.slice (some ⟨g3, 0, none⟩) n cap3) n (zs.map byteV ++ [.int .u8 99])) (hat : x.ownBlock = some g3 ∨ g3 = (W.alloc o).heap.size) : XY w W1 ao cp ps tag r v D X0 vy (.slice (some ⟨g3, 0, none⟩) n cap3) (len + 1) := by
  refine h.more hl hg hn ho ?_
  rcases hat with h | h
  · exact .inl h
  · exact .inr (by rw [h]; rfl)

theorem XY.new {W1 W2 W3 : World} {k : Nat} {vx : Value} (h : WS w W1 ao cp ps tag r v (allF ps) (allF ps)) (h1 : Row W2 W1.heap.size vx vx.ownBlock (allF ps k)) (hf1 : Frm (fun _ => False) W1 W2) (h2 : Row W3 W2.heap.size vy vy.ownBlock (allF ps k)) (hf2 : Frm (fun _ => False) W2 W3) :
    XY w W3 ao cp ps tag r v W1.heap.size (allF ps k) vy vx (allF ps k).length := by
  have hs1 := hf1.size
  have hx := World.ownsRow.lt h1.2
  have hy := World.ownsRow.lt h2.2
  refine ⟨(h.grow hf1).grow hf2, OwnB.base h2.2 hs1, ⟨_, rfl, (h1.kept hf2 (fun _ _ e => e)).2⟩, ?_, fun g hg => (h.tg g hg).2, h.sz, Nat.le_trans hs1 hf2.size⟩
  intro g hg hy2
  have := (hx g hg).2
  have := (hy g hy2).1
  omega
theorem XY.form (h : XY w W ao cp ps tag r v D X0 vy x len) : ∃ aoj capj, x = .slice aoj len capj := by
  obtain ⟨zs, rfl, h2⟩ := h.xo
  exact slice_of_owns h2

end

set_option maxRecDepth 100000 in
set_option maxHeartbeats 8000000 in
theorem writes_any (ao : Nat → Option Addr) (cp : Nat → Nat) (ps : Nat → List PutV) (w : World) (hps : ∀ k, k < 2 → PutsIn w w.heap.size (ao k) (ps k)) (hlen : ∀ k, k < 2 → (putsF (ps k)).length ≤ 100000000000) (hpl : ∀ k, k < 2 → (ps k).length ≤ 1000000000) :
    Calls Try.prog 3 #[.slice (ao 0) (ps 0).length (cp 0), .slice (ao 1) (ps 1).length (cp 1)] w fun e w' => e = .returned (.bool true) ∧ Frm (fun _ => False) w w' := by
  obtain ⟨i0, hi0, hz0, hz1, hz2⟩ := info_parts Try.info5
  have hl0 := hpl 0 (by omega)
  have hl1 := hpl 1 (by omega)
  have hS0 := st_new (ws_new w ao cp ps)
  go_enter Try.func3, Try.ntmps3
  go_wp2_with fail
  refine (newWriter_any _).mono ?_
  rintro e w1 ⟨rfl, rfl⟩
  go_wp2_with fail
  obtain ⟨M, hM⟩ : ∃ M, M = max (ps 0).length (ps 1).length := ⟨_, rfl⟩
  have hM0 : (ps 0).length ≤ M := by omega
  have hM1 : (ps 1).length ≤ M := by omega
  have hM2 : M ≤ 1000000000 := by omega
  have hM3 : M = (ps 0).length ∨ M = (ps 1).length := by omega
  clear hM
  generalize h4 : w.heap.size + 1 + 1 + 1 + 1 = c7 at *
  generalize h3 : w.heap.size + 1 + 1 + 1 = c6 at *
  generalize h2 : w.heap.size + 1 + 1 = c5 at *
  have H5 : Hid (c5 = w.heap.size + 2) := h2.symm
  have H6 : Hid (c6 = w.heap.size + 3) := by show c6 = w.heap.size + 3; omega
  have H7 : Hid (c7 = w.heap.size + 4) := by show c7 = w.heap.size + 4; omega
  clear h4 h3 h2
  go_loopw [8] (fun i wr => ∃ n : Nat, n ≤ M ∧ i = .int .i64 (n : Int) ∧ St w wr ao cp ps n 0) (fun i _ => M - (intOf i).toNat)
  case atStart => exact ⟨0, Nat.zero_le _, rfl, hS0⟩
  case round =>
    clear hS0
    obtain ⟨n, hn, rfl, hS⟩ := hrel
    by_cases hlt : n < M
    · go_upto_region 7 with fail
      go_cut [33] from 24 to 80 (fun c wx => c = .bool true ∧ wx = wr)
      case first =>
        by_cases hx0 : n < (ps 0).length
        · have q1 : (n : Int) < ((ps 0).length : Int) := by omega
          go_wp2
          go_meet
          exact ⟨rfl, rfl⟩
        · have q1 : ¬ (n : Int) < ((ps 0).length : Int) := by omega
          have q2 : (n : Int) < ((ps 1).length : Int) := by omega
          go_wp2
          go_meet
          exact ⟨rfl, rfl⟩
      case rest =>
        obtain ⟨rfl, rfl⟩ := hcut
        go_wp2_with fail
        go_loopw [9] (fun kk wr => ∃ k : Nat, k ≤ 2 ∧ kk = .int .i64 (k : Int) ∧ St w wr ao cp ps n k) (fun kk _ => 2 - (intOf kk).toNat)
        case atStart => exact ⟨0, Nat.zero_le _, rfl, hS⟩
        case round =>
          clear hS
          obtain ⟨k, hk, rfl, hS⟩ := hrel
          by_cases hk2 : k < 2
          · have hW := hS
            obtain ⟨tag, r, v, hW⟩ := hW
            have hk2' : (k : Int) < 2 := by omega
            have c6k := hW.h6 k hk2
            rw [← H6.out] at c6k
            have hpk := hpl k hk2
            by_cases hin : n < (ps k).length
            · have q1 : (n : Int) < ((ps k).length : Int) := by omega
              obtain ⟨g, o, hao, c0, c1, c2, c3, c4⟩ := (hps k hk2).five n hin
              have hp := (hps k hk2).ins _ (List.getElem_mem hin)
              have hcl := cnt_len (hlen k hk2) n hin
              have HST := hid (fun W tag r v => St.step (w := w) (W := W) (ao := ao) (cp := cp) (ps := ps) (tag := tag) (r := r) (v := v) hk2 hin)
              rw [hao] at c6k
              generalize (ps k)[n] = p at *
              clear hS
              go_wp2_with fail
              go_cut [] from 36 to 80 (fun wx => ∃ tag r v, WS w wx ao cp ps tag r v (cnt ps n k) (upd (cnt ps n k) k (cnt ps n k k ++ putF p)))
              case first =>
                have hLd : Ld w wr.drew c6 k (.slice (some ⟨g, o, none⟩) (ps k).length (cp k)) := ⟨hW.frm.drew, c6k⟩
                have hW1 := hW.grow ((Frm.refl _ _).drew)
                refine wp_region_noPanic ?_
                refine wp_region_held_drew (S := fun W => Ld w W c6 k (.slice (some ⟨g, o, none⟩) (ps k).length (cp k))) (by kernel_rfl) hLd (fun hHeld => ?_)
                generalize wr.drew = W1 at *
                clear hW c6k hLd
                obtain ⟨d1, d2⟩ := hW1.h7 k hk2
                rw [← H7.out] at d1 d2
                have hsz6 : c6 < W1.heap.size := by have := hW1.sz; have := H6.out; omega
                refine' wpAnyH_take (i := 0) rfl (by kernel_rfl) (by kernel_rfl) (by kernel_rfl) (fun _ _ _ h => h) (Or.inl ⟨by rfl, ?_⟩) hHeld ?_
                rotate_left
                · intro W hSw
                  have hSv : Ld w W c6 k (.slice (some ⟨g, o, none⟩) (ps k).length (cp k)) := hSw
                  clear hSw
                  simp only [List.getElem_toArray, List.getElem_cons_zero, List.getElem_cons_succ]
                  go_simp
                  all_goals with_reducible rfl
                simp only [List.getElem_toArray, List.getElem_cons_zero, List.getElem_cons_succ, Act.put, List.setIfInBounds_toArray, List.set_cons_zero, List.set_cons_succ]
                refine' wpAnyH_take (i := 1) rfl (by kernel_rfl) (by kernel_rfl) (by kernel_rfl) (fun _ _ _ h => h) (Or.inl ⟨by rfl, ?_⟩) hHeld ?_
                rotate_left
                · intro W hSw
                  have hSv : Ld w W c6 k (.slice (some ⟨g, o, none⟩) (ps k).length (cp k)) := hSw
                  clear hSw
                  simp only [List.getElem_toArray, List.getElem_cons_zero, List.getElem_cons_succ]
                  go_simp
                  all_goals with_reducible rfl
                simp only [List.getElem_toArray, List.getElem_cons_zero, List.getElem_cons_succ, Act.put, List.setIfInBounds_toArray, List.set_cons_zero, List.set_cons_succ]
                refine' wpAnyH_take (i := 2) rfl (by kernel_rfl) (by kernel_rfl) (by kernel_rfl) (fun _ _ _ h => h) (Or.inl ⟨by rfl, ?_⟩) hHeld ?_
                rotate_left
                · intro W hSw
                  have hSv : Ld w W c6 k (.slice (some ⟨g, o, none⟩) (ps k).length (cp k)) := hSw
                  clear hSw
                  simp only [List.getElem_toArray, List.getElem_cons_zero, List.getElem_cons_succ]
                  go_simp
                  all_goals with_reducible rfl
                simp only [List.getElem_toArray, List.getElem_cons_zero, List.getElem_cons_succ, Act.put, List.setIfInBounds_toArray, List.set_cons_zero, List.set_cons_succ]
                refine' wpAnyH_take (i := 4) rfl (by kernel_rfl) (by kernel_rfl) (by kernel_rfl) (fun _ _ _ h => h) (Or.inl ⟨by rfl, ?_⟩) hHeld ?_
                rotate_left
                · intro W hSw
                  have hSv : Ld w W c6 k (.slice (some ⟨g, o, none⟩) (ps k).length (cp k)) := hSw
                  clear hSw
                  simp only [List.getElem_toArray, List.getElem_cons_zero, List.getElem_cons_succ]
                  go_simp
                  all_goals with_reducible rfl
                simp only [List.getElem_toArray, List.getElem_cons_zero, List.getElem_cons_succ, Act.put, List.setIfInBounds_toArray, List.set_cons_zero, List.set_cons_succ]
                refine' wpAnyH_take (i := 5) rfl (by kernel_rfl) (by kernel_rfl) (by kernel_rfl) (fun _ _ _ h => h) (Or.inl ⟨by rfl, ?_⟩) hHeld ?_
                rotate_left
                · intro W hSw
                  have hSv : Ld w W c6 k (.slice (some ⟨g, o, none⟩) (ps k).length (cp k)) := hSw
                  clear hSw
                  simp only [List.getElem_toArray, List.getElem_cons_zero, List.getElem_cons_succ]
                  go_simp
                  all_goals with_reducible rfl
                simp only [List.getElem_toArray, List.getElem_cons_zero, List.getElem_cons_succ, Act.put, List.setIfInBounds_toArray, List.set_cons_zero, List.set_cons_succ]
                refine' wpAnyH_take (i := 6) rfl (by kernel_rfl) (by kernel_rfl) (by kernel_rfl) (fun _ _ _ h => h) (Or.inl ⟨by rfl, ?_⟩) hHeld ?_
                rotate_left
                · intro W hSw
                  have hSv : Ld w W c6 k (.slice (some ⟨g, o, none⟩) (ps k).length (cp k)) := hSw
                  clear hSw
                  have e1 := hSv.c
                  simp only [List.getElem_toArray, List.getElem_cons_zero, List.getElem_cons_succ]
                  go_simp
                  all_goals with_reducible rfl
                simp only [List.getElem_toArray, List.getElem_cons_zero, List.getElem_cons_succ, Act.put, List.setIfInBounds_toArray, List.set_cons_zero, List.set_cons_succ]
                refine' wpAnyH_take (i := 7) rfl (by kernel_rfl) (by kernel_rfl) (by kernel_rfl) (fun _ _ _ h => h) (Or.inl ⟨by rfl, ?_⟩) hHeld ?_
                rotate_left
                · intro W hSw
                  have hSv : Ld w W c6 k (.slice (some ⟨g, o, none⟩) (ps k).length (cp k)) := hSw
                  clear hSw
                  simp only [List.getElem_toArray, List.getElem_cons_zero, List.getElem_cons_succ]
                  go_simp
                  all_goals with_reducible rfl
                simp only [List.getElem_toArray, List.getElem_cons_zero, List.getElem_cons_succ, Act.put, List.setIfInBounds_toArray, List.set_cons_zero, List.set_cons_succ]
                refine' wpAnyH_take (i := 8) rfl (by kernel_rfl) (by kernel_rfl) (by kernel_rfl) (fun _ _ _ h => h) (Or.inl ⟨by rfl, ?_⟩) hHeld ?_
                rotate_left
                · intro W hSw
                  have hSv : Ld w W c6 k (.slice (some ⟨g, o, none⟩) (ps k).length (cp k)) := hSw
                  clear hSw
                  simp only [List.getElem_toArray, List.getElem_cons_zero, List.getElem_cons_succ]
                  go_simp
                  all_goals with_reducible rfl
                simp only [List.getElem_toArray, List.getElem_cons_zero, List.getElem_cons_succ, Act.put, List.setIfInBounds_toArray, List.set_cons_zero, List.set_cons_succ]
                refine' wpAnyH_take (i := 9) rfl (by kernel_rfl) (by kernel_rfl) (by kernel_rfl) (fun _ _ _ h => h) (Or.inl ⟨by rfl, ?_⟩) hHeld ?_
                rotate_left
                · intro W hSw
                  have hSv : Ld w W c6 k (.slice (some ⟨g, o, none⟩) (ps k).length (cp k)) := hSw
                  clear hSw
                  have e0 := hSv.at c0
                  have e1 := hSv.at c1
                  have e2 := hSv.at c2
                  have e3 := hSv.at c3
                  have e4 := hSv.at c4
                  simp only [List.getElem_toArray, List.getElem_cons_zero, List.getElem_cons_succ]
                  go_simp
                  all_goals with_reducible rfl
                simp only [List.getElem_toArray, List.getElem_cons_zero, List.getElem_cons_succ, Act.put, List.setIfInBounds_toArray, List.set_cons_zero, List.set_cons_succ]
                refine wpAnyH_ready (rs := [3, 10]) (by kernel_rfl) (by simp) ?_
                refine AllReadyH.cons (o := _) rfl (fun K_ hK_ => ?_) (AllReadyH.cons (o := _) rfl (fun K_ hK_ => ?_) AllReadyH.nil)
                · simp only [List.getElem_toArray, List.getElem_cons_zero, List.getElem_cons_succ]
                  go_simp
                  refine hK_.out _ _ hHeld (fun _ => ?_)
                  clear hK_ K_
                  try simp only [Act.put, List.setIfInBounds_toArray, List.set_cons_zero, List.set_cons_succ]
                  refine wpAnyH_ready (rs := [10]) (by kernel_rfl) (by simp) ?_
                  refine AllReadyH.cons (o := _) rfl (fun K_ hK_ => ?_) AllReadyH.nil
                  simp only [List.getElem_toArray, List.getElem_cons_zero, List.getElem_cons_succ]
                  go_simp
                  refine (form_any p _ w.heap.size (by have := hHeld.frm.size; omega) (hp.kept (Nat.le_refl _) hHeld.frm)).mono ?_
                  rintro e W2 ⟨v2, rfl, hown2, hf2⟩
                  have hW2 := hW1.grow hf2
                  have hH2 := hHeld.grow hsz6 hf2
                  refine hK_.out _ _ hH2 (fun _ => ?_)
                  clear hK_ K_ hHeld
                  have hHeld := hH2
                  clear hH2
                  obtain ⟨d1, d2⟩ := hW2.h7 k hk2
                  rw [← H7.out] at d1 d2
                  try simp only [Act.put, List.setIfInBounds_toArray, List.set_cons_zero, List.set_cons_succ]
                  refine wpAnyH_ready (rs := [11]) (by kernel_rfl) (by simp) ?_
                  refine AllReadyH.cons (o := _) rfl (fun K_ hK_ => ?_) AllReadyH.nil
                  refine step_app _ (by rfl) _ _ (by rfl) (w.heap.size + 5) _ (v k) v2 (cnt ps n k k) (putF p) (by rfl) (by rfl) (hW2.own k hk2) hown2 (by omega) hW2.sz ?_
                  intro v3 W3 ho3 hg3 hat3
                  obtain ⟨l1, l2, l3, l4⟩ := hW2.app hk2 H6.out H7.out hg3 hHeld
                  have hfin := hW2.stored hk2 hg3 ho3 hat3
                  rw [← H7.out] at hfin
                  obtain ⟨ao3, cap3, rfl⟩ := slice_of_owns ho3
                  generalize (cnt ps n k k ++ putF p).length = N3 at *
                  refine hK_.out _ _ l1 (fun _ => ?_)
                  clear hK_ K_ hHeld ho3 hg3 hat3 hown2
                  try simp only [Act.put, List.setIfInBounds_toArray, List.set_cons_zero, List.set_cons_succ]
                  have hHeld := l1
                  clear l1
                  refine' wpAnyH_take (i := 12) rfl (by kernel_rfl) (by kernel_rfl) (by kernel_rfl) (fun _ _ _ h => h) (Or.inl ⟨by rfl, ?_⟩) hHeld ?_
                  rotate_left
                  · intro W hSw
                    have hSv : Ld w W c6 k (.slice (some ⟨g, o, none⟩) (ps k).length (cp k)) := hSw
                    clear hSw
                    simp only [List.getElem_toArray, List.getElem_cons_zero, List.getElem_cons_succ]
                    go_simp
                    all_goals with_reducible rfl
                  simp only [List.getElem_toArray, List.getElem_cons_zero, List.getElem_cons_succ, Act.put, List.setIfInBounds_toArray, List.set_cons_zero, List.set_cons_succ]
                  refine wpAnyH_ready (rs := [13]) (by kernel_rfl) (by simp) ?_
                  refine AllReadyH.cons (o := _) rfl (fun K_ hK_ => ?_) AllReadyH.nil
                  simp only [List.getElem_toArray, List.getElem_cons_zero, List.getElem_cons_succ]
                  go_simp
                  refine hK_.out _ _ (l4 _) (fun _ => ?_)
                  clear hK_ K_
                  try simp only [Act.put, List.setIfInBounds_toArray, List.set_cons_zero, List.set_cons_succ]
                  refine wpAnyH_done (by kernel_rfl) ?_ _
                  refine NoPanic.normal ?_
                  obtain ⟨tag3, hfin⟩ := hfin
                  go_wp2
                  go_meet
                  exact ⟨tag3, r, _, hfin⟩
                · simp only [List.getElem_toArray, List.getElem_cons_zero, List.getElem_cons_succ]
                  go_simp
                  refine (form_any p _ w.heap.size (by have := hHeld.frm.size; omega) (hp.kept (Nat.le_refl _) hHeld.frm)).mono ?_
                  rintro e W2 ⟨v2, rfl, hown2, hf2⟩
                  have hW2 := hW1.grow hf2
                  have hH2 := hHeld.grow hsz6 hf2
                  refine hK_.out _ _ hH2 (fun _ => ?_)
                  clear hK_ K_ hHeld
                  have hHeld := hH2
                  clear hH2
                  obtain ⟨d1, d2⟩ := hW2.h7 k hk2
                  rw [← H7.out] at d1 d2
                  try simp only [Act.put, List.setIfInBounds_toArray, List.set_cons_zero, List.set_cons_succ]
                  refine wpAnyH_ready (rs := [3]) (by kernel_rfl) (by simp) ?_
                  refine AllReadyH.cons (o := _) rfl (fun K_ hK_ => ?_) AllReadyH.nil
                  simp only [List.getElem_toArray, List.getElem_cons_zero, List.getElem_cons_succ]
                  go_simp
                  refine hK_.out _ _ hHeld (fun _ => ?_)
                  clear hK_ K_
                  try simp only [Act.put, List.setIfInBounds_toArray, List.set_cons_zero, List.set_cons_succ]
                  refine wpAnyH_ready (rs := [11]) (by kernel_rfl) (by simp) ?_
                  refine AllReadyH.cons (o := _) rfl (fun K_ hK_ => ?_) AllReadyH.nil
                  refine step_app _ (by rfl) _ _ (by rfl) (w.heap.size + 5) _ (v k) v2 (cnt ps n k k) (putF p) (by rfl) (by rfl) (hW2.own k hk2) hown2 (by omega) hW2.sz ?_
                  intro v3 W3 ho3 hg3 hat3
                  obtain ⟨l1, l2, l3, l4⟩ := hW2.app hk2 H6.out H7.out hg3 hHeld
                  have hfin := hW2.stored hk2 hg3 ho3 hat3
                  rw [← H7.out] at hfin
                  obtain ⟨ao3, cap3, rfl⟩ := slice_of_owns ho3
                  generalize (cnt ps n k k ++ putF p).length = N3 at *
                  refine hK_.out _ _ l1 (fun _ => ?_)
                  clear hK_ K_ hHeld ho3 hg3 hat3 hown2
                  try simp only [Act.put, List.setIfInBounds_toArray, List.set_cons_zero, List.set_cons_succ]
                  have hHeld := l1
                  clear l1
                  refine' wpAnyH_take (i := 12) rfl (by kernel_rfl) (by kernel_rfl) (by kernel_rfl) (fun _ _ _ h => h) (Or.inl ⟨by rfl, ?_⟩) hHeld ?_
                  rotate_left
                  · intro W hSw
                    have hSv : Ld w W c6 k (.slice (some ⟨g, o, none⟩) (ps k).length (cp k)) := hSw
                    clear hSw
                    simp only [List.getElem_toArray, List.getElem_cons_zero, List.getElem_cons_succ]
                    go_simp
                    all_goals with_reducible rfl
                  simp only [List.getElem_toArray, List.getElem_cons_zero, List.getElem_cons_succ, Act.put, List.setIfInBounds_toArray, List.set_cons_zero, List.set_cons_succ]
                  refine wpAnyH_ready (rs := [13]) (by kernel_rfl) (by simp) ?_
                  refine AllReadyH.cons (o := _) rfl (fun K_ hK_ => ?_) AllReadyH.nil
                  simp only [List.getElem_toArray, List.getElem_cons_zero, List.getElem_cons_succ]
                  go_simp
                  refine hK_.out _ _ (l4 _) (fun _ => ?_)
                  clear hK_ K_
                  try simp only [Act.put, List.setIfInBounds_toArray, List.set_cons_zero, List.set_cons_succ]
                  refine wpAnyH_done (by kernel_rfl) ?_ _
                  refine NoPanic.normal ?_
                  obtain ⟨tag3, hfin⟩ := hfin
                  go_wp2
                  go_meet
                  exact ⟨tag3, r, _, hfin⟩
              case rest =>
                obtain ⟨tag2, r2, v2, hW2⟩ := hcut
                clear hW c6k
                have hown7 := hW2.own k hk2
                rw [upd_same] at hown7
                have hzl : (cnt ps n k k ++ putF p).length ≤ 100000000000 := by rw [List.length_append]; exact hcl
                have HPUT := hid (fun W (h1 : Wr W (w.heap.size + k) (r2 k) (cnt ps n k k)) (h2 : p.In W w.heap.size) => puts_any (w.heap.size + k) (r2 k) (cnt ps n k k) p W h1 w.heap.size (by omega) (hW2.rge hk2) h2 (by omega))
                generalize cnt ps n k k ++ putF p = zs at *
                obtain ⟨ao7, cap7, hv7⟩ := slice_of_owns hown7
                clear hown7
                go_wp2_with fail
                have hLd := (hW2.grow ((Frm.refl _ _).drew)).l14 hk2 H5.out H6.out H7.out hao hv7
                have hW3 := hW2.grow ((Frm.refl _ _).drew)
                refine wp_region_noPanic ?_
                refine wp_region_held_drew (S := fun W => L14 w W c5 c6 c7 k (.slice (some ⟨g, o, none⟩) (ps k).length (cp k)) (.slice ao7 zs.length cap7)) (by kernel_rfl) hLd (fun hHeld => ?_)
                generalize wc.drew = W1 at *
                clear hW2 hLd
                refine' wpAnyH_take (i := 0) rfl (by kernel_rfl) (by kernel_rfl) (by kernel_rfl) (fun _ _ _ h => h) (Or.inl ⟨by rfl, ?_⟩) hHeld ?_
                rotate_left
                · intro W hSw
                  have hSv : L14 w W c5 c6 c7 k (.slice (some ⟨g, o, none⟩) (ps k).length (cp k)) (.slice ao7 zs.length cap7) := hSw
                  clear hSw
                  simp only [List.getElem_toArray, List.getElem_cons_zero, List.getElem_cons_succ]
                  go_simp
                  all_goals with_reducible rfl
                simp only [List.getElem_toArray, List.getElem_cons_zero, List.getElem_cons_succ, Act.put, List.setIfInBounds_toArray, List.set_cons_zero, List.set_cons_succ]
                refine' wpAnyH_take (i := 1) rfl (by kernel_rfl) (by kernel_rfl) (by kernel_rfl) (fun _ _ _ h => h) (Or.inl ⟨by rfl, ?_⟩) hHeld ?_
                rotate_left
                · intro W hSw
                  have hSv : L14 w W c5 c6 c7 k (.slice (some ⟨g, o, none⟩) (ps k).length (cp k)) (.slice ao7 zs.length cap7) := hSw
                  clear hSw
                  simp only [List.getElem_toArray, List.getElem_cons_zero, List.getElem_cons_succ]
                  go_simp
                  all_goals with_reducible rfl
                simp only [List.getElem_toArray, List.getElem_cons_zero, List.getElem_cons_succ, Act.put, List.setIfInBounds_toArray, List.set_cons_zero, List.set_cons_succ]
                refine' wpAnyH_take (i := 2) rfl (by kernel_rfl) (by kernel_rfl) (by kernel_rfl) (fun _ _ _ h => h) (Or.inl ⟨by rfl, ?_⟩) hHeld ?_
                rotate_left
                · intro W hSw
                  have hSv : L14 w W c5 c6 c7 k (.slice (some ⟨g, o, none⟩) (ps k).length (cp k)) (.slice ao7 zs.length cap7) := hSw
                  clear hSw
                  have e1 := hSv.a5
                  simp only [List.getElem_toArray, List.getElem_cons_zero, List.getElem_cons_succ]
                  go_simp
                  all_goals with_reducible rfl
                simp only [List.getElem_toArray, List.getElem_cons_zero, List.getElem_cons_succ, Act.put, List.setIfInBounds_toArray, List.set_cons_zero, List.set_cons_succ]
                refine' wpAnyH_take (i := 3) rfl (by kernel_rfl) (by kernel_rfl) (by kernel_rfl) (fun _ _ _ h => h) (Or.inl ⟨by rfl, ?_⟩) hHeld ?_
                rotate_left
                · intro W hSw
                  have hSv : L14 w W c5 c6 c7 k (.slice (some ⟨g, o, none⟩) (ps k).length (cp k)) (.slice ao7 zs.length cap7) := hSw
                  clear hSw
                  simp only [List.getElem_toArray, List.getElem_cons_zero, List.getElem_cons_succ]
                  go_simp
                  all_goals with_reducible rfl
                simp only [List.getElem_toArray, List.getElem_cons_zero, List.getElem_cons_succ, Act.put, List.setIfInBounds_toArray, List.set_cons_zero, List.set_cons_succ]
                refine' wpAnyH_take (i := 4) rfl (by kernel_rfl) (by kernel_rfl) (by kernel_rfl) (fun _ _ _ h => h) (Or.inl ⟨by rfl, ?_⟩) hHeld ?_
                rotate_left
                · intro W hSw
                  have hSv : L14 w W c5 c6 c7 k (.slice (some ⟨g, o, none⟩) (ps k).length (cp k)) (.slice ao7 zs.length cap7) := hSw
                  clear hSw
                  simp only [List.getElem_toArray, List.getElem_cons_zero, List.getElem_cons_succ]
                  go_simp
                  all_goals with_reducible rfl
                simp only [List.getElem_toArray, List.getElem_cons_zero, List.getElem_cons_succ, Act.put, List.setIfInBounds_toArray, List.set_cons_zero, List.set_cons_succ]
                refine' wpAnyH_take (i := 5) rfl (by kernel_rfl) (by kernel_rfl) (by kernel_rfl) (fun _ _ _ h => h) (Or.inl ⟨by rfl, ?_⟩) hHeld ?_
                rotate_left
                · intro W hSw
                  have hSv : L14 w W c5 c6 c7 k (.slice (some ⟨g, o, none⟩) (ps k).length (cp k)) (.slice ao7 zs.length cap7) := hSw
                  clear hSw
                  have e1 := hSv.a6
                  simp only [List.getElem_toArray, List.getElem_cons_zero, List.getElem_cons_succ]
                  go_simp
                  all_goals with_reducible rfl
                simp only [List.getElem_toArray, List.getElem_cons_zero, List.getElem_cons_succ, Act.put, List.setIfInBounds_toArray, List.set_cons_zero, List.set_cons_succ]
                refine' wpAnyH_take (i := 6) rfl (by kernel_rfl) (by kernel_rfl) (by kernel_rfl) (fun _ _ _ h => h) (Or.inl ⟨by rfl, ?_⟩) hHeld ?_
                rotate_left
                · intro W hSw
                  have hSv : L14 w W c5 c6 c7 k (.slice (some ⟨g, o, none⟩) (ps k).length (cp k)) (.slice ao7 zs.length cap7) := hSw
                  clear hSw
                  simp only [List.getElem_toArray, List.getElem_cons_zero, List.getElem_cons_succ]
                  go_simp
                  all_goals with_reducible rfl
                simp only [List.getElem_toArray, List.getElem_cons_zero, List.getElem_cons_succ, Act.put, List.setIfInBounds_toArray, List.set_cons_zero, List.set_cons_succ]
                refine' wpAnyH_take (i := 7) rfl (by kernel_rfl) (by kernel_rfl) (by kernel_rfl) (fun _ _ _ h => h) (Or.inl ⟨by rfl, ?_⟩) hHeld ?_
                rotate_left
                · intro W hSw
                  have hSv : L14 w W c5 c6 c7 k (.slice (some ⟨g, o, none⟩) (ps k).length (cp k)) (.slice ao7 zs.length cap7) := hSw
                  clear hSw
                  simp only [List.getElem_toArray, List.getElem_cons_zero, List.getElem_cons_succ]
                  go_simp
                  all_goals with_reducible rfl
                simp only [List.getElem_toArray, List.getElem_cons_zero, List.getElem_cons_succ, Act.put, List.setIfInBounds_toArray, List.set_cons_zero, List.set_cons_succ]
                refine' wpAnyH_take (i := 8) rfl (by kernel_rfl) (by kernel_rfl) (by kernel_rfl) (fun _ _ _ h => h) (Or.inl ⟨by rfl, ?_⟩) hHeld ?_
                rotate_left
                · intro W hSw
                  have hSv : L14 w W c5 c6 c7 k (.slice (some ⟨g, o, none⟩) (ps k).length (cp k)) (.slice ao7 zs.length cap7) := hSw
                  clear hSw
                  have e0 := hSv.at c0
                  have e1 := hSv.at c1
                  have e2 := hSv.at c2
                  have e3 := hSv.at c3
                  have e4 := hSv.at c4
                  simp only [List.getElem_toArray, List.getElem_cons_zero, List.getElem_cons_succ]
                  go_simp
                  all_goals with_reducible rfl
                simp only [List.getElem_toArray, List.getElem_cons_zero, List.getElem_cons_succ, Act.put, List.setIfInBounds_toArray, List.set_cons_zero, List.set_cons_succ]
                refine wpAnyH_ready (rs := [9]) (by kernel_rfl) (by simp) ?_
                refine AllReadyH.cons (o := _) rfl (fun K_ hK_ => ?_) AllReadyH.nil
                simp only [List.getElem_toArray, List.getElem_cons_zero, List.getElem_cons_succ]
                go_simp
                refine (HPUT.out _ (hW3.wr k hk2) (hp.kept (Nat.le_refl _) hHeld.frm)).mono ?_
                rintro e W2 ⟨rfl, ho⟩
                obtain ⟨tag4, r4, hW4⟩ := hW3.wrote hk2 ho
                have hwr4 := hW4.wr k hk2
                rw [upd_same] at hwr4
                clear hHeld
                have hHeld := hW4.l14 hk2 H5.out H6.out H7.out hao hv7
                refine hK_.out _ _ hHeld (fun _ => ?_)
                clear hK_ K_ hW3 ho
                try simp only [Act.put, List.setIfInBounds_toArray, List.set_cons_zero, List.set_cons_succ]
                refine' wpAnyH_take (i := 10) rfl (by kernel_rfl) (by kernel_rfl) (by kernel_rfl) (fun _ _ _ h => h) (Or.inl ⟨by rfl, ?_⟩) hHeld ?_
                rotate_left
                · intro W hSw
                  have hSv : L14 w W c5 c6 c7 k (.slice (some ⟨g, o, none⟩) (ps k).length (cp k)) (.slice ao7 zs.length cap7) := hSw
                  clear hSw
                  simp only [List.getElem_toArray, List.getElem_cons_zero, List.getElem_cons_succ]
                  go_simp
                  all_goals with_reducible rfl
                simp only [List.getElem_toArray, List.getElem_cons_zero, List.getElem_cons_succ, Act.put, List.setIfInBounds_toArray, List.set_cons_zero, List.set_cons_succ]
                refine' wpAnyH_take (i := 11) rfl (by kernel_rfl) (by kernel_rfl) (by kernel_rfl) (fun _ _ _ h => h) (Or.inl ⟨by rfl, ?_⟩) hHeld ?_
                rotate_left
                · intro W hSw
                  have hSv : L14 w W c5 c6 c7 k (.slice (some ⟨g, o, none⟩) (ps k).length (cp k)) (.slice ao7 zs.length cap7) := hSw
                  clear hSw
                  simp only [List.getElem_toArray, List.getElem_cons_zero, List.getElem_cons_succ]
                  go_simp
                  all_goals with_reducible rfl
                simp only [List.getElem_toArray, List.getElem_cons_zero, List.getElem_cons_succ, Act.put, List.setIfInBounds_toArray, List.set_cons_zero, List.set_cons_succ]
                refine' wpAnyH_take (i := 12) rfl (by kernel_rfl) (by kernel_rfl) (by kernel_rfl) (fun _ _ _ h => h) (Or.inl ⟨by rfl, ?_⟩) hHeld ?_
                rotate_left
                · intro W hSw
                  have hSv : L14 w W c5 c6 c7 k (.slice (some ⟨g, o, none⟩) (ps k).length (cp k)) (.slice ao7 zs.length cap7) := hSw
                  clear hSw
                  simp only [List.getElem_toArray, List.getElem_cons_zero, List.getElem_cons_succ]
                  go_simp
                  all_goals with_reducible rfl
                simp only [List.getElem_toArray, List.getElem_cons_zero, List.getElem_cons_succ, Act.put, List.setIfInBounds_toArray, List.set_cons_zero, List.set_cons_succ]
                refine' wpAnyH_take (i := 13) rfl (by kernel_rfl) (by kernel_rfl) (by kernel_rfl) (fun _ _ _ h => h) (Or.inl ⟨by rfl, ?_⟩) hHeld ?_
                rotate_left
                · intro W hSw
                  have hSv : L14 w W c5 c6 c7 k (.slice (some ⟨g, o, none⟩) (ps k).length (cp k)) (.slice ao7 zs.length cap7) := hSw
                  clear hSw
                  simp only [List.getElem_toArray, List.getElem_cons_zero, List.getElem_cons_succ]
                  go_simp
                  all_goals with_reducible rfl
                simp only [List.getElem_toArray, List.getElem_cons_zero, List.getElem_cons_succ, Act.put, List.setIfInBounds_toArray, List.set_cons_zero, List.set_cons_succ]
                refine' wpAnyH_take (i := 14) rfl (by kernel_rfl) (by kernel_rfl) (by kernel_rfl) (fun _ _ _ h => h) (Or.inl ⟨by rfl, ?_⟩) hHeld ?_
                rotate_left
                · intro W hSw
                  have hSv : L14 w W c5 c6 c7 k (.slice (some ⟨g, o, none⟩) (ps k).length (cp k)) (.slice ao7 zs.length cap7) := hSw
                  clear hSw
                  have e1 := hSv.a5
                  simp only [List.getElem_toArray, List.getElem_cons_zero, List.getElem_cons_succ]
                  go_simp
                  all_goals with_reducible rfl
                simp only [List.getElem_toArray, List.getElem_cons_zero, List.getElem_cons_succ, Act.put, List.setIfInBounds_toArray, List.set_cons_zero, List.set_cons_succ]
                refine' wpAnyH_take (i := 16) rfl (by kernel_rfl) (by kernel_rfl) (by kernel_rfl) (fun _ _ _ h => h) (Or.inl ⟨by rfl, ?_⟩) hHeld ?_
                rotate_left
                · intro W hSw
                  have hSv : L14 w W c5 c6 c7 k (.slice (some ⟨g, o, none⟩) (ps k).length (cp k)) (.slice ao7 zs.length cap7) := hSw
                  clear hSw
                  simp only [List.getElem_toArray, List.getElem_cons_zero, List.getElem_cons_succ]
                  go_simp
                  all_goals with_reducible rfl
                simp only [List.getElem_toArray, List.getElem_cons_zero, List.getElem_cons_succ, Act.put, List.setIfInBounds_toArray, List.set_cons_zero, List.set_cons_succ]
                refine' wpAnyH_take (i := 17) rfl (by kernel_rfl) (by kernel_rfl) (by kernel_rfl) (fun _ _ _ h => h) (Or.inl ⟨by rfl, ?_⟩) hHeld ?_
                rotate_left
                · intro W hSw
                  have hSv : L14 w W c5 c6 c7 k (.slice (some ⟨g, o, none⟩) (ps k).length (cp k)) (.slice ao7 zs.length cap7) := hSw
                  clear hSw
                  simp only [List.getElem_toArray, List.getElem_cons_zero, List.getElem_cons_succ]
                  go_simp
                  all_goals with_reducible rfl
                simp only [List.getElem_toArray, List.getElem_cons_zero, List.getElem_cons_succ, Act.put, List.setIfInBounds_toArray, List.set_cons_zero, List.set_cons_succ]
                refine' wpAnyH_take (i := 18) rfl (by kernel_rfl) (by kernel_rfl) (by kernel_rfl) (fun _ _ _ h => h) (Or.inl ⟨by rfl, ?_⟩) hHeld ?_
                rotate_left
                · intro W hSw
                  have hSv : L14 w W c5 c6 c7 k (.slice (some ⟨g, o, none⟩) (ps k).length (cp k)) (.slice ao7 zs.length cap7) := hSw
                  clear hSw
                  have e1 := hSv.a7
                  simp only [List.getElem_toArray, List.getElem_cons_zero, List.getElem_cons_succ]
                  go_simp
                  all_goals with_reducible rfl
                simp only [List.getElem_toArray, List.getElem_cons_zero, List.getElem_cons_succ, Act.put, List.setIfInBounds_toArray, List.set_cons_zero, List.set_cons_succ]
                refine' wpAnyH_take (i := 19) rfl (by kernel_rfl) (by kernel_rfl) (by kernel_rfl) (fun _ _ _ h => h) (Or.inl ⟨by rfl, ?_⟩) hHeld ?_
                rotate_left
                · intro W hSw
                  have hSv : L14 w W c5 c6 c7 k (.slice (some ⟨g, o, none⟩) (ps k).length (cp k)) (.slice ao7 zs.length cap7) := hSw
                  clear hSw
                  simp only [List.getElem_toArray, List.getElem_cons_zero, List.getElem_cons_succ]
                  go_simp
                  all_goals with_reducible rfl
                simp only [List.getElem_toArray, List.getElem_cons_zero, List.getElem_cons_succ, Act.put, List.setIfInBounds_toArray, List.set_cons_zero, List.set_cons_succ]
                refine wpAnyH_ready (rs := [15]) (by kernel_rfl) (by simp) ?_
                refine AllReadyH.cons (o := _) rfl (fun K_ hK_ => ?_) AllReadyH.nil
                simp only [List.getElem_toArray, List.getElem_cons_zero, List.getElem_cons_succ]
                go_simp
                refine (wlen_any (w.heap.size + k) _ zs _ hwr4).mono ?_
                rintro e W5 ⟨rfl, rfl⟩
                refine hK_.out _ _ hHeld (fun _ => ?_)
                clear hK_ K_
                try simp only [Act.put, List.setIfInBounds_toArray, List.set_cons_zero, List.set_cons_succ]
                refine' wpAnyH_take (i := 20) rfl (by kernel_rfl) (by kernel_rfl) (by kernel_rfl) (fun _ _ _ h => h) (Or.inl ⟨by rfl, ?_⟩) hHeld ?_
                rotate_left
                · intro W hSw
                  have hSv : L14 w W c5 c6 c7 k (.slice (some ⟨g, o, none⟩) (ps k).length (cp k)) (.slice ao7 zs.length cap7) := hSw
                  clear hSw
                  simp only [List.getElem_toArray, List.getElem_cons_zero, List.getElem_cons_succ]
                  go_simp
                  all_goals with_reducible rfl
                simp only [List.getElem_toArray, List.getElem_cons_zero, List.getElem_cons_succ, Act.put, List.setIfInBounds_toArray, List.set_cons_zero, List.set_cons_succ]
                refine' wpAnyH_take (i := 21) rfl (by kernel_rfl) (by kernel_rfl) (by kernel_rfl) (fun _ _ _ h => h) (Or.inl ⟨by rfl, ?_⟩) hHeld ?_
                rotate_left
                · intro W hSw
                  have hSv : L14 w W c5 c6 c7 k (.slice (some ⟨g, o, none⟩) (ps k).length (cp k)) (.slice ao7 zs.length cap7) := hSw
                  clear hSw
                  simp only [List.getElem_toArray, List.getElem_cons_zero, List.getElem_cons_succ]
                  go_simp
                  all_goals with_reducible rfl
                simp only [List.getElem_toArray, List.getElem_cons_zero, List.getElem_cons_succ, Act.put, List.setIfInBounds_toArray, List.set_cons_zero, List.set_cons_succ]
                refine wpAnyH_done (by kernel_rfl) ?_ _
                refine NoPanic.normal ?_
                have hS2 := HST.out _ _ _ _ hW4
                clear hHeld hwr4 hW4 HST HPUT
                go_wp2
                go_roundw
                case rel => exact ⟨k + 1, by omega, by go_num, hS2⟩
                case measure => simp [intOf]; omega
            · have q1 : ¬ (n : Int) < ((ps k).length : Int) := by omega
              have hS2 := hS.skip (by omega)
              clear hW hS
              go_wp2
              go_roundw
              case rel => exact ⟨k + 1, by omega, by go_num, hS2⟩
              case measure => simp [intOf]; omega
          · obtain rfl : k = 2 := by omega
            have hS2 := hS.next
            clear hS
            go_wp2
            go_roundw
            case rel => exact ⟨n + 1, by omega, by go_num, hS2⟩
            case measure => simp [intOf]; omega
    · have z0 : ¬ (n : Int) < ((ps 0).length : Int) := by omega
      have z1 : ¬ (n : Int) < ((ps 1).length : Int) := by omega
      have hF := hS.fin (by omega) (by omega)
      clear hS
      go_wp2_with fail
      go_loopw [10] (fun kk wr => ∃ k : Nat, k ≤ 2 ∧ kk = .int .i64 (k : Int) ∧ Fin w wr ao cp ps) (fun kk _ => 2 - (intOf kk).toNat)
      case atStart => exact ⟨0, Nat.zero_le _, rfl, hF⟩
      case round =>
        clear hF
        obtain ⟨k, hk, rfl, tag, r, v, hW⟩ := hrel
        by_cases hk2 : k < 2
        · have hk2' : (k : Int) < 2 := by omega
          have hX : (allF ps k).length ≤ 100000000000 := hlen k hk2
          obtain ⟨ao7, cap7, hv7⟩ := slice_of_owns (hW.own k hk2)
          go_wp2_with fail
          have hW1 := hW.grow ((Frm.refl _ _).drew)
          refine wp_region_noPanic ?_
          refine wp_region_held_drew (S := fun W => WS w W ao cp ps tag r v (allF ps) (allF ps)) (by kernel_rfl) hW1 (fun hHeld => ?_)
          generalize wr.drew = W1 at *
          clear hW hW1
          refine' wpAnyH_take (i := 0) rfl (by kernel_rfl) (by kernel_rfl) (by kernel_rfl) (fun _ _ _ h => h) (Or.inl ⟨by rfl, ?_⟩) hHeld ?_
          rotate_left
          · intro W hSw
            have hSv : WS w W ao cp ps tag r v (allF ps) (allF ps) := hSw
            clear hSw
            simp only [List.getElem_toArray, List.getElem_cons_zero, List.getElem_cons_succ]
            go_simp
            all_goals with_reducible rfl
          simp only [List.getElem_toArray, List.getElem_cons_zero, List.getElem_cons_succ, Act.put, List.setIfInBounds_toArray, List.set_cons_zero, List.set_cons_succ]
          refine' wpAnyH_take (i := 1) rfl (by kernel_rfl) (by kernel_rfl) (by kernel_rfl) (fun _ _ _ h => h) (Or.inl ⟨by rfl, ?_⟩) hHeld ?_
          rotate_left
          · intro W hSw
            have hSv : WS w W ao cp ps tag r v (allF ps) (allF ps) := hSw
            clear hSw
            simp only [List.getElem_toArray, List.getElem_cons_zero, List.getElem_cons_succ]
            go_simp
            all_goals with_reducible rfl
          simp only [List.getElem_toArray, List.getElem_cons_zero, List.getElem_cons_succ, Act.put, List.setIfInBounds_toArray, List.set_cons_zero, List.set_cons_succ]
          refine' wpAnyH_take (i := 2) rfl (by kernel_rfl) (by kernel_rfl) (by kernel_rfl) (fun _ _ _ h => h) (Or.inl ⟨by rfl, ?_⟩) hHeld ?_
          rotate_left
          · intro W hSw
            have hSv : WS w W ao cp ps tag r v (allF ps) (allF ps) := hSw
            clear hSw
            have e1 := hSv.h5 k hk2
            rw [← H5.out] at e1
            simp only [List.getElem_toArray, List.getElem_cons_zero, List.getElem_cons_succ]
            go_simp
            all_goals with_reducible rfl
          simp only [List.getElem_toArray, List.getElem_cons_zero, List.getElem_cons_succ, Act.put, List.setIfInBounds_toArray, List.set_cons_zero, List.set_cons_succ]
          refine' wpAnyH_take (i := 4) rfl (by kernel_rfl) (by kernel_rfl) (by kernel_rfl) (fun _ _ _ h => h) (Or.inl ⟨by rfl, ?_⟩) hHeld ?_
          rotate_left
          · intro W hSw
            have hSv : WS w W ao cp ps tag r v (allF ps) (allF ps) := hSw
            clear hSw
            simp only [List.getElem_toArray, List.getElem_cons_zero, List.getElem_cons_succ]
            go_simp
            all_goals with_reducible rfl
          simp only [List.getElem_toArray, List.getElem_cons_zero, List.getElem_cons_succ, Act.put, List.setIfInBounds_toArray, List.set_cons_zero, List.set_cons_succ]
          refine' wpAnyH_take (i := 5) rfl (by kernel_rfl) (by kernel_rfl) (by kernel_rfl) (fun _ _ _ h => h) (Or.inl ⟨by rfl, ?_⟩) hHeld ?_
          rotate_left
          · intro W hSw
            have hSv : WS w W ao cp ps tag r v (allF ps) (allF ps) := hSw
            clear hSw
            simp only [List.getElem_toArray, List.getElem_cons_zero, List.getElem_cons_succ]
            go_simp
            all_goals with_reducible rfl
          simp only [List.getElem_toArray, List.getElem_cons_zero, List.getElem_cons_succ, Act.put, List.setIfInBounds_toArray, List.set_cons_zero, List.set_cons_succ]
          refine' wpAnyH_take (i := 6) rfl (by kernel_rfl) (by kernel_rfl) (by kernel_rfl) (fun _ _ _ h => h) (Or.inl ⟨by rfl, ?_⟩) hHeld ?_
          rotate_left
          · intro W hSw
            have hSv : WS w W ao cp ps tag r v (allF ps) (allF ps) := hSw
            clear hSw
            have e1 := hSv.h5 k hk2
            rw [← H5.out] at e1
            simp only [List.getElem_toArray, List.getElem_cons_zero, List.getElem_cons_succ]
            go_simp
            all_goals with_reducible rfl
          simp only [List.getElem_toArray, List.getElem_cons_zero, List.getElem_cons_succ, Act.put, List.setIfInBounds_toArray, List.set_cons_zero, List.set_cons_succ]
          have hW1 := hHeld
          refine wpAnyH_ready (rs := [3]) (by kernel_rfl) (by simp) ?_
          refine AllReadyH.cons (o := _) rfl (fun K_ hK_ => ?_) AllReadyH.nil
          simp only [List.getElem_toArray, List.getElem_cons_zero, List.getElem_cons_succ]
          go_simp
          refine (wbytes_any _ _ _ _ (hHeld.wr k hk2) (by omega)).mono ?_
          rintro e W2 ⟨vx, rfl, hx, hf2⟩
          have hH2 := hHeld.grow hf2
          refine hK_.out _ _ hH2 (fun _ => ?_)
          clear hK_ K_ hHeld
          have hHeld := hH2
          clear hH2
          try simp only [Act.put, List.setIfInBounds_toArray, List.set_cons_zero, List.set_cons_succ]
          refine wpAnyH_ready (rs := [7]) (by kernel_rfl) (by simp) ?_
          refine AllReadyH.cons (o := _) rfl (fun K_ hK_ => ?_) AllReadyH.nil
          simp only [List.getElem_toArray, List.getElem_cons_zero, List.getElem_cons_succ]
          go_simp
          refine (wbytes_any _ _ _ _ (hHeld.wr k hk2) (by omega)).mono ?_
          rintro e W3 ⟨vy, rfl, hy, hf3⟩
          have hH2 := hHeld.grow hf3
          refine hK_.out _ _ hH2 (fun _ => ?_)
          clear hK_ K_ hHeld
          have hHeld := hH2
          clear hH2
          try simp only [Act.put, List.setIfInBounds_toArray, List.set_cons_zero, List.set_cons_succ]
          have hXY := XY.new hW1 hx hf2 hy hf3
          obtain ⟨aox, capx, rfl⟩ := slice_of_owns hx.2
          obtain ⟨aoy, capy, rfl⟩ := slice_of_owns hy.2
          refine' wpAnyH_take (i := 8) rfl (by kernel_rfl) (by kernel_rfl) (by kernel_rfl) (fun _ _ _ h => h) (Or.inl ⟨by rfl, ?_⟩) hHeld ?_
          rotate_left
          · intro W hSw
            have hSv : WS w W ao cp ps tag r v (allF ps) (allF ps) := hSw
            clear hSw
            simp only [List.getElem_toArray, List.getElem_cons_zero, List.getElem_cons_succ]
            go_simp
            all_goals with_reducible rfl
          simp only [List.getElem_toArray, List.getElem_cons_zero, List.getElem_cons_succ, Act.put, List.setIfInBounds_toArray, List.set_cons_zero, List.set_cons_succ]
          refine' wpAnyH_take (i := 9) rfl (by kernel_rfl) (by kernel_rfl) (by kernel_rfl) (fun _ _ _ h => h) (Or.inl ⟨by rfl, ?_⟩) hHeld ?_
          rotate_left
          · intro W hSw
            have hSv : WS w W ao cp ps tag r v (allF ps) (allF ps) := hSw
            clear hSw
            simp only [List.getElem_toArray, List.getElem_cons_zero, List.getElem_cons_succ]
            go_simp
            all_goals with_reducible rfl
          simp only [List.getElem_toArray, List.getElem_cons_zero, List.getElem_cons_succ, Act.put, List.setIfInBounds_toArray, List.set_cons_zero, List.set_cons_succ]
          refine wpAnyH_done (by kernel_rfl) ?_ _
          refine NoPanic.normal ?_
          have hrx := hx.kept hf3 (fun _ _ e => e)
          have hcx := fun m => conv_own (hrx.kept (S := fun _ => False) ((Frm.refl _ W3).drewN m) (fun _ _ e => e)).2
          have hcw := fun m => (hXY.ws.grow ((Frm.refl _ W3).drewN m)).own k hk2
          simp only [hv7] at hcw
          have hcw2 := fun m => conv_own (hcw m)
          have d1 := (hXY.ws.h7 k hk2).1
          rw [← H7.out, hv7] at d1
          clear hHeld hx hy hf2 hf3 hcw
          generalize W1.heap.size = D at *
          clear hW1
          generalize hsx : (⟨(allF ps k).toArray⟩ : ByteArray) = sx at *
          have HSX := hid hsx
          clear hsx
          go_wp2_with fail
          go_quiet (fail)
          have hXY2 := hXY.grow ((Frm.refl _ W3).drewN nq)
          have hrx2 := hrx.kept (S := fun _ => False) ((Frm.refl _ W3).drewN nq) (fun _ _ e => e)
          generalize W3.drewN nq = W4 at *
          clear hXY hrx hcx hcw2 d1
          go_wp2_with fail
          refine (spoil_any _ D _ (allF ps k) _ hrx2 (by omega)).mono ?_
          rintro e W5 ⟨rfl, zs5, hz5, hr5, hf5⟩
          have hXY5 := hXY2.turn hf5 hz5 hr5.2 (.inl rfl)
          clear hXY2 hrx2 hr5 hf5
          generalize hLL : (allF ps k).length = L at *
          have HLL := hid hLL
          clear hLL
          go_wp2_with fail
          go_loopw [11, 13] (fun x i wr => ∃ j : Nat, j ≤ 20 ∧ i = .int .i64 (j : Int) ∧ XY w wr ao cp ps tag r v D (allF ps k) (.slice aoy L capy) x (L + j)) (fun _ i _ => 20 - (intOf i).toNat)
          case atStart => exact ⟨0, Nat.zero_le _, rfl, hXY5⟩
          case round =>
            clear hXY5
            obtain ⟨j, hj, rfl, hXY⟩ := hrel
            by_cases hj2 : j < 20
            · obtain ⟨zs, hzl, hzo⟩ := hXY.xo
              have hds := hXY.ds
              have HX := hid (fun (W1 : World) (g3 cap3 : Nat) => hXY.more' (W1 := W1) (o := .cells #[.int .u8 99] 5) (g3 := g3) (cap3 := cap3) hzl rfl)
              unfold OwnB at hzo
              rw [hzl] at hzo
              clear hXY
              go_wp2_with (at_builtin; refine wpList_append_lies _ (by rfl) _ _ 25 (by rfl) D 5 i0 _ 1 1 Try.underlying25 hi0 hz0 hz1 hz2 rfl (by omega) u11 (L + j) (zs.map byteV) (by rfl) (hzo.alloc _) ⟨_, 0, none⟩ 1 1 [.int .u8 99] (by rfl) (by rfl) (World.news_of_block (cs := #[.int .u8 99]) (t := 5) (fr := (0, 0)) (heap_alloc_new _ _)) (by simp [Value.oneCell']) (by omega) (by unfold maxLen; omega) (by omega) (by simp; omega) _ rfl ?_; intro g3 cap3 w3 hown3 hgrow3 hat3 _; have hXY3 := HX.out _ _ _ hgrow3 hown3 hat3; clear hown3 hgrow3 hat3)
              clear HX hzo
              go_wp2
              go_roundw
              case rel => exact ⟨j + 1, by omega, by go_num, hXY3⟩
              case measure => simp [intOf]; omega
            · obtain rfl : j = 20 := by omega
              obtain ⟨aoj, capj, rfl⟩ := hXY.form
              have hN : 20 ≤ L + 20 := by omega
              generalize L + 20 = N at *
              have hN' : ¬ (N : Int) < 20 := by omega
              go_wp2_with fail
              have hH0 := hXY.grow ((Frm.refl _ _).drew)
              refine wp_region_noPanic ?_
              refine wp_region_held_drew (S := fun W => XY w W ao cp ps tag r v D (allF ps k) (.slice aoy L capy) (.slice aoj N capj) N) (by kernel_rfl) hH0 (fun hHeld => ?_)
              generalize wr.drew = W6 at *
              clear hXY hH0
              refine' wpAnyH_take (i := 0) rfl (by kernel_rfl) (by kernel_rfl) (by kernel_rfl) (fun _ _ _ h => h) (Or.inl ⟨by rfl, ?_⟩) hHeld ?_
              rotate_left
              · intro W hSw
                have hSv : XY w W ao cp ps tag r v D (allF ps k) (.slice aoy L capy) (.slice aoj N capj) N := hSw
                clear hSw
                simp only [List.getElem_toArray, List.getElem_cons_zero, List.getElem_cons_succ]
                go_simp
                all_goals with_reducible rfl
              simp only [List.getElem_toArray, List.getElem_cons_zero, List.getElem_cons_succ, Act.put, List.setIfInBounds_toArray, List.set_cons_zero, List.set_cons_succ]
              refine' wpAnyH_take (i := 1) rfl (by kernel_rfl) (by kernel_rfl) (by kernel_rfl) (fun _ _ _ h => h) (Or.inl ⟨by rfl, ?_⟩) hHeld ?_
              rotate_left
              · intro W hSw
                have hSv : XY w W ao cp ps tag r v D (allF ps k) (.slice aoy L capy) (.slice aoj N capj) N := hSw
                clear hSw
                simp only [List.getElem_toArray, List.getElem_cons_zero, List.getElem_cons_succ]
                go_simp
                all_goals with_reducible rfl
              simp only [List.getElem_toArray, List.getElem_cons_zero, List.getElem_cons_succ, Act.put, List.setIfInBounds_toArray, List.set_cons_zero, List.set_cons_succ]
              refine' wpAnyH_take (i := 2) rfl (by kernel_rfl) (by kernel_rfl) (by kernel_rfl) (fun _ _ _ h => h) (Or.inl ⟨by rfl, ?_⟩) hHeld ?_
              rotate_left
              · intro W hSw
                have hSv : XY w W ao cp ps tag r v D (allF ps k) (.slice aoy L capy) (.slice aoj N capj) N := hSw
                clear hSw
                have e1 : decide ((N : Int) < 20) = false := decide_eq_false (by omega)
                simp only [List.getElem_toArray, List.getElem_cons_zero, List.getElem_cons_succ]
                go_simp
                all_goals with_reducible rfl
              simp only [List.getElem_toArray, List.getElem_cons_zero, List.getElem_cons_succ, Act.put, List.setIfInBounds_toArray, List.set_cons_zero, List.set_cons_succ]
              refine' wpAnyH_take (i := 3) rfl (by kernel_rfl) (by kernel_rfl) (by kernel_rfl) (fun _ _ _ h => h) (Or.inl ⟨by rfl, ?_⟩) hHeld ?_
              rotate_left
              · intro W hSw
                have hSv : XY w W ao cp ps tag r v D (allF ps k) (.slice aoy L capy) (.slice aoj N capj) N := hSw
                clear hSw
                simp only [List.getElem_toArray, List.getElem_cons_zero, List.getElem_cons_succ]
                go_simp
                all_goals with_reducible rfl
              simp only [List.getElem_toArray, List.getElem_cons_zero, List.getElem_cons_succ, Act.put, List.setIfInBounds_toArray, List.set_cons_zero, List.set_cons_succ]
              refine' wpAnyH_take (i := 4) rfl (by kernel_rfl) (by kernel_rfl) (by kernel_rfl) (fun _ _ _ h => h) (Or.inl ⟨by rfl, ?_⟩) hHeld ?_
              rotate_left
              · intro W hSw
                have hSv : XY w W ao cp ps tag r v D (allF ps k) (.slice aoy L capy) (.slice aoj N capj) N := hSw
                clear hSw
                simp only [List.getElem_toArray, List.getElem_cons_zero, List.getElem_cons_succ]
                go_simp
                all_goals with_reducible rfl
              simp only [List.getElem_toArray, List.getElem_cons_zero, List.getElem_cons_succ, Act.put, List.setIfInBounds_toArray, List.set_cons_zero, List.set_cons_succ]
              refine' wpAnyH_take (i := 5) rfl (by kernel_rfl) (by kernel_rfl) (by kernel_rfl) (fun _ _ _ h => h) (Or.inl ⟨by rfl, ?_⟩) hHeld ?_
              rotate_left
              · intro W hSw
                have hSv : XY w W ao cp ps tag r v D (allF ps k) (.slice aoy L capy) (.slice aoj N capj) N := hSw
                clear hSw
                have e0 := hSv.yo
                rw [← HLL.out] at e0
                have e1 := conv_own e0
                rw [HLL.out, HSX.out] at e1
                clear e0
                simp only [List.getElem_toArray, List.getElem_cons_zero, List.getElem_cons_succ]
                go_simp
                all_goals with_reducible rfl
              simp only [List.getElem_toArray, List.getElem_cons_zero, List.getElem_cons_succ, Act.put, List.setIfInBounds_toArray, List.set_cons_zero, List.set_cons_succ]
              refine' wpAnyH_take (i := 6) rfl (by kernel_rfl) (by kernel_rfl) (by kernel_rfl) (fun _ _ _ h => h) (Or.inl ⟨by rfl, ?_⟩) hHeld ?_
              rotate_left
              · intro W hSw
                have hSv : XY w W ao cp ps tag r v D (allF ps k) (.slice aoy L capy) (.slice aoj N capj) N := hSw
                clear hSw
                simp only [List.getElem_toArray, List.getElem_cons_zero, List.getElem_cons_succ]
                go_simp
                all_goals with_reducible rfl
              simp only [List.getElem_toArray, List.getElem_cons_zero, List.getElem_cons_succ, Act.put, List.setIfInBounds_toArray, List.set_cons_zero, List.set_cons_succ]
              refine' wpAnyH_take (i := 7) rfl (by kernel_rfl) (by kernel_rfl) (by kernel_rfl) (fun _ _ _ h => h) (Or.inl ⟨by rfl, ?_⟩) hHeld ?_
              rotate_left
              · intro W hSw
                have hSv : XY w W ao cp ps tag r v D (allF ps k) (.slice aoy L capy) (.slice aoj N capj) N := hSw
                clear hSw
                simp only [List.getElem_toArray, List.getElem_cons_zero, List.getElem_cons_succ]
                go_simp
                all_goals with_reducible rfl
              simp only [List.getElem_toArray, List.getElem_cons_zero, List.getElem_cons_succ, Act.put, List.setIfInBounds_toArray, List.set_cons_zero, List.set_cons_succ]
              refine' wpAnyH_take (i := 8) rfl (by kernel_rfl) (by kernel_rfl) (by kernel_rfl) (fun _ _ _ h => h) (Or.inl ⟨by rfl, ?_⟩) hHeld ?_
              rotate_left
              · intro W hSw
                have hSv : XY w W ao cp ps tag r v D (allF ps k) (.slice aoy L capy) (.slice aoj N capj) N := hSw
                clear hSw
                have e1 := (hSv.ws.h7 k hk2).1
                rw [← H7.out, hv7] at e1
                simp only [List.getElem_toArray, List.getElem_cons_zero, List.getElem_cons_succ]
                go_simp
                all_goals with_reducible rfl
              simp only [List.getElem_toArray, List.getElem_cons_zero, List.getElem_cons_succ, Act.put, List.setIfInBounds_toArray, List.set_cons_zero, List.set_cons_succ]
              refine' wpAnyH_take (i := 9) rfl (by kernel_rfl) (by kernel_rfl) (by kernel_rfl) (fun _ _ _ h => h) (Or.inl ⟨by rfl, ?_⟩) hHeld ?_
              rotate_left
              · intro W hSw
                have hSv : XY w W ao cp ps tag r v D (allF ps k) (.slice aoy L capy) (.slice aoj N capj) N := hSw
                clear hSw
                have e0 := hSv.ws.own k hk2
                rw [hv7, ← HLL.out] at e0
                have e1 := conv_own e0
                rw [HLL.out, HSX.out] at e1
                clear e0
                simp only [List.getElem_toArray, List.getElem_cons_zero, List.getElem_cons_succ]
                go_simp
                all_goals with_reducible rfl
              simp only [List.getElem_toArray, List.getElem_cons_zero, List.getElem_cons_succ, Act.put, List.setIfInBounds_toArray, List.set_cons_zero, List.set_cons_succ]
              refine' wpAnyH_take (i := 10) rfl (by kernel_rfl) (by kernel_rfl) (by kernel_rfl) (fun _ _ _ h => h) (Or.inl ⟨by rfl, ?_⟩) hHeld ?_
              rotate_left
              · intro W hSw
                have hSv : XY w W ao cp ps tag r v D (allF ps k) (.slice aoy L capy) (.slice aoj N capj) N := hSw
                clear hSw
                simp only [List.getElem_toArray, List.getElem_cons_zero, List.getElem_cons_succ]
                go_simp
                all_goals with_reducible rfl
              simp only [List.getElem_toArray, List.getElem_cons_zero, List.getElem_cons_succ, Act.put, List.setIfInBounds_toArray, List.set_cons_zero, List.set_cons_succ]
              refine' wpAnyH_take (i := 11) rfl (by kernel_rfl) (by kernel_rfl) (by kernel_rfl) (fun _ _ _ h => h) (Or.inl ⟨by rfl, ?_⟩) hHeld ?_
              rotate_left
              · intro W hSw
                have hSv : XY w W ao cp ps tag r v D (allF ps k) (.slice aoy L capy) (.slice aoj N capj) N := hSw
                clear hSw
                simp only [List.getElem_toArray, List.getElem_cons_zero, List.getElem_cons_succ]
                go_simp
                all_goals with_reducible rfl
              simp only [List.getElem_toArray, List.getElem_cons_zero, List.getElem_cons_succ, Act.put, List.setIfInBounds_toArray, List.set_cons_zero, List.set_cons_succ]
              refine' wpAnyH_take (i := 12) rfl (by kernel_rfl) (by kernel_rfl) (by kernel_rfl) (fun _ _ _ h => h) (Or.inl ⟨by rfl, ?_⟩) hHeld ?_
              rotate_left
              · intro W hSw
                have hSv : XY w W ao cp ps tag r v D (allF ps k) (.slice aoy L capy) (.slice aoj N capj) N := hSw
                clear hSw
                simp only [List.getElem_toArray, List.getElem_cons_zero, List.getElem_cons_succ]
                go_simp
                all_goals with_reducible rfl
              simp only [List.getElem_toArray, List.getElem_cons_zero, List.getElem_cons_succ, Act.put, List.setIfInBounds_toArray, List.set_cons_zero, List.set_cons_succ]
              refine' wpAnyH_take (i := 13) rfl (by kernel_rfl) (by kernel_rfl) (by kernel_rfl) (fun _ _ _ h => h) (Or.inl ⟨by rfl, ?_⟩) hHeld ?_
              rotate_left
              · intro W hSw
                have hSv : XY w W ao cp ps tag r v D (allF ps k) (.slice aoy L capy) (.slice aoj N capj) N := hSw
                clear hSw
                simp only [List.getElem_toArray, List.getElem_cons_zero, List.getElem_cons_succ]
                go_simp
                all_goals with_reducible rfl
              simp only [List.getElem_toArray, List.getElem_cons_zero, List.getElem_cons_succ, Act.put, List.setIfInBounds_toArray, List.set_cons_zero, List.set_cons_succ]
              refine' wpAnyH_take (i := 14) rfl (by kernel_rfl) (by kernel_rfl) (by kernel_rfl) (fun _ _ _ h => h) (Or.inl ⟨by rfl, ?_⟩) hHeld ?_
              rotate_left
              · intro W hSw
                have hSv : XY w W ao cp ps tag r v D (allF ps k) (.slice aoy L capy) (.slice aoj N capj) N := hSw
                clear hSw
                simp only [List.getElem_toArray, List.getElem_cons_zero, List.getElem_cons_succ]
                go_simp
                all_goals with_reducible rfl
              simp only [List.getElem_toArray, List.getElem_cons_zero, List.getElem_cons_succ, Act.put, List.setIfInBounds_toArray, List.set_cons_zero, List.set_cons_succ]
              refine' wpAnyH_take (i := 15) rfl (by kernel_rfl) (by kernel_rfl) (by kernel_rfl) (fun _ _ _ h => h) (Or.inl ⟨by rfl, ?_⟩) hHeld ?_
              rotate_left
              · intro W hSw
                have hSv : XY w W ao cp ps tag r v D (allF ps k) (.slice aoy L capy) (.slice aoj N capj) N := hSw
                clear hSw
                have e1 := hSv.ws.h5 k hk2
                rw [← H5.out] at e1
                simp only [List.getElem_toArray, List.getElem_cons_zero, List.getElem_cons_succ]
                go_simp
                all_goals with_reducible rfl
              simp only [List.getElem_toArray, List.getElem_cons_zero, List.getElem_cons_succ, Act.put, List.setIfInBounds_toArray, List.set_cons_zero, List.set_cons_succ]
              refine' wpAnyH_take (i := 18) rfl (by kernel_rfl) (by kernel_rfl) (by kernel_rfl) (fun _ _ _ h => h) (Or.inl ⟨by rfl, ?_⟩) hHeld ?_
              rotate_left
              · intro W hSw
                have hSv : XY w W ao cp ps tag r v D (allF ps k) (.slice aoy L capy) (.slice aoj N capj) N := hSw
                clear hSw
                simp only [List.getElem_toArray, List.getElem_cons_zero, List.getElem_cons_succ]
                go_simp
                all_goals with_reducible rfl
              simp only [List.getElem_toArray, List.getElem_cons_zero, List.getElem_cons_succ, Act.put, List.setIfInBounds_toArray, List.set_cons_zero, List.set_cons_succ]
              refine' wpAnyH_take (i := 19) rfl (by kernel_rfl) (by kernel_rfl) (by kernel_rfl) (fun _ _ _ h => h) (Or.inl ⟨by rfl, ?_⟩) hHeld ?_
              rotate_left
              · intro W hSw
                have hSv : XY w W ao cp ps tag r v D (allF ps k) (.slice aoy L capy) (.slice aoj N capj) N := hSw
                clear hSw
                simp only [List.getElem_toArray, List.getElem_cons_zero, List.getElem_cons_succ]
                go_simp
                all_goals with_reducible rfl
              simp only [List.getElem_toArray, List.getElem_cons_zero, List.getElem_cons_succ, Act.put, List.setIfInBounds_toArray, List.set_cons_zero, List.set_cons_succ]
              refine' wpAnyH_take (i := 20) rfl (by kernel_rfl) (by kernel_rfl) (by kernel_rfl) (fun _ _ _ h => h) (Or.inl ⟨by rfl, ?_⟩) hHeld ?_
              rotate_left
              · intro W hSw
                have hSv : XY w W ao cp ps tag r v D (allF ps k) (.slice aoy L capy) (.slice aoj N capj) N := hSw
                clear hSw
                have e1 := (hSv.ws.h7 k hk2).1
                rw [← H7.out, hv7] at e1
                simp only [List.getElem_toArray, List.getElem_cons_zero, List.getElem_cons_succ]
                go_simp
                all_goals with_reducible rfl
              simp only [List.getElem_toArray, List.getElem_cons_zero, List.getElem_cons_succ, Act.put, List.setIfInBounds_toArray, List.set_cons_zero, List.set_cons_succ]
              refine' wpAnyH_take (i := 21) rfl (by kernel_rfl) (by kernel_rfl) (by kernel_rfl) (fun _ _ _ h => h) (Or.inl ⟨by rfl, ?_⟩) hHeld ?_
              rotate_left
              · intro W hSw
                have hSv : XY w W ao cp ps tag r v D (allF ps k) (.slice aoy L capy) (.slice aoj N capj) N := hSw
                clear hSw
                have e0 := hSv.ws.own k hk2
                rw [hv7, ← HLL.out] at e0
                have e1 := conv_own e0
                rw [HLL.out, HSX.out] at e1
                clear e0
                simp only [List.getElem_toArray, List.getElem_cons_zero, List.getElem_cons_succ]
                go_simp
                all_goals with_reducible rfl
              simp only [List.getElem_toArray, List.getElem_cons_zero, List.getElem_cons_succ, Act.put, List.setIfInBounds_toArray, List.set_cons_zero, List.set_cons_succ]
              refine wpAnyH_ready (rs := [16]) (by kernel_rfl) (by simp) ?_
              refine AllReadyH.cons (o := _) rfl (fun K_ hK_ => ?_) AllReadyH.nil
              simp only [List.getElem_toArray, List.getElem_cons_zero, List.getElem_cons_succ]
              go_simp
              refine (wbytes_any _ _ _ _ (hHeld.ws.wr k hk2) (by have := HLL.out; omega)).mono ?_
              rintro e W7 ⟨vz, rfl, hz, hf7⟩
              have hH2 := hHeld.grow hf7
              refine hK_.out _ _ hH2 (fun _ => ?_)
              clear hK_ K_ hHeld
              have hHeld := hH2
              clear hH2
              obtain ⟨aoz, capz, rfl⟩ := slice_of_owns hz.2
              have hcz := conv_own hz.2
              rw [HSX.out] at hcz
              try simp only [Act.put, List.setIfInBounds_toArray, List.set_cons_zero, List.set_cons_succ]
              refine wpAnyH_ready (rs := [17]) (by kernel_rfl) (by simp) ?_
              refine AllReadyH.cons (o := _) rfl (fun K_ hK_ => ?_) AllReadyH.nil
              simp only [List.getElem_toArray, List.getElem_cons_zero, List.getElem_cons_succ]
              go_simp
              refine hK_.out _ _ hHeld (fun _ => ?_)
              clear hK_ K_
              try simp only [Act.put, List.setIfInBounds_toArray, List.set_cons_zero, List.set_cons_succ]
              refine' wpAnyH_take (i := 22) rfl (by kernel_rfl) (by kernel_rfl) (by kernel_rfl) (fun _ _ _ h => h) (Or.inl ⟨by rfl, ?_⟩) hHeld ?_
              rotate_left
              · intro W hSw
                have hSv : XY w W ao cp ps tag r v D (allF ps k) (.slice aoy L capy) (.slice aoj N capj) N := hSw
                clear hSw
                simp only [List.getElem_toArray, List.getElem_cons_zero, List.getElem_cons_succ]
                go_simp
                all_goals with_reducible rfl
              simp only [List.getElem_toArray, List.getElem_cons_zero, List.getElem_cons_succ, Act.put, List.setIfInBounds_toArray, List.set_cons_zero, List.set_cons_succ]
              refine' wpAnyH_take (i := 23) rfl (by kernel_rfl) (by kernel_rfl) (by kernel_rfl) (fun _ _ _ h => h) (Or.inl ⟨by rfl, ?_⟩) hHeld ?_
              rotate_left
              · intro W hSw
                have hSv : XY w W ao cp ps tag r v D (allF ps k) (.slice aoy L capy) (.slice aoj N capj) N := hSw
                clear hSw
                simp only [List.getElem_toArray, List.getElem_cons_zero, List.getElem_cons_succ]
                go_simp
                all_goals with_reducible rfl
              simp only [List.getElem_toArray, List.getElem_cons_zero, List.getElem_cons_succ, Act.put, List.setIfInBounds_toArray, List.set_cons_zero, List.set_cons_succ]
              refine wpAnyH_done (by kernel_rfl) ?_ _
              refine NoPanic.normal ?_
              have hF : Fin w W7 ao cp ps := ⟨tag, r, v, hHeld.ws⟩
              clear hHeld hz hcz hf7
              go_wp2
              go_roundw
              case rel => exact ⟨k + 1, by omega, by go_num, hF⟩
              case measure => simp [intOf]; omega
        · obtain rfl : k = 2 := by omega
          have hfr := hW.frm
          clear hW hps hlen hpl
          go_wp2_with fail
          refine (known_any _).mono ?_
          rintro e w9 ⟨rfl, hf9⟩
          go_wp2
          go_ret
          exact ⟨rfl, hfr.trans hf9 (fun _ _ h => h)⟩

end Go.Proofs.Ytchjkcghaddmhaa
