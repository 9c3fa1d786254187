/- Offers that were told are written over, and grown: walked. -/
import Derived.Test.YtnambpbhkehijaaDoorH12
namespace Go.Proofs.YtnambpbhkehijaaDoor
open Go.RowKit

theorem flatO_set : ∀ (M : List Off) (i : Nat) (d : Off), i < M.length → ((flatO M).set (i * 2) (.int .u32 (d.1 : Int))).set (i * 2 + 1) (.int .i64 d.2) = flatO (M.set i d)
  | [], i, d, h => by simp at h
  | c :: M, 0, d, _ => by simp [flatO]
  | c :: M, i + 1, d, h => by
    have := flatO_set M i d (by simpa using h)
    have e : (i + 1) * 2 = i * 2 + 2 := by omega
    rw [e]
    simp [flatO, this]

theorem owns_setO {w : World} {B b n cap i : Nat} {R : List Off} (h : w.ownsRow B 58 2 (.slice (some ⟨b, 0, none⟩) n cap) n (flatO R)) (x : Off) (hi : i < R.length) :
    ((w.setCell ⟨b, i * 2, none⟩ (.int .u32 (x.1 : Int))).setCell ⟨b, i * 2 + 1, none⟩ (.int .i64 x.2)).ownsRow B 58 2 (.slice (some ⟨b, 0, none⟩) n cap) n (flatO (R.set i x)) := by
  have hl := h.1
  rw [flatO_length] at hl
  refine ⟨by rw [flatO_length, List.length_set]; exact hl, ?_⟩
  rcases h.2 with ⟨e, _⟩ | ⟨g, cp, cur, e, h3, h4, h5, h6, h7, h8⟩
  · cases e
  · simp only [Value.slice.injEq, Option.some.injEq, Addr.mk.injEq, and_true, true_and] at e
    obtain ⟨rfl, rfl⟩ := e
    refine Or.inr ⟨b, cap, _, rfl, h3, heap_set _ (heap_set _ h4), h5, h6, by simp [h7], ?_⟩
    rw [← flatO_set R i x hi, ← h8]
    simp only [Array.toList_setIfInBounds, List.take_set]


/-- A row that may be written in and grown: one's own, or a full one. -/
def Rw (w : World) (B : Nat) (v : Value) (n : Nat) : Prop := ∃ L : List Off, L.length = n ∧ (w.ownsRow B 58 2 v n (flatO L) ∨ ∃ b, v = .slice (some ⟨b, 0, none⟩) n n ∧ B ≤ b ∧ OwnO w b L)

theorem Rw.val {w : World} {B : Nat} {v : Value} {n : Nat} (h : Rw w B v n) : ∃ ao cap, v = .slice ao n cap := by
  obtain ⟨L, rfl, h | ⟨b, rfl, _⟩⟩ := h
  · rcases h.2 with ⟨rfl, e⟩ | ⟨g, cap, cur, rfl, _⟩
    · exact ⟨none, 0, by rw [e]⟩
    · exact ⟨_, cap, rfl⟩
  · exact ⟨_, _, rfl⟩
theorem Rw.lt {w : World} {B : Nat} {v : Value} {n : Nat} (h : Rw w B v n) {k : Nat} (hk : v.ownBlock = some k) : B ≤ k ∧ k < w.heap.size := by
  obtain ⟨L, rfl, h | ⟨b, rfl, hb, ow⟩⟩ := h
  · exact h.lt k hk
  · simp [Value.ownBlock] at hk
    subst hk
    exact ⟨hb, ow.lt⟩
theorem Rw.kept {w w' : World} {B : Nat} {v : Value} {n : Nat} (h : Rw w B v n) {S : Nat → Prop} (f : Frm S w w') (hS : ∀ k, v.ownBlock = some k → ¬ S k) : Rw w' B v n := by
  obtain ⟨L, hL, h1 | ⟨b, rfl, hb, ow⟩⟩ := h
  · exact ⟨L, hL, Or.inl (owns_kept2 h1 (fun k hk => f.block k (h1.lt k hk).2 (hS k hk)))⟩
  · exact ⟨L, hL, Or.inr ⟨b, rfl, hb, fun i hi => ⟨frm_cell f (ow.cell i hi).1 (hS b rfl), frm_cell f (ow.cell i hi).2 (hS b rfl)⟩, fun j => frm_frozen f ow.lt (ow.fz j) (hS b rfl), Nat.lt_of_lt_of_le ow.lt f.size⟩⟩

/-- A place in it is written. -/
theorem Rw.put {w : World} {B : Nat} {v : Value} {n i : Nat} (h : Rw w B v n) (hi : i < n) (x : Off) : ∃ b cap c1 c2, v = .slice (some ⟨b, 0, none⟩) n cap ∧ w.cell? ⟨b, i * 2, none⟩ = some c1 ∧ w.cell? ⟨b, i * 2 + 1, none⟩ = some c2 ∧ (∀ j, w.frozen? ⟨b, j, none⟩ = false) ∧
    Rw ((w.setCell ⟨b, i * 2, none⟩ (.int .u32 (x.1 : Int))).setCell ⟨b, i * 2 + 1, none⟩ (.int .i64 x.2)) B v n := by
  obtain ⟨L, rfl, h1 | ⟨b, rfl, hb, ow⟩⟩ := h
  · rcases owns_new h1 with ⟨rfl, e⟩ | ⟨b, cap, rfl, hb, hc, ow⟩
    · rw [e] at hi
      simp at hi
    · obtain ⟨c1, c2⟩ := ow.cell i hi
      exact ⟨b, cap, _, _, rfl, c1, c2, ow.fz, L.set i x, by simp, Or.inl (owns_setO h1 x hi)⟩
  · obtain ⟨c1, c2⟩ := ow.cell i hi
    exact ⟨b, L.length, _, _, rfl, c1, c2, ow.fz, L.set i x, by simp, Or.inr ⟨b, rfl, hb, ow.set x⟩⟩

/-- It is grown by one. -/
theorem wpAppR {ops : Array Oper} {rest : List Oper} {o : Oper} {a : Act} {Q : Exit → Act → World → Prop} {w : World} (hgd : o.guard = none) (s x : Operand) (ho : o.op = .call { callee := .builtin .append, args := #[s, x], argTypes := #[22, 22] })
    (B : Nat) (v : Value) (n : Nat) (hs : a.eval s = v) (hR : Rw w B v n) (ad : Addr) (hx : a.eval x = .slice (some ad) 1 1) (y : Off) (hO : OffC w (some ad) [y]) (hn : n ≤ 1000) (hB : B ≤ w.heap.size)
    (h : ∀ v' w', Rw w' B v' (n + 1) → w.grownBy w' v.ownBlock → (v'.ownBlock = v.ownBlock ∨ v'.ownBlock = some w.heap.size) → wpList Tryd.prog ops Q rest (a.put o.dst v') w') : wpList Tryd.prog ops Q (o :: rest) a w := by
  obtain ⟨i0, hi0, hz0, hz1, hz2⟩ := parts_o
  obtain ⟨L, rfl, h1 | ⟨b, rfl, hb, ow⟩⟩ := hR
  · exact wpList_append_own_at _ hgd s x 22 ho B 58 i0 _ 2 16 Tryd.underlying22 hi0 hz0 hz1 hz2 rfl (by omega) v L.length (flatO L) hs h1 ad 1 1 (flatO [y]) hx rfl (off_cells hO) (flatO_one [y]) (by unfold maxLen; omega) (by omega) hB (fun v' w' h8 h9 _ h10 => h v' w' ⟨L ++ [y], by simp, Or.inl (by rw [flatO_append]; exact h8)⟩ h9 h10)
  · refine wpList_plain hgd fun K hK => ?_
    have hr := run_append_grow (P := Tryd.prog) w 22 o.type 58 i0 _ Tryd.underlying22 hi0 hz0 ⟨b, 0, none⟩ L.length L.length (flatO L) (by rw [flatO_length, hz1]) (off_cells ow.off) ad 1 1 (flatO [y]) (by rw [hz1]; rfl) (off_cells hO) (by omega) (by omega) (growslice_fits (by omega) (by rw [hz2]; omega))
    have hge := grownCap_ge w (L.length + 1) L.length 58
    have hcm : grownCap w (L.length + 1) L.length 58 ≤ maxLen := grownCap_le_maxLen w (L.length + 1) L.length 58 (by unfold maxLen; omega)
    have hlen : (flatO L ++ flatO [y]).length = (L.length + 1) * 2 := by rw [List.length_append, flatO_length, flatO_length, List.length_singleton]; omega
    unfold Oper.wp execOp
    simp only [ho, resolve, invoke, builtin, Sem.run_bind, Sem.run_pure, Result.andThen_ok, List.map_toArray, List.map_cons, List.map_nil, hs, hx, hr]
    refine hK _ _ (h _ _ ⟨L ++ [y], by simp, Or.inl ?_⟩ ⟨rfl, rfl, rfl, by simp, fun k hk _ => heap_alloc_old w.drew _ k hk⟩ (Or.inr rfl))
    rw [flatO_append]
    refine ⟨hlen, .inr ⟨w.heap.size, _, _, rfl, hB, heap_alloc_new w.drew _, hge, hcm, ?_, ?_⟩⟩
    · simp only [Array.size_append, List.size_toArray, size_zeroCells, flatO_length, List.length_singleton]
      show L.length * 2 + 1 * 2 + (grownCap w (L.length + 1) L.length 58 - (L.length + 1)) * 2 = _
      omega
    · simp only [Array.toList_append, List.append_assoc]
      rw [← List.append_assoc, ← hlen]
      exact List.take_left

set_option maxRecDepth 100000 in
set_option maxHeartbeats 4000000 in
theorem spoilt_any (B : Nat) (v : Value) (n : Nat) (w : World) (hR : Rw w B v n) (hn : n ≤ 100) (hB : B ≤ w.heap.size) :
    Calls Tryd.prog 11 #[v] w fun e w' => e = .returned (.tuple #[]) ∧ Frm (fun k => v.ownBlock = some k) w w' := by
  obtain ⟨va, vc, rfl⟩ := hR.val
  have kR := hid hR
  clear hR
  go_enter Tryd.func11, Tryd.ntmps11
  go_wp2_with fail
  go_loopw [2] (fun t wr => ∃ i : Nat, i ≤ n ∧ t = .int .i64 (i : Int) ∧ Hid (Rw wr B (.slice va n vc) n) ∧ Hid (Frm (fun k => (Value.slice va n vc).ownBlock = some k) w wr)) (fun t _ => n - (intOf t).toNat)
  case atStart => exact ⟨0, Nat.zero_le _, rfl, kR, hid (Frm.refl _ _)⟩
  case round =>
    obtain ⟨i, hi, rfl, hRw, hF⟩ := hrel
    by_cases hlt : i < n
    · obtain ⟨b, cap, c1, c2, ev, d1, d2, dz, hR2⟩ := hRw.out.put hlt (0, -5)
      simp only [Value.slice.injEq, true_and] at ev
      obtain ⟨rfl, rfl⟩ := ev
      have hlt' : (i : Int) < (n : Int) := by omega
      have kF2 : Hid (Frm (fun k => (Value.slice (some ⟨b, 0, none⟩) n vc).ownBlock = some k) w ((wr.setCell ⟨b, i * 2, none⟩ (.int .u32 ((0 : Nat) : Int))).setCell ⟨b, i * 2 + 1, none⟩ (.int .i64 (-5)))) := hid (Frm.setCell (Frm.setCell hF.out ⟨b, i * 2, none⟩ (Or.inr rfl) _) ⟨b, i * 2 + 1, none⟩ (Or.inr rfl) _)
      have kR2 := hid hR2
      have q1' := set_oth (i := i * 2) (j := i * 2 + 1) (u := .int .u32 0) d2 (by omega)
      have q3' := fun j => set_fz (i := i * 2) (u := .int .u32 0) dz j
      clear hR2 hRw hF
      go_wp2_with fail
      go_roundw
      case rel => exact ⟨i + 1, by omega, by go_num, kR2, kF2⟩
      case measure => simp [intOf]; omega
    · obtain rfl : i = n := by omega
      clear hlt hi
      go_wp2_with fail
      go_loopw [0, 3] (fun l t wr2 => ∃ (j : Nat), j ≤ 5 ∧ t = .int .i64 (j : Int) ∧ Hid (Rw wr2 B l (i + j)) ∧ Hid (∀ k, l.ownBlock = some k → (Value.slice va i vc).ownBlock = some k ∨ w.heap.size ≤ k) ∧ Hid (Frm (fun k => (Value.slice va i vc).ownBlock = some k) w wr2)) (fun _ t _ => 5 - (intOf t).toNat)
      case atStart => exact ⟨0, by omega, rfl, hRw, hid (fun k hk => Or.inl hk), hF⟩
      case round =>
        obtain ⟨j, hj, rfl, hRw, hkb, hF⟩ := hrel
        by_cases hlt : j < 5
        · have hlt' : (j : Int) < 5 := by omega
          obtain ⟨la, lc, rfl⟩ := hRw.out.val
          have hb3 := heap_new wr (.cells #[.int .u32 0, .int .i64 (-6)] 58)
          have hO3 : OffC (wr.alloc (.cells #[.int .u32 0, .int .i64 (-6)] 58)) (some ⟨wr.heap.size, 0, none⟩) [(0, -6)] := off_blk (L := [(0, -6)]) hb3
          have o3 : Old wr (wr.alloc (.cells #[.int .u32 0, .int .i64 (-6)] 58)) := (Old.refl wr).alloc _
          have hR3 := hRw.out.kept o3 (fun k _ h => h)
          have hsz := hF.out.size
          have hs3 := alloc_size wr (.cells #[.int .u32 0, .int .i64 (-6)] 58)
          have hF3 : Frm (fun k => (Value.slice va i vc).ownBlock = some k) w (wr.alloc (.cells #[.int .u32 0, .int .i64 (-6)] 58)) := Frm.alloc hF.out _
          clear hb3 o3 hRw hF
          go_wp2_with (at_builtin; refine wpAppR (by rfl) _ _ (by rfl) B _ (i + j) (by rfl) hR3 ⟨wr.heap.size, 0, none⟩ (by rfl) (0, -6) hO3 (by omega) (by omega) ?_)
          generalize wr.alloc (.cells #[.int .u32 0, .int .i64 (-6)] 58) = w3 at *
          intro v4 w4 hR4 gr4 hat4
          have hF4 : Hid (Frm (fun k => (Value.slice va i vc).ownBlock = some k) w w4) := Frm.grown hF3 gr4 (fun k hk => (hkb.out k hk).symm)
          have hk4 : Hid (∀ k, v4.ownBlock = some k → (Value.slice va i vc).ownBlock = some k ∨ w.heap.size ≤ k) := fun k hk => by
            rcases hat4 with e | e
            · rw [e] at hk
              exact hkb.out k hk
            · rw [e] at hk
              cases hk
              exact Or.inr (by omega)
          have kR4 := hid hR4
          clear hR4 gr4 hat4 hR3 hO3 hF3 hkb
          go_wp2_with fail
          go_roundw
          case rel => exact ⟨j + 1, by omega, by go_num, kR4, hk4, hF4⟩
          case measure => simp [intOf]; omega
        · obtain rfl : j = 5 := by omega
          go_wp2_with fail
          go_end0
          exact ⟨rfl, hF.out⟩
end Go.Proofs.YtnambpbhkehijaaDoor
