/- Numbers lent in memory of their own with a mark behind, and whether they are as they were. -/
import Derived.Test.YtopfjjclcbgamaaDoorE5
import Derived.Laws.AppendOwnNone
import Derived.OwnWalk
import Derived.BigQuiet
namespace Go.Proofs.YtopfjjclcbgamaaDoor
open Go.RowKit Go.Lib

set_option maxRecDepth 100000 in
set_option maxHeartbeats 1000000 in
theorem same_any (ao bo : Option Addr) (ca cb : Nat) (L : List Int) (w : World) (ha : NumsC .i64 w ao L) (hb : NumsC .i64 w bo L) (hl : L.length ≤ 1000000000000) :
    Calls Tryd.prog 18 #[.slice ao L.length ca, .slice bo L.length cb] w fun e w' => e = .returned (.bool true) ∧ ∃ n, w' = w.drewN n := by
  go_enter Tryd.func18, Tryd.ntmps18
  go_wp2_with fail
  go_loopw [5] (fun s wr => ∃ k : Nat, k ≤ L.length ∧ s = .int .i64 (k : Int) ∧ ∃ n, wr = w.drewN n) (fun s _ => L.length - (intOf s).toNat)
  case atStart => exact ⟨0, Nat.zero_le _, rfl, 0, rfl⟩
  case round =>
    obtain ⟨k, hk, rfl, n, rfl⟩ := hrel
    by_cases hlt : k < L.length
    · obtain ⟨g, o, hao, hc⟩ := ha k hlt
      obtain ⟨g2, o2, hbo, hd⟩ := hb k hlt
      subst hao hbo
      generalize L[k] = y at *
      go_wp2_with fail
      go_quiet (fail)
      go_wp2
      go_roundw
      case rel => exact ⟨k + 1, by omega, by go_num, _, rfl⟩
      case measure => simp [intOf]; omega
    · obtain rfl : k = L.length := by omega
      go_wp2_with fail
      go_ret
      exact ⟨rfl, _, rfl⟩

/-- The numbers with a mark behind. -/
structure Lent (w : World) (g cap : Nat) (L : List Int) : Prop where
  nums : NumsC .i64 w (some ⟨g, 0, none⟩) L
  mark : w.cell? ⟨g, L.length, none⟩ = some (.int .i64 4242)
  room : L.length + 1 ≤ cap

theorem Lent.old {w w' : World} {g cap : Nat} {L : List Int} (h : Lent w g cap L) (hf : Old w w') : Lent w' g cap L := ⟨h.nums.old hf, hf.cell h.mark, h.room⟩

theorem Lent.of_owns {w : World} {base g cap n : Nat} {L : List Int} (hn : n = L.length) (h : w.ownsRow base 2 1 (.slice (some ⟨g, 0, none⟩) (n + 1) cap) (n + 1) (L.map (Value.int .i64) ++ [.int .i64 4242])) : Lent w g cap L := by
  subst hn
  obtain ⟨_, h2⟩ := h
  rcases h2 with ⟨h3, _⟩ | ⟨g', cap', cur, hv, hb, hg, hcap, hmax, hsz, hcur⟩
  · cases h3
  · injection hv with h4 h5 h6
    simp only [Option.some.injEq, Addr.mk.injEq] at h4
    obtain ⟨rfl, _, _⟩ := h4
    subst h6
    rw [Nat.mul_one] at hcur
    have hget : ∀ i (hi : i < L.length + 1), cur[i]? = (L.map (Value.int .i64) ++ [Value.int .i64 4242])[i]? := by
      intro i hi
      rw [← hcur, List.getElem?_take, if_pos hi, Array.getElem?_toList]
    refine ⟨?_, ?_, hcap⟩
    · intro i hi
      refine ⟨g, 0, rfl, ?_⟩
      have := hget i (by omega)
      rw [List.getElem?_append_left (by simpa using hi)] at this
      simp [World.cell?, hg, this, hi]
    · have := hget L.length (by omega)
      rw [List.getElem?_append_right (by simp)] at this
      simp [World.cell?, hg, this]

theorem owns_empty (w : World) : (w.alloc (.cells #[] 2)).ownsRow w.heap.size 2 1 (.slice (some ⟨w.heap.size, 0, none⟩) 0 0) 0 [] :=
  ⟨rfl, Or.inr ⟨w.heap.size, 0, #[], rfl, Nat.le_refl _, heap_new w _, Nat.le_refl _, by decide, rfl, rfl⟩⟩

theorem new2 (w : World) : ((w.alloc (.cells #[] 2)).alloc (.cells #[.int .i64 4242] 2)).heap[w.heap.size + 1]? = some (.cells #[.int .i64 4242] 2 (0, 0)) := by
  have := heap_new (w.alloc (.cells #[] 2)) (.cells #[.int .i64 4242] 2)
  simpa using this

theorem info2 : (Tryd.prog.info? 2).map (fun i => (i.zero, i.size, i.bytes)) = some (some (.int .i64 0), 1, 8) := by kernel_rfl

set_option maxRecDepth 100000 in
set_option maxHeartbeats 4000000 in
theorem lent_any (ao : Option Addr) (cap : Nat) (L : List Int) (w : World) (ha : NumsC .i64 w ao L) (hl : L.length ≤ 2000) (hz : ao = none → cap = 0 ∧ L = []) :
    Calls Tryd.prog 9 #[.slice ao L.length cap] w fun e w' => ∃ g cap', e = .returned (.slice (some ⟨g, 0, none⟩) L.length cap') ∧ Lent w' g cap' L ∧ Old w w' ∧ w.heap.size ≤ g := by
  obtain ⟨i0, hi0, hz0, hz1, hz2⟩ := info_parts info2
  have hemp := owns_empty w
  obtain ⟨n, hn⟩ : ∃ n, L.length = n := ⟨_, rfl⟩
  have hN := hid hn
  have hcells : ∀ ad, ao = some ad → ∀ j u, (L.map (Value.int .i64))[j]? = some u → (w.alloc (.cells #[] 2)).cell? (ad.add j) = some u := by
    intro ad had j u hu
    have hj : j < L.length := by
      have := (List.getElem?_eq_some_iff.1 hu).1
      simpa using this
    obtain ⟨g, o, h1, h2⟩ := ha j hj
    rw [had] at h1
    simp only [Option.some.injEq] at h1
    subst h1
    have e : (⟨g, o, none⟩ : Addr).add j = ⟨g, o + j, none⟩ := by
      unfold Addr.add
      split <;> simp_all
    rw [e, ((Old.refl w).alloc _).cell h2]
    simp [hj] at hu
    rw [← hu]
  cases ao with
  | none =>
    obtain ⟨rfl, rfl⟩ := hz rfl
    clear hz hcells ha hn hN hl
    go_enter Tryd.func9, Tryd.ntmps9
    go_wp2_with (first
      | (at_builtin; refine wpList_append_own_none (by rfl) _ _ 22 (by rfl) w.heap.size 2 i0 1 Tryd.underlying22 hi0 (.slice (some ⟨w.heap.size, 0, none⟩) 0 0) 0 [] (by rfl) hemp (by rfl) ?_)
      | (at_builtin; refine wpList_append_lies _ (by rfl) _ _ 22 (by rfl) w.heap.size 2 i0 _ 1 8 Tryd.underlying22 hi0 hz0 hz1 hz2 rfl (by omega) (.slice (some ⟨w.heap.size, 0, none⟩) 0 0) 0 [] (by rfl) (hemp.alloc _) ⟨w.heap.size + 1, 0, none⟩ 1 1 [.int .i64 4242] (by rfl) (by rfl) (World.news_of_block (new2 w)) (by intro u hu; simp at hu; subst hu; rfl) (by omega) (by unfold maxLen; omega) (by omega) (by simp; omega) _ rfl ?_; intro g cap' w5 hown5 hgrow5 hat hlt5; have hL := Lent.of_owns (L := []) rfl hown5; have hroom := hL.room; simp only [List.length_nil, Nat.zero_add] at hroom))
    go_ret
    refine ⟨g, cap', rfl, hL, ?_, (hown5.lt g rfl).1⟩
    exact Frm.grown (((Old.refl w).alloc _).alloc _) hgrow5 (fun k hk => Or.inl (by simp [Value.ownBlock] at hk; omega))
  | some ad =>
    rw [hn] at hl ⊢
    have hc := hid (hcells ad rfl)
    clear ha hz hcells hn
    go_enter Tryd.func9, Tryd.ntmps9
    go_wp2_with (first
      | (at_builtin; refine wpList_append_own _ (by rfl) _ _ 22 (by rfl) w.heap.size 2 i0 _ 1 8 Tryd.underlying22 hi0 hz0 hz1 hz2 rfl (by omega) (.slice (some ⟨w.heap.size, 0, none⟩) 0 0) 0 [] (by rfl) hemp ad n cap (L.map (Value.int .i64)) (by rfl) (by simp [hN.out]) hc.out (by intro u hu; simp at hu; obtain ⟨x, _, rfl⟩ := hu; rfl) (by unfold maxLen; omega) (by omega) (by simp) ?_; intro v' w3 hown4 hgrow hnil; have hl3 := hgrow.size; simp at hl3; rw [List.nil_append, Nat.zero_add] at hown4)
      | (at_builtin; refine wpList_append_lies _ (by rfl) _ _ 22 (by rfl) w.heap.size 2 i0 _ 1 8 Tryd.underlying22 hi0 hz0 hz1 hz2 rfl (by omega) v' n (L.map (Value.int .i64)) (by rfl) (hown4.alloc _) ⟨w3.heap.size, 0, none⟩ 1 1 [.int .i64 4242] (by rfl) (by rfl) (World.news_of_block (heap_new w3 _)) (by intro u hu; simp at hu; subst hu; rfl) (by omega) (by unfold maxLen; omega) (by omega) (by simp; omega) _ rfl ?_; intro g cap' w5 hown5 hgrow5 hat hlt5; have hL := Lent.of_owns hN.out.symm hown5; have hroom := hL.room; rw [hN.out] at hroom))
    go_ret
    refine ⟨g, cap', rfl, hL, ?_, (hown5.lt g rfl).1⟩
    have h1 : Old w w3 := Frm.grown ((Old.refl w).alloc _) hgrow (fun k hk => Or.inl (by simp [Value.ownBlock] at hk; omega))
    exact Frm.grown (h1.alloc _) hgrow5 (fun k hk => Or.inl (hown4.lt k hk).1)

set_option maxRecDepth 100000 in
set_option maxHeartbeats 4000000 in
theorem kept_any (ao : Option Addr) (g cap cap' : Nat) (L : List Int) (w : World) (ha : NumsC .i64 w ao L) (hL : Lent w g cap' L) (hl : L.length ≤ 2000) :
    Calls Tryd.prog 15 #[.slice (some ⟨g, 0, none⟩) L.length cap', .slice ao L.length cap] w fun e w' => e = .returned (.bool true) ∧ ∃ n, w' = w.drewN n := by
  have hS := hid (same_any _ ao cap' cap L w hL.nums ha (by omega))
  have hm := hL.mark
  have hr := hL.room
  clear ha hL
  generalize L.length = n at *
  go_enter Tryd.func15, Tryd.ntmps15
  go_wp2_with fail
  refine hS.out.mono ?_
  rintro e w2 ⟨rfl, m, e2⟩
  rw [e2]
  clear e2
  go_wp2
  go_ret
  exact ⟨rfl, _, rfl⟩
end Go.Proofs.YtopfjjclcbgamaaDoor
