/- gavellaw14.goes: walked, over what Steps tells. -/
import Derived.Test.YtfiogkmgenodgaaDoorST
namespace Go.Proofs.YtfiogkmgenodgaaDoor
open Go.RowKit Go.Lib Go.Shelf
attribute [local go_sem] Oper.semAt_some

/-- Tries in memory. -/
def TryC (w : World) (ao : Option Addr) (M : List Tr) : Prop := ∀ i (h : i < M.length), ∃ g o, ao = some ⟨g, o, none⟩ ∧ w.cell? ⟨g, o + i * 2, none⟩ = some (.int .i64 M[i].1) ∧ w.cell? ⟨g, o + i * 2 + 1, none⟩ = some (.int .i64 M[i].2)

theorem TryC.kept {w Y : World} {ao : Option Addr} {M : List Tr} (h : TryC w ao M) (hk : ∀ p v, w.cell? p = some v → Y.cell? p = some v) : TryC Y ao M := fun i hi => by
  obtain ⟨g, o, h1, h2, h3⟩ := h i hi
  exact ⟨g, o, h1, hk _ _ h2, hk _ _ h3⟩

theorem frm_cells {S : Nat → Prop} {w Y : World} (h : Frm S w Y) (hS : ∀ k, S k → w.heap.size ≤ k) : ∀ p v, w.cell? p = some v → Y.cell? p = some v := fun p v hv => frm_cell h hv (fun e => by have := hS _ e; have := World.block_lt_of_cell? _ _ hv; omega)

set_option maxRecDepth 100000 in
set_option maxHeartbeats 4000000 in
theorem goes_any (sb m : Nat) (bo ao : Option Addr) (cap cp : Nat) (B : Ins) (leave : Int) (w : World) (hgd : 1 ≤ m ∧ m ≤ 10) (hl : B.length ≤ 9223372036854775807) (hC : Ctx m bo cap B sb w) (hM : TryC w ao (told (evs m B))) :
    Calls Tryd.prog 27 #[.func (.func 49) #[] #[.pointer (some ⟨sb, 0, none⟩)], .slice ao (told (evs m B)).length cp, .int .i64 leave] w fun e w' => e = .returned (.bool true) ∧ Old w w' := by
  have hfn : ∀ (p : Value) (w : World), (binOp BinOp.eql 55 (.func (.func 49) #[] #[p]) .nilFunc).run Tryd.prog w = .ok (.bool false) w := fun _ _ => by kernel_rfl
  obtain ⟨M, hMe⟩ : ∃ M, told (evs m B) = M := ⟨_, rfl⟩
  have hMl : M.length ≤ 6560 := by rw [← hMe]; unfold told; rw [List.length_map]; exact evs_len hgd.2
  rw [hMe] at hM ⊢
  have kMe := hid hMe
  have kM := hid hM
  have kC := hid hC
  have kSt := hid (fun T w => steps1_N 4 (by omega) sb m bo cap B ⟨by omega, by omega⟩ hl T w)
  rw [hMe] at kSt
  clear hMe hM hC
  obtain ⟨s, hs⟩ : ∃ s, w.heap.size = s := ⟨_, rfl⟩
  have o1 : Old w (w.alloc (.cells #[.slice ao M.length cp] 58)) := (Old.refl w).alloc _
  have b1 := heap_new w (.cells #[.slice ao M.length cp] 58)
  have z1 := alloc_size w (.cells #[.slice ao M.length cp] 58)
  refine (callsIn_wide (n := 5)).1 ?_
  refine callsIn_of_wp_marks Tryd.func27 rfl trivial ?_ rfl
  simp only [Tryd.ntmps27, List.size_toArray, List.length_cons, List.length_nil, Nat.reduceAdd, Nat.reduceSub, Array.replicate_succ, Array.replicate_zero, List.push_toArray, List.append_toArray, List.nil_append, List.cons_append]
  refine wpIn_wide.2 ?_
  go_wp2_with fail
  have o2 := ((o1.alloc (.cells #[.int .i64 leave] 3)).alloc (.cells #[.bool false] 4)).alloc (.cells #[.int .i64 0] 3)
  generalize w.alloc (.cells #[.slice ao M.length cp] 58) = w1 at *
  have d1 := ((Old.refl w1).alloc (.cells #[.int .i64 leave] 3))
  have b2 := heap_new w1 (.cells #[.int .i64 leave] 3)
  have z2 := alloc_size w1 (.cells #[.int .i64 leave] 3)
  generalize w1.alloc (.cells #[.int .i64 leave] 3) = w2 at *
  have d2 := ((Old.refl w2).alloc (.cells #[.bool false] 4))
  have b3 := heap_new w2 (.cells #[.bool false] 4)
  have z3 := alloc_size w2 (.cells #[.bool false] 4)
  generalize w2.alloc (.cells #[.bool false] 4) = w3 at *
  have d3 := ((Old.refl w3).alloc (.cells #[.int .i64 0] 3))
  have b4 := heap_new w3 (.cells #[.int .i64 0] 3)
  have z4 := alloc_size w3 (.cells #[.int .i64 0] 3)
  generalize w3.alloc (.cells #[.int .i64 0] 3) = X0 at *
  rw [hs] at b1 z1
  rw [z1] at b2 z2
  rw [z2] at b3 z3
  rw [z3] at b4 z4
  have kb1 := hid ((((d1.trans d2).trans d3).block _ (by rw [z1]; omega) (fun h => h)).trans b1)
  have kb2 := hid (((d2.trans d3).block _ (by rw [z2]; omega) (fun h => h)).trans b2)
  have kb3 := hid ((d3.block _ (by rw [z3]; omega) (fun h => h)).trans b3)
  have kb4 := hid b4
  have ko := hid o2
  have kz := hid z4
  have kss := hid hs
  clear b1 b2 b3 b4 z1 z2 z3 z4 d1 d2 d3 o1 o2 w1 w2 w3 hs
  have hkc : Hid (∀ Y, KeptC (fun k => s ≤ k ∧ k < s + 4) X0 Y → Ctx m bo cap B sb Y) := fun Y hk => by
    have hcell : ∀ p v, w.cell? p = some v → Y.cell? p = some v := fun p v hpv => kept_cell hk (by have := World.block_lt_of_cell? _ _ hpv; have := kss.out; omega) (ko.out.cell hpv)
    obtain ⟨c1, c2, c3, c4⟩ := kC.out
    exact ⟨c1.kept hcell, c2.kept hcell, hcell _ _ c3, hcell _ _ c4⟩
  refine (wpIn_wide (n := 5)).1 ?_
  refine range_N (α := Tr) (by omega) (gf := 49) (lb := #[.pointer (some ⟨sb, 0, none⟩)]) rfl (enters_of Tryd.func49 (by kernel_rfl) rfl)
    (kSt.out (fun k => s ≤ k ∧ k < s + 4) X0 (fun k hk => by have := kz.out; omega) hkc.out)
    (fun h k => h.trans k) (fun W o o' h1 h2 => KeptC.put W _ o o' h1 h2) (fun _ => rfl)
    (fun p Y => Frm (fun k => k = s + 1 + 1 + 1 ∨ s + 4 ≤ k) X0 Y ∧ Y.heap[s + 1 + 1 + 1]? = some (.cells #[.int .i64 (p.length : Int)] 3 (0, 0)))
    (fun c _ Y => c = .ret ∧ Frm (fun k => k = s + 1 + 1 ∨ k = s + 1 + 1 + 1 ∨ s + 4 ≤ k) X0 Y ∧ Y.heap[s + 1 + 1]? = some (.cells #[.bool true] 4 (0, 0)))
    (fun p X Y hI hf => ⟨Frm.trans hI.1 hf (fun k _ e => by have := kz.out; omega), by rw [hf.block _ (blk_lt hI.2) (by have := kz.out; omega)]; exact hI.2⟩)
    (fun c p X Y hI hf => ⟨hI.1, Frm.trans hI.2.1 hf (fun k _ e => by have := kz.out; omega), by rw [hf.block _ (blk_lt hI.2.2) (by have := kz.out; omega)]; exact hI.2.2⟩)
    ⟨Frm.refl _ _, kb4.out⟩
    (fun p x a' Y => (Frm (fun k => k = s + 1 + 1 + 1 ∨ s + 4 ≤ k) X0 Y ∧ Y.heap[s + 1 + 1 + 1]? = some (.cells #[.int .i64 (p.length : Int)] 3 (0, 0))) ∧ (∃ r, M = (p ++ [x]) ++ r) ∧ a' = { tmps := List.toArray [Value.func (.func 49) #[] #[.pointer (some ⟨sb, 0, none⟩)], Value.slice ao M.length cp, Value.int .i64 leave, undef, Value.pointer (some ⟨s, 0, none⟩), Value.pointer (some ⟨s + 1, 0, none⟩), Value.pointer (some ⟨s + 1 + 1, 0, none⟩), Value.pointer (some ⟨s + 1 + 1 + 1, 0, none⟩), Value.int .i64 x.1, Value.int .i64 x.2, Value.func (.func 49) #[] #[.pointer (some ⟨sb, 0, none⟩)], Value.bool false, Value.func (.func 49) #[] #[.pointer (some ⟨sb, 0, none⟩)], Value.int .i64 x.1, Value.int .i64 x.2, undef, undef, undef, undef, undef, undef, undef, undef, undef, undef, undef, undef, undef, undef, undef, undef, undef, undef, undef, undef, undef, undef, undef, undef, undef, undef, undef, undef, undef, undef, undef], defers := [] })
    ?inv ?assign ?body ?done ?stop
  case inv =>
    rintro p x a' Y o o' ⟨⟨h1, h2⟩, h3, h4⟩ ho hc
    have hfr : Frm (fun k => X0.heap.size ≤ k) Y (Y.putObj (X0.heap.size + 1) o') := put_frm (by omega)
    exact ⟨⟨Frm.trans h1 hfr (fun k _ e => by have := kz.out; omega), by rw [hfr.block _ (blk_lt h2) (by have := kz.out; omega)]; exact h2⟩, h3, h4⟩
  case assign =>
    rintro l p x Y K hI hP hsz hK
    have hK2 := hid (hK _ _ ⟨hI, hP, rfl⟩ (KeptC.of_frm (Frm.refl _ _)) (keeps_old (Old.refl _)))
    clear hK hI hP
    dsimp only [encT]
    gi_wp2_with fail
    exact hK2.out
  case body =>
    rintro l p x a' Y ⟨⟨h1, h2⟩, ⟨r, hr⟩, rfl⟩
    have hpl : p.length < M.length := by rw [hr]; simp
    have hx : M[p.length] = x := by simp [hr]
    have e1 := frm_cell h1 (blk_cell kb1.out) (by dsimp only; omega)
    have e2 := frm_cell h1 (blk_cell kb2.out) (by dsimp only; omega)
    have e3 := frm_cell h1 (blk_cell kb3.out) (by dsimp only; omega)
    have f3 := frm_frozen h1 (p := ⟨s + 1 + 1, 0, none⟩) (by have := kz.out; dsimp only; omega) (blk_fz kb3.out 0) (by dsimp only; omega)
    have e4 := blk_cell h2
    have f4 := blk_fz h2 0
    obtain ⟨g, o, rfl, t1, t2⟩ := kM.out p.length hpl
    have hgs : g < s := by have := World.block_lt_of_cell? _ _ t1; have := kss.out; dsimp only at *; omega
    have t1 := frm_cell h1 (ko.out.cell t1) (by dsimp only; omega)
    have t2 := frm_cell h1 (ko.out.cell t2) (by dsimp only; omega)
    rw [hx] at t1 t2
    have kh1 := hid h1
    have kh2 := hid h2
    have hpI : (p.length : Int) < (M.length : Int) := by omega
    have hge : decide ((M.length : Int) ≤ (p.length : Int)) = false := by simp; omega
    have hkp : Hid (KeepsFrom X0.heap.size Y (Y.setCell ⟨s + 1 + 1 + 1, 0, none⟩ (.int .i64 ((p.length : Int) + 1)))) := keeps_low (by have := kz.out; omega) _ _
    have hkc2 : Hid (KeptC (fun k => s ≤ k ∧ k < s + 4) Y (Y.setCell ⟨s + 1 + 1 + 1, 0, none⟩ (.int .i64 ((p.length : Int) + 1)))) := KeptC.of_frm (Frm.mono (frm_set _ _ _ _) (fun k _ e => by omega))
    have hq1 := hid (heap_set (i := 0) (.int .i64 ((p.length : Int) + 1)) kh2.out)
    have hq2 : Hid (Frm (fun k => k = s + 1 + 1 + 1 ∨ s + 4 ≤ k) X0 (Y.setCell ⟨s + 1 + 1 + 1, 0, none⟩ (.int .i64 ((p.length : Int) + 1)))) := Frm.trans kh1.out (frm_set _ _ _ _) (fun k _ e => Or.inl e)
    have g3 : (Y.setCell ⟨s + 1 + 1 + 1, 0, none⟩ (.int .i64 ((p.length : Int) + 1))).cell? ⟨s + 1 + 1, 0, none⟩ = some (.bool false) := frm_cell (frm_set Y (s + 1 + 1 + 1) 0 _) e3 (by dsimp only; omega)
    have hlp : Hid ((p ++ [x]).length = p.length + 1) := by show _ = _; simp
    clear h1 h2 hr hx
    by_cases hlv : (p.length : Int) + 1 = leave
    · have hlb : ((p.length : Int) + 1 == leave) = true := by simpa using hlv
      have khl := hid hlv
      clear hlv
      gi_wp2_with fail
      have b3 := (kh1.out.block (s + 1 + 1) (blk_lt kb3.out) (by omega)).trans kb3.out
      have b4 := ((frm_set Y (s + 1 + 1 + 1) 0 (.int .i64 ((p.length : Int) + 1))).block (s + 1 + 1) (blk_lt b3) (by omega)).trans b3
      exact ⟨hkp.out.trans (keeps_low (by have := kz.out; omega) _ _), rfl, Frm.trans (Frm.mono hq2.out (fun k _ e => by omega)) (frm_set _ _ _ _) (fun k _ e => by omega), heap_set (i := 0) (.bool true) b4⟩
    · have hlb : ((p.length : Int) + 1 == leave) = false := by simpa using hlv
      clear hlv
      gi_wp2_with fail
      refine ⟨hkp.out, hkc2.out, hq2.out, ?_⟩
      rw [hlp.out]
      exact hq1.out
  case done =>
    rintro D q Y hD rfl ⟨h1, h2⟩ hK
    have e1 := frm_cell h1 (blk_cell kb1.out) (by dsimp only; omega)
    have e4 := blk_cell h2
    have b3 := (h1.block (s + 1 + 1) (blk_lt kb3.out) (by omega)).trans kb3.out
    have e3 := blk_cell b3
    have f3 := blk_fz b3 0
    have kh1 := hid h1
    have kK := hid hK
    have kb5 := hid (heap_set (i := 0) (.bool true) b3)
    clear h1 h2 hK b3
    refine inBlock_both (Or.inl rfl) ?_
    dsimp only
    try refine wpIn_wide.2 ?_
    go_wp2_with fail
    have hY9 : Old w (Y.setCell ⟨s + 1 + 1, 0, none⟩ (.bool true)) := Frm.trans (Frm.trans ko.out kh1.out (fun i hi e => by have := kss.out; omega)) (frm_set _ _ _ _) (fun i hi e => by have := kss.out; omega)
    refine leave_marks [D] _ ⟨by simp, fun r hr => ?_⟩ (fun W' hW' => ?_)
    · obtain rfl : r = D := by simpa using hr
      exact ((frm_set Y (s + 1 + 1) 0 (.bool true)).block r (blk_lt kK.out) (by have := kz.out; omega)).trans kK.out
    · have hb9 : W'.heap[s + 1 + 1]? = some (.cells #[.bool true] 4 (0, 0)) := by
        rw [hW'.block (s + 1 + 1) (blk_lt kb5.out) (fun e => by
          have : s + 1 + 1 = D := by simpa using e
          have := kz.out
          omega)]
        exact kb5.out
      have e9 := blk_cell hb9
      refine ⟨.bool true, ?_, rfl, ?_⟩
      · simp [results, Tryd.f27, go_sem, e9]
      · refine Frm.trans hY9 hW' (fun i hi e => ?_)
        have : i = D := by simpa using e
        have := ko.out.size
        omega
  case stop =>
    rintro D c p Y hD - ⟨rfl, h1, h2⟩ hK
    have kh1 := hid h1
    have kh2 := hid h2
    have kK := hid hK
    clear h1 h2 hK
    refine wpIn_wide.2 ?_
    go_wp2_with fail
    have hY9 : Old w Y := Frm.trans ko.out kh1.out (fun i hi e => by have := kss.out; omega)
    refine leave_marks [D] _ ⟨by simp, fun r hr => ?_⟩ (fun W' hW' => ?_)
    · obtain rfl : r = D := by simpa using hr
      exact kK.out
    · have hb9 : W'.heap[s + 1 + 1]? = some (.cells #[.bool true] 4 (0, 0)) := by
        rw [hW'.block (s + 1 + 1) (blk_lt kh2.out) (fun e => by
          have : s + 1 + 1 = D := by simpa using e
          have := kz.out
          omega)]
        exact kh2.out
      have e9 := blk_cell hb9
      refine ⟨.bool true, ?_, rfl, ?_⟩
      · simp [results, Tryd.f27, go_sem, e9]
      · refine Frm.trans hY9 hW' (fun i hi e => ?_)
        have : i = D := by simpa using e
        have := ko.out.size
        omega
end Go.Proofs.YtfiogkmgenodgaaDoor
