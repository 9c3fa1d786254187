/- goes, over Each's function: walked. -/
import Derived.Test.YtidocjgcckcooaaDoorJ23
import Derived.Test.YtidocjgcckcooaaDoorW8
namespace Go.Proofs.YtidocjgcckcooaaDoor
open Go.RowKit Go.Lib Go.Shelf
attribute [local go_sem] Oper.semAt_some

def whoL (p : List (Nat × Int)) : List Int := p.map (fun x => (x.1 : Int))
theorem whoL_app (p : List (Nat × Int)) (x : Nat × Int) : whoL (p ++ [x]) = whoL p ++ [(x.1 : Int)] := by simp [whoL]
theorem whoL_len (p : List (Nat × Int)) : (whoL p).length = p.length := by simp [whoL]
theorem wn_len : ∀ (c : List Int) (i : Nat), (wn c i).length ≤ c.length
  | [], _ => Nat.le_refl _
  | x :: c, i => by
    unfold wn
    have := wn_len c (i + 1)
    split <;> simp <;> omega

/-- Where goes stands while it gathers who wins: its row, in a box. (w0: the world in which the box was made.) -/
structure GoI (w0 wr : World) (wb : Nat) (v : Value) (P : List Int) : Prop where
  old : Frm (fun q => q = wb) w0 wr
  box : wr.heap[wb]? = some (.cells #[v] 28 (0, 0))
  row : wr.ownsRow w0.heap.size 3 1 v P.length (P.map (Value.int .i64))
theorem GoI.olds {w0 wr w2 : World} {wb : Nat} {v : Value} {P : List Int} (h : GoI w0 wr wb v P) (o : Old wr w2) : GoI w0 w2 wb v P :=
  ⟨Frm.trans h.old o (fun _ _ h => h.elim), (o.block _ (blk_lt h.box) (fun h => h)).trans h.box, owns_kept h.row (fun q hq => by obtain ⟨cur, hc⟩ := owns_block h.row hq; exact o.block q (blk_lt hc) (fun h => h))⟩
theorem GoI.at {w0 wr w2 : World} {wb : Nat} {v : Value} {P : List Int} (h : GoI w0 wr wb v P) (hf : Frm (fun q => v.ownBlock = some q) wr w2) : w2.heap[wb]? = some (.cells #[v] 28 (0, 0)) := by
  refine (hf.block _ (blk_lt h.box) (fun e => ?_)).trans h.box
  obtain ⟨cur', hc'⟩ := owns_block h.row e
  exact typ_no h.box hc' (by decide) rfl
theorem GoI.next {w0 wr w2 : World} {wb : Nat} {v v' : Value} {P P' : List Int} (h : GoI w0 wr wb v P) (hf : Frm (fun q => v.ownBlock = some q) wr w2) (hown : w2.ownsRow w0.heap.size 3 1 v' P'.length (P'.map (Value.int .i64))) : GoI w0 (w2.setCell ⟨wb, 0, none⟩ v') wb v' P' := by
  have hb := h.at hf
  have hs := frm_set w2 wb 0 v'
  refine ⟨Frm.trans (Frm.trans h.old hf (fun i hi e => ?_)) hs (fun _ _ e => e), heap_set v' hb, ?_⟩
  · exfalso
    rcases h.row.2 with ⟨e2, _⟩ | ⟨q, c, cur, e2, h3, _⟩
    · rw [e2] at e; simp [Value.ownBlock] at e
    · rw [e2] at e
      simp [Value.ownBlock] at e
      omega
  · refine owns_kept hown (fun q hq => ?_)
    obtain ⟨cur, hcc⟩ := owns_block hown hq
    exact hs.block q (blk_lt hcc) (fun e => by subst e; exact typ_no hb hcc (by decide) rfl)

set_option maxRecDepth 100000 in
set_option maxHeartbeats 8000000 in
theorem goes_any (pb cc pc : Nat) (ca pa da qa : Option Addr) (dc qc : Nat) (c P : List Int) (bz leave : Int) (w : World) (hcl : P.length = c.length) (hcn : c.length ≤ 32)
    (hC : (w.cell? ⟨pb, 0, none⟩ = some (.slice ca c.length cc) ∧ w.cell? ⟨pb, 2, none⟩ = some (.slice pa c.length pc)) ∧ NumsC .i64 w ca c ∧ NumsC .i64 w pa P) (hD : NumsC .i64 w da c) (hQ : NumsC .i64 w qa P) :
    Calls Tryd.prog 24 #[.func (.func 57) #[] #[.pointer (some ⟨pb, 0, none⟩)], .agg #[.slice da c.length dc, .int .i64 bz, .slice qa c.length qc], .int .i64 leave] w fun e w' => e = .returned (.bool true) ∧ Old w w' := by
  have hfn : ∀ (p : Value) (w : World), (binOp BinOp.eql 55 (.func (.func 57) #[] #[p]) .nilFunc).run Tryd.prog w = .ok (.bool false) w := fun _ _ => by kernel_rfl
  have khcl := hid hcl
  have kC := hid hC
  have kD := hid hD
  have kQ := hid hQ
  have kSt := hid (fun T w => each1_N 4 (by omega) pb cc pc ca pa c P hcl (by omega) T w)
  clear hC hD hQ hcl
  obtain ⟨s, hs⟩ : ∃ s, w.heap.size = s := ⟨_, rfl⟩
  have o1 : Old w (w.alloc (.cells #[.slice da c.length dc, .int .i64 bz, .slice qa c.length qc] 31)) := (Old.refl w).alloc _
  have b1 := heap_new w (.cells #[.slice da c.length dc, .int .i64 bz, .slice qa c.length qc] 31)
  have z1 := alloc_size w (.cells #[.slice da c.length dc, .int .i64 bz, .slice qa c.length qc] 31)
  refine (callsIn_wide (n := 5)).1 ?_
  refine callsIn_of_wp_marks Tryd.func24 rfl trivial ?_ rfl
  simp only [Tryd.ntmps24, List.size_toArray, List.length_cons, List.length_nil, Nat.reduceAdd, Nat.reduceSub, Array.replicate_succ, Array.replicate_zero, List.push_toArray, List.append_toArray, List.nil_append, List.cons_append]
  refine wpIn_wide.2 ?_
  go_wp2_with fail
  generalize w.alloc (.cells #[.slice da c.length dc, .int .i64 bz, .slice qa c.length qc] 31) = w1 at *
  have d1 := ((Old.refl w1).alloc (.cells #[.int .i64 leave] 3))
  have b2 := heap_new w1 (.cells #[.int .i64 leave] 3)
  have z2 := alloc_size w1 (.cells #[.int .i64 leave] 3)
  generalize w1.alloc (.cells #[.int .i64 leave] 3) = w2 at *
  have d2 := ((Old.refl w2).alloc (.cells #[.bool false] 4))
  have b3 := heap_new w2 (.cells #[.bool false] 4)
  have z3 := alloc_size w2 (.cells #[.bool false] 4)
  generalize w2.alloc (.cells #[.bool false] 4) = w3 at *
  have d3 := ((Old.refl w3).alloc (.cells #[.slice none 0 0] 28))
  have b4 := heap_new w3 (.cells #[.slice none 0 0] 28)
  have z4 := alloc_size w3 (.cells #[.slice none 0 0] 28)
  generalize w3.alloc (.cells #[.slice none 0 0] 28) = w4 at *
  rw [hs] at b1 z1
  rw [z1] at b2 z2
  rw [z2] at b3 z3
  rw [z3] at b4 z4
  have kb1 := hid ((((d1.trans d2).trans d3).block _ (by rw [z1]; omega) (fun h => h)).trans b1)
  have kb2 := hid (((d2.trans d3).block _ (by rw [z2]; omega) (fun h => h)).trans b2)
  have kb3 := hid ((d3.block _ (by rw [z3]; omega) (fun h => h)).trans b3)
  have ko := hid (((o1.trans d1).trans d2).trans d3)
  have kz := hid z4
  have kss := hid hs
  have hX0 : Hid (GoI w4 w4 (s + 1 + 1 + 1) (.slice none 0 0) (whoL [])) := ⟨Frm.refl _ _, b4, ⟨rfl, Or.inl ⟨rfl, rfl⟩⟩⟩
  clear b1 b2 b3 b4 z1 z2 z3 z4 d1 d2 d3 o1 w1 w2 w3 hs
  go_loopw [8] (fun t8 wr => ∃ (k : Nat) (p : List (Nat × Int)) (v : Value), k ≤ c.length ∧ t8 = .int .i64 (k : Int) ∧ Hid (wn c 0 = p ++ wn (c.drop k) k) ∧ Hid (GoI w4 wr (s + 1 + 1 + 1) v (whoL p))) (fun t8 _ => c.length - (intOf t8).toNat)
  case atStart => exact ⟨0, [], _, Nat.zero_le _, rfl, hid rfl, hX0⟩
  case round =>
    clear hX0
    obtain ⟨k, p, v, hk, rfl, hwn, hX⟩ := hrel
    have hb1 := (hX.out.old.block _ (blk_lt kb1.out) (by omega)).trans kb1.out
    have a0 := blk_cells (i := 0) hb1 rfl
    simp only [List.getElem_toArray, List.getElem_cons_zero] at a0
    have hzs := kz.out
    have kIn : Hid (∀ pp u, w.cell? pp = some u → wr.cell? pp = some u) := fun pp u hu => by
      have h1 := World.block_lt_of_cell? _ _ hu
      have h2 := kss.out
      exact frm_cell hX.out.old (ko.out.cell hu) (by omega)
    by_cases hlt : k < c.length
    · have hlt' : (k : Int) < (c.length : Int) := by omega
      obtain ⟨g, o, hda, d1⟩ := kD.out k hlt
      subst hda
      have d2 := kIn.out _ _ d1
      have hst := hid (wn_step hlt)
      generalize c[k] = x at *
      clear d1 hb1
      have hpl : p.length ≤ 32 := by
        have h1 := wn_len c 0
        have h2 := congrArg List.length hwn.out
        rw [List.length_append] at h2
        omega
      by_cases hx : 0 ≤ x
      · have hx' : x ≥ 0 := hx
        have hwn2 : Hid (wn c 0 = (p ++ [(k, x)]) ++ wn (c.drop (k + 1)) (k + 1)) := by
          show _ = _
          rw [hwn.out, hst.out, if_pos hx, List.append_assoc]
          rfl
        have q4 : Old wr (wr.alloc (.cells #[.int .i64 (k : Int)] 3)) := (Old.refl wr).alloc _
        have hO4 : NumsC .i64 (wr.alloc (.cells #[.int .i64 (k : Int)] 3)) (some ⟨wr.heap.size, 0, none⟩) [(k : Int)] := nums_blk (L := [(k : Int)]) (heap_new wr (.cells #[.int .i64 (k : Int)] 3))
        have kX4 := hid (hX.out.olds q4)
        have hrow := kX4.out.row
        have hsz4 := kX4.out.old.size
        have c20 := blk_cells (i := 0) hX.out.box rfl
        simp only [List.getElem_toArray, List.getElem_cons_zero] at c20
        obtain ⟨va, vc, hvf⟩ := own_form1 hrow
        rw [hvf] at c20
        have hbnd : (whoL p).length ≤ 32 := by rw [whoL_len]; exact hpl
        clear q4
        go_wp2_with (at_builtin; refine wpAppJ (by rfl) _ _ (by rfl) w4.heap.size v (some ⟨wr.heap.size, 0, none⟩) 1 (whoL p) [(k : Int)] (by rw [hvf]; rfl) (by rfl) hrow hO4 (fun h => by cases h) (by simp; omega) (by omega) ?_)
        generalize wr.alloc (.cells #[.int .i64 (k : Int)] 3) = w5 at *
        intro v5 w6 ow5 gr5
        have ow6 : w6.ownsRow w4.heap.size 3 1 v5 (whoL (p ++ [(k, x)])).length ((whoL (p ++ [(k, x)])).map (Value.int .i64)) := by
          rw [whoL_app]
          simpa [kz.out] using ow5
        have hf5 : Frm (fun q => v.ownBlock = some q) w5 w6 := Frm.grown (Frm.refl _ _) gr5 (fun q hq => Or.inr (by rw [hvf]; exact hq))
        obtain ⟨va5, vc5, rfl⟩ := own_form1 ow6
        have kN := hid (kX4.out.next hf5 ow6)
        have hc5 := kX4.out.at hf5
        have e0 := blk_cells (i := 0) hc5 rfl
        have e1 := blk_fz hc5 0
        clear ow5 ow6 gr5 hf5 hc5 hrow hO4 c20
        go_wp2_with fail
        go_roundw
        case rel => exact ⟨k + 1, p ++ [(k, x)], _, by omega, by go_num, hwn2, kN⟩
        case measure => simp [intOf]; omega
      · have hx' : ¬ x ≥ 0 := hx
        have hwn2 : Hid (wn c 0 = p ++ wn (c.drop (k + 1)) (k + 1)) := by
          show _ = _
          rw [hwn.out, hst.out, if_neg hx]
        go_wp2_with fail
        go_roundw
        case rel => exact ⟨k + 1, p, _, by omega, by go_num, hwn2, hX⟩
        case measure => simp [intOf]; omega
    · obtain rfl : k = c.length := by omega
      have hlt' : ¬ (c.length : Int) < (c.length : Int) := by omega
      have hp : p = wn c 0 := by rw [hwn.out, wn_end (Nat.le_refl _)]; simp
      have hwl : (whoL p).length = p.length := whoL_len p
      obtain ⟨wa, wc, hvf⟩ := own_form1 hX.out.row
      subst hvf
      have kwn := hid ((own_newZ hX.out.row).nums)
      have kbx := hid hX.out.box
      have kbp := hid hb1
      have kb2 := hid ((hX.out.old.block _ (blk_lt kb2.out) (by omega)).trans kb2.out)
      have kb3 := hid ((hX.out.old.block _ (blk_lt kb3.out) (by omega)).trans kb3.out)
      have kow : Hid (Old w wr) := Frm.trans ko.out hX.out.old (fun i hi e => by have := kss.out; omega)
      rw [hp] at kwn kbx hwl
      have q5 : Old wr (wr.alloc (.cells #[.int .i64 0] 3)) := (Old.refl wr).alloc _
      have b5 := heap_new wr (.cells #[.int .i64 0] 3)
      have z5 := alloc_size wr (.cells #[.int .i64 0] 3)
      obtain ⟨nb, hnb⟩ : ∃ nb, wr.heap.size = nb := ⟨_, rfl⟩
      rw [hnb] at b5 z5
      have hnb2 : s + 1 + 1 + 1 < nb := by have := blk_lt kbx.out; omega
      have klow : Hid (∀ pp u, wr.cell? pp = some u → pp.block < nb) := fun pp u hu => by have := World.block_lt_of_cell? _ _ hu; omega
      have kq5 := hid q5
      have kb5 := hid b5
      have kz5 := hid z5
      have khnb := hid hnb
      have knb2 := hid hnb2
      clear q5 b5 z5 hX hb1 hwn hk hp
      have kMl : Hid ((whoL (wn c 0)).length = (wn c 0).length) := hwl
      obtain ⟨M, hM⟩ : ∃ M, wn c 0 = M := ⟨_, rfl⟩
      have keL : Hid (eaL c P = M.map (eaF P)) := by show _ = _; unfold eaL; rw [hM]
      have kMm : Hid (∀ x ∈ M, x.1 < c.length) := fun x hx => by
        rw [← hM] at hx
        obtain ⟨k, h1, h2, -, -⟩ := wn_mem hx
        omega
      have hMl : M.length ≤ 32 := by rw [← hM]; have := wn_len c 0; omega
      rw [hM] at kwn kbx hwl
      clear hM kMl
      obtain ⟨wl, hwlen⟩ : ∃ wl, (whoL M).length = wl := ⟨_, rfl⟩
      have kwl : Hid (wl = M.length) := by show _ = _; rw [← hwlen]; exact hwl
      rw [hwlen] at kbx
      clear hwl hwlen
      go_wp2_with fail
      try rw [hnb]
      clear hnb
      generalize wr.alloc (.cells #[.int .i64 0] 3) = X0 at *
      have hkc : Hid (∀ Y, KeptC (fun k => k = nb ∨ k = s + 1 + 1) X0 Y → (Y.cell? ⟨pb, 0, none⟩ = some (.slice ca c.length cc) ∧ Y.cell? ⟨pb, 2, none⟩ = some (.slice pa c.length pc)) ∧ NumsC .i64 Y ca c ∧ NumsC .i64 Y pa P) := fun Y hk => by
        have hcell : ∀ pp u, w.cell? pp = some u → Y.cell? pp = some u := fun pp u hu => kept_cell hk (by have := World.block_lt_of_cell? _ _ hu; have := kss.out; have := knb2.out; omega) (kq5.out.cell (kow.out.cell hu))
        obtain ⟨⟨c1, c2⟩, c3, c4⟩ := kC.out
        refine ⟨⟨hcell _ _ c1, hcell _ _ c2⟩, fun i hi => ?_, fun i hi => ?_⟩
        · obtain ⟨g, o, e1, e2⟩ := c3 i hi
          exact ⟨g, o, e1, hcell _ _ e2⟩
        · obtain ⟨g, o, e1, e2⟩ := c4 i hi
          exact ⟨g, o, e1, hcell _ _ e2⟩
      have kSeq := hid (kSt.out (fun k => k = nb ∨ k = s + 1 + 1) X0 (fun k hk e => by have := kz5.out; have := knb2.out; omega) hkc.out)
      rw [keL.out] at kSeq
      refine (wpIn_wide (n := 5)).1 ?_
      refine range_Np (α := Nat × Int) (by omega) (gf := 57) (lb := #[.pointer (some ⟨pb, 0, none⟩)]) rfl (enters_of Tryd.func57 (by kernel_rfl) rfl)
        kSeq.out (fun h k => h.trans k) (fun _ => KeptC.of_frm (Frm.refl _ _)) (fun W o o' h1 h2 => KeptC.put W _ o o' h1 h2) (fun _ => rfl)
        (fun p Y => Frm (fun k => k = nb ∨ X0.heap.size ≤ k) X0 Y ∧ Y.heap[nb]? = some (.cells #[.int .i64 (p.length : Int)] 3 (0, 0)))
        (fun c _ Y => c = .ret ∧ Frm (fun k => k = s + 1 + 1 ∨ k = nb ∨ X0.heap.size ≤ k) X0 Y ∧ Y.heap[s + 1 + 1]? = some (.cells #[.bool true] 4 (0, 0)))
        (fun p X Y hI hf => ⟨Frm.trans hI.1 hf (fun k _ e => .inr e), by rw [hf.block _ (blk_lt hI.2) (by have := kz5.out; omega)]; exact hI.2⟩)
        (fun c p X Y hI hf => ⟨hI.1, Frm.trans hI.2.1 hf (fun k _ e => .inr (.inr e)), by rw [hf.block _ (blk_lt hI.2.2) (by have := kz5.out; have := knb2.out; omega)]; exact hI.2.2⟩)
        ⟨Frm.refl _ _, kb5.out⟩
        (fun x t => (((t.setIfInBounds 32 (.int .i64 (x.1 : Int))).setIfInBounds 33 (.int .i64 x.2)).setIfInBounds 10 (.int .i64 (x.1 : Int))).setIfInBounds 11 (.int .i64 x.2)) ?assign ?body ?done ?stop
      case assign =>
        rintro l p ⟨i, n⟩ Y K - hK
        have kK := hid hK
        clear hK
        dsimp only [encE] at kK ⊢
        gi_wp2_with fail
        exact kK.out
      case body =>
        rintro l p ⟨i, x⟩ Y ⟨h1, h2⟩ ⟨r, hr⟩
        have hplM : p.length < M.length := by
          have := congrArg List.length hr
          simp only [List.length_map, List.length_append, List.length_cons, List.length_nil] at this
          omega
        have hat : (M.map (eaF P))[p.length]? = some (i, x) := by rw [hr]; simp
        rw [List.getElem?_map, List.getElem?_eq_getElem hplM, Option.map_some] at hat
        have hat2 : eaF P M[p.length] = (i, x) := Option.some.inj hat
        have hi1 : M[p.length].1 = i := congrArg Prod.fst hat2
        have hx1 : P.getD i 0 = x := by
          have := congrArg Prod.snd hat2
          rw [← hi1]
          exact this
        have hic : i < c.length := by rw [← hi1]; exact kMm.out _ (List.getElem_mem hplM)
        have hiP : i < P.length := by have := khcl.out; omega
        have hxP : P[i] = x := by rw [← hx1, List.getD_eq_getElem?_getD, List.getElem?_eq_getElem hiP]; rfl
        have hpw : p.length < (whoL M).length := by rw [whoL_len]; exact hplM
        have hwM : (whoL M)[p.length] = (i : Int) := by simp [whoL, hi1]
        obtain ⟨wg, wo, hwa, w1⟩ := kwn.out p.length hpw
        rw [hwM] at w1
        obtain ⟨qg, qo, hqa, w2⟩ := kQ.out i hiP
        rw [hxP] at w2
        subst hwa hqa
        have hn2 := knb2.out
        have hz5 := kz5.out
        have kcl : Hid (∀ pp u, wr.cell? pp = some u → Y.cell? pp = some u) := fun pp u hu => by
          have h3 := klow.out _ _ hu
          exact frm_cell h1 (kq5.out.cell hu) (by omega)
        have w1 := kcl.out _ _ w1
        have w2 := kcl.out _ _ (kow.out.cell w2)
        have e1 := kcl.out _ _ (blk_cell kbx.out)
        have e2 := kcl.out _ _ (blk_cells (i := 2) kbp.out rfl)
        have e3 := kcl.out _ _ (blk_cell kb2.out)
        simp only [List.getElem_toArray, List.getElem_cons_zero, List.getElem_cons_succ] at e2
        have b3Y := (h1.block (s + 1 + 1) (by have := blk_lt (((kq5.out.block _ (blk_lt kb3.out) (fun h => h)).trans kb3.out)); exact this) (by omega)).trans ((kq5.out.block _ (blk_lt kb3.out) (fun h => h)).trans kb3.out)
        have e4 := blk_cell h2
        have f4 := blk_fz h2 0
        have hge : ¬ ((p.length : Int) ≥ (wl : Int)) := by have := kwl.out; omega
        have hge' : decide ((p.length : Int) ≥ (wl : Int)) = false := decide_eq_false hge
        have hlt2 : (p.length : Int) < (wl : Int) := by have := kwl.out; omega
        have hic' : (i : Int) < (c.length : Int) := by omega
        have hne1 : ((i : Int) != (i : Int)) = false := by simp
        have hne2 : (x != x) = false := by simp
        have hlp : Hid ((p ++ [((i, x) : Nat × Int)]).length = p.length + 1) := by show _ = _; simp
        have hkp : Hid (KeepsFrom X0.heap.size Y (Y.setCell ⟨nb, 0, none⟩ (.int .i64 ((p.length : Int) + 1)))) := keeps_low (by omega) _ _
        have hkc2 : Hid (KeptC (fun k => k = nb ∨ k = s + 1 + 1) Y (Y.setCell ⟨nb, 0, none⟩ (.int .i64 ((p.length : Int) + 1)))) := KeptC.of_frm (Frm.mono (frm_set _ _ _ _) (fun k _ e => .inl e))
        have hb4 := heap_set (i := 0) (.int .i64 ((p.length : Int) + 1)) h2
        have hq1 := hid hb4
        have hq2 : Hid (Frm (fun k => k = nb ∨ X0.heap.size ≤ k) X0 (Y.setCell ⟨nb, 0, none⟩ (.int .i64 ((p.length : Int) + 1)))) := Frm.trans h1 (frm_set _ _ _ _) (fun k _ e => Or.inl e)
        have g3 : (Y.setCell ⟨nb, 0, none⟩ (.int .i64 ((p.length : Int) + 1))).cell? ⟨s + 1, 0, none⟩ = some (.int .i64 leave) := frm_cell (frm_set Y nb 0 _) e3 (by dsimp only; omega)
        have g4 : (Y.setCell ⟨nb, 0, none⟩ (.int .i64 ((p.length : Int) + 1))).cell? ⟨nb, 0, none⟩ = some (.int .i64 ((p.length : Int) + 1)) := blk_cell hb4
        have hb5 := ((frm_set Y nb 0 (.int .i64 ((p.length : Int) + 1))).block (s + 1 + 1) (blk_lt b3Y) (by omega)).trans b3Y
        have g5 : (Y.setCell ⟨nb, 0, none⟩ (.int .i64 ((p.length : Int) + 1))).cell? ⟨s + 1 + 1, 0, none⟩ = some (.bool false) := blk_cell hb5
        have g6 := blk_fz b3Y 0
        have kb6 := hid (heap_set (i := 0) (.bool true) hb5)
        have hpl32 : p.length ≤ 32 := by omega
        obtain ⟨pl, hpl⟩ : ∃ pl, p.length = pl := ⟨_, rfl⟩
        rw [hpl] at hpl32 w1 e4 hge hge' hlt2 hlp hkp hkc2 hq1 hq2 g3 g4 g5 kb6
        clear h1 h2 hr hat hat2 hi1 hx1 hxP hpw hwM hb4 hb5 b3Y hplM hpl hz5
        by_cases hlv : (pl : Int) + 1 = leave
        · subst hlv
          have hlb : ((pl : Int) + 1 == (pl : Int) + 1) = true := by simp
          gi_wp2_with fail
          exact ⟨hkp.out.trans (keeps_low (by have := kz5.out; omega) _ _), rfl, Frm.trans (Frm.mono hq2.out (fun k _ e => .inr e)) (frm_set _ _ _ _) (fun k _ e => .inl e), kb6.out⟩
        · have hlb : ((pl : Int) + 1 == leave) = false := by simpa using hlv
          clear hlv
          gi_wp2_with fail
          refine ⟨hkp.out, hkc2.out, hq2.out, ?_⟩
          rw [hlp.out]
          exact hq1.out
      case done =>
        rintro D q Y hD rfl ⟨h1, h2⟩ hK
        have hn2 := knb2.out
        have hz5 := kz5.out
        have kcl : Hid (∀ pp u, wr.cell? pp = some u → Y.cell? pp = some u) := fun pp u hu => by
          have h3 := klow.out _ _ hu
          exact frm_cell h1 (kq5.out.cell hu) (by omega)
        have e1 := kcl.out _ _ (blk_cell kbx.out)
        have b3Y := (h1.block (s + 1 + 1) (by have := blk_lt (((kq5.out.block _ (blk_lt kb3.out) (fun h => h)).trans kb3.out)); exact this) (by omega)).trans ((kq5.out.block _ (blk_lt kb3.out) (fun h => h)).trans kb3.out)
        have e4 := blk_cell h2
        have e3 := blk_cell b3Y
        have f3 := blk_fz b3Y 0
        have hlen : ((M.map (eaF P)).length : Int) = (wl : Int) := by rw [List.length_map, kwl.out]
        rw [hlen] at e4
        have heq : ((wl : Int) == (wl : Int)) = true := by simp
        have koY : Hid (Old w Y) := Frm.trans (kow.out.trans kq5.out) h1 (fun i hi e => by have := kss.out; omega)
        have kK := hid hK
        have khD := hid hD
        have kb5 := hid (heap_set (i := 0) (.bool true) b3Y)
        clear h1 h2 hK b3Y hlen hD
        refine inBlock_both (Or.inl rfl) ?_
        dsimp only
        try refine wpIn_wide.2 ?_
        go_wp2_with fail
        have hY9 : Old w (Y.setCell ⟨s + 1 + 1, 0, none⟩ (.bool true)) := Frm.trans koY.out (frm_set _ _ _ _) (fun i hi e => by have := kss.out; omega)
        refine leave_marks [D] _ ⟨by simp, fun r hr => ?_⟩ (fun W' hW' => ?_)
        · obtain rfl : r = D := by simpa using hr
          exact ((frm_set Y (s + 1 + 1) 0 (.bool true)).block r (blk_lt kK.out) (by have := khD.out; omega)).trans kK.out
        · have hb9 : W'.heap[s + 1 + 1]? = some (.cells #[.bool true] 4 (0, 0)) := by
            rw [hW'.block (s + 1 + 1) (blk_lt kb5.out) (fun e => by
              have : s + 1 + 1 = D := by simpa using e
              have := khD.out
              omega)]
            exact kb5.out
          have e9 := blk_cell hb9
          refine ⟨.bool true, ?_, rfl, ?_⟩
          · simp [results, Tryd.f24, go_sem, e9]
          · refine Frm.trans hY9 hW' (fun i hi e => ?_)
            have : i = D := by simpa using e
            have := khD.out
            have := kss.out
            omega
      case stop =>
        rintro D c' p Y hD - ⟨rfl, h1, h2⟩ hK
        have hn2 := knb2.out
        have hz5 := kz5.out
        have koY : Hid (Old w Y) := Frm.trans (kow.out.trans kq5.out) h1 (fun i hi e => by have := kss.out; omega)
        have kh2 := hid h2
        have kK := hid hK
        have khD := hid hD
        clear h1 h2 hK hD
        refine wpIn_wide.2 ?_
        go_wp2_with fail
        refine leave_marks [D] _ ⟨by simp, fun r hr => ?_⟩ (fun W' hW' => ?_)
        · obtain rfl : r = D := by simpa using hr
          exact kK.out
        · have hb9 : W'.heap[s + 1 + 1]? = some (.cells #[.bool true] 4 (0, 0)) := by
            rw [hW'.block (s + 1 + 1) (blk_lt kh2.out) (fun e => by
              have : s + 1 + 1 = D := by simpa using e
              have := khD.out
              omega)]
            exact kh2.out
          have e9 := blk_cell hb9
          refine ⟨.bool true, ?_, rfl, ?_⟩
          · simp [results, Tryd.f24, go_sem, e9]
          · refine Frm.trans koY.out hW' (fun i hi e => ?_)
            have : i = D := by simpa using e
            have := khD.out
            have := kss.out
            omega
end Go.Proofs.YtidocjgcckcooaaDoor
