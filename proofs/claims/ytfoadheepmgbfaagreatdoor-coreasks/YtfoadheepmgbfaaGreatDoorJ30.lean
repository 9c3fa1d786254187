/- The document's best choice of a part: walked. -/
import Derived.Test.YtfoadheepmgbfaaGreatDoorJ25
import Derived.BigQuiet
namespace Go.Proofs.YtfoadheepmgbfaaGreatDoor
open Go.RowKit Go.Lib Go.Shelf
attribute [local go_sem] Oper.semAt_some

/-- Where the document's Part stands. -/
structure PI (w wr : World) (m : Nat) (B : Ins) (bo : Option Addr) (cap S k f tb : Nat) (V : List Value) (cb : Nat) (bz : Int) (xb i left : Nat) (v : Value) (cl : List Int) : Prop where
  old : Old w wr
  lo : w.heap.size ≤ xb
  x : wr.heap[xb]? = some (.cells #[.int .i64 (m : Int), .slice bo B.length cap] 24 (0, 0))
  r : wr.heap[xb + 1]? = some (.cells #[.slice none 0 0, .int .i64 0] 71 (0, 0))
  c : wr.heap[cb]? = some (.cells #[v, .int .i64 bz] 71 (0, 0))
  cr : xb + 1 < cb
  tab : TB wr B S 0 tb V
  row : wr.ownsRow w.heap.size 3 1 v i (cl.map (Value.int .i64))
  doc : cl ++ dP k (B.drop i) i left = dP k B 0 f

theorem PI.olds {w wr w2 : World} {m : Nat} {B : Ins} {bo : Option Addr} {cap S k f tb : Nat} {V : List Value} {cb : Nat} {bz : Int} {xb i left : Nat} {v : Value} {cl : List Int} (h : PI w wr m B bo cap S k f tb V cb bz xb i left v cl) (o : Old wr w2) : PI w w2 m B bo cap S k f tb V cb bz xb i left v cl :=
  ⟨h.old.trans o, h.lo, (o.block _ (blk_lt h.x) (fun h => h)).trans h.x, (o.block _ (blk_lt h.r) (fun h => h)).trans h.r, (o.block _ (blk_lt h.c) (fun h => h)).trans h.c, h.cr, h.tab.old o, owns_kept h.row (fun q hq => by obtain ⟨cur, hc⟩ := owns_block h.row hq; exact o.block q (blk_lt hc) (fun h => h)), h.doc⟩

theorem PI.next {w wr w2 : World} {m : Nat} {B : Ins} {bo : Option Addr} {cap S k f tb : Nat} {V : List Value} {cb : Nat} {bz : Int} {xb i left left' : Nat} {v v' : Value} {cl : List Int} {n : Int} (h : PI w wr m B bo cap S k f tb V cb bz xb i left v cl)
    (hf : Frm (fun q => v.ownBlock = some q) wr w2) (hown : w2.ownsRow w.heap.size 3 1 v' (i + 1) ((cl ++ [n]).map (Value.int .i64))) (hd : dP k (B.drop i) i left = n :: dP k (B.drop (i + 1)) (i + 1) left') : PI w (w2.setCell ⟨cb, 0, none⟩ v') m B bo cap S k f tb V cb bz xb (i + 1) left' v' (cl ++ [n]) := by
  have hne : ∀ q a t, t ≠ 3 → wr.heap[q]? = some (.cells a t (0, 0)) → ¬ v.ownBlock = some q := fun q a t ht hq e => by
    obtain ⟨cur', hc'⟩ := owns_block h.row e
    exact typ_no hq hc' ht rfl
  have hx := (hf.block _ (blk_lt h.x) (hne _ _ _ (by decide) h.x)).trans h.x
  have hr := (hf.block _ (blk_lt h.r) (hne _ _ _ (by decide) h.r)).trans h.r
  have hc := (hf.block _ (blk_lt h.c) (hne _ _ _ (by decide) h.c)).trans h.c
  have hs := frm_set w2 cb 0 v'
  have hcr := h.cr
  have hlo := h.lo
  have hold : Old w w2 := Frm.trans (S := fun _ => False) h.old hf (fun i hi e => by
    rcases h.row.2 with ⟨e2, _⟩ | ⟨q, c, cur, e2, h3, _⟩
    · rw [e2] at e; simp [Value.ownBlock] at e
    · rw [e2] at e
      simp [Value.ownBlock] at e
      omega)
  have ht : TB w2 B S 0 tb V := h.tab.frm hf (hne _ _ _ (by decide) h.tab.blk) (fun j r k1 k2 e1 => by
    obtain ⟨r2, f1, f2⟩ := h.tab.rows j k1 k2
    rw [e1] at f1
    simp only [Option.some.injEq, Value.slice.injEq, Addr.mk.injEq, and_true] at f1
    subst f1
    exact hne _ _ _ (by decide) f2)
  refine ⟨Frm.trans (S := fun _ => False) hold hs (fun i hi e => by omega), hlo, (hs.block _ (blk_lt hx) (by omega)).trans hx, (hs.block _ (blk_lt hr) (by omega)).trans hr, heap_set v' hc, hcr, ?_, ?_, ?_⟩
  · exact ht.frm hs (fun e => typ_no ht.blk (e ▸ hc) (by decide) rfl) (fun j r k1 k2 e1 e => by
      obtain ⟨r2, f1, f2⟩ := ht.rows j k1 k2
      rw [e1] at f1
      simp only [Option.some.injEq, Value.slice.injEq, Addr.mk.injEq, and_true] at f1
      subst f1
      exact typ_no f2 (e ▸ hc) (by decide) rfl)
  · refine owns_kept hown (fun q hq => ?_)
    obtain ⟨cur, hcc⟩ := owns_block hown hq
    exact hs.block q (blk_lt hcc) (fun e => by subst e; exact typ_no hc hcc (by decide) rfl)
  · rw [List.append_assoc, List.singleton_append, ← hd]
    exact h.doc

theorem PI.cAt {w wr w2 : World} {m : Nat} {B : Ins} {bo : Option Addr} {cap S k f tb : Nat} {V : List Value} {cb : Nat} {bz : Int} {xb i left : Nat} {v : Value} {cl : List Int} (h : PI w wr m B bo cap S k f tb V cb bz xb i left v cl) (hf : Frm (fun q => v.ownBlock = some q) wr w2) : w2.heap[cb]? = some (.cells #[v, .int .i64 bz] 71 (0, 0)) := by
  refine (hf.block _ (blk_lt h.c) (fun e => ?_)).trans h.c
  obtain ⟨cur', hc'⟩ := owns_block h.row e
  exact typ_no h.c hc' (by decide) rfl

theorem own_newZ {w : World} {lo : Nat} {v : Value} {L : List Int} (h : w.ownsRow lo 3 1 v L.length (L.map (Value.int .i64))) : NewZ lo w v L := by
  rcases h.2 with ⟨rfl, h0⟩ | ⟨g, cap, cur, rfl, h3, h4, h5, h6, h7, h8⟩
  · exact ⟨none, 0, by rw [h0], .inl ⟨rfl, List.eq_nil_of_length_eq_zero h0⟩⟩
  · exact ⟨some ⟨g, 0, none⟩, cap, rfl, .inr ⟨g, cur, rfl, h3, h4, by simpa using h8⟩⟩
end Go.Proofs.YtfoadheepmgbfaaGreatDoor

/- The document's Part: walked. -/
namespace Go.Proofs.YtfoadheepmgbfaaGreatDoor
open Go.RowKit Go.Lib Go.Shelf
attribute [local go_sem] Oper.semAt_some


theorem own_form1 {w : World} {B : Nat} {v : Value} {n : Nat} {xs : List Value} (h : w.ownsRow B 3 1 v n xs) : ∃ a c, v = .slice a n c := by
  rcases h.2 with ⟨rfl, h0⟩ | ⟨g, cap, cur, rfl, _⟩
  · exact ⟨none, 0, by rw [h0]⟩
  · exact ⟨_, _, rfl⟩

set_option maxRecDepth 100000 in
set_option maxHeartbeats 8000000 in
theorem rpart_any (gd : Int) (bo : Option Addr) (cap : Nat) (B : Ins) (k : Int) (f : Nat) (hfu : f < 4294967296) (w : World) (h : InsC w bo B) (hl : B.length ≤ 9223372036854775807) :
    Calls Tryz.prog 38 #[.agg #[.int .i64 gd, .slice bo B.length cap], .int .i64 k, .int .u32 (f : Int)] w fun e w' => ∃ v, e = .returned (.tuple #[.agg #[v, .int .i64 (frZ gd B k f)], .int .i64 (ckZ gd B k f)]) ∧ NewZ w.heap.size w' v (ptC gd B k f) ∧ Old w w' := by
  have o1 : Old w (w.alloc (.cells #[.int .i64 gd, .slice bo B.length cap] 24)) := (Old.refl w).alloc _
  have b1 := heap_new w (.cells #[.int .i64 gd, .slice bo B.length cap] 24)
  have z1 := alloc_size w (.cells #[.int .i64 gd, .slice bo B.length cap] 24)
  have oR : Old (w.alloc (.cells #[.int .i64 gd, .slice bo B.length cap] 24)) ((w.alloc (.cells #[.int .i64 gd, .slice bo B.length cap] 24)).alloc (.cells #[.slice none 0 0, .int .i64 0] 71)) := (Old.refl _).alloc _
  have bR := heap_new (w.alloc (.cells #[.int .i64 gd, .slice bo B.length cap] 24)) (.cells #[.slice none 0 0, .int .i64 0] 71)
  rw [z1] at bR
  have b1 := (oR.block _ (blk_lt b1) (fun h => h)).trans b1
  have x0 := blk_cells (i := 0) b1 rfl
  have x1 := blk_cells (i := 1) b1 rfl
  simp only [qqa, qqb, qqc] at x0 x1
  have ko := hid (o1.trans oR)
  have kb1 := hid b1
  have kbR := hid bR
  have kh := hid h
  have kW := hid (wrong_any gd bo cap B k f hfu _ (h.old ko.out) hl)
  clear o1 oR b1 bR h
  unfold frZ
  by_cases hz : ckZ gd B k f = 0
  · obtain ⟨h1, h2, h3, h4, h5, h6⟩ := ck_ok hfu hz
    obtain ⟨m, rfl⟩ : ∃ m : Nat, gd = (m : Int) := ⟨gd.toNat, by omega⟩
    obtain ⟨kk, rfl⟩ : ∃ kk : Nat, k = (kk : Int) := ⟨k.toNat, by omega⟩
    have kpt := hid (pt_doc (gd := (m : Int)) (B := B) (k := kk) (f := f) (by omega) hz)
    have tp := tops_of h1 (ins_lt kh.out)
    have hl32 := tp.len
    have k8 := hid tp.eight
    have kco := hid tp.coins
    have klt := hid (ins_lt kh.out)
    have hbd : Hid (∀ k f, f < 2 ^ m → 0 ≤ best (B.drop k) f ∧ best (B.drop k) f ≤ 35184372088832) := fun k f hf => by
      have ok := okB_of (P := []) h1 rfl (ins_lt kh.out) (fun v hv => by cases hv)
      refine ⟨best_pos _ _, ?_⟩
      have hm10 := ok.all
      have h1 := best_bnd (ok.drop k) (f := f) (by omega) (sub_of_lt hf)
      have h2 : ((B.drop k).length : Int) ≤ 32 := by rw [List.length_drop]; omega
      omega
    have hS : 2 ^ m ≤ 1024 := by
      rw [show (1024 : Nat) = 2 ^ 10 by decide]
      exact Nat.pow_le_pow_right (by decide) (by omega)
    have kTa := hid (fun W o => table_any m bo cap B W (kh.out.old o) h1)
    rw [kpt.out, if_pos hz, hz, Int.toNat_natCast]
    rw [hz] at kW
    simp only [Int.toNat_natCast] at h4
    clear hz tp h1 h2 h5 h6 kpt
    obtain ⟨bz, hbz⟩ : ∃ bz, best (B.drop kk) f = bz := ⟨_, rfl⟩
    rw [hbz]
    generalize 2 ^ m = S at *
    go_enter Tryz.func38, Tryz.ntmps38
    go_wp2_with fail
    clear z1
    generalize (w.alloc (.cells #[.int .i64 (m : Int), .slice bo B.length cap] 24)).alloc (.cells #[.slice none 0 0, .int .i64 0] 71) = w1 at *
    refine kW.out.mono ?_
    rintro e w2 ⟨rfl, o2⟩
    have kb1 := hid ((o2.block _ (blk_lt kb1.out) (fun h => h)).trans kb1.out)
    have kbR := hid ((o2.block _ (blk_lt kbR.out) (fun h => h)).trans kbR.out)
    have x0 := o2.cell x0
    have x1 := o2.cell x1
    have ko2 := hid (ko.out.trans o2)
    clear o2 ko kW
    have kT := hid (kTa.out w2 ko2.out)
    go_wp2_with fail
    refine kT.out.mono ?_
    rintro e w3 ⟨tb, V, rfl, hTB, o3⟩
    clear kT
    obtain ⟨rc, r1, r2⟩ := hTB.cell (j := kk) (by omega) (by omega)
    have r3 := r2 f h4
    have hkl : (kk : Int) < (B.length : Int) + 1 := by omega
    have hfS : (f : Int) < (S : Int) := by omega
    rw [hbz] at r3
    have q3 : Old w3 (w3.alloc (.cells #[.slice none 0 0, .int .i64 bz] 71)) := (Old.refl w3).alloc _
    have b3 := heap_new w3 (.cells #[.slice none 0 0, .int .i64 bz] 71)
    obtain ⟨xb, hxb⟩ : ∃ xb, w.heap.size = xb := ⟨_, rfl⟩
    have o33 := o3.trans q3
    have hX0 : Hid (PI w (w3.alloc (.cells #[.slice none 0 0, .int .i64 bz] 71)) m B bo cap S kk f tb V w3.heap.size bz xb 0 f (.slice none 0 0) []) := ⟨ko2.out.trans o33, by omega, by rw [← hxb]; exact (o33.block _ (blk_lt kb1.out) (fun h => h)).trans kb1.out, by rw [← hxb]; exact (o33.block _ (blk_lt kbR.out) (fun h => h)).trans kbR.out, b3, by have := blk_lt kbR.out; have := o3.size; omega, hTB.old q3, ⟨rfl, Or.inl ⟨rfl, rfl⟩⟩, rfl⟩
    have kxb := hid hxb
    rw [hxb] at x0 x1 ⊢
    have x0 := o3.cell x0
    have x1 := o3.cell x1
    clear q3 b3 hTB r2 hxb o3 o33
    go_wp2_with fail
    clear x0 x1 r1 r3 kb1 kbR ko2
    generalize w3.alloc (.cells #[.slice none 0 0, .int .i64 bz] 71) = w4 at *
    generalize w3.heap.size = cb at *
    go_loopw [11, 12] (fun t11 t12 wr => ∃ (i left : Nat) (v : Value) (cl : List Int), i ≤ B.length ∧ t11 = .int .i64 (left : Int) ∧ t12 = .int .i64 (i : Int) ∧ left < S ∧ Hid (cl.length = i) ∧ Hid (PI w wr m B bo cap S kk f tb V cb bz xb i left v cl)) (fun _ t12 _ => B.length - (intOf t12).toNat)
    case atStart => exact ⟨0, f, _, [], Nat.zero_le _, rfl, rfl, h4, hid rfl, hX0⟩
    case round =>
      clear hX0
      obtain ⟨i, left, v, cl, hi, rfl, rfl, hleft, kcl, hX⟩ := hrel
      have x1 := blk_cells (i := 1) hX.out.x rfl
      simp only [qqa, qqb, qqc] at x1
      by_cases hlt : i < B.length
      · have hlt' : (i : Int) < (B.length : Int) := by omega
        obtain ⟨g, o, a0, c0, rfl, i1, i2, -, -⟩ := kh.out i hlt
        have i3 := hX.out.old.cell i1
        have hdc : Hid (B.drop i = B[i] :: B.drop (i + 1)) := List.drop_eq_getElem_cons hlt
        have hi8 := k8.out _ (List.getElem_mem hlt)
        by_cases hik : kk ≤ i
        · have hik' : (i : Int) ≥ (kk : Int) := by omega
          go_wp2_with fail
          rename World => wi
          go_loopw [13, 14] (fun t13 t14 wq => ∃ (J : Nat) (n : Int), J ≤ B[i].length ∧ t13 = .int .i64 n ∧ t14 = .int .i64 ((J : Int) - 1) ∧ Hid (n = (docA (B.drop (i + 1)) left (best (B.drop i) left) (B[i].drop J) J).1) ∧ Hid (Old wi wq)) (fun _ t14 _ => (intOf t14 + 1).toNat)
          case atStart => exact ⟨B[i].length, -1, Nat.le_refl _, rfl, rfl, hid (by rw [List.drop_length]; rfl), hid (Old.refl _)⟩
          case round =>
            obtain ⟨J, n, hJ, rfl, rfl, hn, hq⟩ := hrel
            cases J with
            | zero =>
              have hg : ¬ (((0 : Nat) : Int) - 1 ≥ 0) := by omega
              have hX := hid (hX.out.olds hq.out)
              rw [List.drop_zero] at hn
              have hd0 : Hid (dP kk (B.drop i) i left = (docA (B.drop (i + 1)) left (best (B.drop i) left) B[i] 0).1 :: dP kk (B.drop (i + 1)) (i + 1) (docA (B.drop (i + 1)) left (best (B.drop i) left) B[i] 0).2) := by
                show _ = _
                rw [hdc.out, dP, if_pos hik]
              rcases docA_at (R := B.drop (i + 1)) (f := left) (b := best (B.drop i) left) B[i] 0 with hda | ⟨j, hj, hda, hsb⟩
              · rw [hda] at hn hd0
                have hn1 : n = -1 := hn.out
                have hdd : Hid (dP kk (B.drop i) i left = n :: dP kk (B.drop (i + 1)) (i + 1) left) := by
                  show _ = _
                  rw [hd0.out, hn1]
                have hn0 : ¬ n ≥ 0 := by omega
                clear hn hd0 hda hn1
                have q4 : Old wr (wr.alloc (.cells #[.int .i64 n] 3)) := (Old.refl wr).alloc _
                have hO4 : NumsC .i64 (wr.alloc (.cells #[.int .i64 n] 3)) (some ⟨wr.heap.size, 0, none⟩) [n] := nums_blk (L := [n]) (heap_new wr (.cells #[.int .i64 n] 3))
                have kX4 := hid (hX.out.olds q4)
                have hrow : (wr.alloc (.cells #[.int .i64 n] 3)).ownsRow w.heap.size 3 1 v cl.length (cl.map (Value.int .i64)) := by have := kX4.out.row; rw [← kcl.out] at this; exact this
                have hsz4 := kX4.out.old.size
                have c0 := blk_cells (i := 0) kX4.out.c rfl
                simp only [qqa, qqb] at c0
                obtain ⟨va, vc, hvf⟩ := own_form1 hrow
                rw [hvf] at c0
                have c00 := blk_cells (i := 0) hX.out.c rfl
                simp only [qqa, qqb] at c00
                rw [hvf] at c00
                clear q4
                have hcl32 : cl.length ≤ 32 := by have := kcl.out; omega
                go_wp2_with (at_builtin; refine wpAppJ (by rfl) _ _ (by rfl) w.heap.size v (some ⟨wr.heap.size, 0, none⟩) 1 cl [n] (by rw [hvf]; rfl) (by rfl) hrow hO4 (fun h => by cases h) (by simp; omega) (by omega) ?_)
                generalize wr.alloc (.cells #[.int .i64 n] 3) = w4 at *
                intro v5 w5 ow5 gr5
                have hl5 : (cl ++ [n]).length = i + 1 := by rw [List.length_append, kcl.out]; rfl
                have ow6 : w5.ownsRow w.heap.size 3 1 v5 (i + 1) ((cl ++ [n]).map (Value.int .i64)) := by
                  have := ow5
                  simpa [kcl.out] using this
                clear ow5
                have ow5 := ow6
                clear ow6
                have hf5 : Frm (fun q => v.ownBlock = some q) w4 w5 := Frm.grown (Frm.refl _ _) gr5 (fun q hq => Or.inr (by rw [hvf]; exact hq))
                obtain ⟨va5, vc5, rfl⟩ := own_form1 ow5
                have kN := hid (kX4.out.next hf5 ow5 hdd.out)
                have hc5 := kX4.out.cAt hf5
                have d0 := blk_cells (i := 0) hc5 rfl
                have d1 := blk_fz hc5 0
                have khl := hid hl5
                clear ow5 gr5 hf5 hc5 hrow hO4 c0 c00 hl5
                go_wp2_with fail
                go_roundw
                case rel => exact ⟨i + 1, left, _, _, by omega, rfl, by go_num, hleft, khl, kN⟩
                case measure => simp [intOf]; omega
              · rw [hda] at hn hd0
                have hn1 : n = (j : Int) := by have := hn.out; simpa using this
                subst hn1
                obtain ⟨og, oo, rfl, p1, p2⟩ := i2 j hj
                have hxl := klt.out _ (List.getElem_mem hlt) _ (List.getElem_mem hj)
                obtain ⟨xg, hxg⟩ : ∃ xg, B[i][j].1 = xg := ⟨_, rfl⟩
                rw [hxg] at p1 hxl hsb hd0
                obtain ⟨hle, hfg⟩ := sub_less (by omega) hxl hsb
                obtain ⟨lf, hlf0⟩ : ∃ lf, less left xg = lf := ⟨_, rfl⟩
                have hff : (left : Int) - (xg : Int) = (lf : Int) := by omega
                have hlf : lf < S := by omega
                obtain ⟨n, hnn⟩ : ∃ n : Int, (j : Int) = n := ⟨_, rfl⟩
                have hdd : Hid (dP kk (B.drop i) i left = n :: dP kk (B.drop (i + 1)) (i + 1) lf) := by
                  show _ = _
                  rw [hd0.out, ← hnn, hlf0]
                  simp
                have hn0 : n ≥ 0 := by omega
                have hnl : n < (B[i].length : Int) := by omega
                have hnt : n.toNat = j := by omega
                rw [hnn]
                clear hn hd0 hda hfg hle hlf0 p2
                have knn := hid hnn
                clear hnn
                have q4 : Old wr (wr.alloc (.cells #[.int .i64 n] 3)) := (Old.refl wr).alloc _
                have hO4 : NumsC .i64 (wr.alloc (.cells #[.int .i64 n] 3)) (some ⟨wr.heap.size, 0, none⟩) [n] := nums_blk (L := [n]) (heap_new wr (.cells #[.int .i64 n] 3))
                have kX4 := hid (hX.out.olds q4)
                have hrow : (wr.alloc (.cells #[.int .i64 n] 3)).ownsRow w.heap.size 3 1 v cl.length (cl.map (Value.int .i64)) := by have := kX4.out.row; rw [← kcl.out] at this; exact this
                have hsz4 := kX4.out.old.size
                have c0 := blk_cells (i := 0) kX4.out.c rfl
                simp only [qqa, qqb] at c0
                obtain ⟨va, vc, hvf⟩ := own_form1 hrow
                rw [hvf] at c0
                have c00 := blk_cells (i := 0) hX.out.c rfl
                simp only [qqa, qqb] at c00
                rw [hvf] at c00
                clear q4
                have hcl32 : cl.length ≤ 32 := by have := kcl.out; omega
                go_wp2_with (at_builtin; refine wpAppJ (by rfl) _ _ (by rfl) w.heap.size v (some ⟨wr.heap.size, 0, none⟩) 1 cl [n] (by rw [hvf]; rfl) (by rfl) hrow hO4 (fun h => by cases h) (by simp; omega) (by omega) ?_)
                generalize wr.alloc (.cells #[.int .i64 n] 3) = w4 at *
                intro v5 w5 ow5 gr5
                have hl5 : (cl ++ [n]).length = i + 1 := by rw [List.length_append, kcl.out]; rfl
                have ow6 : w5.ownsRow w.heap.size 3 1 v5 (i + 1) ((cl ++ [n]).map (Value.int .i64)) := by
                  have := ow5
                  simpa [kcl.out] using this
                clear ow5
                have ow5 := ow6
                clear ow6
                have hf5 : Frm (fun q => v.ownBlock = some q) w4 w5 := Frm.grown (Frm.refl _ _) gr5 (fun q hq => Or.inr (by rw [hvf]; exact hq))
                obtain ⟨va5, vc5, rfl⟩ := own_form1 ow5
                have kN := hid (kX4.out.next hf5 ow5 hdd.out)
                have hc5 := kX4.out.cAt hf5
                have d0 := blk_cells (i := 0) hc5 rfl
                have d1 := blk_fz hc5 0
                have khl := hid hl5
                clear ow5 gr5 hf5 hc5 hrow hO4 c0 c00 hl5
                have x5 := blk_cells (i := 1) kN.out.x rfl
                simp only [qqa, qqb, qqc] at x5
                have i5 := kN.out.old.cell i1
                have p5 := kN.out.old.cell p1
                go_wp2_with fail
                go_roundw
                case rel => exact ⟨i + 1, lf, _, _, by omega, rfl, by go_num, hlf, khl, kN⟩
                case measure => simp [intOf]; omega
            | succ J =>
              have e1 : (((J + 1 : Nat) : Int) - 1) = (J : Int) := by omega
              rw [e1]
              have hg : (J : Int) ≥ 0 := by omega
              have hjl : J < B[i].length := by omega
              have hjl' : (J : Int) < (B[i].length : Int) := by omega
              obtain ⟨og, oo, rfl, p1, p2⟩ := i2 J hjl
              have x3 := hq.out.cell x1
              have i4 := hq.out.cell i3
              have p3 := hq.out.cell (hX.out.old.cell p1)
              have p4 := hq.out.cell (hX.out.old.cell p2)
              have hxl := klt.out _ (List.getElem_mem hlt) _ (List.getElem_mem hjl)
              have hxc := kco.out _ (List.getElem_mem hlt) _ (List.getElem_mem hjl)
              have hnx := hid (docA_drop (R := B.drop (i + 1)) (f := left) (b := best (B.drop i) left) hjl)
              generalize B[i][J] = x at *
              obtain ⟨xg, xc⟩ := x
              dsimp only at p3 p4 hxl hxc hnx
              have b5 := heap_new wr (.cells #[.int .u32 (xg : Int), .int .i64 xc] 62)
              have o5 : Old wr (wr.alloc (.cells #[.int .u32 (xg : Int), .int .i64 xc] 62)) := (Old.refl wr).alloc _
              have s0 := blk_cells (i := 0) b5 rfl
              have s1 := blk_cells (i := 1) b5 rfl
              simp only [qqa, qqb, qqc] at s0 s1
              have hand := bits_and_i64 xg left hxl (by omega)
              have kq5 := hid (hq.out.trans o5)
              have kTB := hid (hX.out.tab.old kq5.out)
              by_cases hsb : subB xg left = true
              · have ha : xg &&& left = xg := (and_is hxl).2 hsb
                rw [ha] at hand
                obtain ⟨hle, hfg⟩ := sub_less (by omega) hxl hsb
                have hff : (left : Int) - (xg : Int) = ((less left xg : Nat) : Int) := by omega
                have hfl : less left xg < S := by omega
                obtain ⟨ra, t1, t20⟩ := kTB.out.cell (j := i + 1) (by omega) (by omega)
                obtain ⟨rb, t3, t40⟩ := kTB.out.cell (j := i) (by omega) (by omega)
                have t2 := t20 _ hfl
                have t4 := t40 left hleft
                clear t20 t40
                have hbb := hbd.out (i + 1) _ hfl
                have hi1 : (i : Int) + 1 < (B.length : Int) + 1 := by omega
                have hi2 : (i : Int) < (B.length : Int) + 1 := by omega
                have hleft' : (left : Int) < (S : Int) := by omega
                generalize less left xg = d at *
                have hdS : (d : Int) < (S : Int) := by omega
                clear hle hfg ha hfl
                by_cases heq : xc + best (B.drop (i + 1)) d = best (B.drop i) left
                · have kn : Hid (((J : Nat) : Int) = (docA (B.drop (i + 1)) left (best (B.drop i) left) (B[i].drop J) J).1) := by
                    show _ = _
                    rw [hnx.out, if_pos ⟨hsb, heq⟩]
                  generalize best (B.drop (i + 1)) d = bd at *
                  generalize best (B.drop i) left = be at *
                  have heq' : ((xc + bd) == be) = true := by simpa using heq
                  clear hnx hn
                  go_upto_region 15 with fail
                  go_quiet (fail)
                  go_wp2_with fail
                  go_roundw
                  case rel => exact ⟨J, _, by omega, rfl, by first | rfl | go_num, kn, kq5.out.drewN _⟩
                  case measure => simp [intOf]
                · have kn : Hid (n = (docA (B.drop (i + 1)) left (best (B.drop i) left) (B[i].drop J) J).1) := by
                    show _ = _
                    rw [hnx.out, if_neg (fun e => heq e.2)]
                    exact hn.out
                  generalize best (B.drop (i + 1)) d = bd at *
                  generalize best (B.drop i) left = be at *
                  have heq' : ((xc + bd) == be) = false := by simpa using heq
                  clear hnx hn
                  go_upto_region 15 with fail
                  go_quiet (fail)
                  go_wp2_with fail
                  go_roundw
                  case rel => exact ⟨J, _, by omega, rfl, by first | rfl | go_num, kn, kq5.out.drewN _⟩
                  case measure => simp [intOf]
              · have ha : ¬ ((xg &&& left : Nat) : Int) = (xg : Int) := fun e => hsb ((and_is hxl).1 (by omega))
                have ha' : ((((xg &&& left : Nat) : Int)) == (xg : Int)) = false := by simpa using ha
                have kn : Hid (n = (docA (B.drop (i + 1)) left (best (B.drop i) left) (B[i].drop J) J).1) := by
                  show _ = _
                  rw [hnx.out, if_neg (fun e => hsb e.1)]
                  exact hn.out
                generalize xg &&& left = aa at *
                clear hnx hn
                go_upto_region 15 with fail
                go_quiet (fail)
                go_wp2_with fail
                go_roundw
                case rel => exact ⟨J, _, by omega, rfl, by first | rfl | go_num, kn, kq5.out.drewN _⟩
                case measure => simp [intOf]
        · have hik' : ¬ (i : Int) ≥ (kk : Int) := by omega
          go_wp2_with fail
          rename World => wi
          go_loopw [13, 14] (fun t13 t14 wq => ∃ J : Nat, J ≤ B[i].length ∧ t13 = .int .i64 (-1) ∧ t14 = .int .i64 ((J : Int) - 1) ∧ wq = wi) (fun _ _ _ => 0)
          case atStart => exact ⟨B[i].length, Nat.le_refl _, rfl, rfl, by trivial⟩
          case round =>
            obtain ⟨J, hJ, rfl, rfl, hwr⟩ := hrel
            obtain rfl := hwr.symm
            obtain ⟨n, hn⟩ : ∃ n : Int, -1 = n := ⟨_, rfl⟩
            have hdd : Hid (dP kk (B.drop i) i left = n :: dP kk (B.drop (i + 1)) (i + 1) left) := by
              show _ = _
              rw [hdc.out, dP, if_neg (by omega), hn]
            have hn0 : ¬ n ≥ 0 := by omega
            rw [hn]
            clear hn
            by_cases hg : ((J : Int) - 1 ≥ 0)
            · have q4 : Old wi (wi.alloc (.cells #[.int .i64 n] 3)) := (Old.refl wi).alloc _
              have hO4 : NumsC .i64 (wi.alloc (.cells #[.int .i64 n] 3)) (some ⟨wi.heap.size, 0, none⟩) [n] := nums_blk (L := [n]) (heap_new wi (.cells #[.int .i64 n] 3))
              have kX4 := hid (hX.out.olds q4)
              have hrow : (wi.alloc (.cells #[.int .i64 n] 3)).ownsRow w.heap.size 3 1 v cl.length (cl.map (Value.int .i64)) := by have := kX4.out.row; rw [← kcl.out] at this; exact this
              have hsz4 := kX4.out.old.size
              have c0 := blk_cells (i := 0) kX4.out.c rfl
              simp only [qqa, qqb] at c0
              obtain ⟨va, vc, hvf⟩ := own_form1 hrow
              rw [hvf] at c0
              have c00 := blk_cells (i := 0) hX.out.c rfl
              simp only [qqa, qqb] at c00
              rw [hvf] at c00
              clear q4
              have hcl32 : cl.length ≤ 32 := by have := kcl.out; omega
              go_wp2_with (at_builtin; refine wpAppJ (by rfl) _ _ (by rfl) w.heap.size v (some ⟨wi.heap.size, 0, none⟩) 1 cl [n] (by rw [hvf]; rfl) (by rfl) hrow hO4 (fun h => by cases h) (by simp; omega) (by omega) ?_)
              generalize wi.alloc (.cells #[.int .i64 n] 3) = w4 at *
              intro v5 w5 ow5 gr5
              have hl5 : (cl ++ [n]).length = i + 1 := by rw [List.length_append, kcl.out]; rfl
              have ow6 : w5.ownsRow w.heap.size 3 1 v5 (i + 1) ((cl ++ [n]).map (Value.int .i64)) := by
                have := ow5
                simpa [kcl.out] using this
              clear ow5
              have ow5 := ow6
              clear ow6
              have hf5 : Frm (fun q => v.ownBlock = some q) w4 w5 := Frm.grown (Frm.refl _ _) gr5 (fun q hq => Or.inr (by rw [hvf]; exact hq))
              obtain ⟨va5, vc5, rfl⟩ := own_form1 ow5
              have kN := hid (kX4.out.next hf5 ow5 hdd.out)
              have hc5 := kX4.out.cAt hf5
              have d0 := blk_cells (i := 0) hc5 rfl
              have d1 := blk_fz hc5 0
              have khl := hid hl5
              clear ow5 gr5 hf5 hc5 hrow hO4 c0 c00 hl5
              go_wp2_with fail
              go_roundw
              case rel => exact ⟨i + 1, left, _, _, by omega, rfl, by go_num, hleft, khl, kN⟩
              case measure => simp [intOf]; omega
            · have q4 : Old wi (wi.alloc (.cells #[.int .i64 n] 3)) := (Old.refl wi).alloc _
              have hO4 : NumsC .i64 (wi.alloc (.cells #[.int .i64 n] 3)) (some ⟨wi.heap.size, 0, none⟩) [n] := nums_blk (L := [n]) (heap_new wi (.cells #[.int .i64 n] 3))
              have kX4 := hid (hX.out.olds q4)
              have hrow : (wi.alloc (.cells #[.int .i64 n] 3)).ownsRow w.heap.size 3 1 v cl.length (cl.map (Value.int .i64)) := by have := kX4.out.row; rw [← kcl.out] at this; exact this
              have hsz4 := kX4.out.old.size
              have c0 := blk_cells (i := 0) kX4.out.c rfl
              simp only [qqa, qqb] at c0
              obtain ⟨va, vc, hvf⟩ := own_form1 hrow
              rw [hvf] at c0
              have c00 := blk_cells (i := 0) hX.out.c rfl
              simp only [qqa, qqb] at c00
              rw [hvf] at c00
              clear q4
              have hcl32 : cl.length ≤ 32 := by have := kcl.out; omega
              go_wp2_with (at_builtin; refine wpAppJ (by rfl) _ _ (by rfl) w.heap.size v (some ⟨wi.heap.size, 0, none⟩) 1 cl [n] (by rw [hvf]; rfl) (by rfl) hrow hO4 (fun h => by cases h) (by simp; omega) (by omega) ?_)
              generalize wi.alloc (.cells #[.int .i64 n] 3) = w4 at *
              intro v5 w5 ow5 gr5
              have hl5 : (cl ++ [n]).length = i + 1 := by rw [List.length_append, kcl.out]; rfl
              have ow6 : w5.ownsRow w.heap.size 3 1 v5 (i + 1) ((cl ++ [n]).map (Value.int .i64)) := by
                have := ow5
                simpa [kcl.out] using this
              clear ow5
              have ow5 := ow6
              clear ow6
              have hf5 : Frm (fun q => v.ownBlock = some q) w4 w5 := Frm.grown (Frm.refl _ _) gr5 (fun q hq => Or.inr (by rw [hvf]; exact hq))
              obtain ⟨va5, vc5, rfl⟩ := own_form1 ow5
              have kN := hid (kX4.out.next hf5 ow5 hdd.out)
              have hc5 := kX4.out.cAt hf5
              have d0 := blk_cells (i := 0) hc5 rfl
              have d1 := blk_fz hc5 0
              have khl := hid hl5
              clear ow5 gr5 hf5 hc5 hrow hO4 c0 c00 hl5
              go_wp2_with fail
              go_roundw
              case rel => exact ⟨i + 1, left, _, _, by omega, rfl, by go_num, hleft, khl, kN⟩
              case measure => simp [intOf]; omega
      · obtain rfl : i = B.length := by omega
        have hlt' : ¬ (B.length : Int) < (B.length : Int) := by omega
        have hrow := hX.out.row
        have hdoc : Hid (cl = dP kk B 0 f) := by
          show cl = _
          have := hX.out.doc
          rw [List.drop_length] at this
          simpa [dP] using this
        rw [← kcl.out] at hrow
        have kz := hid (own_newZ hrow)
        obtain ⟨va, vc, rfl⟩ := own_form1 hrow
        have c0 := blk_cells (i := 0) hX.out.c rfl
        have c1 := blk_cells (i := 1) hX.out.c rfl
        have r0 := blk_cells (i := 0) hX.out.r rfl
        have r1 := blk_cells (i := 1) hX.out.r rfl
        have rf := blk_fz hX.out.r
        simp only [qqa, qqb, qqc] at c0 c1 r0 r1
        clear hrow
        go_wp2_with fail
        have hfz : Frm (fun q => q = xb + 1) wr ((wr.setCell ⟨xb + 1, 0, none⟩ (.slice va cl.length vc)).setCell ⟨xb + 1, 1, none⟩ (.int .i64 bz)) := Frm.trans (frm_set _ _ _ _) (frm_set _ _ _ _) (fun _ _ e => e)
        have g0 := set_oth (i := 1) (j := 0) (u := .int .i64 bz) (set_same (u := .slice va cl.length vc) r0) (by decide)
        have g1 := set_same (u := .int .i64 bz) (set_oth (i := 0) (j := 1) (u := .slice va cl.length vc) r1 (by decide))
        refine bodyPost_ret (v := .tuple #[.agg #[.slice va cl.length vc, .int .i64 bz], .int .i64 0]) (by simp [results, Tryz.f38, go_sem, g0, g1]) rfl ⟨_, rfl, ?_, ?_⟩
        · rw [← hdoc.out]
          exact kz.out.frm5 hfz hX.out.r (by decide)
        · exact Frm.trans (S := fun _ => False) hX.out.old hfz (fun i hi e => by have := hX.out.lo; omega)
  · have hp0 : ptC gd B k f = [] := by unfold ptC; rw [if_neg hz]
    rw [hp0, if_neg hz]
    generalize ckZ gd B k f = z at *
    have hzb : (z != 0) = true := by simpa using hz
    go_enter Tryz.func38, Tryz.ntmps38
    go_wp2_with fail
    clear z1
    generalize (w.alloc (.cells #[.int .i64 gd, .slice bo B.length cap] 24)).alloc (.cells #[.slice none 0 0, .int .i64 0] 71) = w1 at *
    refine kW.out.mono ?_
    rintro e w2 ⟨rfl, o2⟩
    have kb1 := hid ((o2.block _ (blk_lt kb1.out) (fun h => h)).trans kb1.out)
    have kbR := hid ((o2.block _ (blk_lt kbR.out) (fun h => h)).trans kbR.out)
    have x0 := o2.cell x0
    have x1 := o2.cell x1
    have ko2 := hid (ko.out.trans o2)
    clear o2 ko kW
    have e0 := blk_cells (i := 0) kbR.out rfl
    have e1 := blk_fz kbR.out 0
    have e3 := blk_cells (i := 1) kbR.out rfl
    have b3 := heap_set (i := 0) (.slice none 0 0) kbR.out
    have e4 := blk_cells (i := 1) b3 rfl
    have e5 := blk_fz b3 1
    have b4 := heap_set (i := 1) (.int .i64 0) b3
    have fS := (frm_set w2 (w.heap.size + 1) 0 (.slice none 0 0)).trans (frm_set _ (w.heap.size + 1) 1 (.int .i64 0)) (fun _ _ e => e)
    go_wp2_with fail
    have fS2 : Hid (Frm (fun q => q = w.heap.size + 1) w2 ((w2.setCell ⟨w.heap.size + 1, 0, none⟩ (.slice none 0 0)).setCell ⟨w.heap.size + 1, 1, none⟩ (.int .i64 0))) := fS
    have kb4 := hid b4
    clear fS b3 b4 e0 e1 e3 e4 e5
    generalize (w2.setCell ⟨w.heap.size + 1, 0, none⟩ (.slice none 0 0)).setCell ⟨w.heap.size + 1, 1, none⟩ (.int .i64 0) = Z at *
    have q0 := blk_cells (v := .slice none 0 0) (i := 0) kb4.out rfl
    have q1 := blk_cells (v := .int .i64 0) (i := 1) kb4.out rfl
    refine bodyPost_ret (v := .tuple #[.agg #[.slice none 0 0, .int .i64 0], .int .i64 z]) ?_ rfl ?_
    · simp [results, Tryz.f38, go_sem, q0, q1]
    · exact ⟨_, rfl, ⟨none, 0, rfl, .inl ⟨rfl, rfl⟩⟩, Frm.trans ko2.out fS2.out (fun i hi e => by omega)⟩
end Go.Proofs.YtfoadheepmgbfaaGreatDoor
