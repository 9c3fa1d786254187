/- The document's best choice: in plain words; whole numbers appended. -/
import Derived.Test.YtidocjgcckcooaaDoorD1
import Derived.Test.YtidocjgcckcooaaDoorJ21
import Derived.BigQuiet
namespace Go.Proofs.YtidocjgcckcooaaDoor
open Go.RowKit Go.Lib Go.Shelf
attribute [local go_sem] Oper.semAt_some

/-- The first offer by which so much can be had, and what is left then. -/
def docA (R : Ins) (f : Nat) (b : Int) : List Off → Nat → Int × Nat
  | [], _ => (-1, f)
  | o :: L, j => if subB o.1 f = true ∧ o.2 + best R (less f o.1) = b then ((j : Int), less f o.1) else docA R f b L (j + 1)

theorem docA_head {R : Ins} {f : Nat} {b : Int} : ∀ (L : List Off) (i : Nat), (optA f L i).flatMap (fun o => if o.2.1 + best R o.2.2 = b then (allC R o.2.2).map (fun c => o.1 :: c) else []) ≠ [] →
    ((optA f L i).flatMap (fun o => if o.2.1 + best R o.2.2 = b then (allC R o.2.2).map (fun c => o.1 :: c) else [])).headD [] = (docA R f b L i).1 :: (allC R (docA R f b L i).2).headD []
  | [], i, h => by
    simp only [optA, List.flatMap_cons, List.flatMap_nil, List.append_nil] at h ⊢
    split at h
    · rename_i h1
      rw [if_pos h1]
      have h2 := allC_some R f
      cases he : allC R f with
      | nil => exact absurd he h2
      | cons c T => simp [docA, he]
    · exact absurd rfl h
  | o :: L, i, h => by
    unfold docA
    rw [optA] at h ⊢
    by_cases hs : subB o.1 f = true
    · rw [if_pos hs] at h ⊢
      rw [List.flatMap_cons] at h ⊢
      by_cases hb : o.2 + best R (less f o.1) = b
      · dsimp only
        rw [if_pos hb, if_pos ⟨hs, hb⟩]
        have h2 := allC_some R (less f o.1)
        cases he : allC R (less f o.1) with
        | nil => exact absurd he h2
        | cons c T => simp
      · dsimp only at h ⊢
        rw [if_neg hb, List.nil_append] at h ⊢
        rw [if_neg (fun e : _ ∧ _ => hb e.2)]
        exact docA_head L (i + 1) h
    · rw [if_neg hs] at h ⊢
      rw [if_neg (fun e : _ ∧ _ => hs e.1)]
      exact docA_head L (i + 1) h

theorem docA_at {R : Ins} {f : Nat} {b : Int} : ∀ (L : List Off) (i : Nat), docA R f b L i = (-1, f) ∨ ∃ j, ∃ h : j < L.length, docA R f b L i = (((i + j : Nat) : Int), less f L[j].1) ∧ subB L[j].1 f = true
  | [], i => .inl rfl
  | o :: L, i => by
    unfold docA
    split
    · rename_i h
      exact .inr ⟨0, by simp, by simp, h.1⟩
    · rcases docA_at L (i + 1) with h | ⟨j, h1, h2, h3⟩
      · exact .inl h
      · exact .inr ⟨j + 1, by simp; omega, by rw [h2]; simp; omega, by simpa using h3⟩

theorem docA_drop {R : Ins} {f : Nat} {b : Int} {L : List Off} {j : Nat} (h : j < L.length) : docA R f b (L.drop j) j = if subB L[j].1 f = true ∧ L[j].2 + best R (less f L[j].1) = b then ((j : Int), less f L[j].1) else docA R f b (L.drop (j + 1)) (j + 1) := by
  rw [List.drop_eq_getElem_cons h, docA]

/-- The choice, from some buyer on; of those ahead of k nothing is taken. -/
def dP (k : Nat) : Ins → Nat → Nat → List Int
  | [], _, _ => []
  | l :: R, i, f => if k ≤ i then (docA R f (best (l :: R) f) l 0).1 :: dP k R (i + 1) (docA R f (best (l :: R) f) l 0).2 else -1 :: dP k R (i + 1) f

theorem dP_len (k : Nat) : ∀ (B : Ins) (i f : Nat), (dP k B i f).length = B.length
  | [], _, _ => rfl
  | l :: R, i, f => by
    unfold dP
    split <;> simp [dP_len k R]

theorem dP_head (k : Nat) : ∀ (B : Ins) (i f : Nat), k ≤ i → (allC B f).headD [] = dP k B i f
  | [], i, f, h => rfl
  | l :: R, i, f, h => by
    unfold dP
    rw [if_pos h, allC_cons]
    unfold opts
    have h2 := allC_some (l :: R) f
    rw [allC_cons] at h2
    unfold opts at h2
    rw [docA_head l 0 h2, dP_head k R (i + 1) _ (by omega)]

theorem dP_low (k : Nat) : ∀ (d : Nat) (B : Ins) (i f : Nat), i + d = k → d ≤ B.length → dP k B i f = List.replicate d (-1) ++ dP k (B.drop d) k f
  | 0, B, i, f, h, _ => by
    obtain rfl : i = k := by omega
    simp
  | d + 1, [], i, f, h, hd => by simp at hd
  | d + 1, l :: R, i, f, h, hd => by
    rw [dP, if_neg (by omega), dP_low k d R (i + 1) f (by omega) (by simpa using hd), List.replicate_succ]
    simp

theorem pt_doc {gd : Int} {B : Ins} {k f : Nat} (hk : k ≤ B.length) (hz : ckZ gd B (k : Int) f = 0) : ptC gd B (k : Int) f = dP k B 0 f := by
  unfold ptC
  rw [if_pos hz, Int.toNat_natCast, dP_low k k B 0 f (by omega) hk, ← dP_head k _ k f (Nat.le_refl _)]
  unfold toldC
  have h := allC_some (B.drop k) f
  cases he : allC (B.drop k) f with
  | nil => exact absurd he h
  | cons c T => simp

theorem nums_none {k : IntKind} {w : World} {L : List Int} (h : NumsC k w none L) : L = [] := by
  cases L with
  | nil => rfl
  | cons x L =>
    obtain ⟨g, o, e, _⟩ := h 0 (by simp)
    cases e

/-- Whole numbers in memory behind a row that one owns. -/
theorem wpAppJ {ops : Array Oper} {rest : List Oper} {o : Oper} {a : Act} {Q : Exit → Act → World → Prop} {w : World} (hgd : o.guard = none) (s x : Operand) (ho : o.op = .call { callee := .builtin .append, args := #[s, x], argTypes := #[28, 28] })
    (B : Nat) (v : Value) (xo : Option Addr) (c2 : Nat) (L1 L2 : List Int) (hs : a.eval s = v) (hx : a.eval x = .slice xo L2.length c2) (hown : w.ownsRow B 3 1 v L1.length (L1.map (Value.int .i64))) (hO : NumsC .i64 w xo L2) (hn : xo = none → c2 = 0) (hl : L1.length + L2.length ≤ 1000000) (hB : B ≤ w.heap.size)
    (h : ∀ v' w', w'.ownsRow B 3 1 v' (L1 ++ L2).length ((L1 ++ L2).map (Value.int .i64)) → w.grownBy w' v.ownBlock → wpList Tryd.prog ops Q rest (a.put o.dst v') w') : wpList Tryd.prog ops Q (o :: rest) a w := by
  obtain ⟨i0, hi0, hz0, hz1, hz2⟩ := parts_int
  cases xo with
  | none =>
    obtain rfl := nums_none hO
    rw [hn rfl] at hx
    refine wpList_append_own_none hgd s x 28 ho B 3 i0 1 Tryd.underlying28 hi0 v L1.length (L1.map (Value.int .i64)) hs hown hx ?_
    refine h v w (by simpa using hown) ⟨rfl, rfl, rfl, Nat.le_refl _, fun _ _ _ => rfl⟩
  | some ad =>
    have hsp : L2 = [] ∨ ∃ g o, ad = ⟨g, o, none⟩ := by
      by_cases h0 : 0 < L2.length
      · obtain ⟨g, o, e, _⟩ := hO 0 h0
        exact Or.inr ⟨g, o, Option.some.inj e⟩
      · exact Or.inl (List.eq_nil_of_length_eq_zero (by omega))
    have hc : ∀ (j : Nat) (u : Value), (L2.map (Value.int .i64))[j]? = some u → w.cell? (ad.add j) = some u := by
      rcases hsp with rfl | ⟨g, o, rfl⟩
      · intro j u hu
        simp at hu
      · exact num_cells hO
    exact wpList_append_own _ hgd s x 28 ho B 3 i0 _ 1 8 Tryd.underlying28 hi0 hz0 hz1 hz2 rfl (by omega) v L1.length (L1.map (Value.int .i64)) hs hown ad L2.length c2 (L2.map (Value.int .i64)) hx (by simp) hc (ints_one L2) (by unfold maxLen; omega) (by omega) hB (fun v' w' h8 h9 _ => h v' w' (by rw [List.length_append, List.map_append]; exact h8) h9)

theorem own_newZ {w : World} {lo : Nat} {v : Value} {L : List Int} (h : w.ownsRow lo 3 1 v L.length (L.map (Value.int .i64))) : NewZ lo w v L := by
  rcases h.2 with ⟨rfl, h0⟩ | ⟨g, cap, cur, rfl, h3, h4, h5, h6, h7, h8⟩
  · exact ⟨none, 0, by rw [h0], .inl ⟨rfl, List.eq_nil_of_length_eq_zero h0⟩⟩
  · exact ⟨some ⟨g, 0, none⟩, cap, rfl, .inr ⟨g, cur, rfl, h3, h4, by simpa using h8⟩⟩
theorem own_form1 {w : World} {B : Nat} {v : Value} {n : Nat} {xs : List Value} (h : w.ownsRow B 3 1 v n xs) : ∃ a c, v = .slice a n c := by
  rcases h.2 with ⟨rfl, h0⟩ | ⟨g, cap, cur, rfl, _⟩
  · exact ⟨none, 0, by rw [h0]⟩
  · exact ⟨_, _, rfl⟩


/-- Where the document's Best stands. -/
structure PJ (w wr : World) (m : Nat) (B : Ins) (bo : Option Addr) (cap S f tb : Nat) (V : List Value) (xb i left : Nat) (v : Value) (cl : List Int) : Prop where
  old : Old w wr
  lo : w.heap.size ≤ xb
  x : wr.heap[xb]? = some (.cells #[.int .i64 (m : Int), .slice bo B.length cap] 24 (0, 0))
  tab : TB wr B S 0 tb V
  row : wr.ownsRow w.heap.size 3 1 v i (cl.map (Value.int .i64))
  doc : cl ++ dP 0 (B.drop i) i left = dP 0 B 0 f

theorem PJ.olds {w wr w2 : World} {m : Nat} {B : Ins} {bo : Option Addr} {cap S f tb : Nat} {V : List Value} {xb i left : Nat} {v : Value} {cl : List Int} (h : PJ w wr m B bo cap S f tb V xb i left v cl) (o : Old wr w2) : PJ w w2 m B bo cap S f tb V xb i left v cl :=
  ⟨h.old.trans o, h.lo, (o.block _ (blk_lt h.x) (fun h => h)).trans h.x, h.tab.old o, owns_kept h.row (fun q hq => by obtain ⟨cur, hc⟩ := owns_block h.row hq; exact o.block q (blk_lt hc) (fun h => h)), h.doc⟩

theorem PJ.next {w wr w2 : World} {m : Nat} {B : Ins} {bo : Option Addr} {cap S f tb : Nat} {V : List Value} {xb i left left' : Nat} {v v' : Value} {cl : List Int} {n : Int} (h : PJ w wr m B bo cap S f tb V xb i left v cl)
    (hf : Frm (fun q => v.ownBlock = some q) wr w2) (hown : w2.ownsRow w.heap.size 3 1 v' (i + 1) ((cl ++ [n]).map (Value.int .i64))) (hd : dP 0 (B.drop i) i left = n :: dP 0 (B.drop (i + 1)) (i + 1) left') : PJ w w2 m B bo cap S f tb V xb (i + 1) left' v' (cl ++ [n]) := by
  have hne : ∀ q a t, t ≠ 3 → wr.heap[q]? = some (.cells a t (0, 0)) → ¬ v.ownBlock = some q := fun q a t ht hq e => by
    obtain ⟨cur', hc'⟩ := owns_block h.row e
    exact typ_no hq hc' ht rfl
  have hx := (hf.block _ (blk_lt h.x) (hne _ _ _ (by decide) h.x)).trans h.x
  have hold : Old w w2 := Frm.trans (S := fun _ => False) h.old hf (fun i hi e => by
    rcases h.row.2 with ⟨e2, _⟩ | ⟨q, c, cur, e2, h3, _⟩
    · rw [e2] at e; simp [Value.ownBlock] at e
    · rw [e2] at e
      simp [Value.ownBlock] at e
      omega)
  have ht : TB w2 B S 0 tb V := h.tab.frm hf (hne _ _ _ (by decide) h.tab.blk) (fun j r k1 k2 e1 => by
    obtain ⟨r2, f1, f2⟩ := h.tab.rows j k1 k2
    rw [e1] at f1
    simp only [Option.some.injEq, Value.slice.injEq, Addr.mk.injEq, and_true] at f1
    subst f1
    exact hne _ _ _ (by decide) f2)
  refine ⟨hold, h.lo, hx, ht, hown, ?_⟩
  rw [List.append_assoc, List.singleton_append, ← hd]
  exact h.doc
end Go.Proofs.YtidocjgcckcooaaDoor

/- The document's best choice: walked. -/
namespace Go.Proofs.YtidocjgcckcooaaDoor
open Go.RowKit Go.Lib Go.Shelf
attribute [local go_sem] Oper.semAt_some


set_option maxRecDepth 100000 in
set_option maxHeartbeats 8000000 in
theorem rb_any (m : Nat) (bo : Option Addr) (cap : Nat) (B : Ins) (w : World) (h : InsC w bo B) (hz : insZ (m : Int) B = 0) :
    Calls Tryd.prog 50 #[.agg #[.int .i64 (m : Int), .slice bo B.length cap]] w fun e w' => ∃ v, e = .returned v ∧ NewZ w.heap.size w' v (dP 0 B 0 (2 ^ m - 1)) ∧ Old w w' := by
  have o1 : Old w (w.alloc (.cells #[.int .i64 (m : Int), .slice bo B.length cap] 24)) := (Old.refl w).alloc _
  have b1 := heap_new w (.cells #[.int .i64 (m : Int), .slice bo B.length cap] 24)
  have x0 := blk_cells (i := 0) b1 rfl
  have x1 := blk_cells (i := 1) b1 rfl
  simp only [List.getElem_toArray, List.getElem_cons_zero, List.getElem_cons_succ] at x0 x1
  have tp := tops_of hz (ins_lt h)
  obtain ⟨m', hm', hm1, hm10, -⟩ := tp.m
  obtain rfl : m = m' := by omega
  have hl32 := tp.len
  have k8 := hid tp.eight
  have kco := hid tp.coins
  have klt := hid (ins_lt h)
  have hbd : Hid (∀ k f, f < 2 ^ m → 0 ≤ best (B.drop k) f ∧ best (B.drop k) f ≤ 35184372088832) := fun k f hf => by
    have ok := okB_of (P := []) hz rfl (ins_lt h) (fun v hv => by cases hv)
    refine ⟨best_pos _ _, ?_⟩
    have hm10 := ok.all
    have h1 := best_bnd (ok.drop k) (f := f) (by omega) (sub_of_lt hf)
    have h2 : ((B.drop k).length : Int) ≤ 32 := by rw [List.length_drop]; omega
    omega
  have hS : 2 ^ m ≤ 1024 := by
    rw [show (1024 : Nat) = 2 ^ 10 by decide]
    exact Nat.pow_le_pow_right (by decide) (by omega)
  have hS0 : 0 < 2 ^ m := Nat.pow_pos (by decide)
  have kTa := hid (tab_any m bo cap B _ (h.old o1) hz)
  have kAl := hid (fun W => rall_any m (by omega) W)
  have kh := hid h
  have ko := hid o1
  have kb1 := hid b1
  clear o1 b1 h hz tp hm'
  go_enter Tryd.func50, Tryd.ntmps50
  go_wp2_with fail
  generalize w.alloc (.cells #[.int .i64 (m : Int), .slice bo B.length cap] 24) = w1 at *
  refine kTa.out.mono ?_
  rintro e w3 ⟨tb, V, rfl, hTB, o3⟩
  have x0 := o3.cell x0
  have x1 := o3.cell x1
  obtain ⟨xb, hxb⟩ : ∃ xb, w.heap.size = xb := ⟨_, rfl⟩
  have kb3 := hid ((o3.block _ (blk_lt kb1.out) (fun h => h)).trans kb1.out)
  have ko3 := hid (ko.out.trans o3)
  rw [hxb] at x0 x1 kb3 ⊢
  have kTB := hid hTB
  have kxb := hid hxb
  clear hTB o3 kTa hxb
  go_wp2_with fail
  refine (kAl.out w3).mono ?_
  rintro e w' ⟨rfl, e9⟩
  rw [e9]
  clear e9 w'
  generalize hSe : 2 ^ m = S at *
  obtain ⟨f, hf⟩ : ∃ f, S - 1 = f := ⟨_, rfl⟩
  rw [hf]
  have h4 : f < S := by omega
  have kfe : Hid (2 ^ m - 1 = f) := by show _ = _; rw [hSe]; exact hf
  clear hf hSe
  have hX0 : Hid (PJ w w3 m B bo cap S f tb V xb 0 f (.slice none 0 0) []) := ⟨ko3.out, by have := kxb.out; omega, kb3.out, kTB.out, ⟨rfl, Or.inl ⟨rfl, rfl⟩⟩, rfl⟩
  clear kb3 ko3 kTB
  go_wp2_with fail
  clear x0 x1
  go_loopw [4, 5, 6] (fun t4 t5 t6 wr => ∃ (i left : Nat) (v : Value) (cl : List Int), i ≤ B.length ∧ t4 = .int .u32 (left : Int) ∧ t5 = v ∧ t6 = .int .i64 (i : Int) ∧ left < S ∧ Hid (cl.length = i) ∧ Hid (PJ w wr m B bo cap S f tb V xb i left v cl)) (fun _ _ t6 _ => B.length - (intOf t6).toNat)
  case atStart => exact ⟨0, f, _, [], Nat.zero_le _, rfl, rfl, rfl, h4, hid rfl, hX0⟩
  case round =>
    clear hX0
    obtain ⟨i, left, v, cl, hi, rfl, hv, rfl, hleft, kcl, hX⟩ := hrel
    have hv := hv.symm
    subst hv
    have x1 := blk_cells (i := 1) hX.out.x rfl
    simp only [List.getElem_toArray, List.getElem_cons_zero, List.getElem_cons_succ] at x1
    by_cases hlt : i < B.length
    · have hlt' : (i : Int) < (B.length : Int) := by omega
      obtain ⟨g, o, a0, c0, rfl, i1, i2, -, -⟩ := kh.out i hlt
      have i3 := hX.out.old.cell i1
      have hdc : Hid (B.drop i = B[i] :: B.drop (i + 1)) := List.drop_eq_getElem_cons hlt
      have hi8 := k8.out _ (List.getElem_mem hlt)
      have hd0 : Hid (dP 0 (B.drop i) i left = (docA (B.drop (i + 1)) left (best (B.drop i) left) B[i] 0).1 :: dP 0 (B.drop (i + 1)) (i + 1) (docA (B.drop (i + 1)) left (best (B.drop i) left) B[i] 0).2) := by
        show _ = _
        rw [hdc.out, dP, if_pos (Nat.zero_le _)]
      go_wp2_with fail
      rename World => wi
      go_loopw [7, 8] (fun t7 t8 wq => ∃ (J : Nat) (n : Int), J ≤ B[i].length ∧ t7 = .int .i64 n ∧ t8 = .int .i64 (J : Int) ∧ ((n = -1 ∧ Hid (docA (B.drop (i + 1)) left (best (B.drop i) left) B[i] 0 = docA (B.drop (i + 1)) left (best (B.drop i) left) (B[i].drop J) J)) ∨ (∃ j : Nat, ∃ hj : j < B[i].length, n = (j : Int) ∧ Hid (docA (B.drop (i + 1)) left (best (B.drop i) left) B[i] 0 = ((j : Int), less left B[i][j].1) ∧ subB B[i][j].1 left = true))) ∧ Hid (Old wi wq)) (fun _ t8 _ => B[i].length - (intOf t8).toNat)
      case atStart => exact ⟨0, -1, Nat.zero_le _, rfl, rfl, .inl ⟨rfl, hid rfl⟩, hid (Old.refl _)⟩
      case round =>
        obtain ⟨J, n, hJ, rfl, rfl, hcase, hq⟩ := hrel
        rcases hcase with ⟨hn, hdA⟩ | ⟨j, hj, hn, hfo⟩
        · by_cases hJl : J < B[i].length
          · have hjl' : (J : Int) < (B[i].length : Int) := by omega
            have hnlt : n < 0 := by omega
            obtain ⟨og, oo, rfl, p1, p2⟩ := i2 J hJl
            have x3 := hq.out.cell x1
            have i4 := hq.out.cell i3
            have p3 := hq.out.cell (hX.out.old.cell p1)
            have p4 := hq.out.cell (hX.out.old.cell p2)
            have hxl := klt.out _ (List.getElem_mem hlt) _ (List.getElem_mem hJl)
            have hxc := kco.out _ (List.getElem_mem hlt) _ (List.getElem_mem hJl)
            have hnx := hid (docA_drop (R := B.drop (i + 1)) (f := left) (b := best (B.drop i) left) hJl)
            have kgot : Hid (subB B[i][J].1 left = true ∧ B[i][J].2 + best (B.drop (i + 1)) (less left B[i][J].1) = best (B.drop i) left → docA (B.drop (i + 1)) left (best (B.drop i) left) B[i] 0 = ((J : Int), less left B[i][J].1) ∧ subB B[i][J].1 left = true) := fun e => ⟨by rw [hdA.out, hnx.out, if_pos e], e.1⟩
            have kgo : Hid (¬ (subB B[i][J].1 left = true ∧ B[i][J].2 + best (B.drop (i + 1)) (less left B[i][J].1) = best (B.drop i) left) → docA (B.drop (i + 1)) left (best (B.drop i) left) B[i] 0 = docA (B.drop (i + 1)) left (best (B.drop i) left) (B[i].drop (J + 1)) (J + 1)) := fun e => by rw [hdA.out, hnx.out, if_neg e]
            obtain ⟨x, hx⟩ : ∃ x, B[i][J] = x := ⟨_, rfl⟩
            have kx := hid hx
            rw [hx] at p3 p4 hxl hxc kgot kgo
            obtain ⟨xg, xc⟩ := x
            dsimp only at p3 p4 hxl hxc kgot kgo
            have b5 := heap_new wr (.cells #[.int .u32 (xg : Int), .int .i64 xc] 62)
            have o5 : Old wr (wr.alloc (.cells #[.int .u32 (xg : Int), .int .i64 xc] 62)) := (Old.refl wr).alloc _
            have s0 := blk_cells (i := 0) b5 rfl
            have s1 := blk_cells (i := 1) b5 rfl
            simp only [List.getElem_toArray, List.getElem_cons_zero, List.getElem_cons_succ] at s0 s1
            have kq5 := hid (hq.out.trans o5)
            have kTB := hid (hX.out.tab.old kq5.out)
            clear hx hnx hdA p1 p2
            by_cases hsb : subB xg left = true
            · have ha : (bits .andNot .u32 (xg : Int) (left : Int) == 0) = true := (bits_sub xg left).trans hsb
              obtain ⟨hle, hfg⟩ := sub_less (by omega) hxl hsb
              have hff : bits .andNot .u32 (left : Int) (xg : Int) = ((less left xg : Nat) : Int) := bits_less left xg
              have hfl : less left xg < S := by omega
              obtain ⟨ra, t1, t20⟩ := kTB.out.cell (j := i + 1) (by omega) (by omega)
              obtain ⟨rb, t3, t40⟩ := kTB.out.cell (j := i) (by omega) (by omega)
              have t2 := t20 _ hfl
              have t4 := t40 left hleft
              clear t20 t40
              have hbb := hbd.out (i + 1) _ hfl
              have hi1 : (i : Int) + 1 < (B.length : Int) + 1 := by omega
              have hi2 : (i : Int) < (B.length : Int) + 1 := by omega
              have hleft' : (left : Int) < (S : Int) := by omega
              by_cases heq : xc + best (B.drop (i + 1)) (less left xg) = best (B.drop i) left
              · have kn := hid (kgot.out ⟨hsb, heq⟩)
                have kn2 : Hid (docA (B.drop (i + 1)) left (best (B.drop i) left) B[i] 0 = ((J : Int), less left B[i][J].1) ∧ subB B[i][J].1 left = true) := by
                  have := kn.out
                  show _ ∧ _
                  rw [kx.out]
                  exact this
                generalize less left xg = d at *
                have hdS : (d : Int) < (S : Int) := by omega
                generalize best (B.drop (i + 1)) d = bd at *
                clear kgot kgo kn hle hfg hfl
                obtain ⟨be, hbe⟩ : ∃ be, best (B.drop i) left = be := ⟨_, rfl⟩
                rw [hbe] at t4 heq
                have heq' : ((xc + bd) == be) = true := by simpa using heq
                have khJ := hid hJl
                clear hbe heq
                go_upto_region 12 with fail
                go_quiet (fail)
                go_wp2_with fail
                go_roundw
                case rel => exact ⟨J + 1, _, by omega, rfl, by go_num, .inr ⟨J, khJ.out, rfl, kn2⟩, kq5.out.drewN _⟩
                case measure => simp [intOf]; omega
              · have kn := hid (kgo.out (fun e => heq e.2))
                generalize less left xg = d at *
                have hdS : (d : Int) < (S : Int) := by omega
                generalize best (B.drop (i + 1)) d = bd at *
                clear kgot kgo hle hfg hfl
                obtain ⟨be, hbe⟩ : ∃ be, best (B.drop i) left = be := ⟨_, rfl⟩
                rw [hbe] at t4 heq
                have heq' : ((xc + bd) == be) = false := by simpa using heq
                clear hbe heq
                go_upto_region 12 with fail
                go_quiet (fail)
                go_wp2_with fail
                go_roundw
                case rel => exact ⟨J + 1, _, by omega, rfl, by go_num, .inl ⟨hn, kn⟩, kq5.out.drewN _⟩
                case measure => simp [intOf]; omega
            · have ha : (bits .andNot .u32 (xg : Int) (left : Int) == 0) = false := (bits_sub xg left).trans (by simpa using hsb)
              have kn := hid (kgo.out (fun e => hsb e.1))
              clear kgot kgo
              go_upto_region 12 with fail
              go_quiet (fail)
              go_wp2_with fail
              go_roundw
              case rel => exact ⟨J + 1, _, by omega, rfl, by go_num, .inl ⟨hn, kn⟩, kq5.out.drewN _⟩
              case measure => simp [intOf]; omega
          · obtain rfl : J = B[i].length := by omega
            have hjl' : ¬ (B[i].length : Int) < (B[i].length : Int) := by omega
            have hda : docA (B.drop (i + 1)) left (best (B.drop i) left) B[i] 0 = (-1, left) := by rw [hdA.out, List.drop_length]; rfl
            clear hdA
            have hn1 : n = -1 := hn
            have hdd : Hid (dP 0 (B.drop i) i left = n :: dP 0 (B.drop (i + 1)) (i + 1) left) := by
              show _ = _
              rw [hd0.out, hda, hn1]
            have hn0 : ¬ n ≥ 0 := by omega
            have hX := hid (hX.out.olds hq.out)
            have x3 := hq.out.cell x1
            have i4 := hq.out.cell i3
            clear hd0 hda hn1 hn
            have q4 : Old wr (wr.alloc (.cells #[.int .i64 n] 3)) := (Old.refl wr).alloc _
            have hO4 : NumsC .i64 (wr.alloc (.cells #[.int .i64 n] 3)) (some ⟨wr.heap.size, 0, none⟩) [n] := nums_blk (L := [n]) (heap_new wr (.cells #[.int .i64 n] 3))
            have kX4 := hid (hX.out.olds q4)
            have hrow : (wr.alloc (.cells #[.int .i64 n] 3)).ownsRow w.heap.size 3 1 v cl.length (cl.map (Value.int .i64)) := by have := kX4.out.row; rw [← kcl.out] at this; exact this
            have hsz4 := kX4.out.old.size
            obtain ⟨va, vc, hvf⟩ := own_form1 hrow
            clear q4
            have hcl32 : cl.length ≤ 32 := by have := kcl.out; omega
            go_wp2_with (at_builtin; refine wpAppJ (by rfl) _ _ (by rfl) w.heap.size v (some ⟨wr.heap.size, 0, none⟩) 1 cl [n] (by rfl) (by rfl) hrow hO4 (fun h => by cases h) (by simp; omega) (by omega) ?_)
            generalize wr.alloc (.cells #[.int .i64 n] 3) = w4 at *
            intro v5 w5 ow5 gr5
            have hl5 : (cl ++ [n]).length = i + 1 := by rw [List.length_append, kcl.out]; rfl
            have ow6 : w5.ownsRow w.heap.size 3 1 v5 (i + 1) ((cl ++ [n]).map (Value.int .i64)) := by
              have := ow5
              simpa [kcl.out] using this
            clear ow5
            have ow5 := ow6
            clear ow6
            have hf5 : Frm (fun q => v.ownBlock = some q) w4 w5 := Frm.grown (Frm.refl _ _) gr5 (fun q hq => Or.inr (by rw [hvf]; exact hq))
            have kN := hid (kX4.out.next hf5 ow5 hdd.out)
            have khl := hid hl5
            clear ow5 gr5 hf5 hrow hO4 hl5
            go_wp2_with fail
            go_roundw
            case rel => exact ⟨i + 1, left, _, _, by omega, rfl, rfl, by go_num, hleft, khl, kN⟩
            case measure => simp [intOf]; omega
        · obtain ⟨hda, hsb⟩ := hfo.out
          clear hfo
          by_cases hJl : J < B[i].length
          · have hjl' : (J : Int) < (B[i].length : Int) := by omega
            obtain ⟨og, oo, rfl, p1, p2⟩ := i2 j hj
            have hxl := klt.out _ (List.getElem_mem hlt) _ (List.getElem_mem hj)
            obtain ⟨xg, hxg⟩ : ∃ xg, B[i][j].1 = xg := ⟨_, rfl⟩
            rw [hxg] at p1 hxl hsb hda
            obtain ⟨hle, hfg⟩ := sub_less (by omega) hxl hsb
            have hff : bits .andNot .u32 (left : Int) (xg : Int) = ((less left xg : Nat) : Int) := bits_less left xg
            obtain ⟨lf, hlf0⟩ : ∃ lf, less left xg = lf := ⟨_, rfl⟩
            rw [hlf0] at hff hfg hda
            have hlf : lf < S := by omega
            have hdd : Hid (dP 0 (B.drop i) i left = n :: dP 0 (B.drop (i + 1)) (i + 1) lf) := by
              show _ = _
              rw [hd0.out, hda, hn]
            have hn0 : n ≥ 0 := by omega
            have hnlt : ¬ n < 0 := by omega
            have hnl : n < (B[i].length : Int) := by omega
            have hnt : n.toNat = j := by omega
            have hX := hid (hX.out.olds hq.out)
            have x3 := hq.out.cell x1
            have i4 := hq.out.cell i3
            have p3 := hX.out.old.cell p1
            have p5 := hX.out.old.cell i1
            clear hd0 hda hfg hle hlf0 p2 hn hsb
            have q4 : Old wr (wr.alloc (.cells #[.int .i64 n] 3)) := (Old.refl wr).alloc _
            have hO4 : NumsC .i64 (wr.alloc (.cells #[.int .i64 n] 3)) (some ⟨wr.heap.size, 0, none⟩) [n] := nums_blk (L := [n]) (heap_new wr (.cells #[.int .i64 n] 3))
            have kX4 := hid (hX.out.olds q4)
            have hrow : (wr.alloc (.cells #[.int .i64 n] 3)).ownsRow w.heap.size 3 1 v cl.length (cl.map (Value.int .i64)) := by have := kX4.out.row; rw [← kcl.out] at this; exact this
            have hsz4 := kX4.out.old.size
            obtain ⟨va, vc, hvf⟩ := own_form1 hrow
            clear q4
            have hcl32 : cl.length ≤ 32 := by have := kcl.out; omega
            go_wp2_with (at_builtin; refine wpAppJ (by rfl) _ _ (by rfl) w.heap.size v (some ⟨wr.heap.size, 0, none⟩) 1 cl [n] (by rfl) (by rfl) hrow hO4 (fun h => by cases h) (by simp; omega) (by omega) ?_)
            generalize wr.alloc (.cells #[.int .i64 n] 3) = w4 at *
            intro v5 w5 ow5 gr5
            have hl5 : (cl ++ [n]).length = i + 1 := by rw [List.length_append, kcl.out]; rfl
            have ow6 : w5.ownsRow w.heap.size 3 1 v5 (i + 1) ((cl ++ [n]).map (Value.int .i64)) := by
              have := ow5
              simpa [kcl.out] using this
            clear ow5
            have ow5 := ow6
            clear ow6
            have hf5 : Frm (fun q => v.ownBlock = some q) w4 w5 := Frm.grown (Frm.refl _ _) gr5 (fun q hq => Or.inr (by rw [hvf]; exact hq))
            have kN := hid (kX4.out.next hf5 ow5 hdd.out)
            have khl := hid hl5
            clear ow5 gr5 hf5 hrow hO4 hl5
            go_wp2_with fail
            go_roundw
            case rel => exact ⟨i + 1, lf, _, _, by omega, rfl, rfl, by go_num, hlf, khl, kN⟩
            case measure => simp [intOf]; omega
          · obtain rfl : J = B[i].length := by omega
            have hjl' : ¬ (B[i].length : Int) < (B[i].length : Int) := by omega
            obtain ⟨og, oo, rfl, p1, p2⟩ := i2 j hj
            have hxl := klt.out _ (List.getElem_mem hlt) _ (List.getElem_mem hj)
            obtain ⟨xg, hxg⟩ : ∃ xg, B[i][j].1 = xg := ⟨_, rfl⟩
            rw [hxg] at p1 hxl hsb hda
            obtain ⟨hle, hfg⟩ := sub_less (by omega) hxl hsb
            have hff : bits .andNot .u32 (left : Int) (xg : Int) = ((less left xg : Nat) : Int) := bits_less left xg
            obtain ⟨lf, hlf0⟩ : ∃ lf, less left xg = lf := ⟨_, rfl⟩
            rw [hlf0] at hff hfg hda
            have hlf : lf < S := by omega
            have hdd : Hid (dP 0 (B.drop i) i left = n :: dP 0 (B.drop (i + 1)) (i + 1) lf) := by
              show _ = _
              rw [hd0.out, hda, hn]
            have hn0 : n ≥ 0 := by omega
            have hnlt : ¬ n < 0 := by omega
            have hnl : n < (B[i].length : Int) := by omega
            have hnt : n.toNat = j := by omega
            have hX := hid (hX.out.olds hq.out)
            have x3 := hq.out.cell x1
            have i4 := hq.out.cell i3
            have p3 := hX.out.old.cell p1
            have p5 := hX.out.old.cell i1
            clear hd0 hda hfg hle hlf0 p2 hn hsb
            have q4 : Old wr (wr.alloc (.cells #[.int .i64 n] 3)) := (Old.refl wr).alloc _
            have hO4 : NumsC .i64 (wr.alloc (.cells #[.int .i64 n] 3)) (some ⟨wr.heap.size, 0, none⟩) [n] := nums_blk (L := [n]) (heap_new wr (.cells #[.int .i64 n] 3))
            have kX4 := hid (hX.out.olds q4)
            have hrow : (wr.alloc (.cells #[.int .i64 n] 3)).ownsRow w.heap.size 3 1 v cl.length (cl.map (Value.int .i64)) := by have := kX4.out.row; rw [← kcl.out] at this; exact this
            have hsz4 := kX4.out.old.size
            obtain ⟨va, vc, hvf⟩ := own_form1 hrow
            clear q4
            have hcl32 : cl.length ≤ 32 := by have := kcl.out; omega
            go_wp2_with (at_builtin; refine wpAppJ (by rfl) _ _ (by rfl) w.heap.size v (some ⟨wr.heap.size, 0, none⟩) 1 cl [n] (by rfl) (by rfl) hrow hO4 (fun h => by cases h) (by simp; omega) (by omega) ?_)
            generalize wr.alloc (.cells #[.int .i64 n] 3) = w4 at *
            intro v5 w5 ow5 gr5
            have hl5 : (cl ++ [n]).length = i + 1 := by rw [List.length_append, kcl.out]; rfl
            have ow6 : w5.ownsRow w.heap.size 3 1 v5 (i + 1) ((cl ++ [n]).map (Value.int .i64)) := by
              have := ow5
              simpa [kcl.out] using this
            clear ow5
            have ow5 := ow6
            clear ow6
            have hf5 : Frm (fun q => v.ownBlock = some q) w4 w5 := Frm.grown (Frm.refl _ _) gr5 (fun q hq => Or.inr (by rw [hvf]; exact hq))
            have kN := hid (kX4.out.next hf5 ow5 hdd.out)
            have khl := hid hl5
            clear ow5 gr5 hf5 hrow hO4 hl5
            go_wp2_with fail
            go_roundw
            case rel => exact ⟨i + 1, lf, _, _, by omega, rfl, rfl, by go_num, hlf, khl, kN⟩
            case measure => simp [intOf]; omega
    · obtain rfl : i = B.length := by omega
      have hlt' : ¬ (B.length : Int) < (B.length : Int) := by omega
      have hrow := hX.out.row
      have hdoc : Hid (cl = dP 0 B 0 f) := by
        show cl = _
        have := hX.out.doc
        rw [List.drop_length] at this
        simpa [dP] using this
      rw [← kcl.out] at hrow
      have kz := hid (own_newZ hrow)
      clear hrow
      go_wp2_with fail
      go_ret
      exact ⟨_, rfl, by rw [kfe.out, ← hdoc.out]; exact kz.out, hX.out.old⟩
end Go.Proofs.YtidocjgcckcooaaDoor
