/- The document's best choice of a part: in plain words; Wrong: walked. -/
import Derived.Test.YtgikkbkgmjacmaaDoorT2
namespace Go.Proofs.YtgikkbkgmjacmaaDoor
open Go.RowKit Go.Lib Go.Shelf
attribute [local go_sem] Oper.semAt_some

/-- The first offer by which so much can be had, and what is left then. -/
def docA (R : Ins) (f : Nat) (b : Int) : List Off → Nat → Int × Nat
  | [], _ => (-1, f)
  | o :: L, j => if subB o.1 f = true ∧ o.2 + best R (less f o.1) = b then ((j : Int), less f o.1) else docA R f b L (j + 1)

theorem docA_head {R : Ins} {f : Nat} {b : Int} : ∀ (L : List Off) (i : Nat), (optA f L i).flatMap (fun o => if o.2.1 + best R o.2.2 = b then (allC R o.2.2).map (fun c => o.1 :: c) else []) ≠ [] →
    ((optA f L i).flatMap (fun o => if o.2.1 + best R o.2.2 = b then (allC R o.2.2).map (fun c => o.1 :: c) else [])).headD [] = (docA R f b L i).1 :: (allC R (docA R f b L i).2).headD []
  | [], i, h => by
    simp only [optA, List.flatMap_cons, List.flatMap_nil, List.append_nil] at h ⊢
    split at h
    · rename_i h1
      rw [if_pos h1]
      have h2 := allC_some R f
      cases he : allC R f with
      | nil => exact absurd he h2
      | cons c T => simp [docA, he]
    · exact absurd rfl h
  | o :: L, i, h => by
    unfold docA
    rw [optA] at h ⊢
    by_cases hs : subB o.1 f = true
    · rw [if_pos hs] at h ⊢
      rw [List.flatMap_cons] at h ⊢
      by_cases hb : o.2 + best R (less f o.1) = b
      · dsimp only
        rw [if_pos hb, if_pos ⟨hs, hb⟩]
        have h2 := allC_some R (less f o.1)
        cases he : allC R (less f o.1) with
        | nil => exact absurd he h2
        | cons c T => simp
      · dsimp only at h ⊢
        rw [if_neg hb, List.nil_append] at h ⊢
        rw [if_neg (fun e : _ ∧ _ => hb e.2)]
        exact docA_head L (i + 1) h
    · rw [if_neg hs] at h ⊢
      rw [if_neg (fun e : _ ∧ _ => hs e.1)]
      exact docA_head L (i + 1) h

theorem docA_at {R : Ins} {f : Nat} {b : Int} : ∀ (L : List Off) (i : Nat), docA R f b L i = (-1, f) ∨ ∃ j, ∃ h : j < L.length, docA R f b L i = (((i + j : Nat) : Int), less f L[j].1) ∧ subB L[j].1 f = true
  | [], i => .inl rfl
  | o :: L, i => by
    unfold docA
    split
    · rename_i h
      exact .inr ⟨0, by simp, by simp, h.1⟩
    · rcases docA_at L (i + 1) with h | ⟨j, h1, h2, h3⟩
      · exact .inl h
      · exact .inr ⟨j + 1, by simp; omega, by rw [h2]; simp; omega, by simpa using h3⟩

theorem docA_drop {R : Ins} {f : Nat} {b : Int} {L : List Off} {j : Nat} (h : j < L.length) : docA R f b (L.drop j) j = if subB L[j].1 f = true ∧ L[j].2 + best R (less f L[j].1) = b then ((j : Int), less f L[j].1) else docA R f b (L.drop (j + 1)) (j + 1) := by
  rw [List.drop_eq_getElem_cons h, docA]

/-- The choice, from some buyer on; of those ahead of k nothing is taken. -/
def dP (k : Nat) : Ins → Nat → Nat → List Int
  | [], _, _ => []
  | l :: R, i, f => if k ≤ i then (docA R f (best (l :: R) f) l 0).1 :: dP k R (i + 1) (docA R f (best (l :: R) f) l 0).2 else -1 :: dP k R (i + 1) f

theorem dP_len (k : Nat) : ∀ (B : Ins) (i f : Nat), (dP k B i f).length = B.length
  | [], _, _ => rfl
  | l :: R, i, f => by
    unfold dP
    split <;> simp [dP_len k R]

theorem dP_head (k : Nat) : ∀ (B : Ins) (i f : Nat), k ≤ i → (allC B f).headD [] = dP k B i f
  | [], i, f, h => rfl
  | l :: R, i, f, h => by
    unfold dP
    rw [if_pos h, allC_cons]
    unfold opts
    have h2 := allC_some (l :: R) f
    rw [allC_cons] at h2
    unfold opts at h2
    rw [docA_head l 0 h2, dP_head k R (i + 1) _ (by omega)]

theorem dP_low (k : Nat) : ∀ (d : Nat) (B : Ins) (i f : Nat), i + d = k → d ≤ B.length → dP k B i f = List.replicate d (-1) ++ dP k (B.drop d) k f
  | 0, B, i, f, h, _ => by
    obtain rfl : i = k := by omega
    simp
  | d + 1, [], i, f, h, hd => by simp at hd
  | d + 1, l :: R, i, f, h, hd => by
    rw [dP, if_neg (by omega), dP_low k d R (i + 1) f (by omega) (by simpa using hd), List.replicate_succ]
    simp

theorem pt_doc {gd : Int} {B : Ins} {k f : Nat} (hk : k ≤ B.length) (hz : ckZ gd B (k : Int) f = 0) : ptC gd B (k : Int) f = dP k B 0 f := by
  unfold ptC
  rw [if_pos hz, Int.toNat_natCast, dP_low k k B 0 f (by omega) hk, ← dP_head k _ k f (Nat.le_refl _)]
  unfold toldC
  have h := allC_some (B.drop k) f
  cases he : allC (B.drop k) f with
  | nil => exact absurd he h
  | cons c T => simp

set_option maxRecDepth 100000 in
set_option maxHeartbeats 4000000 in
theorem wrong_any (gd : Int) (bo : Option Addr) (cap : Nat) (B : Ins) (k : Int) (f : Nat) (hfu : f < 4294967296) (w : World) (h : InsC w bo B) (hl : B.length ≤ 9223372036854775807) :
    Calls Tryd.prog 121 #[.agg #[.int .i64 gd, .slice bo B.length cap], .int .i64 k, .int .u32 (f : Int)] w fun e w' => e = .returned (.int .i64 (ckZ gd B k f)) ∧ Old w w' := by
  have o1 : Old w (w.alloc (.cells #[.int .i64 gd, .slice bo B.length cap] 24)) := (Old.refl w).alloc _
  have x0 := new_cell w #[.int .i64 gd, .slice bo B.length cap] 24 0 _ rfl
  have x1 := new_cell w #[.int .i64 gd, .slice bo B.length cap] 24 1 _ rfl
  simp only [List.getElem_toArray, List.getElem_cons_zero, List.getElem_cons_succ] at x0 x1
  have kI := hid (rinst_any gd bo cap B _ (h.old o1) hl)
  have ko := hid o1
  clear o1 h
  go_enter Tryd.func121, Tryd.ntmps121
  go_wp2_with fail
  generalize w.alloc (.cells #[.int .i64 gd, .slice bo B.length cap] 24) = w1 at *
  generalize w.heap.size = s at *
  refine kI.out.mono ?_
  rintro e w2 ⟨rfl, o2⟩
  have x0 := o2.cell x0
  have x1 := o2.cell x1
  have ko2 := hid (ko.out.trans o2)
  clear o2 ko kI
  by_cases hz : insZ gd B = 0
  · have hg := ins_gd hz
    obtain ⟨m, rfl⟩ : ∃ m : Nat, gd = (m : Int) := ⟨gd.toNat, by omega⟩
    have hall : (allZ (m : Int)).1 = 2 ^ m - 1 := by unfold allZ; rw [if_pos (by omega), Int.toNat_natCast]
    have hp : 0 < 2 ^ m := Nat.pow_pos (by decide)
    have hsb : subB f (allZ (m : Int)).1 = true ↔ f < 2 ^ m := by
      rw [hall, subB_iff hfu]
      exact ⟨lt_of_sub, sub_of_lt⟩
    have hck : Hid (ckZ (m : Int) B k f = if 0 ≤ k ∧ k ≤ (B.length : Int) ∧ f < 2 ^ m then 0 else 2) := by
      show _ = _
      unfold ckZ
      rw [if_neg (by simp [hz])]
      unfold ptB
      by_cases hc : 0 ≤ k ∧ k ≤ (B.length : Int) ∧ f < 2 ^ m
      · rw [if_pos hc, if_pos (by simp only [Bool.and_eq_true, decide_eq_true_eq]; exact ⟨hc.1, hc.2.1, hsb.2 hc.2.2⟩)]
      · rw [if_neg hc, if_neg (fun e => hc (by simp only [Bool.and_eq_true, decide_eq_true_eq] at e; exact ⟨e.1, e.2.1, hsb.1 e.2.2⟩))]
    have hsh : IntKind.u64.wrap ((2 : Int) ^ m) = ((2 ^ m : Nat) : Int) := by
      show (2 : Int) ^ m % 18446744073709551616 = _
      have hp2 : 2 ^ m ≤ 1024 := by
        rw [show (1024 : Nat) = 2 ^ 10 by decide]
        exact Nat.pow_le_pow_right (by decide) (by omega)
      rw [show ((2 : Int) ^ m) = ((2 ^ m : Nat) : Int) by simp]
      omega
    rw [hz]
    clear hz hall hsb hp
    by_cases h1 : k < 0
    · have kz : Hid (ckZ (m : Int) B k f = 2) := by show _ = _; rw [hck.out, if_neg (by omega)]
      go_wp2_with fail
      all_goals (first | (rename_i h8 h9; simp [undef] at h8; done) | skip)
      go_ret
      exact ⟨by rw [kz.out]; rfl, ko2.out⟩
    · by_cases h2 : k > (B.length : Int)
      · have kz : Hid (ckZ (m : Int) B k f = 2) := by show _ = _; rw [hck.out, if_neg (by omega)]
        go_wp2_with fail
        all_goals (first | (rename_i h8 h9; simp [undef] at h8; done) | skip)
        go_ret
        exact ⟨by rw [kz.out]; rfl, ko2.out⟩
      · generalize 2 ^ m = S at *
        by_cases h3 : f < S
        · have kz : Hid (ckZ (m : Int) B k f = 0) := by show _ = _; rw [hck.out, if_pos (by omega)]
          have h3' : ¬ (f : Int) ≥ (S : Int) := by omega
          go_wp2_with fail
          go_ret
          exact ⟨by rw [kz.out]; rfl, ko2.out⟩
        · have kz : Hid (ckZ (m : Int) B k f = 2) := by show _ = _; rw [hck.out, if_neg (by omega)]
          have h3' : (f : Int) ≥ (S : Int) := by omega
          go_wp2_with fail
          go_ret
          exact ⟨by rw [kz.out]; rfl, ko2.out⟩
  · have kz : Hid (ckZ gd B k f = insZ gd B) := by show _ = _; unfold ckZ; rw [if_pos hz]
    have hzb : (insZ gd B != 0) = true := by simpa using hz
    generalize insZ gd B = z at *
    go_wp2_with fail
    go_ret
    exact ⟨by rw [kz.out]; rfl, ko2.out⟩
end Go.Proofs.YtgikkbkgmjacmaaDoor

/- Whole numbers appended. -/
namespace Go.Proofs.YtgikkbkgmjacmaaDoor
open Go.RowKit Go.Lib Go.Shelf

theorem nums_none {k : IntKind} {w : World} {L : List Int} (h : NumsC k w none L) : L = [] := by
  cases L with
  | nil => rfl
  | cons x L =>
    obtain ⟨g, o, e, _⟩ := h 0 (by simp)
    cases e

/-- Whole numbers in memory behind a row that one owns. -/
theorem wpAppJ {ops : Array Oper} {rest : List Oper} {o : Oper} {a : Act} {Q : Exit → Act → World → Prop} {w : World} (hgd : o.guard = none) (s x : Operand) (ho : o.op = .call { callee := .builtin .append, args := #[s, x], argTypes := #[50, 50] })
    (B : Nat) (v : Value) (xo : Option Addr) (c2 : Nat) (L1 L2 : List Int) (hs : a.eval s = v) (hx : a.eval x = .slice xo L2.length c2) (hown : w.ownsRow B 3 1 v L1.length (L1.map (Value.int .i64))) (hO : NumsC .i64 w xo L2) (hn : xo = none → c2 = 0) (hl : L1.length + L2.length ≤ 1000000) (hB : B ≤ w.heap.size)
    (h : ∀ v' w', w'.ownsRow B 3 1 v' (L1 ++ L2).length ((L1 ++ L2).map (Value.int .i64)) → w.grownBy w' v.ownBlock → wpList Tryd.prog ops Q rest (a.put o.dst v') w') : wpList Tryd.prog ops Q (o :: rest) a w := by
  obtain ⟨i0, hi0, hz0, hz1, hz2⟩ := parts_int
  cases xo with
  | none =>
    obtain rfl := nums_none hO
    rw [hn rfl] at hx
    refine wpList_append_own_none hgd s x 50 ho B 3 i0 1 Tryd.underlying50 hi0 v L1.length (L1.map (Value.int .i64)) hs hown hx ?_
    refine h v w (by simpa using hown) ⟨rfl, rfl, rfl, Nat.le_refl _, fun _ _ _ => rfl⟩
  | some ad =>
    have hsp : L2 = [] ∨ ∃ g o, ad = ⟨g, o, none⟩ := by
      by_cases h0 : 0 < L2.length
      · obtain ⟨g, o, e, _⟩ := hO 0 h0
        exact Or.inr ⟨g, o, Option.some.inj e⟩
      · exact Or.inl (List.eq_nil_of_length_eq_zero (by omega))
    have hc : ∀ (j : Nat) (u : Value), (L2.map (Value.int .i64))[j]? = some u → w.cell? (ad.add j) = some u := by
      rcases hsp with rfl | ⟨g, o, rfl⟩
      · intro j u hu
        simp at hu
      · exact num_cells hO
    exact wpList_append_own _ hgd s x 50 ho B 3 i0 _ 1 8 Tryd.underlying50 hi0 hz0 hz1 hz2 rfl (by omega) v L1.length (L1.map (Value.int .i64)) hs hown ad L2.length c2 (L2.map (Value.int .i64)) hx (by simp) hc (ints_one L2) (by unfold maxLen; omega) (by omega) hB (fun v' w' h8 h9 _ => h v' w' (by rw [List.length_append, List.map_append]; exact h8) h9)

end Go.Proofs.YtgikkbkgmjacmaaDoor

/- The document's best choice of a part: walked. -/
namespace Go.Proofs.YtgikkbkgmjacmaaDoor
open Go.RowKit Go.Lib Go.Shelf
attribute [local go_sem] Oper.semAt_some

/-- Where the document's Part stands. -/
structure PI (w wr : World) (m : Nat) (B : Ins) (bo : Option Addr) (cap S k f tb : Nat) (V : List Value) (cb : Nat) (bz : Int) (xb i left : Nat) (v : Value) (cl : List Int) : Prop where
  old : Old w wr
  lo : w.heap.size ≤ xb
  x : wr.heap[xb]? = some (.cells #[.int .i64 (m : Int), .slice bo B.length cap] 24 (0, 0))
  r : wr.heap[xb + 1]? = some (.cells #[.slice none 0 0, .int .i64 0] 52 (0, 0))
  c : wr.heap[cb]? = some (.cells #[v, .int .i64 bz] 52 (0, 0))
  cr : xb + 1 < cb
  tab : TB wr B S 0 tb V
  row : wr.ownsRow w.heap.size 3 1 v i (cl.map (Value.int .i64))
  doc : cl ++ dP k (B.drop i) i left = dP k B 0 f

theorem PI.olds {w wr w2 : World} {m : Nat} {B : Ins} {bo : Option Addr} {cap S k f tb : Nat} {V : List Value} {cb : Nat} {bz : Int} {xb i left : Nat} {v : Value} {cl : List Int} (h : PI w wr m B bo cap S k f tb V cb bz xb i left v cl) (o : Old wr w2) : PI w w2 m B bo cap S k f tb V cb bz xb i left v cl :=
  ⟨h.old.trans o, h.lo, (o.block _ (blk_lt h.x) (fun h => h)).trans h.x, (o.block _ (blk_lt h.r) (fun h => h)).trans h.r, (o.block _ (blk_lt h.c) (fun h => h)).trans h.c, h.cr, h.tab.old o, owns_kept h.row (fun q hq => by obtain ⟨cur, hc⟩ := owns_block h.row hq; exact o.block q (blk_lt hc) (fun h => h)), h.doc⟩

theorem PI.next {w wr w2 : World} {m : Nat} {B : Ins} {bo : Option Addr} {cap S k f tb : Nat} {V : List Value} {cb : Nat} {bz : Int} {xb i left left' : Nat} {v v' : Value} {cl : List Int} {n : Int} (h : PI w wr m B bo cap S k f tb V cb bz xb i left v cl)
    (hf : Frm (fun q => v.ownBlock = some q) wr w2) (hown : w2.ownsRow w.heap.size 3 1 v' (i + 1) ((cl ++ [n]).map (Value.int .i64))) (hd : dP k (B.drop i) i left = n :: dP k (B.drop (i + 1)) (i + 1) left') : PI w (w2.setCell ⟨cb, 0, none⟩ v') m B bo cap S k f tb V cb bz xb (i + 1) left' v' (cl ++ [n]) := by
  have hne : ∀ q a t, t ≠ 3 → wr.heap[q]? = some (.cells a t (0, 0)) → ¬ v.ownBlock = some q := fun q a t ht hq e => by
    obtain ⟨cur', hc'⟩ := owns_block h.row e
    exact typ_no hq hc' ht rfl
  have hx := (hf.block _ (blk_lt h.x) (hne _ _ _ (by decide) h.x)).trans h.x
  have hr := (hf.block _ (blk_lt h.r) (hne _ _ _ (by decide) h.r)).trans h.r
  have hc := (hf.block _ (blk_lt h.c) (hne _ _ _ (by decide) h.c)).trans h.c
  have hs := frm_set w2 cb 0 v'
  have hcr := h.cr
  have hlo := h.lo
  have hold : Old w w2 := Frm.trans (S := fun _ => False) h.old hf (fun i hi e => by
    rcases h.row.2 with ⟨e2, _⟩ | ⟨q, c, cur, e2, h3, _⟩
    · rw [e2] at e; simp [Value.ownBlock] at e
    · rw [e2] at e
      simp [Value.ownBlock] at e
      omega)
  have ht : TB w2 B S 0 tb V := h.tab.frm hf (hne _ _ _ (by decide) h.tab.blk) (fun j r k1 k2 e1 => by
    obtain ⟨r2, f1, f2⟩ := h.tab.rows j k1 k2
    rw [e1] at f1
    simp only [Option.some.injEq, Value.slice.injEq, Addr.mk.injEq, and_true] at f1
    subst f1
    exact hne _ _ _ (by decide) f2)
  refine ⟨Frm.trans (S := fun _ => False) hold hs (fun i hi e => by omega), hlo, (hs.block _ (blk_lt hx) (by omega)).trans hx, (hs.block _ (blk_lt hr) (by omega)).trans hr, heap_set v' hc, hcr, ?_, ?_, ?_⟩
  · exact ht.frm hs (fun e => typ_no ht.blk (e ▸ hc) (by decide) rfl) (fun j r k1 k2 e1 e => by
      obtain ⟨r2, f1, f2⟩ := ht.rows j k1 k2
      rw [e1] at f1
      simp only [Option.some.injEq, Value.slice.injEq, Addr.mk.injEq, and_true] at f1
      subst f1
      exact typ_no f2 (e ▸ hc) (by decide) rfl)
  · refine owns_kept hown (fun q hq => ?_)
    obtain ⟨cur, hcc⟩ := owns_block hown hq
    exact hs.block q (blk_lt hcc) (fun e => by subst e; exact typ_no hc hcc (by decide) rfl)
  · rw [List.append_assoc, List.singleton_append, ← hd]
    exact h.doc

theorem PI.cAt {w wr w2 : World} {m : Nat} {B : Ins} {bo : Option Addr} {cap S k f tb : Nat} {V : List Value} {cb : Nat} {bz : Int} {xb i left : Nat} {v : Value} {cl : List Int} (h : PI w wr m B bo cap S k f tb V cb bz xb i left v cl) (hf : Frm (fun q => v.ownBlock = some q) wr w2) : w2.heap[cb]? = some (.cells #[v, .int .i64 bz] 52 (0, 0)) := by
  refine (hf.block _ (blk_lt h.c) (fun e => ?_)).trans h.c
  obtain ⟨cur', hc'⟩ := owns_block h.row e
  exact typ_no h.c hc' (by decide) rfl

theorem own_newZ {w : World} {lo : Nat} {v : Value} {L : List Int} (h : w.ownsRow lo 3 1 v L.length (L.map (Value.int .i64))) : NewZ lo w v L := by
  rcases h.2 with ⟨rfl, h0⟩ | ⟨g, cap, cur, rfl, h3, h4, h5, h6, h7, h8⟩
  · exact ⟨none, 0, by rw [h0], .inl ⟨rfl, List.eq_nil_of_length_eq_zero h0⟩⟩
  · exact ⟨some ⟨g, 0, none⟩, cap, rfl, .inr ⟨g, cur, rfl, h3, h4, by simpa using h8⟩⟩
end Go.Proofs.YtgikkbkgmjacmaaDoor
