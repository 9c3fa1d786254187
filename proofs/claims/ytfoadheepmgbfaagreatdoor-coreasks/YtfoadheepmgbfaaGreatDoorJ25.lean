/- The document's best choice of a part: in plain words; Wrong: walked. -/
import Derived.Test.YtfoadheepmgbfaaGreatDoorT2
import Derived.Test.YtfoadheepmgbfaaGreatDoorJ23
namespace Go.Proofs.YtfoadheepmgbfaaGreatDoor
open Go.RowKit Go.Lib Go.Shelf
attribute [local go_sem] Oper.semAt_some

/-- The first offer by which so much can be had, and what is left then. -/
def docA (R : Ins) (f : Nat) (b : Int) : List Off → Nat → Int × Nat
  | [], _ => (-1, f)
  | o :: L, j => if subB o.1 f = true ∧ o.2 + best R (less f o.1) = b then ((j : Int), less f o.1) else docA R f b L (j + 1)

theorem docA_head {R : Ins} {f : Nat} {b : Int} : ∀ (L : List Off) (i : Nat), (optA f L i).flatMap (fun o => if o.2.1 + best R o.2.2 = b then (allC R o.2.2).map (fun c => o.1 :: c) else []) ≠ [] →
    ((optA f L i).flatMap (fun o => if o.2.1 + best R o.2.2 = b then (allC R o.2.2).map (fun c => o.1 :: c) else [])).headD [] = (docA R f b L i).1 :: (allC R (docA R f b L i).2).headD []
  | [], i, h => by
    simp only [optA, List.flatMap_cons, List.flatMap_nil, List.append_nil] at h ⊢
    split at h
    · rename_i h1
      rw [if_pos h1]
      have h2 := allC_some R f
      cases he : allC R f with
      | nil => exact absurd he h2
      | cons c T => simp [docA, he]
    · exact absurd rfl h
  | o :: L, i, h => by
    unfold docA
    rw [optA] at h ⊢
    by_cases hs : subB o.1 f = true
    · rw [if_pos hs] at h ⊢
      rw [List.flatMap_cons] at h ⊢
      by_cases hb : o.2 + best R (less f o.1) = b
      · dsimp only
        rw [if_pos hb, if_pos ⟨hs, hb⟩]
        have h2 := allC_some R (less f o.1)
        cases he : allC R (less f o.1) with
        | nil => exact absurd he h2
        | cons c T => simp
      · dsimp only at h ⊢
        rw [if_neg hb, List.nil_append] at h ⊢
        rw [if_neg (fun e : _ ∧ _ => hb e.2)]
        exact docA_head L (i + 1) h
    · rw [if_neg hs] at h ⊢
      rw [if_neg (fun e : _ ∧ _ => hs e.1)]
      exact docA_head L (i + 1) h

theorem docA_at {R : Ins} {f : Nat} {b : Int} : ∀ (L : List Off) (i : Nat), docA R f b L i = (-1, f) ∨ ∃ j, ∃ h : j < L.length, docA R f b L i = (((i + j : Nat) : Int), less f L[j].1) ∧ subB L[j].1 f = true
  | [], i => .inl rfl
  | o :: L, i => by
    unfold docA
    split
    · rename_i h
      exact .inr ⟨0, by simp, by simp, h.1⟩
    · rcases docA_at L (i + 1) with h | ⟨j, h1, h2, h3⟩
      · exact .inl h
      · exact .inr ⟨j + 1, by simp; omega, by rw [h2]; simp; omega, by simpa using h3⟩

theorem docA_drop {R : Ins} {f : Nat} {b : Int} {L : List Off} {j : Nat} (h : j < L.length) : docA R f b (L.drop j) j = if subB L[j].1 f = true ∧ L[j].2 + best R (less f L[j].1) = b then ((j : Int), less f L[j].1) else docA R f b (L.drop (j + 1)) (j + 1) := by
  rw [List.drop_eq_getElem_cons h, docA]

/-- The choice, from some buyer on; of those ahead of k nothing is taken. -/
def dP (k : Nat) : Ins → Nat → Nat → List Int
  | [], _, _ => []
  | l :: R, i, f => if k ≤ i then (docA R f (best (l :: R) f) l 0).1 :: dP k R (i + 1) (docA R f (best (l :: R) f) l 0).2 else -1 :: dP k R (i + 1) f

theorem dP_len (k : Nat) : ∀ (B : Ins) (i f : Nat), (dP k B i f).length = B.length
  | [], _, _ => rfl
  | l :: R, i, f => by
    unfold dP
    split <;> simp [dP_len k R]

theorem dP_head (k : Nat) : ∀ (B : Ins) (i f : Nat), k ≤ i → (allC B f).headD [] = dP k B i f
  | [], i, f, h => rfl
  | l :: R, i, f, h => by
    unfold dP
    rw [if_pos h, allC_cons]
    unfold opts
    have h2 := allC_some (l :: R) f
    rw [allC_cons] at h2
    unfold opts at h2
    rw [docA_head l 0 h2, dP_head k R (i + 1) _ (by omega)]

theorem dP_low (k : Nat) : ∀ (d : Nat) (B : Ins) (i f : Nat), i + d = k → d ≤ B.length → dP k B i f = List.replicate d (-1) ++ dP k (B.drop d) k f
  | 0, B, i, f, h, _ => by
    obtain rfl : i = k := by omega
    simp
  | d + 1, [], i, f, h, hd => by simp at hd
  | d + 1, l :: R, i, f, h, hd => by
    rw [dP, if_neg (by omega), dP_low k d R (i + 1) f (by omega) (by simpa using hd), List.replicate_succ]
    simp

theorem pt_doc {gd : Int} {B : Ins} {k f : Nat} (hk : k ≤ B.length) (hz : ckZ gd B (k : Int) f = 0) : ptC gd B (k : Int) f = dP k B 0 f := by
  unfold ptC
  rw [if_pos hz, Int.toNat_natCast, dP_low k k B 0 f (by omega) hk, ← dP_head k _ k f (Nat.le_refl _)]
  unfold toldC
  have h := allC_some (B.drop k) f
  cases he : allC (B.drop k) f with
  | nil => exact absurd he h
  | cons c T => simp

set_option maxRecDepth 100000 in
set_option maxHeartbeats 4000000 in
theorem wrong_any (gd : Int) (bo : Option Addr) (cap : Nat) (B : Ins) (k : Int) (f : Nat) (hfu : f < 4294967296) (w : World) (h : InsC w bo B) (hl : B.length ≤ 9223372036854775807) :
    Calls Tryz.prog 50 #[.agg #[.int .i64 gd, .slice bo B.length cap], .int .i64 k, .int .u32 (f : Int)] w fun e w' => e = .returned (.int .i64 (ckZ gd B k f)) ∧ Old w w' := by
  have o1 : Old w (w.alloc (.cells #[.int .i64 gd, .slice bo B.length cap] 24)) := (Old.refl w).alloc _
  have x0 := new_cell w #[.int .i64 gd, .slice bo B.length cap] 24 0 _ rfl
  have x1 := new_cell w #[.int .i64 gd, .slice bo B.length cap] 24 1 _ rfl
  simp only [qqa, qqb, qqc] at x0 x1
  have kI := hid (rinst_any gd bo cap B _ (h.old o1) hl)
  have ko := hid o1
  clear o1 h
  go_enter Tryz.func50, Tryz.ntmps50
  go_wp2_with fail
  generalize w.alloc (.cells #[.int .i64 gd, .slice bo B.length cap] 24) = w1 at *
  generalize w.heap.size = s at *
  refine kI.out.mono ?_
  rintro e w2 ⟨rfl, o2⟩
  have x0 := o2.cell x0
  have x1 := o2.cell x1
  have ko2 := hid (ko.out.trans o2)
  clear o2 ko kI
  by_cases hz : insZ gd B = 0
  · have hg := ins_gd hz
    obtain ⟨m, rfl⟩ : ∃ m : Nat, gd = (m : Int) := ⟨gd.toNat, by omega⟩
    have hall : (allZ (m : Int)).1 = 2 ^ m - 1 := by unfold allZ; rw [if_pos (by omega), Int.toNat_natCast]
    have hp : 0 < 2 ^ m := Nat.pow_pos (by decide)
    have hsb : subB f (allZ (m : Int)).1 = true ↔ f < 2 ^ m := by
      rw [hall, subB_iff hfu]
      exact ⟨lt_of_sub, sub_of_lt⟩
    have hck : Hid (ckZ (m : Int) B k f = if 0 ≤ k ∧ k ≤ (B.length : Int) ∧ f < 2 ^ m then 0 else 2) := by
      show _ = _
      unfold ckZ
      rw [if_neg (by simp [hz])]
      unfold ptB
      by_cases hc : 0 ≤ k ∧ k ≤ (B.length : Int) ∧ f < 2 ^ m
      · rw [if_pos hc, if_pos (by simp only [Bool.and_eq_true, decide_eq_true_eq]; exact ⟨hc.1, hc.2.1, hsb.2 hc.2.2⟩)]
      · rw [if_neg hc, if_neg (fun e => hc (by simp only [Bool.and_eq_true, decide_eq_true_eq] at e; exact ⟨e.1, e.2.1, hsb.1 e.2.2⟩))]
    have hsh : IntKind.u64.wrap ((2 : Int) ^ m) = ((2 ^ m : Nat) : Int) := by
      show (2 : Int) ^ m % 18446744073709551616 = _
      have hp2 : 2 ^ m ≤ 1024 := by
        rw [show (1024 : Nat) = 2 ^ 10 by decide]
        exact Nat.pow_le_pow_right (by decide) (by omega)
      rw [show ((2 : Int) ^ m) = ((2 ^ m : Nat) : Int) by simp]
      omega
    rw [hz]
    clear hz hall hsb hp
    by_cases h1 : k < 0
    · have kz : Hid (ckZ (m : Int) B k f = 2) := by show _ = _; rw [hck.out, if_neg (by omega)]
      go_wp2_with fail
      all_goals (first | (rename_i h8 h9; simp [undef] at h8; done) | skip)
      go_ret
      exact ⟨by rw [kz.out]; rfl, ko2.out⟩
    · by_cases h2 : k > (B.length : Int)
      · have kz : Hid (ckZ (m : Int) B k f = 2) := by show _ = _; rw [hck.out, if_neg (by omega)]
        go_wp2_with fail
        all_goals (first | (rename_i h8 h9; simp [undef] at h8; done) | skip)
        go_ret
        exact ⟨by rw [kz.out]; rfl, ko2.out⟩
      · generalize 2 ^ m = S at *
        by_cases h3 : f < S
        · have kz : Hid (ckZ (m : Int) B k f = 0) := by show _ = _; rw [hck.out, if_pos (by omega)]
          have h3' : ¬ (f : Int) ≥ (S : Int) := by omega
          go_wp2_with fail
          go_ret
          exact ⟨by rw [kz.out]; rfl, ko2.out⟩
        · have kz : Hid (ckZ (m : Int) B k f = 2) := by show _ = _; rw [hck.out, if_neg (by omega)]
          have h3' : (f : Int) ≥ (S : Int) := by omega
          go_wp2_with fail
          go_ret
          exact ⟨by rw [kz.out]; rfl, ko2.out⟩
  · have kz : Hid (ckZ gd B k f = insZ gd B) := by show _ = _; unfold ckZ; rw [if_pos hz]
    have hzb : (insZ gd B != 0) = true := by simpa using hz
    generalize insZ gd B = z at *
    go_wp2_with fail
    go_ret
    exact ⟨by rw [kz.out]; rfl, ko2.out⟩
end Go.Proofs.YtfoadheepmgbfaaGreatDoor

/- Whole numbers appended. -/
namespace Go.Proofs.YtfoadheepmgbfaaGreatDoor
open Go.RowKit Go.Lib Go.Shelf

theorem nums_none {k : IntKind} {w : World} {L : List Int} (h : NumsC k w none L) : L = [] := by
  cases L with
  | nil => rfl
  | cons x L =>
    obtain ⟨g, o, e, _⟩ := h 0 (by simp)
    cases e

/-- Whole numbers in memory behind a row that one owns. -/
theorem wpAppJ {ops : Array Oper} {rest : List Oper} {o : Oper} {a : Act} {Q : Exit → Act → World → Prop} {w : World} (hgd : o.guard = none) (s x : Operand) (ho : o.op = .call { callee := .builtin .append, args := #[s, x], argTypes := #[29, 29] })
    (B : Nat) (v : Value) (xo : Option Addr) (c2 : Nat) (L1 L2 : List Int) (hs : a.eval s = v) (hx : a.eval x = .slice xo L2.length c2) (hown : w.ownsRow B 3 1 v L1.length (L1.map (Value.int .i64))) (hO : NumsC .i64 w xo L2) (hn : xo = none → c2 = 0) (hl : L1.length + L2.length ≤ 1000000) (hB : B ≤ w.heap.size)
    (h : ∀ v' w', w'.ownsRow B 3 1 v' (L1 ++ L2).length ((L1 ++ L2).map (Value.int .i64)) → w.grownBy w' v.ownBlock → wpList Tryz.prog ops Q rest (a.put o.dst v') w') : wpList Tryz.prog ops Q (o :: rest) a w := by
  obtain ⟨i0, hi0, hz0, hz1, hz2⟩ := parts_int
  cases xo with
  | none =>
    obtain rfl := nums_none hO
    rw [hn rfl] at hx
    refine wpList_append_own_none hgd s x 29 ho B 3 i0 1 Tryz.underlying29 hi0 v L1.length (L1.map (Value.int .i64)) hs hown hx ?_
    refine h v w (by simpa using hown) ⟨rfl, rfl, rfl, Nat.le_refl _, fun _ _ _ => rfl⟩
  | some ad =>
    have hsp : L2 = [] ∨ ∃ g o, ad = ⟨g, o, none⟩ := by
      by_cases h0 : 0 < L2.length
      · obtain ⟨g, o, e, _⟩ := hO 0 h0
        exact Or.inr ⟨g, o, Option.some.inj e⟩
      · exact Or.inl (List.eq_nil_of_length_eq_zero (by omega))
    have hc : ∀ (j : Nat) (u : Value), (L2.map (Value.int .i64))[j]? = some u → w.cell? (ad.add j) = some u := by
      rcases hsp with rfl | ⟨g, o, rfl⟩
      · intro j u hu
        simp at hu
      · exact num_cells hO
    exact wpList_append_own _ hgd s x 29 ho B 3 i0 _ 1 8 Tryz.underlying29 hi0 hz0 hz1 hz2 rfl (by omega) v L1.length (L1.map (Value.int .i64)) hs hown ad L2.length c2 (L2.map (Value.int .i64)) hx (by simp) hc (ints_one L2) (by unfold maxLen; omega) (by omega) hB (fun v' w' h8 h9 _ => h v' w' (by rw [List.length_append, List.map_append]; exact h8) h9)

end Go.Proofs.YtfoadheepmgbfaaGreatDoor

/- Who blocks payments: walked. -/
namespace Go.Proofs.YtfoadheepmgbfaaGreatDoor
open Go.RowKit Go.Lib Go.Shelf
attribute [local go_sem] Oper.semAt_some

/-- Those of the first so many buyers who have an offer in a choice. -/
def blL (c : List Int) : Nat → List Int
  | 0 => []
  | k + 1 => if 0 ≤ c.getD k (-1) then blL c k ++ [(k : Int)] else blL c k
theorem blL_len (c : List Int) : ∀ k, (blL c k).length ≤ k
  | 0 => Nat.le_refl _
  | k + 1 => by
    have := blL_len c k
    unfold blL
    split
    · rw [List.length_append]
      simp
      omega
    · omega
/-- Who blocks. -/
def bkL (gd : Int) (B : Ins) (C P : List Int) : List Int := blL (cosC gd (lowI B C P)) B.length
/-- What is answered of who blocks. -/
def BlkP (gd : Int) (B : Ins) (C P : List Int) (w : World) (e : Ending) (w' : World) : Prop := Old w w' ∧ ((best (lowI B C P) (allZ gd).1 ≤ P.sum ∧ e = .returned (.tuple #[.agg #[.slice none 0 0, .int .i64 0], .bool false])) ∨ (P.sum < best (lowI B C P) (allZ gd).1 ∧ ∃ v, e = .returned (.tuple #[.agg #[v, .int .i64 (best (lowI B C P) (allZ gd).1 - P.sum)], .bool true]) ∧ NewZ w.heap.size w' v (bkL gd B C P)))

theorem NewZ.own {w : World} {lo : Nat} {v : Value} {L : List Int} (h : w.ownsRow lo 3 1 v L.length (L.map (Value.int .i64))) : NewZ lo w v L := by
  rcases h.2 with ⟨rfl, h0⟩ | ⟨g, cap, cur, rfl, h3, h4, h5, h6, h7, h8⟩
  · have : L = [] := List.eq_nil_of_length_eq_zero h0
    subst this
    exact ⟨none, 0, rfl, .inl ⟨rfl, rfl⟩⟩
  · exact ⟨_, cap, rfl, .inr ⟨g, cur, rfl, h3, h4, by rw [Nat.mul_one] at h8; exact h8⟩⟩

set_option maxRecDepth 100000 in
set_option maxHeartbeats 8000000 in
theorem block_any (gd : Int) (bo co po : Option Addr) (cap cc pc : Nat) (B : Ins) (c C P : List Int) (w : World) (h : PayC w bo co po B C P) (hb : PayB B C P) (hz : insZ gd B = 0) (hT : Tabs w) :
    Calls Tryz.prog 23 #[.agg (wonA gd (.slice bo B.length cap) c (.slice co C.length cc)), .slice po P.length pc] w (BlkP gd B C P w) := by
  have kh := hid h
  have kb := hid hb
  have kT := hid hT
  have kz := hid hz
  have kL := hid (fun W (o : Old w W) => lowered_any gd bo co po cap cc pc B c C P W (h.old o) hb)
  have kS := hid (fun W (o : Old w W) => csum_any po pc P W (h.pay.old o) (by have := hb.lenP; have := hb.few; omega) hb.p)
  obtain ⟨A, hA⟩ : ∃ A, wonA gd (.slice bo B.length cap) c (.slice co C.length cc) = A := ⟨_, rfl⟩
  have kAs : Hid ((Tryz.prog.info? 65).map (·.size) = some A.size) := by rw [← hA]; exact wonA_info ..
  rw [hA] at kL ⊢
  have o1 : Old w (w.alloc (.cells A 65)) := (Old.refl w).alloc _
  have b1 := heap_new w (.cells A 65)
  have z1 := alloc_size w (.cells A 65)
  have o2 : Old (w.alloc (.cells A 65)) ((w.alloc (.cells A 65)).alloc (.cells #[.slice none 0 0, .int .i64 0] 31)) := (Old.refl _).alloc _
  have b2 := heap_new (w.alloc (.cells A 65)) (.cells #[.slice none 0 0, .int .i64 0] 31)
  obtain ⟨s, hs⟩ : ∃ s, w.heap.size = s := ⟨_, rfl⟩
  have kss := hid hs
  rw [hs] at b1 z1
  rw [z1] at b2
  have kb1 := hid ((o2.block s (blk_lt b1) (fun h => h)).trans b1)
  have kbR := hid b2
  have ko := hid (o1.trans o2)
  clear h hb hT hz hA o1 o2 b1 b2 z1
  go_enter Tryz.func23, Tryz.ntmps23
  go_upto_region 1 with fail
  generalize (w.alloc (.cells A 65)).alloc (.cells #[.slice none 0 0, .int .i64 0] 31) = w1 at *
  refine wp_region_lit ?_
  refine wpList_load_row rfl 65 _ rfl s rfl 65 _ (0, 0) _ kb1.out Tryz.underlying65 rfl kAs.out ?_
  simp only [Act.put, qqd, qqe, qqf]
  go_wp2_with fail
  refine (kL.out w1 ko.out).mono ?_
  rintro e w2 ⟨v, rfl, hN, o2⟩
  have kI : Hid (insZ gd (lowI B C P) = 0) := lowI_ins kb.out.lenC kb.out.lenP kz.out
  have klt := hid (lowI_lt kb.out.lenC kb.out.lenP kb.out.lt)
  have klen := hid (lowI_len kb.out.lenC kb.out.lenP)
  have kfew := hid kb.out.few
  have hbnd : ∀ l ∈ lowI B C P, l.length ≤ 9223372036854775807 ∧ ∀ x ∈ l, x.1 < 4294967296 := fun l hl => ⟨by have := (ins_all kI.out).2.2.2.1 l hl; omega, klt.out l hl⟩
  obtain ⟨ao, c2, rfl, hC, hV, hc2⟩ := hN.ins hbnd
  have kB := hid (best_any gd ao c2 (lowI B C P) w2 hC hc2 (by have := klen.out; have := kfew.out; omega) (kT.out.old (ko.out.trans o2)))
  have kw := hid (win_of kI.out klt.out)
  obtain ⟨hcW, -⟩ := cos_good kI.out
  have kb45 := hid (best_45 kI.out klt.out)
  rw [show frZ gd (lowI B C P) 0 (allZ gd).1 = best (lowI B C P) (allZ gd).1 from hcW, ck_zero, kI.out, show ptC gd (lowI B C P) 0 (allZ gd).1 = cosC gd (lowI B C P) from rfl] at kB
  have kbk : Hid (bkL gd B C P = blL (cosC gd (lowI B C P)) B.length) := rfl
  have kcl : Hid ((cosC gd (lowI B C P)).length = B.length) := by
    have h1 := kw.out.len
    have h2 := klen.out
    show _ = _
    unfold cosC
    omega
  have ko2 := hid (ko.out.trans o2)
  have kbR := hid ((o2.block _ (blk_lt kbR.out) (fun h => h)).trans kbR.out)
  have kBk : Hid (BlkP gd B C P w = fun e w' => Old w w' ∧ ((best (lowI B C P) (allZ gd).1 ≤ P.sum ∧ e = .returned (.tuple #[.agg #[.slice none 0 0, .int .i64 0], .bool false])) ∨ (P.sum < best (lowI B C P) (allZ gd).1 ∧ ∃ v, e = .returned (.tuple #[.agg #[v, .int .i64 (best (lowI B C P) (allZ gd).1 - P.sum)], .bool true]) ∧ NewZ w.heap.size w' v (bkL gd B C P)))) := rfl
  generalize cosC gd (lowI B C P) = d at *
  generalize best (lowI B C P) (allZ gd).1 = bz at *
  clear hN hC hV o2 kL hbnd hcW ko kw
  go_wp2_with fail
  refine kB.out.mono ?_
  rintro e w3 ⟨v, rfl, hz3, o3⟩
  have hz3 := hz3.up ko2.out.size
  obtain ⟨da, dc, hdv, -⟩ := id hz3
  subst hdv
  have q3 : Old w3 (w3.alloc (.cells #[.slice da d.length dc, .int .i64 bz] 71)) := (Old.refl w3).alloc _
  have y0 := new_cell w3 #[.slice da d.length dc, .int .i64 bz] 71 0 _ rfl
  have y1 := new_cell w3 #[.slice da d.length dc, .int .i64 bz] 71 1 _ rfl
  simp only [qqa, qqb, qqc] at y0 y1
  have oo := o3.trans q3
  have kbR := hid ((oo.block _ (blk_lt kbR.out) (fun h => h)).trans kbR.out)
  have ko3 := hid (ko2.out.trans oo)
  have kz3 := hid (hz3.old q3)
  have hS := sum_45 (by have := kb.out.lenP; have := kb.out.few; omega) kb.out.p
  have hb45 := kb45.out
  have kS3 := hid (fun W (o : Old (w3.alloc (.cells #[.slice da d.length dc, .int .i64 bz] 71)) W) => kS.out W (ko3.out.trans o))
  have hdl : d.length ≤ 32 := by have := kcl.out; have := kfew.out; omega
  clear oo q3 o3 hz3 kB ko2
  generalize P.sum = sp at *
  go_upto_region 2 with fail
  generalize w3.alloc (.cells #[.slice da d.length dc, .int .i64 bz] 71) = w4 at *
  generalize w3.heap.size = bb at *
  go_quiet (exact Calls.quiet_of_same (kS3.out _ ((Old.refl w4).drewN _)))
  have hd1 : -9223372036854775808 ≤ bz - sp ∧ bz - sp ≤ 9223372036854775807 := by omega
  have oD : Old w4 (w4.drewN nq) := (Old.refl w4).drewN _
  have y0 := oD.cell y0
  have kbR := hid ((oD.block _ (blk_lt kbR.out) (fun h => h)).trans kbR.out)
  have ko4 := hid (ko3.out.trans oD)
  have kz4 := hid (kz3.out.old oD)
  clear oD y1
  generalize w4.drewN nq = w5 at *
  by_cases hle : bz ≤ sp
  · have hle' : bz - sp ≤ 0 := by omega
    have e0 := blk_cells (i := 0) (v := .slice none 0 0) kbR.out rfl
    have f0 := blk_fz kbR.out 0
    have b6 := heap_set (i := 0) (.slice none 0 0) kbR.out
    have e1 := blk_cells (i := 1) (v := .int .i64 0) b6 rfl
    have f1 := blk_fz b6 1
    have b7 := heap_set (i := 1) (.int .i64 0) b6
    have kfS : Hid (Frm (fun q => q = s + 1) w5 ((w5.setCell ⟨s + 1, 0, none⟩ (.slice none 0 0)).setCell ⟨s + 1, 1, none⟩ (.int .i64 0))) := (frm_set w5 (s + 1) 0 (.slice none 0 0)).trans (frm_set _ (s + 1) 1 (.int .i64 0)) (fun _ _ e => e)
    have kb7 := hid b7
    have kle := hid hle
    clear b6 b7 y0 hle
    go_wp2_with fail
    generalize (w5.setCell ⟨s + 1, 0, none⟩ (.slice none 0 0)).setCell ⟨s + 1, 1, none⟩ (.int .i64 0) = Z at *
    have q0 := blk_cells (v := .slice none 0 0) (i := 0) kb7.out rfl
    have q1 := blk_cells (v := .int .i64 0) (i := 1) kb7.out rfl
    refine bodyPost_ret (v := .tuple #[.agg #[.slice none 0 0, .int .i64 0], .bool false]) ?_ rfl ?_
    · simp [results, Tryz.f23, go_sem, q0, q1]
    · rw [kBk.out]
      exact ⟨Frm.trans ko4.out kfS.out (fun i hi e => by have := kss.out; omega), .inl ⟨kle.out, rfl⟩⟩
  · have hle' : ¬ bz - sp ≤ 0 := by omega
    have klt2 : Hid (sp < bz) := by show _ < _; omega
    have q5 : Old w5 (w5.alloc (.cells #[.slice none 0 0, .int .i64 (bz - sp)] 31)) := (Old.refl w5).alloc _
    have b5 := heap_new w5 (.cells #[.slice none 0 0, .int .i64 (bz - sp)] 31)
    have z5 := alloc_size w5 (.cells #[.slice none 0 0, .int .i64 (bz - sp)] 31)
    have hRx := hid (blk_lt kbR.out)
    have hdx : Hid (∀ b, da = some ⟨b, 0, none⟩ → d ≠ [] → b < w5.heap.size) := fun b e hne => by
      obtain ⟨a2, c3, e3, h4⟩ := kz4.out
      simp only [Value.slice.injEq] at e3
      rcases h4 with ⟨-, h4⟩ | ⟨b', cur, h4, h5, h6, -⟩
      · exact absurd h4 hne
      · rw [← e3.1, e] at h4
        simp only [Option.some.injEq, Addr.mk.injEq, and_true] at h4
        rw [h4]
        exact blk_lt h6
    have y0 := q5.cell y0
    have kbR := hid ((q5.block _ (blk_lt kbR.out) (fun h => h)).trans kbR.out)
    have ko5 := hid (ko4.out.trans q5)
    have kz5 := hid (kz4.out.old q5)
    obtain ⟨xb, hxb⟩ : ∃ xb, w5.heap.size = xb := ⟨_, rfl⟩
    rw [hxb] at b5 z5 hRx hdx
    have kb5 := hid b5
    have kz6 := hid z5
    clear q5 b5 z5 hle
    go_upto_region 6 with fail
    generalize w5.alloc (.cells #[.slice none 0 0, .int .i64 (bz - sp)] 31) = w6 at *
    go_wp2_with fail
    go_loopw [32] (fun t wr => ∃ k : Nat, k ≤ d.length ∧ t = .int .i64 (k : Int) ∧ Hid (∃ v, wr.heap[xb]? = some (.cells #[v, .int .i64 (bz - sp)] 31 (0, 0)) ∧ wr.ownsRow w6.heap.size 3 1 v (blL d k).length ((blL d k).map (Value.int .i64)) ∧ Frm (fun q => q = xb) w6 wr)) (fun t _ => d.length - (intOf t).toNat)
    case atStart => exact ⟨0, Nat.zero_le _, rfl, _, kb5.out, ⟨rfl, .inl ⟨rfl, rfl⟩⟩, Frm.refl _ _⟩
    case round =>
      obtain ⟨k, hk, rfl, hX⟩ := hrel
      clear y0
      obtain ⟨v, hx1, hx2, hx3⟩ := hX.out
      have hsl : ∃ a n c, v = .slice a n c := by
        rcases hx2.2 with ⟨rfl, -⟩ | ⟨g, cap, cur, rfl, -⟩
        · exact ⟨_, _, _, rfl⟩
        · exact ⟨_, _, _, rfl⟩
      obtain ⟨va, vn, vc, rfl⟩ := hsl
      by_cases hlt : k < d.length
      · have hlt' : (k : Int) < (d.length : Int) := by omega
        obtain ⟨cg, cco, hca, k1⟩ := kz5.out.nums k hlt
        have hcg : cg ≠ xb := by
          obtain ⟨a2, c3, e3, h4⟩ := kz5.out
          simp only [Value.slice.injEq] at e3
          rcases h4 with ⟨-, h4⟩ | ⟨b', cur, h4, h5, h6, -⟩
          · rw [h4] at hlt; simp at hlt
          · have h7 := hdx.out b' (by rw [e3.1, h4]) (by intro e; rw [e] at hlt; simp at hlt)
            rw [← e3.1, hca] at h4
            simp only [Option.some.injEq, Addr.mk.injEq, and_true] at h4
            omega
        subst hca
        have y1 := frm_cell hx3 k1 hcg
        have hgd : d.getD k (-1) = d[k] := by rw [List.getD_eq_getElem?_getD, List.getElem?_eq_getElem hlt]; rfl
        have kbl : Hid (blL d (k + 1) = if 0 ≤ d.getD k (-1) then blL d k ++ [(k : Int)] else blL d k) := rfl
        rw [hgd] at kbl
        have hll := blL_len d k
        clear hgd k1
        generalize d[k] = n at *
        by_cases hn : 0 ≤ n
        · rw [if_pos hn] at kbl
          have x0 := blk_cells (v := .slice va vn vc) (i := 0) hx1 rfl
          have q7 : Old wr (wr.alloc (.cells #[.int .i64 (k : Int)] 3)) := (Old.refl wr).alloc _
          have hO7 : NumsC .i64 (wr.alloc (.cells #[.int .i64 (k : Int)] 3)) (some ⟨wr.heap.size, 0, none⟩) [(k : Int)] := nums_blk (L := [(k : Int)]) (heap_new wr (.cells #[.int .i64 (k : Int)] 3))
          have hrow := owns_kept hx2 (fun q hq => q7.block q (hx2.lt q hq).2 (fun h => h))
          have kx1 := hid ((q7.block _ (blk_lt hx1) (fun h => h)).trans hx1)
          have kx3 : Hid (Frm (fun q => q = xb) w6 (wr.alloc (.cells #[.int .i64 (k : Int)] 3))) := Frm.trans hx3 q7 (fun _ _ h => h.elim)
          have hsz7 := kx3.out.size
          have hge := hid (fun q hq => (hx2.lt q hq).1)
          have x0' := q7.cell x0
          clear q7 hx1 hx2 hx3 hX
          go_wp2_with (at_builtin; refine wpAppJ (by rfl) _ _ (by rfl) w6.heap.size (.slice va vn vc) (some ⟨wr.heap.size, 0, none⟩) 1 _ [(k : Int)] (by rfl) (by rfl) hrow hO7 (fun h => by cases h) (by simp; omega) hsz7 ?_)
          generalize wr.alloc (.cells #[.int .i64 (k : Int)] 3) = w7 at *
          intro v8 w8 ow8 gr8
          have hf8 : Frm (fun q => (Value.slice va vn vc).ownBlock = some q) w7 w8 := Frm.grown (Frm.refl _ _) gr8 (fun q hq => Or.inr hq)
          have hxb6 : xb < w6.heap.size := by have := kz6.out; omega
          have hx8 := (hf8.block _ (blk_lt kx1.out) (fun e => by have := hge.out _ e; omega)).trans kx1.out
          have e0 := blk_cells (v := .slice va vn vc) (i := 0) hx8 rfl
          have f0 := blk_fz hx8 0
          have hsl8 : ∃ a n c, v8 = .slice a n c := by
            rcases ow8.2 with ⟨rfl, -⟩ | ⟨g, cap, cur, rfl, -⟩
            · exact ⟨_, _, _, rfl⟩
            · exact ⟨_, _, _, rfl⟩
          obtain ⟨ua, un, uc, rfl⟩ := hsl8
          have kN : Hid (∃ v, (w8.setCell ⟨xb, 0, none⟩ (.slice ua un uc)).heap[xb]? = some (.cells #[v, .int .i64 (bz - sp)] 31 (0, 0)) ∧ (w8.setCell ⟨xb, 0, none⟩ (.slice ua un uc)).ownsRow w6.heap.size 3 1 v (blL d (k + 1)).length ((blL d (k + 1)).map (Value.int .i64)) ∧ Frm (fun q => q = xb) w6 (w8.setCell ⟨xb, 0, none⟩ (.slice ua un uc))) := by
            have fS := frm_set w8 xb 0 (.slice ua un uc)
            refine ⟨_, heap_set (i := 0) (.slice ua un uc) hx8, ?_, Frm.trans (Frm.trans kx3.out hf8 (fun q hq e => by have := hge.out _ e; omega)) fS (fun _ _ e => e)⟩
            rw [kbl.out, List.length_append, List.map_append]
            exact owns_kept ow8 (fun q hq => fS.block q (ow8.lt q hq).2 (by have := (ow8.lt q hq).1; omega))
          clear ow8 gr8 hf8 hrow hO7 hx8 x0 x0'
          go_wp2_with fail
          go_roundw
          case rel => exact ⟨k + 1, by omega, by go_num, kN⟩
          case measure => simp [intOf]; omega
        · rw [if_neg hn] at kbl
          have hnb : decide (0 ≤ n) = false := by simpa using hn
          have kN : Hid (∃ v, wr.heap[xb]? = some (.cells #[v, .int .i64 (bz - sp)] 31 (0, 0)) ∧ wr.ownsRow w6.heap.size 3 1 v (blL d (k + 1)).length ((blL d (k + 1)).map (Value.int .i64)) ∧ Frm (fun q => q = xb) w6 wr) := ⟨_, hx1, by rw [kbl.out]; exact hx2, hx3⟩
          clear hX hx1 hx2 hx3
          go_wp2_with fail
          go_roundw
          case rel => exact ⟨k + 1, by omega, by go_num, kN⟩
          case measure => simp [intOf]; omega
      · obtain rfl : k = d.length := by omega
        have hlt' : ¬ (d.length : Int) < (d.length : Int) := by omega
        have x0 := blk_cells (v := .slice va vn vc) (i := 0) hx1 rfl
        have x1 := blk_cells (v := .int .i64 (bz - sp)) (i := 1) hx1 rfl
        have hbR := (hx3.block _ (blk_lt kbR.out) (by have := hRx.out; omega)).trans kbR.out
        have e0 := blk_cells (i := 0) (v := .slice none 0 0) hbR rfl
        have f0 := blk_fz hbR 0
        have b6 := heap_set (i := 0) (.slice va vn vc) hbR
        have e1 := blk_cells (i := 1) (v := .int .i64 0) b6 rfl
        have f1 := blk_fz b6 1
        have b7 := heap_set (i := 1) (.int .i64 (bz - sp)) b6
        have kfS : Hid (Frm (fun q => q = s + 1) wr ((wr.setCell ⟨s + 1, 0, none⟩ (.slice va vn vc)).setCell ⟨s + 1, 1, none⟩ (.int .i64 (bz - sp)))) := (frm_set wr (s + 1) 0 (.slice va vn vc)).trans (frm_set _ (s + 1) 1 (.int .i64 (bz - sp))) (fun _ _ e => e)
        have kb7 := hid b7
        have kx2 := hid hx2
        have kx3 := hid hx3
        clear b6 b7 hx1 hx2 hx3 hX hbR
        go_wp2_with fail
        generalize (wr.setCell ⟨s + 1, 0, none⟩ (.slice va vn vc)).setCell ⟨s + 1, 1, none⟩ (.int .i64 (bz - sp)) = Z at *
        have q0 := blk_cells (v := .slice va vn vc) (i := 0) kb7.out rfl
        have q1 := blk_cells (v := .int .i64 (bz - sp)) (i := 1) kb7.out rfl
        refine bodyPost_ret (v := .tuple #[.agg #[.slice va vn vc, .int .i64 (bz - sp)], .bool true]) ?_ rfl ?_
        · simp [results, Tryz.f23, go_sem, q0, q1]
        · rw [kBk.out]
          have hR2 := hRx.out
          have hz6 := kz6.out
          have hs6 := kss.out
          refine ⟨Frm.trans (Frm.trans ko5.out kx3.out (fun i hi e => by omega)) kfS.out (fun i hi e => by omega), .inr ⟨klt2.out, _, rfl, ?_⟩⟩
          rw [kbk.out, ← kcl.out]
          refine (NewZ.own (owns_kept kx2.out (fun q hq => kfS.out.block q (kx2.out.lt q hq).2 (by have := (kx2.out.lt q hq).1; omega)))).up ?_
          omega
end Go.Proofs.YtfoadheepmgbfaaGreatDoor
