/- The document's way down: in plain words, and what it has in memory. -/
import Derived.Test.YtfiogkmgenodgaaDoorJ2
import Derived.Test.YtfiogkmgenodgaaDoorR3
import Derived.Test.YtfiogkmgenodgaaDoorHoldB
import Derived.Test.YtfiogkmgenodgaaDoorV1
namespace Go.Proofs.YtfiogkmgenodgaaDoor
open Go.RowKit

/-- A try that stays: its good, the bound then. -/
abbrev Tr := Int × Int
def flatT : List Tr → List Value
  | [] => []
  | x :: M => .int .i64 x.1 :: .int .i64 x.2 :: flatT M
theorem flatT_length : ∀ M : List Tr, (flatT M).length = M.length * 2
  | [] => rfl
  | x :: M => by simp [flatT, flatT_length M]; omega
theorem flatT_append : ∀ (M : List Tr) (N : List Tr), flatT (M ++ N) = flatT M ++ flatT N
  | [], N => rfl
  | d :: M, N => by simp [flatT, flatT_append M N]
theorem flatT_one : ∀ (L : List Tr), ∀ u ∈ flatT L, u.oneCell' = true
  | [], u, h => by cases h
  | x :: L, u, h => by
    simp only [flatT, List.mem_cons] at h
    rcases h with rfl | rfl | h
    · rfl
    · rfl
    · exact flatT_one L u h
theorem flatT_get : ∀ (M : List Tr) (i : Nat) (h : i < M.length), (flatT M)[i * 2]? = some (.int .i64 M[i].1) ∧ (flatT M)[i * 2 + 1]? = some (.int .i64 M[i].2)
  | x :: M, 0, _ => by simp [flatT]
  | x :: M, i + 1, h => by
    have := flatT_get M i (by simpa using h)
    rw [show (i + 1) * 2 = i * 2 + 1 + 1 by omega]
    simpa [flatT] using this

def told (p : List St) : List Tr := p.map (fun s => (s.1, s.2.1))

theorem info_t : (Tryd.prog.info? 96).map (fun i => (i.zero, i.bytes, i.size)) = some (some (.agg #[.int .i64 0, .int .i64 0]), 16, 2) := by kernel_rfl
theorem parts_t : ∃ i, Tryd.prog.info? 96 = some i ∧ i.zero = some (.agg #[.int .i64 0, .int .i64 0]) ∧ i.size = 2 ∧ i.bytes = 16 := by
  obtain ⟨i, hi, h2⟩ := Option.map_eq_some_iff.1 info_t
  simp only [Prod.mk.injEq] at h2
  exact ⟨i, hi, h2.1, h2.2.2, h2.2.1⟩

/-- One more try behind a row that one owns. -/
theorem wpAppT {ops : Array Oper} {rest : List Oper} {o : Oper} {a : Act} {Q : Exit → Act → World → Prop} {w : World} (hgd : o.guard = none) (s x : Operand) (ho : o.op = .call { callee := .builtin .append, args := #[s, x], argTypes := #[58, 58] })
    (B : Nat) (v : Value) (g c2 : Nat) (L1 : List Tr) (y : Tr) (hs : a.eval s = v) (hx : a.eval x = .slice (some ⟨g, 0, none⟩) 1 c2) (hown : w.ownsRow B 96 2 v L1.length (flatT L1)) (h0 : w.cell? ⟨g, 0, none⟩ = some (.int .i64 y.1)) (h1 : w.cell? ⟨g, 1, none⟩ = some (.int .i64 y.2)) (hl : L1.length + 1 ≤ 1000000) (hB : B ≤ w.heap.size)
    (h : ∀ v' w', w'.ownsRow B 96 2 v' (L1 ++ [y]).length (flatT (L1 ++ [y])) → w.grownBy w' v.ownBlock → wpList Tryd.prog ops Q rest (a.put o.dst v') w') : wpList Tryd.prog ops Q (o :: rest) a w := by
  obtain ⟨i0, hi0, hz0, hz1, hz2⟩ := parts_t
  exact wpList_append_own _ hgd s x 58 ho B 96 i0 _ 2 16 Tryd.underlying58 hi0 hz0 hz1 hz2 rfl (by omega) v L1.length (flatT L1) hs hown ⟨g, 0, none⟩ 1 c2 (flatT [y]) hx (flatT_length [y]) (fun j u hu => by
    match j, hu with
    | 0, hu =>
      have hu' : Value.int .i64 y.1 = u := by simpa [flatT] using hu
      rw [Addr.add_lit, ← hu']
      exact h0
    | 1, hu =>
      have hu' : Value.int .i64 y.2 = u := by simpa [flatT] using hu
      rw [Addr.add_lit, ← hu']
      exact h1
    | j + 2, hu => simp [flatT] at hu) (flatT_one [y]) (by unfold maxLen; omega) (by omega) hB (fun v' w' h8 h9 _ => h v' w' (by rw [List.length_append, flatT_append]; exact h8) h9)

/-- What the way down has in memory. -/
structure WY (w : World) (xb pb N m : Nat) (bo : Option Addr) (cap : Nat) (B : Ins) (P : List Int) (v : Value) (L : List Tr) (Y : World) : Prop where
  old : Old w Y
  x0 : Y.cell? ⟨xb, 0, none⟩ = some (.int .i64 (m : Int))
  x1 : Y.cell? ⟨xb, 1, none⟩ = some (.slice bo B.length cap)
  own : Own .i64 2 Y pb P
  row : Y.ownsRow N 96 2 v L.length (flatT L)
  lo : w.heap.size ≤ xb
  xp : xb < pb
  pn : pb < N
  sz : N ≤ Y.heap.size

variable {w : World} {xb pb N m : Nat} {bo : Option Addr} {cap : Nat} {B : Ins} {P : List Int} {v v' : Value} {L L' : List Tr} {Y Y' : World}

theorem row_frm {S : Nat → Prop} {n : Nat} {xs : List Value} {e : TypeId} (h : Y.ownsRow N e 2 v n xs) (hf : Frm S Y Y') (hS : ∀ k, N ≤ k → ¬ S k) : Y'.ownsRow N e 2 v n xs := by
  refine ⟨h.1, ?_⟩
  rcases h.2 with h2 | ⟨g, cap, cur, rfl, h3, h4, h5⟩
  · exact Or.inl h2
  · exact Or.inr ⟨g, cap, cur, rfl, h3, by rw [hf.block g (blk_lt h4) (hS g h3)]; exact h4, h5⟩

theorem WY.olds (h : WY w xb pb N m bo cap B P v L Y) (o : Old Y Y') : WY w xb pb N m bo cap B P v L Y' :=
  ⟨h.old.trans o, o.cell h.x0, o.cell h.x1, Own.kept h.own o (fun h => h), own_old2 h.row o, h.lo, h.xp, h.pn, Nat.le_trans h.sz o.size⟩

theorem WY.set (h : WY w xb pb N m bo cap B P v L Y) (i : Nat) (u : Int) : WY w xb pb N m bo cap B (P.set i u) v L (Y.setCell ⟨pb, i, none⟩ (.int .i64 u)) := by
  have hf := frm_set Y pb i (.int .i64 u)
  have h1 := h.lo
  have h2 := h.xp
  have h3 := h.pn
  exact ⟨Frm.trans h.old hf (fun i hi e => by omega), frm_cell hf h.x0 (by dsimp only; omega), frm_cell hf h.x1 (by dsimp only; omega), h.own.set i u, row_frm h.row hf (fun k hk e => by omega), h1, h2, h3, Nat.le_trans h.sz hf.size⟩

theorem WY.grow (h : WY w xb pb N m bo cap B P v L Y) (hg : Y.grownBy Y' v.ownBlock) (hr : Y'.ownsRow N 96 2 v' L'.length (flatT L')) : WY w xb pb N m bo cap B P v' L' Y' := by
  have hb : ∀ q, v.ownBlock = some q → N ≤ q := fun q hq => by
    rcases h.row.2 with ⟨e2, _⟩ | ⟨g, c, cur, e2, h3, _⟩
    · rw [e2] at hq; simp [Value.ownBlock] at hq
    · rw [e2] at hq
      simp [Value.ownBlock] at hq
      omega
  have hf : Frm (fun q => N ≤ q) Y Y' := Frm.grown (Frm.refl _ Y) hg (fun k hk => Or.inr (hb k hk))
  have h1 := h.lo
  have h2 := h.xp
  have h3 := h.pn
  exact ⟨Frm.trans h.old hf (fun i hi e => by omega), frm_cell hf h.x0 (by dsimp only; omega), frm_cell hf h.x1 (by dsimp only; omega), Own.kept h.own hf (by omega), hr, h1, h2, h3, Nat.le_trans h.sz hf.size⟩

theorem wbound {al : Nat} (kh : InsC w bo B) (hl : B.length ≤ 9223372036854775807) (hP : P.length = m) (hm : m ≤ 10) (h : WY w xb pb N m bo cap B P v L Y) :
    Calls Tryd.prog 39 #[.agg #[.int .i64 (m : Int), .slice bo B.length cap], .int .i64 0, .int .u32 (al : Int), .slice (some ⟨pb, 0, none⟩) m m] Y fun e w' => e = .returned (.int .i64 (boundZ P al B)) ∧ Old Y w' := by
  have := rbound_any m bo (some ⟨pb, 0, none⟩) cap m B 0 al P Y (Nat.zero_le _) (kh.old h.old) hl h.own.nums (by omega)
  rw [hP, List.drop_zero] at this
  exact this

/-- What was told, where it stands, what is still to be told. -/
structure WI (m : Nat) (B : Ins) (s : St) (p rest : List St) : Prop where
  all : evs m B = p ++ rest
  ok : OkS s
  inv : InvS m B s
  last : s = (p.getLast?).getD (st0 m B)

variable {s t s0 : St} {p rest rest' : List St} {c u : Int} {g al k n : Nat}

theorem WI.re (h : WI m B s p rest) (e : rest = rest') : WI m B s p rest' := by subst e; exact h
theorem WI.tell (h : WI m B s p (t :: rest)) (ho : OkS t) (hi : InvS m B t) : WI m B t (p ++ [t]) rest :=
  ⟨by rw [h.all]; simp, ho, hi, by simp⟩
theorem WI.fin (h : WI m B s p []) : p = evs m B ∧ s = endS m B := by
  have h1 := h.all
  rw [List.append_nil] at h1
  refine ⟨h1.symm, ?_⟩
  rw [endS_is, h1]
  exact h.last

theorem WI.zero : WI m B (st0 m B) [] (stepEv m B 41 (st0 m B)).1 := ⟨by rw [List.nil_append, evs], st0_ok _ _, by unfold InvS; rw [st0], by simp⟩
theorem row_lo {M n : Nat} {xs : List Value} {e : TypeId} (h : Y.ownsRow N e 2 v n xs) (hM : M ≤ N) : Y.ownsRow M e 2 v n xs := by
  refine ⟨h.1, ?_⟩
  rcases h.2 with h2 | ⟨g, cap, cur, rfl, h3, h4⟩
  · exact Or.inl h2
  · exact Or.inr ⟨g, cap, cur, rfl, by omega, h4⟩
theorem told_snoc : told (p ++ [t]) = told p ++ [(t.1, t.2.1)] := by simp [told]
theorem bnd_set {a : Int} (hO : ∀ l ∈ B, OkO (2 ^ m - 1) l) (hs : OkS s) (ha : 0 ≤ a ∧ a ≤ 1099511627776) : boundZ ((s.2.2.take m).set g a) (2 ^ m - 1) B = boundZ (s.2.2.set g a) (2 ^ m - 1) B := by
  have h1 : OkP (s.2.2.set g a) := fun x hx => by
    rcases List.mem_or_eq_of_mem_set hx with h1 | h1
    · exact hs.2 x h1
    · subst h1
      exact ha
  rw [← List.take_set]
  exact bound_congr (OkP.take h1 m) h1 (fun i hi => take_get hi) hO

theorem way_yes (hal : (allZ (m : Int)).1 = 2 ^ m - 1) (hO : ∀ l ∈ B, OkO (2 ^ m - 1) l) (hs : OkS s) (hu : s.2.2.getD g 0 = u) (ha : 0 ≤ u + c ∧ u + c ≤ 1099511627776) (hb : boundZ ((s.2.2.take m).set g (u + c)) (2 ^ m - 1) B < s.2.1) : tryZ m B s g c = some ((g : Int), boundZ ((s.2.2.take m).set g (u + c)) (2 ^ m - 1) B, s.2.2.set g (u + c)) := by
  rw [bnd_set hO hs ha] at hb ⊢
  unfold tryZ
  rw [hu, hal, if_pos ⟨by unfold wrB; simp; omega, hb⟩]
theorem way_no (hal : (allZ (m : Int)).1 = 2 ^ m - 1) (hO : ∀ l ∈ B, OkO (2 ^ m - 1) l) (hs : OkS s) (hu : s.2.2.getD g 0 = u) (ha : 0 ≤ u + c ∧ u + c ≤ 1099511627776) (hb : ¬ boundZ ((s.2.2.take m).set g (u + c)) (2 ^ m - 1) B < s.2.1) : tryZ m B s g c = none := by
  rw [bnd_set hO hs ha] at hb
  unfold tryZ
  rw [hu, hal, if_neg (fun h => hb h.2)]
theorem way_out (hu : s.2.2.getD g 0 = u) (ha : ¬ (0 ≤ u + c ∧ u + c ≤ 1099511627776)) : tryZ m B s g c = none := by
  unfold tryZ
  rw [hu, if_neg (fun h => ha (wrB_false h.1))]

theorem stays_not (h1 : InvS m B s) (h0 : InvS m B s0) (h : s.2.1 < s0.2.1) : s.2.2 ≠ s0.2.2 := fun e => by
  unfold InvS at h1 h0
  rw [e] at h1
  omega

theorem cont_yes (e : s.2.2 = s0.2.2) : contZ m B c k n s0.2.2 s = (stepEv m B k s).1 := if_pos e
theorem cont_no (e : s.2.2 ≠ s0.2.2) : contZ m B c k n s0.2.2 s = (passEv m B c n s).1 ++ (stepEv m B k (passEv m B c n s).2).1 := if_neg e

theorem goods_len (gd : Int) (B : Ins) (c : Int) : ∀ (n g : Nat) (s : St), (goodsEv gd B c g n s).1.length ≤ n
  | 0, _, s => by simp [goodsEv]
  | n + 1, g, s => by
    rw [goodsEv]
    split
    · rename_i t ht
      have := goods_len gd B c n (g + 1) t
      simp only [List.length_cons]
      omega
    · have := goods_len gd B c n (g + 1) s
      omega
theorem pass_len (gd : Int) (B : Ins) (c : Int) (hg : gd.toNat ≤ 10) : ∀ (n : Nat) (s : St), (passEv gd B c n s).1.length ≤ n * 10
  | 0, s => by simp [passEv]
  | n + 1, s => by
    have h1 := goods_len gd B c gd.toNat 0 s
    rw [passEv]
    split
    · omega
    · have h2 := pass_len gd B c hg n (goodsEv gd B c 0 gd.toNat s).2
      simp only [List.length_append]
      omega
theorem step_len (gd : Int) (B : Ins) (hg : gd.toNat ≤ 10) : ∀ (n : Nat) (s : St), (stepEv gd B n s).1.length ≤ n * 160
  | 0, s => by simp [stepEv]
  | n + 1, s => by
    have h1 := pass_len gd B (2 ^ n : Nat) hg 16 s
    rw [stepEv]
    have h2 := step_len gd B hg n (passEv gd B (2 ^ n : Nat) 16 s).2
    simp only [List.length_append]
    omega
theorem evs_len (hm : m ≤ 10) : (evs m B).length ≤ 6560 := step_len m B (by rw [Int.toNat_natCast]; exact hm) 41 _
theorem WI.len (h : WI m B s p rest) (hm : m ≤ 10) : (told p).length ≤ 6560 := by
  have h1 := evs_len (B := B) hm
  rw [h.all, List.length_append] at h1
  unfold told
  rw [List.length_map]
  omega
end Go.Proofs.YtfiogkmgenodgaaDoor

/- The document's Way, walked. -/
namespace Go.Proofs.YtfiogkmgenodgaaDoor
open Go.RowKit



/-- What Way answers. -/
def WayP (gd : Int) (B : Ins) (w : World) (e : Ending) (w' : World) : Prop := Old w w' ∧ ((insZ gd B = 0 ∧ ∃ pb tv, e = .returned (.tuple #[.slice (some ⟨pb, 0, none⟩) gd.toNat gd.toNat, .int .i64 (endS gd B).2.1, tv, .int .i64 0]) ∧ w.heap.size ≤ pb ∧ Own .i64 2 w' pb ((endS gd B).2.2.take gd.toNat) ∧ w'.ownsRow w.heap.size 96 2 tv (told (evs gd B)).length (flatT (told (evs gd B)))) ∨ (insZ gd B ≠ 0 ∧ e = .returned (.tuple #[.slice none 0 0, .int .i64 0, .slice none 0 0, .int .i64 (insZ gd B)])))

set_option maxRecDepth 100000 in
set_option maxHeartbeats 8000000 in
theorem way_any (gd : Int) (bo : Option Addr) (cap : Nat) (B : Ins) (w : World) (h : InsC w bo B) (hl : B.length ≤ 9223372036854775807) :
    Calls Tryd.prog 26 #[.agg #[.int .i64 gd, .slice bo B.length cap]] w (WayP gd B w) := by
  have o1 : Old w (w.alloc (.cells #[.int .i64 gd, .slice bo B.length cap] 38)) := (Old.refl w).alloc _
  have c0 := new_cell w #[.int .i64 gd, .slice bo B.length cap] 38 0 _ rfl
  have c1 := new_cell w #[.int .i64 gd, .slice bo B.length cap] 38 1 _ rfl
  have kI := hid (rinst_any gd bo cap B _ (h.old o1) hl)
  have klt := hid (ins_lt h)
  have kh := hid h
  have ko := hid o1
  clear o1 h
  go_enter Tryd.func26, Tryd.ntmps26
  go_wp2_with fail
  generalize w.alloc (.cells #[.int .i64 gd, .slice bo B.length cap] 38) = w1 at *
  obtain ⟨xb, hxb⟩ : ∃ xb, w.heap.size = xb := ⟨_, rfl⟩
  have kxb := hid hxb
  rw [hxb] at c0 c1 ⊢
  clear hxb
  refine kI.out.mono ?_
  rintro e w2 ⟨rfl, o2⟩
  have c0 := o2.cell c0
  have c1 := o2.cell c1
  have ko2 := hid (ko.out.trans o2)
  clear o2 kI ko
  by_cases hz : insZ gd B = 0
  · have hgd := ins_gd hz
    have kz := hid hz
    obtain ⟨hB32, hOk⟩ := ok_of hz klt.out
    rw [hz]
    clear hz
    obtain ⟨m, rfl⟩ : ∃ m : Nat, gd = m := ⟨gd.toNat, by omega⟩
    have hm10 : m ≤ 10 := by omega
    have kall := hid (all_of hgd)
    rw [Int.toNat_natCast] at hOk kall
    have kOk := hid hOk
    have kAl := hid (fun w => rall_any m (by omega) w)
    have hmk := make_n m (by omega) w2
    clear hOk
    go_upto_region 5 with fail
    clear hmk
    have q3 : Old w2 (w2.alloc (.cells (Array.replicate m (Value.int .i64 0)) 2)) := (Old.refl w2).alloc _
    have ow3 : Own .i64 2 (w2.alloc (.cells (Array.replicate m (Value.int .i64 0)) 2)) w2.heap.size (List.replicate m 0) := ⟨by rw [heap_new]; simp⟩
    have z3 := alloc_size w2 (.cells (Array.replicate m (Value.int .i64 0)) 2)
    have hxl := cell_lt' c0
    generalize w2.alloc (.cells (Array.replicate m (Value.int .i64 0)) 2) = w3 at *
    generalize w2.heap.size = pb at *
    have hX3 : Hid (WY w xb pb (pb + 1) m bo cap B (List.replicate m 0) (.slice none 0 0) [] w3) := hid ⟨ko2.out.trans q3, q3.cell c0, q3.cell c1, ow3, ⟨rfl, Or.inl ⟨rfl, rfl⟩⟩, by have := kxb.out; omega, hxl, by omega, by omega⟩
    have kBd := hid (fun (P : List Int) v L Y (hP : P.length = m) (hx : WY w xb pb (pb + 1) m bo cap B P v L Y) => wbound (al := 2 ^ m - 1) kh.out hl hP hm10 hx)
    have kyes := hid (fun (s : St) (g : Nat) (c u : Int) => way_yes (m := m) (B := B) (s := s) (g := g) (c := c) (u := u) kall.out kOk.out)
    have kno := hid (fun (s : St) (g : Nat) (c u : Int) => way_no (m := m) (B := B) (s := s) (g := g) (c := c) (u := u) kall.out kOk.out)
    have kst : Hid (boundZ (List.replicate m 0) (2 ^ m - 1) B = (st0 m B).2.1) := by
      show _ = _
      rw [st0, kall.out]
      exact bound_congr (zero_ok _) (zero_ok 10) (fun i _ => by rw [zero_get]; exact (zero_get 10 i).symm) kOk.out
    have kst2 : Hid ((st0 m B).2.2.take m = List.replicate m 0) := by
      show (List.replicate 10 (0 : Int)).take m = _
      rw [List.take_replicate, Nat.min_eq_left hm10]
    generalize (2 ^ m - 1 : Nat) = al at *
    clear q3 ow3 z3 hxl c0 c1 ko2
    have c0 := hX3.out.x0
    have c1 := hX3.out.x1
    go_wp2_with fail
    refine (kAl.out _).mono ?_
    rintro e w' ⟨rfl, e1⟩
    rw [e1]
    clear e1 w'
    go_wp2_with fail
    refine (kBd.out _ _ _ _ (by simp) hX3.out).mono ?_
    rintro e w4 ⟨rfl, o4⟩
    have hX4 := hid (hX3.out.olds o4)
    rw [kst.out]
    rw [← kst2.out] at hX4
    have hI0 : Hid (WI m B (st0 m B) [] (stepEv m B 41 (st0 m B)).1) := hid WI.zero
    generalize st0 m B = sx at *
    clear o4 hX3 c0 c1 kst kst2 kAl
    go_wp2_with fail
    go_loopw [9, 10, 11] (fun nv tv cv wr => ∃ (k : Nat) (s : St) (p : List St), k ≤ 41 ∧ nv = .int .i64 s.2.1 ∧ cv = .int .i64 (sv k) ∧ Hid (WI m B s p (stepEv m B k s).1) ∧ Hid (WY w xb pb (pb + 1) m bo cap B (s.2.2.take m) tv (told p) wr)) (fun _ _ t _ => (intOf t).toNat)
    case atStart => exact ⟨41, sx, [], by omega, rfl, by rw [sv_41], hI0, hX4⟩
    case round =>
      clear hI0 hX4
      obtain ⟨k, s, p, hk, rfl, rfl, hI, hX⟩ := hrel
      match k, hk with
      | 0, _ =>
        rw [sv_zero]
        have hf := hid ((hI.out.re (by rw [stepEv])).fin)
        obtain ⟨hp, hs⟩ := hf.out
        subst hs
        subst hp
        generalize hE : endS (m : Int) B = E at *
        have kE := hid hE
        clear hE hf hI
        go_wp2_with fail
        refine bodyPost_ret (v := .tuple #[.slice (some ⟨pb, 0, none⟩) m m, .int .i64 E.2.1, u10, .int .i64 0]) ?_ rfl ⟨hX.out.old, Or.inl ⟨kz.out, pb, u10, ?_, ?_, ?_, ?_⟩⟩
        · simp [results, Tryd.f26, go_sem]
        · rw [kE.out, Int.toNat_natCast]
        · have := hX.out.lo
          have := hX.out.xp
          omega
        · rw [kE.out, Int.toNat_natCast]
          exact hX.out.own
        · exact row_lo hX.out.row (by have := hX.out.lo; have := hX.out.xp; omega)
      | k + 1, hk =>
        obtain ⟨hc1, hc2⟩ := sv_bnd (k := k) (by omega)
        have hcs : Hid (((2 ^ k : Nat) : Int) = sv (k + 1)) := (sv_succ k).symm
        have hch := hid (sv_half k)
        have hcl := hid (sv_less k)
        have hI1 : Hid (WI m B s p ((passEv m B (sv (k + 1)) 16 s).1 ++ (stepEv m B k (passEv m B (sv (k + 1)) 16 s).2).1)) := hid (hI.out.re (by rw [stepEv, hcs.out]))
        generalize sv (k + 1) = c at *
        clear hI hcs
        go_wp2_with fail
        have hd0 : decide (0 < c) = true := by simp only [decide_eq_true_eq]; omega
        try rw [hd0]
        clear hd0
        go_loopw [9, 10, 12] (fun nv tv t wr => ∃ (n : Nat) (s : St) (p : List St), n ≤ 16 ∧ nv = .int .i64 s.2.1 ∧ t = .int .i64 ((16 - n : Nat) : Int) ∧ Hid (WI m B s p ((passEv m B c n s).1 ++ (stepEv m B k (passEv m B c n s).2).1)) ∧ Hid (WY w xb pb (pb + 1) m bo cap B (s.2.2.take m) tv (told p) wr)) (fun _ _ t _ => 16 - (intOf t).toNat)
        case atStart => exact ⟨16, s, p, by omega, rfl, rfl, hI1, hX⟩
        case round =>
          clear hI1 hX
          obtain ⟨n, s, p, hn, rfl, rfl, hI, hX⟩ := hrel
          match n, hn with
          | 0, _ =>
            have hI2 : Hid (WI m B s p (stepEv m B k s).1) := hid (hI.out.re (by rw [passEv, List.nil_append]))
            have h16 : (((16 - 0 : Nat) : Int)) = 16 := rfl
            rw [h16]
            have hch2 := hch.out
            clear hI h16
            go_wp2_with fail
            go_roundw
            case rel => exact ⟨k, s, p, by omega, rfl, by rw [hch.out], hI2, hX⟩
            case measure => have := hcl.out; have := hc1; simp [intOf]; omega
          | n + 1, hn =>
            obtain ⟨t, ht⟩ : ∃ t : Nat, 16 - (n + 1) = t := ⟨_, rfl⟩
            have htn : Hid (16 - n = t + 1) := by show _ = _; omega
            have ht16 : (t : Int) < 16 := by omega
            rw [ht]
            clear ht
            have hI2 : Hid (WI m B s p ((goodsEv m B c 0 m s).1 ++ contZ m B c k n s.2.2 (goodsEv m B c 0 m s).2)) := hid (hI.out.re (by rw [pass_eq, Int.toNat_natCast]))
            have hv0 := hid hI.out.inv
            clear hI
            obtain ⟨s0, hs0⟩ : ∃ s0, s = s0 := ⟨_, rfl⟩
            rw [hs0] at hI2 hv0 hX ⊢
            clear hs0
            go_wp2_with fail
            go_loopw [9, 10, 13, 14] (fun nv tv fv t wr => ∃ (g : Nat) (s : St) (p : List St) (b : Bool), g ≤ m ∧ nv = .int .i64 s.2.1 ∧ fv = .bool b ∧ t = .int .i64 (g : Int) ∧ Hid (WI m B s p ((goodsEv m B c g (m - g) s).1 ++ contZ m B c k n s0.2.2 (goodsEv m B c g (m - g) s).2)) ∧ Hid (WY w xb pb (pb + 1) m bo cap B (s.2.2.take m) tv (told p) wr) ∧ Hid ((b = false ∧ s = s0) ∨ (b = true ∧ s.2.1 < s0.2.1))) (fun _ _ _ t _ => m - (intOf t).toNat)
            case atStart => exact ⟨0, s0, p, false, Nat.zero_le _, rfl, rfl, rfl, hI2, hX, hid (Or.inl ⟨rfl, rfl⟩)⟩
            case round =>
              clear hI2 hX
              obtain ⟨g, s, p, b, hg, rfl, rfl, rfl, hI, hX, hb⟩ := hrel
              have c0 := hX.out.x0
              have c1 := hX.out.x1
              by_cases hlt : g < m
              · have hlt' : (g : Int) < (m : Int) := by omega
                obtain ⟨r, hr⟩ : ∃ r, m - g = r + 1 := ⟨m - g - 1, by omega⟩
                have hr2 : Hid (m - (g + 1) = r) := by show _ = _; omega
                rw [hr] at hI
                clear hr
                have hPl : Hid ((s.2.2.take m).length = m) := by show _ = _; rw [List.length_take, hI.out.ok.1]; omega
                obtain ⟨pc, pf⟩ := hX.out.own.cell (i := g) (by rw [hPl.out]; exact hlt)
                obtain ⟨u, hu⟩ : ∃ u, (s.2.2.take m)[g]'(by rw [hPl.out]; exact hlt) = u := ⟨_, rfl⟩
                rw [hu] at pc
                have hug : Hid (s.2.2.getD g 0 = u) := by
                  show _ = _
                  rw [← take_get hlt, List.getD_eq_getElem?_getD, List.getElem?_eq_getElem (by rw [hPl.out]; exact hlt), hu]
                  rfl
                have hPs : Hid ((s.2.2.take m).set g u = s.2.2.take m) := by
                  show _ = _
                  rw [← hu, List.set_getElem_self]
                have hub := hI.out.ok.get g
                rw [hug.out] at hub
                have kY1 := hid (kyes.out s g c u hI.out.ok hug.out)
                have kN1 := hid (kno.out s g c u hI.out.ok hug.out)
                have kY2 := hid (kyes.out s g (-c) u hI.out.ok hug.out)
                have kN2 := hid (kno.out s g (-c) u hI.out.ok hug.out)
                have ko1 := hid (way_out (m := m) (B := B) (s := s) (g := g) (c := c) (u := u) hug.out)
                have ko2 := hid (way_out (m := m) (B := B) (s := s) (g := g) (c := -c) (u := u) hug.out)
                rw [← Int.sub_eq_add_neg] at kY2 kN2 ko2
                have htk : Hid (∀ a, (s.2.2.set g a).take m = (s.2.2.take m).set g a) := fun a => List.take_set ..
                obtain ⟨P, hP⟩ : ∃ P, s.2.2.take m = P := ⟨_, rfl⟩
                have hPP := hid hP
                obtain ⟨nw, hn0⟩ : ∃ nw, s.2.1 = nw := ⟨_, rfl⟩
                have hnw := hid hn0
                rw [hP] at hPl hPs htk hX kY1 kN1 kY2 kN2
                rw [hn0] at kY1 kN1 kY2 kN2 ⊢
                clear hP hn0 hu hug
                by_cases hA : u + c ≤ 1099511627776
                · have hX1 := hid (hX.out.set g (u + c))
                  go_upto_region 22 with fail
                  generalize wr.setCell ⟨pb, g, none⟩ (.int .i64 (u + c)) = w1 at *
                  clear pc pf c0 c1
                  have kB1 := hid (kBd.out (P.set g (u + c)) _ _ w1 (by simp [hPl.out]) hX1.out)
                  have kY6 := hid (kY1.out ⟨by omega, hA⟩)
                  have kN6 := hid (kN1.out ⟨by omega, hA⟩)
                  obtain ⟨b1, hb1⟩ : ∃ b1, boundZ (P.set g (u + c)) al B = b1 := ⟨_, rfl⟩
                  rw [hb1] at kB1 kY6 kN6
                  have c0 := hX1.out.x0
                  have c1 := hX1.out.x1
                  clear hb1
                  go_wp2_with fail
                  refine kB1.out.mono ?_
                  rintro e w2 ⟨rfl, o2⟩
                  have hX2 := hid (hX1.out.olds o2)
                  clear o2 kB1 c0 c1 hX1
                  by_cases hl1 : b1 < nw
                  · have hn1 : ¬ b1 ≥ nw := by omega
                    have ht1 := hid (kY6.out hl1)
                    have ht3 := ht1.out
                    have hbt := (both_first ht1.out)
                    obtain ⟨t, ht⟩ : ∃ t : St, ((g : Int), b1, s.2.2.set g (u + c)) = t := ⟨_, rfl⟩
                    have hT1 : Hid (t.1 = (g : Int)) := by rw [← ht]; exact rfl
                    have hT2 : Hid (t.2.1 = b1) := by rw [← ht]; exact rfl
                    have hT3 : Hid (t.2.2 = s.2.2.set g (u + c)) := by rw [← ht]; exact rfl
                    rw [ht] at ht3 hbt
                    clear ht
                    have hIz : Hid (WI m B t (p ++ [t]) ((goodsEv m B c (g + 1) r t).1 ++ contZ m B c k n s0.2.2 (goodsEv m B c (g + 1) r t).2)) := hid ((hI.out.re (rest' := t :: ((goodsEv m B c (g + 1) r t).1 ++ contZ m B c k n s0.2.2 (goodsEv m B c (g + 1) r t).2)) (by rw [goods_some hbt]; simp only [List.cons_append])).tell (tryZ_ok hI.out.ok ht3) (try_inv ht3).1)
                    have hpl := hI.out.len hm10
                    have hsz := hX2.out.sz
                    have c0 := hX2.out.x0
                    have c1 := hX2.out.x1
                    have oz : Old w2 (World.alloc w2 (.cells #[.int .i64 (g : Int), .int .i64 b1] 96)) := (Old.refl _).alloc _
                    have hz := heap_new w2 (.cells #[.int .i64 (g : Int), .int .i64 b1] 96)
                    have kz0 : Hid ((World.alloc w2 (.cells #[.int .i64 (g : Int), .int .i64 b1] 96)).cell? ⟨(World.heap w2).size, 0, none⟩ = some (.int .i64 (g : Int))) := blk_cells hz rfl
                    have kz1 : Hid ((World.alloc w2 (.cells #[.int .i64 (g : Int), .int .i64 b1] 96)).cell? ⟨(World.heap w2).size, 1, none⟩ = some (.int .i64 b1)) := blk_cells hz rfl
                    have hXz := hid (hX2.out.olds oz)
                    have hlb : Hid (b1 < s0.2.1) := by
                      show b1 < s0.2.1
                      have h9 := hnw.out
                      rcases hb.out with ⟨-, e⟩ | ⟨-, e⟩
                      · rw [← e]; omega
                      · omega
                    clear hz oz ht3 hbt hX hI kY1 kN1 kY2 kN2 hb
                    go_wp2_with (at_builtin; refine wpAppT (by rfl) _ _ (by rfl) (pb + 1) u10 (World.heap w2).size 1 (told p) ((g : Int), b1) (by rfl) (by rfl) hXz.out.row kz0.out kz1.out (by omega) hXz.out.sz ?_)
                    intro v5 w5 r5 g5
                    have hX5 : Hid (WY w xb pb (pb + 1) m bo cap B (P.set g (u + c)) v5 (told p ++ [((g : Int), b1)]) w5) := hid (hXz.out.grow (L' := told p ++ [((g : Int), b1)]) g5 (by rw [List.length_append]; exact r5))
                    clear g5 r5 hXz kz0 kz1
                    go_wp2_with fail
                    go_roundw
                    case rel => exact ⟨g + 1, t, p ++ [t], true, by omega, by rw [hT2.out], rfl, by go_num, hid (by rw [hr2.out]; exact hIz.out), hid (by rw [told_snoc, hT1.out, hT2.out, hT3.out, htk.out]; exact hX5.out), hid (Or.inr ⟨rfl, by rw [hT2.out]; exact hlb.out⟩)⟩
                    case measure => simp [intOf]; omega
                  · have hn1 : b1 ≥ nw := by omega
                    have ht1 := hid (kN6.out (by omega))
                    obtain ⟨uy, pcy⟩ : ∃ uy, (World.cell? w2 ⟨pb, g, none⟩) = some (.int .i64 uy) := ⟨_, (hX2.out.own.cell (i := g) (by first | (rw [hPl.out]; exact hlt) | (rw [List.length_set, hPl.out]; exact hlt))).1⟩
                    have pfy : World.frozen? w2 ⟨pb, g, none⟩ = false := (hX2.out.own.cell (i := g) (by first | (rw [hPl.out]; exact hlt) | (rw [List.length_set, hPl.out]; exact hlt))).2
                    have c0 := hX2.out.x0
                    have c1 := hX2.out.x1
                    by_cases hS : u - c ≥ 0
                    · have hX6 : Hid (WY w xb pb (pb + 1) m bo cap B (P.set g (u - c)) u10 (told p) (World.setCell w2 ⟨pb, g, none⟩ (.int .i64 (u - c)))) := by
                        have h1 := hX2.out.set g (u - c)
                        try rw [List.set_set] at h1
                        exact h1
                      go_upto_region 25 with fail
                      generalize World.setCell w2 ⟨pb, g, none⟩ (.int .i64 (u - c)) = w6 at *
                      have kB6 := hid (kBd.out (P.set g (u - c)) _ _ w6 (by simp only [List.length_set, hPl.out]) hX6.out)
                      clear pcy pfy c0 c1
                      have kY6 := hid (kY2.out ⟨hS, by omega⟩)
                      have kN6 := hid (kN2.out ⟨hS, by omega⟩)
                      obtain ⟨b6, hb6⟩ : ∃ b6, boundZ (P.set g (u - c)) al B = b6 := ⟨_, rfl⟩
                      rw [hb6] at kB6 kY6 kN6
                      have c0 := hX6.out.x0
                      have c1 := hX6.out.x1
                      clear hb6
                      go_wp2_with fail
                      refine kB6.out.mono ?_
                      rintro e w7 ⟨rfl, o7⟩
                      have hX7 := hid (hX6.out.olds o7)
                      clear o7 kB6 c0 c1 hX6
                      by_cases hl6 : b6 < nw
                      · have hn6 : ¬ b6 ≥ nw := by omega
                        have ht2 := hid (kY6.out hl6)
                        have ht3 := ht2.out
                        have hbt := ((both_second ht1.out).trans ht2.out)
                        obtain ⟨t, ht⟩ : ∃ t : St, ((g : Int), b6, s.2.2.set g (u - c)) = t := ⟨_, rfl⟩
                        have hT1 : Hid (t.1 = (g : Int)) := by rw [← ht]; exact rfl
                        have hT2 : Hid (t.2.1 = b6) := by rw [← ht]; exact rfl
                        have hT3 : Hid (t.2.2 = s.2.2.set g (u - c)) := by rw [← ht]; exact rfl
                        rw [ht] at ht3 hbt
                        clear ht
                        have hIz : Hid (WI m B t (p ++ [t]) ((goodsEv m B c (g + 1) r t).1 ++ contZ m B c k n s0.2.2 (goodsEv m B c (g + 1) r t).2)) := hid ((hI.out.re (rest' := t :: ((goodsEv m B c (g + 1) r t).1 ++ contZ m B c k n s0.2.2 (goodsEv m B c (g + 1) r t).2)) (by rw [goods_some hbt]; simp only [List.cons_append])).tell (tryZ_ok hI.out.ok ht3) (try_inv ht3).1)
                        have hpl := hI.out.len hm10
                        have hsz := hX7.out.sz
                        have c0 := hX7.out.x0
                        have c1 := hX7.out.x1
                        have oz : Old w7 (World.alloc w7 (.cells #[.int .i64 (g : Int), .int .i64 b6] 96)) := (Old.refl _).alloc _
                        have hz := heap_new w7 (.cells #[.int .i64 (g : Int), .int .i64 b6] 96)
                        have kz0 : Hid ((World.alloc w7 (.cells #[.int .i64 (g : Int), .int .i64 b6] 96)).cell? ⟨(World.heap w7).size, 0, none⟩ = some (.int .i64 (g : Int))) := blk_cells hz rfl
                        have kz1 : Hid ((World.alloc w7 (.cells #[.int .i64 (g : Int), .int .i64 b6] 96)).cell? ⟨(World.heap w7).size, 1, none⟩ = some (.int .i64 b6)) := blk_cells hz rfl
                        have hXz := hid (hX7.out.olds oz)
                        have hlb : Hid (b6 < s0.2.1) := by
                          show b6 < s0.2.1
                          have h9 := hnw.out
                          rcases hb.out with ⟨-, e⟩ | ⟨-, e⟩
                          · rw [← e]; omega
                          · omega
                        clear hz oz ht3 hbt hX hI kY1 kN1 kY2 kN2 hb
                        go_wp2_with (at_builtin; refine wpAppT (by rfl) _ _ (by rfl) (pb + 1) u10 (World.heap w7).size 1 (told p) ((g : Int), b6) (by rfl) (by rfl) hXz.out.row kz0.out kz1.out (by omega) hXz.out.sz ?_)
                        intro v5 w5 r5 g5
                        have hX5 : Hid (WY w xb pb (pb + 1) m bo cap B (P.set g (u - c)) v5 (told p ++ [((g : Int), b6)]) w5) := hid (hXz.out.grow (L' := told p ++ [((g : Int), b6)]) g5 (by rw [List.length_append]; exact r5))
                        clear g5 r5 hXz kz0 kz1
                        go_wp2_with fail
                        go_roundw
                        case rel => exact ⟨g + 1, t, p ++ [t], true, by omega, by rw [hT2.out], rfl, by go_num, hid (by rw [hr2.out]; exact hIz.out), hid (by rw [told_snoc, hT1.out, hT2.out, hT3.out, htk.out]; exact hX5.out), hid (Or.inr ⟨rfl, by rw [hT2.out]; exact hlb.out⟩)⟩
                        case measure => simp [intOf]; omega
                      · have hn6 : b6 ≥ nw := by omega
                        have ht2 := hid (kN6.out (by omega))
                        obtain ⟨uz, pcz⟩ : ∃ uz, (World.cell? w7 ⟨pb, g, none⟩) = some (.int .i64 uz) := ⟨_, (hX7.out.own.cell (i := g) (by first | (rw [hPl.out]; exact hlt) | (rw [List.length_set, hPl.out]; exact hlt))).1⟩
                        have pfz : World.frozen? w7 ⟨pb, g, none⟩ = false := (hX7.out.own.cell (i := g) (by first | (rw [hPl.out]; exact hlt) | (rw [List.length_set, hPl.out]; exact hlt))).2
                        have hXz : Hid (WY w xb pb (pb + 1) m bo cap B P u10 (told p) (World.setCell w7 ⟨pb, g, none⟩ (.int .i64 u))) := by
                          have h1 := hX7.out.set g u
                          rw [List.set_set, hPs.out] at h1
                          exact h1
                        have hIz : Hid (WI m B s p ((goodsEv m B c (g + 1) r s).1 ++ contZ m B c k n s0.2.2 (goodsEv m B c (g + 1) r s).2)) := hid (hI.out.re (by rw [goods_none ((both_second ht1.out).trans ht2.out)]))
                        have c0 := hX7.out.x0
                        have c1 := hX7.out.x1
                        clear hX hI kY1 kN1 kY2 kN2
                        go_wp2_with fail
                        go_roundw
                        case rel => exact ⟨g + 1, s, p, b, by omega, by rw [hnw.out], rfl, by go_num, hid (by rw [hr2.out]; exact hIz.out), hid (by rw [hPP.out]; exact hXz.out), hb⟩
                        case measure => simp [intOf]; omega
                    · have ht2 := hid (ko2.out (by omega))
                      obtain ⟨uz, pcz⟩ : ∃ uz, (World.cell? w2 ⟨pb, g, none⟩) = some (.int .i64 uz) := ⟨_, (hX2.out.own.cell (i := g) (by first | (rw [hPl.out]; exact hlt) | (rw [List.length_set, hPl.out]; exact hlt))).1⟩
                      have pfz : World.frozen? w2 ⟨pb, g, none⟩ = false := (hX2.out.own.cell (i := g) (by first | (rw [hPl.out]; exact hlt) | (rw [List.length_set, hPl.out]; exact hlt))).2
                      have hXz : Hid (WY w xb pb (pb + 1) m bo cap B P u10 (told p) (World.setCell w2 ⟨pb, g, none⟩ (.int .i64 u))) := by
                        have h1 := hX2.out.set g u
                        rw [List.set_set, hPs.out] at h1
                        exact h1
                      have hIz : Hid (WI m B s p ((goodsEv m B c (g + 1) r s).1 ++ contZ m B c k n s0.2.2 (goodsEv m B c (g + 1) r s).2)) := hid (hI.out.re (by rw [goods_none ((both_second ht1.out).trans ht2.out)]))
                      have c0 := hX2.out.x0
                      have c1 := hX2.out.x1
                      clear hX hI kY1 kN1 kY2 kN2
                      go_wp2_with fail
                      go_roundw
                      case rel => exact ⟨g + 1, s, p, b, by omega, by rw [hnw.out], rfl, by go_num, hid (by rw [hr2.out]; exact hIz.out), hid (by rw [hPP.out]; exact hXz.out), hb⟩
                      case measure => simp [intOf]; omega
                · have ht1 := hid (ko1.out (by omega))
                  have hn1 : nw ≥ nw := Int.le_refl _
                  obtain ⟨uy, pcy⟩ : ∃ uy, (World.cell? wr ⟨pb, g, none⟩) = some (.int .i64 uy) := ⟨_, (hX.out.own.cell (i := g) (by first | (rw [hPl.out]; exact hlt) | (rw [List.length_set, hPl.out]; exact hlt))).1⟩
                  have pfy : World.frozen? wr ⟨pb, g, none⟩ = false := (hX.out.own.cell (i := g) (by first | (rw [hPl.out]; exact hlt) | (rw [List.length_set, hPl.out]; exact hlt))).2
                  have c0 := hX.out.x0
                  have c1 := hX.out.x1
                  by_cases hS : u - c ≥ 0
                  · have hX6 : Hid (WY w xb pb (pb + 1) m bo cap B (P.set g (u - c)) u10 (told p) (World.setCell wr ⟨pb, g, none⟩ (.int .i64 (u - c)))) := by
                      have h1 := hX.out.set g (u - c)
                      try rw [List.set_set] at h1
                      exact h1
                    go_upto_region 25 with fail
                    generalize World.setCell wr ⟨pb, g, none⟩ (.int .i64 (u - c)) = w6 at *
                    have kB6 := hid (kBd.out (P.set g (u - c)) _ _ w6 (by simp only [List.length_set, hPl.out]) hX6.out)
                    clear pcy pfy c0 c1
                    have kY6 := hid (kY2.out ⟨hS, by omega⟩)
                    have kN6 := hid (kN2.out ⟨hS, by omega⟩)
                    obtain ⟨b6, hb6⟩ : ∃ b6, boundZ (P.set g (u - c)) al B = b6 := ⟨_, rfl⟩
                    rw [hb6] at kB6 kY6 kN6
                    have c0 := hX6.out.x0
                    have c1 := hX6.out.x1
                    clear hb6
                    go_wp2_with fail
                    refine kB6.out.mono ?_
                    rintro e w7 ⟨rfl, o7⟩
                    have hX7 := hid (hX6.out.olds o7)
                    clear o7 kB6 c0 c1 hX6
                    by_cases hl6 : b6 < nw
                    · have hn6 : ¬ b6 ≥ nw := by omega
                      have ht2 := hid (kY6.out hl6)
                      have ht3 := ht2.out
                      have hbt := ((both_second ht1.out).trans ht2.out)
                      obtain ⟨t, ht⟩ : ∃ t : St, ((g : Int), b6, s.2.2.set g (u - c)) = t := ⟨_, rfl⟩
                      have hT1 : Hid (t.1 = (g : Int)) := by rw [← ht]; exact rfl
                      have hT2 : Hid (t.2.1 = b6) := by rw [← ht]; exact rfl
                      have hT3 : Hid (t.2.2 = s.2.2.set g (u - c)) := by rw [← ht]; exact rfl
                      rw [ht] at ht3 hbt
                      clear ht
                      have hIz : Hid (WI m B t (p ++ [t]) ((goodsEv m B c (g + 1) r t).1 ++ contZ m B c k n s0.2.2 (goodsEv m B c (g + 1) r t).2)) := hid ((hI.out.re (rest' := t :: ((goodsEv m B c (g + 1) r t).1 ++ contZ m B c k n s0.2.2 (goodsEv m B c (g + 1) r t).2)) (by rw [goods_some hbt]; simp only [List.cons_append])).tell (tryZ_ok hI.out.ok ht3) (try_inv ht3).1)
                      have hpl := hI.out.len hm10
                      have hsz := hX7.out.sz
                      have c0 := hX7.out.x0
                      have c1 := hX7.out.x1
                      have oz : Old w7 (World.alloc w7 (.cells #[.int .i64 (g : Int), .int .i64 b6] 96)) := (Old.refl _).alloc _
                      have hz := heap_new w7 (.cells #[.int .i64 (g : Int), .int .i64 b6] 96)
                      have kz0 : Hid ((World.alloc w7 (.cells #[.int .i64 (g : Int), .int .i64 b6] 96)).cell? ⟨(World.heap w7).size, 0, none⟩ = some (.int .i64 (g : Int))) := blk_cells hz rfl
                      have kz1 : Hid ((World.alloc w7 (.cells #[.int .i64 (g : Int), .int .i64 b6] 96)).cell? ⟨(World.heap w7).size, 1, none⟩ = some (.int .i64 b6)) := blk_cells hz rfl
                      have hXz := hid (hX7.out.olds oz)
                      have hlb : Hid (b6 < s0.2.1) := by
                        show b6 < s0.2.1
                        have h9 := hnw.out
                        rcases hb.out with ⟨-, e⟩ | ⟨-, e⟩
                        · rw [← e]; omega
                        · omega
                      clear hz oz ht3 hbt hX hI kY1 kN1 kY2 kN2 hb
                      go_wp2_with (at_builtin; refine wpAppT (by rfl) _ _ (by rfl) (pb + 1) u10 (World.heap w7).size 1 (told p) ((g : Int), b6) (by rfl) (by rfl) hXz.out.row kz0.out kz1.out (by omega) hXz.out.sz ?_)
                      intro v5 w5 r5 g5
                      have hX5 : Hid (WY w xb pb (pb + 1) m bo cap B (P.set g (u - c)) v5 (told p ++ [((g : Int), b6)]) w5) := hid (hXz.out.grow (L' := told p ++ [((g : Int), b6)]) g5 (by rw [List.length_append]; exact r5))
                      clear g5 r5 hXz kz0 kz1
                      go_wp2_with fail
                      go_roundw
                      case rel => exact ⟨g + 1, t, p ++ [t], true, by omega, by rw [hT2.out], rfl, by go_num, hid (by rw [hr2.out]; exact hIz.out), hid (by rw [told_snoc, hT1.out, hT2.out, hT3.out, htk.out]; exact hX5.out), hid (Or.inr ⟨rfl, by rw [hT2.out]; exact hlb.out⟩)⟩
                      case measure => simp [intOf]; omega
                    · have hn6 : b6 ≥ nw := by omega
                      have ht2 := hid (kN6.out (by omega))
                      obtain ⟨uz, pcz⟩ : ∃ uz, (World.cell? w7 ⟨pb, g, none⟩) = some (.int .i64 uz) := ⟨_, (hX7.out.own.cell (i := g) (by first | (rw [hPl.out]; exact hlt) | (rw [List.length_set, hPl.out]; exact hlt))).1⟩
                      have pfz : World.frozen? w7 ⟨pb, g, none⟩ = false := (hX7.out.own.cell (i := g) (by first | (rw [hPl.out]; exact hlt) | (rw [List.length_set, hPl.out]; exact hlt))).2
                      have hXz : Hid (WY w xb pb (pb + 1) m bo cap B P u10 (told p) (World.setCell w7 ⟨pb, g, none⟩ (.int .i64 u))) := by
                        have h1 := hX7.out.set g u
                        rw [List.set_set, hPs.out] at h1
                        exact h1
                      have hIz : Hid (WI m B s p ((goodsEv m B c (g + 1) r s).1 ++ contZ m B c k n s0.2.2 (goodsEv m B c (g + 1) r s).2)) := hid (hI.out.re (by rw [goods_none ((both_second ht1.out).trans ht2.out)]))
                      have c0 := hX7.out.x0
                      have c1 := hX7.out.x1
                      clear hX hI kY1 kN1 kY2 kN2
                      go_wp2_with fail
                      go_roundw
                      case rel => exact ⟨g + 1, s, p, b, by omega, by rw [hnw.out], rfl, by go_num, hid (by rw [hr2.out]; exact hIz.out), hid (by rw [hPP.out]; exact hXz.out), hb⟩
                      case measure => simp [intOf]; omega
                  · have ht2 := hid (ko2.out (by omega))
                    obtain ⟨uz, pcz⟩ : ∃ uz, (World.cell? wr ⟨pb, g, none⟩) = some (.int .i64 uz) := ⟨_, (hX.out.own.cell (i := g) (by first | (rw [hPl.out]; exact hlt) | (rw [List.length_set, hPl.out]; exact hlt))).1⟩
                    have pfz : World.frozen? wr ⟨pb, g, none⟩ = false := (hX.out.own.cell (i := g) (by first | (rw [hPl.out]; exact hlt) | (rw [List.length_set, hPl.out]; exact hlt))).2
                    have hXz : Hid (WY w xb pb (pb + 1) m bo cap B P u10 (told p) (World.setCell wr ⟨pb, g, none⟩ (.int .i64 u))) := by
                      have h1 := hX.out.set g u
                      rw [hPs.out] at h1
                      exact h1
                    have hIz : Hid (WI m B s p ((goodsEv m B c (g + 1) r s).1 ++ contZ m B c k n s0.2.2 (goodsEv m B c (g + 1) r s).2)) := hid (hI.out.re (by rw [goods_none ((both_second ht1.out).trans ht2.out)]))
                    have c0 := hX.out.x0
                    have c1 := hX.out.x1
                    clear hX hI kY1 kN1 kY2 kN2
                    go_wp2_with fail
                    go_roundw
                    case rel => exact ⟨g + 1, s, p, b, by omega, by rw [hnw.out], rfl, by go_num, hid (by rw [hr2.out]; exact hIz.out), hid (by rw [hPP.out]; exact hXz.out), hb⟩
                    case measure => simp [intOf]; omega
              · obtain rfl : g = m := by omega
                rw [Nat.sub_self] at hI
                have hI3 : Hid (WI g B s p (contZ g B c k n s0.2.2 s)) := hid (hI.out.re (by rw [goodsEv, List.nil_append]))
                clear hI
                cases b with
                | false =>
                  have hI4 : Hid (WI g B s p (stepEv g B k s).1) := hid (hI3.out.re (cont_yes (by
                    rcases hb.out with ⟨-, e⟩ | ⟨e, -⟩
                    · rw [e]
                    · cases e)))
                  have hch2 := hch.out
                  clear hI3 hb
                  go_wp2_with fail
                  go_roundw
                  case rel => exact ⟨k, s, p, by omega, rfl, by rw [hch.out], hI4, hX⟩
                  case measure => have := hcl.out; have := hc1; simp [intOf]; omega
                | true =>
                  have hI4 : Hid (WI g B s p ((passEv g B c n s).1 ++ (stepEv g B k (passEv g B c n s).2).1)) := hid (hI3.out.re (cont_no (stays_not hI3.out.inv hv0.out (by
                    rcases hb.out with ⟨e, -⟩ | ⟨-, e⟩
                    · cases e
                    · exact e))))
                  clear hI3 hb
                  go_wp2_with fail
                  go_roundw
                  case rel => exact ⟨n, s, p, by omega, rfl, by rw [htn.out]; go_num, hI4, hX⟩
                  case measure => simp [intOf]; omega
  · have hzb : (insZ gd B != 0) = true := by simpa using hz
    have kz := hid hz
    clear hz
    go_wp2_with fail
    refine bodyPost_ret ?_ rfl ⟨ko2.out, Or.inr ⟨kz.out, rfl⟩⟩
    simp [results, Tryd.f26, go_sem]
end Go.Proofs.YtfiogkmgenodgaaDoor
