/- The document's way down: in plain words, and what it has in memory. -/
import Derived.Test.YtfiogkmgenodgaaDoorM2
import Derived.Test.YtfiogkmgenodgaaDoorR3
import Derived.Test.YtfiogkmgenodgaaDoorHoldB
import Derived.Test.YtfiogkmgenodgaaDoorV1
namespace Go.Proofs.YtfiogkmgenodgaaDoor
open Go.RowKit

/-- A try that stays: its good, the bound then. -/
abbrev Tr := Int × Int
def flatT : List Tr → List Value
  | [] => []
  | x :: M => .int .i64 x.1 :: .int .i64 x.2 :: flatT M
theorem flatT_length : ∀ M : List Tr, (flatT M).length = M.length * 2
  | [] => rfl
  | x :: M => by simp [flatT, flatT_length M]; omega
theorem flatT_append : ∀ (M : List Tr) (N : List Tr), flatT (M ++ N) = flatT M ++ flatT N
  | [], N => rfl
  | d :: M, N => by simp [flatT, flatT_append M N]
theorem flatT_one : ∀ (L : List Tr), ∀ u ∈ flatT L, u.oneCell' = true
  | [], u, h => by cases h
  | x :: L, u, h => by
    simp only [flatT, List.mem_cons] at h
    rcases h with rfl | rfl | h
    · rfl
    · rfl
    · exact flatT_one L u h
theorem flatT_get : ∀ (M : List Tr) (i : Nat) (h : i < M.length), (flatT M)[i * 2]? = some (.int .i64 M[i].1) ∧ (flatT M)[i * 2 + 1]? = some (.int .i64 M[i].2)
  | x :: M, 0, _ => by simp [flatT]
  | x :: M, i + 1, h => by
    have := flatT_get M i (by simpa using h)
    rw [show (i + 1) * 2 = i * 2 + 1 + 1 by omega]
    simpa [flatT] using this

def told (p : List St) : List Tr := p.map (fun s => (s.1, s.2.1))

theorem info_t : (Tryd.prog.info? 96).map (fun i => (i.zero, i.bytes, i.size)) = some (some (.agg #[.int .i64 0, .int .i64 0]), 16, 2) := by kernel_rfl
theorem parts_t : ∃ i, Tryd.prog.info? 96 = some i ∧ i.zero = some (.agg #[.int .i64 0, .int .i64 0]) ∧ i.size = 2 ∧ i.bytes = 16 := by
  obtain ⟨i, hi, h2⟩ := Option.map_eq_some_iff.1 info_t
  simp only [Prod.mk.injEq] at h2
  exact ⟨i, hi, h2.1, h2.2.2, h2.2.1⟩

/-- One more try behind a row that one owns. -/
theorem wpAppT {ops : Array Oper} {rest : List Oper} {o : Oper} {a : Act} {Q : Exit → Act → World → Prop} {w : World} (hgd : o.guard = none) (s x : Operand) (ho : o.op = .call { callee := .builtin .append, args := #[s, x], argTypes := #[58, 58] })
    (B : Nat) (v : Value) (g c2 : Nat) (L1 : List Tr) (y : Tr) (hs : a.eval s = v) (hx : a.eval x = .slice (some ⟨g, 0, none⟩) 1 c2) (hown : w.ownsRow B 96 2 v L1.length (flatT L1)) (h0 : w.cell? ⟨g, 0, none⟩ = some (.int .i64 y.1)) (h1 : w.cell? ⟨g, 1, none⟩ = some (.int .i64 y.2)) (hl : L1.length + 1 ≤ 1000000) (hB : B ≤ w.heap.size)
    (h : ∀ v' w', w'.ownsRow B 96 2 v' (L1 ++ [y]).length (flatT (L1 ++ [y])) → w.grownBy w' v.ownBlock → wpList Tryd.prog ops Q rest (a.put o.dst v') w') : wpList Tryd.prog ops Q (o :: rest) a w := by
  obtain ⟨i0, hi0, hz0, hz1, hz2⟩ := parts_t
  exact wpList_append_own _ hgd s x 58 ho B 96 i0 _ 2 16 Tryd.underlying58 hi0 hz0 hz1 hz2 rfl (by omega) v L1.length (flatT L1) hs hown ⟨g, 0, none⟩ 1 c2 (flatT [y]) hx (flatT_length [y]) (fun j u hu => by
    match j, hu with
    | 0, hu =>
      have hu' : Value.int .i64 y.1 = u := by simpa [flatT] using hu
      rw [Addr.add_lit, ← hu']
      exact h0
    | 1, hu =>
      have hu' : Value.int .i64 y.2 = u := by simpa [flatT] using hu
      rw [Addr.add_lit, ← hu']
      exact h1
    | j + 2, hu => simp [flatT] at hu) (flatT_one [y]) (by unfold maxLen; omega) (by omega) hB (fun v' w' h8 h9 _ => h v' w' (by rw [List.length_append, flatT_append]; exact h8) h9)

/-- What the way down has in memory. -/
structure WY (w : World) (xb pb N m : Nat) (bo : Option Addr) (cap : Nat) (B : Ins) (P : List Int) (v : Value) (L : List Tr) (Y : World) : Prop where
  old : Old w Y
  x0 : Y.cell? ⟨xb, 0, none⟩ = some (.int .i64 (m : Int))
  x1 : Y.cell? ⟨xb, 1, none⟩ = some (.slice bo B.length cap)
  own : Own .i64 2 Y pb P
  row : Y.ownsRow N 96 2 v L.length (flatT L)
  lo : w.heap.size ≤ xb
  xp : xb < pb
  pn : pb < N
  sz : N ≤ Y.heap.size

variable {w : World} {xb pb N m : Nat} {bo : Option Addr} {cap : Nat} {B : Ins} {P : List Int} {v v' : Value} {L L' : List Tr} {Y Y' : World}

theorem row_frm {S : Nat → Prop} {n : Nat} {xs : List Value} {e : TypeId} (h : Y.ownsRow N e 2 v n xs) (hf : Frm S Y Y') (hS : ∀ k, N ≤ k → ¬ S k) : Y'.ownsRow N e 2 v n xs := by
  refine ⟨h.1, ?_⟩
  rcases h.2 with h2 | ⟨g, cap, cur, rfl, h3, h4, h5⟩
  · exact Or.inl h2
  · exact Or.inr ⟨g, cap, cur, rfl, h3, by rw [hf.block g (blk_lt h4) (hS g h3)]; exact h4, h5⟩

theorem WY.olds (h : WY w xb pb N m bo cap B P v L Y) (o : Old Y Y') : WY w xb pb N m bo cap B P v L Y' :=
  ⟨h.old.trans o, o.cell h.x0, o.cell h.x1, Own.kept h.own o (fun h => h), own_old2 h.row o, h.lo, h.xp, h.pn, Nat.le_trans h.sz o.size⟩

theorem WY.set (h : WY w xb pb N m bo cap B P v L Y) (i : Nat) (u : Int) : WY w xb pb N m bo cap B (P.set i u) v L (Y.setCell ⟨pb, i, none⟩ (.int .i64 u)) := by
  have hf := frm_set Y pb i (.int .i64 u)
  have h1 := h.lo
  have h2 := h.xp
  have h3 := h.pn
  exact ⟨Frm.trans h.old hf (fun i hi e => by omega), frm_cell hf h.x0 (by dsimp only; omega), frm_cell hf h.x1 (by dsimp only; omega), h.own.set i u, row_frm h.row hf (fun k hk e => by omega), h1, h2, h3, Nat.le_trans h.sz hf.size⟩

theorem WY.grow (h : WY w xb pb N m bo cap B P v L Y) (hg : Y.grownBy Y' v.ownBlock) (hr : Y'.ownsRow N 96 2 v' L'.length (flatT L')) : WY w xb pb N m bo cap B P v' L' Y' := by
  have hb : ∀ q, v.ownBlock = some q → N ≤ q := fun q hq => by
    rcases h.row.2 with ⟨e2, _⟩ | ⟨g, c, cur, e2, h3, _⟩
    · rw [e2] at hq; simp [Value.ownBlock] at hq
    · rw [e2] at hq
      simp [Value.ownBlock] at hq
      omega
  have hf : Frm (fun q => N ≤ q) Y Y' := Frm.grown (Frm.refl _ Y) hg (fun k hk => Or.inr (hb k hk))
  have h1 := h.lo
  have h2 := h.xp
  have h3 := h.pn
  exact ⟨Frm.trans h.old hf (fun i hi e => by omega), frm_cell hf h.x0 (by dsimp only; omega), frm_cell hf h.x1 (by dsimp only; omega), Own.kept h.own hf (by omega), hr, h1, h2, h3, Nat.le_trans h.sz hf.size⟩

theorem wbound {al : Nat} (kh : InsC w bo B) (hl : B.length ≤ 9223372036854775807) (hP : P.length = m) (hm : m ≤ 10) (h : WY w xb pb N m bo cap B P v L Y) :
    Calls Tryd.prog 39 #[.agg #[.int .i64 (m : Int), .slice bo B.length cap], .int .i64 0, .int .u32 (al : Int), .slice (some ⟨pb, 0, none⟩) m m] Y fun e w' => e = .returned (.int .i64 (boundZ P al B)) ∧ Old Y w' := by
  have := rbound_any m bo (some ⟨pb, 0, none⟩) cap m B 0 al P Y (Nat.zero_le _) (kh.old h.old) hl h.own.nums (by omega)
  rw [hP, List.drop_zero] at this
  exact this

/-- What was told, where it stands, what is still to be told. -/
structure WI (m : Nat) (B : Ins) (s : St) (p rest : List St) : Prop where
  all : evs m B = p ++ rest
  ok : OkS s
  inv : InvS m B s
  last : s = (p.getLast?).getD (st0 m B)

variable {s t s0 : St} {p rest rest' : List St} {c u : Int} {g al k n : Nat}

theorem WI.re (h : WI m B s p rest) (e : rest = rest') : WI m B s p rest' := by subst e; exact h
theorem WI.tell (h : WI m B s p (t :: rest)) (ho : OkS t) (hi : InvS m B t) : WI m B t (p ++ [t]) rest :=
  ⟨by rw [h.all]; simp, ho, hi, by simp⟩
theorem WI.fin (h : WI m B s p []) : p = evs m B ∧ s = endS m B := by
  have h1 := h.all
  rw [List.append_nil] at h1
  refine ⟨h1.symm, ?_⟩
  rw [endS_is, h1]
  exact h.last

theorem WI.zero : WI m B (st0 m B) [] (stepEv m B 41 (st0 m B)).1 := ⟨by rw [List.nil_append, evs], st0_ok _ _, by unfold InvS; rw [st0], by simp⟩
theorem row_lo {M n : Nat} {xs : List Value} {e : TypeId} (h : Y.ownsRow N e 2 v n xs) (hM : M ≤ N) : Y.ownsRow M e 2 v n xs := by
  refine ⟨h.1, ?_⟩
  rcases h.2 with h2 | ⟨g, cap, cur, rfl, h3, h4⟩
  · exact Or.inl h2
  · exact Or.inr ⟨g, cap, cur, rfl, by omega, h4⟩
theorem told_snoc : told (p ++ [t]) = told p ++ [(t.1, t.2.1)] := by simp [told]
theorem bnd_set {a : Int} (hO : ∀ l ∈ B, OkO (2 ^ m - 1) l) (hs : OkS s) (ha : 0 ≤ a ∧ a ≤ 1099511627776) : boundZ ((s.2.2.take m).set g a) (2 ^ m - 1) B = boundZ (s.2.2.set g a) (2 ^ m - 1) B := by
  have h1 : OkP (s.2.2.set g a) := fun x hx => by
    rcases List.mem_or_eq_of_mem_set hx with h1 | h1
    · exact hs.2 x h1
    · subst h1
      exact ha
  rw [← List.take_set]
  exact bound_congr (OkP.take h1 m) h1 (fun i hi => take_get hi) hO

theorem way_yes (hal : (allZ (m : Int)).1 = 2 ^ m - 1) (hO : ∀ l ∈ B, OkO (2 ^ m - 1) l) (hs : OkS s) (hu : s.2.2.getD g 0 = u) (ha : 0 ≤ u + c ∧ u + c ≤ 1099511627776) (hb : boundZ ((s.2.2.take m).set g (u + c)) (2 ^ m - 1) B < s.2.1) : tryZ m B s g c = some ((g : Int), boundZ ((s.2.2.take m).set g (u + c)) (2 ^ m - 1) B, s.2.2.set g (u + c)) := by
  rw [bnd_set hO hs ha] at hb ⊢
  unfold tryZ
  rw [hu, hal, if_pos ⟨by unfold wrB; simp; omega, hb⟩]
theorem way_no (hal : (allZ (m : Int)).1 = 2 ^ m - 1) (hO : ∀ l ∈ B, OkO (2 ^ m - 1) l) (hs : OkS s) (hu : s.2.2.getD g 0 = u) (ha : 0 ≤ u + c ∧ u + c ≤ 1099511627776) (hb : ¬ boundZ ((s.2.2.take m).set g (u + c)) (2 ^ m - 1) B < s.2.1) : tryZ m B s g c = none := by
  rw [bnd_set hO hs ha] at hb
  unfold tryZ
  rw [hu, hal, if_neg (fun h => hb h.2)]
theorem way_out (hu : s.2.2.getD g 0 = u) (ha : ¬ (0 ≤ u + c ∧ u + c ≤ 1099511627776)) : tryZ m B s g c = none := by
  unfold tryZ
  rw [hu, if_neg (fun h => ha (wrB_false h.1))]

theorem stays_not (h1 : InvS m B s) (h0 : InvS m B s0) (h : s.2.1 < s0.2.1) : s.2.2 ≠ s0.2.2 := fun e => by
  unfold InvS at h1 h0
  rw [e] at h1
  omega

theorem cont_yes (e : s.2.2 = s0.2.2) : contZ m B c k n s0.2.2 s = (stepEv m B k s).1 := if_pos e
theorem cont_no (e : s.2.2 ≠ s0.2.2) : contZ m B c k n s0.2.2 s = (passEv m B c n s).1 ++ (stepEv m B k (passEv m B c n s).2).1 := if_neg e

theorem goods_len (gd : Int) (B : Ins) (c : Int) : ∀ (n g : Nat) (s : St), (goodsEv gd B c g n s).1.length ≤ n
  | 0, _, s => by simp [goodsEv]
  | n + 1, g, s => by
    rw [goodsEv]
    split
    · rename_i t ht
      have := goods_len gd B c n (g + 1) t
      simp only [List.length_cons]
      omega
    · have := goods_len gd B c n (g + 1) s
      omega
theorem pass_len (gd : Int) (B : Ins) (c : Int) (hg : gd.toNat ≤ 10) : ∀ (n : Nat) (s : St), (passEv gd B c n s).1.length ≤ n * 10
  | 0, s => by simp [passEv]
  | n + 1, s => by
    have h1 := goods_len gd B c gd.toNat 0 s
    rw [passEv]
    split
    · omega
    · have h2 := pass_len gd B c hg n (goodsEv gd B c 0 gd.toNat s).2
      simp only [List.length_append]
      omega
theorem step_len (gd : Int) (B : Ins) (hg : gd.toNat ≤ 10) : ∀ (n : Nat) (s : St), (stepEv gd B n s).1.length ≤ n * 160
  | 0, s => by simp [stepEv]
  | n + 1, s => by
    have h1 := pass_len gd B (2 ^ n : Nat) hg 16 s
    rw [stepEv]
    have h2 := step_len gd B hg n (passEv gd B (2 ^ n : Nat) 16 s).2
    simp only [List.length_append]
    omega
theorem evs_len (hm : m ≤ 10) : (evs m B).length ≤ 6560 := step_len m B (by rw [Int.toNat_natCast]; exact hm) 41 _
theorem WI.len (h : WI m B s p rest) (hm : m ≤ 10) : (told p).length ≤ 6560 := by
  have h1 := evs_len (B := B) hm
  rw [h.all, List.length_append] at h1
  unfold told
  rw [List.length_map]
  omega
end Go.Proofs.YtfiogkmgenodgaaDoor
