/- Lists from the last on, as a function over which one ranges. -/
import Derived.Test.YtfoadheepmgbfaaGreatDoorJ13
import Derived.Test.YtfoadheepmgbfaaGreatDoorJ14
import Derived.Deep.CutRange
namespace Go.Proofs.YtfoadheepmgbfaaGreatDoor
open Go.RowKit Go.Lib Go.Shelf
attribute [local go_sem] Oper.semAt_some

/-- The numbers below n, from the last on. -/
def dn (n : Nat) : List Nat := (List.range n).reverse
theorem dn_succ (n : Nat) : dn (n + 1) = n :: dn n := by simp [dn, List.range_succ]

def encB (vs : Nat → Value) (i : Nat) : Array Value := #[.int .i64 (i : Int), vs i]

set_option maxRecDepth 100000 in
set_option maxHeartbeats 4000000 in
theorem backward1_P (d : Nat) (hd : 1 ≤ d) (xb n cap : Nat) (ao : Option Addr) (A : Nat → Option Addr) (N C : Nat → Nat) (hn : n ≤ 1000) (T : Nat → Prop) (w : World)
    (hC : ∀ Y, KeptC T w Y → Y.cell? ⟨xb, 0, none⟩ = some (.slice ao n cap) ∧ ∀ i, i < n → ∃ g o, ao = some ⟨g, o, none⟩ ∧ Y.cell? ⟨g, o + i, none⟩ = some (.slice (A i) (N i) (C i))) :
    SeqQ Tryz.prog d 89 #[.pointer (some ⟨xb, 0, none⟩)] (encB (fun i => .slice (A i) (N i) (C i))) (KeptC T) (fun q => ∃ r, dn n = q ++ r) (fun q => q = dn n) (fun q => ∃ r, dn n = q ++ r) w := by
  intro lp J Jx W hbe _ _ hY h0
  have kt0 : KeptC T w W := KeptC.of_frm (Frm.mono (Old.of_below hbe) (fun _ _ h => h.elim))
  obtain ⟨c0, -⟩ := hC W kt0
  have khY := hid hY
  have kh0 := hid h0
  have khC := hid hC
  have kkt := hid kt0
  clear hY h0 hC kt0 hbe
  have hn' : (n : Int) ≤ 1000 := by omega
  refine callsIn_of_wp Tryz.func89 rfl trivial ?_ rfl
  simp only [Tryz.ntmps89, List.size_toArray, List.length_cons, List.length_nil, Nat.reduceAdd, Nat.reduceSub, Array.replicate_succ, Array.replicate_zero, List.push_toArray, List.append_toArray, List.nil_append, List.cons_append]
  gi_wp2_with fail
  clear c0
  gi_loopw [3] (fun v wr => ∃ (i : Nat) (p : List Nat), i ≤ n ∧ v = .int .i64 ((i : Int) - 1) ∧ Hid (J p wr ∧ dn n = p ++ dn i ∧ KeptC T w wr)) (fun v _ => (intOf v + 1).toNat)
  case atStart => exact ⟨n, [], Nat.le_refl _, rfl, hid ⟨kh0.out, rfl, kkt.out⟩⟩
  case round =>
    clear kh0 kkt
    obtain ⟨i, p, hi, rfl, hD⟩ := hrel
    match i, hi with
    | 0, hi =>
      gi_wp2_with fail
      go_end0
      exact ⟨⟨_, rfl⟩, .inl ⟨_, by rw [hD.out.2.1]; simp [dn], hD.out.1⟩⟩
    | i + 1, hi =>
      have e1 : ((i + 1 : Nat) : Int) - 1 = (i : Int) := by omega
      rw [e1]
      obtain ⟨c0, hr⟩ := khC.out wr hD.out.2.2
      obtain ⟨g, o, rfl, c1⟩ := hr i (by omega)
      have hin : (i : Int) < (n : Int) := by omega
      have hall : Hid (dn n = (p ++ [i]) ++ dn i) := by
        show _ = _
        rw [hD.out.2.1, dn_succ, List.append_assoc]
        rfl
      obtain ⟨fn, tmps, asn, bdy, hy, hR⟩ := khY.out p i _ hD.out.1 ⟨_, hall.out⟩
      dsimp only [encB] at hy
      clear hr
      gi_wp2_with fail
      refine (round_wide hR).mono ?_
      rintro e w7 ⟨-, (⟨rfl, hJ7, hp7⟩ | ⟨rfl, hJx7⟩)⟩
      · have hD7 : Hid (J (p ++ [i]) w7 ∧ dn n = (p ++ [i]) ++ dn i ∧ KeptC T w w7) := hid ⟨hJ7, hall.out, hD.out.2.2.trans hp7⟩
        clear hy hR hD hJ7 hp7 hall c0 c1
        gi_wp2_with fail
        go_roundw
        case rel => exact ⟨i, _, by omega, rfl, hD7⟩
        case measure => simp [intOf]
      · clear hy hR hD c0 c1
        gi_wp2_with fail
        refine bodyPost_ret (results_none rfl _ _ _) rfl ?_
        exact ⟨⟨_, rfl⟩, .inr ⟨_, ⟨_, hall.out⟩, hJx7⟩⟩

set_option maxRecDepth 100000 in
theorem backward_any (ao : Option Addr) (n cap : Nat) (w : World) : Calls Tryz.prog 68 #[.slice ao n cap] w fun e w' => e = .returned (.func (.func 89) #[] #[.pointer (some ⟨w.heap.size, 0, none⟩)]) ∧ w' = w.alloc (.cells #[.slice ao n cap] 22) := by
  go_enter Tryz.func68, Tryz.ntmps68
  go_wp2
  go_ret
  exact ⟨rfl, rfl⟩

theorem subsets_all (d : Nat) (hd : 1 ≤ d) (ab n : Nat) (hn : n ≤ 31) (T : Nat → Prop) (hT : ¬ T ab) (w : World) (hB : w.cell? ⟨ab, 0, none⟩ = some (.int .u32 ((2 ^ n - 1 : Nat) : Int))) :
    SeqQ Tryz.prog d 86 #[.pointer (some ⟨ab, 0, none⟩)] (fun x : Nat => #[Value.int .u32 (x : Int)]) (KeptC T) (fun q => ∃ k, k ≤ 2 ^ n ∧ q = List.range k) (fun q => q = List.range (2 ^ n)) (fun q => ∃ k, k ≤ 2 ^ n ∧ q = List.range k) w := by
  have hp : 2 ^ n ≤ 2147483648 := by
    rw [show (2147483648 : Nat) = 2 ^ 31 by decide]
    exact Nat.pow_le_pow_right (by decide) hn
  have hp1 : 1 ≤ 2 ^ n := Nat.one_le_two_pow
  have hk : ∀ k, (∀ i, i < k → (sq (2 ^ n - 1) i).2 = true) → k ≤ 2 ^ n := fun k h => by
    apply Nat.le_of_not_lt
    intro h1
    have := h (2 ^ n) h1
    rw [sq_end hn] at this
    cases this
  have hl : ∀ k, k ≤ 2 ^ n → subL (2 ^ n - 1) k = List.range k := fun k h => by
    unfold subL
    have : (List.range k).map (fun i => (sq (2 ^ n - 1) i).1) = (List.range k).map id := List.map_congr_left (fun i hi => by
      have : i < k := by simpa using hi
      rw [sq_all hn i (by omega)]
      rfl)
    rw [this, List.map_id]
  intro l J Jx W hW _ _ hY h0
  refine (subsets1_P d hd l ab (2 ^ n - 1) (by omega) T hT J Jx (fun p x X hj ⟨k, h1, h2⟩ => (hY p x X hj ⟨k, hk k h1, by rw [h2, hl k (hk k h1)]⟩).mono (fun _ _ hr => hr.2)) W ((Old.of_below hW).cell hB) h0).mono ?_
  rintro e Y ⟨h1, (⟨q, ⟨k, h2, h3, rfl⟩, h4⟩ | ⟨q, ⟨k, h2, rfl⟩, h4⟩)⟩
  · have hke : k = 2 ^ n := by
      have h5 := hk k h2
      apply Nat.le_antisymm h5
      apply Nat.le_of_not_lt
      intro h6
      rw [sq_all hn k h6] at h3
      cases h3
    subst hke
    exact ⟨h1, .inl ⟨_, hl _ (Nat.le_refl _), h4⟩⟩
  · exact ⟨h1, .inr ⟨_, ⟨k, hk k h2, hl k (hk k h2)⟩, h4⟩⟩
end Go.Proofs.YtfoadheepmgbfaaGreatDoor

/- The search, made: walked. -/
namespace Go.Proofs.YtfoadheepmgbfaaGreatDoor
open Go.RowKit Go.Lib Go.Shelf
attribute [local go_sem] Oper.semAt_some


theorem ins_drop {w : World} {bo : Option Addr} {B : Ins} (h : InsC w bo B) (k : Nat) : InsC w (Option.map (fun x => x.add k) bo) (B.drop k) := by
  intro i hi
  rw [List.length_drop] at hi
  obtain ⟨g, o, a0, c0, rfl, h2, h3, h4, h5⟩ := h (k + i) (by omega)
  have e : (B.drop k)[i]'(by rw [List.length_drop]; exact hi) = B[k + i]'(by omega) := by rw [List.getElem_drop]
  rw [e]
  exact ⟨g, o + k, a0, c0, by rw [Option.map_some, Addr.add_lit], by rw [show o + k + i = o + (k + i) by omega]; exact h2, h3, h4, h5⟩

/-- An instance with fewer buyers may be, too. -/
theorem ins_fewer {gd : Int} {B : Ins} (h : insZ gd B = 0) (k : Nat) : insZ gd (B.drop k) = 0 := by
  have hgd := ins_gd h
  have h1 : B.length ≤ 32 := Nat.le_of_not_lt (fun e => by rw [ins_long hgd (Or.inl e)] at h; cases h)
  have h2 : lgB B = false := by
    cases e : lgB B
    · rfl
    · rw [ins_long hgd (Or.inr e)] at h
      cases h
  have h3 : lgB (B.drop k) = false := by
    unfold lgB at *
    rw [List.any_eq_false] at *
    exact fun x hx => h2 x (List.mem_of_mem_drop hx)
  rw [ins_rest hgd h1 h2] at h
  rw [ins_rest hgd (by rw [List.length_drop]; omega) h3]
  split at h
  · rename_i h4
    rw [if_pos (fun l hl => h4 l (List.mem_of_mem_drop hl))]
  · cases h

theorem okB_of {gd : Int} {B : Ins} {m : Nat} {P : List Int} (h : insZ gd B = 0) (hm : gd = m) (hlt : ∀ l ∈ B, ∀ x ∈ l, x.1 < 4294967296) (hP : OkP P) : OkB B m P := by
  subst hm
  have hgd := ins_gd h
  have h1 := ok_of h hlt
  rw [Int.toNat_natCast] at h1
  have h2 : lgB B = false := by
    cases e : lgB B
    · rfl
    · rw [ins_long hgd (Or.inr e)] at h
      cases h
  exact ⟨by omega, by omega, h1.1, h1.2, lgB_false h2, hP⟩

/-- What newSearch leaves. -/
def SeaP (B : Ins) (m : Nat) (bo : Option Addr) (cap : Nat) (w : World) (e : Ending) (Y : World) : Prop := ∃ P sb mb cb cc, e = .returned (.pointer (some ⟨sb, 0, none⟩)) ∧ OkB B m P ∧ Sr B m P sb mb bo cap cb cc Y ∧ KM B Y mb ∧ Old w Y ∧ w.heap.size ≤ sb ∧ w.heap.size ≤ mb ∧ w.heap.size ≤ cb

end Go.Proofs.YtfoadheepmgbfaaGreatDoor

/- The search while it is made. -/
namespace Go.Proofs.YtfoadheepmgbfaaGreatDoor
open Go.RowKit Go.Lib Go.Shelf

/-- One more number behind a row that one owns, in a region that draws. -/
theorem step_appN {ops : Array Oper} {o : Oper} {a : Act} {K : Act → World → Prop} {Q : Exit → Act → World → Prop} {E : Prop} (W : World) (hgd : o.guard = none) (s x : Operand)
    (ho : o.op = .call { callee := .builtin .append, args := #[s, x], argTypes := #[25, 25] }) (B : Nat) (v : Value) (g c2 : Nat) (L1 : List Int) (y : Int) (hs : a.eval s = v) (hx : a.eval x = .slice (some ⟨g, 0, none⟩) 1 c2) (hown : W.ownsRow B 2 1 v L1.length (L1.map (Value.int .i64))) (hO : W.cell? ⟨g, 0, none⟩ = some (.int .i64 y))
    (hl : L1.length + 1 ≤ 1000000) (hB : B ≤ W.heap.size)
    (h : ∀ v' W', W'.ownsRow B 2 1 v' (L1 ++ [y]).length ((L1 ++ [y]).map (Value.int .i64)) → W.grownBy W' v.ownBlock → K (a.put o.dst v') W') :
    if Region.wanted o (yielded ops a.tmps) = true then Oper.wp Tryz.prog o a W K Q else E := by
  have hw : Region.wanted o (yielded ops a.tmps) = true := by simp [Region.wanted, hgd]
  rw [if_pos hw]
  obtain ⟨i0, hi0, hz0, hz1, hz2⟩ := parts_n
  exact wp_append_own W s x 25 ho B 2 i0 _ 1 8 Tryz.underlying25 hi0 hz0 hz1 hz2 rfl (by omega) v L1.length (L1.map (Value.int .i64)) hs hown ⟨g, 0, none⟩ 1 c2 [.int .i64 y] hx rfl (fun j u hu => by
    match j, hu with
    | 0, hu =>
      have hu' : Value.int .i64 y = u := by simpa using hu
      rw [Addr.add_lit, ← hu']
      exact hO
    | j + 1, hu => simp at hu) (fun u hu => by
    have : u = .int .i64 y := by simpa using hu
    rw [this]
    rfl) (by unfold maxLen; omega) (by omega) hB (fun v' w' h8 h9 _ => h v' w' (by simpa using h8) h9)

/-- The search's block. -/
def srL (bo : Option Addr) (n cap mb : Nat) (cv : Value) (G : List Int) : List Value := .slice bo n cap :: .map (some mb) :: cv :: G.map (Value.int .i64)

/-- So much of it is made: the costs of so many sets; the gains from i on. -/
structure NSr (w3 : World) (N : Nat) (B : Ins) (P : List Int) (al : Nat) (bo : Option Addr) (cap sb mb vb : Nat) (cv : Value) (c i : Nat) (Y : World) : Prop where
  old : Old w3 Y
  vp : Y.heap[vb]? = some (.cells #[.pointer (some ⟨sb, 0, none⟩)] 109 (0, 0))
  mp : Y.heap[mb]? = some (.map #[] 0)
  row : Y.ownsRow N 2 1 cv c (((List.range c).map (cz P)).map (Value.int .i64))
  blk : ∃ G : List Int, G.length = 33 ∧ Y.heap[sb]? = some (.cells (srL bo B.length cap mb cv G).toArray 129 (0, 0)) ∧ ∀ j, i ≤ j → j ≤ B.length → G[j]? = some (sg P al (B.drop j))
  lo : w3.heap.size = mb ∧ sb = mb + 1 ∧ vb = mb + 2 ∧ vb < N

variable {w3 : World} {N : Nat} {B : Ins} {P : List Int} {al : Nat} {bo : Option Addr} {cap sb mb vb : Nat} {cv cv' : Value} {c i : Nat} {Y Y' : World}

theorem own_blk1 {n : Nat} {xs : List Value} {e : TypeId} {v : Value} (h : Y.ownsRow N e 1 v n xs) {k : Nat} (hk : v.ownBlock = some k) : N ≤ k ∧ ∃ cur, Y.heap[k]? = some (.cells cur e (0, 0)) := by
  rcases h.2 with ⟨rfl, _⟩ | ⟨g, cap, cur, rfl, h3, h4, h5⟩
  · simp [Value.ownBlock] at hk
  · simp [Value.ownBlock] at hk
    subst hk
    exact ⟨h3, cur, h4⟩

theorem NSr.olds (h : NSr w3 N B P al bo cap sb mb vb cv c i Y) (o : Old Y Y') : NSr w3 N B P al bo cap sb mb vb cv c i Y' := by
  obtain ⟨G, h1, h2, h3⟩ := h.blk
  exact ⟨h.old.trans o, (o.block _ (blk_lt h.vp) (fun h => h)).trans h.vp, (o.block _ (blk_lt h.mp) (fun h => h)).trans h.mp, owns_kept h.row (fun k hk => o.block k (blk_lt (own_blk1 h.row hk).2.choose_spec) (fun h => h)), ⟨G, h1, (o.block _ (blk_lt h2) (fun h => h)).trans h2, h3⟩, h.lo⟩

theorem NSr.put {q : Nat} {ob ob' : Obj} (h : NSr w3 N B P al bo cap sb mb vb cv c i Y) (hq : Y.heap[q]? = some ob) (hc : ob.isCells = false) (hqm : mb < q) : NSr w3 N B P al bo cap sb mb vb cv c i (Y.putObj q ob') := by
  have hne : ∀ k cur t f, Y.heap[k]? = some (.cells cur t f) → k ≠ q := fun k cur t f hk e => by
    subst e
    rw [hq] at hk
    cases hk
    cases hc
  have hlo := h.lo
  obtain ⟨G, h1, h2, h3⟩ := h.blk
  have hf : ∀ k, k ≠ q → (Y.putObj q ob').heap[k]? = Y.heap[k]? := fun k hk => World.putObj_heap_other hk
  refine ⟨⟨h.old.os, h.old.tape, h.old.output, by simp [World.putObj]; exact h.old.size, fun k hk _ => by rw [hf k (by omega)]; exact h.old.block k hk (fun h => h)⟩, (hf _ (hne _ _ _ _ h.vp)).trans h.vp, (hf _ (by omega)).trans h.mp, owns_kept h.row (fun k hk => hf k (hne _ _ _ _ (own_blk1 h.row hk).2.choose_spec)), ⟨G, h1, (hf _ (hne _ _ _ _ h2)).trans h2, h3⟩, hlo⟩

/-- One set more. -/
theorem NSr.more (h : NSr w3 N B P al bo cap sb mb vb cv c i Y) (hg : Y.grownBy Y' cv.ownBlock) (hr : Y'.ownsRow N 2 1 cv' (c + 1) (((List.range (c + 1)).map (cz P)).map (Value.int .i64))) : NSr w3 N B P al bo cap sb mb vb cv' (c + 1) i (Y'.setCell ⟨sb, 2, none⟩ cv') := by
  obtain ⟨G, h1, h2, h3⟩ := h.blk
  obtain ⟨l1, l2, l3, l4⟩ := h.lo
  have hb : ∀ k, cv.ownBlock = some k → N ≤ k := fun k hk => (own_blk1 h.row hk).1
  have hb2 : ∀ k, cv'.ownBlock = some k → N ≤ k := fun k hk => (own_blk1 hr hk).1
  have hf : Frm (fun k => N ≤ k) Y Y' := Frm.grown (Frm.refl _ Y) hg (fun k hk => Or.inr (hb k hk))
  have hs := frm_set Y' sb 2 cv'
  refine ⟨Frm.trans (Frm.trans h.old hf (fun i hi e => by omega)) hs (fun i hi e => by omega), ?_, ?_, owns_kept hr (fun k hk => hs.block k (blk_lt (own_blk1 hr hk).2.choose_spec) (by have := hb2 k hk; omega)), ⟨G, h1, ?_, h3⟩, l1, l2, l3, l4⟩
  · rw [hs.block _ (Nat.lt_of_lt_of_le (blk_lt h.vp) hf.size) (by omega), hf.block _ (blk_lt h.vp) (by omega)]
    exact h.vp
  · rw [hs.block _ (Nat.lt_of_lt_of_le (blk_lt h.mp) hf.size) (by omega), hf.block _ (blk_lt h.mp) (by omega)]
    exact h.mp
  · have h4 : Y'.heap[sb]? = some (.cells (srL bo B.length cap mb cv G).toArray 129 (0, 0)) := by rw [hf.block _ (blk_lt h2) (by omega)]; exact h2
    rw [heap_set (i := 2) cv' h4]
    rfl

/-- One buyer's gains more. -/
theorem NSr.gain {x : Int} (h : NSr w3 N B P al bo cap sb mb vb cv c (i + 1) Y) (hi : i < B.length) (hx : x = sg P al (B.drop i)) (hl : B.length ≤ 32) : NSr w3 N B P al bo cap sb mb vb cv c i (Y.setCell ⟨sb, 3 + i, none⟩ (.int .i64 x)) := by
  obtain ⟨G, h1, h2, h3⟩ := h.blk
  obtain ⟨l1, l2, l3, l4⟩ := h.lo
  have hb : ∀ k, cv.ownBlock = some k → N ≤ k := fun k hk => (own_blk1 h.row hk).1
  have hs := frm_set Y sb (3 + i) (.int .i64 x)
  refine ⟨Frm.trans h.old hs (fun i hi e => by omega), ?_, ?_, owns_kept h.row (fun k hk => hs.block k (blk_lt (own_blk1 h.row hk).2.choose_spec) (by have := hb k hk; omega)), ⟨G.set i x, by simpa using h1, ?_, fun j hj hjl => ?_⟩, l1, l2, l3, l4⟩
  · rw [hs.block _ (blk_lt h.vp) (by omega)]
    exact h.vp
  · rw [hs.block _ (blk_lt h.mp) (by omega)]
    exact h.mp
  · rw [heap_set (i := 3 + i) _ h2]
    unfold srL
    rw [Nat.add_comm 3 i]
    simp [List.map_set]
  · by_cases e : j = i
    · subst e
      rw [List.getElem?_set_self (by omega), hx]
    · rw [List.getElem?_set_ne (by omega)]
      exact h3 j (by omega) hjl

theorem NSr.cells (h : NSr w3 N B P al bo cap sb mb vb cv c i Y) : Y.cell? ⟨vb, 0, none⟩ = some (.pointer (some ⟨sb, 0, none⟩)) ∧ Y.cell? ⟨sb, 2, none⟩ = some cv ∧ (∀ j, Y.frozen? ⟨sb, j, none⟩ = false) ∧ (∀ j, j ≤ 32 → ∃ u, Y.cell? ⟨sb, 3 + j, none⟩ = some u) ∧ ∀ j, i ≤ j → j ≤ B.length → Y.cell? ⟨sb, 3 + j, none⟩ = some (.int .i64 (sg P al (B.drop j))) := by
  obtain ⟨G, h1, h2, h3⟩ := h.blk
  refine ⟨blk_cell h.vp, blk_cells h2 rfl, fun j => blk_fz h2 j, fun j hj => ⟨.int .i64 (G[j]'(by omega)), blk_cells h2 ?_⟩, fun j hj hjl => blk_cells h2 ?_⟩
  · unfold srL
    rw [Nat.add_comm 3 j]
    simp [show j < G.length by omega]
  · unfold srL
    rw [Nat.add_comm 3 j]
    simp [h3 j hj hjl]

theorem own_form {n : Nat} {xs : List Value} {e : TypeId} {v : Value} (h : Y.ownsRow N e 1 v n xs) : ∃ a c, v = .slice a n c := by
  rcases h.2 with ⟨rfl, e⟩ | ⟨g, cap, cur, rfl, _⟩
  · exact ⟨none, 0, by rw [e]⟩
  · exact ⟨_, _, rfl⟩

theorem NSr.zero (w3 : World) (N : Nat) (hN : w3.heap.size + 2 < N) (hl : B.length ≤ 32) (hY : Old (((w3.alloc (.map #[] 0)).alloc (.cells (srL bo B.length cap w3.heap.size (.slice none 0 0) (List.replicate 33 0)).toArray 129)).alloc (.cells #[.pointer (some ⟨w3.heap.size + 1, 0, none⟩)] 109)) Y) :
    NSr w3 N B P al bo cap (w3.heap.size + 1) w3.heap.size (w3.heap.size + 1 + 1) (.slice none 0 0) 0 B.length Y := by
  have b1 := heap_new w3 (.map #[] 0)
  have z1 := alloc_size w3 (.map #[] 0)
  have o1 : Old w3 (w3.alloc (.map #[] 0)) := (Old.refl _).alloc _
  generalize w3.alloc (.map #[] 0) = w4 at *
  have b2 := heap_new w4 (.cells (srL bo B.length cap w3.heap.size (.slice none 0 0) (List.replicate 33 0)).toArray 129)
  have z2 := alloc_size w4 (.cells (srL bo B.length cap w3.heap.size (.slice none 0 0) (List.replicate 33 0)).toArray 129)
  have o2 : Old w4 (w4.alloc (.cells (srL bo B.length cap w3.heap.size (.slice none 0 0) (List.replicate 33 0)).toArray 129)) := (Old.refl _).alloc _
  generalize w4.alloc (.cells (srL bo B.length cap w3.heap.size (.slice none 0 0) (List.replicate 33 0)).toArray 129) = w5 at *
  have b3 := heap_new w5 (.cells #[.pointer (some ⟨w3.heap.size + 1, 0, none⟩)] 109)
  have o3 : Old w5 (w5.alloc (.cells #[.pointer (some ⟨w3.heap.size + 1, 0, none⟩)] 109)) := (Old.refl _).alloc _
  generalize w5.alloc (.cells #[.pointer (some ⟨w3.heap.size + 1, 0, none⟩)] 109) = w6 at *
  rw [z1] at b2 z2
  rw [z2] at b3
  have k : ∀ {A C : World} {q : Nat} {ob : Obj}, Old A C → A.heap[q]? = some ob → C.heap[q]? = some ob := fun o h => (o.block _ (blk_lt h) (fun h => h)).trans h
  refine ⟨((o1.trans o2).trans o3).trans hY, k hY b3, k hY (k o3 (k o2 b1)), ⟨rfl, Or.inl ⟨rfl, rfl⟩⟩, ⟨List.replicate 33 0, by simp, k hY (k o3 b2), fun j hj hjl => ?_⟩, rfl, rfl, rfl, hN⟩
  obtain rfl : j = B.length := by omega
  rw [List.getElem?_replicate, if_pos (by omega), List.drop_length]
  rfl

/-- The whole of it. -/
theorem NSr.sr {m : Nat} (h : NSr w3 N B P (2 ^ m - 1) bo cap sb mb vb cv (2 ^ m) 0 Y) (hi : InsC Y bo B) : ∃ cb cc, Sr B m P sb mb bo cap cb cc Y ∧ KM B Y mb ∧ N ≤ cb := by
  obtain ⟨G, h1, h2, h3⟩ := h.blk
  have hp : 0 < 2 ^ m := Nat.two_pow_pos m
  rcases h.row.2 with ⟨-, e⟩ | ⟨g, cc, cur, e1, g3, g4, g5, g6, g7, g8⟩
  · omega
  · subst e1
    refine ⟨g, cc, ⟨blk_cells h2 rfl, blk_cells h2 rfl, blk_cells h2 rfl, fun i hi => h.cells.2.2.2.2 i (Nat.zero_le _) hi, fun f hf => blk_cells g4 ?_, hi⟩, ?_, g3⟩
    · have g9 : (cur.toList.take (2 ^ m * 1))[f]? = (((List.range (2 ^ m)).map (cz P)).map (Value.int .i64))[f]? := by rw [g8]
      rw [List.getElem?_take_of_lt (by omega)] at g9
      simpa [hf] using g9
    · have hk := KM.made B { Y with heap := (Y.heap.extract 0 mb) }
      have hsz : ({ Y with heap := (Y.heap.extract 0 mb) } : World).heap.size = mb := by
        simp
        have := blk_lt h.mp
        omega
      rw [hsz] at hk
      refine hk.same ?_
      rw [h.mp]
      have := heap_new ({ Y with heap := (Y.heap.extract 0 mb) } : World) (.map #[] 0)
      rw [hsz] at this
      exact this.symm
end Go.Proofs.YtfoadheepmgbfaaGreatDoor
