/- Walk. -/
import Derived.Test.YtpnnfkgnkalhlaaK47
namespace Go.Proofs.Ytpnnfkgnkalhlaa
open Go.RowKit Go.Lib Go.Maps

/-- How a walk begins. -/
def walk0 (mk gt ts : Int) (n : Nat) : WSt := ⟨⟨List.replicate n 0, mk, none, 0, gt, 0, ts⟩, fun _ => none, fun _ => []⟩

theorem walk_init {mk gt ts : Int} {n : Nat} {O : List (List (Int × Int))} {w w2 : World} {τ : Nat → Nat} {B : Names} (hn : O.length = n) (h2 : n ≤ 64) (ht : 0 ≤ ts) (ht2 : ts ≤ 9223372036854775807) (o : Old w w2) (hb : BenchS w2 τ B none ⟨List.replicate n 0, mk, none, 0, gt, 0, ts⟩) (hτ : ∀ k, τ k ≠ 0 → w.heap.size ≤ k ∧ k < w2.heap.size) :
    ∃ τ', WalkX (fun _ => False) w ((w2.alloc (.cells (madeCells #[.slice none 0 0] n) 77)).alloc (.cells (madeCells #[.nilFunc, .nilFunc, .bool false] (n * 3)) 128)) τ' B none O (walk0 mk gt ts n) (w2.heap.size + 1) w2.heap.size 0 := by
  obtain ⟨nA, nB, zA⟩ := two_news w2 (.cells (madeCells #[.slice none 0 0] n) 77) (.cells (madeCells #[.nilFunc, .nilFunc, .bool false] (n * 3)) 128)
  have oA : Old w2 ((w2.alloc (.cells (madeCells #[.slice none 0 0] n) 77)).alloc (.cells (madeCells #[.nilFunc, .nilFunc, .bool false] (n * 3)) 128)) := ((Old.refl w2).alloc _).alloc _
  generalize (w2.alloc (.cells (madeCells #[.slice none 0 0] n) 77)).alloc (.cells (madeCells #[.nilFunc, .nilFunc, .bool false] (n * 3)) 128) = V at *
  have hr : ∀ k, k < w2.heap.size → (fun k => if k = w2.heap.size then 9 else if k = w2.heap.size + 1 then 8 else τ k) k = τ k := fun k hk => by simp only; rw [if_neg (by omega), if_neg (by omega)]
  refine ⟨fun k => if k = w2.heap.size then 9 else if k = w2.heap.size + 1 then 8 else τ k, o.trans oA, (hb.retag hr).old oA, ⟨by simp [walk0, h2], Int.le_refl _, Int.le_refl _, Int.le_refl _, ht, ht2⟩, by simp [walk0, hn], by simp, by simp, fun i => by simp [World.frozen?, nB], fun i => by simp [World.frozen?, nA], by omega, fun j hj _ => Or.inl ⟨rfl, ?_⟩, fun j hj => ⟨.slice none 0 0, ?_, World.ownsRow_nil _ _ _ _, fun k hk => by simp [Value.ownBlock] at hk⟩, fun k hk => ?_⟩
  · refine ⟨?_, ?_, ?_⟩
    · rw [cell_of_row V _ _ _ _ _ nB, made_at _ _ _ (by omega)]
      simp [show j * 3 % 3 = 0 by omega]
    · rw [cell_of_row V _ _ _ _ _ nB, made_at _ _ _ (by omega)]
      simp [show (j * 3 + 1) % 3 = 1 by omega]
    · rw [cell_of_row V _ _ _ _ _ nB, made_at _ _ _ (by omega)]
      simp [show (j * 3 + 2) % 3 = 2 by omega]
  · rw [cell_of_row V _ _ _ _ _ nA, made_at _ _ _ (by omega)]
    show some ((#[Value.slice none 0 0] : Array Value)[j % 1]!) = _
    rw [Nat.mod_one]
    rfl
  · have := o.size
    split at hk
    · omega
    · split at hk
      · omega
      · have := hτ k hk
        omega

theorem owns_mono {w : World} {B B' e k n : Nat} {v : Value} {xs : List Value} (h : w.ownsRow B e k v n xs) (hb : B' ≤ B) : w.ownsRow B' e k v n xs := by
  obtain ⟨h1, h2⟩ := h
  refine ⟨h1, ?_⟩
  rcases h2 with h2 | ⟨g, cap, cur, rfl, h3, r⟩
  · exact Or.inl h2
  · exact Or.inr ⟨g, cap, cur, rfl, Nat.le_trans hb h3, r⟩

theorem owns_slice {w : World} {B e k n : Nat} {v : Value} {xs : List Value} (h : w.ownsRow B e k v n xs) : ∃ ao cap, v = .slice ao n cap := by
  obtain ⟨h1, h2⟩ := h
  rcases h2 with ⟨rfl, rfl⟩ | ⟨g, cap, cur, rfl, _⟩
  · exact ⟨none, 0, rfl⟩
  · exact ⟨_, _, rfl⟩

theorem walkTo_le {O : List (List (Int × Int))} {P : List Int} {W : WSt} (h0 : ∀ j, W.out j = []) : ∀ k j : Nat, ((walkTo O P W k).out j).length ≤ k ∧ ((walkTo O P W k).out j).length ≤ (O[j]?.getD []).length
  | 0, j => by simp [walkTo, h0 j]
  | k + 1, j => by
    have ih := @walkTo_le O P W h0 k
    simp only [walkTo, walkStep]
    split
    · have := ih j; omega
    · next hne =>
      split
      · simp only [setAt]
        split
        · next e =>
          subst e
          have := ih (pickOf (P[k]?.getD 0) O.length)
          simp only [List.length_append, List.length_cons, List.length_nil]
          omega
        · have := ih j; omega
      · have := ih j; simp only; omega

theorem WalkX.bump {E : Nat → Prop} {w wr : World} {τ : Nat → Nat} {B : Names} {p : Option Addr} {O : List (List (Int × Int))} {W : WSt} {ub ab : Nat} {M M' : Int} (h : WalkX E w wr τ B p O W ub ab M) (hM : M ≤ M') : WalkX E w wr τ B p O W ub ab M' :=
  ⟨h.old, h.bench, ⟨h.bnd.len, h.bnd.ar0, by have := h.bnd.arM; omega, h.bnd.tk0, h.bnd.tkt, h.bnd.tsM⟩, h.len, h.tub, h.tab, h.ubz, h.abz, h.abl, h.turns, h.rows, h.new⟩

theorem eqn0 (w : World) : Sem.run Try.prog (binOp .eql 113 .nilFunc .nilFunc) w = .ok (.bool true) w := by kernel_rfl
theorem eqn1 (fn : Fn) (a b : Array Value) (w : World) : Sem.run Try.prog (binOp .eql 113 (.func fn a b) .nilFunc) w = .ok (.bool false) w := by kernel_rfl

theorem info52 : (Try.prog.info? 52).map (fun i => (i.zero, i.bytes, i.size)) = some (some (.agg #[.int .i64 0, .bool false, .int .i64 0]), 24, 3) := by kernel_rfl
theorem info52p : ∃ i, Try.prog.info? 52 = some i ∧ i.zero = some (.agg #[.int .i64 0, .bool false, .int .i64 0]) ∧ i.size = 3 ∧ i.bytes = 24 := by
  obtain ⟨i, hi, h2⟩ := Option.map_eq_some_iff.1 info52
  simp only [Prod.mk.injEq] at h2
  exact ⟨i, hi, h2.1, h2.2.2, h2.2.1⟩

theorem TurnC.back {G : Nat → Option Value} {w : World} {ub q : Nat} {l pv : Value} {y : Bool} (h : TurnC G w ub q l pv y) :
    Frm (fun k => k = ub) w (((w.setCell ⟨ub, q, none⟩ .nilFunc).setCell ⟨ub, q + 1, none⟩ .nilFunc).setCell ⟨ub, q + 2, none⟩ (.bool false)) ∧ (∀ i, (((w.setCell ⟨ub, q, none⟩ .nilFunc).setCell ⟨ub, q + 1, none⟩ .nilFunc).setCell ⟨ub, q + 2, none⟩ (.bool false)).frozen? ⟨ub, i, none⟩ = false) ∧ (∀ i, (i < q ∨ q + 3 ≤ i) → (((w.setCell ⟨ub, q, none⟩ .nilFunc).setCell ⟨ub, q + 1, none⟩ .nilFunc).setCell ⟨ub, q + 2, none⟩ (.bool false)).cell? ⟨ub, i, none⟩ = w.cell? ⟨ub, i, none⟩) ∧ C3 (((w.setCell ⟨ub, q, none⟩ .nilFunc).setCell ⟨ub, q + 1, none⟩ .nilFunc).setCell ⟨ub, q + 2, none⟩ (.bool false)) ub q .nilFunc .nilFunc false := by
  have o : ∀ (w : World) (a b : Nat) (u : Value), a ≠ b → (w.setCell ⟨ub, a, none⟩ u).cell? ⟨ub, b, none⟩ = w.cell? ⟨ub, b, none⟩ := fun w a b u hab => World.cell?_setCell_other _ ⟨ub, a, none⟩ ⟨ub, b, none⟩ _ (by simp <;> omega)
  refine ⟨Frm.setCell (S := fun q => q = ub) (frm_set2 w ub q (q + 1) _ _) ⟨ub, q + 2, none⟩ (Or.inr rfl) _, fun i => by simp [h.fz i], fun i hi => ?_, ?_, ?_, ?_⟩
  · rw [o _ _ _ _ (by omega), o _ _ _ _ (by omega), o _ _ _ _ (by omega)]
  · rw [o _ _ _ _ (by omega), o _ _ _ _ (by omega)]
    exact World.cell?_setCell_same _ _ _ h.c0
  · rw [o _ _ _ _ (by omega)]
    exact World.cell?_setCell_same _ _ _ ((o _ _ _ _ (by omega)).trans h.c1)
  · exact World.cell?_setCell_same _ _ _ (((o _ _ _ _ (by omega)).trans (o _ _ _ _ (by omega))).trans h.c2)

theorem walkStep_none {O : List (List (Int × Int))} {W : WSt} {i k n d : Nat} {pk kd x : Int} {SN : Option Sn} (hn : O.length = n) (hk : pickOf pk n = k) (hd : (W.out k).length = d) (hl : d ≠ (O[k]?.getD []).length) (hop : (O[k]?.getD [])[d]?.getD (0, 0) = (kd, x)) (hs : W.sn k = SN) (hR : (stepS W.s k kd x SN).2.2 = none) : walkStep O W i pk = ⟨(stepS W.s k kd x SN).1, setAt W.sn k (stepS W.s k kd x SN).2.1, W.out⟩ := by
  unfold walkStep
  simp only [hn, hk, hd, hl, if_false, hop, hs, hR]

theorem walkStep_some {O : List (List (Int × Int))} {W : WSt} {i k n d : Nat} {pk kd x : Int} {SN : Option Sn} {a : Int × Bool} (hn : O.length = n) (hk : pickOf pk n = k) (hd : (W.out k).length = d) (hl : d ≠ (O[k]?.getD []).length) (hop : (O[k]?.getD [])[d]?.getD (0, 0) = (kd, x)) (hs : W.sn k = SN) (hR : (stepS W.s k kd x SN).2.2 = some a) : walkStep O W i pk = ⟨(stepS W.s k kd x SN).1, setAt W.sn k none, setAt W.out k (W.out k ++ [(a.1, a.2, (i : Int))])⟩ := by
  unfold walkStep
  simp only [hn, hk, hd, hl, if_false, hop, hs, hR]

theorem stepS_none {s : St} {wk : Nat} {kd x : Int} {sn : Option Sn} (h : (stepS s wk kd x sn).2.2 = none) : ∃ sn', (stepS s wk kd x sn).2.1 = some sn' := by
  unfold stepS at h ⊢
  split
  · next hk =>
    rw [if_pos hk] at h
    split
    · next e => rw [if_pos e] at h; cases h
    · next e =>
      rw [if_neg e] at h
      split
      · next e2 => rw [e2] at h; cases h
      · exact ⟨_, rfl⟩
  · next hk => rw [if_neg hk] at h; cases h

theorem Beg.pvf {w : World} {τ : Nat → Nat} {B : Names} {t wk : Nat} {kd x : Int} {l p : Value} (h : Beg w τ B t wk kd x l p) : p = .nilFunc ∨ ∃ f b, p = .func f #[] b := by
  rcases h with ⟨_, bf, b1, b2, b3, _, h, _⟩ | ⟨_, bm, bs, bx, _, h, _⟩ | ⟨_, bm, bs, bx, bo, ob, _, h, _⟩ | ⟨_, bf, bm, _, h, _⟩ | ⟨_, bm, bs, _, h, _⟩ | ⟨_, bf, _, h, _⟩
  · exact Or.inl h
  · exact Or.inr ⟨_, _, h⟩
  · exact Or.inr ⟨_, _, h⟩
  · exact Or.inl h
  · exact Or.inr ⟨_, _, h⟩
  · exact Or.inl h

/-- In round i. -/
def WalkR (w wr : World) (B : Names) (O : List (List (Int × Int))) (W : WSt) (ub ab : Nat) (M : Int) : Prop := ∃ τ p, WalkX (fun _ => False) w wr τ B p O W ub ab M

set_option maxRecDepth 100000 in
set_option maxHeartbeats 16000000 in
theorem walk_good (mk gt ts : Int) (oa pa : Option Addr) (n co m cp : Nat) (O : List (List (Int × Int))) (P : List Int) (w : World) (hO : OpsC w oa O) (hn : O.length = n) (hP : NumsC .i64 w pa P) (hm : P.length = m) (h1 : 1 ≤ n) (h2 : n ≤ 64) (hg : 1 ≤ gt) (ht : 0 ≤ ts) (ht2 : ts ≤ 9223372036854775807) (hmm : m ≤ 1000000000000) (hol : ∀ j : Nat, (O[j]?.getD []).length ≤ 1000000000000) :
    Calls Try.prog 21 #[.agg #[.int .i64 mk, .int .i64 gt, .int .i64 ts], .slice oa n co, .slice pa m cp] w fun e w' => ∃ ab, e = .returned (.tuple #[.slice (some ⟨ab, 0, none⟩) n n, endV (walkTo O P (walk0 mk gt ts n) m).s, .int .i64 0]) ∧ Old w w' ∧ w.heap.size ≤ ab ∧ ∀ j, j < n → ∃ v, w'.cell? ⟨ab, j, none⟩ = some v ∧ w'.ownsRow w.heap.size 52 3 v ((walkTo O P (walk0 mk gt ts n) m).out j).length (flatA ((walkTo O P (walk0 mk gt ts n) m).out j)) := by
  have oA : Old w ((w.alloc (.cells #[.int .i64 mk, .int .i64 gt, .int .i64 ts] 23)).alloc (.cells #[.int .i64 0, .int .i64 0, .int .i64 0, .int .i64 0, .bool false, .int .i64 0, .bool false, .int .i64 0] 63)) := ((Old.refl w).alloc _).alloc _
  obtain ⟨nA, nB, zA⟩ := two_news w (.cells #[.int .i64 mk, .int .i64 gt, .int .i64 ts] 23) (.cells #[.int .i64 0, .int .i64 0, .int .i64 0, .int .i64 0, .bool false, .int .i64 0, .bool false, .int .i64 0] 63)
  obtain ⟨w1, x1⟩ : ∃ w1, (w.alloc (.cells #[.int .i64 mk, .int .i64 gt, .int .i64 ts] 23)).alloc (.cells #[.int .i64 0, .int .i64 0, .int .i64 0, .int .i64 0, .bool false, .int .i64 0, .bool false, .int .i64 0] 63) = w1 := ⟨_, rfl⟩
  rw [x1] at oA nA nB zA
  have kx := hid x1
  have ko := hid oA
  have knA := hid nA
  have knB := hid nB
  have kzA := hid zA
  have kO := hid (hO.old oA)
  have kP := hid (hP.old oA)
  have kb := hid (bench_new mk gt ts n w1 h1 h2 hg ht)
  have kn := hid hn
  have km := hid hm
  have kol := hid hol
  clear x1 oA nA nB zA hO hP hn hm hol
  go_enter Try.func21, Try.ntmps21
  go_wp2_with fail
  rw [kx.out]
  clear kx
  refine kb.out.mono ?_
  rintro e w2 ⟨B, τ, rfl, o2, hB, hτ⟩
  obtain ⟨s0, hs0⟩ : ∃ s0, w.heap.size = s0 := ⟨_, rfl⟩
  have ks := hid hs0
  rw [hs0] at knA knB kzA ⊢
  have kI := hid (walk_init kn.out h2 ht ht2 o2 hB hτ)
  have kl2 := hid o2.size
  clear kb o2 hB hτ hs0 τ
  go_wp2_with fail
  rw [make70 n (by omega) w2]
  go_wp2_with fail
  rw [make124 n (by omega)]
  simp only [World.size_alloc]
  go_wp2_with fail
  obtain ⟨V, hV⟩ : ∃ V, (w2.alloc (.cells (madeCells #[.slice none 0 0] n) 77)).alloc (.cells (madeCells #[.nilFunc, .nilFunc, .bool false] (n * 3)) 128) = V := ⟨_, rfl⟩
  obtain ⟨ab, hab⟩ : ∃ ab, w2.heap.size = ab := ⟨_, rfl⟩
  rw [hV, hab] at kI
  rw [hV, hab]
  have kab : Hid (w1.heap.size ≤ ab) := by rw [← hab]; exact kl2.out
  clear hV hab kl2
  obtain ⟨ub, hub⟩ : ∃ ub, ab + 1 = ub := ⟨_, rfl⟩
  rw [hub] at kI ⊢
  clear hub
  go_loopw [39] (fun s wr => ∃ i : Nat, i ≤ m ∧ s = .int .i64 (i : Int) ∧ WalkR w1 wr B O (walkTo O P (walk0 mk gt ts n) i) ub ab i) (fun s _ => m - (intOf s).toNat)
  case atStart => exact ⟨0, Nat.zero_le _, rfl, by obtain ⟨τ', h⟩ := kI.out; exact ⟨τ', none, h⟩⟩
  case round =>
  clear kI
  obtain ⟨i, hi, rfl, hR⟩ := hrel
  have kR := hid hR
  clear hR
  by_cases him : i < m
  · obtain ⟨τ, p, hX⟩ := kR.out
    clear kR
    obtain ⟨W, hW⟩ : ∃ W, walkTo O P (walk0 mk gt ts n) i = W := ⟨_, rfl⟩
    have kS := hid (show walkTo O P (walk0 mk gt ts n) (i + 1) = walkStep O W i (P[i]?.getD 0) by rw [← hW]; rfl)
    have hle : Hid (∀ j : Nat, (W.out j).length ≤ i ∧ (W.out j).length ≤ (O[j]?.getD []).length) := by rw [← hW]; exact walkTo_le (fun _ => rfl) i
    rw [hW] at hX
    clear hW
    obtain ⟨pg, po, rfl, pc⟩ := kP.out i (by rw [km.out]; exact him)
    obtain ⟨pk, hpk⟩ : ∃ pk, P[i]'(by rw [km.out]; exact him) = pk := ⟨_, rfl⟩
    rw [show P[i]?.getD 0 = pk by rw [← hpk, List.getElem?_eq_getElem (by rw [km.out]; exact him)]; rfl] at kS
    rw [hpk] at pc
    replace pc := hX.old.cell pc
    clear hpk
    have kmod := hid (modulo_any pk n h1 h2 wr)
    obtain ⟨k, hk⟩ : ∃ k, pickOf pk n = k := ⟨_, rfl⟩
    rw [hk] at kmod
    have hkn : k < n := by
      rw [← hk]
      unfold pickOf
      have := Int.emod_lt_of_pos pk (show (0 : Int) < n by omega)
      have := Int.emod_nonneg pk (show (n : Int) ≠ 0 by omega)
      omega
    have kk := hid hk
    obtain ⟨v, ac, vo, vt⟩ := hX.rows k (by rw [kn.out]; exact hkn)
    obtain ⟨d, hd⟩ : ∃ d, (W.out k).length = d := ⟨_, rfl⟩
    rw [hd] at vo
    obtain ⟨ao, cap, rfl⟩ := owns_slice vo
    obtain ⟨og, oo, ro, c, rfl, oc, ops⟩ := kO.out k (by rw [kn.out]; exact hkn)
    obtain ⟨ln, hln⟩ : ∃ ln, (O[k]?.getD []).length = ln := ⟨_, rfl⟩
    rw [hln] at oc ops
    replace oc := hX.old.cell oc
    have kvo := hid vo
    have kvt := hid vt
    have kops := hid ops
    have kd' := hid hd
    have kln := hid hln
    have kX := hid hX
    have hdl : d ≤ 1000000000000 := by rw [← hd]; exact Nat.le_trans (hle.out k).1 (by omega)
    have hdn : d ≤ ln := by rw [← hd, ← hln]; exact (hle.out k).2
    have hll : ln ≤ 1000000000000 := by rw [← hln]; exact kol.out k
    clear hX hk vo vt ops hd hln
    have hdi : decide (i < m) = true := by simp; exact him
    by_cases hfull : d = ln
    · have hb1 : ((d : Int) == (ln : Int)) = true := by simp; omega
      go_wp2_with fail
      refine kmod.out.mono ?_
      rintro e we ⟨rfl, ew⟩
      rw [ew]
      clear ew
      go_wp2_with fail
      refine ⟨⟨i + 1, by omega, by go_num, ?_⟩, by simp [intOf]; omega⟩
      rw [kS.out]
      refine ⟨τ, p, ?_⟩
      unfold walkStep
      simp only
      rw [kn.out, kk.out, kd'.out, kln.out, if_pos hfull]
      exact kX.out.bump (by omega)
    have hb1 : ((d : Int) == (ln : Int)) = false := by simp; omega
    have hdl2 : d < ln := by omega
    obtain ⟨rg, rq, hro, q1, q2, q3⟩ := kops.out d hdl2
    obtain ⟨op, hop⟩ : ∃ op, (O[k]?.getD [])[d]?.getD (0, 0) = op := ⟨_, rfl⟩
    rw [hop] at q1 q2 q3
    have kop := hid hop
    obtain ⟨kd, x⟩ := op
    simp only at q1 q2 q3
    replace q1 := kX.out.old.cell q1
    replace q2 := kX.out.old.cell q2
    subst hro
    have kq3 := hid q3
    clear hop q3
    rcases kX.out.turns k (by rw [kn.out]; exact hkn) (fun h => h) with ⟨t1, t2⟩ | ⟨sn, l, pv, t1, ⟨fu, fb, rfl⟩, t3, t4⟩
    · have y0 := t2.1
      have kt1 := hid t1
      have kbeg := hid (beg_any τ B p W.s (10 + 2 * k) k kd x kq3.out wr kX.out.bench)
      clear t1 t2
      go_wp2_with fail
      refine kmod.out.mono ?_
      rintro e we ⟨rfl, ew⟩
      rw [ew]
      clear ew
      go_wp2_with fail
      rw [eqn0]
      go_wp2_with fail
      refine kbeg.out.mono ?_
      rintro e w4 ⟨l, pv, τ', rfl, o4, r4, b4, ⟨fu, fb, rfl⟩⟩
      obtain ⟨W2, x2, hX2, hB2, hT2⟩ := kX.out.begin (by rw [kn.out]; exact hkn) kt1.out o4 r4 b4
      have tc := kX.out.olds o4
      have z0 := tc.ubz (k * 3)
      have z1 := tc.ubz (k * 3 + 1)
      obtain ⟨y0, y1⟩ : w4.cell? ⟨ub, k * 3, none⟩ = some .nilFunc ∧ w4.cell? ⟨ub, k * 3 + 1, none⟩ = some .nilFunc := by
        rcases tc.turns k (by rw [kn.out]; exact hkn) (fun h => h) with ⟨_, h2⟩ | ⟨sn, _, _, h2, _⟩
        · exact ⟨h2.1, h2.2.1⟩
        · rw [kt1.out] at h2; cases h2
      have y2 : (w4.setCell ⟨ub, k * 3, none⟩ (.func fu #[] fb)).cell? ⟨ub, k * 3 + 1, none⟩ = some .nilFunc := (World.cell?_setCell_other _ ⟨ub, k * 3, none⟩ ⟨ub, k * 3 + 1, none⟩ _ (by simp)).trans y1
      have z2 : (w4.setCell ⟨ub, k * 3, none⟩ (.func fu #[] fb)).frozen? ⟨ub, k * 3 + 1, none⟩ = false := by simp [z1]
      have kx2 := hid x2
      have kX2 := hid hX2
      have kT2 := hid hT2
      have kst := hid (step_beg ub (k * 3) τ' B p W.s (10 + 2 * k) k (by omega) kd x (.func fu #[] fb) pv W2 i (by omega) hX2.bnd (by rw [hX2.len, kn.out]; exact hkn) hX2.bench hB2 hX2.tub hT2)
      have pvf := b4.pvf
      clear x2 hX2 hB2 hT2 tc kbeg o4 r4 b4 kX
      rcases pvf with rfl | ⟨gu, gb, rfl⟩
      · go_wp2_with fail
        rw [kx2.out]
        clear y0 y1 y2 z0 z1 z2 kx2 pc ac oc q1 q2
        have kh5 : Hid (∀ n : Sn, (none : Option Sn) = some n → kd = 5 → n.1 < W.s.ts) := fun _ h => by cases h
        go_wp2_with fail
        refine kst.out.mono ?_
        rintro e w5 ⟨v, y, dd, τ2, p2, rfl, hd, ha, f5, r5, hB5, hT5, hU5, hp5⟩
        have hX5 := kX2.out.step f5 r5 hB5 (stepS_bnd kX2.out.bnd kh5.out) stepS_len.1 stepS_len.2.1 hp5 hT5.fz (fun q hq => hT5.rest q hq)
        have kX5 := hid hX5
        have kT5 := hid hT5
        have kU5 := hid hU5
        have ka := hid ha
        clear hX5 hT5 hU5 ha f5 r5 hB5 hp5 kst kX2 kT2
        unfold ans
        cases hR : (stepS W.s k kd x none).2.2 with
        | none =>
          rw [hR] at hd
          simp only [Option.isSome_none] at hd
          subst hd
          have kR := hid hR
          clear hR
          go_wp2_with fail
          refine ⟨⟨i + 1, by omega, by go_num, ?_⟩, by simp [intOf]; omega⟩
          rw [kS.out, walkStep_none kn.out kk.out kd'.out (by rw [kln.out]; exact hfull) kop.out kt1.out kR.out]
          obtain ⟨sn', hsn⟩ := stepS_none kR.out
          rw [hsn]
          have t5 := kT5.out.frm ((Old.refl w5).alloc (.cells #[.int .i64 v, .bool y, .int .i64 0] 52)) (fun h => h)
          have hX6 := kX5.out.olds ((Old.refl w5).alloc (.cells #[.int .i64 v, .bool y, .int .i64 0] 52))
          refine ⟨τ2, p2, hX6.looked ⟨_, _, rfl⟩ ⟨t5.c0, t5.c1, t5.c2⟩ ?_⟩
          have e : opAt O ⟨(stepS W.s k kd x none).1, W.sn, W.out⟩ k = (kd, x) := by simp only [opAt, kd'.out]; exact kop.out
          rw [e]
          exact Und.keep (kU5.out sn' hsn) ((Old.refl w5).alloc _) (fun k hk _ => hk.elim) (fun _ _ => rfl) rfl (Or.inl ⟨rfl, rfl⟩) hX6.bench.bv
        | some a =>
          rw [hR] at hd
          simp only [Option.isSome_some] at hd
          subst hd
          have kR := hid hR
          clear hR
          go_wp2_with fail
          have n5 := heap_new w5 (.cells #[.int .i64 v, .bool y, .int .i64 (i : Int)] 52)
          have o5 := hid ((Old.refl w5).alloc (.cells #[.int .i64 v, .bool y, .int .i64 (i : Int)] 52))
          obtain ⟨Z, hZ⟩ : ∃ Z, w5.alloc (.cells #[.int .i64 v, .bool y, .int .i64 (i : Int)] 52) = Z := ⟨_, rfl⟩
          rw [hZ] at n5 o5 ⊢
          obtain ⟨b5, hb5⟩ : ∃ b5, w5.heap.size = b5 := ⟨_, rfl⟩
          rw [hb5] at n5 ⊢
          have kb5 := hid hb5
          clear hZ hb5
          obtain ⟨u, uc, uo, ut⟩ := kX5.out.rows k (by rw [kn.out]; exact hkn)
          simp only at uo
          rw [kd'.out] at uo
          obtain ⟨ao5, cap5, rfl⟩ := owns_slice uo
          have kut := hid ut
          obtain ⟨j0, hj0, hy0, hy1, hy2⟩ := info52p
          refine wp_region_noPanic ?_
          refine wp_region_held_drew (S := fun X => X.heap[b5]? = some (.cells #[.int .i64 v, .bool y, .int .i64 (i : Int)] 52 (0, 0))) (by kernel_rfl) n5 (fun hHeld => ?_)
          obtain ⟨W0, hW0⟩ : ∃ W0, Z.drew = W0 := ⟨_, rfl⟩
          have oW0 : Hid (Old w5 W0) := by rw [← hW0]; exact o5.out.drewN 1
          rw [hW0] at hHeld ⊢
          have cv := oW0.out.cell uc
          have oWA := hid (oW0.out.alloc (.cells #[.int .i64 v, .bool y, .int .i64 (i : Int)] 52))
          have cva := oWA.out.cell uc
          have hrow := owns_frm uo oWA.out (fun _ _ h => h)
          have nWA : Hid ((W0.alloc (.cells #[.int .i64 v, .bool y, .int .i64 (i : Int)] 52)).heap[b5]? = some (.cells #[.int .i64 v, .bool y, .int .i64 (i : Int)] 52 (0, 0))) := by
            rw [Below.heap_alloc _ _ _ (Array.getElem?_eq_some_iff.1 hHeld).1]; exact hHeld
          have hbs : w1.heap.size ≤ (W0.alloc (.cells #[.int .i64 v, .bool y, .int .i64 (i : Int)] 52)).heap.size := Nat.le_trans kX5.out.old.size oWA.out.size
          have hlW : b5 ≤ W0.heap.size := by have := oW0.out.size; have := kb5.out; omega
          clear hW0 uc uo ut n5 o5
          refine' wpAnyH_take (i := 0) rfl (by kernel_rfl) (by kernel_rfl) (by kernel_rfl) (fun _ _ _ h => h) (Or.inl ⟨by rfl, ?_⟩) hHeld ?_
          rotate_left
          · intro W hSw
            have hSv : W.heap[b5]? = some (.cells #[.int .i64 v, .bool y, .int .i64 (i : Int)] 52 (0, 0)) := hSw
            clear hSw
            skip
            simp only [List.getElem_toArray, List.getElem_cons_zero]
            go_simp
            all_goals with_reducible rfl
          simp only [List.getElem_toArray, List.getElem_cons_zero, Act.put, List.setIfInBounds_toArray, List.set_cons_zero, List.set_cons_succ]
          refine' wpAnyH_take (i := 1) rfl (by kernel_rfl) (by kernel_rfl) (by kernel_rfl) (fun _ _ _ h => h) (Or.inl ⟨by rfl, ?_⟩) hHeld ?_
          rotate_left
          · intro W hSw
            have hSv : W.heap[b5]? = some (.cells #[.int .i64 v, .bool y, .int .i64 (i : Int)] 52 (0, 0)) := hSw
            clear hSw
            skip
            simp only [List.getElem_toArray, List.getElem_cons_zero, List.getElem_cons_succ]
            go_simp
            all_goals with_reducible rfl
          simp only [List.getElem_toArray, List.getElem_cons_zero, List.getElem_cons_succ, Act.put, List.setIfInBounds_toArray, List.set_cons_zero, List.set_cons_succ]
          refine' wpAnyH_take (i := 2) rfl (by kernel_rfl) (by kernel_rfl) (by kernel_rfl) (fun _ _ _ h => h) (Or.inl ⟨by rfl, ?_⟩) hHeld ?_
          rotate_left
          · intro W hSw
            have hSv : W.heap[b5]? = some (.cells #[.int .i64 v, .bool y, .int .i64 (i : Int)] 52 (0, 0)) := hSw
            clear hSw
            skip
            simp only [List.getElem_toArray, List.getElem_cons_zero, List.getElem_cons_succ]
            go_simp
            all_goals with_reducible rfl
          simp only [List.getElem_toArray, List.getElem_cons_zero, List.getElem_cons_succ, Act.put, List.setIfInBounds_toArray, List.set_cons_zero, List.set_cons_succ]
          refine' wpAnyH_take (i := 3) rfl (by kernel_rfl) (by kernel_rfl) (by kernel_rfl) (fun _ _ _ h => h) (Or.inl ⟨by rfl, ?_⟩) hHeld ?_
          rotate_left
          · intro W hSw
            have hSv : W.heap[b5]? = some (.cells #[.int .i64 v, .bool y, .int .i64 (i : Int)] 52 (0, 0)) := hSw
            clear hSw
            skip
            simp only [List.getElem_toArray, List.getElem_cons_zero, List.getElem_cons_succ]
            go_simp
            all_goals with_reducible rfl
          simp only [List.getElem_toArray, List.getElem_cons_zero, List.getElem_cons_succ, Act.put, List.setIfInBounds_toArray, List.set_cons_zero, List.set_cons_succ]
          refine' wpAnyH_take (i := 4) rfl (by kernel_rfl) (by kernel_rfl) (by kernel_rfl) (fun _ _ _ h => h) (Or.inl ⟨by rfl, ?_⟩) hHeld ?_
          rotate_left
          · intro W hSw
            have hSv : W.heap[b5]? = some (.cells #[.int .i64 v, .bool y, .int .i64 (i : Int)] 52 (0, 0)) := hSw
            clear hSw
            skip
            simp only [List.getElem_toArray, List.getElem_cons_zero, List.getElem_cons_succ]
            go_simp
            all_goals with_reducible rfl
          simp only [List.getElem_toArray, List.getElem_cons_zero, List.getElem_cons_succ, Act.put, List.setIfInBounds_toArray, List.set_cons_zero, List.set_cons_succ]
          refine' wpAnyH_take (i := 6) rfl (by kernel_rfl) (by kernel_rfl) (by kernel_rfl) (fun _ _ _ h => h) (Or.inl ⟨by rfl, ?_⟩) hHeld ?_
          rotate_left
          · intro W hSw
            have hSv : W.heap[b5]? = some (.cells #[.int .i64 v, .bool y, .int .i64 (i : Int)] 52 (0, 0)) := hSw
            clear hSw
            obtain ⟨c0, c1, c2, _⟩ := three_cells hSv
            simp only [List.getElem_toArray, List.getElem_cons_zero, List.getElem_cons_succ]
            go_simp
            all_goals with_reducible rfl
          simp only [List.getElem_toArray, List.getElem_cons_zero, List.getElem_cons_succ, Act.put, List.setIfInBounds_toArray, List.set_cons_zero, List.set_cons_succ]
          refine wpAnyH_ready (rs := [5, 7]) (by kernel_rfl) (by simp) ?_
          refine AllReadyH.cons (o := _) rfl (fun K hK => ?_) (AllReadyH.cons (o := _) rfl (fun K hK => ?_) AllReadyH.nil)
          · simp only [List.getElem_toArray, List.getElem_cons_zero, List.getElem_cons_succ]
            go_simp
            refine hK.out _ _ hHeld (fun hHeld => ?_)
            clear hK K
            try simp only [Act.put, List.setIfInBounds_toArray, List.set_cons_zero, List.set_cons_succ]
            refine wpAnyH_ready (rs := [7]) (by kernel_rfl) (by simp) ?_
            refine AllReadyH.cons (o := _) rfl (fun K hK => ?_) AllReadyH.nil
            simp only [List.getElem_toArray, List.getElem_cons_zero, List.getElem_cons_succ]
            go_simp
            refine hK.out _ _ nWA.out (fun hHeld => ?_)
            clear hK K
            try simp only [Act.put, List.setIfInBounds_toArray, List.set_cons_zero, List.set_cons_succ]
            refine wpAnyH_ready (rs := [8]) (by kernel_rfl) (by simp) ?_
            refine AllReadyH.cons (o := _) rfl (fun K hK => ?_) AllReadyH.nil
            refine step_append_lies _ (by rfl) _ _ _ (by rfl) w1.heap.size 52 j0 _ 3 24 Try.underlying77 hj0 hy0 hy1 hy2 rfl (by omega) (.slice ao5 d cap5) d (flatA (W.out k)) (by rfl) hrow ⟨W0.heap.size, 0, none⟩ 1 1 [.int .i64 v, .bool y, .int .i64 (i : Int)] (by rfl) (by rfl) (World.news_of_block (cs := #[.int .i64 v, .bool y, .int .i64 (i : Int)]) (t := 52) (fr := (0, 0)) (heap_new W0 _)) (by simp [Value.oneCell']) (by omega) (by unfold maxLen; omega) (by omega) hbs (W0.heap.size + 1) (by simp) ?_
            intro g1 cg1 W1 hown1 hgrow1 hat1 hlt1
            have hne5 : ∀ q, (Value.slice ao5 d cap5).ownBlock = some q → q < b5 := fun q hq => by
              have h8 := kut.out q hq
              have := (kX5.out.new q (by omega)).2
              have := kb5.out
              omega
            have b5l := (Array.getElem?_eq_some_iff.1 nWA.out).1
            have z4 : W1.heap[b5]? = _ := (hgrow1.block b5 b5l (fun e => by have := hne5 b5 e.symm; omega)).trans nWA.out
            refine hK.out _ _ z4 (fun hHeld => ?_)
            clear hK K
            try simp only [Act.put, List.setIfInBounds_toArray]
            refine' wpAnyH_take (i := 9) rfl (by kernel_rfl) (by kernel_rfl) (by kernel_rfl) (fun _ _ _ h => h) (Or.inl ⟨by rfl, ?_⟩) hHeld ?_
            rotate_left
            · intro W hSw
              have hSv : W.heap[b5]? = some (.cells #[.int .i64 v, .bool y, .int .i64 (i : Int)] 52 (0, 0)) := hSw
              clear hSw
              skip
              simp only [List.getElem_toArray, List.getElem_cons_zero, List.getElem_cons_succ]
              go_simp
              all_goals with_reducible rfl
            simp only [List.getElem_toArray, List.getElem_cons_zero, List.getElem_cons_succ, Act.put, List.setIfInBounds_toArray, List.set_cons_zero, List.set_cons_succ]
            refine wpAnyH_ready (rs := [10]) (by kernel_rfl) (by simp) ?_
            refine AllReadyH.cons (o := _) rfl (fun K hK => ?_) AllReadyH.nil
            have fW : Frm (fun q => τ2 q = 11 + 2 * k) w5 W1 := Frm.grown (Frm.mono oWA.out (fun _ _ h => h.elim)) hgrow1 (fun q hq => Or.inr (kut.out q hq))
            have nab : ¬ τ2 ab = 11 + 2 * k := by have := kX5.out.tab; omega
            have y4 : W1.cell? ⟨ab, k, none⟩ = some (.slice ao5 d cap5) := (World.cell?_of_block (hgrow1.block ab (Nat.lt_of_lt_of_le kX5.out.abl oWA.out.size) (fun e => nab (kut.out ab e.symm)))).trans cva
            have f4 : W1.frozen? ⟨ab, k, none⟩ = false := (frm_frozen fW kX5.out.abl nab k).trans (kX5.out.abz k)
            simp only [List.getElem_toArray, List.getElem_cons_zero, List.getElem_cons_succ]
            go_simp
            have hPX := (kX5.out.olds oWA.out).app (a := (v, y, (i : Int))) (g := g1) (cap := cg1) (by rw [kn.out]; exact hkn) cva kut.out hgrow1 (by simp only [kd'.out]; exact hown1) (hat1.elim Or.inl (fun e => Or.inr (by rw [e]; simp))) hlt1
            obtain ⟨τX, hPX⟩ := hPX
            simp only [kd'.out] at hPX
            have abl5 : ab < b5 := by have := kX5.out.abl; have := kb5.out; omega
            have sY : (W1.setCell ⟨ab, k, none⟩ (.slice (some ⟨g1, 0, none⟩) (d + 1) cg1)).heap[b5]? = _ := (Below.heap_setCell W1 ⟨ab, k, none⟩ _ b5 (by simp only; omega)).trans z4
            have fY : Frm (fun q => τ2 q = 9 ∨ τ2 q = 11 + 2 * k) w5 (W1.setCell ⟨ab, k, none⟩ (.slice (some ⟨g1, 0, none⟩) (d + 1) cg1)) := Frm.setCell (S := fun q => τ2 q = 9 ∨ τ2 q = 11 + 2 * k) (Frm.mono fW (fun _ _ h => Or.inr h)) ⟨ab, k, none⟩ (Or.inr (Or.inl kX5.out.tab)) _
            have tY := kT5.out.frm fY (by have := kX5.out.tub; omega)
            obtain ⟨YA, hYA⟩ : ∃ YA, W1.setCell ⟨ab, k, none⟩ (.slice (some ⟨g1, 0, none⟩) (d + 1) cg1) = YA := ⟨_, rfl⟩
            rw [hYA] at hPX sY tY ⊢
            refine hK.out _ _ sY (fun _ => ?_)
            clear hK K
            try simp only [Act.put]
            refine wpAnyH_done (by kernel_rfl) ?_ _
            refine NoPanic.normal ?_
            have kPX := hid hPX
            have ktY := hid tY
            have c0 := tY.c0
            have c1 := tY.c1
            have c2 := tY.c2
            have v0 := tY.fz (k * 3)
            have v1 := tY.fz (k * 3 + 1)
            have v2 := tY.fz (k * 3 + 2)
            clear hPX sY fY tY hYA hown1 hgrow1 hat1 hlt1 z4 y4 f4 fW nab hne5 b5l abl5 hHeld hrow hbs hlW nWA cv cva oWA oW0 hy0 hy1 hy2 hj0
            go_wp2_with fail
            refine ⟨⟨i + 1, by omega, by go_num, ?_⟩, by simp [intOf]; omega⟩
            rw [kS.out, walkStep_some kn.out kk.out kd'.out (by rw [kln.out]; exact hfull) kop.out kt1.out kR.out, ka.out a kR.out]
            obtain ⟨r1, r2, r3, r4⟩ := ktY.out.back
            exact ⟨τX, p2, kPX.out.reset r1 r2 r3 r4⟩
          · simp only [List.getElem_toArray, List.getElem_cons_zero, List.getElem_cons_succ]
            go_simp
            refine hK.out _ _ nWA.out (fun hHeld => ?_)
            clear hK K
            try simp only [Act.put, List.setIfInBounds_toArray, List.set_cons_zero, List.set_cons_succ]
            refine wpAnyH_ready (rs := [5]) (by kernel_rfl) (by simp) ?_
            refine AllReadyH.cons (o := _) rfl (fun K hK => ?_) AllReadyH.nil
            simp only [List.getElem_toArray, List.getElem_cons_zero, List.getElem_cons_succ]
            go_simp
            refine hK.out _ _ hHeld (fun hHeld => ?_)
            clear hK K
            try simp only [Act.put, List.setIfInBounds_toArray, List.set_cons_zero, List.set_cons_succ]
            refine wpAnyH_ready (rs := [8]) (by kernel_rfl) (by simp) ?_
            refine AllReadyH.cons (o := _) rfl (fun K hK => ?_) AllReadyH.nil
            refine step_append_lies _ (by rfl) _ _ _ (by rfl) w1.heap.size 52 j0 _ 3 24 Try.underlying77 hj0 hy0 hy1 hy2 rfl (by omega) (.slice ao5 d cap5) d (flatA (W.out k)) (by rfl) hrow ⟨W0.heap.size, 0, none⟩ 1 1 [.int .i64 v, .bool y, .int .i64 (i : Int)] (by rfl) (by rfl) (World.news_of_block (cs := #[.int .i64 v, .bool y, .int .i64 (i : Int)]) (t := 52) (fr := (0, 0)) (heap_new W0 _)) (by simp [Value.oneCell']) (by omega) (by unfold maxLen; omega) (by omega) hbs (W0.heap.size + 1) (by simp) ?_
            intro g1 cg1 W1 hown1 hgrow1 hat1 hlt1
            have hne5 : ∀ q, (Value.slice ao5 d cap5).ownBlock = some q → q < b5 := fun q hq => by
              have h8 := kut.out q hq
              have := (kX5.out.new q (by omega)).2
              have := kb5.out
              omega
            have b5l := (Array.getElem?_eq_some_iff.1 nWA.out).1
            have z4 : W1.heap[b5]? = _ := (hgrow1.block b5 b5l (fun e => by have := hne5 b5 e.symm; omega)).trans nWA.out
            refine hK.out _ _ z4 (fun hHeld => ?_)
            clear hK K
            try simp only [Act.put, List.setIfInBounds_toArray]
            refine' wpAnyH_take (i := 9) rfl (by kernel_rfl) (by kernel_rfl) (by kernel_rfl) (fun _ _ _ h => h) (Or.inl ⟨by rfl, ?_⟩) hHeld ?_
            rotate_left
            · intro W hSw
              have hSv : W.heap[b5]? = some (.cells #[.int .i64 v, .bool y, .int .i64 (i : Int)] 52 (0, 0)) := hSw
              clear hSw
              skip
              simp only [List.getElem_toArray, List.getElem_cons_zero, List.getElem_cons_succ]
              go_simp
              all_goals with_reducible rfl
            simp only [List.getElem_toArray, List.getElem_cons_zero, List.getElem_cons_succ, Act.put, List.setIfInBounds_toArray, List.set_cons_zero, List.set_cons_succ]
            refine wpAnyH_ready (rs := [10]) (by kernel_rfl) (by simp) ?_
            refine AllReadyH.cons (o := _) rfl (fun K hK => ?_) AllReadyH.nil
            have fW : Frm (fun q => τ2 q = 11 + 2 * k) w5 W1 := Frm.grown (Frm.mono oWA.out (fun _ _ h => h.elim)) hgrow1 (fun q hq => Or.inr (kut.out q hq))
            have nab : ¬ τ2 ab = 11 + 2 * k := by have := kX5.out.tab; omega
            have y4 : W1.cell? ⟨ab, k, none⟩ = some (.slice ao5 d cap5) := (World.cell?_of_block (hgrow1.block ab (Nat.lt_of_lt_of_le kX5.out.abl oWA.out.size) (fun e => nab (kut.out ab e.symm)))).trans cva
            have f4 : W1.frozen? ⟨ab, k, none⟩ = false := (frm_frozen fW kX5.out.abl nab k).trans (kX5.out.abz k)
            simp only [List.getElem_toArray, List.getElem_cons_zero, List.getElem_cons_succ]
            go_simp
            have hPX := (kX5.out.olds oWA.out).app (a := (v, y, (i : Int))) (g := g1) (cap := cg1) (by rw [kn.out]; exact hkn) cva kut.out hgrow1 (by simp only [kd'.out]; exact hown1) (hat1.elim Or.inl (fun e => Or.inr (by rw [e]; simp))) hlt1
            obtain ⟨τX, hPX⟩ := hPX
            simp only [kd'.out] at hPX
            have abl5 : ab < b5 := by have := kX5.out.abl; have := kb5.out; omega
            have sY : (W1.setCell ⟨ab, k, none⟩ (.slice (some ⟨g1, 0, none⟩) (d + 1) cg1)).heap[b5]? = _ := (Below.heap_setCell W1 ⟨ab, k, none⟩ _ b5 (by simp only; omega)).trans z4
            have fY : Frm (fun q => τ2 q = 9 ∨ τ2 q = 11 + 2 * k) w5 (W1.setCell ⟨ab, k, none⟩ (.slice (some ⟨g1, 0, none⟩) (d + 1) cg1)) := Frm.setCell (S := fun q => τ2 q = 9 ∨ τ2 q = 11 + 2 * k) (Frm.mono fW (fun _ _ h => Or.inr h)) ⟨ab, k, none⟩ (Or.inr (Or.inl kX5.out.tab)) _
            have tY := kT5.out.frm fY (by have := kX5.out.tub; omega)
            obtain ⟨YA, hYA⟩ : ∃ YA, W1.setCell ⟨ab, k, none⟩ (.slice (some ⟨g1, 0, none⟩) (d + 1) cg1) = YA := ⟨_, rfl⟩
            rw [hYA] at hPX sY tY ⊢
            refine hK.out _ _ sY (fun _ => ?_)
            clear hK K
            try simp only [Act.put]
            refine wpAnyH_done (by kernel_rfl) ?_ _
            refine NoPanic.normal ?_
            have kPX := hid hPX
            have ktY := hid tY
            have c0 := tY.c0
            have c1 := tY.c1
            have c2 := tY.c2
            have v0 := tY.fz (k * 3)
            have v1 := tY.fz (k * 3 + 1)
            have v2 := tY.fz (k * 3 + 2)
            clear hPX sY fY tY hYA hown1 hgrow1 hat1 hlt1 z4 y4 f4 fW nab hne5 b5l abl5 hHeld hrow hbs hlW nWA cv cva oWA oW0 hy0 hy1 hy2 hj0
            go_wp2_with fail
            refine ⟨⟨i + 1, by omega, by go_num, ?_⟩, by simp [intOf]; omega⟩
            rw [kS.out, walkStep_some kn.out kk.out kd'.out (by rw [kln.out]; exact hfull) kop.out kt1.out kR.out, ka.out a kR.out]
            obtain ⟨r1, r2, r3, r4⟩ := ktY.out.back
            exact ⟨τX, p2, kPX.out.reset r1 r2 r3 r4⟩
      · go_wp2_with fail
        rw [kx2.out]
        clear y0 y1 y2 z0 z1 z2 kx2 pc ac oc q1 q2
        have kh5 : Hid (∀ n : Sn, (none : Option Sn) = some n → kd = 5 → n.1 < W.s.ts) := fun _ h => by cases h
        go_wp2_with fail
        refine kst.out.mono ?_
        rintro e w5 ⟨v, y, dd, τ2, p2, rfl, hd, ha, f5, r5, hB5, hT5, hU5, hp5⟩
        have hX5 := kX2.out.step f5 r5 hB5 (stepS_bnd kX2.out.bnd kh5.out) stepS_len.1 stepS_len.2.1 hp5 hT5.fz (fun q hq => hT5.rest q hq)
        have kX5 := hid hX5
        have kT5 := hid hT5
        have kU5 := hid hU5
        have ka := hid ha
        clear hX5 hT5 hU5 ha f5 r5 hB5 hp5 kst kX2 kT2
        unfold ans
        cases hR : (stepS W.s k kd x none).2.2 with
        | none =>
          rw [hR] at hd
          simp only [Option.isSome_none] at hd
          subst hd
          have kR := hid hR
          clear hR
          go_wp2_with fail
          refine ⟨⟨i + 1, by omega, by go_num, ?_⟩, by simp [intOf]; omega⟩
          rw [kS.out, walkStep_none kn.out kk.out kd'.out (by rw [kln.out]; exact hfull) kop.out kt1.out kR.out]
          obtain ⟨sn', hsn⟩ := stepS_none kR.out
          rw [hsn]
          have t5 := kT5.out.frm ((Old.refl w5).alloc (.cells #[.int .i64 v, .bool y, .int .i64 0] 52)) (fun h => h)
          have hX6 := kX5.out.olds ((Old.refl w5).alloc (.cells #[.int .i64 v, .bool y, .int .i64 0] 52))
          refine ⟨τ2, p2, hX6.looked ⟨_, _, rfl⟩ ⟨t5.c0, t5.c1, t5.c2⟩ ?_⟩
          have e : opAt O ⟨(stepS W.s k kd x none).1, W.sn, W.out⟩ k = (kd, x) := by simp only [opAt, kd'.out]; exact kop.out
          rw [e]
          exact Und.keep (kU5.out sn' hsn) ((Old.refl w5).alloc _) (fun k hk _ => hk.elim) (fun _ _ => rfl) rfl (Or.inl ⟨rfl, rfl⟩) hX6.bench.bv
        | some a =>
          rw [hR] at hd
          simp only [Option.isSome_some] at hd
          subst hd
          have kR := hid hR
          clear hR
          go_wp2_with fail
          have n5 := heap_new w5 (.cells #[.int .i64 v, .bool y, .int .i64 (i : Int)] 52)
          have o5 := hid ((Old.refl w5).alloc (.cells #[.int .i64 v, .bool y, .int .i64 (i : Int)] 52))
          obtain ⟨Z, hZ⟩ : ∃ Z, w5.alloc (.cells #[.int .i64 v, .bool y, .int .i64 (i : Int)] 52) = Z := ⟨_, rfl⟩
          rw [hZ] at n5 o5 ⊢
          obtain ⟨b5, hb5⟩ : ∃ b5, w5.heap.size = b5 := ⟨_, rfl⟩
          rw [hb5] at n5 ⊢
          have kb5 := hid hb5
          clear hZ hb5
          obtain ⟨u, uc, uo, ut⟩ := kX5.out.rows k (by rw [kn.out]; exact hkn)
          simp only at uo
          rw [kd'.out] at uo
          obtain ⟨ao5, cap5, rfl⟩ := owns_slice uo
          have kut := hid ut
          obtain ⟨j0, hj0, hy0, hy1, hy2⟩ := info52p
          refine wp_region_noPanic ?_
          refine wp_region_held_drew (S := fun X => X.heap[b5]? = some (.cells #[.int .i64 v, .bool y, .int .i64 (i : Int)] 52 (0, 0))) (by kernel_rfl) n5 (fun hHeld => ?_)
          obtain ⟨W0, hW0⟩ : ∃ W0, Z.drew = W0 := ⟨_, rfl⟩
          have oW0 : Hid (Old w5 W0) := by rw [← hW0]; exact o5.out.drewN 1
          rw [hW0] at hHeld ⊢
          have cv := oW0.out.cell uc
          have oWA := hid (oW0.out.alloc (.cells #[.int .i64 v, .bool y, .int .i64 (i : Int)] 52))
          have cva := oWA.out.cell uc
          have hrow := owns_frm uo oWA.out (fun _ _ h => h)
          have nWA : Hid ((W0.alloc (.cells #[.int .i64 v, .bool y, .int .i64 (i : Int)] 52)).heap[b5]? = some (.cells #[.int .i64 v, .bool y, .int .i64 (i : Int)] 52 (0, 0))) := by
            rw [Below.heap_alloc _ _ _ (Array.getElem?_eq_some_iff.1 hHeld).1]; exact hHeld
          have hbs : w1.heap.size ≤ (W0.alloc (.cells #[.int .i64 v, .bool y, .int .i64 (i : Int)] 52)).heap.size := Nat.le_trans kX5.out.old.size oWA.out.size
          have hlW : b5 ≤ W0.heap.size := by have := oW0.out.size; have := kb5.out; omega
          clear hW0 uc uo ut n5 o5
          refine' wpAnyH_take (i := 0) rfl (by kernel_rfl) (by kernel_rfl) (by kernel_rfl) (fun _ _ _ h => h) (Or.inl ⟨by rfl, ?_⟩) hHeld ?_
          rotate_left
          · intro W hSw
            have hSv : W.heap[b5]? = some (.cells #[.int .i64 v, .bool y, .int .i64 (i : Int)] 52 (0, 0)) := hSw
            clear hSw
            skip
            simp only [List.getElem_toArray, List.getElem_cons_zero]
            go_simp
            all_goals with_reducible rfl
          simp only [List.getElem_toArray, List.getElem_cons_zero, Act.put, List.setIfInBounds_toArray, List.set_cons_zero, List.set_cons_succ]
          refine' wpAnyH_take (i := 1) rfl (by kernel_rfl) (by kernel_rfl) (by kernel_rfl) (fun _ _ _ h => h) (Or.inl ⟨by rfl, ?_⟩) hHeld ?_
          rotate_left
          · intro W hSw
            have hSv : W.heap[b5]? = some (.cells #[.int .i64 v, .bool y, .int .i64 (i : Int)] 52 (0, 0)) := hSw
            clear hSw
            skip
            simp only [List.getElem_toArray, List.getElem_cons_zero, List.getElem_cons_succ]
            go_simp
            all_goals with_reducible rfl
          simp only [List.getElem_toArray, List.getElem_cons_zero, List.getElem_cons_succ, Act.put, List.setIfInBounds_toArray, List.set_cons_zero, List.set_cons_succ]
          refine' wpAnyH_take (i := 2) rfl (by kernel_rfl) (by kernel_rfl) (by kernel_rfl) (fun _ _ _ h => h) (Or.inl ⟨by rfl, ?_⟩) hHeld ?_
          rotate_left
          · intro W hSw
            have hSv : W.heap[b5]? = some (.cells #[.int .i64 v, .bool y, .int .i64 (i : Int)] 52 (0, 0)) := hSw
            clear hSw
            skip
            simp only [List.getElem_toArray, List.getElem_cons_zero, List.getElem_cons_succ]
            go_simp
            all_goals with_reducible rfl
          simp only [List.getElem_toArray, List.getElem_cons_zero, List.getElem_cons_succ, Act.put, List.setIfInBounds_toArray, List.set_cons_zero, List.set_cons_succ]
          refine' wpAnyH_take (i := 3) rfl (by kernel_rfl) (by kernel_rfl) (by kernel_rfl) (fun _ _ _ h => h) (Or.inl ⟨by rfl, ?_⟩) hHeld ?_
          rotate_left
          · intro W hSw
            have hSv : W.heap[b5]? = some (.cells #[.int .i64 v, .bool y, .int .i64 (i : Int)] 52 (0, 0)) := hSw
            clear hSw
            skip
            simp only [List.getElem_toArray, List.getElem_cons_zero, List.getElem_cons_succ]
            go_simp
            all_goals with_reducible rfl
          simp only [List.getElem_toArray, List.getElem_cons_zero, List.getElem_cons_succ, Act.put, List.setIfInBounds_toArray, List.set_cons_zero, List.set_cons_succ]
          refine' wpAnyH_take (i := 4) rfl (by kernel_rfl) (by kernel_rfl) (by kernel_rfl) (fun _ _ _ h => h) (Or.inl ⟨by rfl, ?_⟩) hHeld ?_
          rotate_left
          · intro W hSw
            have hSv : W.heap[b5]? = some (.cells #[.int .i64 v, .bool y, .int .i64 (i : Int)] 52 (0, 0)) := hSw
            clear hSw
            skip
            simp only [List.getElem_toArray, List.getElem_cons_zero, List.getElem_cons_succ]
            go_simp
            all_goals with_reducible rfl
          simp only [List.getElem_toArray, List.getElem_cons_zero, List.getElem_cons_succ, Act.put, List.setIfInBounds_toArray, List.set_cons_zero, List.set_cons_succ]
          refine' wpAnyH_take (i := 6) rfl (by kernel_rfl) (by kernel_rfl) (by kernel_rfl) (fun _ _ _ h => h) (Or.inl ⟨by rfl, ?_⟩) hHeld ?_
          rotate_left
          · intro W hSw
            have hSv : W.heap[b5]? = some (.cells #[.int .i64 v, .bool y, .int .i64 (i : Int)] 52 (0, 0)) := hSw
            clear hSw
            obtain ⟨c0, c1, c2, _⟩ := three_cells hSv
            simp only [List.getElem_toArray, List.getElem_cons_zero, List.getElem_cons_succ]
            go_simp
            all_goals with_reducible rfl
          simp only [List.getElem_toArray, List.getElem_cons_zero, List.getElem_cons_succ, Act.put, List.setIfInBounds_toArray, List.set_cons_zero, List.set_cons_succ]
          refine wpAnyH_ready (rs := [5, 7]) (by kernel_rfl) (by simp) ?_
          refine AllReadyH.cons (o := _) rfl (fun K hK => ?_) (AllReadyH.cons (o := _) rfl (fun K hK => ?_) AllReadyH.nil)
          · simp only [List.getElem_toArray, List.getElem_cons_zero, List.getElem_cons_succ]
            go_simp
            refine hK.out _ _ hHeld (fun hHeld => ?_)
            clear hK K
            try simp only [Act.put, List.setIfInBounds_toArray, List.set_cons_zero, List.set_cons_succ]
            refine wpAnyH_ready (rs := [7]) (by kernel_rfl) (by simp) ?_
            refine AllReadyH.cons (o := _) rfl (fun K hK => ?_) AllReadyH.nil
            simp only [List.getElem_toArray, List.getElem_cons_zero, List.getElem_cons_succ]
            go_simp
            refine hK.out _ _ nWA.out (fun hHeld => ?_)
            clear hK K
            try simp only [Act.put, List.setIfInBounds_toArray, List.set_cons_zero, List.set_cons_succ]
            refine wpAnyH_ready (rs := [8]) (by kernel_rfl) (by simp) ?_
            refine AllReadyH.cons (o := _) rfl (fun K hK => ?_) AllReadyH.nil
            refine step_append_lies _ (by rfl) _ _ _ (by rfl) w1.heap.size 52 j0 _ 3 24 Try.underlying77 hj0 hy0 hy1 hy2 rfl (by omega) (.slice ao5 d cap5) d (flatA (W.out k)) (by rfl) hrow ⟨W0.heap.size, 0, none⟩ 1 1 [.int .i64 v, .bool y, .int .i64 (i : Int)] (by rfl) (by rfl) (World.news_of_block (cs := #[.int .i64 v, .bool y, .int .i64 (i : Int)]) (t := 52) (fr := (0, 0)) (heap_new W0 _)) (by simp [Value.oneCell']) (by omega) (by unfold maxLen; omega) (by omega) hbs (W0.heap.size + 1) (by simp) ?_
            intro g1 cg1 W1 hown1 hgrow1 hat1 hlt1
            have hne5 : ∀ q, (Value.slice ao5 d cap5).ownBlock = some q → q < b5 := fun q hq => by
              have h8 := kut.out q hq
              have := (kX5.out.new q (by omega)).2
              have := kb5.out
              omega
            have b5l := (Array.getElem?_eq_some_iff.1 nWA.out).1
            have z4 : W1.heap[b5]? = _ := (hgrow1.block b5 b5l (fun e => by have := hne5 b5 e.symm; omega)).trans nWA.out
            refine hK.out _ _ z4 (fun hHeld => ?_)
            clear hK K
            try simp only [Act.put, List.setIfInBounds_toArray]
            refine' wpAnyH_take (i := 9) rfl (by kernel_rfl) (by kernel_rfl) (by kernel_rfl) (fun _ _ _ h => h) (Or.inl ⟨by rfl, ?_⟩) hHeld ?_
            rotate_left
            · intro W hSw
              have hSv : W.heap[b5]? = some (.cells #[.int .i64 v, .bool y, .int .i64 (i : Int)] 52 (0, 0)) := hSw
              clear hSw
              skip
              simp only [List.getElem_toArray, List.getElem_cons_zero, List.getElem_cons_succ]
              go_simp
              all_goals with_reducible rfl
            simp only [List.getElem_toArray, List.getElem_cons_zero, List.getElem_cons_succ, Act.put, List.setIfInBounds_toArray, List.set_cons_zero, List.set_cons_succ]
            refine wpAnyH_ready (rs := [10]) (by kernel_rfl) (by simp) ?_
            refine AllReadyH.cons (o := _) rfl (fun K hK => ?_) AllReadyH.nil
            have fW : Frm (fun q => τ2 q = 11 + 2 * k) w5 W1 := Frm.grown (Frm.mono oWA.out (fun _ _ h => h.elim)) hgrow1 (fun q hq => Or.inr (kut.out q hq))
            have nab : ¬ τ2 ab = 11 + 2 * k := by have := kX5.out.tab; omega
            have y4 : W1.cell? ⟨ab, k, none⟩ = some (.slice ao5 d cap5) := (World.cell?_of_block (hgrow1.block ab (Nat.lt_of_lt_of_le kX5.out.abl oWA.out.size) (fun e => nab (kut.out ab e.symm)))).trans cva
            have f4 : W1.frozen? ⟨ab, k, none⟩ = false := (frm_frozen fW kX5.out.abl nab k).trans (kX5.out.abz k)
            simp only [List.getElem_toArray, List.getElem_cons_zero, List.getElem_cons_succ]
            go_simp
            have hPX := (kX5.out.olds oWA.out).app (a := (v, y, (i : Int))) (g := g1) (cap := cg1) (by rw [kn.out]; exact hkn) cva kut.out hgrow1 (by simp only [kd'.out]; exact hown1) (hat1.elim Or.inl (fun e => Or.inr (by rw [e]; simp))) hlt1
            obtain ⟨τX, hPX⟩ := hPX
            simp only [kd'.out] at hPX
            have abl5 : ab < b5 := by have := kX5.out.abl; have := kb5.out; omega
            have sY : (W1.setCell ⟨ab, k, none⟩ (.slice (some ⟨g1, 0, none⟩) (d + 1) cg1)).heap[b5]? = _ := (Below.heap_setCell W1 ⟨ab, k, none⟩ _ b5 (by simp only; omega)).trans z4
            have fY : Frm (fun q => τ2 q = 9 ∨ τ2 q = 11 + 2 * k) w5 (W1.setCell ⟨ab, k, none⟩ (.slice (some ⟨g1, 0, none⟩) (d + 1) cg1)) := Frm.setCell (S := fun q => τ2 q = 9 ∨ τ2 q = 11 + 2 * k) (Frm.mono fW (fun _ _ h => Or.inr h)) ⟨ab, k, none⟩ (Or.inr (Or.inl kX5.out.tab)) _
            have tY := kT5.out.frm fY (by have := kX5.out.tub; omega)
            obtain ⟨YA, hYA⟩ : ∃ YA, W1.setCell ⟨ab, k, none⟩ (.slice (some ⟨g1, 0, none⟩) (d + 1) cg1) = YA := ⟨_, rfl⟩
            rw [hYA] at hPX sY tY ⊢
            refine hK.out _ _ sY (fun _ => ?_)
            clear hK K
            try simp only [Act.put]
            refine wpAnyH_done (by kernel_rfl) ?_ _
            refine NoPanic.normal ?_
            have kPX := hid hPX
            have ktY := hid tY
            have c0 := tY.c0
            have c1 := tY.c1
            have c2 := tY.c2
            have v0 := tY.fz (k * 3)
            have v1 := tY.fz (k * 3 + 1)
            have v2 := tY.fz (k * 3 + 2)
            clear hPX sY fY tY hYA hown1 hgrow1 hat1 hlt1 z4 y4 f4 fW nab hne5 b5l abl5 hHeld hrow hbs hlW nWA cv cva oWA oW0 hy0 hy1 hy2 hj0
            go_wp2_with fail
            refine ⟨⟨i + 1, by omega, by go_num, ?_⟩, by simp [intOf]; omega⟩
            rw [kS.out, walkStep_some kn.out kk.out kd'.out (by rw [kln.out]; exact hfull) kop.out kt1.out kR.out, ka.out a kR.out]
            obtain ⟨r1, r2, r3, r4⟩ := ktY.out.back
            exact ⟨τX, p2, kPX.out.reset r1 r2 r3 r4⟩
          · simp only [List.getElem_toArray, List.getElem_cons_zero, List.getElem_cons_succ]
            go_simp
            refine hK.out _ _ nWA.out (fun hHeld => ?_)
            clear hK K
            try simp only [Act.put, List.setIfInBounds_toArray, List.set_cons_zero, List.set_cons_succ]
            refine wpAnyH_ready (rs := [5]) (by kernel_rfl) (by simp) ?_
            refine AllReadyH.cons (o := _) rfl (fun K hK => ?_) AllReadyH.nil
            simp only [List.getElem_toArray, List.getElem_cons_zero, List.getElem_cons_succ]
            go_simp
            refine hK.out _ _ hHeld (fun hHeld => ?_)
            clear hK K
            try simp only [Act.put, List.setIfInBounds_toArray, List.set_cons_zero, List.set_cons_succ]
            refine wpAnyH_ready (rs := [8]) (by kernel_rfl) (by simp) ?_
            refine AllReadyH.cons (o := _) rfl (fun K hK => ?_) AllReadyH.nil
            refine step_append_lies _ (by rfl) _ _ _ (by rfl) w1.heap.size 52 j0 _ 3 24 Try.underlying77 hj0 hy0 hy1 hy2 rfl (by omega) (.slice ao5 d cap5) d (flatA (W.out k)) (by rfl) hrow ⟨W0.heap.size, 0, none⟩ 1 1 [.int .i64 v, .bool y, .int .i64 (i : Int)] (by rfl) (by rfl) (World.news_of_block (cs := #[.int .i64 v, .bool y, .int .i64 (i : Int)]) (t := 52) (fr := (0, 0)) (heap_new W0 _)) (by simp [Value.oneCell']) (by omega) (by unfold maxLen; omega) (by omega) hbs (W0.heap.size + 1) (by simp) ?_
            intro g1 cg1 W1 hown1 hgrow1 hat1 hlt1
            have hne5 : ∀ q, (Value.slice ao5 d cap5).ownBlock = some q → q < b5 := fun q hq => by
              have h8 := kut.out q hq
              have := (kX5.out.new q (by omega)).2
              have := kb5.out
              omega
            have b5l := (Array.getElem?_eq_some_iff.1 nWA.out).1
            have z4 : W1.heap[b5]? = _ := (hgrow1.block b5 b5l (fun e => by have := hne5 b5 e.symm; omega)).trans nWA.out
            refine hK.out _ _ z4 (fun hHeld => ?_)
            clear hK K
            try simp only [Act.put, List.setIfInBounds_toArray]
            refine' wpAnyH_take (i := 9) rfl (by kernel_rfl) (by kernel_rfl) (by kernel_rfl) (fun _ _ _ h => h) (Or.inl ⟨by rfl, ?_⟩) hHeld ?_
            rotate_left
            · intro W hSw
              have hSv : W.heap[b5]? = some (.cells #[.int .i64 v, .bool y, .int .i64 (i : Int)] 52 (0, 0)) := hSw
              clear hSw
              skip
              simp only [List.getElem_toArray, List.getElem_cons_zero, List.getElem_cons_succ]
              go_simp
              all_goals with_reducible rfl
            simp only [List.getElem_toArray, List.getElem_cons_zero, List.getElem_cons_succ, Act.put, List.setIfInBounds_toArray, List.set_cons_zero, List.set_cons_succ]
            refine wpAnyH_ready (rs := [10]) (by kernel_rfl) (by simp) ?_
            refine AllReadyH.cons (o := _) rfl (fun K hK => ?_) AllReadyH.nil
            have fW : Frm (fun q => τ2 q = 11 + 2 * k) w5 W1 := Frm.grown (Frm.mono oWA.out (fun _ _ h => h.elim)) hgrow1 (fun q hq => Or.inr (kut.out q hq))
            have nab : ¬ τ2 ab = 11 + 2 * k := by have := kX5.out.tab; omega
            have y4 : W1.cell? ⟨ab, k, none⟩ = some (.slice ao5 d cap5) := (World.cell?_of_block (hgrow1.block ab (Nat.lt_of_lt_of_le kX5.out.abl oWA.out.size) (fun e => nab (kut.out ab e.symm)))).trans cva
            have f4 : W1.frozen? ⟨ab, k, none⟩ = false := (frm_frozen fW kX5.out.abl nab k).trans (kX5.out.abz k)
            simp only [List.getElem_toArray, List.getElem_cons_zero, List.getElem_cons_succ]
            go_simp
            have hPX := (kX5.out.olds oWA.out).app (a := (v, y, (i : Int))) (g := g1) (cap := cg1) (by rw [kn.out]; exact hkn) cva kut.out hgrow1 (by simp only [kd'.out]; exact hown1) (hat1.elim Or.inl (fun e => Or.inr (by rw [e]; simp))) hlt1
            obtain ⟨τX, hPX⟩ := hPX
            simp only [kd'.out] at hPX
            have abl5 : ab < b5 := by have := kX5.out.abl; have := kb5.out; omega
            have sY : (W1.setCell ⟨ab, k, none⟩ (.slice (some ⟨g1, 0, none⟩) (d + 1) cg1)).heap[b5]? = _ := (Below.heap_setCell W1 ⟨ab, k, none⟩ _ b5 (by simp only; omega)).trans z4
            have fY : Frm (fun q => τ2 q = 9 ∨ τ2 q = 11 + 2 * k) w5 (W1.setCell ⟨ab, k, none⟩ (.slice (some ⟨g1, 0, none⟩) (d + 1) cg1)) := Frm.setCell (S := fun q => τ2 q = 9 ∨ τ2 q = 11 + 2 * k) (Frm.mono fW (fun _ _ h => Or.inr h)) ⟨ab, k, none⟩ (Or.inr (Or.inl kX5.out.tab)) _
            have tY := kT5.out.frm fY (by have := kX5.out.tub; omega)
            obtain ⟨YA, hYA⟩ : ∃ YA, W1.setCell ⟨ab, k, none⟩ (.slice (some ⟨g1, 0, none⟩) (d + 1) cg1) = YA := ⟨_, rfl⟩
            rw [hYA] at hPX sY tY ⊢
            refine hK.out _ _ sY (fun _ => ?_)
            clear hK K
            try simp only [Act.put]
            refine wpAnyH_done (by kernel_rfl) ?_ _
            refine NoPanic.normal ?_
            have kPX := hid hPX
            have ktY := hid tY
            have c0 := tY.c0
            have c1 := tY.c1
            have c2 := tY.c2
            have v0 := tY.fz (k * 3)
            have v1 := tY.fz (k * 3 + 1)
            have v2 := tY.fz (k * 3 + 2)
            clear hPX sY fY tY hYA hown1 hgrow1 hat1 hlt1 z4 y4 f4 fW nab hne5 b5l abl5 hHeld hrow hbs hlW nWA cv cva oWA oW0 hy0 hy1 hy2 hj0
            go_wp2_with fail
            refine ⟨⟨i + 1, by omega, by go_num, ?_⟩, by simp [intOf]; omega⟩
            rw [kS.out, walkStep_some kn.out kk.out kd'.out (by rw [kln.out]; exact hfull) kop.out kt1.out kR.out, ka.out a kR.out]
            obtain ⟨r1, r2, r3, r4⟩ := ktY.out.back
            exact ⟨τX, p2, kPX.out.reset r1 r2 r3 r4⟩
    · have y0 := t3.1
      have kt1 := hid t1
      have eop : opAt O W k = (kd, x) := by simp only [opAt, kd'.out]; exact kop.out
      rw [eop] at t4
      have kT2 := hid (show TurnC (fun i => wr.cell? ⟨ub, i, none⟩) wr ub (k * 3) (.func fu #[] fb) pv true from ⟨t3.1, t3.2.1, t3.2.2, kX.out.ubz, fun _ _ => rfl⟩)
      have kst := hid (step_und ub (k * 3) τ B p W.s (10 + 2 * k) k (by omega) kd x sn (.func fu #[] fb) pv wr i kX.out.bnd kX.out.bench t4 kX.out.tub kT2.out)
      have kh5 : Hid (∀ n : Sn, (some sn : Option Sn) = some n → kd = 5 → n.1 < W.s.ts) := fun n h h5 => by
        cases h
        rcases t4 with ⟨e, _⟩ | ⟨e, _⟩ | ⟨_, _, e, _⟩
        · omega
        · omega
        · exact e
      have kX2 := hid (kX.out.weaken (E' := fun q => q = k) (fun _ h => h.elim))
      clear t1 t3 t4 eop kX
      go_wp2_with fail
      refine kmod.out.mono ?_
      rintro e we ⟨rfl, ew⟩
      rw [ew]
      clear ew
      go_wp2_with fail
      rw [eqn1]
      clear y0 pc ac oc q1 q2
      go_wp2_with fail
      refine kst.out.mono ?_
      rintro e w5 ⟨v, y, dd, τ2, p2, rfl, hd, ha, f5, r5, hB5, hT5, hU5, hp5⟩
      have hX5 := kX2.out.step f5 r5 hB5 (stepS_bnd kX2.out.bnd kh5.out) stepS_len.1 stepS_len.2.1 hp5 hT5.fz (fun q hq => hT5.rest q hq)
      have kX5 := hid hX5
      have kT5 := hid hT5
      have kU5 := hid hU5
      have ka := hid ha
      clear hX5 hT5 hU5 ha f5 r5 hB5 hp5 kst kX2 kT2
      unfold ans
      cases hR : (stepS W.s k kd x (some sn)).2.2 with
      | none =>
        rw [hR] at hd
        simp only [Option.isSome_none] at hd
        subst hd
        have kR := hid hR
        clear hR
        go_wp2_with fail
        refine ⟨⟨i + 1, by omega, by go_num, ?_⟩, by simp [intOf]; omega⟩
        rw [kS.out, walkStep_none kn.out kk.out kd'.out (by rw [kln.out]; exact hfull) kop.out kt1.out kR.out]
        obtain ⟨sn', hsn⟩ := stepS_none kR.out
        rw [hsn]
        have t5 := kT5.out.frm ((Old.refl w5).alloc (.cells #[.int .i64 v, .bool y, .int .i64 0] 52)) (fun h => h)
        have hX6 := kX5.out.olds ((Old.refl w5).alloc (.cells #[.int .i64 v, .bool y, .int .i64 0] 52))
        refine ⟨τ2, p2, hX6.looked ⟨_, _, rfl⟩ ⟨t5.c0, t5.c1, t5.c2⟩ ?_⟩
        have e : opAt O ⟨(stepS W.s k kd x (some sn)).1, W.sn, W.out⟩ k = (kd, x) := by simp only [opAt, kd'.out]; exact kop.out
        rw [e]
        exact Und.keep (kU5.out sn' hsn) ((Old.refl w5).alloc _) (fun k hk _ => hk.elim) (fun _ _ => rfl) rfl (Or.inl ⟨rfl, rfl⟩) hX6.bench.bv
      | some a =>
        rw [hR] at hd
        simp only [Option.isSome_some] at hd
        subst hd
        have kR := hid hR
        clear hR
        go_wp2_with fail
        have n5 := heap_new w5 (.cells #[.int .i64 v, .bool y, .int .i64 (i : Int)] 52)
        have o5 := hid ((Old.refl w5).alloc (.cells #[.int .i64 v, .bool y, .int .i64 (i : Int)] 52))
        obtain ⟨Z, hZ⟩ : ∃ Z, w5.alloc (.cells #[.int .i64 v, .bool y, .int .i64 (i : Int)] 52) = Z := ⟨_, rfl⟩
        rw [hZ] at n5 o5 ⊢
        obtain ⟨b5, hb5⟩ : ∃ b5, w5.heap.size = b5 := ⟨_, rfl⟩
        rw [hb5] at n5 ⊢
        have kb5 := hid hb5
        clear hZ hb5
        obtain ⟨u, uc, uo, ut⟩ := kX5.out.rows k (by rw [kn.out]; exact hkn)
        simp only at uo
        rw [kd'.out] at uo
        obtain ⟨ao5, cap5, rfl⟩ := owns_slice uo
        have kut := hid ut
        obtain ⟨j0, hj0, hy0, hy1, hy2⟩ := info52p
        refine wp_region_noPanic ?_
        refine wp_region_held_drew (S := fun X => X.heap[b5]? = some (.cells #[.int .i64 v, .bool y, .int .i64 (i : Int)] 52 (0, 0))) (by kernel_rfl) n5 (fun hHeld => ?_)
        obtain ⟨W0, hW0⟩ : ∃ W0, Z.drew = W0 := ⟨_, rfl⟩
        have oW0 : Hid (Old w5 W0) := by rw [← hW0]; exact o5.out.drewN 1
        rw [hW0] at hHeld ⊢
        have cv := oW0.out.cell uc
        have oWA := hid (oW0.out.alloc (.cells #[.int .i64 v, .bool y, .int .i64 (i : Int)] 52))
        have cva := oWA.out.cell uc
        have hrow := owns_frm uo oWA.out (fun _ _ h => h)
        have nWA : Hid ((W0.alloc (.cells #[.int .i64 v, .bool y, .int .i64 (i : Int)] 52)).heap[b5]? = some (.cells #[.int .i64 v, .bool y, .int .i64 (i : Int)] 52 (0, 0))) := by
          rw [Below.heap_alloc _ _ _ (Array.getElem?_eq_some_iff.1 hHeld).1]; exact hHeld
        have hbs : w1.heap.size ≤ (W0.alloc (.cells #[.int .i64 v, .bool y, .int .i64 (i : Int)] 52)).heap.size := Nat.le_trans kX5.out.old.size oWA.out.size
        have hlW : b5 ≤ W0.heap.size := by have := oW0.out.size; have := kb5.out; omega
        clear hW0 uc uo ut n5 o5
        refine' wpAnyH_take (i := 0) rfl (by kernel_rfl) (by kernel_rfl) (by kernel_rfl) (fun _ _ _ h => h) (Or.inl ⟨by rfl, ?_⟩) hHeld ?_
        rotate_left
        · intro W hSw
          have hSv : W.heap[b5]? = some (.cells #[.int .i64 v, .bool y, .int .i64 (i : Int)] 52 (0, 0)) := hSw
          clear hSw
          skip
          simp only [List.getElem_toArray, List.getElem_cons_zero]
          go_simp
          all_goals with_reducible rfl
        simp only [List.getElem_toArray, List.getElem_cons_zero, Act.put, List.setIfInBounds_toArray, List.set_cons_zero, List.set_cons_succ]
        refine' wpAnyH_take (i := 1) rfl (by kernel_rfl) (by kernel_rfl) (by kernel_rfl) (fun _ _ _ h => h) (Or.inl ⟨by rfl, ?_⟩) hHeld ?_
        rotate_left
        · intro W hSw
          have hSv : W.heap[b5]? = some (.cells #[.int .i64 v, .bool y, .int .i64 (i : Int)] 52 (0, 0)) := hSw
          clear hSw
          skip
          simp only [List.getElem_toArray, List.getElem_cons_zero, List.getElem_cons_succ]
          go_simp
          all_goals with_reducible rfl
        simp only [List.getElem_toArray, List.getElem_cons_zero, List.getElem_cons_succ, Act.put, List.setIfInBounds_toArray, List.set_cons_zero, List.set_cons_succ]
        refine' wpAnyH_take (i := 2) rfl (by kernel_rfl) (by kernel_rfl) (by kernel_rfl) (fun _ _ _ h => h) (Or.inl ⟨by rfl, ?_⟩) hHeld ?_
        rotate_left
        · intro W hSw
          have hSv : W.heap[b5]? = some (.cells #[.int .i64 v, .bool y, .int .i64 (i : Int)] 52 (0, 0)) := hSw
          clear hSw
          skip
          simp only [List.getElem_toArray, List.getElem_cons_zero, List.getElem_cons_succ]
          go_simp
          all_goals with_reducible rfl
        simp only [List.getElem_toArray, List.getElem_cons_zero, List.getElem_cons_succ, Act.put, List.setIfInBounds_toArray, List.set_cons_zero, List.set_cons_succ]
        refine' wpAnyH_take (i := 3) rfl (by kernel_rfl) (by kernel_rfl) (by kernel_rfl) (fun _ _ _ h => h) (Or.inl ⟨by rfl, ?_⟩) hHeld ?_
        rotate_left
        · intro W hSw
          have hSv : W.heap[b5]? = some (.cells #[.int .i64 v, .bool y, .int .i64 (i : Int)] 52 (0, 0)) := hSw
          clear hSw
          skip
          simp only [List.getElem_toArray, List.getElem_cons_zero, List.getElem_cons_succ]
          go_simp
          all_goals with_reducible rfl
        simp only [List.getElem_toArray, List.getElem_cons_zero, List.getElem_cons_succ, Act.put, List.setIfInBounds_toArray, List.set_cons_zero, List.set_cons_succ]
        refine' wpAnyH_take (i := 4) rfl (by kernel_rfl) (by kernel_rfl) (by kernel_rfl) (fun _ _ _ h => h) (Or.inl ⟨by rfl, ?_⟩) hHeld ?_
        rotate_left
        · intro W hSw
          have hSv : W.heap[b5]? = some (.cells #[.int .i64 v, .bool y, .int .i64 (i : Int)] 52 (0, 0)) := hSw
          clear hSw
          skip
          simp only [List.getElem_toArray, List.getElem_cons_zero, List.getElem_cons_succ]
          go_simp
          all_goals with_reducible rfl
        simp only [List.getElem_toArray, List.getElem_cons_zero, List.getElem_cons_succ, Act.put, List.setIfInBounds_toArray, List.set_cons_zero, List.set_cons_succ]
        refine' wpAnyH_take (i := 6) rfl (by kernel_rfl) (by kernel_rfl) (by kernel_rfl) (fun _ _ _ h => h) (Or.inl ⟨by rfl, ?_⟩) hHeld ?_
        rotate_left
        · intro W hSw
          have hSv : W.heap[b5]? = some (.cells #[.int .i64 v, .bool y, .int .i64 (i : Int)] 52 (0, 0)) := hSw
          clear hSw
          obtain ⟨c0, c1, c2, _⟩ := three_cells hSv
          simp only [List.getElem_toArray, List.getElem_cons_zero, List.getElem_cons_succ]
          go_simp
          all_goals with_reducible rfl
        simp only [List.getElem_toArray, List.getElem_cons_zero, List.getElem_cons_succ, Act.put, List.setIfInBounds_toArray, List.set_cons_zero, List.set_cons_succ]
        refine wpAnyH_ready (rs := [5, 7]) (by kernel_rfl) (by simp) ?_
        refine AllReadyH.cons (o := _) rfl (fun K hK => ?_) (AllReadyH.cons (o := _) rfl (fun K hK => ?_) AllReadyH.nil)
        · simp only [List.getElem_toArray, List.getElem_cons_zero, List.getElem_cons_succ]
          go_simp
          refine hK.out _ _ hHeld (fun hHeld => ?_)
          clear hK K
          try simp only [Act.put, List.setIfInBounds_toArray, List.set_cons_zero, List.set_cons_succ]
          refine wpAnyH_ready (rs := [7]) (by kernel_rfl) (by simp) ?_
          refine AllReadyH.cons (o := _) rfl (fun K hK => ?_) AllReadyH.nil
          simp only [List.getElem_toArray, List.getElem_cons_zero, List.getElem_cons_succ]
          go_simp
          refine hK.out _ _ nWA.out (fun hHeld => ?_)
          clear hK K
          try simp only [Act.put, List.setIfInBounds_toArray, List.set_cons_zero, List.set_cons_succ]
          refine wpAnyH_ready (rs := [8]) (by kernel_rfl) (by simp) ?_
          refine AllReadyH.cons (o := _) rfl (fun K hK => ?_) AllReadyH.nil
          refine step_append_lies _ (by rfl) _ _ _ (by rfl) w1.heap.size 52 j0 _ 3 24 Try.underlying77 hj0 hy0 hy1 hy2 rfl (by omega) (.slice ao5 d cap5) d (flatA (W.out k)) (by rfl) hrow ⟨W0.heap.size, 0, none⟩ 1 1 [.int .i64 v, .bool y, .int .i64 (i : Int)] (by rfl) (by rfl) (World.news_of_block (cs := #[.int .i64 v, .bool y, .int .i64 (i : Int)]) (t := 52) (fr := (0, 0)) (heap_new W0 _)) (by simp [Value.oneCell']) (by omega) (by unfold maxLen; omega) (by omega) hbs (W0.heap.size + 1) (by simp) ?_
          intro g1 cg1 W1 hown1 hgrow1 hat1 hlt1
          have hne5 : ∀ q, (Value.slice ao5 d cap5).ownBlock = some q → q < b5 := fun q hq => by
            have h8 := kut.out q hq
            have := (kX5.out.new q (by omega)).2
            have := kb5.out
            omega
          have b5l := (Array.getElem?_eq_some_iff.1 nWA.out).1
          have z4 : W1.heap[b5]? = _ := (hgrow1.block b5 b5l (fun e => by have := hne5 b5 e.symm; omega)).trans nWA.out
          refine hK.out _ _ z4 (fun hHeld => ?_)
          clear hK K
          try simp only [Act.put, List.setIfInBounds_toArray]
          refine' wpAnyH_take (i := 9) rfl (by kernel_rfl) (by kernel_rfl) (by kernel_rfl) (fun _ _ _ h => h) (Or.inl ⟨by rfl, ?_⟩) hHeld ?_
          rotate_left
          · intro W hSw
            have hSv : W.heap[b5]? = some (.cells #[.int .i64 v, .bool y, .int .i64 (i : Int)] 52 (0, 0)) := hSw
            clear hSw
            skip
            simp only [List.getElem_toArray, List.getElem_cons_zero, List.getElem_cons_succ]
            go_simp
            all_goals with_reducible rfl
          simp only [List.getElem_toArray, List.getElem_cons_zero, List.getElem_cons_succ, Act.put, List.setIfInBounds_toArray, List.set_cons_zero, List.set_cons_succ]
          refine wpAnyH_ready (rs := [10]) (by kernel_rfl) (by simp) ?_
          refine AllReadyH.cons (o := _) rfl (fun K hK => ?_) AllReadyH.nil
          have fW : Frm (fun q => τ2 q = 11 + 2 * k) w5 W1 := Frm.grown (Frm.mono oWA.out (fun _ _ h => h.elim)) hgrow1 (fun q hq => Or.inr (kut.out q hq))
          have nab : ¬ τ2 ab = 11 + 2 * k := by have := kX5.out.tab; omega
          have y4 : W1.cell? ⟨ab, k, none⟩ = some (.slice ao5 d cap5) := (World.cell?_of_block (hgrow1.block ab (Nat.lt_of_lt_of_le kX5.out.abl oWA.out.size) (fun e => nab (kut.out ab e.symm)))).trans cva
          have f4 : W1.frozen? ⟨ab, k, none⟩ = false := (frm_frozen fW kX5.out.abl nab k).trans (kX5.out.abz k)
          simp only [List.getElem_toArray, List.getElem_cons_zero, List.getElem_cons_succ]
          go_simp
          have hPX := (kX5.out.olds oWA.out).app (a := (v, y, (i : Int))) (g := g1) (cap := cg1) (by rw [kn.out]; exact hkn) cva kut.out hgrow1 (by simp only [kd'.out]; exact hown1) (hat1.elim Or.inl (fun e => Or.inr (by rw [e]; simp))) hlt1
          obtain ⟨τX, hPX⟩ := hPX
          simp only [kd'.out] at hPX
          have abl5 : ab < b5 := by have := kX5.out.abl; have := kb5.out; omega
          have sY : (W1.setCell ⟨ab, k, none⟩ (.slice (some ⟨g1, 0, none⟩) (d + 1) cg1)).heap[b5]? = _ := (Below.heap_setCell W1 ⟨ab, k, none⟩ _ b5 (by simp only; omega)).trans z4
          have fY : Frm (fun q => τ2 q = 9 ∨ τ2 q = 11 + 2 * k) w5 (W1.setCell ⟨ab, k, none⟩ (.slice (some ⟨g1, 0, none⟩) (d + 1) cg1)) := Frm.setCell (S := fun q => τ2 q = 9 ∨ τ2 q = 11 + 2 * k) (Frm.mono fW (fun _ _ h => Or.inr h)) ⟨ab, k, none⟩ (Or.inr (Or.inl kX5.out.tab)) _
          have tY := kT5.out.frm fY (by have := kX5.out.tub; omega)
          obtain ⟨YA, hYA⟩ : ∃ YA, W1.setCell ⟨ab, k, none⟩ (.slice (some ⟨g1, 0, none⟩) (d + 1) cg1) = YA := ⟨_, rfl⟩
          rw [hYA] at hPX sY tY ⊢
          refine hK.out _ _ sY (fun _ => ?_)
          clear hK K
          try simp only [Act.put]
          refine wpAnyH_done (by kernel_rfl) ?_ _
          refine NoPanic.normal ?_
          have kPX := hid hPX
          have ktY := hid tY
          have c0 := tY.c0
          have c1 := tY.c1
          have c2 := tY.c2
          have v0 := tY.fz (k * 3)
          have v1 := tY.fz (k * 3 + 1)
          have v2 := tY.fz (k * 3 + 2)
          clear hPX sY fY tY hYA hown1 hgrow1 hat1 hlt1 z4 y4 f4 fW nab hne5 b5l abl5 hHeld hrow hbs hlW nWA cv cva oWA oW0 hy0 hy1 hy2 hj0
          go_wp2_with fail
          refine ⟨⟨i + 1, by omega, by go_num, ?_⟩, by simp [intOf]; omega⟩
          rw [kS.out, walkStep_some kn.out kk.out kd'.out (by rw [kln.out]; exact hfull) kop.out kt1.out kR.out, ka.out a kR.out]
          obtain ⟨r1, r2, r3, r4⟩ := ktY.out.back
          exact ⟨τX, p2, kPX.out.reset r1 r2 r3 r4⟩
        · simp only [List.getElem_toArray, List.getElem_cons_zero, List.getElem_cons_succ]
          go_simp
          refine hK.out _ _ nWA.out (fun hHeld => ?_)
          clear hK K
          try simp only [Act.put, List.setIfInBounds_toArray, List.set_cons_zero, List.set_cons_succ]
          refine wpAnyH_ready (rs := [5]) (by kernel_rfl) (by simp) ?_
          refine AllReadyH.cons (o := _) rfl (fun K hK => ?_) AllReadyH.nil
          simp only [List.getElem_toArray, List.getElem_cons_zero, List.getElem_cons_succ]
          go_simp
          refine hK.out _ _ hHeld (fun hHeld => ?_)
          clear hK K
          try simp only [Act.put, List.setIfInBounds_toArray, List.set_cons_zero, List.set_cons_succ]
          refine wpAnyH_ready (rs := [8]) (by kernel_rfl) (by simp) ?_
          refine AllReadyH.cons (o := _) rfl (fun K hK => ?_) AllReadyH.nil
          refine step_append_lies _ (by rfl) _ _ _ (by rfl) w1.heap.size 52 j0 _ 3 24 Try.underlying77 hj0 hy0 hy1 hy2 rfl (by omega) (.slice ao5 d cap5) d (flatA (W.out k)) (by rfl) hrow ⟨W0.heap.size, 0, none⟩ 1 1 [.int .i64 v, .bool y, .int .i64 (i : Int)] (by rfl) (by rfl) (World.news_of_block (cs := #[.int .i64 v, .bool y, .int .i64 (i : Int)]) (t := 52) (fr := (0, 0)) (heap_new W0 _)) (by simp [Value.oneCell']) (by omega) (by unfold maxLen; omega) (by omega) hbs (W0.heap.size + 1) (by simp) ?_
          intro g1 cg1 W1 hown1 hgrow1 hat1 hlt1
          have hne5 : ∀ q, (Value.slice ao5 d cap5).ownBlock = some q → q < b5 := fun q hq => by
            have h8 := kut.out q hq
            have := (kX5.out.new q (by omega)).2
            have := kb5.out
            omega
          have b5l := (Array.getElem?_eq_some_iff.1 nWA.out).1
          have z4 : W1.heap[b5]? = _ := (hgrow1.block b5 b5l (fun e => by have := hne5 b5 e.symm; omega)).trans nWA.out
          refine hK.out _ _ z4 (fun hHeld => ?_)
          clear hK K
          try simp only [Act.put, List.setIfInBounds_toArray]
          refine' wpAnyH_take (i := 9) rfl (by kernel_rfl) (by kernel_rfl) (by kernel_rfl) (fun _ _ _ h => h) (Or.inl ⟨by rfl, ?_⟩) hHeld ?_
          rotate_left
          · intro W hSw
            have hSv : W.heap[b5]? = some (.cells #[.int .i64 v, .bool y, .int .i64 (i : Int)] 52 (0, 0)) := hSw
            clear hSw
            skip
            simp only [List.getElem_toArray, List.getElem_cons_zero, List.getElem_cons_succ]
            go_simp
            all_goals with_reducible rfl
          simp only [List.getElem_toArray, List.getElem_cons_zero, List.getElem_cons_succ, Act.put, List.setIfInBounds_toArray, List.set_cons_zero, List.set_cons_succ]
          refine wpAnyH_ready (rs := [10]) (by kernel_rfl) (by simp) ?_
          refine AllReadyH.cons (o := _) rfl (fun K hK => ?_) AllReadyH.nil
          have fW : Frm (fun q => τ2 q = 11 + 2 * k) w5 W1 := Frm.grown (Frm.mono oWA.out (fun _ _ h => h.elim)) hgrow1 (fun q hq => Or.inr (kut.out q hq))
          have nab : ¬ τ2 ab = 11 + 2 * k := by have := kX5.out.tab; omega
          have y4 : W1.cell? ⟨ab, k, none⟩ = some (.slice ao5 d cap5) := (World.cell?_of_block (hgrow1.block ab (Nat.lt_of_lt_of_le kX5.out.abl oWA.out.size) (fun e => nab (kut.out ab e.symm)))).trans cva
          have f4 : W1.frozen? ⟨ab, k, none⟩ = false := (frm_frozen fW kX5.out.abl nab k).trans (kX5.out.abz k)
          simp only [List.getElem_toArray, List.getElem_cons_zero, List.getElem_cons_succ]
          go_simp
          have hPX := (kX5.out.olds oWA.out).app (a := (v, y, (i : Int))) (g := g1) (cap := cg1) (by rw [kn.out]; exact hkn) cva kut.out hgrow1 (by simp only [kd'.out]; exact hown1) (hat1.elim Or.inl (fun e => Or.inr (by rw [e]; simp))) hlt1
          obtain ⟨τX, hPX⟩ := hPX
          simp only [kd'.out] at hPX
          have abl5 : ab < b5 := by have := kX5.out.abl; have := kb5.out; omega
          have sY : (W1.setCell ⟨ab, k, none⟩ (.slice (some ⟨g1, 0, none⟩) (d + 1) cg1)).heap[b5]? = _ := (Below.heap_setCell W1 ⟨ab, k, none⟩ _ b5 (by simp only; omega)).trans z4
          have fY : Frm (fun q => τ2 q = 9 ∨ τ2 q = 11 + 2 * k) w5 (W1.setCell ⟨ab, k, none⟩ (.slice (some ⟨g1, 0, none⟩) (d + 1) cg1)) := Frm.setCell (S := fun q => τ2 q = 9 ∨ τ2 q = 11 + 2 * k) (Frm.mono fW (fun _ _ h => Or.inr h)) ⟨ab, k, none⟩ (Or.inr (Or.inl kX5.out.tab)) _
          have tY := kT5.out.frm fY (by have := kX5.out.tub; omega)
          obtain ⟨YA, hYA⟩ : ∃ YA, W1.setCell ⟨ab, k, none⟩ (.slice (some ⟨g1, 0, none⟩) (d + 1) cg1) = YA := ⟨_, rfl⟩
          rw [hYA] at hPX sY tY ⊢
          refine hK.out _ _ sY (fun _ => ?_)
          clear hK K
          try simp only [Act.put]
          refine wpAnyH_done (by kernel_rfl) ?_ _
          refine NoPanic.normal ?_
          have kPX := hid hPX
          have ktY := hid tY
          have c0 := tY.c0
          have c1 := tY.c1
          have c2 := tY.c2
          have v0 := tY.fz (k * 3)
          have v1 := tY.fz (k * 3 + 1)
          have v2 := tY.fz (k * 3 + 2)
          clear hPX sY fY tY hYA hown1 hgrow1 hat1 hlt1 z4 y4 f4 fW nab hne5 b5l abl5 hHeld hrow hbs hlW nWA cv cva oWA oW0 hy0 hy1 hy2 hj0
          go_wp2_with fail
          refine ⟨⟨i + 1, by omega, by go_num, ?_⟩, by simp [intOf]; omega⟩
          rw [kS.out, walkStep_some kn.out kk.out kd'.out (by rw [kln.out]; exact hfull) kop.out kt1.out kR.out, ka.out a kR.out]
          obtain ⟨r1, r2, r3, r4⟩ := ktY.out.back
          exact ⟨τX, p2, kPX.out.reset r1 r2 r3 r4⟩
  obtain rfl : i = m := by omega
  obtain ⟨τ, p, hX⟩ := kR.out
  clear kR
  have gts := walkTo_gt (O := O) (P := P) (W := walk0 mk gt ts n) i
  have be := bench_end B τ p (walkTo O P (walk0 mk gt ts n) i).s mk wr hX.bench (by rw [hX.len, kn.out]; exact h1) hX.bnd.len hX.bnd.tk0 hX.bnd.tkt hX.bnd.tsM
  rw [gts.1, gts.2] at be
  have kbe := hid be
  have kX := hid hX
  have s00 := hX.old.cell (three_cells knA.out).1
  have s01 := hX.old.cell (three_cells knA.out).2.1
  have s02 := hX.old.cell (three_cells knA.out).2.2.1
  clear hX be gts
  go_wp2_with fail
  refine kbe.out.mono ?_
  rintro e w6 ⟨rfl, o6⟩
  obtain ⟨e0, e1, e2, e3, e4, e5, e6, e7, he⟩ : ∃ (e0 e1 e2 e3 : Int) (e4 : Bool) (e5 : Int) (e6 : Bool) (e7 : Int), endV (walkTo O P (walk0 mk gt ts n) i).s = .agg #[.int .i64 e0, .int .i64 e1, .int .i64 e2, .int .i64 e3, .bool e4, .int .i64 e5, .bool e6, .int .i64 e7] := ⟨_, _, _, _, _, _, _, _, rfl⟩
  rw [he]
  have ke := hid he
  have hb : w6.heap[s0 + 1]? = some (.cells #[.int .i64 0, .int .i64 0, .int .i64 0, .int .i64 0, .bool false, .int .i64 0, .bool false, .int .i64 0] 63 (0, 0)) := by
    have l1 := (Array.getElem?_eq_some_iff.1 knB.out).1
    rw [o6.block _ (Nat.lt_of_lt_of_le l1 kX.out.old.size) (fun h => h), kX.out.old.block _ l1 (fun h => h)]
    exact knB.out
  have g : ∀ i v, (#[.int .i64 0, .int .i64 0, .int .i64 0, .int .i64 0, .bool false, .int .i64 0, .bool false, .int .i64 0] : Array Value)[i]? = some v → w6.cell? ⟨s0 + 1, i, none⟩ = some v := fun i v hv => by simp only [World.cell?, hb]; exact hv
  have gz : ∀ i, w6.frozen? ⟨s0 + 1, i, none⟩ = false := fun i => by simp [World.frozen?, hb]
  have g0 := g 0 _ rfl
  have z0 := gz 0
  have g1 := g 1 _ rfl
  have z1 := gz 1
  have g2 := g 2 _ rfl
  have z2 := gz 2
  have g3 := g 3 _ rfl
  have z3 := gz 3
  have g4 := g 4 _ rfl
  have z4 := gz 4
  have g5 := g 5 _ rfl
  have z5 := gz 5
  have g6 := g 6 _ rfl
  have z6 := gz 6
  have g7 := g 7 _ rfl
  have z7 := gz 7
  obtain ⟨q1, q2⟩ := set_eight (.int .i64 e0) (.int .i64 e1) (.int .i64 e2) (.int .i64 e3) (.bool e4) (.int .i64 e5) (.bool e6) (.int .i64 e7) hb
  have ko6 := hid o6
  have kq1 := hid q1
  have kq2 := hid q2
  clear kbe he hb g gz o6 q1 q2 s00 s01 s02
  go_wp2_with fail
  obtain ⟨X3, x3⟩ : ∃ X3, (((((((w6.setCell ⟨s0 + 1, 0, none⟩ (.int .i64 e0)).setCell ⟨s0 + 1, 1, none⟩ (.int .i64 e1)).setCell ⟨s0 + 1, 2, none⟩ (.int .i64 e2)).setCell ⟨s0 + 1, 3, none⟩ (.int .i64 e3)).setCell ⟨s0 + 1, 4, none⟩ (.bool e4)).setCell ⟨s0 + 1, 5, none⟩ (.int .i64 e5)).setCell ⟨s0 + 1, 6, none⟩ (.bool e6)).setCell ⟨s0 + 1, 7, none⟩ (.int .i64 e7) = X3 := ⟨_, rfl⟩
  rw [x3] at kq1 kq2 ⊢
  clear x3 g0 z0 g1 z1 g2 z2 g3 z3 g4 z4 g5 z5 g6 z6 g7 z7
  go_wp2
  have g : ∀ i v, (#[.int .i64 e0, .int .i64 e1, .int .i64 e2, .int .i64 e3, .bool e4, .int .i64 e5, .bool e6, .int .i64 e7] : Array Value)[i]? = some v → X3.cell? ⟨s0 + 1, i, none⟩ = some v := fun i v hv => by simp only [World.cell?, kq1.out]; exact hv
  have g0 := g 0 _ rfl
  have g1 := g 1 _ rfl
  have g2 := g 2 _ rfl
  have g3 := g 3 _ rfl
  have g4 := g 4 _ rfl
  have g5 := g 5 _ rfl
  have g6 := g 6 _ rfl
  have g7 := g 7 _ rfl
  have l1 := (Array.getElem?_eq_some_iff.1 knB.out).1
  have z1 := kzA.out
  have z2 := kab.out
  have z3 := ks.out
  refine bodyPost_ret (v := .tuple #[.slice (some ⟨ab, 0, none⟩) n n, .agg #[.int .i64 e0, .int .i64 e1, .int .i64 e2, .int .i64 e3, .bool e4, .int .i64 e5, .bool e6, .int .i64 e7], .int .i64 0]) ?_ rfl ⟨ab, by rw [ke.out], ?_, by omega, fun j hj => ?_⟩
  · simp [results, Try.f21, go_sem, g0, g1, g2, g3, g4, g5, g6, g7]
  · exact Frm.trans ((ko.out.trans kX.out.old).trans ko6.out) kq2.out (fun k hk e => by omega)
  · obtain ⟨v, v1, v2, v3⟩ := kX.out.rows j (by rw [kn.out]; exact hj)
    refine ⟨v, frm_cell kq2.out (ko6.out.cell v1) (by simp only; omega), owns_mono (owns_frm (owns_frm v2 ko6.out (fun _ _ h => h)) kq2.out (fun q hq e => ?_)) (by omega)⟩
    have := (v2.lt q hq).1
    omega
end Go.Proofs.Ytpnnfkgnkalhlaa
