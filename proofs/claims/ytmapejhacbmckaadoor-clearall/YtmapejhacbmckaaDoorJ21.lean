/- All's function: walked. -/
import Derived.Test.YtmapejhacbmckaaDoorJ20
namespace Go.Proofs.YtmapejhacbmckaaDoor
open Go.RowKit Go.Lib Go.Shelf
attribute [local go_sem] Oper.semAt_some



/-- What All's function finds. -/
def AllG (m : Nat) (n : Nat) (s a : Nat) (ao : Option Addr) (cap : Nat) (Y : World) : Prop := Y.cell? ⟨s, 0, none⟩ = some (.int .i64 (m : Int)) ∧ Y.cell? ⟨s, 1, none⟩ = some (.slice ao n cap) ∧ Y.cell? ⟨a, 0, none⟩ = some (.int .u32 ((allZ (m : Int)).1 : Int))

theorem AllG.frm {m n s a : Nat} {ao : Option Addr} {cap : Nat} {S : Nat → Prop} {X Y : World} (h : AllG m n s a ao cap X) (hf : Frm S X Y) (h1 : ¬ S s) (h2 : ¬ S a) : AllG m n s a ao cap Y := ⟨frm_cell hf h.1 h1, frm_cell hf h.2.1 h1, frm_cell hf h.2.2 h2⟩
theorem AllG.old {m n s a : Nat} {ao : Option Addr} {cap : Nat} {X Y : World} (h : AllG m n s a ao cap X) (o : Old X Y) : AllG m n s a ao cap Y := h.frm o (fun h => h) (fun h => h)
theorem AllG.kept {m n s a : Nat} {ao : Option Addr} {cap : Nat} {T : Nat → Prop} {X Y : World} (h : AllG m n s a ao cap X) (hk : KeptC T X Y) (h1 : ¬ T s) (h2 : ¬ T a) : AllG m n s a ao cap Y := ⟨kept_cell hk h1 h.1, kept_cell hk h1 h.2.1, kept_cell hk h2 h.2.2⟩

set_option maxRecDepth 100000 in
set_option maxHeartbeats 4000000 in
theorem all2_M (d : Nat) (m : Nat) (B : Ins) (s a : Nat) (ao : Option Addr) (cap : Nat) (T : Nat → Prop) (w : World) (hz : insZ (m : Int) B = 0) (hcap : B.length ≤ cap)
    (hI : InsK T w ao B) (hG : AllG m B.length s a ao cap w) (hT : Tabs w) (htn : ∀ q, T q → q < w.heap.size) (hsa : s < w.heap.size ∧ a < w.heap.size ∧ ¬ T s ∧ ¬ T a) (hlt : ∀ l ∈ B, ∀ x ∈ l, x.1 < 4294967296) :
    SeqM Tryd.prog d 48 #[.pointer (some ⟨s, 0, none⟩), .pointer (some ⟨a, 0, none⟩)] encC (fun _ => False) (fun x X Y => KeptC (Tb T x.1) X Y) (fun x X => NewZ w.heap.size X x.1 x.2) (fun _ => True) Fd
      (fun q => ∃ r, allC B (allZ (m : Int)).1 = q.map Prod.snd ++ r) (fun q => q.map Prod.snd = allC B (allZ (m : Int)).1) (fun q => ∃ r, allC B (allZ (m : Int)).1 = q.map Prod.snd ++ r) w := by
  intro lp J Jx W hbe hJ hJx hY h0
  have oW := Old.of_below hbe
  have tp := tops_of hz hlt
  obtain ⟨m', hm', hm1, hm10, hall⟩ := tp.m
  obtain rfl : m = m' := by omega
  have hfl : (allZ (m : Int)).1 < 2 ^ m := by rw [hall]; have : 0 < 2 ^ m := Nat.pow_pos (by decide); omega
  have hal := all_lt (m : Int)
  have kcW : KeptC T w W := KeptC.of_frm (Frm.mono oW (fun _ _ h => h.elim))
  have kI := hid (hI.next kcW)
  have kG := hid (hG.old oW)
  have kS := hid (fun V (o : Old W V) => newSearch_any m ao cap B 0 (by omega) hz hcap V ((hI.next kcW).ins (KeptC.of_frm (Frm.mono o (fun _ _ h => h.elim)))) ((hT.old oW).old o))
  have khJ := hid hJ
  have khJx := hid hJx
  have khY := hid hY
  have kh0 := hid h0
  have koW := hid oW
  have ktn := hid htn
  have ksa := hid hsa
  clear hI hG hT hJ hJx hY h0 oW hbe kcW htn hsa hm' tp
  clear hall
  generalize hf : (allZ (m : Int)).1 = f at *
  refine callsIn_wide.2 ((callsIn_wide (n := 5)).1 ?_)
  refine callsIn_of_wp_marks Tryd.func48 rfl trivial ?_ rfl
  simp only [Tryd.ntmps48, List.size_toArray, List.length_cons, List.length_nil, Nat.reduceAdd, Nat.reduceSub, Array.replicate_succ, Array.replicate_zero, List.push_toArray, List.append_toArray, List.nil_append, List.cons_append]
  gi_wp2_with fail
  refine wpIn_wide.2 ?_
  refine wp_region_noPanic ?_
  refine wp_region_held_drew (S := AllG m B.length s a ao cap) (by kernel_rfl) (kG.out.old ((Old.refl W).drewN 1)) (fun hHeld => ?_)
  have koV : Hid (Old W W.drew) := (Old.refl W).drewN 1
  generalize W.drew = V at *
  refine' wpAnyH_take (i := 0) rfl (by kernel_rfl) (by kernel_rfl) (by kernel_rfl) (fun _ _ _ h => h) (Or.inl ⟨by rfl, ?_⟩) hHeld ?_
  rotate_left
  · intro W hSw
    obtain ⟨r1, r2, r3⟩ := hSw
    simp only [List.getElem_toArray, List.getElem_cons_zero]
    go_simp
    all_goals with_reducible rfl
  simp only [List.getElem_toArray, List.getElem_cons_zero, Act.put, List.setIfInBounds_toArray, List.set_cons_zero, List.set_cons_succ]
  refine' wpAnyH_take (i := 2) rfl (by kernel_rfl) (by kernel_rfl) (by kernel_rfl) (fun _ _ _ h => h) (Or.inl ⟨by rfl, ?_⟩) hHeld ?_
  rotate_left
  · intro W hSw
    obtain ⟨r1, r2, r3⟩ := hSw
    simp only [List.getElem_toArray, List.getElem_cons_zero, List.getElem_cons_succ]
    go_simp
    all_goals with_reducible rfl
  simp only [List.getElem_toArray, List.getElem_cons_zero, List.getElem_cons_succ, Act.put, List.setIfInBounds_toArray, List.set_cons_zero, List.set_cons_succ]
  refine' wpAnyH_take (i := 3) rfl (by kernel_rfl) (by kernel_rfl) (by kernel_rfl) (fun _ _ _ h => h) (Or.inl ⟨by rfl, ?_⟩) hHeld ?_
  rotate_left
  · intro W hSw
    obtain ⟨r1, r2, r3⟩ := hSw
    simp only [List.getElem_toArray, List.getElem_cons_zero, List.getElem_cons_succ]
    go_simp
    all_goals with_reducible rfl
  simp only [List.getElem_toArray, List.getElem_cons_zero, List.getElem_cons_succ, Act.put, List.setIfInBounds_toArray, List.set_cons_zero, List.set_cons_succ]
  refine' wpAnyH_take (i := 5) rfl (by kernel_rfl) (by kernel_rfl) (by kernel_rfl) (fun _ _ _ h => h) (Or.inl ⟨by rfl, ?_⟩) hHeld ?_
  rotate_left
  · intro W hSw
    obtain ⟨r1, r2, r3⟩ := hSw
    simp only [List.getElem_toArray, List.getElem_cons_zero, List.getElem_cons_succ]
    go_simp
    all_goals with_reducible rfl
  simp only [List.getElem_toArray, List.getElem_cons_zero, List.getElem_cons_succ, Act.put, List.setIfInBounds_toArray, List.set_cons_zero, List.set_cons_succ]
  refine wpAnyH_ready (rs := [1]) (by kernel_rfl) (by simp) ?_
  refine AllReadyH.cons (o := _) rfl (fun K hK => ?_) AllReadyH.nil
  simp only [List.getElem_toArray, List.getElem_cons_zero, List.getElem_cons_succ]
  go_simp
  refine (kS.out V koV.out).mono ?_
  rintro e w3 ⟨P, sb, mb, cb, cc, rfl, ok, hsr, hm, o3, g1, g2, g3⟩
  refine hK.out _ _ (hHeld.old o3) (fun hHeld2 => ?_)
  clear hHeld hK
  have hHeld := hHeld2
  clear hHeld2
  try simp only [Act.put, List.setIfInBounds_toArray, List.set_cons_zero, List.set_cons_succ]
  have kCh := hid (fun V => choices_any (sb := sb) 0 f V)
  unfold partV at kCh
  rw [show ((0 : Nat) : Int) = 0 from rfl] at kCh
  refine wpAnyH_ready (rs := [4]) (by kernel_rfl) (by simp) ?_
  refine AllReadyH.cons (o := _) rfl (fun K hK => ?_) AllReadyH.nil
  simp only [List.getElem_toArray, List.getElem_cons_zero, List.getElem_cons_succ]
  go_simp
  refine (kCh.out w3).mono ?_
  rintro e w' ⟨rfl, e9⟩
  rw [e9]
  clear e9 w'
  obtain ⟨qb, hqb⟩ : ∃ qb, w3.heap.size = qb := ⟨_, rfl⟩
  rw [hqb]
  have o6 : Old w3 (w3.alloc (.cells #[.pointer (some ⟨sb, 0, none⟩)] 78)) := (Old.refl w3).alloc _
  have b6 := heap_new w3 (.cells #[.pointer (some ⟨sb, 0, none⟩)] 78)
  have z6 := alloc_size w3 (.cells #[.pointer (some ⟨sb, 0, none⟩)] 78)
  rw [hqb] at b6 z6
  generalize w3.alloc (.cells #[.pointer (some ⟨sb, 0, none⟩)] 78) = w6 at *
  have o7 : Old w6 (w6.alloc (.cells #[.int .i64 (0 : Int), .int .u32 (f : Int)] 82)) := (Old.refl w6).alloc _
  have b7 := heap_new w6 (.cells #[.int .i64 (0 : Int), .int .u32 (f : Int)] 82)
  have z7 := alloc_size w6 (.cells #[.int .i64 (0 : Int), .int .u32 (f : Int)] 82)
  rw [z6] at b7 z7
  have oX := o6.trans o7
  refine hK.out _ _ (hHeld.old oX) (fun hHeld2 => ?_)
  clear hHeld hK
  have hHeld := hHeld2
  clear hHeld2
  try simp only [Act.put, List.setIfInBounds_toArray, List.set_cons_zero, List.set_cons_succ]
  have kHX := hid hHeld
  generalize w6.alloc (.cells #[.int .i64 (0 : Int), .int .u32 (f : Int)] 82) = X0 at *
  have kb6 := hid ((o7.block _ (blk_lt b6) (fun h => h)).trans b6)
  have kb7 := hid b7
  have kzX := hid z7
  have koX := hid oX
  have kWX := hid ((koV.out.trans o3).trans oX)
  have kWV := koV.out.size
  have kWw := koW.out.size
  have h3s := o3.size
  have kTX : ∀ q, T q → q < W.heap.size := fun q e => by have := ktn.out q e; omega
  have hnT : ∀ q, W.heap.size ≤ q → ¬ T q := fun q h e => by have := kTX q e; omega
  have hmlt := hm.lt
  have kMs := hid (choices1_M d ok 0 f (by omega) hfl qb (qb + 1) T X0 (SrK.ofK (N := W.heap.size) hsr koX.out (kI.out.next (KeptC.of_frm (Frm.mono (koV.out.trans o3) (fun _ _ h => h.elim)))) kTX (by omega) (by omega))
      (fun Y hY => by
        have d0 := blk_cells (i := 0) kb7.out rfl
        have d1 := blk_cells (i := 1) kb7.out rfl
        simp only [List.getElem_toArray, List.getElem_cons_zero, List.getElem_cons_succ] at d0 d1
        exact ⟨kept_cell hY (hnT _ (by dsimp only; omega)) (blk_cell kb6.out), kept_cell hY (hnT _ (by dsimp only; omega)) d0, kept_cell hY (hnT _ (by dsimp only; omega)) d1⟩) (hm.kept koX.out (fun h => h)) (fun q e => by have := kTX q e; omega))
  have kmb : mb < X0.heap.size ∧ W.heap.size ≤ mb := ⟨by omega, by omega⟩
  have hs2 := ksa.out
  have kRun := hid (kMs.out lp (fun p X => J p X ∧ Bw X0.heap.size X.heap.size p ∧ AllG m B.length s a ao cap X) (fun p X => Jx p X ∧ Bw X0.heap.size X.heap.size p ∧ AllG m B.length s a ao cap X) X0 (Old.refl X0).below
    (fun p X Y ⟨h1, h2, h3⟩ hf => ⟨khJ.out p X Y h1 (Frm.mono hf (fun k _ e => by
        rcases e with rfl | e
        · exact .inr ⟨kmb.2, h2.fd (.inl kmb.1)⟩
        · exact .inr ⟨by omega, e.2⟩)), h2.mono (Nat.le_refl _) hf.size, h3.frm hf (by omega) (by omega)⟩)
    (fun p X Y ⟨h1, h2, h3⟩ hf => ⟨khJx.out p X Y h1 (Frm.mono hf (fun k _ e => by
        rcases e with rfl | e
        · exact .inr ⟨kmb.2, h2.fd (.inl kmb.1)⟩
        · exact .inr ⟨by omega, e.2⟩)), h2.mono (Nat.le_refl _) hf.size, h3.frm hf (by omega) (by omega)⟩)
    (fun p x X ⟨h1, h2, h3⟩ hp ⟨hz1, hkm⟩ => by
      have hz2 : NewZ w.heap.size X x.1 x.2 := hz1.up (by omega)
      have hp2 : ∃ r, allC B f = (p ++ [x]).map Prod.snd ++ r := by rw [← told_zero]; exact hp
      refine YieldAt.mono (khY.out p x X h1 hp2 hz2) ?_
      rintro e Y ⟨g4, g5, g6⟩
      obtain ⟨es, cm, hblk⟩ := hkm.blk
      have hbw : Bw X0.heap.size Y.heap.size (p ++ [x]) := (h2.mono (Nat.le_refl _) g4.size).app (fun y hy t n c e => by
        obtain rfl : y = x := by simpa using hy
        obtain ⟨ao', c', e1, e2⟩ := hz1
        rw [e] at e1
        rcases e2 with ⟨e2, -⟩ | ⟨b, cur, e2, e3, e4, -⟩
        · rw [e2] at e1
          cases e1
        · rw [e2] at e1
          obtain rfl : t = b := by
            simp only [Value.slice.injEq, Option.some.injEq, Addr.mk.injEq] at e1
            exact e1.1.1
          have := blk_lt e4
          have := g4.size
          exact ⟨e3, by omega⟩)
      have hnx : ∀ q, q < X0.heap.size → ¬ T q → ¬ Tb T x.1 q := fun q hq hT e => by
        rcases e with e | ⟨n, c, e⟩
        · exact hT e
        · have := hbw x (by simp) q n c e
          omega
      have hG2 : AllG m B.length s a ao cap Y := h3.kept g5 (hnx s (by omega) hs2.2.2.1) (hnx a (by omega) hs2.2.2.2)
      refine ⟨keeps_up g4 (by omega), ⟨g5, ?_⟩, g6.imp (fun g => ⟨g.1, g.2, hbw, hG2⟩) (fun g => ⟨g.1, g.2, hbw, hG2⟩)⟩
      rw [hblk]
      exact g4.same mb _ kmb.2 hblk rfl)
    ⟨khJ.out _ _ _ kh0.out (Frm.mono kWX.out (fun _ _ h => h.elim)), Bw.nil, kHX.out⟩)
  refine wpAnyH_ready (rs := [6]) (by kernel_rfl) (by simp) ?_
  refine AllReadyH.cons (o := _) rfl (fun K hK => ?_) AllReadyH.nil
  simp only [List.getElem_toArray, List.getElem_cons_zero, List.getElem_cons_succ]
  go_simp
  refine (callsIn_wide.1 kRun.out).mono ?_
  rintro e Y ⟨⟨v, rfl⟩, -, hfin⟩
  have hfin2 : Hid (AllG m B.length s a ao cap Y ∧ ((∃ q, q.map Prod.snd = allC B f ∧ J q Y) ∨ (∃ p, (∃ r, allC B f = p.map Prod.snd ++ r) ∧ Jx p Y))) := by
    rcases hfin with ⟨q, f1, f2, f3, f4⟩ | ⟨q, f1, f2, f3, f4⟩
    · exact ⟨f4, .inl ⟨q, by rw [← told_zero]; exact f1, f2⟩⟩
    · exact ⟨f4, .inr ⟨q, by rw [← told_zero]; exact f1, f2⟩⟩
  clear hfin
  refine hK.out _ _ (hfin2.out.1) (fun hHeld2 => ?_)
  clear hHeld hK
  have hHeld := hHeld2
  clear hHeld2
  try simp only [Act.put, List.setIfInBounds_toArray, List.set_cons_zero, List.set_cons_succ]
  refine wpAnyH_done (by kernel_rfl) ?_ _
  refine NoPanic.normal ?_
  gi_wp2_with fail
  refine leave_marks [] _ ⟨by simp, fun r hr => by simp at hr⟩ (fun W' hW' => ?_)
  have hfo : ∀ p : List Ch, Frm (fun k => False ∨ (W.heap.size ≤ k ∧ Fd p k)) Y W' := fun p => Frm.mono hW' (fun _ _ h => by simp at h)
  refine ⟨_, results_none rfl _ _ _, ⟨_, rfl⟩, ?_⟩
  exact hfin2.out.2.imp (fun ⟨q, g1, g2⟩ => ⟨q, g1, khJ.out _ _ _ g2 (hfo _)⟩) (fun ⟨q, g1, g2⟩ => ⟨q, g1, khJx.out _ _ _ g2 (hfo _)⟩)
end Go.Proofs.YtmapejhacbmckaaDoor

/- The document's table: in plain words. -/
namespace Go.Proofs.YtmapejhacbmckaaDoor
open Go.RowKit Go.Lib Go.Shelf

theorem wrap_i64' (x : Int) (h : 0 ≤ x ∧ x ≤ 9223372036854775807) : IntKind.i64.wrap x = x := by
  unfold IntKind.wrap
  simp [IntKind.bits, IntKind.signed]
  omega
theorem bits_and_i64 (a b : Nat) (ha : a < 4294967296) (hb : b < 4294967296) : bits .and .i64 (a : Int) (b : Int) = ((a &&& b : Nat) : Int) := by
  have hx : a &&& b ≤ a := Nat.and_le_left
  have h1 : (BitVec.ofInt 64 (a : Int)).toNat = a := by
    rw [BitVec.ofInt_natCast, BitVec.toNat_ofNat]; exact Nat.mod_eq_of_lt (by omega)
  have h2 : (BitVec.ofInt 64 (b : Int)).toNat = b := by
    rw [BitVec.ofInt_natCast, BitVec.toNat_ofNat]; exact Nat.mod_eq_of_lt (by omega)
  show IntKind.i64.wrap ((BitVec.ofInt 64 (a : Int) &&& BitVec.ofInt 64 (b : Int)).toNat : Int) = _
  rw [BitVec.toNat_and, h1, h2, wrap_i64']
  omega

theorem and_is {g f : Nat} (hg : g < 4294967296) : g &&& f = g ↔ subB g f = true := by
  rw [subB_iff hg]
  constructor
  · intro h i hi
    have h2 : (g &&& f).testBit i = true := by rw [h]; exact hi
    rw [Nat.testBit_and] at h2
    simp at h2
    exact h2.2
  · intro h
    refine eq_of_bits (fun i => ?_)
    rw [Nat.testBit_and]
    cases hb : g.testBit i with
    | false => rfl
    | true => rw [h i hb]; rfl

theorem sub_less {g f : Nat} (hf : f < 4294967296) (hg : g < 4294967296) (h : subB g f = true) : g ≤ f ∧ f - g = less f g := by
  have hs := (subB_iff hg).1 h
  have h1 : g &&& less f g = 0 := eq_of_bits (fun i => by
    rw [Nat.testBit_and, less_bit _ _ hf, Nat.zero_testBit]
    cases g.testBit i <;> simp)
  have h2 : g ||| less f g = f := eq_of_bits (fun i => by
    rw [Nat.testBit_or, less_bit _ _ hf]
    cases hb : g.testBit i with
    | false => simp
    | true => rw [hs i hb]; rfl)
  have h4 := less_lt f g
  have h3 : g + less f g = g ||| less f g := by
    have e1 : (BitVec.ofNat 64 g) &&& (BitVec.ofNat 64 (less f g)) = 0#64 := by
      rw [← BitVec.ofNat_and, h1]
    have e2 := congrArg BitVec.toNat (BitVec.add_eq_or_of_and_eq_zero _ _ e1)
    rw [BitVec.toNat_add, BitVec.toNat_or, BitVec.toNat_ofNat, BitVec.toNat_ofNat, Nat.mod_eq_of_lt (show g < 2 ^ 64 by omega), Nat.mod_eq_of_lt (show less f g < 2 ^ 64 by omega), Nat.mod_eq_of_lt (by omega)] at e2
    exact e2
  omega

/-- What one more offer makes of it. -/
def tbS (R : Ins) (f : Nat) (w : Int) (o : Off) : Int := if subB o.1 f = true then max w (o.2 + best R (less f o.1)) else w
theorem tb_top (R : Ins) (f : Nat) : ∀ (l : List Off) (i : Nat) (m : Int), topL m ((optA f l i).map (fun o => o.2.1 + best R o.2.2)) = l.foldl (tbS R f) (max m (0 + best R f))
  | [], i, m => rfl
  | o :: l, i, m => by
    rw [List.foldl_cons, optA]
    unfold tbS
    by_cases h : subB o.1 f = true
    · rw [if_pos h, if_pos h, List.map_cons]
      show topL (max m (o.2 + best R (less f o.1))) _ = _
      rw [tb_top R f l (i + 1)]
      congr 1
      omega
    · rw [if_neg h, if_neg h]
      exact tb_top R f l (i + 1) m
theorem tb_is (R : Ins) (f : Nat) (l : List Off) : l.foldl (tbS R f) (best R f) = best (l :: R) f := by
  have h := tb_top R f l 0 0
  have h2 := best_pos R f
  rw [show max 0 (0 + best R f) = best R f by omega] at h
  rw [best_cons]
  exact h.symm

/-- A row of the table, so far. -/
def rowL (B : Ins) (k S j : Nat) : List Value := (List.range j).map (fun i => Value.int .i64 (best (B.drop k) i)) ++ List.replicate (S - j) (Value.int .i64 0)
theorem rowL_len {B : Ins} {k S j : Nat} (h : j ≤ S) : (rowL B k S j).length = S := by simp [rowL]; omega
theorem rowL_get {B : Ins} {k S j i : Nat} (h : i < j) : (rowL B k S j)[i]? = some (.int .i64 (best (B.drop k) i)) := by
  unfold rowL
  rw [List.getElem?_append_left (by simpa using h)]
  simp [h]
theorem rowL_set {B : Ins} {k S j : Nat} (h : j < S) : (rowL B k S j).set j (.int .i64 (best (B.drop k) j)) = rowL B k S (j + 1) := by
  unfold rowL
  rw [List.set_append_right _ _ (by simp), List.range_succ, List.map_append, List.append_assoc]
  obtain ⟨d, hd⟩ : ∃ d, S - j = d + 1 := ⟨S - j - 1, by omega⟩
  rw [hd, show S - (j + 1) = d by omega, List.replicate_succ]
  simp

theorem rowL_at {B : Ins} {k S j : Nat} (h : j < S) : (rowL B k S j)[j]? = some (.int .i64 0) := by
  unfold rowL
  rw [List.getElem?_append_right (by simp), List.length_map, List.length_range, Nat.sub_self, List.getElem?_replicate, if_pos (by omega)]
theorem rowL_zero (B : Ins) (k S : Nat) : rowL B k S 0 = List.replicate S (.int .i64 0) := by simp [rowL]
theorem rowL_last (B : Ins) (k S : Nat) : rowL B B.length S S = rowL B k S 0 := by
  rw [rowL_zero]
  unfold rowL
  rw [List.drop_length, Nat.sub_self]
  simp [best_nil]
  induction S with
  | zero => rfl
  | succ S ih => rw [List.range_succ, List.map_append, ih, List.replicate_succ']; rfl

/-- The table, from some buyer on. -/
structure TB (w : World) (B : Ins) (S K tb : Nat) (V : List Value) : Prop where
  blk : w.heap[tb]? = some (.cells V.toArray 87 (0, 0))
  len : V.length = B.length + 1
  rows : ∀ j, K ≤ j → j ≤ B.length → ∃ rb, V[j]? = some (.slice (some ⟨rb, 0, none⟩) S S) ∧ w.heap[rb]? = some (.cells (rowL B j S S).toArray 2 (0, 0))

theorem TB.cell {w : World} {B : Ins} {S K tb : Nat} {V : List Value} (h : TB w B S K tb V) {j : Nat} (h1 : K ≤ j) (h2 : j ≤ B.length) : ∃ rb, w.cell? ⟨tb, j, none⟩ = some (.slice (some ⟨rb, 0, none⟩) S S) ∧ ∀ f, f < S → w.cell? ⟨rb, f, none⟩ = some (.int .i64 (best (B.drop j) f)) := by
  obtain ⟨rb, e1, e2⟩ := h.rows j h1 h2
  exact ⟨rb, blk_cells h.blk (by simpa using e1), fun f hf => blk_cells e2 (by simpa using rowL_get hf)⟩

theorem typ_no {w : World} {b c : Nat} {x y : Array Value} {s t : TypeId} (h : w.heap[b]? = some (.cells x s (0, 0))) (k : w.heap[c]? = some (.cells y t (0, 0))) (hn : s ≠ t) : b ≠ c := by
  rintro rfl
  rw [h] at k
  simp only [Option.some.injEq, Obj.cells.injEq] at k
  exact hn k.2.1

theorem TB.frm {w w' : World} {B : Ins} {S K tb : Nat} {V : List Value} {T : Nat → Prop} (h : TB w B S K tb V) (hf : Frm T w w') (h0 : ¬ T tb) (h1 : ∀ j r, K ≤ j → j ≤ B.length → V[j]? = some (.slice (some ⟨r, 0, none⟩) S S) → ¬ T r) : TB w' B S K tb V :=
  ⟨by rw [hf.block _ (blk_lt h.blk) h0]; exact h.blk, h.len, fun j k1 k2 => by
    obtain ⟨rb, e1, e2⟩ := h.rows j k1 k2
    exact ⟨rb, e1, by rw [hf.block _ (blk_lt e2) (h1 _ _ k1 k2 e1)]; exact e2⟩⟩
theorem TB.set {w : World} {B : Ins} {S k tb : Nat} {V : List Value} {rb : Nat} (h : TB w B S (k + 1) tb V) (hb : w.heap[tb]? = some (.cells V.toArray 87 (0, 0))) : TB (w.setCell ⟨tb, k, none⟩ (.slice (some ⟨rb, 0, none⟩) S S)) B S (k + 1) tb (V.set k (.slice (some ⟨rb, 0, none⟩) S S)) := by
  have fS := frm_set w tb k (.slice (some ⟨rb, 0, none⟩) S S)
  refine ⟨?_, by rw [List.length_set]; exact h.len, fun j k1 k2 => ?_⟩
  · have := heap_set (i := k) (.slice (some ⟨rb, 0, none⟩) S S) hb
    simpa using this
  · obtain ⟨r, e1, e2⟩ := h.rows j k1 k2
    exact ⟨r, by rw [List.getElem?_set_ne (by omega)]; exact e1, by rw [fS.block _ (blk_lt e2) (typ_no e2 hb (by decide))]; exact e2⟩
theorem TB.more {w : World} {B : Ins} {S k tb : Nat} {V : List Value} {rb : Nat} (h : TB w B S (k + 1) tb V) (h1 : V[k]? = some (.slice (some ⟨rb, 0, none⟩) S S)) (h2 : w.heap[rb]? = some (.cells (rowL B k S S).toArray 2 (0, 0))) : TB w B S k tb V :=
  ⟨h.blk, h.len, fun j k1 k2 => by
    by_cases e : j = k
    · subst e
      exact ⟨rb, h1, h2⟩
    · exact h.rows j (by omega) k2⟩
theorem TB.old {w w' : World} {B : Ins} {S K tb : Nat} {V : List Value} (h : TB w B S K tb V) (o : Old w w') : TB w' B S K tb V := h.frm o (fun h => h) (fun _ _ _ _ _ h => h)

theorem info_i64 : (Tryd.prog.info? 2).map (fun i => (i.zero, i.bytes, i.size)) = some (some (.int .i64 0), 8, 1) := by kernel_rfl
theorem info_r64 : (Tryd.prog.info? 87).map (fun i => (i.zero, i.bytes, i.size)) = some (some (.slice none 0 0), 24, 1) := by kernel_rfl
theorem make_n (n : Nat) (hn : n ≤ 1048576) (w : World) : (Instr.makeSlice 87 (.int .i64 (n : Int)) (.int .i64 (n : Int))).run Tryd.prog w = .ok (.slice (some ⟨w.heap.size, 0, none⟩) n n) (w.alloc (.cells (Array.replicate n (Value.int .i64 0)) 2)) := by
  obtain ⟨i, hi, h2⟩ := Option.map_eq_some_iff.1 info_i64
  simp only [Prod.mk.injEq] at h2
  obtain ⟨hz, hb, hs⟩ := h2
  have h := run_make (P := Tryd.prog) w 87 2 i (.int .i64 0) Tryd.underlying87 hi hz .i64 .i64 n n (by omega) (by omega) (by rw [hb]; omega) (by omega)
  rw [h, hs]
  simp only [Int.toNat_natCast, Nat.mul_one, made_ints]
theorem made_sl (n : Nat) : madeCells (Value.slice none 0 0).cells n = Array.replicate n (Value.slice none 0 0) := by
  unfold madeCells
  apply Array.ext
  · simp
  · intro i h1 h2
    simp [Value.cells, Nat.mod_one]
theorem make_r (n : Nat) (hn : n ≤ 100000) (w : World) : (Instr.makeSlice 85 (.int .i64 (n : Int)) (.int .i64 (n : Int))).run Tryd.prog w = .ok (.slice (some ⟨w.heap.size, 0, none⟩) n n) (w.alloc (.cells (Array.replicate n (Value.slice none 0 0)) 87)) := by
  obtain ⟨i, hi, h2⟩ := Option.map_eq_some_iff.1 info_r64
  simp only [Prod.mk.injEq] at h2
  obtain ⟨hz, hb, hs⟩ := h2
  have h := run_make (P := Tryd.prog) w 85 87 i (.slice none 0 0) Tryd.underlying85 hi hz .i64 .i64 n n (by omega) (by omega) (by rw [hb]; omega) (by omega)
  rw [h, hs]
  simp only [Int.toNat_natCast, Nat.mul_one, made_sl]
end Go.Proofs.YtmapejhacbmckaaDoor
