/- The choices of a part, told: walked. -/
import Derived.Test.YtfoadheepmgbfaaGreatDoorF2
namespace Go.Proofs.YtfoadheepmgbfaaGreatDoor
open Go.RowKit Go.Lib Go.Shelf
attribute [local go_sem] Oper.semAt_some

/-- A function is stored. -/
theorem run_store_func (P : Program) (w : World) (a : Addr) (m : Mode) (g : Fn) (x y : Array Value) : (store a (.func g x y) m).run P w = stored P w a (.func g x y) m := run_store P w a _ m rfl
attribute [local go_sem] run_store_func

variable {B : Ins} {m : Nat} {P : List Int} {sb mb : Nat} {bo : Option Addr} {cap cb cc : Nat}

theorem choices_any (k f : Nat) (W : World) : Calls Tryz.prog 57 #[.pointer (some ⟨sb, 0, none⟩), partV k f] W fun e w' => e = .returned (.func (.func 70) #[] #[.pointer (some ⟨W.heap.size, 0, none⟩), .pointer (some ⟨W.heap.size + 1, 0, none⟩)]) ∧ w' = (W.alloc (.cells #[.pointer (some ⟨sb, 0, none⟩)] 109)).alloc (.cells #[.int .i64 (k : Int), .int .u32 (f : Int)] 112) := by
  unfold partV
  go_enter Tryz.func57, Tryz.ntmps57
  go_wp2
  go_ret
  exact ⟨rfl, rfl⟩

/-- What is told of a part: its best choices, in their order. -/
def toldC (B : Ins) (k f : Nat) : List (List Int) := (allC (B.drop k) f).map (fun c => List.replicate k (-1) ++ c)

/-- What is known of a search, whatever turns. -/
structure SrK (B : Ins) (m : Nat) (P : List Int) (sb mb : Nat) (bo : Option Addr) (cap cb cc : Nat) (T : Nat → Prop) (w : World) : Prop where
  sr : ∀ Y, KeptC T w Y → Sr B m P sb mb bo cap cb cc Y
  rows : ∀ i (hi : i < B.length), ∃ g o a0 c0, bo = some ⟨g, o, none⟩ ∧ ∀ Y, KeptC T w Y → Y.cell? ⟨g, o + i, none⟩ = some (.slice a0 B[i].length c0) ∧ OffC Y a0 B[i]

set_option maxRecDepth 100000 in
set_option maxHeartbeats 4000000 in
theorem choices1_M (d : Nat) (ok : OkB B m P) (k f : Nat) (hk : k ≤ B.length) (hf : f < 2 ^ m) (sP wP : Nat) (T : Nat → Prop) (w : World) (hS : SrK B m P sb mb bo cap cb cc T w)
    (hc : ∀ Y, KeptC T w Y → Y.cell? ⟨sP, 0, none⟩ = some (.pointer (some ⟨sb, 0, none⟩)) ∧ Y.cell? ⟨wP, 0, none⟩ = some (.int .i64 (k : Int)) ∧ Y.cell? ⟨wP, 1, none⟩ = some (.int .u32 (f : Int))) (hm : KM B w mb) (htn : ∀ q, T q → q < w.heap.size) :
    SeqM Tryz.prog d 70 #[.pointer (some ⟨sP, 0, none⟩), .pointer (some ⟨wP, 0, none⟩)] encC (fun q => q = mb) (fun x X Y => KeptC (Tb T x.1) X Y ∧ Y.heap[mb]? = X.heap[mb]?) (fun x X => NewZ w.heap.size X x.1 x.2 ∧ KM B X mb) (fun Y => KM B Y mb) Fd
      (fun q => ∃ r, toldC B k f = q.map Prod.snd ++ r) (fun q => q.map Prod.snd = toldC B k f) (fun q => ∃ r, toldC B k f = q.map Prod.snd ++ r) w := by
  intro lp J Jx W hbe hJ hJx hY h0
  have oW := Old.of_below hbe
  have kcW : KeptC T w W := KeptC.of_frm (Frm.mono oW (fun _ _ h => h.elim))
  obtain ⟨c0, c1, c2⟩ := hc W kcW
  have d0 := (hS.sr W kcW).c0
  have kok := hid ok
  have khS := hid hS
  have khc := hid hc
  have khJ := hid hJ
  have khJx := hid hJx
  have khY := hid hY
  have kh0 := hid h0
  have km := hid (hm.kept oW (fun h => h))
  have koW := hid oW
  have hkl := ok.len
  clear ok hS hc hJ hJx hY h0 hm oW hbe
  obtain ⟨s, hs⟩ : ∃ s, W.heap.size = s := ⟨_, rfl⟩
  have o1 : Old W (W.alloc (.cells #[.func (.yield lp) #[] #[]] 138)) := (Old.refl W).alloc _
  have b1 := heap_new W (.cells #[.func (.yield lp) #[] #[]] 138)
  have z1 := alloc_size W (.cells #[.func (.yield lp) #[] #[]] 138)
  have o2 : Old (W.alloc (.cells #[.func (.yield lp) #[] #[]] 138)) ((W.alloc (.cells #[.func (.yield lp) #[] #[]] 138)).alloc (.cells #[.int .i64 (-1)] 3)) := (Old.refl _).alloc _
  have b2 := heap_new (W.alloc (.cells #[.func (.yield lp) #[] #[]] 138)) (.cells #[.int .i64 (-1)] 3)
  have z2 := alloc_size (W.alloc (.cells #[.func (.yield lp) #[] #[]] 138)) (.cells #[.int .i64 (-1)] 3)
  have ko2 := hid (o1.trans o2)
  have c0 := ko2.out.cell c0
  have d0 := ko2.out.cell d0
  refine callsIn_wide.2 ((callsIn_wide (n := 5)).1 ?_)
  refine callsIn_of_wp_marks Tryz.func70 rfl trivial ?_ rfl
  simp only [Tryz.ntmps70, List.size_toArray, List.length_cons, List.length_nil, Nat.reduceAdd, Nat.reduceSub, Array.replicate_succ, Array.replicate_zero, List.push_toArray, List.append_toArray, List.nil_append, List.cons_append]
  gi_wp2_with fail
  generalize W.alloc (.cells #[.func (.yield lp) #[] #[]] 138) = w1 at *
  generalize w1.alloc (.cells #[.int .i64 (-1)] 3) = w2 at *
  rw [hs] at b1 z1
  rw [z1] at b2 z2
  have kb1 := hid ((o2.block s (blk_lt b1) (fun h => h)).trans b1)
  have kRp := hid (repeat_any B.length (s + 1) (-1) (by omega) w2 (blk_cell b2))
  refine ⟨trivial, callsIn_wide.2 (kRp.out.mono ?_)⟩
  rintro e w3 ⟨ch, rfl, hch, hbc, o3⟩
  have kch := hid hch
  have kbc := hid hbc
  have kz2 := hid z2
  have kss := hid hs
  have o4 : Old w3 (w3.alloc (.cells #[.slice (some ⟨ch, 0, none⟩) B.length B.length] 29)) := (Old.refl w3).alloc _
  have b4 := heap_new w3 (.cells #[.slice (some ⟨ch, 0, none⟩) B.length B.length] 29)
  have z4 := alloc_size w3 (.cells #[.slice (some ⟨ch, 0, none⟩) B.length B.length] 29)
  have k03 : Hid (Old W w3) := hid (ko2.out.trans o3)
  have kb13 := hid ((o3.block s (blk_lt kb1.out) (fun h => h)).trans kb1.out)
  have ksz3 : Hid (s + 1 + 1 ≤ w3.heap.size) := by have := o3.size; have := kz2.out; show _ ≤ _; omega
  obtain ⟨cP, hcP⟩ : ∃ cP, w3.heap.size = cP := ⟨_, rfl⟩
  have b5 := heap_new (w3.alloc (.cells #[.slice (some ⟨ch, 0, none⟩) B.length B.length] 29)) (.cells #[frV sP s cP (cP + 1)] 140)
  have o5 : Old (w3.alloc (.cells #[.slice (some ⟨ch, 0, none⟩) B.length B.length] 29)) ((w3.alloc (.cells #[.slice (some ⟨ch, 0, none⟩) B.length B.length] 29)).alloc (.cells #[frV sP s cP (cP + 1)] 140)) := (Old.refl _).alloc _
  have z5 := alloc_size (w3.alloc (.cells #[.slice (some ⟨ch, 0, none⟩) B.length B.length] 29)) (.cells #[frV sP s cP (cP + 1)] 140)
  rw [z4] at b5 z5
  rw [hcP] at b5 b4 z5
  have q7 := blk_cell b5
  have k06 : Hid (Old W ((w3.alloc (.cells #[.slice (some ⟨ch, 0, none⟩) B.length B.length] 29)).alloc (.cells #[frV sP s cP (cP + 1)] 140))) := hid ((k03.out.trans o4).trans o5)
  have kc6 := hid (koW.out.trans k06.out)
  obtain ⟨-, e1, e2⟩ := khc.out _ (KeptC.of_frm (Frm.mono kc6.out (fun _ _ h => h.elim)))
  have kb4 := hid ((o5.block cP (blk_lt b4) (fun h => h)).trans b4)
  have kb6 := hid b5
  have kz6 := hid z5
  have kbs := hid ((o5.block s (by rw [z4]; have := ksz3.out; omega) (fun h => h)).trans ((o4.block s (blk_lt kb13.out) (fun h => h)).trans kb13.out))
  have hcc := blk_lt hbc
  have kbh := hid ((o5.block ch (by rw [z4]; omega) (fun h => h)).trans ((o4.block ch hcc (fun h => h)).trans hbc))
  have kdf : Hid (frV sP s cP (cP + 1) = .func (.func 72) #[] #[.pointer (some ⟨sP, 0, none⟩), .pointer (some ⟨s, 0, none⟩), .pointer (some ⟨cP, 0, none⟩), .pointer (some ⟨cP + 1, 0, none⟩)]) := rfl
  rw [kdf.out] at q7 e1 e2 k06 kc6 kb4 kb6 kz6 kbs kbh z5
  clear c0 d0 c1 c2 b1 z1 o1 o2 b2 o4 o5 b5
  gi_wp2_with fail
  generalize w3.alloc (.cells #[.slice (some ⟨ch, 0, none⟩) B.length B.length] 29) = w4 at *
  generalize w4.alloc (.cells #[.func (.func 72) #[] #[.pointer (some ⟨sP, 0, none⟩), .pointer (some ⟨s, 0, none⟩), .pointer (some ⟨cP, 0, none⟩), .pointer (some ⟨cP + 1, 0, none⟩)]] 140) = w6 at *
  rw [← kdf.out] at kb6
  have hlow : Hid (∀ Y, KeptC (fun q => T q ∨ q = ch) w6 Y → KeptC T w Y) := fun Y hY q o hq ho hc => by
    have h1 := blk_lt ho
    have h2 := kch.out
    have h3 := kz2.out
    have h4 := kss.out
    have h5 := koW.out.size
    exact hY q o (fun e => e.elim hq (by omega)) ((kc6.out.block q h1 (fun h => h)).trans ho) hc
  have hTs : Hid (∀ q, s ≤ q → ¬ T q) := fun q hq e => by
    have h1 := htn q e
    have h4 := kss.out
    have h5 := koW.out.size
    omega
  have hGO : Hid (GO B m P sb mb bo cap cb cc sP s cP (cP + 1) ch B.length lp W.heap.size T J Jx (toldC B k f) w6) := by
    have h1 := ksz3.out
    have h2 := kch.out
    have h3 := kz2.out
    have h4 := kss.out
    have h6 := kz6.out
    refine ⟨kok.out, rfl, fun Y hY => ⟨⟨(khc.out Y (hlow.out Y hY)).1, kept_cell hY (by rintro (e | e); exact hTs.out _ (Nat.le_refl _) e; dsimp only at e; omega) (blk_cell kbs.out), kept_cell hY (by rintro (e | e); exact hTs.out _ (by dsimp only; omega) e; dsimp only at e; omega) (blk_cell kb4.out), kept_cell hY (by rintro (e | e); exact hTs.out _ (by dsimp only; omega) e; dsimp only at e; omega) (blk_cell kb6.out)⟩, khS.out.sr Y (hlow.out Y hY)⟩, fun i hi => ?_, fun q hq => ?_, ⟨by omega, by omega⟩, by omega, ?_, khJ.out, khJx.out, fun p x X hj hE hz hkm => ?_⟩
    · obtain ⟨g, o, a0, c0, e1, e2⟩ := khS.out.rows i hi
      exact ⟨g, o, a0, c0, e1, fun Y hY => e2 Y (hlow.out Y hY)⟩
    · have := htn q hq
      have := koW.out.size
      omega
    · exact km.out.lt
    · have hz2 : NewZ w.heap.size X x.1 x.2 := by
        obtain ⟨ao, c, e1, e2⟩ := hz
        refine ⟨ao, c, e1, e2.imp id ?_⟩
        rintro ⟨b, cur, e3, e4, e5⟩
        exact ⟨b, cur, e3, Nat.le_trans koW.out.size e4, e5⟩
      obtain ⟨fn, tmps, c1, c2, hy, hR⟩ := khY.out p x X hj hE ⟨hz2, hkm⟩
      refine ⟨fn, tmps, c1, c2, hy, (round_wide hR).mono ?_⟩
      rintro e Y ⟨g1, ⟨g2, g3⟩, g4⟩
      exact ⟨g1, g2, g3, g4⟩
  have hHd : Hid (Hd w6 ch B.length (List.replicate k (-1))) := by
    refine ⟨List.replicate (B.length - k) (-1), by simp; omega, ?_⟩
    rw [kbh.out]
    have e9 : repL (-1) B.length B.length = (List.replicate k (-1) ++ List.replicate (B.length - k) (-1)).map (Value.int .i64) := by
      unfold repL
      rw [List.replicate_append_replicate, Nat.sub_self, show k + (B.length - k) = B.length from by omega]
      simp
    rw [e9]
  have kFr := hid (from_all hGO.out _ k f (List.replicate k (-1)) [] w6 rfl hk hf (by simp) (KeptC.of_frm (Frm.refl _ _)) (km.out.kept k06.out (fun h => h)) hHd.out (khJ.out _ _ _ kh0.out (Frm.mono k06.out (fun _ _ h => h.elim))) Bw.nil (Nat.le_refl _) ⟨[], by unfold toldC; simp⟩)
  unfold partV at kFr
  refine ⟨trivial, callsIn_wide.2 (kFr.out.mono ?_)⟩
  rintro e Y ⟨-, -, gm, g3⟩
  have kgm := hid gm
  have hfin : ∃ v, e = .returned v ∧ ((∃ q, q.map Prod.snd = toldC B k f ∧ J q Y) ∨ (∃ p, (∃ r, toldC B k f = p.map Prod.snd ++ r) ∧ Jx p Y)) := by
    rcases g3 with ⟨rfl, -, q, g6, -, g7⟩ | ⟨rfl, q, g6, -, g7⟩
    · exact ⟨_, rfl, .inl ⟨q, g6, g7⟩⟩
    · exact ⟨_, rfl, .inr ⟨q, g6, g7⟩⟩
  obtain ⟨v, rfl, hfin⟩ := hfin
  have kfin := hid hfin
  clear g3 gm hfin q7 e1 e2
  gi_wp2_with fail
  refine leave_marks [] _ ⟨by simp, fun r hr => by simp at hr⟩ (fun W' hW' => ?_)
  have hfo : ∀ p : List Ch, Frm (fun q => q = mb ∨ (W.heap.size ≤ q ∧ Fd p q)) Y W' := fun p => Frm.mono hW' (fun _ _ h => by simp at h)
  refine ⟨_, results_none rfl _ _ _, ⟨_, rfl⟩, kgm.out.kept hW' (by simp), ?_⟩
  exact kfin.out.imp (fun ⟨q, g1, g2⟩ => ⟨q, g1, khJ.out _ _ _ g2 (hfo _)⟩) (fun ⟨q, g1, g2⟩ => ⟨q, g1, khJx.out _ _ _ g2 (hfo _)⟩)
end Go.Proofs.YtfoadheepmgbfaaGreatDoor

/- Whether there is a part; W of it: walked. -/
namespace Go.Proofs.YtfoadheepmgbfaaGreatDoor
open Go.RowKit Go.Lib Go.Shelf
attribute [local go_sem] Oper.semAt_some

/-- Has an instance a part by that buyer and these goods? The error. -/
def ckZ (gd : Int) (B : Ins) (k : Int) (f : Nat) : Int := if insZ gd B ≠ 0 then insZ gd B else if ptB gd B.length k f = true then 0 else 2

set_option maxRecDepth 100000 in
set_option maxHeartbeats 4000000 in
theorem ckc_any (gd : Int) (bo : Option Addr) (cap : Nat) (B : Ins) (k : Int) (f : Nat) (w : World) (h : InsC w bo B) (hl : B.length ≤ 9223372036854775807) :
    Calls Tryz.prog 55 #[.agg #[.int .i64 gd, .slice bo B.length cap], .int .i64 k, .int .u32 (f : Int)] w fun e w' => e = .returned (.int .i64 (ckZ gd B k f)) ∧ Old w w' := by
  have o1 : Old w (w.alloc (.cells #[.int .i64 gd, .slice bo B.length cap] 24)) := (Old.refl w).alloc _
  have b1 := heap_new w (.cells #[.int .i64 gd, .slice bo B.length cap] 24)
  have c0 := new_cell w #[.int .i64 gd, .slice bo B.length cap] 24 0 _ rfl
  have c1 := new_cell w #[.int .i64 gd, .slice bo B.length cap] 24 1 _ rfl
  have kI := hid (fun V (o : Old w V) => instance_any gd bo cap B V (h.old o) hl)
  have kA := hid (fun w => all_any gd w)
  have kW := hid (fun w => within_any f (allZ gd).1 w)
  have ko := hid o1
  have kb := hid b1
  clear o1 h b1
  unfold ckZ ptB
  generalize insZ gd B = iz at *
  generalize allZ gd = az at *
  obtain ⟨a0, a1⟩ := az
  dsimp only at kA kW ⊢
  by_cases h0 : iz ≠ 0
  · rw [if_pos h0]
    have hb0 : (iz != 0) = true := by simpa using h0
    go_enter Tryz.func55, Tryz.ntmps55
    go_wp2_with fail
    refine (kI.out _ ko.out).mono ?_
    rintro e w2 ⟨rfl, o2⟩
    go_wp2_with fail
    go_ret
    exact ⟨rfl, ko.out.trans o2⟩
  · rw [if_neg h0]
    obtain rfl : iz = 0 := by simpa using h0
    clear h0
    by_cases h1 : 0 ≤ k
    · rw [decide_eq_true h1, Bool.true_and]
      have hb1 : ¬ k < 0 := by omega
      by_cases h2 : k ≤ (B.length : Int)
      · rw [decide_eq_true h2, Bool.true_and]
        have hb2 : decide ((B.length : Int) < k) = false := decide_eq_false (by omega)
        cases hs : subB f a0
        · rw [hs] at kW
          go_enter Tryz.func55, Tryz.ntmps55
          go_wp2_with fail
          refine (kI.out _ ko.out).mono ?_
          rintro e w2 ⟨rfl, o2⟩
          have c0 := o2.cell c0
          have c1 := o2.cell c1
          simp only [qqa, qqb, qqc] at c0 c1
          have ko2 := hid (ko.out.trans o2)
          clear o2
          go_wp2_with fail
          refine (kA.out _).mono ?_
          rintro e w' ⟨rfl, e2⟩
          rw [e2]
          clear e2
          go_wp2_with fail
          refine (kW.out _).mono ?_
          rintro e w' ⟨rfl, e2⟩
          rw [e2]
          clear e2
          go_wp2_with fail
          go_ret
          exact ⟨rfl, ko2.out⟩
        · rw [hs] at kW
          go_enter Tryz.func55, Tryz.ntmps55
          go_wp2_with fail
          refine (kI.out _ ko.out).mono ?_
          rintro e w2 ⟨rfl, o2⟩
          have c0 := o2.cell c0
          have c1 := o2.cell c1
          simp only [qqa, qqb, qqc] at c0 c1
          have ko2 := hid (ko.out.trans o2)
          clear o2
          go_wp2_with fail
          refine (kA.out _).mono ?_
          rintro e w' ⟨rfl, e2⟩
          rw [e2]
          clear e2
          go_wp2_with fail
          refine (kW.out _).mono ?_
          rintro e w' ⟨rfl, e2⟩
          rw [e2]
          clear e2
          go_wp2_with fail
          go_ret
          exact ⟨rfl, ko2.out⟩
      · rw [decide_eq_false h2, Bool.false_and]
        have hb2 : decide ((B.length : Int) < k) = true := decide_eq_true (by omega)
        go_enter Tryz.func55, Tryz.ntmps55
        go_wp2_with fail
        refine (kI.out _ ko.out).mono ?_
        rintro e w2 ⟨rfl, o2⟩
        have c0 := o2.cell c0
        have c1 := o2.cell c1
        simp only [qqa, qqb, qqc] at c0 c1
        have ko2 := hid (ko.out.trans o2)
        clear o2
        go_wp2_with fail
        refine (kA.out _).mono ?_
        rintro e w' ⟨rfl, e2⟩
        rw [e2]
        clear e2
        go_wp2_with fail
        go_ret
        exact ⟨rfl, ko2.out⟩
    · rw [decide_eq_false h1, Bool.false_and]
      have hb1 : k < 0 := by omega
      go_enter Tryz.func55, Tryz.ntmps55
      go_wp2_with fail
      refine (kI.out _ ko.out).mono ?_
      rintro e w2 ⟨rfl, o2⟩
      have c0 := o2.cell c0
      have c1 := o2.cell c1
      simp only [qqa, qqb, qqc] at c0 c1
      have ko2 := hid (ko.out.trans o2)
      clear o2
      go_wp2_with fail
      refine (kA.out _).mono ?_
      rintro e w' ⟨rfl, e2⟩
      rw [e2]
      clear e2
      go_wp2_with fail
      go_ret
      exact ⟨rfl, ko2.out⟩

theorem all_lt (gd : Int) : (allZ gd).1 < 4294967296 := by
  unfold allZ
  split
  · next h =>
    have h1 : 2 ^ gd.toNat ≤ 2 ^ 32 := Nat.pow_le_pow_right (by decide) (by omega)
    have h2 : 0 < 2 ^ gd.toNat := Nat.pow_pos (by decide)
    dsimp only
    omega
  · decide

/-- W of a part. -/
def frZ (gd : Int) (B : Ins) (k : Int) (f : Nat) : Int := if ckZ gd B k f = 0 then best (B.drop k.toNat) f else 0

theorem ck_ok {gd : Int} {B : Ins} {k : Int} {f : Nat} (hf : f < 4294967296) (h : ckZ gd B k f = 0) : insZ gd B = 0 ∧ 0 ≤ k ∧ k ≤ (B.length : Int) ∧ f < 2 ^ gd.toNat ∧ 1 ≤ gd ∧ gd ≤ 10 := by
  unfold ckZ at h
  split at h
  · omega
  · next h0 =>
    have h0 : insZ gd B = 0 := by simpa using h0
    have hg := ins_gd h0
    split at h
    · next h1 =>
      unfold ptB at h1
      simp only [Bool.and_eq_true, decide_eq_true_eq] at h1
      refine ⟨h0, h1.1, h1.2.1, ?_, hg.1, hg.2⟩
      have h2 := h1.2.2
      have h3 : (allZ gd).1 = 2 ^ gd.toNat - 1 := by unfold allZ; rw [if_pos (by omega)]
      rw [h3] at h2
      exact lt_of_sub ((subB_iff hf).1 h2)
    · cases h

set_option maxRecDepth 100000 in
set_option maxHeartbeats 4000000 in
theorem from_any (gd : Int) (bo : Option Addr) (cap : Nat) (B : Ins) (k : Int) (f : Nat) (hfu : f < 4294967296) (w : World) (h : InsC w bo B) (hcap : B.length ≤ cap) (hl : B.length ≤ 9223372036854775807) (hT : Tabs w) :
    Calls Tryz.prog 53 #[.agg #[.int .i64 gd, .slice bo B.length cap], .int .i64 k, .int .u32 (f : Int)] w fun e w' => e = .returned (.tuple #[.int .i64 (frZ gd B k f), .int .i64 (ckZ gd B k f)]) ∧ Old w w' := by
  have kC := hid (fun V (o : Old w V) => ckc_any gd bo cap B k f V (h.old o) hl)
  have kh := hid h
  have kT := hid hT
  clear h hT
  unfold frZ
  by_cases hz : ckZ gd B k f = 0
  · obtain ⟨h1, h2, h3, h4, h5, h6⟩ := ck_ok hfu hz
    rw [if_pos hz]
    rw [hz] at kC ⊢
    obtain ⟨m, rfl⟩ : ∃ m : Nat, gd = (m : Int) := ⟨gd.toNat, by omega⟩
    obtain ⟨kk, rfl⟩ : ∃ kk : Nat, k = (kk : Int) := ⟨k.toNat, by omega⟩
    simp only [Int.toNat_natCast] at h4 ⊢
    have o1 : Old w (w.alloc (.cells #[.int .i64 (m : Int), .slice bo B.length cap] 24)) := (Old.refl w).alloc _
    have c0 := new_cell w #[.int .i64 (m : Int), .slice bo B.length cap] 24 0 _ rfl
    have c1 := new_cell w #[.int .i64 (m : Int), .slice bo B.length cap] 24 1 _ rfl
    have ko := hid o1
    clear o1
    have kS := hid (fun V (o : Old w V) => newSearch_any m bo cap B kk (by omega) h1 hcap V (kh.out.old o) (kT.out.old o))
    clear hz
    go_enter Tryz.func53, Tryz.ntmps53
    go_wp2_with fail
    refine (kC.out _ ko.out).mono ?_
    rintro e w2 ⟨rfl, o2⟩
    have c0 := o2.cell c0
    have c1 := o2.cell c1
    have o2 := ko.out.trans o2
    go_wp2_with fail
    refine (kS.out _ o2).mono ?_
    rintro e w3 ⟨P, sb, mb, cb, cc, rfl, ok, hsr, hm, o3, g1, g2, g3⟩
    have kWo := hid (sworth_any ok kk f w3 (by omega) h4 hsr hm)
    unfold partV at kWo
    have ko3 := hid (o2.trans o3)
    go_wp2_with fail
    refine kWo.out.mono ?_
    rintro e w4 ⟨rfl, hf4, -⟩
    go_wp2_with fail
    go_ret2
    exact ⟨rfl, Frm.trans ko3.out hf4 (fun i hi e => by have := o2.size; omega)⟩
  · rw [if_neg hz]
    have o1 : Old w (w.alloc (.cells #[.int .i64 gd, .slice bo B.length cap] 24)) := (Old.refl w).alloc _
    have ko := hid o1
    clear o1
    generalize ckZ gd B k f = z at *
    have hb0 : (z != 0) = true := by simpa using hz
    go_enter Tryz.func53, Tryz.ntmps53
    go_wp2_with fail
    refine (kC.out _ ko.out).mono ?_
    rintro e w2 ⟨rfl, o2⟩
    have o2 := ko.out.trans o2
    go_wp2_with fail
    go_ret2
    exact ⟨rfl, o2⟩

/-- W. -/
theorem w_any (gd : Int) (bo : Option Addr) (cap : Nat) (B : Ins) (w : World) (h : InsC w bo B) (hcap : B.length ≤ cap) (hl : B.length ≤ 9223372036854775807) (hT : Tabs w) :
    Calls Tryz.prog 41 #[.agg #[.int .i64 gd, .slice bo B.length cap]] w fun e w' => e = .returned (.tuple #[.int .i64 (frZ gd B 0 (allZ gd).1), .int .i64 (ckZ gd B 0 (allZ gd).1)]) ∧ Old w w' := by
  have o1 : Old w (w.alloc (.cells #[.int .i64 gd, .slice bo B.length cap] 24)) := (Old.refl w).alloc _
  have c0 := new_cell w #[.int .i64 gd, .slice bo B.length cap] 24 0 _ rfl
  have c1 := new_cell w #[.int .i64 gd, .slice bo B.length cap] 24 1 _ rfl
  have kA := hid (fun w => all_any gd w)
  have kF := hid (fun V (o : Old w V) => from_any gd bo cap B 0 (allZ gd).1 (all_lt gd) V (h.old o) hcap hl (hT.old o))
  have ko := hid o1
  clear o1 h hT
  generalize allZ gd = az at *
  obtain ⟨a0, a1⟩ := az
  dsimp only at kA kF ⊢
  go_enter Tryz.func41, Tryz.ntmps41
  go_wp2_with fail
  refine (kA.out _).mono ?_
  rintro e w' ⟨rfl, e2⟩
  rw [e2]
  clear e2
  go_wp2_with fail
  refine (kF.out _ ko.out).mono ?_
  rintro e w2 ⟨rfl, o2⟩
  go_wp2_with fail
  go_ret2
  exact ⟨rfl, ko.out.trans o2⟩
end Go.Proofs.YtfoadheepmgbfaaGreatDoor
