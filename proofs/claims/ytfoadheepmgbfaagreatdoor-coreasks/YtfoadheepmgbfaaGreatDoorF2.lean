/- From buyer to buyer: walked. -/
import Derived.Test.YtfoadheepmgbfaaGreatDoorJ16
namespace Go.Proofs.YtfoadheepmgbfaaGreatDoor
open Go.RowKit Go.Lib Go.Shelf
attribute [local go_sem] Oper.semAt_some



variable {B : Ins} {m : Nat} {P : List Int} {sb mb : Nat} {bo : Option Addr} {cap cb cc sP yP cP fP ch n lp N : Nat} {T : Nat → Prop} {J Jx : List Ch → World → Prop} {E : List (List Int)} {W0 : World}

theorem cell_set {W : World} {b : Nat} {v u : Value} {t : Nat} (h : W.heap[b]? = some (.cells #[v] t)) : (W.setCell ⟨b, 0, none⟩ u).cell? ⟨b, 0, none⟩ = some u := by
  refine blk_cells (i := 0) (heap_set _ h) ?_
  simp

theorem FrP.frm {a : Nat} {h : List Int} {p : List Ch} {L : List (List Int)} {W Y Z : World} {e : Ending} (g0 : GO B m P sb mb bo cap cb cc sP yP cP fP ch n lp N T J Jx E W0) (hW : W0.heap.size ≤ W.heap.size) {b0 : Nat} (hpb : Bw b0 W.heap.size p) (hf : FrP a mb N ch n B T J Jx E h p L W e Y) (hz : Frm (fun q => W.heap.size ≤ q ∧ q < a) Y Z) : FrP a mb N ch n B T J Jx E h p L W e Z := by
  obtain ⟨h1, h2, hkm, h3⟩ := hf
  have hc := g0.hch.2
  have hmm := g0.hmb
  have hN := g0.hN
  have hsz := h1.size
  have hb : ∀ q, q < W.heap.size → Z.heap[q]? = Y.heap[q]? := fun q hq => hz.block q (by omega) (by omega)
  have hfr : ∀ q, Bw a Y.heap.size q → Frm (fun t => t = mb ∨ (N ≤ t ∧ Fd (p ++ q) t)) Y Z := fun q hq => Frm.mono hz (fun t _ h => .inr ⟨by omega, (hpb.fd (.inr h.1)).app (hq.fd (.inl h.2))⟩)
  refine ⟨⟨Nat.le_trans hsz hz.size, fun q o hq ho hn => by rw [hb q (blk_lt ho)]; exact h1.same q o hq ho hn⟩, fun q o hq ho hn => by rw [hb q (blk_lt ho)]; exact h2 q o hq ho hn, hkm.same (hb mb (by omega)), ?_⟩
  rcases h3 with ⟨e1, h5, q, h6, h7, h8⟩ | ⟨e1, q, h4, h5, h6⟩
  · exact .inl ⟨e1, h5.same (hb ch (by omega)), q, h6, h7.mono (Nat.le_refl _) hz.size, g0.j _ _ _ h8 (hfr q h7)⟩
  · exact .inr ⟨e1, q, h4, h5.mono (Nat.le_refl _) hz.size, g0.jx _ _ _ h6 (hfr q h5)⟩
theorem FrP.weak {a a' : Nat} {h : List Int} {p : List Ch} {L : List (List Int)} {W Y : World} {e : Ending} (hf : FrP a mb N ch n B T J Jx E h p L W e Y) (ha : a' ≤ a) : FrP a' mb N ch n B T J Jx E h p L W e Y := by
  obtain ⟨h1, h2, hkm, h3⟩ := hf
  refine ⟨h1, h2, hkm, ?_⟩
  rcases h3 with ⟨e1, h5, q, h6, h7, h8⟩ | ⟨e1, q, h4, h5, h6⟩
  · exact .inl ⟨e1, h5, q, h6, h7.mono ha (Nat.le_refl _), h8⟩
  · exact .inr ⟨e1, q, h4, h5.mono ha (Nat.le_refl _), h6⟩
theorem put_one {X : World} {l : Nat} (o : Obj) : Frm (fun q => q = l) X (X.putObj l o) :=
  ⟨rfl, rfl, rfl, by simp [World.putObj], fun q _ hq => World.putObj_heap_other (fun e => hq e)⟩

theorem E_split {q r : List Opt} {x : Opt} {L : List Off} {R : Ins} {f : Nat} {h : List Int} {E : List (List Int)} {P0 : List (List Int)} {r0 : List (List Int)} (he : E = P0 ++ ((opts L f).flatMap (optE L R f)).map (fun c => h ++ c) ++ r0) (ho : opts L f = q ++ [x] ++ r) (hx : x.2.1 + best R x.2.2 = best (L :: R) f) :
    ∃ r', E = (P0 ++ (q.flatMap (optE L R f)).map (fun c => h ++ c)) ++ (allC R x.2.2).map (fun c => (h ++ [x.1]) ++ c) ++ r' := by
  refine ⟨(r.flatMap (optE L R f)).map (fun c => h ++ c) ++ r0, ?_⟩
  have h1 : optE L R f x = (allC R x.2.2).map (fun c => x.1 :: c) := if_pos hx
  rw [he, ho]
  simp [h1, List.map_map, Function.comp_def]
theorem flat_yes {q : List Opt} {x : Opt} {L : List Off} {R : Ins} {f : Nat} {h : List Int} (hx : x.2.1 + best R x.2.2 = best (L :: R) f) :
    ((q ++ [x]).flatMap (optE L R f)).map (fun c => h ++ c) = (q.flatMap (optE L R f)).map (fun c => h ++ c) ++ (allC R x.2.2).map (fun c => (h ++ [x.1]) ++ c) := by
  have h1 : optE L R f x = (allC R x.2.2).map (fun c => x.1 :: c) := if_pos hx
  simp [h1, List.map_map, Function.comp_def]
theorem flat_no {q : List Opt} {x : Opt} {L : List Off} {R : Ins} {f : Nat} (hx : ¬ x.2.1 + best R x.2.2 = best (L :: R) f) : (q ++ [x]).flatMap (optE L R f) = q.flatMap (optE L R f) := by
  have h1 : optE L R f x = [] := if_neg hx
  simp [h1]

theorem kept_frm {T : Nat → Prop} {A X Y : World} {b : Nat} (h : KeptC T A X) (hf : Frm (fun q => b ≤ q) X Y) (hb : A.heap.size ≤ b) (hs : A.heap.size ≤ X.heap.size) : KeptC T A Y := fun q o hq ho hc => by
  have := blk_lt ho
  rw [hf.block q (by omega) (by omega)]
  exact h q o hq ho hc
theorem keeps_frm {M : Nat} {A X Y : World} {b : Nat} (h : KeepsFrom M A X) (hf : Frm (fun q => b ≤ q) X Y) (hb : A.heap.size ≤ b) : KeepsFrom M A Y := ⟨Nat.le_trans h.size hf.size, fun q o hq ho hc => by
  have := blk_lt ho
  have := h.size
  rw [hf.block q (by omega) (by omega)]
  exact h.same q o hq ho hc⟩

theorem leaf_yield (g0 : GO B m P sb mb bo cap cb cc sP yP cP fP ch n lp N T J Jx E W0) {k f : Nat} {h : List Int} {p : List Ch} {W V : World} {s : Nat}
    (hm : KM B W mb) (hd : Hd W ch n h) (hj : J p W) (hsz : W0.heap.size ≤ W.heap.size) (hE : ∃ r, E = p.map Prod.snd ++ (allC (B.drop k) f).map (fun c => h ++ c) ++ r)
    (hs : W.heap.size = s) (hV : Old W V) (hb : V.heap[s + 1]? = some (.cells #[.bool false] 4)) (hke : k = B.length) :
    ∀ v V2, NewZ V.heap.size V2 v h → Old V V2 → YieldAt Fence.wide 4 Tryz.prog lp #[v] V2 fun e Y => ∃ b, e = .returned (.bool b) ∧ Y.heap[s + 1]? = some (.cells #[.bool false] 4) ∧ FrP (s + 1 + 1) mb N ch n B T J Jx E h p ((allC (B.drop k) f).map (fun c => h ++ c)) W (.returned (.bool b)) Y := by
  intro v V2 hnz ho
  have hN := g0.hN
  have ho2 := hV.trans ho
  have hL : (allC (B.drop k) f).map (fun c => h ++ c) = [h] := by rw [hke, List.drop_length]; simp [allC]
  have hj2 : J p V2 := g0.j _ _ _ hj (Frm.mono ho2 (fun _ _ h => h.elim))
  have hz : NewZ N V2 v h := by
    obtain ⟨ao, c, h1, h2⟩ := hnz
    refine ⟨ao, c, h1, h2.imp id ?_⟩
    rintro ⟨b, cur, h3, h4, h5⟩
    exact ⟨b, cur, h3, by have := hV.size; omega, h5⟩
  have hE2 : ∃ r, E = (p ++ [(v, h)]).map Prod.snd ++ r := by
    obtain ⟨r, hr⟩ := hE
    rw [hL] at hr
    exact ⟨r, by rw [hr]; simp⟩
  obtain ⟨fn, tmps, c1, c2, hy, hR⟩ := g0.y p (v, h) V2 hj2 hE2 hz (hm.kept ho2 (fun h => h))
  refine ⟨fn, tmps, c1, c2, hy, hR.mono ?_⟩
  rintro e Y ⟨h1, h2, h5, h3⟩
  have hkm : KM B Y mb := hm.same (h5.trans (ho2.block mb (by have := g0.hmb; omega) (fun h => h)))
  have hk1 : KeepsFrom N W Y := (keeps_old ho2).trans h1
  have hTb : ∀ q, q < V.heap.size → Tb T v q → T q := fun q hq e => by
    rcases e with e | ⟨n', c', e⟩
    · exact e
    · obtain ⟨ao, c, e1, e2⟩ := hnz
      rw [e1] at e
      simp only [Value.slice.injEq] at e
      rcases e2 with ⟨e3, -⟩ | ⟨b, cur, e3, e4, -⟩
      · rw [e.1] at e3
        cases e3
      · rw [e.1] at e3
        have : q = b := by injection e3 with e5; injection e5
        omega
  have hVs := hV.size
  have hk2 : KeptC (fun q => T q ∨ q = ch) W Y := fun q o hq h3 h4 => h2 q o (fun e => hq (.inl (hTb q (by have := blk_lt h3; omega) e))) ((ho2.block q (blk_lt h3) (fun h => h)).trans h3) h4
  have hbY : Y.heap[s + 1]? = some (.cells #[.bool false] 4) := h2 _ _ (fun e => by have := g0.tn _ (hTb _ (blk_lt hb) e); omega) ((ho.block (s + 1) (blk_lt hb) (fun h => h)).trans hb) rfl
  have hdch : Y.heap[ch]? = W.heap[ch]? := by
    obtain ⟨r, hr1, hr2⟩ := hd
    rw [hr2]
    exact h2 _ _ (fun e => by have := g0.tn _ (hTb _ (by have := blk_lt hr2; omega) e); have := g0.hch.1; omega) ((ho2.block ch (blk_lt hr2) (fun h => h)).trans hr2) rfl
  have hbw : Bw (s + 1 + 1) Y.heap.size [(v, h)] := fun x hx t n c e => by
    obtain rfl : x = (v, h) := by simpa using hx
    obtain ⟨ao, c', e1, e2⟩ := hnz
    dsimp only at e
    rw [e1] at e
    simp only [Value.slice.injEq] at e
    rcases e2 with ⟨e3, -⟩ | ⟨b, cur, e3, e4, e5, -⟩
    · rw [e.1] at e3
      cases e3
    · rw [e.1] at e3
      have e6 : t = b := by injection e3 with e7; injection e7
      have := blk_lt e5
      have := blk_lt hb
      have := h1.size
      omega
  rcases h3 with ⟨rfl, h4⟩ | ⟨rfl, h4⟩
  · refine ⟨true, rfl, hbY, ⟨hk1, hk2, hkm, .inl ⟨rfl, hd.same hdch, [(v, h)], by rw [hL]; rfl, hbw, h4⟩⟩⟩
  · exact ⟨false, rfl, hbY, ⟨hk1, hk2, hkm, .inr ⟨rfl, [(v, h)], hE2, hbw, h4⟩⟩⟩

set_option maxRecDepth 100000 in
set_option maxHeartbeats 8000000 in
theorem from_step (g0 : GO B m P sb mb bo cap cb cc sP yP cP fP ch n lp N T J Jx E W0) (k f : Nat) (hk : k ≤ B.length) (hf : f < 2 ^ m) (h : List Int) (hh : h.length = k) (p : List Ch)
    (ih : k < B.length → ∀ f' h' p' W', f' < 2 ^ m → h'.length = k + 1 → KeptC (fun q => T q ∨ q = ch) W0 W' → KM B W' mb → Hd W' ch n h' → J p' W' → Bw W0.heap.size W'.heap.size p' → W0.heap.size ≤ W'.heap.size → (∃ r, E = p'.map Prod.snd ++ (allC (B.drop (k + 1)) f').map (fun c => h' ++ c) ++ r) →
      Calls Tryz.prog 72 #[partV (k + 1) f', .pointer (some ⟨sP, 0, none⟩), .pointer (some ⟨yP, 0, none⟩), .pointer (some ⟨cP, 0, none⟩), .pointer (some ⟨fP, 0, none⟩)] W' (FrP W'.heap.size mb N ch n B T J Jx E h' p' ((allC (B.drop (k + 1)) f').map (fun c => h' ++ c)) W'))
    (W : World) (hkW : KeptC (fun q => T q ∨ q = ch) W0 W) (hm : KM B W mb) (hd : Hd W ch n h) (hj : J p W) (hpb : Bw W0.heap.size W.heap.size p) (hsz : W0.heap.size ≤ W.heap.size) (hE : ∃ r, E = p.map Prod.snd ++ (allC (B.drop k) f).map (fun c => h ++ c) ++ r) :
    Calls Tryz.prog 72 #[partV k f, .pointer (some ⟨sP, 0, none⟩), .pointer (some ⟨yP, 0, none⟩), .pointer (some ⟨cP, 0, none⟩), .pointer (some ⟨fP, 0, none⟩)] W (FrP W.heap.size mb N ch n B T J Jx E h p ((allC (B.drop k) f).map (fun c => h ++ c)) W) := by
  obtain ⟨s, hs⟩ : ∃ s, W.heap.size = s := ⟨_, rfl⟩
  have o1 : Old W (W.alloc (.cells #[.int .i64 (k : Int), .int .u32 (f : Int)] 112)) := (Old.refl W).alloc _
  have b1 := heap_new W (.cells #[.int .i64 (k : Int), .int .u32 (f : Int)] 112)
  have z1 := alloc_size W (.cells #[.int .i64 (k : Int), .int .u32 (f : Int)] 112)
  have kg := hid g0
  have kih := hid ih
  have km := hid hm
  have kd := hid hd
  have kj := hid hj
  have kpb := hid hpb
  have kE := hid hE
  have kkW := hid hkW
  have kss := hid hs
  have ksz := hid hsz
  have hkl := g0.ok.len
  have hall := g0.ok.all
  have hln := g0.len
  clear g0 ih hm hd hj hpb hE hkW hsz
  unfold partV
  refine (callsIn_wide (n := 5)).1 ?_
  refine callsIn_of_wp_marks Tryz.func72 rfl trivial ?_ rfl
  simp only [Tryz.ntmps72, List.size_toArray, List.length_cons, List.length_nil, Nat.reduceAdd, Nat.reduceSub, Array.replicate_succ, Array.replicate_zero, List.push_toArray, List.append_toArray, List.nil_append, List.cons_append]
  gi_wp2_with fail
  rw [hs] at b1 z1
  generalize W.alloc (.cells #[.int .i64 (k : Int), .int .u32 (f : Int)] 112) = w1 at *
  have o2 : Old w1 (w1.alloc (.cells #[.bool false] 4)) := (Old.refl w1).alloc _
  have b2 := heap_new w1 (.cells #[.bool false] 4)
  have z2 := alloc_size w1 (.cells #[.bool false] 4)
  rw [z1] at b2 z2
  generalize w1.alloc (.cells #[.bool false] 4) = w2 at *
  have kb1 := hid ((o2.block s (blk_lt b1) (fun h => h)).trans b1)
  have kb2 := hid b2
  have kz2 := hid z2
  have ko2 := hid (o1.trans o2)
  clear o1 o2 b1 b2 z1 z2 w1 hs
  have kCx := hid (fun Y (o : KeptC (fun q => T q ∨ q = ch) w2 Y) => kg.out.cx Y ((kkW.out.trans (KeptC.of_frm (Frm.mono ko2.out (fun _ _ h => h.elim)))).trans o))
  obtain ⟨hfc, hsr⟩ := kCx.out w2 (KeptC.of_frm (Frm.refl _ _))
  have c0 := hfc.s
  have c1 := hfc.y
  have c2 := hfc.c
  have d0 := hsr.c0
  have q0 := blk_cells (i := 0) kb1.out rfl
  have q1 := blk_cells (i := 1) kb1.out rfl
  simp only [qqa, qqb, qqc] at q0 q1
  clear hfc hsr
  by_cases hke : k = B.length
  · have hkb : ((k : Int) == (B.length : Int)) = true := by rw [hke]; simp
    refine wpIn_wide.2 ?_
    go_quiet (fail)
    have oN : Old w2 (w2.drewN nq) := (Old.refl w2).drewN _
    generalize w2.drewN nq = w3 at *
    gi_wp2_with fail
    refine wpIn_region_any (by kernel_rfl) ?_
    have oM : Hid (Old w2 w3.drew) := oN.drewN 1
    change wpAnyIn _ _ _ _ _ _ _ _ _ w3.drew
    generalize w3.drew = V at *
    have c1 := oM.out.cell c1
    have c2 := oM.out.cell c2
    have kV : Hid (Old W V) := hid (ko2.out.trans oM.out)
    have kcl : Hid (Calls Tryz.prog 73 #[.slice (some ⟨ch, 0, none⟩) B.length B.length] V fun e w' => ∃ v, e = .returned v ∧ NewZ V.heap.size w' v h ∧ Old V w') := by
      have h1 := iclone_any ch 0 B.length h V ((kd.out.same (kV.out.block ch kd.out.lt (fun h => h))).all (by omega)) (by omega)
      rw [hh, hke] at h1
      exact h1
    have kyy : Hid (∀ v V2, NewZ V.heap.size V2 v h → Old V V2 → YieldAt Fence.wide 4 Tryz.prog lp #[v] V2 fun e Y => ∃ b, e = .returned (.bool b) ∧ Y.heap[s + 1]? = some (.cells #[.bool false] 4) ∧ FrP (s + 1 + 1) mb N ch n B T J Jx E h p ((allC (B.drop k) f).map (fun c => h ++ c)) W (.returned (.bool b)) Y) := leaf_yield kg.out km.out kd.out kj.out ksz.out kE.out kss.out kV.out ((oM.out.block (s + 1) (blk_lt kb2.out) (fun h => h)).trans kb2.out) hke
    refine wpAnyIn_ready (rs := [0, 1]) (by kernel_rfl) (by simp) ?_
    refine AllReadyIn.cons (o := _) rfl (fun K hK => ?_) (AllReadyIn.cons (o := _) rfl (fun K hK => ?_) AllReadyIn.nil)
    · simp only [qqa, qqb]
      go_simp
      refine hK _ _ ?_
      clear hK
      refine wpAnyIn_ready (rs := [1]) (by kernel_rfl) (by simp) ?_
      refine AllReadyIn.cons (o := _) rfl (fun K hK => ?_) AllReadyIn.nil
      simp only [qqa, qqb, qqc]
      go_simp
      refine hK _ _ ?_
      clear hK
      refine wpAnyIn_ready (rs := [2]) (by kernel_rfl) (by simp) ?_
      refine AllReadyIn.cons (o := _) rfl (fun K hK => ?_) AllReadyIn.nil
      simp only [qqa, qqb, qqc]
      go_simp
      refine ⟨trivial, callsIn_wide.2 (kcl.out.mono ?_)⟩
      rintro e V2 ⟨v, rfl, hnz, hov⟩
      refine hK _ _ ?_
      clear hK
      obtain ⟨fn, tmps, asn, bdy, hy, hR⟩ := kyy.out v V2 hnz hov
      refine wpAnyIn_ready (rs := [3]) (by kernel_rfl) (by simp) ?_
      refine AllReadyIn.cons (o := _) rfl (fun K hK => ?_) AllReadyIn.nil
      simp only [qqa, qqb, qqc]
      go_simp
      refine (round_wide hR).mono ?_
      rintro e Y ⟨b, rfl, hb2, hfr⟩
      refine hK _ _ ?_
      clear hK
      have e1 := blk_cells (i := 0) hb2 rfl
      have e2 := blk_fz hb2 0
      clear hy hR hnz hov
      refine wpAnyIn_ready (rs := [4]) (by kernel_rfl) (by simp) ?_
      refine AllReadyIn.cons (o := _) rfl (fun K hK => ?_) AllReadyIn.nil
      simp only [qqa, qqb, qqc]
      go_simp
      refine hK _ _ ?_
      clear hK
      refine wpAnyIn_done (by kernel_rfl) ?_ _
      have e3 := cell_set (u := .bool b) hb2
      have hfr := hid (FrP.frm kg.out ksz.out kpb.out hfr ((Frm.refl (fun q => W.heap.size ≤ q ∧ q < s + 1 + 1) Y).setCell ⟨s + 1, 0, none⟩ (.inr (by have := kss.out; show W.heap.size ≤ s + 1 ∧ s + 1 < s + 1 + 1; omega)) (.bool b)))
      generalize Y.setCell ⟨s + 1, 0, none⟩ (.bool b) = Z at *
      clear hb2 e1 e2
      gi_wp2_with fail
      refine leave_marks [] _ ⟨by simp, fun r hr => by simp at hr⟩ (fun W' hW' => ?_)
      refine ⟨.bool b, ?_, (FrP.frm kg.out ksz.out kpb.out hfr.out (Frm.mono hW' (fun _ _ h => by simp at h))).weak (by have := kss.out; omega)⟩
      have e4 := frm_cell hW' e3 (by simp)
      simp [results, Tryz.f72, go_sem, e4]
    · simp only [qqa, qqb, qqc]
      go_simp
      refine hK _ _ ?_
      clear hK
      refine wpAnyIn_ready (rs := [0, 2]) (by kernel_rfl) (by simp) ?_
      refine AllReadyIn.cons (o := _) rfl (fun K hK => ?_) (AllReadyIn.cons (o := _) rfl (fun K hK => ?_) AllReadyIn.nil)
      · simp only [qqa, qqb]
        go_simp
        refine hK _ _ ?_
        clear hK
        refine wpAnyIn_ready (rs := [2]) (by kernel_rfl) (by simp) ?_
        refine AllReadyIn.cons (o := _) rfl (fun K hK => ?_) AllReadyIn.nil
        simp only [qqa, qqb, qqc]
        go_simp
        refine ⟨trivial, callsIn_wide.2 (kcl.out.mono ?_)⟩
        rintro e V2 ⟨v, rfl, hnz, hov⟩
        refine hK _ _ ?_
        clear hK
        obtain ⟨fn, tmps, asn, bdy, hy, hR⟩ := kyy.out v V2 hnz hov
        refine wpAnyIn_ready (rs := [3]) (by kernel_rfl) (by simp) ?_
        refine AllReadyIn.cons (o := _) rfl (fun K hK => ?_) AllReadyIn.nil
        simp only [qqa, qqb, qqc]
        go_simp
        refine (round_wide hR).mono ?_
        rintro e Y ⟨b, rfl, hb2, hfr⟩
        refine hK _ _ ?_
        clear hK
        have e1 := blk_cells (i := 0) hb2 rfl
        have e2 := blk_fz hb2 0
        clear hy hR hnz hov
        refine wpAnyIn_ready (rs := [4]) (by kernel_rfl) (by simp) ?_
        refine AllReadyIn.cons (o := _) rfl (fun K hK => ?_) AllReadyIn.nil
        simp only [qqa, qqb, qqc]
        go_simp
        refine hK _ _ ?_
        clear hK
        refine wpAnyIn_done (by kernel_rfl) ?_ _
        have e3 := cell_set (u := .bool b) hb2
        have hfr := hid (FrP.frm kg.out ksz.out kpb.out hfr ((Frm.refl (fun q => W.heap.size ≤ q ∧ q < s + 1 + 1) Y).setCell ⟨s + 1, 0, none⟩ (.inr (by have := kss.out; show W.heap.size ≤ s + 1 ∧ s + 1 < s + 1 + 1; omega)) (.bool b)))
        generalize Y.setCell ⟨s + 1, 0, none⟩ (.bool b) = Z at *
        clear hb2 e1 e2
        gi_wp2_with fail
        refine leave_marks [] _ ⟨by simp, fun r hr => by simp at hr⟩ (fun W' hW' => ?_)
        refine ⟨.bool b, ?_, (FrP.frm kg.out ksz.out kpb.out hfr.out (Frm.mono hW' (fun _ _ h => by simp at h))).weak (by have := kss.out; omega)⟩
        have e4 := frm_cell hW' e3 (by simp)
        simp [results, Tryz.f72, go_sem, e4]
      · simp only [qqa, qqb, qqc]
        go_simp
        refine ⟨trivial, callsIn_wide.2 (kcl.out.mono ?_)⟩
        rintro e V2 ⟨v, rfl, hnz, hov⟩
        refine hK _ _ ?_
        clear hK
        have c1 := hov.cell c1
        refine wpAnyIn_ready (rs := [0]) (by kernel_rfl) (by simp) ?_
        refine AllReadyIn.cons (o := _) rfl (fun K hK => ?_) AllReadyIn.nil
        simp only [qqa, qqb]
        go_simp
        refine hK _ _ ?_
        clear hK
        obtain ⟨fn, tmps, asn, bdy, hy, hR⟩ := kyy.out v V2 hnz hov
        refine wpAnyIn_ready (rs := [3]) (by kernel_rfl) (by simp) ?_
        refine AllReadyIn.cons (o := _) rfl (fun K hK => ?_) AllReadyIn.nil
        simp only [qqa, qqb, qqc]
        go_simp
        refine (round_wide hR).mono ?_
        rintro e Y ⟨b, rfl, hb2, hfr⟩
        refine hK _ _ ?_
        clear hK
        have e1 := blk_cells (i := 0) hb2 rfl
        have e2 := blk_fz hb2 0
        clear hy hR hnz hov
        refine wpAnyIn_ready (rs := [4]) (by kernel_rfl) (by simp) ?_
        refine AllReadyIn.cons (o := _) rfl (fun K hK => ?_) AllReadyIn.nil
        simp only [qqa, qqb, qqc]
        go_simp
        refine hK _ _ ?_
        clear hK
        refine wpAnyIn_done (by kernel_rfl) ?_ _
        have e3 := cell_set (u := .bool b) hb2
        have hfr := hid (FrP.frm kg.out ksz.out kpb.out hfr ((Frm.refl (fun q => W.heap.size ≤ q ∧ q < s + 1 + 1) Y).setCell ⟨s + 1, 0, none⟩ (.inr (by have := kss.out; show W.heap.size ≤ s + 1 ∧ s + 1 < s + 1 + 1; omega)) (.bool b)))
        generalize Y.setCell ⟨s + 1, 0, none⟩ (.bool b) = Z at *
        clear hb2 e1 e2
        gi_wp2_with fail
        refine leave_marks [] _ ⟨by simp, fun r hr => by simp at hr⟩ (fun W' hW' => ?_)
        refine ⟨.bool b, ?_, (FrP.frm kg.out ksz.out kpb.out hfr.out (Frm.mono hW' (fun _ _ h => by simp at h))).weak (by have := kss.out; omega)⟩
        have e4 := frm_cell hW' e3 (by simp)
        simp [results, Tryz.f72, go_sem, e4]
  · have hkb : ((k : Int) == (B.length : Int)) = false := by simp; omega
    have hklt : k < B.length := by omega
    clear hke
    refine wpIn_wide.2 ?_
    go_quiet (fail)
    have oN : Old w2 (w2.drewN nq) := (Old.refl w2).drewN _
    have koN := hid oN
    generalize w2.drewN nq = w3 at *
    have kWo := hid (fun V (o : Old w2 V) => sworth_any kg.out.ok k f V (by omega) hf (kCx.out V (KeptC.of_frm (Frm.mono o (fun _ _ h => h.elim)))).2 (km.out.kept (ko2.out.trans o) (fun h => h)))
    unfold partV WoP at kWo
    have c0 := oN.cell c0
    have c1 := oN.cell c1
    have c2 := oN.cell c2
    have q0 := oN.cell q0
    have q1 := oN.cell q1
    gi_wp2_with fail
    refine ⟨trivial, callsIn_wide.2 ((kWo.out _ koN.out).mono ?_)⟩
    rintro e w4 ⟨rfl, hf4, hm4⟩
    obtain ⟨z, hz⟩ : ∃ z, best (B.drop k) f = z := ⟨_, rfl⟩
    rw [hz]
    have kz := hid hz
    have q5 : Old w4 (w4.alloc (.cells #[.int .i64 z] 2)) := (Old.refl w4).alloc _
    have b5 := heap_new w4 (.cells #[.int .i64 z] 2)
    have z5 := alloc_size w4 (.cells #[.int .i64 z] 2)
    have km3 := hid (km.out.kept (ko2.out.trans koN.out) (fun h => h))
    have kc5 : Hid (KeptC (fun q => T q ∨ q = ch) w2 (w4.alloc (.cells #[.int .i64 z] 2))) := ((KeptC.of_frm (Frm.mono koN.out (fun _ _ h => h.elim))).trans (kept_map km3.out hf4)).trans (KeptC.of_frm (Frm.mono q5 (fun _ _ h => h.elim)))
    have kf5 : Hid (Frm (fun q => q = mb) W (w4.alloc (.cells #[.int .i64 z] 2))) := Frm.trans (Frm.trans (Frm.mono (ko2.out.trans koN.out) (fun _ _ h => h.elim)) hf4 (fun _ _ e => e)) q5 (fun _ _ e => e.elim)
    have km5 := hid (hm4.kept q5 (fun h => h))
    have ks4 : Hid (s + 1 + 1 ≤ w4.heap.size) := by
      have h1 := koN.out.size
      have h2 := hf4.size
      have h3 := kz2.out
      show _ ≤ _
      omega
    have hsT : Hid (∀ q, s ≤ q → ¬ (T q ∨ q = ch)) := fun q hq e => by
      have h1 := kg.out.hch.2
      have h2 := kg.out.hN
      have h3 := ksz.out
      have h4 := kss.out
      rcases e with e | e
      · have := kg.out.tn q e
        omega
      · omega
    clear c0 c1 c2 d0 q0 q1 oN hz kWo hf4 hm4 q5
    have c0 := (kCx.out _ kc5.out).1.s
    have q0 := kept_cell kc5.out (hsT.out s (Nat.le_refl _)) (blk_cells (i := 0) kb1.out rfl)
    have q1 := kept_cell kc5.out (hsT.out s (Nat.le_refl _)) (blk_cells (i := 1) kb1.out rfl)
    simp only [qqa, qqb, qqc] at q0 q1
    have kOp := hid (fun W => options_any (sb := sb) k f W)
    unfold partV at kOp
    gi_wp2_with fail
    generalize w4.alloc (.cells #[.int .i64 z] 2) = w5 at *
    generalize w4.heap.size = nb at *
    clear w4
    have kb5 := hid b5
    have kz5 := hid z5
    clear b5 z5
    refine ⟨trivial, callsIn_wide.2 ((kOp.out _).mono ?_)⟩
    rintro e w' ⟨rfl, e9⟩
    rw [e9, kz5.out]
    clear e9 w'
    have o7 : Old w5 (w5.alloc (.cells #[.pointer (some ⟨sb, 0, none⟩)] 109)) := (Old.refl w5).alloc _
    have b7 := heap_new w5 (.cells #[.pointer (some ⟨sb, 0, none⟩)] 109)
    have z7 := alloc_size w5 (.cells #[.pointer (some ⟨sb, 0, none⟩)] 109)
    rw [kz5.out] at b7 z7
    generalize w5.alloc (.cells #[.pointer (some ⟨sb, 0, none⟩)] 109) = w7 at *
    have o8 : Old w7 (w7.alloc (.cells #[.int .i64 (k : Int), .int .u32 (f : Int)] 112)) := (Old.refl w7).alloc _
    have b8 := heap_new w7 (.cells #[.int .i64 (k : Int), .int .u32 (f : Int)] 112)
    have z8 := alloc_size w7 (.cells #[.int .i64 (k : Int), .int .u32 (f : Int)] 112)
    rw [z7] at b8 z8
    clear c0 q0 q1
    gi_wp2_with fail
    generalize w7.alloc (.cells #[.int .i64 (k : Int), .int .u32 (f : Int)] 112) = X0 at *
    have oX := o7.trans o8
    have kb7 := hid ((o8.block _ (blk_lt b7) (fun h => h)).trans b7)
    have kb8 := hid b8
    have kzX := hid z8
    have kcX := hid (kc5.out.trans (KeptC.of_frm (Frm.mono oX (fun _ _ h => h.elim))))
    have kfX : Hid (Frm (fun q => q = mb) W X0) := Frm.trans kf5.out oX (fun _ _ e => e.elim)
    have kmX := hid (km5.out.kept oX (fun h => h))
    have kbX := hid ((oX.block nb (blk_lt kb5.out) (fun h => h)).trans kb5.out)
    clear o7 o8 oX b7 b8 z7 z8 kc5 kf5 km5 kb5 kz5 w5 w7
    obtain ⟨R, hR⟩ : ∃ R, B.drop (k + 1) = R := ⟨_, rfl⟩
    obtain ⟨L, hL⟩ : ∃ L, B[k] = L := ⟨_, rfl⟩
    have kRL : Hid (B.drop k = L :: R) := by show _ = _; rw [List.drop_eq_getElem_cons hklt, hL, hR]
    obtain ⟨g, o, a0, c0, hbo, hro⟩ := kg.out.rows k hklt
    rw [hL] at hro
    subst hbo
    have hLm : L ∈ B := by rw [← hL]; exact List.getElem_mem hklt
    have kL := hid hL
    have kR := hid hR
    have kro := hid (fun Y (h : KeptC (fun q => T q ∨ q = ch) w2 Y) => hro Y ((kkW.out.trans (KeptC.of_frm (Frm.mono ko2.out (fun _ _ h => h.elim)))).trans h))
    clear hR hL hro
    have hkc2 : Hid (∀ Y, KeptC (fun q => T q ∨ q = ch) X0 Y → OC sb B.length cap g o a0 c0 (nb + 1) (nb + 1 + 1) k f L Y) := fun Y hk => by
      have hn := ks4.out
      have d0 := blk_cells (i := 0) kb8.out rfl
      have d1 := blk_cells (i := 1) kb8.out rfl
      simp only [qqa, qqb, qqc] at d0 d1
      have hkY := kcX.out.trans hk
      exact ⟨kept_cell hk (hsT.out _ (by dsimp only; omega)) (blk_cell kb7.out), kept_cell hk (hsT.out _ (by dsimp only; omega)) d0, kept_cell hk (hsT.out _ (by dsimp only; omega)) d1, (kCx.out Y hkY).2.c0, (kro.out Y hkY).1, (kro.out Y hkY).2⟩
    have kSq := hid (options1_Q 4 (by omega) sb B.length cap g o a0 c0 (nb + 1) (nb + 1 + 1) k f L hklt hkl (kg.out.ok.eight L hLm) (fun x hx => (kg.out.ok.off L hLm x hx).1) (fun q => T q ∨ q = ch) X0 hkc2.out)
    refine range_Qb (α := Opt) (by omega) (gf := 91) (lb := #[.pointer (some ⟨nb + 1, 0, none⟩), .pointer (some ⟨nb + 1 + 1, 0, none⟩)]) rfl (enters_of Tryz.func91 (by kernel_rfl) rfl)
      kSq.out (fun h k => h.trans k) (fun W o => KeptC.of_frm ((Frm.refl _ W).alloc o)) (fun W o o' h1 h2 => KeptC.put W _ o o' h1 h2) (fun _ => rfl)
      (fun q Y => KeptC (fun q => T q ∨ q = ch) X0 Y ∧ KeepsFrom N W Y ∧ KM B Y mb ∧ Hd Y ch n h ∧ X0.heap.size ≤ Y.heap.size ∧ ∃ qq, qq.map Prod.snd = (q.flatMap (optE L R f)).map (fun c => h ++ c) ∧ Bw (X0.heap.size + 2) Y.heap.size qq ∧ J (p ++ qq) Y)
      (fun c _ Y => c = .ret ∧ Y.heap[s + 1]? = some (.cells #[.bool false] 4) ∧ FrP (X0.heap.size + 2) mb N ch n B T J Jx E h p ((allC (B.drop k) f).map (fun c => h ++ c)) W (.returned (.bool false)) Y)
      ?fI ?fX ?gI ?gX ?f0 (fun x => .cells #[.int .i64 x.1, .int .i64 x.2.1, .int .i64 ((k : Int) + 1), .int .u32 (x.2.2 : Int)] 146) (fun x mm t => (t.setIfInBounds 27 (optV k x)).setIfInBounds 8 (.pointer (some ⟨mm, 0, none⟩)))
      ?assign ?body ?done ?stop
    case fI =>
      rintro q X Y ⟨h1, h2, h3, h4, h5, qq, h6, h8, h7⟩ o
      exact ⟨h1.trans (KeptC.of_frm (Frm.mono o (fun _ _ e => e.elim))), h2.trans (keeps_old o), h3.kept o (fun e => e), h4.same (o.block ch h4.lt (fun e => e)), Nat.le_trans h5 o.size, qq, h6, h8.mono (Nat.le_refl _) o.size, kg.out.j _ _ _ h7 (Frm.mono o (fun _ _ e => e.elim))⟩
    case fX =>
      rintro c q X Y ⟨h0, h1, h2⟩ o
      exact ⟨h0, by rw [o.block _ (blk_lt h1) (fun e => e)]; exact h1, FrP.frm kg.out ksz.out kpb.out h2 (Frm.mono o (fun _ _ e => e.elim))⟩
    case gI =>
      rintro q X ob ob' ⟨h1, h2, h3, h4, h5, qq, h6, h8, h7⟩ hob hoc
      have e1 := kzX.out
      have e2 := ks4.out
      have e3 := kss.out
      have e4 := ksz.out
      have e5 := kg.out.hN
      have e6 := kg.out.hmb
      have e7 := kg.out.hch.2
      have hf := put_one (X := X) (l := X0.heap.size + 1) ob'
      have hf2 : Frm (fun t => X0.heap.size ≤ t) X (X.putObj (X0.heap.size + 1) ob') := Frm.mono hf (fun _ _ e => by omega)
      exact ⟨kept_frm h1 hf2 (Nat.le_refl _) h5, keeps_frm h2 hf2 (by omega), h3.kept hf (by omega), h4.same (hf.block ch h4.lt (by omega)), Nat.le_trans h5 hf.size, qq, h6, h8.mono (Nat.le_refl _) hf.size, kg.out.j _ _ _ h7 (Frm.mono hf (fun t _ e => .inr ⟨by omega, (kpb.out.fd (.inr (by omega))).app (h8.fd (.inl (by omega)))⟩))⟩
    case gX =>
      rintro c q X ob ob' ⟨h0, h1, h2⟩ hob hoc
      have e1 := kzX.out
      have e2 := ks4.out
      have e3 := kss.out
      have hf := put_one (X := X) (l := X0.heap.size + 1) ob'
      exact ⟨h0, by rw [hf.block _ (blk_lt h1) (by omega)]; exact h1, FrP.frm kg.out ksz.out kpb.out h2 (Frm.mono hf (fun t _ e => by omega))⟩
    case f0 =>
      have e6 := kg.out.hmb
      have e7 := kg.out.hch.1
      exact ⟨KeptC.of_frm (Frm.refl _ _), keeps_map e6 kfX.out, kmX.out, kd.out.same (kfX.out.block ch kd.out.lt (by omega)), Nat.le_refl _, [], rfl, Bw.nil, by rw [List.append_nil]; exact kg.out.j _ _ _ kj.out (Frm.mono kfX.out (fun _ _ e => .inl e))⟩
    case assign =>
      intro l p x Y K _ hK
      have kK := hid hK
      clear hK
      dsimp only [encO, optV] at kK ⊢
      gi_wp2_with fail
      exact kK.out
    case body =>
      rintro l q x mm Y ⟨h1, h2, h3, h4, h5, qq, h6, h8, h7⟩ ⟨r, hr⟩ hmm hms
      have hxo : x ∈ opts L f := by rw [hr]; simp
      have hoL := kg.out.ok.off L hLm
      have hsb : Sub f (2 ^ m - 1) := sub_of_lt hf
      have hxi := opt_in hoL (by omega) hsb hxo
      have hxf : x.2.2 < 2 ^ m := lt_of_sub hxi.2.1
      have hxc := hxi.2.2
      have hRo := hid (fun l hl => kg.out.ok.drop (k + 1) l hl)
      rw [kR.out] at hRo
      have hre := hid (reach_is kg.out.ok.pr hRo.out hxo ⟨hxi.1, hxi.2.1⟩)
      have kRe := hid (fun V (o : Old Y V) => reaches_any kg.out.ok k x z hklt hxf hxc V (kCx.out V ((kcX.out.trans h1).trans (KeptC.of_frm (Frm.mono o (fun _ _ h => h.elim))))).2 (h3.kept o (fun h => h)))
      rw [kR.out] at kRe
      have kRb : Hid (reB P m R x z = decide (x.2.1 + best R x.2.2 = z)) := by
        show _ = _
        unfold reB
        rw [← kz.out, kRL.out]
        exact hre.out
      rw [kRb.out] at kRe
      have kY := hid (kcX.out.trans h1)
      have c0 := (kCx.out Y kY.out).1.s
      have q0 := kept_cell kY.out (hsT.out s (Nat.le_refl _)) (blk_cells (i := 0) kb1.out rfl)
      have n0 := kept_cell h1 (hsT.out nb (by have := ks4.out; omega)) (blk_cell kbX.out)
      have m0 := blk_cells (i := 0) hmm rfl
      have m1 := blk_cells (i := 1) hmm rfl
      have m2 := blk_cells (i := 2) hmm rfl
      have m3 := blk_cells (i := 3) hmm rfl
      simp only [qqa, qqb, qqc] at q0 m0 m1 m2 m3
      obtain ⟨xn, xc, xf⟩ := x
      unfold optV at kRe
      dsimp only at *
      have kh1 := hid h1
      have kh2 := hid h2
      have kh3 := hid h3
      have kh4 := hid h4
      have kh5 := hid h5
      have kh6 := hid h6
      have kh7 := hid h7
      have kh8 := hid h8
      have kmm := hid hmm
      have kr := hid hr
      clear h1 h2 h3 h4 h5 h6 h7 h8 hmm hr hre hxo hoL hsb
      gi_wp2_with fail
      refine ⟨trivial, CallsIn.inRound l (callsIn_wide.2 ((kRe.out Y (Old.refl Y)).mono ?_))⟩
      rintro e V1 ⟨rfl, hfv, hmv⟩
      have kN := hid kg.out.hmb
      have kvk : Hid (KeptC (fun q => T q ∨ q = ch) Y V1) := kept_map kh3.out hfv
      have kvF : Hid (KeepsFrom N Y V1) := keeps_map kN.out hfv
      have kvm := hid hmv
      have kvf := hid hfv
      have hne : Hid (ch ≠ mb) := by
        have := kg.out.hch.1
        have := kN.out
        show _ ≠ _
        omega
      have kvd := hid (kh4.out.same (kvf.out.block ch kh4.out.lt hne.out))
      have kvj := hid (kg.out.j _ _ _ kh7.out (Frm.mono hfv (fun _ _ e => .inl e)))
      have kvs := hid (Nat.le_trans kh5.out hfv.size)
      clear kRe c0 q0 n0 hfv hmv
      by_cases hrx : xc + best R xf = z
      · have hrd : decide (xc + best R xf = z) = true := decide_eq_true hrx
        rw [hrd]
        obtain ⟨r0, hr0⟩ := kE.out
        rw [kRL.out, allC_opts] at hr0
        obtain ⟨r', hE'⟩ := E_split (x := (xn, xc, xf)) hr0 kr.out (by rw [← kRL.out, kz.out]; exact hrx)
        have kE' := hid hE'
        have kfl := hid (flat_yes (L := L) (R := R) (f := f) (q := q) (x := (xn, xc, xf)) (h := h) (by rw [← kRL.out, kz.out]; exact hrx))
        have ky1 := hid ((kY.out.trans kvk.out))
        have c0 := (kCx.out V1 ky1.out).1.c
        have c3 := (kCx.out V1 ky1.out).1.f
        have q0 := kept_cell ky1.out (hsT.out s (Nat.le_refl _)) (blk_cells (i := 0) kb1.out rfl)
        have kmm1 : Hid (V1.heap[mm]? = some (.cells #[.int .i64 xn, .int .i64 xc, .int .i64 ((k : Int) + 1), .int .u32 (xf : Int)] 146)) := by
          show _ = _
          rw [kvf.out.block mm (blk_lt kmm.out) (by have := kN.out; have := kg.out.hN; have := ksz.out; have := kss.out; have := ks4.out; have := kzX.out; omega)]
          exact kmm.out
        have m0 := blk_cells (i := 0) kmm1.out rfl
        simp only [qqa, qqb] at q0 m0
        obtain ⟨⟨u, hu1⟩, hu2⟩ := kvd.out.cell (by omega)
        rw [hh] at hu1 hu2
        have hdw := kvd.out.set (by omega) xn
        rw [hh] at hdw
        have hnl : (k : Int) < (n : Int) := by omega
        have fS := frm_set V1 ch k (.int .i64 xn)
        have ky2 : Hid (KeptC (fun q => T q ∨ q = ch) V1 (V1.setCell ⟨ch, k, none⟩ (.int .i64 xn))) := KeptC.of_frm (Frm.mono fS (fun _ _ e => .inr e))
        have kf2 : Hid (KeepsFrom N V1 (V1.setCell ⟨ch, k, none⟩ (.int .i64 xn))) := (KeepsOthers.setCell _ _ _).from N
        have c3 := (kCx.out _ (ky1.out.trans ky2.out)).1.f
        unfold frV at c3
        have kmm2 : Hid ((V1.setCell ⟨ch, k, none⟩ (.int .i64 xn)).heap[mm]? = some (.cells #[.int .i64 xn, .int .i64 xc, .int .i64 ((k : Int) + 1), .int .u32 (xf : Int)] 146)) := by
          show _ = _
          rw [Below.heap_setCell _ _ _ _ (by have := kg.out.hch.2; have := ksz.out; have := kss.out; have := ks4.out; have := kzX.out; show mm ≠ ch; omega)]
          exact kmm1.out
        have m2 := blk_cells (i := 2) kmm2.out rfl
        have m3 := blk_cells (i := 3) kmm2.out rfl
        simp only [qqa, qqb, qqc] at m2 m3
        have kV2 : Hid (Y.heap.size ≤ (V1.setCell ⟨ch, k, none⟩ (.int .i64 xn)).heap.size ∧ X0.heap.size + 2 < Y.heap.size + 1 ∧ W.heap.size ≤ Y.heap.size) := by
          have h1 := fS.size
          have h2 := kvf.out.size
          have h3 := blk_lt kmm.out
          have h4 := kfX.out.size
          have h5 := kh5.out
          exact ⟨by omega, by omega, by omega⟩
        have ksz2 : Hid (W0.heap.size ≤ (V1.setCell ⟨ch, k, none⟩ (.int .i64 xn)).heap.size) := by
          have h1 := fS.size
          have h2 := kvs.out
          have h3 := ksz.out
          have h4 := kfX.out.size
          show _ ≤ _
          omega
        have kC := hid (kih.out hklt xf (h ++ [xn]) (p ++ qq) _ hxf (by simp [hh]) ((((kkW.out.trans (KeptC.of_frm (Frm.mono ko2.out (fun _ _ h => h.elim)))).trans ky1.out)).trans ky2.out) (kvm.out.kept fS (fun e => hne.out e.symm)) hdw (kg.out.j _ _ _ kvj.out (Frm.mono fS (fun t _ e => .inr ⟨by have := kg.out.hch.1; omega, (kpb.out.fd (.inl (by have := kg.out.hch.2; omega))).app (kh8.out.fd (.inl (by have := kg.out.hch.2; have := ksz.out; have := kss.out; have := ks4.out; have := kzX.out; omega)))⟩))) ((kpb.out.mono (Nat.le_refl _) (by have := kV2.out; omega)).app (kh8.out.mono (by have := ksz.out; have := kss.out; have := ks4.out; have := kzX.out; omega) (by have := kV2.out; omega))) ksz2.out ⟨r', by rw [kR.out, List.map_append, kh6.out]; exact kE'.out⟩)
        rw [kR.out] at kC
        unfold partV at kC
        have hk1 : ((k + 1 : Nat) : Int) = (k : Int) + 1 := by omega
        rw [hk1] at kC
        clear hrx hrd hr0 hE' fS hdw
        gi_wp2_with fail
        generalize V1.setCell ⟨ch, k, none⟩ (.int .i64 xn) = V2 at *
        refine ⟨trivial, CallsIn.inRound l (callsIn_wide.2 (kC.out.mono ?_))⟩
        rintro e V3 ⟨g1, g2, g4, g3⟩
        have kA1 := hid ((kvk.out.trans ky2.out).trans g2)
        have kA2 := hid ((kvF.out.trans kf2.out).trans g1)
        have hX3 : Hid (N ≤ X0.heap.size ∧ s + 1 < X0.heap.size ∧ W.heap.size = s) := by
          have := kg.out.hN
          have := ksz.out
          have := kss.out
          have := ks4.out
          have := kzX.out
          exact ⟨by omega, by omega, by omega⟩
        clear c0 c3 q0 m0 m2 m3 hu1 hu2 kC
        rcases g3 with ⟨rfl, g5, q', g6, g8, g7⟩ | ⟨rfl, q', g6, g8, g5⟩
        · clear g1 g2
          gi_wp2_with fail
          refine ⟨keeps_up kA2.out hX3.out.1, kA1.out, kh1.out.trans kA1.out, kh2.out.trans kA2.out, g4, g5.cut, Nat.le_trans kh5.out kA2.out.size, qq ++ q', ?_, (kh8.out.mono (Nat.le_refl _) kA2.out.size).app (g8.mono (by have := kV2.out; omega) (Nat.le_refl _)), by rw [← List.append_assoc]; exact g7⟩
          rw [List.map_append, kh6.out, g6, kfl.out]
        · have b3 : V3.heap[s + 1]? = some (.cells #[.bool false] 4) := (kY.out.trans kA1.out) _ _ (hsT.out _ (by omega)) kb2.out rfl
          have c1 := blk_cells (i := 0) b3 rfl
          have c2 := blk_fz b3 0
          have b4 := heap_set (i := 0) (.bool false) b3
          have hfr : FrP (X0.heap.size + 2) mb N ch n B T J Jx E h p ((allC (B.drop k) f).map (fun c => h ++ c)) W (.returned (.bool false)) V3 := ⟨kh2.out.trans kA2.out, ((KeptC.of_frm (Frm.mono ko2.out (fun _ _ h => h.elim))).trans kY.out).trans kA1.out, g4, .inr ⟨rfl, qq ++ q', by rw [← List.append_assoc]; exact g6, (kh8.out.mono (Nat.le_refl _) kA2.out.size).app (g8.mono (by have := kV2.out; omega) (Nat.le_refl _)), by rw [← List.append_assoc]; exact g5⟩⟩
          have kfr := hid (FrP.frm kg.out ksz.out kpb.out hfr ((Frm.refl (fun q => W.heap.size ≤ q ∧ q < X0.heap.size + 2) V3).setCell ⟨s + 1, 0, none⟩ (.inr (by have := hX3.out; show W.heap.size ≤ s + 1 ∧ s + 1 < X0.heap.size + 2; omega)) (.bool false)))
          have kA3 := hid (kA2.out.trans ((KeepsOthers.setCell V3 ⟨s + 1, 0, none⟩ (.bool false)).from N))
          have kb4 := hid b4
          clear g1 g2 g4 g5 g6 g8 b3 b4 hfr
          gi_wp2_with fail
          exact ⟨keeps_up kA3.out hX3.out.1, rfl, kb4.out, kfr.out⟩
      · have hrd : decide (xc + best R xf = z) = false := decide_eq_false hrx
        rw [hrd]
        have kfl := hid (flat_no (L := L) (R := R) (f := f) (q := q) (x := (xn, xc, xf)) (by rw [← kRL.out, kz.out]; exact hrx))
        clear hrx hrd
        gi_wp2_with fail
        refine ⟨keeps_up kvF.out (by have := kg.out.hN; have := ksz.out; have := kss.out; have := ks4.out; have := kzX.out; omega), kvk.out, kh1.out.trans kvk.out, kh2.out.trans kvF.out, kvm.out, kvd.out, kvs.out, qq, by rw [kfl.out]; exact kh6.out, kh8.out.mono (Nat.le_refl _) kvf.out.size, kvj.out⟩
    case done =>
      rintro D q Y hD rfl ⟨h1, h2, h3, h4, h5, qq, h6, h8, h7⟩ hDb
      have e1 := kzX.out
      have e2 := ks4.out
      have e3 := kss.out
      have b3 : Y.heap[s + 1]? = some (.cells #[.bool false] 4) := (kcX.out.trans h1) _ _ (hsT.out _ (by omega)) kb2.out rfl
      have c1 := blk_cells (i := 0) b3 rfl
      have c2 := blk_fz b3 0
      have c3 := cell_set (u := .bool true) b3
      have hfr : FrP (X0.heap.size + 2) mb N ch n B T J Jx E h p ((allC (B.drop k) f).map (fun c => h ++ c)) W (.returned (.bool true)) Y := ⟨h2, ((KeptC.of_frm (Frm.mono ko2.out (fun _ _ h => h.elim))).trans kcX.out).trans h1, h3, .inl ⟨rfl, h4, qq, by rw [h6, kRL.out, allC_opts], h8, h7⟩⟩
      have kfr := hid (FrP.frm kg.out ksz.out kpb.out hfr ((Frm.refl (fun q => W.heap.size ≤ q ∧ q < X0.heap.size + 2) Y).setCell ⟨s + 1, 0, none⟩ (.inr (by show W.heap.size ≤ s + 1 ∧ s + 1 < X0.heap.size + 2; omega)) (.bool true)))
      have kDb : Hid ((Y.setCell ⟨s + 1, 0, none⟩ (.bool true)).heap[D]? = some (.deferred (some []))) := by
        show _ = _
        rw [Below.heap_setCell _ _ _ _ (by show D ≠ s + 1; omega)]
        exact hDb
      have hDs : Hid (s + 1 < D ∧ X0.heap.size = D) := by exact ⟨by omega, hD⟩
      clear h1 h2 h3 h4 h5 h6 h7 h8 hDb hfr e1 e2 e3 b3
      gi_wp2_with fail
      generalize Y.setCell ⟨s + 1, 0, none⟩ (.bool true) = Z at *
      gi_wp2_with fail
      refine leave_marks [D] _ ⟨by simp, fun r hr => ?_⟩ (fun W' hW' => ?_)
      · obtain rfl : r = D := by simpa using hr
        exact kDb.out
      · refine ⟨.bool true, ?_, (FrP.frm kg.out ksz.out kpb.out kfr.out (Frm.mono hW' (fun i _ h => by
          have : i = D := by simpa using h
          have := hDs.out
          have := kss.out
          omega))).weak (by have := hDs.out; have := kss.out; omega)⟩
        have e4 := frm_cell hW' c3 (by have := hDs.out; simp; omega)
        simp [results, Tryz.f72, go_sem, e4]
    case stop =>
      rintro D c q Y hD - ⟨rfl, b3, hfr⟩ hDb
      have e1 := kzX.out
      have e2 := ks4.out
      have e3 := kss.out
      have c3 := blk_cell b3
      gi_wp2_with fail
      refine leave_marks [D] _ ⟨by simp, fun r hr => ?_⟩ (fun W' hW' => ?_)
      · obtain rfl : r = D := by simpa using hr
        exact hDb
      · refine ⟨.bool false, ?_, (FrP.frm kg.out ksz.out kpb.out hfr (Frm.mono hW' (fun i _ h => by
          have : i = D := by simpa using h
          omega))).weak (by omega)⟩
        have e4 := frm_cell hW' c3 (by simp; omega)
        simp [results, Tryz.f72, go_sem, e4]

theorem from_all (g0 : GO B m P sb mb bo cap cb cc sP yP cP fP ch n lp N T J Jx E W0) : ∀ (d k f : Nat) (h : List Int) (p : List Ch) (W : World), B.length - k = d → k ≤ B.length → f < 2 ^ m → h.length = k → KeptC (fun q => T q ∨ q = ch) W0 W → KM B W mb → Hd W ch n h → J p W → Bw W0.heap.size W.heap.size p → W0.heap.size ≤ W.heap.size → (∃ r, E = p.map Prod.snd ++ (allC (B.drop k) f).map (fun c => h ++ c) ++ r) →
    Calls Tryz.prog 72 #[partV k f, .pointer (some ⟨sP, 0, none⟩), .pointer (some ⟨yP, 0, none⟩), .pointer (some ⟨cP, 0, none⟩), .pointer (some ⟨fP, 0, none⟩)] W (FrP W.heap.size mb N ch n B T J Jx E h p ((allC (B.drop k) f).map (fun c => h ++ c)) W)
  | 0, k, f, h, p, W, hd, hk, hf, hh, hkW, hm, hdd, hj, hpb, hsz, hE => from_step g0 k f hk hf h hh p (fun hlt => absurd hlt (by omega)) W hkW hm hdd hj hpb hsz hE
  | d + 1, k, f, h, p, W, hd, hk, hf, hh, hkW, hm, hdd, hj, hpb, hsz, hE => from_step g0 k f hk hf h hh p (fun hlt f' h' p' W' a1 a2 a3 a4 a5 a6 a7 a8 a9 => from_all g0 d (k + 1) f' h' p' W' (by omega) (by omega) a1 a2 a3 a4 a5 a6 a7 a8 a9) W hkW hm hdd hj hpb hsz hE
end Go.Proofs.YtfoadheepmgbfaaGreatDoor
