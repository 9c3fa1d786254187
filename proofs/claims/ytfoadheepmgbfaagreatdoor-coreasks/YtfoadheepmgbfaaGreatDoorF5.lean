/- The best choice of a part: walked. -/
import Derived.Test.YtfoadheepmgbfaaGreatDoorJ17
namespace Go.Proofs.YtfoadheepmgbfaaGreatDoor
open Go.RowKit Go.Lib Go.Shelf
attribute [local go_sem] Oper.semAt_some



/-- The best choice of a part. -/
def ptC (gd : Int) (B : Ins) (k : Int) (f : Nat) : List Int := if ckZ gd B k f = 0 then (toldC B k.toNat f).headD [] else []

/-- A search in memory, whatever turns but some blocks that came later. -/
theorem SrK.of {B : Ins} {m : Nat} {P : List Int} {sb mb : Nat} {bo : Option Addr} {cap cb cc : Nat} {T : Nat → Prop} {w X : World} (h : Sr B m P sb mb bo cap cb cc w) (o : Old w X) (hT : ∀ q, T q → w.heap.size ≤ q) : SrK B m P sb mb bo cap cb cc T X := by
  have hc : ∀ Y, KeptC T X Y → ∀ p v, w.cell? p = some v → Y.cell? p = some v := fun Y hY p v hv => kept_cell hY (fun e => by
    have := hT _ e
    have := World.block_lt_of_cell? _ _ hv
    omega) (o.cell hv)
  refine ⟨fun Y hY => h.kept (hc Y hY), fun i hi => ?_⟩
  obtain ⟨g, o', a0, c0, e1, e2, e3, -, -⟩ := h.ins i hi
  exact ⟨g, o', a0, c0, e1, fun Y hY => ⟨hc Y hY _ _ e2, fun j hj => by
    obtain ⟨g', o'', f1, f2, f3⟩ := e3 j hj
    exact ⟨g', o'', f1, hc Y hY _ _ f2, hc Y hY _ _ f3⟩⟩⟩

theorem NewZ.frm2 {N : Nat} {S : Nat → Prop} {w w' : World} {v : Value} {L : List Int} (h : NewZ N w v L) (hf : Frm S w w') (hS : ∀ b n c, v = .slice (some ⟨b, 0, none⟩) n c → N ≤ b → ¬ S b) : NewZ N w' v L := by
  obtain ⟨ao, c, e1, e2⟩ := h
  refine ⟨ao, c, e1, e2.imp id ?_⟩
  rintro ⟨b, cur, rfl, e4, e5, e6⟩
  exact ⟨b, cur, rfl, e4, by rw [hf.block b (blk_lt e5) (hS b _ _ e1 e4)]; exact e5, e6⟩
theorem NewZ.old {N : Nat} {w w' : World} {v : Value} {L : List Int} (h : NewZ N w v L) (o : Old w w') : NewZ N w' v L := h.frm2 o (fun _ _ _ _ _ h => h)
theorem NewZ.frm3 {N l : Nat} {w : World} {v : Value} {L : List Int} {o : Obj} (h : NewZ N w v L) (ho : w.heap[l]? = some o) (hc : o.isCells = false) (o' : Obj) : NewZ N (w.putObj l o') v L := by
  obtain ⟨ao, c, e1, e2⟩ := h
  refine ⟨ao, c, e1, e2.imp id ?_⟩
  rintro ⟨b, cur, rfl, e4, e5, e6⟩
  refine ⟨b, cur, rfl, e4, ?_, e6⟩
  rw [World.putObj_heap_other (fun e => ?_)]
  · exact e5
  · rw [e, ho] at e5
    cases e5
    cases hc

theorem NewZ.frm4 {N D : Nat} {w w' : World} {v : Value} {L : List Int} {o : Obj} (h : NewZ N w v L) (ho : w.heap[D]? = some o) (hc : o.isCells = false) (hf : Frm (fun q => q ∈ [D]) w w') : NewZ N w' v L := by
  obtain ⟨ao, c, e1, e2⟩ := h
  refine ⟨ao, c, e1, e2.imp id ?_⟩
  rintro ⟨b, cur, rfl, e4, e5, e6⟩
  refine ⟨b, cur, rfl, e4, ?_, e6⟩
  rw [hf.block b (blk_lt e5) (fun e => ?_)]
  · exact e5
  · obtain rfl : b = D := by simpa using e
    rw [ho] at e5
    cases e5
    cases hc

theorem toldC_some (B : Ins) (k f : Nat) : toldC B k f ≠ [] := by
  unfold toldC
  intro e
  have := List.map_eq_nil_iff.1 e
  exact allC_some _ _ this

set_option maxRecDepth 100000 in
set_option maxHeartbeats 4000000 in
theorem part_any (gd : Int) (bo : Option Addr) (cap : Nat) (B : Ins) (k : Int) (f : Nat) (hfu : f < 4294967296) (w : World) (h : InsC w bo B) (hcap : B.length ≤ cap) (hl : B.length ≤ 9223372036854775807) (hT : Tabs w) :
    Calls Tryz.prog 48 #[.agg #[.int .i64 gd, .slice bo B.length cap], .int .i64 k, .int .u32 (f : Int)] w fun e w' => ∃ v, e = .returned (.tuple #[.agg #[v, .int .i64 (frZ gd B k f)], .int .i64 (ckZ gd B k f)]) ∧ NewZ w.heap.size w' v (ptC gd B k f) ∧ Old w w' := by
  have kC := hid (fun V (o : Old w V) => ckc_any gd bo cap B k f V (h.old o) hl)
  have kh := hid h
  have kT := hid hT
  clear h hT
  unfold frZ ptC
  by_cases hz : ckZ gd B k f = 0
  · obtain ⟨h1, h2, h3, h4, h5, h6⟩ := ck_ok hfu hz
    rw [if_pos hz, if_pos hz]
    rw [hz] at kC ⊢
    obtain ⟨m, rfl⟩ : ∃ m : Nat, gd = (m : Int) := ⟨gd.toNat, by omega⟩
    obtain ⟨kk, rfl⟩ : ∃ kk : Nat, k = (kk : Int) := ⟨k.toNat, by omega⟩
    simp only [Int.toNat_natCast] at h4 ⊢
    have o1 : Old w (w.alloc (.cells #[.int .i64 (m : Int), .slice bo B.length cap] 24)) := (Old.refl w).alloc _
    have oR : Old (w.alloc (.cells #[.int .i64 (m : Int), .slice bo B.length cap] 24)) ((w.alloc (.cells #[.int .i64 (m : Int), .slice bo B.length cap] 24)).alloc (.cells #[.slice none 0 0, .int .i64 0] 71)) := (Old.refl _).alloc _
    have bR := heap_new (w.alloc (.cells #[.int .i64 (m : Int), .slice bo B.length cap] 24)) (.cells #[.slice none 0 0, .int .i64 0] 71)
    rw [alloc_size] at bR
    have c0 := oR.cell (new_cell w #[.int .i64 (m : Int), .slice bo B.length cap] 24 0 _ rfl)
    have c1 := oR.cell (new_cell w #[.int .i64 (m : Int), .slice bo B.length cap] 24 1 _ rfl)
    have ko := hid (o1.trans oR)
    have kbR := hid bR
    obtain ⟨s, hs⟩ : ∃ s, w.heap.size = s := ⟨_, rfl⟩
    clear oR bR
    have kS := hid (fun V (o : Old w V) => newSearch_any m bo cap B kk (by omega) h1 hcap V (kh.out.old o) (kT.out.old o))
    clear hz o1
    refine (callsIn_wide (n := 5)).1 ?_
    refine callsIn_of_wp_marks Tryz.func48 rfl trivial ?_ rfl
    simp only [Tryz.ntmps48, List.size_toArray, List.length_cons, List.length_nil, Nat.reduceAdd, Nat.reduceSub, Array.replicate_succ, Array.replicate_zero, List.push_toArray, List.append_toArray, List.nil_append, List.cons_append]
    gi_wp2_with fail
    refine ⟨trivial, callsIn_wide.2 ((kC.out _ ko.out).mono ?_)⟩
    rintro e w2 ⟨rfl, o2⟩
    have kb2 := hid ((o2.block _ (blk_lt kbR.out) (fun h => h)).trans kbR.out)
    have c0 := o2.cell c0
    have c1 := o2.cell c1
    simp only [qqa, qqb, qqc] at c0 c1
    have ko2 := hid (ko.out.trans o2)
    rw [hs] at c0 c1 kb2
    clear o2 kC
    gi_wp2_with fail
    refine ⟨trivial, callsIn_wide.2 ((kS.out w2 ko2.out).mono ?_)⟩
    rintro e w3 ⟨P, sb, mb, cb, cc, rfl, ok, hsr, hm, o3, g1, g2, g3⟩
    clear c0 c1 kS
    obtain ⟨qb, hqb⟩ : ∃ qb, w3.heap.size = qb := ⟨_, rfl⟩
    have o4 : Old w3 (w3.alloc (.cells #[.int .i64 (kk : Int), .int .u32 (f : Int)] 112)) := (Old.refl w3).alloc _
    have b4 := heap_new w3 (.cells #[.int .i64 (kk : Int), .int .u32 (f : Int)] 112)
    have z4 := alloc_size w3 (.cells #[.int .i64 (kk : Int), .int .u32 (f : Int)] 112)
    have o5 : Old (w3.alloc (.cells #[.int .i64 (kk : Int), .int .u32 (f : Int)] 112)) ((w3.alloc (.cells #[.int .i64 (kk : Int), .int .u32 (f : Int)] 112)).alloc (.cells #[.slice none 0 0] 29)) := (Old.refl _).alloc _
    have b5 := heap_new (w3.alloc (.cells #[.int .i64 (kk : Int), .int .u32 (f : Int)] 112)) (.cells #[.slice none 0 0] 29)
    have z5 := alloc_size (w3.alloc (.cells #[.int .i64 (kk : Int), .int .u32 (f : Int)] 112)) (.cells #[.slice none 0 0] 29)
    rw [hqb] at b4 z4
    rw [z4] at b5 z5
    have kb4 := hid ((o5.block qb (blk_lt b4) (fun h => h)).trans b4)
    have kb5 := hid b5
    have kz5 := hid z5
    have ko5 := hid (o4.trans o5)
    have kCh := hid (fun V => choices_any (sb := sb) kk f V)
    unfold partV at kCh
    gi_wp2_with fail
    generalize (w3.alloc (.cells #[.int .i64 (kk : Int), .int .u32 (f : Int)] 112)) = w4 at *
    generalize (w4.alloc (.cells #[.slice none 0 0] 29)) = w5 at *
    clear b4 z4 b5 z5 o4 o5 w4
    refine ⟨trivial, callsIn_wide.2 ((kCh.out w5).mono ?_)⟩
    rintro e w' ⟨rfl, e9⟩
    rw [e9, kz5.out]
    clear e9 w'
    have o6 : Old w5 (w5.alloc (.cells #[.pointer (some ⟨sb, 0, none⟩)] 109)) := (Old.refl w5).alloc _
    have b6 := heap_new w5 (.cells #[.pointer (some ⟨sb, 0, none⟩)] 109)
    have z6 := alloc_size w5 (.cells #[.pointer (some ⟨sb, 0, none⟩)] 109)
    rw [kz5.out] at b6 z6
    generalize w5.alloc (.cells #[.pointer (some ⟨sb, 0, none⟩)] 109) = w6 at *
    have o7 : Old w6 (w6.alloc (.cells #[.int .i64 (kk : Int), .int .u32 (f : Int)] 112)) := (Old.refl w6).alloc _
    have b7 := heap_new w6 (.cells #[.int .i64 (kk : Int), .int .u32 (f : Int)] 112)
    have z7 := alloc_size w6 (.cells #[.int .i64 (kk : Int), .int .u32 (f : Int)] 112)
    rw [z6] at b7 z7
    gi_wp2_with fail
    generalize w6.alloc (.cells #[.int .i64 (kk : Int), .int .u32 (f : Int)] 112) = X0 at *
    have oX := o6.trans o7
    have kb6 := hid ((o7.block _ (blk_lt b6) (fun h => h)).trans b6)
    have kb7 := hid b7
    have kzX := hid z7
    have kb4 := hid ((oX.block qb (blk_lt kb4.out) (fun h => h)).trans kb4.out)
    have kb5 := hid ((oX.block (qb + 1) (blk_lt kb5.out) (fun h => h)).trans kb5.out)
    have koX := hid (ko5.out.trans oX)
    have kok := hid ok
    have kSr := hid hsr
    have kmX := hid (hm.kept koX.out (fun h => h))
    have kmb : Hid (mb < qb ∧ s + 1 < mb) := ⟨by have := hm.lt; omega, by have := blk_lt kb2.out; omega⟩
    have ks3 := hid o3
    clear o6 o7 oX b6 b7 z6 z7 kz5 ko5 kCh ok hsr hm o3
    have kMs := hid (choices1_M 4 kok.out kk f (by omega) h4 (qb + 1 + 1) (qb + 1 + 1 + 1) (fun q => q = qb + 1) X0 (SrK.of kSr.out koX.out (fun q e => by rw [e, hqb]; omega))
      (fun Y hY => by
        have d0 := blk_cells (i := 0) kb7.out rfl
        have d1 := blk_cells (i := 1) kb7.out rfl
        simp only [qqa, qqb, qqc] at d0 d1
        exact ⟨kept_cell hY (by dsimp only; omega) (blk_cell kb6.out), kept_cell hY (by dsimp only; omega) d0, kept_cell hY (by dsimp only; omega) d1⟩) kmX.out (fun q e => by have := kzX.out; omega))
    refine range_M (α := Ch) (by omega) (gf := 70) (lb := #[.pointer (some ⟨qb + 1 + 1, 0, none⟩), .pointer (some ⟨qb + 1 + 1 + 1, 0, none⟩)]) rfl (enters_of Tryz.func70 (by kernel_rfl) rfl)
      kMs.out ?hOw ?hM (fun h k => ⟨h.1.trans k.1, k.2.trans h.2⟩) ?hKb (fun _ => rfl)
      (fun p Y => p = [] ∧ Frm (fun q => q = mb ∨ X0.heap.size ≤ q) X0 Y)
      (fun c p Y => c = .exit 0 ∧ ∃ x, p = [x] ∧ NewZ X0.heap.size Y x.1 x.2 ∧ Y.heap[qb + 1]? = some (.cells #[x.1] 29 (0, 0)) ∧ Frm (fun q => q = mb ∨ q = qb + 1 ∨ X0.heap.size ≤ q) X0 Y)
      ?fI ?fX ?gI ?gX ?f0 (fun p x a' Y => p = [] ∧ NewZ X0.heap.size Y x.1 x.2 ∧ Y.heap[qb + 1]? = some (.cells #[x.1] 29 (0, 0)) ∧ Frm (fun q => q = mb ∨ q = qb + 1 ∨ X0.heap.size ≤ q) X0 Y)
      ?hI1 ?assign ?body ?done ?stop
    case hOw => exact fun Y o o' h1 h2 h3 => h1.kept (put_one o') (by have := kmb.out; have := kzX.out; omega)
    case hM => exact fun q e => by have := kmb.out; have := kzX.out; omega
    case hKb => exact fun x Y o o' h1 h2 => ⟨KeptC.put Y _ o o' h1 h2, World.putObj_heap_other (by have := kmb.out; have := kzX.out; omega)⟩
    case fI => exact fun p X Y h hf => ⟨h.1, Frm.trans h.2 hf (fun i _ e => e.imp id (fun e => e.1))⟩
    case fX =>
      rintro c p X Y ⟨rfl, x, rfl, h1, h2, h3⟩ hf
      have e1 := kmb.out
      have e2 := kzX.out
      exact ⟨rfl, x, rfl, h1.frm2 hf (fun b n c e hb => by
        rintro (e3 | e3)
        · omega
        · exact e3.2 x (by simp) n c e), by rw [hf.block _ (blk_lt h2) (by rintro (e3 | e3); omega; omega)]; exact h2, Frm.trans h3 hf (fun i _ e => e.imp id (fun e => .inr e.1))⟩
    case gI => exact fun p X o o' h h1 h2 => ⟨h.1, Frm.trans h.2 (put_one o') (fun i _ e => .inr (by omega))⟩
    case gX =>
      rintro c p X o o' ⟨rfl, x, rfl, h1, h2, h3⟩ ho hc
      have e1 := kmb.out
      have e2 := kzX.out
      exact ⟨rfl, x, rfl, h1.frm3 ho hc o', by rw [(put_one o').block _ (blk_lt h2) (by omega)]; exact h2, Frm.trans h3 (put_one o') (fun i _ e => .inr (.inr (by omega)))⟩
    case f0 => exact ⟨rfl, Frm.refl _ _⟩
    case hI1 =>
      rintro p x a' Y o o' ⟨rfl, h1, h2, h3⟩ ho hc
      have e1 := kmb.out
      have e2 := kzX.out
      exact ⟨rfl, h1.frm3 ho hc o', by rw [(put_one o').block _ (blk_lt h2) (by omega)]; exact h2, Frm.trans h3 (put_one o') (fun i _ e => .inr (.inr (by omega)))⟩
    case assign =>
      rintro l p x Y K ⟨rfl, h1⟩ - ⟨hz, -⟩ hms hK
      have e1 := kmb.out
      have e2 := kzX.out
      have b8 : Y.heap[qb + 1]? = some (.cells #[.slice none 0 0] 29) := (h1.block (qb + 1) (blk_lt kb5.out) (by omega)).trans kb5.out
      have b9 := heap_set (i := 0) x.1 b8
      have f0 := blk_cell b8
      have f1 := blk_fz b8 0
      have fS := frm_set Y (qb + 1) 0 x.1
      have hz2 : NewZ X0.heap.size (Y.setCell ⟨qb + 1, 0, none⟩ x.1) x.1 x.2 := hz.frm fS (fun k hk e => by omega)
      have kK := hid (hK · (Y.setCell ⟨qb + 1, 0, none⟩ x.1) ⟨rfl, hz2, b9, Frm.trans (Frm.mono h1 (fun _ _ e => e.imp id .inr)) fS (fun i _ e => .inr (.inl e))⟩ ⟨KeptC.of_frm (Frm.mono fS (fun _ _ e => .inl e)), fS.block mb (by have := h1.size; omega) (by omega)⟩ (keeps_low (by omega) _ _))
      clear hK hz2 b9 b8 fS h1
      obtain ⟨xv, xl⟩ := x
      obtain ⟨ao, c, hxv, hz⟩ := hz
      dsimp only at hxv
      subst hxv
      dsimp only [encC] at kK ⊢
      gi_wp2_with fail
      exact kK.out _
    case body =>
      rintro l p x a' Y ⟨rfl, h1, h2, h3⟩
      gi_wp2_with fail
      exact ⟨keeps_old (Old.refl _), ⟨KeptC.of_frm (Frm.refl _ _), rfl⟩, rfl, x, rfl, h1, h2, h3⟩
    case done =>
      rintro D q Y hD hS ⟨rfl, h1⟩ - -
      exact absurd hS.symm (toldC_some B kk f)
    case stop =>
      rintro D c p Y hD ⟨r, hr⟩ ⟨rfl, x, rfl, f1, f2, f3⟩ hkm hDb
      have e1 := kmb.out
      have e2 := kzX.out
      obtain ⟨v, L⟩ := x
      dsimp only at f1 f2 f3
      have hhd : Hid ((toldC B kk f).headD [] = L) := by
        show _ = _
        rw [hr]
        rfl
      have d0 := frm_cell f3 (blk_cells (i := 0) kb4.out rfl) (by dsimp only; omega)
      have d1 := frm_cell f3 (blk_cells (i := 1) kb4.out rfl) (by dsimp only; omega)
      have d2 := blk_cell f2
      simp only [qqa, qqb, qqc] at d0 d1
      have hcells : ∀ pp u, w3.cell? pp = some u → Y.cell? pp = some u := fun pp u hpv => by
        have g4 := World.block_lt_of_cell? _ _ hpv
        have g5 := kmX.out.noCell (koX.out.cell hpv)
        exact frm_cell f3 (koX.out.cell hpv) (by rintro (g6 | g6 | g6); exact g5 g6; omega; omega)
      obtain ⟨ao, c, hxv, hzz⟩ := id f1
      subst hxv
      have kWo := hid (fun V (o : Old Y V) => sworth_any kok.out kk f V (by omega) h4 (kSr.out.kept (fun p u hu => o.cell (hcells p u hu))) (hkm.kept o (fun h => h)))
      unfold partV WoP at kWo
      have kf1 := hid f1
      have kf2 := hid f2
      have kf3 := hid f3
      have kDb := hid hDb
      clear f1 f2 f3 hkm hDb hcells hzz
      gi_wp2_with fail
      refine wpIn_wide.2 ?_
      refine wp_region_noPanic ?_
      refine wp_region_held_drew (S := fun X => X.cell? ⟨qb, 0, none⟩ = some (.int .i64 (kk : Int)) ∧ X.cell? ⟨qb, 1, none⟩ = some (.int .u32 (f : Int)) ∧ X.cell? ⟨qb + 1, 0, none⟩ = some (.slice ao L.length c)) (by kernel_rfl) ⟨((Old.refl Y).drewN 1).cell d0, ((Old.refl Y).drewN 1).cell d1, ((Old.refl Y).drewN 1).cell d2⟩ (fun hHeld => ?_)
      have koV : Hid (Old Y Y.drew) := (Old.refl Y).drewN 1
      generalize Y.drew = V at *
      clear d0 d1 d2
      refine' qtk (i := 0) rfl (fun _ _ _ h => h) (Or.inl ⟨by rfl, ?_⟩) hHeld ?_
      rotate_left
      · intro W hSw
        obtain ⟨r1, r2, r3⟩ := hSw
        simp only [qqa, qqb]
        go_simp
        all_goals with_reducible rfl
      simp only [qqa, qqb, Act.put, qqd, qqe, qqf]
      refine' qtk (i := 1) rfl (fun _ _ _ h => h) (Or.inl ⟨by rfl, ?_⟩) hHeld ?_
      rotate_left
      · intro W hSw
        obtain ⟨r1, r2, r3⟩ := hSw
        simp only [qqa, qqb, qqc]
        go_simp
        all_goals with_reducible rfl
      simp only [qqa, qqb, qqc, Act.put, qqd, qqe, qqf]
      refine' qtk (i := 2) rfl (fun _ _ _ h => h) (Or.inl ⟨by rfl, ?_⟩) hHeld ?_
      rotate_left
      · intro W hSw
        obtain ⟨r1, r2, r3⟩ := hSw
        simp only [qqa, qqb, qqc]
        go_simp
        all_goals with_reducible rfl
      simp only [qqa, qqb, qqc, Act.put, qqd, qqe, qqf]
      refine wpAnyH_ready (rs := [3]) (by kernel_rfl) (by simp) ?_
      refine AllReadyH.cons (o := _) rfl (fun K hK => ?_) AllReadyH.nil
      simp only [qqa, qqb, qqc]
      go_simp
      refine (kWo.out V koV.out).mono ?_
      rintro e Y2 ⟨rfl, g4, -⟩
      refine hK.out _ _ (⟨frm_cell g4 hHeld.1 (by dsimp only; omega), frm_cell g4 hHeld.2.1 (by dsimp only; omega), frm_cell g4 hHeld.2.2 (by dsimp only; omega)⟩) (fun hHeld2 => ?_)
      clear hHeld hK
      have hHeld := hHeld2
      clear hHeld2
      try simp only [Act.put, qqd, qqe, qqf]
      refine' qtk (i := 4) rfl (fun _ _ _ h => h) (Or.inl ⟨by rfl, ?_⟩) hHeld ?_
      rotate_left
      · intro W hSw
        obtain ⟨r1, r2, r3⟩ := hSw
        simp only [qqa, qqb, qqc]
        go_simp
        all_goals with_reducible rfl
      simp only [qqa, qqb, qqc, Act.put, qqd, qqe, qqf]
      have kbb : Hid (Y2.heap[s + 1]? = some (.cells #[.slice none 0 0, .int .i64 0] 71)) := by
        have g5 := kf3.out.size
        have g6 := koV.out.size
        have g7 := koX.out.size
        have g8 := ks3.out.size
        have g9 := blk_lt kb2.out
        show _ = _
        rw [g4.block _ (by omega) (by omega), koV.out.block _ (by omega) (fun h => h), kf3.out.block _ (by omega) (by omega), koX.out.block _ (by omega) (fun h => h), ks3.out.block _ (blk_lt kb2.out) (fun h => h)]
        exact kb2.out
      have kfY : Hid (Frm (fun q => q = mb ∨ q = qb + 1 ∨ X0.heap.size ≤ q) X0 Y2) := Frm.trans (Frm.trans kf3.out koV.out (fun _ _ h => h.elim)) g4 (fun _ _ e => .inl e)
      have kzY := hid ((kf1.out.old koV.out).frm g4 (fun k hk e => by omega))
      have kDY : Hid (Y2.heap[D]? = some (.deferred (some []))) := by
        show _ = _
        rw [g4.block _ (Nat.lt_of_lt_of_le (blk_lt kDb.out) koV.out.size) (by omega), koV.out.block _ (blk_lt kDb.out) (fun h => h)]
        exact kDb.out
      have e3 := blk_cells (i := 0) kbb.out rfl
      have e4 := blk_fz kbb.out 0
      have b9 := heap_set (i := 0) (.slice ao L.length c) kbb.out
      have e5 := blk_cells (i := 1) b9 rfl
      have e6 := blk_fz b9 1
      have b10 := heap_set (i := 1) (.int .i64 (best (B.drop kk) f)) b9
      have fS := (frm_set Y2 (s + 1) 0 (.slice ao L.length c)).trans (frm_set _ (s + 1) 1 (.int .i64 (best (B.drop kk) f))) (fun _ _ e => e)
      refine wpAnyH_ready (rs := [5]) (by kernel_rfl) (by simp) ?_
      refine AllReadyH.cons (o := _) rfl (fun K hK => ?_) AllReadyH.nil
      simp only [qqa, qqb, qqc]
      go_simp
      refine hK.out _ _ (⟨frm_cell fS hHeld.1 (by dsimp only; omega), frm_cell fS hHeld.2.1 (by dsimp only; omega), frm_cell fS hHeld.2.2 (by dsimp only; omega)⟩) (fun hHeld2 => ?_)
      clear hHeld hK
      have hHeld := hHeld2
      clear hHeld2
      try simp only [Act.put, qqd, qqe, qqf]
      have kfS : Hid (Frm (fun q => q = s + 1) Y2 ((Y2.setCell ⟨s + 1, 0, none⟩ (.slice ao L.length c)).setCell ⟨s + 1, 1, none⟩ (.int .i64 (best (B.drop kk) f)))) := fS
      have kb10 := hid b10
      clear e3 e4 e5 e6 b9 b10 fS
      generalize (Y2.setCell ⟨s + 1, 0, none⟩ (.slice ao L.length c)).setCell ⟨s + 1, 1, none⟩ (.int .i64 (best (B.drop kk) f)) = Z at *
      refine' qtk (i := 6) rfl (fun _ _ _ h => h) (Or.inl ⟨by rfl, ?_⟩) hHeld ?_
      rotate_left
      · intro W hSw
        obtain ⟨r1, r2, r3⟩ := hSw
        simp only [qqa, qqb, qqc]
        go_simp
        all_goals with_reducible rfl
      simp only [qqa, qqb, qqc, Act.put, qqd, qqe, qqf]
      refine wpAnyH_done (by kernel_rfl) ?_ _
      refine NoPanic.normal ?_
      clear hHeld
      gi_wp2_with fail
      refine leave_marks [D] _ ⟨by simp, fun r hr => ?_⟩ (fun W' hW' => ?_)
      · obtain rfl : r = D := by simpa using hr
        rw [kfS.out.block _ (blk_lt kDY.out) (by omega)]
        exact kDY.out
      · have hbW : W'.heap[s + 1]? = some (.cells #[.slice ao L.length c, .int .i64 (best (B.drop kk) f)] 71 (0, 0)) := by
          rw [hW'.block _ (blk_lt kb10.out) (by simp; omega), kb10.out]
          rfl
        have q0 := blk_cells (i := 0) hbW rfl
        have q1 := blk_cells (i := 1) hbW rfl
        simp only [qqa, qqb, qqc] at q0 q1
        refine ⟨.tuple #[.agg #[.slice ao L.length c, .int .i64 (best (B.drop kk) f)], .int .i64 0], ?_, .slice ao L.length c, rfl, ?_, ?_⟩
        · simp [results, Tryz.f48, go_sem, q0, q1]
        · rw [hhd.out]
          have hz3 : NewZ X0.heap.size W' (.slice ao L.length c) L := (kzY.out.frm kfS.out (fun k hk e => by omega)).frm4 (by rw [kfS.out.block _ (blk_lt kDY.out) (by omega)]; exact kDY.out) rfl hW'
          obtain ⟨ao', c', e3, e4⟩ := hz3
          refine ⟨ao', c', e3, e4.imp id ?_⟩
          rintro ⟨b, cur, e5, e6, e7⟩
          exact ⟨b, cur, e5, by omega, e7⟩
        · have hoF : Frm (fun q => s ≤ q) X0 W' := Frm.trans (Frm.trans (Frm.mono kfY.out (fun i _ e => by omega)) kfS.out (fun i hi e => by omega)) hW' (fun i _ e => by
            have : i = D := by simpa using e
            omega)
          exact Frm.trans ((ko2.out.trans ks3.out).trans koX.out) hoF (fun i hi e => by omega)
  · rw [if_neg hz, if_neg hz]
    have o1 : Old w (w.alloc (.cells #[.int .i64 gd, .slice bo B.length cap] 24)) := (Old.refl w).alloc _
    have oR : Old (w.alloc (.cells #[.int .i64 gd, .slice bo B.length cap] 24)) ((w.alloc (.cells #[.int .i64 gd, .slice bo B.length cap] 24)).alloc (.cells #[.slice none 0 0, .int .i64 0] 71)) := (Old.refl _).alloc _
    have bR := heap_new (w.alloc (.cells #[.int .i64 gd, .slice bo B.length cap] 24)) (.cells #[.slice none 0 0, .int .i64 0] 71)
    rw [alloc_size] at bR
    have ko := hid (o1.trans oR)
    have kbR := hid bR
    clear o1 oR bR
    generalize ckZ gd B k f = z at *
    have hb0 : (z != 0) = true := by simpa using hz
    go_enter Tryz.func48, Tryz.ntmps48
    go_wp2_with fail
    refine (kC.out _ ko.out).mono ?_
    rintro e w2 ⟨rfl, o2⟩
    have b2 := (o2.block _ (blk_lt kbR.out) (fun h => h)).trans kbR.out
    have o2 := ko.out.trans o2
    have e0 := blk_cells (i := 0) b2 rfl
    have e1 := blk_fz b2 0
    have e2 := blk_fz b2 1
    have e3 := blk_cells (i := 1) b2 rfl
    have b3 := heap_set (i := 0) (.slice none 0 0) b2
    have e4 := blk_cells (i := 1) b3 rfl
    have e5 := blk_fz b3 1
    have b4 := heap_set (i := 1) (.int .i64 0) b3
    have fS := (frm_set w2 (w.heap.size + 1) 0 (.slice none 0 0)).trans (frm_set _ (w.heap.size + 1) 1 (.int .i64 0)) (fun _ _ e => e)
    go_wp2_with fail
    have fS2 : Hid (Frm (fun q => q = w.heap.size + 1) w2 ((w2.setCell ⟨w.heap.size + 1, 0, none⟩ (.slice none 0 0)).setCell ⟨w.heap.size + 1, 1, none⟩ (.int .i64 0))) := fS
    have kb4 := hid b4
    clear fS b3 b4 e0 e1 e2 e3 e4 e5
    generalize (w2.setCell ⟨w.heap.size + 1, 0, none⟩ (.slice none 0 0)).setCell ⟨w.heap.size + 1, 1, none⟩ (.int .i64 0) = Z at *
    have q0 := blk_cells (v := .slice none 0 0) (i := 0) kb4.out rfl
    have q1 := blk_cells (v := .int .i64 0) (i := 1) kb4.out rfl
    refine bodyPost_ret (v := .tuple #[.agg #[.slice none 0 0, .int .i64 0], .int .i64 z]) ?_ rfl ?_
    · simp [results, Tryz.f48, go_sem, q0, q1]
    · exact ⟨_, rfl, ⟨none, 0, rfl, .inl ⟨rfl, rfl⟩⟩, Frm.trans o2 fS2.out (fun i hi e => by omega)⟩
end Go.Proofs.YtfoadheepmgbfaaGreatDoor
