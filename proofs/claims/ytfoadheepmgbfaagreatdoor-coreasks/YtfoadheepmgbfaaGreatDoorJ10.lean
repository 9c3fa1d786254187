/- A stand in memory; its bound; a try: walked. -/
import Derived.Test.YtfoadheepmgbfaaGreatDoorJ7
import Derived.Laws.Rows
import Derived.Laws.Tables
import Derived.ChangeKeysEq
namespace Go.Proofs.YtfoadheepmgbfaaGreatDoor
open Go.RowKit Go.Lib Go.Shelf



/-- A stand behind its pointer. -/
abbrev Sd (w : World) (b : Nat) (s : St) : Prop := Own .i64 159 w b (lst s)

theorem Sd.nums {w : World} {b : Nat} {s : St} (h : Sd w b s) : NumsC .i64 w (some ⟨b, 2, none⟩) s.2.2 := by
  intro i hi
  refine ⟨b, 2, rfl, ?_⟩
  have := (Own.cell h (i := i + 2) (by simp [lst]; omega)).1
  rw [show 2 + i = i + 2 by omega, this]
  simp [lst]

set_option maxRecDepth 100000 in
set_option maxHeartbeats 4000000 in
theorem boundOf_any (sb : Nat) (s : St) (gd : Int) (bo : Option Addr) (cap : Nat) (B : Ins) (w : World) (hs : Sd w sb s) (hsl : s.2.2.length = 10) (h : InsC w bo B) (hl : B.length ≤ 9223372036854775807) (hT : Tabs w) :
    Calls Tryz.prog 94 #[.pointer (some ⟨sb, 0, none⟩), .agg #[.int .i64 gd, .slice bo B.length cap]] w fun e w' => e = .returned (.int .i64 (boundZ s.2.2 (allZ gd).1 B)) ∧ Old w w' := by
  have o1 : Old w (w.alloc (.cells #[.int .i64 gd, .slice bo B.length cap] 24)) := (Old.refl w).alloc _
  have c0 := new_cell w #[.int .i64 gd, .slice bo B.length cap] 24 0 _ rfl
  have c1 := new_cell w #[.int .i64 gd, .slice bo B.length cap] 24 1 _ rfl
  have kA := hid (fun w => all_any gd w)
  have kB := hid (fun W (o : Old w W) => bound_any bo (some ⟨sb, 2, none⟩) cap 10 B s.2.2 (allZ gd).1 W (h.old o) hl (by
    unfold allZ
    split
    · have hp : 1 ≤ 2 ^ gd.toNat := Nat.one_le_two_pow
      have hp2 : 2 ^ gd.toNat ≤ 4294967296 := by
        rw [show (4294967296 : Nat) = 2 ^ 32 by decide]
        exact Nat.pow_le_pow_right (by decide) (by omega)
      dsimp only
      omega
    · decide) ((Sd.nums hs).old o) (hT.old o))
  rw [hsl] at kB
  have ko := hid o1
  have hsb := hs.lt
  clear o1 h hT hs
  generalize allZ gd = az at *
  obtain ⟨a0, a1⟩ := az
  dsimp only at kA kB ⊢
  generalize boundZ s.2.2 a0 B = bz at *
  go_enter Tryz.func94, Tryz.ntmps94
  go_wp2_with fail
  generalize hw1 : w.alloc (.cells #[.int .i64 gd, .slice bo B.length cap] 24) = w1 at *
  clear hw1
  obtain ⟨xb, hxb⟩ : ∃ xb, w.heap.size = xb := ⟨_, rfl⟩
  rw [hxb] at c0 c1 ⊢
  refine (kA.out _).mono ?_
  rintro e w2 ⟨rfl, e2⟩
  rw [e2]
  clear e2
  go_upto_region 2 with fail
  refine wp_region_noPanic ?_
  refine wp_region_held_drew (S := fun W => W.cell? ⟨xb, 1, none⟩ = some (.slice bo B.length cap)) (by kernel_rfl) (((Old.refl w1).drewN 1).cell c1) (fun hHeld => ?_)
  have koD : Hid (Old w w1.drew) := ko.out.drewN 1
  generalize w1.drew = V at *
  refine' qtk (i := 0) rfl (fun _ _ _ h => h) (Or.inl ⟨by rfl, ?_⟩) hHeld ?_
  rotate_left
  · intro W hSw
    obtain r1 := hSw
    simp only [qqa, qqb]
    go_simp
    all_goals with_reducible rfl
  simp only [qqa, qqb, Act.put, qqd, qqe, qqf]
  refine' qtk (i := 1) rfl (fun _ _ _ h => h) (Or.inl ⟨by rfl, ?_⟩) hHeld ?_
  rotate_left
  · intro W hSw
    obtain r1 := hSw
    simp only [qqa, qqb, qqc]
    go_simp
    all_goals with_reducible rfl
  simp only [qqa, qqb, qqc, Act.put, qqd, qqe, qqf]
  refine' qtk (i := 2) rfl (fun _ _ _ h => h) (Or.inl ⟨by rfl, ?_⟩) hHeld ?_
  rotate_left
  · intro W hSw
    obtain r1 := hSw
    simp only [qqa, qqb, qqc]
    go_simp
    all_goals with_reducible rfl
  simp only [qqa, qqb, qqc, Act.put, qqd, qqe, qqf]
  refine' qtk (i := 3) rfl (fun _ _ _ h => h) (Or.inl ⟨by rfl, ?_⟩) hHeld ?_
  rotate_left
  · intro W hSw
    obtain r1 := hSw
    simp only [qqa, qqb, qqc]
    go_simp
    all_goals with_reducible rfl
  simp only [qqa, qqb, qqc, Act.put, qqd, qqe, qqf]
  refine' qtk (i := 4) rfl (fun _ _ _ h => h) (Or.inl ⟨by rfl, ?_⟩) hHeld ?_
  rotate_left
  · intro W hSw
    obtain r1 := hSw
    simp only [qqa, qqb, qqc]
    go_simp
    all_goals with_reducible rfl
  simp only [qqa, qqb, qqc, Act.put, qqd, qqe, qqf]
  refine' qtk (i := 5) rfl (fun _ _ _ h => h) (Or.inl ⟨by rfl, ?_⟩) hHeld ?_
  rotate_left
  · intro W hSw
    obtain r1 := hSw
    simp only [qqa, qqb, qqc]
    go_simp
    all_goals with_reducible rfl
  simp only [qqa, qqb, qqc, Act.put, qqd, qqe, qqf]
  refine' qtk (i := 6) rfl (fun _ _ _ h => h) (Or.inl ⟨by rfl, ?_⟩) hHeld ?_
  rotate_left
  · intro W hSw
    obtain r1 := hSw
    simp only [qqa, qqb, qqc]
    go_simp
    all_goals with_reducible rfl
  simp only [qqa, qqb, qqc, Act.put, qqd, qqe, qqf]
  refine wpAnyH_ready (rs := [7]) (by kernel_rfl) (by simp) ?_
  refine AllReadyH.cons (o := _) rfl (fun K hK => ?_) AllReadyH.nil
  simp only [qqa, qqb, qqc]
  go_simp
  refine (kB.out _ koD.out).mono ?_
  rintro e V2 ⟨rfl, o2⟩
  have koD2 := hid (koD.out.trans o2)
  refine hK.out _ _ (o2.cell hHeld) (fun hHeld2 => ?_)
  clear hHeld hK
  have hHeld := hHeld2
  clear hHeld2
  clear o2
  try simp only [Act.put, qqd, qqe, qqf]
  refine' qtk (i := 8) rfl (fun _ _ _ h => h) (Or.inl ⟨by rfl, ?_⟩) hHeld ?_
  rotate_left
  · intro W hSw
    obtain r1 := hSw
    simp only [qqa, qqb, qqc]
    go_simp
    all_goals with_reducible rfl
  simp only [qqa, qqb, qqc, Act.put, qqd, qqe, qqf]
  refine wpAnyH_done (by kernel_rfl) ?_ _
  refine NoPanic.normal ?_
  clear hHeld
  go_wp2_with fail
  go_ret
  exact ⟨rfl, koD2.out⟩
end Go.Proofs.YtfoadheepmgbfaaGreatDoor

/- A try, walked. -/
namespace Go.Proofs.YtfoadheepmgbfaaGreatDoor
open Go.RowKit Go.Lib Go.Shelf



theorem Sd.set {w : World} {b g : Nat} {s : St} (h : Sd w b s) (v : Int) : Sd (w.setCell ⟨b, 2 + g, none⟩ (.int .i64 v)) b (s.1, s.2.1, s.2.2.set g v) := by
  have := Own.set h (2 + g) v
  rw [show 2 + g = g + 2 by omega] at this ⊢
  exact this

theorem Sd.at {w : World} {b g : Nat} {s : St} (h : Sd w b s) (hg : g < s.2.2.length) : w.cell? ⟨b, 2 + g, none⟩ = some (.int .i64 (s.2.2.getD g 0)) ∧ w.frozen? ⟨b, 2 + g, none⟩ = false := by
  have := Own.cell h (i := g + 2) (by simp [lst]; omega)
  rw [show 2 + g = g + 2 by omega]
  refine ⟨?_, this.2⟩
  rw [this.1, List.getD_eq_getElem?_getD, List.getElem?_eq_getElem hg]
  simp [lst]

theorem Sd.two {w : World} {b : Nat} {s : St} (h : Sd w b s) : (w.cell? ⟨b, 0, none⟩ = some (.int .i64 s.1) ∧ w.frozen? ⟨b, 0, none⟩ = false) ∧ (w.cell? ⟨b, 1, none⟩ = some (.int .i64 s.2.1) ∧ w.frozen? ⟨b, 1, none⟩ = false) :=
  ⟨Own.cell h (i := 0) (by simp [lst]), Own.cell h (i := 1) (by simp [lst])⟩

theorem Sd.set0 {w : World} {b : Nat} {s : St} (h : Sd w b s) (v : Int) : Sd (w.setCell ⟨b, 0, none⟩ (.int .i64 v)) b (v, s.2.1, s.2.2) := Own.set h 0 v
theorem Sd.set1 {w : World} {b : Nat} {s : St} (h : Sd w b s) (v : Int) : Sd (w.setCell ⟨b, 1, none⟩ (.int .i64 v)) b (s.1, v, s.2.2) := Own.set h 1 v

theorem set_back {P : List Int} {g : Nat} (v : Int) (hg : g < P.length) : (P.set g v).set g (P.getD g 0) = P := by
  rw [List.set_set, List.getD_eq_getElem?_getD, List.getElem?_eq_getElem hg]
  simp

/-- What a try reads: the instance behind its pointer, the tables. -/
def Ctx (gd : Int) (bo : Option Addr) (cap : Nat) (B : Ins) (xb : Nat) (W : World) : Prop := InsC W bo B ∧ Tabs W ∧ W.cell? ⟨xb, 0, none⟩ = some (.int .i64 gd) ∧ W.cell? ⟨xb, 1, none⟩ = some (.slice bo B.length cap)

set_option maxRecDepth 100000 in
set_option maxHeartbeats 4000000 in
theorem try_any (nb xb : Nat) (s : St) (gd : Int) (bo : Option Addr) (cap : Nat) (B : Ins) (g : Nat) (c : Int) (w : World) (hl : B.length ≤ 9223372036854775807) (hA : ∀ W, Frm (fun k => k = nb) w W → Ctx gd bo cap B xb W)
    (hs : Sd w nb s) (hok : OkS s) (hg : g < 10) (hc : -1099511627776 ≤ c ∧ c ≤ 1099511627776) :
    Calls Tryz.prog 96 #[.int .i64 (g : Int), .int .i64 c, .pointer (some ⟨nb, 0, none⟩), .pointer (some ⟨xb, 0, none⟩)] w fun e w' => e = .returned (.bool (tryZ gd B s g c).isSome) ∧ Sd w' nb ((tryZ gd B s g c).getD s) ∧ Frm (fun k => k = nb) w w' := by
  have hsl := hok.1
  obtain ⟨c1, f1⟩ := hs.at (g := g) (by omega)
  have hv := hok.get g
  have kback := hid (fun v => set_back (P := s.2.2) (g := g) v (by omega))
  have ktz : Hid (tryZ gd B s g c = if wrB (s.2.2.getD g 0 + c) = false ∧ boundZ (s.2.2.set g (s.2.2.getD g 0 + c)) (allZ gd).1 B < s.2.1 then some ((g : Int), boundZ (s.2.2.set g (s.2.2.getD g 0 + c)) (allZ gd).1 B, s.2.2.set g (s.2.2.getD g 0 + c)) else none) := rfl
  generalize tryZ gd B s g c = tz at *
  obtain ⟨v, hve⟩ : ∃ v, s.2.2.getD g 0 = v := ⟨_, rfl⟩
  rw [hve] at c1 hv ktz
  simp only [hve] at kback
  clear hve
  have f2 := frm_set w nb (2 + g) (.int .i64 (v + c))
  have hs2 := hs.set (g := g) (v + c)
  have o2 := hA _ f2
  obtain ⟨c2, f2z⟩ := hs2.at (g := g) (by simp; omega)
  have e2 : (s.2.2.set g (v + c)).getD g 0 = v + c := by
    rw [List.getD_eq_getElem?_getD, List.getElem?_eq_getElem (by simp; omega)]
    simp
  dsimp only at c2
  rw [e2] at c2
  have kW := hid (fun w => isWrong_any (v + c) w)
  have ko2 := hid o2
  have ks2 := hid hs2
  have kf2 := hid f2
  have hg' : (g : Int) < 10 := by omega
  obtain ⟨b, hb⟩ : ∃ b, v + c = b := ⟨_, rfl⟩
  have hb2 := hid hb
  have hbb : -1099511627776 ≤ b ∧ b ≤ 2199023255552 := by omega
  have hvc : Hid (b - c = v) := by show _ = _; omega
  rw [hb] at c2 kW ko2 ks2 kf2 f2z ktz
  clear hs hs2 o2 f2 e2 hok hA
  cases hwr : wrB b
  · have kbo := hid (fun W (o : Old (w.setCell ⟨nb, 2 + g, none⟩ (.int .i64 b)) W) => boundOf_any nb (s.1, s.2.1, s.2.2.set g b) gd bo cap B W (Own.kept ks2.out o (fun h => h)) (by simp; omega) (ko2.out.1.old o) hl (ko2.out.2.1.old o))
    rw [hwr] at kW ktz
    dsimp only at kbo
    obtain ⟨bz, hbz⟩ : ∃ bz, boundZ (s.2.2.set g b) (allZ gd).1 B = bz := ⟨_, rfl⟩
    rw [hbz] at ktz
    simp only [hbz] at kbo
    have kx0 := ko2.out.2.2.1
    have kx1 := ko2.out.2.2.2
    have ck1 := (Sd.two ks2.out).2.1
    dsimp only at ck1
    by_cases hlt : bz < s.2.1
    · have kz : Hid (tz = some ((g : Int), bz, s.2.2.set g b)) := by
        show _ = _
        rw [ktz.out, if_pos ⟨rfl, hlt⟩]
      generalize hsb : s.2.1 = sb at *
      have khs := hid hsb
      clear hsb
      clear hbz hwr ktz kback
      go_enter Tryz.func96, Tryz.ntmps96
      go_wp2_with fail
      refine (kW.out _).mono ?_
      rintro e w3 ⟨rfl, e3⟩
      rw [e3]
      clear e3 w3
      go_wp2_with fail
      refine (kbo.out _ (Old.refl _)).mono ?_
      rintro e w4 ⟨rfl, o4⟩
      have kf4 : Hid (Frm (fun k => k = nb) w w4) := Frm.trans kf2.out (Frm.mono o4 (fun _ _ h => h.elim)) (fun _ _ e => e)
      have ks4 := hid (Own.kept ks2.out o4 (fun h => h))
      have ck1 := o4.cell ck1
      obtain ⟨⟨d0, q0⟩, d1, q1⟩ := Sd.two ks4.out
      dsimp only at d0 d1
      have g0 := set_oth (i := 0) (j := 1) (u := .int .i64 (g : Int)) d1 (by decide)
      have z0 : (w4.setCell ⟨nb, 0, none⟩ (.int .i64 (g : Int))).frozen? ⟨nb, 1, none⟩ = false := by simp [q1]
      have ks5 := hid ((Sd.set0 ks4.out (g : Int)).set1 bz)
      have kf5 : Hid (Frm (fun k => k = nb) w ((w4.setCell ⟨nb, 0, none⟩ (.int .i64 (g : Int))).setCell ⟨nb, 1, none⟩ (.int .i64 bz))) := Frm.trans (Frm.trans kf4.out (frm_set _ _ _ _) (fun _ _ e => e)) (frm_set _ _ _ _) (fun _ _ e => e)
      clear o4 kx0 kx1 c1 c2 f1 f2z
      go_wp2_with fail
      go_ret
      refine ⟨by rw [kz.out]; rfl, ?_, kf5.out⟩
      rw [kz.out]
      exact ks5.out
    · have kz : Hid (tz = none) := by
        show _ = _
        rw [ktz.out, if_neg (fun h => hlt h.2)]
      have kbk := hid (kback.out b)
      generalize hsb : s.2.1 = sb at *
      have khs := hid hsb
      clear hsb
      clear hbz hwr ktz kback
      go_enter Tryz.func96, Tryz.ntmps96
      go_wp2_with fail
      refine (kW.out _).mono ?_
      rintro e w3 ⟨rfl, e3⟩
      rw [e3]
      clear e3 w3
      go_wp2_with fail
      refine (kbo.out _ (Old.refl _)).mono ?_
      rintro e w4 ⟨rfl, o4⟩
      have kf4 : Hid (Frm (fun k => k = nb) w w4) := Frm.trans kf2.out (Frm.mono o4 (fun _ _ h => h.elim)) (fun _ _ e => e)
      have ks4 := hid (Own.kept ks2.out o4 (fun h => h))
      have ck1 := o4.cell ck1
      have c2 := o4.cell c2
      have f4 : w4.frozen? ⟨nb, 2 + g, none⟩ = false := blk_fz ks4.out.blk _
      have ks5 := hid (Sd.set (g := g) ks4.out v)
      have kf5 : Hid (Frm (fun k => k = nb) w (w4.setCell ⟨nb, 2 + g, none⟩ (.int .i64 v))) := Frm.trans kf4.out (frm_set _ _ _ _) (fun _ _ e => e)
      have hvc2 := hvc.out
      clear o4 kx0 kx1 c1 f1 f2z hb
      go_wp2_with fail
      go_ret
      refine ⟨by rw [kz.out]; rfl, ?_, kf5.out⟩
      rw [kz.out]
      have := ks5.out
      try dsimp only at this
      rw [kbk.out, ← khs.out] at this
      exact this
  · rw [hwr] at kW
    have kz : Hid (tz = none) := by
      show _ = _
      rw [ktz.out, if_neg (fun h => by simp [hwr] at h)]
    have kbk := hid (kback.out b)
    have f4 : (w.setCell ⟨nb, 2 + g, none⟩ (.int .i64 b)).frozen? ⟨nb, 2 + g, none⟩ = false := blk_fz ks2.out.blk _
    have ks5 := hid (Sd.set (g := g) ks2.out v)
    have kf5 : Hid (Frm (fun k => k = nb) w ((w.setCell ⟨nb, 2 + g, none⟩ (.int .i64 b)).setCell ⟨nb, 2 + g, none⟩ (.int .i64 v))) := Frm.trans kf2.out (frm_set _ _ _ _) (fun _ _ e => e)
    clear ktz kback hwr
    go_enter Tryz.func96, Tryz.ntmps96
    go_wp2_with fail
    refine (kW.out _).mono ?_
    rintro e w3 ⟨rfl, e3⟩
    rw [e3]
    clear e3 w3
    have hvc2 := hvc.out
    clear hb
    go_wp2_with fail
    go_ret
    refine ⟨by rw [kz.out]; rfl, ?_, ?_⟩
    · rw [kz.out]
      have := ks5.out
      try dsimp only at this
      rw [kbk.out] at this
      exact this
    · exact kf5.out
end Go.Proofs.YtfoadheepmgbfaaGreatDoor

/- Where the descent begins, walked. -/
namespace Go.Proofs.YtfoadheepmgbfaaGreatDoor
open Go.RowKit Go.Lib Go.Shelf

/-- A stand's value. -/
def stV (s : St) : Value := .agg ((lst s).map (Value.int .i64)).toArray

theorem zeroS : (#[Value.int IntKind.i64 0, Value.int IntKind.i64 0, Value.int IntKind.i64 0, Value.int IntKind.i64 0, Value.int IntKind.i64 0, Value.int IntKind.i64 0, Value.int IntKind.i64 0, Value.int IntKind.i64 0, Value.int IntKind.i64 0, Value.int IntKind.i64 0, Value.int IntKind.i64 0, Value.int IntKind.i64 0] : Array Value) = ((lst ((0, 0, zeros) : St)).map (Value.int .i64)).toArray := by rfl

theorem info_st : (Tryz.prog.info? 159).map (·.size) = some 12 := by kernel_rfl

theorem old_setRow {a w : World} (h : Old a w) (b : Nat) (hb : a.heap.size ≤ b) (r : Array Value) : Old a (w.setRow b r) :=
  ⟨h.os, h.tape, h.output, by rw [setRow_size]; exact h.size, fun k hk hS => (setRow_other w _ k _ (by omega)).trans (h.block k hk hS)⟩

theorem frm_setRow (w : World) (b : Nat) (r : Array Value) : Frm (fun k => k = b) w (w.setRow b r) :=
  ⟨rfl, rfl, rfl, by rw [setRow_size]; exact Nat.le_refl _, fun k hk hS => setRow_other w _ k _ hS⟩

/-- A stand stored whole. -/
theorem Sd.put {w : World} {b : Nat} {s : St} (h : Sd w b s) (t : St) : Sd (w.setRow b ((lst t).map (Value.int .i64)).toArray) b t := ⟨setRow_heap w b _ _ _ _ h.blk⟩
theorem Sd.run {w : World} {b : Nat} {s t : St} (h : Sd w b s) (h1 : s.2.2.length = 10) (h2 : t.2.2.length = 10) (P : Program) : (storeCells ⟨b, 0, none⟩ ((lst t).map (Value.int .i64)) 0).run P w = .ok () (w.setRow b ((lst t).map (Value.int .i64)).toArray) := by
  have := run_storeCells_from (P := P) b 159 ((lst t).map (Value.int .i64)) 0 _ w h.blk (by simp [lst, h1, h2]) (by simp [Value.oneCell'])
  simpa using this
theorem Sd.size {s : St} (h1 : s.2.2.length = 10) : (Tryz.prog.info? 159).map (·.size) = some ((lst s).map (Value.int .i64)).toArray.size := by
  rw [info_st]
  simp [lst, h1]
theorem Sd.new (w : World) (s : St) : Sd (w.alloc (.cells ((lst s).map (Value.int .i64)).toArray 159)) w.heap.size s := ⟨heap_new w _⟩

set_option maxRecDepth 100000 in
set_option maxHeartbeats 4000000 in
theorem beginning_any (gd : Int) (bo : Option Addr) (cap : Nat) (B : Ins) (w : World) (h : InsC w bo B) (hl : B.length ≤ 9223372036854775807) (hT : Tabs w) :
    Calls Tryz.prog 84 #[.agg #[.int .i64 gd, .slice bo B.length cap]] w fun e w' => e = .returned (stV (st0 gd B)) ∧ Old w w' := by
  have c0 := new_cell w #[.int .i64 gd, .slice bo B.length cap] 24 0 _ rfl
  have c1 := new_cell w #[.int .i64 gd, .slice bo B.length cap] 24 1 _ rfl
  have kh := hid h
  have kT := hid hT
  clear h hT
  go_enter Tryz.func84, Tryz.ntmps84
  go_wp2_with fail
  rw [zeroS]
  have o1 : Old w (w.alloc (.cells #[.int .i64 gd, .slice bo B.length cap] 24)) := (Old.refl w).alloc _
  have z1 := alloc_size w (.cells #[.int .i64 gd, .slice bo B.length cap] 24)
  generalize w.alloc (.cells #[.int .i64 gd, .slice bo B.length cap] 24) = w1 at *
  have s1 := Sd.new w1 (0, 0, zeros)
  have o2 : Old w1 (w1.alloc (.cells ((lst ((0, 0, zeros) : St)).map (Value.int .i64)).toArray 159)) := (Old.refl w1).alloc _
  have z2 := alloc_size w1 (.cells ((lst ((0, 0, zeros) : St)).map (Value.int .i64)).toArray 159)
  generalize w1.alloc (.cells ((lst ((0, 0, zeros) : St)).map (Value.int .i64)).toArray 159) = w2 at *
  have s2 := Sd.new w2 (0, 0, zeros)
  have o3 : Old w2 (w2.alloc (.cells ((lst ((0, 0, zeros) : St)).map (Value.int .i64)).toArray 159)) := (Old.refl w2).alloc _
  generalize w2.alloc (.cells ((lst ((0, 0, zeros) : St)).map (Value.int .i64)).toArray 159) = w3 at *
  have s1 := Own.kept s1 o3 (fun h => h)
  obtain ⟨sz, hsz⟩ : ∃ sz, w.heap.size = sz := ⟨_, rfl⟩
  rw [z1, hsz] at s1
  rw [z2, z1, hsz] at s2
  rw [hsz] at c0 c1 ⊢
  have ko3 := hid ((o1.trans o2).trans o3)
  have kB := hid (boundOf_any (sz + 1 + 1) (0, 0, zeros) gd bo cap B w3 s2 (by simp [zeros]) (kh.out.old ko3.out) hl (kT.out.old ko3.out))
  have ks1 := hid s1
  have ks2 := hid s2
  have ksz := hid hsz
  have hz0 : Hid (st0 gd B = (0, boundZ zeros (allZ gd).1 B, zeros)) := rfl
  dsimp only at kB
  generalize boundZ zeros (allZ gd).1 B = bz at *
  clear o1 o2 o3 z1 z2 s1 s2 hsz c0 c1
  refine kB.out.mono ?_
  rintro e w4 ⟨rfl, o4⟩
  have ks1 := hid (Own.kept ks1.out o4 (fun h => h))
  have ks2 := hid (Own.kept ks2.out o4 (fun h => h))
  have ko4 := hid (ko3.out.trans o4)
  obtain ⟨-, d1, q1⟩ := Sd.two ks2.out
  have f5 := frm_set w4 (sz + 1 + 1) 1 (.int .i64 bz)
  have ks5 := hid (Sd.set1 ks2.out bz)
  have ks6 := hid (Own.kept ks1.out f5 (by omega))
  have ko5 : Hid (Old w (w4.setCell ⟨sz + 1 + 1, 1, none⟩ (.int .i64 bz))) := Frm.trans ko4.out f5 (fun i hi e => by have := ksz.out; omega)
  dsimp only at ks5
  have hlen : (zeros).length = 10 := by simp [zeros]
  have hst := hid (Sd.run (t := (0, bz, zeros)) ks6.out hlen hlen)
  clear o4 f5 kB
  go_upto_region 3 with fail
  generalize w4.setCell ⟨sz + 1 + 1, 1, none⟩ (.int .i64 bz) = w5 at *
  refine wp_region_lit ?_
  refine wpList_load_row rfl 159 _ rfl (sz + 1 + 1) rfl 159 _ (0, 0) _ ks5.out.blk Tryz.underlying159 rfl (Sd.size hlen) ?_
  simp only [Act.put, qqd, qqe, qqf]
  go_wp2_with fail
  rw [hst.out]
  have ks7 := hid (Sd.put ks6.out (0, bz, zeros))
  have ko7 := hid (old_setRow ko5.out (sz + 1) (by have := ksz.out; omega) ((lst ((0, bz, zeros) : St)).map (Value.int .i64)).toArray)
  go_wp2_with fail
  refine bodyPost_ret (results_cell_row rfl _ _ (sz + 1) 159 _ (0, 0) _ rfl ks7.out.blk Tryz.underlying159 rfl (Sd.size hlen)) rfl ?_
  exact ⟨by rw [hz0.out]; rfl, ko7.out⟩
end Go.Proofs.YtfoadheepmgbfaaGreatDoor

/- Arrays of numbers held against each other. -/
namespace Go.Proofs.YtfoadheepmgbfaaGreatDoor
open Go.RowKit Go.Lib Go.Shelf

theorem plain_i64 : Tryz.prog.plainKey 2 = true := by kernel_rfl
theorem cells1_i64 : Tryz.prog.cellsOf 2 = 1 := by kernel_rfl

theorem run_items (w : World) (d : Nat) (L M : List Int) : ∀ (is : List Nat), (∀ i ∈ is, i < L.length ∧ i < M.length) →
    (Op.eqItems (d + 1) 2 1 (L.map (Value.int .i64)).toArray (M.map (Value.int .i64)).toArray is).run Tryz.prog w = .ok (decide (∀ i ∈ is, L.getD i 0 = M.getD i 0)) w
  | [], _ => by simp [Op.eqItems]
  | i :: is, h => by
    obtain ⟨h1, h2⟩ := h i (by simp)
    have ih := run_items w d L M is (fun j hj => h j (by simp [hj]))
    have e1 : L.getD i 0 = L[i] := by rw [List.getD_eq_getElem?_getD, List.getElem?_eq_getElem h1]; rfl
    have e2 : M.getD i 0 = M[i] := by rw [List.getD_eq_getElem?_getD, List.getElem?_eq_getElem h2]; rfl
    have p1 := run_part_plain (P := Tryz.prog) w plain_i64 (xs := (L.map (Value.int .i64)).toArray) (off := i * 1) (v := .int .i64 L[i]) (by simp [h1])
    have p2 := run_part_plain (P := Tryz.prog) w plain_i64 (xs := (M.map (Value.int .i64)).toArray) (off := i * 1) (v := .int .i64 M[i]) (by simp [h2])
    have p3 := run_equalIn_int (P := Tryz.prog) w d 2 .i64 .i64 L[i] M[i] Tryz.underlying2
    simp only [Op.eqItems, Sem.run_bind, p1, p2, p3, Result.andThen_ok]
    by_cases e : L[i] = M[i]
    · have hb : (L[i] == M[i]) = true := by simpa using e
      rw [hb]
      simp only [Bool.not_true, Bool.false_eq_true, if_false]
      have hd : decide (∀ j ∈ is, L.getD j 0 = M.getD j 0) = decide (∀ j ∈ i :: is, L.getD j 0 = M.getD j 0) := by
        rw [Bool.eq_iff_iff]
        simp only [decide_eq_true_eq, List.mem_cons]
        constructor
        · rintro h3 j (rfl | hj)
          · rw [e1, e2, e]
          · exact h3 j hj
        · exact fun h3 j hj => h3 j (Or.inr hj)
      rw [ih, hd]
    · have hb : (L[i] == M[i]) = false := by simpa using e
      rw [hb]
      simp only [Bool.not_false, if_true, Sem.run_pure]
      have hd : decide (∀ j ∈ i :: is, L.getD j 0 = M.getD j 0) = false := by
        rw [decide_eq_false_iff_not]
        intro h3
        exact e (by have := h3 i (by simp); rwa [e1, e2] at this)
      rw [hd]

theorem eq_arr (L M : List Int) (h1 : L.length = 10) (h2 : M.length = 10) (w : World) :
    (binOp .eql 157 (.agg (L.map (Value.int .i64)).toArray) (.agg (M.map (Value.int .i64)).toArray)).run Tryz.prog w = .ok (.bool (decide (L = M))) w := by
  have hq : ∃ i, Tryz.prog.info? 2 = some i := by
    cases h : Tryz.prog.info? 2 with
    | some i => exact ⟨i, rfl⟩
    | none =>
      have : (Tryz.prog.info? 2).isSome = true := by kernel_rfl
      rw [h] at this
      cases this
  obtain ⟨i, hi⟩ := hq
  have e := run_equalIn_array (P := Tryz.prog) w 9999 (t := 157) (e := 2) (n := 10) (L.map (Value.int .i64)).toArray (M.map (Value.int .i64)).toArray (by kernel_rfl) hi
  rw [cells1_i64, run_items w 9998 L M (List.range 10) (fun j hj => by simp at hj; omega)] at e
  have hd : decide (∀ i ∈ List.range 10, L.getD i 0 = M.getD i 0) = decide (L = M) := by
    rw [Bool.eq_iff_iff]
    simp only [decide_eq_true_eq]
    constructor
    · intro h
      apply List.ext_getElem (by omega)
      intro j h3 h4
      have := h j (by simp; omega)
      rw [List.getD_eq_getElem?_getD, List.getElem?_eq_getElem h3, List.getD_eq_getElem?_getD, List.getElem?_eq_getElem h4] at this
      exact this
    · rintro rfl j _
      rfl
  rw [hd] at e
  show (Bind.bind (Op.equal 157 _ _) _ : Sem Value).run Tryz.prog w = _
  rw [Sem.run_bind]
  show ((Op.equalIn 10000 157 _ _).run Tryz.prog w).andThen _ = _
  rw [e]
  rfl
end Go.Proofs.YtfoadheepmgbfaaGreatDoor
