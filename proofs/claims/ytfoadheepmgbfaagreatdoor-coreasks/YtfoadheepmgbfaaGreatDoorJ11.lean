/- The descent, as a function over which one ranges. -/
import Derived.Test.YtfoadheepmgbfaaGreatDoorJ10
import Derived.WalkMore
import Derived.Test.YtfoadheepmgbfaaGreatDoorJ5
import Derived.Laws.AppendOwnNone
namespace Go.Proofs.YtfoadheepmgbfaaGreatDoor
open Go.RowKit Go.Lib Go.Shelf
attribute [local go_sem] Oper.semAt_some

theorem St.ex {s : St} (h : s.2.2.length = 10) : ∃ x0 x1 y0 y1 y2 y3 y4 y5 y6 y7 y8 y9, s = (x0, x1, [y0, y1, y2, y3, y4, y5, y6, y7, y8, y9]) := by
  obtain ⟨a, b, l⟩ := s
  dsimp only at h
  match l, h with
  | [y0, y1, y2, y3, y4, y5, y6, y7, y8, y9], _ => exact ⟨a, b, y0, y1, y2, y3, y4, y5, y6, y7, y8, y9, rfl⟩

/-- The step, with k of them to come. -/
def sv (k : Nat) : Int := ((2 ^ k / 2 : Nat) : Int)
theorem sv_zero : sv 0 = 0 := by decide
theorem sv_41 : sv 41 = 1099511627776 := by decide +kernel
theorem sv_succ (k : Nat) : sv (k + 1) = ((2 ^ k : Nat) : Int) := by
  unfold sv
  rw [Nat.pow_succ, Nat.mul_div_cancel _ (by decide)]
theorem sv_half (k : Nat) : sv (k + 1) / 2 = sv k := by
  rw [sv_succ]
  unfold sv
  omega
theorem sv_bnd {k : Nat} (h : k < 41) : 1 ≤ sv (k + 1) ∧ sv (k + 1) ≤ 1099511627776 := by
  rw [sv_succ]
  have h1 : 1 ≤ 2 ^ k := Nat.one_le_two_pow
  have h2 : 2 ^ k ≤ 2 ^ 40 := Nat.pow_le_pow_right (by decide) (by omega)
  have h3 : (2 : Nat) ^ 40 = 1099511627776 := by decide
  omega
theorem sv_less (k : Nat) : sv k < sv (k + 1) := by
  rw [sv_succ]
  unfold sv
  have h1 : 1 ≤ 2 ^ k := Nat.one_le_two_pow
  omega

def encS (s : St) : Array Value := #[stV s]


/-- Between two tries: what was told, what stands, what is still to be told. -/
structure DI (gd : Int) (bo : Option Addr) (cap : Nat) (B : Ins) (xb : Nat) (T : Nat → Prop) (w : World) (nb : Nat) (J : List St → World → Prop) (s : St) (p : List St) (rest : List St) (Y : World) : Prop where
  j : J p Y
  all : evs gd B = p ++ rest
  sd : Sd Y nb s
  ok : OkS s
  kt : KeptC T w Y

theorem cell_lt' {w : World} {b o : Nat} {v : Value} (h : w.cell? ⟨b, o, none⟩ = some v) : b < w.heap.size := World.block_lt_of_cell? w _ h

variable {gd : Int} {bo : Option Addr} {cap : Nat} {B : Ins} {xb : Nat} {T : Nat → Prop} {w : World} {nb : Nat} {J : List St → World → Prop} {s t : St} {p rest : List St} {Y Y' : World}

theorem DI.go {N : Nat} (h : DI gd bo cap B xb T w nb J s p rest Y) (hJ : ∀ p X Y, J p X → Frm (fun k => N ≤ k) X Y → J p Y) (hnb : N ≤ nb) (hw : w.heap.size ≤ N) (hf : Frm (fun k => k = nb) Y Y') (hs : Sd Y' nb t) (ho : OkS t) : DI gd bo cap B xb T w nb J t p rest Y' :=
  ⟨hJ _ _ _ h.j (Frm.mono hf (fun k _ e => by omega)), h.all, hs, ho, fun k o hT hk hc => by
    have h1 := h.kt k o hT hk hc
    have h2 := blk_lt hk
    rw [hf.block k (blk_lt h1) (by omega)]
    exact h1⟩

theorem DI.old {N : Nat} (h : DI gd bo cap B xb T w nb J s p rest Y) (hJ : ∀ p X Y, J p X → Frm (fun k => N ≤ k) X Y → J p Y) (hf : Old Y Y') : DI gd bo cap B xb T w nb J s p rest Y' :=
  ⟨hJ _ _ _ h.j (Frm.mono hf (fun k _ e => e.elim)), h.all, Own.kept h.sd hf (fun h => h), h.ok, fun k o hT hk hc => by
    have h1 := h.kt k o hT hk hc
    rw [hf.block k (blk_lt h1) (fun h => h)]
    exact h1⟩

theorem DI.ctx {N : Nat} (h : DI gd bo cap B xb T w nb J s p rest Y) (hC : ∀ Y, KeptC T w Y → Ctx gd bo cap B xb Y) (hnb : N ≤ nb) (hw : w.heap.size ≤ N) : ∀ X, Frm (fun k => k = nb) Y X → Ctx gd bo cap B xb X := fun X hf => hC X (fun k o hT hk hc => by
  have h1 := h.kt k o hT hk hc
  have h2 := blk_lt hk
  rw [hf.block k (blk_lt h1) (by omega)]
  exact h1)

theorem own_keptC {k : IntKind} {ty b : Nat} {L : List Int} (h : Own k ty Y b L) (hk : KeptC T Y Y') (hT : ¬ T b) : Own k ty Y' b L := ⟨hk b _ hT h.blk rfl⟩

theorem DI.tell (h : DI gd bo cap B xb T w nb J s p (s :: rest) Y) (hJ : J (p ++ [s]) Y') (hk : KeptC T Y Y') (hT : ¬ T nb) : DI gd bo cap B xb T w nb J s (p ++ [s]) rest Y' :=
  ⟨hJ, by rw [h.all]; simp, own_keptC h.sd hk hT, h.ok, h.kt.trans hk⟩

theorem DI.re {r' : List St} (h : DI gd bo cap B xb T w nb J s p rest Y) (e : rest = r') : DI gd bo cap B xb T w nb J s p r' Y := by subst e; exact h

/-- What is told behind a pass. -/
def contZ (gd : Int) (B : Ins) (c : Int) (k n : Nat) (Q : List Int) (f : St) : List St := if f.2.2 = Q then (stepEv gd B k f).1 else (passEv gd B c n f).1 ++ (stepEv gd B k (passEv gd B c n f).2).1

theorem pass_eq (gd : Int) (B : Ins) (c : Int) (k n : Nat) (s : St) : (passEv gd B c (n + 1) s).1 ++ (stepEv gd B k (passEv gd B c (n + 1) s).2).1 = (goodsEv gd B c 0 gd.toNat s).1 ++ contZ gd B c k n s.2.2 (goodsEv gd B c 0 gd.toNat s).2 := by
  unfold contZ
  rw [passEv]
  split
  · rfl
  · dsimp only
    rw [List.append_assoc]

theorem Sd.cells {x0 x1 y0 y1 y2 y3 y4 y5 y6 y7 y8 y9 : Int} (h : Sd Y nb (x0, x1, [y0, y1, y2, y3, y4, y5, y6, y7, y8, y9])) :
    Y.cell? ⟨nb, 0, none⟩ = some (.int .i64 x0) ∧ Y.cell? ⟨nb, 1, none⟩ = some (.int .i64 x1) ∧ Y.cell? ⟨nb, 2, none⟩ = some (.int .i64 y0) ∧ Y.cell? ⟨nb, 3, none⟩ = some (.int .i64 y1) ∧ Y.cell? ⟨nb, 4, none⟩ = some (.int .i64 y2) ∧ Y.cell? ⟨nb, 5, none⟩ = some (.int .i64 y3) ∧ Y.cell? ⟨nb, 6, none⟩ = some (.int .i64 y4) ∧ Y.cell? ⟨nb, 7, none⟩ = some (.int .i64 y5) ∧ Y.cell? ⟨nb, 8, none⟩ = some (.int .i64 y6) ∧ Y.cell? ⟨nb, 9, none⟩ = some (.int .i64 y7) ∧ Y.cell? ⟨nb, 10, none⟩ = some (.int .i64 y8) ∧ Y.cell? ⟨nb, 11, none⟩ = some (.int .i64 y9) :=
  ⟨blk_cells h.blk rfl, blk_cells h.blk rfl, blk_cells h.blk rfl, blk_cells h.blk rfl, blk_cells h.blk rfl, blk_cells h.blk rfl, blk_cells h.blk rfl, blk_cells h.blk rfl, blk_cells h.blk rfl, blk_cells h.blk rfl, blk_cells h.blk rfl, blk_cells h.blk rfl⟩

theorem own10 {ty b : Nat} {y0 y1 y2 y3 y4 y5 y6 y7 y8 y9 : Int} (h : Own .i64 ty Y b [y0, y1, y2, y3, y4, y5, y6, y7, y8, y9]) :
    Y.cell? ⟨b, 0, none⟩ = some (.int .i64 y0) ∧ Y.cell? ⟨b, 1, none⟩ = some (.int .i64 y1) ∧ Y.cell? ⟨b, 2, none⟩ = some (.int .i64 y2) ∧ Y.cell? ⟨b, 3, none⟩ = some (.int .i64 y3) ∧ Y.cell? ⟨b, 4, none⟩ = some (.int .i64 y4) ∧ Y.cell? ⟨b, 5, none⟩ = some (.int .i64 y5) ∧ Y.cell? ⟨b, 6, none⟩ = some (.int .i64 y6) ∧ Y.cell? ⟨b, 7, none⟩ = some (.int .i64 y7) ∧ Y.cell? ⟨b, 8, none⟩ = some (.int .i64 y8) ∧ Y.cell? ⟨b, 9, none⟩ = some (.int .i64 y9) :=
  ⟨blk_cells h.blk rfl, blk_cells h.blk rfl, blk_cells h.blk rfl, blk_cells h.blk rfl, blk_cells h.blk rfl, blk_cells h.blk rfl, blk_cells h.blk rfl, blk_cells h.blk rfl, blk_cells h.blk rfl, blk_cells h.blk rfl⟩

theorem list_ex {l : List Int} (h : l.length = 10) : ∃ y0 y1 y2 y3 y4 y5 y6 y7 y8 y9, l = [y0, y1, y2, y3, y4, y5, y6, y7, y8, y9] := by
  match l, h with
  | [y0, y1, y2, y3, y4, y5, y6, y7, y8, y9], _ => exact ⟨y0, y1, y2, y3, y4, y5, y6, y7, y8, y9, rfl⟩

theorem goods_none {c : Int} {g n : Nat} (h : bothZ gd B s g c = none) : goodsEv gd B c g (n + 1) s = goodsEv gd B c (g + 1) n s := by rw [goodsEv, h]
theorem goods_some {c : Int} {g n : Nat} (h : bothZ gd B s g c = some t) : goodsEv gd B c g (n + 1) s = (t :: (goodsEv gd B c (g + 1) n t).1, (goodsEv gd B c (g + 1) n t).2) := by rw [goodsEv, h]
theorem both_first {c : Int} {g : Nat} (h : tryZ gd B s g c = some t) : bothZ gd B s g c = some t := by rw [bothZ, h]
theorem both_second {c : Int} {g : Nat} (h : tryZ gd B s g c = none) : bothZ gd B s g c = tryZ gd B s g (-c) := by rw [bothZ, h]

theorem beginning_ex (gd : Int) (bo : Option Addr) (cap : Nat) (B : Ins) (bz : Int) (hbz : boundZ zeros (allZ gd).1 B = bz) (w : World) (h : InsC w bo B) (hl : B.length ≤ 9223372036854775807) (hT : Tabs w) :
    Calls Tryz.prog 84 #[.agg #[.int .i64 gd, .slice bo B.length cap]] w fun e w' => e = .returned (.agg #[.int .i64 0, .int .i64 bz, .int .i64 0, .int .i64 0, .int .i64 0, .int .i64 0, .int .i64 0, .int .i64 0, .int .i64 0, .int .i64 0, .int .i64 0, .int .i64 0]) ∧ Old w w' := by
  refine (beginning_any gd bo cap B w h hl hT).mono ?_
  rintro e w' ⟨rfl, o⟩
  refine ⟨?_, o⟩
  unfold st0
  rw [hbz]
  rfl

set_option maxRecDepth 100000 in
set_option maxHeartbeats 8000000 in
theorem desc1_good (d : Nat) (hd : 1 ≤ d) (lp xb : Nat) (gd : Int) (bo : Option Addr) (cap : Nat) (B : Ins) (hgd : 1 ≤ gd ∧ gd ≤ 10) (hl : B.length ≤ 9223372036854775807) (T : Nat → Prop) (w W : World) (hbe : Below w.heap.size w W) (hTw : ∀ k, w.heap.size ≤ k → ¬ T k) (hC : ∀ Y, KeptC T w Y → Ctx gd bo cap B xb Y) (J Jx : List St → World → Prop)
    (hY : ∀ p x X, J p X → (∃ r, evs gd B = (p ++ [x]) ++ r) → YieldAt Fence.wide (d - 1) Tryz.prog lp (encS x) X fun e Y => (e = .returned (.bool true) ∧ J (p ++ [x]) Y ∧ KeptC T X Y) ∨ (e = .returned (.bool false) ∧ Jx (p ++ [x]) Y))
    (hJ : ∀ p X Y, J p X → Frm (fun k => W.heap.size ≤ k) X Y → J p Y) (h0 : J [] W) :
    CallsIn Fence.wide d Tryz.prog 95 #[.func (.yield lp) #[] #[], .pointer (some ⟨xb, 0, none⟩)] W fun e Y => (∃ v, e = .returned v) ∧
      ((∃ q, q = evs gd B ∧ J q Y) ∨ (∃ p, (∃ r, evs gd B = p ++ r) ∧ Jx p Y)) := by
  have kt0 : KeptC T w W := KeptC.of_frm (Frm.mono (Old.of_below hbe) (fun _ _ h => h.elim))
  obtain ⟨hI, hTb, hx0, hx1⟩ := hC W kt0
  have hev : Hid (evs gd B = (stepEv gd B 41 (0, boundZ zeros (allZ gd).1 B, zeros)).1) := by
    show _ = _
    rw [evs, st0]
  obtain ⟨bz, hbz⟩ : ∃ bz, boundZ zeros (allZ gd).1 B = bz := ⟨_, rfl⟩
  have kBeg := hid (beginning_ex gd bo cap B bz hbz W hI hl hTb)
  have hok0 : Hid (OkS (0, bz, zeros)) := by
    have := st0_ok gd B
    unfold st0 at this
    rw [hbz] at this
    exact this
  rw [hbz] at hev
  have kt0' := hid kt0
  have khY := hid hY
  have khJ := hid hJ
  have kh0 := hid h0
  have khC := hid hC
  have khT := hid hTw
  have kwW := hid (hbe.size)
  clear hY hJ h0 hC hTw hbz hI hTb kt0 hbe
  refine callsIn_of_wp Tryz.func95 rfl trivial ?_ rfl
  simp only [Tryz.ntmps95, List.size_toArray, List.length_cons, List.length_nil, Nat.reduceAdd, Nat.reduceSub, Array.replicate_succ, Array.replicate_zero, List.push_toArray, List.append_toArray, List.nil_append, List.cons_append]
  refine wpIn_wide.2 (wp_scope_straight ((wpIn_wide (n := d)).1 ?_))
  gi_wp2_with fail
  refine ⟨trivial, ?_⟩
  refine (callsIn_wide.2 kBeg.out).mono ?_
  rintro e w1 ⟨rfl, o1⟩
  clear hx0 hx1
  gi_wp2_with fail
  refine wpIn_wide.2 (wp_label ?_)
  gi_wp2_with fail
  have s2 := Sd.new w1 (0, bz, zeros)
  have o2 : Old w1 (w1.alloc (.cells ((lst ((0, bz, zeros) : St)).map (Value.int .i64)).toArray 159)) := (Old.refl w1).alloc _
  change Code.wpIn _ _ _ _ _ _ (w1.alloc (.cells ((lst ((0, bz, zeros) : St)).map (Value.int .i64)).toArray 159))
  generalize w1.alloc (.cells ((lst ((0, bz, zeros) : St)).map (Value.int .i64)).toArray 159) = w2 at *
  have hnb : Hid (W.heap.size ≤ w1.heap.size) := o1.size
  generalize w1.heap.size = nb at *
  have d0 : Hid (DI gd bo cap B xb T w nb J (0, bz, zeros) [] (stepEv gd B 41 (0, bz, zeros)).1 w2) :=
    ⟨khJ.out _ _ _ (khJ.out _ _ _ kh0.out (Frm.mono o1 (fun _ _ h => h.elim))) (Frm.mono o2 (fun _ _ h => h.elim)), by rw [List.nil_append]; exact hev.out, s2, hok0.out, (kt0'.out.trans (KeptC.of_frm (Frm.mono o1 (fun _ _ h => h.elim)))).trans (KeptC.of_frm (Frm.mono o2 (fun _ _ h => h.elim)))⟩
  clear s2 o2 o1 kBeg hok0 hev kh0 kt0' w1
  obtain ⟨m, rfl⟩ : ∃ m : Nat, gd = m := ⟨gd.toNat, by omega⟩
  have hnT : Hid (¬ T nb) := khT.out nb (by have := hnb.out; have := kwW.out; omega)
  have hm10 : m ≤ 10 := by omega
  gi_loopw [5] (fun v wr => ∃ (k : Nat) (s : St) (p : List St), k ≤ 41 ∧ v = .int .i64 (sv k) ∧ Hid (DI m bo cap B xb T w nb J s p (stepEv m B k s).1 wr)) (fun v _ => (intOf v).toNat)
  case atStart => exact ⟨41, (0, bz, zeros), [], by omega, by rw [sv_41], d0⟩
  case round =>
    clear d0 w2
    obtain ⟨k, s, p, hk, rfl, hD⟩ := hrel
    match k, hk with
    | 0, _ =>
      rw [sv_zero]
      gi_wp2
      rw [Exit.noGoto_normal]
      go_end0
      exact ⟨⟨_, rfl⟩, .inl ⟨p, by rw [hD.out.all, stepEv, List.append_nil], hD.out.j⟩⟩
    | k + 1, hk =>
      obtain ⟨hc1, hc2⟩ := sv_bnd (k := k) (by omega)
      have hcs : Hid (((2 ^ k : Nat) : Int) = sv (k + 1)) := (sv_succ k).symm
      have hch := hid (sv_half k)
      have hcl := hid (sv_less k)
      have hD1 : Hid (DI m bo cap B xb T w nb J s p ((passEv m B (sv (k + 1)) 16 s).1 ++ (stepEv m B k (passEv m B (sv (k + 1)) 16 s).2).1) wr) := hid (hD.out.re (by rw [stepEv, hcs.out]))
      generalize sv (k + 1) = c at *
      clear hD hcs
      gi_wp2_with fail
      gi_loopw [15] (fun t wr => ∃ (n : Nat) (s : St) (p : List St), n ≤ 16 ∧ t = .int .i64 ((16 - n : Nat) : Int) ∧ Hid (DI m bo cap B xb T w nb J s p ((passEv m B c n s).1 ++ (stepEv m B k (passEv m B c n s).2).1) wr)) (fun t _ => 16 - (intOf t).toNat)
      case atStart => exact ⟨16, s, p, by omega, rfl, hD1⟩
      case round =>
        clear hD1 s p
        obtain ⟨n, s, p, hn, rfl, hD⟩ := hrel
        match n, hn with
        | 0, _ =>
          have hD2 : Hid (DI m bo cap B xb T w nb J s p (stepEv m B k s).1 wr) := hid (hD.out.re (by rw [passEv, List.nil_append]))
          have h16 : (((16 - 0 : Nat) : Int)) = 16 := rfl
          rw [h16]
          have hch2 := hch.out
          clear hD h16
          gi_wp2_with fail
          go_roundw
          case rel => exact ⟨k, s, p, by omega, by rw [hch.out], hD2⟩
          case measure => have := hcl.out; have := hc1; simp [intOf]; omega
        | n + 1, hn =>
          obtain ⟨t, ht⟩ : ∃ t : Nat, 16 - (n + 1) = t := ⟨_, rfl⟩
          have htn : Hid (16 - n = t + 1) := by show _ = _; omega
          have ht16 : (t : Int) < 16 := by omega
          have htd : decide ((t : Int) < 16) = true := by simp; omega
          rw [ht]
          clear ht
          have hD2 : Hid (DI m bo cap B xb T w nb J s p ((goodsEv m B c 0 m s).1 ++ contZ m B c k n s.2.2 (goodsEv m B c 0 m s).2) wr) := hid (hD.out.re (by rw [pass_eq, Int.toNat_natCast]))
          obtain ⟨x0, x1, q0, q1, q2, q3, q4, q5, q6, q7, q8, q9, rfl⟩ := St.ex hD.out.ok.1
          obtain ⟨e0, e1, e2, e3, e4, e5, e6, e7, e8, e9, e10, e11⟩ := Sd.cells hD.out.sd
          obtain ⟨-, -, hx0, hx1⟩ := hD.out.ctx khC.out hnb.out kwW.out _ (Frm.refl _ _)
          have hxl := cell_lt' hx0
          dsimp only at hD2
          clear hD
          gi_wp2_with fail
          have ob : Old wr (wr.alloc (.cells (([q0, q1, q2, q3, q4, q5, q6, q7, q8, q9] : List Int).map (Value.int .i64)).toArray 157)) := (Old.refl wr).alloc _
          have wb : Own .i64 157 (wr.alloc (.cells (([q0, q1, q2, q3, q4, q5, q6, q7, q8, q9] : List Int).map (Value.int .i64)).toArray 157)) wr.heap.size [q0, q1, q2, q3, q4, q5, q6, q7, q8, q9] := ⟨heap_new wr _⟩
          have hD3 := hid (hD2.out.old khJ.out ob)
          have hbn : Hid (nb < wr.heap.size) := hD2.out.sd.lt
          have hbW : Hid (¬ T wr.heap.size) := khT.out _ (by have := hbn.out; have := hnb.out; have := kwW.out; omega)
          change Code.wpIn _ _ _ _ _ _ (wr.alloc (.cells (([q0, q1, q2, q3, q4, q5, q6, q7, q8, q9] : List Int).map (Value.int .i64)).toArray 157))
          have kwb := hid wb
          clear hD2 e0 e1 e2 e3 e4 e5 e6 e7 e8 e9 e10 e11 hx0 hx1 hxl ob wb
          generalize wr.alloc (.cells (([q0, q1, q2, q3, q4, q5, q6, q7, q8, q9] : List Int).map (Value.int .i64)).toArray 157) = w3 at *
          generalize wr.heap.size = bb at *
          gi_loopw [21] (fun t wr => ∃ (g : Nat) (s : St) (p : List St), g ≤ m ∧ t = .int .i64 (g : Int) ∧ Hid (DI m bo cap B xb T w nb J s p ((goodsEv m B c g (m - g) s).1 ++ contZ m B c k n [q0, q1, q2, q3, q4, q5, q6, q7, q8, q9] (goodsEv m B c g (m - g) s).2) wr) ∧ Hid (Own .i64 157 wr bb [q0, q1, q2, q3, q4, q5, q6, q7, q8, q9])) (fun t _ => m - (intOf t).toNat)
          case atStart => exact ⟨0, _, p, by omega, rfl, hD3, kwb⟩
          case round =>
            clear hD3 kwb p w3
            obtain ⟨g, s, p, hg, rfl, hD, hQ⟩ := hrel
            by_cases hlt : g < m
            · obtain ⟨r, hr⟩ : ∃ r, m - g = r + 1 := ⟨m - g - 1, by omega⟩
              have hr2 : Hid (m - (g + 1) = r) := by show _ = _; omega
              rw [hr] at hD
              have hlt' : (g : Int) < (m : Int) := by omega
              have hm2 : (m : Int) ≤ 10 := by omega
              have kT1 := hid (try_any nb xb s m bo cap B g c wr hl (hD.out.ctx khC.out hnb.out kwW.out) hD.out.sd hD.out.ok (by omega) (by omega))
              clear hr
              cases ht1 : tryZ (m : Int) B s g c with
              | some t =>
                rw [ht1] at kT1
                have hok := tryZ_ok hD.out.ok ht1
                have hbt := both_first ht1
                clear ht1
                gi_wp2_with fail
                refine ⟨trivial, ?_⟩
                refine (callsIn_wide.2 kT1.out).mono ?_
                rintro e w4 ⟨rfl, hs4, hf4⟩
                have hD6 := hid ((hD.out.go khJ.out hnb.out kwW.out hf4 hs4 hok).re (show _ = t :: ((goodsEv m B c (g + 1) r t).1 ++ contZ m B c k n [q0, q1, q2, q3, q4, q5, q6, q7, q8, q9] (goodsEv m B c (g + 1) r t).2) by rw [goods_some hbt]; rfl))
                have hQ6 := hid (Own.kept hQ.out hf4 (by have := hbn.out; omega))
                clear hf4 hs4 hD hQ hbt
                obtain ⟨x0, x1, y0, y1, y2, y3, y4, y5, y6, y7, y8, y9, ht⟩ := St.ex hok.1
                clear hok
                have hse := hD6.out.sd
                rw [ht] at hse
                obtain ⟨e0, e1, e2, e3, e4, e5, e6, e7, e8, e9, e10, e11⟩ := Sd.cells hse
                clear hse
                obtain ⟨fn, tmps, assign, body, hy, hR⟩ := khY.out p t w4 hD6.out.j ⟨_, by rw [hD6.out.all, List.append_assoc]; rfl⟩
                have hen : encS t = #[.agg #[.int .i64 x0, .int .i64 x1, .int .i64 y0, .int .i64 y1, .int .i64 y2, .int .i64 y3, .int .i64 y4, .int .i64 y5, .int .i64 y6, .int .i64 y7, .int .i64 y8, .int .i64 y9]] := by rw [ht]; rfl
                rw [hen] at hy
                clear ht hen
                gi_wp2
                try (refine ⟨fun _ h => (by cases h), ?_⟩; gi_wp2)
                refine hR.mono ?_
                rintro e w7 (⟨rfl, hJ7, hk7⟩ | ⟨rfl, hJx7⟩)
                · have hD7 := hid (hD6.out.tell hJ7 hk7 hnT.out)
                  have hQ7 := hid (own_keptC hQ6.out hk7 hbW.out)
                  clear hJ7 hk7 hy e0 e1 e2 e3 e4 e5 e6 e7 e8 e9 e10 e11
                  gi_wp2
                  go_roundw
                  case rel => exact ⟨g + 1, t, _, by omega, by go_num, hid (by rw [hr2.out]; exact hD7.out), hQ7⟩
                  case measure => simp [intOf]; omega
                · have hall := hid hD6.out.all
                  clear hy e0 e1 e2 e3 e4 e5 e6 e7 e8 e9 e10 e11
                  gi_wp2
                  rw [Exit.noGoto_ret]
                  refine bodyPost_ret (results_none rfl _ _ _) rfl ?_
                  exact ⟨⟨_, rfl⟩, .inr ⟨_, ⟨_, by rw [hall.out, List.append_assoc]; rfl⟩, hJx7⟩⟩
              | none =>
                rw [ht1] at kT1
                gi_wp2_with fail
                refine ⟨trivial, ?_⟩
                refine (callsIn_wide.2 kT1.out).mono ?_
                rintro e w4 ⟨rfl, hs4, hf4⟩
                have hD4 := hid (hD.out.go khJ.out hnb.out kwW.out hf4 hs4 hD.out.ok)
                have hQ4 := hid (Own.kept hQ.out hf4 (by have := hbn.out; omega))
                have kT2 := hid (try_any nb xb s m bo cap B g (-c) w4 hl (hD4.out.ctx khC.out hnb.out kwW.out) hs4 hD.out.ok (by omega) (by omega))
                have hbs := both_second ht1
                clear hf4 hs4 kT1 ht1 hD hQ
                have hD := hD4
                have hQ := hQ4
                clear hD4 hQ4
                cases ht2 : tryZ (m : Int) B s g (-c) with
                | some t =>
                  rw [ht2] at kT2
                  have hok := tryZ_ok hD.out.ok ht2
                  have hbt := hbs.trans ht2
                  clear ht2 hbs
                  gi_wp2_with fail
                  refine ⟨trivial, ?_⟩
                  refine (callsIn_wide.2 kT2.out).mono ?_
                  rintro e w5 ⟨rfl, hs5, hf5⟩
                  have hD6 := hid ((hD.out.go khJ.out hnb.out kwW.out hf5 hs5 hok).re (show _ = t :: ((goodsEv m B c (g + 1) r t).1 ++ contZ m B c k n [q0, q1, q2, q3, q4, q5, q6, q7, q8, q9] (goodsEv m B c (g + 1) r t).2) by rw [goods_some hbt]; rfl))
                  have hQ6 := hid (Own.kept hQ.out hf5 (by have := hbn.out; omega))
                  clear hf5 hs5 hD hQ hbt
                  obtain ⟨x0, x1, y0, y1, y2, y3, y4, y5, y6, y7, y8, y9, ht⟩ := St.ex hok.1
                  clear hok
                  have hse := hD6.out.sd
                  rw [ht] at hse
                  obtain ⟨e0, e1, e2, e3, e4, e5, e6, e7, e8, e9, e10, e11⟩ := Sd.cells hse
                  clear hse
                  obtain ⟨fn, tmps, assign, body, hy, hR⟩ := khY.out p t w5 hD6.out.j ⟨_, by rw [hD6.out.all, List.append_assoc]; rfl⟩
                  have hen : encS t = #[.agg #[.int .i64 x0, .int .i64 x1, .int .i64 y0, .int .i64 y1, .int .i64 y2, .int .i64 y3, .int .i64 y4, .int .i64 y5, .int .i64 y6, .int .i64 y7, .int .i64 y8, .int .i64 y9]] := by rw [ht]; rfl
                  rw [hen] at hy
                  clear ht hen
                  gi_wp2
                  try (refine ⟨fun _ h => (by cases h), ?_⟩; gi_wp2)
                  refine hR.mono ?_
                  rintro e w7 (⟨rfl, hJ7, hk7⟩ | ⟨rfl, hJx7⟩)
                  · have hD7 := hid (hD6.out.tell hJ7 hk7 hnT.out)
                    have hQ7 := hid (own_keptC hQ6.out hk7 hbW.out)
                    clear hJ7 hk7 hy e0 e1 e2 e3 e4 e5 e6 e7 e8 e9 e10 e11
                    gi_wp2
                    go_roundw
                    case rel => exact ⟨g + 1, t, _, by omega, by go_num, hid (by rw [hr2.out]; exact hD7.out), hQ7⟩
                    case measure => simp [intOf]; omega
                  · have hall := hid hD6.out.all
                    clear hy e0 e1 e2 e3 e4 e5 e6 e7 e8 e9 e10 e11
                    gi_wp2
                    rw [Exit.noGoto_ret]
                    refine bodyPost_ret (results_none rfl _ _ _) rfl ?_
                    exact ⟨⟨_, rfl⟩, .inr ⟨_, ⟨_, by rw [hall.out, List.append_assoc]; rfl⟩, hJx7⟩⟩
                | none =>
                  rw [ht2] at kT2
                  have hbt := hbs.trans ht2
                  clear ht2 hbs
                  gi_wp2_with fail
                  refine ⟨trivial, ?_⟩
                  refine (callsIn_wide.2 kT2.out).mono ?_
                  rintro e w5 ⟨rfl, hs5, hf5⟩
                  have hD5 := hid ((hD.out.go khJ.out hnb.out kwW.out hf5 hs5 hD.out.ok).re (by rw [goods_none hbt]))
                  have hQ5 := hid (Own.kept hQ.out hf5 (by have := hbn.out; omega))
                  clear hf5 hs5 kT2 hD hQ hbt
                  gi_wp2
                  refine ⟨fun _ h => (by cases h), ?_⟩
                  gi_wp2
                  go_roundw
                  case rel => exact ⟨g + 1, s, p, by omega, by go_num, hid (by rw [hr2.out]; exact hD5.out), hQ5⟩
                  case measure => simp [intOf]; omega
            · obtain rfl : g = m := by omega
              rw [Nat.sub_self] at hD
              have hD6 : Hid (DI g bo cap B xb T w nb J s p (contZ g B c k n [q0, q1, q2, q3, q4, q5, q6, q7, q8, q9] s) wr) := hid (hD.out.re (by rw [goodsEv, List.nil_append]))
              clear hD
              obtain ⟨x0, x1, y0, y1, y2, y3, y4, y5, y6, y7, y8, y9, rfl⟩ := St.ex hD6.out.ok.1
              obtain ⟨e0, e1, e2, e3, e4, e5, e6, e7, e8, e9, e10, e11⟩ := Sd.cells hD6.out.sd
              obtain ⟨f0, f1, f2, f3, f4, f5, f6, f7, f8, f9⟩ := own10 hQ.out
              have heq := eq_arr [y0, y1, y2, y3, y4, y5, y6, y7, y8, y9] [q0, q1, q2, q3, q4, q5, q6, q7, q8, q9] rfl rfl
              simp only [List.map_cons, List.map_nil] at heq
              by_cases hPQ : ([y0, y1, y2, y3, y4, y5, y6, y7, y8, y9] : List Int) = [q0, q1, q2, q3, q4, q5, q6, q7, q8, q9]
              · rw [decide_eq_true hPQ] at heq
                have hD7 := hid (hD6.out.re (show _ = (stepEv g B k (x0, x1, [y0, y1, y2, y3, y4, y5, y6, y7, y8, y9])).1 by rw [contZ, if_pos hPQ]))
                have hch2 := hch.out
                clear hD6 hPQ
                gi_wp2_with fail
                go_roundw
                case rel => exact ⟨k, _, p, by omega, by rw [hch.out], hD7⟩
                case measure => have := hcl.out; have := hc1; simp [intOf]; omega
              · rw [decide_eq_false hPQ] at heq
                have hD7 := hid (hD6.out.re (show _ = (passEv g B c n (x0, x1, [y0, y1, y2, y3, y4, y5, y6, y7, y8, y9])).1 ++ (stepEv g B k (passEv g B c n (x0, x1, [y0, y1, y2, y3, y4, y5, y6, y7, y8, y9])).2).1 by rw [contZ, if_neg hPQ]))
                clear hD6 hPQ
                gi_wp2_with fail
                go_roundw
                case rel => exact ⟨n, _, p, by omega, by rw [htn.out]; go_num, hD7⟩
                case measure => simp [intOf]; omega
end Go.Proofs.YtfoadheepmgbfaaGreatDoor

/- A range over a function, where what comes is laid into a variable that was there. -/
namespace Go.Proofs.YtfoadheepmgbfaaGreatDoor
open Go.RowKit Go.Lib Go.Shelf

/-- The loop, where what comes is laid into a variable that was there. -/
theorem range_asg {α : Type} {P : Program} {n : Nat} {g : Operand} {ps : Array Tmp} {assign body : Code} {Q : Exit → Act → World → Prop} {a : Act} {w : World} (hn : 1 ≤ n) {gf : Nat} {lb : Array Value}
    (hg : a.eval g = .func (.func gf) #[] lb) (eg : ∀ args w, (callFunc gf args).run P w = .ok (.enter gf args) w) {enc : α → Array Value} {Kp : World → World → Prop} {Pre S Sp : List α → Prop}
    (hseq : SeqP P (n - 1) gf lb enc Kp Pre S Sp w) (hKt : ∀ {A B D : World}, Kp A B → Kp B D → Kp A D)
    (hKb : ∀ (W : World) (l : Nat) (o o' : Obj), w.heap.size ≤ l → W.heap[l]? = some o → o.isCells = false → Kp W (W.putObj l o')) (hps : ∀ x, (enc x).size = ps.size)
    (I : List α → World → Prop) (Ix : Code → List α → World → Prop) (hI : OwnFrom w.heap.size I) (hIx : ∀ c, OwnFrom w.heap.size (Ix c))
    (hIP : ∀ p X Y, I p X → Frm (fun k => w.heap.size + 2 ≤ k) X Y → I p Y) (hIxP : ∀ c p X Y, Ix c p X → Frm (fun k => w.heap.size + 2 ≤ k) X Y → Ix c p Y) (h0 : I [] w) (a₁ : α → Act) (I1 : List α → α → World → Prop) (hI1 : ∀ p x, OwnFrom w.heap.size (fun _ : Unit => I1 p x))
    (hassign : ∀ (l : Nat) (p : List α) (x : α) (W : World) (K : Act → World → Prop), I p W → Pre (p ++ [x]) → (∀ W1, I1 p x W1 → Kp W W1 → KeepsFrom w.heap.size W W1 → K (a₁ x) W1) → assign.wpIn (Fence.wide.inRound l) (n - 1 - 1) P (Exit.then K (fun _ _ _ => False)) { tmps := (ps.zip (enc x)).foldl (fun t (p, v) => t.setIfInBounds p v) a.tmps, defers := [] } W)
    (hbody : ∀ (l : Nat) (p : List α) (x : α) (W : World), I1 p x W → body.wpIn (Fence.wide.inRound l) (n - 1 - 1) P (ownPostG w.heap.size Kp I Ix (p ++ [x]) W) (a₁ x) W)
    (hdone : ∀ (D : Nat) (q : List α) (W : World), w.heap.size ≤ D → S q → I q W → W.heap[D]? = some (.deferred (some [])) → Q .normal { a with defers := { target := .collected D, args := #[] } :: a.defers } W)
    (hstop : ∀ (D : Nat) (c : Code) (p : List α) (W : World), w.heap.size ≤ D → Sp p → Ix c p W → W.heap[D]? = some (.deferred (some [])) → c.wpIn Fence.wide n P Q { a with defers := { target := .collected D, args := #[] } :: a.defers } W) :
    (Code.rangeFunc g ps assign body).wpIn Fence.wide n P Q a w := by
  refine wpIn_rangeFunc fun fn hfn => ?_
  let R : LoopState → Option Code → Obj := fun st pe => .loop { state := st, pending := pe, fn, tmps := a.tmps, params := ps, assign, body, defers := w.heap.size }
  let Md : Obj := .deferred (some [])
  have lr : ∀ st pe, (R st pe).isCells = false := fun _ _ => rfl
  obtain ⟨V, hV⟩ : ∃ V, (w.alloc Md).alloc (R .ready none) = V := ⟨_, rfl⟩
  have vR : V.heap[w.heap.size + 1]? = some (R .ready none) := by
    have := heap_new (w.alloc Md) (R .ready none)
    rwa [alloc_size, hV] at this
  have vD : V.heap[w.heap.size]? = some Md := by
    rw [← hV, Below.heap_alloc _ _ _ (by rw [alloc_size]; omega)]
    exact heap_new w Md
  have vI : I [] V := by rw [← hV]; exact hI.alloc _ (hI.alloc _ h0)
  have vB : Below w.heap.size w V := by rw [← hV]; exact (((Old.refl w).alloc _).alloc _).below
  have vS : V.heap.size = w.heap.size + 2 := by rw [← hV, alloc_size, alloc_size]
  refine ⟨w.heap.size + 1, [{ target := .collected w.heap.size, args := #[] }], V, { target := .fn (.func gf) lb, args := #[.func (.yield (w.heap.size + 1)) #[] #[]] }, V, gf, #[.func (.yield (w.heap.size + 1)) #[] #[]] ++ lb, V,
    by rw [← hV]; exact run_enterLoop_outer _ _ _ _ _, by simp only [resolve, hg]; simp [go_sem], fun _ _ => trivial, by simp [invoke, go_sem, eg], fun _ => hn, ?_⟩
  have keep : ∀ {X Y : World} {k : Nat} {o : Obj}, Frm (fun k => V.heap.size ≤ k) X Y → k < w.heap.size + 2 → X.heap[k]? = some o → Y.heap[k]? = some o := fun hf hk h => by
    rw [hf.block _ (Array.getElem?_eq_some_iff.1 h).1 (by rw [vS]; omega)]
    exact h
  refine (hseq (w.heap.size + 1) (fun p X => I p X ∧ X.heap[w.heap.size + 1]? = some (R .ready none) ∧ X.heap[w.heap.size]? = some Md)
    (fun p X => ∃ c, Ix c p X ∧ X.heap[w.heap.size + 1]? = some (R .done (some c)) ∧ X.heap[w.heap.size]? = some Md) V vB
    (fun p X Y h hf => ⟨hIP p X Y h.1 (Frm.mono hf (fun k _ hk => by rw [vS] at hk; exact hk)), keep hf (by omega) h.2.1, keep hf (by omega) h.2.2⟩)
    (fun p X Y ⟨c, h1, h2, h3⟩ hf => ⟨c, hIxP c p X Y h1 (Frm.mono hf (fun k _ hk => by rw [vS] at hk; exact hk)), keep hf (by omega) h2, keep hf (by omega) h3⟩) ?_ ⟨vI, vR, vD⟩).mono ?_
  · rintro p x X ⟨xI, xR, xD⟩ hlen
    have hlt : w.heap.size + 1 < X.heap.size := (Array.getElem?_eq_some_iff.1 xR).1
    refine ⟨fn, _, assign, body, run_yield (P := P) (args := enc x) xR (hps x), roundIn_of_wpIn hfn (hassign _ p x X _ xI hlen (fun X1 xI1 k1 g1 => ?_))⟩
    have xR0 := xR
    have hlt0 := hlt
    replace xR := g1.same _ _ (by omega) xR rfl
    replace xD := g1.same _ _ (Nat.le_refl _) xD rfl
    replace hlt : w.heap.size + 1 < X1.heap.size := (Array.getElem?_eq_some_iff.1 xR).1
    refine ⟨_, run_beginRound xR rfl, ?_⟩
    have bR : (X1.putObj (w.heap.size + 1) (R .busy none)).heap[w.heap.size + 1]? = some (R .busy none) := World.putObj_heap_same hlt
    have bD : (X1.putObj (w.heap.size + 1) (R .busy none)).heap[w.heap.size]? = some Md := (World.putObj_heap_other (by omega)).trans xD
    have bK : Kp X (X1.putObj (w.heap.size + 1) (R .busy none)) := hKt k1 (hKb _ _ _ _ (by omega) xR (lr _ _))
    have ends : ∀ (j : Option Code) (Y : World), KeepsFrom w.heap.size (X1.putObj (w.heap.size + 1) (R .busy none)) Y →
        Y.heap[w.heap.size + 1]? = some (R .busy none) ∧ (Instr.endRound (w.heap.size + 1) j).run P Y = .ok (.bool j.isNone) (Y.putObj (w.heap.size + 1) (R (if j.isNone then .ready else .done) j)) ∧
        (Y.putObj (w.heap.size + 1) (R (if j.isNone then .ready else .done) j)).heap[w.heap.size + 1]? = some (R (if j.isNone then .ready else .done) j) ∧
        (Y.putObj (w.heap.size + 1) (R (if j.isNone then .ready else .done) j)).heap[w.heap.size]? = some Md := fun j Y hY => by
      have yR := hY.same _ _ (by omega) bR rfl
      exact ⟨yR, run_endRound (P := P) j yR, World.putObj_heap_same (Array.getElem?_eq_some_iff.1 yR).1, (World.putObj_heap_other (by omega)).trans (hY.same _ _ (Nat.le_refl _) bD rfl)⟩
    refine wpIn_mono (hbody _ p x _ ((hI1 p x).putObj (s := ()) _ xI1 (by omega) xR (lr _ _))) fun e b Y hp => ?_
    cases e with
    | normal =>
      obtain ⟨kY, pY, iY⟩ := hp
      obtain ⟨yR, run, zR, zD⟩ := ends none Y kY
      exact ⟨_, _, run, .inl ⟨rfl, ⟨hI.putObj _ iY (by omega) yR (lr _ _), zR, zD⟩, hKt (hKt bK pY) (hKb _ _ _ _ (by omega) yR (lr _ _))⟩⟩
    | ret =>
      obtain ⟨kY, iY⟩ := hp
      obtain ⟨yR, run, zR, zD⟩ := ends (some .ret) Y kY
      exact ⟨_, _, run, .inr ⟨rfl, .ret, (hIx _).putObj _ iY (by omega) yR (lr _ _), zR, zD⟩⟩
    | exit i =>
      obtain ⟨kY, iY⟩ := hp
      obtain ⟨yR, run, zR, zD⟩ := ends (some (.exit i)) Y kY
      exact ⟨_, _, run, .inr ⟨rfl, .exit i, (hIx _).putObj _ iY (by omega) yR (lr _ _), zR, zD⟩⟩
    | goto t =>
      obtain ⟨kY, iY⟩ := hp
      obtain ⟨yR, run, zR, zD⟩ := ends (some (.goto t)) Y kY
      exact ⟨_, _, run, .inr ⟨rfl, .goto t, (hIx _).putObj _ iY (by omega) yR (lr _ _), zR, zD⟩⟩
    | panic ch => exact hp.elim
    | outgrown => exact hp.elim
  · rintro e Y ⟨⟨v, rfl⟩, (⟨q, hS, yI, yR, yD⟩ | ⟨p, hSp, c, yI, yR, yD⟩)⟩
    · exact ⟨none, _, run_endLoop (P := P) yR (by simp), hdone _ q _ (Nat.le_refl _) hS (hI.putObj _ yI (by omega) yR (lr _ _)) ((World.putObj_heap_other (by omega)).trans yD)⟩
    · exact ⟨some c, _, run_endLoop (P := P) yR (by simp), hstop _ c p _ (Nat.le_refl _) hSp ((hIx c).putObj _ yI (by omega) yR (lr _ _)) ((World.putObj_heap_other (by omega)).trans yD)⟩


end Go.Proofs.YtfoadheepmgbfaaGreatDoor

/- Descend, walked. -/
namespace Go.Proofs.YtfoadheepmgbfaaGreatDoor
open Go.RowKit Go.Lib Go.Shelf
attribute [local go_sem] Oper.semAt_some



theorem desc_P (d : Nat) (hd : 1 ≤ d) (xb : Nat) (gd : Int) (bo : Option Addr) (cap : Nat) (B : Ins) (hgd : 1 ≤ gd ∧ gd ≤ 10) (hl : B.length ≤ 9223372036854775807) (T : Nat → Prop) (w : World) (hTw : ∀ k, w.heap.size ≤ k → ¬ T k) (hC : ∀ Y, KeptC T w Y → Ctx gd bo cap B xb Y) :
    SeqP Tryz.prog d 95 #[.pointer (some ⟨xb, 0, none⟩)] encS (KeptC T) (fun q => ∃ r, evs gd B = q ++ r) (fun q => q = evs gd B) (fun q => ∃ r, evs gd B = q ++ r) w := fun lp J Jx W hbe hJ _ hY h0 =>
  desc1_good d hd lp xb gd bo cap B hgd hl T w W hbe hTw hC J Jx hY hJ h0

set_option maxRecDepth 100000 in
theorem descent_any (gd : Int) (bo : Option Addr) (cap n : Nat) (w : World) : Calls Tryz.prog 85 #[.agg #[.int .i64 gd, .slice bo n cap]] w fun e w' => e = .returned (.func (.func 95) #[] #[.pointer (some ⟨w.heap.size, 0, none⟩)]) ∧ w' = w.alloc (.cells #[.int .i64 gd, .slice bo n cap] 24) := by
  go_enter Tryz.func85, Tryz.ntmps85
  go_wp2
  go_ret
  exact ⟨rfl, rfl⟩

/-- Numbers in new memory. -/
def NewN (N : Nat) (w : World) (v : Value) (L : List Int) : Prop := ∃ b c cur, v = .slice (some ⟨b, 0, none⟩) L.length c ∧ L.length ≤ c ∧ N ≤ b ∧ w.heap[b]? = some (.cells cur 2 (0, 0)) ∧ cur.toList.take L.length = L.map (Value.int .i64)

theorem NewN.nums {w : World} {b : Nat} {L : List Int} {cur : Array Value} (h4 : w.heap[b]? = some (.cells cur 2 (0, 0))) (h8 : cur.toList.take L.length = L.map (Value.int .i64)) : NumsC .i64 w (some ⟨b, 0, none⟩) L := fun i hi => by
  refine ⟨b, 0, rfl, ?_⟩
  have g1 : (cur.toList.take L.length)[i]? = (L.map (Value.int .i64))[i]? := by rw [h8]
  rw [List.getElem?_take_of_lt hi, List.getElem?_map, List.getElem?_eq_getElem hi] at g1
  rw [Nat.zero_add]
  exact blk_cells h4 (by simpa using g1)

theorem num_cells {w : World} {g o : Nat} {L : List Int} (h : NumsC .i64 w (some ⟨g, o, none⟩) L) : ∀ (j : Nat) (u : Value), (L.map (Value.int .i64))[j]? = some u → w.cell? ((⟨g, o, none⟩ : Addr).add j) = some u := fun j u hu => by
  rw [List.getElem?_map] at hu
  cases hj : L[j]? with
  | none => rw [hj] at hu; cases hu
  | some v =>
    rw [hj] at hu
    obtain ⟨hjl, rfl⟩ := List.getElem?_eq_some_iff.1 hj
    obtain ⟨g', o', e, hc⟩ := h j hjl
    simp only [Option.some.injEq, Addr.mk.injEq, and_true] at e
    obtain ⟨rfl, rfl⟩ := e
    rw [Addr.add_lit, hc]
    simpa using hu

theorem ints_one (L : List Int) : ∀ u ∈ L.map (Value.int .i64), u.oneCell' = true := fun u hu => by
  obtain ⟨x, _, rfl⟩ := List.mem_map.1 hu
  rfl
theorem parts_n : ∃ i, Tryz.prog.info? 2 = some i ∧ i.zero = some (Value.int .i64 0) ∧ i.size = 1 ∧ i.bytes = 8 := by
  have h : (Tryz.prog.info? 2).map (fun i => (i.zero, i.size, i.bytes)) = some (some (Value.int .i64 0), 1, 8) := by kernel_rfl
  cases hq : Tryz.prog.info? 2 with
  | none => rw [hq] at h; cases h
  | some i =>
    rw [hq] at h
    simp only [Option.map_some, Option.some.injEq, Prod.mk.injEq] at h
    exact ⟨i, rfl, h.1, h.2.1, h.2.2⟩

set_option maxRecDepth 100000 in
set_option maxHeartbeats 2000000 in
theorem nclone_any (ao : Option Addr) (cap : Nat) (L : List Int) (w : World) (h : NumsC .i64 w ao L) (hl : L.length ≤ 100000) (hne : 0 < L.length) :
    Calls Tryz.prog 45 #[.slice ao L.length cap] w fun e w' => ∃ v, e = .returned v ∧ NewN w.heap.size w' v L ∧ Old w w' := by
  have q22 : ∀ (w : World) (a : Option Addr) (n c n' c' : Nat), (binOp .eql 25 (.slice a n c) (.slice none n' c')).run Tryz.prog w = .ok (.bool a.isNone) w := fun w a n c n' c' => Lib.run_eql_slice_nil w _ _ a n c n' c' Tryz.underlying25
  obtain ⟨g, o, rfl, -⟩ := h 0 hne
  have o1 : Old w (w.alloc (.cells #[] 2)) := (Old.refl w).alloc _
  have hc' := num_cells (h.old o1)
  have ow0 : (w.alloc (.cells #[] 2)).ownsRow w.heap.size 2 1 (.slice (some ⟨w.heap.size, 0, none⟩) 0 0) ([] : List Value).length [] := ⟨rfl, Or.inr ⟨w.heap.size, 0, #[], rfl, Nat.le_refl _, heap_new w _, Nat.le_refl _, by unfold maxLen; omega, rfl, rfl⟩⟩
  have ko := hid o1
  have h1 := ints_one L
  obtain ⟨i0, hi0, hz0, hz1, hz2⟩ := parts_n
  clear o1 h
  go_enter Tryz.func45, Tryz.ntmps45
  go_wp2_with (at_builtin; refine wpList_append_own _ (by rfl) _ _ 25 (by rfl) w.heap.size 2 i0 _ 1 8 Tryz.underlying25 hi0 hz0 hz1 hz2 rfl (by omega) (.slice (some ⟨w.heap.size, 0, none⟩) 0 0) 0 [] (by rfl) ow0 ⟨g, o, none⟩ L.length cap (L.map (Value.int .i64)) (by rfl) (by simp) hc' h1 (by unfold maxLen; omega) (by omega) ko.out.size ?_)
  intro v2 w2 r2 g2 _
  have o2 : Hid (Old w w2) := by
    have f2 : Frm (fun q => q = w.heap.size) (w.alloc (.cells #[] 2)) w2 := Frm.grown (Frm.refl _ _) g2 (fun q hq => Or.inr (by simp [Value.ownBlock] at hq; exact hq.symm))
    exact Frm.trans ko.out f2 (fun i hi e => by omega)
  have r3 : w2.ownsRow w.heap.size 2 1 v2 L.length (L.map (Value.int .i64)) := by simpa using r2
  rcases r3.2 with ⟨-, e0⟩ | ⟨b, c, cur, rfl, h3, h4, h5, h6, h7, h8⟩
  · omega
  have kr : Hid (NewN w.heap.size w2 (.slice (some ⟨b, 0, none⟩) L.length c) L) := ⟨b, c, cur, rfl, by omega, h3, h4, by simpa using h8⟩
  clear r2 r3 g2 ow0 hc' h1 h4 h5 h6 h7 h8
  go_wp2_with fail
  go_ret
  exact ⟨_, rfl, kr.out, o2.out⟩
end Go.Proofs.YtfoadheepmgbfaaGreatDoor
