/- CallFair of wants that may be: walked. -/
import Derived.Test.YtdeakckdnkdalaaFairW
namespace Go.Proofs.Ytdeakckdnkdalaa
open Go.RowKit Go.Lib Go.Shelf
attribute [local go_sem] Oper.semAt_some


/-- Both lists of numbers copied, each behind a pointer of its own. -/
structure Ga (w4 w5 Y : World) (L M : List Wt) (x14 x15 : Nat) (vo : Option Addr) (ko : Nat) (uo : Option Addr) (lo : Nat) : Prop where
  b14 : Boxed Y x14 26 (.slice vo L.length ko)
  b15 : Boxed Y x15 26 (.slice uo M.length lo)
  r : NwI w5.heap.size Y (.slice vo L.length ko) vo ko (dl L.length (gotB (fls L M)))
  q : NwI w5.heap.size Y (.slice uo M.length lo) uo lo (dl M.length (gotS (fls L M)))
  old : Old w5 Y
  n : w5.heap.size ≤ x14 ∧ w5.heap.size ≤ x15 ∧ x14 ≠ x15
  na : ∀ ad, vo = some ad → ad.block ≠ x14 ∧ ad.block ≠ x15
  no : ∀ ad, uo = some ad → ad.block ≠ x14 ∧ ad.block ≠ x15
  nx : ∀ ad ae, vo = some ad → uo = some ae → ad.block ≠ ae.block

theorem FaI.frm {S : Nat → Prop} {w : World} {s cl bb sb N : Nat} {L M : List Wt} {p t lo hi : Int} {X Y : World} (h : FaI w s cl bb sb L M p t lo hi X) (f : Frm S X Y) (hS : ∀ j, S j → N ≤ j) (hN : s < N ∧ cl < N ∧ bb < N ∧ sb < N) : FaI w s cl bb sb L M p t lo hi Y :=
  ⟨blk_frm h.res f (fun e => by have := hS _ e; omega), blk_frm h.cal f (fun e => by have := hS _ e; omega), h.b.kept f (fun e => by have := hS _ e; omega), h.sl.kept f (fun e => by have := hS _ e; omega), Frm.trans h.old f (fun i hi e => by have := hS _ e; have := h.hs; omega), h.hs⟩
/-- What is left of both lists when k fills are told. -/
structure FG (w : World) (s cl bb sb N Z : Nat) (L M : List Wt) (p t lo hi : Int) (x14 x15 : Nat) (vo : Option Addr) (ko : Nat) (uo : Option Addr) (jo : Nat) (gb gs : Nat → Nat) (Y : World) : Prop where
  fa : FaI w s cl bb sb L M p t lo hi Y
  lt : s < N ∧ cl < N ∧ bb < N ∧ sb < N
  b14 : Boxed Y x14 26 (.slice vo L.length ko)
  b15 : Boxed Y x15 26 (.slice uo M.length jo)
  r : NwI N Y (.slice vo L.length ko) vo ko (dl L.length gb)
  q : NwI N Y (.slice uo M.length jo) uo jo (dl M.length gs)
  n : N ≤ x14 ∧ N ≤ x15 ∧ x14 ≠ x15 ∧ x14 < Z ∧ x15 < Z
  na : ∀ ad, vo = some ad → ad.block ≠ x14 ∧ ad.block ≠ x15 ∧ ad.block < Z
  no : ∀ ad, uo = some ad → ad.block ≠ x14 ∧ ad.block ≠ x15 ∧ ad.block < Z
  nx : ∀ ad ae, vo = some ad → uo = some ae → ad.block ≠ ae.block
  zn : N ≤ Z
theorem FG.frm {S : Nat → Prop} {w : World} {s cl bb sb N Z : Nat} {L M : List Wt} {p t lo hi : Int} {x14 x15 : Nat} {vo : Option Addr} {ko : Nat} {uo : Option Addr} {jo : Nat} {gb gs : Nat → Nat} {X Y : World} (h : FG w s cl bb sb N Z L M p t lo hi x14 x15 vo ko uo jo gb gs X) (f : Frm S X Y) (hS : ∀ j, S j → Z ≤ j) : FG w s cl bb sb N Z L M p t lo hi x14 x15 vo ko uo jo gb gs Y := by
  have hn := h.n
  have hz := h.zn
  exact ⟨h.fa.frm f (fun j e => Nat.le_trans hz (hS j e)) h.lt, h.lt, boxed_frm h.b14 f (fun e => by have := hS _ e; omega), boxed_frm h.b15 f (fun e => by have := hS _ e; omega), h.r.frm f (fun ad e e2 => by have := hS _ e2; have := h.na ad e; omega), h.q.frm f (fun ad e e2 => by have := hS _ e2; have := h.no ad e; omega), h.n, h.na, h.no, h.nx, h.zn⟩
theorem FG.drew {w : World} {s cl bb sb N Z : Nat} {L M : List Wt} {p t lo hi : Int} {x14 x15 : Nat} {vo : Option Addr} {ko : Nat} {uo : Option Addr} {jo : Nat} {gb gs : Nat → Nat} {X : World} (h : FG w s cl bb sb N Z L M p t lo hi x14 x15 vo ko uo jo gb gs X) : FG w s cl bb sb N Z L M p t lo hi x14 x15 vo ko uo jo gb gs X.drew := h.frm ((Old.refl X).drewN 1) (fun _ h => h.elim)
theorem FG.setB {w : World} {s cl bb sb N Z : Nat} {L M : List Wt} {p t lo hi : Int} {x14 x15 vb : Nat} {ko : Nat} {uo : Option Addr} {jo : Nat} {gb gs : Nat → Nat} {X : World} (h : FG w s cl bb sb N Z L M p t lo hi x14 x15 (some ⟨vb, 0, none⟩) ko uo jo gb gs X) (i v : Nat) : FG w s cl bb sb N Z L M p t lo hi x14 x15 (some ⟨vb, 0, none⟩) ko uo jo (upN gb i v) gs (X.setCell ⟨vb, i, none⟩ (.int .i64 (v : Int))) := by
  have f := frm_set X vb i (.int .i64 (v : Int))
  have a := h.na ⟨vb, 0, none⟩ rfl
  have n := h.r.n ⟨vb, 0, none⟩ rfl
  dsimp only at a n
  exact ⟨h.fa.frm f (fun j e => by omega) h.lt, h.lt, boxed_frm h.b14 f (by omega), boxed_frm h.b15 f (by omega), h.r.set rfl i v, h.q.frm f (fun ad e e2 => (h.nx ⟨vb, 0, none⟩ ad rfl e) e2.symm), h.n, h.na, h.no, h.nx, h.zn⟩
theorem FG.setS {w : World} {s cl bb sb N Z : Nat} {L M : List Wt} {p t lo hi : Int} {x14 x15 ub : Nat} {vo : Option Addr} {ko : Nat} {jo : Nat} {gb gs : Nat → Nat} {X : World} (h : FG w s cl bb sb N Z L M p t lo hi x14 x15 vo ko (some ⟨ub, 0, none⟩) jo gb gs X) (i v : Nat) : FG w s cl bb sb N Z L M p t lo hi x14 x15 vo ko (some ⟨ub, 0, none⟩) jo gb (upN gs i v) (X.setCell ⟨ub, i, none⟩ (.int .i64 (v : Int))) := by
  have f := frm_set X ub i (.int .i64 (v : Int))
  have a := h.no ⟨ub, 0, none⟩ rfl
  have n := h.q.n ⟨ub, 0, none⟩ rfl
  dsimp only at a n
  exact ⟨h.fa.frm f (fun j e => by omega) h.lt, h.lt, boxed_frm h.b14 f (by omega), boxed_frm h.b15 f (by omega), h.r.frm f (fun ad e e2 => (h.nx ad ⟨ub, 0, none⟩ e rfl) e2), h.q.set rfl i v, h.n, h.na, h.no, h.nx, h.zn⟩
/-- What is left. -/
def lfB (F : List Fl) (k : Nat) : Nat → Nat := fun i => gotB F i - gotB (F.take k) i
def lfS (F : List Fl) (k : Nat) : Nat → Nat := fun i => gotS F i - gotS (F.take k) i
theorem lfB_next {F : List Fl} {k : Nat} (h : k < F.length) : upN (lfB F k) F[k].b (lfB F k F[k].b - F[k].n) = lfB F (k + 1) := by
  funext j
  unfold upN lfB
  rw [List.take_succ_eq_append_getElem h, gotB_snoc]
  by_cases e : F[k].b = j
  · rw [if_pos e, if_pos e, e]; omega
  · rw [if_neg e, if_neg e, Nat.add_zero]
theorem lfS_next {F : List Fl} {k : Nat} (h : k < F.length) : upN (lfS F k) F[k].s (lfS F k F[k].s - F[k].n) = lfS F (k + 1) := by
  funext j
  unfold upN lfS
  rw [List.take_succ_eq_append_getElem h, gotS_snoc]
  by_cases e : F[k].s = j
  · rw [if_pos e, if_pos e, e]; omega
  · rw [if_neg e, if_neg e, Nat.add_zero]
theorem lf_ge {F : List Fl} {k : Nat} (h : k < F.length) : F[k].n ≤ lfB F k F[k].b ∧ F[k].n ≤ lfS F k F[k].s := by
  have a := got_mono (F := F) F[k].b (k + 1)
  have b := got_mono (F := F) F[k].s (k + 1)
  rw [List.take_succ_eq_append_getElem h] at a b
  rw [gotB_snoc, if_pos rfl] at a
  rw [gotS_snoc (i := F[k].s), if_pos rfl] at b
  unfold lfB lfS
  omega
theorem lfB_zero (F : List Fl) : lfB F 0 = gotB F := by funext i; unfold lfB; simp [gotB]
theorem lfS_zero (F : List Fl) : lfS F 0 = gotS F := by funext i; unfold lfS; simp [gotS]
theorem lfB_end (F : List Fl) : lfB F F.length = fun _ => 0 := by funext i; unfold lfB; rw [List.take_length]; omega
theorem lfS_end (F : List Fl) : lfS F F.length = fun _ => 0 := by funext i; unfold lfS; rw [List.take_length]; omega

set_option maxRecDepth 100000 in
set_option maxHeartbeats 16000000 in
theorem fair_good (ao bo : Option Addr) (ca cb : Nat) (L M : List Wt) (w : World) (hL : WC w ao L) (hM : WC w bo M) (hna : ao = none → ca = 0) (hnb : bo = none → cb = 0) (hgl : grB L = false) (hgm : grB M = false) (hc : chZ L M = 0) :
    Calls Try.prog 5 #[.slice ao L.length ca, .slice bo M.length cb] w fun e w' => e = .returned (.bool true) ∧ Old w w' := by
  obtain ⟨oL, oM⟩ := chZ_ok hc
  have hfL := oL.few
  have hfM := oM.few
  have kF := hid (fls_ok oL oM)
  have kFa := hid (fair_of oL oM)
  have kO : Hid (OkW L ∧ OkW M) := ⟨oL, oM⟩
  have oA : Old w (w.alloc (.cells #[.bool false] 4)) := (Old.refl w).alloc _
  have n0 := heap_new w (.cells #[.bool false] 4)
  have kK := hid (known_any (w.alloc (.cells #[.bool false] 4)))
  have kG := hid (fun w => great_any ao ca L w (by omega))
  have kH := hid (fun w => great_any bo cb M w (by omega))
  rw [hgl] at kG
  rw [hgm] at kH
  have kL := hid hL
  have kM := hid hM
  have kC := hid (fun w hL hM => clear_good ao bo ca cb L M w hL hM hc)
  have kfl : Hid (flA L M = L ∧ flB L M = M) := ⟨if_pos hc, if_pos hc⟩
  have kFi := hid (fun w hL hM => fills_any ao bo ca cb L M w hL hM hna hnb (by omega) (by omega))
  rw [kfl.out.1, kfl.out.2] at kFi
  have kN := hid num_any
  have koA := hid oA
  have hfn : ∀ (w : World) (f : Fn) (a b : Array Value), (binOp .eql 48 (.func f a b) .nilFunc).run Try.prog w = .ok (.bool false) w := fun w f a b => by kernel_rfl
  clear oA hL hM hgl hgm oL oM kfl hc hna hnb
  refine (callsIn_wide (n := 5)).1 ?_
  refine callsIn_of_wp_marks Try.func5 rfl trivial ?_ rfl
  simp only [Try.ntmps5, List.size_toArray, List.length_cons, List.length_nil, Nat.reduceAdd, Nat.reduceSub, Array.replicate_succ, Array.replicate_zero, List.push_toArray, List.append_toArray, List.nil_append, List.cons_append]
  gi_wp2_with fail
  generalize w.alloc (.cells #[.bool false] 4) = W1 at *
  obtain ⟨s, hs⟩ : ∃ s, w.heap.size = s := ⟨_, rfl⟩
  rw [hs] at n0
  simp only [hs]
  have khs := hid hs
  clear hs
  refine ⟨trivial, ?_⟩
  refine (callsIn_wide.2 kK.out).mono ?_
  rintro e w2 ⟨rfl, o2⟩
  have n0 := blk_frm n0 o2 (fun h => h)
  have ko2 := hid (koA.out.trans o2)
  clear kK o2 koA
  gi_wp2_with fail
  refine ⟨trivial, ?_⟩
  refine (callsIn_wide.2 (kG.out _)).mono ?_
  rintro e w' ⟨rfl, e3⟩
  rw [e3]
  clear e3
  gi_wp2_with fail
  refine ⟨trivial, ?_⟩
  refine (callsIn_wide.2 (kH.out _)).mono ?_
  rintro e w' ⟨rfl, e3⟩
  rw [e3]
  clear e3
  gi_wp2_with fail
  have kc := hid (kC.out w2 (kL.out.old ko2.out) (kM.out.old ko2.out))
  refine ⟨trivial, ?_⟩
  refine (callsIn_wide.2 kc.out).mono ?_
  rintro e w3 ⟨⟨bb, sb, rfl, hB, hS, -, -, -⟩, o3⟩
  rw [dl_len, dl_len]
  unfold calV
  obtain ⟨p, hp⟩ : ∃ p, priF L M (fls L M) = p := ⟨_, rfl⟩
  obtain ⟨lo, hlo⟩ : ∃ p, lowF L M (fls L M) = p := ⟨_, rfl⟩
  obtain ⟨hi, hhi⟩ : ∃ p, highF L M (fls L M) = p := ⟨_, rfl⟩
  obtain ⟨t, ht⟩ : ∃ p, totN (fls L M) = p := ⟨_, rfl⟩
  rw [hp, hlo, hhi, ht]
  have ht2 := tot_le kO.out.1 kF.out
  rw [ht] at ht2
  have hmid := kFa.out.mid
  have hrng := kFa.out.rng
  rw [hp, hlo, hhi] at hmid
  rw [hp] at hrng
  have kp := hid hp
  have kt := hid ht
  have oC : Old w3 (w3.alloc (.cells #[.int .i64 p, .int .i64 (t : Int), .int .i64 lo, .int .i64 hi, .slice (some ⟨bb, 0, none⟩) L.length L.length, .slice (some ⟨sb, 0, none⟩) M.length M.length] 28)) := (Old.refl w3).alloc _
  have kI : Hid (FaI w s w3.heap.size bb sb L M p t lo hi (w3.alloc (.cells #[.int .i64 p, .int .i64 (t : Int), .int .i64 lo, .int .i64 hi, .slice (some ⟨bb, 0, none⟩) L.length L.length, .slice (some ⟨sb, 0, none⟩) M.length M.length] 28))) := ⟨blk_frm (blk_frm n0 o3 (fun h => h)) oC (fun h => h), heap_new _ _, hB.kept oC (fun h => h), hS.kept oC (fun h => h), (ko2.out.trans o3).trans oC, khs.out⟩
  clear kc kC n0 ko2 o3 oC hB hS hp hlo hhi ht kG kH
  have c0 := blk_cells (i := 0) (v := .int .i64 p) kI.out.cal rfl
  have c2 := blk_cells (i := 2) (v := .int .i64 lo) kI.out.cal rfl
  have c3 := blk_cells (i := 3) (v := .int .i64 hi) kI.out.cal rfl
  have c4 := blk_cells (i := 4) (v := .slice (some ⟨bb, 0, none⟩) L.length L.length) kI.out.cal rfl
  have c5 := blk_cells (i := 5) (v := .slice (some ⟨sb, 0, none⟩) M.length M.length) kI.out.cal rfl
  have g1 : ¬ lo > p := by omega
  have g2 : ¬ p > hi := by omega
  gi_wp2_with fail
  refine ⟨trivial, ?_⟩
  refine (callsIn_wide.2 (kN.out _ _)).mono ?_
  rintro e w' ⟨rfl, e3⟩
  rw [e3]
  clear e3
  gi_wp2_with fail
  generalize w3.alloc (.cells #[.int .i64 p, .int .i64 (t : Int), .int .i64 lo, .int .i64 hi, .slice (some ⟨bb, 0, none⟩) L.length L.length, .slice (some ⟨sb, 0, none⟩) M.length M.length] 28) = W4 at *
  generalize w3.heap.size = cl at *
  clear c0 c2 c3 c4 c5 g1 g2
  gi_loopw [7, 9, 10] (fun t7 t9 _ wr => ∃ k z : Nat, (k ≤ L.length ∧ z ≤ 64 * k) ∧ t7 = .int .i64 (z : Int) ∧ t9 = .int .i64 (k : Int) ∧ Hid ((z : Int) = sumZ (fun i => (gotB (fls L M) i : Int)) k) ∧ Hid (FaI w s cl bb sb L M p t lo hi wr)) (fun _ t9 _ _ => L.length - (intOf t9).toNat)
  case atStart => exact ⟨0, 0, by omega, rfl, rfl, rfl, kI⟩
  case round =>
    clear kI
    obtain ⟨k, z, hkz, rfl, rfl, hz, kI⟩ := hrel
    by_cases hlt : k < L.length
    · have hlt' : (k : Int) < (L.length : Int) := by omega
      obtain ⟨ga, oa, rfl, d1, d2⟩ := kL.out.old kI.out.old k hlt
      rw [← cW_at hlt] at d1
      rw [kO.out.1.cnt hlt] at d2
      have ok := kO.out.1.ok k hlt
      have nk := kF.out.gb k hlt
      have b1 := kFa.out.b1 k hlt
      have b2 := kFa.out.b2 k hlt
      have c0 := blk_cells (i := 0) (v := .int .i64 p) kI.out.cal rfl
      have c1 := blk_cells (i := 1) (v := .int .i64 (t : Int)) kI.out.cal rfl
      have c4 := blk_cells (i := 4) (v := .slice (some ⟨bb, 0, none⟩) L.length L.length) kI.out.cal rfl
      have q0 := (kI.out.b.cell (i := k) (by rw [dl_len]; exact hlt)).1
      rw [dl_at hlt] at q0
      have hst : Hid (sumZ (fun i => (gotB (fls L M) i : Int)) (k + 1) = sumZ (fun i => (gotB (fls L M) i : Int)) k + (gotB (fls L M) k : Int)) := rfl
      rw [← hz.out] at hst
      rw [kp.out] at b1 b2
      rw [kt.out] at b2
      obtain ⟨n, hn⟩ : ∃ n, gotB (fls L M) k = n := ⟨_, rfl⟩
      obtain ⟨cx, hcx⟩ : ∃ cx, cW L k = cx := ⟨_, rfl⟩
      obtain ⟨kx, hkx⟩ : ∃ kx, kW L k = kx := ⟨_, rfl⟩
      rw [hn] at q0 nk b1 b2 hst
      rw [hcx] at d1 ok b1 b2
      rw [hkx] at d2 ok nk b2
      have kb := hid (And.intro b1 b2)
      clear hn hcx hkx b1 b2 hz
      gi_wp2_with fail
      refine wpIn_wide.2 ?_
      go_cut [143] from 95 to 143 (fun c wx => c = .bool false ∧ Hid (Old wr wx))
      case first =>
        as_aux_lemma =>
          obtain ⟨b1, b2⟩ := kb.out
          clear kb kFi kN kF kFa kO kL kM hfn kI hst hmid hrng khs kp kt hfL hfM
          have f1 : decide ((n : Int) < 0) = false := by rw [decide_eq_false_iff_not]; omega
          have f2 : decide ((n : Int) > (kx : Int)) = false := by rw [decide_eq_false_iff_not]; omega
          have f2' : decide ((kx : Int) < (n : Int)) = false := f2
          have f2'' : decide (kx < n) = false := by rw [decide_eq_false_iff_not]; omega
          by_cases hn0 : n = 0
          · have f3 : decide ((n : Int) > 0) = false := by rw [decide_eq_false_iff_not]; omega
            have f3' : decide ((0 : Int) < (n : Int)) = false := f3
            have f3'' : decide (0 < n) = false := by rw [decide_eq_false_iff_not]; omega
            by_cases ht0 : t = 0
            · have hx := 0
              have f4 : decide ((t : Int) > 0) = false := by rw [decide_eq_false_iff_not]; omega
              have f4' : decide ((0 : Int) < (t : Int)) = false := f4
              have f4'' : decide (0 < t) = false := by rw [decide_eq_false_iff_not]; omega
              clear hn0 ht0 b1 b2 hx
              go_quiet (fail)
              gi_wp2_with fail
              go_meet
              case rel => exact ⟨rfl, hid ((Old.refl wr).drewN _)⟩
            · have f5 : decide (cx > p) = false := by
                rw [decide_eq_false_iff_not]
                intro h
                have := b2 (by omega) h
                omega
              have f5' : decide (p < cx) = false := f5
              have f4 : decide ((t : Int) > 0) = true := by rw [decide_eq_true_iff]; omega
              have f4' : decide ((0 : Int) < (t : Int)) = true := f4
              have f4'' : decide (0 < t) = true := by rw [decide_eq_true_iff]; omega
              clear hn0 ht0 b1 b2
              go_quiet (fail)
              gi_wp2_with fail
              go_meet
              case rel => exact ⟨rfl, hid ((Old.refl wr).drewN _)⟩
          · have f3 : decide ((n : Int) > 0) = true := by rw [decide_eq_true_iff]; omega
            have f3' : decide ((0 : Int) < (n : Int)) = true := f3
            have f3'' : decide (0 < n) = true := by rw [decide_eq_true_iff]; omega
            have f6 : decide (cx < p) = false := by
              rw [decide_eq_false_iff_not]
              have := b1 (by omega)
              omega
            have f6' : decide (p > cx) = false := f6
            by_cases ht0 : t = 0
            · have hx := 0
              have f4 : decide ((t : Int) > 0) = false := by rw [decide_eq_false_iff_not]; omega
              have f4' : decide ((0 : Int) < (t : Int)) = false := f4
              have f4'' : decide (0 < t) = false := by rw [decide_eq_false_iff_not]; omega
              clear hn0 ht0 b1 b2 hx
              go_quiet (fail)
              gi_wp2_with fail
              go_meet
              case rel => exact ⟨rfl, hid ((Old.refl wr).drewN _)⟩
            · by_cases h5 : cx > p
              · have f5 : decide (cx > p) = true := decide_eq_true h5
                have f5' : decide (p < cx) = true := f5
                have f7 := b2 (by omega) h5
                subst f7
                have f8 : ((n : Int) != (n : Int)) = false := by simp
                have f8' : (n != n) = false := by simp
                have f4 : decide ((t : Int) > 0) = true := by rw [decide_eq_true_iff]; omega
                have f4' : decide ((0 : Int) < (t : Int)) = true := f4
                have f4'' : decide (0 < t) = true := by rw [decide_eq_true_iff]; omega
                clear hn0 ht0 b1 b2 h5
                go_quiet (fail)
                gi_wp2_with fail
                go_meet
                case rel => exact ⟨rfl, hid ((Old.refl wr).drewN _)⟩
              · have f5 : decide (cx > p) = false := decide_eq_false h5
                have f5' : decide (p < cx) = false := f5
                have f4 : decide ((t : Int) > 0) = true := by rw [decide_eq_true_iff]; omega
                have f4' : decide ((0 : Int) < (t : Int)) = true := f4
                have f4'' : decide (0 < t) = true := by rw [decide_eq_true_iff]; omega
                clear hn0 ht0 b1 b2 h5
                go_quiet (fail)
                gi_wp2_with fail
                go_meet
                case rel => exact ⟨rfl, hid ((Old.refl wr).drewN _)⟩
      case rest =>
        obtain ⟨rfl, hw⟩ := hcut
        have kI2 := hid (kI.out.olds hw.out)
        clear kI d1 d2 c0 c1 c4 q0
        gi_wp2_with fail
        go_roundw
        case rel => exact ⟨k + 1, z + n, by omega, by go_num, by go_num, hid (by show _ = _; rw [hst.out]; omega), kI2⟩
        case measure => simp [intOf]; omega
    · obtain rfl : k = L.length := by omega
      have hlt' : ¬ (L.length : Int) < (L.length : Int) := by omega
      have kz1 : Hid (z = t) := by
        show _ = _
        have h1 := hz.out
        rw [sum_tot_b (fun f hf => (kF.out.at_ f hf).1), kt.out] at h1
        omega
      clear hz
      gi_wp2_with fail
      obtain rfl : t = z := kz1.out.symm
      clear kz1 hkz
      gi_loopw [8, 11, 12] (fun t8 t11 _ wr => ∃ k z : Nat, (k ≤ M.length ∧ z ≤ 64 * k) ∧ t8 = .int .i64 (z : Int) ∧ t11 = .int .i64 (k : Int) ∧ Hid ((z : Int) = sumZ (fun i => (gotS (fls L M) i : Int)) k) ∧ Hid (FaI w s cl bb sb L M p t lo hi wr)) (fun _ t11 _ _ => M.length - (intOf t11).toNat)
      case atStart => exact ⟨0, 0, by omega, rfl, rfl, rfl, kI⟩
      case round =>
        clear kI
        obtain ⟨k, z, hkz, rfl, rfl, hz, kI⟩ := hrel
        by_cases hlt : k < M.length
        · have hlt' : (k : Int) < (M.length : Int) := by omega
          obtain ⟨ga, oa, rfl, d1, d2⟩ := kM.out.old kI.out.old k hlt
          rw [← cW_at hlt] at d1
          rw [kO.out.2.cnt hlt] at d2
          have ok := kO.out.2.ok k hlt
          have nk := kF.out.gs k hlt
          have b1 := kFa.out.s1 k hlt
          have b2 := kFa.out.s2 k hlt
          have c0 := blk_cells (i := 0) (v := .int .i64 p) kI.out.cal rfl
          have c1 := blk_cells (i := 1) (v := .int .i64 (t : Int)) kI.out.cal rfl
          have c4 := blk_cells (i := 5) (v := .slice (some ⟨sb, 0, none⟩) M.length M.length) kI.out.cal rfl
          have q0 := (kI.out.sl.cell (i := k) (by rw [dl_len]; exact hlt)).1
          rw [dl_at hlt] at q0
          have hst : Hid (sumZ (fun i => (gotS (fls L M) i : Int)) (k + 1) = sumZ (fun i => (gotS (fls L M) i : Int)) k + (gotS (fls L M) k : Int)) := rfl
          rw [← hz.out] at hst
          rw [kp.out] at b1 b2
          rw [kt.out] at b2
          obtain ⟨n, hn⟩ : ∃ n, gotS (fls L M) k = n := ⟨_, rfl⟩
          obtain ⟨cx, hcx⟩ : ∃ cx, cW M k = cx := ⟨_, rfl⟩
          obtain ⟨kx, hkx⟩ : ∃ kx, kW M k = kx := ⟨_, rfl⟩
          rw [hn] at q0 nk b1 b2 hst
          rw [hcx] at d1 ok b1 b2
          rw [hkx] at d2 ok nk b2
          have kb := hid (And.intro b1 b2)
          clear hn hcx hkx b1 b2 hz
          gi_wp2_with fail
          refine wpIn_wide.2 ?_
          go_cut [206] from 158 to 206 (fun c wx => c = .bool false ∧ Hid (Old wr wx))
          case first =>
            as_aux_lemma =>
              obtain ⟨b1, b2⟩ := kb.out
              clear kb kFi kN kF kFa kO kM hfn kI hst hmid hrng khs kp kt hfL hfM
              have f1 : decide ((n : Int) < 0) = false := by rw [decide_eq_false_iff_not]; omega
              have f2 : decide ((n : Int) > (kx : Int)) = false := by rw [decide_eq_false_iff_not]; omega
              have f2' : decide ((kx : Int) < (n : Int)) = false := f2
              have f2'' : decide (kx < n) = false := by rw [decide_eq_false_iff_not]; omega
              by_cases hn0 : n = 0
              · have f3 : decide ((n : Int) > 0) = false := by rw [decide_eq_false_iff_not]; omega
                have f3' : decide ((0 : Int) < (n : Int)) = false := f3
                have f3'' : decide (0 < n) = false := by rw [decide_eq_false_iff_not]; omega
                by_cases ht0 : t = 0
                · have hx := 0
                  have f4 : decide ((t : Int) > 0) = false := by rw [decide_eq_false_iff_not]; omega
                  have f4' : decide ((0 : Int) < (t : Int)) = false := f4
                  have f4'' : decide (0 < t) = false := by rw [decide_eq_false_iff_not]; omega
                  clear hn0 ht0 b1 b2 hx
                  go_quiet (fail)
                  gi_wp2_with fail
                  go_meet
                  case rel => exact ⟨rfl, hid ((Old.refl wr).drewN _)⟩
                · have f5 : decide (cx < p) = false := by
                    rw [decide_eq_false_iff_not]
                    intro h
                    have := b2 (by omega) h
                    omega
                  have f5' : decide (p > cx) = false := f5
                  have f4 : decide ((t : Int) > 0) = true := by rw [decide_eq_true_iff]; omega
                  have f4' : decide ((0 : Int) < (t : Int)) = true := f4
                  have f4'' : decide (0 < t) = true := by rw [decide_eq_true_iff]; omega
                  clear hn0 ht0 b1 b2
                  go_quiet (fail)
                  gi_wp2_with fail
                  go_meet
                  case rel => exact ⟨rfl, hid ((Old.refl wr).drewN _)⟩
              · have f3 : decide ((n : Int) > 0) = true := by rw [decide_eq_true_iff]; omega
                have f3' : decide ((0 : Int) < (n : Int)) = true := f3
                have f3'' : decide (0 < n) = true := by rw [decide_eq_true_iff]; omega
                have f6 : decide (cx > p) = false := by
                  rw [decide_eq_false_iff_not]
                  have := b1 (by omega)
                  omega
                have f6' : decide (p < cx) = false := f6
                by_cases ht0 : t = 0
                · have hx := 0
                  have f4 : decide ((t : Int) > 0) = false := by rw [decide_eq_false_iff_not]; omega
                  have f4' : decide ((0 : Int) < (t : Int)) = false := f4
                  have f4'' : decide (0 < t) = false := by rw [decide_eq_false_iff_not]; omega
                  clear hn0 ht0 b1 b2 hx
                  go_quiet (fail)
                  gi_wp2_with fail
                  go_meet
                  case rel => exact ⟨rfl, hid ((Old.refl wr).drewN _)⟩
                · by_cases h5 : cx < p
                  · have f5 : decide (cx < p) = true := decide_eq_true h5
                    have f5' : decide (p > cx) = true := f5
                    have f7 := b2 (by omega) h5
                    subst f7
                    have f8 : ((n : Int) != (n : Int)) = false := by simp
                    have f8' : (n != n) = false := by simp
                    have f4 : decide ((t : Int) > 0) = true := by rw [decide_eq_true_iff]; omega
                    have f4' : decide ((0 : Int) < (t : Int)) = true := f4
                    have f4'' : decide (0 < t) = true := by rw [decide_eq_true_iff]; omega
                    clear hn0 ht0 b1 b2 h5
                    go_quiet (fail)
                    gi_wp2_with fail
                    go_meet
                    case rel => exact ⟨rfl, hid ((Old.refl wr).drewN _)⟩
                  · have f5 : decide (cx < p) = false := decide_eq_false h5
                    have f5' : decide (p > cx) = false := f5
                    have f4 : decide ((t : Int) > 0) = true := by rw [decide_eq_true_iff]; omega
                    have f4' : decide ((0 : Int) < (t : Int)) = true := f4
                    have f4'' : decide (0 < t) = true := by rw [decide_eq_true_iff]; omega
                    clear hn0 ht0 b1 b2 h5
                    go_quiet (fail)
                    gi_wp2_with fail
                    go_meet
                    case rel => exact ⟨rfl, hid ((Old.refl wr).drewN _)⟩
          case rest =>
            obtain ⟨rfl, hw⟩ := hcut
            have kI2 := hid (kI.out.olds hw.out)
            clear kI d1 d2 c0 c1 c4 q0
            gi_wp2_with fail
            go_roundw
            case rel => exact ⟨k + 1, z + n, by omega, by go_num, by go_num, hid (by show _ = _; rw [hst.out]; omega), kI2⟩
            case measure => simp [intOf]; omega
        · obtain rfl : k = M.length := by omega
          have hlt' : ¬ (M.length : Int) < (M.length : Int) := by omega
          have kz2 : Hid (z = t) := by
            show _ = _
            have h1 := hz.out
            rw [sum_tot_s (fun f hf => (kF.out.at_ f hf).2.1), kt.out] at h1
            omega
          clear hz
          have kf := hid (kFi.out wr (kL.out.old kI.out.old) (kM.out.old kI.out.old))
          unfold flsV at kf
          gi_wp2_with fail
          obtain rfl : t = z := kz2.out.symm
          clear kz2 hkz kFi
          refine ⟨trivial, ?_⟩
          refine (callsIn_wide.2 kf.out).mono ?_
          rintro e w5 ⟨b5, b6, b2, b3, rb, rs, a2, d2, e5, e6, rfl, hF, o5⟩
          have kI5 := hid (kI.out.olds o5)
          have kFl := hid hF
          have hsz5 := hid (show wr.heap.size ≤ w5.heap.size from o5.size)
          clear kf kI hF o5
          have c4 := blk_cells (i := 4) (v := .slice (some ⟨bb, 0, none⟩) L.length L.length) kI5.out.cal rfl
          have c5 := blk_cells (i := 5) (v := .slice (some ⟨sb, 0, none⟩) M.length M.length) kI5.out.cal rfl
          gi_wp2_with fail
          refine wpIn_wide.2 ?_
          go_cut [14, 15] from 215 to 220 (fun t14 t15 wx => ∃ x14 x15 vo ko uo lo' : _, t14 = .pointer (some ⟨x14, 0, none⟩) ∧ t15 = .pointer (some ⟨x15, 0, none⟩) ∧ Hid (Ga wr w5 wx L M x14 x15 vo ko uo lo'))
          case first =>
            as_aux_lemma =>
              refine wp_region_noPanic ?_
              have hOb : Hid (∀ X, Old w5 X → NumsC .i64 X (some ⟨bb, 0, none⟩) (dl L.length (gotB (fls L M)))) := fun X o => kI5.out.b.nums.old o
              have hOs : Hid (∀ X, Old w5 X → NumsC .i64 X (some ⟨sb, 0, none⟩) (dl M.length (gotS (fls L M)))) := fun X o => kI5.out.sl.nums.old o
              refine wp_region_held_drew (S := fun W => Old w5 W ∧ W.cell? ⟨cl, 4, none⟩ = some (.slice (some ⟨bb, 0, none⟩) L.length L.length) ∧ W.cell? ⟨cl, 5, none⟩ = some (.slice (some ⟨sb, 0, none⟩) M.length M.length)) (by kernel_rfl) ⟨(Old.refl w5).drewN 1, c4, c5⟩ (fun hHeld => ?_)
              have hsz : Hid (w5.heap.size ≤ w5.drew.heap.size) := Nat.le_refl _
              have hcl5 : cl < w5.heap.size := World.block_lt_of_cell? w5 _ c4
              clear kF kFa kO kL kM kN hfn kI5 kFl hsz5 c4 c5 hmid hrng khs kp kt ht2
              generalize w5.drew = X0 at *
              refine' wpAnyH_take (i := 0) rfl (by kernel_rfl) (by kernel_rfl) (by kernel_rfl) (fun _ _ _ h => h) (Or.inl ⟨by rfl, ?_⟩) hHeld ?_
              rotate_left
              · intro W hSw
                obtain ⟨-, r2, r3⟩ := hSw
                simp only [List.getElem_toArray, List.getElem_cons_zero]
                go_simp
                all_goals with_reducible rfl
              simp only [List.getElem_toArray, List.getElem_cons_zero, Act.put, List.setIfInBounds_toArray, List.set_cons_zero, List.set_cons_succ]
              refine' wpAnyH_take (i := 1) rfl (by kernel_rfl) (by kernel_rfl) (by kernel_rfl) (fun _ _ _ h => h) (Or.inl ⟨by rfl, ?_⟩) hHeld ?_
              rotate_left
              · intro W hSw
                obtain ⟨-, r2, r3⟩ := hSw
                simp only [List.getElem_toArray, List.getElem_cons_zero, List.getElem_cons_succ]
                go_simp
                all_goals with_reducible rfl
              simp only [List.getElem_toArray, List.getElem_cons_zero, List.getElem_cons_succ, Act.put, List.setIfInBounds_toArray, List.set_cons_zero, List.set_cons_succ]
              refine' wpAnyH_take (i := 3) rfl (by kernel_rfl) (by kernel_rfl) (by kernel_rfl) (fun _ _ _ h => h) (Or.inl ⟨by rfl, ?_⟩) hHeld ?_
              rotate_left
              · intro W hSw
                obtain ⟨-, r2, r3⟩ := hSw
                simp only [List.getElem_toArray, List.getElem_cons_zero, List.getElem_cons_succ]
                go_simp
                all_goals with_reducible rfl
              simp only [List.getElem_toArray, List.getElem_cons_zero, List.getElem_cons_succ, Act.put, List.setIfInBounds_toArray, List.set_cons_zero, List.set_cons_succ]
              refine' wpAnyH_take (i := 4) rfl (by kernel_rfl) (by kernel_rfl) (by kernel_rfl) (fun _ _ _ h => h) (Or.inl ⟨by rfl, ?_⟩) hHeld ?_
              rotate_left
              · intro W hSw
                obtain ⟨-, r2, r3⟩ := hSw
                simp only [List.getElem_toArray, List.getElem_cons_zero, List.getElem_cons_succ]
                go_simp
                all_goals with_reducible rfl
              simp only [List.getElem_toArray, List.getElem_cons_zero, List.getElem_cons_succ, Act.put, List.setIfInBounds_toArray, List.set_cons_zero, List.set_cons_succ]
              refine wpAnyH_ready (rs := [2, 6, 7]) (by kernel_rfl) (by simp) ?_
              refine AllReadyH.cons (o := _) rfl (fun K hK => ?_) (AllReadyH.cons (o := _) rfl (fun K hK => ?_) (AllReadyH.cons (o := _) rfl (fun K hK => ?_) AllReadyH.nil))
              · refine step_appI X0 (by rfl) (.const (.slice none 0 0)) (.tmp 216) (by rfl) ⟨bb, 0, none⟩ L.length L.length (dl L.length (gotB (fls L M))) (by rfl) (by rfl) (dl_len _ _) (hOb.out X0 hHeld.1) (by rw [dl_len]; omega) ?_
                rintro v2 X1 ⟨vo, ko, hv2⟩ oN
                have hvv := hv2.v
                rw [dl_len] at hvv
                subst hvv
                try have dA14 : Hid (∀ ad, vo = some ad → ad.block ≠ x14) := fun ad e => by have := (hv2.n ad e).1; have := Boxed.lt hP.out; omega
                try have dA15 : Hid (∀ ad, vo = some ad → ad.block ≠ x15) := fun ad e => by have := (hv2.n ad e).1; have := Boxed.lt hT.out; omega
                refine hK.out _ _ ⟨hHeld.1.trans oN, oN.cell hHeld.2.1, oN.cell hHeld.2.2⟩ (fun hHeld2 => ?_)
                clear hHeld hK
                have hHeld := hHeld2
                clear hHeld2
                try have hR := hid (hR.out.frm oN (fun _ _ h => h))
                try have hQ := hid (hQ.out.frm oN (fun _ _ h => h))
                try have hP := hid (boxed_olds hP.out oN)
                try have hT := hid (boxed_olds hT.out oN)
                have hR : Hid (NwI w5.heap.size X1 (.slice vo L.length ko) vo ko (dl L.length (gotB (fls L M)))) := ⟨hv2.v, hv2.c, fun ad e => ⟨Nat.le_trans hsz.out (hv2.n ad e).1, (hv2.n ad e).2⟩⟩
                have hsz := hid (Nat.le_trans hsz.out oN.size)
                clear hv2 oN
                try simp only [Act.put]
                refine wpAnyH_ready (rs := [5, 6, 7]) (by kernel_rfl) (by simp) ?_
                refine AllReadyH.cons (o := _) rfl (fun K hK => ?_) (AllReadyH.cons (o := _) rfl (fun K hK => ?_) (AllReadyH.cons (o := _) rfl (fun K hK => ?_) AllReadyH.nil))
                · refine step_appI X1 (by rfl) (.const (.slice none 0 0)) (.tmp 219) (by rfl) ⟨sb, 0, none⟩ M.length M.length (dl M.length (gotS (fls L M))) (by rfl) (by rfl) (dl_len _ _) (hOs.out X1 hHeld.1) (by rw [dl_len]; omega) ?_
                  rintro v5 X2 ⟨uo, jo, hv2⟩ oN
                  have hvv := hv2.v
                  rw [dl_len] at hvv
                  subst hvv
                  have dVU : Hid (∀ ad ae, vo = some ad → uo = some ae → ad.block ≠ ae.block) := fun ad ae e e2 => by have := (hv2.n ae e2).1; have := (hR.out.n ad e).2; omega
                  try have dU14 : Hid (∀ ad, uo = some ad → ad.block ≠ x14) := fun ad e => by have := (hv2.n ad e).1; have := Boxed.lt hP.out; omega
                  try have dU15 : Hid (∀ ad, uo = some ad → ad.block ≠ x15) := fun ad e => by have := (hv2.n ad e).1; have := Boxed.lt hT.out; omega
                  refine hK.out _ _ ⟨hHeld.1.trans oN, oN.cell hHeld.2.1, oN.cell hHeld.2.2⟩ (fun hHeld2 => ?_)
                  clear hHeld hK
                  have hHeld := hHeld2
                  clear hHeld2
                  try have hR := hid (hR.out.frm oN (fun _ _ h => h))
                  try have hQ := hid (hQ.out.frm oN (fun _ _ h => h))
                  try have hP := hid (boxed_olds hP.out oN)
                  try have hT := hid (boxed_olds hT.out oN)
                  have hQ : Hid (NwI w5.heap.size X2 (.slice uo M.length jo) uo jo (dl M.length (gotS (fls L M)))) := ⟨hv2.v, hv2.c, fun ad e => ⟨Nat.le_trans hsz.out (hv2.n ad e).1, (hv2.n ad e).2⟩⟩
                  have hsz := hid (Nat.le_trans hsz.out oN.size)
                  clear hv2 oN
                  try simp only [Act.put]
                  refine wpAnyH_ready (rs := [6, 7]) (by kernel_rfl) (by simp) ?_
                  refine AllReadyH.cons (o := _) rfl (fun K hK => ?_) (AllReadyH.cons (o := _) rfl (fun K hK => ?_) AllReadyH.nil)
                  · simp only [List.getElem_toArray, List.getElem_cons_zero, List.getElem_cons_succ]
                    go_simp
                    obtain ⟨X3, hnx⟩ : ∃ Z, X2.alloc (.cells #[.slice none 0 0] 26) = Z := ⟨_, rfl⟩
                    have oN : Old X2 X3 := by rw [← hnx]; exact (Old.refl X2).alloc _
                    have hP0 := Boxed.new X2 26 (.slice none 0 0)
                    rw [hnx] at hP0 ⊢
                    obtain ⟨x14, hx14⟩ : ∃ x, X2.heap.size = x := ⟨_, rfl⟩
                    rw [hx14] at hP0 ⊢
                    try have dA14 : Hid (∀ ad, vo = some ad → ad.block ≠ x14) := fun ad e => by have := (hR.out.n ad e).2; omega
                    try have dU14 : Hid (∀ ad, uo = some ad → ad.block ≠ x14) := fun ad e => by have := (hQ.out.n ad e).2; omega
                    try have dX : Hid (x14 ≠ x15) := fun e => by have := Boxed.lt hT.out; omega
                    have n14 : Hid (w5.heap.size ≤ x14) := by show _ ≤ _; have := hsz.out; omega
                    refine hK.out _ _ ⟨hHeld.1.trans oN, oN.cell hHeld.2.1, oN.cell hHeld.2.2⟩ (fun hHeld2 => ?_)
                    clear hHeld hK
                    have hHeld := hHeld2
                    clear hHeld2
                    try have hR := hid (hR.out.frm oN (fun _ _ h => h))
                    try have hQ := hid (hQ.out.frm oN (fun _ _ h => h))
                    try have hP := hid (boxed_olds hP.out oN)
                    try have hT := hid (boxed_olds hT.out oN)
                    have hP := hid hP0
                    have hsz := hid (Nat.le_trans hsz.out oN.size)
                    clear hP0 oN hx14 hnx
                    try simp only [Act.put]
                    refine wpAnyH_ready (rs := [7]) (by kernel_rfl) (by simp) ?_
                    refine AllReadyH.cons (o := _) rfl (fun K hK => ?_) AllReadyH.nil
                    · simp only [List.getElem_toArray, List.getElem_cons_zero, List.getElem_cons_succ]
                      go_simp
                      obtain ⟨X4, hnx⟩ : ∃ Z, X3.alloc (.cells #[.slice none 0 0] 26) = Z := ⟨_, rfl⟩
                      have oN : Old X3 X4 := by rw [← hnx]; exact (Old.refl X3).alloc _
                      have hP0 := Boxed.new X3 26 (.slice none 0 0)
                      rw [hnx] at hP0 ⊢
                      obtain ⟨x15, hx15⟩ : ∃ x, X3.heap.size = x := ⟨_, rfl⟩
                      rw [hx15] at hP0 ⊢
                      try have dA15 : Hid (∀ ad, vo = some ad → ad.block ≠ x15) := fun ad e => by have := (hR.out.n ad e).2; omega
                      try have dU15 : Hid (∀ ad, uo = some ad → ad.block ≠ x15) := fun ad e => by have := (hQ.out.n ad e).2; omega
                      try have dX : Hid (x14 ≠ x15) := fun e => by have := Boxed.lt hP.out; omega
                      have n15 : Hid (w5.heap.size ≤ x15) := by show _ ≤ _; have := hsz.out; omega
                      refine hK.out _ _ ⟨hHeld.1.trans oN, oN.cell hHeld.2.1, oN.cell hHeld.2.2⟩ (fun hHeld2 => ?_)
                      clear hHeld hK
                      have hHeld := hHeld2
                      clear hHeld2
                      try have hR := hid (hR.out.frm oN (fun _ _ h => h))
                      try have hQ := hid (hQ.out.frm oN (fun _ _ h => h))
                      try have hP := hid (boxed_olds hP.out oN)
                      try have hT := hid (boxed_olds hT.out oN)
                      have hT := hid hP0
                      have hsz := hid (Nat.le_trans hsz.out oN.size)
                      clear hP0 oN hx15 hnx
                      try simp only [Act.put]
                      try simp only [List.setIfInBounds_toArray]
                      clear hOb hOs hsz
                      have p0 := hP.out.cell
                      have pf := hP.out.frozen
                      have f1 := frm_set X4 x14 0 (.slice vo L.length ko)
                      have p1 := frm_cell f1 hT.out.cell (fun e => dX.out e.symm)
                      have pg := frm_frozen f1 (World.block_lt_of_cell? X4 _ hT.out.cell) hT.out.frozen (fun e => dX.out e.symm)
                      have f2 := frm_set (X4.setCell ⟨x14, 0, none⟩ (.slice vo L.length ko)) x15 0 (.slice uo M.length jo)
                      have kG : Hid (Ga wr w5 ((X4.setCell ⟨x14, 0, none⟩ (.slice vo L.length ko)).setCell ⟨x15, 0, none⟩ (.slice uo M.length jo)) L M x14 x15 vo ko uo jo) :=
                        ⟨boxed_frm (Boxed.set _ hP.out) f2 dX.out, Boxed.set _ (boxed_frm hT.out f1 (fun e => dX.out e.symm)), (hR.out.frm f1 dA14.out).frm f2 dA15.out, (hQ.out.frm f1 dU14.out).frm f2 dU15.out, Frm.trans (Frm.trans hHeld.1 f1 (fun i hi e => by have := n14.out; omega)) f2 (fun i hi e => by have := n15.out; omega), ⟨n14.out, n15.out, dX.out⟩, fun ad e => ⟨dA14.out ad e, dA15.out ad e⟩, fun ad e => ⟨dU14.out ad e, dU15.out ad e⟩, dVU.out⟩
                      have kS1 : Hid (Old w5 (X4.setCell ⟨x14, 0, none⟩ (.slice vo L.length ko)) ∧ _ ∧ _) := ⟨Frm.trans hHeld.1 f1 (fun i hi e => by have := n14.out; omega), frm_cell f1 hHeld.2.1 (by have := n14.out; dsimp only; omega), frm_cell f1 hHeld.2.2 (by have := n14.out; dsimp only; omega)⟩
                      have kS2 : Hid (Old w5 ((X4.setCell ⟨x14, 0, none⟩ (.slice vo L.length ko)).setCell ⟨x15, 0, none⟩ (.slice uo M.length jo)) ∧ _ ∧ _) := ⟨Frm.trans kS1.out.1 f2 (fun i hi e => by have := n15.out; omega), frm_cell f2 kS1.out.2.1 (by have := n15.out; dsimp only; omega), frm_cell f2 kS1.out.2.2 (by have := n15.out; dsimp only; omega)⟩
                      clear f1 f2 hP hT hR hQ dA14 dA15 dU14 dU15 dX dVU n14 n15
                      refine wpAnyH_ready (rs := [8]) (by kernel_rfl) (by simp) ?_
                      refine AllReadyH.cons (o := _) rfl (fun K hK => ?_) AllReadyH.nil
                      simp only [List.getElem_toArray, List.getElem_cons_zero, List.getElem_cons_succ]
                      go_simp
                      refine hK.out _ _ (kS1.out) (fun hHeld2 => ?_)
                      clear hHeld hK
                      have hHeld := hHeld2
                      clear hHeld2
                      try simp only [Act.put, List.setIfInBounds_toArray, List.set_cons_zero, List.set_cons_succ]
                      refine wpAnyH_ready (rs := [9]) (by kernel_rfl) (by simp) ?_
                      refine AllReadyH.cons (o := _) rfl (fun K hK => ?_) AllReadyH.nil
                      simp only [List.getElem_toArray, List.getElem_cons_zero, List.getElem_cons_succ]
                      go_simp
                      refine hK.out _ _ (kS2.out) (fun hHeld2 => ?_)
                      clear hHeld hK
                      have hHeld := hHeld2
                      clear hHeld2
                      try simp only [Act.put, List.setIfInBounds_toArray, List.set_cons_zero, List.set_cons_succ]
                      refine wpAnyH_done (by kernel_rfl) ?_ _
                      refine NoPanic.normal ?_
                      clear hHeld
                      gi_wp2_with fail
                      go_meet
                      case rel => exact ⟨x14, x15, vo, ko, uo, jo, rfl, rfl, kG⟩
                  · simp only [List.getElem_toArray, List.getElem_cons_zero, List.getElem_cons_succ]
                    go_simp
                    obtain ⟨X3, hnx⟩ : ∃ Z, X2.alloc (.cells #[.slice none 0 0] 26) = Z := ⟨_, rfl⟩
                    have oN : Old X2 X3 := by rw [← hnx]; exact (Old.refl X2).alloc _
                    have hP0 := Boxed.new X2 26 (.slice none 0 0)
                    rw [hnx] at hP0 ⊢
                    obtain ⟨x15, hx15⟩ : ∃ x, X2.heap.size = x := ⟨_, rfl⟩
                    rw [hx15] at hP0 ⊢
                    try have dA15 : Hid (∀ ad, vo = some ad → ad.block ≠ x15) := fun ad e => by have := (hR.out.n ad e).2; omega
                    try have dU15 : Hid (∀ ad, uo = some ad → ad.block ≠ x15) := fun ad e => by have := (hQ.out.n ad e).2; omega
                    try have dX : Hid (x14 ≠ x15) := fun e => by have := Boxed.lt hP.out; omega
                    have n15 : Hid (w5.heap.size ≤ x15) := by show _ ≤ _; have := hsz.out; omega
                    refine hK.out _ _ ⟨hHeld.1.trans oN, oN.cell hHeld.2.1, oN.cell hHeld.2.2⟩ (fun hHeld2 => ?_)
                    clear hHeld hK
                    have hHeld := hHeld2
                    clear hHeld2
                    try have hR := hid (hR.out.frm oN (fun _ _ h => h))
                    try have hQ := hid (hQ.out.frm oN (fun _ _ h => h))
                    try have hP := hid (boxed_olds hP.out oN)
                    try have hT := hid (boxed_olds hT.out oN)
                    have hT := hid hP0
                    have hsz := hid (Nat.le_trans hsz.out oN.size)
                    clear hP0 oN hx15 hnx
                    try simp only [Act.put]
                    refine wpAnyH_ready (rs := [6]) (by kernel_rfl) (by simp) ?_
                    refine AllReadyH.cons (o := _) rfl (fun K hK => ?_) AllReadyH.nil
                    · simp only [List.getElem_toArray, List.getElem_cons_zero, List.getElem_cons_succ]
                      go_simp
                      obtain ⟨X4, hnx⟩ : ∃ Z, X3.alloc (.cells #[.slice none 0 0] 26) = Z := ⟨_, rfl⟩
                      have oN : Old X3 X4 := by rw [← hnx]; exact (Old.refl X3).alloc _
                      have hP0 := Boxed.new X3 26 (.slice none 0 0)
                      rw [hnx] at hP0 ⊢
                      obtain ⟨x14, hx14⟩ : ∃ x, X3.heap.size = x := ⟨_, rfl⟩
                      rw [hx14] at hP0 ⊢
                      try have dA14 : Hid (∀ ad, vo = some ad → ad.block ≠ x14) := fun ad e => by have := (hR.out.n ad e).2; omega
                      try have dU14 : Hid (∀ ad, uo = some ad → ad.block ≠ x14) := fun ad e => by have := (hQ.out.n ad e).2; omega
                      try have dX : Hid (x14 ≠ x15) := fun e => by have := Boxed.lt hT.out; omega
                      have n14 : Hid (w5.heap.size ≤ x14) := by show _ ≤ _; have := hsz.out; omega
                      refine hK.out _ _ ⟨hHeld.1.trans oN, oN.cell hHeld.2.1, oN.cell hHeld.2.2⟩ (fun hHeld2 => ?_)
                      clear hHeld hK
                      have hHeld := hHeld2
                      clear hHeld2
                      try have hR := hid (hR.out.frm oN (fun _ _ h => h))
                      try have hQ := hid (hQ.out.frm oN (fun _ _ h => h))
                      try have hP := hid (boxed_olds hP.out oN)
                      try have hT := hid (boxed_olds hT.out oN)
                      have hP := hid hP0
                      have hsz := hid (Nat.le_trans hsz.out oN.size)
                      clear hP0 oN hx14 hnx
                      try simp only [Act.put]
                      try simp only [List.setIfInBounds_toArray]
                      clear hOb hOs hsz
                      have p0 := hP.out.cell
                      have pf := hP.out.frozen
                      have f1 := frm_set X4 x14 0 (.slice vo L.length ko)
                      have p1 := frm_cell f1 hT.out.cell (fun e => dX.out e.symm)
                      have pg := frm_frozen f1 (World.block_lt_of_cell? X4 _ hT.out.cell) hT.out.frozen (fun e => dX.out e.symm)
                      have f2 := frm_set (X4.setCell ⟨x14, 0, none⟩ (.slice vo L.length ko)) x15 0 (.slice uo M.length jo)
                      have kG : Hid (Ga wr w5 ((X4.setCell ⟨x14, 0, none⟩ (.slice vo L.length ko)).setCell ⟨x15, 0, none⟩ (.slice uo M.length jo)) L M x14 x15 vo ko uo jo) :=
                        ⟨boxed_frm (Boxed.set _ hP.out) f2 dX.out, Boxed.set _ (boxed_frm hT.out f1 (fun e => dX.out e.symm)), (hR.out.frm f1 dA14.out).frm f2 dA15.out, (hQ.out.frm f1 dU14.out).frm f2 dU15.out, Frm.trans (Frm.trans hHeld.1 f1 (fun i hi e => by have := n14.out; omega)) f2 (fun i hi e => by have := n15.out; omega), ⟨n14.out, n15.out, dX.out⟩, fun ad e => ⟨dA14.out ad e, dA15.out ad e⟩, fun ad e => ⟨dU14.out ad e, dU15.out ad e⟩, dVU.out⟩
                      have kS1 : Hid (Old w5 (X4.setCell ⟨x14, 0, none⟩ (.slice vo L.length ko)) ∧ _ ∧ _) := ⟨Frm.trans hHeld.1 f1 (fun i hi e => by have := n14.out; omega), frm_cell f1 hHeld.2.1 (by have := n14.out; dsimp only; omega), frm_cell f1 hHeld.2.2 (by have := n14.out; dsimp only; omega)⟩
                      have kS2 : Hid (Old w5 ((X4.setCell ⟨x14, 0, none⟩ (.slice vo L.length ko)).setCell ⟨x15, 0, none⟩ (.slice uo M.length jo)) ∧ _ ∧ _) := ⟨Frm.trans kS1.out.1 f2 (fun i hi e => by have := n15.out; omega), frm_cell f2 kS1.out.2.1 (by have := n15.out; dsimp only; omega), frm_cell f2 kS1.out.2.2 (by have := n15.out; dsimp only; omega)⟩
                      clear f1 f2 hP hT hR hQ dA14 dA15 dU14 dU15 dX dVU n14 n15
                      refine wpAnyH_ready (rs := [8]) (by kernel_rfl) (by simp) ?_
                      refine AllReadyH.cons (o := _) rfl (fun K hK => ?_) AllReadyH.nil
                      simp only [List.getElem_toArray, List.getElem_cons_zero, List.getElem_cons_succ]
                      go_simp
                      refine hK.out _ _ (kS1.out) (fun hHeld2 => ?_)
                      clear hHeld hK
                      have hHeld := hHeld2
                      clear hHeld2
                      try simp only [Act.put, List.setIfInBounds_toArray, List.set_cons_zero, List.set_cons_succ]
                      refine wpAnyH_ready (rs := [9]) (by kernel_rfl) (by simp) ?_
                      refine AllReadyH.cons (o := _) rfl (fun K hK => ?_) AllReadyH.nil
                      simp only [List.getElem_toArray, List.getElem_cons_zero, List.getElem_cons_succ]
                      go_simp
                      refine hK.out _ _ (kS2.out) (fun hHeld2 => ?_)
                      clear hHeld hK
                      have hHeld := hHeld2
                      clear hHeld2
                      try simp only [Act.put, List.setIfInBounds_toArray, List.set_cons_zero, List.set_cons_succ]
                      refine wpAnyH_done (by kernel_rfl) ?_ _
                      refine NoPanic.normal ?_
                      clear hHeld
                      gi_wp2_with fail
                      go_meet
                      case rel => exact ⟨x14, x15, vo, ko, uo, jo, rfl, rfl, kG⟩
                · simp only [List.getElem_toArray, List.getElem_cons_zero, List.getElem_cons_succ]
                  go_simp
                  obtain ⟨X2, hnx⟩ : ∃ Z, X1.alloc (.cells #[.slice none 0 0] 26) = Z := ⟨_, rfl⟩
                  have oN : Old X1 X2 := by rw [← hnx]; exact (Old.refl X1).alloc _
                  have hP0 := Boxed.new X1 26 (.slice none 0 0)
                  rw [hnx] at hP0 ⊢
                  obtain ⟨x14, hx14⟩ : ∃ x, X1.heap.size = x := ⟨_, rfl⟩
                  rw [hx14] at hP0 ⊢
                  try have dA14 : Hid (∀ ad, vo = some ad → ad.block ≠ x14) := fun ad e => by have := (hR.out.n ad e).2; omega
                  try have dU14 : Hid (∀ ad, uo = some ad → ad.block ≠ x14) := fun ad e => by have := (hQ.out.n ad e).2; omega
                  try have dX : Hid (x14 ≠ x15) := fun e => by have := Boxed.lt hT.out; omega
                  have n14 : Hid (w5.heap.size ≤ x14) := by show _ ≤ _; have := hsz.out; omega
                  refine hK.out _ _ ⟨hHeld.1.trans oN, oN.cell hHeld.2.1, oN.cell hHeld.2.2⟩ (fun hHeld2 => ?_)
                  clear hHeld hK
                  have hHeld := hHeld2
                  clear hHeld2
                  try have hR := hid (hR.out.frm oN (fun _ _ h => h))
                  try have hQ := hid (hQ.out.frm oN (fun _ _ h => h))
                  try have hP := hid (boxed_olds hP.out oN)
                  try have hT := hid (boxed_olds hT.out oN)
                  have hP := hid hP0
                  have hsz := hid (Nat.le_trans hsz.out oN.size)
                  clear hP0 oN hx14 hnx
                  try simp only [Act.put]
                  refine wpAnyH_ready (rs := [5, 7]) (by kernel_rfl) (by simp) ?_
                  refine AllReadyH.cons (o := _) rfl (fun K hK => ?_) (AllReadyH.cons (o := _) rfl (fun K hK => ?_) AllReadyH.nil)
                  · refine step_appI X2 (by rfl) (.const (.slice none 0 0)) (.tmp 219) (by rfl) ⟨sb, 0, none⟩ M.length M.length (dl M.length (gotS (fls L M))) (by rfl) (by rfl) (dl_len _ _) (hOs.out X2 hHeld.1) (by rw [dl_len]; omega) ?_
                    rintro v5 X3 ⟨uo, jo, hv2⟩ oN
                    have hvv := hv2.v
                    rw [dl_len] at hvv
                    subst hvv
                    have dVU : Hid (∀ ad ae, vo = some ad → uo = some ae → ad.block ≠ ae.block) := fun ad ae e e2 => by have := (hv2.n ae e2).1; have := (hR.out.n ad e).2; omega
                    try have dU14 : Hid (∀ ad, uo = some ad → ad.block ≠ x14) := fun ad e => by have := (hv2.n ad e).1; have := Boxed.lt hP.out; omega
                    try have dU15 : Hid (∀ ad, uo = some ad → ad.block ≠ x15) := fun ad e => by have := (hv2.n ad e).1; have := Boxed.lt hT.out; omega
                    refine hK.out _ _ ⟨hHeld.1.trans oN, oN.cell hHeld.2.1, oN.cell hHeld.2.2⟩ (fun hHeld2 => ?_)
                    clear hHeld hK
                    have hHeld := hHeld2
                    clear hHeld2
                    try have hR := hid (hR.out.frm oN (fun _ _ h => h))
                    try have hQ := hid (hQ.out.frm oN (fun _ _ h => h))
                    try have hP := hid (boxed_olds hP.out oN)
                    try have hT := hid (boxed_olds hT.out oN)
                    have hQ : Hid (NwI w5.heap.size X3 (.slice uo M.length jo) uo jo (dl M.length (gotS (fls L M)))) := ⟨hv2.v, hv2.c, fun ad e => ⟨Nat.le_trans hsz.out (hv2.n ad e).1, (hv2.n ad e).2⟩⟩
                    have hsz := hid (Nat.le_trans hsz.out oN.size)
                    clear hv2 oN
                    try simp only [Act.put]
                    refine wpAnyH_ready (rs := [7]) (by kernel_rfl) (by simp) ?_
                    refine AllReadyH.cons (o := _) rfl (fun K hK => ?_) AllReadyH.nil
                    · simp only [List.getElem_toArray, List.getElem_cons_zero, List.getElem_cons_succ]
                      go_simp
                      obtain ⟨X4, hnx⟩ : ∃ Z, X3.alloc (.cells #[.slice none 0 0] 26) = Z := ⟨_, rfl⟩
                      have oN : Old X3 X4 := by rw [← hnx]; exact (Old.refl X3).alloc _
                      have hP0 := Boxed.new X3 26 (.slice none 0 0)
                      rw [hnx] at hP0 ⊢
                      obtain ⟨x15, hx15⟩ : ∃ x, X3.heap.size = x := ⟨_, rfl⟩
                      rw [hx15] at hP0 ⊢
                      try have dA15 : Hid (∀ ad, vo = some ad → ad.block ≠ x15) := fun ad e => by have := (hR.out.n ad e).2; omega
                      try have dU15 : Hid (∀ ad, uo = some ad → ad.block ≠ x15) := fun ad e => by have := (hQ.out.n ad e).2; omega
                      try have dX : Hid (x14 ≠ x15) := fun e => by have := Boxed.lt hP.out; omega
                      have n15 : Hid (w5.heap.size ≤ x15) := by show _ ≤ _; have := hsz.out; omega
                      refine hK.out _ _ ⟨hHeld.1.trans oN, oN.cell hHeld.2.1, oN.cell hHeld.2.2⟩ (fun hHeld2 => ?_)
                      clear hHeld hK
                      have hHeld := hHeld2
                      clear hHeld2
                      try have hR := hid (hR.out.frm oN (fun _ _ h => h))
                      try have hQ := hid (hQ.out.frm oN (fun _ _ h => h))
                      try have hP := hid (boxed_olds hP.out oN)
                      try have hT := hid (boxed_olds hT.out oN)
                      have hT := hid hP0
                      have hsz := hid (Nat.le_trans hsz.out oN.size)
                      clear hP0 oN hx15 hnx
                      try simp only [Act.put]
                      try simp only [List.setIfInBounds_toArray]
                      clear hOb hOs hsz
                      have p0 := hP.out.cell
                      have pf := hP.out.frozen
                      have f1 := frm_set X4 x14 0 (.slice vo L.length ko)
                      have p1 := frm_cell f1 hT.out.cell (fun e => dX.out e.symm)
                      have pg := frm_frozen f1 (World.block_lt_of_cell? X4 _ hT.out.cell) hT.out.frozen (fun e => dX.out e.symm)
                      have f2 := frm_set (X4.setCell ⟨x14, 0, none⟩ (.slice vo L.length ko)) x15 0 (.slice uo M.length jo)
                      have kG : Hid (Ga wr w5 ((X4.setCell ⟨x14, 0, none⟩ (.slice vo L.length ko)).setCell ⟨x15, 0, none⟩ (.slice uo M.length jo)) L M x14 x15 vo ko uo jo) :=
                        ⟨boxed_frm (Boxed.set _ hP.out) f2 dX.out, Boxed.set _ (boxed_frm hT.out f1 (fun e => dX.out e.symm)), (hR.out.frm f1 dA14.out).frm f2 dA15.out, (hQ.out.frm f1 dU14.out).frm f2 dU15.out, Frm.trans (Frm.trans hHeld.1 f1 (fun i hi e => by have := n14.out; omega)) f2 (fun i hi e => by have := n15.out; omega), ⟨n14.out, n15.out, dX.out⟩, fun ad e => ⟨dA14.out ad e, dA15.out ad e⟩, fun ad e => ⟨dU14.out ad e, dU15.out ad e⟩, dVU.out⟩
                      have kS1 : Hid (Old w5 (X4.setCell ⟨x14, 0, none⟩ (.slice vo L.length ko)) ∧ _ ∧ _) := ⟨Frm.trans hHeld.1 f1 (fun i hi e => by have := n14.out; omega), frm_cell f1 hHeld.2.1 (by have := n14.out; dsimp only; omega), frm_cell f1 hHeld.2.2 (by have := n14.out; dsimp only; omega)⟩
                      have kS2 : Hid (Old w5 ((X4.setCell ⟨x14, 0, none⟩ (.slice vo L.length ko)).setCell ⟨x15, 0, none⟩ (.slice uo M.length jo)) ∧ _ ∧ _) := ⟨Frm.trans kS1.out.1 f2 (fun i hi e => by have := n15.out; omega), frm_cell f2 kS1.out.2.1 (by have := n15.out; dsimp only; omega), frm_cell f2 kS1.out.2.2 (by have := n15.out; dsimp only; omega)⟩
                      clear f1 f2 hP hT hR hQ dA14 dA15 dU14 dU15 dX dVU n14 n15
                      refine wpAnyH_ready (rs := [8]) (by kernel_rfl) (by simp) ?_
                      refine AllReadyH.cons (o := _) rfl (fun K hK => ?_) AllReadyH.nil
                      simp only [List.getElem_toArray, List.getElem_cons_zero, List.getElem_cons_succ]
                      go_simp
                      refine hK.out _ _ (kS1.out) (fun hHeld2 => ?_)
                      clear hHeld hK
                      have hHeld := hHeld2
                      clear hHeld2
                      try simp only [Act.put, List.setIfInBounds_toArray, List.set_cons_zero, List.set_cons_succ]
                      refine wpAnyH_ready (rs := [9]) (by kernel_rfl) (by simp) ?_
                      refine AllReadyH.cons (o := _) rfl (fun K hK => ?_) AllReadyH.nil
                      simp only [List.getElem_toArray, List.getElem_cons_zero, List.getElem_cons_succ]
                      go_simp
                      refine hK.out _ _ (kS2.out) (fun hHeld2 => ?_)
                      clear hHeld hK
                      have hHeld := hHeld2
                      clear hHeld2
                      try simp only [Act.put, List.setIfInBounds_toArray, List.set_cons_zero, List.set_cons_succ]
                      refine wpAnyH_done (by kernel_rfl) ?_ _
                      refine NoPanic.normal ?_
                      clear hHeld
                      gi_wp2_with fail
                      go_meet
                      case rel => exact ⟨x14, x15, vo, ko, uo, jo, rfl, rfl, kG⟩
                  · simp only [List.getElem_toArray, List.getElem_cons_zero, List.getElem_cons_succ]
                    go_simp
                    obtain ⟨X3, hnx⟩ : ∃ Z, X2.alloc (.cells #[.slice none 0 0] 26) = Z := ⟨_, rfl⟩
                    have oN : Old X2 X3 := by rw [← hnx]; exact (Old.refl X2).alloc _
                    have hP0 := Boxed.new X2 26 (.slice none 0 0)
                    rw [hnx] at hP0 ⊢
                    obtain ⟨x15, hx15⟩ : ∃ x, X2.heap.size = x := ⟨_, rfl⟩
                    rw [hx15] at hP0 ⊢
                    try have dA15 : Hid (∀ ad, vo = some ad → ad.block ≠ x15) := fun ad e => by have := (hR.out.n ad e).2; omega
                    try have dU15 : Hid (∀ ad, uo = some ad → ad.block ≠ x15) := fun ad e => by have := (hQ.out.n ad e).2; omega
                    try have dX : Hid (x14 ≠ x15) := fun e => by have := Boxed.lt hP.out; omega
                    have n15 : Hid (w5.heap.size ≤ x15) := by show _ ≤ _; have := hsz.out; omega
                    refine hK.out _ _ ⟨hHeld.1.trans oN, oN.cell hHeld.2.1, oN.cell hHeld.2.2⟩ (fun hHeld2 => ?_)
                    clear hHeld hK
                    have hHeld := hHeld2
                    clear hHeld2
                    try have hR := hid (hR.out.frm oN (fun _ _ h => h))
                    try have hQ := hid (hQ.out.frm oN (fun _ _ h => h))
                    try have hP := hid (boxed_olds hP.out oN)
                    try have hT := hid (boxed_olds hT.out oN)
                    have hT := hid hP0
                    have hsz := hid (Nat.le_trans hsz.out oN.size)
                    clear hP0 oN hx15 hnx
                    try simp only [Act.put]
                    refine wpAnyH_ready (rs := [5]) (by kernel_rfl) (by simp) ?_
                    refine AllReadyH.cons (o := _) rfl (fun K hK => ?_) AllReadyH.nil
                    · refine step_appI X3 (by rfl) (.const (.slice none 0 0)) (.tmp 219) (by rfl) ⟨sb, 0, none⟩ M.length M.length (dl M.length (gotS (fls L M))) (by rfl) (by rfl) (dl_len _ _) (hOs.out X3 hHeld.1) (by rw [dl_len]; omega) ?_
                      rintro v5 X4 ⟨uo, jo, hv2⟩ oN
                      have hvv := hv2.v
                      rw [dl_len] at hvv
                      subst hvv
                      have dVU : Hid (∀ ad ae, vo = some ad → uo = some ae → ad.block ≠ ae.block) := fun ad ae e e2 => by have := (hv2.n ae e2).1; have := (hR.out.n ad e).2; omega
                      try have dU14 : Hid (∀ ad, uo = some ad → ad.block ≠ x14) := fun ad e => by have := (hv2.n ad e).1; have := Boxed.lt hP.out; omega
                      try have dU15 : Hid (∀ ad, uo = some ad → ad.block ≠ x15) := fun ad e => by have := (hv2.n ad e).1; have := Boxed.lt hT.out; omega
                      refine hK.out _ _ ⟨hHeld.1.trans oN, oN.cell hHeld.2.1, oN.cell hHeld.2.2⟩ (fun hHeld2 => ?_)
                      clear hHeld hK
                      have hHeld := hHeld2
                      clear hHeld2
                      try have hR := hid (hR.out.frm oN (fun _ _ h => h))
                      try have hQ := hid (hQ.out.frm oN (fun _ _ h => h))
                      try have hP := hid (boxed_olds hP.out oN)
                      try have hT := hid (boxed_olds hT.out oN)
                      have hQ : Hid (NwI w5.heap.size X4 (.slice uo M.length jo) uo jo (dl M.length (gotS (fls L M)))) := ⟨hv2.v, hv2.c, fun ad e => ⟨Nat.le_trans hsz.out (hv2.n ad e).1, (hv2.n ad e).2⟩⟩
                      have hsz := hid (Nat.le_trans hsz.out oN.size)
                      clear hv2 oN
                      try simp only [Act.put]
                      try simp only [List.setIfInBounds_toArray]
                      clear hOb hOs hsz
                      have p0 := hP.out.cell
                      have pf := hP.out.frozen
                      have f1 := frm_set X4 x14 0 (.slice vo L.length ko)
                      have p1 := frm_cell f1 hT.out.cell (fun e => dX.out e.symm)
                      have pg := frm_frozen f1 (World.block_lt_of_cell? X4 _ hT.out.cell) hT.out.frozen (fun e => dX.out e.symm)
                      have f2 := frm_set (X4.setCell ⟨x14, 0, none⟩ (.slice vo L.length ko)) x15 0 (.slice uo M.length jo)
                      have kG : Hid (Ga wr w5 ((X4.setCell ⟨x14, 0, none⟩ (.slice vo L.length ko)).setCell ⟨x15, 0, none⟩ (.slice uo M.length jo)) L M x14 x15 vo ko uo jo) :=
                        ⟨boxed_frm (Boxed.set _ hP.out) f2 dX.out, Boxed.set _ (boxed_frm hT.out f1 (fun e => dX.out e.symm)), (hR.out.frm f1 dA14.out).frm f2 dA15.out, (hQ.out.frm f1 dU14.out).frm f2 dU15.out, Frm.trans (Frm.trans hHeld.1 f1 (fun i hi e => by have := n14.out; omega)) f2 (fun i hi e => by have := n15.out; omega), ⟨n14.out, n15.out, dX.out⟩, fun ad e => ⟨dA14.out ad e, dA15.out ad e⟩, fun ad e => ⟨dU14.out ad e, dU15.out ad e⟩, dVU.out⟩
                      have kS1 : Hid (Old w5 (X4.setCell ⟨x14, 0, none⟩ (.slice vo L.length ko)) ∧ _ ∧ _) := ⟨Frm.trans hHeld.1 f1 (fun i hi e => by have := n14.out; omega), frm_cell f1 hHeld.2.1 (by have := n14.out; dsimp only; omega), frm_cell f1 hHeld.2.2 (by have := n14.out; dsimp only; omega)⟩
                      have kS2 : Hid (Old w5 ((X4.setCell ⟨x14, 0, none⟩ (.slice vo L.length ko)).setCell ⟨x15, 0, none⟩ (.slice uo M.length jo)) ∧ _ ∧ _) := ⟨Frm.trans kS1.out.1 f2 (fun i hi e => by have := n15.out; omega), frm_cell f2 kS1.out.2.1 (by have := n15.out; dsimp only; omega), frm_cell f2 kS1.out.2.2 (by have := n15.out; dsimp only; omega)⟩
                      clear f1 f2 hP hT hR hQ dA14 dA15 dU14 dU15 dX dVU n14 n15
                      refine wpAnyH_ready (rs := [8]) (by kernel_rfl) (by simp) ?_
                      refine AllReadyH.cons (o := _) rfl (fun K hK => ?_) AllReadyH.nil
                      simp only [List.getElem_toArray, List.getElem_cons_zero, List.getElem_cons_succ]
                      go_simp
                      refine hK.out _ _ (kS1.out) (fun hHeld2 => ?_)
                      clear hHeld hK
                      have hHeld := hHeld2
                      clear hHeld2
                      try simp only [Act.put, List.setIfInBounds_toArray, List.set_cons_zero, List.set_cons_succ]
                      refine wpAnyH_ready (rs := [9]) (by kernel_rfl) (by simp) ?_
                      refine AllReadyH.cons (o := _) rfl (fun K hK => ?_) AllReadyH.nil
                      simp only [List.getElem_toArray, List.getElem_cons_zero, List.getElem_cons_succ]
                      go_simp
                      refine hK.out _ _ (kS2.out) (fun hHeld2 => ?_)
                      clear hHeld hK
                      have hHeld := hHeld2
                      clear hHeld2
                      try simp only [Act.put, List.setIfInBounds_toArray, List.set_cons_zero, List.set_cons_succ]
                      refine wpAnyH_done (by kernel_rfl) ?_ _
                      refine NoPanic.normal ?_
                      clear hHeld
                      gi_wp2_with fail
                      go_meet
                      case rel => exact ⟨x14, x15, vo, ko, uo, jo, rfl, rfl, kG⟩
                · simp only [List.getElem_toArray, List.getElem_cons_zero, List.getElem_cons_succ]
                  go_simp
                  obtain ⟨X2, hnx⟩ : ∃ Z, X1.alloc (.cells #[.slice none 0 0] 26) = Z := ⟨_, rfl⟩
                  have oN : Old X1 X2 := by rw [← hnx]; exact (Old.refl X1).alloc _
                  have hP0 := Boxed.new X1 26 (.slice none 0 0)
                  rw [hnx] at hP0 ⊢
                  obtain ⟨x15, hx15⟩ : ∃ x, X1.heap.size = x := ⟨_, rfl⟩
                  rw [hx15] at hP0 ⊢
                  try have dA15 : Hid (∀ ad, vo = some ad → ad.block ≠ x15) := fun ad e => by have := (hR.out.n ad e).2; omega
                  try have dU15 : Hid (∀ ad, uo = some ad → ad.block ≠ x15) := fun ad e => by have := (hQ.out.n ad e).2; omega
                  try have dX : Hid (x14 ≠ x15) := fun e => by have := Boxed.lt hP.out; omega
                  have n15 : Hid (w5.heap.size ≤ x15) := by show _ ≤ _; have := hsz.out; omega
                  refine hK.out _ _ ⟨hHeld.1.trans oN, oN.cell hHeld.2.1, oN.cell hHeld.2.2⟩ (fun hHeld2 => ?_)
                  clear hHeld hK
                  have hHeld := hHeld2
                  clear hHeld2
                  try have hR := hid (hR.out.frm oN (fun _ _ h => h))
                  try have hQ := hid (hQ.out.frm oN (fun _ _ h => h))
                  try have hP := hid (boxed_olds hP.out oN)
                  try have hT := hid (boxed_olds hT.out oN)
                  have hT := hid hP0
                  have hsz := hid (Nat.le_trans hsz.out oN.size)
                  clear hP0 oN hx15 hnx
                  try simp only [Act.put]
                  refine wpAnyH_ready (rs := [5, 6]) (by kernel_rfl) (by simp) ?_
                  refine AllReadyH.cons (o := _) rfl (fun K hK => ?_) (AllReadyH.cons (o := _) rfl (fun K hK => ?_) AllReadyH.nil)
                  · refine step_appI X2 (by rfl) (.const (.slice none 0 0)) (.tmp 219) (by rfl) ⟨sb, 0, none⟩ M.length M.length (dl M.length (gotS (fls L M))) (by rfl) (by rfl) (dl_len _ _) (hOs.out X2 hHeld.1) (by rw [dl_len]; omega) ?_
                    rintro v5 X3 ⟨uo, jo, hv2⟩ oN
                    have hvv := hv2.v
                    rw [dl_len] at hvv
                    subst hvv
                    have dVU : Hid (∀ ad ae, vo = some ad → uo = some ae → ad.block ≠ ae.block) := fun ad ae e e2 => by have := (hv2.n ae e2).1; have := (hR.out.n ad e).2; omega
                    try have dU14 : Hid (∀ ad, uo = some ad → ad.block ≠ x14) := fun ad e => by have := (hv2.n ad e).1; have := Boxed.lt hP.out; omega
                    try have dU15 : Hid (∀ ad, uo = some ad → ad.block ≠ x15) := fun ad e => by have := (hv2.n ad e).1; have := Boxed.lt hT.out; omega
                    refine hK.out _ _ ⟨hHeld.1.trans oN, oN.cell hHeld.2.1, oN.cell hHeld.2.2⟩ (fun hHeld2 => ?_)
                    clear hHeld hK
                    have hHeld := hHeld2
                    clear hHeld2
                    try have hR := hid (hR.out.frm oN (fun _ _ h => h))
                    try have hQ := hid (hQ.out.frm oN (fun _ _ h => h))
                    try have hP := hid (boxed_olds hP.out oN)
                    try have hT := hid (boxed_olds hT.out oN)
                    have hQ : Hid (NwI w5.heap.size X3 (.slice uo M.length jo) uo jo (dl M.length (gotS (fls L M)))) := ⟨hv2.v, hv2.c, fun ad e => ⟨Nat.le_trans hsz.out (hv2.n ad e).1, (hv2.n ad e).2⟩⟩
                    have hsz := hid (Nat.le_trans hsz.out oN.size)
                    clear hv2 oN
                    try simp only [Act.put]
                    refine wpAnyH_ready (rs := [6]) (by kernel_rfl) (by simp) ?_
                    refine AllReadyH.cons (o := _) rfl (fun K hK => ?_) AllReadyH.nil
                    · simp only [List.getElem_toArray, List.getElem_cons_zero, List.getElem_cons_succ]
                      go_simp
                      obtain ⟨X4, hnx⟩ : ∃ Z, X3.alloc (.cells #[.slice none 0 0] 26) = Z := ⟨_, rfl⟩
                      have oN : Old X3 X4 := by rw [← hnx]; exact (Old.refl X3).alloc _
                      have hP0 := Boxed.new X3 26 (.slice none 0 0)
                      rw [hnx] at hP0 ⊢
                      obtain ⟨x14, hx14⟩ : ∃ x, X3.heap.size = x := ⟨_, rfl⟩
                      rw [hx14] at hP0 ⊢
                      try have dA14 : Hid (∀ ad, vo = some ad → ad.block ≠ x14) := fun ad e => by have := (hR.out.n ad e).2; omega
                      try have dU14 : Hid (∀ ad, uo = some ad → ad.block ≠ x14) := fun ad e => by have := (hQ.out.n ad e).2; omega
                      try have dX : Hid (x14 ≠ x15) := fun e => by have := Boxed.lt hT.out; omega
                      have n14 : Hid (w5.heap.size ≤ x14) := by show _ ≤ _; have := hsz.out; omega
                      refine hK.out _ _ ⟨hHeld.1.trans oN, oN.cell hHeld.2.1, oN.cell hHeld.2.2⟩ (fun hHeld2 => ?_)
                      clear hHeld hK
                      have hHeld := hHeld2
                      clear hHeld2
                      try have hR := hid (hR.out.frm oN (fun _ _ h => h))
                      try have hQ := hid (hQ.out.frm oN (fun _ _ h => h))
                      try have hP := hid (boxed_olds hP.out oN)
                      try have hT := hid (boxed_olds hT.out oN)
                      have hP := hid hP0
                      have hsz := hid (Nat.le_trans hsz.out oN.size)
                      clear hP0 oN hx14 hnx
                      try simp only [Act.put]
                      try simp only [List.setIfInBounds_toArray]
                      clear hOb hOs hsz
                      have p0 := hP.out.cell
                      have pf := hP.out.frozen
                      have f1 := frm_set X4 x14 0 (.slice vo L.length ko)
                      have p1 := frm_cell f1 hT.out.cell (fun e => dX.out e.symm)
                      have pg := frm_frozen f1 (World.block_lt_of_cell? X4 _ hT.out.cell) hT.out.frozen (fun e => dX.out e.symm)
                      have f2 := frm_set (X4.setCell ⟨x14, 0, none⟩ (.slice vo L.length ko)) x15 0 (.slice uo M.length jo)
                      have kG : Hid (Ga wr w5 ((X4.setCell ⟨x14, 0, none⟩ (.slice vo L.length ko)).setCell ⟨x15, 0, none⟩ (.slice uo M.length jo)) L M x14 x15 vo ko uo jo) :=
                        ⟨boxed_frm (Boxed.set _ hP.out) f2 dX.out, Boxed.set _ (boxed_frm hT.out f1 (fun e => dX.out e.symm)), (hR.out.frm f1 dA14.out).frm f2 dA15.out, (hQ.out.frm f1 dU14.out).frm f2 dU15.out, Frm.trans (Frm.trans hHeld.1 f1 (fun i hi e => by have := n14.out; omega)) f2 (fun i hi e => by have := n15.out; omega), ⟨n14.out, n15.out, dX.out⟩, fun ad e => ⟨dA14.out ad e, dA15.out ad e⟩, fun ad e => ⟨dU14.out ad e, dU15.out ad e⟩, dVU.out⟩
                      have kS1 : Hid (Old w5 (X4.setCell ⟨x14, 0, none⟩ (.slice vo L.length ko)) ∧ _ ∧ _) := ⟨Frm.trans hHeld.1 f1 (fun i hi e => by have := n14.out; omega), frm_cell f1 hHeld.2.1 (by have := n14.out; dsimp only; omega), frm_cell f1 hHeld.2.2 (by have := n14.out; dsimp only; omega)⟩
                      have kS2 : Hid (Old w5 ((X4.setCell ⟨x14, 0, none⟩ (.slice vo L.length ko)).setCell ⟨x15, 0, none⟩ (.slice uo M.length jo)) ∧ _ ∧ _) := ⟨Frm.trans kS1.out.1 f2 (fun i hi e => by have := n15.out; omega), frm_cell f2 kS1.out.2.1 (by have := n15.out; dsimp only; omega), frm_cell f2 kS1.out.2.2 (by have := n15.out; dsimp only; omega)⟩
                      clear f1 f2 hP hT hR hQ dA14 dA15 dU14 dU15 dX dVU n14 n15
                      refine wpAnyH_ready (rs := [8]) (by kernel_rfl) (by simp) ?_
                      refine AllReadyH.cons (o := _) rfl (fun K hK => ?_) AllReadyH.nil
                      simp only [List.getElem_toArray, List.getElem_cons_zero, List.getElem_cons_succ]
                      go_simp
                      refine hK.out _ _ (kS1.out) (fun hHeld2 => ?_)
                      clear hHeld hK
                      have hHeld := hHeld2
                      clear hHeld2
                      try simp only [Act.put, List.setIfInBounds_toArray, List.set_cons_zero, List.set_cons_succ]
                      refine wpAnyH_ready (rs := [9]) (by kernel_rfl) (by simp) ?_
                      refine AllReadyH.cons (o := _) rfl (fun K hK => ?_) AllReadyH.nil
                      simp only [List.getElem_toArray, List.getElem_cons_zero, List.getElem_cons_succ]
                      go_simp
                      refine hK.out _ _ (kS2.out) (fun hHeld2 => ?_)
                      clear hHeld hK
                      have hHeld := hHeld2
                      clear hHeld2
                      try simp only [Act.put, List.setIfInBounds_toArray, List.set_cons_zero, List.set_cons_succ]
                      refine wpAnyH_done (by kernel_rfl) ?_ _
                      refine NoPanic.normal ?_
                      clear hHeld
                      gi_wp2_with fail
                      go_meet
                      case rel => exact ⟨x14, x15, vo, ko, uo, jo, rfl, rfl, kG⟩
                  · simp only [List.getElem_toArray, List.getElem_cons_zero, List.getElem_cons_succ]
                    go_simp
                    obtain ⟨X3, hnx⟩ : ∃ Z, X2.alloc (.cells #[.slice none 0 0] 26) = Z := ⟨_, rfl⟩
                    have oN : Old X2 X3 := by rw [← hnx]; exact (Old.refl X2).alloc _
                    have hP0 := Boxed.new X2 26 (.slice none 0 0)
                    rw [hnx] at hP0 ⊢
                    obtain ⟨x14, hx14⟩ : ∃ x, X2.heap.size = x := ⟨_, rfl⟩
                    rw [hx14] at hP0 ⊢
                    try have dA14 : Hid (∀ ad, vo = some ad → ad.block ≠ x14) := fun ad e => by have := (hR.out.n ad e).2; omega
                    try have dU14 : Hid (∀ ad, uo = some ad → ad.block ≠ x14) := fun ad e => by have := (hQ.out.n ad e).2; omega
                    try have dX : Hid (x14 ≠ x15) := fun e => by have := Boxed.lt hT.out; omega
                    have n14 : Hid (w5.heap.size ≤ x14) := by show _ ≤ _; have := hsz.out; omega
                    refine hK.out _ _ ⟨hHeld.1.trans oN, oN.cell hHeld.2.1, oN.cell hHeld.2.2⟩ (fun hHeld2 => ?_)
                    clear hHeld hK
                    have hHeld := hHeld2
                    clear hHeld2
                    try have hR := hid (hR.out.frm oN (fun _ _ h => h))
                    try have hQ := hid (hQ.out.frm oN (fun _ _ h => h))
                    try have hP := hid (boxed_olds hP.out oN)
                    try have hT := hid (boxed_olds hT.out oN)
                    have hP := hid hP0
                    have hsz := hid (Nat.le_trans hsz.out oN.size)
                    clear hP0 oN hx14 hnx
                    try simp only [Act.put]
                    refine wpAnyH_ready (rs := [5]) (by kernel_rfl) (by simp) ?_
                    refine AllReadyH.cons (o := _) rfl (fun K hK => ?_) AllReadyH.nil
                    · refine step_appI X3 (by rfl) (.const (.slice none 0 0)) (.tmp 219) (by rfl) ⟨sb, 0, none⟩ M.length M.length (dl M.length (gotS (fls L M))) (by rfl) (by rfl) (dl_len _ _) (hOs.out X3 hHeld.1) (by rw [dl_len]; omega) ?_
                      rintro v5 X4 ⟨uo, jo, hv2⟩ oN
                      have hvv := hv2.v
                      rw [dl_len] at hvv
                      subst hvv
                      have dVU : Hid (∀ ad ae, vo = some ad → uo = some ae → ad.block ≠ ae.block) := fun ad ae e e2 => by have := (hv2.n ae e2).1; have := (hR.out.n ad e).2; omega
                      try have dU14 : Hid (∀ ad, uo = some ad → ad.block ≠ x14) := fun ad e => by have := (hv2.n ad e).1; have := Boxed.lt hP.out; omega
                      try have dU15 : Hid (∀ ad, uo = some ad → ad.block ≠ x15) := fun ad e => by have := (hv2.n ad e).1; have := Boxed.lt hT.out; omega
                      refine hK.out _ _ ⟨hHeld.1.trans oN, oN.cell hHeld.2.1, oN.cell hHeld.2.2⟩ (fun hHeld2 => ?_)
                      clear hHeld hK
                      have hHeld := hHeld2
                      clear hHeld2
                      try have hR := hid (hR.out.frm oN (fun _ _ h => h))
                      try have hQ := hid (hQ.out.frm oN (fun _ _ h => h))
                      try have hP := hid (boxed_olds hP.out oN)
                      try have hT := hid (boxed_olds hT.out oN)
                      have hQ : Hid (NwI w5.heap.size X4 (.slice uo M.length jo) uo jo (dl M.length (gotS (fls L M)))) := ⟨hv2.v, hv2.c, fun ad e => ⟨Nat.le_trans hsz.out (hv2.n ad e).1, (hv2.n ad e).2⟩⟩
                      have hsz := hid (Nat.le_trans hsz.out oN.size)
                      clear hv2 oN
                      try simp only [Act.put]
                      try simp only [List.setIfInBounds_toArray]
                      clear hOb hOs hsz
                      have p0 := hP.out.cell
                      have pf := hP.out.frozen
                      have f1 := frm_set X4 x14 0 (.slice vo L.length ko)
                      have p1 := frm_cell f1 hT.out.cell (fun e => dX.out e.symm)
                      have pg := frm_frozen f1 (World.block_lt_of_cell? X4 _ hT.out.cell) hT.out.frozen (fun e => dX.out e.symm)
                      have f2 := frm_set (X4.setCell ⟨x14, 0, none⟩ (.slice vo L.length ko)) x15 0 (.slice uo M.length jo)
                      have kG : Hid (Ga wr w5 ((X4.setCell ⟨x14, 0, none⟩ (.slice vo L.length ko)).setCell ⟨x15, 0, none⟩ (.slice uo M.length jo)) L M x14 x15 vo ko uo jo) :=
                        ⟨boxed_frm (Boxed.set _ hP.out) f2 dX.out, Boxed.set _ (boxed_frm hT.out f1 (fun e => dX.out e.symm)), (hR.out.frm f1 dA14.out).frm f2 dA15.out, (hQ.out.frm f1 dU14.out).frm f2 dU15.out, Frm.trans (Frm.trans hHeld.1 f1 (fun i hi e => by have := n14.out; omega)) f2 (fun i hi e => by have := n15.out; omega), ⟨n14.out, n15.out, dX.out⟩, fun ad e => ⟨dA14.out ad e, dA15.out ad e⟩, fun ad e => ⟨dU14.out ad e, dU15.out ad e⟩, dVU.out⟩
                      have kS1 : Hid (Old w5 (X4.setCell ⟨x14, 0, none⟩ (.slice vo L.length ko)) ∧ _ ∧ _) := ⟨Frm.trans hHeld.1 f1 (fun i hi e => by have := n14.out; omega), frm_cell f1 hHeld.2.1 (by have := n14.out; dsimp only; omega), frm_cell f1 hHeld.2.2 (by have := n14.out; dsimp only; omega)⟩
                      have kS2 : Hid (Old w5 ((X4.setCell ⟨x14, 0, none⟩ (.slice vo L.length ko)).setCell ⟨x15, 0, none⟩ (.slice uo M.length jo)) ∧ _ ∧ _) := ⟨Frm.trans kS1.out.1 f2 (fun i hi e => by have := n15.out; omega), frm_cell f2 kS1.out.2.1 (by have := n15.out; dsimp only; omega), frm_cell f2 kS1.out.2.2 (by have := n15.out; dsimp only; omega)⟩
                      clear f1 f2 hP hT hR hQ dA14 dA15 dU14 dU15 dX dVU n14 n15
                      refine wpAnyH_ready (rs := [8]) (by kernel_rfl) (by simp) ?_
                      refine AllReadyH.cons (o := _) rfl (fun K hK => ?_) AllReadyH.nil
                      simp only [List.getElem_toArray, List.getElem_cons_zero, List.getElem_cons_succ]
                      go_simp
                      refine hK.out _ _ (kS1.out) (fun hHeld2 => ?_)
                      clear hHeld hK
                      have hHeld := hHeld2
                      clear hHeld2
                      try simp only [Act.put, List.setIfInBounds_toArray, List.set_cons_zero, List.set_cons_succ]
                      refine wpAnyH_ready (rs := [9]) (by kernel_rfl) (by simp) ?_
                      refine AllReadyH.cons (o := _) rfl (fun K hK => ?_) AllReadyH.nil
                      simp only [List.getElem_toArray, List.getElem_cons_zero, List.getElem_cons_succ]
                      go_simp
                      refine hK.out _ _ (kS2.out) (fun hHeld2 => ?_)
                      clear hHeld hK
                      have hHeld := hHeld2
                      clear hHeld2
                      try simp only [Act.put, List.setIfInBounds_toArray, List.set_cons_zero, List.set_cons_succ]
                      refine wpAnyH_done (by kernel_rfl) ?_ _
                      refine NoPanic.normal ?_
                      clear hHeld
                      gi_wp2_with fail
                      go_meet
                      case rel => exact ⟨x14, x15, vo, ko, uo, jo, rfl, rfl, kG⟩
              · simp only [List.getElem_toArray, List.getElem_cons_zero, List.getElem_cons_succ]
                go_simp
                obtain ⟨X1, hnx⟩ : ∃ Z, X0.alloc (.cells #[.slice none 0 0] 26) = Z := ⟨_, rfl⟩
                have oN : Old X0 X1 := by rw [← hnx]; exact (Old.refl X0).alloc _
                have hP0 := Boxed.new X0 26 (.slice none 0 0)
                rw [hnx] at hP0 ⊢
                obtain ⟨x14, hx14⟩ : ∃ x, X0.heap.size = x := ⟨_, rfl⟩
                rw [hx14] at hP0 ⊢
                try have dA14 : Hid (∀ ad, vo = some ad → ad.block ≠ x14) := fun ad e => by have := (hR.out.n ad e).2; omega
                try have dU14 : Hid (∀ ad, uo = some ad → ad.block ≠ x14) := fun ad e => by have := (hQ.out.n ad e).2; omega
                try have dX : Hid (x14 ≠ x15) := fun e => by have := Boxed.lt hT.out; omega
                have n14 : Hid (w5.heap.size ≤ x14) := by show _ ≤ _; have := hsz.out; omega
                refine hK.out _ _ ⟨hHeld.1.trans oN, oN.cell hHeld.2.1, oN.cell hHeld.2.2⟩ (fun hHeld2 => ?_)
                clear hHeld hK
                have hHeld := hHeld2
                clear hHeld2
                try have hR := hid (hR.out.frm oN (fun _ _ h => h))
                try have hQ := hid (hQ.out.frm oN (fun _ _ h => h))
                try have hP := hid (boxed_olds hP.out oN)
                try have hT := hid (boxed_olds hT.out oN)
                have hP := hid hP0
                have hsz := hid (Nat.le_trans hsz.out oN.size)
                clear hP0 oN hx14 hnx
                try simp only [Act.put]
                refine wpAnyH_ready (rs := [2, 7]) (by kernel_rfl) (by simp) ?_
                refine AllReadyH.cons (o := _) rfl (fun K hK => ?_) (AllReadyH.cons (o := _) rfl (fun K hK => ?_) AllReadyH.nil)
                · refine step_appI X1 (by rfl) (.const (.slice none 0 0)) (.tmp 216) (by rfl) ⟨bb, 0, none⟩ L.length L.length (dl L.length (gotB (fls L M))) (by rfl) (by rfl) (dl_len _ _) (hOb.out X1 hHeld.1) (by rw [dl_len]; omega) ?_
                  rintro v2 X2 ⟨vo, ko, hv2⟩ oN
                  have hvv := hv2.v
                  rw [dl_len] at hvv
                  subst hvv
                  try have dA14 : Hid (∀ ad, vo = some ad → ad.block ≠ x14) := fun ad e => by have := (hv2.n ad e).1; have := Boxed.lt hP.out; omega
                  try have dA15 : Hid (∀ ad, vo = some ad → ad.block ≠ x15) := fun ad e => by have := (hv2.n ad e).1; have := Boxed.lt hT.out; omega
                  refine hK.out _ _ ⟨hHeld.1.trans oN, oN.cell hHeld.2.1, oN.cell hHeld.2.2⟩ (fun hHeld2 => ?_)
                  clear hHeld hK
                  have hHeld := hHeld2
                  clear hHeld2
                  try have hR := hid (hR.out.frm oN (fun _ _ h => h))
                  try have hQ := hid (hQ.out.frm oN (fun _ _ h => h))
                  try have hP := hid (boxed_olds hP.out oN)
                  try have hT := hid (boxed_olds hT.out oN)
                  have hR : Hid (NwI w5.heap.size X2 (.slice vo L.length ko) vo ko (dl L.length (gotB (fls L M)))) := ⟨hv2.v, hv2.c, fun ad e => ⟨Nat.le_trans hsz.out (hv2.n ad e).1, (hv2.n ad e).2⟩⟩
                  have hsz := hid (Nat.le_trans hsz.out oN.size)
                  clear hv2 oN
                  try simp only [Act.put]
                  refine wpAnyH_ready (rs := [5, 7]) (by kernel_rfl) (by simp) ?_
                  refine AllReadyH.cons (o := _) rfl (fun K hK => ?_) (AllReadyH.cons (o := _) rfl (fun K hK => ?_) AllReadyH.nil)
                  · refine step_appI X2 (by rfl) (.const (.slice none 0 0)) (.tmp 219) (by rfl) ⟨sb, 0, none⟩ M.length M.length (dl M.length (gotS (fls L M))) (by rfl) (by rfl) (dl_len _ _) (hOs.out X2 hHeld.1) (by rw [dl_len]; omega) ?_
                    rintro v5 X3 ⟨uo, jo, hv2⟩ oN
                    have hvv := hv2.v
                    rw [dl_len] at hvv
                    subst hvv
                    have dVU : Hid (∀ ad ae, vo = some ad → uo = some ae → ad.block ≠ ae.block) := fun ad ae e e2 => by have := (hv2.n ae e2).1; have := (hR.out.n ad e).2; omega
                    try have dU14 : Hid (∀ ad, uo = some ad → ad.block ≠ x14) := fun ad e => by have := (hv2.n ad e).1; have := Boxed.lt hP.out; omega
                    try have dU15 : Hid (∀ ad, uo = some ad → ad.block ≠ x15) := fun ad e => by have := (hv2.n ad e).1; have := Boxed.lt hT.out; omega
                    refine hK.out _ _ ⟨hHeld.1.trans oN, oN.cell hHeld.2.1, oN.cell hHeld.2.2⟩ (fun hHeld2 => ?_)
                    clear hHeld hK
                    have hHeld := hHeld2
                    clear hHeld2
                    try have hR := hid (hR.out.frm oN (fun _ _ h => h))
                    try have hQ := hid (hQ.out.frm oN (fun _ _ h => h))
                    try have hP := hid (boxed_olds hP.out oN)
                    try have hT := hid (boxed_olds hT.out oN)
                    have hQ : Hid (NwI w5.heap.size X3 (.slice uo M.length jo) uo jo (dl M.length (gotS (fls L M)))) := ⟨hv2.v, hv2.c, fun ad e => ⟨Nat.le_trans hsz.out (hv2.n ad e).1, (hv2.n ad e).2⟩⟩
                    have hsz := hid (Nat.le_trans hsz.out oN.size)
                    clear hv2 oN
                    try simp only [Act.put]
                    refine wpAnyH_ready (rs := [7]) (by kernel_rfl) (by simp) ?_
                    refine AllReadyH.cons (o := _) rfl (fun K hK => ?_) AllReadyH.nil
                    · simp only [List.getElem_toArray, List.getElem_cons_zero, List.getElem_cons_succ]
                      go_simp
                      obtain ⟨X4, hnx⟩ : ∃ Z, X3.alloc (.cells #[.slice none 0 0] 26) = Z := ⟨_, rfl⟩
                      have oN : Old X3 X4 := by rw [← hnx]; exact (Old.refl X3).alloc _
                      have hP0 := Boxed.new X3 26 (.slice none 0 0)
                      rw [hnx] at hP0 ⊢
                      obtain ⟨x15, hx15⟩ : ∃ x, X3.heap.size = x := ⟨_, rfl⟩
                      rw [hx15] at hP0 ⊢
                      try have dA15 : Hid (∀ ad, vo = some ad → ad.block ≠ x15) := fun ad e => by have := (hR.out.n ad e).2; omega
                      try have dU15 : Hid (∀ ad, uo = some ad → ad.block ≠ x15) := fun ad e => by have := (hQ.out.n ad e).2; omega
                      try have dX : Hid (x14 ≠ x15) := fun e => by have := Boxed.lt hP.out; omega
                      have n15 : Hid (w5.heap.size ≤ x15) := by show _ ≤ _; have := hsz.out; omega
                      refine hK.out _ _ ⟨hHeld.1.trans oN, oN.cell hHeld.2.1, oN.cell hHeld.2.2⟩ (fun hHeld2 => ?_)
                      clear hHeld hK
                      have hHeld := hHeld2
                      clear hHeld2
                      try have hR := hid (hR.out.frm oN (fun _ _ h => h))
                      try have hQ := hid (hQ.out.frm oN (fun _ _ h => h))
                      try have hP := hid (boxed_olds hP.out oN)
                      try have hT := hid (boxed_olds hT.out oN)
                      have hT := hid hP0
                      have hsz := hid (Nat.le_trans hsz.out oN.size)
                      clear hP0 oN hx15 hnx
                      try simp only [Act.put]
                      try simp only [List.setIfInBounds_toArray]
                      clear hOb hOs hsz
                      have p0 := hP.out.cell
                      have pf := hP.out.frozen
                      have f1 := frm_set X4 x14 0 (.slice vo L.length ko)
                      have p1 := frm_cell f1 hT.out.cell (fun e => dX.out e.symm)
                      have pg := frm_frozen f1 (World.block_lt_of_cell? X4 _ hT.out.cell) hT.out.frozen (fun e => dX.out e.symm)
                      have f2 := frm_set (X4.setCell ⟨x14, 0, none⟩ (.slice vo L.length ko)) x15 0 (.slice uo M.length jo)
                      have kG : Hid (Ga wr w5 ((X4.setCell ⟨x14, 0, none⟩ (.slice vo L.length ko)).setCell ⟨x15, 0, none⟩ (.slice uo M.length jo)) L M x14 x15 vo ko uo jo) :=
                        ⟨boxed_frm (Boxed.set _ hP.out) f2 dX.out, Boxed.set _ (boxed_frm hT.out f1 (fun e => dX.out e.symm)), (hR.out.frm f1 dA14.out).frm f2 dA15.out, (hQ.out.frm f1 dU14.out).frm f2 dU15.out, Frm.trans (Frm.trans hHeld.1 f1 (fun i hi e => by have := n14.out; omega)) f2 (fun i hi e => by have := n15.out; omega), ⟨n14.out, n15.out, dX.out⟩, fun ad e => ⟨dA14.out ad e, dA15.out ad e⟩, fun ad e => ⟨dU14.out ad e, dU15.out ad e⟩, dVU.out⟩
                      have kS1 : Hid (Old w5 (X4.setCell ⟨x14, 0, none⟩ (.slice vo L.length ko)) ∧ _ ∧ _) := ⟨Frm.trans hHeld.1 f1 (fun i hi e => by have := n14.out; omega), frm_cell f1 hHeld.2.1 (by have := n14.out; dsimp only; omega), frm_cell f1 hHeld.2.2 (by have := n14.out; dsimp only; omega)⟩
                      have kS2 : Hid (Old w5 ((X4.setCell ⟨x14, 0, none⟩ (.slice vo L.length ko)).setCell ⟨x15, 0, none⟩ (.slice uo M.length jo)) ∧ _ ∧ _) := ⟨Frm.trans kS1.out.1 f2 (fun i hi e => by have := n15.out; omega), frm_cell f2 kS1.out.2.1 (by have := n15.out; dsimp only; omega), frm_cell f2 kS1.out.2.2 (by have := n15.out; dsimp only; omega)⟩
                      clear f1 f2 hP hT hR hQ dA14 dA15 dU14 dU15 dX dVU n14 n15
                      refine wpAnyH_ready (rs := [8]) (by kernel_rfl) (by simp) ?_
                      refine AllReadyH.cons (o := _) rfl (fun K hK => ?_) AllReadyH.nil
                      simp only [List.getElem_toArray, List.getElem_cons_zero, List.getElem_cons_succ]
                      go_simp
                      refine hK.out _ _ (kS1.out) (fun hHeld2 => ?_)
                      clear hHeld hK
                      have hHeld := hHeld2
                      clear hHeld2
                      try simp only [Act.put, List.setIfInBounds_toArray, List.set_cons_zero, List.set_cons_succ]
                      refine wpAnyH_ready (rs := [9]) (by kernel_rfl) (by simp) ?_
                      refine AllReadyH.cons (o := _) rfl (fun K hK => ?_) AllReadyH.nil
                      simp only [List.getElem_toArray, List.getElem_cons_zero, List.getElem_cons_succ]
                      go_simp
                      refine hK.out _ _ (kS2.out) (fun hHeld2 => ?_)
                      clear hHeld hK
                      have hHeld := hHeld2
                      clear hHeld2
                      try simp only [Act.put, List.setIfInBounds_toArray, List.set_cons_zero, List.set_cons_succ]
                      refine wpAnyH_done (by kernel_rfl) ?_ _
                      refine NoPanic.normal ?_
                      clear hHeld
                      gi_wp2_with fail
                      go_meet
                      case rel => exact ⟨x14, x15, vo, ko, uo, jo, rfl, rfl, kG⟩
                  · simp only [List.getElem_toArray, List.getElem_cons_zero, List.getElem_cons_succ]
                    go_simp
                    obtain ⟨X3, hnx⟩ : ∃ Z, X2.alloc (.cells #[.slice none 0 0] 26) = Z := ⟨_, rfl⟩
                    have oN : Old X2 X3 := by rw [← hnx]; exact (Old.refl X2).alloc _
                    have hP0 := Boxed.new X2 26 (.slice none 0 0)
                    rw [hnx] at hP0 ⊢
                    obtain ⟨x15, hx15⟩ : ∃ x, X2.heap.size = x := ⟨_, rfl⟩
                    rw [hx15] at hP0 ⊢
                    try have dA15 : Hid (∀ ad, vo = some ad → ad.block ≠ x15) := fun ad e => by have := (hR.out.n ad e).2; omega
                    try have dU15 : Hid (∀ ad, uo = some ad → ad.block ≠ x15) := fun ad e => by have := (hQ.out.n ad e).2; omega
                    try have dX : Hid (x14 ≠ x15) := fun e => by have := Boxed.lt hP.out; omega
                    have n15 : Hid (w5.heap.size ≤ x15) := by show _ ≤ _; have := hsz.out; omega
                    refine hK.out _ _ ⟨hHeld.1.trans oN, oN.cell hHeld.2.1, oN.cell hHeld.2.2⟩ (fun hHeld2 => ?_)
                    clear hHeld hK
                    have hHeld := hHeld2
                    clear hHeld2
                    try have hR := hid (hR.out.frm oN (fun _ _ h => h))
                    try have hQ := hid (hQ.out.frm oN (fun _ _ h => h))
                    try have hP := hid (boxed_olds hP.out oN)
                    try have hT := hid (boxed_olds hT.out oN)
                    have hT := hid hP0
                    have hsz := hid (Nat.le_trans hsz.out oN.size)
                    clear hP0 oN hx15 hnx
                    try simp only [Act.put]
                    refine wpAnyH_ready (rs := [5]) (by kernel_rfl) (by simp) ?_
                    refine AllReadyH.cons (o := _) rfl (fun K hK => ?_) AllReadyH.nil
                    · refine step_appI X3 (by rfl) (.const (.slice none 0 0)) (.tmp 219) (by rfl) ⟨sb, 0, none⟩ M.length M.length (dl M.length (gotS (fls L M))) (by rfl) (by rfl) (dl_len _ _) (hOs.out X3 hHeld.1) (by rw [dl_len]; omega) ?_
                      rintro v5 X4 ⟨uo, jo, hv2⟩ oN
                      have hvv := hv2.v
                      rw [dl_len] at hvv
                      subst hvv
                      have dVU : Hid (∀ ad ae, vo = some ad → uo = some ae → ad.block ≠ ae.block) := fun ad ae e e2 => by have := (hv2.n ae e2).1; have := (hR.out.n ad e).2; omega
                      try have dU14 : Hid (∀ ad, uo = some ad → ad.block ≠ x14) := fun ad e => by have := (hv2.n ad e).1; have := Boxed.lt hP.out; omega
                      try have dU15 : Hid (∀ ad, uo = some ad → ad.block ≠ x15) := fun ad e => by have := (hv2.n ad e).1; have := Boxed.lt hT.out; omega
                      refine hK.out _ _ ⟨hHeld.1.trans oN, oN.cell hHeld.2.1, oN.cell hHeld.2.2⟩ (fun hHeld2 => ?_)
                      clear hHeld hK
                      have hHeld := hHeld2
                      clear hHeld2
                      try have hR := hid (hR.out.frm oN (fun _ _ h => h))
                      try have hQ := hid (hQ.out.frm oN (fun _ _ h => h))
                      try have hP := hid (boxed_olds hP.out oN)
                      try have hT := hid (boxed_olds hT.out oN)
                      have hQ : Hid (NwI w5.heap.size X4 (.slice uo M.length jo) uo jo (dl M.length (gotS (fls L M)))) := ⟨hv2.v, hv2.c, fun ad e => ⟨Nat.le_trans hsz.out (hv2.n ad e).1, (hv2.n ad e).2⟩⟩
                      have hsz := hid (Nat.le_trans hsz.out oN.size)
                      clear hv2 oN
                      try simp only [Act.put]
                      try simp only [List.setIfInBounds_toArray]
                      clear hOb hOs hsz
                      have p0 := hP.out.cell
                      have pf := hP.out.frozen
                      have f1 := frm_set X4 x14 0 (.slice vo L.length ko)
                      have p1 := frm_cell f1 hT.out.cell (fun e => dX.out e.symm)
                      have pg := frm_frozen f1 (World.block_lt_of_cell? X4 _ hT.out.cell) hT.out.frozen (fun e => dX.out e.symm)
                      have f2 := frm_set (X4.setCell ⟨x14, 0, none⟩ (.slice vo L.length ko)) x15 0 (.slice uo M.length jo)
                      have kG : Hid (Ga wr w5 ((X4.setCell ⟨x14, 0, none⟩ (.slice vo L.length ko)).setCell ⟨x15, 0, none⟩ (.slice uo M.length jo)) L M x14 x15 vo ko uo jo) :=
                        ⟨boxed_frm (Boxed.set _ hP.out) f2 dX.out, Boxed.set _ (boxed_frm hT.out f1 (fun e => dX.out e.symm)), (hR.out.frm f1 dA14.out).frm f2 dA15.out, (hQ.out.frm f1 dU14.out).frm f2 dU15.out, Frm.trans (Frm.trans hHeld.1 f1 (fun i hi e => by have := n14.out; omega)) f2 (fun i hi e => by have := n15.out; omega), ⟨n14.out, n15.out, dX.out⟩, fun ad e => ⟨dA14.out ad e, dA15.out ad e⟩, fun ad e => ⟨dU14.out ad e, dU15.out ad e⟩, dVU.out⟩
                      have kS1 : Hid (Old w5 (X4.setCell ⟨x14, 0, none⟩ (.slice vo L.length ko)) ∧ _ ∧ _) := ⟨Frm.trans hHeld.1 f1 (fun i hi e => by have := n14.out; omega), frm_cell f1 hHeld.2.1 (by have := n14.out; dsimp only; omega), frm_cell f1 hHeld.2.2 (by have := n14.out; dsimp only; omega)⟩
                      have kS2 : Hid (Old w5 ((X4.setCell ⟨x14, 0, none⟩ (.slice vo L.length ko)).setCell ⟨x15, 0, none⟩ (.slice uo M.length jo)) ∧ _ ∧ _) := ⟨Frm.trans kS1.out.1 f2 (fun i hi e => by have := n15.out; omega), frm_cell f2 kS1.out.2.1 (by have := n15.out; dsimp only; omega), frm_cell f2 kS1.out.2.2 (by have := n15.out; dsimp only; omega)⟩
                      clear f1 f2 hP hT hR hQ dA14 dA15 dU14 dU15 dX dVU n14 n15
                      refine wpAnyH_ready (rs := [8]) (by kernel_rfl) (by simp) ?_
                      refine AllReadyH.cons (o := _) rfl (fun K hK => ?_) AllReadyH.nil
                      simp only [List.getElem_toArray, List.getElem_cons_zero, List.getElem_cons_succ]
                      go_simp
                      refine hK.out _ _ (kS1.out) (fun hHeld2 => ?_)
                      clear hHeld hK
                      have hHeld := hHeld2
                      clear hHeld2
                      try simp only [Act.put, List.setIfInBounds_toArray, List.set_cons_zero, List.set_cons_succ]
                      refine wpAnyH_ready (rs := [9]) (by kernel_rfl) (by simp) ?_
                      refine AllReadyH.cons (o := _) rfl (fun K hK => ?_) AllReadyH.nil
                      simp only [List.getElem_toArray, List.getElem_cons_zero, List.getElem_cons_succ]
                      go_simp
                      refine hK.out _ _ (kS2.out) (fun hHeld2 => ?_)
                      clear hHeld hK
                      have hHeld := hHeld2
                      clear hHeld2
                      try simp only [Act.put, List.setIfInBounds_toArray, List.set_cons_zero, List.set_cons_succ]
                      refine wpAnyH_done (by kernel_rfl) ?_ _
                      refine NoPanic.normal ?_
                      clear hHeld
                      gi_wp2_with fail
                      go_meet
                      case rel => exact ⟨x14, x15, vo, ko, uo, jo, rfl, rfl, kG⟩
                · simp only [List.getElem_toArray, List.getElem_cons_zero, List.getElem_cons_succ]
                  go_simp
                  obtain ⟨X2, hnx⟩ : ∃ Z, X1.alloc (.cells #[.slice none 0 0] 26) = Z := ⟨_, rfl⟩
                  have oN : Old X1 X2 := by rw [← hnx]; exact (Old.refl X1).alloc _
                  have hP0 := Boxed.new X1 26 (.slice none 0 0)
                  rw [hnx] at hP0 ⊢
                  obtain ⟨x15, hx15⟩ : ∃ x, X1.heap.size = x := ⟨_, rfl⟩
                  rw [hx15] at hP0 ⊢
                  try have dA15 : Hid (∀ ad, vo = some ad → ad.block ≠ x15) := fun ad e => by have := (hR.out.n ad e).2; omega
                  try have dU15 : Hid (∀ ad, uo = some ad → ad.block ≠ x15) := fun ad e => by have := (hQ.out.n ad e).2; omega
                  try have dX : Hid (x14 ≠ x15) := fun e => by have := Boxed.lt hP.out; omega
                  have n15 : Hid (w5.heap.size ≤ x15) := by show _ ≤ _; have := hsz.out; omega
                  refine hK.out _ _ ⟨hHeld.1.trans oN, oN.cell hHeld.2.1, oN.cell hHeld.2.2⟩ (fun hHeld2 => ?_)
                  clear hHeld hK
                  have hHeld := hHeld2
                  clear hHeld2
                  try have hR := hid (hR.out.frm oN (fun _ _ h => h))
                  try have hQ := hid (hQ.out.frm oN (fun _ _ h => h))
                  try have hP := hid (boxed_olds hP.out oN)
                  try have hT := hid (boxed_olds hT.out oN)
                  have hT := hid hP0
                  have hsz := hid (Nat.le_trans hsz.out oN.size)
                  clear hP0 oN hx15 hnx
                  try simp only [Act.put]
                  refine wpAnyH_ready (rs := [2]) (by kernel_rfl) (by simp) ?_
                  refine AllReadyH.cons (o := _) rfl (fun K hK => ?_) AllReadyH.nil
                  · refine step_appI X2 (by rfl) (.const (.slice none 0 0)) (.tmp 216) (by rfl) ⟨bb, 0, none⟩ L.length L.length (dl L.length (gotB (fls L M))) (by rfl) (by rfl) (dl_len _ _) (hOb.out X2 hHeld.1) (by rw [dl_len]; omega) ?_
                    rintro v2 X3 ⟨vo, ko, hv2⟩ oN
                    have hvv := hv2.v
                    rw [dl_len] at hvv
                    subst hvv
                    try have dA14 : Hid (∀ ad, vo = some ad → ad.block ≠ x14) := fun ad e => by have := (hv2.n ad e).1; have := Boxed.lt hP.out; omega
                    try have dA15 : Hid (∀ ad, vo = some ad → ad.block ≠ x15) := fun ad e => by have := (hv2.n ad e).1; have := Boxed.lt hT.out; omega
                    refine hK.out _ _ ⟨hHeld.1.trans oN, oN.cell hHeld.2.1, oN.cell hHeld.2.2⟩ (fun hHeld2 => ?_)
                    clear hHeld hK
                    have hHeld := hHeld2
                    clear hHeld2
                    try have hR := hid (hR.out.frm oN (fun _ _ h => h))
                    try have hQ := hid (hQ.out.frm oN (fun _ _ h => h))
                    try have hP := hid (boxed_olds hP.out oN)
                    try have hT := hid (boxed_olds hT.out oN)
                    have hR : Hid (NwI w5.heap.size X3 (.slice vo L.length ko) vo ko (dl L.length (gotB (fls L M)))) := ⟨hv2.v, hv2.c, fun ad e => ⟨Nat.le_trans hsz.out (hv2.n ad e).1, (hv2.n ad e).2⟩⟩
                    have hsz := hid (Nat.le_trans hsz.out oN.size)
                    clear hv2 oN
                    try simp only [Act.put]
                    refine wpAnyH_ready (rs := [5]) (by kernel_rfl) (by simp) ?_
                    refine AllReadyH.cons (o := _) rfl (fun K hK => ?_) AllReadyH.nil
                    · refine step_appI X3 (by rfl) (.const (.slice none 0 0)) (.tmp 219) (by rfl) ⟨sb, 0, none⟩ M.length M.length (dl M.length (gotS (fls L M))) (by rfl) (by rfl) (dl_len _ _) (hOs.out X3 hHeld.1) (by rw [dl_len]; omega) ?_
                      rintro v5 X4 ⟨uo, jo, hv2⟩ oN
                      have hvv := hv2.v
                      rw [dl_len] at hvv
                      subst hvv
                      have dVU : Hid (∀ ad ae, vo = some ad → uo = some ae → ad.block ≠ ae.block) := fun ad ae e e2 => by have := (hv2.n ae e2).1; have := (hR.out.n ad e).2; omega
                      try have dU14 : Hid (∀ ad, uo = some ad → ad.block ≠ x14) := fun ad e => by have := (hv2.n ad e).1; have := Boxed.lt hP.out; omega
                      try have dU15 : Hid (∀ ad, uo = some ad → ad.block ≠ x15) := fun ad e => by have := (hv2.n ad e).1; have := Boxed.lt hT.out; omega
                      refine hK.out _ _ ⟨hHeld.1.trans oN, oN.cell hHeld.2.1, oN.cell hHeld.2.2⟩ (fun hHeld2 => ?_)
                      clear hHeld hK
                      have hHeld := hHeld2
                      clear hHeld2
                      try have hR := hid (hR.out.frm oN (fun _ _ h => h))
                      try have hQ := hid (hQ.out.frm oN (fun _ _ h => h))
                      try have hP := hid (boxed_olds hP.out oN)
                      try have hT := hid (boxed_olds hT.out oN)
                      have hQ : Hid (NwI w5.heap.size X4 (.slice uo M.length jo) uo jo (dl M.length (gotS (fls L M)))) := ⟨hv2.v, hv2.c, fun ad e => ⟨Nat.le_trans hsz.out (hv2.n ad e).1, (hv2.n ad e).2⟩⟩
                      have hsz := hid (Nat.le_trans hsz.out oN.size)
                      clear hv2 oN
                      try simp only [Act.put]
                      try simp only [List.setIfInBounds_toArray]
                      clear hOb hOs hsz
                      have p0 := hP.out.cell
                      have pf := hP.out.frozen
                      have f1 := frm_set X4 x14 0 (.slice vo L.length ko)
                      have p1 := frm_cell f1 hT.out.cell (fun e => dX.out e.symm)
                      have pg := frm_frozen f1 (World.block_lt_of_cell? X4 _ hT.out.cell) hT.out.frozen (fun e => dX.out e.symm)
                      have f2 := frm_set (X4.setCell ⟨x14, 0, none⟩ (.slice vo L.length ko)) x15 0 (.slice uo M.length jo)
                      have kG : Hid (Ga wr w5 ((X4.setCell ⟨x14, 0, none⟩ (.slice vo L.length ko)).setCell ⟨x15, 0, none⟩ (.slice uo M.length jo)) L M x14 x15 vo ko uo jo) :=
                        ⟨boxed_frm (Boxed.set _ hP.out) f2 dX.out, Boxed.set _ (boxed_frm hT.out f1 (fun e => dX.out e.symm)), (hR.out.frm f1 dA14.out).frm f2 dA15.out, (hQ.out.frm f1 dU14.out).frm f2 dU15.out, Frm.trans (Frm.trans hHeld.1 f1 (fun i hi e => by have := n14.out; omega)) f2 (fun i hi e => by have := n15.out; omega), ⟨n14.out, n15.out, dX.out⟩, fun ad e => ⟨dA14.out ad e, dA15.out ad e⟩, fun ad e => ⟨dU14.out ad e, dU15.out ad e⟩, dVU.out⟩
                      have kS1 : Hid (Old w5 (X4.setCell ⟨x14, 0, none⟩ (.slice vo L.length ko)) ∧ _ ∧ _) := ⟨Frm.trans hHeld.1 f1 (fun i hi e => by have := n14.out; omega), frm_cell f1 hHeld.2.1 (by have := n14.out; dsimp only; omega), frm_cell f1 hHeld.2.2 (by have := n14.out; dsimp only; omega)⟩
                      have kS2 : Hid (Old w5 ((X4.setCell ⟨x14, 0, none⟩ (.slice vo L.length ko)).setCell ⟨x15, 0, none⟩ (.slice uo M.length jo)) ∧ _ ∧ _) := ⟨Frm.trans kS1.out.1 f2 (fun i hi e => by have := n15.out; omega), frm_cell f2 kS1.out.2.1 (by have := n15.out; dsimp only; omega), frm_cell f2 kS1.out.2.2 (by have := n15.out; dsimp only; omega)⟩
                      clear f1 f2 hP hT hR hQ dA14 dA15 dU14 dU15 dX dVU n14 n15
                      refine wpAnyH_ready (rs := [8]) (by kernel_rfl) (by simp) ?_
                      refine AllReadyH.cons (o := _) rfl (fun K hK => ?_) AllReadyH.nil
                      simp only [List.getElem_toArray, List.getElem_cons_zero, List.getElem_cons_succ]
                      go_simp
                      refine hK.out _ _ (kS1.out) (fun hHeld2 => ?_)
                      clear hHeld hK
                      have hHeld := hHeld2
                      clear hHeld2
                      try simp only [Act.put, List.setIfInBounds_toArray, List.set_cons_zero, List.set_cons_succ]
                      refine wpAnyH_ready (rs := [9]) (by kernel_rfl) (by simp) ?_
                      refine AllReadyH.cons (o := _) rfl (fun K hK => ?_) AllReadyH.nil
                      simp only [List.getElem_toArray, List.getElem_cons_zero, List.getElem_cons_succ]
                      go_simp
                      refine hK.out _ _ (kS2.out) (fun hHeld2 => ?_)
                      clear hHeld hK
                      have hHeld := hHeld2
                      clear hHeld2
                      try simp only [Act.put, List.setIfInBounds_toArray, List.set_cons_zero, List.set_cons_succ]
                      refine wpAnyH_done (by kernel_rfl) ?_ _
                      refine NoPanic.normal ?_
                      clear hHeld
                      gi_wp2_with fail
                      go_meet
                      case rel => exact ⟨x14, x15, vo, ko, uo, jo, rfl, rfl, kG⟩
              · simp only [List.getElem_toArray, List.getElem_cons_zero, List.getElem_cons_succ]
                go_simp
                obtain ⟨X1, hnx⟩ : ∃ Z, X0.alloc (.cells #[.slice none 0 0] 26) = Z := ⟨_, rfl⟩
                have oN : Old X0 X1 := by rw [← hnx]; exact (Old.refl X0).alloc _
                have hP0 := Boxed.new X0 26 (.slice none 0 0)
                rw [hnx] at hP0 ⊢
                obtain ⟨x15, hx15⟩ : ∃ x, X0.heap.size = x := ⟨_, rfl⟩
                rw [hx15] at hP0 ⊢
                try have dA15 : Hid (∀ ad, vo = some ad → ad.block ≠ x15) := fun ad e => by have := (hR.out.n ad e).2; omega
                try have dU15 : Hid (∀ ad, uo = some ad → ad.block ≠ x15) := fun ad e => by have := (hQ.out.n ad e).2; omega
                try have dX : Hid (x14 ≠ x15) := fun e => by have := Boxed.lt hP.out; omega
                have n15 : Hid (w5.heap.size ≤ x15) := by show _ ≤ _; have := hsz.out; omega
                refine hK.out _ _ ⟨hHeld.1.trans oN, oN.cell hHeld.2.1, oN.cell hHeld.2.2⟩ (fun hHeld2 => ?_)
                clear hHeld hK
                have hHeld := hHeld2
                clear hHeld2
                try have hR := hid (hR.out.frm oN (fun _ _ h => h))
                try have hQ := hid (hQ.out.frm oN (fun _ _ h => h))
                try have hP := hid (boxed_olds hP.out oN)
                try have hT := hid (boxed_olds hT.out oN)
                have hT := hid hP0
                have hsz := hid (Nat.le_trans hsz.out oN.size)
                clear hP0 oN hx15 hnx
                try simp only [Act.put]
                refine wpAnyH_ready (rs := [2, 6]) (by kernel_rfl) (by simp) ?_
                refine AllReadyH.cons (o := _) rfl (fun K hK => ?_) (AllReadyH.cons (o := _) rfl (fun K hK => ?_) AllReadyH.nil)
                · refine step_appI X1 (by rfl) (.const (.slice none 0 0)) (.tmp 216) (by rfl) ⟨bb, 0, none⟩ L.length L.length (dl L.length (gotB (fls L M))) (by rfl) (by rfl) (dl_len _ _) (hOb.out X1 hHeld.1) (by rw [dl_len]; omega) ?_
                  rintro v2 X2 ⟨vo, ko, hv2⟩ oN
                  have hvv := hv2.v
                  rw [dl_len] at hvv
                  subst hvv
                  try have dA14 : Hid (∀ ad, vo = some ad → ad.block ≠ x14) := fun ad e => by have := (hv2.n ad e).1; have := Boxed.lt hP.out; omega
                  try have dA15 : Hid (∀ ad, vo = some ad → ad.block ≠ x15) := fun ad e => by have := (hv2.n ad e).1; have := Boxed.lt hT.out; omega
                  refine hK.out _ _ ⟨hHeld.1.trans oN, oN.cell hHeld.2.1, oN.cell hHeld.2.2⟩ (fun hHeld2 => ?_)
                  clear hHeld hK
                  have hHeld := hHeld2
                  clear hHeld2
                  try have hR := hid (hR.out.frm oN (fun _ _ h => h))
                  try have hQ := hid (hQ.out.frm oN (fun _ _ h => h))
                  try have hP := hid (boxed_olds hP.out oN)
                  try have hT := hid (boxed_olds hT.out oN)
                  have hR : Hid (NwI w5.heap.size X2 (.slice vo L.length ko) vo ko (dl L.length (gotB (fls L M)))) := ⟨hv2.v, hv2.c, fun ad e => ⟨Nat.le_trans hsz.out (hv2.n ad e).1, (hv2.n ad e).2⟩⟩
                  have hsz := hid (Nat.le_trans hsz.out oN.size)
                  clear hv2 oN
                  try simp only [Act.put]
                  refine wpAnyH_ready (rs := [5, 6]) (by kernel_rfl) (by simp) ?_
                  refine AllReadyH.cons (o := _) rfl (fun K hK => ?_) (AllReadyH.cons (o := _) rfl (fun K hK => ?_) AllReadyH.nil)
                  · refine step_appI X2 (by rfl) (.const (.slice none 0 0)) (.tmp 219) (by rfl) ⟨sb, 0, none⟩ M.length M.length (dl M.length (gotS (fls L M))) (by rfl) (by rfl) (dl_len _ _) (hOs.out X2 hHeld.1) (by rw [dl_len]; omega) ?_
                    rintro v5 X3 ⟨uo, jo, hv2⟩ oN
                    have hvv := hv2.v
                    rw [dl_len] at hvv
                    subst hvv
                    have dVU : Hid (∀ ad ae, vo = some ad → uo = some ae → ad.block ≠ ae.block) := fun ad ae e e2 => by have := (hv2.n ae e2).1; have := (hR.out.n ad e).2; omega
                    try have dU14 : Hid (∀ ad, uo = some ad → ad.block ≠ x14) := fun ad e => by have := (hv2.n ad e).1; have := Boxed.lt hP.out; omega
                    try have dU15 : Hid (∀ ad, uo = some ad → ad.block ≠ x15) := fun ad e => by have := (hv2.n ad e).1; have := Boxed.lt hT.out; omega
                    refine hK.out _ _ ⟨hHeld.1.trans oN, oN.cell hHeld.2.1, oN.cell hHeld.2.2⟩ (fun hHeld2 => ?_)
                    clear hHeld hK
                    have hHeld := hHeld2
                    clear hHeld2
                    try have hR := hid (hR.out.frm oN (fun _ _ h => h))
                    try have hQ := hid (hQ.out.frm oN (fun _ _ h => h))
                    try have hP := hid (boxed_olds hP.out oN)
                    try have hT := hid (boxed_olds hT.out oN)
                    have hQ : Hid (NwI w5.heap.size X3 (.slice uo M.length jo) uo jo (dl M.length (gotS (fls L M)))) := ⟨hv2.v, hv2.c, fun ad e => ⟨Nat.le_trans hsz.out (hv2.n ad e).1, (hv2.n ad e).2⟩⟩
                    have hsz := hid (Nat.le_trans hsz.out oN.size)
                    clear hv2 oN
                    try simp only [Act.put]
                    refine wpAnyH_ready (rs := [6]) (by kernel_rfl) (by simp) ?_
                    refine AllReadyH.cons (o := _) rfl (fun K hK => ?_) AllReadyH.nil
                    · simp only [List.getElem_toArray, List.getElem_cons_zero, List.getElem_cons_succ]
                      go_simp
                      obtain ⟨X4, hnx⟩ : ∃ Z, X3.alloc (.cells #[.slice none 0 0] 26) = Z := ⟨_, rfl⟩
                      have oN : Old X3 X4 := by rw [← hnx]; exact (Old.refl X3).alloc _
                      have hP0 := Boxed.new X3 26 (.slice none 0 0)
                      rw [hnx] at hP0 ⊢
                      obtain ⟨x14, hx14⟩ : ∃ x, X3.heap.size = x := ⟨_, rfl⟩
                      rw [hx14] at hP0 ⊢
                      try have dA14 : Hid (∀ ad, vo = some ad → ad.block ≠ x14) := fun ad e => by have := (hR.out.n ad e).2; omega
                      try have dU14 : Hid (∀ ad, uo = some ad → ad.block ≠ x14) := fun ad e => by have := (hQ.out.n ad e).2; omega
                      try have dX : Hid (x14 ≠ x15) := fun e => by have := Boxed.lt hT.out; omega
                      have n14 : Hid (w5.heap.size ≤ x14) := by show _ ≤ _; have := hsz.out; omega
                      refine hK.out _ _ ⟨hHeld.1.trans oN, oN.cell hHeld.2.1, oN.cell hHeld.2.2⟩ (fun hHeld2 => ?_)
                      clear hHeld hK
                      have hHeld := hHeld2
                      clear hHeld2
                      try have hR := hid (hR.out.frm oN (fun _ _ h => h))
                      try have hQ := hid (hQ.out.frm oN (fun _ _ h => h))
                      try have hP := hid (boxed_olds hP.out oN)
                      try have hT := hid (boxed_olds hT.out oN)
                      have hP := hid hP0
                      have hsz := hid (Nat.le_trans hsz.out oN.size)
                      clear hP0 oN hx14 hnx
                      try simp only [Act.put]
                      try simp only [List.setIfInBounds_toArray]
                      clear hOb hOs hsz
                      have p0 := hP.out.cell
                      have pf := hP.out.frozen
                      have f1 := frm_set X4 x14 0 (.slice vo L.length ko)
                      have p1 := frm_cell f1 hT.out.cell (fun e => dX.out e.symm)
                      have pg := frm_frozen f1 (World.block_lt_of_cell? X4 _ hT.out.cell) hT.out.frozen (fun e => dX.out e.symm)
                      have f2 := frm_set (X4.setCell ⟨x14, 0, none⟩ (.slice vo L.length ko)) x15 0 (.slice uo M.length jo)
                      have kG : Hid (Ga wr w5 ((X4.setCell ⟨x14, 0, none⟩ (.slice vo L.length ko)).setCell ⟨x15, 0, none⟩ (.slice uo M.length jo)) L M x14 x15 vo ko uo jo) :=
                        ⟨boxed_frm (Boxed.set _ hP.out) f2 dX.out, Boxed.set _ (boxed_frm hT.out f1 (fun e => dX.out e.symm)), (hR.out.frm f1 dA14.out).frm f2 dA15.out, (hQ.out.frm f1 dU14.out).frm f2 dU15.out, Frm.trans (Frm.trans hHeld.1 f1 (fun i hi e => by have := n14.out; omega)) f2 (fun i hi e => by have := n15.out; omega), ⟨n14.out, n15.out, dX.out⟩, fun ad e => ⟨dA14.out ad e, dA15.out ad e⟩, fun ad e => ⟨dU14.out ad e, dU15.out ad e⟩, dVU.out⟩
                      have kS1 : Hid (Old w5 (X4.setCell ⟨x14, 0, none⟩ (.slice vo L.length ko)) ∧ _ ∧ _) := ⟨Frm.trans hHeld.1 f1 (fun i hi e => by have := n14.out; omega), frm_cell f1 hHeld.2.1 (by have := n14.out; dsimp only; omega), frm_cell f1 hHeld.2.2 (by have := n14.out; dsimp only; omega)⟩
                      have kS2 : Hid (Old w5 ((X4.setCell ⟨x14, 0, none⟩ (.slice vo L.length ko)).setCell ⟨x15, 0, none⟩ (.slice uo M.length jo)) ∧ _ ∧ _) := ⟨Frm.trans kS1.out.1 f2 (fun i hi e => by have := n15.out; omega), frm_cell f2 kS1.out.2.1 (by have := n15.out; dsimp only; omega), frm_cell f2 kS1.out.2.2 (by have := n15.out; dsimp only; omega)⟩
                      clear f1 f2 hP hT hR hQ dA14 dA15 dU14 dU15 dX dVU n14 n15
                      refine wpAnyH_ready (rs := [8]) (by kernel_rfl) (by simp) ?_
                      refine AllReadyH.cons (o := _) rfl (fun K hK => ?_) AllReadyH.nil
                      simp only [List.getElem_toArray, List.getElem_cons_zero, List.getElem_cons_succ]
                      go_simp
                      refine hK.out _ _ (kS1.out) (fun hHeld2 => ?_)
                      clear hHeld hK
                      have hHeld := hHeld2
                      clear hHeld2
                      try simp only [Act.put, List.setIfInBounds_toArray, List.set_cons_zero, List.set_cons_succ]
                      refine wpAnyH_ready (rs := [9]) (by kernel_rfl) (by simp) ?_
                      refine AllReadyH.cons (o := _) rfl (fun K hK => ?_) AllReadyH.nil
                      simp only [List.getElem_toArray, List.getElem_cons_zero, List.getElem_cons_succ]
                      go_simp
                      refine hK.out _ _ (kS2.out) (fun hHeld2 => ?_)
                      clear hHeld hK
                      have hHeld := hHeld2
                      clear hHeld2
                      try simp only [Act.put, List.setIfInBounds_toArray, List.set_cons_zero, List.set_cons_succ]
                      refine wpAnyH_done (by kernel_rfl) ?_ _
                      refine NoPanic.normal ?_
                      clear hHeld
                      gi_wp2_with fail
                      go_meet
                      case rel => exact ⟨x14, x15, vo, ko, uo, jo, rfl, rfl, kG⟩
                  · simp only [List.getElem_toArray, List.getElem_cons_zero, List.getElem_cons_succ]
                    go_simp
                    obtain ⟨X3, hnx⟩ : ∃ Z, X2.alloc (.cells #[.slice none 0 0] 26) = Z := ⟨_, rfl⟩
                    have oN : Old X2 X3 := by rw [← hnx]; exact (Old.refl X2).alloc _
                    have hP0 := Boxed.new X2 26 (.slice none 0 0)
                    rw [hnx] at hP0 ⊢
                    obtain ⟨x14, hx14⟩ : ∃ x, X2.heap.size = x := ⟨_, rfl⟩
                    rw [hx14] at hP0 ⊢
                    try have dA14 : Hid (∀ ad, vo = some ad → ad.block ≠ x14) := fun ad e => by have := (hR.out.n ad e).2; omega
                    try have dU14 : Hid (∀ ad, uo = some ad → ad.block ≠ x14) := fun ad e => by have := (hQ.out.n ad e).2; omega
                    try have dX : Hid (x14 ≠ x15) := fun e => by have := Boxed.lt hT.out; omega
                    have n14 : Hid (w5.heap.size ≤ x14) := by show _ ≤ _; have := hsz.out; omega
                    refine hK.out _ _ ⟨hHeld.1.trans oN, oN.cell hHeld.2.1, oN.cell hHeld.2.2⟩ (fun hHeld2 => ?_)
                    clear hHeld hK
                    have hHeld := hHeld2
                    clear hHeld2
                    try have hR := hid (hR.out.frm oN (fun _ _ h => h))
                    try have hQ := hid (hQ.out.frm oN (fun _ _ h => h))
                    try have hP := hid (boxed_olds hP.out oN)
                    try have hT := hid (boxed_olds hT.out oN)
                    have hP := hid hP0
                    have hsz := hid (Nat.le_trans hsz.out oN.size)
                    clear hP0 oN hx14 hnx
                    try simp only [Act.put]
                    refine wpAnyH_ready (rs := [5]) (by kernel_rfl) (by simp) ?_
                    refine AllReadyH.cons (o := _) rfl (fun K hK => ?_) AllReadyH.nil
                    · refine step_appI X3 (by rfl) (.const (.slice none 0 0)) (.tmp 219) (by rfl) ⟨sb, 0, none⟩ M.length M.length (dl M.length (gotS (fls L M))) (by rfl) (by rfl) (dl_len _ _) (hOs.out X3 hHeld.1) (by rw [dl_len]; omega) ?_
                      rintro v5 X4 ⟨uo, jo, hv2⟩ oN
                      have hvv := hv2.v
                      rw [dl_len] at hvv
                      subst hvv
                      have dVU : Hid (∀ ad ae, vo = some ad → uo = some ae → ad.block ≠ ae.block) := fun ad ae e e2 => by have := (hv2.n ae e2).1; have := (hR.out.n ad e).2; omega
                      try have dU14 : Hid (∀ ad, uo = some ad → ad.block ≠ x14) := fun ad e => by have := (hv2.n ad e).1; have := Boxed.lt hP.out; omega
                      try have dU15 : Hid (∀ ad, uo = some ad → ad.block ≠ x15) := fun ad e => by have := (hv2.n ad e).1; have := Boxed.lt hT.out; omega
                      refine hK.out _ _ ⟨hHeld.1.trans oN, oN.cell hHeld.2.1, oN.cell hHeld.2.2⟩ (fun hHeld2 => ?_)
                      clear hHeld hK
                      have hHeld := hHeld2
                      clear hHeld2
                      try have hR := hid (hR.out.frm oN (fun _ _ h => h))
                      try have hQ := hid (hQ.out.frm oN (fun _ _ h => h))
                      try have hP := hid (boxed_olds hP.out oN)
                      try have hT := hid (boxed_olds hT.out oN)
                      have hQ : Hid (NwI w5.heap.size X4 (.slice uo M.length jo) uo jo (dl M.length (gotS (fls L M)))) := ⟨hv2.v, hv2.c, fun ad e => ⟨Nat.le_trans hsz.out (hv2.n ad e).1, (hv2.n ad e).2⟩⟩
                      have hsz := hid (Nat.le_trans hsz.out oN.size)
                      clear hv2 oN
                      try simp only [Act.put]
                      try simp only [List.setIfInBounds_toArray]
                      clear hOb hOs hsz
                      have p0 := hP.out.cell
                      have pf := hP.out.frozen
                      have f1 := frm_set X4 x14 0 (.slice vo L.length ko)
                      have p1 := frm_cell f1 hT.out.cell (fun e => dX.out e.symm)
                      have pg := frm_frozen f1 (World.block_lt_of_cell? X4 _ hT.out.cell) hT.out.frozen (fun e => dX.out e.symm)
                      have f2 := frm_set (X4.setCell ⟨x14, 0, none⟩ (.slice vo L.length ko)) x15 0 (.slice uo M.length jo)
                      have kG : Hid (Ga wr w5 ((X4.setCell ⟨x14, 0, none⟩ (.slice vo L.length ko)).setCell ⟨x15, 0, none⟩ (.slice uo M.length jo)) L M x14 x15 vo ko uo jo) :=
                        ⟨boxed_frm (Boxed.set _ hP.out) f2 dX.out, Boxed.set _ (boxed_frm hT.out f1 (fun e => dX.out e.symm)), (hR.out.frm f1 dA14.out).frm f2 dA15.out, (hQ.out.frm f1 dU14.out).frm f2 dU15.out, Frm.trans (Frm.trans hHeld.1 f1 (fun i hi e => by have := n14.out; omega)) f2 (fun i hi e => by have := n15.out; omega), ⟨n14.out, n15.out, dX.out⟩, fun ad e => ⟨dA14.out ad e, dA15.out ad e⟩, fun ad e => ⟨dU14.out ad e, dU15.out ad e⟩, dVU.out⟩
                      have kS1 : Hid (Old w5 (X4.setCell ⟨x14, 0, none⟩ (.slice vo L.length ko)) ∧ _ ∧ _) := ⟨Frm.trans hHeld.1 f1 (fun i hi e => by have := n14.out; omega), frm_cell f1 hHeld.2.1 (by have := n14.out; dsimp only; omega), frm_cell f1 hHeld.2.2 (by have := n14.out; dsimp only; omega)⟩
                      have kS2 : Hid (Old w5 ((X4.setCell ⟨x14, 0, none⟩ (.slice vo L.length ko)).setCell ⟨x15, 0, none⟩ (.slice uo M.length jo)) ∧ _ ∧ _) := ⟨Frm.trans kS1.out.1 f2 (fun i hi e => by have := n15.out; omega), frm_cell f2 kS1.out.2.1 (by have := n15.out; dsimp only; omega), frm_cell f2 kS1.out.2.2 (by have := n15.out; dsimp only; omega)⟩
                      clear f1 f2 hP hT hR hQ dA14 dA15 dU14 dU15 dX dVU n14 n15
                      refine wpAnyH_ready (rs := [8]) (by kernel_rfl) (by simp) ?_
                      refine AllReadyH.cons (o := _) rfl (fun K hK => ?_) AllReadyH.nil
                      simp only [List.getElem_toArray, List.getElem_cons_zero, List.getElem_cons_succ]
                      go_simp
                      refine hK.out _ _ (kS1.out) (fun hHeld2 => ?_)
                      clear hHeld hK
                      have hHeld := hHeld2
                      clear hHeld2
                      try simp only [Act.put, List.setIfInBounds_toArray, List.set_cons_zero, List.set_cons_succ]
                      refine wpAnyH_ready (rs := [9]) (by kernel_rfl) (by simp) ?_
                      refine AllReadyH.cons (o := _) rfl (fun K hK => ?_) AllReadyH.nil
                      simp only [List.getElem_toArray, List.getElem_cons_zero, List.getElem_cons_succ]
                      go_simp
                      refine hK.out _ _ (kS2.out) (fun hHeld2 => ?_)
                      clear hHeld hK
                      have hHeld := hHeld2
                      clear hHeld2
                      try simp only [Act.put, List.setIfInBounds_toArray, List.set_cons_zero, List.set_cons_succ]
                      refine wpAnyH_done (by kernel_rfl) ?_ _
                      refine NoPanic.normal ?_
                      clear hHeld
                      gi_wp2_with fail
                      go_meet
                      case rel => exact ⟨x14, x15, vo, ko, uo, jo, rfl, rfl, kG⟩
                · simp only [List.getElem_toArray, List.getElem_cons_zero, List.getElem_cons_succ]
                  go_simp
                  obtain ⟨X2, hnx⟩ : ∃ Z, X1.alloc (.cells #[.slice none 0 0] 26) = Z := ⟨_, rfl⟩
                  have oN : Old X1 X2 := by rw [← hnx]; exact (Old.refl X1).alloc _
                  have hP0 := Boxed.new X1 26 (.slice none 0 0)
                  rw [hnx] at hP0 ⊢
                  obtain ⟨x14, hx14⟩ : ∃ x, X1.heap.size = x := ⟨_, rfl⟩
                  rw [hx14] at hP0 ⊢
                  try have dA14 : Hid (∀ ad, vo = some ad → ad.block ≠ x14) := fun ad e => by have := (hR.out.n ad e).2; omega
                  try have dU14 : Hid (∀ ad, uo = some ad → ad.block ≠ x14) := fun ad e => by have := (hQ.out.n ad e).2; omega
                  try have dX : Hid (x14 ≠ x15) := fun e => by have := Boxed.lt hT.out; omega
                  have n14 : Hid (w5.heap.size ≤ x14) := by show _ ≤ _; have := hsz.out; omega
                  refine hK.out _ _ ⟨hHeld.1.trans oN, oN.cell hHeld.2.1, oN.cell hHeld.2.2⟩ (fun hHeld2 => ?_)
                  clear hHeld hK
                  have hHeld := hHeld2
                  clear hHeld2
                  try have hR := hid (hR.out.frm oN (fun _ _ h => h))
                  try have hQ := hid (hQ.out.frm oN (fun _ _ h => h))
                  try have hP := hid (boxed_olds hP.out oN)
                  try have hT := hid (boxed_olds hT.out oN)
                  have hP := hid hP0
                  have hsz := hid (Nat.le_trans hsz.out oN.size)
                  clear hP0 oN hx14 hnx
                  try simp only [Act.put]
                  refine wpAnyH_ready (rs := [2]) (by kernel_rfl) (by simp) ?_
                  refine AllReadyH.cons (o := _) rfl (fun K hK => ?_) AllReadyH.nil
                  · refine step_appI X2 (by rfl) (.const (.slice none 0 0)) (.tmp 216) (by rfl) ⟨bb, 0, none⟩ L.length L.length (dl L.length (gotB (fls L M))) (by rfl) (by rfl) (dl_len _ _) (hOb.out X2 hHeld.1) (by rw [dl_len]; omega) ?_
                    rintro v2 X3 ⟨vo, ko, hv2⟩ oN
                    have hvv := hv2.v
                    rw [dl_len] at hvv
                    subst hvv
                    try have dA14 : Hid (∀ ad, vo = some ad → ad.block ≠ x14) := fun ad e => by have := (hv2.n ad e).1; have := Boxed.lt hP.out; omega
                    try have dA15 : Hid (∀ ad, vo = some ad → ad.block ≠ x15) := fun ad e => by have := (hv2.n ad e).1; have := Boxed.lt hT.out; omega
                    refine hK.out _ _ ⟨hHeld.1.trans oN, oN.cell hHeld.2.1, oN.cell hHeld.2.2⟩ (fun hHeld2 => ?_)
                    clear hHeld hK
                    have hHeld := hHeld2
                    clear hHeld2
                    try have hR := hid (hR.out.frm oN (fun _ _ h => h))
                    try have hQ := hid (hQ.out.frm oN (fun _ _ h => h))
                    try have hP := hid (boxed_olds hP.out oN)
                    try have hT := hid (boxed_olds hT.out oN)
                    have hR : Hid (NwI w5.heap.size X3 (.slice vo L.length ko) vo ko (dl L.length (gotB (fls L M)))) := ⟨hv2.v, hv2.c, fun ad e => ⟨Nat.le_trans hsz.out (hv2.n ad e).1, (hv2.n ad e).2⟩⟩
                    have hsz := hid (Nat.le_trans hsz.out oN.size)
                    clear hv2 oN
                    try simp only [Act.put]
                    refine wpAnyH_ready (rs := [5]) (by kernel_rfl) (by simp) ?_
                    refine AllReadyH.cons (o := _) rfl (fun K hK => ?_) AllReadyH.nil
                    · refine step_appI X3 (by rfl) (.const (.slice none 0 0)) (.tmp 219) (by rfl) ⟨sb, 0, none⟩ M.length M.length (dl M.length (gotS (fls L M))) (by rfl) (by rfl) (dl_len _ _) (hOs.out X3 hHeld.1) (by rw [dl_len]; omega) ?_
                      rintro v5 X4 ⟨uo, jo, hv2⟩ oN
                      have hvv := hv2.v
                      rw [dl_len] at hvv
                      subst hvv
                      have dVU : Hid (∀ ad ae, vo = some ad → uo = some ae → ad.block ≠ ae.block) := fun ad ae e e2 => by have := (hv2.n ae e2).1; have := (hR.out.n ad e).2; omega
                      try have dU14 : Hid (∀ ad, uo = some ad → ad.block ≠ x14) := fun ad e => by have := (hv2.n ad e).1; have := Boxed.lt hP.out; omega
                      try have dU15 : Hid (∀ ad, uo = some ad → ad.block ≠ x15) := fun ad e => by have := (hv2.n ad e).1; have := Boxed.lt hT.out; omega
                      refine hK.out _ _ ⟨hHeld.1.trans oN, oN.cell hHeld.2.1, oN.cell hHeld.2.2⟩ (fun hHeld2 => ?_)
                      clear hHeld hK
                      have hHeld := hHeld2
                      clear hHeld2
                      try have hR := hid (hR.out.frm oN (fun _ _ h => h))
                      try have hQ := hid (hQ.out.frm oN (fun _ _ h => h))
                      try have hP := hid (boxed_olds hP.out oN)
                      try have hT := hid (boxed_olds hT.out oN)
                      have hQ : Hid (NwI w5.heap.size X4 (.slice uo M.length jo) uo jo (dl M.length (gotS (fls L M)))) := ⟨hv2.v, hv2.c, fun ad e => ⟨Nat.le_trans hsz.out (hv2.n ad e).1, (hv2.n ad e).2⟩⟩
                      have hsz := hid (Nat.le_trans hsz.out oN.size)
                      clear hv2 oN
                      try simp only [Act.put]
                      try simp only [List.setIfInBounds_toArray]
                      clear hOb hOs hsz
                      have p0 := hP.out.cell
                      have pf := hP.out.frozen
                      have f1 := frm_set X4 x14 0 (.slice vo L.length ko)
                      have p1 := frm_cell f1 hT.out.cell (fun e => dX.out e.symm)
                      have pg := frm_frozen f1 (World.block_lt_of_cell? X4 _ hT.out.cell) hT.out.frozen (fun e => dX.out e.symm)
                      have f2 := frm_set (X4.setCell ⟨x14, 0, none⟩ (.slice vo L.length ko)) x15 0 (.slice uo M.length jo)
                      have kG : Hid (Ga wr w5 ((X4.setCell ⟨x14, 0, none⟩ (.slice vo L.length ko)).setCell ⟨x15, 0, none⟩ (.slice uo M.length jo)) L M x14 x15 vo ko uo jo) :=
                        ⟨boxed_frm (Boxed.set _ hP.out) f2 dX.out, Boxed.set _ (boxed_frm hT.out f1 (fun e => dX.out e.symm)), (hR.out.frm f1 dA14.out).frm f2 dA15.out, (hQ.out.frm f1 dU14.out).frm f2 dU15.out, Frm.trans (Frm.trans hHeld.1 f1 (fun i hi e => by have := n14.out; omega)) f2 (fun i hi e => by have := n15.out; omega), ⟨n14.out, n15.out, dX.out⟩, fun ad e => ⟨dA14.out ad e, dA15.out ad e⟩, fun ad e => ⟨dU14.out ad e, dU15.out ad e⟩, dVU.out⟩
                      have kS1 : Hid (Old w5 (X4.setCell ⟨x14, 0, none⟩ (.slice vo L.length ko)) ∧ _ ∧ _) := ⟨Frm.trans hHeld.1 f1 (fun i hi e => by have := n14.out; omega), frm_cell f1 hHeld.2.1 (by have := n14.out; dsimp only; omega), frm_cell f1 hHeld.2.2 (by have := n14.out; dsimp only; omega)⟩
                      have kS2 : Hid (Old w5 ((X4.setCell ⟨x14, 0, none⟩ (.slice vo L.length ko)).setCell ⟨x15, 0, none⟩ (.slice uo M.length jo)) ∧ _ ∧ _) := ⟨Frm.trans kS1.out.1 f2 (fun i hi e => by have := n15.out; omega), frm_cell f2 kS1.out.2.1 (by have := n15.out; dsimp only; omega), frm_cell f2 kS1.out.2.2 (by have := n15.out; dsimp only; omega)⟩
                      clear f1 f2 hP hT hR hQ dA14 dA15 dU14 dU15 dX dVU n14 n15
                      refine wpAnyH_ready (rs := [8]) (by kernel_rfl) (by simp) ?_
                      refine AllReadyH.cons (o := _) rfl (fun K hK => ?_) AllReadyH.nil
                      simp only [List.getElem_toArray, List.getElem_cons_zero, List.getElem_cons_succ]
                      go_simp
                      refine hK.out _ _ (kS1.out) (fun hHeld2 => ?_)
                      clear hHeld hK
                      have hHeld := hHeld2
                      clear hHeld2
                      try simp only [Act.put, List.setIfInBounds_toArray, List.set_cons_zero, List.set_cons_succ]
                      refine wpAnyH_ready (rs := [9]) (by kernel_rfl) (by simp) ?_
                      refine AllReadyH.cons (o := _) rfl (fun K hK => ?_) AllReadyH.nil
                      simp only [List.getElem_toArray, List.getElem_cons_zero, List.getElem_cons_succ]
                      go_simp
                      refine hK.out _ _ (kS2.out) (fun hHeld2 => ?_)
                      clear hHeld hK
                      have hHeld := hHeld2
                      clear hHeld2
                      try simp only [Act.put, List.setIfInBounds_toArray, List.set_cons_zero, List.set_cons_succ]
                      refine wpAnyH_done (by kernel_rfl) ?_ _
                      refine NoPanic.normal ?_
                      clear hHeld
                      gi_wp2_with fail
                      go_meet
                      case rel => exact ⟨x14, x15, vo, ko, uo, jo, rfl, rfl, kG⟩
          case rest =>
            obtain ⟨x14, x15, vo, ko, uo, jo, rfl, rfl, hGa⟩ := hcut
            have hG0 : Hid (FG w s cl bb sb w5.heap.size wc.heap.size L M p t lo hi x14 x15 vo ko uo jo (lfB (fls L M) 0) (lfS (fls L M) 0) wc) := by
              have g := hGa.out
              have l1 := blk_lt kI5.out.res
              have l2 := blk_lt kI5.out.cal
              have l3 := kI5.out.b.lt
              have l4 := kI5.out.sl.lt
              have y1 := Boxed.lt g.b14
              have y2 := Boxed.lt g.b15
              have gn := g.n
              show FG _ _ _ _ _ _ _ _ _ _ _ _ _ _ _ _ _ _ _ _ _ _
              rw [lfB_zero, lfS_zero]
              exact ⟨kI5.out.olds g.old, ⟨l1, l2, l3, l4⟩, g.b14, g.b15, g.r, g.q, by omega, fun ad e => ⟨(g.na ad e).1, (g.na ad e).2, (g.r.n ad e).2⟩, fun ad e => ⟨(g.no ad e).1, (g.no ad e).2, (g.q.n ad e).2⟩, g.nx, g.old.size⟩
            have kTr := hid (kFl.out.tr.old hGa.out.old)
            have kNT := hid (kFl.out.tr.nt (T := fun k => vo = some ⟨k, 0, none⟩ ∨ uo = some ⟨k, 0, none⟩) (fun k e => by
              rcases e with e | e
              · exact (hGa.out.r.n _ e).1
              · exact (hGa.out.q.n _ e).1))
            have hTz : Hid (∀ k, (vo = some ⟨k, 0, none⟩ ∨ uo = some ⟨k, 0, none⟩) → k < wc.heap.size) := fun k e => by
              rcases e with e | e
              · exact (hGa.out.r.n _ e).2
              · exact (hGa.out.q.n _ e).2
            clear hGa kFl c4 c5 kI5 hsz5
            gi_wp2_with fail
            refine wpIn_wide.2 ?_
            refine range_onlyB (n := 5) (by omega) (gf := 45) (lb := #[.pointer (some ⟨b5, 0, none⟩), .pointer (some ⟨b6, 0, none⟩), .pointer (some ⟨b2, 0, none⟩), .pointer (some ⟨b3, 0, none⟩)]) rfl (enters_of Try.func45 (by kernel_rfl) rfl)
              (tr_stops 4 (by omega) b5 b6 b2 b3 rb rs a2 d2 e5 e6 L M kO.out.1 kO.out.2 (fun k => vo = some ⟨k, 0, none⟩ ∨ uo = some ⟨k, 0, none⟩) wc kNT.out kTr.out)
              (fun h k => h.trans k) (fun W o => KeptC.alloc W o) (fun W l o o' _ h1 h2 => KeptC.put W l o o' h1 h2) (fun _ => rfl)
              (fun q Y => ∃ k, q = (fls L M).take k ∧ k ≤ (fls L M).length ∧ FG w s cl bb sb w5.heap.size wc.heap.size L M p t lo hi x14 x15 vo ko uo jo (lfB (fls L M) k) (lfS (fls L M) k) Y)
              (fun q X Y ⟨k, h1, h2, h3⟩ hf => ⟨k, h1, h2, h3.frm hf (fun j e => e)⟩)
              ⟨0, by rw [List.take_zero], Nat.zero_le _, hG0.out⟩
              (fun x => .cells #[.int .i64 (x.b : Int), .int .i64 (x.s : Int), .int .i64 (x.n : Int)] 55)
              (fun x m t => (t.setIfInBounds 222 (.agg #[.int .i64 (x.b : Int), .int .i64 (x.s : Int), .int .i64 (x.n : Int)])).setIfInBounds 16 (.pointer (some ⟨m, 0, none⟩))) ?assign ?body ?fin
            case assign =>
              intro l' x W K hK
              simp only [encF]
              simp only [List.setIfInBounds_toArray, List.set_cons_zero, List.set_cons_succ] at hK
              gi_wp2
              exact hK
            case body =>
              as_aux_lemma =>
                clear hG0 kTr kNT
                rintro l' q x m Y ⟨k, rfl, hkl, hI⟩ ⟨k', hk', hpk⟩ hOb hm
                obtain ⟨hlt, rfl, rfl⟩ := pre_next hkl hk' hpk
                have hmem := List.getElem_mem hlt
                have ha := kF.out.at_ _ hmem
                have hge := lf_ge hlt
                have hnb := hid (lfB_next hlt)
                have hns := hid (lfS_next hlt)
                have hes : Hid ((fls L M).take k ++ [(fls L M)[k]] = (fls L M).take (k + 1)) := by
                  show _ = _
                  rw [List.take_succ_eq_append_getElem hlt]
                have hgb2 := kF.out.gb _ ha.1
                have hgs2 := kF.out.gs _ ha.2.1
                have hok1 := kO.out.1.ok _ ha.1
                have hok2 := kO.out.2.ok _ ha.2.1
                have hlb : lfB (fls L M) k (fls L M)[k].b ≤ gotB (fls L M) (fls L M)[k].b := Nat.sub_le _ _
                have hls : lfS (fls L M) k (fls L M)[k].s ≤ gotS (fls L M) (fls L M)[k].s := Nat.sub_le _ _
                obtain ⟨⟨fb, fs, fn⟩, hx⟩ : ∃ x, (fls L M)[k] = x := ⟨_, rfl⟩
                rw [hx] at hes hOb ha hge hnb hns hgb2 hgs2 hok1 hok2 hlb hls ⊢
                dsimp only at hOb ha hge hnb hns hgb2 hgs2 hok1 hok2 hlb hls ⊢
                obtain ⟨vb, hvb, cb0⟩ := hI.r.c fb (by rw [dl_len]; exact ha.1)
                obtain ⟨ub, hub, cs0⟩ := hI.q.c fs (by rw [dl_len]; exact ha.2.1)
                rw [dl_at ha.1] at cb0
                rw [dl_at ha.2.1] at cs0
                subst hvb hub
                have hna := hI.na _ rfl
                have hno := hI.no _ rfl
                have hnx := hI.nx _ _ rfl rfl
                have hxn := hI.n
                dsimp only at hna hno hnx
                obtain ⟨xb, hxb⟩ : ∃ xb, lfB (fls L M) k fb = xb := ⟨_, rfl⟩
                obtain ⟨xs, hxs⟩ : ∃ xs, lfS (fls L M) k fs = xs := ⟨_, rfl⟩
                rw [hxb] at cb0 hge hnb hlb
                rw [hxs] at cs0 hge hns hls
                have kxs := hid hxs
                have hb' : (fb : Int) < (L.length : Int) := by omega
                have hs' : (fs : Int) < (M.length : Int) := by omega
                have hb2' : ¬ (fb : Int) ≥ (L.length : Int) := by omega
                have hs2' : ¬ (fs : Int) ≥ (M.length : Int) := by omega
                have hn2' : ¬ (fn : Int) < 1 := by omega
                have hxbb : fn ≤ xb ∧ xb ≤ 64 ∧ fn ≤ xs ∧ xs ≤ 64 := by omega
                have m0 := blk_cells (i := 0) (v := .int .i64 (fb : Int)) hOb rfl
                have m1 := blk_cells (i := 1) (v := .int .i64 (fs : Int)) hOb rfl
                have m2 := blk_cells (i := 2) (v := .int .i64 (fn : Int)) hOb rfl
                have p14 := hI.b14.cell
                have p15 := hI.b15.cell
                have kI := hid hI
                simp only [List.setIfInBounds_toArray, List.set_cons_zero, List.set_cons_succ]
                clear hI hOb hpk hk' hx hxb hxs hgb2 hgs2 hok1 hok2 hlb hls hge hmem kF kFa kO kL kM hfn kN hmid hrng khs kp kt ht2 hTz
                gi_wp2_with fail
                have oY : Old Y Y.drew := (Old.refl Y).drewN 1
                have hww : Hid (IntKind.i64.wrap ((xb : Int) - (fn : Int)) = ((xb - fn : Nat) : Int)) := by
                  show _ = _
                  simp only [IntKind.wrap, IntKind.bits, IntKind.signed]
                  simp
                  omega
                have hI1 := hid ((kI.out.drew).setB fb (xb - fn))
                have hF := hid (frm_set Y.drew vb fb (.int .i64 ((xb - fn : Nat) : Int)))
                have q1 := oY.cell p14
                have q2 := oY.cell m0
                have q3 := oY.cell m2
                have z0 := oY.cell cb0.1
                have zf := frm_frozen oY (World.block_lt_of_cell? Y _ cb0.1) cb0.2 (fun h => h)
                have fr0 := hid (Frm.trans (oY.mono (T := fun k => k = vb ∨ k = ub) (fun _ _ h => h.elim)) (hF.out.mono (T := fun k => k = vb ∨ k = ub) (fun k _ h => by omega)) (fun _ _ h => h))
                have hne : Hid (m ≠ vb ∧ x14 ≠ vb) := ⟨by omega, by omega⟩
                refine region_round (S := fun W => W.cell? ⟨x14, 0, none⟩ = some (.slice (some ⟨vb, 0, none⟩) L.length ko) ∧ W.cell? ⟨m, 0, none⟩ = some (.int .i64 (fb : Int)) ∧ W.cell? ⟨m, 2, none⟩ = some (.int .i64 (fn : Int))) (by kernel_rfl) (by kernel_rfl) ⟨q1, q2, q3⟩ (fun hHeld => ?_)
                generalize Y.drew = Z at *
                refine' wpAnyH_take (i := 0) rfl (by kernel_rfl) (by kernel_rfl) (by kernel_rfl) (fun _ _ _ h => h) (Or.inl ⟨by rfl, ?_⟩) hHeld ?_
                rotate_left
                · intro W hSw
                  obtain ⟨r1, r2, r3⟩ := hSw
                  simp only [List.getElem_toArray, List.getElem_cons_zero]
                  go_simp
                  all_goals with_reducible rfl
                simp only [List.getElem_toArray, List.getElem_cons_zero, Act.put, List.setIfInBounds_toArray, List.set_cons_zero, List.set_cons_succ]
                refine' wpAnyH_take (i := 1) rfl (by kernel_rfl) (by kernel_rfl) (by kernel_rfl) (fun _ _ _ h => h) (Or.inl ⟨by rfl, ?_⟩) hHeld ?_
                rotate_left
                · intro W hSw
                  obtain ⟨r1, r2, r3⟩ := hSw
                  simp only [List.getElem_toArray, List.getElem_cons_zero, List.getElem_cons_succ]
                  go_simp
                  all_goals with_reducible rfl
                simp only [List.getElem_toArray, List.getElem_cons_zero, List.getElem_cons_succ, Act.put, List.setIfInBounds_toArray, List.set_cons_zero, List.set_cons_succ]
                refine' wpAnyH_take (i := 2) rfl (by kernel_rfl) (by kernel_rfl) (by kernel_rfl) (fun _ _ _ h => h) (Or.inl ⟨by rfl, ?_⟩) hHeld ?_
                rotate_left
                · intro W hSw
                  obtain ⟨r1, r2, r3⟩ := hSw
                  simp only [List.getElem_toArray, List.getElem_cons_zero, List.getElem_cons_succ]
                  go_simp
                  all_goals with_reducible rfl
                simp only [List.getElem_toArray, List.getElem_cons_zero, List.getElem_cons_succ, Act.put, List.setIfInBounds_toArray, List.set_cons_zero, List.set_cons_succ]
                refine' wpAnyH_take (i := 3) rfl (by kernel_rfl) (by kernel_rfl) (by kernel_rfl) (fun _ _ _ h => h) (Or.inl ⟨by rfl, ?_⟩) hHeld ?_
                rotate_left
                · intro W hSw
                  obtain ⟨r1, r2, r3⟩ := hSw
                  simp only [List.getElem_toArray, List.getElem_cons_zero, List.getElem_cons_succ]
                  go_simp
                  all_goals with_reducible rfl
                simp only [List.getElem_toArray, List.getElem_cons_zero, List.getElem_cons_succ, Act.put, List.setIfInBounds_toArray, List.set_cons_zero, List.set_cons_succ]
                refine' wpAnyH_take (i := 4) rfl (by kernel_rfl) (by kernel_rfl) (by kernel_rfl) (fun _ _ _ h => h) (Or.inl ⟨by rfl, ?_⟩) hHeld ?_
                rotate_left
                · intro W hSw
                  obtain ⟨r1, r2, r3⟩ := hSw
                  simp only [List.getElem_toArray, List.getElem_cons_zero, List.getElem_cons_succ]
                  go_simp
                  all_goals with_reducible rfl
                simp only [List.getElem_toArray, List.getElem_cons_zero, List.getElem_cons_succ, Act.put, List.setIfInBounds_toArray, List.set_cons_zero, List.set_cons_succ]
                refine' wpAnyH_take (i := 5) rfl (by kernel_rfl) (by kernel_rfl) (by kernel_rfl) (fun _ _ _ h => h) (Or.inl ⟨by rfl, ?_⟩) hHeld ?_
                rotate_left
                · intro W hSw
                  obtain ⟨r1, r2, r3⟩ := hSw
                  simp only [List.getElem_toArray, List.getElem_cons_zero, List.getElem_cons_succ]
                  go_simp
                  all_goals with_reducible rfl
                simp only [List.getElem_toArray, List.getElem_cons_zero, List.getElem_cons_succ, Act.put, List.setIfInBounds_toArray, List.set_cons_zero, List.set_cons_succ]
                refine' wpAnyH_take (i := 6) rfl (by kernel_rfl) (by kernel_rfl) (by kernel_rfl) (fun _ _ _ h => h) (Or.inl ⟨by rfl, ?_⟩) hHeld ?_
                rotate_left
                · intro W hSw
                  obtain ⟨r1, r2, r3⟩ := hSw
                  simp only [List.getElem_toArray, List.getElem_cons_zero, List.getElem_cons_succ]
                  go_simp
                  all_goals with_reducible rfl
                simp only [List.getElem_toArray, List.getElem_cons_zero, List.getElem_cons_succ, Act.put, List.setIfInBounds_toArray, List.set_cons_zero, List.set_cons_succ]
                refine' wpAnyH_take (i := 8) rfl (by kernel_rfl) (by kernel_rfl) (by kernel_rfl) (fun _ _ _ h => h) (Or.inl ⟨by rfl, ?_⟩) hHeld ?_
                rotate_left
                · intro W hSw
                  obtain ⟨r1, r2, r3⟩ := hSw
                  simp only [List.getElem_toArray, List.getElem_cons_zero, List.getElem_cons_succ]
                  go_simp
                  all_goals with_reducible rfl
                simp only [List.getElem_toArray, List.getElem_cons_zero, List.getElem_cons_succ, Act.put, List.setIfInBounds_toArray, List.set_cons_zero, List.set_cons_succ]
                refine' wpAnyH_take (i := 9) rfl (by kernel_rfl) (by kernel_rfl) (by kernel_rfl) (fun _ _ _ h => h) (Or.inl ⟨by rfl, ?_⟩) hHeld ?_
                rotate_left
                · intro W hSw
                  obtain ⟨r1, r2, r3⟩ := hSw
                  simp only [List.getElem_toArray, List.getElem_cons_zero, List.getElem_cons_succ]
                  go_simp
                  all_goals with_reducible rfl
                simp only [List.getElem_toArray, List.getElem_cons_zero, List.getElem_cons_succ, Act.put, List.setIfInBounds_toArray, List.set_cons_zero, List.set_cons_succ]
                refine wpAnyH_ready (rs := [7]) (by kernel_rfl) (by simp) ?_
                refine AllReadyH.cons (o := _) rfl (fun K hK => ?_) AllReadyH.nil
                simp only [List.getElem_toArray, List.getElem_cons_zero, List.getElem_cons_succ]
                go_simp
                refine hK.out _ _ (⟨q1, q2, q3⟩) (fun hHeld2 => ?_)
                clear hHeld hK
                have hHeld := hHeld2
                clear hHeld2
                try simp only [Act.put, List.setIfInBounds_toArray, List.set_cons_zero, List.set_cons_succ]
                refine' wpAnyH_take (i := 10) rfl (by kernel_rfl) (by kernel_rfl) (by kernel_rfl) (fun _ _ _ h => h) (Or.inl ⟨by rfl, ?_⟩) hHeld ?_
                rotate_left
                · intro W hSw
                  obtain ⟨r1, r2, r3⟩ := hSw
                  simp only [List.getElem_toArray, List.getElem_cons_zero, List.getElem_cons_succ]
                  go_simp
                  all_goals with_reducible rfl
                simp only [List.getElem_toArray, List.getElem_cons_zero, List.getElem_cons_succ, Act.put, List.setIfInBounds_toArray, List.set_cons_zero, List.set_cons_succ]
                refine' wpAnyH_take (i := 11) rfl (by kernel_rfl) (by kernel_rfl) (by kernel_rfl) (fun _ _ _ h => h) (Or.inl ⟨by rfl, ?_⟩) hHeld ?_
                rotate_left
                · intro W hSw
                  obtain ⟨r1, r2, r3⟩ := hSw
                  simp only [List.getElem_toArray, List.getElem_cons_zero, List.getElem_cons_succ]
                  go_simp
                  all_goals with_reducible rfl
                simp only [List.getElem_toArray, List.getElem_cons_zero, List.getElem_cons_succ, Act.put, List.setIfInBounds_toArray, List.set_cons_zero, List.set_cons_succ]
                refine wpAnyH_ready (rs := [12]) (by kernel_rfl) (by simp) ?_
                refine AllReadyH.cons (o := _) rfl (fun K hK => ?_) AllReadyH.nil
                simp only [List.getElem_toArray, List.getElem_cons_zero, List.getElem_cons_succ]
                go_simp
                rw [hww.out]
                have n1 := hid (frm_cell hF.out q1 hne.out.2)
                have n2 := hid (frm_cell hF.out q2 hne.out.1)
                have n3 := hid (frm_cell hF.out q3 hne.out.1)
                refine hK.out _ _ (⟨n1.out, n2.out, n3.out⟩) (fun hHeld2 => ?_)
                clear hHeld hK
                have hHeld := hHeld2
                clear hHeld2
                try simp only [Act.put, List.setIfInBounds_toArray, List.set_cons_zero, List.set_cons_succ]
                refine wpAnyH_done (by kernel_rfl) ?_ _
                refine OnlyN.normal ?_
                clear hHeld
                obtain ⟨Y1, hY1⟩ : ∃ Y1, Z.setCell ⟨vb, fb, none⟩ (.int .i64 ((xb - fn : Nat) : Int)) = Y1 := ⟨_, rfl⟩
                have m1 := frm_cell hF.out (oY.cell m1) hne.out.1
                have p15 := frm_cell hF.out (oY.cell p15) (by dsimp only; omega)
                rw [hY1] at hI1 fr0 n1 n2 n3 m1 p15 ⊢
                have m0 := n2.out
                have m2 := n3.out
                obtain ⟨ub', hub', cs0⟩ := hI1.out.q.c fs (by rw [dl_len]; exact ha.2.1)
                rw [dl_at ha.2.1, kxs.out] at cs0
                simp only [Option.some.injEq, Addr.mk.injEq, and_true] at hub'
                subst hub'
                clear hww hF q1 q2 q3 z0 zf hne n1 n2 n3 oY kI hY1 cb0 p14
                gi_wp2_with fail
                have oY : Old Y1 Y1.drew := (Old.refl Y1).drewN 1
                have hww : Hid (IntKind.i64.wrap ((xs : Int) - (fn : Int)) = ((xs - fn : Nat) : Int)) := by
                  show _ = _
                  simp only [IntKind.wrap, IntKind.bits, IntKind.signed]
                  simp
                  omega
                have hI2 := hid ((hI1.out.drew).setS fs (xs - fn))
                have hF := hid (frm_set Y1.drew ub fs (.int .i64 ((xs - fn : Nat) : Int)))
                have q1 := oY.cell p15
                have q2 := oY.cell m1
                have q3 := oY.cell m2
                have z0 := oY.cell cs0.1
                have zf := frm_frozen oY (World.block_lt_of_cell? Y1 _ cs0.1) cs0.2 (fun h => h)
                have fr1 := hid (Frm.trans (oY.mono (T := fun k => k = vb ∨ k = ub) (fun _ _ h => h.elim)) (hF.out.mono (T := fun k => k = vb ∨ k = ub) (fun k _ h => by omega)) (fun _ _ h => h))
                have hne : Hid (m ≠ ub ∧ x15 ≠ ub) := ⟨by omega, by omega⟩
                refine region_round (S := fun W => W.cell? ⟨x15, 0, none⟩ = some (.slice (some ⟨ub, 0, none⟩) M.length jo) ∧ W.cell? ⟨m, 1, none⟩ = some (.int .i64 (fs : Int)) ∧ W.cell? ⟨m, 2, none⟩ = some (.int .i64 (fn : Int))) (by kernel_rfl) (by kernel_rfl) ⟨q1, q2, q3⟩ (fun hHeld => ?_)
                generalize Y1.drew = Z at *
                refine' wpAnyH_take (i := 0) rfl (by kernel_rfl) (by kernel_rfl) (by kernel_rfl) (fun _ _ _ h => h) (Or.inl ⟨by rfl, ?_⟩) hHeld ?_
                rotate_left
                · intro W hSw
                  obtain ⟨r1, r2, r3⟩ := hSw
                  simp only [List.getElem_toArray, List.getElem_cons_zero]
                  go_simp
                  all_goals with_reducible rfl
                simp only [List.getElem_toArray, List.getElem_cons_zero, Act.put, List.setIfInBounds_toArray, List.set_cons_zero, List.set_cons_succ]
                refine' wpAnyH_take (i := 1) rfl (by kernel_rfl) (by kernel_rfl) (by kernel_rfl) (fun _ _ _ h => h) (Or.inl ⟨by rfl, ?_⟩) hHeld ?_
                rotate_left
                · intro W hSw
                  obtain ⟨r1, r2, r3⟩ := hSw
                  simp only [List.getElem_toArray, List.getElem_cons_zero, List.getElem_cons_succ]
                  go_simp
                  all_goals with_reducible rfl
                simp only [List.getElem_toArray, List.getElem_cons_zero, List.getElem_cons_succ, Act.put, List.setIfInBounds_toArray, List.set_cons_zero, List.set_cons_succ]
                refine' wpAnyH_take (i := 2) rfl (by kernel_rfl) (by kernel_rfl) (by kernel_rfl) (fun _ _ _ h => h) (Or.inl ⟨by rfl, ?_⟩) hHeld ?_
                rotate_left
                · intro W hSw
                  obtain ⟨r1, r2, r3⟩ := hSw
                  simp only [List.getElem_toArray, List.getElem_cons_zero, List.getElem_cons_succ]
                  go_simp
                  all_goals with_reducible rfl
                simp only [List.getElem_toArray, List.getElem_cons_zero, List.getElem_cons_succ, Act.put, List.setIfInBounds_toArray, List.set_cons_zero, List.set_cons_succ]
                refine' wpAnyH_take (i := 3) rfl (by kernel_rfl) (by kernel_rfl) (by kernel_rfl) (fun _ _ _ h => h) (Or.inl ⟨by rfl, ?_⟩) hHeld ?_
                rotate_left
                · intro W hSw
                  obtain ⟨r1, r2, r3⟩ := hSw
                  simp only [List.getElem_toArray, List.getElem_cons_zero, List.getElem_cons_succ]
                  go_simp
                  all_goals with_reducible rfl
                simp only [List.getElem_toArray, List.getElem_cons_zero, List.getElem_cons_succ, Act.put, List.setIfInBounds_toArray, List.set_cons_zero, List.set_cons_succ]
                refine' wpAnyH_take (i := 4) rfl (by kernel_rfl) (by kernel_rfl) (by kernel_rfl) (fun _ _ _ h => h) (Or.inl ⟨by rfl, ?_⟩) hHeld ?_
                rotate_left
                · intro W hSw
                  obtain ⟨r1, r2, r3⟩ := hSw
                  simp only [List.getElem_toArray, List.getElem_cons_zero, List.getElem_cons_succ]
                  go_simp
                  all_goals with_reducible rfl
                simp only [List.getElem_toArray, List.getElem_cons_zero, List.getElem_cons_succ, Act.put, List.setIfInBounds_toArray, List.set_cons_zero, List.set_cons_succ]
                refine' wpAnyH_take (i := 5) rfl (by kernel_rfl) (by kernel_rfl) (by kernel_rfl) (fun _ _ _ h => h) (Or.inl ⟨by rfl, ?_⟩) hHeld ?_
                rotate_left
                · intro W hSw
                  obtain ⟨r1, r2, r3⟩ := hSw
                  simp only [List.getElem_toArray, List.getElem_cons_zero, List.getElem_cons_succ]
                  go_simp
                  all_goals with_reducible rfl
                simp only [List.getElem_toArray, List.getElem_cons_zero, List.getElem_cons_succ, Act.put, List.setIfInBounds_toArray, List.set_cons_zero, List.set_cons_succ]
                refine' wpAnyH_take (i := 6) rfl (by kernel_rfl) (by kernel_rfl) (by kernel_rfl) (fun _ _ _ h => h) (Or.inl ⟨by rfl, ?_⟩) hHeld ?_
                rotate_left
                · intro W hSw
                  obtain ⟨r1, r2, r3⟩ := hSw
                  simp only [List.getElem_toArray, List.getElem_cons_zero, List.getElem_cons_succ]
                  go_simp
                  all_goals with_reducible rfl
                simp only [List.getElem_toArray, List.getElem_cons_zero, List.getElem_cons_succ, Act.put, List.setIfInBounds_toArray, List.set_cons_zero, List.set_cons_succ]
                refine' wpAnyH_take (i := 8) rfl (by kernel_rfl) (by kernel_rfl) (by kernel_rfl) (fun _ _ _ h => h) (Or.inl ⟨by rfl, ?_⟩) hHeld ?_
                rotate_left
                · intro W hSw
                  obtain ⟨r1, r2, r3⟩ := hSw
                  simp only [List.getElem_toArray, List.getElem_cons_zero, List.getElem_cons_succ]
                  go_simp
                  all_goals with_reducible rfl
                simp only [List.getElem_toArray, List.getElem_cons_zero, List.getElem_cons_succ, Act.put, List.setIfInBounds_toArray, List.set_cons_zero, List.set_cons_succ]
                refine' wpAnyH_take (i := 9) rfl (by kernel_rfl) (by kernel_rfl) (by kernel_rfl) (fun _ _ _ h => h) (Or.inl ⟨by rfl, ?_⟩) hHeld ?_
                rotate_left
                · intro W hSw
                  obtain ⟨r1, r2, r3⟩ := hSw
                  simp only [List.getElem_toArray, List.getElem_cons_zero, List.getElem_cons_succ]
                  go_simp
                  all_goals with_reducible rfl
                simp only [List.getElem_toArray, List.getElem_cons_zero, List.getElem_cons_succ, Act.put, List.setIfInBounds_toArray, List.set_cons_zero, List.set_cons_succ]
                refine wpAnyH_ready (rs := [7]) (by kernel_rfl) (by simp) ?_
                refine AllReadyH.cons (o := _) rfl (fun K hK => ?_) AllReadyH.nil
                simp only [List.getElem_toArray, List.getElem_cons_zero, List.getElem_cons_succ]
                go_simp
                refine hK.out _ _ (⟨q1, q2, q3⟩) (fun hHeld2 => ?_)
                clear hHeld hK
                have hHeld := hHeld2
                clear hHeld2
                try simp only [Act.put, List.setIfInBounds_toArray, List.set_cons_zero, List.set_cons_succ]
                refine' wpAnyH_take (i := 10) rfl (by kernel_rfl) (by kernel_rfl) (by kernel_rfl) (fun _ _ _ h => h) (Or.inl ⟨by rfl, ?_⟩) hHeld ?_
                rotate_left
                · intro W hSw
                  obtain ⟨r1, r2, r3⟩ := hSw
                  simp only [List.getElem_toArray, List.getElem_cons_zero, List.getElem_cons_succ]
                  go_simp
                  all_goals with_reducible rfl
                simp only [List.getElem_toArray, List.getElem_cons_zero, List.getElem_cons_succ, Act.put, List.setIfInBounds_toArray, List.set_cons_zero, List.set_cons_succ]
                refine' wpAnyH_take (i := 11) rfl (by kernel_rfl) (by kernel_rfl) (by kernel_rfl) (fun _ _ _ h => h) (Or.inl ⟨by rfl, ?_⟩) hHeld ?_
                rotate_left
                · intro W hSw
                  obtain ⟨r1, r2, r3⟩ := hSw
                  simp only [List.getElem_toArray, List.getElem_cons_zero, List.getElem_cons_succ]
                  go_simp
                  all_goals with_reducible rfl
                simp only [List.getElem_toArray, List.getElem_cons_zero, List.getElem_cons_succ, Act.put, List.setIfInBounds_toArray, List.set_cons_zero, List.set_cons_succ]
                refine wpAnyH_ready (rs := [12]) (by kernel_rfl) (by simp) ?_
                refine AllReadyH.cons (o := _) rfl (fun K hK => ?_) AllReadyH.nil
                simp only [List.getElem_toArray, List.getElem_cons_zero, List.getElem_cons_succ]
                go_simp
                rw [hww.out]
                have n1 := hid (frm_cell hF.out q1 hne.out.2)
                have n2 := hid (frm_cell hF.out q2 hne.out.1)
                have n3 := hid (frm_cell hF.out q3 hne.out.1)
                refine hK.out _ _ (⟨n1.out, n2.out, n3.out⟩) (fun hHeld2 => ?_)
                clear hHeld hK
                have hHeld := hHeld2
                clear hHeld2
                try simp only [Act.put, List.setIfInBounds_toArray, List.set_cons_zero, List.set_cons_succ]
                refine wpAnyH_done (by kernel_rfl) ?_ _
                refine OnlyN.normal ?_
                clear hHeld
                rw [hnb.out, hns.out] at hI2
                have hfr := hid (Frm.trans fr0.out fr1.out (fun _ _ h => h))
                have hTT : Hid (∀ j, (j = vb ∨ j = ub) → (some (⟨vb, 0, none⟩ : Addr) = some ⟨j, 0, none⟩ ∨ some (⟨ub, 0, none⟩ : Addr) = some ⟨j, 0, none⟩)) := fun j e => by
                  rcases e with rfl | rfl
                  · exact Or.inl rfl
                  · exact Or.inr rfl
                gi_wp2
                exact ⟨keeps_frm hfr.out (fun j h => by omega), KeptC.of_frm (hfr.out.mono (fun j _ h => hTT.out j h)), k + 1, hes.out, hlt, hI2.out⟩
            case fin =>
              as_aux_lemma =>
                clear hG0 kTr kNT
                rintro D q Y hD hq ⟨k, h1, h2, hI⟩ hK
                have hk : k = (fls L M).length := by
                  have := congrArg List.length (hq.symm.trans h1)
                  rw [List.length_take] at this
                  omega
                subst hk
                rw [lfB_end, lfS_end] at hI
                refine inBlock_both (Or.inl rfl) ?_
                dsimp only
                have kK := hid hK
                have kG := hid hI
                have hsD : Hid (s < D) := by
                  show _ < _
                  have := hI.lt
                  have := hI.zn
                  omega
                have p14 := hI.b14.cell
                have p15 := hI.b15.cell
                have hP0 : (0 : Int) ≤ p * (t : Int) := Int.mul_nonneg hrng.1 (by omega)
                have hP1 : p * (t : Int) ≤ 1099511627776 * (t : Int) := Int.mul_le_mul_of_nonneg_right hrng.2 (by omega)
                obtain ⟨P, hP⟩ : ∃ P, p * (t : Int) = P := ⟨_, rfl⟩
                rw [hP] at hP0 hP1
                have hPw : IntKind.i64.wrap P = P := by
                  simp only [IntKind.wrap, IntKind.bits, IntKind.signed]
                  simp
                  omega
                have kSp := hid (fun W => split_any p (t : Int) lo hi (some ⟨bb, 0, none⟩) (some ⟨sb, 0, none⟩) L.length L.length M.length M.length W (by rw [hP]; exact hPw))
                rw [hP] at kSp
                unfold calV at kSp
                have kMe := hid (fun W hW1 hW2 => meets_any ao bo ca cb L M p (t : Int) lo hi (some ⟨bb, 0, none⟩) (some ⟨sb, 0, none⟩) L.length L.length M.length M.length W hW1 hW2 hfL hfM (by
                  rcases kFa.out.rest with h | h
                  · left; rw [kt.out] at h; omega
                  · right; exact h))
                unfold calV at kMe
                clear hI hK h1 hq h2 kF kFa kO hfn
                gi_wp2_with fail
                gi_loopw [17] (fun t17 wx => ∃ i : Nat, i ≤ L.length ∧ t17 = .int .i64 (i : Int) ∧ wx = Y) (fun t17 _ => L.length - (intOf t17).toNat)
                case atStart => exact ⟨0, Nat.zero_le _, rfl, rfl⟩
                case round =>
                  obtain ⟨i, hil, rfl, rfl⟩ := hrel
                  by_cases hlt : i < L.length
                  · have hlt' : (i : Int) < (L.length : Int) := by omega
                    obtain ⟨vb, rfl, cv, -⟩ := kG.out.r.c i (by rw [dl_len]; exact hlt)
                    rw [dl_at hlt, show ((0 : Nat) : Int) = 0 from rfl] at cv
                    clear kSp kMe
                    gi_wp2_with fail
                    go_roundw
                    case rel => exact ⟨i + 1, by omega, by go_num, by first | rfl | trivial⟩
                    case measure => simp [intOf]; omega
                  · obtain rfl : i = L.length := by omega
                    have hlt' : ¬ (L.length : Int) < (L.length : Int) := by omega
                    gi_wp2_with fail
                    gi_loopw [18] (fun t18 wx => ∃ i : Nat, i ≤ M.length ∧ t18 = .int .i64 (i : Int) ∧ wx = wr) (fun t18 _ => M.length - (intOf t18).toNat)
                    case atStart => exact ⟨0, Nat.zero_le _, rfl, rfl⟩
                    case round =>
                      obtain ⟨i, hil2, rfl, hwx⟩ := hrel
                      subst hwx
                      by_cases hlt : i < M.length
                      · have hlt' : (i : Int) < (M.length : Int) := by omega
                        obtain ⟨vb, rfl, cv, -⟩ := kG.out.q.c i (by rw [dl_len]; exact hlt)
                        rw [dl_at hlt, show ((0 : Nat) : Int) = 0 from rfl] at cv
                        clear kSp kMe
                        gi_wp2_with fail
                        go_roundw
                        case rel => exact ⟨i + 1, by omega, by go_num, by first | rfl | trivial⟩
                        case measure => simp [intOf]; omega
                      · obtain rfl : i = M.length := by omega
                        have hlt' : ¬ (M.length : Int) < (M.length : Int) := by omega
                        have x0 := blk_cells (i := 0) (v := .int .i64 p) kG.out.fa.cal rfl
                        have x1 := blk_cells (i := 1) (v := .int .i64 (t : Int)) kG.out.fa.cal rfl
                        have x2 := blk_cells (i := 2) (v := .int .i64 lo) kG.out.fa.cal rfl
                        have x3 := blk_cells (i := 3) (v := .int .i64 hi) kG.out.fa.cal rfl
                        have x4 := blk_cells (i := 4) (v := .slice (some ⟨bb, 0, none⟩) L.length L.length) kG.out.fa.cal rfl
                        have x5 := blk_cells (i := 5) (v := .slice (some ⟨sb, 0, none⟩) M.length M.length) kG.out.fa.cal rfl
                        gi_wp2_with fail
                        refine ⟨trivial, ?_⟩
                        refine (callsIn_wide.2 (kSp.out _)).mono ?_
                        rintro e w7 ⟨rfl, o7⟩
                        have kF7 := hid (kG.out.fa.olds o7)
                        have kK7 := hid (blk_frm kK.out o7 (fun h => h))
                        clear x0 x1 x2 x3 x4 x5 kSp kG kK o7
                        have x0 := blk_cells (i := 0) (v := .int .i64 p) kF7.out.cal rfl
                        have x1 := blk_cells (i := 1) (v := .int .i64 (t : Int)) kF7.out.cal rfl
                        have x2 := blk_cells (i := 2) (v := .int .i64 lo) kF7.out.cal rfl
                        have x3 := blk_cells (i := 3) (v := .int .i64 hi) kF7.out.cal rfl
                        have x4 := blk_cells (i := 4) (v := .slice (some ⟨bb, 0, none⟩) L.length L.length) kF7.out.cal rfl
                        have x5 := blk_cells (i := 5) (v := .slice (some ⟨sb, 0, none⟩) M.length M.length) kF7.out.cal rfl
                        have b1 : ((t : Int) == (t : Int)) = true := by simp
                        have b2' : (P == P) = true := by simp
                        have km := hid (kMe.out w7 (kL.out.old kF7.out.old) (kM.out.old kF7.out.old))
                        gi_wp2_with fail
                        refine ⟨trivial, ?_⟩
                        refine (callsIn_wide.2 km.out).mono ?_
                        rintro e w8 ⟨rfl, o8⟩
                        have kF8 := hid (kF7.out.olds o8)
                        have kK8 := hid (blk_frm kK7.out o8 (fun h => h))
                        have r0 := blk_cell kF8.out.res
                        have rf := blk_fz kF8.out.res 0
                        clear x0 x1 x2 x3 x4 x5 km kMe o8 kF7 kK7
                        gi_wp2
                        have f1 := frm_set w8 s 0 (.bool true)
                        have hDs := hid (kF8.out.hs)
                        refine leave_marks [D] _ ⟨by simp, fun r hr => ?_⟩ (fun W' hW' => ?_)
                        · obtain rfl : r = D := by simpa using hr
                          exact blk_frm kK8.out f1 (by have := hsD.out; omega)
                        · have e0 := frm_cell hW' (set_same (u := .bool true) r0) (by
                            have := hsD.out
                            simp
                            omega)
                          refine ⟨.bool true, ?_, rfl, ?_⟩
                          · simp [results, Try.f5, go_sem, e0]
                          · exact Frm.trans (Frm.trans kF8.out.old f1 (fun i hi e => by have := hDs.out; omega)) hW' (fun i hi e => by
                              have := hDs.out
                              have := hsD.out
                              have : i = D := by simpa using e
                              omega)
end Go.Proofs.Ytdeakckdnkdalaa
