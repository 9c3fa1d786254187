/- What Worths tells, as a function over which one ranges. -/
import Derived.Test.YtnambpbhkehijaaDoorE2
import Derived.Test.YtnambpbhkehijaaDoorRN
import Derived.Test.YtnambpbhkehijaaDoorH8
import Derived.Test.YtnambpbhkehijaaDoorH7
namespace Go.Proofs.YtnambpbhkehijaaDoor
open Go.RowKit Go.Lib Go.Shelf
attribute [local go_sem] Oper.semAt_some

theorem subA_pre {m : Nat} (hm : m ≤ 31) {q : List Nat} (h : ∃ k, (∀ i, i < k → (sq (2 ^ m - 1) i).2 = true) ∧ q = subL (2 ^ m - 1) k) : ∃ k, k ≤ 2 ^ m ∧ q = List.range k := by
  obtain ⟨k, h1, rfl⟩ := h
  have hk : k ≤ 2 ^ m := by
    apply Nat.le_of_not_lt
    intro e
    have := h1 _ e
    rw [sq_end hm] at this
    cases this
  refine ⟨k, hk, ?_⟩
  unfold subL
  apply List.ext_getElem
  · simp
  · intro i h1 h2
    simp only [List.length_map, List.length_range] at h1
    simp [sq_all hm i (by omega)]

theorem subA_all {m : Nat} (hm : m ≤ 31) {q : List Nat} (h : ∃ k, (∀ i, i < k → (sq (2 ^ m - 1) i).2 = true) ∧ (sq (2 ^ m - 1) k).2 = false ∧ q = subL (2 ^ m - 1) k) : q = List.range (2 ^ m) := by
  obtain ⟨k, h1, h2, h3⟩ := h
  obtain ⟨k', hk', e⟩ := subA_pre hm ⟨k, h1, h3⟩
  have hkk : k = k' := by
    have := congrArg List.length (h3.symm.trans e)
    simpa [subL_length] using this
  subst hkk
  rcases Nat.lt_or_eq_of_le hk' with h | rfl
  · rw [sq_all hm k h] at h2
    cases h2
  · exact e

theorem subsA_P (d : Nat) (hd : 1 ≤ d) (B : Nat) (T : Nat → Prop) (hTB : ¬ T B) (m : Nat) (hm : m ≤ 31) (w : World) (hB : w.cell? ⟨B, 0, none⟩ = some (.int .u32 ((2 ^ m - 1 : Nat) : Int))) :
    SeqP Tryd.prog d 47 #[.pointer (some ⟨B, 0, none⟩)] (fun x : Nat => #[Value.int .u32 (x : Int)]) (KeptC T) (fun q => ∃ k, k ≤ 2 ^ m ∧ q = List.range k)
      (fun q => q = List.range (2 ^ m)) (fun q => ∃ k, k ≤ 2 ^ m ∧ q = List.range k) w := fun l J Jx W hW h1 h2 hY h0 =>
  have hp : 2 ^ m ≤ 2 ^ 31 := Nat.pow_le_pow_right (by decide) hm
  (subsets_P d hd B T hTB (2 ^ m - 1) (by omega) w hB l J Jx W hW h1 h2 (fun p x X hj hp => hY p x X hj (subA_pre hm hp)) h0).mono (fun e Y h => ⟨h.1, h.2.elim (fun ⟨q, a, b⟩ => Or.inl ⟨q, subA_all hm a, b⟩) (fun ⟨q, a, b⟩ => Or.inr ⟨q, subA_pre hm a, b⟩)⟩)

def encW (L : List Off) (x : Nat) : Array Value := #[.int .u32 (x : Int), .int .i64 (wZ x L).1]

theorem old_kept {T : Nat → Prop} {X Y : World} (o : Old X Y) : KeptC T X Y := KeptC.of_frm (Frm.mono o (fun _ _ h => h.elim))

/-- What Worths$1 finds. -/
def WC (nb vb : Nat) (n : Int) (vo : Option Addr) (vc : Nat) (L : List Off) (Y : World) : Prop := Y.cell? ⟨nb, 0, none⟩ = some (.int .i64 n) ∧ Y.cell? ⟨vb, 0, none⟩ = some (.slice vo L.length vc) ∧ OffC Y vo L

set_option maxRecDepth 100000 in
set_option maxHeartbeats 4000000 in
theorem worths1_none (d : Nat) (nb vb : Nat) (n : Int) (vo : Option Addr) (vc : Nat) (L : List Off) (hn : nB n = false) (T : Nat → Prop) (w : World) (hC : ∀ Y, KeptC T w Y → WC nb vb n vo vc L Y) :
    SeqN Tryd.prog d 29 #[.pointer (some ⟨nb, 0, none⟩), .pointer (some ⟨vb, 0, none⟩)] (encW L) (KeptC T) (fun _ => False) (fun q => q = []) (fun _ => False) w := by
  intro lp J Jx W hbe hJ hJx hY h0
  obtain ⟨hx0, -, -⟩ := hC W (old_kept (Old.of_below hbe))
  have o1 : Old W (W.alloc (.cells #[.func (.yield lp) #[] #[]] 61)) := (Old.refl W).alloc _
  have c0 := o1.cell hx0
  have kN := hid (fun w => isNum_any n w)
  rw [hn] at kN
  have kJ := hid (hJ _ _ _ h0 (Frm.mono o1 (fun _ _ h => h.elim)))
  have hJ9 := fun Y => hJ [] (W.alloc (.cells #[.func (.yield lp) #[] #[]] 61)) Y kJ.out
  clear hx0 o1 hY hJ hJx h0 hC hbe
  refine callsIn_of_wp_marks Tryd.func29 rfl trivial ?_ rfl
  simp only [Tryd.ntmps29, List.size_toArray, List.length_cons, List.length_nil, Nat.reduceAdd, Nat.reduceSub, Array.replicate_succ, Array.replicate_zero, List.push_toArray, List.append_toArray, List.nil_append, List.cons_append]
  refine wpIn_wide.2 ?_
  go_wp2_with fail
  generalize W.alloc (.cells #[.func (.yield lp) #[] #[]] 61) = w1 at *
  refine (kN.out _).mono ?_
  rintro e w2 ⟨rfl, e2⟩
  rw [e2]
  clear e2 w2
  go_wp2_with fail
  refine leave_marks [] _ ⟨by simp, fun r hr => by simp at hr⟩ (fun W' hW' => ?_)
  have hfr : Frm (fun k => W.heap.size ≤ k) w1 W' := Frm.mono hW' (fun k _ e => by simp at e)
  refine ⟨.tuple #[], ?_, ⟨_, rfl⟩, Or.inl ⟨_, rfl, hJ9 _ hfr⟩⟩
  simp [results, Tryd.f29, go_sem]

set_option maxRecDepth 100000 in
set_option maxHeartbeats 4000000 in
theorem worths1_N (d : Nat) (hd : 4 ≤ d) (nb vb m : Nat) (vo : Option Addr) (vc : Nat) (L : List Off) (hm : 1 ≤ m ∧ m ≤ 10) (hl : L.length ≤ 9223372036854775807) (T : Nat → Prop) (w : World) (hTw : ∀ k, w.heap.size ≤ k → ¬ T k) (hC : ∀ Y, KeptC T w Y → WC nb vb m vo vc L Y) :
    SeqN Tryd.prog d 29 #[.pointer (some ⟨nb, 0, none⟩), .pointer (some ⟨vb, 0, none⟩)] (encW L) (KeptC T) (fun q => ∃ k, k ≤ 2 ^ m ∧ q = List.range k) (fun q => q = List.range (2 ^ m)) (fun q => ∃ k, k ≤ 2 ^ m ∧ q = List.range k) w := by
  intro lp J Jx W hbe hJ hJx hY h0
  have kt0 : KeptC T w W := old_kept (Old.of_below hbe)
  obtain ⟨hx0, -, -⟩ := hC W kt0
  have o1 : Old W (W.alloc (.cells #[.func (.yield lp) #[] #[]] 61)) := (Old.refl W).alloc _
  have b1 := heap_new W (.cells #[.func (.yield lp) #[] #[]] 61)
  have z1 := alloc_size W (.cells #[.func (.yield lp) #[] #[]] 61)
  have c0 := o1.cell hx0
  clear hx0
  have kN := hid (fun w => isNum_any m w)
  have hnb : nB (m : Int) = true := by rw [nB]; exact decide_eq_true (by omega)
  have hal : allZ (m : Int) = (2 ^ m - 1, 0) := by rw [allZ, if_pos (by omega), Int.toNat_natCast]
  rw [hnb] at kN
  have kA := hid (fun w => all_any m w)
  rw [hal] at kA
  dsimp only at kA
  have kS := hid (fun w => subsets_any (2 ^ m - 1) w)
  have kO := hid (fun g ao cap w h => oworth_any g ao cap L w h hl)
  have kP := hid (fun B T hTB w hB => subsA_P (d - 1) (by omega) B T hTB m (by omega) w hB)
  clear hnb hal
  have khY := hid hY
  have khJ := hid hJ
  have khx := hid hJx
  have kh0 := hid h0
  have khC := hid hC
  have khT := hid hTw
  have kwW := hid (hbe.size)
  have kkt := hid kt0
  clear hY hJ hJx h0 hC hTw kt0 hbe
  refine callsIn_of_wp_marks Tryd.func29 rfl trivial ?_ rfl
  simp only [Tryd.ntmps29, List.size_toArray, List.length_cons, List.length_nil, Nat.reduceAdd, Nat.reduceSub, Array.replicate_succ, Array.replicate_zero, List.push_toArray, List.append_toArray, List.nil_append, List.cons_append]
  refine wpIn_wide.2 ?_
  go_wp2_with fail
  generalize W.alloc (.cells #[.func (.yield lp) #[] #[]] 61) = w1 at *
  obtain ⟨yb, hyb⟩ : ∃ yb, W.heap.size = yb := ⟨_, rfl⟩
  have kyb := hid hyb
  rw [hyb] at b1 z1 ⊢
  clear hyb
  refine (kN.out _).mono ?_
  rintro e w2 ⟨rfl, e2⟩
  rw [e2]
  clear e2 w2
  go_wp2_with fail
  refine (kA.out _).mono ?_
  rintro e w2 ⟨rfl, e2⟩
  rw [e2]
  clear e2 w2
  go_wp2_with fail
  refine (kS.out _).mono ?_
  rintro e w2 ⟨rfl, e2⟩
  rw [e2, z1]
  clear e2 w2
  have o2 : Old w1 (w1.alloc (.cells #[.int .u32 ((2 ^ m - 1 : Nat) : Int)] 56)) := (Old.refl w1).alloc _
  have x0 := new_cell w1 #[.int .u32 ((2 ^ m - 1 : Nat) : Int)] 56 0 _ rfl
  have z2 := alloc_size w1 (.cells #[.int .u32 ((2 ^ m - 1 : Nat) : Int)] 56)
  rw [z1] at x0 z2
  have b2 := (o2.block yb (blk_lt b1) (fun h => h)).trans b1
  have ko2 := hid (o1.trans o2)
  clear o1 c0 b1
  go_wp2_with fail
  generalize w1.alloc (.cells #[.int .u32 ((2 ^ m - 1 : Nat) : Int)] 56) = X0 at *
  clear o2 z1 w1
  have kb2 := hid b2
  have kx0 := hid x0
  have kz2 := hid z2
  clear b2 x0 z2
  have hTy : Hid (¬ T yb) := khT.out _ (by have := kwW.out; have := kyb.out; omega)
  have hTy1 : Hid (¬ T (yb + 1)) := khT.out _ (by have := kwW.out; have := kyb.out; omega)
  have hkc : Hid (∀ Y, KeptC T X0 Y → WC nb vb m vo vc L Y) := fun Y hk => khC.out Y ((kkt.out.trans (old_kept ko2.out)).trans hk)
  refine (wpIn_wide (n := d)).1 ?_
  refine range_Np (α := Nat) (by omega) (gf := 47) (lb := #[.pointer (some ⟨yb + 1, 0, none⟩)]) rfl (enters_of Tryd.func47 (by kernel_rfl) rfl)
    (SeqN.of_P (kP.out (yb + 1) T hTy1.out X0 kx0.out))
    (fun h k => h.trans k) (fun W => old_kept (Old.refl W)) (fun W o o' h1 h2 => KeptC.put W _ o o' h1 h2) (fun _ => rfl)
    (fun p Y => J p Y ∧ KeptC T X0 Y)
    (fun c p Y => c = .ret ∧ Jx p Y)
    ?hI ?hIx ⟨khJ.out _ _ _ kh0.out (Frm.mono ko2.out (fun _ _ h => h.elim)), old_kept (Old.refl _)⟩
    (fun x t => ((t.setIfInBounds 19 (.int .u32 (x : Int))).setIfInBounds 6 (.int .u32 (x : Int))))
    ?assign ?body ?done ?stop
  case hI =>
    rintro p X Y ⟨h1, h2⟩ hf
    refine ⟨khJ.out _ _ _ h1 (Frm.mono hf (fun k _ e => by have := kz2.out; have := kyb.out; omega)), fun k o ht ho hc => ?_⟩
    have h3 := h2 k o ht ho hc
    have h4 := (Array.getElem?_eq_some_iff.1 ho).1
    exact (hf.block k (Array.getElem?_eq_some_iff.1 h3).1 (by omega)).trans h3
  case hIx =>
    rintro c p X Y ⟨rfl, h1⟩ hf
    exact ⟨rfl, khx.out _ _ _ h1 (Frm.mono hf (fun k _ e => by have := kz2.out; have := kyb.out; omega))⟩
  case assign =>
    rintro l p x Y K - hK
    have hK2 := hid hK
    clear hK
    gi_wp2_with fail
    exact hK2.out
  case body =>
    rintro l p x Y ⟨h1, h2⟩ hP
    obtain ⟨-, q1, hO⟩ := hkc.out Y h2
    have kh2 := hid h2
    have kh1 := hid h1
    have khP := hid hP
    have kW := hid (kO.out x vo vc Y hO)
    have kyd := hid (fun w2 h => khY.out p x w2 h hP)
    clear h1 h2 hO hP
    dsimp only [encW] at kyd
    generalize (wZ x L).1 = z1 at *
    generalize (wZ x L).2 = z2 at *
    gi_wp2_with fail
    refine ⟨trivial, (fun h => by cases h), (CallsIn.inRound l (callsIn_wide.2 kW.out)).mono ?_⟩
    rintro e w2 ⟨rfl, o2⟩
    have kt2 := hid (kh2.out.trans (old_kept o2))
    have h2y := kt2.out yb _ hTy.out kb2.out rfl
    have c2 := blk_cell h2y
    obtain ⟨fn, tmps, asn, bdy, hy, hR⟩ := kyd.out w2 (khJ.out _ _ _ kh1.out (Frm.mono o2 (fun _ _ h => h.elim)))
    have ko9 := hid o2
    clear o2 q1 kW kyd h2y
    gi_wp2_with fail
    refine ⟨fun h => by omega, (round_any hR).mono ?_⟩
    rintro e w7 ⟨hk7, (⟨rfl, hJ7, hp7⟩ | ⟨rfl, hJx7⟩)⟩
    · clear hR hy
      gi_wp2_with fail
      exact ⟨(keeps_old ko9.out).trans (keeps_up hk7 (by have := kz2.out; have := kyb.out; omega)), (old_kept ko9.out).trans hp7, hJ7, kt2.out.trans hp7⟩
    · clear hR hy
      gi_wp2_with fail
      exact ⟨(keeps_old ko9.out).trans (keeps_up hk7 (by have := kz2.out; have := kyb.out; omega)), rfl, hJx7⟩
  case stop =>
    rintro D c p Y hD hp ⟨rfl, hx⟩ hK
    have kx := hid hx
    have kr := hid hp
    have kK := hid hK
    clear hx hp hK
    refine wpIn_wide.2 ?_
    go_wp2_with fail
    refine leave_marks [D] _ ⟨by simp, fun r hr => ?_⟩ (fun W' hW' => ?_)
    · obtain rfl : r = D := by simpa using hr
      exact kK.out
    · have hfr : Frm (fun k => W.heap.size ≤ k) Y W' := Frm.mono hW' (fun k _ e => by
        have : k = D := by simpa using e
        have := kz2.out
        have := kyb.out
        omega)
      refine ⟨.tuple #[], ?_, ⟨_, rfl⟩, Or.inr ⟨_, kr.out, khx.out _ _ _ kx.out hfr⟩⟩
      simp [results, Tryd.f29, go_sem]
  case done =>
    rintro D q Y hD rfl ⟨hJ9, -⟩ hK
    have kx := hid hJ9
    have kK := hid hK
    clear hJ9 hK
    refine inBlock_both (Or.inl rfl) ?_
    dsimp only
    try refine wpIn_wide.2 ?_
    go_wp2_with fail
    refine leave_marks [D] _ ⟨by simp, fun r hr => ?_⟩ (fun W' hW' => ?_)
    · obtain rfl : r = D := by simpa using hr
      exact kK.out
    · have hfr : Frm (fun k => W.heap.size ≤ k) Y W' := Frm.mono hW' (fun k _ e => by
        have : k = D := by simpa using e
        have := kz2.out
        have := kyb.out
        omega)
      refine ⟨.tuple #[], ?_, ⟨_, rfl⟩, Or.inl ⟨_, rfl, khJ.out _ _ _ kx.out hfr⟩⟩
      simp [results, Tryd.f29, go_sem]
end Go.Proofs.YtnambpbhkehijaaDoor
