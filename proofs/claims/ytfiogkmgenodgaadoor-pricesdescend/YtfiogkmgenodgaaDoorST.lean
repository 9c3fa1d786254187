/- What Steps tells, as a function over which one ranges. -/
import Derived.Test.YtfiogkmgenodgaaDoorP11
import Derived.Test.YtfiogkmgenodgaaDoorJ1
import Derived.Test.YtfiogkmgenodgaaDoorJ3
namespace Go.Proofs.YtfiogkmgenodgaaDoor
open Go.RowKit Go.Lib Go.Shelf
attribute [local go_sem] Oper.semAt_some

def encT (t : Tr) : Array Value := #[.int .i64 t.1, .int .i64 t.2]

theorem told_app (p q : List St) : told (p ++ q) = told p ++ told q := by simp [told]

set_option maxRecDepth 100000 in
set_option maxHeartbeats 4000000 in
theorem steps1_N (d : Nat) (hd : 4 ≤ d) (sb : Nat) (gd : Int) (bo : Option Addr) (cap : Nat) (B : Ins) (hgd : 1 ≤ gd ∧ gd ≤ 10) (hl : B.length ≤ 9223372036854775807) (T : Nat → Prop) (w : World) (hTw : ∀ k, w.heap.size ≤ k → ¬ T k) (hC : ∀ Y, KeptC T w Y → Ctx gd bo cap B sb Y) :
    SeqN Tryd.prog d 49 #[.pointer (some ⟨sb, 0, none⟩)] encT (KeptC T) (fun q => ∃ r, told (evs gd B) = q ++ r) (fun q => q = told (evs gd B)) (fun q => ∃ r, told (evs gd B) = q ++ r) w := by
  intro lp J Jx W hbe hJ hJx hY h0
  have kt0 : KeptC T w W := KeptC.of_frm (Frm.mono (Old.of_below hbe) (fun _ _ h => h.elim))
  obtain ⟨-, -, hx0, hx1⟩ := hC W kt0
  have o1 : Old W (W.alloc (.cells #[.func (.yield lp) #[] #[]] 94)) := (Old.refl W).alloc _
  have b1 := heap_new W (.cells #[.func (.yield lp) #[] #[]] 94)
  have z1 := alloc_size W (.cells #[.func (.yield lp) #[] #[]] 94)
  have c0 := o1.cell hx0
  have c1 := o1.cell hx1
  clear hx0 hx1
  have kDP := hid (fun xb T w => desc_P (d - 1) (by omega) xb gd bo cap B hgd hl T w)
  have kD := hid (fun w => descent_any gd bo cap B.length w)
  have khY := hid hY
  have khJ := hid hJ
  have khx := hid hJx
  have kh0 := hid h0
  have khC := hid hC
  have khT := hid hTw
  have kwW := hid (hbe.size)
  have kkt := hid kt0
  clear hY hJ hJx h0 hC hTw kt0 hbe
  refine callsIn_of_wp_marks Tryd.func49 rfl trivial ?_ rfl
  simp only [Tryd.ntmps49, List.size_toArray, List.length_cons, List.length_nil, Nat.reduceAdd, Nat.reduceSub, Array.replicate_succ, Array.replicate_zero, List.push_toArray, List.append_toArray, List.nil_append, List.cons_append]
  refine wpIn_wide.2 ?_
  go_wp2_with fail
  generalize W.alloc (.cells #[.func (.yield lp) #[] #[]] 94) = w1 at *
  obtain ⟨yb, hyb⟩ : ∃ yb, W.heap.size = yb := ⟨_, rfl⟩
  have kyb := hid hyb
  rw [hyb] at b1 z1 ⊢
  clear hyb
  refine (kD.out _).mono ?_
  rintro e w2 ⟨rfl, e2⟩
  rw [e2, z1]
  clear e2 w2
  have o2 : Old w1 (w1.alloc (.cells #[.int .i64 gd, .slice bo B.length cap] 38)) := (Old.refl w1).alloc _
  have x0 := new_cell w1 #[.int .i64 gd, .slice bo B.length cap] 38 0 _ rfl
  have x1 := new_cell w1 #[.int .i64 gd, .slice bo B.length cap] 38 1 _ rfl
  have z2 := alloc_size w1 (.cells #[.int .i64 gd, .slice bo B.length cap] 38)
  rw [z1] at x0 x1 z2
  have b2 := (o2.block yb (blk_lt b1) (fun h => h)).trans b1
  have ko2 := hid (o1.trans o2)
  clear o1 c0 c1 b1
  go_wp2_with fail
  generalize w1.alloc (.cells #[.int .i64 gd, .slice bo B.length cap] 38) = X0 at *
  clear o2 z1 w1
  have kb2 := hid b2
  have kx0 := hid x0
  have kx1 := hid x1
  have kz2 := hid z2
  clear b2 x0 x1 z2
  have hkc : Hid (∀ Y, KeptC T X0 Y → Ctx gd bo cap B (yb + 1) Y) := fun Y hk => by
    have h1 : KeptC T w Y := (kkt.out.trans (KeptC.of_frm (Frm.mono ko2.out (fun _ _ h => h.elim)))).trans hk
    have h2 := khC.out Y h1
    have h3 : ¬ T (yb + 1) := khT.out _ (by have := kwW.out; have := kyb.out; omega)
    exact ⟨h2.1, h2.2.1, kept_cell hk h3 kx0.out, kept_cell hk h3 kx1.out⟩
  have hTy : Hid (¬ T yb) := khT.out _ (by have := kwW.out; have := kyb.out; omega)
  refine (wpIn_wide (n := d)).1 ?_
  refine range_N (α := St) (by omega) (gf := 61) (lb := #[.pointer (some ⟨yb + 1, 0, none⟩)]) rfl (enters_of Tryd.func61 (by kernel_rfl) rfl)
    (SeqN.of_P (kDP.out (yb + 1) T X0 (fun k hk => khT.out k (by have := kz2.out; have := kwW.out; have := kyb.out; omega)) hkc.out))
    (fun h k => h.trans k) (fun W o o' h1 h2 => KeptC.put W _ o o' h1 h2) (fun _ => rfl)
    (fun p Y => J (told p) Y ∧ Y.heap[yb]? = some (.cells #[.func (.yield lp) #[] #[]] 94 (0, 0)))
    (fun c p Y => c = .ret ∧ Jx (told p) Y)
    (fun p X Y hI hf => ⟨khJ.out _ _ _ hI.1 (Frm.mono hf (fun k _ e => by have := kz2.out; have := kyb.out; omega)), by rw [hf.block yb (blk_lt hI.2) (by have := kz2.out; omega)]; exact hI.2⟩)
    (fun c p X Y hI hf => ⟨hI.1, khx.out _ _ _ hI.2 (Frm.mono hf (fun k _ e => by have := kz2.out; have := kyb.out; omega))⟩)
    ⟨khJ.out _ _ _ kh0.out (Frm.mono ko2.out (fun _ _ h => h.elim)), kb2.out⟩
    (fun p x a' Y => (J (told p) Y ∧ Y.heap[yb]? = some (.cells #[.func (.yield lp) #[] #[]] 94 (0, 0))) ∧ (∃ r, evs gd B = (p ++ [x]) ++ r) ∧ ∃ m, Sd Y m x ∧ X0.heap.size + 2 ≤ m ∧ a' = { tmps := #[.func (.yield lp) #[] #[], .pointer (some ⟨sb, 0, none⟩), .pointer (some ⟨yb, 0, none⟩), .pointer (some ⟨m, 0, none⟩), .agg #[.int .i64 gd, .slice bo B.length cap], .func (.func 61) #[] #[.pointer (some ⟨yb + 1, 0, none⟩)], stV x, undef, undef, undef, undef, undef, undef, undef], defers := [] })
    ?inv ?assign ?body ?done ?stop
  case inv =>
    rintro p x a' Y o o' ⟨⟨h1, h2⟩, h3, m, h4, h5, h6⟩ ho hc
    have hfr : Frm (fun k => X0.heap.size ≤ k) Y (Y.putObj (X0.heap.size + 1) o') := put_frm (by omega)
    exact ⟨⟨khJ.out _ _ _ h1 (Frm.mono hfr (fun k _ e => by have := kz2.out; have := kyb.out; omega)), by rw [hfr.block yb (blk_lt h2) (by have := kz2.out; omega)]; exact h2⟩, h3, m, ⟨(World.putObj_heap_other (by omega)).trans h4.blk⟩, h5, h6⟩
  case assign =>
    rintro l p x Y K ⟨h1, h2⟩ ⟨r, hr⟩ hsz hK
    have hxo := evs_ok gd B x (by rw [hr]; simp)
    have hn := Sd.new Y x
    have oN : Old Y (Y.alloc (.cells ((lst x).map (Value.int .i64)).toArray 89)) := (Old.refl Y).alloc _
    have hK2 := hid (hK _ _ ⟨⟨khJ.out _ _ _ h1 (Frm.mono oN (fun _ _ h => h.elim)), (oN.block yb (blk_lt h2) (fun h => h)).trans h2⟩, ⟨r, hr⟩, _, hn, hsz, rfl⟩ (KeptC.of_frm (Frm.mono oN (fun _ _ h => h.elim))) (keeps_old oN))
    clear hK h1 h2 hr hn oN
    obtain ⟨x0, x1, y0, y1, y2, y3, y4, y5, y6, y7, y8, y9, ht⟩ := St.ex hxo.1
    subst ht
    clear hxo
    dsimp only [encS, stV, lst, List.map_cons, List.map_nil] at hK2 ⊢
    gi_wp2_with fail
    exact hK2.out
  case body =>
    rintro l p x a' Y ⟨⟨h1, h2⟩, ⟨r, hr⟩, m, h4, h5, rfl⟩
    have hxo := evs_ok gd B x (by rw [hr]; simp)
    obtain ⟨⟨q0, -⟩, ⟨q1, -⟩⟩ := Sd.two h4
    have c2 := blk_cell h2
    obtain ⟨fn, tmps, asn, bdy, hy, hR⟩ := khY.out (told p) (x.1, x.2.1) Y h1 ⟨told r, by rw [hr, told_app, told_app]; rfl⟩
    dsimp only [encT] at hy
    have kh2 := hid h2
    clear h1 h2 h4 hxo hr
    gi_wp2_with fail
    refine ⟨fun h => by omega, (round_any hR).mono ?_⟩
    rintro e w7 ⟨hk7, (⟨rfl, hJ7, hp7⟩ | ⟨rfl, hJx7⟩)⟩
    · clear hR hy
      gi_wp2_with fail
      exact ⟨keeps_up hk7 (by have := kz2.out; have := kyb.out; omega), hp7, by rw [told_snoc]; exact hJ7, hp7 yb _ hTy.out kh2.out rfl⟩
    · clear hR hy
      gi_wp2_with fail
      exact ⟨keeps_up hk7 (by have := kz2.out; have := kyb.out; omega), rfl, by rw [told_snoc]; exact hJx7⟩
  case stop =>
    rintro D c p Y hD ⟨r, hr⟩ ⟨rfl, hx⟩ hK
    have kx := hid hx
    have kr : Hid (∃ r, told (evs gd B) = told p ++ r) := ⟨told r, by rw [hr, told_app]⟩
    have kK := hid hK
    clear hx hr hK
    refine wpIn_wide.2 ?_
    go_wp2_with fail
    refine leave_marks [D] _ ⟨by simp, fun r hr => ?_⟩ (fun W' hW' => ?_)
    · obtain rfl : r = D := by simpa using hr
      exact kK.out
    · have hfr : Frm (fun k => W.heap.size ≤ k) Y W' := Frm.mono hW' (fun k _ e => by
        have : k = D := by simpa using e
        have := kz2.out
        have := kyb.out
        omega)
      refine ⟨.tuple #[], ?_, ⟨_, rfl⟩, Or.inr ⟨_, kr.out, khx.out _ _ _ kx.out hfr⟩⟩
      simp [results, Tryd.f49, go_sem]
  case done =>
    rintro D q Y hD rfl ⟨hJ9, hb9⟩ hK
    have kx := hid hJ9
    have kK := hid hK
    clear hJ9 hb9 hK
    refine inBlock_both (Or.inl rfl) ?_
    dsimp only
    try refine wpIn_wide.2 ?_
    go_wp2_with fail
    refine leave_marks [D] _ ⟨by simp, fun r hr => ?_⟩ (fun W' hW' => ?_)
    · obtain rfl : r = D := by simpa using hr
      exact kK.out
    · have hfr : Frm (fun k => W.heap.size ≤ k) Y W' := Frm.mono hW' (fun k _ e => by
        have : k = D := by simpa using e
        have := kz2.out
        have := kyb.out
        omega)
      refine ⟨.tuple #[], ?_, ⟨_, rfl⟩, Or.inl ⟨_, rfl, khJ.out _ _ _ kx.out hfr⟩⟩
      simp [results, Tryd.f49, go_sem]
end Go.Proofs.YtfiogkmgenodgaaDoor
