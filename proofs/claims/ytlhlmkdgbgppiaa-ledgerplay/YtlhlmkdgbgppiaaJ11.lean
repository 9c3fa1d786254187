/- hads, sameHads: walked. -/
import Derived.Test.YtlhlmkdgbgppiaaNO
import Derived.Test.YtlhlmkdgbgppiaaJ8
namespace Go.Proofs.Ytlhlmkdgbgppiaa
open Go.RowKit Go.Shelf Go.Maps

def hadsV (A : List Ac) : List Value := A.map (fun a => Value.int .i64 a.2)
theorem hads_snoc (A : List Ac) (k : Nat) (h : k < A.length) : hadsV (A.take k) ++ [.int .i64 (A.getD k (0, 0)).2] = hadsV (A.take (k + 1)) := by
  rw [List.take_succ_eq_append_getElem h, getD_get h]
  unfold hadsV
  rw [List.map_append]
  rfl
theorem infoI : (Try.prog.info? 2).map (fun i => (i.zero, i.size, i.bytes)) = some (some (.int .i64 0), 1, 8) := by kernel_rfl

/-- What the accounts have, in a row of one's own. -/
def HadR (B : Nat) (w : World) (v : Value) (A : List Ac) : Prop := w.ownsRow B 2 1 v A.length (hadsV A)
theorem HadR.frm {B : Nat} {S : Nat → Prop} {w w' : World} {v : Value} {A : List Ac} (h : HadR B w v A) (f : Frm S w w') (hS : ∀ k, B ≤ k → k < w.heap.size → ¬ S k) : HadR B w' v A :=
  owns_kept h (fun k hk => f.block k (h.lt k hk).2 (hS k (h.lt k hk).1 (h.lt k hk).2))
theorem HadR.form {B : Nat} {w : World} {v : Value} {A : List Ac} (h : HadR B w v A) : ∃ ao cap, v = .slice ao A.length cap ∧ ∀ i (_ : i < A.length), ∃ g, ao = some ⟨g, 0, none⟩ ∧ w.cell? ⟨g, i, none⟩ = some (.int .i64 (A.getD i (0, 0)).2) := by
  rcases h.2 with ⟨rfl, h0⟩ | ⟨g, cap, cur, rfl, h3, h4, h5, h6, h7, h8⟩
  · exact ⟨none, 0, by rw [h0], fun i hi => by omega⟩
  · refine ⟨_, cap, rfl, fun i hi => ⟨g, rfl, blk_cells h4 ?_⟩⟩
    have h9 : (cur.toList.take (A.length * 1))[i]? = (hadsV A)[i]? := by rw [h8]
    rw [List.getElem?_take_of_lt (by omega)] at h9
    rw [getD_get hi]
    simpa [hadsV, hi] using h9

set_option maxRecDepth 100000 in
set_option maxHeartbeats 4000000 in
theorem hads_any (x : Lx) (w : World) (h : Ldg w x) (hk : OkL x) (hn : x.L.length ≤ 99) :
    Calls Try.prog 11 #[x.ptr] w fun e w' => ∃ v, e = .returned v ∧ HadR w.heap.size w' v x.A ∧ Old w w' := by
  have kL := hid (llen_any x w h)
  have kA := hid (fun W (o : Old w W) k (hi : k < x.L.length) => account_good x k W (h.old o) hk hi)
  have hlen := hk.len
  obtain ⟨i0, hi0, hz0, hz1, hz2⟩ := info_parts infoI
  clear h hk
  unfold Lx.ptr at *
  go_enter Try.func11, Try.ntmps11
  go_wp2_with fail
  refine kL.out.mono ?_
  rintro e w1 ⟨rfl, nq, rfl⟩
  have kI : Hid (Old w (w.drewN nq)) := hid ((Old.refl w).drewN nq)
  have kr0 : Hid ((w.drewN nq).ownsRow w.heap.size 2 1 (.slice none 0 0) 0 (hadsV (x.A.take 0))) := hid ⟨by simp [hadsV], Or.inl ⟨rfl, rfl⟩⟩
  generalize w.drewN nq = w1 at *
  go_wp2_with fail
  go_loopw [5, 6] (fun t5 t6 wr => ∃ k : Nat, k ≤ x.L.length ∧ t6 = .int .i64 (k : Int) ∧ Hid (wr.ownsRow w.heap.size 2 1 t5 k (hadsV (x.A.take k))) ∧ Hid (Old w wr)) (fun _ t _ => x.L.length - (intOf t).toNat)
  case atStart => exact ⟨0, Nat.zero_le _, rfl, kr0, kI⟩
  case round =>
    obtain ⟨k, hk, rfl, hR, oW⟩ := hrel
    by_cases hlt : k < x.L.length
    · have hlt' : (k : Int) < (x.L.length : Int) := by omega
      have hk100 : (k : Int) < 100 := by omega
      have kAc := hid (kA.out wr oW.out k hlt)
      have hsn := hid (hads_snoc x.A k (by omega))
      obtain ⟨⟨a1, a2⟩, ha⟩ : ∃ a, x.A.getD k (0, 0) = a := ⟨_, rfl⟩
      rw [ha] at kAc hsn
      dsimp only at kAc hsn
      obtain ⟨nm, hnm⟩ : ∃ nm, x.L[k] = nm := ⟨_, rfl⟩
      rw [hnm] at kAc
      clear hnm ha
      go_wp2_with fail
      refine kAc.out.mono ?_
      rintro e w2 ⟨rfl, o2⟩
      obtain ⟨wb, hwb⟩ : ∃ wb, w2.alloc (.cells #[.string ⟨nm.toArray⟩, .int .i64 a1, .int .i64 a2] 82) = wb := ⟨_, rfl⟩
      have ob : Old w2 wb := by rw [← hwb]; exact (Old.refl w2).alloc _
      have cb : wb.cell? ⟨w2.heap.size, 2, none⟩ = some (.int .i64 a2) := by rw [← hwb]; exact new_cell w2 _ _ 2 _ rfl
      obtain ⟨wc, hwc⟩ : ∃ wc, wb.alloc (.cells #[.int .i64 a2] 2) = wc := ⟨_, rfl⟩
      have oc : Old wb wc := by rw [← hwc]; exact (Old.refl wb).alloc _
      have cc : wc.cell? ⟨wb.heap.size, 0, none⟩ = some (.int .i64 a2) := by rw [← hwc]; exact new_cell wb _ _ 0 _ rfl
      have oR := (o2.trans ob).trans oc
      have hown := owns_kept hR.out (w' := wc) (fun q hq => oR.block q (hR.out.lt q hq).2 (fun h => h))
      have oC := hid (oW.out.trans oR)
      have hcell : ∀ (j : Nat) (u : Value), [Value.int .i64 a2][j]? = some u → wc.cell? ((⟨wb.heap.size, 0, none⟩ : Addr).add j) = some u := fun j u hu => by
        match j, hu with
        | 0, hu =>
          simp only [List.getElem?_cons_zero, Option.some.injEq] at hu
          subst hu
          simpa [Addr.add] using cc
      clear hR o2 ob oc oR kAc cc
      go_wp2_with (at_builtin; refine wpList_append_own _ (by rfl) _ _ 34 (by rfl) w.heap.size 2 i0 _ 1 8 Try.underlying34 hi0 hz0 hz1 hz2 rfl (by omega) u5 k (hadsV (x.A.take k)) (by rfl) hown ⟨wb.heap.size, 0, none⟩ 1 1 [Value.int .i64 a2] (by rfl) (by rfl) hcell (by intro u hu; simp at hu; subst hu; rfl) (by unfold maxLen; omega) (by omega) oC.out.size ?_)
      intro v2 w5 r2 g2 _
      rw [hsn.out] at r2
      have o5 : Hid (Old w w5) := by
        have f2 : Frm (fun q => u5.ownBlock = some q) wc w5 := Frm.grown (Frm.refl _ _) g2 (fun q hq => Or.inr hq)
        exact Frm.trans oC.out f2 (fun i hi e => by have := (hown.lt i e).1; omega)
      have kr := hid r2
      clear r2 g2 hown hcell
      go_wp2_with fail
      go_roundw
      case rel => exact ⟨k + 1, by omega, by go_num, kr, o5⟩
      case measure => simp [intOf]; omega
    · obtain rfl : k = x.L.length := by omega
      rw [List.take_of_length_le (by omega)] at hR
      go_wp2_with fail
      go_ret
      exact ⟨_, rfl, by unfold HadR; rw [← hlen]; exact hR.out, oW.out⟩

set_option maxRecDepth 100000 in
set_option maxHeartbeats 2000000 in
theorem same_hads (B C : Nat) (v u : Value) (A : List Ac) (w : World) (h1 : HadR B w v A) (h2 : HadR C w u A) (hl : A.length ≤ 1048576) :
    Calls Try.prog 15 #[v, u] w fun e w' => e = .returned (.bool true) ∧ Old w w' := by
  obtain ⟨ao, ca, rfl, ka⟩ := h1.form
  obtain ⟨bo, cb, rfl, kb⟩ := h2.form
  have ka := hid ka
  have kb := hid kb
  clear h1 h2
  have hq : ((A.length : Int) != (A.length : Int)) = false := by simp
  go_enter Try.func15, Try.ntmps15
  go_wp2_with fail
  go_loopw [5] (fun t wr => ∃ k : Nat, k ≤ A.length ∧ t = .int .i64 (k : Int) ∧ Old w wr) (fun t _ => A.length - (intOf t).toNat)
  case atStart => exact ⟨0, Nat.zero_le _, rfl, Old.refl _⟩
  case round =>
    obtain ⟨k, hk, rfl, hO⟩ := hrel
    by_cases hlt : k < A.length
    · obtain ⟨g, rfl, c1⟩ := ka.out k hlt
      obtain ⟨g', rfl, c2⟩ := kb.out k hlt
      have c1 := hO.cell c1
      have c2 := hO.cell c2
      have hk' : (k : Int) < (A.length : Int) := by omega
      obtain ⟨y, hy⟩ : ∃ y, (A.getD k (0, 0)).2 = y := ⟨_, rfl⟩
      rw [hy] at c1 c2
      have hq2 : (y != y) = false := by simp
      clear hy
      go_wp2_with fail
      go_quiet (fail)
      go_wp2_with fail
      go_roundw
      case rel => exact ⟨k + 1, by omega, by go_num, hO.drewN _⟩
      case measure => simp [intOf]; omega
    · go_wp2_with fail
      go_ret
      exact ⟨rfl, hO⟩
end Go.Proofs.Ytlhlmkdgbgppiaa

/- A posting and what takes it back, in plain words. -/
namespace Go.Proofs.Ytlhlmkdgbgppiaa

def negP (q : List En) : List En := q.map (fun e => (e.1, -e.2))
theorem sumE_neg : ∀ (q : List En) (k : Nat), sumE (negP q) k = -sumE q k
  | [], k => rfl
  | e :: q, k => by
    have := sumE_neg q k
    simp only [negP, List.map_cons, sumE] at this ⊢
    rw [this]
    split <;> omega
theorem sumC_neg : ∀ (p : List Int), sumC (p.map (fun c => -c)) = -sumC p
  | [] => rfl
  | c :: p => by
    have := sumC_neg p
    simp only [List.map_cons, sumC]
    rw [this]
    omega
theorem idx_at {L : List (List UInt8)} (h : L.Nodup) {i : Nat} (hi : i < L.length) : idx L (L.getD i []) = some i := by
  have hm : L.getD i [] ∈ L := by rw [getD_get hi]; exact List.getElem_mem hi
  unfold idx
  rw [if_pos hm, getD_get hi, List.Nodup.idxOf_getElem h]
theorem plan_neg {L : List (List UInt8)} (h : L.Nodup) {q : List En} (hq : ∀ e ∈ q, e.1 < L.length) : planP L (negE (entsOf L q)) = negP q := by
  unfold planP negE entsOf negP
  rw [List.map_map, List.map_map]
  refine List.map_congr_left (fun e he => ?_)
  simp only [Function.comp_apply]
  rw [idx_at h (hq e he)]
  rfl
theorem post_back {A : List Ac} {q : List En} : postA (postA A q) (negP q) = A := by
  refine List.ext_getElem (by rw [postA_len, postA_len]) (fun i h1 h2 => ?_)
  have e1 := postA_at (negP q) (postA A q) i (by rw [postA_len]; exact h2)
  rw [postA_at q A i h2, sumE_neg] at e1
  rw [getD_get h1, getD_get h2] at e1
  rw [e1]
  refine Prod.ext rfl ?_
  show A[i].2 + sumE q i + -sumE q i = A[i].2
  omega

/-- What is taken back is refused for what it leaves alone, or not at all. -/
theorem back_plan {x : Lx} (h : OkL x) {q : List En} (hq : OkP x.A.length q) : planZ x.L x.A (negE (entsOf x.L q)) = 0 ∨ planZ x.L x.A (negE (entsOf x.L q)) = 7 := by
  have hl : (negE (entsOf x.L q)).length = q.length := by simp [negE, entsOf]
  have h1 : ¬ ((negE (entsOf x.L q)).length < 1 ∨ 128 < (negE (entsOf x.L q)).length) := by rw [hl]; have := hq.len; omega
  have hm : ∀ e ∈ negE (entsOf x.L q), mayB e = true := fun e he => by
    obtain ⟨y, hy, rfl⟩ := List.mem_map.1 he
    obtain ⟨z, hz, rfl⟩ := List.mem_map.1 hy
    obtain ⟨g1, g2, g3, g4⟩ := hq.each z hz
    have hz1 : z.1 < x.L.length := by rw [h.len]; exact g1
    have hc := h.chk (x.L.getD z.1 []) (by rw [getD_get hz1]; exact List.getElem_mem hz1)
    simp only [mayB, decide_eq_true_eq]
    exact ⟨hc, by omega, by omega, by omega⟩
  have hs : sumC ((negE (entsOf x.L q)).map Prod.snd) = 0 := by
    have : (negE (entsOf x.L q)).map Prod.snd = (q.map Prod.snd).map (fun c => -c) := by simp [negE, entsOf]
    rw [this, sumC_neg, hq.sum]
    rfl
  rw [planZ_rest h1 hm hs]
  have h4 : errT x.L (negE (entsOf x.L q)) (negE (entsOf x.L q)).length = 0 := by
    unfold errT
    rw [List.take_length, if_neg]
    rintro ⟨e, he, hn⟩
    obtain ⟨y, hy, rfl⟩ := List.mem_map.1 he
    obtain ⟨z, hz, rfl⟩ := List.mem_map.1 hy
    simp only at hn
    rw [idx_at h.nd (by rw [h.len]; exact (hq.each z hz).1)] at hn
    cases hn
  rw [h4, if_neg (by decide)]
  split
  · exact Or.inr rfl
  · exact Or.inl rfl
end Go.Proofs.Ytlhlmkdgbgppiaa

/- What Open and Back come to, whatever is handed in. -/
namespace Go.Proofs.Ytlhlmkdgbgppiaa
open Go.RowKit Go.Shelf Go.Maps

/-- A ledger that goes on. -/
structure Goes (w : World) (x y : Lx) : Prop where
  lb : y.lb = x.lb
  all : ∀ k, y.all k → x.all k ∨ w.heap.size ≤ k
theorem Goes.refl (w : World) (x : Lx) : Goes w x x := ⟨rfl, fun _ h => Or.inl h⟩
theorem New.goes {B : Nat} {w : World} {x y : Lx} (h : New B x) (g : Goes w x y) (hB : B ≤ w.heap.size) : New B y := fun k hk => by
  rcases g.all k hk with h1 | h1
  · exact h k h1
  · omega
theorem goes_posted {w : World} {x : Lx} {q : List En} {v : Value} (hv : ∀ k, v.ownBlock = some k → x.pv.ownBlock = some k ∨ w.heap.size ≤ k) : Goes w x (x.posted q v) := ⟨rfl, fun k hk => by
  rcases hk with hk | hk | hk | hk | hk | hk | hk | hk
  · exact Or.inl (Or.inl hk)
  · exact Or.inl (Or.inr (Or.inl hk))
  · exact Or.inl (Or.inr (Or.inr (Or.inl hk)))
  · exact Or.inl (Or.inr (Or.inr (Or.inr (Or.inl hk))))
  · exact Or.inl (Or.inr (Or.inr (Or.inr (Or.inr (Or.inl hk)))))
  · exact Or.inl (Or.inr (Or.inr (Or.inr (Or.inr (Or.inr (Or.inl hk))))))
  · exact Or.inl (Or.inr (Or.inr (Or.inr (Or.inr (Or.inr (Or.inr (Or.inl hk)))))))
  · rcases hv k hk with h1 | h1
    · exact Or.inl (Or.inr (Or.inr (Or.inr (Or.inr (Or.inr (Or.inr (Or.inr h1)))))))
    · exact Or.inr h1⟩
theorem goes_opened {w : World} {x : Lx} {n : List UInt8} {b : Int} {v : Value} (hv : ∀ k, v.ownBlock = some k → x.v.ownBlock = some k ∨ w.heap.size ≤ k) : Goes w x (x.opened n b v) := ⟨rfl, fun k hk => by
  rcases hk with hk | hk | hk | hk | hk | hk | hk | hk
  · exact Or.inl (Or.inl hk)
  · exact Or.inl (Or.inr (Or.inl hk))
  · exact Or.inl (Or.inr (Or.inr (Or.inl hk)))
  · exact Or.inl (Or.inr (Or.inr (Or.inr (Or.inl hk))))
  · exact Or.inl (Or.inr (Or.inr (Or.inr (Or.inr (Or.inl hk)))))
  · exact Or.inl (Or.inr (Or.inr (Or.inr (Or.inr (Or.inr (Or.inl hk))))))
  · rcases hv k hk with h1 | h1
    · exact Or.inl (Or.inr (Or.inr (Or.inr (Or.inr (Or.inr (Or.inr (Or.inl h1)))))))
    · exact Or.inr h1
  · exact Or.inl (Or.inr (Or.inr (Or.inr (Or.inr (Or.inr (Or.inr (Or.inr hk)))))))⟩

theorem open_both (x : Lx) (n : List UInt8) (b : Int) (w : World) (h : Ldg w x) (hk : OkL x) :
    Calls Try.prog 10 #[x.ptr, .string ⟨n.toArray⟩, .int .i64 b] w fun e w' => ∃ a r, e = .returned (.tuple #[.int .i64 a, .int .i64 r]) ∧ ∃ y : Lx, Ldg w' y ∧ OkL y ∧ Goes w x y ∧ y.P = x.P ∧ y.L.length ≤ x.L.length + 1 ∧ Frm x.own w w' := by
  by_cases hz : opnZ x.L n b = 0
  · refine (open_good x n b w h hk hz).mono ?_
    rintro e w' ⟨rfl, v', h1, h2, h3⟩
    exact ⟨_, _, rfl, x.opened n b v', h1, hk.opened hz, goes_opened h3, rfl, by simp [Lx.opened], h2⟩
  · refine (open_bad x n b w h hk hz).mono ?_
    rintro e w' ⟨rfl, o⟩
    exact ⟨_, _, rfl, x, h.old o, hk, Goes.refl w x, rfl, by omega, Frm.mono o (fun _ _ h => h.elim)⟩

theorem bk_is (x : Lx) (q : List En) (pv : Value) : (x.posted q pv).bk x.P.length = negE (entsOf x.L q) := by
  unfold Lx.bk
  show negE (entsOf x.L ((x.P ++ [q]).getD x.P.length [])) = _
  rw [List.getD_eq_getElem?_getD, List.getElem?_append_right (Nat.le_refl _), Nat.sub_self]
  rfl

theorem back_both (x : Lx) (q : List En) (pv : Value) (w : World) (h : Ldg w (x.posted q pv)) (hk0 : OkL x) (hk : OkL (x.posted q pv)) (hq : OkP x.A.length q) (hP : x.P.length ≤ 1000) :
    Calls Try.prog 17 #[(x.posted q pv).ptr, .int .i64 (x.P.length : Int)] w fun e w' =>
      ((∃ a, e = .returned (.tuple #[.int .i64 a, .int .i64 0])) ∧ ∃ z : Lx, Ldg w' z ∧ OkL z ∧ Goes w (x.posted q pv) z ∧ z.A = x.A ∧ z.L = x.L ∧ z.P.length = x.P.length + 2 ∧ Frm (x.posted q pv).wrote w w') ∨
      (e = .returned (.tuple #[.int .i64 0, .int .i64 7]) ∧ Old w w') := by
  have hls : ∀ e ∈ q, e.1 < x.L.length := fun e he => by rw [hk0.len]; exact (hq.each e he).1
  have hml : ∀ e ∈ negE (entsOf x.L q), e.1.length ≤ maxLen := fun e he => by
    obtain ⟨y, hy, rfl⟩ := List.mem_map.1 he
    obtain ⟨z, hz, rfl⟩ := List.mem_map.1 hy
    have hc := hk0.chk (x.L.getD z.1 []) (by rw [getD_get (hls z hz)]; exact List.getElem_mem _)
    unfold chkZ at hc
    have : maxLen = 9223372036854775807 := rfl
    simp only
    split at hc <;> omega
  have hq2 : OkP (x.posted q pv).A.length q := by show OkP (postA x.A q).length q; rw [postA_len]; exact hq
  refine back_any (x.posted q pv) x.P.length w _ h hk (by simp [Lx.posted]) (fun W b oW hb hO => ?_)
  have hpl := back_plan hk hq2
  rw [bk_is] at hO ⊢
  rcases hpl with hz | hz
  · refine (post_good (x.posted q pv) (some ⟨b, 0, none⟩) (negE (entsOf x.L q)).length (negE (entsOf x.L q)) W (h.old oW) hk hO.esc hml (by simp [Lx.posted]; omega) hz).mono ?_
    rintro e w' ⟨rfl, pv', h1, h2, h3, h4⟩
    refine ⟨_, _, rfl, Or.inl ⟨⟨_, rfl⟩, _, h1, h2, goes_posted (fun k hk => ?_), ?_, rfl, ?_, Frm.trans (Frm.mono oW (fun _ _ h => h.elim)) h3 (fun _ _ h => h)⟩⟩
    · rcases h4 k hk with h5 | h5
      · exact Or.inl h5
      · exact Or.inr (by have := oW.size; omega)
    · show postA (postA x.A q) (planP x.L (negE (entsOf x.L q))) = x.A
      rw [plan_neg hk0.nd hls, post_back]
    · simp [Lx.posted]
  · have hb := post_bad (x.posted q pv) (some ⟨b, 0, none⟩) (negE (entsOf x.L q)).length (negE (entsOf x.L q)) W (h.old oW) hk hO.esc hml (by rw [show planZ (x.posted q pv).L (x.posted q pv).A (negE (entsOf x.L q)) = 7 from hz]; decide)
    rw [show planZ (x.posted q pv).L (x.posted q pv).A (negE (entsOf x.L q)) = 7 from hz] at hb
    refine hb.mono ?_
    rintro e w' ⟨rfl, o⟩
    exact ⟨_, _, rfl, Or.inr ⟨rfl, oW.trans o⟩⟩
end Go.Proofs.Ytlhlmkdgbgppiaa
