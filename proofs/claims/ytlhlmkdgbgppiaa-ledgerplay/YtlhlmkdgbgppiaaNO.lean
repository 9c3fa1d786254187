/- nought: all accounts together: walked. -/
import Derived.Test.YtlhlmkdgbgppiaaAD
namespace Go.Proofs.Ytlhlmkdgbgppiaa
open Go.RowKit Go.Lib Go.Shelf Go.Maps
attribute [local go_sem] Oper.semAt_some

theorem prefix_bnd {A : List Ac} (h : OkA A) (k : Nat) : -4611686018427387904 ≤ total (A.take k) ∧ total (A.take k) ≤ 4611686018427387904 := by
  have hs := h.sum
  rw [← List.take_append_drop k A] at hs
  simp only [total, List.map_append, sumC_append] at hs
  have hb : ∀ a ∈ A, -70368744177664 ≤ a.2 := fun a ha => by have := h.each a ha; omega
  have h1 := low_sum (A.take k) (fun a ha => hb a (List.mem_of_mem_take ha))
  have h2 := low_sum (A.drop k) (fun a ha => hb a (List.mem_of_mem_drop ha))
  have h3 := h.len
  rw [List.length_take] at h1
  rw [List.length_drop] at h2
  unfold total at *
  omega
theorem sum_take2 (A : List Ac) (k : Nat) (h : k < A.length) : total (A.take (k + 1)) = total (A.take k) + (A.getD k (0, 0)).2 := by
  rw [List.take_succ_eq_append_getElem h, getD_get h]
  simp only [total, List.map_append, sumC_append]
  simp [sumC]
theorem acL_next {L : List (List UInt8)} {A : List Ac} {q : List AcN} {x : AcN} {k : Nat} (hk : k ≤ L.length) (h : q ++ [x] = (acL L A).take k) : ∃ j, k = j + 1 ∧ j < L.length ∧ q = (acL L A).take j ∧ x = (j, L.getD j [], A.getD j (0, 0)) := by
  have hl := congrArg List.length h
  rw [List.length_append, List.length_take, acL_len, Nat.min_eq_left hk] at hl
  simp only [List.length_cons, List.length_nil] at hl
  have ht : (acL L A).take (q.length + 1) = (acL L A).take q.length ++ [(q.length, L.getD q.length [], A.getD q.length (0, 0))] := by
    unfold acL
    rw [← List.map_take, nmL_take L q.length (by omega), List.map_append, List.map_take]
    rfl
  refine ⟨q.length, by omega, by omega, ?_, ?_⟩
  · rw [← hl, ht] at h
    exact List.append_inj_left' h rfl
  · rw [← hl, ht] at h
    have := List.append_inj_right' h rfl
    simpa using this

set_option maxRecDepth 100000 in
set_option maxHeartbeats 8000000 in
theorem nought_any (x : Lx) (w : World) (h : Ldg w x) (hk : OkL x) :
    Calls Try.prog 14 #[x.ptr] w fun e w' => e = .returned (.bool true) ∧ Old w w' := by
  have hfn : ∀ (p q : Value) (w : World), (binOp BinOp.eql 97 (.func (.func 64) #[] #[p, q]) .nilFunc).run Try.prog w = .ok (.bool false) w := fun _ _ _ => by kernel_rfl
  have o0 : Old w (w.alloc (.cells #[.bool false] 4)) := (Old.refl w).alloc _
  have b0 := Boxed.new w 4 (.bool false)
  have kAc := hid (accounts_any x _ (h.old o0))
  obtain ⟨s0, hs0⟩ : ∃ s0, w.heap.size = s0 := ⟨_, rfl⟩
  have z0 := alloc_size w (.cells #[.bool false] 4)
  rw [hs0] at b0 z0
  have kb := hid b0
  have kz := hid z0
  have ks := hid hs0
  have ko := hid o0
  have kk := hid hk
  have kvl : Hid (∀ k, x.v.ownBlock = some k → k < s0) := fun k hk => by
    obtain ⟨cur, hc⟩ := owns_block h.nms.t.row hk
    have := blk_lt hc
    omega
  have h64 := hid (fun n (hn : n ∈ x.L) => (show n.length ≤ 64 by
    have := hk.chk n hn
    unfold chkZ at this
    split at this <;> omega))
  unfold Lx.ptr at *
  clear h o0 b0 z0 hk
  refine (callsIn_wide (n := 5)).1 ?_
  refine callsIn_of_wp_marks Try.func14 rfl trivial ?_ rfl
  simp only [Try.ntmps14, List.size_toArray, List.length_cons, List.length_nil, Nat.reduceAdd, Nat.reduceSub, Array.replicate_succ, Array.replicate_zero, List.push_toArray, List.append_toArray, List.nil_append, List.cons_append]
  refine wpIn_wide.2 ?_
  go_upto_region 1 with fail
  clear hs0
  generalize w.alloc (.cells #[.bool false] 4) = W1 at *
  go_wp2_with fail
  refine kAc.out.mono ?_
  rintro e W2 ⟨b1, b2, b0, mb, rfl, hF, o2, q1, q2, q3, q4⟩
  have kF := hid hF
  have kb2 := hid (boxed_olds kb.out o2)
  have ko2 := hid (ko.out.trans o2)
  have kz2 : Hid (s0 + 1 ≤ W2.heap.size) := hid (by have := kz.out; have := o2.size; omega)
  have kq := hid (show s0 + 1 ≤ b1 ∧ s0 + 1 ≤ b2 ∧ s0 + 1 ≤ b0 ∧ s0 + 1 ≤ mb from by have := kz.out; omega)
  clear hF o2 q1 q2 q3 q4 kAc kb ko kz
  go_wp2_with fail
  have bs0 := Boxed.new W2 2 (.int .i64 0)
  have oS : Old W2 (W2.alloc (.cells #[.int .i64 0] 2)) := (Old.refl W2).alloc _
  have kF3 := hid (kF.out.old oS)
  have kb3 := hid (boxed_olds kb2.out oS)
  have ko3 := hid (ko2.out.trans oS)
  have zS := alloc_size W2 (.cells #[.int .i64 0] 2)
  have klt := hid (show b1 < W2.heap.size ∧ b2 < W2.heap.size ∧ b0 < W2.heap.size ∧ mb < W2.heap.size from ⟨World.block_lt_of_cell? _ _ kF.out.c1, World.block_lt_of_cell? _ _ kF.out.c2, World.block_lt_of_cell? _ _ kF.out.c0, kF.out.am.lt⟩)
  obtain ⟨bs, hbs⟩ : ∃ bs, W2.heap.size = bs := ⟨_, rfl⟩
  rw [hbs] at bs0 zS klt kz2 ⊢
  have kbs := hid bs0
  have kzS := hid zS
  clear hbs bs0 zS oS kF kb2 ko2
  generalize W2.alloc (.cells #[.int .i64 0] 2) = W3 at *
  refine (wpIn_wide (n := 5)).1 ?_
  refine range_Nb (α := AcN) (by omega) (gf := 64) (lb := #[.pointer (some ⟨b1, 0, none⟩), .pointer (some ⟨b2, 0, none⟩)]) rfl (enters_of Try.func64 (by kernel_rfl) rfl)
    (accounts2_N 4 (by omega) b1 b2 b0 mb x.v x.L x.A kk.out.len kk.out.oka h64.out (fun k => k = bs) W3 kF3.out (fun k hk e => by have := kzS.out; omega) (by have := klt.out; omega) (by have := klt.out; omega) (by have := klt.out; omega) (fun k hk e => by have := kvl.out k hk; have := kz2.out; omega))
    (fun h k => h.trans k) (fun W o => KeptM.old ((Old.refl W).alloc o)) (fun W o o' h1 h2 => KeptM.put o' (by have := klt.out; have := kzS.out; omega) h1 h2) (fun _ => rfl)
    (fun p Y => ∃ k, k ≤ x.L.length ∧ p = (acL x.L x.A).take k ∧ Boxed Y bs 2 (.int .i64 (total (x.A.take k))) ∧ Frm (fun k => k = bs ∨ W3.heap.size ≤ k) W3 Y)
    (fun _ _ _ => False)
    (fun p X Y ⟨k, h1, h2, h3, h4⟩ hf => ⟨k, h1, h2, boxed_frm h3 hf (fun e => by have := kzS.out; omega), Frm.trans h4 hf (fun _ _ e => Or.inr e)⟩)
    (fun c p X Y h _ => h)
    ⟨0, Nat.zero_le _, rfl, kbs.out, Frm.refl _ _⟩
    (fun y => .cells #[.string ⟨y.2.1.toArray⟩, .int .i64 y.2.2.1, .int .i64 y.2.2.2] 82)
    (fun y m t => ((t.setIfInBounds 12 (.int .i64 (y.1 : Int))).setIfInBounds 13 (.agg #[.string ⟨y.2.1.toArray⟩, .int .i64 y.2.2.1, .int .i64 y.2.2.2])).setIfInBounds 6 (.pointer (some ⟨m, 0, none⟩))) ?assign ?body ?done ?stop
  case assign =>
    rintro l p ⟨i, nm, a1, a2⟩ Y K - hK
    have kK := hid hK
    clear hK
    dsimp only [encA] at kK ⊢
    gi_wp2_with fail
    exact kK.out
  case body =>
    rintro l p ⟨i, nm, a1, a2⟩ mm Y ⟨k, hk, rfl, hbx, hf⟩ ⟨k', hk', hpk⟩ hmm hm2
    obtain ⟨j, rfl, hj, hpe, hxe⟩ := acL_next hk' hpk
    have hkj : k = j := by
      have := congrArg List.length hpe
      rw [List.length_take, List.length_take, acL_len] at this
      omega
    subst hkj
    simp only [Prod.mk.injEq] at hxe
    obtain ⟨rfl, rfl, hae⟩ := hxe
    have hjA : i < x.A.length := by rw [← kk.out.len]; exact hj
    have hsum := sum_take2 x.A i hjA
    have hea := kk.out.oka.each (x.A[i]) (List.getElem_mem hjA)
    rw [← getD_get (d := (0, 0)) hjA, ← hae] at hea
    rw [← hae] at hsum
    have hb2 := prefix_bnd kk.out.oka (i + 1)
    rw [hsum] at hb2
    have hnl : ¬ a2 < a1 := by have := hea.2.2; simp only at this; omega
    simp only at hsum hb2
    have c1 := blk_cells (i := 1) hmm rfl
    have c2 := blk_cells (i := 2) hmm rfl
    have sc := hbx.cell
    have sf := hbx.frozen
    have hlo : -9223372036854775808 ≤ total (x.A.take i) + a2 := by omega
    have hhi : total (x.A.take i) + a2 ≤ 9223372036854775807 := by omega
    have ksum := hid hsum
    have khb := hid hbx
    have khf := hid hf
    have kpk := hid hpk
    have kj := hid hj
    clear hbx hf hpk hpe hae hea hb2 hsum hmm hk hk' hj hjA
    generalize total (x.A.take i) = S at *
    gi_wp2_with fail
    refine ⟨keeps_low (by have := kzS.out; omega) _ _, ⟨KeptC.of_frm (frm_set Y bs 0 _), fun hm => (frm_set Y bs 0 _).block mb hm (by have := klt.out; omega)⟩, i + 1, by have := kj.out; omega, kpk.out, ?_, Frm.trans khf.out (frm_set Y bs 0 _) (fun _ _ e => Or.inl e)⟩
    rw [ksum.out]
    exact Boxed.set _ khb.out
  case done =>
    rintro D q Y hD rfl ⟨k, hk, hqe, hbx, hf⟩ hK
    have hkl : k = x.L.length := by
      have := congrArg List.length hqe
      rw [List.length_take, acL_len] at this
      omega
    have hS : total (x.A.take k) = 0 := by
      rw [hkl, List.take_of_length_le (by rw [kk.out.len]; exact Nat.le_refl _)]
      exact kk.out.oka.sum
    rw [hS] at hbx
    have rb := boxed_frm kb3.out hf (fun e => by have := kzS.out; have := kz2.out; omega)
    have sc := hbx.cell
    have rc := rb.cell
    have rf := rb.frozen
    have kK := hid hK
    have kf := hid hf
    have krb := hid rb
    have kD := hid hD
    clear hK hf rb hqe hkl hS hbx hD
    refine inBlock_both (Or.inl rfl) ?_
    dsimp only
    try refine wpIn_wide.2 ?_
    go_wp2_with fail
    have hfx := frm_set Y s0 0 (.bool true)
    have hDs : s0 + 1 < D := by have := kD.out; have := kzS.out; have := kz2.out; omega
    refine leave_marks [D] _ ⟨by simp, fun r hr => ?_⟩ (fun W' hW' => ?_)
    · obtain rfl : r = D := by simpa using hr
      rw [hfx.block r (blk_lt kK.out) (by omega)]
      exact kK.out
    · have hc0 := (boxed_frm (Boxed.set (.bool true) krb.out) hW' (fun h => by
        have : s0 = D := by simpa using h
        omega)).cell
      refine ⟨.bool true, ?_, rfl, ?_⟩
      · simp [results, Try.f14, go_sem, hc0]
      · refine Frm.trans (Frm.trans (Frm.trans ko3.out kf.out (fun i hi e => ?_)) hfx (fun i hi e => by have := ks.out; omega)) hW' (fun i hi e => ?_)
        · have := ks.out
          have := kz2.out
          have := kzS.out
          rcases e with e | e <;> omega
        · have : i = D := by simpa using e
          have := ks.out
          omega
  case stop => intro D c p Y _ _ h; exact h.elim
end Go.Proofs.Ytlhlmkdgbgppiaa
