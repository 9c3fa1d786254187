/- Names that are the same: walked. -/
import Derived.Test.YtlhlmkdgbgppiaaJ13
import Derived.Test.YtlhlmkdgbgppiaaJ16
namespace Go.Proofs.Ytlhlmkdgbgppiaa
open Go.RowKit Go.Lib Go.Shelf Go.Maps
attribute [local go_sem] Oper.semAt_some

set_option maxRecDepth 100000 in
set_option maxHeartbeats 2000000 in
theorem nsame_short (hb tb mb hb' tb' mb' : Nat) (v v' : Value) (most most' : Int) (L M : List (List UInt8)) (w : World) (h : Nms w hb tb mb v most L) (h' : Nms w hb' tb' mb' v' most' M) (hlen : L.length ≠ M.length) :
    Calls Try.prog 47 #[.pointer (some ⟨hb, 0, none⟩), .pointer (some ⟨hb', 0, none⟩)] w fun e w' => e = .returned (.bool false) ∧ Old w w' := by
  have o1 : Old w (w.alloc (.cells #[.bool false] 4)) := (Old.refl w).alloc _
  have k1 := hid (none_some hb tb _ (o1.cell h.c0))
  have k2 := hid (none_some hb' tb' _ (o1.cell h'.c0))
  have k3 := hid (len_any hb tb mb v most L _ (h.frm o1 (fun h => h) (fun h => h) (fun h => h) (fun _ _ h => h)))
  have k4 := hid (len_any hb' tb' mb' v' most' M _ (h'.frm o1 (fun h => h) (fun h => h) (fun h => h) (fun _ _ h => h)))
  have hq : ((L.length : Int) != (M.length : Int)) = true := by simp; omega
  clear h h' hlen o1
  generalize L.length = n at *
  generalize M.length = m at *
  go_enter Try.func47, Try.ntmps47
  go_wp2_with fail
  refine k1.out.mono ?_
  rintro e w2 ⟨rfl, h2⟩
  rw [h2]
  clear h2 w2
  go_wp2_with fail
  refine k2.out.mono ?_
  rintro e w2 ⟨rfl, h2⟩
  rw [h2]
  clear h2 w2
  go_wp2_with fail
  refine k3.out.mono ?_
  rintro e w2 ⟨rfl, h2⟩
  rw [h2]
  clear h2 w2
  go_wp2_with fail
  refine k4.out.mono ?_
  rintro e w2 ⟨rfl, h2⟩
  rw [h2]
  clear h2 w2
  go_wp2_with fail
  refine bodyPost_ret (v := .bool false) ?_ rfl ⟨rfl, (Old.refl w).alloc _⟩
  simp [results, Try.f47, go_sem]

/-- A name stands there under the same number. -/
def Mt (L M : List (List UInt8)) (k : Nat) : Prop := idx M (L.getD k []) = some k
theorem mt_all {L M : List (List UInt8)} (hl : L.length = M.length) (h : ∀ k, k < L.length → Mt L M k) : L = M := by
  apply List.ext_getElem hl
  intro i h1 h2
  have := idx_at' (h i h1)
  rw [getD_get h1, getD_get h2] at this
  exact this.symm
theorem mt_same {L : List (List UInt8)} (nd : L.Nodup) (k : Nat) (h : k < L.length) : Mt L L k := idx_at nd h
/-- The state of the loop. -/
def NsI (w : World) (s : Nat) (fv : Value) (L M : List (List UInt8)) (k : Nat) (Y : World) : Prop :=
  (∀ j, j < k → Mt L M j) ∧ Y.heap[s]? = some (.cells #[.bool false] 4 (0, 0)) ∧ Y.heap[s + 1]? = some (.cells #[fv] 132 (0, 0)) ∧ Old w Y

set_option maxRecDepth 100000 in
set_option maxHeartbeats 4000000 in
theorem nsame_long (hb tb mb hb' tb' mb' : Nat) (v v' : Value) (most most' : Int) (L M : List (List UInt8)) (w : World) (h : Nms w hb tb mb v most L) (h' : Nms w hb' tb' mb' v' most' M) (nd : L.Nodup) (h64 : ∀ n ∈ L, n.length ≤ 64) (hL : L.length ≤ 1048576) (hlen : L.length = M.length) :
    Calls Try.prog 47 #[.pointer (some ⟨hb, 0, none⟩), .pointer (some ⟨hb', 0, none⟩)] w fun e w' => e = .returned (.bool (decide (L = M))) ∧ Old w w' := by
  have o1 : Old w (w.alloc (.cells #[.bool false] 4)) := (Old.refl w).alloc _
  have hN := fun W (o : Old w W) => h.frm (S := fun _ => False) o (fun h => h) (fun h => h) (fun h => h) (fun _ _ h => h)
  have hN' := fun W (o : Old w W) => h'.frm (S := fun _ => False) o (fun h => h) (fun h => h) (fun h => h) (fun _ _ h => h)
  have k1 := hid (none_some hb tb _ (o1.cell h.c0))
  have k2 := hid (none_some hb' tb' _ (o1.cell h'.c0))
  have k3 := hid (len_any hb tb mb v most L _ (hN _ o1))
  have k4 := hid (len_any hb' tb' mb' v' most' M _ (hN' _ o1))
  have o2 : Old w ((w.alloc (.cells #[.bool false] 4)).alloc (.cells #[.func (.func 56) #[.pointer (some ⟨hb', 0, none⟩)] #[]] 132)) := o1.alloc _
  have k5 := hid (all_any hb tb mb v most L _ (hN _ o2))
  have y0 := (((Old.refl (w.alloc (.cells #[.bool false] 4))).alloc (.cells #[.func (.func 56) #[.pointer (some ⟨hb', 0, none⟩)] #[]] 132)).block w.heap.size (by rw [alloc_size]; omega) (fun h => h)).trans (heap_new w (.cells #[.bool false] 4))
  have y1 := heap_new (w.alloc (.cells #[.bool false] 4)) (.cells #[.func (.func 56) #[.pointer (some ⟨hb', 0, none⟩)] #[]] 132)
  have z1 := alloc_size w (.cells #[.bool false] 4)
  have z2 := alloc_size (w.alloc (.cells #[.bool false] 4)) (.cells #[.func (.func 56) #[.pointer (some ⟨hb', 0, none⟩)] #[]] 132)
  rw [z1] at y1 z2
  rw [← hlen] at k4
  have hvb : ∀ k, v.ownBlock = some k → k < w.heap.size := fun k hk => by
    obtain ⟨cur, hc⟩ := owns_block h.t.row hk
    exact blk_lt hc
  have kF := hid (fun W (o : Old w W) x hx => find_any hb' tb' mb' v' most' M x W (hN' W o) hx)
  have klat := hid (fun W (o : Old w W) => (hN W o).t.lat)
  have kvb := hid hvb
  have klen := hid hlen
  have knd := hid nd
  have k64 := hid h64
  have ko2 := hid o2
  clear h h' hlen hN hN' hvb nd h64 o1 o2
  obtain ⟨fv, hfv⟩ : ∃ fv, Value.func (.func 56) #[.pointer (some ⟨hb', 0, none⟩)] #[] = fv := ⟨_, rfl⟩
  have kfv := hid hfv
  obtain ⟨n, hn⟩ : ∃ n, L.length = n := ⟨_, rfl⟩
  rw [hn] at k3 k4
  have kn := hid hn
  clear hn hfv
  refine (callsIn_wide (n := 5)).1 ?_
  refine callsIn_of_wp_marks Try.func47 rfl trivial ?_ rfl
  simp only [Try.ntmps47, List.size_toArray, List.length_cons, List.length_nil, Nat.reduceAdd, Nat.reduceSub, Array.replicate_succ, Array.replicate_zero, List.push_toArray, List.append_toArray, List.nil_append, List.cons_append]
  refine wpIn_wide.2 ?_
  go_wp2_with fail
  refine k1.out.mono ?_
  rintro e w2 ⟨rfl, h2⟩
  rw [h2]
  clear h2 w2
  go_wp2_with fail
  refine k2.out.mono ?_
  rintro e w2 ⟨rfl, h2⟩
  rw [h2]
  clear h2 w2
  go_wp2_with fail
  refine k3.out.mono ?_
  rintro e w2 ⟨rfl, h2⟩
  rw [h2]
  clear h2 w2
  go_wp2_with fail
  refine k4.out.mono ?_
  rintro e w2 ⟨rfl, h2⟩
  rw [h2]
  clear h2 w2
  go_wp2_with fail
  refine k5.out.mono ?_
  rintro e w2 ⟨rfl, h2⟩
  clear k1 k2 k3 k4 k5
  rw [kfv.out] at y0 y1 z2 ko2 h2
  obtain ⟨WB, hWB⟩ : ∃ WB, (w.alloc (.cells #[.bool false] 4)).alloc (.cells #[fv] 132) = WB := ⟨_, rfl⟩
  rw [hWB] at y0 y1 z2 ko2 h2
  have e9 : WB.heap.size = w.heap.size + 2 := z2
  have y2 := blk_cell (heap_new WB (.cells #[v] 33))
  have o3 : Old WB (WB.alloc (.cells #[v] 33)) := (Old.refl WB).alloc _
  have z3 := alloc_size WB (.cells #[v] 33)
  rw [← h2] at y2 o3 z3
  rw [e9] at y2 z3
  have kSt : Hid (NsI w w.heap.size fv L M 0 w2) := ⟨fun j hj => by omega, (o3.block _ (blk_lt y0) (fun h => h)).trans y0, (o3.block _ (blk_lt y1) (fun h => h)).trans y1, ko2.out.trans o3⟩
  have kc2 := hid y2
  have kz3 := hid z3
  rw [kfv.out]
  have hez : Hid (WB.heap.size = w.heap.size + 2) := e9
  simp only [hWB, e9]
  clear hWB z1 z2 z3 y0 y1 y2 h2 o3 ko2 e9
  clear hez
  obtain ⟨s, hs⟩ : ∃ s, w.heap.size = s := ⟨_, rfl⟩
  have kss := hid hs
  rw [hs] at kSt kc2 kz3 kvb ⊢
  clear hs
  go_wp2_with fail
  refine (wpIn_wide (n := 5)).1 ?_
  refine range_priv (n := 5) (by omega) (gf := 81) (lb := #[.pointer (some ⟨s + 2, 0, none⟩)]) rfl (enters_of Try.func81 (by kernel_rfl) rfl)
    (names_P 4 (by omega) (s + 2) v (fun k => s ≤ k) L hL k64.out w2 (fun k hk h => by have := kvb.out k hk; omega) kc2.out (klat.out w2 kSt.out.2.2.2))
    (fun h k => h.trans k) (fun W l o o' _ h1 h2 => KeptC.put W l o o' h1 h2) (fun _ => rfl)
    (fun q Y => ∃ k, k ≤ n ∧ q = (nmL L).take k ∧ NsI w s fv L M k Y)
    (fun c q Y => c = .ret ∧ (∃ k, k < n ∧ ¬ Mt L M k) ∧ Y.heap[s]? = some (.cells #[.bool false] 4 (0, 0)) ∧ Old w Y)
    ?i1 ?i2 ?i3 ?i4 ⟨0, Nat.zero_le _, by simp, kSt.out⟩
    (fun x => { tmps := #[.pointer (some ⟨hb, 0, none⟩), .pointer (some ⟨hb', 0, none⟩), undef, undef, .pointer (some ⟨s, 0, none⟩), .pointer (some ⟨s + 1, 0, none⟩), .int .i64 (x.1 : Int), .string ⟨x.2.toArray⟩, undef, undef, .pointer (some ⟨hb, 0, none⟩), .bool false, .bool false, .pointer (some ⟨hb', 0, none⟩), .bool false, .bool false, undef, undef, undef, undef, undef, undef, .pointer (some ⟨hb, 0, none⟩), .int .i64 (n : Int), .pointer (some ⟨hb', 0, none⟩), .int .i64 (n : Int), .bool false, .pointer (some ⟨hb', 0, none⟩), fv, .pointer (some ⟨hb, 0, none⟩), .func (.func 81) #[] #[.pointer (some ⟨s + 2, 0, none⟩)], .int .i64 (x.1 : Int), .string ⟨x.2.toArray⟩, undef, undef, undef, undef, undef, undef, undef, undef, undef, undef, undef, undef, undef], defers := [] }) ?assign ?body ?done ?stop
  case i1 =>
    rintro p X Y row ⟨k, h1, h2, h3, h4, h5, h6⟩ hg hr
    have hf : Frm (fun b => w2.heap.size ≤ b) X Y := Frm.grown (Frm.refl _ X) hg (fun b e => Or.inr (hr b e).1)
    have hz := kz3.out
    exact ⟨k, h1, h2, h3, (hf.block _ (blk_lt h4) (by omega)).trans h4, (hf.block _ (blk_lt h5) (by omega)).trans h5, Frm.trans h6 hf (fun i hi e => by have := kss.out; omega)⟩
  case i2 =>
    rintro c p X Y row ⟨h1, h2, h3, h4⟩ hg hr
    have hf : Frm (fun b => w2.heap.size ≤ b) X Y := Frm.grown (Frm.refl _ X) hg (fun b e => Or.inr (hr b e).1)
    have hz := kz3.out
    exact ⟨h1, h2, (hf.block _ (blk_lt h3) (by omega)).trans h3, Frm.trans h4 hf (fun i hi e => by have := kss.out; omega)⟩
  case i3 =>
    rintro p X Y ⟨k, h1, h2, h3, h4, h5, h6⟩ hf
    have hz := kz3.out
    exact ⟨k, h1, h2, h3, (hf.block _ (blk_lt h4) (by omega)).trans h4, (hf.block _ (blk_lt h5) (by omega)).trans h5, Frm.trans h6 hf (fun i hi e => by have := kss.out; omega)⟩
  case i4 =>
    rintro c p X Y ⟨h1, h2, h3, h4⟩ hf
    have hz := kz3.out
    exact ⟨h1, h2, (hf.block _ (blk_lt h3) (by omega)).trans h3, Frm.trans h4 hf (fun i hi e => by have := kss.out; omega)⟩
  case assign =>
    intro l x W K hK
    have kK := hid hK
    clear hK
    simp only [encM]
    gi_wp2_with fail
    exact kK.out
  case body =>
    rintro l p ⟨i, nm⟩ Y ⟨k, hk, rfl, hS⟩ ⟨k', hk', hpk⟩
    obtain ⟨j, rfl, hj, hpe, hxe⟩ := pre_next hk' hpk
    simp only [Prod.mk.injEq] at hxe
    obtain ⟨rfl, hnm⟩ := hxe
    have hki : k = i := by
      have := congrArg List.length hpe
      rw [List.length_take, List.length_take, nmL_len, kn.out] at this
      rw [kn.out] at hj
      omega
    subst hki
    have c0 := blk_cell hS.2.1
    have c1 := blk_cell hS.2.2.1
    have f0 := blk_fz hS.2.1 0
    have hx64 : nm.length ≤ 64 := by rw [hnm, getD_get hj]; exact k64.out _ (List.getElem_mem hj)
    have kFf := hid (kF.out Y hS.2.2.2 nm (by have : maxLen = 9223372036854775807 := rfl; omega))
    rw [kn.out] at hj
    have knm := hid hnm
    have kS := hid hS
    clear hpk hpe hnm hS
    rw [← kfv.out] at c1 ⊢
    cases hi : idx M nm with
    | none =>
      rw [hi] at kFf
      simp only [numV, Option.getD_none, Option.isSome_none] at kFf
      have hN : Hid (¬ Mt L M k) := fun h => by unfold Mt at h; rw [← knm.out, hi] at h; cases h
      clear hi
      gi_wp2_with (refine ⟨trivial, ?_⟩; gi_at_call 56; refine (CallsIn.inRound l (callsIn_wide.2 kFf.out)).mono ?_; rintro e w3 ⟨rfl, e3⟩; rw [e3]; clear e3 w3)
      have hset : Hid ((Y.setCell ⟨s, 0, none⟩ (.bool false)).heap[s]? = some (.cells #[.bool false] 4 (0, 0))) := by
        have hb := kS.out.2.1
        show _ = _
        simp [World.setCell, Array.getElem?_modify, hb]
      exact ⟨(KeepsOthers.setCell _ _ _).from _, rfl, ⟨k, hj, hN.out⟩, hset.out, Frm.trans kS.out.2.2.2 (frm_set Y s 0 _) (fun i hi e => by have := kss.out; omega)⟩
    | some m =>
      rw [hi] at kFf
      simp only [numV, Option.getD_some, Option.isSome_some] at kFf
      by_cases em : m = k
      · subst em
        have hM : Hid (Mt L M m) := by unfold Hid Mt; rw [← knm.out]; exact hi
        have hq : ((m : Int) != (m : Int)) = false := by simp
        clear hi
        gi_wp2_with (refine ⟨trivial, ?_⟩; gi_at_call 56; refine (CallsIn.inRound l (callsIn_wide.2 kFf.out)).mono ?_; rintro e w3 ⟨rfl, e3⟩; rw [e3]; clear e3 w3)
        refine ⟨⟨Nat.le_refl _, fun _ _ _ h _ => h⟩, fun _ _ _ h _ => h, m + 1, by omega, ?_, fun j hj2 => ?_, (by have h := kS.out.2; rw [← kfv.out] at h; exact h)⟩
        · rw [nmL_take L m (by rw [kn.out]; exact hj), knm.out]
        · by_cases e : j = m
          · subst e
            exact hM.out
          · exact kS.out.1 j (by omega)
      · have hN : Hid (¬ Mt L M k) := fun h => by
          unfold Mt at h
          rw [← knm.out, hi] at h
          exact em (Option.some.inj h)
        have hq : ((m : Int) != (k : Int)) = true := by simp; omega
        clear hi
        gi_wp2_with (refine ⟨trivial, ?_⟩; gi_at_call 56; refine (CallsIn.inRound l (callsIn_wide.2 kFf.out)).mono ?_; rintro e w3 ⟨rfl, e3⟩; rw [e3]; clear e3 w3)
        have hset : Hid ((Y.setCell ⟨s, 0, none⟩ (.bool false)).heap[s]? = some (.cells #[.bool false] 4 (0, 0))) := by
          have hb := kS.out.2.1
          show _ = _
          simp [World.setCell, Array.getElem?_modify, hb]
        exact ⟨(KeepsOthers.setCell _ _ _).from _, rfl, ⟨k, hj, hN.out⟩, hset.out, Frm.trans kS.out.2.2.2 (frm_set Y s 0 _) (fun i hi e => by have := kss.out; omega)⟩
  case done =>
    rintro D q Y hD rfl ⟨k, h1, hq, hS⟩ hK
    have hkn : k = n := by
      have := congrArg List.length hq
      rw [List.length_take, nmL_len, kn.out] at this
      omega
    subst hkn
    have hLM : Hid (L = M) := mt_all klen.out (fun j hj => hS.1 j (by rw [kn.out] at hj; exact hj))
    have c0 := blk_cell hS.2.1
    have f0 := blk_fz hS.2.1 0
    have kS := hid hS
    have kK := hid hK
    clear hS hK hq
    refine inBlock_both (Or.inl rfl) ?_
    dsimp only
    try refine wpIn_wide.2 ?_
    go_wp2_with fail
    have hset : Hid ((Y.setCell ⟨s, 0, none⟩ (.bool true)).heap[s]? = some (.cells #[.bool true] 4 (0, 0))) := by
      have hb := kS.out.2.1
      show _ = _
      simp [World.setCell, Array.getElem?_modify, hb]
    have hz := kz3.out
    have hDs : D ≠ s := by omega
    have hDK : (Y.setCell ⟨s, 0, none⟩ (.bool true)).heap[D]? = some (.deferred (some [])) := by
      rw [Below.heap_setCell Y ⟨s, 0, none⟩ _ D (by simp only; omega)]
      exact kK.out
    refine leave_marks [D] _ ⟨by simp, fun r hr => ?_⟩ (fun W' hW' => ?_)
    · obtain rfl : r = D := by simpa using hr
      exact hDK
    · have hc := blk_cell ((hW'.block s (blk_lt hset.out) (by simp; omega)).trans hset.out)
      refine ⟨.bool true, ?_, ?_, ?_⟩
      · simp [results, Try.f47, go_sem, hc]
      · rw [decide_eq_true hLM.out]
      · exact Frm.trans (Frm.trans kS.out.2.2.2 (frm_set Y s 0 _) (fun i hi e => by have := kss.out; omega)) hW' (fun i hi e => by have := kss.out; simp at e; omega)
  case stop =>
    rintro D c p Y hD - ⟨rfl, ⟨k, hk, hM⟩, hb, hO⟩ hK
    have hLM : Hid (¬ L = M) := fun e => hM (by subst e; exact mt_same knd.out k (by rw [kn.out]; exact hk))
    have kb := hid hb
    have kO := hid hO
    have kK := hid hK
    clear hb hO hK hM
    refine wpIn_wide.2 ?_
    go_wp2_with fail
    have hz := kz3.out
    refine leave_marks [D] _ ⟨by simp, fun r hr => ?_⟩ (fun W' hW' => ?_)
    · obtain rfl : r = D := by simpa using hr
      exact kK.out
    · have hc := blk_cell ((hW'.block s (blk_lt kb.out) (by simp; omega)).trans kb.out)
      refine ⟨.bool false, ?_, ?_, ?_⟩
      · simp [results, Try.f47, go_sem, hc]
      · rw [decide_eq_false hLM.out]
      · exact Frm.trans kO.out hW' (fun i hi e => by have := kss.out; simp at e; omega)

theorem nsame_any (hb tb mb hb' tb' mb' : Nat) (v v' : Value) (most most' : Int) (L M : List (List UInt8)) (w : World) (h : Nms w hb tb mb v most L) (h' : Nms w hb' tb' mb' v' most' M) (nd : L.Nodup) (h64 : ∀ n ∈ L, n.length ≤ 64) (hL : L.length ≤ 1048576) :
    Calls Try.prog 47 #[.pointer (some ⟨hb, 0, none⟩), .pointer (some ⟨hb', 0, none⟩)] w fun e w' => e = .returned (.bool (decide (L = M))) ∧ Old w w' := by
  by_cases hl : L.length = M.length
  · exact nsame_long hb tb mb hb' tb' mb' v v' most most' L M w h h' nd h64 hL hl
  · rw [decide_eq_false (fun e => hl (by rw [e]))]
    exact nsame_short hb tb mb hb' tb' mb' v v' most most' L M w h h' hl
end Go.Proofs.Ytlhlmkdgbgppiaa
