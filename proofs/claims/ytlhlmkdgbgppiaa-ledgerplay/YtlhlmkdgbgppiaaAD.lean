/- What Accounts tells, as a function over which one ranges. -/
import Derived.Test.YtlhlmkdgbgppiaaAC
namespace Go.Proofs.Ytlhlmkdgbgppiaa
open Go.RowKit Go.Lib Go.Shelf Go.Maps
attribute [local go_sem] Oper.semAt_some

abbrev AcN := Nat × List UInt8 × Ac
def acF (A : List Ac) (x : Nat × List UInt8) : AcN := (x.1, x.2, A.getD x.1 (0, 0))
def acL (L : List (List UInt8)) (A : List Ac) : List AcN := (nmL L).map (acF A)
def encA (x : AcN) : Array Value := #[.int .i64 (x.1 : Int), .agg #[.string ⟨x.2.1.toArray⟩, .int .i64 x.2.2.1, .int .i64 x.2.2.2]]
theorem acL_len (L : List (List UInt8)) (A : List Ac) : (acL L A).length = L.length := by simp [acL, nmL_len]

/-- Cells but those of T are kept, and the map. -/
def KeptM (T : Nat → Prop) (mb : Nat) (X Y : World) : Prop := KeptC T X Y ∧ (mb < X.heap.size → Y.heap[mb]? = X.heap[mb]?)
theorem KeptM.trans {T : Nat → Prop} {mb : Nat} {A B C : World} (h : KeptM T mb A B) (k : KeptM T mb B C) : KeptM T mb A C := ⟨h.1.trans k.1, fun hm => by
  have e := h.2 hm
  have h1 := e
  rw [Array.getElem?_eq_getElem hm] at h1
  exact (k.2 (Array.getElem?_eq_some_iff.1 h1).1).trans e⟩
theorem KeptM.old {T : Nat → Prop} {mb : Nat} {X Y : World} (o : Old X Y) : KeptM T mb X Y := ⟨KeptC.of_old o, fun h => o.block mb h (fun h => h)⟩
theorem KeptM.refl {T : Nat → Prop} {mb : Nat} (X : World) : KeptM T mb X X := KeptM.old (Old.refl X)
theorem KeptM.put {T : Nat → Prop} {mb l : Nat} {W : World} {o : Obj} (o' : Obj) (hl : mb < l) (h : W.heap[l]? = some o) (ho : o.isCells = false) : KeptM T mb W (W.putObj l o') := ⟨KeptC.put W l o o' h ho, fun _ => World.putObj_heap_other (by omega)⟩
theorem KeptM.behind {T : Nat → Prop} {mb : Nat} {X0 X Y : World} (h : KeptM T mb X0 X) (hf : Frm (fun k => X0.heap.size ≤ k) X Y) : KeptM T mb X0 Y := by
  refine ⟨fun k o ht hk ho => ?_, fun hm => ?_⟩
  · have h1 := h.1 k o ht hk ho
    have h2 := (Array.getElem?_eq_some_iff.1 hk).1
    rw [hf.block k (Array.getElem?_eq_some_iff.1 h1).1 (by omega)]
    exact h1
  · have e := h.2 hm
    have h1 := e
    rw [Array.getElem?_eq_getElem hm] at h1
    rw [hf.block mb (Array.getElem?_eq_some_iff.1 h1).1 (by omega)]
    exact e
theorem AcF.keptM {T : Nat → Prop} {X Y : World} {b1 b2 b0 mb : Nat} {v : Value} {L : List (List UInt8)} {A : List Ac} (h : AcF X b1 b2 b0 mb v L A) (k : KeptM T mb X Y) (h1 : ¬ T b1) (h2 : ¬ T b2) (h0 : ¬ T b0) (hv : ∀ k, v.ownBlock = some k → ¬ T k) : AcF Y b1 b2 b0 mb v L A := by
  refine ⟨kept_cell k.1 h1 h.c1, kept_cell k.1 h2 h.c2, kept_cell k.1 h0 h.c0, h.lat.kept k.1 hv, ?_⟩
  obtain ⟨D, ⟨es, clock, hb, r⟩, h2⟩ := h.am
  exact ⟨D, ⟨es, clock, by rw [k.2 (blk_lt hb)]; exact hb, r⟩, h2⟩
theorem SeqP.weak {α : Type} {P : Program} {n g : Nat} {lb : Array Value} {enc : α → Array Value} {Kp Kp' : World → World → Prop} {Pre S Sp : List α → Prop} {w : World} (h : SeqP P n g lb enc Kp Pre S Sp w) (hK : ∀ X Y, Kp' X Y → Kp X Y) : SeqP P n g lb enc Kp' Pre S Sp w :=
  fun l J Jx W hB hJ hJx hY h0 => h l J Jx W hB hJ hJx (fun p x X hj hp => (hY p x X hj hp).mono (fun _ _ hr => hr.imp (fun ⟨a, b, c⟩ => ⟨a, b, hK _ _ c⟩) id)) h0

theorem pre_next {L : List (List UInt8)} {p : List (Nat × List UInt8)} {x : Nat × List UInt8} {k : Nat} (hk : k ≤ L.length) (h : p ++ [x] = (nmL L).take k) : ∃ j, k = j + 1 ∧ j < L.length ∧ p = (nmL L).take j ∧ x = (j, L.getD j []) := by
  have hl := congrArg List.length h
  rw [List.length_append, List.length_take, nmL_len, Nat.min_eq_left hk] at hl
  simp only [List.length_cons, List.length_nil] at hl
  refine ⟨p.length, by omega, by omega, ?_, ?_⟩
  · rw [← hl, nmL_take L p.length (by omega)] at h
    exact List.append_inj_left' h rfl
  · rw [← hl, nmL_take L p.length (by omega)] at h
    have := List.append_inj_right' h rfl
    simpa using this

def adS : List (List Nat) := [[], [0], [1], [6], [0, 1], [0, 6], [1, 6], [4, 6], [5, 6], [0, 1, 6], [0, 4, 6], [0, 5, 6], [1, 4, 6], [1, 5, 6], [2, 4, 6], [3, 4, 6], [4, 5, 6], [0, 1, 4, 6], [0, 1, 5, 6], [0, 2, 4, 6], [0, 3, 4, 6], [0, 4, 5, 6], [1, 2, 4, 6], [1, 3, 4, 6], [1, 4, 5, 6], [2, 3, 4, 6], [2, 4, 5, 6], [3, 4, 5, 6], [0, 1, 2, 4, 6], [0, 1, 3, 4, 6], [0, 1, 4, 5, 6], [0, 2, 3, 4, 6], [0, 2, 4, 5, 6], [0, 3, 4, 5, 6], [1, 2, 3, 4, 6], [1, 2, 4, 5, 6], [1, 3, 4, 5, 6], [2, 3, 4, 5, 6], [0, 1, 2, 3, 4, 6], [0, 1, 2, 4, 5, 6], [0, 1, 3, 4, 5, 6], [0, 2, 3, 4, 5, 6], [1, 2, 3, 4, 5, 6], [0, 1, 2, 3, 4, 5, 6]]
theorem adS_nd : ∀ rem ∈ adS, rem.Nodup := by decide +kernel
/-- The frame, while some operations are still to come. -/
def adFr (t0 t1 t2 t3 t4 t5 t6 t7 t8 v0 v1 v2 v3 v4 v5 v6 : Value) (rem : List Nat) : Act := { tmps := #[t0, t1, t2, t3, t4, t5, t6, t7, t8, if 0 ∈ rem then undef else v0, if 1 ∈ rem then undef else v1, if 2 ∈ rem then undef else v2, if 3 ∈ rem then undef else v3, if 4 ∈ rem then undef else v4, if 5 ∈ rem then undef else v5, if 6 ∈ rem then undef else v6, undef, undef], defers := [] }

set_option maxRecDepth 100000 in
set_option maxHeartbeats 8000000 in
theorem accounts2_N (d : Nat) (hd : 4 ≤ d) (b1 b2 b0 mb : Nat) (v : Value) (L : List (List UInt8)) (A : List Ac) (hlen : L.length = A.length) (hA : OkA A) (h64 : ∀ n ∈ L, n.length ≤ 64) (T : Nat → Prop) (w : World) (h : AcF w b1 b2 b0 mb v L A) (hTw : ∀ k, w.heap.size ≤ k → ¬ T k) (hT1 : ¬ T b1) (hT2 : ¬ T b2) (hT0 : ¬ T b0) (hTv : ∀ k, v.ownBlock = some k → ¬ T k) :
    SeqN Try.prog d 64 #[.pointer (some ⟨b1, 0, none⟩), .pointer (some ⟨b2, 0, none⟩)] encA (KeptM T mb) (fun q => ∃ k, k ≤ L.length ∧ q = (acL L A).take k) (fun q => q = acL L A) (fun q => ∃ k, k ≤ L.length ∧ q = (acL L A).take k) w := by
  intro lp J Jx W hbe hJ hJx hY h0
  have hmw := h.am.lt
  have hWw := hbe.size
  have kt0 : KeptM T mb w W := KeptM.old (Old.of_below hbe)
  have hW := h.keptM kt0 hT1 hT2 hT0 hTv
  have o1 : Old W (W.alloc (.cells #[.func (.yield lp) #[] #[]] 142)) := (Old.refl W).alloc _
  have y1 := heap_new W (.cells #[.func (.yield lp) #[] #[]] 142)
  have z1 := alloc_size W (.cells #[.func (.yield lp) #[] #[]] 142)
  have c0 := (hW.old o1).c1
  have khN := hid (fun X (kx : AcF X b1 b2 b0 mb v L A) => (names_P (d - 1) (by omega) b0 v T L (by have := hA.len; omega) h64 X hTv kx.c0 kx.lat).weak (Kp' := KeptM T mb) (fun _ _ h => h.1))
  have khY := hid hY
  have khJ := hid hJ
  have khx := hid hJx
  have kh0 := hid h0
  have khW := hid hW
  have khT := hid hTw
  have kA := hid hA
  have kl := hid hlen
  have kmb := hid (show mb < W.heap.size by omega)
  have kwW := hid hWw
  have ht1 := hid hT1
  have ht2 := hid hT2
  have ht0 := hid hT0
  have htv := hid hTv
  clear hY hJ hJx h0 hW hTw kt0 hbe hA h64 h hlen hmw hWw hT1 hT2 hT0 hTv
  refine callsIn_of_wp_marks Try.func64 rfl trivial ?_ rfl
  simp only [Try.ntmps64, List.size_toArray, List.length_cons, List.length_nil, Nat.reduceAdd, Nat.reduceSub, Array.replicate_succ, Array.replicate_zero, List.push_toArray, List.append_toArray, List.nil_append, List.cons_append]
  refine wpIn_wide.2 ?_
  go_wp2_with fail
  have kF := hid (khW.out.old o1)
  generalize W.alloc (.cells #[.func (.yield lp) #[] #[]] 142) = X0 at *
  obtain ⟨yb, hyb⟩ : ∃ yb, W.heap.size = yb := ⟨_, rfl⟩
  have kyb := hid hyb
  rw [hyb] at y1 z1 kmb kwW ⊢
  have kz := hid z1
  have ky1 := hid y1
  have ko1 := hid o1
  have hTy : Hid (¬ T yb) := khT.out _ kwW.out
  clear hyb z1 y1 o1 c0
  refine (wpIn_wide (n := d)).1 ?_
  refine range_Np (α := Nat × List UInt8) (by omega) (gf := 81) (lb := #[.pointer (some ⟨b0, 0, none⟩)]) rfl (enters_of Try.func81 (by kernel_rfl) rfl)
    (SeqN.of_P (khN.out X0 kF.out)) (fun h k => h.trans k) (fun W => KeptM.refl W) (fun W o o' h1 h2 => KeptM.put o' (by have := kmb.out; have := kz.out; omega) h1 h2) (fun _ => rfl)
    (fun p Y => J (p.map (acF A)) Y ∧ KeptM T mb X0 Y ∧ Y.heap[yb]? = some (.cells #[.func (.yield lp) #[] #[]] 142 (0, 0)))
    (fun c p Y => c = .ret ∧ Jx (p.map (acF A)) Y)
    (fun p X Y hI hf => ⟨khJ.out _ _ _ hI.1 (Frm.mono hf (fun k _ e => by have := kz.out; have := kyb.out; omega)), hI.2.1.behind hf, by rw [hf.block yb (blk_lt hI.2.2) (by have := kz.out; omega)]; exact hI.2.2⟩)
    (fun c p X Y hI hf => ⟨hI.1, khx.out _ _ _ hI.2 (Frm.mono hf (fun k _ e => by have := kz.out; have := kyb.out; omega))⟩)
    ⟨khJ.out _ _ _ kh0.out (Frm.mono ko1.out (fun _ _ h => h.elim)), KeptM.refl _, ky1.out⟩
    (fun x t => (((t.setIfInBounds 7 (.int .i64 (x.1 : Int))).setIfInBounds 8 (.string ⟨x.2.toArray⟩)).setIfInBounds 4 (.int .i64 (x.1 : Int))).setIfInBounds 5 (.string ⟨x.2.toArray⟩)) ?assign ?body ?done ?stop
  case assign =>
    rintro l p ⟨i, nm⟩ Y K - hK
    have kK := hid hK
    clear hK
    dsimp only [encM] at kK ⊢
    gi_wp2_with fail
    exact kK.out
  case body =>
    rintro l p ⟨i, nm⟩ Y ⟨h1, h2, h3⟩ ⟨k', hk', hpk⟩
    obtain ⟨j, rfl, hj, hpe, hxe⟩ := pre_next hk' hpk
    simp only [Prod.mk.injEq] at hxe
    obtain ⟨rfl, hnm⟩ := hxe
    have hF := kF.out.keptM h2 ht1.out ht2.out ht0.out htv.out
    have hjA : i < A.length := by rw [← kl.out]; exact hj
    have oD : Old Y Y.drew := (Old.refl Y).drewN 1
    have hac : i64ok (i : Int) := ok64 kA.out hjA
    have hpre : Hid (∃ k, k ≤ L.length ∧ p.map (acF A) ++ [acF A (i, nm)] = (acL L A).take k) := ⟨i + 1, hk', by
      unfold acL
      rw [← List.map_take, ← hpk, List.map_append]
      rfl⟩
    have hmapp : Hid ((p ++ [((i, nm) : Nat × List UInt8)]).map (acF A) = p.map (acF A) ++ [acF A (i, nm)]) := by show _ = _; rw [List.map_append]; rfl
    obtain ⟨⟨a1, a2⟩, ha⟩ : ∃ a, A.getD i (0, 0) = a := ⟨_, rfl⟩
    have hacF : acF A (i, nm) = (i, nm, (a1, a2)) := by unfold acF; rw [ha]
    rw [hacF] at hpre hmapp
    have hlk : (lkA A (i : Int)).getD (0, 0) = (a1, a2) := by rw [lkA_getD, ha]
    have kh1 := hid h1
    have kh2 := hid h2
    have kh3 := hid h3
    have kF2 := hid hF
    have koD := hid oD
    clear h1 h2 h3 hpk hpe hnm hF ha hacF oD hj hjA
    gi_wp2_with fail
    refine wpIn_region_any (by kernel_rfl) ?_
    change wpAnyIn _ _ _ _ _ _ _ _ _ Y.drew
    refine wpAnyIn_cfg (2 + 7) (maskOf 9 [7, 8] [0, 1, 2, 3, 4, 5, 6]) (adFr (.func (.yield lp) #[] #[]) (.pointer (some ⟨b1, 0, none⟩)) (.pointer (some ⟨b2, 0, none⟩)) (.pointer (some ⟨yb, 0, none⟩)) (.int .i64 (i : Int)) (.string ⟨nm.toArray⟩) (.func (.func 81) #[] #[.pointer (some ⟨b0, 0, none⟩)]) (.int .i64 (i : Int)) (.string ⟨nm.toArray⟩) (.func (.yield lp) #[] #[]) (.int .i64 (i : Int)) (.map (some mb)) (.int .i64 (i : Int)) (.agg #[.int .i64 a1, .int .i64 a2]) (.string ⟨nm.toArray⟩) (.agg #[.string ⟨nm.toArray⟩, .int .i64 a1, .int .i64 a2]) [0, 1, 2, 3, 4, 5, 6]) (by kernel_rfl) (by kernel_rfl) (by rfl) ?_
    refine wpAnyIn_bagI 9 [7, 8] adS 2 (fun rem a W => a = adFr (.func (.yield lp) #[] #[]) (.pointer (some ⟨b1, 0, none⟩)) (.pointer (some ⟨b2, 0, none⟩)) (.pointer (some ⟨yb, 0, none⟩)) (.int .i64 (i : Int)) (.string ⟨nm.toArray⟩) (.func (.func 81) #[] #[.pointer (some ⟨b0, 0, none⟩)]) (.int .i64 (i : Int)) (.string ⟨nm.toArray⟩) (.func (.yield lp) #[] #[]) (.int .i64 (i : Int)) (.map (some mb)) (.int .i64 (i : Int)) (.agg #[.int .i64 a1, .int .i64 a2]) (.string ⟨nm.toArray⟩) (.agg #[.string ⟨nm.toArray⟩, .int .i64 a1, .int .i64 a2]) rem ∧ Old Y W) (by decide +kernel) ?step ?fin 7 [0, 1, 2, 3, 4, 5, 6] rfl (by decide) _ _ ⟨rfl, koD.out⟩
    case step =>
      rintro rem hrem j hj hjm a W ⟨rfl, hO⟩
      have hnd := adS_nd rem hrem
      have hfac := (show ∀ rem ∈ adS, ∀ j ∈ Region.ready Region.Mode.any _ (maskOf 9 [7, 8] rem), j ∈ rem → (j = 0 ∨ j = 1 ∨ j = 2 ∨ j = 3 ∨ (j = 4 ∧ 2 ∉ rem ∧ 3 ∉ rem) ∨ j = 5 ∨ (j = 6 ∧ 4 ∉ rem ∧ 5 ∉ rem)) by decide +kernel) rem hrem j hj hjm
      clear hj
      have hFW := kF2.out.old hO
      have v2 := hFW.c2
      have v3 := blk_cell ((hO.block yb (blk_lt kh3.out) (fun h => h)).trans kh3.out)
      have hlW := hFW.am.look1 hac
      rw [hlk] at hlW
      unfold acV at hlW
      rcases hfac with rfl | rfl | rfl | rfl | ⟨rfl, m2, m3⟩ | rfl | ⟨rfl, m4, m5⟩
      · refine wpOpIn_read (v := .func (.yield lp) #[] #[]) rfl rfl rfl ?_ ⟨?_, hO⟩
        · unfold adFr
          simp only [List.getElem_toArray, List.getElem_cons_zero]
          go_simp
          all_goals with_reducible rfl
        · simp [adFr, Act.put, hnd.mem_erase_iff]
      · refine wpOpIn_read (v := .int .i64 (i : Int)) rfl rfl rfl ?_ ⟨?_, hO⟩
        · unfold adFr
          simp only [List.getElem_toArray, List.getElem_cons_zero, List.getElem_cons_succ]
          go_simp
          all_goals with_reducible rfl
        · simp [adFr, Act.put, hnd.mem_erase_iff]
      · refine wpOpIn_read (v := .map (some mb)) rfl rfl rfl ?_ ⟨?_, hO⟩
        · unfold adFr
          simp only [List.getElem_toArray, List.getElem_cons_zero, List.getElem_cons_succ]
          go_simp
          all_goals with_reducible rfl
        · simp [adFr, Act.put, hnd.mem_erase_iff]
      · refine wpOpIn_read (v := .int .i64 (i : Int)) rfl rfl rfl ?_ ⟨?_, hO⟩
        · unfold adFr
          simp only [List.getElem_toArray, List.getElem_cons_zero, List.getElem_cons_succ]
          go_simp
          all_goals with_reducible rfl
        · simp [adFr, Act.put, hnd.mem_erase_iff]
      · refine wpOpIn_read (v := .agg #[.int .i64 a1, .int .i64 a2]) rfl rfl rfl ?_ ⟨?_, hO⟩
        · unfold adFr
          simp only [m2, m3, if_false]
          simp only [List.getElem_toArray, List.getElem_cons_zero, List.getElem_cons_succ]
          go_simp
          all_goals with_reducible rfl
        · simp [adFr, Act.put, hnd.mem_erase_iff]
      · refine wpOpIn_read (v := .string ⟨nm.toArray⟩) rfl rfl rfl ?_ ⟨?_, hO⟩
        · unfold adFr
          simp only [List.getElem_toArray, List.getElem_cons_zero, List.getElem_cons_succ]
          go_simp
          all_goals with_reducible rfl
        · simp [adFr, Act.put, hnd.mem_erase_iff]
      · have kT := hid (told_any (a1, a2) nm W)
        unfold acV at kT
        dsimp only at kT
        refine wpOpIn_step rfl (fun K' hK => ?_)
        rw [if_pos (by simp [Region.wanted])]
        unfold adFr
        simp only [m4, m5, if_false]
        simp only [List.getElem_toArray, List.getElem_cons_zero, List.getElem_cons_succ]
        go_simp
        refine ⟨trivial, fun _ => by omega, (CallsIn.inRound l (callsIn_wide.2 kT.out)).mono ?_⟩
        rintro e W2 ⟨rfl, o2⟩
        refine hK _ _ ⟨?_, hO.trans o2⟩
        simp [adFr, hnd.mem_erase_iff, m4, m5]
    case fin =>
      rintro a W ⟨rfl, hO⟩
      refine wpAnyIn_cfg 2 (maskOf 9 [7, 8] []) { tmps := #[.func (.yield lp) #[] #[], .pointer (some ⟨b1, 0, none⟩), .pointer (some ⟨b2, 0, none⟩), .pointer (some ⟨yb, 0, none⟩), .int .i64 (i : Int), .string ⟨nm.toArray⟩, .func (.func 81) #[] #[.pointer (some ⟨b0, 0, none⟩)], .int .i64 (i : Int), .string ⟨nm.toArray⟩, .func (.yield lp) #[] #[], .int .i64 (i : Int), .map (some mb), .int .i64 (i : Int), .agg #[.int .i64 a1, .int .i64 a2], .string ⟨nm.toArray⟩, .agg #[.string ⟨nm.toArray⟩, .int .i64 a1, .int .i64 a2], undef, undef], defers := [] } rfl rfl (by rfl) ?_
      obtain ⟨fn, tmps, asn, bdy, hy, hR⟩ := khY.out (p.map (acF A)) (i, nm, (a1, a2)) W (khJ.out _ _ _ kh1.out (Frm.mono hO (fun _ _ h => h.elim))) hpre.out
      dsimp only [encA] at hy
      have kO := hid hO
      clear hO
      refine wpAnyIn_ready (rs := [7]) (by kernel_rfl) (by simp) ?_
      refine AllReadyIn.cons (o := _) rfl (fun K hK => ?_) AllReadyIn.nil
      simp only [List.getElem_toArray, List.getElem_cons_zero, List.getElem_cons_succ]
      go_simp
      refine ⟨fun h => by omega, (round_any hR).mono ?_⟩
      rintro e w7 ⟨hk7, (⟨rfl, hJ7, hp7⟩ | ⟨rfl, hJx7⟩)⟩
      · refine hK _ _ ?_
        clear hK hR hy
        refine wpAnyIn_ready (rs := [8]) (by kernel_rfl) (by simp) ?_
        refine AllReadyIn.cons (o := _) rfl (fun K hK => ?_) AllReadyIn.nil
        simp only [List.getElem_toArray, List.getElem_cons_zero, List.getElem_cons_succ]
        go_simp
        refine hK _ _ ?_
        clear hK
        refine wpAnyIn_done (by kernel_rfl) ?_ _
        have kkY := hid ((KeptM.old (T := T) kO.out).trans hp7)
        have kJ7 := hid hJ7
        have kk7 := hid hk7
        clear hJ7 hp7 hk7
        gi_wp2_with fail
        refine ⟨(keeps_old kO.out).trans (keeps_up kk7.out (by have := kz.out; have := kyb.out; omega)), kkY.out, by rw [hmapp.out]; exact kJ7.out, kh2.out.trans kkY.out, kkY.out.1 yb _ hTy.out kh3.out rfl⟩
      · refine hK _ _ ?_
        clear hK hR hy
        refine wpAnyIn_ready (rs := [8]) (by kernel_rfl) (by simp) ?_
        refine AllReadyIn.cons (o := _) rfl (fun K hK => ?_) AllReadyIn.nil
        simp only [List.getElem_toArray, List.getElem_cons_zero, List.getElem_cons_succ]
        go_simp
        refine hK _ _ ?_
        clear hK
        refine wpAnyIn_done (by kernel_rfl) ?_ _
        have kJ7 := hid hJx7
        have kk7 := hid hk7
        clear hJx7 hk7
        gi_wp2_with fail
        exact ⟨(keeps_old kO.out).trans (keeps_up kk7.out (by have := kz.out; have := kyb.out; omega)), rfl, by rw [hmapp.out]; exact kJ7.out⟩
  case stop =>
    rintro D c' p Y hD ⟨r, hr1, hr⟩ ⟨rfl, hx⟩ hK
    have kx := hid hx
    have kr : Hid (∃ k, k ≤ L.length ∧ p.map (acF A) = (acL L A).take k) := ⟨r, hr1, by unfold acL; rw [← List.map_take, ← hr]⟩
    have kK := hid hK
    clear hx hr hK
    refine wpIn_wide.2 ?_
    go_wp2_with fail
    refine leave_marks [D] _ ⟨by simp, fun r hr => ?_⟩ (fun W' hW' => ?_)
    · obtain rfl : r = D := by simpa using hr
      exact kK.out
    · have hfr : Frm (fun k => W.heap.size ≤ k) Y W' := Frm.mono hW' (fun k _ e => by
        have : k = D := by simpa using e
        have := kz.out
        have := kyb.out
        omega)
      refine ⟨.tuple #[], ?_, ⟨_, rfl⟩, Or.inr ⟨_, kr.out, khx.out _ _ _ kx.out hfr⟩⟩
      simp [results, Try.f64, go_sem]
  case done =>
    rintro D q Y hD rfl ⟨hJ9, -, hb9⟩ hK
    have kx := hid hJ9
    have kK := hid hK
    clear hJ9 hb9 hK
    refine inBlock_both (Or.inl rfl) ?_
    dsimp only
    try refine wpIn_wide.2 ?_
    go_wp2_with fail
    refine leave_marks [D] _ ⟨by simp, fun r hr => ?_⟩ (fun W' hW' => ?_)
    · obtain rfl : r = D := by simpa using hr
      exact kK.out
    · have hfr : Frm (fun k => W.heap.size ≤ k) Y W' := Frm.mono hW' (fun k _ e => by
        have : k = D := by simpa using e
        have := kz.out
        have := kyb.out
        omega)
      refine ⟨.tuple #[], ?_, ⟨_, rfl⟩, Or.inl ⟨_, rfl, khJ.out _ _ _ kx.out hfr⟩⟩
      simp [results, Try.f64, go_sem]
end Go.Proofs.Ytlhlmkdgbgppiaa
