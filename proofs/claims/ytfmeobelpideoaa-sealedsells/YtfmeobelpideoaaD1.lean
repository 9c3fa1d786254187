/- slices.Delete of one bid, walked. -/
import Derived.Test.YtfmeobelpideoaaS1
import Derived.Lib.SliceRun
import Derived.Deep.RegionLaw
namespace Go.Proofs.Ytfmeobelpideoaa
open Go.RowKit Go.Lib

/-- Values laid into an array from a place on. -/
def putL : Array Value → Nat → List Value → Array Value
  | a, _, [] => a
  | a, o, v :: r => putL (a.setIfInBounds o v) (o + 1) r
theorem putL_size : ∀ (vs : List Value) (a : Array Value) (o : Nat), (putL a o vs).size = a.size
  | [], a, o => rfl
  | v :: r, a, o => by rw [putL, putL_size r]; simp
theorem putL_get : ∀ (vs : List Value) (a : Array Value) (o j : Nat), o + vs.length ≤ a.size → (putL a o vs)[j]? = if o ≤ j ∧ j < o + vs.length then vs[j - o]? else a[j]?
  | [], a, o, j, _ => by
    rw [putL, if_neg (by simp)]
  | v :: r, a, o, j, h => by
    simp only [List.length_cons] at h
    rw [putL, putL_get r _ _ _ (by simp; omega)]
    by_cases h1 : o + 1 ≤ j ∧ j < o + 1 + r.length
    · rw [if_pos h1, if_pos (by simp; omega), show j - o = j - (o + 1) + 1 by omega, List.getElem?_cons_succ]
    · rw [if_neg h1]
      by_cases h2 : j = o
      · subst h2
        rw [if_pos (by simp), Nat.sub_self]
        simp [show j < a.size by omega]
      · rw [if_neg (by simp; omega), Array.getElem?_setIfInBounds_ne (by omega)]
theorem heap_putL {b : Nat} {t : TypeId} {f : Nat × Nat} : ∀ (vs : List Value) (o : Nat) (w : World) (cur : Array Value), w.heap[b]? = some (.cells cur t f) → (w.setCells b o vs).heap[b]? = some (.cells (putL cur o vs) t f)
  | [], _, _, _, h => h
  | v :: r, o, _, _, h => heap_putL r (o + 1) _ _ (heap_set v h)
theorem frm_setCells {b : Nat} : ∀ (vs : List Value) (o : Nat) (w : World), Frm (fun k => k = b) w (w.setCells b o vs)
  | [], _, _ => Frm.refl _ _
  | v :: r, o, w => Frm.trans (frm_set w b o v) (frm_setCells r (o + 1) _) (fun _ _ h => h)

theorem run_clear_two (w : World) (ty : TypeId) (b o c : Nat) (hc : ∀ j, j < 2 → (w.cell? ⟨b, o + j, none⟩).isSome = true) (hf : ∀ j, w.frozen? ⟨b, j, none⟩ = false) :
    (Builtin.clear_ #[22] ty #[.slice (some ⟨b, o, none⟩) 1 c]).run Try.prog w = .ok (.tuple #[]) (w.setCells b o [.int .i64 0, .int .i64 0]) := by
  have hzc : (Builtin.zeroCells (Value.agg #[.int .i64 0, .int .i64 0]).cells 1).toList = [.int .i64 0, .int .i64 0] := by kernel_rfl
  have hst := run_storeCells_cells (P := Try.prog) b o [.int .i64 0, .int .i64 0] 0 w (by simpa using hc) (fun j _ => hf _) (by intro v hv; simp at hv; rw [hv]; rfl)
  simp only [Nat.add_zero] at hst
  simp [Builtin.clear_, run_underlying Try.underlying22, Try.zeroValue39, hzc, hst]

theorem flatS_drop : ∀ (L : List Sec) (i : Nat), (flatS L).drop (i * 2) = flatS (L.drop i)
  | [], i => by simp [flatS]
  | x :: L, 0 => by simp
  | x :: L, i + 1 => by
    rw [show (i + 1) * 2 = i * 2 + 2 by omega]
    simpa [flatS] using flatS_drop L i
theorem flatS_take : ∀ (L : List Sec) (i : Nat), (flatS L).take (i * 2) = flatS (L.take i)
  | [], i => by simp [flatS]
  | x :: L, 0 => by simp [flatS]
  | x :: L, i + 1 => by
    rw [show (i + 1) * 2 = i * 2 + 2 by omega]
    simpa [flatS] using flatS_take L i

/-- The row without one of its bids. -/
theorem row_cut {cur : Array Value} {L : List Sec} {cap i : Nat} (hs : cur.size = cap * 2) (hcap : L.length ≤ cap) (ht : cur.toList.take (L.length * 2) = flatS L) (hi : i < L.length) :
    (putL (putL cur (i * 2) (flatS (L.drop (i + 1)))) ((L.length - 1) * 2) [.int .i64 0, .int .i64 0]).toList.take ((L.eraseIdx i).length * 2) = flatS (L.eraseIdx i) := by
  have hle : (L.eraseIdx i).length = L.length - 1 := List.length_eraseIdx_of_lt hi
  have hfd : (flatS (L.drop (i + 1))).length = (L.length - (i + 1)) * 2 := by rw [flatS_length]; simp
  have hcur : ∀ j, j < L.length * 2 → cur[j]? = (flatS L)[j]? := fun j hj => by
    rw [← ht, List.getElem?_take_of_lt hj, Array.getElem?_toList]
  have her : flatS (L.eraseIdx i) = flatS (L.take i) ++ flatS (L.drop (i + 1)) := by
    rw [List.eraseIdx_eq_take_drop_succ, flatS_append]
  have htk : (flatS (L.take i)).length = i * 2 := by rw [flatS_length, List.length_take]; omega
  rw [hle]
  apply List.ext_getElem?
  intro j
  rw [her]
  by_cases hj : j < (L.length - 1) * 2
  · rw [List.getElem?_take_of_lt hj, Array.getElem?_toList, putL_get _ _ _ _ (by rw [putL_size]; simp; omega), if_neg (by simp; omega), putL_get _ _ _ _ (by rw [hfd, hs]; omega), hfd]
    by_cases h1 : j < i * 2
    · rw [if_neg (by omega), List.getElem?_append_left (by omega), hcur j (by omega), ← flatS_take, List.getElem?_take_of_lt h1]
    · rw [if_pos (by omega), List.getElem?_append_right (by omega), htk]
  · rw [List.getElem?_eq_none (by simp; omega), List.getElem?_eq_none (by simp; omega)]

set_option maxRecDepth 100000 in
set_option maxHeartbeats 4000000 in
theorem delete_any (B : Nat) (v : Value) (L : List Sec) (i : Nat) (w : World) (h : w.ownsRow B 39 2 v L.length (flatS L)) (hi : i < L.length) :
    Calls Try.prog 53 #[v, .int .i64 (i : Int), .int .i64 ((i : Int) + 1)] w fun e w' => ∃ v', e = .returned v' ∧ v'.ownBlock = v.ownBlock ∧ w'.ownsRow B 39 2 v' (L.eraseIdx i).length (flatS (L.eraseIdx i)) ∧ Frm (fun k => v.ownBlock = some k) w w' := by
  obtain ⟨i0, hi0, hz0, hz1, hz2⟩ := parts_s
  rcases h.2 with ⟨rfl, h0⟩ | ⟨g, cap, cur, rfl, h3, h4, h5, h6, h7, h8⟩
  · omega
  obtain ⟨q, hq⟩ : ∃ q, L.length = i + 1 + q := ⟨L.length - (i + 1), by omega⟩
  obtain ⟨news, hnews⟩ : ∃ news, news = flatS (L.drop (i + 1)) := ⟨_, rfl⟩
  have hlen : news.length = q * 2 := by rw [hnews, flatS_length]; simp; omega
  have hget : ∀ t u, news[t]? = some u → w.cell? ⟨g, (i + 1) * 2 + t, none⟩ = some u := by
    intro t u hu
    have ht : t < q * 2 := by
      have := (List.getElem?_eq_some_iff.1 hu).1
      rwa [hlen] at this
    refine blk_cells h4 ?_
    rw [hnews, ← flatS_drop, List.getElem?_drop, ← h8, List.getElem?_take_of_lt (by omega)] at hu
    simpa using hu
  have hcs : ∀ j, j < cap * 2 → (w.cell? ⟨g, j, none⟩).isSome = true := fun j hj => by
    rw [blk_cells h4 (v := cur[j]'(by omega)) (by simp)]
    rfl
  have hfz : ∀ j, w.frozen? ⟨g, j, none⟩ = false := fun j => blk_fz h4 j
  obtain ⟨A, hA, hsrc⟩ : ∃ A : Addr, (if cap = i + 1 then some (⟨g, 0, none⟩ : Addr) else some ⟨g, (i + 1) * 2, none⟩) = some A ∧ Hid (∀ t u, news[t]? = some u → w.drew.cell? (A.add t) = some u) := by
    by_cases h : cap = i + 1
    · refine ⟨⟨g, 0, none⟩, by simp [h], fun t u hu => ?_⟩
      have h0 : news.length = 0 := by rw [hlen]; omega
      rw [List.length_eq_zero_iff.1 h0] at hu
      simp at hu
    · refine ⟨⟨g, (i + 1) * 2, none⟩, by simp [h], fun t u hu => ?_⟩
      rw [Addr.add_lit]
      exact hget t u hu
  have s1 : Hid (news.length = q * 2) := hlen
  have s2 : Hid (∀ u ∈ news, u.oneCell' = true) := fun u hu => by rw [hnews] at hu; exact flatS_one _ u hu
  have s3 : Hid (∀ t, t < news.length → (w.drew.cell? ⟨g, 0 + i * 2 + t, none⟩).isSome = true ∧ w.drew.frozen? ⟨g, 0 + i * 2 + t, none⟩ = false) := fun t ht => by
    rw [hlen] at ht
    exact ⟨hcs _ (by omega), hfz _⟩
  obtain ⟨W1, hW1⟩ : ∃ W1, W1 = w.drew.setCells g (0 + i * 2) news := ⟨_, rfl⟩
  have h41 : W1.heap[g]? = some (.cells (putL cur (i * 2) news) 39 (0, 0)) := by
    rw [hW1, Nat.zero_add]
    exact heap_putL _ _ _ _ h4
  have hcl : ∀ ty c, (Builtin.clear_ #[22] ty #[.slice (some ⟨g, (i + q) * 2, none⟩) 1 c]).run Try.prog W1 = .ok (.tuple #[]) (W1.setCells g ((i + q) * 2) [.int .i64 0, .int .i64 0]) := fun ty c =>
    run_clear_two W1 ty g ((i + q) * 2) c (fun j hj => by
      rw [blk_cells h41 (v := (putL cur (i * 2) news)[(i + q) * 2 + j]'(by rw [putL_size]; omega)) (by simp)]
      rfl) (fun j => blk_fz h41 j)
  have hW : Hid (W1 = w.drew.setCells g (0 + i * 2) news) := hW1
  have h42 := hid (heap_putL [.int .i64 0, .int .i64 0] ((i + q) * 2) W1 _ h41)
  have hf1 : Hid (Frm (fun k => k = g) w (W1.setCells g ((i + q) * 2) [.int .i64 0, .int .i64 0])) := by
    refine Frm.trans ?_ (frm_setCells _ _ _) (fun _ _ h => h)
    rw [hW1]
    exact Frm.trans ((Frm.refl _ w).drew) (frm_setCells _ _ _) (fun _ _ h => h)
  have kcut := hid (row_cut h7 h5 h8 hi)
  rw [hq] at kcut
  have hle : (L.eraseIdx i).length = i + q := by rw [List.length_eraseIdx_of_lt hi]; omega
  have kle := hid hle
  have kq := hid hq
  have knews := hid hnews
  have hic : i ≤ cap := by omega
  have hb1 : (0 : Int) ≤ (i : Int) + 1 := by omega
  have hb2 : (i : Int) + 1 ≤ (i : Int) + 1 + (q : Int) := by omega
  have hb3 : (0 : Int) ≤ (i : Int) + (q : Int) := by omega
  have hb4 : (i : Int) + (q : Int) ≤ (i : Int) + 1 + (q : Int) := by omega
  have hb5 : i + 1 + q - (i + q) = 1 := by omega
  have hjc : i + 1 ≤ cap := by omega
  have hqc : i + 1 + q ≤ cap := by omega
  have k5 := hid h5
  have k6 := hid h6
  have k7 := hid h7
  have k3 := hid h3
  rw [hq]
  clear hW1 h41 hget hnews hlen hcs hfz h8 h5 h6 h7 h3 h hle hq hi h4
  go_enter Try.func53, Try.ntmps53
  go_wp2_with fail
  go_region_law (refine step_append_room rfl (.tmp 22) (.tmp 25) 22 rfl 39 i0 2 Try.underlying22 hi0 hz1 g 0 i cap (by simp [Act.eval, Act.put]) A q (cap - (i + 1)) news (by simp [Act.eval, Act.put]) s1.out hsrc.out s2.out (by omega) s3.out ?_; rw [← hW.out])
  go_wp2
  go_ret
  refine ⟨.slice (some ⟨g, 0, none⟩) (i + q) cap, rfl, rfl, ?_, hf1.out.mono (fun k _ e => by simp [Value.ownBlock, e])⟩
  have hc := kcut.out
  rw [← knews.out, show (i + 1 + q - 1) * 2 = (i + q) * 2 by omega] at hc
  refine ⟨by rw [flatS_length], Or.inr ⟨g, cap, _, by rw [kle.out], k3.out, h42.out, by rw [kle.out]; omega, k6.out, by rw [putL_size, putL_size]; exact k7.out, hc⟩⟩
end Go.Proofs.Ytfmeobelpideoaa
