/- The places by their rests. -/
import Derived.Test.YtocpbnjkijpbiaaDoorE2
import Derived.Test.YtocpbnjkijpbiaaDoorE4
namespace Go.Proofs.YtocpbnjkijpbiaaDoor
open Go.RowKit Go.Lib Go.Sort

theorem sort_any {n : Nat} [Inhabited (Fin n)] (cf : Fin n → Fin n → Int) (hO : SWO (ltOf cf)) (cb : Array Value) (blk cap : Nat) (w : World)
    (hcmp : CmpLays1 Tryd.prog 33 cb (fun x : Fin n => Value.int .i64 (x.val : Int)) cf blk 0 (allF n).size w) (hH : Holds (fun x : Fin n => Value.int .i64 (x.val : Int)) w blk 0 (allF n)) (hblk : blk < w.heap.size) (hsz : n < 4611686018427387904) :
    Calls Tryd.prog 37 #[.slice (some ⟨blk, 0, none⟩) n cap, .func (.func 33) #[] cb] w fun e w' =>
      e = .returned (.tuple #[]) ∧ ∃ d' m os, PermIn 0 (allF n).size (allF n) d' ∧ SortedIn (ltOf cf) 0 (allF n).size d' ∧ w' = sortWorld (fun x : Fin n => Value.int .i64 (x.val : Int)) w blk 0 m d' os := by
  have eg : ∀ args w, (callFunc 33 args).run Tryd.prog w = .ok (.enter 33 args) w := enters_of Tryd.func33 (by kernel_rfl) rfl
  have h := Any.slices_SortFunc Tryd.sortInt (fun x : Fin n => Value.int .i64 (x.val : Int)) (fun _ => rfl) cf hO 33 cb blk 0 cap (allF n) w eg hcmp hH hblk (by rw [allF_size]; exact hsz)
  rw [allF_size] at h
  rw [allF_size]
  exact h

theorem sort_ord (rs : List Int) (hn : 0 < rs.length) (hl : rs.length ≤ 1048576) (hin : Inhabited (Fin rs.length)) (cb : Array Value) (blk cap : Nat) (w : World)
    (hcmp : CmpLays1 Tryd.prog 33 cb (fun x : Fin rs.length => Value.int .i64 (x.val : Int)) (cfo rs) blk 0 (allF rs.length).size w) (hH : Holds (fun x : Fin rs.length => Value.int .i64 (x.val : Int)) w blk 0 (allF rs.length)) (hblk : blk < w.heap.size) :
    Calls Tryd.prog 37 #[.slice (some ⟨blk, 0, none⟩) rs.length cap, .func (.func 33) #[] cb] w fun e w' =>
      e = .returned (.tuple #[]) ∧ ∃ o : List Nat, IsOrd rs o ∧ NumsC .i64 w' (some ⟨blk, 0, none⟩) (o.map (fun i : Nat => (i : Int))) ∧ Frm (fun k => k = blk) w w' := by
  refine (sort_any (cfo rs) (cfo_swo rs) cb blk cap w hcmp hH hblk (by omega)).mono ?_
  rintro e w' ⟨rfl, d', m, os, hp, hs, rfl⟩
  refine ⟨rfl, d'.toList.map Fin.val, isOrd_of_sorted hp hs, ?_, sortWorld_frm _ _ _ _ _ _⟩
  have hsz : d'.size = (allF rs.length).size := hp.1
  have hH' := holds_sortWorld (fun x : Fin rs.length => Value.int .i64 (x.val : Int)) w blk 0 m (allF rs.length) d' os hblk hH hsz
  intro i hi
  simp only [List.length_map, Array.length_toList] at hi
  refine ⟨blk, 0, rfl, ?_⟩
  rw [(hH' i hi).1, getElem!_pos _ i hi]
  simp

/-- The block of places while it is filled. -/
def fillL (n k : Nat) : List Int := (List.range k).map (fun i : Nat => (i : Int)) ++ List.replicate (n - k) 0

theorem fillL_len (n k : Nat) (h : k ≤ n) : (fillL n k).length = n := by simp [fillL]; omega
theorem fillL_set (n k : Nat) (h : k < n) : (fillL n k).set k (k : Int) = fillL n (k + 1) := by
  unfold fillL
  apply List.ext_getElem
  · simp; omega
  · intro i h1 h2
    simp at h1
    rw [List.getElem_set]
    by_cases hik : k = i
    · subst hik
      simp
    · rw [if_neg hik]
      by_cases hlt : i < k
      · simp [hlt, show i < k + 1 by omega]
      · simp [List.getElem_append, hlt, show ¬ i < k + 1 by omega]
theorem fillL_zero (n : Nat) : fillL n 0 = List.replicate n 0 := by simp [fillL]
theorem fillL_full (n : Nat) : fillL n n = (List.range n).map (fun i : Nat => (i : Int)) := by simp [fillL]

theorem heap_new (w : World) (o : Obj) : (w.alloc o).heap[w.heap.size]? = some o := by
  rw [alloc_eq_grow]
  show (w.heap ++ #[o])[w.heap.size]? = _
  simp

/-- While the block of places is filled. -/
structure Fill (w wr : World) (v : Value) (n k : Nat) : Prop where
  old : Old w wr
  box : wr.heap[w.heap.size]? = some (.cells #[v] 47 (0, 0))
  row : Own .i64 3 wr (w.heap.size + 1) (fillL n k)

theorem Fill.start (w : World) (v : Value) (n : Nat) : Fill w ((w.alloc (.cells #[v] 47)).alloc (.cells (Array.replicate n (Value.int .i64 0)) 3)) v n 0 := by
  refine ⟨((Old.refl w).alloc _).alloc _, ?_, ⟨?_⟩⟩
  · rw [Below.heap_alloc _ _ _ (by simp)]
    exact heap_new _ _
  · rw [fillL_zero]
    have := heap_new (w.alloc (.cells #[v] 47)) (.cells (Array.replicate n (Value.int .i64 0)) 3)
    simpa using this

theorem Fill.step {w wr : World} {v : Value} {n k : Nat} (h : Fill w wr v n k) (hk : k < n) : Fill w (wr.setCell ⟨w.heap.size + 1, k, none⟩ (.int .i64 (k : Int))) v n (k + 1) := by
  refine ⟨Frm.setCell h.old _ (Or.inl (by simp)) _, ?_, ?_⟩
  · rw [Below.heap_setCell _ _ _ _ (by simp)]
    exact h.box
  · rw [← fillL_set n k hk]
    exact h.row.set k _

theorem Fill.drewN {w wr : World} {v : Value} {n k : Nat} (h : Fill w wr v n k) (m : Nat) : Fill w (wr.drewN m) v n k := by
  have hf := (Old.refl wr).drewN m
  have hlt : w.heap.size < wr.heap.size := (Array.getElem?_eq_some_iff.1 h.box).1
  exact ⟨h.old.drewN m, by rw [hf.block _ hlt (fun h => h)]; exact h.box, h.row.kept hf (fun h => h)⟩

set_option maxRecDepth 100000 in
set_option maxHeartbeats 4000000 in
theorem byRests_any (ao : Option Addr) (cap : Nat) (rs : List Int) (w : World) (ha : NumsC .u64 w ao rs) (hl : rs.length ≤ 1048576) (hn : 0 < rs.length) :
    Calls Tryd.prog 21 #[.slice ao rs.length cap] w fun e w' => ∃ b o, e = .returned (.slice (some ⟨b, 0, none⟩) rs.length rs.length) ∧ IsOrd rs o ∧ NumsC .i64 w' (some ⟨b, 0, none⟩) (o.map (fun i : Nat => (i : Int))) ∧ Old w w' ∧ w.heap.size ≤ b := by
  obtain ⟨n, hn2⟩ : ∃ n, rs.length = n := ⟨_, rfl⟩
  have hN := hid hn2
  rw [hn2] at hl hn ⊢
  clear hn2
  have ha' := hid ha
  clear ha
  have hmk := make_int n hl
  have hmf : ∀ (fn : Fn) (first cap : Array Value) (w : World), (Instr.makeFunc fn first cap).run Tryd.prog w = .ok (.func fn first cap) w := fun _ _ _ _ => rfl
  have hS := hid (Fill.start w (.slice ao n cap) n)
  go_enter Tryd.func21, Tryd.ntmps21
  go_wp2_with fail
  go_loopw [4, 11] (fun _ s wr => ∃ k : Nat, k ≤ n ∧ s = .int .i64 (k : Int) ∧ Fill w wr (.slice ao n cap) n k) (fun _ s _ => n - (intOf s).toNat)
  case atStart => exact ⟨0, Nat.zero_le _, rfl, hS.out⟩
  case round =>
    clear hS
    obtain ⟨k, hk, rfl, hF⟩ := hrel
    by_cases hlt : k < n
    · obtain ⟨hc, hf⟩ := hF.row.cell (i := k) (by rw [fillL_len _ _ hk]; exact hlt)
      have hs := hid (fun (w' : World) (h : Fill w w' (.slice ao n cap) n k) => h.step hlt)
      have hF' := hid hF
      generalize (fillL n k)[k]'_ = z at hc
      clear hF
      go_wp2
      go_roundw
      case rel => exact ⟨k + 1, by omega, by go_num, hs.out _ hF'.out⟩
      case measure => simp [intOf]; omega
    · obtain rfl : k = n := by omega
      have hF' := hid hF
      have hlt1 : w.heap.size + 1 < wr.heap.size := hF.row.lt
      have hin : Inhabited (Fin rs.length) := ⟨⟨0, by rw [hN.out]; exact hn⟩⟩
      have hH : Holds (fun x : Fin rs.length => Value.int .i64 (x.val : Int)) wr (w.heap.size + 1) 0 (allF rs.length) := by
        intro j hj
        rw [allF_size] at hj
        rw [allF_get _ _ hj, Nat.zero_add]
        have h1 := hF.row.cell (i := j) (by rw [fillL_len _ _ (Nat.le_refl _), ← hN.out]; exact hj)
        have e : (fillL k k)[j]'(by rw [fillL_len _ _ (Nat.le_refl _), ← hN.out]; exact hj) = (j : Int) := by simp [fillL_full]
        rw [e] at h1
        exact h1
      have hcmp : CmpLays1 Tryd.prog 33 #[.pointer (some ⟨w.heap.size, 0, none⟩)] (fun x : Fin rs.length => Value.int .i64 (x.val : Int)) (cfo rs) (w.heap.size + 1) 0 (allF rs.length).size wr := by
        intro m os dk hdk x y
        have hfr := sortWorld_frm (fun x : Fin rs.length => Value.int .i64 (x.val : Int)) wr (w.heap.size + 1) m dk os
        obtain ⟨gx, ox, hgx, hcx⟩ := ha'.out x.val x.isLt
        obtain ⟨gy, oy, hgy, hcy⟩ := ha'.out y.val y.isLt
        rw [hgx] at hgy
        simp only [Option.some.injEq, Addr.mk.injEq, and_true] at hgy
        obtain ⟨rfl, rfl⟩ := hgy
        have hbx : wr.cell? ⟨w.heap.size, 0, none⟩ = some (.slice (some ⟨gx, ox, none⟩) rs.length cap) := by
          rw [hN.out, ← hgx]; simp [World.cell?, hF.box]
        have hgw : gx < w.heap.size := by
          by_cases hg : gx < w.heap.size
          · exact hg
          · simp [World.cell?, hg] at hcx
        have h := less_any w.heap.size gx ox rs cap x.val y.val (sortWorld (fun x : Fin rs.length => Value.int .i64 (x.val : Int)) wr (w.heap.size + 1) 0 m dk os)
          (frm_cell hfr hbx (by show ¬ w.heap.size = w.heap.size + 1; omega)) x.isLt y.isLt (frm_cell hfr (hF.old.cell hcx) (by show ¬ gx = w.heap.size + 1; omega)) (frm_cell hfr (hF.old.cell hcy) (by show ¬ gx = w.heap.size + 1; omega))
        refine h.mono ?_
        rintro e w' ⟨rfl, h2⟩
        refine ⟨?_, h2⟩
        unfold cfo
        simp [List.getD_eq_getElem?_getD]
      have hsort := sort_ord rs (by rw [hN.out]; exact hn) (by rw [hN.out]; exact hl) hin #[.pointer (some ⟨w.heap.size, 0, none⟩)] (w.heap.size + 1) k wr hcmp hH hlt1
      rw [hN.out] at hsort
      have hsort' := hid hsort
      clear hF hsort hcmp hH hin
      go_wp2_with fail
      refine hsort'.out.mono ?_
      rintro e w2 ⟨rfl, o, ho, hc, hf⟩
      have ho' := hid ho
      have hc' := hid hc
      have hf' := hid hf
      clear ho hc hf
      go_wp2
      go_ret
      exact ⟨_, o, rfl, ho'.out, hc'.out, Frm.trans hF'.out.old hf'.out (fun i hi h => by omega), by omega⟩
end Go.Proofs.YtocpbnjkijpbiaaDoor
