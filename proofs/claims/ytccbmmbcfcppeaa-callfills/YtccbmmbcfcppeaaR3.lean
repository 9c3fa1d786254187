/- The document's order of wants: walked. -/
import Derived.Test.YtccbmmbcfcppeaaR2
import Derived.Laws.MakeOwn
namespace Go.Proofs.Ytccbmmbcfcppeaa
open Go.RowKit

/-- A number behind a row that one owns. -/
theorem wpAppI {ops : Array Oper} {rest : List Oper} {o : Oper} {a : Act} {Q : Exit → Act → World → Prop} {w : World} (hgd : o.guard = none) (s x : Operand) (ho : o.op = .call { callee := .builtin .append, args := #[s, x], argTypes := #[26, 26] })
    (B : Nat) (v : Value) (ad : Addr) (c2 : Nat) (L1 L2 : List Int) (hs : a.eval s = v) (hx : a.eval x = .slice (some ad) L2.length c2) (hown : w.ownsRow B 3 1 v L1.length (L1.map (Value.int .i64))) (hN : NumsC .i64 w (some ad) L2) (hl : L1.length + L2.length ≤ 1000000) (hB : B ≤ w.heap.size)
    (h : ∀ v' w', w'.ownsRow B 3 1 v' (L1 ++ L2).length ((L1 ++ L2).map (Value.int .i64)) → w.grownBy w' v.ownBlock → wpList Try.prog ops Q rest (a.put o.dst v') w') : wpList Try.prog ops Q (o :: rest) a w := by
  obtain ⟨i3, hi, hz0, hz1, hz2⟩ := parts_i
  exact wpList_append_own _ hgd s x 26 ho B 3 i3 _ 1 8 Try.underlying26 hi hz0 hz1 hz2 rfl (by omega) v L1.length (L1.map (Value.int .i64)) hs hown ad L2.length c2 (L2.map (Value.int .i64)) hx (by simp) (num_cells hN) (ints_one L2) (by unfold maxLen; omega) (by omega) hB (fun v' w' h8 h9 _ => h v' w' (by rw [List.length_append, List.map_append]; exact h8) h9)

/-- A row of n numbers that one owns. -/
structure RI (B : Nat) (w : World) (b n cap : Nat) (f : Dat) : Prop where
  row : w.ownsRow B 3 1 (.slice (some ⟨b, 0, none⟩) n cap) n ((dl n f).map (Value.int .i64))
theorem RI.cell {B : Nat} {w : World} {b n cap : Nat} {f : Dat} (h : RI B w b n cap f) {i : Nat} (hi : i < n) : w.cell? ⟨b, i, none⟩ = some (.int .i64 (f i : Int)) ∧ w.frozen? ⟨b, i, none⟩ = false := by
  rcases h.row.2 with ⟨e, _⟩ | ⟨g, cp, cur, e, h3, h4, h5, h6, h7, h8⟩
  · cases e
  · simp only [Value.slice.injEq, Option.some.injEq, Addr.mk.injEq, and_true, true_and] at e
    obtain ⟨rfl, rfl⟩ := e
    refine ⟨blk_cells h4 ?_, blk_fz h4 i⟩
    have g1 : (cur.toList.take (n * 1))[i]? = ((dl n f).map (Value.int .i64))[i]? := by rw [h8]
    rw [List.getElem?_take_of_lt (by omega)] at g1
    have hi2 : i < (dl n f).length := by rw [dl_len]; exact hi
    rw [List.getElem?_map, List.getElem?_eq_getElem hi2, dl_at hi] at g1
    simpa using g1
theorem RI.set {B : Nat} {w : World} {b n cap : Nat} {f : Dat} (h : RI B w b n cap f) (i : Nat) (x : Nat) : RI B (w.setCell ⟨b, i, none⟩ (.int .i64 (x : Int))) b n cap (fun t => if t = i then x else f t) := by
  refine ⟨⟨?_, ?_⟩⟩
  · simp [dl_len]
  · rcases h.row.2 with ⟨e, _⟩ | ⟨g, cp, cur, e, h3, h4, h5, h6, h7, h8⟩
    · cases e
    · simp only [Value.slice.injEq, Option.some.injEq, Addr.mk.injEq, and_true, true_and] at e
      obtain ⟨rfl, rfl⟩ := e
      refine Or.inr ⟨b, cap, _, rfl, h3, heap_set _ h4, h5, h6, by simp [h7], ?_⟩
      have e2 : dl n (fun t => if t = i then x else f t) = (dl n f).set i (x : Int) := by
        apply List.ext_getElem
        · simp [dl_len]
        · intro t h1 h2
          have ht : t < n := by rw [dl_len] at h1; exact h1
          rw [dl_at ht, List.getElem_set]
          by_cases e3 : i = t
          · rw [if_pos e3.symm, if_pos e3]
          · rw [if_neg (fun e => e3 e.symm), if_neg e3, dl_at ht]
      rw [e2, List.map_set, ← h8]
      simp only [Array.toList_setIfInBounds, List.take_set]
theorem RI.nums {B : Nat} {w : World} {b n cap : Nat} {f : Dat} (h : RI B w b n cap f) : NumsC .i64 w (some ⟨b, 0, none⟩) (dl n f) := fun i hi => by
  have hi' : i < n := by rw [dl_len] at hi; exact hi
  refine ⟨b, 0, rfl, ?_⟩
  rw [Nat.zero_add, dl_at hi']
  exact (h.cell hi').1
theorem RI.congr {B : Nat} {w : World} {b n cap : Nat} {f g : Dat} (h : RI B w b n cap f) (e : ∀ t, t < n → g t = f t) : RI B w b n cap g := by
  have : dl n g = dl n f := by
    unfold dl
    apply List.map_congr_left
    intro t ht
    rw [e t (List.mem_range.1 ht)]
  exact ⟨by rw [this]; exact h.row⟩

/-- The first n numbers lie in a row, or there is none yet. -/
def RV (B : Nat) (w : World) (v : Value) (n : Nat) (f : Dat) : Prop := w.ownsRow B 3 1 v n ((dl n f).map (Value.int .i64))
theorem RV.form {B : Nat} {w : World} {v : Value} {n : Nat} {f : Dat} (h : RV B w v n f) : (v = .slice none 0 0 ∧ n = 0) ∨ ∃ b cap, v = .slice (some ⟨b, 0, none⟩) n cap ∧ RI B w b n cap f ∧ B ≤ b := by
  rcases h.2 with ⟨e, h0⟩ | ⟨g, cp, cur, rfl, h3, hr⟩
  · exact Or.inl ⟨e, h0⟩
  · exact Or.inr ⟨g, cp, rfl, ⟨h⟩, h3⟩

/-- Those from k on are shifted. -/
def shf (k i : Nat) (f : Dat) : Dat := fun t => if k < t ∧ t ≤ i then f (t - 1) else f t
theorem shf_zero (i : Nat) (f : Dat) : shf i i f = f := by
  funext t
  unfold shf
  rw [if_neg (by omega)]
theorem shf_succ {k i : Nat} (h : k < i) (f : Dat) : (fun t => if t = k + 1 then shf (k + 1) i f k else shf (k + 1) i f t) = shf k i f := by
  funext t
  unfold shf
  by_cases e : t = k + 1
  · subst e
    rw [if_pos rfl, if_neg (by omega), if_pos (by omega)]
    rfl
  · rw [if_neg e]
    by_cases h1 : k + 1 < t ∧ t ≤ i
    · rw [if_pos h1, if_pos (by omega)]
    · rw [if_neg h1, if_neg (by omega)]
theorem shf_put {k i : Nat} {f : Dat} (hf : f i = i) : (fun t => if t = k then i else shf k i f t) = mvL k i f := by
  funext t
  unfold shf mvL
  by_cases e : t = k
  · rw [if_pos e, if_pos e, hf]
  · rw [if_neg e, if_neg e]

/-- Where the document's order stands behind i bids. -/
structure OI (w wr : World) (v : Value) (L : Nat → Int) (i : Nat) (f : Dat) : Prop where
  row : RV w.heap.size wr v i f
  re : Re 0 i (fun t => t) f
  srt : Srt L f 0 i
  old : Old w wr
theorem OI.lt {w wr : World} {v : Value} {L : Nat → Int} {i : Nat} {f : Dat} (h : OI w wr v L i f) {t : Nat} (ht : t < i) : f t < i := by
  obtain ⟨s, -, h2, e⟩ := h.re.mem (Nat.zero_le t) ht
  rw [e]; exact h2
theorem OI.at {w wr : World} {v : Value} {L : Nat → Int} {i : Nat} {f : Dat} (h : OI w wr v L i f) : f i = i := h.re.out (Or.inr (Nat.le_refl _))
theorem OI.old1 {w wr wx : World} {v : Value} {L : Nat → Int} {i : Nat} {f : Dat} (h : OI w wr v L i f) (o : Old wr wx) : OI w wx v L i f := ⟨owns_kept h.row (fun k hk => o.block k (h.row.lt k hk).2 (fun h => h)), h.re, h.srt, h.old.trans o⟩
theorem nums_new {w : World} {x : Int} : NumsC .i64 (w.alloc (.cells #[.int .i64 x] 3)) (some ⟨w.heap.size, 0, none⟩) [x] := fun i hi => by
  match i, hi with
  | 0, _ => exact ⟨w.heap.size, 0, rfl, new_cell _ _ _ _ _ rfl⟩
theorem dl_snoc {i : Nat} {f : Dat} (h : f i = i) : dl i f ++ [(i : Int)] = dl (i + 1) f := by
  unfold dl
  rw [List.range_succ, List.map_append]
  simp [h]


set_option maxRecDepth 100000 in
set_option maxHeartbeats 16000000 in
theorem rorder_any (bs : Bool) (ao : Option Addr) (cap : Nat) (Ls : List Wt) (w : World) (hS : WC w ao Ls) (hl : Ls.length ≤ 4096) :
    Calls Try.prog 41 #[.slice ao Ls.length cap, .bool bs] w fun e w' => ∃ v g, e = .returned v ∧ OI w w' v (keyX bs Ls) Ls.length g := by
  have kh := hid hS
  have kBt := hid (fun x y w hS => better_any bs ao cap Ls x y w hS)
  obtain ⟨L, hLk⟩ : ∃ L, keyX bs Ls = L := ⟨_, rfl⟩
  rw [hLk] at kBt ⊢
  clear hS hLk
  go_enter Try.func41, Try.ntmps41
  go_wp2_with fail
  go_loopw [5, 6, 7, 8] (fun v t _ _ wr => ∃ i : Nat, i ≤ Ls.length ∧ t = .int .i64 (i : Int) ∧ (∃ ao' cp, v = .slice ao' i cp) ∧ Hid (∃ f, OI w wr v L i f)) (fun _ t _ _ _ => Ls.length - (intOf t).toNat)
  case atStart => exact ⟨0, Nat.zero_le _, rfl, ⟨none, 0, rfl⟩, ⟨fun t => t, ⟨rfl, Or.inl ⟨rfl, rfl⟩⟩, Re.refl _, fun i j h1 h2 h3 => by omega, Old.refl _⟩⟩
  case round =>
    obtain ⟨i, hi, rfl, ⟨a3, c3, rfl⟩, hg⟩ := hrel
    by_cases hlt : i < Ls.length
    · have hlt' : (i : Int) < (Ls.length : Int) := by omega
      obtain ⟨f, hf⟩ := hg.out
      have kf := hid hf
      clear hg hf
      go_wp2_with fail
      go_loopw [7] (fun t wx => ∃ p : Nat, p ≤ i ∧ t = .int .i64 (p : Int) ∧ Hid (OI w wx (.slice a3 i c3) L i f ∧ ∀ t, p ≤ t → t < i → Lt L i (f t))) (fun t _ => (intOf t).toNat)
      case atStart => exact ⟨i, Nat.le_refl _, rfl, ⟨kf.out, fun t t1 t2 => by omega⟩⟩
      case round =>
        clear kf
        obtain ⟨p, hp, rfl, hg⟩ := hrel
        by_cases hp0 : p = 0
        · subst hp0
          have kF : Hid (OI w wr (.slice a3 i c3) L i f ∧ (∀ t, 0 ≤ t → t < i → Lt L i (f t)) ∧ (∀ t, t < 0 → Lt L (f t) i)) := ⟨hg.out.1, hg.out.2, fun t ht => by omega⟩
          clear hg
          go_upto_region 8 with fail
          obtain ⟨hOI, hA, hB⟩ := kF.out
          have oA : Old wr (wr.alloc (.cells #[.int .i64 (i : Int)] 3)) := (Old.refl wr).alloc _
          have hN : NumsC .i64 (wr.alloc (.cells #[.int .i64 (i : Int)] 3)) (some ⟨wr.heap.size, 0, none⟩) [(i : Int)] := nums_new
          have hrA : (wr.alloc (.cells #[.int .i64 (i : Int)] 3)).ownsRow w.heap.size 3 1 (.slice a3 i c3) (dl i f).length ((dl i f).map (Value.int .i64)) := by rw [dl_len]; exact (hOI.old1 oA).row
          have hB4 : w.heap.size ≤ (wr.alloc (.cells #[.int .i64 (i : Int)] 3)).heap.size := (hOI.old.trans oA).size
          have ko := hid (hOI.old.trans oA)
          have kOI := hid hOI
          have kA := hid hA
          have kB := hid hB
          have hdl : (dl i f).length + [(i : Int)].length ≤ 1000000 := by rw [dl_len]; simp; omega
          clear hOI hA hB oA kF
          go_wp2_with (at_builtin; refine wpAppI (by rfl) _ _ (by rfl) w.heap.size (.slice a3 i c3) ⟨wr.heap.size, 0, none⟩ 1 (dl i f) [(i : Int)] (by rfl) (by rfl) hrA hN hdl hB4 ?_)
          intro v7 w7 r7 g7
          have f7 : Frm (fun q => (Value.slice a3 i c3).ownBlock = some q) (wr.alloc (.cells #[.int .i64 (i : Int)] 3)) w7 := Frm.grown (Frm.refl _ _) g7 (fun q hq => Or.inr hq)
          have k7 : Hid (Old w w7) := Frm.trans ko.out f7 (fun j hj e => by have := (hrA.lt j e).1; omega)
          have r8 : RV w.heap.size w7 v7 (i + 1) f := by
            unfold RV
            rw [← dl_snoc kOI.out.at]
            simpa [dl_len] using r7
          rcases r8.form with ⟨-, e0⟩ | ⟨b7, c7, rfl, hri, hb7⟩
          · omega
          have kri : Hid (RI w.heap.size w7 b7 (i + 1) c7 (shf i i f)) := by show RI _ _ _ _ _ _; rw [shf_zero]; exact hri
          clear r7 g7 f7 hrA hN hB4 r8 hri ko
          go_wp2_with fail
          go_loopw [8] (fun t wy => ∃ k : Nat, (0 ≤ k ∧ k ≤ i) ∧ t = .int .i64 (k : Int) ∧ Hid (RI w.heap.size wy b7 (i + 1) c7 (shf k i f) ∧ Old w wy)) (fun t _ => (intOf t).toNat)
          case atStart => exact ⟨i, ⟨hp, Nat.le_refl _⟩, by go_num, ⟨kri.out, k7.out⟩⟩
          case round =>
            rename_i wy
            clear kri k7
            obtain ⟨k, hk, rfl, hg⟩ := hrel
            by_cases hkp : 0 < k
            · obtain ⟨k, rfl⟩ : ∃ l, k = l + 1 := ⟨k - 1, by omega⟩
              have hkp' : (k : Int) + 1 > ((0 : Nat) : Int) := by omega
              obtain ⟨d1, e1⟩ := hg.out.1.cell (i := k) (by omega)
              obtain ⟨d2, e2⟩ := hg.out.1.cell (i := k + 1) (by omega)
              have hst := hid (hg.out.1.set (k + 1) (shf (k + 1) i f k))
              rw [shf_succ (by omega)] at hst
              have ko := hid (Frm.setCell hg.out.2 ⟨b7, k + 1, none⟩ (Or.inl hb7) (.int .i64 (shf (k + 1) i f k : Int)))
              generalize shf (k + 1) i f k = x1 at *
              generalize shf (k + 1) i f (k + 1) = x2 at *
              have hx1 : (k : Int) < (i : Int) + 1 := by omega
              have hx2 : (k : Int) + 1 < (i : Int) + 1 := by omega
              clear hg
              go_wp2_with fail
              go_roundw
              case rel => exact ⟨k, by omega, by go_num, ⟨hst.out, ko.out⟩⟩
              case measure => simp [intOf]
            · obtain rfl : 0 = k := by omega
              have hkp' : ¬ ((0 : Nat) : Int) > ((0 : Nat) : Int) := by omega
              obtain ⟨d1, e1⟩ := hg.out.1.cell (i := 0) (by omega)
              have hst := hid (hg.out.1.set 0 i)
              rw [shf_put kOI.out.at] at hst
              have ko := hid (Frm.setCell hg.out.2 ⟨b7, 0, none⟩ (Or.inl hb7) (.int .i64 (i : Int)))
              generalize shf 0 i f 0 = x1 at *
              have hx1 : ((0 : Nat) : Int) < (i : Int) + 1 := by omega
              have kfin : Hid (Re 0 (i + 1) (fun t => t) (mvL 0 i f) ∧ Srt L (mvL 0 i f) 0 (i + 1)) := by
                refine ⟨(kOI.out.re.mono (Nat.le_refl _) (by omega)).trans ?_, mvL_srt kOI.out.srt ⟨Nat.zero_le _, hp⟩ (fun t _ t2 => ?_) (fun t t1 t2 => ?_)⟩
                · have := mvL_re (a := 0) (b := i + 1) (m := i) f (by omega) (i - 0) (by omega) (by omega)
                  rwa [show i - (i - 0) = 0 by omega] at this
                · rw [kOI.out.at]; exact kB.out t t2
                · rw [kOI.out.at]; exact kA.out t t1 t2
              clear hg
              go_wp2_with fail
              go_roundw
              case rel => exact ⟨i + 1, by omega, by go_num, ⟨some ⟨b7, 0, none⟩, c7, rfl⟩, ⟨_, hst.out.row, kfin.out.1, kfin.out.2, ko.out⟩⟩
              case measure => simp [intOf]; omega
        · obtain ⟨k, hk⟩ : ∃ k, p = k + 1 := ⟨p - 1, by omega⟩
          have hki : k < i := by omega
          have hpz : (p : Int) > 0 := by omega
          have hq1 : decide ((p : Int) > 0) = true := by simpa using hpz
          have hq2 : decide (0 < p) = true := by simp; omega
          have hq3 : 0 < p := by omega
          have hp1 : (p : Int) - 1 = (k : Int) := by omega
          obtain ⟨b3, hb3⟩ : ∃ b3, a3 = some ⟨b3, 0, none⟩ := by
            rcases hg.out.1.row.form with ⟨-, e0⟩ | ⟨b, cp, e, -, -⟩
            · omega
            · simp only [Value.slice.injEq] at e
              exact ⟨b, e.1⟩
          subst hb3
          have hri : RI w.heap.size wr b3 i c3 f := ⟨hg.out.1.row⟩
          obtain ⟨d1, -⟩ := hri.cell (i := k) hki
          have hfk := hg.out.1.lt hki
          have hfl : f k < Ls.length := by omega
          have hki' : (k : Int) < (i : Int) := by omega
          have kbt := hid (kBt.out i (f k) wr (kh.out.old hg.out.1.old) hlt hfl)
          have kp := hid hk
          have kfk := hid hfk
          have kg := hid hg.out
          by_cases hcc : Lt L i (f k)
          · rw [decide_eq_true hcc] at kbt
            have kn : Hid (∀ wx, Old wr wx → OI w wx (.slice (some ⟨b3, 0, none⟩) i c3) L i f ∧ ∀ t, k ≤ t → t < i → Lt L i (f t)) := fun wx o => ⟨kg.out.1.old1 o, fun t t1 t2 => by
              by_cases e : t = k
              · rw [e]; exact hcc
              · exact kg.out.2 t (by have := kp.out; omega) t2⟩
            clear hcc
            generalize f k = x0 at *
            clear hg hri hk kg hfk hfl
            go_wp2_with fail
            refine kbt.out.mono ?_
            rintro e wx ⟨rfl, ox⟩
            have kn2 := hid (kn.out wx ox)
            clear kn ox kbt
            go_wp2_with fail
            go_roundw
            case rel => exact ⟨k, by omega, by go_num, kn2⟩
            case measure => simp [intOf]; omega
          · rw [decide_eq_false hcc] at kbt
            have kF0 : Hid (∀ wx, Old wr wx → OI w wx (.slice (some ⟨b3, 0, none⟩) i c3) L i f ∧ (∀ t, p ≤ t → t < i → Lt L i (f t)) ∧ (∀ t, t < p → Lt L (f t) i)) := fun wx o => ⟨kg.out.1.old1 o, kg.out.2, fun t ht => by
              have h1 : Lt L (f k) i := by
                rcases Lt.total (L := L) (x := i) (y := f k) (by have := kfk.out; omega) with h | h
                · exact absurd h hcc
                · exact h
              by_cases e : t = k
              · rw [e]; exact h1
              · exact (kg.out.1.srt t k (Nat.zero_le _) (by have := kp.out; omega) hki).trans h1⟩
            clear hcc
            generalize f k = x0 at *
            clear hg hri hk kg hfk kp kfk hfl
            go_wp2_with fail
            refine kbt.out.mono ?_
            rintro e wx ⟨rfl, ox⟩
            have kF := hid (kF0.out wx ox)
            clear kF0 ox kbt hp1
            go_upto_region 8 with fail
            obtain ⟨hOI, hA, hB⟩ := kF.out
            have oA : Old wx (wx.alloc (.cells #[.int .i64 (i : Int)] 3)) := (Old.refl wx).alloc _
            have hN : NumsC .i64 (wx.alloc (.cells #[.int .i64 (i : Int)] 3)) (some ⟨wx.heap.size, 0, none⟩) [(i : Int)] := nums_new
            have hrA : (wx.alloc (.cells #[.int .i64 (i : Int)] 3)).ownsRow w.heap.size 3 1 (.slice (some ⟨b3, 0, none⟩) i c3) (dl i f).length ((dl i f).map (Value.int .i64)) := by rw [dl_len]; exact (hOI.old1 oA).row
            have hB4 : w.heap.size ≤ (wx.alloc (.cells #[.int .i64 (i : Int)] 3)).heap.size := (hOI.old.trans oA).size
            have ko := hid (hOI.old.trans oA)
            have kOI := hid hOI
            have kA := hid hA
            have kB := hid hB
            have hdl : (dl i f).length + [(i : Int)].length ≤ 1000000 := by rw [dl_len]; simp; omega
            clear hOI hA hB oA kF
            go_wp2_with (at_builtin; refine wpAppI (by rfl) _ _ (by rfl) w.heap.size (.slice (some ⟨b3, 0, none⟩) i c3) ⟨wx.heap.size, 0, none⟩ 1 (dl i f) [(i : Int)] (by rfl) (by rfl) hrA hN hdl hB4 ?_)
            intro v7 w7 r7 g7
            have f7 : Frm (fun q => (Value.slice (some ⟨b3, 0, none⟩) i c3).ownBlock = some q) (wx.alloc (.cells #[.int .i64 (i : Int)] 3)) w7 := Frm.grown (Frm.refl _ _) g7 (fun q hq => Or.inr hq)
            have k7 : Hid (Old w w7) := Frm.trans ko.out f7 (fun j hj e => by have := (hrA.lt j e).1; omega)
            have r8 : RV w.heap.size w7 v7 (i + 1) f := by
              unfold RV
              rw [← dl_snoc kOI.out.at]
              simpa [dl_len] using r7
            rcases r8.form with ⟨-, e0⟩ | ⟨b7, c7, rfl, hri, hb7⟩
            · omega
            have kri : Hid (RI w.heap.size w7 b7 (i + 1) c7 (shf i i f)) := by show RI _ _ _ _ _ _; rw [shf_zero]; exact hri
            clear r7 g7 f7 hrA hN hB4 r8 hri ko
            go_wp2_with fail
            go_loopw [8] (fun t wy => ∃ k : Nat, (p ≤ k ∧ k ≤ i) ∧ t = .int .i64 (k : Int) ∧ Hid (RI w.heap.size wy b7 (i + 1) c7 (shf k i f) ∧ Old w wy)) (fun t _ => (intOf t).toNat)
            case atStart => exact ⟨i, ⟨hp, Nat.le_refl _⟩, by go_num, ⟨kri.out, k7.out⟩⟩
            case round =>
              rename_i wy
              clear kri k7
              obtain ⟨k, hk, rfl, hg⟩ := hrel
              by_cases hkp : p < k
              · obtain ⟨k, rfl⟩ : ∃ l, k = l + 1 := ⟨k - 1, by omega⟩
                have hkp' : (k : Int) + 1 > ((p : Nat) : Int) := by omega
                obtain ⟨d1, e1⟩ := hg.out.1.cell (i := k) (by omega)
                obtain ⟨d2, e2⟩ := hg.out.1.cell (i := k + 1) (by omega)
                have hst := hid (hg.out.1.set (k + 1) (shf (k + 1) i f k))
                rw [shf_succ (by omega)] at hst
                have ko := hid (Frm.setCell hg.out.2 ⟨b7, k + 1, none⟩ (Or.inl hb7) (.int .i64 (shf (k + 1) i f k : Int)))
                generalize shf (k + 1) i f k = x1 at *
                generalize shf (k + 1) i f (k + 1) = x2 at *
                have hx1 : (k : Int) < (i : Int) + 1 := by omega
                have hx2 : (k : Int) + 1 < (i : Int) + 1 := by omega
                clear hg
                go_wp2_with fail
                go_roundw
                case rel => exact ⟨k, by omega, by go_num, ⟨hst.out, ko.out⟩⟩
                case measure => simp [intOf]
              · obtain rfl : p = k := by omega
                have hkp' : ¬ ((p : Nat) : Int) > ((p : Nat) : Int) := by omega
                obtain ⟨d1, e1⟩ := hg.out.1.cell (i := p) (by omega)
                have hst := hid (hg.out.1.set p i)
                rw [shf_put kOI.out.at] at hst
                have ko := hid (Frm.setCell hg.out.2 ⟨b7, p, none⟩ (Or.inl hb7) (.int .i64 (i : Int)))
                generalize shf p i f p = x1 at *
                have hx1 : ((p : Nat) : Int) < (i : Int) + 1 := by omega
                have kfin : Hid (Re 0 (i + 1) (fun t => t) (mvL p i f) ∧ Srt L (mvL p i f) 0 (i + 1)) := by
                  refine ⟨(kOI.out.re.mono (Nat.le_refl _) (by omega)).trans ?_, mvL_srt kOI.out.srt ⟨Nat.zero_le _, hp⟩ (fun t _ t2 => ?_) (fun t t1 t2 => ?_)⟩
                  · have := mvL_re (a := 0) (b := i + 1) (m := i) f (by omega) (i - p) (by omega) (by omega)
                    rwa [show i - (i - p) = p by omega] at this
                  · rw [kOI.out.at]; exact kB.out t t2
                  · rw [kOI.out.at]; exact kA.out t t1 t2
                clear hg
                go_wp2_with fail
                go_roundw
                case rel => exact ⟨i + 1, by omega, by go_num, ⟨some ⟨b7, 0, none⟩, c7, rfl⟩, ⟨_, hst.out.row, kfin.out.1, kfin.out.2, ko.out⟩⟩
                case measure => simp [intOf]; omega
    · obtain rfl : i = Ls.length := by omega
      have hlt' : ¬ (Ls.length : Int) < (Ls.length : Int) := by omega
      go_wp2_with fail
      go_ret
      obtain ⟨f, hf⟩ := hg.out
      exact ⟨_, rfl, f, hf⟩
end Go.Proofs.Ytccbmmbcfcppeaa
