/- The order of bids by the document: walked. -/
import Derived.Test.YtfmeobelpideoaaN15
namespace Go.Proofs.Ytfmeobelpideoaa
open Go.RowKit

/-- Where the document's order stands behind i bids. -/
structure OI (w wr : World) (v : Value) (L : List Sec) (i : Nat) (f : Dat) : Prop where
  row : RV w.heap.size wr v i f
  re : Re 0 i (fun t => t) f
  srt : Srt L f 0 i
  old : Old w wr
theorem OI.lt {w wr : World} {v : Value} {L : List Sec} {i : Nat} {f : Dat} (h : OI w wr v L i f) {t : Nat} (ht : t < i) : f t < i := by
  obtain ⟨s, -, h2, e⟩ := h.re.mem (Nat.zero_le t) ht
  rw [e]; exact h2
theorem OI.at {w wr : World} {v : Value} {L : List Sec} {i : Nat} {f : Dat} (h : OI w wr v L i f) : f i = i := h.re.out (Or.inr (Nat.le_refl _))
theorem OI.old1 {w wr wx : World} {v : Value} {L : List Sec} {i : Nat} {f : Dat} (h : OI w wr v L i f) (o : Old wr wx) : OI w wx v L i f := ⟨owns_kept h.row (fun k hk => o.block k (h.row.lt k hk).2 (fun h => h)), h.re, h.srt, h.old.trans o⟩
theorem nums_new {w : World} {x : Int} : NumsC .i64 (w.alloc (.cells #[.int .i64 x] 3)) (some ⟨w.heap.size, 0, none⟩) [x] := fun i hi => by
  match i, hi with
  | 0, _ => exact ⟨w.heap.size, 0, rfl, new_cell _ _ _ _ _ rfl⟩
theorem dl_snoc {i : Nat} {f : Dat} (h : f i = i) : dl i f ++ [(i : Int)] = dl (i + 1) f := by
  unfold dl
  rw [List.range_succ, List.map_append]
  simp [h]


set_option maxRecDepth 100000 in
set_option maxHeartbeats 16000000 in
theorem rorder_any (ao : Option Addr) (cap : Nat) (L : List Sec) (w : World) (hS : SecC w ao L) (hl : L.length ≤ 300) :
    Calls Try.prog 11 #[.slice ao L.length cap] w fun e w' => ∃ v g, e = .returned v ∧ OI w w' v L L.length g := by
  have kh := hid hS
  clear hS
  go_enter Try.func11, Try.ntmps11
  go_wp2_with fail
  go_loopw [3, 4, 5, 6] (fun v t _ _ wr => ∃ i : Nat, i ≤ L.length ∧ t = .int .i64 (i : Int) ∧ (∃ ao' cp, v = .slice ao' i cp) ∧ Hid (∃ f, OI w wr v L i f)) (fun _ t _ _ _ => L.length - (intOf t).toNat)
  case atStart => exact ⟨0, Nat.zero_le _, rfl, ⟨none, 0, rfl⟩, ⟨fun t => t, ⟨rfl, Or.inl ⟨rfl, rfl⟩⟩, Re.refl _, fun i j h1 h2 h3 => by omega, Old.refl _⟩⟩
  case round =>
    obtain ⟨i, hi, rfl, ⟨a3, c3, rfl⟩, hg⟩ := hrel
    by_cases hlt : i < L.length
    · have hlt' : (i : Int) < (L.length : Int) := by omega
      obtain ⟨f, hf⟩ := hg.out
      have kf := hid hf
      clear hg hf
      go_wp2_with fail
      go_loopw [5] (fun t wx => ∃ p : Nat, p ≤ i ∧ t = .int .i64 (p : Int) ∧ Hid (OI w wx (.slice a3 i c3) L i f ∧ ∀ t, p ≤ t → t < i → Lt L i (f t))) (fun t _ => (intOf t).toNat)
      case atStart => exact ⟨i, Nat.le_refl _, rfl, ⟨kf.out, fun t t1 t2 => by omega⟩⟩
      case round =>
        clear kf
        obtain ⟨p, hp, rfl, hg⟩ := hrel
        by_cases hp0 : p = 0
        · subst hp0
          have kF : Hid (OI w wr.drew (.slice a3 i c3) L i f ∧ (∀ t, 0 ≤ t → t < i → Lt L i (f t)) ∧ (∀ t, t < 0 → Lt L (f t) i)) := ⟨hg.out.1.old1 ((Old.refl wr).drewN 1), hg.out.2, fun t ht => by omega⟩
          clear hg
          go_upto_region 6 with fail
          go_region
          go_upto_region 8 with fail
          generalize wr.drew = wx at *
          obtain ⟨hOI, hA, hB⟩ := kF.out
          have oA : Old wx (wx.alloc (.cells #[.int .i64 (i : Int)] 3)) := (Old.refl wx).alloc _
          have hN : NumsC .i64 (wx.alloc (.cells #[.int .i64 (i : Int)] 3)) (some ⟨wx.heap.size, 0, none⟩) [(i : Int)] := nums_new
          have hrA : (wx.alloc (.cells #[.int .i64 (i : Int)] 3)).ownsRow w.heap.size 3 1 (.slice a3 i c3) (dl i f).length ((dl i f).map (Value.int .i64)) := by rw [dl_len]; exact (hOI.old1 oA).row
          have hB4 : w.heap.size ≤ (wx.alloc (.cells #[.int .i64 (i : Int)] 3)).heap.size := (hOI.old.trans oA).size
          have ko := hid (hOI.old.trans oA)
          have kOI := hid hOI
          have kA := hid hA
          have kB := hid hB
          have hdl : (dl i f).length + [(i : Int)].length ≤ 1000000 := by rw [dl_len]; simp; omega
          clear hOI hA hB oA kF
          go_wp2_with (at_builtin; refine wpAppI (by rfl) _ _ (by rfl) w.heap.size (.slice a3 i c3) ⟨wx.heap.size, 0, none⟩ 1 (dl i f) [(i : Int)] (by rfl) (by rfl) hrA hN hdl hB4 ?_)
          intro v7 w7 r7 g7
          have f7 : Frm (fun q => (Value.slice a3 i c3).ownBlock = some q) (wx.alloc (.cells #[.int .i64 (i : Int)] 3)) w7 := Frm.grown (Frm.refl _ _) g7 (fun q hq => Or.inr hq)
          have k7 : Hid (Old w w7) := Frm.trans ko.out f7 (fun j hj e => by have := (hrA.lt j e).1; omega)
          have r8 : RV w.heap.size w7 v7 (i + 1) f := by
            unfold RV
            rw [← dl_snoc kOI.out.at]
            simpa [dl_len] using r7
          rcases r8.form with ⟨-, e0⟩ | ⟨b7, c7, rfl, hri, hb7⟩
          · omega
          have kri : Hid (RI w.heap.size w7 b7 (i + 1) c7 (shf i i f)) := by show RI _ _ _ _ _ _; rw [shf_zero]; exact hri
          clear r7 g7 f7 hrA hN hB4 r8 hri ko
          go_wp2_with fail
          go_loopw [6] (fun t wy => ∃ k : Nat, (0 ≤ k ∧ k ≤ i) ∧ t = .int .i64 (k : Int) ∧ Hid (RI w.heap.size wy b7 (i + 1) c7 (shf k i f) ∧ Old w wy)) (fun t _ => (intOf t).toNat)
          case atStart => exact ⟨i, ⟨hp, Nat.le_refl _⟩, by go_num, ⟨kri.out, k7.out⟩⟩
          case round =>
            rename_i wy
            clear kri k7
            obtain ⟨k, hk, rfl, hg⟩ := hrel
            by_cases hkp : 0 < k
            · obtain ⟨k, rfl⟩ : ∃ l, k = l + 1 := ⟨k - 1, by omega⟩
              have hkp' : (k : Int) + 1 > ((0 : Nat) : Int) := by omega
              obtain ⟨d1, e1⟩ := hg.out.1.cell (i := k) (by omega)
              obtain ⟨d2, e2⟩ := hg.out.1.cell (i := k + 1) (by omega)
              have hst := hid (hg.out.1.set (k + 1) (shf (k + 1) i f k))
              rw [shf_succ (by omega)] at hst
              have ko := hid (Frm.setCell hg.out.2 ⟨b7, k + 1, none⟩ (Or.inl hb7) (.int .i64 (shf (k + 1) i f k : Int)))
              generalize shf (k + 1) i f k = x1 at *
              generalize shf (k + 1) i f (k + 1) = x2 at *
              have hx1 : (k : Int) < (i : Int) + 1 := by omega
              have hx2 : (k : Int) + 1 < (i : Int) + 1 := by omega
              clear hg
              go_wp2_with fail
              go_roundw
              case rel => exact ⟨k, by omega, by go_num, ⟨hst.out, ko.out⟩⟩
              case measure => simp [intOf]
            · obtain rfl : 0 = k := by omega
              have hkp' : ¬ ((0 : Nat) : Int) > ((0 : Nat) : Int) := by omega
              obtain ⟨d1, e1⟩ := hg.out.1.cell (i := 0) (by omega)
              have hst := hid (hg.out.1.set 0 i)
              rw [shf_put kOI.out.at] at hst
              have ko := hid (Frm.setCell hg.out.2 ⟨b7, 0, none⟩ (Or.inl hb7) (.int .i64 (i : Int)))
              generalize shf 0 i f 0 = x1 at *
              have hx1 : ((0 : Nat) : Int) < (i : Int) + 1 := by omega
              have kfin : Hid (Re 0 (i + 1) (fun t => t) (mvL 0 i f) ∧ Srt L (mvL 0 i f) 0 (i + 1)) := by
                refine ⟨(kOI.out.re.mono (Nat.le_refl _) (by omega)).trans ?_, mvL_srt kOI.out.srt ⟨Nat.zero_le _, hp⟩ (fun t _ t2 => ?_) (fun t t1 t2 => ?_)⟩
                · have := mvL_re (a := 0) (b := i + 1) (m := i) f (by omega) (i - 0) (by omega) (by omega)
                  rwa [show i - (i - 0) = 0 by omega] at this
                · rw [kOI.out.at]; exact kB.out t t2
                · rw [kOI.out.at]; exact kA.out t t1 t2
              clear hg
              go_wp2_with fail
              go_roundw
              case rel => exact ⟨i + 1, by omega, by go_num, ⟨some ⟨b7, 0, none⟩, c7, rfl⟩, ⟨_, hst.out.row, kfin.out.1, kfin.out.2, ko.out⟩⟩
              case measure => simp [intOf]; omega
        · obtain ⟨k, hk⟩ : ∃ k, p = k + 1 := ⟨p - 1, by omega⟩
          have hki : k < i := by omega
          have hpz : (p : Int) > 0 := by omega
          have hq1 : decide ((p : Int) > 0) = true := by simpa using hpz
          have hq2 : decide (0 < p) = true := by simp; omega
          have hq3 : 0 < p := by omega
          have hp1 : (p : Int) - 1 = (k : Int) := by omega
          have hpw : IntKind.i64.wrap ((p : Int) - 1) = (k : Int) := by
            rw [hp1]
            simp only [IntKind.wrap, IntKind.bits, IntKind.signed]
            simp
            omega
          have hkw : IntKind.i64.wrap (k : Int) = (k : Int) := by
            simp only [IntKind.wrap, IntKind.bits, IntKind.signed]
            simp
            omega
          obtain ⟨b3, hb3⟩ : ∃ b3, a3 = some ⟨b3, 0, none⟩ := by
            rcases hg.out.1.row.form with ⟨-, e0⟩ | ⟨b, cp, e, -, -⟩
            · omega
            · simp only [Value.slice.injEq] at e
              exact ⟨b, e.1⟩
          subst hb3
          have hri : RI w.heap.size wr b3 i c3 f := ⟨hg.out.1.row⟩
          obtain ⟨d1, -⟩ := hri.cell (i := k) hki
          have hfk := hg.out.1.lt hki
          have hfl : f k < L.length := by omega
          have hfl' : (f k : Int) < (L.length : Int) := by omega
          have hki' : (k : Int) < (i : Int) := by omega
          obtain ⟨g, o, rfl, -, c1⟩ := kh.out.old hg.out.1.old (f k) hfl
          obtain ⟨g', o', e, -, c2⟩ := kh.out.old hg.out.1.old i hlt
          simp only [Option.some.injEq, Addr.mk.injEq, and_true] at e
          obtain ⟨rfl, rfl⟩ := e
          rw [← cc_at hfl] at c1
          rw [← cc_at hlt] at c2
          have kp := hid hk
          have kfk := hid hfk
          have kg := hid hg.out
          by_cases hcc : cc L (f k) < cc L i
          · have kn : Hid (∀ q, OI w (wr.drewN q) (.slice (some ⟨b3, 0, none⟩) i c3) L i f ∧ ∀ t, k ≤ t → t < i → Lt L i (f t)) := fun q => ⟨kg.out.1.old1 ((Old.refl wr).drewN q), fun t t1 t2 => by
              by_cases e : t = k
              · rw [e]; exact Or.inl hcc
              · exact kg.out.2 t (by have := kp.out; omega) t2⟩
            generalize cc L (f k) = y1 at *
            generalize cc L i = y2 at *
            generalize f k = x0 at *
            clear hg hri hk kg hfk
            go_upto_region 6 with fail
            go_quiet (fail)
            go_wp2_with fail
            go_roundw
            case rel => exact ⟨k, by omega, by go_num, kn.out _⟩
            case measure => simp [intOf]; omega
          · have kF0 : Hid (∀ q, OI w (wr.drewN q) (.slice (some ⟨b3, 0, none⟩) i c3) L i f ∧ (∀ t, p ≤ t → t < i → Lt L i (f t)) ∧ (∀ t, t < p → Lt L (f t) i)) := fun q => ⟨kg.out.1.old1 ((Old.refl wr).drewN q), kg.out.2, fun t ht => by
              have h1 : Lt L (f k) i := by
                unfold Lt
                have := kfk.out
                omega
              by_cases e : t = k
              · rw [e]; exact h1
              · exact (kg.out.1.srt t k (Nat.zero_le _) (by have := kp.out; omega) hki).trans h1⟩
            generalize cc L (f k) = y1 at *
            generalize cc L i = y2 at *
            generalize f k = x0 at *
            clear hg hri hk kg hfk kp kfk
            go_upto_region 6 with fail
            go_quiet (fail)
            have kF := hid (kF0.out nq)
            clear kF0 hkw hpw hp1
            go_upto_region 8 with fail
            generalize wr.drewN nq = wx at *
            obtain ⟨hOI, hA, hB⟩ := kF.out
            have oA : Old wx (wx.alloc (.cells #[.int .i64 (i : Int)] 3)) := (Old.refl wx).alloc _
            have hN : NumsC .i64 (wx.alloc (.cells #[.int .i64 (i : Int)] 3)) (some ⟨wx.heap.size, 0, none⟩) [(i : Int)] := nums_new
            have hrA : (wx.alloc (.cells #[.int .i64 (i : Int)] 3)).ownsRow w.heap.size 3 1 (.slice (some ⟨b3, 0, none⟩) i c3) (dl i f).length ((dl i f).map (Value.int .i64)) := by rw [dl_len]; exact (hOI.old1 oA).row
            have hB4 : w.heap.size ≤ (wx.alloc (.cells #[.int .i64 (i : Int)] 3)).heap.size := (hOI.old.trans oA).size
            have ko := hid (hOI.old.trans oA)
            have kOI := hid hOI
            have kA := hid hA
            have kB := hid hB
            have hdl : (dl i f).length + [(i : Int)].length ≤ 1000000 := by rw [dl_len]; simp; omega
            clear hOI hA hB oA kF
            go_wp2_with (at_builtin; refine wpAppI (by rfl) _ _ (by rfl) w.heap.size (.slice (some ⟨b3, 0, none⟩) i c3) ⟨wx.heap.size, 0, none⟩ 1 (dl i f) [(i : Int)] (by rfl) (by rfl) hrA hN hdl hB4 ?_)
            intro v7 w7 r7 g7
            have f7 : Frm (fun q => (Value.slice (some ⟨b3, 0, none⟩) i c3).ownBlock = some q) (wx.alloc (.cells #[.int .i64 (i : Int)] 3)) w7 := Frm.grown (Frm.refl _ _) g7 (fun q hq => Or.inr hq)
            have k7 : Hid (Old w w7) := Frm.trans ko.out f7 (fun j hj e => by have := (hrA.lt j e).1; omega)
            have r8 : RV w.heap.size w7 v7 (i + 1) f := by
              unfold RV
              rw [← dl_snoc kOI.out.at]
              simpa [dl_len] using r7
            rcases r8.form with ⟨-, e0⟩ | ⟨b7, c7, rfl, hri, hb7⟩
            · omega
            have kri : Hid (RI w.heap.size w7 b7 (i + 1) c7 (shf i i f)) := by show RI _ _ _ _ _ _; rw [shf_zero]; exact hri
            clear r7 g7 f7 hrA hN hB4 r8 hri ko
            go_wp2_with fail
            go_loopw [6] (fun t wy => ∃ k : Nat, (p ≤ k ∧ k ≤ i) ∧ t = .int .i64 (k : Int) ∧ Hid (RI w.heap.size wy b7 (i + 1) c7 (shf k i f) ∧ Old w wy)) (fun t _ => (intOf t).toNat)
            case atStart => exact ⟨i, ⟨hp, Nat.le_refl _⟩, by go_num, ⟨kri.out, k7.out⟩⟩
            case round =>
              rename_i wy
              clear kri k7
              obtain ⟨k, hk, rfl, hg⟩ := hrel
              by_cases hkp : p < k
              · obtain ⟨k, rfl⟩ : ∃ l, k = l + 1 := ⟨k - 1, by omega⟩
                have hkp' : (k : Int) + 1 > ((p : Nat) : Int) := by omega
                obtain ⟨d1, e1⟩ := hg.out.1.cell (i := k) (by omega)
                obtain ⟨d2, e2⟩ := hg.out.1.cell (i := k + 1) (by omega)
                have hst := hid (hg.out.1.set (k + 1) (shf (k + 1) i f k))
                rw [shf_succ (by omega)] at hst
                have ko := hid (Frm.setCell hg.out.2 ⟨b7, k + 1, none⟩ (Or.inl hb7) (.int .i64 (shf (k + 1) i f k : Int)))
                generalize shf (k + 1) i f k = x1 at *
                generalize shf (k + 1) i f (k + 1) = x2 at *
                have hx1 : (k : Int) < (i : Int) + 1 := by omega
                have hx2 : (k : Int) + 1 < (i : Int) + 1 := by omega
                clear hg
                go_wp2_with fail
                go_roundw
                case rel => exact ⟨k, by omega, by go_num, ⟨hst.out, ko.out⟩⟩
                case measure => simp [intOf]
              · obtain rfl : p = k := by omega
                have hkp' : ¬ ((p : Nat) : Int) > ((p : Nat) : Int) := by omega
                obtain ⟨d1, e1⟩ := hg.out.1.cell (i := p) (by omega)
                have hst := hid (hg.out.1.set p i)
                rw [shf_put kOI.out.at] at hst
                have ko := hid (Frm.setCell hg.out.2 ⟨b7, p, none⟩ (Or.inl hb7) (.int .i64 (i : Int)))
                generalize shf p i f p = x1 at *
                have hx1 : ((p : Nat) : Int) < (i : Int) + 1 := by omega
                have kfin : Hid (Re 0 (i + 1) (fun t => t) (mvL p i f) ∧ Srt L (mvL p i f) 0 (i + 1)) := by
                  refine ⟨(kOI.out.re.mono (Nat.le_refl _) (by omega)).trans ?_, mvL_srt kOI.out.srt ⟨Nat.zero_le _, hp⟩ (fun t _ t2 => ?_) (fun t t1 t2 => ?_)⟩
                  · have := mvL_re (a := 0) (b := i + 1) (m := i) f (by omega) (i - p) (by omega) (by omega)
                    rwa [show i - (i - p) = p by omega] at this
                  · rw [kOI.out.at]; exact kB.out t t2
                  · rw [kOI.out.at]; exact kA.out t t1 t2
                clear hg
                go_wp2_with fail
                go_roundw
                case rel => exact ⟨i + 1, by omega, by go_num, ⟨some ⟨b7, 0, none⟩, c7, rfl⟩, ⟨_, hst.out.row, kfin.out.1, kfin.out.2, ko.out⟩⟩
                case measure => simp [intOf]; omega
    · obtain rfl : i = L.length := by omega
      have hlt' : ¬ (L.length : Int) < (L.length : Int) := by omega
      go_wp2_with fail
      go_ret
      obtain ⟨f, hf⟩ := hg.out
      exact ⟨_, rfl, f, hf⟩
end Go.Proofs.Ytfmeobelpideoaa
