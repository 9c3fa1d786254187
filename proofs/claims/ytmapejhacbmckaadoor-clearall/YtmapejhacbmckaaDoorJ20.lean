/- What a choice is worth, as the statements reckon it: walked. -/
import Derived.Test.YtmapejhacbmckaaDoorJ19
namespace Go.Proofs.YtmapejhacbmckaaDoor
open Go.RowKit Go.Lib Go.Shelf
attribute [local go_sem] Oper.semAt_some

theorem bits_and_u32 (a b : Nat) (ha : a < 4294967296) (hb : b < 4294967296) : bits .and .u32 (a : Int) (b : Int) = ((a &&& b : Nat) : Int) := by
  have hx : a &&& b ≤ a := Nat.and_le_left
  have h1 : (BitVec.ofInt 32 (a : Int)).toNat = a := by
    rw [BitVec.ofInt_natCast, BitVec.toNat_ofNat]; exact Nat.mod_eq_of_lt (by omega)
  have h2 : (BitVec.ofInt 32 (b : Int)).toNat = b := by
    rw [BitVec.ofInt_natCast, BitVec.toNat_ofNat]; exact Nat.mod_eq_of_lt (by omega)
  show IntKind.u32.wrap ((BitVec.ofInt 32 (a : Int) &&& BitVec.ofInt 32 (b : Int)).toNat : Int) = _
  rw [BitVec.toNat_and, h1, h2, wrap_u32']
  omega

/-- The answer. -/
def lwZ (B : Ins) (c : List Int) : Int × Bool := match lawW B 0 c with | some v => (v, true) | none => (0, false)

theorem lawW_len : ∀ {B : Ins} {t : Nat} {c : List Int}, c.length ≠ B.length → lawW B t c = none
  | [], t, [], h => absurd rfl h
  | [], t, _ :: _, _ => rfl
  | l :: R, t, [], _ => rfl
  | l :: R, t, n :: c, h => by
    have h1 : c.length ≠ R.length := by simpa using h
    rw [lawW]
    split
    · rfl
    · split
      · exact lawW_len h1
      · split
        · rfl
        · rw [lawW_len h1]
          rfl

theorem law_step {B : Ins} {c : List Int} {i t : Nat} (hi : i < B.length) (hc : i < c.length) : lawW (B.drop i) t (c.drop i) = if c[i] < -1 ∨ (B[i].length : Int) ≤ c[i] then none else if c[i] < 0 then lawW (B.drop (i + 1)) t (c.drop (i + 1)) else if (B[i].getD c[i].toNat (0, 0)).1 &&& t ≠ 0 then none else (lawW (B.drop (i + 1)) (t ||| (B[i].getD c[i].toNat (0, 0)).1) (c.drop (i + 1))).map (fun v => (B[i].getD c[i].toNat (0, 0)).2 + v) := by
  rw [List.drop_eq_getElem_cons hi, List.drop_eq_getElem_cons hc, lawW]

set_option maxRecDepth 100000 in
set_option maxHeartbeats 8000000 in
theorem lworth_any (gd : Int) (bo co : Option Addr) (cap cc : Nat) (B : Ins) (c : List Int) (w : World) (h : InsC w bo B) (hc : NumsC .i64 w co c) (hl : B.length ≤ 32) (hco : ∀ l ∈ B, ∀ x ∈ l, 0 ≤ x.2 ∧ x.2 ≤ 1099511627776) :
    Calls Tryd.prog 30 #[.agg #[.int .i64 gd, .slice bo B.length cap], .slice co c.length cc] w fun e w' => e = .returned (.tuple #[.int .i64 (lwZ B c).1, .bool (lwZ B c).2]) ∧ Old w w' := by
  have o1 : Old w (w.alloc (.cells #[.int .i64 gd, .slice bo B.length cap] 24)) := (Old.refl w).alloc _
  have c0 := new_cell w #[.int .i64 gd, .slice bo B.length cap] 24 0 _ rfl
  have c1 := new_cell w #[.int .i64 gd, .slice bo B.length cap] 24 1 _ rfl
  have kh := hid (h.old o1)
  have kc := hid (hc.old o1)
  have ko := hid o1
  have kco := hid hco
  clear o1 h hc hco
  by_cases hne : c.length = B.length
  · have hb : ((c.length : Int) != (B.length : Int)) = false := by rw [hne]; simp
    go_enter Tryd.func30, Tryd.ntmps30
    go_wp2_with fail
    simp only [List.getElem_toArray, List.getElem_cons_zero, List.getElem_cons_succ] at c0 c1
    generalize w.alloc (.cells #[.int .i64 gd, .slice bo B.length cap] 24) = w1 at *
    generalize w.heap.size = s at *
    go_loopw [6, 7, 8] (fun t6 t7 t8 wr => ∃ (i : Nat) (z : Int) (t : Nat), i ≤ B.length ∧ t6 = .int .i64 z ∧ t7 = .int .u32 (t : Int) ∧ t8 = .int .i64 (i : Int) ∧ Hid (lawW B 0 c = (lawW (B.drop i) t (c.drop i)).map (fun v => z + v)) ∧ Hid (0 ≤ z ∧ z ≤ (i : Int) * 1099511627776) ∧ t < 4294967296 ∧ Hid (Old w1 wr)) (fun _ _ t8 _ => B.length - (intOf t8).toNat)
    case atStart => exact ⟨0, 0, 0, Nat.zero_le _, rfl, rfl, rfl, hid (by simp), hid (by simp), by decide, hid (Old.refl _)⟩
    case round =>
      obtain ⟨i, z, t, hi, rfl, rfl, rfl, hL, hz, ht, hO⟩ := hrel
      have c1 := hO.out.cell c1
      by_cases hlt : i < B.length
      · have hlc : i < c.length := by omega
        have hlt' : (i : Int) < (c.length : Int) := by omega
        have hlB : (i : Int) < (B.length : Int) := by omega
        obtain ⟨g, o, a0, c9, rfl, ck, hO9, -, hu9⟩ := kh.out.old hO.out i hlt
        obtain ⟨g', o', rfl, cn⟩ := kc.out.old hO.out i hlc
        have hst := hid (law_step (t := t) hlt hlc)
        obtain ⟨l, hl9⟩ : ∃ l, B[i] = l := ⟨_, rfl⟩
        obtain ⟨n, hn9⟩ : ∃ n, c[i] = n := ⟨_, rfl⟩
        have hlm : l ∈ B := by rw [← hl9]; exact List.getElem_mem hlt
        rw [hl9] at ck hO9 hu9 hst
        rw [hn9] at cn hst
        clear hl9 hn9
        by_cases hn1 : n < -1
        · have hz0 : Hid (lwZ B c = (0, false)) := by
            show _ = _
            rw [lwZ, hL.out, hst.out, if_pos (.inl hn1)]
            rfl
          clear hst
          go_wp2_with fail
          go_ret2
          exact ⟨by rw [hz0.out]; rfl, ko.out.trans hO.out⟩
        · have hn1' : decide (n < -1) = false := decide_eq_false hn1
          by_cases hn2 : n ≥ (l.length : Int)
          · have hz0 : Hid (lwZ B c = (0, false)) := by
              show _ = _
              rw [lwZ, hL.out, hst.out, if_pos (.inr hn2)]
              rfl
            have hn2' : decide (n ≥ (l.length : Int)) = true := decide_eq_true hn2
            clear hst
            go_wp2_with fail
            go_ret2
            exact ⟨by rw [hz0.out]; rfl, ko.out.trans hO.out⟩
          · have hn2' : decide (n ≥ (l.length : Int)) = false := decide_eq_false hn2
            by_cases hn3 : n < 0
            · have hL2 : Hid (lawW B 0 c = (lawW (B.drop (i + 1)) t (c.drop (i + 1))).map (fun v => z + v)) := by
                show _ = _
                rw [hL.out, hst.out, if_neg (by omega), if_pos hn3]
              clear hst hL
              go_wp2_with fail
              go_roundw
              case rel => exact ⟨i + 1, z, t, by omega, rfl, rfl, by go_num, hL2, hid ⟨hz.out.1, by have := hz.out.2; omega⟩, ht, hO⟩
              case measure => simp [intOf]; omega
            · obtain ⟨nn, rfl⟩ : ∃ nn : Nat, n = (nn : Int) := ⟨n.toNat, by omega⟩
              have hnl : nn < l.length := by omega
              have hnl' : (nn : Int) < (l.length : Int) := by omega
              obtain ⟨g2, o2, rfl, r0, r1⟩ := hO9 nn hnl
              rw [Int.toNat_natCast] at hst
              have hge : l.getD nn (0, 0) = l[nn] := by rw [List.getD_eq_getElem?_getD, List.getElem?_eq_getElem hnl]; rfl
              rw [hge] at hst
              have hxm : l[nn] ∈ l := List.getElem_mem hnl
              have hxu := hu9 _ hxm
              have hxc := kco.out l hlm _ hxm
              obtain ⟨x, hx⟩ : ∃ x, l[nn] = x := ⟨_, rfl⟩
              rw [hx] at r0 r1 hst hxu hxc
              clear hge hxm hx
              obtain ⟨xg, xc⟩ := x
              dsimp only at r0 r1 hst hxu hxc
              have hand := bits_and_u32 xg t hxu ht
              have hor := bits_or_u32 t xg ht hxu
              have hzz := hz.out
              have hwr : wrap64 (z + xc) = z + xc := wrap_id (by omega)
              have oA : Old _ (_ : World) := (Old.refl wr).alloc (.cells #[.int .u32 (xg : Int), .int .i64 xc] 57)
              have v0 := new_cell wr #[.int .u32 (xg : Int), .int .i64 xc] 57 0 _ rfl
              have v1 := new_cell wr #[.int .u32 (xg : Int), .int .i64 xc] 57 1 _ rfl
              simp only [List.getElem_toArray, List.getElem_cons_zero, List.getElem_cons_succ] at v0 v1
              have kO2 := hid (hO.out.trans oA)
              clear oA
              by_cases ha : xg &&& t ≠ 0
              · have hz0 : Hid (lwZ B c = (0, false)) := by
                  show _ = _
                  rw [lwZ, hL.out, hst.out, if_neg (by omega), if_neg (by omega), if_pos ha]
                  rfl
                have hab : (((xg &&& t : Nat) : Int) != 0) = true := by simpa using ha
                clear hst ha
                go_wp2_with fail
                go_ret2
                exact ⟨by rw [hz0.out]; rfl, ko.out.trans kO2.out⟩
              · have hL2 : Hid (lawW B 0 c = (lawW (B.drop (i + 1)) (t ||| xg) (c.drop (i + 1))).map (fun v => (z + xc) + v)) := by
                  show _ = _
                  rw [hL.out, hst.out, if_neg (by omega), if_neg (by omega), if_neg ha, Option.map_map]
                  congr 1
                  funext v
                  simp only [Function.comp]
                  omega
                have hab : (((xg &&& t : Nat) : Int) != 0) = false := by simpa using ha
                have hto : t ||| xg < 4294967296 := Nat.or_lt_two_pow (n := 32) ht hxu
                clear hst ha hL
                go_wp2_with fail
                go_roundw
                case rel => exact ⟨i + 1, z + xc, t ||| xg, by omega, by go_num, by go_num, by go_num, hL2, hid ⟨by omega, by have := hz.out.2; omega⟩, hto, kO2⟩
                case measure => simp [intOf]; omega
      · obtain rfl : i = B.length := by omega
        have hlt' : ¬ (B.length : Int) < (c.length : Int) := by omega
        have hz0 : Hid (lwZ B c = (z, true)) := by
          show _ = _
          rw [lwZ, hL.out, List.drop_length, ← hne, List.drop_length]
          simp [lawW]
        go_wp2_with fail
        go_ret2
        exact ⟨by rw [hz0.out]; rfl, ko.out.trans hO.out⟩
  · have hb : ((c.length : Int) != (B.length : Int)) = true := by simp; omega
    have kz : Hid (lwZ B c = (0, false)) := by
      show _ = _
      rw [lwZ, lawW_len hne]
    go_enter Tryd.func30, Tryd.ntmps30
    go_wp2_with fail
    go_ret2
    exact ⟨by rw [kz.out]; rfl, ko.out⟩
end Go.Proofs.YtmapejhacbmckaaDoor

/- All: walked up to the function that it answers. -/
namespace Go.Proofs.YtmapejhacbmckaaDoor
open Go.RowKit Go.Lib Go.Shelf
attribute [local go_sem] Oper.semAt_some

/-- goods.Copy, of an instance that may have no lists. -/
theorem copy_any (gd : Int) (bo : Option Addr) (cap : Nat) (B : Ins) (w : World) (hn : bo = none → cap = 0) (h : InsV w bo B) (hl : B.length ≤ 1048576) (hll : ∀ i, i < B.length → (B.getD i []).length ≤ 1048576) :
    Calls Tryd.prog 47 #[.agg #[.int .i64 gd, .slice bo B.length cap]] w fun e w' => ∃ v, e = .returned (.agg #[.int .i64 gd, v]) ∧ NewI w.heap.size w' v B ∧ Old w w' := by
  cases bo with
  | none =>
    obtain ⟨V, hV, hR, -⟩ := h
    have h0 : B = [] := by
      have := hR.nil
      rw [this] at hV
      exact List.eq_nil_of_length_eq_zero hV.symm
    subst h0
    obtain rfl := hn rfl
    refine (copy_nil gd w).mono ?_
    rintro e w' ⟨rfl, o⟩
    exact ⟨_, rfl, Or.inl ⟨rfl, rfl⟩, o⟩
  | some ad =>
    refine (copy_some gd ad cap B w h hl hll).mono ?_
    rintro e w' ⟨v, rfl, hv, o, -⟩
    exact ⟨v, rfl, hv, o⟩

theorem NewI.frm {lo : Nat} {S : Nat → Prop} {w w' : World} {v : Value} {B : Ins} (h : NewI lo w v B) (hf : Frm S w w') (hS : ∀ k, S k → k < lo) : NewI lo w' v B := by
  rcases h with h | ⟨g, V, h1, h2, h3, h4, h5, h6⟩
  · exact Or.inl h
  · refine Or.inr ⟨g, V, h1, h2, ?_, h4, fun i hi => (h5 i hi).frm hf (fun k hk => by have := hS k hk; omega), h6⟩
    rw [hf.block g (blk_lt h3) (fun e => by have := hS g e; omega)]
    exact h3
theorem NewI.low {lo lo' : Nat} {w : World} {v : Value} {B : Ins} (h : NewI lo w v B) (hl : lo' ≤ lo) : NewI lo' w v B := by
  rcases h with h | ⟨g, V, h1, h2, h3⟩
  · exact Or.inl h
  · exact Or.inr ⟨g, V, h1, by omega, h3⟩
theorem NewI.form {lo : Nat} {w : World} {v : Value} {B : Ins} (h : NewI lo w v B) : ∃ a n c, v = .slice a n c := by
  rcases h with ⟨rfl, _⟩ | ⟨g, V, rfl, _⟩
  · exact ⟨_, _, _, rfl⟩
  · exact ⟨_, _, _, rfl⟩

theorem ins_small {gd : Int} {B : Ins} (h : insZ gd B = 0) : B.length ≤ 32 ∧ ∀ i, i < B.length → (B.getD i []).length ≤ 8 := by
  unfold insZ at h
  split at h
  · cases h
  · split at h
    · cases h
    · rename_i h1
      have h2 : B.length ≤ 32 := Nat.le_of_not_lt (fun e => h1 (Or.inl e))
      refine ⟨h2, fun i hi => ?_⟩
      have h3 : ¬ lgB B = true := fun e => h1 (Or.inr e)
      apply Nat.le_of_not_lt
      intro h4
      apply h3
      unfold lgB
      rw [List.any_eq_true]
      refine ⟨B.getD i [], ?_, decide_eq_true h4⟩
      rw [List.getD_eq_getElem?_getD, List.getElem?_eq_getElem hi]
      exact List.getElem_mem hi

theorem NewI.ins {lo : Nat} {w : World} {v : Value} {B : Ins} (h : NewI lo w v B) (hb : ∀ l ∈ B, l.length ≤ 9223372036854775807 ∧ ∀ x ∈ l, x.1 < 4294967296) : ∃ ao c, v = .slice ao B.length c ∧ InsC w ao B ∧ B.length ≤ c := by
  rcases h with ⟨rfl, rfl⟩ | ⟨g, V, rfl, h2, h3, h4, h5, h6⟩
  · exact ⟨none, 0, rfl, fun i (hi : i < 0) => absurd hi (Nat.not_lt_zero i), Nat.le_refl _⟩
  · refine ⟨_, _, rfl, fun i hi => ?_, Nat.le_refl _⟩
    obtain ⟨ao, c, e, hO, -⟩ := (h5 i hi).off
    have hi2 : i < V.length := by omega
    have e2 : V[i] = .slice ao (B.getD i []).length c := by
      rw [← e, List.getD_eq_getElem?_getD, List.getElem?_eq_getElem hi2]
      rfl
    have e9 : B.getD i [] = B[i] := by rw [List.getD_eq_getElem?_getD, List.getElem?_eq_getElem hi]; rfl
    rw [e9] at e2 hO
    exact ⟨g, 0, ao, c, rfl, by rw [Nat.zero_add]; exact blk_cells h3 (by simp [hi2, e2]), hO, (hb _ (List.getElem_mem hi)).1, (hb _ (List.getElem_mem hi)).2⟩


/-- What All answers. -/
def AllP (gd : Int) (B : Ins) (w : World) (e : Ending) (w' : World) : Prop := Old w w' ∧ ((insZ gd B = 0 ∧ ∃ s a v, e = .returned (.func (.func 48) #[] #[.pointer (some ⟨s, 0, none⟩), .pointer (some ⟨a, 0, none⟩)]) ∧ w.heap.size = s ∧ w'.heap[s]? = some (.cells #[.int .i64 gd, v] 24 (0, 0)) ∧ NewI (s + 1) w' v B ∧ w'.heap[a]? = some (.cells #[.int .u32 ((allZ gd).1 : Int)] 45 (0, 0)) ∧ s < a) ∨ (insZ gd B ≠ 0 ∧ e = .returned (.func (.func 46) #[] #[])))

set_option maxRecDepth 100000 in
set_option maxHeartbeats 4000000 in
theorem all_walk (gd : Int) (bo : Option Addr) (cap : Nat) (B : Ins) (w : World) (hn : bo = none → cap = 0) (h : InsC w bo B) (hV : InsV w bo B) (hl : B.length ≤ 9223372036854775807) :
    Calls Tryd.prog 24 #[.agg #[.int .i64 gd, .slice bo B.length cap]] w (AllP gd B w) := by
  have o1 : Old w (w.alloc (.cells #[.int .i64 gd, .slice bo B.length cap] 24)) := (Old.refl w).alloc _
  have b1 := heap_new w (.cells #[.int .i64 gd, .slice bo B.length cap] 24)
  have kI := hid (instance_any gd bo cap B _ (h.old o1) hl)
  have kV := hid hV
  have ko := hid o1
  have kA := hid (fun w => all_any gd w)
  clear o1 h hV
  obtain ⟨s, hs⟩ : ∃ s, w.heap.size = s := ⟨_, rfl⟩
  have kss := hid hs
  rw [hs] at b1
  have c0 := blk_cells (i := 0) b1 rfl
  have c1 := blk_cells (i := 1) b1 rfl
  simp only [List.getElem_toArray, List.getElem_cons_zero, List.getElem_cons_succ] at c0 c1
  go_enter Tryd.func24, Tryd.ntmps24
  go_wp2_with fail
  generalize w.alloc (.cells #[.int .i64 gd, .slice bo B.length cap] 24) = w1 at *
  refine kI.out.mono ?_
  rintro e w2 ⟨rfl, o2⟩
  have ko2 := hid (ko.out.trans o2)
  have kb2 := hid ((o2.block s (blk_lt b1) (fun h => h)).trans b1)
  have c0 := o2.cell c0
  have c1 := o2.cell c1
  by_cases hz : insZ gd B = 0
  · have kz := hid hz
    have hsm := ins_small hz
    rw [hz]
    have kC := hid (copy_any gd bo cap B w2 hn (kV.out.old ko2.out) (by omega) (fun i hi => by have := hsm.2 i hi; omega))
    clear hz o2
    go_wp2_with fail
    refine kC.out.mono ?_
    rintro e w3 ⟨v, rfl, hv, o3⟩
    have ko3 := hid (ko2.out.trans o3)
    have kb3 := hid ((o3.block s (blk_lt kb2.out) (fun h => h)).trans kb2.out)
    have hlo := hid (blk_lt kb2.out)
    have kv := hid hv
    obtain ⟨va, vn, vc, rfl⟩ := hv.form
    have f0 := blk_cells (i := 0) kb3.out rfl
    have f1 := blk_fz kb3.out 0
    have b5 := heap_set (i := 0) (.int .i64 gd) kb3.out
    have f2 := blk_cells (i := 1) b5 rfl
    have f3 := blk_fz b5 1
    have b6 := heap_set (i := 1) (.slice va vn vc) b5
    have f4 := blk_cells (v := .int .i64 gd) (i := 0) b6 rfl
    have f5 := blk_cells (v := .slice va vn vc) (i := 1) b6 rfl
    have kfS : Hid (Frm (fun q => q = s) w3 ((w3.setCell ⟨s, 0, none⟩ (.int .i64 gd)).setCell ⟨s, 1, none⟩ (.slice va vn vc))) := (frm_set w3 s 0 (.int .i64 gd)).trans (frm_set _ s 1 (.slice va vn vc)) (fun _ _ e => e)
    have kb6 := hid b6
    clear o3 kC hv c0 c1
    go_wp2_with fail
    generalize (w3.setCell ⟨s, 0, none⟩ (.int .i64 gd)).setCell ⟨s, 1, none⟩ (.slice va vn vc) = w4 at *
    refine (kA.out _).mono ?_
    rintro e w' ⟨rfl, e9⟩
    rw [e9]
    clear e9 w' f0 f1 f2 f3 f4 f5 b5 b6
    have qA : Old w4 (w4.alloc (.cells #[.int .u32 ((allZ gd).1 : Int)] 45)) := (Old.refl w4).alloc _
    have bA := heap_new w4 (.cells #[.int .u32 ((allZ gd).1 : Int)] 45)
    have kqA := hid qA
    have kbA := hid bA
    clear qA bA
    go_wp2_with fail
    go_ret
    refine ⟨Frm.trans (Frm.trans ko3.out kfS.out (fun i hi e => by have := kss.out; omega)) kqA.out (fun _ _ e => e.elim), Or.inl ⟨kz.out, s, w4.heap.size, .slice va vn vc, rfl, kss.out, (kqA.out.block s (blk_lt kb6.out) (fun h => h)).trans kb6.out, ?_, kbA.out, blk_lt kb6.out⟩⟩
    exact ((kv.out.low (by have := hlo.out; omega)).frm kfS.out (fun k e => by omega)).frm kqA.out (fun k e => e.elim)
  · have hzb : (insZ gd B != 0) = true := by simpa using hz
    have kz := hid hz
    clear hz
    go_wp2_with fail
    go_ret
    exact ⟨ko2.out, Or.inr ⟨kz.out, rfl⟩⟩
end Go.Proofs.YtmapejhacbmckaaDoor

/- All's function: an instance in memory, whatever turns. -/
namespace Go.Proofs.YtmapejhacbmckaaDoor
open Go.RowKit Go.Lib Go.Shelf
attribute [local go_sem] Oper.semAt_some

/-- An instance in memory, whatever turns but T. -/
def InsK (T : Nat → Prop) (w : World) (ao : Option Addr) (B : Ins) : Prop := ∀ i (hi : i < B.length), B[i].length ≤ 9223372036854775807 ∧ (∀ x ∈ B[i], x.1 < 4294967296) ∧ ∃ g, ∃ o : Nat, ∃ a0 c0, ao = some ⟨g, o, none⟩ ∧ ∀ Y, KeptC T w Y → Y.cell? ⟨g, o + i, none⟩ = some (.slice a0 B[i].length c0) ∧ OffC Y a0 B[i]
theorem InsK.ins {T : Nat → Prop} {w Y : World} {ao : Option Addr} {B : Ins} (h : InsK T w ao B) (hY : KeptC T w Y) : InsC Y ao B := fun i hi => by
  obtain ⟨h1, h2, g, o, a0, c0, h3, h4⟩ := h i hi
  exact ⟨g, o, a0, c0, h3, (h4 Y hY).1, (h4 Y hY).2, h1, h2⟩
theorem InsK.next {T : Nat → Prop} {w X : World} {ao : Option Addr} {B : Ins} (h : InsK T w ao B) (hX : KeptC T w X) : InsK T X ao B := fun i hi => by
  obtain ⟨h1, h2, g, o, a0, c0, h3, h4⟩ := h i hi
  exact ⟨h1, h2, g, o, a0, c0, h3, fun Y hY => h4 Y (hX.trans hY)⟩

theorem NewI.insK {lo : Nat} {T : Nat → Prop} {w : World} {v : Value} {B : Ins} (h : NewI lo w v B) (hb : ∀ l ∈ B, l.length ≤ 9223372036854775807 ∧ ∀ x ∈ l, x.1 < 4294967296) (hT : ∀ q, T q → q < lo ∨ w.heap.size ≤ q) : ∃ ao c, v = .slice ao B.length c ∧ InsK T w ao B ∧ B.length ≤ c := by
  rcases h with ⟨rfl, rfl⟩ | ⟨g, V, rfl, h2, h3, h4, h5, h6⟩
  · exact ⟨none, 0, rfl, fun i (hi : i < 0) => absurd hi (Nat.not_lt_zero i), Nat.le_refl _⟩
  · refine ⟨_, _, rfl, fun i hi => ?_, Nat.le_refl _⟩
    have h5 := h5 i hi
    have hi2 : i < V.length := by omega
    have e9 : B.getD i [] = B[i] := by rw [List.getD_eq_getElem?_getD, List.getElem?_eq_getElem hi]; rfl
    have e8 : V.getD i nilS = V[i] := by rw [List.getD_eq_getElem?_getD, List.getElem?_eq_getElem hi2]; rfl
    rw [e9, e8] at h5
    have hg : w.cell? ⟨g, 0 + i, none⟩ = some V[i] := by rw [Nat.zero_add]; exact blk_cells h3 (by simp [hi2])
    have nT : ∀ q, lo ≤ q → q < w.heap.size → ¬ T q := fun q h7 h8 h9 => by have := hT q h9; omega
    have hgT := nT g h2 (blk_lt h3)
    refine ⟨(hb _ (List.getElem_mem hi)).1, (hb _ (List.getElem_mem hi)).2, ?_⟩
    rcases h5 with ⟨f1, f2⟩ | ⟨b, cap, f1, f2, f3, f4, f5, cur, f6, f7⟩
    · refine ⟨g, 0, none, 0, rfl, fun Y hY => ?_⟩
      rw [f2]
      exact ⟨by rw [kept_cell hY hgT hg, f1]; rfl, fun i (hi : i < 0) => absurd hi (Nat.not_lt_zero i)⟩
    · refine ⟨g, 0, some ⟨b, 0, none⟩, cap, rfl, fun Y hY => ⟨by rw [kept_cell hY hgT hg, f1], fun j hj => ?_⟩⟩
      obtain ⟨g', o', r1, r2, r3⟩ := f4.off j hj
      obtain ⟨rfl, rfl⟩ : b = g' ∧ 0 = o' := by simpa using r1
      have hbT := nT b (by omega) (blk_lt f6)
      exact ⟨b, 0, rfl, kept_cell hY hbT r2, kept_cell hY hbT r3⟩

/-- A search in memory, whatever turns. -/
theorem SrK.ofK {B : Ins} {m : Nat} {P : List Int} {sb mb : Nat} {bo : Option Addr} {cap cb cc N : Nat} {T : Nat → Prop} {w X : World} (h : Sr B m P sb mb bo cap cb cc w) (o : Old w X) (hI : InsK T w bo B) (hT : ∀ q, T q → q < N) (h1 : N ≤ sb) (h2 : N ≤ cb) : SrK B m P sb mb bo cap cb cc T X := by
  have kX : KeptC T w X := KeptC.of_frm (Frm.mono o (fun _ _ h => h.elim))
  have hc : ∀ Y, KeptC T X Y → ∀ p v, N ≤ p.block → w.cell? p = some v → Y.cell? p = some v := fun Y hY p v hp hv => kept_cell hY (fun e => by
    have := hT _ e
    omega) (o.cell hv)
  refine ⟨fun Y hY => ⟨hc Y hY _ _ h1 h.c0, hc Y hY _ _ h1 h.c1, hc Y hY _ _ h1 h.c2, fun i hi => hc Y hY _ _ h1 (h.gn i hi), fun f hf => hc Y hY _ _ h2 (h.co f hf), (hI.next kX).ins hY⟩, fun i hi => ?_⟩
  obtain ⟨-, -, g, o', a0, c0, e1, e2⟩ := hI i hi
  exact ⟨g, o', a0, c0, e1, fun Y hY => e2 Y (kX.trans hY)⟩
end Go.Proofs.YtmapejhacbmckaaDoor

/- What is known of an instance that may be: its best choices by the statement's own worth. -/
namespace Go.Proofs.YtmapejhacbmckaaDoor
open Go.RowKit Go.Lib Go.Shelf

/-- The facts. -/
structure Tops (gd : Int) (B : Ins) : Prop where
  m : ∃ m : Nat, gd = m ∧ 1 ≤ m ∧ m ≤ 10 ∧ (allZ gd).1 = 2 ^ m - 1
  len : B.length ≤ 32
  eight : ∀ l ∈ B, l.length ≤ 8
  coins : ∀ l ∈ B, ∀ x ∈ l, 0 ≤ x.2 ∧ x.2 ≤ 1099511627776
  ck : ckZ gd B 0 (allZ gd).1 = 0
  fr : frZ gd B 0 (allZ gd).1 = best B (allZ gd).1
  pt : ∃ T, allC B (allZ gd).1 = ptC gd B 0 (allZ gd).1 :: T
  law : ∀ c, lawW B 0 c = chV B (allZ gd).1 c
  told : toldC B 0 (allZ gd).1 = allC B (allZ gd).1

theorem told_zero (B : Ins) (f : Nat) : toldC B 0 f = allC B f := by
  unfold toldC
  simp

theorem tops_of {gd : Int} {B : Ins} (hz : insZ gd B = 0) (hlt : ∀ l ∈ B, ∀ x ∈ l, x.1 < 4294967296) : Tops gd B := by
  have hg := ins_gd hz
  obtain ⟨m, rfl⟩ : ∃ m : Nat, gd = (m : Int) := ⟨gd.toNat, by omega⟩
  have ok := okB_of (P := []) hz rfl hlt (fun v hv => by cases hv)
  have ha : (allZ (m : Int)).1 = 2 ^ m - 1 := by unfold allZ; rw [if_pos (by omega), Int.toNat_natCast]
  have hal := all_lt (m : Int)
  have hp : 0 < 2 ^ m := Nat.pow_pos (by decide)
  have hck : ckZ (m : Int) B 0 (allZ (m : Int)).1 = 0 := by
    unfold ckZ
    rw [if_neg (by simp [hz])]
    unfold ptB
    rw [if_pos]
    simp only [Bool.and_eq_true, decide_eq_true_eq]
    refine ⟨by omega, by omega, ?_⟩
    exact (subB_iff hal).2 (fun i h => h)
  refine ⟨⟨m, rfl, by omega, by omega, ha⟩, ok.len, ok.eight, fun l hl x hx => ?_, hck, ?_, ?_, fun c => ?_, told_zero _ _⟩
  · exact ⟨by have := (ok.off l hl x hx).2.2.1; omega, (ok.off l hl x hx).2.2.2⟩
  · unfold frZ
    rw [if_pos hck]
    rfl
  · have h1 := allC_some B (allZ (m : Int)).1
    unfold ptC
    rw [if_pos hck]
    show ∃ T, allC B (allZ (m : Int)).1 = (toldC B 0 (allZ (m : Int)).1).headD [] :: T
    rw [told_zero]
    cases he : allC B (allZ (m : Int)).1 with
    | nil => exact absurd he h1
    | cons c T => exact ⟨T, rfl⟩
  · rw [law_chV hal (by rw [ha]; exact ok.off), less_zero hal]

theorem Tops.all {gd : Int} {B : Ins} (h : Tops gd B) {d : List Int} (hd : d ∈ allC B (allZ gd).1) : lwZ B d = (best B (allZ gd).1, true) := by
  unfold lwZ
  rw [h.law, all_chV hd]
theorem Tops.head {gd : Int} {B : Ins} (h : Tops gd B) : ptC gd B 0 (allZ gd).1 ∈ allC B (allZ gd).1 := by
  obtain ⟨T, e⟩ := h.pt
  rw [e]
  simp
theorem Tops.any {gd : Int} {B : Ins} (h : Tops gd B) {c : List Int} (hc : (lwZ B c).2 = true) : (lwZ B c).1 ≤ best B (allZ gd).1 ∧ ((lwZ B c).1 = best B (allZ gd).1 → cmpL (ptC gd B 0 (allZ gd).1) c ≤ 0) := by
  unfold lwZ at hc ⊢
  rw [h.law] at hc ⊢
  cases he : chV B (allZ gd).1 c with
  | none => rw [he] at hc; cases hc
  | some v =>
    refine ⟨chV_le he, fun e => ?_⟩
    obtain ⟨T, e1⟩ := h.pt
    have e : v = best B (allZ gd).1 := e
    rw [e] at he
    exact allC_head (fun l hl => by have := h.eight l hl; omega) e1 (chV_all he)
end Go.Proofs.YtmapejhacbmckaaDoor
