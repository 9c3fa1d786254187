/- The winners of a choice, as a function over which one ranges: walked. -/
import Derived.Test.YtidocjgcckcooaaDoorJ19
import Derived.Test.YtidocjgcckcooaaDoorJ15
namespace Go.Proofs.YtidocjgcckcooaaDoor
open Go.RowKit Go.Lib Go.Shelf
attribute [local go_sem] Oper.semAt_some

def encW (x : Nat × Int) : Array Value := #[.int .i64 (x.1 : Int), .int .i64 x.2]

set_option maxRecDepth 100000 in
theorem winners_any (ao : Option Addr) (n cap : Nat) (w : World) : Calls Tryd.prog 48 #[.slice ao n cap] w fun e w' => e = .returned (.func (.func 81) #[] #[.pointer (some ⟨w.heap.size, 0, none⟩)]) ∧ w' = w.alloc (.cells #[.slice ao n cap] 28) := by
  go_enter Tryd.func48, Tryd.ntmps48
  go_wp2
  go_ret
  exact ⟨rfl, rfl⟩

set_option maxRecDepth 100000 in
set_option maxHeartbeats 4000000 in
theorem winners1_Q (d : Nat) (hd : 1 ≤ d) (xb cap : Nat) (ao : Option Addr) (c : List Int) (hn : c.length ≤ 1000000) (T : Nat → Prop) (w : World)
    (hC : ∀ Y, KeptC T w Y → Y.cell? ⟨xb, 0, none⟩ = some (.slice ao c.length cap) ∧ NumsC .i64 Y ao c) :
    SeqQ Tryd.prog d 81 #[.pointer (some ⟨xb, 0, none⟩)] encW (KeptC T) (fun q => ∃ r, wn c 0 = q ++ r) (fun q => q = wn c 0) (fun q => ∃ r, wn c 0 = q ++ r) w := by
  intro lp J Jx W hbe _ _ hY h0
  have kt0 : KeptC T w W := KeptC.of_frm (Frm.mono (Old.of_below hbe) (fun _ _ h => h.elim))
  obtain ⟨c0, -⟩ := hC W kt0
  have khY := hid hY
  have kh0 := hid h0
  have khC := hid hC
  have kkt := hid kt0
  clear hY h0 hC kt0 hbe
  refine callsIn_of_wp Tryd.func81 rfl trivial ?_ rfl
  simp only [Tryd.ntmps81, List.size_toArray, List.length_cons, List.length_nil, Nat.reduceAdd, Nat.reduceSub, Array.replicate_succ, Array.replicate_zero, List.push_toArray, List.append_toArray, List.nil_append, List.cons_append]
  gi_wp2_with fail
  clear c0
  gi_loopw [7] (fun v wr => ∃ (i : Nat) (p : List (Nat × Int)), i ≤ c.length ∧ v = .int .i64 (i : Int) ∧ Hid (J p wr ∧ wn c 0 = p ++ wn (c.drop i) i ∧ KeptC T w wr)) (fun v _ => c.length - (intOf v).toNat)
  case atStart => exact ⟨0, [], Nat.zero_le _, rfl, hid ⟨kh0.out, rfl, kkt.out⟩⟩
  case round =>
    clear kh0 kkt
    obtain ⟨i, p, hi, rfl, hD⟩ := hrel
    by_cases hlt : i < c.length
    · have hin : (i : Int) < (c.length : Int) := by omega
      obtain ⟨c0, hr⟩ := khC.out wr hD.out.2.2
      obtain ⟨g, o, rfl, c1⟩ := hr i hlt
      have hst := hid (wn_step hlt)
      clear hr c0
      generalize c[i] = x at *
      by_cases hx : 0 ≤ x
      · have hall : Hid (wn c 0 = (p ++ [(i, x)]) ++ wn (c.drop (i + 1)) (i + 1)) := by
          show _ = _
          rw [hD.out.2.1, hst.out, if_pos hx, List.append_assoc]
          rfl
        obtain ⟨fn, tmps, asn, bdy, hy, hR⟩ := khY.out p (i, x) _ hD.out.1 ⟨_, hall.out⟩
        dsimp only [encW] at hy
        have hge : x ≥ 0 := hx
        have hge' : decide (x ≥ 0) = true := decide_eq_true hge
        gi_wp2_with fail
        refine (round_wide hR).mono ?_
        rintro e w7 ⟨-, (⟨rfl, hJ7, hp7⟩ | ⟨rfl, hJx7⟩)⟩
        · have hD7 : Hid (J (p ++ [(i, x)]) w7 ∧ wn c 0 = (p ++ [(i, x)]) ++ wn (c.drop (i + 1)) (i + 1) ∧ KeptC T w w7) := hid ⟨hJ7, hall.out, hD.out.2.2.trans hp7⟩
          clear hy hR hD hJ7 hp7 hall c1
          gi_wp2_with fail
          go_roundw
          case rel => exact ⟨i + 1, _, by omega, by go_num, hD7⟩
          case measure => simp [intOf]; omega
        · clear hy hR hD c1
          gi_wp2_with fail
          refine bodyPost_ret (results_none rfl _ _ _) rfl ?_
          exact ⟨⟨_, rfl⟩, .inr ⟨_, ⟨_, hall.out⟩, hJx7⟩⟩
      · have hD7 : Hid (J p wr ∧ wn c 0 = p ++ wn (c.drop (i + 1)) (i + 1) ∧ KeptC T w wr) := hid ⟨hD.out.1, by rw [hD.out.2.1, hst.out, if_neg hx], hD.out.2.2⟩
        have hge : ¬ x ≥ 0 := hx
        have hge' : decide (x ≥ 0) = false := decide_eq_false hge
        clear hD
        gi_wp2_with fail
        all_goals (first | (rename_i h8 h9; simp [undef] at h8; done) | skip)
        refine ⟨fun _ h => (by cases h), ?_⟩
        gi_wp2_with fail
        go_roundw
        case rel => exact ⟨i + 1, _, by omega, by go_num, hD7⟩
        case measure => simp [intOf]; omega
    · have hin : ¬ (i : Int) < (c.length : Int) := by omega
      have e : p = wn c 0 := by rw [hD.out.2.1, wn_end (by omega)]; simp
      have kJ : Hid (J (wn c 0) wr) := by show J (wn c 0) wr; rw [← e]; exact hD.out.1
      clear e
      gi_wp2_with fail
      go_end0
      exact ⟨⟨_, rfl⟩, .inl (by first | exact kJ.out | exact ⟨_, rfl, kJ.out⟩)⟩
end Go.Proofs.YtidocjgcckcooaaDoor

/- W without a buyer: walked. -/
namespace Go.Proofs.YtidocjgcckcooaaDoor
open Go.RowKit Go.Lib Go.Shelf
attribute [local go_sem] Oper.semAt_some

set_option maxRecDepth 100000 in
set_option maxHeartbeats 4000000 in
theorem vwithout_any (gd : Int) (bo : Option Addr) (cap : Nat) (B : Ins) (k : Int) (w : World) (h : InsC w bo B) (hV : InsV w bo B) (hl : B.length ≤ 9223372036854775807) (hT : Tabs w) :
    Calls Tryd.prog 17 #[.agg #[.int .i64 gd, .slice bo B.length cap], .int .i64 k] w fun e w' => e = .returned (.tuple #[.int .i64 (woW gd B k), .int .i64 (woE gd B k)]) ∧ Old w w' := by
  have o1 : Old w (w.alloc (.cells #[.int .i64 gd, .slice bo B.length cap] 24)) := (Old.refl w).alloc _
  have b1 := heap_new w (.cells #[.int .i64 gd, .slice bo B.length cap] 24)
  have ko := hid o1
  have kW := hid (fun V (o : Old w V) => owithout_any gd bo cap B k V (h.old o) (hV.old o) hl)
  have kT := hid hT
  have c0 := blk_cells (i := 0) b1 rfl
  have c1 := blk_cells (i := 1) b1 rfl
  simp only [List.getElem_toArray, List.getElem_cons_zero, List.getElem_cons_succ] at c0 c1
  clear h hV o1 hT b1
  go_enter Tryd.func17, Tryd.ntmps17
  go_wp2_with fail
  refine (kW.out _ ko.out).mono ?_
  rintro e w1 ⟨o1, hcase⟩
  have ko1 := hid (ko.out.trans o1)
  clear c0 c1 kW
  rcases hcase with ⟨hw, rfl⟩ | ⟨hw, g, rfl, hg, hI⟩
  · have hwb : (wiE gd B k != 0) = true := by simpa using hw
    have k1 : Hid (woE gd B k = wiE gd B k) := if_pos hw
    have k2 : Hid (woW gd B k = 0) := if_pos hw
    clear hw
    generalize wiE gd B k = z at *
    go_wp2_with fail
    go_ret2
    exact ⟨by rw [k1.out, k2.out]; rfl, ko1.out.alloc _⟩
  · have k1 : Hid (woE gd B k = ckZ gd (woB B k) 0 (allZ gd).1) := if_neg (by simp [hw])
    have k2 : Hid (woW gd B k = frZ gd (woB B k) 0 (allZ gd).1) := if_neg (by simp [hw])
    have hBl : (woB B k).length = B.length := List.length_set
    have o2 : Old w1 (w1.alloc (.cells #[.int .i64 gd, .slice (some ⟨g, 0, none⟩) B.length B.length] 24)) := (Old.refl w1).alloc _
    have d0 := new_cell w1 #[.int .i64 gd, .slice (some ⟨g, 0, none⟩) B.length B.length] 24 0 _ rfl
    have d1 := new_cell w1 #[.int .i64 gd, .slice (some ⟨g, 0, none⟩) B.length B.length] 24 1 _ rfl
    simp only [List.getElem_toArray, List.getElem_cons_zero, List.getElem_cons_succ] at d0 d1
    have ko2 := hid (ko1.out.trans o2)
    have kBe := hid (w_any gd (some ⟨g, 0, none⟩) B.length (woB B k) (w1.alloc (.cells #[.int .i64 gd, .slice (some ⟨g, 0, none⟩) B.length B.length] 24)) (hI _ (Frm.mono o2 (fun _ _ h => h.elim))) (by rw [hBl]; exact Nat.le_refl _) (by rw [hBl]; exact hl) (kT.out.old ko2.out))
    rw [hBl] at kBe
    clear hw hI hg o2 hBl
    go_wp2_with fail
    generalize w1.alloc (.cells #[.int .i64 gd, .slice (some ⟨g, 0, none⟩) B.length B.length] 24) = w2 at *
    refine kBe.out.mono ?_
    rintro e w3 ⟨rfl, o3⟩
    clear d0 d1 kBe
    have ko3 := hid (ko2.out.trans o3)
    generalize frZ gd (woB B k) 0 (allZ gd).1 = z at *
    generalize ckZ gd (woB B k) 0 (allZ gd).1 = y at *
    clear o3
    go_wp2_with fail
    go_ret2
    exact ⟨by rw [k1.out, k2.out]; rfl, ko3.out⟩

set_option maxRecDepth 100000 in
theorem wo1_any (xb : Nat) (gd : Int) (bo : Option Addr) (cap : Nat) (B : Ins) (k : Int) (w : World) (hx0 : w.cell? ⟨xb, 0, none⟩ = some (.int .i64 gd)) (hx1 : w.cell? ⟨xb, 1, none⟩ = some (.slice bo B.length cap)) (h : InsC w bo B) (hV : InsV w bo B) (hl : B.length ≤ 9223372036854775807) (hT : Tabs w) :
    Calls Tryd.prog 47 #[.int .i64 k, .pointer (some ⟨xb, 0, none⟩)] w fun e w' => e = .returned (.int .i64 (woW gd B k)) ∧ Old w w' := by
  have kW := hid (vwithout_any gd bo cap B k w h hV hl hT)
  clear h hV hT
  go_enter Tryd.func47, Tryd.ntmps47
  go_wp2_with fail
  refine kW.out.mono ?_
  rintro e w1 ⟨rfl, o1⟩
  clear hx0 hx1 kW
  go_wp2_with fail
  go_ret
  exact ⟨rfl, o1⟩

end Go.Proofs.YtidocjgcckcooaaDoor

/- How the greatest worth turns with the offers: in plain words. -/
namespace Go.Proofs.YtidocjgcckcooaaDoor
open Go.RowKit Go.Lib Go.Shelf

theorem ins_small {gd : Int} {B : Ins} (h : insZ gd B = 0) : B.length ≤ 32 ∧ ∀ i, i < B.length → (B.getD i []).length ≤ 8 := by
  unfold insZ at h
  split at h
  · cases h
  · split at h
    · cases h
    · rename_i h1
      have h2 : B.length ≤ 32 := Nat.le_of_not_lt (fun e => h1 (Or.inl e))
      refine ⟨h2, fun i hi => ?_⟩
      have h3 : ¬ lgB B = true := fun e => h1 (Or.inr e)
      apply Nat.le_of_not_lt
      intro h4
      apply h3
      unfold lgB
      rw [List.any_eq_true]
      refine ⟨B.getD i [], ?_, decide_eq_true h4⟩
      rw [List.getD_eq_getElem?_getD, List.getElem?_eq_getElem hi]
      exact List.getElem_mem hi

/-- All that is offered there is offered here. -/
def SubI : Ins → Ins → Prop
  | [], [] => True
  | l :: R, l' :: R' => (∀ x ∈ l, x ∈ l') ∧ SubI R R'
  | _, _ => False

theorem best_has1 {l : List Off} {R : Ins} {f : Nat} {x : Off} (hx : x ∈ l) (hs : subB x.1 f = true) : x.2 + best R (less f x.1) ≤ best (l :: R) f := by
  obtain ⟨j, hj, rfl⟩ := List.getElem_of_mem hx
  rw [best_cons]
  refine topL_mem ?_
  rw [List.mem_map]
  exact ⟨_, opts_has hj hs, rfl⟩
theorem best_none1 (l : List Off) (R : Ins) (f : Nat) : best R f ≤ best (l :: R) f := by
  rw [best_cons]
  have h : (0 : Int) + best R f ≤ topL 0 ((opts l f).map (fun o => o.2.1 + best R o.2.2)) := by
    refine topL_mem ?_
    rw [List.mem_map]
    exact ⟨_, opts_none l f, rfl⟩
  omega
theorem best_upto {l : List Off} {R : Ins} {f : Nat} {M : Int} (h0 : best R f ≤ M) (h : ∀ x ∈ l, subB x.1 f = true → x.2 + best R (less f x.1) ≤ M) : best (l :: R) f ≤ M := by
  rw [best_cons]
  have hp := best_pos R f
  refine topL_le (by omega) (fun v hv => ?_)
  rw [List.mem_map] at hv
  obtain ⟨o, ho, rfl⟩ := hv
  rcases opts_mem ho with rfl | ⟨j, hj, rfl, hs⟩
  · dsimp only; omega
  · exact h _ (List.getElem_mem hj) hs

theorem best_mono : ∀ {B B' : Ins} {f : Nat}, SubI B B' → best B f ≤ best B' f
  | [], [], f, _ => Int.le_refl _
  | l :: R, l' :: R', f, h => best_upto (Int.le_trans (best_mono h.2) (best_none1 l' R' f)) (fun x hx hs => by
      have h1 := best_mono (f := less f x.1) h.2
      have h2 := best_has1 (R := R') (h.1 x hx) hs
      omega)

theorem best_drop : ∀ (k : Nat) (B : Ins) (f : Nat), best (B.drop k) f ≤ best B f
  | 0, B, f => Int.le_refl _
  | k + 1, [], f => Int.le_refl _
  | k + 1, l :: R, f => by
    have h1 := best_drop k R f
    have h2 := best_none1 l R f
    exact Int.le_trans h1 h2

theorem less_sub2 {a b g : Nat} (ha : a < 4294967296) (hb : b < 4294967296) (h : Sub a b) : Sub (less a g) (less b g) := fun i hi => by
  rw [less_bit _ _ ha] at hi
  rw [less_bit _ _ hb]
  simp only [Bool.and_eq_true] at hi ⊢
  exact ⟨h i hi.1, hi.2⟩

theorem best_free : ∀ {B : Ins} {f' f : Nat}, (∀ l ∈ B, ∀ x ∈ l, x.1 < 4294967296) → f' < 4294967296 → f < 4294967296 → Sub f' f → best B f' ≤ best B f
  | [], f', f, _, _, _, _ => Int.le_refl _
  | l :: R, f', f, hB, h1, h2, hs => best_upto (Int.le_trans (best_free (fun l hl => hB l (by simp [hl])) h1 h2 hs) (best_none1 l R f)) (fun x hx hx2 => by
      have hxl := hB l (by simp) x hx
      have h3 : subB x.1 f = true := (subB_iff hxl).2 (fun i hi => hs i ((subB_iff hxl).1 hx2 i hi))
      have h4 := best_free (B := R) (fun l hl => hB l (by simp [hl])) (less_lt f' x.1) (less_lt f x.1) (less_sub2 h1 h2 hs)
      have h5 := best_has1 (R := R) hx h3
      omega)

theorem best_without : ∀ {B : Ins} {k f : Nat} {M : Int}, (∀ l ∈ B, ∀ x ∈ l, x.1 < 4294967296) → f < 4294967296 → 0 ≤ M → (∀ x ∈ B.getD k [], x.2 ≤ M) → best B f ≤ best (B.set k []) f + M
  | [], k, f, M, _, _, hM, _ => by
    simp [best_nil]
    exact hM
  | l :: R, 0, f, M, hB, hf, hM, hx => by
    show best (l :: R) f ≤ best ([] :: R) f + M
    have h0 := best_none1 [] R f
    refine best_upto (by omega) (fun x hx1 hs => ?_)
    have h1 := hx x (by simpa using hx1)
    have h2 := best_free (B := R) (f' := less f x.1) (f := f) (fun l hl => hB l (by simp [hl])) (less_lt f x.1) hf (fun i hi => by
      rw [less_bit _ _ hf] at hi
      simp only [Bool.and_eq_true] at hi
      exact hi.1)
    omega
  | l :: R, k + 1, f, M, hB, hf, hM, hx => by
    show best (l :: R) f ≤ best (l :: R.set k []) f + M
    have hB' : ∀ l ∈ R, ∀ x ∈ l, x.1 < 4294967296 := fun l hl => hB l (by simp [hl])
    have hx' : ∀ x ∈ R.getD k [], x.2 ≤ M := fun x h => hx x (by simpa using h)
    have h0 := best_none1 l (R.set k []) f
    have h1 := best_without (k := k) hB' hf hM hx'
    refine best_upto (by omega) (fun x hx1 hs => ?_)
    have h2 := best_without (k := k) hB' (less_lt f x.1) hM hx'
    have h3 := best_has1 (R := R.set k []) hx1 hs
    omega

theorem best_swap {a b : List Off} {R : Ins} {f : Nat} (ha : ∀ x ∈ a, x.1 < 4294967296) (hb : ∀ x ∈ b, x.1 < 4294967296) (hf : f < 4294967296) : best (a :: b :: R) f ≤ best (b :: a :: R) f := by
  have hlow : ∀ {l : List Off}, best (l :: R) f ≤ best (b :: l :: R) f := fun {l} => best_none1 b _ f
  refine best_upto (best_upto (Int.le_trans (best_none1 a R f) (best_none1 b _ f)) (fun y hy hs => ?_)) (fun x hx hs => ?_)
  · have h1 := best_has1 (R := a :: R) hy hs
    have h2 := best_none1 a R (less f y.1)
    omega
  · have hxl := ha x hx
    have hxs := (subB_iff hxl).1 hs
    have key : best (b :: R) (less f x.1) ≤ best (b :: a :: R) f - x.2 := by
      refine best_upto ?_ (fun y hy hs2 => ?_)
      · have h1 := best_has1 (R := R) hx hs
        have h2 := best_none1 b (a :: R) f
        omega
      · have hyl := hb y hy
        have hys := (subB_iff hyl).1 hs2
        have hyf : subB y.1 f = true := (subB_iff hyl).2 (fun i hi => by
          have := hys i hi
          rw [less_bit _ _ hf] at this
          simp only [Bool.and_eq_true] at this
          exact this.1)
        have hxf : subB x.1 (less f y.1) = true := (subB_iff hxl).2 (fun i hi => by
          rw [less_bit _ _ hf, hxs i hi]
          cases hy2 : y.1.testBit i with
          | false => rfl
          | true =>
            have := hys i hy2
            rw [less_bit _ _ hf, hi] at this
            simp at this)
        have h1 := best_has1 (R := a :: R) hy hyf
        have h2 := best_has1 (R := R) hx hxf
        have h3 : less (less f y.1) x.1 = less (less f x.1) y.1 := eq_of_bits (fun i => by
          rw [less_bit _ _ (less_lt _ _), less_bit _ _ hf, less_bit _ _ (less_lt _ _), less_bit _ _ hf]
          cases f.testBit i <;> cases x.1.testBit i <;> cases y.1.testBit i <;> rfl)
        rw [h3] at h2
        omega
    omega

theorem best_perm {B B' : Ins} (h : B.Perm B') : (∀ l ∈ B, ∀ x ∈ l, x.1 < 4294967296) → ∀ f, f < 4294967296 → best B f = best B' f := by
  induction h with
  | nil => exact fun _ _ _ => rfl
  | cons l h ih =>
    intro hB f hf
    have h1 := ih (fun l hl => hB l (by simp [hl]))
    rw [best_cons, best_cons]
    congr 1
    refine List.map_congr_left (fun o ho => ?_)
    rcases opts_mem ho with rfl | ⟨j, hj, rfl, -⟩
    · dsimp only; rw [h1 f hf]
    · dsimp only; rw [h1 _ (less_lt _ _)]
  | swap a b R =>
    intro hB f hf
    have ha := hB a (by simp)
    have hb := hB b (by simp)
    have h1 := best_swap (R := R) ha hb hf
    have h2 := best_swap (R := R) hb ha hf
    omega
  | trans h1 h2 ih1 ih2 =>
    intro hB f hf
    rw [ih1 hB f hf, ih2 (fun l hl => hB l (h1.mem_iff.2 hl)) f hf]

theorem subI_self : ∀ B : Ins, SubI B B
  | [] => trivial
  | _ :: R => ⟨fun _ h => h, subI_self R⟩
theorem subI_rev : ∀ B : Ins, SubI B (B.map List.reverse)
  | [] => trivial
  | _ :: R => ⟨fun x h => (by simpa using h), subI_rev R⟩
theorem subI_rev' : ∀ B : Ins, SubI (B.map List.reverse) B
  | [] => trivial
  | _ :: R => ⟨fun x h => (by simpa using h), subI_rev' R⟩
theorem subI_set : ∀ (B : Ins) (k : Nat), SubI (B.set k []) B
  | [], k => trivial
  | _ :: R, 0 => ⟨fun x h => (by cases h), subI_self R⟩
  | _ :: R, k + 1 => ⟨fun x h => h, subI_set R k⟩

/-- Buyers and their offers the other way round. -/
def turnI (B : Ins) : Ins := (B.map List.reverse).reverse
theorem turn_best {B : Ins} {f : Nat} (hB : ∀ l ∈ B, ∀ x ∈ l, x.1 < 4294967296) (hf : f < 4294967296) : best (turnI B) f = best B f := by
  unfold turnI
  have h1 : ∀ l ∈ B.map List.reverse, ∀ x ∈ l, x.1 < 4294967296 := fun l hl x hx => by
    rw [List.mem_map] at hl
    obtain ⟨l', hl', rfl⟩ := hl
    exact hB l' hl' x (by simpa using hx)
  rw [← best_perm (List.reverse_perm _).symm h1 f hf]
  have h2 := best_mono (f := f) (subI_rev B)
  have h3 := best_mono (f := f) (subI_rev' B)
  omega

/-- One offer more. -/
def moreI (B : Ins) (k : Nat) (o : Off) : Ins := B.set k (B.getD k [] ++ [o])
theorem subI_more : ∀ (B : Ins) (k : Nat) (o : Off), SubI B (moreI B k o)
  | [], k, o => trivial
  | _ :: R, 0, o => ⟨fun x h => (by simp [h]), subI_self R⟩
  | _ :: R, k + 1, o => ⟨fun x h => h, subI_more R k o⟩

theorem chk_none {all : Nat} : ∀ {l : List Off} {i : Nat}, chkO all l i = none ↔ ∀ x ∈ l, okB all x = true
  | [], i => by simp [chkO]
  | x :: l, i => by
    unfold chkO
    by_cases h : okB all x = true
    · rw [if_pos h, chk_none]
      simp [h]
    · rw [if_neg h]
      simp [h]

theorem ins_all {gd : Int} {B : Ins} (hz : insZ gd B = 0) : 1 ≤ gd ∧ gd ≤ 10 ∧ B.length ≤ 32 ∧ (∀ l ∈ B, l.length ≤ 8) ∧ ∀ l ∈ B, ∀ x ∈ l, okB (2 ^ gd.toNat - 1) x = true := by
  have hg := ins_gd hz
  have hsm := ins_small hz
  have hlg : lgB B = false := by
    unfold lgB
    rw [List.any_eq_false]
    intro l hl
    obtain ⟨i, hi, rfl⟩ := List.getElem_of_mem hl
    have := hsm.2 i hi
    rw [List.getD_eq_getElem?_getD, List.getElem?_eq_getElem hi] at this
    simpa using this
  have hr := ins_rest hg hsm.1 hlg
  rw [hz] at hr
  refine ⟨hg.1, hg.2, hsm.1, lgB_false hlg, fun l hl => ?_⟩
  split at hr
  · rename_i h
    exact chk_none.1 (h l hl)
  · cases hr
theorem ins_of {gd : Int} {B : Ins} (h1 : 1 ≤ gd ∧ gd ≤ 10) (h2 : B.length ≤ 32) (h3 : ∀ l ∈ B, l.length ≤ 8) (h4 : ∀ l ∈ B, ∀ x ∈ l, okB (2 ^ gd.toNat - 1) x = true) : insZ gd B = 0 := by
  have hlg : lgB B = false := by
    unfold lgB
    rw [List.any_eq_false]
    intro l hl
    have := h3 l hl
    simp
    omega
  rw [ins_rest h1 h2 hlg, if_pos (fun l hl => chk_none.2 (h4 l hl))]
theorem turn_ins {gd : Int} {B : Ins} (hz : insZ gd B = 0) : insZ gd (turnI B) = 0 := by
  obtain ⟨h1, h2, h3, h4, h5⟩ := ins_all hz
  refine ins_of ⟨h1, h2⟩ (by unfold turnI; simpa using h3) (fun l hl => ?_) (fun l hl => ?_)
  · unfold turnI at hl
    simp only [List.mem_reverse, List.mem_map] at hl
    obtain ⟨l', hl', rfl⟩ := hl
    simpa using h4 l' hl'
  · unfold turnI at hl
    simp only [List.mem_reverse, List.mem_map] at hl
    obtain ⟨l', hl', rfl⟩ := hl
    exact fun x hx => h5 l' hl' x (by simpa using hx)
theorem wo_ins {gd : Int} {B : Ins} {k : Nat} (hz : insZ gd B = 0) : insZ gd (B.set k []) = 0 := by
  obtain ⟨h1, h2, h3, h4, h5⟩ := ins_all hz
  refine ins_of ⟨h1, h2⟩ (by simpa using h3) (fun l hl => ?_) (fun l hl => ?_)
  · rcases List.mem_or_eq_of_mem_set hl with h | rfl
    · exact h4 l h
    · simp
  · rcases List.mem_or_eq_of_mem_set hl with h | rfl
    · exact h5 l h
    · exact fun x hx => by cases hx
end Go.Proofs.YtidocjgcckcooaaDoor
