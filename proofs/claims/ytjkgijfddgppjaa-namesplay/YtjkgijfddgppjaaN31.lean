/- Same, walked. -/
import Derived.Test.YtjkgijfddgppjaaN30
namespace Go.Proofs.Ytjkgijfddgppjaa
open Go.RowKit Go.Lib Go.Shelf
attribute [local go_sem] Oper.semAt_some

/-- Is a name found under its number? -/
def Mt (M : List (List UInt8)) (p : NmE) : Prop := ∃ m : Nat, idx M p.1.2 = some m ∧ p.1.1 = (m : Int)

theorem mt_same {L : List (List UInt8)} (g : Good L) (h : ∀ n, (L.getD n []).length ≤ 64) {k : Nat} (hk : k ≤ L.length) : ∀ p ∈ evN L h k, Mt L p := fun p hp => by
  unfold evN at hp
  obtain ⟨j, hj, rfl⟩ := List.mem_map.1 hp
  exact ⟨j, idx_at g (by have := List.mem_range.1 hj; omega), rfl⟩

theorem mt_all {L M : List (List UInt8)} (h : ∀ n, (L.getD n []).length ≤ 64) (hl : L.length = M.length) (hm : ∀ p ∈ evN L h L.length, Mt M p) : L = M := by
  apply List.ext_getElem hl
  intro i h1 h2
  obtain ⟨m, e1, e2⟩ := hm ⟨((i : Int), L.getD i []), h i⟩ (List.mem_map.2 ⟨i, List.mem_range.2 h1, rfl⟩)
  simp only at e1 e2
  obtain rfl : m = i := by omega
  unfold idx at e1
  split at e1
  · rename_i hmem
    simp only [Option.some.injEq] at e1
    have h3 := List.getElem_idxOf (x := L.getD m []) (xs := M) (by rw [e1]; exact h2)
    simp only [e1] at h3
    rw [h3, getD_at h1]
  · cases e1

set_option maxRecDepth 100000 in
set_option maxHeartbeats 4000000 in
theorem same_long (hb tb mb hb' tb' mb' : Nat) (v v' : Value) (most most' : Int) (L M : List (List UInt8)) (w : World) (h : Nms w hb tb mb v most L) (h' : Nms w hb' tb' mb' v' most' M) (gL : Good L) (hL : L.length ≤ 1048576) (hlen : L.length = M.length) :
    Calls Try.prog 23 #[.pointer (some ⟨hb, 0, none⟩), .pointer (some ⟨hb', 0, none⟩)] w fun e w' => e = .returned (.bool (decide (L = M))) ∧ Old w w' := by
  have o1 : Old w (w.alloc (.cells #[.bool false] 4)) := (Old.refl w).alloc _
  have k1 := hid (none_some hb tb _ (o1.cell h.c0))
  have k2 := hid (none_some hb' tb' _ (o1.cell h'.c0))
  have k3 := hid (len_any hb tb mb v most L _ (h.old o1))
  have k4 := hid (len_any hb' tb' mb' v' most' M _ (h'.old o1))
  have k5 := hid (fun f => all_any hb tb mb v most L ((w.alloc (.cells #[.bool false] 4)).alloc (.cells #[f] 58)) (h.old (o1.trans ((Old.refl _).alloc _))))
  have kh := hid h
  have kh' := hid h'
  rw [← hlen] at k4
  have klen := hid hlen
  clear h h' hlen
  obtain ⟨n, hn⟩ : ∃ n, L.length = n := ⟨_, rfl⟩
  rw [hn] at k3 k4
  have kn := hid hn
  clear hn
  refine (callsIn_wide (n := 5)).1 ?_
  refine callsIn_of_wp_marks Try.func23 rfl trivial ?_ rfl
  simp only [Try.ntmps23, List.size_toArray, List.length_cons, List.length_nil, Nat.reduceAdd, Nat.reduceSub, Array.replicate_succ, Array.replicate_zero, List.push_toArray, List.append_toArray, List.nil_append, List.cons_append]
  gi_wp2_with fail
  refine ⟨trivial, ?_⟩
  refine (callsIn_wide.2 k1.out).mono ?_
  rintro e w2 ⟨rfl, h2⟩
  rw [h2]
  clear h2 w2
  gi_wp2_with fail
  refine ⟨trivial, ?_⟩
  refine (callsIn_wide.2 k2.out).mono ?_
  rintro e w2 ⟨rfl, h2⟩
  rw [h2]
  clear h2 w2
  gi_wp2_with fail
  refine ⟨trivial, ?_⟩
  refine (callsIn_wide.2 k3.out).mono ?_
  rintro e w2 ⟨rfl, h2⟩
  rw [h2]
  clear h2 w2
  gi_wp2_with fail
  refine ⟨trivial, ?_⟩
  refine (callsIn_wide.2 k4.out).mono ?_
  rintro e w2 ⟨rfl, h2⟩
  rw [h2]
  clear h2 w2
  gi_wp2_with fail
  refine ⟨trivial, ?_⟩
  refine (callsIn_wide.2 (k5.out _)).mono ?_
  rintro e w2 ⟨rfl, h2⟩
  rw [h2]
  clear h2 w2
  gi_wp2_with fail
  have b0 := Boxed.new w 4 (.bool false)
  have e1 : Old (w.alloc (.cells #[.bool false] 4)) ((w.alloc (.cells #[.bool false] 4)).alloc (.cells #[.func (.func 20) #[.pointer (some ⟨hb', 0, none⟩)] #[]] 58)) := (Old.refl _).alloc _
  have b1 := Boxed.new (w.alloc (.cells #[.bool false] 4)) 58 (.func (.func 20) #[.pointer (some ⟨hb', 0, none⟩)] #[])
  have z1 := alloc_size w (.cells #[.bool false] 4)
  have z2 := alloc_size (w.alloc (.cells #[.bool false] 4)) (.cells #[.func (.func 20) #[.pointer (some ⟨hb', 0, none⟩)] #[]] 58)
  have a0 := (show Boxed ((w.alloc (.cells #[.bool false] 4)).alloc (.cells #[.func (.func 20) #[.pointer (some ⟨hb', 0, none⟩)] #[]] 58)) w.heap.size 4 (.bool false) from (e1.block w.heap.size (by omega) (fun h => h)).trans b0)
  generalize (w.alloc (.cells #[.bool false] 4)).alloc (.cells #[.func (.func 20) #[.pointer (some ⟨hb', 0, none⟩)] #[]] 58) = w2 at *
  rw [z1] at b1 z2
  have e2 : Old w2 (w2.alloc (.cells #[v] 49)) := (Old.refl _).alloc _
  have c2 := new_cell w2 #[v] 49 0 _ rfl
  have z3 := alloc_size w2 (.cells #[v] 49)
  have a0 := (show Boxed (w2.alloc (.cells #[v] 49)) w.heap.size 4 (.bool false) from (e2.block w.heap.size (by omega) (fun h => h)).trans a0)
  have a1 := (show Boxed (w2.alloc (.cells #[v] 49)) (w.heap.size + 1) 58 (.func (.func 20) #[.pointer (some ⟨hb', 0, none⟩)] #[]) from (e2.block (w.heap.size + 1) (by omega) (fun h => h)).trans b1)
  have hO : Old w (w2.alloc (.cells #[v] 49)) := (o1.trans e1).trans e2
  generalize w2.alloc (.cells #[v] 49) = W0 at *
  rw [z2] at c2 z3
  have hOw := hO.below
  have hlat := kh.out.t.lat.frm hO (fun _ _ h => h)
  have hvb : ∀ k, v.ownBlock = some k → k < w.heap.size := fun k hk => by
    obtain ⟨cur, hc⟩ := owns_block kh.out.t.row hk
    exact blk_lt hc
  have h64 := gL.hi
  obtain ⟨s, hs⟩ : ∃ s, w.heap.size = s := ⟨_, rfl⟩
  rw [hs] at a0 a1 c2 z3 hOw hvb ⊢
  clear b0 b1 z1 z2 e1 e2 o1 k1 k2 k3 k4 k5 hO
  refine wpIn_rangeFunc_ownG rfl (by omega) (gf := 54) (lb := #[.pointer (some ⟨s + 1 + 1, 0, none⟩)]) rfl trivial (enters_of Try.func54 (by kernel_rfl) rfl)
    (all_stops 4 (by omega) (s + 1 + 1) v (fun k => k = s ∨ s + 3 ≤ k) L hL h64 W0 (fun k hk h => by have := hvb k hk; omega) c2 hlat) (fun h k => Frm.trans h k (fun _ _ h => h)) (fun W l o o' hl h _ _ => Frm.grown (Frm.refl _ W) (grownBy_putObj' W l o') (fun k e => by cases e; right; right; omega)) (Below.refl _ _) (fun _ => rfl)
    (fun pre W => ((Boxed W s 4 (.bool false) ∧ Boxed W (s + 1) 58 (.func (.func 20) #[.pointer (some ⟨hb', 0, none⟩)] #[])) ∧ Below s w W) ∧ ∀ p ∈ pre, Mt M p)
    (fun cd pre W => (cd = .ret ∧ Boxed W s 4 (.bool false) ∧ ∃ p ∈ pre, ¬ Mt M p) ∧ Below s w W)
    (OwnFrom.and (OwnFrom.and (OwnFrom.and (Own.from (boxed_own _ _ _) _) (Own.from (boxed_own _ _ _) _)) (ownFrom_below (by omega) (by omega))) (fun _ _ _ _ h _ _ => h))
    (fun cd => OwnFrom.and (fun _ X Y row ⟨h1, hb, h2⟩ hg hr => ⟨h1, boxed_own _ _ (fun _ : Unit => .bool false) () X Y row hb hg (fun r e => (hr r e).2), h2⟩) (ownFrom_below (by omega) (by omega)))
    ⟨⟨⟨a0, a1⟩, hOw⟩, fun p hp => by cases hp⟩
    (fun x => { tmps := #[.pointer (some ⟨hb, 0, none⟩), .pointer (some ⟨hb', 0, none⟩), undef, undef, .pointer (some ⟨s, 0, none⟩), .pointer (some ⟨s + 1, 0, none⟩), .int .i64 x.1.1, .string ⟨x.1.2.toArray⟩, undef, undef, .pointer (some ⟨hb, 0, none⟩), .bool false, .bool false, .pointer (some ⟨hb', 0, none⟩), .bool false, .bool false, undef, undef, undef, undef, undef, undef, .pointer (some ⟨hb, 0, none⟩), .int .i64 (n : Int), .pointer (some ⟨hb', 0, none⟩), .int .i64 (n : Int), .bool false, .pointer (some ⟨hb', 0, none⟩), .func (.func 20) #[.pointer (some ⟨hb', 0, none⟩)] #[], .pointer (some ⟨hb, 0, none⟩), .func (.func 54) #[] #[.pointer (some ⟨s + 1 + 1, 0, none⟩)], .int .i64 x.1.1, .string ⟨x.1.2.toArray⟩, undef, undef, undef, undef, undef, undef, undef, undef, undef, undef, undef, undef, undef], defers := [] }) ?assign ?body ?done ?stop
  case assign =>
    intro l x W K hK
    simp only [encE]
    gi_wp2
    exact hK
  case body =>
    rintro l pre x W ⟨⟨⟨c0, c1⟩, hO'⟩, hm⟩ hlen
    have d0 := c0.cell
    have d1 := c1.cell
    have f0 := c0.frozen
    have oW : Old w W := Old.of_below (by rw [hs]; exact hO')
    have kF := hid (find_any hb' tb' mb' v' most' M x.1.2 W (kh'.out.old oW) (by have := x.2; have : maxLen = 9223372036854775807 := rfl; omega))
    have km := hid hm
    have kO' := hid hO'
    clear oW hm hO'
    cases hi : idx M x.1.2 with
    | none =>
      rw [hi] at kF
      simp only [numV, Option.getD_none, Option.isSome_none] at kF
      have hN : Hid (¬ Mt M x) := fun ⟨m, h, _⟩ => by rw [hi] at h; cases h
      clear hi
      gi_wp2_with (refine ⟨trivial, ?_⟩; gi_at_call 20; refine (CallsIn.inRound l (callsIn_wide.2 kF.out)).mono ?_; rintro e w2 ⟨rfl, e2⟩; rw [e2]; clear e2)
      exact ⟨(KeepsOthers.setCell _ _ _).from _, ⟨rfl, Boxed.set _ c0, x, by simp, hN.out⟩, kO'.out.setCell (p := ⟨s, 0, none⟩) (by simp) _⟩
    | some m =>
      rw [hi] at kF
      simp only [numV, Option.getD_some, Option.isSome_some] at kF
      by_cases e : x.1.1 = (m : Int)
      · have hY : Hid (Mt M x) := ⟨m, hi, e⟩
        have hq : ((m : Int) != x.1.1) = false := by rw [e]; simp
        clear hi e
        gi_wp2_with (refine ⟨trivial, ?_⟩; gi_at_call 20; refine (CallsIn.inRound l (callsIn_wide.2 kF.out)).mono ?_; rintro e w2 ⟨rfl, e2⟩; rw [e2]; clear e2)
        refine ⟨KeepsFrom.refl _ _, Frm.refl _ _, ⟨⟨c0, c1⟩, kO'.out⟩, fun p hp => ?_⟩
        rcases List.mem_append.1 hp with h | h
        · exact km.out p h
        · rw [List.mem_singleton.1 h]; exact hY.out
      · have hN : Hid (¬ Mt M x) := fun ⟨m', h, h2⟩ => by
          rw [hi] at h
          simp only [Option.some.injEq] at h
          subst h
          exact e h2
        have hq : ((m : Int) != x.1.1) = true := by simpa using fun h => e h.symm
        clear hi e
        gi_wp2_with (refine ⟨trivial, ?_⟩; gi_at_call 20; refine (CallsIn.inRound l (callsIn_wide.2 kF.out)).mono ?_; rintro e w2 ⟨rfl, e2⟩; rw [e2]; clear e2)
        exact ⟨(KeepsOthers.setCell _ _ _).from _, ⟨rfl, Boxed.set _ c0, x, by simp, hN.out⟩, kO'.out.setCell (p := ⟨s, 0, none⟩) (by simp) _⟩
  case done =>
    rintro D ys W hD rfl ⟨⟨⟨c0, c1⟩, hO'⟩, hm⟩ hK
    have d0 := c0.cell
    have f0 := c0.frozen
    have hR : Hid (decide (L = M) = true) := decide_eq_true (mt_all h64 klen.out hm)
    clear hm
    gi_wp2
    have hK' := (KeepsOthers.setCell W ⟨s, 0, none⟩ (.bool true)).same D _ hK rfl
    refine ⟨by simp, .inl ⟨_, _, rfl, run_takeDeferred hK', ?_⟩⟩
    have hc5 := cell_kept (Boxed.set (.bool true) c0).cell (grownBy_putObj' _ D (.deferred none)) (fun r e => by cases e; exact ⟨_, hK', rfl⟩)
    refine ⟨.bool true, ?_, by rw [hR.out], Old.of_below (by rw [hs]; exact (hO'.setCell (p := ⟨s, 0, none⟩) (by simp) _).trans (belowK_b (w := W0) (by omega) _ D _ _ hD hK' rfl rfl))⟩
    simp [results, Try.f23, go_sem, hc5]
  case stop =>
    rintro D cd pre W hD ⟨k, hk, rfl⟩ ⟨⟨rfl, c0, p, hp, hmp⟩, hO'⟩ hK
    have hR : Hid (decide (L = M) = false) := decide_eq_false (fun e => hmp (by subst e; exact mt_same gL h64 hk p hp))
    gi_wp2
    refine ⟨by simp, .inl ⟨_, _, rfl, run_takeDeferred hK, ?_⟩⟩
    have hc5 := cell_kept c0.cell (grownBy_putObj' _ D (.deferred none)) (fun r e => by cases e; exact ⟨_, hK, rfl⟩)
    refine ⟨.bool false, ?_, by rw [hR.out], Old.of_below (by rw [hs]; exact hO'.trans (belowK_b (w := W0) (by omega) _ D _ _ hD hK rfl rfl))⟩
    simp [results, Try.f23, go_sem, hc5]
end Go.Proofs.Ytjkgijfddgppjaa
