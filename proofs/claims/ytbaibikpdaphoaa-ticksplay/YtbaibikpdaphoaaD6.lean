/- Refusals of a list; a calendar with some numbers. -/
import Derived.Test.YtbaibikpdaphoaaK1
namespace Go.Proofs.Ytbaibikpdaphoaa
open Go.RowKit Go.Lib Go.Maps

/-- One that may be set at all; one that is too late. -/
def vB (d : Due) : Bool := decide (tickB d.1 = true ∧ 0 ≤ d.2)
def lB (now : Int) (d : Due) : Bool := decide (d.1 < now)

/-- Why a list may not be set. -/
def erL (now : Int) (L : List Due) : Int := if L.any (lB now) = true then 6 else 0
def refL (now : Int) (L : List Due) : Int := if L.all vB = true then erL now L else 2

theorem take_due {L : List Due} {k : Nat} (h : k < L.length) : L.take (k + 1) = L.take k ++ [((at' L k).1, (at' L k).2)] := by
  rw [List.take_succ_eq_append_getElem h, at_eq h]

theorem vB_take {L : List Due} {k : Nat} (h : k < L.length) : (L.take (k + 1)).all vB = ((L.take k).all vB && vB (at' L k)) := by
  rw [List.take_succ_eq_append_getElem h, List.all_append, at_eq h]; simp
theorem lB_take {now : Int} {L : List Due} {k : Nat} (h : k < L.length) : (L.take (k + 1)).any (lB now) = ((L.take k).any (lB now) || lB now (at' L k)) := by
  rw [List.take_succ_eq_append_getElem h, List.any_append, at_eq h]; simp
theorem vB_not {L : List Due} {k : Nat} (h : k < L.length) (hv : vB (at' L k) = false) : L.all vB = false := by
  rw [← Bool.not_eq_true, List.all_eq_true]
  intro h2
  have := h2 _ (at_mem h)
  rw [hv] at this
  cases this
theorem erL_late {now : Int} {L : List Due} {k : Nat} (h : k < L.length) (hl : lB now (at' L k) = true) : erL now (L.take (k + 1)) = 6 := by
  unfold erL; rw [lB_take h, hl, Bool.or_true, if_pos rfl]
theorem erL_not {now : Int} {L : List Due} {k : Nat} (h : k < L.length) (hl : lB now (at' L k) = false) : erL now (L.take (k + 1)) = erL now (L.take k) := by
  unfold erL; rw [lB_take h, hl, Bool.or_false]

set_option maxRecDepth 100000 in
set_option maxHeartbeats 4000000 in
theorem refusal_list (ao : Option Addr) (cap n : Nat) (now : Int) (L : List Due) (w : World) (ha : DueC w ao L) (hn : L.length = n) (hl : n ≤ 1000000) :
    Calls Try.prog 26 #[.int .i64 now, .slice ao n cap] w fun e w' => e = .returned (.int .i64 (refL now L)) ∧ Old w w' := by
  have kA := hid ha
  have kN := hid hn
  have kT := hid isTick_any
  have k0 : Hid (erL now (L.take 0) = 0) := by show erL now [] = 0; rfl
  clear ha hn
  obtain ⟨rf, hrf⟩ : ∃ rf, refL now L = rf := ⟨_, rfl⟩
  have krf := hid hrf
  rw [hrf]
  clear hrf
  go_enter Try.func26, Try.ntmps26
  go_wp2_with fail
  go_loopw [5, 10] (fun er s wr => ∃ k : Nat, k ≤ n ∧ s = .int .i64 (k : Int) ∧ Hid ((L.take k).all vB = true) ∧ er = .int .i64 (erL now (L.take k)) ∧ Old w wr) (fun _ s _ => n - (intOf s).toNat)
  case atStart => exact ⟨0, Nat.zero_le _, rfl, hid rfl, by rw [k0.out], Old.refl w⟩
  case round =>
    obtain ⟨k, hk, rfl, hv, rfl, hold⟩ := hrel
    have kO := hid hold
    clear hold
    by_cases hkn : k < n
    · obtain ⟨g, o, hao, c0, c1⟩ := kA.out.old kO.out k (by rw [kN.out]; exact hkn)
      have hkL : Hid (k < L.length) := by rw [kN.out]; exact hkn
      have hlt := World.block_lt_of_cell? wr _ c0
      simp only at hlt
      obtain ⟨x, hx⟩ : ∃ x, at' L k = x := ⟨_, rfl⟩
      obtain ⟨t, m⟩ := x
      have kx := hid hx
      rw [hx] at c0 c1
      subst hao
      have e1 : k * 2 = 2 * k := by omega
      generalize hz : erL now (L.take k) = z at *
      have kz := hid hz
      clear hx hz
      have kt := hid (kT.out t)
      cases htb : tickB t
      · rw [htb] at kt
        have hbad := hid (vB_not hkL.out (by rw [kx.out]; unfold vB; rw [htb]; simp))
        clear htb
        go_wp2_with fail
        refine (kt.out _).mono ?_
        rintro e w2 ⟨rfl, e2⟩
        rw [e2]
        clear e2 w2
        go_wp2
        go_ret
        exact ⟨by rw [← krf.out]; unfold refL; rw [if_neg (by rw [hbad.out]; simp)]; rfl, kO.out.alloc _⟩
      · rw [htb] at kt
        by_cases hm : m < 0
        · have hbad := hid (vB_not hkL.out (by rw [kx.out]; unfold vB; simp; omega))
          clear htb
          go_wp2_with fail
          refine (kt.out _).mono ?_
          rintro e w2 ⟨rfl, e2⟩
          rw [e2]
          clear e2 w2
          go_wp2
          go_ret
          exact ⟨by rw [← krf.out]; unfold refL; rw [if_neg (by rw [hbad.out]; simp)]; rfl, kO.out.alloc _⟩
        · have hd : decide (m < 0) = false := by simp; omega
          have hgood := hid (show (L.take (k + 1)).all vB = true by rw [vB_take hkL.out, hv.out, kx.out]; unfold vB; simp [htb]; omega)
          clear htb
          by_cases hlate : t < now
          · have her := hid (erL_late (now := now) hkL.out (by rw [kx.out]; unfold lB; simp; omega))
            go_wp2_with fail
            refine (kt.out _).mono ?_
            rintro e w2 ⟨rfl, e2⟩
            rw [e2]
            clear e2 w2
            go_wp2_with fail
            go_roundw
            case rel => exact ⟨k + 1, by omega, by go_num, hgood, by rw [her.out], kO.out.alloc _⟩
            case measure => simp [intOf]; omega
          · have her := hid (erL_not (now := now) hkL.out (by rw [kx.out]; unfold lB; simp; omega))
            go_wp2_with fail
            refine (kt.out _).mono ?_
            rintro e w2 ⟨rfl, e2⟩
            rw [e2]
            clear e2 w2
            go_wp2_with fail
            go_roundw
            case rel => exact ⟨k + 1, by omega, by go_num, hgood, by rw [her.out, kz.out], kO.out.alloc _⟩
            case measure => simp [intOf]; omega
    · obtain rfl : k = n := by omega
      have htk : L.take k = L := List.take_of_length_le (by rw [kN.out]; exact Nat.le_refl _)
      have hall := hv.out
      rw [htk] at hall
      have hfin := hid (show rf = erL now (L.take k) by rw [← krf.out]; unfold refL; rw [if_pos hall, htk])
      clear htk hall
      go_wp2_with fail
      go_ret
      exact ⟨by rw [hfin.out]; rfl, kO.out⟩

/-- A bare calendar bc: its blocks, its now, its numbers in order. -/
def CaS (w : World) (bc : Nat) (F : Nat → Prop) (now : Int) (R : List Due) : Prop := ∃ bm v G P, Cal w bc bm v now G P ∧ G.Perm R ∧ Srt R ∧ F bc ∧ F bm ∧ ∀ k, v.ownBlock = some k → F k

/-- What is put into it. -/
def PutC (w : World) (bc : Nat) (F : Nat → Prop) (now : Int) (R : List Due) (w' : World) : Prop := ∃ F', CaS w' bc F' now R ∧ Frm F w w' ∧ ∀ k, F' k → (F k ∨ w.heap.size ≤ k) ∧ k < w'.heap.size

theorem CaS.kept {w w' : World} {bc : Nat} {F S : Nat → Prop} {now : Int} {R : List Due} (h : CaS w bc F now R) (hf : Frm S w w') (hS : ∀ k, F k → ¬ S k) : CaS w' bc F now R := by
  obtain ⟨bm, v, G, P, h1, h2, h3, h4, h5, h6⟩ := h
  exact ⟨bm, v, G, P, h1.kept hf (hS _ h4) (hS _ h5) (fun k hk => hS _ (h6 k hk)), h2, h3, h4, h5, h6⟩

theorem put_cal (bc : Nat) (F : Nat → Prop) (now : Int) (R : List Due) (d : Due) (w : World) (h : CaS w bc F now R) (hl : R.length < 1000000000) (hd : i64ok d.2) :
    Calls Try.prog 28 #[.pointer (some ⟨bc, 0, none⟩), .agg #[.int .i64 d.1, .int .i64 d.2]] w fun e w' => e = .returned (.tuple #[]) ∧ PutC w bc F now (setR R d) w' := by
  obtain ⟨bm, v, G, P, h, hper, hsrt, fc, fm, fv⟩ := h
  have hlen := hper.length_eq
  have hcl := h.lt
  have hml := h.map.lt
  have hvl := h.sl.lt
  cases hp : P d.2 with
  | none =>
    have hv : ∃ ao cap, v = .slice ao G.length cap := by
      rcases h.sl with ⟨rfl, rfl⟩ | ⟨hb, cap, rfl, _⟩
      · exact ⟨none, 0, rfl⟩
      · exact ⟨_, _, rfl⟩
    refine (put_new bc bm G.length v now G P d w h rfl (by omega) hd hp hv).mono ?_
    rintro e w' ⟨rfl, hb, cap', G', P', hC, hper', hwh, hf⟩
    have hsz := hf.size
    refine ⟨rfl, fun k => k = bc ∨ k = bm ∨ k = hb, ⟨bm, _, G', P', hC, hper'.trans (set_new h.pl hp hper), setR_srt hsrt d, Or.inl rfl, Or.inr (Or.inl rfl), fun k hk => ?_⟩, Frm.mono hf (fun k _ hk => ?_), fun k hk => ?_⟩
    · simp [Value.ownBlock] at hk
      exact Or.inr (Or.inr hk.symm)
    · rcases hk with e | e | e
      · rw [e]; exact fc
      · rw [e]; exact fm
      · exact fv k e
    · have hhb := hC.sl.lt hb rfl
      rcases hk with e | e | e
      · exact ⟨Or.inl (by rw [e]; exact fc), by omega⟩
      · exact ⟨Or.inl (by rw [e]; exact fm), by omega⟩
      · refine ⟨?_, by rw [e]; exact hhb⟩
        rcases hwh with h1 | h1
        · exact Or.inl (by rw [e]; exact fv hb h1)
        · exact Or.inr (by omega)
  | some p =>
    obtain ⟨i, hi, hat⟩ := h.pl.no d.2 (by rw [hp]; simp)
    have hpi := h.pl.pl i hi
    rw [hat, hp] at hpi
    obtain rfl : p = i := Option.some.inj hpi
    rcases h.sl with ⟨_, rfl⟩ | ⟨hb, cap, rfl, hR, hne, hcm⟩
    · simp at hi
    · refine (put_set bc hb bm cap G.length now G P d p w h rfl (by omega) hd hp hi hat hR hne).mono ?_
      rintro e w' ⟨rfl, G', P', r1, r2, r3, r4, r5, r6⟩
      have hsz := r6.size
      have hl2 : G'.length = G.length := by rw [r3.length_eq]; simp
      have hbm : bc ≠ bm := ne_of_cell h.map h.cells.1
      have hC : Cal w' bc bm (.slice (some ⟨hb, 0, none⟩) G.length cap) now G' P' := by
        refine ⟨?_, Or.inr ⟨hb, cap, by rw [hl2], r1, hne, hcm⟩, by rw [hl2]; exact r4, r5, r2, ?_, ?_⟩
        · rw [r6.block bc hcl (by rintro (e | e); exact hne e.symm; exact hbm e)]; exact h.blk
        · exact (Mv.set h.heap h.nd h.pl hi hat).nd.perm r3
        · intro x hx
          rcases List.mem_or_eq_of_mem_set (r3.mem_iff.1 hx) with h1 | h1
          · exact h.ok x h1
          · rw [h1]; exact hd
      refine ⟨rfl, fun k => k = bc ∨ k = bm ∨ k = hb, ⟨bm, _, G', P', hC, r3.trans (set_there hi h.nd hat hper), setR_srt hsrt d, Or.inl rfl, Or.inr (Or.inl rfl), fun k hk => ?_⟩, Frm.mono r6 (fun k _ hk => ?_), fun k hk => ?_⟩
      · simp [Value.ownBlock] at hk
        exact Or.inr (Or.inr hk.symm)
      · rcases hk with e | e
        · rw [e]; exact fv hb rfl
        · rw [e]; exact fm
      · have hhb := hR.lt
        rcases hk with e | e | e
        · exact ⟨Or.inl (by rw [e]; exact fc), by omega⟩
        · exact ⟨Or.inl (by rw [e]; exact fm), by omega⟩
        · exact ⟨Or.inl (by rw [e]; exact fv hb rfl), by omega⟩

/-- The numbers of a list, each at its tick. -/
def ofR (L : List Due) : List Due := L.foldl setR []

theorem ofR_snoc {L : List Due} {k : Nat} (h : k < L.length) : ofR (L.take (k + 1)) = setR (ofR (L.take k)) (at' L k) := by
  unfold ofR
  rw [List.take_succ_eq_append_getElem h, List.foldl_append, at_eq h]; rfl

theorem ofR_srt (L : List Due) : Srt (ofR L) := by
  unfold ofR
  suffices h : ∀ (L : List Due) (R : List Due), Srt R → Srt (L.foldl setR R) from h L [] (by simp [Srt])
  intro L
  induction L with
  | nil => intro R h; exact h
  | cons x L ih => intro R h; exact ih _ (setR_srt h x)

theorem ofR_len (L : List Due) : (ofR L).length ≤ L.length := by
  unfold ofR
  suffices h : ∀ (L : List Due) (R : List Due), (L.foldl setR R).length ≤ R.length + L.length from by simpa using h L []
  intro L
  induction L with
  | nil => intro R; simp
  | cons x L ih =>
    intro R
    have h1 := ih (setR R x)
    have h2 := setR_length (R := R) (d := x)
    simp only [List.foldl_cons, List.length_cons]
    omega

/-- A calendar in blocks that are new since w. -/
def KC (w w' : World) (bc : Nat) (now : Int) (R : List Due) : Prop := ∃ F, CaS w' bc F now R ∧ Old w w' ∧ ∀ k, F k → w.heap.size ≤ k ∧ k < w'.heap.size

theorem KC.old {w w' w'' : World} {bc : Nat} {now : Int} {R : List Due} (h : KC w w' bc now R) (ho : Old w' w'') : KC w w'' bc now R := by
  obtain ⟨F, h1, h2, h3⟩ := h
  exact ⟨F, h1.kept ho (fun _ _ h => h), h2.trans ho, fun k hk => ⟨(h3 k hk).1, Nat.lt_of_lt_of_le (h3 k hk).2 ho.size⟩⟩

theorem KC.put {w w' : World} {bc : Nat} {now : Int} {R : List Due} {d : Due} (h : KC w w' bc now R) (hl : R.length < 1000000000) (hd : i64ok d.2) :
    Calls Try.prog 28 #[.pointer (some ⟨bc, 0, none⟩), .agg #[.int .i64 d.1, .int .i64 d.2]] w' fun e w'' => e = .returned (.tuple #[]) ∧ KC w w'' bc now (setR R d) := by
  obtain ⟨F, h1, h2, h3⟩ := h
  refine (put_cal bc F now R d w' h1 hl hd).mono ?_
  rintro e w'' ⟨rfl, F', a1, a2, a3⟩
  refine ⟨rfl, F', a1, Frm.trans h2 a2 (fun k hk hF => by have := (h3 k hF).1; omega), fun k hk => ⟨?_, (a3 k hk).2⟩⟩
  rcases (a3 k hk).1 with h4 | h4
  · exact (h3 k h4).1
  · have := h2.size; omega
end Go.Proofs.Ytbaibikpdaphoaa
