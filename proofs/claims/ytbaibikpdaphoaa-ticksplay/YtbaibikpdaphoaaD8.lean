/- A number's tick; a number is taken out. -/
import Derived.Test.YtbaibikpdaphoaaD3
namespace Go.Proofs.Ytbaibikpdaphoaa
open Go.RowKit Go.Lib Go.Maps

theorem Tk.there {w : World} {bt : Nat} {F : Nat → Prop} {now : Int} {R : List Due} {bc bm : Nat} {v : Value} {G : List Due} {P : Int → Option Nat} (h : Tk w bt F now R bc bm v G P) {x : Due} (hx : x ∈ R) :
    ∃ p hb cap, P x.2 = some p ∧ p < G.length ∧ at' G p = x ∧ v = .slice (some ⟨hb, 0, none⟩) G.length cap ∧ Row w hb cap G := by
  obtain ⟨p, hp, e⟩ := List.getElem_of_mem (h.perm.mem_iff.2 hx)
  have hat : at' G p = x := by rw [at_eq hp]; exact e
  have hP := h.cal.pl.pl p hp
  rw [hat] at hP
  rcases h.cal.sl with ⟨_, rfl⟩ | ⟨hb, cap, rfl, hR, _⟩
  · simp at hp
  · exact ⟨p, hb, cap, hP, hp, hat, rfl, hR⟩

theorem Tk.away {w : World} {bt : Nat} {F : Nat → Prop} {now : Int} {R : List Due} {bc bm : Nat} {v : Value} {G : List Due} {P : Int → Option Nat} (h : Tk w bt F now R bc bm v G P) {n : Int} (hn : ∀ x ∈ R, x.2 ≠ n) : P n = none := by
  cases hp : P n with
  | none => rfl
  | some p =>
    obtain ⟨i, hi, hat⟩ := h.cal.pl.no n (by rw [hp]; simp)
    exact absurd hat (hn _ (h.perm.mem_iff.1 (at_mem hi)))

set_option maxRecDepth 100000 in
set_option maxHeartbeats 2000000 in
theorem at_none (bt : Nat) (F : Nat → Prop) (now n : Int) (R : List Due) (w : World) (h : TkS w bt F now R) (hn : ∀ x ∈ R, x.2 ≠ n) (hi : i64ok n) :
    Calls Try.prog 33 #[.pointer (some ⟨bt, 0, none⟩), .int .i64 n] w fun e w' => e = .returned (.tuple #[.int .i64 0, .int .i64 4]) ∧ w' = w := by
  obtain ⟨bc, bm, v, G, P, h⟩ := h
  have hk := hid (kept_any bt _ w h.cell)
  have c2 := h.cal.cells.2.2.1
  have hlook := h.cal.map.look hi
  rw [h.away hn] at hlook
  simp only [Option.getD_none, Option.isSome_none] at hlook
  clear h
  go_enter Try.func33, Try.ntmps33
  go_wp2_with fail
  refine hk.out.mono ?_
  rintro e w2 ⟨rfl, e2⟩
  rw [e2]
  clear e2 w2
  go_wp2
  go_ret2
  exact ⟨rfl, rfl⟩

set_option maxRecDepth 100000 in
set_option maxHeartbeats 2000000 in
theorem drop_none (bt : Nat) (F : Nat → Prop) (now n : Int) (R : List Due) (w : World) (h : TkS w bt F now R) (hn : ∀ x ∈ R, x.2 ≠ n) (hi : i64ok n) :
    Calls Try.prog 19 #[.pointer (some ⟨bt, 0, none⟩), .int .i64 n] w fun e w' => e = .returned (.int .i64 4) ∧ w' = w := by
  obtain ⟨bc, bm, v, G, P, h⟩ := h
  have hk := hid (kept_any bt _ w h.cell)
  have c2 := h.cal.cells.2.2.1
  have hlook := h.cal.map.look hi
  rw [h.away hn] at hlook
  simp only [Option.getD_none, Option.isSome_none] at hlook
  clear h
  go_enter Try.func19, Try.ntmps19
  go_wp2_with fail
  refine hk.out.mono ?_
  rintro e w2 ⟨rfl, e2⟩
  rw [e2]
  clear e2 w2
  go_wp2
  go_ret
  exact ⟨rfl, rfl⟩

set_option maxRecDepth 100000 in
set_option maxHeartbeats 2000000 in
theorem at_some (bt : Nat) (F : Nat → Prop) (now : Int) (x : Due) (R : List Due) (w : World) (h : TkS w bt F now R) (hx : x ∈ R) :
    Calls Try.prog 33 #[.pointer (some ⟨bt, 0, none⟩), .int .i64 x.2] w fun e w' => e = .returned (.tuple #[.int .i64 x.1, .int .i64 0]) ∧ w' = w := by
  obtain ⟨bc, bm, v, G, P, h⟩ := h
  have hlen := h.perm.length_eq
  obtain ⟨p, hb, cap, hP, hp, hat, rfl, hR⟩ := h.there hx
  have hk := hid (kept_any bt _ w h.cell)
  have c1 := h.cal.cells.2.1
  have c2 := h.cal.cells.2.2.1
  have hlook := h.cal.map.look (h.cal.ok x (h.perm.mem_iff.2 hx))
  rw [hP] at hlook
  simp only [Option.getD_some, Option.isSome_some] at hlook
  obtain ⟨r1, r2⟩ := hR.cell hp
  rw [hat] at r1 r2
  obtain ⟨x0, x1⟩ := x
  generalize G.length = n at *
  have e1 : p * 2 = 2 * p := by omega
  clear h hR hP hat hx
  go_enter Try.func33, Try.ntmps33
  go_wp2_with fail
  refine hk.out.mono ?_
  rintro e w2 ⟨rfl, e2⟩
  rw [e2]
  clear e2 w2
  go_wp2
  go_ret2
  exact ⟨rfl, rfl⟩

theorem out_wo {G G' R : List Due} {y : Due} (hn : ND G) (h : (G' ++ [y]).Perm G) (hR : G.Perm R) : G'.Perm (wo y.2 R) := by
  have hnd : ND (G' ++ [y]) := hn.perm h
  have hke : wo y.2 (G' ++ [y]) = G' := by
    unfold wo
    rw [List.filter_append]
    have h1 : G'.filter (fun x => decide (x.2 ≠ y.2)) = G' := by
      rw [List.filter_eq_self]
      intro x hx
      simp
      intro e
      unfold ND at hnd
      rw [List.map_append, List.nodup_append] at hnd
      exact hnd.2.2 x.2 (List.mem_map.2 ⟨x, hx, rfl⟩) y.2 (by simp) e
    rw [h1]; simp
  have := wo_perm y.2 (h.trans hR)
  rwa [hke] at this

theorem wo_srt {R : List Due} (h : Srt R) (n : Int) : Srt (wo n R) := h.sublist List.filter_sublist

set_option maxRecDepth 100000 in
set_option maxHeartbeats 4000000 in
theorem drop_m (bt bc bm : Nat) (v : Value) (G : List Due) (P : Int → Option Nat) (F : Nat → Prop) (now : Int) (x : Due) (R : List Due) (w : World) (h : Tk w bt F now R bc bm v G P) (hx : x ∈ R) (hl : R.length ≤ 1000000000) :
    Calls Try.prog 19 #[.pointer (some ⟨bt, 0, none⟩), .int .i64 x.2] w fun e w' => e = .returned (.int .i64 0) ∧ PutM w bt bc bm F now (wo x.2 R) w' := by
  have hlen := h.perm.length_eq
  obtain ⟨p, hb, cap, hP, hp, hat, rfl, hR⟩ := h.there hx
  have hk := hid (kept_any bt _ w h.cell)
  have c2 := h.cal.cells.2.2.1
  have hlook := h.cal.map.look (h.cal.ok x (h.perm.mem_iff.2 hx))
  rw [hP] at hlook
  simp only [Option.getD_some, Option.isSome_some] at hlook
  obtain ⟨e, he⟩ : ∃ e, G.length = e + 1 := ⟨G.length - 1, by omega⟩
  have hcal := h.cal
  rw [he] at hcal
  have kt := hid (take_any bc hb bm cap e now G P p w hcal he (by omega) (by omega))
  rw [hat] at kt
  have kh := hid h
  obtain ⟨x0, x1⟩ := x
  clear h hR hP hat hx hcal
  go_enter Try.func19, Try.ntmps19
  go_wp2_with fail
  refine hk.out.mono ?_
  rintro en w2 ⟨rfl, e2⟩
  rw [e2]
  clear e2 w2
  go_wp2_with fail
  refine kt.out.mono ?_
  rintro en w3 ⟨rfl, G', P', a1, a2, a3⟩
  have kk : Hid (PutM w bt bc bm F now (wo x1 R) w3) := by
    have hnt := kh.out.nt
    have htl := (Array.getElem?_eq_some_iff.1 kh.out.top).1
    have hcl := kh.out.cal.lt
    have hml := kh.out.cal.map.lt
    have hvl := kh.out.cal.sl.lt hb rfl
    have hsz := a3.size
    have hnb : hb ≠ bt := by
      intro e
      exact hnt.2.2 (by simp [Value.ownBlock, e])
    have htop : w3.heap[bt]? = some (.cells #[.pointer (some ⟨bc, 0, none⟩)] 67 (0, 0)) := by
      rw [a3.block bt htl (by rintro (e | e | e); exact hnt.1 e; exact hnt.2.1 e; exact hnb e.symm)]; exact kh.out.top
    refine ⟨fun k => k = bt ∨ k = bc ∨ k = bm ∨ k = hb, ⟨_, G', P', htop, a1, out_wo kh.out.cal.nd a2 kh.out.perm, wo_srt kh.out.srt x1, Or.inl rfl, Or.inr (Or.inl rfl), Or.inr (Or.inr (Or.inl rfl)), fun k hk => ?_, hnt.1, hnt.2.1, ?_⟩, Frm.mono a3 (fun k _ hk => ?_), fun k hk => ?_⟩
    · simp [Value.ownBlock] at hk
      exact Or.inr (Or.inr (Or.inr hk.symm))
    · simp [Value.ownBlock]; exact hnb
    · rcases hk with e | e | e
      · rw [e]; exact kh.out.fc
      · rw [e]; exact kh.out.fm
      · rw [e]; exact kh.out.fv hb rfl
    · rcases hk with e | e | e | e
      · exact ⟨Or.inl (by rw [e]; exact kh.out.ft), by omega⟩
      · exact ⟨Or.inl (by rw [e]; exact kh.out.fc), by omega⟩
      · exact ⟨Or.inl (by rw [e]; exact kh.out.fm), by omega⟩
      · exact ⟨Or.inl (by rw [e]; exact kh.out.fv hb rfl), by omega⟩
  clear a1 a2 a3
  go_wp2
  go_ret
  exact ⟨rfl, kk.out⟩

theorem drop_some (bt : Nat) (F : Nat → Prop) (now : Int) (x : Due) (R : List Due) (w : World) (h : TkS w bt F now R) (hx : x ∈ R) (hl : R.length ≤ 1000000000) :
    Calls Try.prog 19 #[.pointer (some ⟨bt, 0, none⟩), .int .i64 x.2] w fun e w' => e = .returned (.int .i64 0) ∧ PutP w bt F now (wo x.2 R) w' := by
  obtain ⟨bc, bm, v, G, P, h⟩ := h
  exact (drop_m bt bc bm v G P F now x R w h hx hl).mono (fun _ _ h => ⟨h.1, h.2.put⟩)
end Go.Proofs.Ytbaibikpdaphoaa
