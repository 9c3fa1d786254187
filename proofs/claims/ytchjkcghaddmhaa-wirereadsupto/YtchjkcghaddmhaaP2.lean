/- The document's reader reads a long number. -/
import Derived.Test.YtchjkcghaddmhaaP1
import Derived.Deep.DrawnRows
namespace Go.Proofs.Ytchjkcghaddmhaa
open Go.RowKit
set_option linter.unusedSimpArgs false

attribute [local go_sem ↓] Go.wp_at_zero Go.wp_at_succ

theorem take_getElem_snoc (l : List UInt8) (j : Nat) (h : j < l.length) : l.take (j + 1) = l.take j ++ [l[j]] := List.take_succ_eq_append_getElem h

theorem drop_get {xs l : List UInt8} {c : UInt8} {p : Nat} (h : xs.drop p = c :: l) (j : Nat) (hj : j < l.length) (hp : p + (j + 1) < xs.length) : xs[p + (j + 1)] = l[j] := by
  have := List.getElem_drop (xs := xs) (i := p) (j := j + 1) (h := by simp; omega)
  simp only [h] at this
  simpa using this.symm

/-- The document's reader while it reads. -/
structure RS (w0 w W : World) (db g o cap : Nat) (xs : List UInt8) (p : Nat) : Prop where
  rr : RR w0 W db (some ⟨g, o, none⟩) cap xs p
  fr : Frm (fun k => k = db) w W

theorem RS.grow {w0 w W W' : World} {db g o cap : Nat} {xs : List UInt8} {p : Nat} (h : RS w0 w W db g o cap xs p) (hf : Frm (fun _ => False) W W') : RS w0 w W' db g o cap xs p :=
  ⟨h.rr.grow hf, h.fr.trans hf (fun _ _ e => e.elim)⟩

theorem rs_conv {w0 w W : World} {db g o cap : Nat} {xs l : List UInt8} {c : UInt8} {p n : Nat} (h : RS w0 w W db g o cap xs p) (hd : xs.drop p = c :: l) (hn : n ≤ l.length) :
    (convert 25 9 (.slice (some ⟨g, o + p, none⟩) (p + 1 + n - p) (cap - p))).run Try.prog W = .ok (.string ⟨(c :: l.take n).toArray⟩) W := by
  obtain ⟨h1, h2, h3⟩ := drop_cons hd
  have e : p + 1 + n - p = (c :: l.take n).length := by simp; omega
  rw [e]
  refine run_convert_bytes_back W 25 9 5 ⟨g, o + p, none⟩ (cap - p) (c :: l.take n) Try.underlying25 Try.underlying5 Try.underlying9 ?_
  intro j hj
  have hjl : j < 1 + n := by simp at hj; omega
  have hx : p + j < xs.length := by omega
  obtain ⟨g', o', hao, hcell⟩ := h.rr.byte (p + j) hx
  simp only [Option.some.injEq, Addr.mk.injEq] at hao
  obtain ⟨rfl, rfl, _⟩ := hao
  rw [Addr.add_lit, Nat.add_assoc, hcell]
  have e2 : xs[p + j] = (c :: l.take n)[j] := by
    have := List.getElem_drop (xs := xs) (i := p) (j := j) (h := by simp; omega)
    simp only [hd] at this
    rw [← this]
    cases j with
    | zero => rfl
    | succ j => simp
  rw [e2]

theorem rs_number {w0 w W : World} {db g o cap : Nat} {xs : List UInt8} {p : Nat} {x : Int} (h : RS w0 w W db g o cap xs p) (h0 : 0 ≤ x) (h1 : x ≤ 18446744073709551615) :
    Calls Try.prog 26 #[.int .u64 x] W fun e w' => ∃ ao cp, e = .returned (.slice ao (numF x.toNat).length cp) ∧ (convert 25 9 (.slice ao (numF x.toNat).length cp)).run Try.prog w' = .ok (.string ⟨(numF x.toNat).toArray⟩) w' ∧ RS w0 w w' db g o cap xs p := by
  have hn := refNumber_any x.toNat W (show x.toNat < 18446744073709551616 by omega)
  rw [show ((x.toNat : Nat) : Int) = x from by omega] at hn
  refine hn.mono ?_
  rintro e w' ⟨v, rfl, hown, hf⟩
  obtain ⟨ao, cp, rfl⟩ := slice_of_owns hown
  exact ⟨ao, cp, rfl, conv_row (base := W.heap.size) (r := (Value.slice ao (numF x.toNat).length cp).ownBlock) ⟨rfl, hown⟩, h.grow hf⟩

set_option maxRecDepth 100000 in
set_option maxHeartbeats 4000000 in
theorem refNum_full {w0 : World} (db : Nat) (ao : Option Addr) (cap : Nat) (xs l : List UInt8) (c : UInt8) (p n : Nat) (w : World) (hr : RR w0 w db ao cap xs p) (hlen : xs.length ≤ 900000000000) (h : xs.drop p = c :: l) (hc : c.toNat = 247 + n) (h1 : 1 ≤ n) (h8 : n ≤ 8) (hs : n ≤ l.length) :
    Calls Try.prog 33 #[.pointer (some ⟨db, 0, none⟩)] w fun e w' => RNum w0 w db ao cap xs p (if sz (val (l.take n)).toNat = 1 + n then (val (l.take n), 0, 1 + n) else (0, 111, 0)) e w' := by
  have hle := hr.le
  obtain ⟨hlt, hdp, hl⟩ := drop_cons h
  have hcv : xs[p] = c := by
    have := List.getElem_drop (xs := xs) (i := p) (j := 0) (h := by simp; omega)
    simp only [h] at this
    simpa using this.symm
  have hd : ¬ (xs.length : Int) - (p : Int) < 1 := by omega
  have H := hid h
  clear h hdp
  generalize hT : (if sz (val (l.take n)).toNat = 1 + n then (val (l.take n), (0 : Int), 1 + n) else (0, 111, 0)) = T
  have HT := hid hT
  clear hT
  go_enter Try.func33, Try.ntmps33
  go_wp2_with fail
  refine (refLeft_any db ao cap xs p _ hr hlen).mono ?_
  rintro e w1 ⟨rfl, k, rfl⟩
  have hr1 := hr.grow ((Frm.refl (fun _ => False) w).drewN k)
  have hf1 : Frm (fun k => k = db) w (w.drewN k) := (Frm.refl _ w).drewN k
  generalize w.drewN k = w1 at *
  clear hr
  obtain ⟨hc0, hc1, hz1⟩ := hr1.cells
  obtain ⟨g, o, hao, hcell⟩ := hr1.byte p hlt
  rw [hcv] at hcell
  clear hcv
  subst hao
  have b1 : (0 : Int) ≤ (p : Int) := by omega
  have b2 : (p : Int) < (xs.length : Int) := by omega
  go_wp2_with fail
  go_quiet (fail)
  have hr2 := hr1.grow ((Frm.refl (fun _ => False) w1).drewN nq)
  have hf2 := hf1.drewN nq
  generalize w1.drewN nq = w2 at *
  clear hr1 hf1 hc0 hc1 hz1 hcell
  have hci : (c.toNat : Int) = 247 + (n : Int) := by omega
  have hsub : 247 + (n : Int) - 247 = (n : Int) := by omega
  have hd2 : ¬ (xs.length : Int) - (p : Int) < 1 + (n : Int) := by omega
  go_wp2_with fail
  refine (refLeft_any db _ cap xs p _ hr2 hlen).mono ?_
  rintro e w3 ⟨rfl, k2, rfl⟩
  have hr3 := hr2.grow ((Frm.refl (fun _ => False) w2).drewN k2)
  have hf3 := hf2.drewN k2
  generalize w2.drewN k2 = w3 at *
  clear hr2 hf2
  go_wp2_with fail
  go_loopw [6, 7] (fun x i wr => ∃ j : Nat, j ≤ n ∧ i = .int .i64 ((j + 1 : Nat) : Int) ∧ x = .int .u64 (val (l.take j)) ∧ RR w0 wr db (some ⟨g, o, none⟩) cap xs p ∧ Frm (fun k => k = db) w wr) (fun _ i _ => n + 1 - (intOf i).toNat)
  case atStart => exact ⟨0, Nat.zero_le _, rfl, rfl, hr3, hf3⟩
  case round =>
    clear hr3 hf3
    obtain ⟨j, hj, rfl, rfl, hr4, hf4⟩ := hrel
    by_cases hlt2 : j < n
    · obtain ⟨hc0, hc1, hz1⟩ := hr4.cells
      have hpj : p + (j + 1) < xs.length := by omega
      obtain ⟨g', o', hao, hcell⟩ := hr4.byte (p + (j + 1)) hpj
      rw [drop_get H.out j (by omega) hpj] at hcell
      simp only [Option.some.injEq, Addr.mk.injEq] at hao
      obtain ⟨rfl, rfl, _⟩ := hao
      have hv0 := val_nonneg (l.take j)
      have hv7 := val7 (l.take j) (by rw [List.length_take]; omega)
      have hvs := val_snoc (l.take j) l[j]
      rw [← take_getElem_snoc l j (by omega)] at hvs
      have hcb := l[j].toNat_lt
      generalize val (l.take j) = y at *
      generalize l[j] = d at *
      have HV := hid hvs
      clear hvs
      have b3 : (0 : Int) ≤ (p : Int) + ((j : Int) + 1) := by omega
      have b4 : (p : Int) + ((j : Int) + 1) < (xs.length : Int) := by omega
      have hpn : ((p : Int) + ((j : Int) + 1)).toNat = p + (j + 1) := by omega
      go_wp2_with fail
      go_quiet (fail)
      have hr5 := hr4.grow ((Frm.refl (fun _ => False) wr).drewN nq)
      have hf5 := hf4.drewN nq
      clear hc0 hc1 hz1 hcell
      go_wp2
      go_roundw
      case rel => exact ⟨j + 1, by omega, by go_num, by rw [HV.out, Int.mul_comm], hr5, hf5⟩
      case measure => simp [intOf]; omega
    · obtain rfl : j = n := by omega
      have hv8 : (l.take j).length ≤ 8 := by rw [List.length_take]; omega
      have b3 : (p : Int) ≤ (p : Int) + 1 + (j : Int) := by omega
      have hcapx := hr4.src.le
      have b4 : (p : Int) + 1 + (j : Int) ≤ (cap : Int) := by omega
      have hw1 : IntKind.i64.wrap ((p : Int) + 1) = (p : Int) + 1 := by rw [IntKind.wrap_i64]; omega
      have hw2 : IntKind.i64.wrap ((p : Int) + 1 + (j : Int)) = (p : Int) + 1 + (j : Int) := by rw [IntKind.wrap_i64]; omega
      have hw3 : ((p : Int) + 1 + (j : Int)).toNat = p + 1 + j := by omega
      have hcp : ¬ cap = p := by omega
      have hw4 : p ≤ p + 1 + j := by omega
      have hfo := hid (form_iff c (l.take j) j (by rw [List.length_take]; omega) hc h1 h8)
      obtain ⟨bb, hbb⟩ : ∃ bb : Bool, (numF (val (l.take j)).toNat == c :: l.take j) = bb := ⟨_, rfl⟩
      have hcw := fun W (h : RS w0 w W db g o cap xs p) => rs_conv h H.out hs
      go_wp2_with fail
      have hS0 : RS w0 w wr.drew db g o cap xs p := ⟨hr4.grow ((Frm.refl _ _).drew), hf4.drew⟩
      refine wp_region_noPanic ?_
      refine wp_region_held_drew (S := fun W => RS w0 w W db g o cap xs p) (by kernel_rfl) hS0 (fun hHeld => ?_)
      generalize wr.drew = W1 at *
      clear hS0 hr4 hf4
      refine' wpAnyH_take (i := 0) rfl (by kernel_rfl) (by kernel_rfl) (by kernel_rfl) (fun _ _ _ h => h) (Or.inl ⟨by rfl, ?_⟩) hHeld ?_
      rotate_left
      · intro W hSw
        have hSv : RS w0 w W db g o cap xs p := hSw
        clear hSw
        simp only [List.getElem_toArray, List.getElem_cons_zero, List.getElem_cons_succ]
        go_simp
        all_goals with_reducible rfl
      simp only [List.getElem_toArray, List.getElem_cons_zero, List.getElem_cons_succ, Act.put, List.setIfInBounds_toArray, List.set_cons_zero, List.set_cons_succ]
      refine' wpAnyH_take (i := 3) rfl (by kernel_rfl) (by kernel_rfl) (by kernel_rfl) (fun _ _ _ h => h) (Or.inl ⟨by rfl, ?_⟩) hHeld ?_
      rotate_left
      · intro W hSw
        have hSv : RS w0 w W db g o cap xs p := hSw
        clear hSw
        simp only [List.getElem_toArray, List.getElem_cons_zero, List.getElem_cons_succ]
        go_simp
        all_goals with_reducible rfl
      simp only [List.getElem_toArray, List.getElem_cons_zero, List.getElem_cons_succ, Act.put, List.setIfInBounds_toArray, List.set_cons_zero, List.set_cons_succ]
      refine' wpAnyH_take (i := 4) rfl (by kernel_rfl) (by kernel_rfl) (by kernel_rfl) (fun _ _ _ h => h) (Or.inl ⟨by rfl, ?_⟩) hHeld ?_
      rotate_left
      · intro W hSw
        have hSv : RS w0 w W db g o cap xs p := hSw
        clear hSw
        simp only [List.getElem_toArray, List.getElem_cons_zero, List.getElem_cons_succ]
        go_simp
        all_goals with_reducible rfl
      simp only [List.getElem_toArray, List.getElem_cons_zero, List.getElem_cons_succ, Act.put, List.setIfInBounds_toArray, List.set_cons_zero, List.set_cons_succ]
      refine' wpAnyH_take (i := 5) rfl (by kernel_rfl) (by kernel_rfl) (by kernel_rfl) (fun _ _ _ h => h) (Or.inl ⟨by rfl, ?_⟩) hHeld ?_
      rotate_left
      · intro W hSw
        have hSv : RS w0 w W db g o cap xs p := hSw
        clear hSw
        simp only [List.getElem_toArray, List.getElem_cons_zero, List.getElem_cons_succ]
        go_simp
        all_goals with_reducible rfl
      simp only [List.getElem_toArray, List.getElem_cons_zero, List.getElem_cons_succ, Act.put, List.setIfInBounds_toArray, List.set_cons_zero, List.set_cons_succ]
      refine' wpAnyH_take (i := 6) rfl (by kernel_rfl) (by kernel_rfl) (by kernel_rfl) (fun _ _ _ h => h) (Or.inl ⟨by rfl, ?_⟩) hHeld ?_
      rotate_left
      · intro W hSw
        have hSv : RS w0 w W db g o cap xs p := hSw
        clear hSw
        obtain ⟨sc0, sc1, _⟩ := hSv.rr.cells
        simp only [List.getElem_toArray, List.getElem_cons_zero, List.getElem_cons_succ]
        go_simp
        all_goals with_reducible rfl
      simp only [List.getElem_toArray, List.getElem_cons_zero, List.getElem_cons_succ, Act.put, List.setIfInBounds_toArray, List.set_cons_zero, List.set_cons_succ]
      refine' wpAnyH_take (i := 7) rfl (by kernel_rfl) (by kernel_rfl) (by kernel_rfl) (fun _ _ _ h => h) (Or.inl ⟨by rfl, ?_⟩) hHeld ?_
      rotate_left
      · intro W hSw
        have hSv : RS w0 w W db g o cap xs p := hSw
        clear hSw
        simp only [List.getElem_toArray, List.getElem_cons_zero, List.getElem_cons_succ]
        go_simp
        all_goals with_reducible rfl
      simp only [List.getElem_toArray, List.getElem_cons_zero, List.getElem_cons_succ, Act.put, List.setIfInBounds_toArray, List.set_cons_zero, List.set_cons_succ]
      refine' wpAnyH_take (i := 8) rfl (by kernel_rfl) (by kernel_rfl) (by kernel_rfl) (fun _ _ _ h => h) (Or.inl ⟨by rfl, ?_⟩) hHeld ?_
      rotate_left
      · intro W hSw
        have hSv : RS w0 w W db g o cap xs p := hSw
        clear hSw
        simp only [List.getElem_toArray, List.getElem_cons_zero, List.getElem_cons_succ]
        go_simp
        all_goals with_reducible rfl
      simp only [List.getElem_toArray, List.getElem_cons_zero, List.getElem_cons_succ, Act.put, List.setIfInBounds_toArray, List.set_cons_zero, List.set_cons_succ]
      refine' wpAnyH_take (i := 9) rfl (by kernel_rfl) (by kernel_rfl) (by kernel_rfl) (fun _ _ _ h => h) (Or.inl ⟨by rfl, ?_⟩) hHeld ?_
      rotate_left
      · intro W hSw
        have hSv : RS w0 w W db g o cap xs p := hSw
        clear hSw
        simp only [List.getElem_toArray, List.getElem_cons_zero, List.getElem_cons_succ]
        go_simp
        all_goals with_reducible rfl
      simp only [List.getElem_toArray, List.getElem_cons_zero, List.getElem_cons_succ, Act.put, List.setIfInBounds_toArray, List.set_cons_zero, List.set_cons_succ]
      refine' wpAnyH_take (i := 10) rfl (by kernel_rfl) (by kernel_rfl) (by kernel_rfl) (fun _ _ _ h => h) (Or.inl ⟨by rfl, ?_⟩) hHeld ?_
      rotate_left
      · intro W hSw
        have hSv : RS w0 w W db g o cap xs p := hSw
        clear hSw
        obtain ⟨sc0, sc1, _⟩ := hSv.rr.cells
        simp only [List.getElem_toArray, List.getElem_cons_zero, List.getElem_cons_succ]
        go_simp
        all_goals with_reducible rfl
      simp only [List.getElem_toArray, List.getElem_cons_zero, List.getElem_cons_succ, Act.put, List.setIfInBounds_toArray, List.set_cons_zero, List.set_cons_succ]
      refine' wpAnyH_take (i := 11) rfl (by kernel_rfl) (by kernel_rfl) (by kernel_rfl) (fun _ _ _ h => h) (Or.inl ⟨by rfl, ?_⟩) hHeld ?_
      rotate_left
      · intro W hSw
        have hSv : RS w0 w W db g o cap xs p := hSw
        clear hSw
        simp only [List.getElem_toArray, List.getElem_cons_zero, List.getElem_cons_succ]
        go_simp
        all_goals with_reducible rfl
      simp only [List.getElem_toArray, List.getElem_cons_zero, List.getElem_cons_succ, Act.put, List.setIfInBounds_toArray, List.set_cons_zero, List.set_cons_succ]
      refine' wpAnyH_take (i := 12) rfl (by kernel_rfl) (by kernel_rfl) (by kernel_rfl) (fun _ _ _ h => h) (Or.inl ⟨by rfl, ?_⟩) hHeld ?_
      rotate_left
      · intro W hSw
        have hSv : RS w0 w W db g o cap xs p := hSw
        clear hSw
        simp only [List.getElem_toArray, List.getElem_cons_zero, List.getElem_cons_succ]
        go_simp
        all_goals with_reducible rfl
      simp only [List.getElem_toArray, List.getElem_cons_zero, List.getElem_cons_succ, Act.put, List.setIfInBounds_toArray, List.set_cons_zero, List.set_cons_succ]
      refine' wpAnyH_take (i := 13) rfl (by kernel_rfl) (by kernel_rfl) (by kernel_rfl) (fun _ _ _ h => h) (Or.inl ⟨by rfl, ?_⟩) hHeld ?_
      rotate_left
      · intro W hSw
        have hSv : RS w0 w W db g o cap xs p := hSw
        clear hSw
        simp only [List.getElem_toArray, List.getElem_cons_zero, List.getElem_cons_succ]
        go_simp
        all_goals with_reducible rfl
      simp only [List.getElem_toArray, List.getElem_cons_zero, List.getElem_cons_succ, Act.put, List.setIfInBounds_toArray, List.set_cons_zero, List.set_cons_succ]
      refine' wpAnyH_take (i := 14) rfl (by kernel_rfl) (by kernel_rfl) (by kernel_rfl) (fun _ _ _ h => h) (Or.inl ⟨by rfl, ?_⟩) hHeld ?_
      rotate_left
      · intro W hSw
        have hSv : RS w0 w W db g o cap xs p := hSw
        clear hSw
        obtain ⟨sc0, sc1, _⟩ := hSv.rr.cells
        simp only [List.getElem_toArray, List.getElem_cons_zero, List.getElem_cons_succ]
        go_simp
        all_goals with_reducible rfl
      simp only [List.getElem_toArray, List.getElem_cons_zero, List.getElem_cons_succ, Act.put, List.setIfInBounds_toArray, List.set_cons_zero, List.set_cons_succ]
      refine' wpAnyH_take (i := 15) rfl (by kernel_rfl) (by kernel_rfl) (by kernel_rfl) (fun _ _ _ h => h) (Or.inl ⟨by rfl, ?_⟩) hHeld ?_
      rotate_left
      · intro W hSw
        have hSv : RS w0 w W db g o cap xs p := hSw
        clear hSw
        simp only [List.getElem_toArray, List.getElem_cons_zero, List.getElem_cons_succ]
        go_simp
        all_goals with_reducible rfl
      simp only [List.getElem_toArray, List.getElem_cons_zero, List.getElem_cons_succ, Act.put, List.setIfInBounds_toArray, List.set_cons_zero, List.set_cons_succ]
      refine' wpAnyH_take (i := 16) rfl (by kernel_rfl) (by kernel_rfl) (by kernel_rfl) (fun _ _ _ h => h) (Or.inl ⟨by rfl, ?_⟩) hHeld ?_
      rotate_left
      · intro W hSw
        have hSv : RS w0 w W db g o cap xs p := hSw
        clear hSw
        simp only [List.getElem_toArray, List.getElem_cons_zero, List.getElem_cons_succ]
        go_simp
        all_goals with_reducible rfl
      simp only [List.getElem_toArray, List.getElem_cons_zero, List.getElem_cons_succ, Act.put, List.setIfInBounds_toArray, List.set_cons_zero, List.set_cons_succ]
      refine' wpAnyH_take (i := 17) rfl (by kernel_rfl) (by kernel_rfl) (by kernel_rfl) (fun _ _ _ h => h) (Or.inl ⟨by rfl, ?_⟩) hHeld ?_
      rotate_left
      · intro W hSw
        have hSv : RS w0 w W db g o cap xs p := hSw
        clear hSw
        simp only [List.getElem_toArray, List.getElem_cons_zero, List.getElem_cons_succ]
        go_simp
        all_goals with_reducible rfl
      simp only [List.getElem_toArray, List.getElem_cons_zero, List.getElem_cons_succ, Act.put, List.setIfInBounds_toArray, List.set_cons_zero, List.set_cons_succ]
      refine' wpAnyH_take (i := 18) rfl (by kernel_rfl) (by kernel_rfl) (by kernel_rfl) (fun _ _ _ h => h) (Or.inl ⟨by rfl, ?_⟩) hHeld ?_
      rotate_left
      · intro W hSw
        have hSv : RS w0 w W db g o cap xs p := hSw
        clear hSw
        simp only [List.getElem_toArray, List.getElem_cons_zero, List.getElem_cons_succ]
        go_simp
        all_goals with_reducible rfl
      simp only [List.getElem_toArray, List.getElem_cons_zero, List.getElem_cons_succ, Act.put, List.setIfInBounds_toArray, List.set_cons_zero, List.set_cons_succ]
      refine' wpAnyH_take (i := 19) rfl (by kernel_rfl) (by kernel_rfl) (by kernel_rfl) (fun _ _ _ h => h) (Or.inl ⟨by rfl, ?_⟩) hHeld ?_
      rotate_left
      · intro W hSw
        have hSv : RS w0 w W db g o cap xs p := hSw
        clear hSw
        simp only [List.getElem_toArray, List.getElem_cons_zero, List.getElem_cons_succ]
        go_simp
        all_goals with_reducible rfl
      simp only [List.getElem_toArray, List.getElem_cons_zero, List.getElem_cons_succ, Act.put, List.setIfInBounds_toArray, List.set_cons_zero, List.set_cons_succ]
      refine wpAnyH_ready (rs := [1]) (by kernel_rfl) (by simp) ?_
      refine AllReadyH.cons (o := _) rfl (fun K hK => ?_) AllReadyH.nil
      simp only [List.getElem_toArray, List.getElem_cons_zero, List.getElem_cons_succ]
      go_simp
      refine (rs_number hHeld (val_nonneg _) (val8 _ hv8)).mono ?_
      rintro e w1 ⟨ao, cp, rfl, hcb, hk1⟩
      refine hK.out _ _ hk1 (fun _ => ?_)
      clear hHeld
      have hHeld := hk1
      clear hk1
      clear hK K
      try simp only [Act.put, List.setIfInBounds_toArray, List.set_cons_zero, List.set_cons_succ]
      refine wpAnyH_ready (rs := [2]) (by kernel_rfl) (by simp) ?_
      refine AllReadyH.cons (o := _) rfl (fun K hK => ?_) AllReadyH.nil
      simp only [List.getElem_toArray, List.getElem_cons_zero, List.getElem_cons_succ]
      go_simp
      refine hK.out _ _ hHeld (fun _ => ?_)
      clear hK K
      try simp only [Act.put, List.setIfInBounds_toArray, List.set_cons_zero, List.set_cons_succ]
      refine' wpAnyH_take (i := 20) rfl (by kernel_rfl) (by kernel_rfl) (by kernel_rfl) (fun _ _ _ h => h) (Or.inl ⟨by rfl, ?_⟩) hHeld ?_
      rotate_left
      · intro W hSw
        have hSv : RS w0 w W db g o cap xs p := hSw
        clear hSw
        simp only [List.getElem_toArray, List.getElem_cons_zero, List.getElem_cons_succ]
        go_simp
        all_goals with_reducible rfl
      simp only [List.getElem_toArray, List.getElem_cons_zero, List.getElem_cons_succ, Act.put, List.setIfInBounds_toArray, List.set_cons_zero, List.set_cons_succ]
      refine wpAnyH_done (by kernel_rfl) ?_ _
      refine NoPanic.normal ?_
      clear hcw H hv8
      cases bb
      · have hz : ¬ sz (val (l.take j)).toNat = 1 + j := by have hq := hfo.out; rw [hbb] at hq; exact of_decide_eq_false hq.symm
        obtain rfl : T = (0, 111, 0) := by rw [← HT.out, if_neg hz]
        clear HT hz hbb hfo
        go_wp2
        go_ret2
        exact ⟨rfl, hHeld.rr, hHeld.fr⟩
      · have hz : sz (val (l.take j)).toNat = 1 + j := by have hq := hfo.out; rw [hbb] at hq; exact of_decide_eq_true hq.symm
        obtain rfl : T = (val (l.take j), 0, 1 + j) := by rw [← HT.out, if_pos hz]
        obtain ⟨sc0, sc1, sz1⟩ := hHeld.rr.cells
        have hst := hid (hHeld.rr.set (q := p + 1 + j) (by omega))
        have hfr := hHeld.fr
        clear HT hz hbb hfo
        go_wp2
        go_ret2
        refine ⟨rfl, ?_, hfr.trans hst.out.2 (fun _ _ h => h)⟩
        rw [← Nat.add_assoc]
        exact hst.out.1

theorem refNum_any {w0 : World} (db : Nat) (ao : Option Addr) (cap : Nat) (xs : List UInt8) (p : Nat) (w : World) (hr : RR w0 w db ao cap xs p) (hlen : xs.length ≤ 900000000000) :
    Calls Try.prog 33 #[.pointer (some ⟨db, 0, none⟩)] w fun e w' => RNum w0 w db ao cap xs p (rdNum (xs.drop p)) e w' := by
  cases h : xs.drop p with
  | nil => exact refNum_end db ao cap xs p w hr hlen h
  | cons c l =>
    have hcb := c.toNat_lt
    by_cases h1 : c.toNat ≤ 247
    · rw [show rdNum (c :: l) = ((c.toNat : Int), 0, 1) from by simp only [rdNum]; rw [if_pos h1]]
      exact refNum_one db ao cap xs l c p w hr hlen h h1
    · by_cases h2 : l.length < c.toNat - 247
      · rw [show rdNum (c :: l) = (0, 110, 0) from by simp only [rdNum]; rw [if_neg h1, if_pos h2]]
        exact refNum_short db ao cap xs l c p w hr hlen h h1 h2
      · rw [show rdNum (c :: l) = (if sz (val (l.take (c.toNat - 247))).toNat = 1 + (c.toNat - 247) then (val (l.take (c.toNat - 247)), 0, 1 + (c.toNat - 247)) else (0, 111, 0)) from by simp only [rdNum]; rw [if_neg h1, if_neg h2]]
        exact refNum_full db ao cap xs l c p (c.toNat - 247) w hr hlen h (by omega) (by omega) (by omega) (by omega)

end Go.Proofs.Ytchjkcghaddmhaa
