/- The document's reading of a text, walked; GoodsTexts. -/
import Derived.Test.YtgbdnlpdicmaaaaDoorG17
namespace Go.Proofs.YtgbdnlpdicmaaaaDoor
open Go.RowKit

theorem run_byte (x : List UInt8) (k : Nat) (h : k < x.length) (w : World) : (Instr.index 9 (.string ⟨x.toArray⟩) (.int .i64 (k : Int))).run Tryd.prog w = .ok (.int .u8 (x[k].toNat : Int)) w := by
  rw [run_index_string _ _ _ _ _ Tryd.underlying9, dif_pos ⟨by omega, by simp [ByteArray.size]; exact h⟩]
  rfl

/-- Where the reading stands. -/
def scK (x : List UInt8) (k : Nat) : Sc := if k ≤ x.length then runS (0, false, []) (x.take k) else (0, false, outS (runS (0, false, []) x))
theorem scK_succ {x : List UInt8} {k : Nat} (h : k < x.length) : scK x (k + 1) = stepS (scK x k) x[k] := by
  unfold scK
  rw [if_pos (by omega), if_pos (by omega), List.take_add_one, List.getElem?_eq_getElem h, runS_append]
  rfl
theorem scK_end (x : List UInt8) : scK x (x.length + 1) = (0, false, outS (scK x x.length)) := by
  unfold scK
  rw [if_neg (by omega), if_pos (Nat.le_refl _), List.take_length]
theorem scK_small (x : List UInt8) : ∀ k, (scK x k).1 < 1000
  | 0 => by simp [scK, runS]
  | k + 1 => by
    by_cases h : k < x.length
    · rw [scK_succ h]
      unfold stepS
      split
      · have := (x[k]).toNat_lt
        simp only
        omega
      · show 0 < 1000; omega
    · unfold scK
      rw [if_neg (by omega)]
      show 0 < 1000; omega
theorem scK_len (x : List UInt8) : ∀ k, (scK x k).2.2.length ≤ k
  | 0 => by simp [scK, runS]
  | k + 1 => by
    have ho : ∀ t : Sc, (outS t).length ≤ t.2.2.length + 1 := fun t => by unfold outS; split <;> simp
    by_cases h : k < x.length
    · have := scK_len x k
      rw [scK_succ h]
      unfold stepS
      split
      · simp only; omega
      · have := ho (scK x k); simp only; omega
    · by_cases h2 : k = x.length
      · subst h2
        have := scK_len x x.length
        have := ho (scK x x.length)
        rw [scK_end]
        simp only
        omega
      · have e : scK x (k + 1) = scK x k := by
          unfold scK
          rw [if_neg (by omega), if_neg (by omega)]
        have := scK_len x k
        rw [e]
        omega


set_option maxRecDepth 100000 in
set_option maxHeartbeats 4000000 in
theorem rparse_any (x : List UInt8) (hx : x.length ≤ 140737488355328) (w : World) : Calls Tryd.prog 29 #[.string ⟨x.toArray⟩] w fun e w' => e = .returned (.tuple #[.int .u32 ((refZ x).1 : Int), .int .i64 (refZ x).2]) ∧ Old w w' := by
  obtain ⟨i3, hi, hz0, hz1, hz2⟩ := info_parts info3
  have hI := hid (fun i (h : i < x.length) => run_byte x i h)
  obtain ⟨sx, hsx⟩ : ∃ s : ByteArray, (⟨x.toArray⟩ : ByteArray) = s := ⟨_, rfl⟩
  have hzx : sx.size = x.length := by rw [← hsx]; simp [ByteArray.size]
  simp only [hsx] at hI
  have ksx := hid hsx
  rw [hsx]
  clear hsx
  by_cases h200 : x.length > 200
  · have kz : Hid (refZ x = (0, 171)) := by
      show refZ x = _
      rw [refZ, if_pos h200]
    have h2 : (x.length : Int) > 200 := by omega
    go_enter Tryd.func29, Tryd.ntmps29
    go_wp2_with fail
    go_ret2
    rw [kz.out]
    exact ⟨rfl, Old.refl _⟩
  · have h2 : ¬ (x.length : Int) > 200 := by omega
    go_enter Tryd.func29, Tryd.ntmps29
    go_wp2_with fail
    go_loopw [4, 5, 6, 7] (fun vr vn va t wr => ∃ (k n : Nat) (a : Bool) (l : List Nat), k ≤ x.length + 1 ∧ t = .int .i64 (k : Int) ∧ vn = .int .i64 (n : Int) ∧ va = .bool a ∧ Hid (scK x k = (n, a, l)) ∧ wr.ownsRow w.heap.size 3 1 vr l.length (natsV l) ∧ Below w.heap.size w wr) (fun _ _ _ t _ => x.length + 1 - (intOf t).toNat)
    case atStart => exact ⟨0, 0, false, [], by omega, rfl, rfl, rfl, by show _ = _; simp [scK, runS], ⟨rfl, Or.inl ⟨rfl, rfl⟩⟩, Below.refl _ _⟩
    case round =>
      obtain ⟨k, n, a, l, hk, rfl, rfl, rfl, hst, hrow, hB⟩ := hrel
      have hsz := hB.size
      have kB := hid hB
      clear hB
      have hn1000 : n < 1000 := by have := scK_small x k; rw [hst.out] at this; exact this
      have hll : l.length ≤ k := by have := scK_len x k; rw [hst.out] at this; exact this
      by_cases hkl : k ≤ x.length
      · have hkl' : (k : Int) ≤ (x.length : Int) := by omega
        have kout : Hid (∀ y, scK x (k + 1) = (0, false, outS (n, a, l)) → y = k + 1 → scK x y = (0, false, outS (n, a, l))) := fun y h e => by rw [e]; exact h
        -- a digit?
        by_cases hdig : k < x.length ∧ 48 ≤ (x.getD k 0).toNat ∧ (x.getD k 0).toNat ≤ 57 ∧ n < 100
        · obtain ⟨hlt, hd1, hd2, hn⟩ := hdig
          have hlt' : (k : Int) < (x.length : Int) := by omega
          have xi := hI.out k hlt
          have he : x.getD k 0 = x[k] := by rw [List.getD_eq_getElem?_getD, List.getElem?_eq_getElem hlt]; rfl
          rw [he] at hd1 hd2
          have ks : Hid (scK x (k + 1) = (10 * n + (x[k].toNat - 48), true, l)) := by
            show _ = _
            rw [scK_succ hlt, hst.out, stepS, if_pos ⟨hd1, hd2, hn⟩]
          have hn' : (n : Int) < 100 := by omega
          obtain ⟨d, hd⟩ : ∃ d, x[k].toNat = d := ⟨_, rfl⟩
          rw [hd] at xi hd1 hd2 ks
          have hd1' : (48 : Int) ≤ (d : Int) := by omega
          have hd2' : (d : Int) ≤ 57 := by omega
          clear he hd
          go_wp2_with fail
          go_roundw
          case rel => exact ⟨k + 1, 10 * n + (d - 48), true, l, by omega, by go_num, by congr 1; omega, rfl, ks, hrow, kB.out⟩
          case measure => simp [intOf]; omega
        · have ks : Hid (scK x (k + 1) = (0, false, outS (n, a, l))) := by
            show _ = _
            by_cases hlt : k < x.length
            · have he : x.getD k 0 = x[k] := by rw [List.getD_eq_getElem?_getD, List.getElem?_eq_getElem hlt]; rfl
              rw [he] at hdig
              rw [scK_succ hlt, hst.out, stepS, if_neg (fun h => hdig ⟨hlt, h⟩)]
            · obtain rfl : k = x.length := by omega
              rw [scK_end, hst.out]
          -- which of the looks says no
          have hguard : (¬ k < x.length) ∨ (∃ h : k < x.length, ¬ 48 ≤ x[k].toNat) ∨ (∃ h : k < x.length, 48 ≤ x[k].toNat ∧ ¬ x[k].toNat ≤ 57) ∨ (∃ h : k < x.length, 48 ≤ x[k].toNat ∧ x[k].toNat ≤ 57 ∧ ¬ n < 100) := by
            by_cases hlt : k < x.length
            · have he : x.getD k 0 = x[k] := by rw [List.getD_eq_getElem?_getD, List.getElem?_eq_getElem hlt]; rfl
              rw [he] at hdig
              by_cases g1 : 48 ≤ x[k].toNat
              · by_cases g2 : x[k].toNat ≤ 57
                · exact Or.inr (Or.inr (Or.inr ⟨hlt, g1, g2, fun g3 => hdig ⟨hlt, g1, g2, g3⟩⟩))
                · exact Or.inr (Or.inr (Or.inl ⟨hlt, g1, g2⟩))
              · exact Or.inr (Or.inl ⟨hlt, g1⟩)
            · exact Or.inl hlt
          clear hdig kout
          rcases hguard with hg | ⟨hlt, hg⟩ | ⟨hlt, g1, hg⟩ | ⟨hlt, g1, g2, hg⟩
          · have hlt' : ¬ (k : Int) < (x.length : Int) := by omega
            clear hg
            cases a
            · have ko : Hid (scK x (k + 1) = (0, false, l)) := ks
              go_wp2_with fail
              go_roundw
              case rel => exact ⟨k + 1, 0, false, l, by omega, by go_num, rfl, rfl, ko, hrow, kB.out⟩
              case measure => simp [intOf]; omega
            · by_cases h32 : n < 32
              · have ko : Hid (scK x (k + 1) = (0, false, l ++ [n])) := by
                  show _ = _
                  rw [ks.out]
                  simp [outS, h32]
                have h32' : (n : Int) < 32 := by omega
                obtain ⟨ar, cr, rfl⟩ := nats_slice hrow
                go_wp2_with (at_builtin; refine wpList_append_lies _ rfl _ _ 22 rfl w.heap.size 3 i3 (.int .i64 0) 1 8 Tryd.underlying22 hi hz0 hz1 hz2 rfl (by decide) _ _ _ rfl (hrow.alloc _) ⟨wr.heap.size, 0, none⟩ 1 1 [.int .i64 (n : Int)] rfl rfl ?pc1 ?pc2 (by decide) ?pc3 ?pc4 ?pc5 _ rfl ?_)
                all_goals try (first
                  | (intro j u hj; match j, hj with | 0, hj => (simp at hj; subst hj; simp [Addr.add]))
                  | (intro u hu; simp at hu; subst hu; rfl)
                  | (unfold maxLen; omega)
                  | omega
                  | rfl
                  | (simp; omega))
                intro g2 cap' w2 hown2 hgrow hat hlt2
                have hb3 : Hid (Below w.heap.size w w2) := ((kB.out.alloc hsz _).grown hgrow (by simp; omega) (fun k hk => (hrow.lt k hk).1))
                have kow := hid hown2
                clear hown2 hgrow hat
                go_wp2_with fail
                go_roundw
                case rel =>
                  refine ⟨k + 1, 0, false, l ++ [n], by omega, by go_num, rfl, rfl, ko, ?_, hb3.out⟩
                  rw [List.length_append]
                  have : natsV (l ++ [n]) = natsV l ++ [.int .i64 (n : Int)] := by simp [natsV]
                  rw [this]
                  exact kow.out
                case measure => simp [intOf]; omega
              · have ko : Hid (scK x (k + 1) = (0, false, l)) := by
                  show _ = _
                  rw [ks.out]
                  simp [outS, h32]
                have h32' : ¬ (n : Int) < 32 := by omega
                go_wp2_with fail
                go_roundw
                case rel => exact ⟨k + 1, 0, false, l, by omega, by go_num, rfl, rfl, ko, hrow, kB.out⟩
                case measure => simp [intOf]; omega
          · have hlt' : (k : Int) < (x.length : Int) := by omega
            have xi := hI.out k hlt
            obtain ⟨d, hd⟩ : ∃ d, x[k].toNat = d := ⟨_, rfl⟩
            rw [hd] at xi hg
            have hd1' : ¬ (d : Int) ≥ 48 := by omega
            clear hd hg
            cases a
            · have ko : Hid (scK x (k + 1) = (0, false, l)) := ks
              go_wp2_with fail
              go_roundw
              case rel => exact ⟨k + 1, 0, false, l, by omega, by go_num, rfl, rfl, ko, hrow, kB.out⟩
              case measure => simp [intOf]; omega
            · by_cases h32 : n < 32
              · have ko : Hid (scK x (k + 1) = (0, false, l ++ [n])) := by
                  show _ = _
                  rw [ks.out]
                  simp [outS, h32]
                have h32' : (n : Int) < 32 := by omega
                obtain ⟨ar, cr, rfl⟩ := nats_slice hrow
                go_wp2_with (at_builtin; refine wpList_append_lies _ rfl _ _ 22 rfl w.heap.size 3 i3 (.int .i64 0) 1 8 Tryd.underlying22 hi hz0 hz1 hz2 rfl (by decide) _ _ _ rfl (hrow.alloc _) ⟨wr.heap.size, 0, none⟩ 1 1 [.int .i64 (n : Int)] rfl rfl ?qc1 ?qc2 (by decide) ?qc3 ?qc4 ?qc5 _ rfl ?_)
                all_goals try (first
                  | (intro j u hj; match j, hj with | 0, hj => (simp at hj; subst hj; simp [Addr.add]))
                  | (intro u hu; simp at hu; subst hu; rfl)
                  | (unfold maxLen; omega)
                  | omega
                  | rfl
                  | (simp; omega))
                intro g2 cap' w2 hown2 hgrow hat hlt2
                have hb3 : Hid (Below w.heap.size w w2) := ((kB.out.alloc hsz _).grown hgrow (by simp; omega) (fun k hk => (hrow.lt k hk).1))
                have kow := hid hown2
                clear hown2 hgrow hat
                go_wp2_with fail
                go_roundw
                case rel =>
                  refine ⟨k + 1, 0, false, l ++ [n], by omega, by go_num, rfl, rfl, ko, ?_, hb3.out⟩
                  rw [List.length_append]
                  have : natsV (l ++ [n]) = natsV l ++ [.int .i64 (n : Int)] := by simp [natsV]
                  rw [this]
                  exact kow.out
                case measure => simp [intOf]; omega
              · have ko : Hid (scK x (k + 1) = (0, false, l)) := by
                  show _ = _
                  rw [ks.out]
                  simp [outS, h32]
                have h32' : ¬ (n : Int) < 32 := by omega
                go_wp2_with fail
                go_roundw
                case rel => exact ⟨k + 1, 0, false, l, by omega, by go_num, rfl, rfl, ko, hrow, kB.out⟩
                case measure => simp [intOf]; omega
          · have hlt' : (k : Int) < (x.length : Int) := by omega
            have xi := hI.out k hlt
            obtain ⟨d, hd⟩ : ∃ d, x[k].toNat = d := ⟨_, rfl⟩
            rw [hd] at xi hg g1
            have hd1' : (d : Int) ≥ 48 := by omega
            have hd2' : ¬ (d : Int) ≤ 57 := by omega
            clear hd hg g1
            cases a
            · have ko : Hid (scK x (k + 1) = (0, false, l)) := ks
              go_wp2_with fail
              go_roundw
              case rel => exact ⟨k + 1, 0, false, l, by omega, by go_num, rfl, rfl, ko, hrow, kB.out⟩
              case measure => simp [intOf]; omega
            · by_cases h32 : n < 32
              · have ko : Hid (scK x (k + 1) = (0, false, l ++ [n])) := by
                  show _ = _
                  rw [ks.out]
                  simp [outS, h32]
                have h32' : (n : Int) < 32 := by omega
                obtain ⟨ar, cr, rfl⟩ := nats_slice hrow
                go_wp2_with (at_builtin; refine wpList_append_lies _ rfl _ _ 22 rfl w.heap.size 3 i3 (.int .i64 0) 1 8 Tryd.underlying22 hi hz0 hz1 hz2 rfl (by decide) _ _ _ rfl (hrow.alloc _) ⟨wr.heap.size, 0, none⟩ 1 1 [.int .i64 (n : Int)] rfl rfl ?rc1 ?rc2 (by decide) ?rc3 ?rc4 ?rc5 _ rfl ?_)
                all_goals try (first
                  | (intro j u hj; match j, hj with | 0, hj => (simp at hj; subst hj; simp [Addr.add]))
                  | (intro u hu; simp at hu; subst hu; rfl)
                  | (unfold maxLen; omega)
                  | omega
                  | rfl
                  | (simp; omega))
                intro g2 cap' w2 hown2 hgrow hat hlt2
                have hb3 : Hid (Below w.heap.size w w2) := ((kB.out.alloc hsz _).grown hgrow (by simp; omega) (fun k hk => (hrow.lt k hk).1))
                have kow := hid hown2
                clear hown2 hgrow hat
                go_wp2_with fail
                go_roundw
                case rel =>
                  refine ⟨k + 1, 0, false, l ++ [n], by omega, by go_num, rfl, rfl, ko, ?_, hb3.out⟩
                  rw [List.length_append]
                  have : natsV (l ++ [n]) = natsV l ++ [.int .i64 (n : Int)] := by simp [natsV]
                  rw [this]
                  exact kow.out
                case measure => simp [intOf]; omega
              · have ko : Hid (scK x (k + 1) = (0, false, l)) := by
                  show _ = _
                  rw [ks.out]
                  simp [outS, h32]
                have h32' : ¬ (n : Int) < 32 := by omega
                go_wp2_with fail
                go_roundw
                case rel => exact ⟨k + 1, 0, false, l, by omega, by go_num, rfl, rfl, ko, hrow, kB.out⟩
                case measure => simp [intOf]; omega
          · have hlt' : (k : Int) < (x.length : Int) := by omega
            have xi := hI.out k hlt
            obtain ⟨d, hd⟩ : ∃ d, x[k].toNat = d := ⟨_, rfl⟩
            rw [hd] at xi g1 g2
            have hd1' : (d : Int) ≥ 48 := by omega
            have hd2' : (d : Int) ≤ 57 := by omega
            have hn' : ¬ (n : Int) < 100 := by omega
            clear hd hg g1 g2
            have h32 : ¬ n < 32 := by omega
            have h32' : ¬ (n : Int) < 32 := by omega
            have ko : Hid (scK x (k + 1) = (0, false, l)) := by
              show _ = _
              rw [ks.out]
              simp [outS, h32]
            clear h32
            cases a
            · go_wp2_with fail
              go_roundw
              case rel => exact ⟨k + 1, 0, false, l, by omega, by go_num, rfl, rfl, ko, hrow, kB.out⟩
              case measure => simp [intOf]; omega
            · go_wp2_with fail
              go_roundw
              case rel => exact ⟨k + 1, 0, false, l, by omega, by go_num, rfl, rfl, ko, hrow, kB.out⟩
              case measure => simp [intOf]; omega
      · obtain rfl : k = x.length + 1 := by omega
        have hl : Hid (l = outS (runS (0, false, []) x)) := by
          have := hst.out
          unfold scK at this
          rw [if_neg (by omega)] at this
          exact (congrArg (fun t : Sc => t.2.2) this).symm
        have hkl' : ¬ ((x.length + 1 : Nat) : Int) ≤ (x.length : Int) := by omega
        obtain ⟨ar, cr, hvr, hnum, -⟩ := owns_listOf hrow
        subst hvr
        have kO := hid (rof_any ar cr (nums l) wr hnum (by rw [nums_len]; omega))
        rw [nums_len] at kO
        have krs : Hid ((ofZ (nums l)).1 = refSet x) := by
          show _ = _
          rw [hl.out]
          rfl
        have hrs := refSet_lt x
        rw [krs.out] at kO
        have kT := hid (fun W => rtext_any (refSet x) hrs W)
        have krz : Hid (refZ x = if textL (refSet x) = x then (refSet x, 0) else (0, 171)) := by
          show refZ x = _
          rw [refZ, if_neg h200]
        clear hnum hrow
        generalize (ofZ (nums l)).2 = z2 at *
        generalize refSet x = rs at *
        go_wp2_with fail
        refine kO.out.mono ?_
        rintro e w5 ⟨rfl, e5⟩
        rw [e5]
        clear e5 w5
        go_wp2_with fail
        refine (kT.out _).mono ?_
        rintro e w6 ⟨rfl, o6⟩
        have ko6 := hid o6
        clear o6
        by_cases hxt : textL rs = x
        · have hpz : Hid (refZ x = (rs, 0)) := by
            show refZ x = _
            rw [krz.out, if_pos hxt]
          rw [hxt, ← ksx.out]
          have hq : (x == x) = true := by simp
          go_wp2_with fail
          go_ret2
          rw [hpz.out]
          exact ⟨rfl, (Old.of_below kB.out).trans ko6.out⟩
        · have hpz : Hid (refZ x = (0, 171)) := by
            show refZ x = _
            rw [krz.out, if_neg hxt]
          have hq : (textL rs == x) = false := by simpa using hxt
          rw [← ksx.out]
          clear hxt
          go_wp2_with fail
          go_ret2
          rw [hpz.out]
          exact ⟨rfl, (Old.of_below kB.out).trans ko6.out⟩

set_option maxRecDepth 100000 in
set_option maxHeartbeats 4000000 in
theorem texts_walk (s : Nat) (x : List UInt8) (hs : s < 4294967296) (hx : x.length ≤ 140737488355328) (w : World) (hT : Tabs w) :
    Calls Tryd.prog 5 #[.int .u32 (s : Int), .string ⟨x.toArray⟩] w fun e w' => e = .returned (.bool true) ∧ Old w w' := by
  have kN := hid num_any
  have hlt := parse_lt x
  have kX1 := hid (fun W (h : Old w W) => text_any s hs W (hT.old h))
  have kP1 := hid (fun W (h : Old w W) => parse_any (textL s) (by have := textL_len s; omega) W (hT.old h))
  rw [parse_text hs] at kP1
  have kP2 := hid (fun W (h : Old w W) => parse_any x hx W (hT.old h))
  have kR := hid (fun W => rparse_any x hx W)
  rw [ref_parse] at kR
  have kX2 := hid (fun W => rtext_any s hs W)
  have kX3 := hid (fun W (h : Old w W) => text_any (parseZ x).1 hlt W (hT.old h))
  have kK := hid (fun W (h : Old w W) => known_any W (hT.old h))
  have kbk := hid (parse_back x)
  obtain ⟨t, ht⟩ : ∃ t, textL s = t := ⟨_, rfl⟩
  rw [ht] at kX1 kX2 kP1
  clear ht
  obtain ⟨⟨pa, pe⟩, hpz⟩ : ∃ q, parseZ x = q := ⟨_, rfl⟩
  rw [hpz] at kP2 kR kX3 kbk hlt
  dsimp only at kP2 kR kX3 kbk hlt
  go_enter Tryd.func5, Tryd.ntmps5
  go_wp2_with fail
  refine (kX1.out _ (Old.refl w)).mono ?_
  rintro e w1 ⟨rfl, o1⟩
  have ko1 := hid o1
  clear o1
  go_wp2_with fail
  refine (kP1.out _ ko1.out).mono ?_
  rintro e w2 ⟨rfl, o2⟩
  have ko2 := hid (ko1.out.trans o2)
  clear o2
  go_wp2_with fail
  refine (kP2.out _ ko2.out).mono ?_
  rintro e w3 ⟨rfl, o3⟩
  have ko3 := hid (ko2.out.trans o3)
  clear o3
  go_wp2_with fail
  refine (kR.out _).mono ?_
  rintro e w4 ⟨rfl, o4⟩
  have ko4 := hid (ko3.out.trans o4)
  clear o4
  go_wp2_with fail
  refine (kX2.out _).mono ?_
  rintro e w5 ⟨rfl, o5⟩
  have ko5 := hid (ko4.out.trans o5)
  clear o5
  have hq1 : (t == t) = true := by simp
  by_cases hz : pe = 0
  · subst hz
    have hxt : textL pa = x := by
      rcases kbk.out with h | ⟨_, h⟩
      · exact absurd (congrArg Prod.snd h) (by simp)
      · exact h
    rw [hxt] at kX3
    have hq2 : (x == x) = true := by simp
    clear hxt kbk
    go_wp2_with (first | (go_at_call 15; refine (kN.out _ _).mono ?_; rintro e w' ⟨rfl, e1⟩; rw [e1]; clear e1) | fail)
    refine (kX3.out _ ko5.out).mono ?_
    rintro e w6 ⟨rfl, o6⟩
    have ko6 := hid (ko5.out.trans o6)
    clear o6
    go_wp2_with fail
    refine (kK.out _ ko6.out).mono ?_
    rintro e w7 ⟨rfl, o7⟩
    have ko7 := hid (ko6.out.trans o7)
    clear o7
    go_wp2_with fail
    go_ret
    exact ⟨rfl, ko7.out⟩
  · have hzb : (pe != 0) = true := by simpa using hz
    clear hz kbk
    go_wp2_with (first | (go_at_call 15; refine (kN.out _ _).mono ?_; rintro e w' ⟨rfl, e1⟩; rw [e1]; clear e1) | fail)
    refine (kK.out _ ko5.out).mono ?_
    rintro e w7 ⟨rfl, o7⟩
    have ko7 := hid (ko5.out.trans o7)
    clear o7
    go_wp2_with fail
    go_ret
    exact ⟨rfl, ko7.out⟩
end Go.Proofs.YtgbdnlpdicmaaaaDoor
