/- The document's Choice and Supports, walked. -/
import Derived.Test.YtnambpbhkehijaaDoorR2
namespace Go.Proofs.YtnambpbhkehijaaDoor
open Go.RowKit Go.Lib

theorem apF_append : ∀ (l m : List Nat) (a : Nat), apF (l ++ m) a = (apF l a).bind (fun b => apF m b)
  | [], m, a => rfl
  | s :: r, m, a => by
    rw [List.cons_append, apF, apF]
    split
    · exact apF_append r m _
    · rfl

theorem row_len (B : Ins) (c : List Int) : (row B c).length = c.length := rowK_len B c _
theorem row_get {B : Ins} {c : List Int} {k : Nat} (h : k < (row B c).length) : (row B c)[k] = (pkA B c k).getD (0, 0) := by
  have hk : k < c.length := by rw [row_len] at h; exact h
  simp [row, rowK, hk]
theorem row_take {B : Ins} {c : List Int} {k : Nat} (h : k < c.length) : (row B c).take (k + 1) = (row B c).take k ++ [(pkA B c k).getD (0, 0)] := by
  rw [List.take_succ_eq_append_getElem (by rw [row_len]; exact h), row_get]

/-- Where the document's Choice stands, so many buyers behind. -/
structure ChI (B : Ins) (c : List Int) (k : Nat) (wo : Int) (tk : Nat) : Prop where
  le : k ≤ c.length
  picks : ∀ i, i < k → (pkA B c i).isSome = true
  apart : apF (gsets ((row B c).take k)) 0 = some tk
  worth : wo = sumO ((row B c).take k)

theorem ChI.zero (B : Ins) (c : List Int) : ChI B c 0 0 0 := ⟨Nat.zero_le _, fun i h => by omega, by simp [gsets, apF], by simp [sumO]⟩

theorem ChI.next {B : Ins} {c : List Int} {k : Nat} {wo : Int} {tk : Nat} {x : Off} (h : ChI B c k wo tk) (hk : k < c.length) (hx : pkA B c k = some x) (ha : tk &&& x.1 = 0) : ChI B c (k + 1) (wo + x.2) (tk ||| x.1) := by
  have e : (row B c).take (k + 1) = (row B c).take k ++ [x] := by rw [row_take hk, hx]; rfl
  refine ⟨hk, fun i hi => ?_, ?_, ?_⟩
  · by_cases e2 : i < k
    · exact h.picks i e2
    · obtain rfl : i = k := by omega
      rw [hx]; rfl
  · rw [e, gsets, List.map_append, apF_append]
    have := h.apart
    unfold gsets at this
    rw [this]
    simp [apF, ha]
  · rw [e, sumO_append, h.worth]
    simp [sumO]

theorem cho_bad {gd : Int} {B : Ins} {c : List Int} {k : Nat} (hi : (checkZ gd B).2.2 = 0) (hk : k < c.length) (hx : pkA B c k = none) : choE gd B c = 170 := by
  unfold choE
  rw [if_neg (by simp [hi])]
  split
  · rfl
  · rw [if_neg (fun h => by have := h k hk; rw [hx] at this; cases this)]

theorem cho_meet {gd : Int} {B : Ins} {c : List Int} {k : Nat} {wo : Int} {tk : Nat} {x : Off} (h : ChI B c k wo tk) (hi : (checkZ gd B).2.2 = 0) (hk : k < c.length) (hx : pkA B c k = some x) (ha : ¬ tk &&& x.1 = 0) : choE gd B c = 170 := by
  have e : row B c = ((row B c).take k ++ [x]) ++ (row B c).drop (k + 1) := by
    have e0 : (row B c).take (k + 1) = (row B c).take k ++ [x] := by rw [row_take hk, hx]; rfl
    rw [← e0, List.take_append_drop]
  have hn : apF (gsets (row B c)) 0 = none := by
    rw [e, gsets, List.map_append, List.map_append, apF_append, apF_append]
    have := h.apart
    unfold gsets at this
    rw [this]
    simp [apF, ha]
  unfold choE
  rw [if_neg (by simp [hi])]
  split
  · rfl
  · split
    · have : (apZ (gsets (row B c))).2 = false := by unfold apZ; rw [hn]
      rw [this]
      rfl
    · rfl

theorem cho_end {gd : Int} {B : Ins} {c : List Int} {wo : Int} {tk : Nat} (h : ChI B c c.length wo tk) (hi : (checkZ gd B).2.2 = 0) (hl : c.length = B.length) : choE gd B c = 0 ∧ worthZ gd B c = wo := by
  have hr : (row B c).take c.length = row B c := by rw [← row_len B c, List.take_length]
  have h3 := h.apart
  rw [hr] at h3
  have e : choE gd B c = 0 := by
    unfold choE
    rw [if_neg (by simp [hi]), if_neg (by simp [hl]), if_pos h.picks]
    have : (apZ (gsets (row B c))).2 = true := by unfold apZ; rw [h3]
    rw [this]
    rfl
  refine ⟨e, ?_⟩
  rw [worthZ, if_pos e, h.worth, hr]

theorem cho_len {gd : Int} {B : Ins} {c : List Int} (hi : (checkZ gd B).2.2 = 0) (hl : c.length ≠ B.length) : choE gd B c = 170 := by
  unfold choE
  rw [if_neg (by simp [hi]), if_pos hl]

theorem ins_check {gd : Int} {B : Ins} (h : insZ gd B = 0) : (checkZ gd B).2.2 = 0 := by
  unfold insZ at h
  split at h
  · cases h
  · split at h
    · cases h
    · split at h
      · cases h
      · rename_i h3
        exact Classical.not_not.1 h3

theorem ch_err {gd : Int} {B : Ins} {c : List Int} (h : insZ gd B = 0) (he : choE gd B c = 170) : chZ gd B c = (0, 170) := by
  rw [chZ, if_neg (by simp [h]), worthZ, if_neg (by rw [he]; decide), he]

set_option maxRecDepth 100000 in
set_option maxHeartbeats 8000000 in
theorem rchoice_any (gd : Int) (bo co : Option Addr) (cap cc : Nat) (B : Ins) (c : List Int) (w : World) (h : InsC w bo B) (hl : B.length ≤ 9223372036854775807) (hc : NumsC .i64 w co c) :
    Calls Tryd.prog 16 #[.agg #[.int .i64 gd, .slice bo B.length cap], .slice co c.length cc] w fun e w' => e = .returned (.tuple #[.int .i64 (chZ gd B c).1, .int .i64 (chZ gd B c).2]) ∧ Old w w' := by
  have o1 : Old w (w.alloc (.cells #[.int .i64 gd, .slice bo B.length cap] 35)) := (Old.refl w).alloc _
  have c1 := new_cell w #[.int .i64 gd, .slice bo B.length cap] 35 1 _ rfl
  have c0 := new_cell w #[.int .i64 gd, .slice bo B.length cap] 35 0 _ rfl
  have kI := hid (rinst_any gd bo cap B _ (h.old o1) hl)
  have ko := hid o1
  have kh := hid h
  have kc := hid hc
  clear o1 h hc
  go_enter Tryd.func16, Tryd.ntmps16
  go_wp2_with fail
  generalize w.alloc (.cells #[.int .i64 gd, .slice bo B.length cap] 35) = w1 at *
  generalize w.heap.size = xb at *
  refine kI.out.mono ?_
  rintro e w2 ⟨rfl, o2⟩
  have d1 := o2.cell c1
  have ko2 := hid (ko.out.trans o2)
  have kh2 := hid (kh.out.old ko2.out)
  have kc2 := hid (kc.out.old ko2.out)
  clear o2 kI ko c0 c1 kh kc
  by_cases hz : insZ gd B = 0
  · have hck := ins_check hz
    have kz := hid hz
    have kck := hid hck
    obtain ⟨-, hB32, hBo⟩ := check_ok hck
    have kBo := hid hBo
    rw [hz]
    clear hz hck hBo
    by_cases hlen : c.length = B.length
    · have hne : ((c.length : Int) != (B.length : Int)) = false := by rw [hlen]; simp
      have klen := hid hlen
      have hc32 : c.length ≤ 32 := by omega
      clear hlen
      go_wp2_with fail
      go_loopw [7, 8, 9] (fun v t i wr => ∃ (k tk : Nat) (wo : Int), i = .int .i64 (k : Int) ∧ v = .int .i64 wo ∧ t = .int .u32 (tk : Int) ∧ tk < 4294967296 ∧ 0 ≤ wo ∧ wo ≤ 1099511627776 * (k : Int) ∧ k ≤ c.length ∧ Hid (ChI B c k wo tk) ∧ wr = w2) (fun _ _ i _ => c.length - (intOf i).toNat)
      case atStart => exact ⟨0, 0, 0, rfl, rfl, rfl, by decide, by decide, by decide, Nat.zero_le _, hid (ChI.zero B c), by trivial⟩
      case round =>
        obtain ⟨k, tk, wo, rfl, rfl, rfl, htk, hw0, hw1, hk, hC, hwr⟩ := hrel
        obtain rfl := hwr.symm
        by_cases hlt : k < c.length
        · have hltB : k < B.length := by have := klen.out; omega
          obtain ⟨gc, oc, rfl, ck⟩ := kc2.out k hlt
          obtain ⟨g, o, a0, c0, rfl, rk, hO, hll, hlx⟩ := kh2.out k hltB
          have hk' : (k : Int) < (c.length : Int) := by omega
          have hkB : (k : Int) < (B.length : Int) := by omega
          have hpk : Hid (pkA B c k = pickO B[k] c[k]) := by
            show _ = _
            unfold pkA
            rw [List.getD_eq_getElem?_getD, List.getElem?_eq_getElem hltB, List.getD_eq_getElem?_getD, List.getElem?_eq_getElem hlt]
            rfl
          have hco := hid (kBo.out _ (List.getElem_mem hltB))
          obtain ⟨n, hn⟩ : ∃ n, c[k] = n := ⟨_, rfl⟩
          obtain ⟨l, hle⟩ : ∃ l, B[k] = l := ⟨_, rfl⟩
          rw [hn] at ck hpk
          rw [hle] at rk hO hll hlx hpk hco
          clear hn hle
          by_cases h1 : n = -1
          · have hC2 := hid (hC.out.next hlt (x := (0, 0)) (by rw [hpk.out, pickO, if_pos h1]) (by simp))
            subst h1
            simp only [Int.add_zero, Nat.or_zero] at hC2
            clear hC hpk
            go_wp2_with fail
            go_roundw
            case rel => exact ⟨k + 1, tk, wo, by go_num, rfl, rfl, htk, hw0, by omega, by omega, hC2, by trivial⟩
            case measure => simp [intOf]; omega
          · have h1b : (n == -1) = false := by simpa using h1
            by_cases h2 : n < -1
            · have kz2 := hid (ch_err kz.out (cho_bad kck.out hlt (by rw [hpk.out, pickO, if_neg h1, if_neg (by omega)])))
              clear h1 hpk hC
              go_wp2_with fail
              go_ret2
              exact ⟨by rw [kz2.out]; rfl, ko2.out⟩
            · by_cases h3 : n ≥ (l.length : Int)
              · have kz2 := hid (ch_err kz.out (cho_bad kck.out hlt (by rw [hpk.out, pickO, if_neg h1, if_neg (by omega)])))
                clear h1 hpk hC
                go_wp2_with fail
                go_ret2
                exact ⟨by rw [kz2.out]; rfl, ko2.out⟩
              · obtain ⟨m, rfl⟩ : ∃ m : Nat, n = m := ⟨n.toNat, by omega⟩
                have hm : m < l.length := by omega
                obtain ⟨g9, o9, rfl, f1, f2⟩ := hO m hm
                have hpx : Hid (pkA B c k = some l[m]) := by
                  show _ = _
                  rw [hpk.out, pickO, if_neg h1, if_pos (by omega), Int.toNat_natCast, List.getD_eq_getElem?_getD, List.getElem?_eq_getElem hm]
                  rfl
                have hxg := hlx _ (List.getElem_mem hm)
                have hxo := hco.out.2 _ (List.getElem_mem hm)
                obtain ⟨x, hx⟩ : ∃ x, l[m] = x := ⟨_, rfl⟩
                rw [hx] at f1 f2 hpx hxg hxo
                obtain ⟨xg, xc⟩ := x
                dsimp only at f1 f2 hxg
                have hxc : 1 ≤ xc ∧ xc ≤ 1099511627776 := by
                  unfold okB at hxo
                  simp only [Bool.and_eq_true, decide_eq_true_eq] at hxo
                  exact ⟨hxo.2.2.1, hxo.2.2.2⟩
                have hm' : (m : Int) < (l.length : Int) := by omega
                have hba := bits_and_u32_nat xg tk hxg htk
                have hbo := bits_or_u32 tk xg htk hxg
                have h1c : ¬ ((m : Int) = -1) := h1
                clear hx hxo hpk h1
                by_cases ha : tk &&& xg = 0
                · have hC2 := hid (hC.out.next hlt hpx.out ha)
                  have hb0 : (bits BinOp.and IntKind.u32 (xg : Int) (tk : Int) != 0) = false := by rw [hba, Nat.and_comm, ha]; rfl
                  have hlt2 := or_lt htk hxg
                  dsimp only at hC2
                  clear hC ha hba
                  go_wp2_with fail
                  go_roundw
                  case rel => exact ⟨k + 1, tk ||| xg, wo + xc, by go_num, rfl, by first | rfl | rw [hbo], hlt2, by omega, by omega, by omega, hC2, by trivial⟩
                  case measure => simp [intOf]; omega
                · have kz2 := hid (ch_err kz.out (cho_meet hC.out kck.out hlt hpx.out ha))
                  have hb0 : (bits BinOp.and IntKind.u32 (xg : Int) (tk : Int) != 0) = true := by
                    rw [hba, Nat.and_comm, bne_iff_ne]
                    omega
                  clear hC ha hba
                  go_wp2_with fail
                  go_ret2
                  exact ⟨by rw [kz2.out]; rfl, ko2.out⟩
        · obtain rfl : k = c.length := by omega
          obtain ⟨he, hwz⟩ := cho_end hC.out kck.out klen.out
          have kz2 : Hid (chZ gd B c = (wo, 0)) := by
            show _ = _
            rw [chZ, if_neg (by simp [kz.out]), he, hwz]
          clear he hwz
          go_wp2_with fail
          go_ret2
          exact ⟨by rw [kz2.out]; rfl, ko2.out⟩
    · have hne : ((c.length : Int) != (B.length : Int)) = true := by rw [bne_iff_ne]; omega
      have kz2 := hid (ch_err kz.out (cho_len kck.out hlen))
      clear hlen
      go_wp2_with fail
      go_ret2
      exact ⟨by rw [kz2.out]; rfl, ko2.out⟩
  · have kz2 : Hid (chZ gd B c = (0, insZ gd B)) := by
      show _ = _
      rw [chZ, if_pos hz]
    have hzb : (insZ gd B != 0) = true := by simpa using hz
    clear hz
    go_wp2_with fail
    go_ret2
    exact ⟨by rw [kz2.out]; rfl, ko2.out⟩

end Go.Proofs.YtnambpbhkehijaaDoor
