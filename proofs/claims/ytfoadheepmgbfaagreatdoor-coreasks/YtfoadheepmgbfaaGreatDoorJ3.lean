/- Instances in memory; whether one may be, walked. -/
import Derived.Test.YtfoadheepmgbfaaGreatDoorJ2
import Derived.Laws.MakeOwn
namespace Go.Proofs.YtfoadheepmgbfaaGreatDoor
open Go.RowKit

/-- An offer: its goods and its coins. -/
abbrev Off := Nat × Int

abbrev Ins := List (List Off)

/-- Cells that hold these offers. -/
def OffC (w : World) (ao : Option Addr) (L : List Off) : Prop := ∀ i (h : i < L.length), ∃ g, ∃ o : Nat, ao = some ⟨g, o, none⟩ ∧ w.cell? ⟨g, o + i * 2, none⟩ = some (.int .u32 (L[i].1 : Int)) ∧ w.cell? ⟨g, o + i * 2 + 1, none⟩ = some (.int .i64 L[i].2)

theorem OffC.old {w w' : World} {ao : Option Addr} {L : List Off} (h : OffC w ao L) (hf : Old w w') : OffC w' ao L := by
  intro i hi
  obtain ⟨g, o, h1, h2, h3⟩ := h i hi
  exact ⟨g, o, h1, hf.cell h2, hf.cell h3⟩

/-- Cells that hold these buyers' lists. -/
def InsC (w : World) (bo : Option Addr) (B : Ins) : Prop := ∀ i (h : i < B.length), ∃ g, ∃ o : Nat, ∃ a0 c0, bo = some ⟨g, o, none⟩ ∧ w.cell? ⟨g, o + i, none⟩ = some (.slice a0 B[i].length c0) ∧ OffC w a0 B[i] ∧ B[i].length ≤ 9223372036854775807 ∧ ∀ x ∈ B[i], x.1 < 4294967296

theorem InsC.old {w w' : World} {bo : Option Addr} {B : Ins} (h : InsC w bo B) (hf : Old w w') : InsC w' bo B := by
  intro i hi
  obtain ⟨g, o, a0, c0, h1, h2, h3, h4, h5⟩ := h i hi
  exact ⟨g, o, a0, c0, h1, hf.cell h2, h3.old hf, h4, h5⟩

/-- May an offer be? -/
def okB (all : Nat) (x : Off) : Bool := x.1 != 0 && (subB x.1 all && (decide (1 ≤ x.2) && decide (x.2 ≤ 1099511627776)))

def chkO (all : Nat) : List Off → Nat → Option Nat
  | [], _ => none
  | x :: r, j => if okB all x then chkO all r (j + 1) else some j

def chkB (all : Nat) : Ins → Nat → Int × Int × Int
  | [], _ => (0, 0, 0)
  | l :: r, b => if l.length > 8 then ((b : Int), 8, 2) else match chkO all l 0 with
    | some j => ((b : Int), (j : Int), 2)
    | none => chkB all r (b + 1)

def checkZ (g : Int) (B : Ins) : Int × Int × Int := if ¬ (1 ≤ g ∧ g ≤ 10) then (0, 0, 2) else if B.length > 32 then (32, 0, 2) else chkB (2 ^ g.toNat - 1) B 0

set_option maxRecDepth 100000 in
set_option maxHeartbeats 1000000 in
theorem mayBe_any (x : Off) (all : Nat) (w : World) :
    Calls Tryz.prog 93 #[.agg #[.int .u32 (x.1 : Int), .int .i64 x.2], .int .u32 (all : Int)] w fun e w' => e = .returned (.bool (okB all x)) ∧ Old w w' := by
  obtain ⟨g, c⟩ := x
  have kW := hid (fun w => within_any g all w)
  have o1 : Old w (w.alloc (.cells #[.int .u32 (g : Int), .int .i64 c] 62)) := (Old.refl w).alloc _
  have c0 := new_cell w #[.int .u32 (g : Int), .int .i64 c] 62 0 _ rfl
  have c1 := new_cell w #[.int .u32 (g : Int), .int .i64 c] 62 1 _ rfl
  have ko := hid o1
  clear o1
  unfold okB
  dsimp only
  by_cases h0 : g = 0
  · subst h0
    go_enter Tryz.func93, Tryz.ntmps93
    go_wp2_with fail
    go_ret
    exact ⟨rfl, ko.out⟩
  · have hb : ((g : Int) != 0) = true := by simp; omega
    have hb2 : (g != 0) = true := by simpa using h0
    rw [hb2, Bool.true_and]
    clear hb2
    cases hs : subB g all
    · rw [hs] at kW
      go_enter Tryz.func93, Tryz.ntmps93
      go_wp2_with (go_at_call 64; refine (kW.out _).mono ?_; rintro e w' ⟨rfl, e2⟩; rw [e2]; clear e2)
      go_ret
      exact ⟨rfl, ko.out⟩
    · rw [hs] at kW
      rw [Bool.true_and]
      by_cases h1 : 1 ≤ c
      · rw [decide_eq_true h1, Bool.true_and]
        go_enter Tryz.func93, Tryz.ntmps93
        go_wp2_with (go_at_call 64; refine (kW.out _).mono ?_; rintro e w' ⟨rfl, e2⟩; rw [e2]; clear e2)
        go_ret
        exact ⟨rfl, ko.out⟩
      · rw [decide_eq_false h1, Bool.false_and]
        go_enter Tryz.func93, Tryz.ntmps93
        go_wp2_with (go_at_call 64; refine (kW.out _).mono ?_; rintro e w' ⟨rfl, e2⟩; rw [e2]; clear e2)
        go_ret
        exact ⟨rfl, ko.out⟩

set_option maxRecDepth 100000 in
set_option maxHeartbeats 4000000 in
theorem check_any (gd : Int) (bo : Option Addr) (cap : Nat) (B : Ins) (w : World) (h : InsC w bo B) (hl : B.length ≤ 9223372036854775807) :
    Calls Tryz.prog 81 #[.agg #[.int .i64 gd, .slice bo B.length cap]] w fun e w' => e = .returned (.tuple #[.int .i64 (checkZ gd B).1, .int .i64 (checkZ gd B).2.1, .int .i64 (checkZ gd B).2.2]) ∧ Old w w' := by
  have o1 : Old w (w.alloc (.cells #[.int .i64 gd, .slice bo B.length cap] 24)) := (Old.refl w).alloc _
  have c0 := new_cell w #[.int .i64 gd, .slice bo B.length cap] 24 0 _ rfl
  have c1 := new_cell w #[.int .i64 gd, .slice bo B.length cap] 24 1 _ rfl
  have hn : ∃ n, B.length = n := ⟨_, rfl⟩
  by_cases hg : 1 ≤ gd ∧ gd ≤ 10
  · have hgl : ¬ gd < 1 := by omega
    have hgh : ¬ gd > 10 := by omega
    by_cases hb : B.length > 32
    · have hcz : checkZ gd B = (32, 0, 2) := by rw [checkZ, if_neg (by simpa using hg), if_pos hb]
      have kz := hid hcz
      have ko := hid o1
      clear o1 hcz
      go_enter Tryz.func81, Tryz.ntmps81
      go_wp2_with fail
      refine bodyPost_ret ?_ rfl ⟨rfl, ko.out⟩
      rw [kz.out]
      simp [results, Tryz.f81, go_sem]
    · obtain ⟨m, rfl⟩ : ∃ m : Nat, gd = m := ⟨gd.toNat, by omega⟩
      have hcz : Hid (checkZ (m : Int) B = chkB (2 ^ m - 1) B 0) := by
        show checkZ _ _ = _
        rw [checkZ, if_neg (by simpa using hg), if_neg hb]
        rfl
      have kA := hid (fun w => all_any (m : Int) w)
      have hall : allZ (m : Int) = (2 ^ m - 1, 0) := by
        rw [allZ, if_pos (by omega)]
        rfl
      rw [hall] at kA
      generalize (2 ^ m - 1 : Nat) = all at *
      have ko := hid o1
      clear o1 hall hg
      go_enter Tryz.func81, Tryz.ntmps81
      go_wp2_with (go_at_call 47; refine (kA.out _).mono ?_; rintro e w' ⟨rfl, e2⟩; rw [e2]; clear e2)
      generalize w.alloc (.cells #[.int .i64 (m : Int), .slice bo B.length cap] 24) = w1 at *
      have h1 := h.old ko.out
      go_loopw [32] (fun t wr => ∃ k : Nat, k ≤ B.length ∧ t = .int .i64 (k : Int) ∧ Hid (chkB all B 0 = chkB all (B.drop k) k) ∧ Old w1 wr) (fun t _ => B.length - (intOf t).toNat)
      case atStart => exact ⟨0, Nat.zero_le _, rfl, rfl, Old.refl _⟩
      case round =>
        obtain ⟨k, hk, rfl, hA, oW⟩ := hrel
        by_cases hlt : k < B.length
        · obtain ⟨g, o, a0, cc, rfl, ck, cO, hll, hxl⟩ := h1 k hlt
          have ckW := oW.cell ck
          have cOW := cO.old oW
          have hk' : (k : Int) < (B.length : Int) := by omega
          have hdr : Hid (B.drop k = B[k] :: B.drop (k + 1)) := List.drop_eq_getElem_cons hlt
          obtain ⟨l, hle⟩ : ∃ l, B[k] = l := ⟨_, rfl⟩
          rw [hle] at ckW cOW hdr hll
          clear hle ck cO hxl
          have kO := hid cOW
          have koW := hid oW
          clear cOW oW
          by_cases hl8 : l.length > 8
          · have kz : Hid (checkZ (m : Int) B = ((k : Int), 8, 2)) := by
              show checkZ _ _ = _
              rw [hcz.out, hA.out, hdr.out, chkB, if_pos hl8]
            have hl8' : (l.length : Int) > 8 := by omega
            go_wp2_with fail
            refine bodyPost_ret ?_ rfl ⟨rfl, ko.out.trans koW.out⟩
            rw [kz.out]
            simp [results, Tryz.f81, go_sem]
          · have hl8' : ¬ (l.length : Int) > 8 := by omega
            go_wp2_with fail
            go_loopw [43] (fun t2 wr2 => ∃ j : Nat, j ≤ l.length ∧ t2 = .int .i64 (j : Int) ∧ Hid (chkO all l 0 = chkO all (l.drop j) j) ∧ Old wr wr2) (fun t2 _ => l.length - (intOf t2).toNat)
            case atStart => exact ⟨0, Nat.zero_le _, rfl, rfl, Old.refl _⟩
            case round =>
              obtain ⟨j, hj, rfl, hA2, oV⟩ := hrel
              by_cases hjl : j < l.length
              · obtain ⟨g2, o2, rfl, d1, d2⟩ := kO.out j hjl
                have e1 := oV.cell d1
                have e2 := oV.cell d2
                have hj' : (j : Int) < (l.length : Int) := by omega
                have hdr2 : Hid (l.drop j = l[j] :: l.drop (j + 1)) := List.drop_eq_getElem_cons hjl
                have koV := hid oV
                obtain ⟨x, hxe⟩ : ∃ x, l[j] = x := ⟨_, rfl⟩
                rw [hxe] at e1 e2 hdr2
                have kM := hid (fun w => mayBe_any x all w)
                clear hxe d1 d2 oV
                obtain ⟨xg, xc⟩ := x
                dsimp only at e1 e2 kM
                cases hok : okB all (xg, xc)
                · rw [hok] at kM
                  have kz : Hid (checkZ (m : Int) B = ((k : Int), (j : Int), 2)) := by
                    show checkZ _ _ = _
                    rw [hcz.out, hA.out, hdr.out, chkB, if_neg hl8, hA2.out, hdr2.out, chkO, hok]
                    rfl
                  go_wp2_with fail
                  refine (kM.out _).mono ?_
                  rintro e w5 ⟨rfl, o5⟩
                  have ko5 := hid o5
                  clear o5
                  go_wp2_with fail
                  refine bodyPost_ret ?_ rfl ⟨rfl, (((ko.out.trans koW.out).trans koV.out).alloc _).trans ko5.out⟩
                  rw [kz.out]
                  simp [results, Tryz.f81, go_sem]
                · rw [hok] at kM
                  go_wp2_with fail
                  refine (kM.out _).mono ?_
                  rintro e w5 ⟨rfl, o5⟩
                  have ko5 := hid o5
                  clear o5
                  go_wp2_with fail
                  go_roundw
                  case rel => exact ⟨j + 1, by omega, by go_num, by show _ = _; rw [hA2.out, hdr2.out, chkO, hok]; rfl, (koV.out.alloc _).trans ko5.out⟩
                  case measure => simp [intOf]; omega
              · obtain rfl : j = l.length := by omega
                have kn : Hid (chkB all B 0 = chkB all (B.drop (k + 1)) (k + 1)) := by
                  show _ = _
                  rw [hA.out, hdr.out, chkB, if_neg hl8, hA2.out, List.drop_length, chkO]
                go_wp2_with fail
                go_roundw
                case rel => exact ⟨k + 1, by omega, by go_num, kn, koW.out.trans oV⟩
                case measure => simp [intOf]; omega
        · obtain rfl : k = B.length := by omega
          have kz : Hid (checkZ (m : Int) B = (0, 0, 0)) := by
            show checkZ _ _ = _
            rw [hcz.out, hA.out, List.drop_length, chkB]
          go_wp2_with fail
          refine bodyPost_ret ?_ rfl ⟨rfl, ko.out.trans oW⟩
          rw [kz.out]
          simp [results, Tryz.f81, go_sem]
  · have kz : Hid (checkZ gd B = (0, 0, 2)) := by
      show checkZ _ _ = _
      rw [checkZ, if_pos hg]
    have ko := hid o1
    clear o1
    by_cases h1 : gd < 1
    · clear hg
      go_enter Tryz.func81, Tryz.ntmps81
      go_wp2_with fail
      refine bodyPost_ret ?_ rfl ⟨rfl, ko.out⟩
      rw [kz.out]
      simp [results, Tryz.f81, go_sem]
    · have h2 : gd > 10 := by omega
      clear hg
      go_enter Tryz.func81, Tryz.ntmps81
      go_wp2_with fail
      refine bodyPost_ret ?_ rfl ⟨rfl, ko.out⟩
      rw [kz.out]
      simp [results, Tryz.f81, go_sem]
end Go.Proofs.YtfoadheepmgbfaaGreatDoor

/- Rows of offers of one's own; the offers' sets, walked. -/
namespace Go.Proofs.YtfoadheepmgbfaaGreatDoor
open Go.RowKit

theorem made_ints (k : IntKind) (n : Nat) : madeCells (Value.int k 0).cells n = Array.replicate n (Value.int k 0) := by
  unfold madeCells
  apply Array.ext
  · simp
  · intro i h1 h2
    simp [Value.cells, Nat.mod_one]

theorem info_g : (Tryz.prog.info? 60).map (fun i => (i.zero, i.bytes, i.size)) = some (some (.int .u32 0), 4, 1) := by kernel_rfl
theorem info_o : (Tryz.prog.info? 62).map (fun i => (i.zero, i.bytes, i.size)) = some (some (.agg #[.int .u32 0, .int .i64 0]), 16, 2) := by kernel_rfl
theorem make_o (n : Nat) (hn : n ≤ 1048576) (w : World) : (Instr.makeSlice 55 (.int .i64 (n : Int)) (.int .i64 (n : Int))).run Tryz.prog w = .ok (.slice (some ⟨w.heap.size, 0, none⟩) n n) (w.alloc (.cells (madeCells (Value.agg #[.int .u32 0, .int .i64 0]).cells (n * 2)) 62)) := by
  obtain ⟨i, hi, h2⟩ := Option.map_eq_some_iff.1 info_o
  simp only [Prod.mk.injEq] at h2
  obtain ⟨hz, hb, hs⟩ := h2
  have h := run_make (P := Tryz.prog) w 55 62 i (.agg #[.int .u32 0, .int .i64 0]) Tryz.underlying55 hi hz .i64 .i64 n n (by omega) (by omega) (by rw [hb]; omega) (by omega)
  rw [h, hs]
  simp only [Int.toNat_natCast]

/-- A row of offers of one's own. -/
structure OwnO (w : World) (b : Nat) (L : List Off) : Prop where
  cell : ∀ i (h : i < L.length), w.cell? ⟨b, i * 2, none⟩ = some (.int .u32 (L[i].1 : Int)) ∧ w.cell? ⟨b, i * 2 + 1, none⟩ = some (.int .i64 L[i].2)
  fz : ∀ j, w.frozen? ⟨b, j, none⟩ = false
  lt : b < w.heap.size

theorem OwnO.off {w : World} {b : Nat} {L : List Off} (h : OwnO w b L) : OffC w (some ⟨b, 0, none⟩) L := fun i hi => ⟨b, 0, rfl, by rw [Nat.zero_add]; exact (h.cell i hi).1, by rw [Nat.zero_add]; exact (h.cell i hi).2⟩

theorem OwnO.old {w w' : World} {b : Nat} {L : List Off} (h : OwnO w b L) (o : Old w w') : OwnO w' b L :=
  ⟨fun i hi => ⟨o.cell (h.cell i hi).1, o.cell (h.cell i hi).2⟩, fun j => frm_frozen o h.lt (h.fz j) (fun h => h), Nat.lt_of_lt_of_le h.lt o.size⟩

theorem OwnO.made (w : World) (n : Nat) : OwnO (w.alloc (.cells (madeCells (Value.agg #[.int .u32 0, .int .i64 0]).cells (n * 2)) 62)) w.heap.size (List.replicate n (0, 0)) := by
  have hb := heap_new w (.cells (madeCells (Value.agg #[.int .u32 0, .int .i64 0]).cells (n * 2)) 62)
  refine ⟨fun i hi => ?_, fun j => blk_fz hb j, by simp⟩
  have hi' : i < n := by simpa using hi
  have h1 : i * 2 < n * 2 := by omega
  have h2 : i * 2 + 1 < n * 2 := by omega
  refine ⟨blk_cells hb ?_, blk_cells hb ?_⟩
  · unfold madeCells
    simp [Value.cells, h1]
  · have h3 : (i * 2 + 1) % 2 = 1 := by omega
    unfold madeCells
    simp [Value.cells, h2, h3]

theorem OwnO.set {w : World} {b i : Nat} {L : List Off} (h : OwnO w b L) (x : Off) : OwnO ((w.setCell ⟨b, i * 2, none⟩ (.int .u32 (x.1 : Int))).setCell ⟨b, i * 2 + 1, none⟩ (.int .i64 x.2)) b (L.set i x) := by
  refine ⟨fun j hj => ?_, fun j => set_fz (set_fz h.fz) j, by simp [World.setCell]; exact h.lt⟩
  have hj' : j < L.length := by simpa using hj
  obtain ⟨c1, c2⟩ := h.cell j hj'
  rw [List.getElem_set]
  by_cases e : i = j
  · subst e
    rw [if_pos rfl]
    exact ⟨set_oth (set_same c1) (by omega), set_same (set_oth c2 (by omega))⟩
  · rw [if_neg e]
    exact ⟨set_oth (set_oth c1 (by omega)) (by omega), set_oth (set_oth c2 (by omega)) (by omega)⟩

def gsets (L : List Off) : List Nat := L.map (fun x => x.1)

end Go.Proofs.YtfoadheepmgbfaaGreatDoor

/- What a choice gives, walked. -/
namespace Go.Proofs.YtfoadheepmgbfaaGreatDoor
open Go.RowKit

/-- The offer that a number picks. -/
def pickO (l : List Off) (n : Int) : Option Off := if n = -1 then some (0, 0) else if 0 ≤ n ∧ n < (l.length : Int) then some (l.getD n.toNat (0, 0)) else none
def pkA (B : Ins) (c : List Int) (i : Nat) : Option Off := pickO (B.getD i []) (c.getD i 0)
/-- The offers that a choice gives: the first k. -/
def rowK (B : Ins) (c : List Int) (k : Nat) : List Off := (List.range c.length).map (fun i => if i < k then (pkA B c i).getD (0, 0) else (0, 0))
def row (B : Ins) (c : List Int) : List Off := rowK B c c.length
/-- Is it a choice? The error. -/
def choE (gd : Int) (B : Ins) (c : List Int) : Int := if (checkZ gd B).2.2 ≠ 0 then (checkZ gd B).2.2 else if c.length ≠ B.length then 170 else if ∀ i, i < c.length → (pkA B c i).isSome = true then (if (apZ (gsets (row B c))).2 then 0 else 170) else 170

theorem rowK_len (B : Ins) (c : List Int) (k : Nat) : (rowK B c k).length = c.length := by simp [rowK]
theorem rowK_zero (B : Ins) (c : List Int) : rowK B c 0 = List.replicate c.length (0, 0) := by
  apply List.ext_getElem
  · simp [rowK]
  · intro i h1 h2
    simp [rowK]
theorem rowK_succ {B : Ins} {c : List Int} {k : Nat} {x : Off} (h : pkA B c k = some x) : rowK B c (k + 1) = (rowK B c k).set k x := by
  apply List.ext_getElem
  · simp [rowK]
  · intro i h1 h2
    rw [List.getElem_set]
    simp only [rowK, List.getElem_map, List.getElem_range]
    by_cases e : k = i
    · subst e
      simp [h]
    · rw [if_neg e]
      by_cases h3 : i < k
      · simp [h3, show i < k + 1 by omega]
      · simp [h3, show ¬ i < k + 1 by omega]
theorem rowK_same {B : Ins} {c : List Int} {k : Nat} (h : pkA B c k = some (0, 0)) : rowK B c (k + 1) = rowK B c k := by
  apply List.ext_getElem
  · simp [rowK]
  · intro i h1 h2
    simp only [rowK, List.getElem_map, List.getElem_range]
    by_cases e : k = i
    · subst e
      simp [h]
    · by_cases h3 : i < k
      · simp [h3, show i < k + 1 by omega]
      · simp [h3, show ¬ i < k + 1 by omega]

theorem chkO_ok {all : Nat} : ∀ {l : List Off} {j : Nat}, chkO all l j = none → ∀ x ∈ l, okB all x = true
  | [], _, _, x, hx => by cases hx
  | y :: r, j, h, x, hx => by
    rw [chkO] at h
    split at h
    · rename_i hy
      rcases List.mem_cons.1 hx with rfl | hx
      · exact hy
      · exact chkO_ok h x hx
    · cases h
theorem chkB_ok {all : Nat} : ∀ {B : Ins} {b : Nat}, (chkB all B b).2.2 = 0 → ∀ l ∈ B, l.length ≤ 8 ∧ ∀ x ∈ l, okB all x = true
  | [], _, _, l, hl => by cases hl
  | y :: r, b, h, l, hl => by
    rw [chkB] at h
    split at h
    · simp at h
    · split at h
      · simp at h
      · rename_i h8 hn
        rcases List.mem_cons.1 hl with rfl | hl
        · exact ⟨by omega, chkO_ok hn⟩
        · exact chkB_ok h l hl
theorem check_ok {gd : Int} {B : Ins} (h : (checkZ gd B).2.2 = 0) : (1 ≤ gd ∧ gd ≤ 10) ∧ B.length ≤ 32 ∧ ∀ l ∈ B, l.length ≤ 8 ∧ ∀ x ∈ l, okB (2 ^ gd.toNat - 1) x = true := by
  unfold checkZ at h
  split at h
  · simp at h
  · rename_i hg
    split at h
    · simp at h
    · rename_i hb
      exact ⟨by omega, by omega, chkB_ok h⟩

theorem pick_mem {l : List Off} {n : Int} {x : Off} (h : pickO l n = some x) : x = (0, 0) ∨ x ∈ l := by
  unfold pickO at h
  split at h
  · cases h; exact Or.inl rfl
  · split at h
    · rename_i hn
      cases h
      refine Or.inr ?_
      have hlt : n.toNat < l.length := by omega
      rw [List.getD_eq_getElem?_getD, List.getElem?_eq_getElem hlt]
      exact List.getElem_mem hlt
    · cases h

theorem row_mem {B : Ins} {c : List Int} {k : Nat} {x : Off} (h : x ∈ rowK B c k) : x = (0, 0) ∨ ∃ l ∈ B, x ∈ l := by
  simp only [rowK, List.mem_map, List.mem_range] at h
  obtain ⟨i, hi, rfl⟩ := h
  split
  · cases hp : pkA B c i with
    | none => exact Or.inl rfl
    | some y =>
      rcases pick_mem hp with h1 | h1
      · exact Or.inl h1
      · right
        by_cases hb : i < B.length
        · rw [List.getD_eq_getElem?_getD, List.getElem?_eq_getElem hb] at h1
          exact ⟨_, List.getElem_mem hb, h1⟩
        · rw [List.getD_eq_getElem?_getD, List.getElem?_eq_none (by omega)] at h1
          cases h1
  · exact Or.inl rfl

theorem ins_lt {w : World} {bo : Option Addr} {B : Ins} (h : InsC w bo B) : ∀ l ∈ B, ∀ x ∈ l, x.1 < 4294967296 := by
  intro l hl
  obtain ⟨i, hi, rfl⟩ := List.getElem_of_mem hl
  obtain ⟨g, o, a0, c0, h1, h2, h3, h4, h5⟩ := h i hi
  exact h5

theorem gsets_lt {w : World} {bo : Option Addr} {B : Ins} (h : InsC w bo B) (c : List Int) (k : Nat) : ∀ x ∈ gsets (rowK B c k), x < 4294967296 := by
  intro x hx
  obtain ⟨y, hy, rfl⟩ := List.mem_map.1 hx
  rcases row_mem hy with rfl | ⟨l, hl, hy⟩
  · decide
  · exact ins_lt h l hl y hy

/-- What chosen answers. -/
def ChoP (w : World) (gd : Int) (B : Ins) (c : List Int) (e : Ending) (w' : World) : Prop := Old w w' ∧ ((choE gd B c = 0 ∧ (checkZ gd B).2.2 = 0 ∧ c.length = B.length ∧ ∃ b, e = .returned (.tuple #[.slice (some ⟨b, 0, none⟩) c.length c.length, .int .i64 0]) ∧ w.heap.size ≤ b ∧ OwnO w' b (row B c)) ∨ (choE gd B c ≠ 0 ∧ e = .returned (.tuple #[.slice none 0 0, .int .i64 (choE gd B c)])))

end Go.Proofs.YtfoadheepmgbfaaGreatDoor

/- What a choice is worth, and what each gets, walked. -/
namespace Go.Proofs.YtfoadheepmgbfaaGreatDoor
open Go.RowKit

def sumO : List Off → Int
  | [] => 0
  | x :: r => x.2 + sumO r

theorem sumO_append (a b : List Off) : sumO (a ++ b) = sumO a + sumO b := by
  induction a with
  | nil => simp [sumO]
  | cons x r ih => rw [List.cons_append, sumO, sumO, ih]; omega

theorem sumO_take {L : List Off} {k : Nat} (h : k < L.length) : sumO (L.take (k + 1)) = sumO (L.take k) + L[k].2 := by
  rw [List.take_add_one, List.getElem?_eq_getElem h, sumO_append]
  simp [sumO]

theorem sumO_bnd : ∀ {L : List Off}, (∀ x ∈ L, 0 ≤ x.2 ∧ x.2 ≤ 1099511627776) → 0 ≤ sumO L ∧ sumO L ≤ 1099511627776 * (L.length : Int)
  | [], _ => by simp [sumO]
  | x :: r, h => by
    have h1 := h x (by simp)
    have h2 := sumO_bnd (L := r) (fun y hy => h y (by simp [hy]))
    rw [sumO, List.length_cons]
    omega

theorem row_coins {gd : Int} {B : Ins} (h : (checkZ gd B).2.2 = 0) (c : List Int) (k : Nat) : ∀ x ∈ rowK B c k, 0 ≤ x.2 ∧ x.2 ≤ 1099511627776 := by
  intro x hx
  rcases row_mem hx with rfl | ⟨l, hl, hx⟩
  · decide
  · have := ((check_ok h).2.2 l hl).2 x hx
    simp [okB] at this
    omega

def worthZ (gd : Int) (B : Ins) (c : List Int) : Int := if choE gd B c = 0 then sumO (row B c) else 0

theorem nums_blk {k : IntKind} {w : World} {b : Nat} {t : TypeId} {L : List Int} (h : w.heap[b]? = some (.cells (L.map (Value.int k)).toArray t (0, 0))) : NumsC k w (some ⟨b, 0, none⟩) L := (Own.nums (t := t) ⟨h⟩)
end Go.Proofs.YtfoadheepmgbfaaGreatDoor
