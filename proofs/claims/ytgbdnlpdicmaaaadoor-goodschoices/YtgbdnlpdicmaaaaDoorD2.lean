/- The document's Taken. -/
import Derived.Test.YtgbdnlpdicmaaaaDoorD1
import Derived.Test.YtgbdnlpdicmaaaaDoorG7
import Derived.Test.YtgbdnlpdicmaaaaDoorG14
import Derived.Test.YtgbdnlpdicmaaaaDoorC1
import Derived.Deep.AppendLies
namespace Go.Proofs.YtgbdnlpdicmaaaaDoor
open Go.RowKit

/-- What the first k buyers get. -/
def pre (B : Ins) (c : List Int) (k : Nat) : List Off := (List.range k).map (fun i => (pkA B c i).getD (0, 0))
theorem pre_succ (B : Ins) (c : List Int) (k : Nat) : pre B c (k + 1) = pre B c k ++ [(pkA B c k).getD (0, 0)] := by simp [pre, List.range_succ]
theorem pre_len (B : Ins) (c : List Int) (k : Nat) : (pre B c k).length = k := by simp [pre]
theorem row_pre (B : Ins) (c : List Int) : row B c = pre B c c.length := by
  unfold row rowK pre
  apply List.map_congr_left
  intro i hi
  rw [if_pos (List.mem_range.1 hi)]

theorem pre_mem {B : Ins} {c : List Int} {k : Nat} {x : Off} (h : x ∈ pre B c k) (hk : k ≤ c.length) : x ∈ rowK B c k := by
  simp only [pre, List.mem_map, List.mem_range] at h
  obtain ⟨i, hi, rfl⟩ := h
  simp only [rowK, List.mem_map, List.mem_range]
  exact ⟨i, by omega, by rw [if_pos hi]⟩
theorem pre_sum {gd : Int} {B : Ins} (h : (checkZ gd B).2.2 = 0) (c : List Int) (k : Nat) (hk : k ≤ c.length) : 0 ≤ sumO (pre B c k) ∧ sumO (pre B c k) ≤ 1099511627776 * (k : Int) := by
  have := sumO_bnd (L := pre B c k) (fun x hx => row_coins h c k x (pre_mem hx hk))
  rwa [pre_len] at this

def setsV (L : List Off) : List Value := (nums (gsets L)).map (Value.int .u32)
theorem setsV_len (L : List Off) : (setsV L).length = L.length := by simp [setsV, nums, gsets]
theorem setsV_app (L : List Off) (x : Off) : setsV (L ++ [x]) = setsV L ++ [.int .u32 (x.1 : Int)] := by simp [setsV, nums, gsets]

theorem parts_g : ∃ i, Tryd.prog.info? 25 = some i ∧ i.zero = some (.int .u32 0) ∧ i.size = 1 ∧ i.bytes = 4 := by
  obtain ⟨i, hi, h2⟩ := Option.map_eq_some_iff.1 info_g
  simp only [Prod.mk.injEq] at h2
  exact ⟨i, hi, h2.1, h2.2.2, h2.2.1⟩

/-- A list of sets that was told. -/
def SetsC (lo : Nat) (w' : World) (v : Value) (L : List Off) : Prop := ∃ ao cap, v = .slice ao L.length cap ∧ NumsC .u32 w' ao (nums (gsets L)) ∧ ∀ g o, ao = some ⟨g, o, none⟩ → lo ≤ g

theorem sets_of {w : World} {B : Nat} {v : Value} {L : List Off} (h : w.ownsRow B 25 1 v L.length (setsV L)) : SetsC B w v L := by
  have hn : (nums (gsets L)).length = L.length := by simp [nums, gsets]
  rcases h.2 with ⟨rfl, h0⟩ | ⟨g, cap, cur, rfl, h3, h4, h5, h6, h7, h8⟩
  · have : L = [] := List.eq_nil_of_length_eq_zero h0
    subst this
    exact ⟨none, 0, rfl, fun i hi => by simp [nums, gsets] at hi, fun g o e => by cases e⟩
  · refine ⟨_, _, rfl, fun i hi => ⟨g, 0, rfl, blk_cells h4 ?_⟩, fun g' o e => by simp only [Option.some.injEq, Addr.mk.injEq, and_true] at e; omega⟩
    rw [hn] at hi
    have h9 : (cur.toList.take (L.length * 1))[i]? = (setsV L)[i]? := by rw [h8]
    rw [List.getElem?_take_of_lt (by omega)] at h9
    rw [Nat.zero_add]
    simp only [setsV, List.getElem?_map, List.getElem?_eq_getElem (show i < (nums (gsets L)).length by omega)] at h9
    simpa using h9

/-- Where Taken stands. -/
structure TX (w wr : World) (bx : Nat) (gd : Int) (s : Value) (tv : Value) (L : List Off) : Prop where
  old : Old w wr
  x : wr.heap[bx]? = some (.cells #[.int .i64 gd, s] 57 (0, 0))
  own : wr.ownsRow w.heap.size 25 1 tv L.length (setsV L)

theorem TX.olds {w wr w2 : World} {bx : Nat} {gd : Int} {s tv : Value} {L : List Off} (h : TX w wr bx gd s tv L) (o : Old wr w2) : TX w w2 bx gd s tv L :=
  ⟨h.old.trans o, by rw [o.block bx (blk_lt h.x) (fun h => h)]; exact h.x, owns_kept h.own (fun q hq => by obtain ⟨cur, hc⟩ := owns_block h.own hq; exact o.block q (blk_lt hc) (fun h => h))⟩

theorem typ_ne2 {w : World} {b c : Nat} {x y : Array Value} {s t : TypeId} (h : w.heap[b]? = some (.cells x s (0, 0))) (k : w.heap[c]? = some (.cells y t (0, 0))) (hn : s ≠ t) : b ≠ c := by
  rintro rfl
  rw [h] at k
  simp only [Option.some.injEq, Obj.cells.injEq] at k
  exact hn k.2.1

theorem TX.app {w wr w' : World} {bx : Nat} {gd : Int} {s tv : Value} {L : List Off} {g cap : Nat} {x : Off} (h : TX w wr bx gd s tv L) (hown : w'.ownsRow w.heap.size 25 1 (.slice (some ⟨g, 0, none⟩) (L.length + 1) cap) (L.length + 1) (setsV L ++ [.int .u32 (x.1 : Int)])) (hg : wr.grownBy w' tv.ownBlock) : TX w w' bx gd s (.slice (some ⟨g, 0, none⟩) (L.length + 1) cap) (L ++ [x]) := by
  have hf : Frm (fun k => tv.ownBlock = some k) wr w' := Frm.grown (Frm.refl _ wr) hg (fun k hk => Or.inr hk)
  refine ⟨Frm.trans (S := fun _ => False) h.old hf (fun k hlt hk => ?_), ?_, ?_⟩
  · rcases h.own.2 with ⟨e2, _⟩ | ⟨q, c, cur, e2, h3, _⟩
    · rw [e2] at hk; simp [Value.ownBlock] at hk
    · rw [e2] at hk
      simp [Value.ownBlock] at hk
      omega
  · rw [hf.block bx (blk_lt h.x) (fun e => by obtain ⟨cur, hc⟩ := owns_block h.own e; exact typ_ne2 h.x hc (by decide) rfl)]
    exact h.x
  · rw [setsV_app]
    simp only [List.length_append, List.length_cons, List.length_nil]
    exact hown

/-- What the document's Taken tells. -/
def RTak (w : World) (gd : Int) (B : Ins) (c : List Int) (e : Ending) (w' : World) : Prop := Old w w' ∧ ∃ v, e = .returned (.tuple #[v, .int .i64 (worthZ gd B c), .int .i64 (choE gd B c)]) ∧ (choE gd B c = 0 → SetsC w.heap.size w' v (row B c)) ∧ (choE gd B c ≠ 0 → v = .slice none 0 0)

theorem rtak_no {w w' : World} {gd z : Int} {B : Ins} {c : List Int} (o : Old w w') (hz : choE gd B c = z) (hn : z ≠ 0) : RTak w gd B c (.returned (.tuple #[.slice none 0 0, .int .i64 0, .int .i64 z])) w' :=
  ⟨o, .slice none 0 0, by rw [hz, worthZ, if_neg (by rw [hz]; exact hn)], fun h => absurd (hz.symm.trans h) hn, fun _ => rfl⟩


set_option maxRecDepth 100000 in
set_option maxHeartbeats 8000000 in
theorem rtaken_any (gd : Int) (bo co : Option Addr) (cap cc : Nat) (B : Ins) (c : List Int) (w : World) (h : InsC w bo B) (hl : B.length ≤ 9223372036854775807) (hc : NumsC .i64 w co c) (hcl : c.length ≤ 9223372036854775807) :
    Calls Tryd.prog 36 #[.agg #[.int .i64 gd, .slice bo B.length cap], .slice co c.length cc] w fun e w' => RTak w gd B c e w' := by
  have o1 : Old w (w.alloc (.cells #[.int .i64 gd, .slice bo B.length cap] 57)) := (Old.refl w).alloc _
  have hb1 := heap_new w (.cells #[.int .i64 gd, .slice bo B.length cap] 57)
  have c0 := blk_cells (i := 0) hb1 rfl
  have c1 := blk_cells (i := 1) hb1 rfl
  simp only [List.getElem_toArray, List.getElem_cons_zero, List.getElem_cons_succ] at c0 c1
  have kC := hid (rcheck_any gd bo cap B _ (h.old o1) hl)
  have ko1 := hid o1
  have kb1 := hid hb1
  have kI := hid h
  have kc := hid hc
  obtain ⟨⟨e0, e1, ez⟩, hez⟩ : ∃ z, checkZ gd B = z := ⟨_, rfl⟩
  rw [hez] at kC
  dsimp only at kC
  have kez : Hid ((checkZ gd B).2.2 = ez) := by show _ = _; rw [hez]
  clear o1 hb1 hez h hc
  go_enter Tryd.func36, Tryd.ntmps36
  go_wp2_with fail
  refine kC.out.mono ?_
  rintro e w2 ⟨rfl, o2⟩
  have c0' := o2.cell c0
  have c1' := o2.cell c1
  have cl' := World.block_lt_of_cell? _ _ c1'
  dsimp only at cl'
  have kO2 := hid (ko1.out.trans o2)
  have kb2 := hid ((o2.block _ (blk_lt kb1.out) (fun h => h)).trans kb1.out)
  clear o2 c0 c1 ko1 kb1 kC
  by_cases hz : ez = 0
  · subst hz
    by_cases hlen : c.length = B.length
    · have hlb : ((c.length : Int) != (B.length : Int)) = false := by rw [hlen]; simp
      have kck := hid (check_ok kez.out)
      have hB32 : B.length ≤ 32 := (check_ok kez.out).2.1
      obtain ⟨i0, q0, q1, q2, q3⟩ := parts_g
      have q0 := hid q0
      have q1 := hid q1
      have q2 := hid q2
      have q3 := hid q3
      have hX0 : Hid (TX w w2 w.heap.size gd (.slice bo B.length cap) (.slice none 0 0) (pre B c 0)) := ⟨kO2.out, kb2.out, ⟨rfl, Or.inl ⟨rfl, rfl⟩⟩⟩
      clear kO2 kb2
      go_wp2_with fail
      clear c0' c1' cl'
      obtain ⟨bx, hbx⟩ : ∃ bx, w.heap.size = bx := ⟨_, rfl⟩
      rw [hbx] at hX0 ⊢
      clear hbx
      go_loopw [10, 11, 12] (fun tv sv iv wr => ∃ k : Nat, k ≤ c.length ∧ iv = .int .i64 (k : Int) ∧ sv = .int .i64 (sumO (pre B c k)) ∧ (∀ i, i < k → (pkA B c i).isSome = true) ∧ (∃ ao c9, tv = .slice ao k c9) ∧ Hid (TX w wr bx gd (.slice bo B.length cap) tv (pre B c k))) (fun _ _ iv _ => c.length - (intOf iv).toNat)
      case atStart => exact ⟨0, Nat.zero_le _, rfl, rfl, fun i hi => by omega, ⟨none, 0, rfl⟩, hX0⟩
      case round =>
        clear hX0
        obtain ⟨k, hk, rfl, rfl, hall, ⟨ta, tc, rfl⟩, hX⟩ := hrel
        have kall := hid hall
        clear hall
        by_cases hlt : k < c.length
        · have hltB : k < B.length := by omega
          have hlt' : (k : Int) < (c.length : Int) := by omega
          have hltB' : (k : Int) < (B.length : Int) := by omega
          have hX1 := hid hX.out.old
          obtain ⟨gc, oc, rfl, cz⟩ := (kc.out.old hX1.out) k hlt
          obtain ⟨gb, ob, a0, cc0, rfl, ck, cO, hll, hxl⟩ := (kI.out.old hX1.out) k hltB
          have x1 := blk_cells (i := 1) hX.out.x rfl
          simp only [List.getElem_toArray, List.getElem_cons_zero, List.getElem_cons_succ] at x1
          have xl := World.block_lt_of_cell? _ _ x1
          have zl := World.block_lt_of_cell? _ _ cz
          have bl := World.block_lt_of_cell? _ _ ck
          dsimp only at xl zl bl
          have hpk : Hid (pkA B c k = pickO B[k] c[k]) := by show _ = _; simp [pkA, List.getD_eq_getElem?_getD, hltB, hlt]
          have hsuc := hid (pre_succ B c k)
          have kO := hid cO
          obtain ⟨l, hle⟩ : ∃ l, B[k] = l := ⟨_, rfl⟩
          rw [hle] at ck kO hll hxl hpk
          obtain ⟨z, hzz⟩ : ∃ z, c[k] = z := ⟨_, rfl⟩
          rw [hzz] at cz hpk
          have kxl := hid hxl
          clear cO hle hzz hX1 hxl
          have knone : Hid (pickO l z = none → choE gd B c = 170) := fun hno => by
            rw [choE, if_neg (by rw [kez.out]; simp), if_neg (by omega), if_neg]
            intro hal
            have := hal k hlt
            rw [hpk.out, hno] at this
            cases this
          have kO9 := hid hX.out.old
          go_upto_region 11 with fail
          by_cases hz1 : z < -1
          · have kz := hid (knone.out (by unfold pickO; rw [if_neg (by omega), if_neg (by omega)]))
            clear hX kO knone kall hsuc hpk kI kc kxl
            go_region
            all_goals go_wp2_with fail
            all_goals exact bodyPost_ret (v := .tuple #[.slice none 0 0, .int .i64 0, .int .i64 170]) (by simp [results, Tryd.f36, go_sem]) rfl (rtak_no (kO9.out.drewN 1) kz.out (by decide))
          · refine wp_region_noPanic ?_
            refine wp_region_held_drew (S := fun W => Old wr W) (by kernel_rfl) ((Old.refl _).drewN 1) (fun hHeld => ?_)
            generalize wr.drew = V0 at *
            refine' wpAnyH_take (i := 0) rfl (by kernel_rfl) (by kernel_rfl) (by kernel_rfl) (fun _ _ _ h => h) (Or.inl ⟨by rfl, ?_⟩) hHeld ?_
            rotate_left
            · intro W hSw
              have hcW := fun b o (k : b < wr.heap.size) => (show Old wr W from hSw).below.cell (p := ⟨b, o, none⟩) k
              clear hSw
              simp only [List.getElem_toArray, List.getElem_cons_zero]
              go_simp
              all_goals with_reducible rfl
            simp only [List.getElem_toArray, List.getElem_cons_zero, Act.put, List.setIfInBounds_toArray, List.set_cons_zero, List.set_cons_succ]
            refine' wpAnyH_take (i := 1) rfl (by kernel_rfl) (by kernel_rfl) (by kernel_rfl) (fun _ _ _ h => h) (Or.inl ⟨by rfl, ?_⟩) hHeld ?_
            rotate_left
            · intro W hSw
              have hcW := fun b o (k : b < wr.heap.size) => (show Old wr W from hSw).below.cell (p := ⟨b, o, none⟩) k
              clear hSw
              simp only [List.getElem_toArray, List.getElem_cons_zero, List.getElem_cons_succ]
              go_simp
              all_goals with_reducible rfl
            simp only [List.getElem_toArray, List.getElem_cons_zero, List.getElem_cons_succ, Act.put, List.setIfInBounds_toArray, List.set_cons_zero, List.set_cons_succ]
            refine' wpAnyH_take (i := 2) rfl (by kernel_rfl) (by kernel_rfl) (by kernel_rfl) (fun _ _ _ h => h) (Or.inl ⟨by rfl, ?_⟩) hHeld ?_
            rotate_left
            · intro W hSw
              have hcW := fun b o (k : b < wr.heap.size) => (show Old wr W from hSw).below.cell (p := ⟨b, o, none⟩) k
              clear hSw
              simp only [List.getElem_toArray, List.getElem_cons_zero, List.getElem_cons_succ]
              go_simp
              all_goals with_reducible rfl
            simp only [List.getElem_toArray, List.getElem_cons_zero, List.getElem_cons_succ, Act.put, List.setIfInBounds_toArray, List.set_cons_zero, List.set_cons_succ]
            refine' wpAnyH_take (i := 3) rfl (by kernel_rfl) (by kernel_rfl) (by kernel_rfl) (fun _ _ _ h => h) (Or.inl ⟨by rfl, ?_⟩) hHeld ?_
            rotate_left
            · intro W hSw
              have hcW := fun b o (k : b < wr.heap.size) => (show Old wr W from hSw).below.cell (p := ⟨b, o, none⟩) k
              clear hSw
              simp only [List.getElem_toArray, List.getElem_cons_zero, List.getElem_cons_succ]
              go_simp
              all_goals with_reducible rfl
            simp only [List.getElem_toArray, List.getElem_cons_zero, List.getElem_cons_succ, Act.put, List.setIfInBounds_toArray, List.set_cons_zero, List.set_cons_succ]
            refine' wpAnyH_take (i := 4) rfl (by kernel_rfl) (by kernel_rfl) (by kernel_rfl) (fun _ _ _ h => h) (Or.inl ⟨by rfl, ?_⟩) hHeld ?_
            rotate_left
            · intro W hSw
              have hcW := fun b o (k : b < wr.heap.size) => (show Old wr W from hSw).below.cell (p := ⟨b, o, none⟩) k
              clear hSw
              simp only [List.getElem_toArray, List.getElem_cons_zero, List.getElem_cons_succ]
              go_simp
              all_goals with_reducible rfl
            simp only [List.getElem_toArray, List.getElem_cons_zero, List.getElem_cons_succ, Act.put, List.setIfInBounds_toArray, List.set_cons_zero, List.set_cons_succ]
            refine' wpAnyH_take (i := 5) rfl (by kernel_rfl) (by kernel_rfl) (by kernel_rfl) (fun _ _ _ h => h) (Or.inl ⟨by rfl, ?_⟩) hHeld ?_
            rotate_left
            · intro W hSw
              have hcW := fun b o (k : b < wr.heap.size) => (show Old wr W from hSw).below.cell (p := ⟨b, o, none⟩) k
              clear hSw
              simp only [List.getElem_toArray, List.getElem_cons_zero, List.getElem_cons_succ]
              go_simp
              all_goals with_reducible rfl
            simp only [List.getElem_toArray, List.getElem_cons_zero, List.getElem_cons_succ, Act.put, List.setIfInBounds_toArray, List.set_cons_zero, List.set_cons_succ]
            refine' wpAnyH_take (i := 6) rfl (by kernel_rfl) (by kernel_rfl) (by kernel_rfl) (fun _ _ _ h => h) (Or.inl ⟨by rfl, ?_⟩) hHeld ?_
            rotate_left
            · intro W hSw
              have hcW := fun b o (k : b < wr.heap.size) => (show Old wr W from hSw).below.cell (p := ⟨b, o, none⟩) k
              clear hSw
              simp only [List.getElem_toArray, List.getElem_cons_zero, List.getElem_cons_succ]
              go_simp
              all_goals with_reducible rfl
            simp only [List.getElem_toArray, List.getElem_cons_zero, List.getElem_cons_succ, Act.put, List.setIfInBounds_toArray, List.set_cons_zero, List.set_cons_succ]
            refine' wpAnyH_take (i := 7) rfl (by kernel_rfl) (by kernel_rfl) (by kernel_rfl) (fun _ _ _ h => h) (Or.inl ⟨by rfl, ?_⟩) hHeld ?_
            rotate_left
            · intro W hSw
              have hcW := fun b o (k : b < wr.heap.size) => (show Old wr W from hSw).below.cell (p := ⟨b, o, none⟩) k
              clear hSw
              simp only [List.getElem_toArray, List.getElem_cons_zero, List.getElem_cons_succ]
              go_simp
              all_goals with_reducible rfl
            simp only [List.getElem_toArray, List.getElem_cons_zero, List.getElem_cons_succ, Act.put, List.setIfInBounds_toArray, List.set_cons_zero, List.set_cons_succ]
            refine' wpAnyH_take (i := 8) rfl (by kernel_rfl) (by kernel_rfl) (by kernel_rfl) (fun _ _ _ h => h) (Or.inl ⟨by rfl, ?_⟩) hHeld ?_
            rotate_left
            · intro W hSw
              have hcW := fun b o (k : b < wr.heap.size) => (show Old wr W from hSw).below.cell (p := ⟨b, o, none⟩) k
              clear hSw
              simp only [List.getElem_toArray, List.getElem_cons_zero, List.getElem_cons_succ]
              go_simp
              all_goals with_reducible rfl
            simp only [List.getElem_toArray, List.getElem_cons_zero, List.getElem_cons_succ, Act.put, List.setIfInBounds_toArray, List.set_cons_zero, List.set_cons_succ]
            refine' wpAnyH_take (i := 9) rfl (by kernel_rfl) (by kernel_rfl) (by kernel_rfl) (fun _ _ _ h => h) (Or.inl ⟨by rfl, ?_⟩) hHeld ?_
            rotate_left
            · intro W hSw
              have hcW := fun b o (k : b < wr.heap.size) => (show Old wr W from hSw).below.cell (p := ⟨b, o, none⟩) k
              clear hSw
              simp only [List.getElem_toArray, List.getElem_cons_zero, List.getElem_cons_succ]
              go_simp
              all_goals with_reducible rfl
            simp only [List.getElem_toArray, List.getElem_cons_zero, List.getElem_cons_succ, Act.put, List.setIfInBounds_toArray, List.set_cons_zero, List.set_cons_succ]
            refine' wpAnyH_take (i := 10) rfl (by kernel_rfl) (by kernel_rfl) (by kernel_rfl) (fun _ _ _ h => h) (Or.inl ⟨by rfl, ?_⟩) hHeld ?_
            rotate_left
            · intro W hSw
              have hcW := fun b o (k : b < wr.heap.size) => (show Old wr W from hSw).below.cell (p := ⟨b, o, none⟩) k
              clear hSw
              simp only [List.getElem_toArray, List.getElem_cons_zero, List.getElem_cons_succ]
              go_simp
              all_goals with_reducible rfl
            simp only [List.getElem_toArray, List.getElem_cons_zero, List.getElem_cons_succ, Act.put, List.setIfInBounds_toArray, List.set_cons_zero, List.set_cons_succ]
            refine' wpAnyH_take (i := 11) rfl (by kernel_rfl) (by kernel_rfl) (by kernel_rfl) (fun _ _ _ h => h) (Or.inl ⟨by rfl, ?_⟩) hHeld ?_
            rotate_left
            · intro W hSw
              have hcW := fun b o (k : b < wr.heap.size) => (show Old wr W from hSw).below.cell (p := ⟨b, o, none⟩) k
              clear hSw
              simp only [List.getElem_toArray, List.getElem_cons_zero, List.getElem_cons_succ]
              go_simp
              all_goals with_reducible rfl
            simp only [List.getElem_toArray, List.getElem_cons_zero, List.getElem_cons_succ, Act.put, List.setIfInBounds_toArray, List.set_cons_zero, List.set_cons_succ]
            refine' wpAnyH_take (i := 12) rfl (by kernel_rfl) (by kernel_rfl) (by kernel_rfl) (fun _ _ _ h => h) (Or.inl ⟨by rfl, ?_⟩) hHeld ?_
            rotate_left
            · intro W hSw
              have hcW := fun b o (k : b < wr.heap.size) => (show Old wr W from hSw).below.cell (p := ⟨b, o, none⟩) k
              clear hSw
              simp only [List.getElem_toArray, List.getElem_cons_zero, List.getElem_cons_succ]
              go_simp
              all_goals with_reducible rfl
            simp only [List.getElem_toArray, List.getElem_cons_zero, List.getElem_cons_succ, Act.put, List.setIfInBounds_toArray, List.set_cons_zero, List.set_cons_succ]
            refine' wpAnyH_take (i := 13) rfl (by kernel_rfl) (by kernel_rfl) (by kernel_rfl) (fun _ _ _ h => h) (Or.inl ⟨by rfl, ?_⟩) hHeld ?_
            rotate_left
            · intro W hSw
              have hcW := fun b o (k : b < wr.heap.size) => (show Old wr W from hSw).below.cell (p := ⟨b, o, none⟩) k
              clear hSw
              simp only [List.getElem_toArray, List.getElem_cons_zero, List.getElem_cons_succ]
              go_simp
              all_goals with_reducible rfl
            simp only [List.getElem_toArray, List.getElem_cons_zero, List.getElem_cons_succ, Act.put, List.setIfInBounds_toArray, List.set_cons_zero, List.set_cons_succ]
            refine' wpAnyH_take (i := 14) rfl (by kernel_rfl) (by kernel_rfl) (by kernel_rfl) (fun _ _ _ h => h) (Or.inl ⟨by rfl, ?_⟩) hHeld ?_
            rotate_left
            · intro W hSw
              have hcW := fun b o (k : b < wr.heap.size) => (show Old wr W from hSw).below.cell (p := ⟨b, o, none⟩) k
              clear hSw
              simp only [List.getElem_toArray, List.getElem_cons_zero, List.getElem_cons_succ]
              go_simp
              all_goals with_reducible rfl
            simp only [List.getElem_toArray, List.getElem_cons_zero, List.getElem_cons_succ, Act.put, List.setIfInBounds_toArray, List.set_cons_zero, List.set_cons_succ]
            refine' wpAnyH_take (i := 15) rfl (by kernel_rfl) (by kernel_rfl) (by kernel_rfl) (fun _ _ _ h => h) (Or.inl ⟨by rfl, ?_⟩) hHeld ?_
            rotate_left
            · intro W hSw
              have hcW := fun b o (k : b < wr.heap.size) => (show Old wr W from hSw).below.cell (p := ⟨b, o, none⟩) k
              clear hSw
              simp only [List.getElem_toArray, List.getElem_cons_zero, List.getElem_cons_succ]
              go_simp
              all_goals with_reducible rfl
            simp only [List.getElem_toArray, List.getElem_cons_zero, List.getElem_cons_succ, Act.put, List.setIfInBounds_toArray, List.set_cons_zero, List.set_cons_succ]
            refine' wpAnyH_take (i := 16) rfl (by kernel_rfl) (by kernel_rfl) (by kernel_rfl) (fun _ _ _ h => h) (Or.inl ⟨by rfl, ?_⟩) hHeld ?_
            rotate_left
            · intro W hSw
              have hcW := fun b o (k : b < wr.heap.size) => (show Old wr W from hSw).below.cell (p := ⟨b, o, none⟩) k
              clear hSw
              simp only [List.getElem_toArray, List.getElem_cons_zero, List.getElem_cons_succ]
              go_simp
              all_goals with_reducible rfl
            simp only [List.getElem_toArray, List.getElem_cons_zero, List.getElem_cons_succ, Act.put, List.setIfInBounds_toArray, List.set_cons_zero, List.set_cons_succ]
            refine' wpAnyH_take (i := 17) rfl (by kernel_rfl) (by kernel_rfl) (by kernel_rfl) (fun _ _ _ h => h) (Or.inl ⟨by rfl, ?_⟩) hHeld ?_
            rotate_left
            · intro W hSw
              have hcW := fun b o (k : b < wr.heap.size) => (show Old wr W from hSw).below.cell (p := ⟨b, o, none⟩) k
              clear hSw
              simp only [List.getElem_toArray, List.getElem_cons_zero, List.getElem_cons_succ]
              go_simp
              all_goals with_reducible rfl
            simp only [List.getElem_toArray, List.getElem_cons_zero, List.getElem_cons_succ, Act.put, List.setIfInBounds_toArray, List.set_cons_zero, List.set_cons_succ]
            refine wpAnyH_done (by kernel_rfl) ?_ _
            refine NoPanic.normal ?_
            have hX2 := hid (hX.out.olds hHeld)
            have cz2 := hHeld.cell cz
            have ck2 := hHeld.cell ck
            have kO2 := hid (kO.out.old hHeld)
            have x2 := blk_cells (i := 1) hX2.out.x rfl
            simp only [List.getElem_toArray, List.getElem_cons_zero, List.getElem_cons_succ] at x2
            have xl2 := World.block_lt_of_cell? _ _ x2
            have zl2 := World.block_lt_of_cell? _ _ cz2
            have bl2 := World.block_lt_of_cell? _ _ ck2
            dsimp only at xl2 zl2 bl2
            clear hHeld hX kO cz ck x1 xl zl bl kO9
            by_cases hz2 : z ≥ (l.length : Int)
            · have kz := hid (knone.out (by unfold pickO; rw [if_neg (by omega), if_neg (by omega)]))
              have kOz := hid hX2.out.old
              go_wp2_with fail
              refine bodyPost_ret (v := .tuple #[.slice none 0 0, .int .i64 0, .int .i64 170]) (by simp [results, Tryd.f36, go_sem]) rfl (rtak_no kOz.out kz.out (by decide))
            · by_cases hz0 : z < 0
              · have hz3 : z = -1 := by omega
                have hp : Hid (pkA B c k = some (0, 0)) := by show _ = _; rw [hpk.out, pickO, if_pos hz3]
                have hsm : Hid (sumO (pre B c (k + 1)) = sumO (pre B c k)) := by show _ = _; rw [hsuc.out, hp.out, sumO_append]; simp [sumO]
                have hall2 : Hid (∀ i, i < k + 1 → (pkA B c i).isSome = true) := fun i hi => by
                  by_cases e : i = k
                  · rw [e, hp.out]; rfl
                  · exact kall.out i (by omega)
                rw [hp.out, Option.getD_some] at hsuc
                have hown := hid hX2.out.own
                have hsz := hX2.out.old.size
                have hel : (pre B c k).length ≤ 32 := by rw [pre_len]; omega
                have hel2 : Hid ((pre B c k).length = k) := pre_len B c k
                go_wp2_with (at_builtin; refine wpList_append_lies _ (by rfl) _ _ 23 (by rfl) w.heap.size 25 i0 _ 1 4 Tryd.underlying23 q0.out q1.out q2.out q3.out rfl (by omega) (.slice ta k tc) (pre B c k).length (setsV (pre B c k)) (by rfl) (World.ownsRow.alloc hown.out _) ⟨V0.heap.size, 0, none⟩ 1 1 [.int .u32 0] (by rfl) (by rfl) (World.news_of_block (heap_new V0 _)) (by intro u hu; simp at hu; subst hu; rfl) (by omega) (by unfold maxLen; omega) (by omega) (Nat.le_trans hsz (by simp)) _ rfl ?_; intro g6 cap6 w6 hown6 hgrow6 hat6 hlt6; have hX6 := hid ((hX2.out.olds ((Old.refl V0).alloc _)).app (x := (0, 0)) hown6 hgrow6); clear hown6 hgrow6 hat6 hlt6)
                rw [← hsuc.out] at hX6
                go_roundw
                case rel => exact ⟨k + 1, by omega, by go_num, by rw [hsm.out], hall2.out, ⟨_, _, by rw [hel2.out]⟩, hX6⟩
                case measure => simp [intOf]; omega
              · obtain ⟨m, rfl⟩ : ∃ m : Nat, z = m := ⟨z.toNat, by omega⟩
                have hml : m < l.length := by omega
                have hp : Hid (pkA B c k = some l[m]) := by
                  show _ = _
                  rw [hpk.out, pickO, if_neg (by omega), if_pos (by omega)]
                  simp [List.getD_eq_getElem?_getD, hml]
                obtain ⟨gl, ol, rfl, d1, d2⟩ := kO2.out m hml
                have hcb := pre_sum kez.out c (k + 1) (by omega)
                have hcb0 := pre_sum kez.out c k hk
                obtain ⟨x, hxe⟩ : ∃ x, l[m] = x := ⟨_, rfl⟩
                rw [hxe] at d1 d2 hp
                clear hxe
                obtain ⟨xg, xc⟩ := x
                dsimp only at d1 d2
                have dl := World.block_lt_of_cell? _ _ d1
                dsimp only at dl
                have hsm : Hid (sumO (pre B c (k + 1)) = sumO (pre B c k) + xc) := by show _ = _; rw [hsuc.out, hp.out, sumO_append]; simp [sumO]
                have hall2 : Hid (∀ i, i < k + 1 → (pkA B c i).isSome = true) := fun i hi => by
                  by_cases e : i = k
                  · rw [e, hp.out]; rfl
                  · exact kall.out i (by omega)
                rw [hp.out, Option.getD_some] at hsuc
                go_upto_region 15 with fail
                rw [hsm.out] at hcb
                have hsb1 : -9223372036854775808 ≤ sumO (pre B c k) + xc := by omega
                have hsb2 : sumO (pre B c k) + xc ≤ 9223372036854775807 := by omega
                clear hcb hcb0
                go_region
                have n0 := new_cell V0 #[.int .u32 (xg : Int), .int .i64 xc] 73 0 _ rfl
                have n1 := new_cell V0 #[.int .u32 (xg : Int), .int .i64 xc] 73 1 _ rfl
                have oD : Old (V0.alloc (.cells #[.int .u32 (xg : Int), .int .i64 xc] 73)) (V0.alloc (.cells #[.int .u32 (xg : Int), .int .i64 xc] 73)).drew := (Old.refl _).drewN 1
                have hbn := hid ((oD.block _ (blk_lt (heap_new V0 (.cells #[.int .u32 (xg : Int), .int .i64 xc] 73))) (fun h => h)).trans (heap_new V0 (.cells #[.int .u32 (xg : Int), .int .i64 xc] 73)))
                have m0 := oD.cell n0
                have m1 := oD.cell n1
                have hX3 := hid (hX2.out.olds (((Old.refl V0).alloc (.cells #[.int .u32 (xg : Int), .int .i64 xc] 73)).trans oD))
                clear n0 n1 oD d1 d2 dl x2 xl2 zl2 bl2 cz2 ck2 hX2 kO2
                generalize (V0.alloc (.cells #[.int .u32 (xg : Int), .int .i64 xc] 73)).drew = V1 at *
                generalize V0.heap.size = b13 at *
                simp only [List.getElem_toArray, List.getElem_cons_zero, List.getElem_cons_succ] at m0 m1
                have ml := World.block_lt_of_cell? _ _ m0
                dsimp only at ml
                have hown := hid hX3.out.own
                have hsz := hX3.out.old.size
                have hel : (pre B c k).length ≤ 32 := by rw [pre_len]; omega
                have hel2 : Hid ((pre B c k).length = k) := pre_len B c k
                go_wp2_with (at_builtin; refine wpList_append_lies _ (by rfl) _ _ 23 (by rfl) w.heap.size 25 i0 _ 1 4 Tryd.underlying23 q0.out q1.out q2.out q3.out rfl (by omega) (.slice ta k tc) (pre B c k).length (setsV (pre B c k)) (by rfl) (World.ownsRow.alloc hown.out _) ⟨V1.heap.size, 0, none⟩ 1 1 [.int .u32 (xg : Int)] (by rfl) (by rfl) (World.news_of_block (heap_new V1 _)) (by intro u hu; simp at hu; subst hu; rfl) (by omega) (by unfold maxLen; omega) (by omega) (Nat.le_trans hsz (by simp)) _ rfl ?_; intro g6 cap6 w6 hown6 hgrow6 hat6 hlt6; have hX6 := hid ((hX3.out.olds ((Old.refl V1).alloc _)).app (x := (xg, xc)) hown6 hgrow6); have hX3a := hX3.out.olds ((Old.refl V1).alloc (.cells #[.int .u32 (xg : Int)] 25)); have hf6 : Frm (fun q => (Value.slice ta k tc).ownBlock = some q) (V1.alloc (.cells #[.int .u32 (xg : Int)] 25)) w6 := Frm.grown (Frm.refl _ _) hgrow6 (fun q hq => Or.inr hq); have hb6 := (hf6.block b13 (by simp; omega) (fun e => by obtain ⟨cur, hc⟩ := owns_block hX3a.own e; exact typ_ne2 ((Below.heap_alloc V1 _ b13 ml).trans hbn.out) hc (by decide) rfl)).trans ((Below.heap_alloc V1 _ b13 ml).trans hbn.out); have m6 := blk_cells (i := 1) hb6 rfl; have ml6 := blk_lt hb6; simp only [List.getElem_toArray, List.getElem_cons_zero, List.getElem_cons_succ] at m6; clear hX3a hf6 hb6; clear hown6 hgrow6 hat6 hlt6)
                rw [← hsuc.out] at hX6
                go_roundw
                case rel => exact ⟨k + 1, by omega, by go_num, by rw [hsm.out], hall2.out, ⟨_, _, by rw [hel2.out]⟩, hX6⟩
                case measure => simp [intOf]; omega
        · obtain rfl : k = c.length := by omega
          have hlt' : ¬ (c.length : Int) < (c.length : Int) := by omega
          have hlt2 : ¬ (c.length : Int) < (B.length : Int) := by omega
          have klen := hid hlen
          clear hlen hlb hlt
          have hrp := hid (row_pre B c)
          have kS := hid (sets_of hX.out.own)
          obtain ⟨a9, c9, hv9, hn9, -⟩ := kS.out
          have kAp := hid (rapart_any a9 c9 (gsets (pre B c c.length)) wr hn9 (by simp [gsets, pre]; omega) (fun x hx => by
            have := gsets_lt kI.out c c.length x
            rw [show rowK B c c.length = pre B c c.length from row_pre B c] at this
            exact this hx))
          rw [show (gsets (pre B c c.length)).length = c.length by simp [gsets, pre]] at kAp
          rw [show (pre B c c.length).length = c.length from pre_len B c _] at hv9
          simp only [Value.slice.injEq, true_and] at hv9
          obtain ⟨rfl, rfl⟩ := hv9
          have kO9 := hid hX.out.old
          have kall9 : Hid (∀ i, i < c.length → (pkA B c i).isSome = true) := kall.out
          clear hX kall
          go_wp2_with fail
          refine kAp.out.mono ?_
          rintro e w8 ⟨rfl, o8⟩
          have kO8 := hid (kO9.out.trans o8)
          have kS8 : Hid (SetsC w.heap.size w8 (.slice ta c.length tc) (pre B c c.length)) := by
            obtain ⟨a', c', h1, h2, h3⟩ := kS.out
            exact ⟨a', c', h1, h2.old o8, h3⟩
          clear o8 kS kO9 kAp
          cases hap : (apZ (gsets (pre B c c.length))).2
          · have kz : Hid (choE gd B c = 170) := by
              show _ = _
              rw [choE, if_neg (by rw [kez.out]; simp), if_neg (by simp [klen.out]), if_pos kall9.out, hrp.out, hap]
              rfl
            go_wp2_with fail
            exact bodyPost_ret (v := .tuple #[.slice none 0 0, .int .i64 0, .int .i64 170]) (by simp [results, Tryd.f36, go_sem]) rfl (rtak_no kO8.out kz.out (by decide))
          · have kz : Hid (choE gd B c = 0) := by
              show _ = _
              rw [choE, if_neg (by rw [kez.out]; simp), if_neg (by simp [klen.out]), if_pos kall9.out, hrp.out, hap]
              rfl
            go_wp2_with fail
            refine bodyPost_ret (v := .tuple #[.slice ta c.length tc, .int .i64 (sumO (pre B c c.length)), .int .i64 0]) (by simp [results, Tryd.f36, go_sem]) rfl ⟨kO8.out, _, by rw [kz.out, worthZ, if_pos kz.out, hrp.out], fun _ => by rw [hrp.out]; exact kS8.out, fun h => absurd kz.out h⟩
    · have hlb : ((c.length : Int) != (B.length : Int)) = true := by rw [bne_iff_ne]; omega
      have kz : Hid (choE gd B c = 170) := by show _ = _; rw [choE, if_neg (by rw [kez.out]; simp), if_pos hlen]
      go_wp2_with fail
      refine bodyPost_ret (v := .tuple #[.slice none 0 0, .int .i64 0, .int .i64 170]) (by simp [results, Tryd.f36, go_sem]) rfl (rtak_no kO2.out kz.out (by decide))
  · have hzb : (ez != 0) = true := by simpa using hz
    have kz : Hid (choE gd B c = ez) := by show _ = _; rw [choE, if_pos (by rw [kez.out]; exact hz), kez.out]
    have khz := hid hz
    go_wp2_with fail
    refine bodyPost_ret (v := .tuple #[.slice none 0 0, .int .i64 0, .int .i64 ez]) (by simp [results, Tryd.f36, go_sem]) rfl (rtak_no kO2.out kz.out khz.out)

end Go.Proofs.YtgbdnlpdicmaaaaDoor
