/- All over the names of a table, for every loop body that keeps them. -/
import Derived.Test.YtjkgijfddgppjaaN7
import Derived.Test.YtjkgijfddgppjaaN27
import Derived.Test.YtjkgijfddgppjaaN29
namespace Go.Proofs.Ytjkgijfddgppjaa
open Go.RowKit Go.Lib Go.Shelf
attribute [local go_sem] Oper.semAt_some

/-- A list of names as it lies, whatever its value looks like. -/
def LAt (w : World) (v : Value) (L : List (List UInt8)) : Prop := ∃ ao cap, v = .slice ao L.length cap ∧ ∀ i, i < L.length → ∃ g, ao = some ⟨g, 0, none⟩ ∧ w.cell? ⟨g, i, none⟩ = some (.string ⟨(L.getD i []).toArray⟩)

theorem Tbl.lat {w : World} {tb mb : Nat} {v : Value} {most : Int} {L : List (List UInt8)} (h : Tbl w tb mb v most L) : LAt w v L := by
  obtain ⟨ao, cap, hv⟩ := h.form
  refine ⟨ao, cap, hv, fun i hi => ?_⟩
  obtain ⟨g, cap', hv', hc⟩ := h.nth hi
  rw [hv] at hv'
  simp only [Value.slice.injEq, true_and] at hv'
  exact ⟨g, hv'.1, by rw [getD_at hi]; exact hc⟩
theorem LAt.frm {S : Nat → Prop} {w w' : World} {v : Value} {L : List (List UInt8)} (h : LAt w v L) (hf : Frm S w w') (hS : ∀ k, v.ownBlock = some k → ¬ S k) : LAt w' v L := by
  obtain ⟨ao, cap, rfl, hc⟩ := h
  refine ⟨ao, cap, rfl, fun i hi => ?_⟩
  obtain ⟨g, rfl, hci⟩ := hc i hi
  exact ⟨g, rfl, frm_cell hf hci (hS g rfl)⟩

/-- A number and a name. -/
abbrev NmE : Type := { x : Int × List UInt8 // x.2.length ≤ 64 }
def encE (x : NmE) : Array Value := #[.int .i64 x.1.1, .string ⟨x.1.2.toArray⟩]
/-- What has come when k rounds are over. -/
def evN (L : List (List UInt8)) (h : ∀ n, (L.getD n []).length ≤ 64) (k : Nat) : List NmE := List.map (fun j : Nat => ⟨((j : Int), L.getD j []), h j⟩) (List.range k)
theorem evN_succ (L : List (List UInt8)) (h : ∀ n, (L.getD n []).length ≤ 64) (k : Nat) : evN L h (k + 1) = evN L h k ++ [⟨((k : Int), L.getD k []), h k⟩] := by unfold evN; rw [List.range_succ, List.map_append]; rfl
theorem evN_length (L : List (List UInt8)) (h : ∀ n, (L.getD n []).length ≤ 64) (k : Nat) : (evN L h k).length = k := by unfold evN; rw [List.length_map, List.length_range]

set_option maxRecDepth 100000 in
theorem all_any (hb tb mb : Nat) (v : Value) (most : Int) (L : List (List UInt8)) (w : World) (h : Nms w hb tb mb v most L) :
    Calls Try.prog 34 #[.pointer (some ⟨hb, 0, none⟩)] w fun e w' => e = .returned (.func (.func 54) #[] #[.pointer (some ⟨w.heap.size, 0, none⟩)]) ∧ w' = w.alloc (.cells #[v] 49) := by
  have o0 : Old w (w.alloc (.cells #[.slice none 0 0] 49)) := (Old.refl w).alloc _
  have c0 := o0.cell h.c0
  have c1 := o0.cell h.t.cell1
  obtain ⟨ao, cap, rfl⟩ := h.t.form
  have kn := hid (none_some hb tb _ c0)
  clear h o0
  go_enter Try.func34, Try.ntmps34
  go_wp2_with fail
  refine kn.out.mono ?_
  rintro e w2 ⟨rfl, e2⟩
  rw [e2]
  clear e2 w2
  go_wp2
  go_ret
  exact ⟨rfl, rfl⟩

set_option maxRecDepth 100000 in
set_option maxHeartbeats 2000000 in
theorem all1_good (d : Nat) (hd : 1 ≤ d) (l B : Nat) (v : Value) (T : Nat → Prop) (L : List (List UInt8)) (hl : L.length ≤ 1048576) (h64 : ∀ n, (L.getD n []).length ≤ 64) (h2 : ∀ k, v.ownBlock = some k → ¬ T k) (J Jx : List NmE → World → Prop)
    (hY : ∀ pre x W, J pre W → pre.length < L.length → YieldAt Fence.wide (d - 1) Try.prog l (encE x) W fun e W' =>
      (e = .returned (.bool true) ∧ J (pre ++ [x]) W' ∧ Frm T W W') ∨ (e = .returned (.bool false) ∧ Jx (pre ++ [x]) W'))
    (W : World) (hB : W.cell? ⟨B, 0, none⟩ = some v) (hD : LAt W v L) (hJ : AbidesFrom W.heap.size J) (h0 : J [] W) :
    CallsIn Fence.wide d Try.prog 54 #[.func (.yield l) #[] #[], .pointer (some ⟨B, 0, none⟩)] W fun e W' => (∃ v, e = .returned v) ∧
      ((∃ ys, ys = evN L h64 L.length ∧ J ys W') ∨ (∃ pre, (∃ k, k ≤ L.length ∧ pre = evN L h64 k) ∧ Jx pre W')) := by
  obtain ⟨ao, cap, hv, _⟩ := id hD
  have hB0 := hB
  rw [hv] at hB0
  have kh2 := hid h2
  clear h2
  refine callsIn_of_wp Try.func54 rfl trivial ?_ rfl
  simp only [Try.ntmps54, List.size_toArray, List.length_cons, List.length_nil, Nat.reduceAdd, Nat.reduceSub, Array.replicate_succ, Array.replicate_zero, List.push_toArray, List.append_toArray, List.nil_append, List.cons_append]
  gi_wp2
  gi_loopw [7] (fun i wr => ∃ k : Nat, k ≤ L.length ∧ i = .int .i64 k ∧ J (evN L h64 k) wr ∧ LAt wr v L)
    (fun i _ => L.length - (intOf i).toNat)
  case atStart => exact ⟨0, Nat.zero_le _, rfl, h0, hD⟩
  case round =>
    obtain ⟨k, hk, rfl, hJs, hDs⟩ := hrel
    by_cases hlt : k < L.length
    · obtain ⟨ao', cap', hv', hcs⟩ := id hDs
      rw [hv] at hv'
      simp only [Value.slice.injEq, true_and] at hv'
      obtain ⟨rfl, rfl⟩ := hv'
      obtain ⟨g, rfl, ck⟩ := hcs k hlt
      have hk' : (k : Int) < (L.length : Int) := by omega
      have hx64 := h64 k
      have kD := hid hDs
      have kJ := hid hJs
      have hta := hid (evN_succ L h64 k)
      clear hDs hcs hJs hB hB0
      obtain ⟨z, hz⟩ : ∃ z : NmE, (⟨((k : Int), L.getD k []), h64 k⟩ : NmE) = z := ⟨_, rfl⟩
      rw [hz] at hta
      have hze : #[Value.int .i64 (k : Int), .string ⟨(L.getD k []).toArray⟩] = encE z := by rw [← hz]; rfl
      have kze := hid hze
      clear hze hz
      obtain ⟨x, hx⟩ : ∃ x, L.getD k [] = x := ⟨_, rfl⟩
      rw [hx] at ck hx64 kze
      clear hx
      have kC := hid (clone_any x wr (by omega))
      gi_wp2_with fail
      refine ⟨trivial, ?_⟩
      refine (callsIn_wide.2 kC.out).mono ?_
      rintro e w2 ⟨rfl, o2⟩
      have hJa : J (evN L h64 k) w2 := hJ _ _ _ none kJ.out ⟨o2.os, o2.tape, o2.output, o2.size, fun i hi _ => o2.block i hi (fun h => h)⟩ (fun _ e => by cases e)
      have hDa := hid (kD.out.frm o2 (fun _ _ h => h))
      obtain ⟨fn, tmps, assign, body, hy, hR⟩ := hY _ z _ hJa (by rw [evN_length]; exact hlt)
      rw [← kze.out] at hy
      clear hJa kJ kD o2 kC ck
      gi_wp2
      refine hR.mono ?_
      rintro e W3 (⟨rfl, hJ3, hb3⟩ | ⟨rfl, hJx3⟩)
      · have hD3 := hid (hDa.out.frm hb3 kh2.out)
        gi_wp2
        go_roundw
        case rel => exact ⟨k + 1, by omega, by simp, by rw [hta.out]; exact hJ3, hD3.out⟩
        case measure => simp [intOf]; omega
      · gi_wp2
        refine bodyPost_ret (results_none rfl _ _ _) rfl ?_
        exact ⟨⟨_, rfl⟩, .inr ⟨_, ⟨k + 1, by omega, hta.out.symm⟩, hJx3⟩⟩
    · obtain rfl : k = L.length := by omega
      gi_wp2
      go_end0
      exact ⟨⟨_, rfl⟩, .inl ⟨_, rfl, hJs⟩⟩

theorem all_stops (d : Nat) (hd : 1 ≤ d) (B : Nat) (v : Value) (T : Nat → Prop) (L : List (List UInt8)) (hl : L.length ≤ 1048576) (h64 : ∀ n, (L.getD n []).length ≤ 64) (w : World) (h2 : ∀ k, v.ownBlock = some k → ¬ T k) (hB : w.cell? ⟨B, 0, none⟩ = some v) (hD : LAt w v L) :
    SeqStopsK Fence.wide d Try.prog 54 #[.pointer (some ⟨B, 0, none⟩)] encE (Frm T)
      (fun ys => ys = evN L h64 L.length) (fun pre => ∃ k, k ≤ L.length ∧ pre = evN L h64 k) L.length w := fun l J Jx W hW hJ _ hY h0 =>
  all1_good d hd l B v T L hl h64 h2 J Jx hY W ((Old.of_below hW).cell hB) (hD.frm (Old.of_below hW) (fun _ _ h => h)) hJ h0
end Go.Proofs.Ytjkgijfddgppjaa
