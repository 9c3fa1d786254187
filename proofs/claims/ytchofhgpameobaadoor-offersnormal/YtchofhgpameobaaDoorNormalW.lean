/- OffersNormal, walked. -/
import Derived.Test.YtchofhgpameobaaDoorM9
import Derived.Test.YtchofhgpameobaaDoorJ1
import Derived.Test.YtchofhgpameobaaDoorH10
namespace Go.Proofs.YtchofhgpameobaaDoor
open Go.RowKit

theorem NewO.keep {B : Nat} {w w' : World} {v : Value} {L : List Off} (h : NewO B w v L) {S : Nat → Prop} (f : Frm S w w') (hS : ∀ k, v.ownBlock = some k → ¬ S k) : NewO B w' v L := by
  rcases h with h | ⟨b, cap, rfl, h2, h3, ow⟩
  · exact Or.inl h
  · exact Or.inr ⟨b, cap, rfl, h2, h3, fun i hi => ⟨frm_cell f (ow.cell i hi).1 (hS b rfl), frm_cell f (ow.cell i hi).2 (hS b rfl)⟩, fun j => frm_frozen f ow.lt (ow.fz j) (hS b rfl), Nat.lt_of_lt_of_le ow.lt f.size⟩
theorem NewO.blk {B : Nat} {w : World} {v : Value} {L : List Off} (h : NewO B w v L) {k : Nat} (hk : v.ownBlock = some k) : B ≤ k ∧ k < w.heap.size := by
  rcases h with ⟨rfl, _⟩ | ⟨b, cap, rfl, h2, h3, ow⟩
  · simp [Value.ownBlock] at hk
  · simp [Value.ownBlock] at hk
    subst hk
    exact ⟨h2, ow.lt⟩
theorem Lent.keep {B : Nat} {w w' : World} {v : Value} {L : List Off} (h : Lent B w v L) {S : Nat → Prop} (f : Frm S w w') (hS : ∀ k, k < w.heap.size → v.ownBlock = some k → ¬ S k) : Lent B w' v L := by
  obtain ⟨b, cap, rfl, h2, h3, ow⟩ := h
  exact ⟨b, cap, rfl, h2, h3, fun i hi => ⟨frm_cell f (ow.cell i hi).1 (hS b ow.lt rfl), frm_cell f (ow.cell i hi).2 (hS b ow.lt rfl)⟩, fun j => frm_frozen f ow.lt (ow.fz j) (hS b ow.lt rfl), Nat.lt_of_lt_of_le ow.lt f.size⟩
theorem Lent.blk {B : Nat} {w : World} {v : Value} {L : List Off} (h : Lent B w v L) {k : Nat} (hk : v.ownBlock = some k) : k < w.heap.size := by
  obtain ⟨b, cap, rfl, h2, h3, ow⟩ := h
  simp [Value.ownBlock] at hk
  subst hk
  exact ow.lt

theorem normal_rw (ao : Option Addr) (cap : Nat) (L : List Off) (w : World) (h : OffC w ao L) (hn : ao = none → cap = 0) (hl : L.length ≤ 1000000) :
    Calls Tryd.prog 25 #[.slice ao L.length cap] w fun e w' => ∃ v, e = .returned v ∧ NewO w.heap.size w' v (normL L) ∧ Rw w' w.heap.size v (normL L).length ∧ Old w w' := by
  by_cases h0 : L = []
  · subst h0
    refine (normal_nil ao cap w hn).mono ?_
    rintro e w' ⟨rfl, o⟩
    exact ⟨_, rfl, Or.inl ⟨rfl, rfl⟩, ⟨[], rfl, Or.inl ⟨rfl, Or.inl ⟨rfl, rfl⟩⟩⟩, o⟩
  · refine (normal_some ao cap L w h hn hl h0).mono ?_
    rintro e w' ⟨o, b, rfl, hb, ow⟩
    exact ⟨_, rfl, Or.inr ⟨b, _, rfl, hb, Nat.le_refl _, ow⟩, ⟨normL L, rfl, Or.inr ⟨b, rfl, hb, ow⟩⟩, o⟩

theorem lower_rw (c : Int) (hc : -9223372036854775808 ≤ c ∧ c ≤ 9223372036854775807) (ao : Option Addr) (cap : Nat) (L : List Off) (w : World) (h : OffC w ao L) (hL : ∀ x ∈ L, x.2 ≤ 9223372036854775807) (hl : L.length ≤ 999999) :
    Calls Tryd.prog 26 #[.int .i64 c, .slice ao L.length cap] w fun e w' => ∃ v, e = .returned v ∧ NewO w.heap.size w' v (lowL c L) ∧ Rw w' w.heap.size v (lowL c L).length ∧ Old w w' :=
  (lower_own c hc ao cap L w h hL hl).mono fun _ _ ⟨v, e, ho, o⟩ => ⟨v, e, owns_new ho, ⟨lowL c L, rfl, Or.inl ho⟩, o⟩

set_option maxRecDepth 100000 in
set_option maxHeartbeats 4000000 in
theorem rsame_any (ao bo : Option Addr) (ca cb : Nat) (L M : List Off) (w : World) (h : OffC w ao L) (hM : OffC w bo M) (hl : L.length ≤ 999998) (hl2 : M.length ≤ 999998) (hLx : ∀ x ∈ L, x.1 < 4294967296) (hMx : ∀ x ∈ M, x.1 < 4294967296) :
    Calls Tryd.prog 31 #[.slice ao L.length ca, .slice bo M.length cb] w fun e w' => e = .returned (.bool (decide (normL L = normL M))) ∧ Old w w' := by
  have k1 := hid (rnormal_any ao ca L w h hLx hl)
  have kM := hid hM
  have k2 := hid (fun w h => rnormal_any bo cb M w h hMx hl2)
  rw [refN_is hLx] at k1
  simp only [refN_is hMx] at k2
  clear h hM hLx hMx
  go_enter Tryd.func31, Tryd.ntmps31
  go_wp2_with fail
  refine k1.out.mono ?_
  rintro e w1 ⟨v1, rfl, hN1, o1⟩
  have k22 := hid (k2.out w1 (kM.out.old o1))
  have ko1 := hid o1
  have kw1 := hid hN1
  clear k1 o1 hN1
  go_wp2_with fail
  refine k22.out.mono ?_
  rintro e w2 ⟨v2, rfl, hN2, o2⟩
  obtain ⟨a1, c1, rfl, O1, -⟩ := NewO.off (kw1.out.old o2)
  obtain ⟨a2, c2, rfl, O2, -⟩ := NewO.off hN2
  have k3 := hid (sameO_any a1 a2 c1 c2 (normL L) (normL M) w2 O1 O2 (normL_len L (by omega)))
  have ko2 := hid (ko1.out.trans o2)
  clear k22 o2 hN2 kw1 ko1 O1 O2
  go_wp2_with fail
  refine k3.out.mono ?_
  rintro e w3 ⟨rfl, o3⟩
  have ko3 := hid (ko2.out.trans o3)
  clear o3
  go_wp2_with fail
  go_ret
  exact ⟨rfl, ko3.out⟩
end Go.Proofs.YtchofhgpameobaaDoor
