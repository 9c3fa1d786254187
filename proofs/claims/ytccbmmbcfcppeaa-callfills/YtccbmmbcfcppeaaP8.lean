/- What all gain: walked. -/
import Derived.Test.YtccbmmbcfcppeaaP6
import Derived.Test.YtccbmmbcfcppeaaP7
import Derived.Deep.RegionHeld3
namespace Go.Proofs.Ytccbmmbcfcppeaa
open Go.RowKit Go.Lib Go.Shelf
attribute [local go_sem] Oper.semAt_some


theorem keeps_frm {S : Nat → Prop} {B : Nat} {X Z : World} (f : Frm S X Z) (hS : ∀ j, S j → j < B) : KeepsFrom B X Z := ⟨f.size, fun k ob hB hk _ => by rw [f.block k (Array.getElem?_eq_some_iff.1 hk).1 (fun e => by have := hS k e; omega)]; exact hk⟩
theorem pre_next {O : List Fl} {k k' : Nat} {x : Fl} (hk : k ≤ O.length) (hk' : k' ≤ O.length) (h : O.take k ++ [x] = O.take k') : ∃ hlt : k < O.length, x = O[k] ∧ k' = k + 1 := by
  have hlen := congrArg List.length h
  simp at hlen
  have e : k' = k + 1 := by omega
  subst e
  have hlt : k < O.length := by omega
  rw [List.take_succ_eq_append_getElem hlt] at h
  have := List.append_cancel_left h
  exact ⟨hlt, by simpa using this, rfl⟩
theorem WC.ne {w : World} {ao : Option Addr} {L : List Wt} (h : WC w ao L) {i : Nat} (hi : i < L.length) : ∃ g o, ao = some ⟨g, o, none⟩ ∧ w.cell? ⟨g, o + i * 2, none⟩ = some (.int .i64 (cW L i)) := by
  obtain ⟨g, o, e, h1, _⟩ := h i hi
  rw [← cW_at hi] at h1
  exact ⟨g, o, e, h1⟩
theorem gn_take {L M : List Wt} {F : List Fl} {k : Nat} (h : k < F.length) : gnF L M (F.take (k + 1)) = gnF L M (F.take k) + (F[k].n : Int) * (cW L F[k].b - cW M F[k].s) := by
  rw [List.take_succ_eq_append_getElem h, gnF_snoc]
/-- What all gain is in reach. -/
theorem gn_le {L M : List Wt} {F : List Fl} (hL : OkW L) (hM : OkW M) (h : FlO L M F) {k : Nat} (hk : k ≤ F.length) : 0 ≤ gnF L M (F.take k) ∧ gnF L M (F.take k) ≤ 1099511627776 * (totN (F.take k) : Int) := by
  induction k with
  | zero => simp [gnF, totN]
  | succ k ih =>
    have hlt : k < F.length := by omega
    have hm := List.getElem_mem hlt
    have a := h.at_ _ hm
    have o1 := hL.ok _ a.1
    have o2 := hM.ok _ a.2.1
    have me := h.meet _ hm
    obtain ⟨i1, i2⟩ := ih (by omega)
    rw [gn_take hlt, List.take_succ_eq_append_getElem hlt, totN_snoc]
    have b1 : (0 : Int) ≤ (F[k].n : Int) * (cW L F[k].b - cW M F[k].s) := Int.mul_nonneg (by omega) (by omega)
    have b2 : (F[k].n : Int) * (cW L F[k].b - cW M F[k].s) ≤ (F[k].n : Int) * 1099511627776 := Int.mul_le_mul_of_nonneg_left (by omega) (by omega)
    constructor
    · omega
    · rw [Int.natCast_add, Int.mul_add]
      omega
theorem tot_take {F : List Fl} {k : Nat} (h : k < F.length) : totN (F.take (k + 1)) = totN (F.take k) + F[k].n := by
  rw [List.take_succ_eq_append_getElem h, totN_snoc]
theorem sumZ_cnt {L : List Wt} (hL : OkW L) {g : Nat → Nat} (hg : ∀ i, i < L.length → g i ≤ kW L i) : ∀ {n : Nat}, n ≤ L.length → sumZ (fun i => (g i : Int)) n ≤ 64 * (n : Int)
  | 0, _ => by simp [sumZ]
  | n + 1, h => by
    have := sumZ_cnt hL hg (n := n) (by omega)
    have := hL.ok n (by omega)
    have := hg n (by omega)
    rw [sumZ]
    omega
theorem tot_le {L M : List Wt} {F : List Fl} (hL : OkW L) (h : FlO L M F) : totN F ≤ 262144 := by
  have := sum_tot_b (n := L.length) (fun f hf => (h.at_ f hf).1)
  have := sumZ_cnt hL h.gb (Nat.le_refl _)
  have := hL.few
  omega
theorem tot_mono {F : List Fl} : ∀ {k : Nat}, k ≤ F.length → totN (F.take k) ≤ totN F := by
  intro k hk
  have : ∀ A B : List Fl, totN (A ++ B) = totN A + totN B := fun A B => by
    induction A with
    | nil => simp [totN]
    | cons a A ih => simp only [List.cons_append, totN, ih]; omega
  have h2 := this (F.take k) (F.drop k)
  rw [List.take_append_drop] at h2
  omega
theorem got_mono {F : List Fl} (i : Nat) (k : Nat) : gotB (F.take k) i ≤ gotB F i ∧ gotS (F.take k) i ≤ gotS F i := by
  have h1 : ∀ A B : List Fl, gotB (A ++ B) i = gotB A i + gotB B i := fun A B => by
    induction A with
    | nil => simp [gotB]
    | cons a A ih => simp only [List.cons_append, gotB, ih]; omega
  have h2 : ∀ A B : List Fl, gotS (A ++ B) i = gotS A i + gotS B i := fun A B => by
    induction A with
    | nil => simp [gotS]
    | cons a A ih => simp only [List.cons_append, gotS, ih]; omega
  have a1 := h1 (F.take k) (F.drop k)
  have a2 := h2 (F.take k) (F.drop k)
  rw [List.take_append_drop] at a1 a2
  omega

/-- What Gains says. -/
def gaZ (L M : List Wt) : Int := if chZ L M = 0 then gnF L M (fls L M) else 0

/-- Where Gains stands. -/
structure GaI (w : World) (s gb : Nat) (ao bo : Option Addr) (ca cb : Nat) (L M : List Wt) (z : Int) (Y : World) : Prop where
  g : Boxed Y gb 2 (.int .i64 z)
  c2 : Y.cell? ⟨s, 0, none⟩ = some (.slice ao L.length ca)
  c3 : Y.cell? ⟨s + 1, 0, none⟩ = some (.slice bo M.length cb)
  wl : WC Y ao L
  wm : WC Y bo M
  old : Old w Y
  lt : s + 2 ≤ gb
  hs : w.heap.size = s
  hl : 0 < L.length → ∀ ad, ao = some ad → ad.block < s
  hm : 0 < M.length → ∀ ad, bo = some ad → ad.block < s
theorem GaI.frm {S : Nat → Prop} {w : World} {s gb : Nat} {ao bo : Option Addr} {ca cb : Nat} {L M : List Wt} {z : Int} {X Y : World} (h : GaI w s gb ao bo ca cb L M z X) (f : Frm S X Y) (hS : ∀ j, S j → gb + 1 ≤ j) : GaI w s gb ao bo ca cb L M z Y :=
  ⟨boxed_frm h.g f (fun e => by have := hS _ e; omega), frm_cell f h.c2 (fun e => by have h1 := hS _ e; dsimp only at h1; have := h.lt; omega), frm_cell f h.c3 (fun e => by have h1 := hS _ e; dsimp only at h1; have := h.lt; omega),
    h.wl.frm f (fun hp ad e h2 => by have := hS _ h2; have := h.hl hp _ e; have := h.lt; omega), h.wm.frm f (fun hp ad e h2 => by have := hS _ h2; have := h.hm hp _ e; have := h.lt; omega), Frm.trans h.old f (fun i hi e => by have := hS _ e; have := h.lt; have := h.hs; omega), h.lt, h.hs, h.hl, h.hm⟩
theorem GaI.set {w : World} {s gb : Nat} {ao bo : Option Addr} {ca cb : Nat} {L M : List Wt} {z : Int} {Y : World} (h : GaI w s gb ao bo ca cb L M z Y) (z' : Int) : GaI w s gb ao bo ca cb L M z' (Y.setCell ⟨gb, 0, none⟩ (.int .i64 z')) := by
  have f := frm_set Y gb 0 (.int .i64 z')
  have hlt := h.lt
  have hs := h.hs
  exact ⟨Boxed.set _ h.g, frm_cell f h.c2 (by dsimp only; omega), frm_cell f h.c3 (by dsimp only; omega), h.wl.frm f (fun hp ad e => by have := h.hl hp _ e; omega), h.wm.frm f (fun hp ad e => by have := h.hm hp _ e; omega), Frm.trans h.old f (fun i hi e => by omega), hlt, hs, h.hl, h.hm⟩
end Go.Proofs.Ytccbmmbcfcppeaa
