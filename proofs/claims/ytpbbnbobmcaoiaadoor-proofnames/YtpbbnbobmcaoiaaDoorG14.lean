/- What a choice is worth, and what each gets, walked. -/
import Derived.Test.YtpbbnbobmcaoiaaDoorG13
namespace Go.Proofs.YtpbbnbobmcaoiaaDoor
open Go.RowKit

def sumO : List Off → Int
  | [] => 0
  | x :: r => x.2 + sumO r

theorem sumO_append (a b : List Off) : sumO (a ++ b) = sumO a + sumO b := by
  induction a with
  | nil => simp [sumO]
  | cons x r ih => rw [List.cons_append, sumO, sumO, ih]; omega

theorem sumO_take {L : List Off} {k : Nat} (h : k < L.length) : sumO (L.take (k + 1)) = sumO (L.take k) + L[k].2 := by
  rw [List.take_add_one, List.getElem?_eq_getElem h, sumO_append]
  simp [sumO]

theorem sumO_bnd : ∀ {L : List Off}, (∀ x ∈ L, 0 ≤ x.2 ∧ x.2 ≤ 1099511627776) → 0 ≤ sumO L ∧ sumO L ≤ 1099511627776 * (L.length : Int)
  | [], _ => by simp [sumO]
  | x :: r, h => by
    have h1 := h x (by simp)
    have h2 := sumO_bnd (L := r) (fun y hy => h y (by simp [hy]))
    rw [sumO, List.length_cons]
    omega

theorem row_coins {gd : Int} {B : Ins} (h : (checkZ gd B).2.2 = 0) (c : List Int) (k : Nat) : ∀ x ∈ rowK B c k, 0 ≤ x.2 ∧ x.2 ≤ 1099511627776 := by
  intro x hx
  rcases row_mem hx with rfl | ⟨l, hl, hx⟩
  · decide
  · have := ((check_ok h).2.2 l hl).2 x hx
    simp [okB] at this
    omega

def worthZ (gd : Int) (B : Ins) (c : List Int) : Int := if choE gd B c = 0 then sumO (row B c) else 0

set_option maxRecDepth 100000 in
set_option maxHeartbeats 4000000 in
theorem worth_any (gd : Int) (bo co : Option Addr) (cap cc : Nat) (B : Ins) (c : List Int) (w : World) (h : InsC w bo B) (hl : B.length ≤ 9223372036854775807) (hc : NumsC .i64 w co c) (hcl : c.length ≤ 9223372036854775807) (hT : Tabs w) :
    Calls Tryd.prog 44 #[.agg #[.int .i64 gd, .slice bo B.length cap], .slice co c.length cc] w fun e w' => e = .returned (.tuple #[.int .i64 (worthZ gd B c), .int .i64 (choE gd B c)]) ∧ Old w w' := by
  have o1 : Old w (w.alloc (.cells #[.int .i64 gd, .slice bo B.length cap] 24)) := (Old.refl w).alloc _
  have kC := hid (chosen_any gd bo co cap cc B c _ (h.old o1) hl (hc.old o1) hcl (hT.old o1))
  have ko1 := hid o1
  clear o1
  go_enter Tryd.func44, Tryd.ntmps44
  go_wp2_with fail
  refine kC.out.mono ?_
  rintro e w2 ⟨o2, ⟨hz, hck, hlen, b, rfl, hb, hO⟩ | ⟨hz, rfl⟩⟩
  · have hw : Hid (worthZ gd B c = sumO (row B c)) := by
      show worthZ gd B c = _
      rw [worthZ, if_pos hz]
    have kz := hid hz
    have ko := hid (ko1.out.trans o2)
    have hB := (check_ok hck).2.1
    have hc32 : c.length ≤ 32 := by omega
    have hcoin := row_coins hck c c.length
    have hrl : (row B c).length = c.length := rowK_len B c _
    have kO := hid hO
    change ∀ x ∈ row B c, _ at hcoin
    have kcoin := hid hcoin
    clear hz o2 hO hlen hcoin kC
    generalize row B c = L at *
    rw [← hrl] at hc32 ⊢
    go_wp2_with fail
    go_loopw [8, 22] (fun s t wr => ∃ k : Nat, k ≤ L.length ∧ t = .int .i64 (k : Int) ∧ s = .int .i64 (sumO (L.take k)) ∧ Old w2 wr) (fun _ t _ => L.length - (intOf t).toNat)
    case atStart => exact ⟨0, Nat.zero_le _, rfl, rfl, Old.refl _⟩
    case round =>
      obtain ⟨k, hk, rfl, rfl, oW⟩ := hrel
      by_cases hlt : k < L.length
      · obtain ⟨d1, d2⟩ := (kO.out.old oW).cell k hlt
        have hk' : (k : Int) < (L.length : Int) := by omega
        have hb1 := sumO_bnd (L := L.take k) (fun x hx => kcoin.out x (List.mem_of_mem_take hx))
        have hb2 := sumO_bnd (L := L.take (k + 1)) (fun x hx => kcoin.out x (List.mem_of_mem_take hx))
        have hl1 : ((L.take k).length : Int) ≤ 32 := by simp; omega
        have hl2 : ((L.take (k + 1)).length : Int) ≤ 32 := by simp; omega
        have hst := sumO_take hlt
        have kst := hid hst
        have hx0 := kcoin.out _ (List.getElem_mem hlt)
        obtain ⟨x, hx⟩ : ∃ x, L[k] = x := ⟨_, rfl⟩
        rw [hx] at d1 d2 hst kst hx0
        obtain ⟨xg, xc⟩ := x
        dsimp only at d1 d2 hst kst hx0
        have n0 : (wr.alloc (.cells #[.int .u32 (xg : Int), .int .i64 xc] 66)).cell? ⟨wr.heap.size, 1, none⟩ = some (.int .i64 xc) := new_cell wr _ _ 1 _ rfl
        rw [hst] at hb2
        clear hx hst
        generalize sumO (L.take k) = sk at *
        have hs1 : 0 ≤ sk ∧ sk ≤ 35184372088832 := by omega
        have hs2 : 0 ≤ sk + xc ∧ sk + xc ≤ 35184372088832 := by omega
        clear hb1 hb2 hl1 hl2
        obtain ⟨s1, s2⟩ := hs1
        obtain ⟨s3, s4⟩ := hs2
        go_wp2_with fail
        go_roundw
        case rel => exact ⟨k + 1, by omega, by go_num, by rw [kst.out], oW.alloc _⟩
        case measure => simp [intOf]; omega
      · obtain rfl : k = L.length := by omega
        go_wp2_with fail
        go_ret2
        exact ⟨by rw [hw.out, kz.out, List.take_length]; rfl, ko.out.trans oW⟩
  · have hzb : (choE gd B c != 0) = true := by simpa using hz
    have hw : Hid (worthZ gd B c = 0) := by
      show worthZ gd B c = 0
      rw [worthZ, if_neg hz]
    have ko := hid (ko1.out.trans o2)
    go_wp2_with fail
    go_ret2
    exact ⟨by rw [hw.out]; rfl, ko.out⟩

theorem nums_blk {k : IntKind} {w : World} {b : Nat} {t : TypeId} {L : List Int} (h : w.heap[b]? = some (.cells (L.map (Value.int k)).toArray t (0, 0))) : NumsC k w (some ⟨b, 0, none⟩) L := (Own.nums (t := t) ⟨h⟩)
end Go.Proofs.YtpbbnbobmcaoiaaDoor
