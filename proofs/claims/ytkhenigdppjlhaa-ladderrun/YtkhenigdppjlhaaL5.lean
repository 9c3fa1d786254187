/- What a bid must be at least; what it makes of a rise: in plain words. -/
import Derived.Test.YtkhenigdppjlhaaL3
namespace Go.Proofs.Ytkhenigdppjlhaa
open Go.RowKit

theorem lot_facts {l : Lt} (h : lotB l = true) : 0 ≤ l.opens ∧ l.opens < l.closes ∧ l.closes ≤ l.last ∧ l.last ≤ 1099511627776 ∧ 0 ≤ l.start ∧ l.start ≤ 1099511627776 ∧ 1 ≤ l.step ∧ l.step ≤ 1099511627776 ∧ 0 ≤ l.extend ∧ l.extend ≤ 1099511627776 := by
  simp [lotB, cB] at h
  omega

theorem rise_lot {l : Lt} {r : Rs} (h : riseB l r = true) : lotB l = true := by
  simp [riseB] at h
  exact h.1

theorem rise_facts {l : Lt} {r : Rs} (h : riseB l r = true) : (r.leader = -1 ∧ r.limit = 0 ∧ r.price = 0 ∧ r.closes = l.closes) ∨ (0 ≤ r.leader ∧ 0 ≤ r.limit ∧ r.limit ≤ 1099511627776 ∧ l.start ≤ r.price ∧ r.price ≤ r.limit ∧ l.closes ≤ r.closes ∧ r.closes ≤ l.last) := by
  obtain ⟨leader, limit, price, rcl⟩ := r
  by_cases hl : leader = -1
  · subst hl
    simp [riseB, unR] at h
    exact Or.inl ⟨rfl, h.2.1, h.2.2.1, h.2.2.2⟩
  · simp [riseB, hl, ledB, cB] at h
    right
    simp only
    omega

def lsE (l : Lt) (r : Rs) (b : Int) : Int := if riseB l r = true ∧ 0 ≤ b then 0 else 2
def lsZ (l : Lt) (r : Rs) (b : Int) : Int := if riseB l r = true ∧ 0 ≤ b then (if r.leader = -1 then l.start else if r.leader = b then r.limit + 1 else r.price + l.step) else 0

/-- What is held for a bidder. -/
def heldZ (r : Rs) (b : Int) : Int := if b = r.leader then r.limit else 0

/-- The error of a bid. -/
def bidE (l : Lt) (r : Rs) (b : Bd) : Int :=
  if lsE l r b.bidder = 2 ∨ cB b.limit = false ∨ b.free < 0 ∨ cB b.now = false then 2
  else if b.now < l.opens ∨ r.closes ≤ b.now then 6
  else if b.limit < lsZ l r b.bidder then 7
  else if heldZ r b.bidder < b.limit - b.free then 8
  else 0

def raisR (l : Lt) (r : Rs) (b : Bd) : Rs :=
  if r.leader = -1 then ⟨b.bidder, b.limit, l.start, r.closes⟩
  else if r.leader = b.bidder then ⟨r.leader, b.limit, r.price, r.closes⟩
  else if r.limit < b.limit then ⟨b.bidder, b.limit, min (r.limit + l.step) b.limit, r.closes⟩
  else ⟨r.leader, r.limit, min (b.limit + l.step) r.limit, r.closes⟩

def extR (l : Lt) (r : Rs) (now : Int) : Rs := if r.closes - now < l.extend then ⟨r.leader, r.limit, r.price, min (now + l.extend) l.last⟩ else r

def bidR (l : Lt) (r : Rs) (b : Bd) : Rs := if bidE l r b = 0 then extR l (raisR l r b) b.now else noR

theorem lsE_or (l : Lt) (r : Rs) (b : Int) : lsE l r b = 0 ∨ lsE l r b = 2 := by
  unfold lsE
  split
  · exact Or.inl rfl
  · exact Or.inr rfl

end Go.Proofs.Ytkhenigdppjlhaa
