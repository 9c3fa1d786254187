/- Of two numbers the lesser one's form is the lesser text, and neither begins with the other's: the plain mathematics. -/
import Derived.Test.YtchjkcghaddmhaaF1
namespace Go.Proofs.Ytchjkcghaddmhaa

/-- Two texts part at a byte, where the first has the lesser one. -/
def Dif (l m : List UInt8) : Prop := ∃ p a b s t, l = p ++ a :: s ∧ m = p ++ b :: t ∧ a < b

theorem Dif.cons {l m : List UInt8} (c : UInt8) (h : Dif l m) : Dif (c :: l) (c :: m) := by
  obtain ⟨p, a, b, s, t, rfl, rfl, hab⟩ := h
  exact ⟨c :: p, a, b, s, t, rfl, rfl, hab⟩

theorem Dif.head {a b : UInt8} (h : a < b) (s t : List UInt8) : Dif (a :: s) (b :: t) := ⟨[], a, b, s, t, rfl, rfl, h⟩

theorem Dif.less {l m : List UInt8} (h : Dif l m) : Op.bytesLess l m = true := by
  obtain ⟨p, a, b, s, t, rfl, rfl, hab⟩ := h
  induction p with
  | nil => simp [Op.bytesLess, hab]
  | cons c p ih => simp only [List.cons_append, Op.bytesLess]; simp [ih]

theorem Dif.notLess {l m : List UInt8} (h : Dif l m) : Op.bytesLess m l = false := by
  obtain ⟨p, a, b, s, t, rfl, rfl, hab⟩ := h
  induction p with
  | nil =>
    simp only [List.nil_append, Op.bytesLess]
    rw [UInt8.lt_iff_toNat_lt] at hab
    have h1 : ¬ b < a := by rw [UInt8.lt_iff_toNat_lt]; omega
    have h2 : (b == a) = false := by rw [beq_eq_false_iff_ne]; intro e; rw [e] at hab; omega
    simp [h1, h2]
  | cons c p ih =>
    simp only [List.cons_append, Op.bytesLess]
    have h1 : ¬ c < c := by rw [UInt8.lt_iff_toNat_lt]; omega
    simp [h1, ih]

theorem Dif.take_ne {l m : List UInt8} (h : Dif l m) (n : Nat) (h1 : l.length = n ∨ m.length = n) (h2 : n ≤ l.length) (h3 : n ≤ m.length) : l.take n ≠ m.take n := by
  obtain ⟨p, a, b, s, t, rfl, rfl, hab⟩ := h
  have hp : p.length < n := by
    rcases h1 with h1 | h1 <;> (rw [List.length_append, List.length_cons] at h1; omega)
  intro e
  have e1 : ((p ++ a :: s).take n)[p.length]? = ((p ++ b :: t).take n)[p.length]? := by rw [e]
  rw [List.getElem?_take, List.getElem?_take, if_pos hp, if_pos hp] at e1
  simp at e1
  rw [UInt8.lt_iff_toNat_lt, e1] at hab
  omega

theorem Dif.ne {l m : List UInt8} (h : Dif l m) : l ≠ m := by
  intro e
  have h1 := h.less
  have h2 := h.notLess
  rw [e] at h1 h2
  rw [h1] at h2
  cases h2

theorem ofNat_lt {a b : Nat} (ha : a < 256) (hb : b < 256) (h : a < b) : UInt8.ofNat a < UInt8.ofNat b := by
  rw [UInt8.lt_iff_toNat_lt, UInt8.toNat_ofNat', UInt8.toNat_ofNat']
  omega

theorem ofNat_mod (a : Nat) : UInt8.ofNat a = UInt8.ofNat (a % 256) := by
  apply UInt8.toNat_inj.1
  rw [UInt8.toNat_ofNat', UInt8.toNat_ofNat']
  omega

theorem be_dif (n : Nat) : ∀ X Y : Nat, X % 256 ^ n < Y % 256 ^ n → Dif (be n X) (be n Y) := by
  induction n with
  | zero => intro X Y h; simp [Nat.mod_one] at h
  | succ n ih =>
    intro X Y h
    rw [Nat.pow_succ, Nat.mod_mul, Nat.mod_mul] at h
    simp only [be]
    have hx : X / 256 ^ n % 256 < 256 := Nat.mod_lt _ (by decide)
    have hy : Y / 256 ^ n % 256 < 256 := Nat.mod_lt _ (by decide)
    have hp : 0 < 256 ^ n := Nat.pow_pos (by decide)
    have hmx : X % 256 ^ n < 256 ^ n := Nat.mod_lt _ hp
    have hmy : Y % 256 ^ n < 256 ^ n := Nat.mod_lt _ hp
    rw [ofNat_mod (X / 256 ^ n), ofNat_mod (Y / 256 ^ n)]
    generalize X / 256 ^ n % 256 = a at *
    generalize Y / 256 ^ n % 256 = b at *
    rcases Nat.lt_trichotomy a b with hab | hab | hab
    · exact Dif.head (ofNat_lt hx hy hab) _ _
    · subst hab
      exact Dif.cons _ (ih X Y (by omega))
    · exfalso
      have : 256 ^ n * (b + 1) ≤ 256 ^ n * a := Nat.mul_le_mul_left _ hab
      rw [Nat.mul_add] at this
      omega

theorem nb_mono {X Y : Nat} (h : X ≤ Y) : nb X ≤ nb Y := by
  unfold nb
  repeat' split
  all_goals omega

theorem lt_nb {X : Nat} (h : X < 18446744073709551616) : X < 256 ^ nb X := by
  unfold nb
  repeat' split
  all_goals (simp; omega)

theorem numF_dif {X Y : Nat} (h : X < Y) (hY : Y < 18446744073709551616) : Dif (numF X) (numF Y) := by
  have hbx := nb_bd X
  have hby := nb_bd Y
  unfold numF
  by_cases h1 : X ≤ 247
  · rw [if_pos h1]
    by_cases h2 : Y ≤ 247
    · rw [if_pos h2]
      exact Dif.head (ofNat_lt (by omega) (by omega) h) _ _
    · rw [if_neg h2]
      exact Dif.head (ofNat_lt (by omega) (by omega) (by omega)) _ _
  · rw [if_neg h1, if_neg (by omega)]
    have hm := nb_mono (Nat.le_of_lt h)
    rcases Nat.lt_or_ge (nb X) (nb Y) with hlt | hge
    · exact Dif.head (ofNat_lt (by omega) (by omega) (by omega)) _ _
    · have e : nb X = nb Y := by omega
      rw [e]
      refine Dif.cons _ (be_dif _ X Y ?_)
      have l1 := lt_nb (show X < 18446744073709551616 by omega)
      have l2 := lt_nb hY
      rw [e] at l1
      rw [Nat.mod_eq_of_lt l1, Nat.mod_eq_of_lt l2]
      exact h

/-- All that WireOrders asks of two forms. -/
theorem orders (X Y : Nat) (hX : X < 18446744073709551616) (hY : Y < 18446744073709551616) :
    (decide (X < Y) = Op.bytesLess (numF X) (numF Y)) ∧ (decide (X = Y) = (numF X == numF Y)) ∧
    (decide (X = Y) = ((numF X).take (min (numF X).length (numF Y).length) == (numF Y).take (min (numF X).length (numF Y).length))) := by
  rcases Nat.lt_trichotomy X Y with h | h | h
  · have d := numF_dif h hY
    have h1 : decide (X < Y) = true := by simp [h]
    have h2 : decide (X = Y) = false := by simp; omega
    rw [h1, h2, d.less]
    refine ⟨rfl, ?_, ?_⟩
    · exact (beq_eq_false_iff_ne.2 d.ne).symm
    · exact (beq_eq_false_iff_ne.2 (d.take_ne _ (by omega) (by omega) (by omega))).symm
  · subst h
    have h1 : decide (X < X) = false := by simp
    have hl : ∀ l : List UInt8, Op.bytesLess l l = false := by
      intro l
      induction l with
      | nil => rfl
      | cons c l ih =>
        have h1 : ¬ c < c := by rw [UInt8.lt_iff_toNat_lt]; omega
        simp [Op.bytesLess, ih, h1]
    rw [h1, hl]
    simp
  · have d := numF_dif h hX
    have h1 : decide (X < Y) = false := by simp; omega
    have h2 : decide (X = Y) = false := by simp; omega
    rw [h1, h2, d.notLess]
    refine ⟨rfl, ?_, ?_⟩
    · exact (beq_eq_false_iff_ne.2 (fun e => d.ne e.symm)).symm
    · exact (beq_eq_false_iff_ne.2 (fun e => d.take_ne _ (by omega) (by omega) (by omega) e.symm)).symm

theorem zig_unzig (x : Int) (h0 : 0 ≤ x) : (Lib.zigzag (unfoldN x) : Int) = x := by
  unfold unfoldN
  split
  · unfold Lib.zigzag; rw [if_pos (by omega)]; omega
  · unfold Lib.zigzag; rw [if_neg (by omega)]; omega

theorem unzig_zig (x : Int) : unfoldN (Lib.zigzag x : Int) = x := by
  unfold Lib.zigzag
  split
  · unfold unfoldN; rw [if_pos (by omega)]; omega
  · unfold unfoldN; rw [if_neg (by omega)]; omega

end Go.Proofs.Ytchjkcghaddmhaa
