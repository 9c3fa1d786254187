/- The subsets of a set, one behind the other. -/
import Derived.Test.YtfoadheepmgbfaaGreatDoorJ2
import Derived.Test.YtfoadheepmgbfaaGreatDoorJ5
import Derived.Test.YtfoadheepmgbfaaGreatDoorRN
namespace Go.Proofs.YtfoadheepmgbfaaGreatDoor
open Go.RowKit Go.Lib Go.Shelf
attribute [local go_sem] Oper.semAt_some

theorem next_bits {s o g : Nat} (hs : s < 4294967296) (ho : o < 4294967296) (hS : Sub s o) (hg : o.testBit g = true) (hn : s.testBit g = false) (hl : ∀ j, j < g → o.testBit j = true → s.testBit j = true) (i : Nat) :
    (((s + 4294967296 - o) % 4294967296) &&& o).testBit i = if i < g then false else if i = g then true else s.testBit i := by
  have hg32 := bit_lt ho hg
  -- o - s is o without s
  have hd : o = s + less o s := by
    have h0 : s &&& less o s = 0 := by
      apply eq_of_bits
      intro j
      rw [Nat.testBit_and, less_bit o s ho, Nat.zero_testBit]
      cases s.testBit j <;> simp
    have h1 : s ||| less o s = o := by
      apply eq_of_bits
      intro j
      rw [Nat.testBit_or, less_bit o s ho]
      cases h : s.testBit j
      · simp
      · simp [hS j h]
    have key : ∀ n a b : Nat, a < 2 ^ n → a &&& b = 0 → a ||| b = a + b := by
      intro n
      induction n with
      | zero => intro a b ha _; obtain rfl : a = 0 := by simpa using ha
                simp
      | succ n ih =>
        intro a b ha hab
        have h1 : (a / 2) &&& (b / 2) = 0 := by rw [← Nat.and_div_two, hab]
        have h3 := ih (a / 2) (b / 2) (by rw [Nat.pow_succ] at ha; omega) h1
        have h4 : (a ||| b) / 2 = a / 2 + b / 2 := by rw [Nat.or_div_two, h3]
        have h5 : (a &&& b) % 2 = 0 := by rw [hab]
        have h6 := Nat.testBit_and a b 0
        have h7 := Nat.testBit_or a b 0
        rw [Nat.testBit_zero, Nat.testBit_zero, Nat.testBit_zero] at h6 h7
        have ha2 : a % 2 = 0 ∨ a % 2 = 1 := by omega
        have hb2 : b % 2 = 0 ∨ b % 2 = 1 := by omega
        have ho2 : (a ||| b) % 2 = 0 ∨ (a ||| b) % 2 = 1 := by omega
        rcases ha2 with ea | ea <;> rcases hb2 with eb | eb <;> rcases ho2 with eo | eo <;> simp [ea, eb, eo, h5] at h6 h7 <;> omega
    rw [key _ s (less o s) Nat.lt_two_pow_self h0] at h1
    exact h1.symm
  obtain ⟨d, hdd⟩ : ∃ d, less o s = d := ⟨_, rfl⟩
  have hdb : ∀ j, d.testBit j = (o.testBit j && !s.testBit j) := fun j => by rw [← hdd, less_bit o s ho]
  rw [hdd] at hd
  have hdg : d.testBit g = true := by rw [hdb, hg, hn]; rfl
  have hd0 : d ≠ 0 := by rintro rfl; simp at hdg
  have e1 : (s + 4294967296 - o) % 4294967296 = 2 ^ 32 - ((d - 1) + 1) := by
    rw [show (2 : Nat) ^ 32 = 4294967296 by decide]
    omega
  -- d = 2^g (2m+1)
  have hlow : d % 2 ^ g = 0 := by
    apply eq_of_bits
    intro j
    rw [Nat.testBit_mod_two_pow, Nat.zero_testBit]
    by_cases hj : j < g
    · rw [hdb]
      cases h : o.testBit j
      · simp
      · simp [hl j hj h]
    · simp [hj]
  obtain ⟨q, hq⟩ : ∃ q, d = 2 ^ g * q := ⟨d / 2 ^ g, by have := Nat.div_add_mod d (2 ^ g); omega⟩
  have hp : 0 < 2 ^ g := Nat.two_pow_pos g
  have hq1 : q % 2 = 1 := by
    have := hdg
    rw [hq, Nat.testBit_eq_decide_div_mod_eq, Nat.mul_div_cancel_left _ hp] at this
    simpa using this
  have e2 : d - 1 = 2 ^ g * (q - 1) + (2 ^ g - 1) := by
    rw [hq, Nat.mul_sub, Nat.mul_one]
    have : 2 ^ g ≤ 2 ^ g * q := Nat.le_mul_of_pos_right _ (by omega)
    omega
  have hb : ∀ j, (d - 1).testBit j = if j < g then true else if j = g then false else d.testBit j := by
    intro j
    rw [e2, Nat.testBit_two_pow_mul_add _ (by omega)]
    by_cases hj : j < g
    · simp [hj, Nat.testBit_two_pow_sub_one]
    · rw [if_neg hj, if_neg hj]
      by_cases e : j = g
      · subst e
        rw [if_pos rfl, Nat.sub_self, Nat.testBit_zero]
        have : (q - 1) % 2 = 0 := by omega
        simp [this]
      · rw [if_neg e, hq, Nat.mul_comm, Nat.testBit_mul_two_pow]
        obtain ⟨c, hc⟩ : ∃ c, j - g = c + 1 := ⟨j - g - 1, by omega⟩
        rw [hc, Nat.testBit_succ, Nat.testBit_succ, show (q - 1) / 2 = q / 2 by omega]
        simp
        omega
  rw [Nat.testBit_and, e1, Nat.testBit_two_pow_sub_succ (by rw [show (2 : Nat) ^ 32 = 4294967296 by decide]; omega), hb]
  by_cases hi : i < g
  · simp [hi]
  · rw [if_neg hi, if_neg hi]
    by_cases e : i = g
    · subst e
      simp [hg, hg32]
    · rw [if_neg e, if_neg e, hdb]
      cases h1 : o.testBit i
      · cases h2 : s.testBit i
        · simp
        · have := hS i h2
          rw [h1] at this
          cases this
      · have := bit_lt ho h1
        simp [this]

theorem next_all {n s : Nat} (hn : n ≤ 31) (hs : s < 2 ^ n) : nextZ s (2 ^ n - 1) = if s + 1 < 2 ^ n then (s + 1, true) else (0, false) := by
  have hp : 2 ^ n ≤ 2147483648 := by
    rw [show (2147483648 : Nat) = 2 ^ 31 by decide]
    exact Nat.pow_le_pow_right (by decide) hn
  have hp1 : 1 ≤ 2 ^ n := Nat.one_le_two_pow
  by_cases h : s + 1 < 2 ^ n
  · have hsub : subB s (2 ^ n - 1) = true := by
      rw [subB_iff (by omega)]
      intro i hi
      rw [Nat.testBit_two_pow_sub_one, decide_eq_true_eq]
      apply Nat.lt_of_not_le
      intro hle
      have : s.testBit i = false := Nat.testBit_lt_two_pow (Nat.lt_of_lt_of_le hs (Nat.pow_le_pow_right (by decide) hle))
      rw [hi] at this
      cases this
    rw [nextZ, if_neg (by simp [hsub]; omega), if_pos h]
    congr 1
    rw [Nat.and_two_pow_sub_one_eq_mod]
    obtain ⟨q, hq⟩ : ∃ q, 4294967296 = 2 ^ n * q := by
      refine ⟨2 ^ (32 - n), ?_⟩
      rw [← Nat.pow_add, show n + (32 - n) = 32 by omega]
    have e1 : (s + 4294967296 - (2 ^ n - 1)) % 4294967296 = s + 1 + (4294967296 - 2 ^ n) := by omega
    rw [e1]
    generalize 2 ^ n = m at *
    obtain ⟨r, rfl⟩ : ∃ r, q = r + 1 := by
      cases q with
      | zero => omega
      | succ r => exact ⟨r, rfl⟩
    have e2 : 4294967296 - m = m * r := by rw [hq, Nat.mul_add]; omega
    rw [e2, Nat.add_mul_mod_self_left, Nat.mod_eq_of_lt h]
  · have e : s = 2 ^ n - 1 := by omega
    rw [nextZ, if_pos (Or.inl e), if_neg h]


theorem least_of {P : Nat → Prop} [DecidablePred P] : ∀ n, P n → ∃ g, P g ∧ ∀ j, j < g → ¬ P j := by
  intro n
  induction n using Nat.strongRecOn with
  | ind n ih =>
    intro hn
    by_cases h : ∃ j, j < n ∧ P j
    · obtain ⟨j, hj, hp⟩ := h
      exact ih j hj hp
    · exact ⟨n, hn, fun j hj hp => h ⟨j, hj, hp⟩⟩

theorem next_gt {s o : Nat} (hs : s < 4294967296) (ho : o < 4294967296) (h : (nextZ s o).2 = true) : s < (nextZ s o).1 ∧ (nextZ s o).1 ≤ o := by
  unfold nextZ at *
  by_cases hc : s = o ∨ subB s o = false
  · rw [if_pos hc] at h
    cases h
  · rw [if_neg hc] at h ⊢
    have h1 : s ≠ o := fun e => hc (Or.inl e)
    have h2 : subB s o = true := by
      cases e : subB s o
      · exact absurd (Or.inr e) hc
      · rfl
    have hS := (subB_iff hs).1 h2
    refine ⟨?_, Nat.and_le_right⟩
    have hex : ∃ n, o.testBit n = true ∧ s.testBit n = false := by
      apply Classical.byContradiction
      intro hno
      apply h1
      apply eq_of_bits
      intro i
      cases e : o.testBit i
      · cases e2 : s.testBit i
        · rfl
        · rw [hS i e2] at e
          cases e
      · cases e2 : s.testBit i
        · exact absurd ⟨i, e, e2⟩ hno
        · rfl
    obtain ⟨n, hn⟩ := hex
    obtain ⟨g, ⟨g1, g2⟩, gl⟩ := least_of (P := fun n => o.testBit n = true ∧ s.testBit n = false) n hn
    have hb := next_bits hs ho hS g1 g2 (fun j hj hoj => by
      cases e : s.testBit j
      · exact absurd ⟨hoj, e⟩ (gl j hj)
      · rfl)
    generalize ((s + 4294967296 - o) % 4294967296) &&& o = z at hb
    have h0 : (s >>> g).testBit 0 = false := by rw [Nat.testBit_shiftRight]; exact g2
    have hz : z >>> g = s >>> g + 2 ^ 0 := by
      rw [← or_bit h0]
      apply eq_of_bits
      intro i
      rw [Nat.testBit_shiftRight, hb, Nat.testBit_or, Nat.testBit_shiftRight, Nat.testBit_two_pow, if_neg (by omega)]
      by_cases e : i = 0
      · subst e
        simp
      · rw [if_neg (by omega)]
        have : decide (0 = i) = false := by simp; omega
        rw [this]
        simp
    rw [Nat.shiftRight_eq_div_pow, Nat.shiftRight_eq_div_pow] at hz
    have h3 : s < 2 ^ g * (s / 2 ^ g + 1) := Nat.lt_mul_div_succ s (Nat.two_pow_pos g)
    have h4 : 2 ^ g * (z / 2 ^ g) ≤ z := Nat.mul_div_le z (2 ^ g)
    rw [hz] at h4
    exact Nat.lt_of_lt_of_le h3 h4

theorem next_lt {s o : Nat} (ho : o < 4294967296) : (nextZ s o).1 < 4294967296 := by
  unfold nextZ
  split
  · decide
  · exact Nat.lt_of_le_of_lt Nat.and_le_right ho

/-- The subset k, and whether there is one. -/
def sq (s : Nat) : Nat → Nat × Bool
  | 0 => (0, true)
  | k + 1 => nextZ (sq s k).1 s

theorem sq_lt (s : Nat) (hs : s < 4294967296) : ∀ k, (sq s k).1 < 4294967296
  | 0 => (by decide : (0 : Nat) < 4294967296)
  | k + 1 => next_lt hs

theorem sq_all {n : Nat} (hn : n ≤ 31) : ∀ k, k < 2 ^ n → sq (2 ^ n - 1) k = (k, true)
  | 0, _ => rfl
  | k + 1, h => by
    rw [sq, sq_all hn k (by omega), next_all hn (by omega), if_pos h]
theorem sq_end {n : Nat} (hn : n ≤ 31) : (sq (2 ^ n - 1) (2 ^ n)).2 = false := by
  obtain ⟨k, hk⟩ : ∃ k, 2 ^ n = k + 1 := ⟨2 ^ n - 1, by have := Nat.one_le_two_pow (n := n); omega⟩
  have h := sq_all hn k (by omega)
  rw [show sq (2 ^ n - 1) (2 ^ n) = sq (2 ^ n - 1) (k + 1) by rw [← hk], sq, h, next_all hn (by omega), if_neg (by omega)]

def subL (s k : Nat) : List Nat := (List.range k).map (fun i => (sq s i).1)
theorem subL_succ (s k : Nat) : subL s (k + 1) = subL s k ++ [(sq s k).1] := by simp [subL, List.range_succ]
theorem subL_length (s k : Nat) : (subL s k).length = k := by simp [subL]

def boolN : Value → Nat
  | .bool true => 1
  | _ => 0

set_option maxRecDepth 100000 in
set_option maxHeartbeats 2000000 in
theorem subsets1_P (d : Nat) (hd : 1 ≤ d) (l B s : Nat) (hs : s < 4294967296) (T : Nat → Prop) (hTB : ¬ T B) (J Jx : List Nat → World → Prop)
    (hY : ∀ (p : List Nat) (x : Nat) (X : World), J p X → (∃ k, (∀ i, i < k → (sq s i).2 = true) ∧ p ++ [x] = subL s k) → YieldAt Fence.wide (d - 1) Tryz.prog l #[.int .u32 (x : Int)] X fun e Y => (e = .returned (.bool true) ∧ J (p ++ [x]) Y ∧ KeptC T X Y) ∨ (e = .returned (.bool false) ∧ Jx (p ++ [x]) Y))
    (W : World) (hB : W.cell? ⟨B, 0, none⟩ = some (.int .u32 (s : Int))) (h0 : J [] W) :
    CallsIn Fence.wide d Tryz.prog 86 #[.func (.yield l) #[] #[], .pointer (some ⟨B, 0, none⟩)] W fun e Y => (∃ v, e = .returned v) ∧
      ((∃ q, (∃ k, (∀ i, i < k → (sq s i).2 = true) ∧ (sq s k).2 = false ∧ q = subL s k) ∧ J q Y) ∨ (∃ p, (∃ k, (∀ i, i < k → (sq s i).2 = true) ∧ p = subL s k) ∧ Jx p Y)) := by
  have kN := hid (fun k w => next_any (sq s k).1 s (sq_lt s hs k) hs w)
  have kB := hid hB
  clear hB
  refine callsIn_of_wp Tryz.func86 rfl trivial ?_ rfl
  simp only [Tryz.ntmps86, List.size_toArray, List.length_cons, List.length_nil, Nat.reduceAdd, Nat.reduceSub, Array.replicate_succ, Array.replicate_zero, List.push_toArray, List.append_toArray, List.nil_append, List.cons_append]
  gi_wp2
  gi_loopw [3, 4] (fun v b wr => ∃ k : Nat, (∀ i, i < k → (sq s i).2 = true) ∧ v = .int .u32 ((sq s k).1 : Int) ∧ b = .bool (sq s k).2 ∧ Hid (J (subL s k) wr) ∧ wr.cell? ⟨B, 0, none⟩ = some (.int .u32 (s : Int)))
    (fun v b _ => boolN b * (s + 1 - (intOf v).toNat))
  case atStart => exact ⟨0, fun i hi => by omega, rfl, rfl, h0, kB.out⟩
  case round =>
    obtain ⟨k, hall, rfl, rfl, hJ, hcB⟩ := hrel
    have hall := hid hall
    have hlt := sq_lt s hs k
    cases hm : (sq s k).2
    · gi_wp2
      go_end0
      exact ⟨⟨_, rfl⟩, .inl ⟨_, ⟨k, hall.out, hm, rfl⟩, hJ.out⟩⟩
    · have kcB := hid hcB
      have hsuc := hid (subL_succ s k)
      have hall2 : Hid (∀ i, i < k + 1 → (sq s i).2 = true) := fun i hi => by
        by_cases e : i = k
        · rw [e]; exact hm
        · exact hall.out i (by omega)
      have knx := hid (show sq s (k + 1) = nextZ (sq s k).1 s from rfl)
      have kNx := hid (fun w => kN.out k w)
      rw [← knx.out] at kNx
      have hgt := hid (fun h : (sq s (k + 1)).2 = true => next_gt hlt hs h)
      have hkz : Hid ((sq s k).1 ≤ s) := by
        show _ ≤ _
        cases k with
        | zero => exact Nat.zero_le _
        | succ k => exact (next_gt (sq_lt s hs k) hs hm).2
      obtain ⟨fn, tmps, assign, body, hy, hR⟩ := hY (subL s k) (sq s k).1 _ hJ.out ⟨k + 1, hall2.out, hsuc.out.symm⟩
      rw [← knx.out] at hgt
      generalize (sq s k).1 = z at *
      obtain ⟨z2, hz2⟩ : ∃ z2, sq s (k + 1) = z2 := ⟨_, rfl⟩
      rw [hz2] at kNx hgt
      have kz2 := hid hz2
      clear hz2 knx hcB hall hm hJ
      obtain ⟨y, by'⟩ := z2
      dsimp only at *
      gi_wp2
      refine hR.mono ?_
      rintro e W3 (⟨rfl, hJ3, hb3⟩ | ⟨rfl, hJx3⟩)
      · have c3 := kept_cell hb3 (p := ⟨B, 0, none⟩) hTB kcB.out
        have kJ3 := hid hJ3
        have kc3 := hid c3
        clear hJ3 hb3
        gi_wp2_with fail
        refine ⟨trivial, ?_⟩
        refine (callsIn_wide.2 (kNx.out _)).mono ?_
        rintro e w2 ⟨rfl, e2⟩
        rw [e2]
        clear e2 w2
        gi_wp2
        go_roundw
        case rel => exact ⟨k + 1, hall2.out, by rw [kz2.out], by rw [kz2.out], hid (by rw [hsuc.out]; exact kJ3.out), kc3.out⟩
        case measure =>
          have h1 := hkz.out
          cases by'
          · simp [intOf, boolN]
            omega
          · have h2 := hgt.out rfl
            simp [intOf, boolN]
            omega
      · gi_wp2
        refine bodyPost_ret (results_none rfl _ _ _) rfl ?_
        exact ⟨⟨_, rfl⟩, .inr ⟨_, ⟨k + 1, hall2.out, hsuc.out.symm⟩, hJx3⟩⟩

theorem subsets_P (d : Nat) (hd : 1 ≤ d) (B : Nat) (T : Nat → Prop) (hTB : ¬ T B) (s : Nat) (hs : s < 4294967296) (w : World) (hB : w.cell? ⟨B, 0, none⟩ = some (.int .u32 (s : Int))) :
    SeqP Tryz.prog d 86 #[.pointer (some ⟨B, 0, none⟩)] (fun x : Nat => #[Value.int .u32 (x : Int)]) (KeptC T) (fun q => ∃ k, (∀ i, i < k → (sq s i).2 = true) ∧ q = subL s k)
      (fun q => ∃ k, (∀ i, i < k → (sq s i).2 = true) ∧ (sq s k).2 = false ∧ q = subL s k) (fun q => ∃ k, (∀ i, i < k → (sq s i).2 = true) ∧ q = subL s k) w := fun l J Jx W hW _ _ hY h0 =>
  subsets1_P d hd l B s hs T hTB J Jx hY W ((Old.of_below hW).cell hB) h0

set_option maxRecDepth 100000 in
theorem subsets_any (s : Nat) (w : World) : Calls Tryz.prog 66 #[.int .u32 (s : Int)] w fun e w' => e = .returned (.func (.func 86) #[] #[.pointer (some ⟨w.heap.size, 0, none⟩)]) ∧ w' = w.alloc (.cells #[.int .u32 (s : Int)] 60) := by
  go_enter Tryz.func66, Tryz.ntmps66
  go_wp2
  go_ret
  exact ⟨rfl, rfl⟩
end Go.Proofs.YtfoadheepmgbfaaGreatDoor

/- A range over a function that keeps nothing of its own: the loop's facts need only stand when memory is made. -/
namespace Go.Proofs.YtfoadheepmgbfaaGreatDoor
open Go.RowKit Go.Lib Go.Shelf

/-- As SeqN, of a function that turns nothing. -/
def SeqQ {α : Type} (P : Program) (n : Nat) (g : Nat) (lb : Array Value) (enc : α → Array Value) (Kp : World → World → Prop) (Pre S Sp : List α → Prop) (w : World) : Prop :=
  ∀ (l : Nat) (J Jx : List α → World → Prop) (W : World), Below w.heap.size w W →
    (∀ p X Y, J p X → Old X Y → J p Y) → (∀ p X Y, Jx p X → Old X Y → Jx p Y) →
    (∀ p x X, J p X → Pre (p ++ [x]) → YieldAt Fence.wide (n - 1) P l (enc x) X fun e Y => KeepsFrom W.heap.size X Y ∧ ((e = .returned (.bool true) ∧ J (p ++ [x]) Y ∧ Kp X Y) ∨ (e = .returned (.bool false) ∧ Jx (p ++ [x]) Y))) →
    J [] W → CallsIn Fence.wide n P g (#[.func (.yield l) #[] #[]] ++ lb) W fun e Y => (∃ v, e = .returned v) ∧ ((∃ q, S q ∧ J q Y) ∨ (∃ p, Sp p ∧ Jx p Y))

/-- The loop. -/
theorem range_Q {α : Type} {P : Program} {n : Nat} {g : Operand} {ps : Array Tmp} {assign body : Code} {Q : Exit → Act → World → Prop} {a : Act} {w : World} (hn : 1 ≤ n) {gf : Nat} {lb : Array Value}
    (hg : a.eval g = .func (.func gf) #[] lb) (eg : ∀ args w, (callFunc gf args).run P w = .ok (.enter gf args) w) {enc : α → Array Value} {Kp : World → World → Prop} {Pre S Sp : List α → Prop}
    (hseq : SeqQ P (n - 1) gf lb enc Kp Pre S Sp w) (hKt : ∀ {A B D : World}, Kp A B → Kp B D → Kp A D)
    (hKb : ∀ (W : World) (o o' : Obj), W.heap[w.heap.size + 1]? = some o → o.isCells = false → Kp W (W.putObj (w.heap.size + 1) o')) (hps : ∀ x, (enc x).size = ps.size)
    (I : List α → World → Prop) (Ix : Code → List α → World → Prop)
    (hI : ∀ p X Y, I p X → Old X Y → I p Y) (hIx : ∀ c p X Y, Ix c p X → Old X Y → Ix c p Y)
    (pI : ∀ (p : List α) (X : World) (o o' : Obj), I p X → X.heap[w.heap.size + 1]? = some o → o.isCells = false → I p (X.putObj (w.heap.size + 1) o')) (pX : ∀ (c : Code) (p : List α) (X : World) (o o' : Obj), Ix c p X → X.heap[w.heap.size + 1]? = some o → o.isCells = false → Ix c p (X.putObj (w.heap.size + 1) o')) (h0 : I [] w) (I1 : List α → α → Act → World → Prop)
    (hI1 : ∀ p x a' (W : World) (o o' : Obj), I1 p x a' W → W.heap[w.heap.size + 1]? = some o → o.isCells = false → I1 p x a' (W.putObj (w.heap.size + 1) o'))
    (hassign : ∀ (l : Nat) (p : List α) (x : α) (W : World) (K : Act → World → Prop), I p W → Pre (p ++ [x]) → w.heap.size + 2 ≤ W.heap.size → (∀ a' W1, I1 p x a' W1 → Kp W W1 → KeepsFrom w.heap.size W W1 → K a' W1) → assign.wpIn (Fence.wide.inRound l) (n - 1 - 1) P (Exit.then K (fun _ _ _ => False)) { tmps := (ps.zip (enc x)).foldl (fun t (p, v) => t.setIfInBounds p v) a.tmps, defers := [] } W)
    (hbody : ∀ (l : Nat) (p : List α) (x : α) (a' : Act) (W : World), I1 p x a' W → body.wpIn (Fence.wide.inRound l) (n - 1 - 1) P (ownPostG w.heap.size Kp I Ix (p ++ [x]) W) a' W)
    (hdone : ∀ (D : Nat) (q : List α) (W : World), w.heap.size = D → S q → I q W → W.heap[D]? = some (.deferred (some [])) → Q .normal { a with defers := { target := .collected D, args := #[] } :: a.defers } W)
    (hstop : ∀ (D : Nat) (c : Code) (p : List α) (W : World), w.heap.size = D → Sp p → Ix c p W → W.heap[D]? = some (.deferred (some [])) → c.wpIn Fence.wide n P Q { a with defers := { target := .collected D, args := #[] } :: a.defers } W) :
    (Code.rangeFunc g ps assign body).wpIn Fence.wide n P Q a w := by
  refine wpIn_rangeFunc fun fn hfn => ?_
  let R : LoopState → Option Code → Obj := fun st pe => .loop { state := st, pending := pe, fn, tmps := a.tmps, params := ps, assign, body, defers := w.heap.size }
  let Md : Obj := .deferred (some [])
  have lr : ∀ st pe, (R st pe).isCells = false := fun _ _ => rfl
  obtain ⟨V, hV⟩ : ∃ V, (w.alloc Md).alloc (R .ready none) = V := ⟨_, rfl⟩
  have vR : V.heap[w.heap.size + 1]? = some (R .ready none) := by
    have := heap_new (w.alloc Md) (R .ready none)
    rwa [alloc_size, hV] at this
  have vD : V.heap[w.heap.size]? = some Md := by
    rw [← hV, Below.heap_alloc _ _ _ (by rw [alloc_size]; omega)]
    exact heap_new w Md
  have vO : Old w V := by rw [← hV]; exact ((Old.refl w).alloc _).alloc _
  have vI : I [] V := hI _ _ _ h0 vO
  have vB : Below w.heap.size w V := vO.below
  have vS : V.heap.size = w.heap.size + 2 := by rw [← hV, alloc_size, alloc_size]
  refine ⟨w.heap.size + 1, [{ target := .collected w.heap.size, args := #[] }], V, { target := .fn (.func gf) lb, args := #[.func (.yield (w.heap.size + 1)) #[] #[]] }, V, gf, #[.func (.yield (w.heap.size + 1)) #[] #[]] ++ lb, V,
    by rw [← hV]; exact run_enterLoop_outer _ _ _ _ _, by simp only [resolve, hg]; simp [go_sem], fun _ _ => trivial, by simp [invoke, go_sem, eg], fun _ => hn, ?_⟩
  have keep : ∀ {X Y : World} {k : Nat} {o : Obj}, Old X Y → X.heap[k]? = some o → Y.heap[k]? = some o := fun hf h => by
    rw [hf.block _ (Array.getElem?_eq_some_iff.1 h).1 (fun h => h)]
    exact h
  refine (hseq (w.heap.size + 1) (fun p X => I p X ∧ X.heap[w.heap.size + 1]? = some (R .ready none) ∧ X.heap[w.heap.size]? = some Md)
    (fun p X => ∃ c, Ix c p X ∧ X.heap[w.heap.size + 1]? = some (R .done (some c)) ∧ X.heap[w.heap.size]? = some Md) V vB
    (fun p X Y h hf => ⟨hI p X Y h.1 hf, keep hf h.2.1, keep hf h.2.2⟩)
    (fun p X Y ⟨c, h1, h2, h3⟩ hf => ⟨c, hIx c p X Y h1 hf, keep hf h2, keep hf h3⟩) ?_ ⟨vI, vR, vD⟩).mono ?_
  · rintro p x X ⟨xI, xR, xD⟩ hlen
    have hlt : w.heap.size + 1 < X.heap.size := (Array.getElem?_eq_some_iff.1 xR).1
    refine ⟨fn, _, assign, body, run_yield (P := P) (args := enc x) xR (hps x), roundIn_of_wpIn hfn (hassign _ p x X _ xI hlen hlt (fun a' X1 xI1 k1 g1 => ?_))⟩
    have xR0 := xR
    replace xR := g1.same _ _ (by omega) xR rfl
    replace xD := g1.same _ _ (Nat.le_refl _) xD rfl
    replace hlt : w.heap.size + 1 < X1.heap.size := (Array.getElem?_eq_some_iff.1 xR).1
    refine ⟨_, run_beginRound xR rfl, ?_⟩
    have bR : (X1.putObj (w.heap.size + 1) (R .busy none)).heap[w.heap.size + 1]? = some (R .busy none) := World.putObj_heap_same hlt
    have bD : (X1.putObj (w.heap.size + 1) (R .busy none)).heap[w.heap.size]? = some Md := (World.putObj_heap_other (by omega)).trans xD
    have bK : Kp X (X1.putObj (w.heap.size + 1) (R .busy none)) := hKt k1 (hKb _ _ _ xR (lr _ _))
    have bF : KeepsFrom V.heap.size X (X1.putObj (w.heap.size + 1) (R .busy none)) := (keeps_up g1 (by omega)).trans (keeps_put (by rw [vS]; omega) _)
    have ends : ∀ (j : Option Code) (Y : World), KeepsFrom w.heap.size (X1.putObj (w.heap.size + 1) (R .busy none)) Y →
        Y.heap[w.heap.size + 1]? = some (R .busy none) ∧ (Instr.endRound (w.heap.size + 1) j).run P Y = .ok (.bool j.isNone) (Y.putObj (w.heap.size + 1) (R (if j.isNone then .ready else .done) j)) ∧
        (Y.putObj (w.heap.size + 1) (R (if j.isNone then .ready else .done) j)).heap[w.heap.size + 1]? = some (R (if j.isNone then .ready else .done) j) ∧
        (Y.putObj (w.heap.size + 1) (R (if j.isNone then .ready else .done) j)).heap[w.heap.size]? = some Md ∧ KeepsFrom V.heap.size X (Y.putObj (w.heap.size + 1) (R (if j.isNone then .ready else .done) j)) := fun j Y hY => by
      have yR := hY.same _ _ (by omega) bR rfl
      exact ⟨yR, run_endRound (P := P) j yR, World.putObj_heap_same (Array.getElem?_eq_some_iff.1 yR).1, (World.putObj_heap_other (by omega)).trans (hY.same _ _ (Nat.le_refl _) bD rfl), (bF.trans (keeps_up hY (by omega))).trans (keeps_put (by rw [vS]; omega) _)⟩
    refine wpIn_mono (hbody _ p x a' _ (hI1 p x a' _ _ _ xI1 xR (lr _ _))) fun e b Y hp => ?_
    cases e with
    | normal =>
      obtain ⟨kY, pY, iY⟩ := hp
      obtain ⟨yR, run, zR, zD, zF⟩ := ends none Y kY
      exact ⟨_, _, run, zF, .inl ⟨rfl, ⟨pI _ _ _ _ iY yR (lr _ _), zR, zD⟩, hKt (hKt bK pY) (hKb _ _ _ yR (lr _ _))⟩⟩
    | ret =>
      obtain ⟨kY, iY⟩ := hp
      obtain ⟨yR, run, zR, zD, zF⟩ := ends (some .ret) Y kY
      exact ⟨_, _, run, zF, .inr ⟨rfl, .ret, pX _ _ _ _ _ iY yR (lr _ _), zR, zD⟩⟩
    | exit i =>
      obtain ⟨kY, iY⟩ := hp
      obtain ⟨yR, run, zR, zD, zF⟩ := ends (some (.exit i)) Y kY
      exact ⟨_, _, run, zF, .inr ⟨rfl, .exit i, pX _ _ _ _ _ iY yR (lr _ _), zR, zD⟩⟩
    | goto t =>
      obtain ⟨kY, iY⟩ := hp
      obtain ⟨yR, run, zR, zD, zF⟩ := ends (some (.goto t)) Y kY
      exact ⟨_, _, run, zF, .inr ⟨rfl, .goto t, pX _ _ _ _ _ iY yR (lr _ _), zR, zD⟩⟩
    | panic ch => exact hp.elim
    | outgrown => exact hp.elim
  · rintro e Y ⟨⟨v, rfl⟩, (⟨q, hS, yI, yR, yD⟩ | ⟨p, hSp, c, yI, yR, yD⟩)⟩
    · exact ⟨none, _, run_endLoop (P := P) yR (by simp), hdone _ q _ rfl hS (pI _ _ _ _ yI yR (lr _ _)) ((World.putObj_heap_other (by omega)).trans yD)⟩
    · exact ⟨some c, _, run_endLoop (P := P) yR (by simp), hstop _ c p _ rfl hSp (pX _ _ _ _ _ yI yR (lr _ _)) ((World.putObj_heap_other (by omega)).trans yD)⟩

/-- The same, whose variable lies in no box. -/
theorem range_Qp {α : Type} {P : Program} {n : Nat} {g : Operand} {ps : Array Tmp} {assign body : Code} {Q : Exit → Act → World → Prop} {a : Act} {w : World} (hn : 1 ≤ n) {gf : Nat} {lb : Array Value}
    (hg : a.eval g = .func (.func gf) #[] lb) (eg : ∀ args w, (callFunc gf args).run P w = .ok (.enter gf args) w) {enc : α → Array Value} {Kp : World → World → Prop} {Pre S Sp : List α → Prop}
    (hseq : SeqQ P (n - 1) gf lb enc Kp Pre S Sp w) (hKt : ∀ {A B D : World}, Kp A B → Kp B D → Kp A D) (hKr : ∀ W : World, Kp W W)
    (hKb : ∀ (W : World) (o o' : Obj), W.heap[w.heap.size + 1]? = some o → o.isCells = false → Kp W (W.putObj (w.heap.size + 1) o')) (hps : ∀ x, (enc x).size = ps.size)
    (I : List α → World → Prop) (Ix : Code → List α → World → Prop)
    (hI : ∀ p X Y, I p X → Old X Y → I p Y) (hIx : ∀ c p X Y, Ix c p X → Old X Y → Ix c p Y)
    (pI : ∀ (p : List α) (X : World) (o o' : Obj), I p X → X.heap[w.heap.size + 1]? = some o → o.isCells = false → I p (X.putObj (w.heap.size + 1) o')) (pX : ∀ (c : Code) (p : List α) (X : World) (o o' : Obj), Ix c p X → X.heap[w.heap.size + 1]? = some o → o.isCells = false → Ix c p (X.putObj (w.heap.size + 1) o')) (h0 : I [] w) (upd : α → Array Value → Array Value)
    (hassign : ∀ (l : Nat) (p : List α) (x : α) (W : World) (K : Act → World → Prop), Pre (p ++ [x]) → K { tmps := upd x a.tmps, defers := [] } W → assign.wpIn (Fence.wide.inRound l) (n - 1 - 1) P (Exit.then K (fun _ _ _ => False)) { tmps := (ps.zip (enc x)).foldl (fun t (p, v) => t.setIfInBounds p v) a.tmps, defers := [] } W)
    (hbody : ∀ (l : Nat) (p : List α) (x : α) (W : World), I p W → Pre (p ++ [x]) → body.wpIn (Fence.wide.inRound l) (n - 1 - 1) P (ownPostG w.heap.size Kp I Ix (p ++ [x]) W) { tmps := upd x a.tmps, defers := [] } W)
    (hdone : ∀ (D : Nat) (q : List α) (W : World), w.heap.size = D → S q → I q W → W.heap[D]? = some (.deferred (some [])) → Q .normal { a with defers := { target := .collected D, args := #[] } :: a.defers } W)
    (hstop : ∀ (D : Nat) (c : Code) (p : List α) (W : World), w.heap.size = D → Sp p → Ix c p W → W.heap[D]? = some (.deferred (some [])) → c.wpIn Fence.wide n P Q { a with defers := { target := .collected D, args := #[] } :: a.defers } W) :
    (Code.rangeFunc g ps assign body).wpIn Fence.wide n P Q a w :=
  range_Q hn hg eg hseq hKt hKb hps I Ix hI hIx pI pX h0 (fun p x a' W => I p W ∧ Pre (p ++ [x]) ∧ a' = { tmps := upd x a.tmps, defers := [] })
    (fun p x a' W o o' ⟨h1, h2, h5⟩ ho hc => ⟨pI _ _ _ _ h1 ho hc, h2, h5⟩)
    (fun l p x W K h1 h2 _ hK => hassign l p x W K h2 (hK _ _ ⟨h1, h2, rfl⟩ (hKr _) (keeps_old (Old.refl W))))
    (fun l p x a' W ⟨h1, h2, h5⟩ => by rw [h5]; exact hbody l p x W h1 h2)
    hdone hstop

/-- Records of loops are kept where a row of cells is grown. -/
theorem keeps_grown {B : Nat} {W W' : World} {row : Option Nat} (hg : W.grownBy W' row) (hr : ∀ k, row = some k → ∃ cur t f, W.heap[k]? = some (.cells cur t f)) : KeepsFrom B W W' :=
  ⟨hg.size, fun k o _ hk hc => by
    rw [hg.block k (Array.getElem?_eq_some_iff.1 hk).1 (fun e => by
      obtain ⟨cur, t, f, h⟩ := hr k e.symm
      rw [h] at hk
      cases hk
      cases hc)]
    exact hk⟩
end Go.Proofs.YtfoadheepmgbfaaGreatDoor
