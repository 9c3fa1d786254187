/- Wants, their order, and who trades with whom: in plain words. -/
import Derived.Test.YtccbmmbcfcppeaaN1
namespace Go.Proofs.Ytccbmmbcfcppeaa

/-- A want: its coins, its count. -/
abbrev Wt := Int × Int
def cW (L : List Wt) (i : Nat) : Int := (L.getD i (0, 0)).1
def kW (L : List Wt) (i : Nat) : Nat := (L.getD i (0, 0)).2.toNat
def keyB (L : List Wt) (x : Nat) : Int := - cW L x
def keyS (L : List Wt) (x : Nat) : Int := cW L x
theorem cW_at {L : List Wt} {i : Nat} (h : i < L.length) : cW L i = L[i].1 := by simp [cW, h]
theorem kW_at {L : List Wt} {i : Nat} (h : i < L.length) : kW L i = L[i].2.toNat := by simp [kW, h]

/-- A want that may not be. -/
def wrB (x : Wt) : Bool := !decide (0 ≤ x.1 ∧ x.1 ≤ 1099511627776) || decide (x.2 < 1) || decide (x.2 > 64)
/-- Wants that may be. -/
structure OkW (L : List Wt) : Prop where
  few : L.length ≤ 4096
  ok : ∀ i, i < L.length → 0 ≤ cW L i ∧ cW L i ≤ 1099511627776 ∧ 1 ≤ kW L i ∧ kW L i ≤ 64
theorem wrB_false {x : Wt} (h : wrB x = false) : 0 ≤ x.1 ∧ x.1 ≤ 1099511627776 ∧ 1 ≤ x.2 ∧ x.2 ≤ 64 := by
  unfold wrB at h
  simp only [Bool.or_eq_false_iff, Bool.not_eq_false', decide_eq_true_eq, decide_eq_false_iff_not] at h
  omega
theorem okW_of {L : List Wt} (h1 : L.length ≤ 4096) (h2 : L.any wrB = false) : OkW L := by
  refine ⟨h1, fun i hi => ?_⟩
  have : wrB L[i] = false := by
    have := List.any_eq_false.1 h2 L[i] (List.getElem_mem hi)
    simpa using this
  have := wrB_false this
  rw [cW_at hi, kW_at hi]
  omega
theorem OkW.cnt {L : List Wt} (h : OkW L) {i : Nat} (hi : i < L.length) : L[i].2 = ((kW L i : Nat) : Int) := by
  have := h.ok i hi
  rw [kW_at hi] at this ⊢
  omega
theorem OkW.take {L : List Wt} (h : OkW L) (n : Nat) : OkW (L.take n) := by
  refine ⟨by have := h.few; rw [List.length_take]; omega, fun i hi => ?_⟩
  have hi' : i < L.length := by rw [List.length_take] at hi; omega
  have := h.ok i hi'
  rw [cW_at hi', kW_at hi'] at this
  rw [cW_at hi, kW_at hi, List.getElem_take]
  exact this

instance (K : Nat → Int) (x y : Nat) : Decidable (Lt K x y) := by unfold Lt; infer_instance

def insK (K : Nat → Int) (x : Nat) : List Nat → List Nat
  | [] => [x]
  | y :: r => if Lt K x y then x :: y :: r else y :: insK K x r
def ordK (K : Nat → Int) : Nat → List Nat
  | 0 => []
  | n + 1 => insK K n (ordK K n)
theorem mem_ins {K : Nat → Int} {x z : Nat} : ∀ {l : List Nat}, z ∈ insK K x l ↔ z = x ∨ z ∈ l
  | [] => by simp [insK]
  | y :: r => by
    unfold insK
    split
    · simp
    · rw [List.mem_cons, mem_ins (l := r), List.mem_cons]
      constructor
      · rintro (h | h | h)
        · exact Or.inr (Or.inl h)
        · exact Or.inl h
        · exact Or.inr (Or.inr h)
      · rintro (h | h | h)
        · exact Or.inr (Or.inl h)
        · exact Or.inl h
        · exact Or.inr (Or.inr h)
theorem ins_len {K : Nat → Int} {x : Nat} : ∀ {l : List Nat}, (insK K x l).length = l.length + 1
  | [] => rfl
  | y :: r => by
    unfold insK
    split
    · simp
    · simp [ins_len (l := r)]
theorem ins_pw {K : Nat → Int} {x : Nat} : ∀ {l : List Nat}, l.Pairwise (Lt K) → x ∉ l → (insK K x l).Pairwise (Lt K)
  | [], _, _ => by simp [insK]
  | y :: r, h, hx => by
    rw [List.pairwise_cons] at h
    unfold insK
    split
    · rename_i hl
      rw [List.pairwise_cons]
      refine ⟨fun z hz => ?_, List.pairwise_cons.2 h⟩
      rcases List.mem_cons.1 hz with rfl | hz
      · exact hl
      · exact hl.trans (h.1 z hz)
    · rename_i hl
      rw [List.pairwise_cons]
      have hy : Lt K y x := by
        rcases Lt.total (L := K) (x := x) (y := y) (fun e => hx (by rw [e]; simp)) with h1 | h1
        · exact absurd h1 hl
        · exact h1
      refine ⟨fun z hz => ?_, ins_pw h.2 (fun e => hx (List.mem_cons_of_mem _ e))⟩
      rcases mem_ins.1 hz with rfl | hz
      · exact hy
      · exact h.1 z hz
theorem mem_ord {K : Nat → Int} {z : Nat} : ∀ {n : Nat}, z ∈ ordK K n ↔ z < n
  | 0 => by simp [ordK]
  | n + 1 => by
    unfold ordK
    rw [mem_ins, mem_ord (n := n)]
    omega
theorem ord_len (K : Nat → Int) : ∀ n : Nat, (ordK K n).length = n
  | 0 => rfl
  | n + 1 => by unfold ordK; rw [ins_len, ord_len K n]
theorem ord_pw (K : Nat → Int) : ∀ n : Nat, (ordK K n).Pairwise (Lt K)
  | 0 => List.Pairwise.nil
  | n + 1 => by
    unfold ordK
    exact ins_pw (ord_pw K n) (fun h => by have := mem_ord.1 h; omega)
theorem ord_nodup (K : Nat → Int) (n : Nat) : (ordK K n).Nodup := (ord_pw K n).imp (fun {a b} h e => by rw [e] at h; exact h.irr)

/-- The places in order, as a row. -/
def og (K : Nat → Int) (n : Nat) : Dat := fun t => (ordK K n).getD t 0
theorem og_at {K : Nat → Int} {n t : Nat} (h : t < n) : og K n t = (ordK K n)[t]'(by rw [ord_len]; exact h) := by
  have : t < (ordK K n).length := by rw [ord_len]; exact h
  simp [og, this]
theorem og_lt {K : Nat → Int} {n t : Nat} (h : t < n) : og K n t < n := by
  rw [og_at h]
  exact mem_ord.1 (List.getElem_mem _)
theorem og_srt (K : Nat → Int) (n : Nat) : Srt K (og K n) 0 n := fun i j _ h2 h3 => by
  rw [og_at (by omega), og_at h3]
  exact List.pairwise_iff_getElem.1 (ord_pw K n) i j _ _ h2
theorem og_sur {K : Nat → Int} {n z : Nat} (h : z < n) : ∃ t, t < n ∧ og K n t = z := by
  obtain ⟨t, ht, e⟩ := List.getElem_of_mem (mem_ord.2 h : z ∈ ordK K n)
  have ht' : t < n := by rw [ord_len] at ht; exact ht
  exact ⟨t, ht', by rw [og_at ht', e]⟩
theorem og_uniq {K : Nat → Int} {n : Nat} {g : Dat} (hr : Re 0 n (fun t => t) g) (hs : Srt K g 0 n) : ∀ t, t < n → g t = og K n t := by
  refine srt_uniq hs (og_srt K n) (fun i hi => ?_) (fun i hi => ?_)
  · obtain ⟨t, _, h2, e⟩ := hr.sur (Nat.zero_le _) (og_lt (K := K) hi)
    exact ⟨t, h2, e⟩
  · obtain ⟨s, _, h2, e⟩ := hr.mem (Nat.zero_le i) hi
    obtain ⟨t, h3, e2⟩ := og_sur (K := K) h2
    exact ⟨t, h3, by rw [e2, e]⟩

/-- A want in its order: whose, its coins, how many are left. -/
structure It where
  i : Nat
  c : Int
  k : Nat
deriving DecidableEq
/-- A fill. -/
structure Fl where
  b : Nat
  s : Nat
  n : Nat
deriving DecidableEq
def itK (L : List Wt) (O : List Nat) : List It := O.map (fun i => ⟨i, cW L i, kW L i⟩)
def itB (L : List Wt) : List It := itK L (ordK (keyB L) L.length)
def itS (L : List Wt) : List It := itK L (ordK (keyS L) L.length)

def cutI (x : It) (X : List It) (m : Nat) : List It := if x.k = m then X else ⟨x.i, x.c, x.k - m⟩ :: X
def mrg : Nat → List It → List It → List Fl
  | f + 1, x :: X, y :: Y => if x.c < y.c then [] else ⟨x.i, y.i, min x.k y.k⟩ :: mrg f (cutI x X (min x.k y.k)) (cutI y Y (min x.k y.k))
  | _, _, _ => []
/-- Who trades with whom. -/
def fls (L M : List Wt) : List Fl := mrg (L.length + M.length) (itB L) (itS M)

theorem cut_len (x y : It) (X Y : List It) : (cutI x X (min x.k y.k)).length + (cutI y Y (min x.k y.k)).length ≤ X.length + Y.length + 1 := by
  unfold cutI
  by_cases h : x.k ≤ y.k
  · rw [if_pos (by omega)]
    split <;> simp <;> omega
  · rw [if_pos (show y.k = min x.k y.k by omega)]
    split <;> simp <;> omega
theorem mrg_fuel : ∀ (f g : Nat) (X Y : List It), X.length + Y.length ≤ f → X.length + Y.length ≤ g → mrg f X Y = mrg g X Y
  | f + 1, g + 1, x :: X, y :: Y, h1, h2 => by
    simp only [mrg]
    have := cut_len x y X Y
    simp only [List.length_cons] at h1 h2
    rw [mrg_fuel f g _ _ (by omega) (by omega)]
  | 0, g, [], Y, _, _ => by cases g <;> simp [mrg]
  | 0, g, x :: X, Y, h, _ => by simp at h
  | f + 1, 0, [], Y, _, _ => by simp [mrg]
  | f + 1, 0, x :: X, Y, _, h => by simp at h
  | f + 1, g + 1, [], Y, _, _ => by simp [mrg]
  | f + 1, g + 1, x :: X, [], _, _ => by simp [mrg]

/-- What is told of two sides, and what is left of them. -/
inductive Mg : List It → List It → List Fl → List It → List It → Prop
  | nilL (Y : List It) : Mg [] Y [] [] Y
  | nilR (X : List It) : Mg X [] [] X []
  | stop (x : It) (X : List It) (y : It) (Y : List It) (h : x.c < y.c) : Mg (x :: X) (y :: Y) [] (x :: X) (y :: Y)
  | step (x : It) (X : List It) (y : It) (Y : List It) (F : List Fl) (R S : List It) (h : y.c ≤ x.c) (r : Mg (cutI x X (min x.k y.k)) (cutI y Y (min x.k y.k)) F R S) : Mg (x :: X) (y :: Y) (⟨x.i, y.i, min x.k y.k⟩ :: F) R S

theorem mg_of : ∀ (f : Nat) (X Y : List It), X.length + Y.length ≤ f → ∃ R S, Mg X Y (mrg f X Y) R S
  | f, [], Y, _ => ⟨[], Y, by cases f <;> exact Mg.nilL Y⟩
  | f, x :: X, [], _ => ⟨x :: X, [], by cases f <;> exact Mg.nilR _⟩
  | 0, x :: X, y :: Y, h => by simp at h
  | f + 1, x :: X, y :: Y, h => by
    simp only [mrg]
    split
    · rename_i hl
      exact ⟨_, _, Mg.stop x X y Y hl⟩
    · have := cut_len x y X Y
      simp only [List.length_cons] at h
      obtain ⟨R, S, hm⟩ := mg_of f (cutI x X (min x.k y.k)) (cutI y Y (min x.k y.k)) (by omega)
      exact ⟨R, S, Mg.step x X y Y _ R S (by omega) hm⟩

/-- The state of one side: b of its wants are done, and of the next one so many. -/
def redu (m : Nat) : List It → List It
  | [] => []
  | x :: X => ⟨x.i, x.c, x.k - m⟩ :: X
def stX (I : List It) (b m : Nat) : List It := redu m (I.drop b)
theorem redu_zero : ∀ X : List It, redu 0 X = X
  | [] => rfl
  | x :: X => by simp [redu]
theorem stX_cons {I : List It} {b m : Nat} (h : b < I.length) : stX I b m = ⟨I[b].i, I[b].c, I[b].k - m⟩ :: I.drop (b + 1) := by
  unfold stX
  rw [List.drop_eq_getElem_cons h]
  rfl
theorem stX_done {I : List It} {b m : Nat} (h : I.length ≤ b) : stX I b m = [] := by
  unfold stX
  rw [List.drop_of_length_le h]
  rfl
theorem stX_len (I : List It) (b m : Nat) : (stX I b m).length = I.length - b := by
  unfold stX
  by_cases h : b < I.length
  · rw [List.drop_eq_getElem_cons h]
    simp [redu]
    omega
  · rw [List.drop_of_length_le (by omega)]
    simp [redu]
    omega
/-- Where one goes on. -/
def nxB (k b m c : Nat) : Nat := if m + c = k then b + 1 else b
def nxM (k m c : Nat) : Nat := if m + c = k then 0 else m + c
theorem cut_st {I : List It} {b m c : Nat} (h : b < I.length) (hm : m < I[b].k) : cutI ⟨I[b].i, I[b].c, I[b].k - m⟩ (I.drop (b + 1)) c = stX I (nxB I[b].k b m c) (nxM I[b].k m c) := by
  unfold cutI nxB nxM
  dsimp only
  by_cases e : m + c = I[b].k
  · rw [if_pos (by omega), if_pos e, if_pos e]
    unfold stX
    rw [redu_zero]
  · rw [if_neg (by omega), if_neg e, if_neg e, stX_cons h, show I[b].k - m - c = I[b].k - (m + c) by omega]
/-- One step of the merge. -/
theorem mrg_step {I J : List It} {f b s m n : Nat} (hb : b < I.length) (hs : s < J.length) (hm : m < I[b].k) (hn : n < J[s].k) (hc : J[s].c ≤ I[b].c) :
    mrg (f + 1) (stX I b m) (stX J s n) = ⟨I[b].i, J[s].i, min (I[b].k - m) (J[s].k - n)⟩ :: mrg f (stX I (nxB I[b].k b m (min (I[b].k - m) (J[s].k - n))) (nxM I[b].k m (min (I[b].k - m) (J[s].k - n)))) (stX J (nxB J[s].k s n (min (I[b].k - m) (J[s].k - n))) (nxM J[s].k n (min (I[b].k - m) (J[s].k - n)))) := by
  rw [stX_cons hb, stX_cons hs]
  simp only [mrg]
  rw [if_neg (by omega), cut_st hb hm, cut_st hs hn]
theorem mrg_stop {I J : List It} {f b s m n : Nat} (hb : b < I.length) (hs : s < J.length) (hc : I[b].c < J[s].c) : mrg (f + 1) (stX I b m) (stX J s n) = [] := by
  rw [stX_cons hb, stX_cons hs]
  simp only [mrg]
  rw [if_pos hc]
theorem mrg_nil {I J : List It} {f b s m n : Nat} (h : I.length ≤ b ∨ J.length ≤ s) : mrg f (stX I b m) (stX J s n) = [] := by
  rcases h with h | h
  · rw [stX_done h]
    cases f <;> simp [mrg]
  · rw [stX_done h]
    cases f
    · simp [mrg]
    · cases stX I b m <;> simp [mrg]

theorem it_len (L : List Wt) (O : List Nat) : (itK L O).length = O.length := by simp [itK]
theorem it_at {L : List Wt} {O : List Nat} {t : Nat} (h : t < O.length) : (itK L O)[t]'(by rw [it_len]; exact h) = ⟨O[t], cW L O[t], kW L O[t]⟩ := by simp [itK]
end Go.Proofs.Ytccbmmbcfcppeaa
