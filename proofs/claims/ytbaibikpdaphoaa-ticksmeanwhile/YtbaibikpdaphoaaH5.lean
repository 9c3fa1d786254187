/- Numbers set in any order stand alike. -/
import Derived.Test.YtbaibikpdaphoaaH4
namespace Go.Proofs.Ytbaibikpdaphoaa

theorem srt_ext {R R' : List Due} (h : Srt R) (h' : Srt R') (e : ∀ x, x ∈ R ↔ x ∈ R') : R = R' := by
  induction R generalizing R' with
  | nil =>
    cases R' with
    | nil => rfl
    | cons y R' => exact absurd ((e y).2 (List.mem_cons_self ..)) (by simp)
  | cons x R ih =>
    cases R' with
    | nil => exact absurd ((e x).1 (List.mem_cons_self ..)) (by simp)
    | cons y R' =>
      have hx := List.pairwise_cons.1 h
      have hy := List.pairwise_cons.1 h'
      have exy : x = y := by
        rcases List.mem_cons.1 ((e x).1 (List.mem_cons_self ..)) with e1 | m1
        · exact e1
        · rcases List.mem_cons.1 ((e y).2 (List.mem_cons_self ..)) with e2 | m2
          · exact e2.symm
          · exact absurd (dlt_trans (hx.1 y m2) (hy.1 x m1)) (dlt_irrefl x)
      subst exy
      rw [ih hx.2 hy.2 (fun z => ?_)]
      constructor
      · intro hz
        rcases List.mem_cons.1 ((e z).1 (List.mem_cons_of_mem _ hz)) with e1 | m1
        · subst e1; exact absurd (hx.1 _ hz) (dlt_irrefl _)
        · exact m1
      · intro hz
        rcases List.mem_cons.1 ((e z).2 (List.mem_cons_of_mem _ hz)) with e1 | m1
        · subst e1; exact absurd (hy.1 _ hz) (dlt_irrefl _)
        · exact m1

theorem mem_setR {R : List Due} {d x : Due} : x ∈ setR R d ↔ x = d ∨ (x ∈ R ∧ x.2 ≠ d.2) := by
  rw [(setR_perm R d).mem_iff, List.mem_cons]
  unfold wo
  rw [List.mem_filter]
  simp

/-- Set, if it may be. -/
def addR (ok : Int → Bool) (R : List Due) (d : Due) : List Due := if ok d.1 = true then setR R d else R

theorem addR_srt {ok : Int → Bool} {R : List Due} (h : Srt R) (d : Due) : Srt (addR ok R d) := by
  unfold addR; split
  · exact setR_srt h d
  · exact h

theorem addR_len {ok : Int → Bool} {R : List Due} {d : Due} : (addR ok R d).length ≤ R.length + 1 := by
  unfold addR; split
  · exact setR_length
  · omega

/-- From the first on, and from the last on. -/
def upR (ok : Int → Bool) (T : Nat → Int) : Nat → List Due
  | 0 => []
  | k + 1 => addR ok (upR ok T k) (T k, (k : Int))
def dnR (ok : Int → Bool) (T : Nat → Int) (N : Nat) : Nat → List Due
  | 0 => []
  | k + 1 => addR ok (dnR ok T N k) (T (N - 1 - k), ((N - 1 - k : Nat) : Int))

theorem upR_srt (ok : Int → Bool) (T : Nat → Int) : ∀ k, Srt (upR ok T k)
  | 0 => by simp [upR, Srt]
  | k + 1 => addR_srt (upR_srt ok T k) _
theorem dnR_srt (ok : Int → Bool) (T : Nat → Int) (N : Nat) : ∀ k, Srt (dnR ok T N k)
  | 0 => by simp [dnR, Srt]
  | k + 1 => addR_srt (dnR_srt ok T N k) _
theorem upR_len (ok : Int → Bool) (T : Nat → Int) : ∀ k, (upR ok T k).length ≤ k
  | 0 => by simp [upR]
  | k + 1 => by have := upR_len ok T k; have h := addR_len (ok := ok) (R := upR ok T k) (d := (T k, (k : Int))); unfold upR; omega
theorem dnR_len (ok : Int → Bool) (T : Nat → Int) (N : Nat) : ∀ k, (dnR ok T N k).length ≤ k
  | 0 => by simp [dnR]
  | k + 1 => by have := dnR_len ok T N k; have h := addR_len (ok := ok) (R := dnR ok T N k) (d := (T (N - 1 - k), ((N - 1 - k : Nat) : Int))); unfold dnR; omega

theorem mem_upR {ok : Int → Bool} {T : Nat → Int} {x : Due} : ∀ {k : Nat}, x ∈ upR ok T k ↔ ∃ i, i < k ∧ x = (T i, (i : Int)) ∧ ok (T i) = true
  | 0 => by simp [upR]
  | k + 1 => by
    have ih := mem_upR (ok := ok) (T := T) (x := x) (k := k)
    unfold upR addR
    constructor
    · intro h
      split at h
      · rename_i hk
        rcases mem_setR.1 h with e | ⟨h1, _⟩
        · exact ⟨k, by omega, e, hk⟩
        · obtain ⟨i, hi, r⟩ := ih.1 h1
          exact ⟨i, by omega, r⟩
      · obtain ⟨i, hi, r⟩ := ih.1 h
        exact ⟨i, by omega, r⟩
    · rintro ⟨i, hi, rfl, hok⟩
      by_cases e : i = k
      · subst e
        rw [if_pos hok]
        exact mem_setR.2 (Or.inl rfl)
      · have h1 := ih.2 ⟨i, by omega, rfl, hok⟩
        split
        · exact mem_setR.2 (Or.inr ⟨h1, by simp; omega⟩)
        · exact h1

theorem mem_dnR {ok : Int → Bool} {T : Nat → Int} {N : Nat} {x : Due} : ∀ {k : Nat}, k ≤ N → (x ∈ dnR ok T N k ↔ ∃ i, N - k ≤ i ∧ i < N ∧ x = (T i, (i : Int)) ∧ ok (T i) = true)
  | 0, _ => by simp [dnR]; intro i h1 h2; omega
  | k + 1, hk => by
    have ih := mem_dnR (ok := ok) (T := T) (N := N) (x := x) (k := k) (by omega)
    unfold dnR addR
    constructor
    · intro h
      split at h
      · rename_i hok
        rcases mem_setR.1 h with e | ⟨h1, _⟩
        · exact ⟨N - 1 - k, by omega, by omega, e, hok⟩
        · obtain ⟨i, h1, h2, r⟩ := ih.1 h1
          exact ⟨i, by omega, h2, r⟩
      · obtain ⟨i, h1, h2, r⟩ := ih.1 h
        exact ⟨i, by omega, h2, r⟩
    · rintro ⟨i, hi, hi2, rfl, hok⟩
      by_cases e : i = N - 1 - k
      · subst e
        rw [if_pos hok]
        exact mem_setR.2 (Or.inl rfl)
      · have h1 := ih.2 ⟨i, by omega, hi2, rfl, hok⟩
        split
        · exact mem_setR.2 (Or.inr ⟨h1, by simp; omega⟩)
        · exact h1

theorem up_dn (ok : Int → Bool) (T : Nat → Int) (N : Nat) : dnR ok T N N = upR ok T N := by
  refine srt_ext (dnR_srt ok T N N) (upR_srt ok T N) (fun x => ?_)
  rw [mem_dnR (Nat.le_refl _), mem_upR]
  constructor
  · rintro ⟨i, _, h2, r⟩; exact ⟨i, h2, r⟩
  · rintro ⟨i, h2, r⟩; exact ⟨i, by omega, h2, r⟩

theorem mem_due {t : Int} {R : List Due} {x : Due} (h : x ∈ due t R) : x ∈ R ∧ x.1 ≤ t := by
  refine ⟨?_, due_le x h⟩
  rw [← due_rest t R]
  exact List.mem_append_left _ h
end Go.Proofs.Ytbaibikpdaphoaa
