/- What is put into the heap, and taken out of it. -/
import Derived.Test.YtbaibikpdaphoaaH2
namespace Go.Proofs.Ytbaibikpdaphoaa

theorem Mv.set {G : List Due} {P : Int → Option Nat} {p : Nat} {d : Due} (hh : IsHeap G) (hn : ND G) (hp : Pl G P) (hl : p < G.length) (hd : (at' G p).2 = d.2) : Mv (G.set p d) d (P d.2) G (G.set p d) p P := by
  have hmap : (G.set p d).map Prod.snd = G.map Prod.snd := by
    rw [List.map_set]
    apply List.ext_getElem
    · simp
    · intro i h1 h2
      rw [List.getElem_set]
      split
      · rename_i e; subst e; rw [← hd, at_eq hl]; simp
      · rfl
  have hnum : ∀ i, (at' (G.set p d) i).2 = (at' G i).2 := by
    intro i
    rw [at_set hl]
    by_cases e : p = i
    · rw [if_pos e, ← e, hd]
    · rw [if_neg e]
  refine ⟨List.Perm.refl _, by unfold ND; rw [hmap]; exact hn, by simpa using hl, by rw [at_set hl, if_pos rfl], hh.set hl d, ⟨?_, ?_, ?_⟩, ?_, by simp⟩
  · intro i hi _
    rw [hnum]; exact hp.pl i (by simpa using hi)
  · rw [hnum, hd]
  · intro x hx
    obtain ⟨i, hi, h2⟩ := hp.no x hx
    exact ⟨i, by simpa using hi, by rw [hnum]; exact h2⟩
  · intro i _ hne
    rw [at_set hl, if_neg (Ne.symm hne)]

theorem Mv.snoc {G : List Due} {P : Int → Option Nat} {d : Due} (hh : IsHeap G) (hn : ND G) (hp : Pl G P) (hd : P d.2 = none) : Mv (G ++ [d]) d (P d.2) (G ++ [d]) (G ++ [d]) G.length P := by
  have hat : ∀ i, i < G.length → at' (G ++ [d]) i = at' G i := fun i hi => by rw [at_append, if_pos hi]
  have hlast : at' (G ++ [d]) G.length = d := by rw [at_append, if_neg (by omega), if_pos rfl]
  refine ⟨List.Perm.refl _, ?_, by simp, hlast, hh.snoc d, ⟨?_, by rw [hlast], ?_⟩, fun _ _ _ => rfl, Nat.le_refl _⟩
  · unfold ND
    rw [List.map_append, List.nodup_append]
    refine ⟨hn, by simp, ?_⟩
    intro a ha b hb
    simp at hb
    subst hb
    rintro rfl
    rw [List.mem_map] at ha
    obtain ⟨x, hx, e⟩ := ha
    obtain ⟨i, hi, rfl⟩ := List.getElem_of_mem hx
    have := hp.pl i hi
    rw [at_eq hi, e, hd] at this
    cases this
  · intro i hi hne
    simp at hi
    rw [hat i (by omega)]
    exact hp.pl i (by omega)
  · intro x hx
    obtain ⟨i, hi, h2⟩ := hp.no x hx
    exact ⟨i, by simp; omega, by rw [hat i hi]; exact h2⟩

/-- Without the one at a place: the last one comes there. -/
theorem out_perm {G : List Due} {p e : Nat} (he : G.length = e + 1) (hp : p < e) : ((G.take e).set p (at' G e) ++ [at' G p]).Perm G := by
  have hg : G = G.take e ++ [at' G e] := by
    have := List.take_append_drop e G
    have hd : G.drop e = [at' G e] := by
      rw [at_eq (by omega)]
      apply List.ext_getElem
      · simp; omega
      · intro i h1 h2
        simp at h2
        subst h2
        simp
    rw [hd] at this
    exact this.symm
  have hs : sw G p e = (G.take e).set p (at' G e) ++ [at' G p] := by
    have hl : (G.take e).length = e := by simp; omega
    unfold sw
    conv => lhs; rw [hg]
    rw [List.set_append_left _ _ (by omega), List.set_append_right _ _ (by rw [List.length_set]; omega)]
    have h0 : e - ((G.take e).set p (at' (G.take e ++ [at' G e]) e)).length = 0 := by rw [List.length_set]; omega
    rw [h0, ← hg]
    rfl
  rw [← hs]
  exact sw_perm (by omega) (by omega)

theorem out_last {G : List Due} {e : Nat} (he : G.length = e + 1) : (G.take e ++ [at' G e]).Perm G := by
  have := List.take_append_drop e G
  have hd : G.drop e = [at' G e] := by
    rw [at_eq (by omega)]
    apply List.ext_getElem
    · simp; omega
    · intro i h1 h2
      simp at h2
      subst h2
      simp
  rw [hd] at this
  rw [this]

theorem nd_left {G : List Due} {x : Due} (h : ND (G ++ [x])) : ND G := by
  unfold ND at *
  rw [List.map_append] at h
  exact (List.nodup_append.1 h).1

theorem Mv.out {G : List Due} {P : Int → Option Nat} {p e : Nat} (hh : IsHeap G) (hn : ND G) (hp : Pl G P) (he : G.length = e + 1) (hl : p < e) :
    Mv ((G.take e).set p (at' G e)) (at' G e) (updF P (at' G p).2 none (at' G e).2) (G.take e) ((G.take e).set p (at' G e)) p (updF P (at' G p).2 none) ∧ updF P (at' G p).2 none (at' G e).2 = some e := by
  have hte : (G.take e).length = e := by simp; omega
  have hne : (at' G e).2 ≠ (at' G p).2 := fun h => by have := hn.inj (by omega) (by omega) h; omega
  have hpe : updF P (at' G p).2 none (at' G e).2 = some e := by unfold updF; rw [if_neg hne]; exact hp.pl e (by omega)
  have hat : ∀ i, i < e → i ≠ p → at' ((G.take e).set p (at' G e)) i = at' G i := fun i hi hip => by
    rw [at_set (by omega), if_neg (Ne.symm hip), at_take hi]
  have hatp : at' ((G.take e).set p (at' G e)) p = at' G e := by rw [at_set (by omega), if_pos rfl]
  refine ⟨⟨List.Perm.refl _, nd_left (hn.perm (out_perm he hl)), by rw [List.length_set]; omega, hatp, (hh.take e).set (by omega) _, ⟨?_, by rw [hatp], ?_⟩, ?_, by rw [List.length_set]; omega⟩, hpe⟩
  · intro i hi hip
    rw [List.length_set, hte] at hi
    rw [hat i hi hip]
    unfold updF
    rw [if_neg (fun h => hip (hn.inj (by omega) (by omega) h))]
    exact hp.pl i (by omega)
  · intro x hx
    unfold updF at hx
    by_cases hxp : x = (at' G p).2
    · rw [if_pos hxp] at hx; exact absurd rfl hx
    · rw [if_neg hxp] at hx
      obtain ⟨i, hi, h2⟩ := hp.no x hx
      have hip : i ≠ p := by rintro rfl; exact hxp h2.symm
      by_cases hie : i = e
      · exact ⟨p, by rw [List.length_set]; omega, by rw [hatp, ← hie]; exact h2⟩
      · exact ⟨i, by rw [List.length_set]; omega, by rw [hat i (by omega) hip]; exact h2⟩
  · intro i hi hip
    rw [List.length_set, hte] at hi
    rw [hat i hi hip, at_take hi]

theorem Pl.out {G : List Due} {P : Int → Option Nat} {e : Nat} (hn : ND G) (hp : Pl G P) (he : G.length = e + 1) : Pl (G.take e) (updF P (at' G e).2 none) := by
  have hte : (G.take e).length = e := by simp; omega
  refine ⟨?_, ?_⟩
  · intro i hi
    rw [hte] at hi
    rw [at_take hi]
    unfold updF
    rw [if_neg (fun h => by have := hn.inj (by omega) (by omega) h; omega)]
    exact hp.pl i (by omega)
  · intro x hx
    unfold updF at hx
    by_cases hxp : x = (at' G e).2
    · rw [if_pos hxp] at hx; exact absurd rfl hx
    · rw [if_neg hxp] at hx
      obtain ⟨i, hi, h2⟩ := hp.no x hx
      have hie : i ≠ e := by rintro rfl; exact hxp h2.symm
      exact ⟨i, by omega, by rw [at_take (by omega)]; exact h2⟩
end Go.Proofs.Ytbaibikpdaphoaa
