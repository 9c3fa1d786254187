/- A calendar that is filled while another one is told. -/
import Derived.Test.YtbaibikpdaphoaaS6
import Derived.Test.YtbaibikpdaphoaaD7
import Derived.RangeFuncWrites
namespace Go.Proofs.Ytbaibikpdaphoaa
open Go.RowKit Go.Lib Go.Maps

/-- Calendar bc, new since w0; its row lies from B on, the rest of it below. -/
structure KB (w0 : World) (B bc bm : Nat) (now : Int) (R : List Due) (W : World) : Prop where
  cal : ∃ v G P, Cal W bc bm v now G P ∧ G.Perm R ∧ ∀ k, v.ownBlock = some k → B ≤ k
  srt : Srt R
  old : Old w0 W
  bc0 : w0.heap.size ≤ bc
  bm0 : w0.heap.size ≤ bm
  bcB : bc < B
  bmB : bm < B
  BW : B ≤ W.heap.size

theorem KB.put {w0 W : World} {B bc bm : Nat} {now : Int} {R : List Due} {d : Due} (h : KB w0 B bc bm now R W) (hl : R.length < 1000000000) (hd : i64ok d.2) :
    Calls Try.prog 28 #[.pointer (some ⟨bc, 0, none⟩), .agg #[.int .i64 d.1, .int .i64 d.2]] W fun e W' => e = .returned (.tuple #[]) ∧ KB w0 B bc bm now (setR R d) W' ∧ KeepsFrom B W W' ∧ ∀ k, k < B → k ≠ bc → k ≠ bm → W'.heap[k]? = W.heap[k]? := by
  obtain ⟨⟨v, G, P, hc, hper, hv0⟩, hsrt, hold, hbc, hbm0, hbB, hmB, hBW⟩ := h
  have hlen := hper.length_eq
  have hcl := hc.lt
  have hml := hc.map.lt
  have hvl := hc.sl.lt
  have hos := hold.size
  have hout : ∀ W', Frm (fun k => k = bc ∨ k = bm ∨ v.ownBlock = some k) W W' → Old w0 W' ∧ KeepsFrom B W W' ∧ ∀ k, k < B → k ≠ bc → k ≠ bm → W'.heap[k]? = W.heap[k]? := by
    intro W' hf
    refine ⟨Frm.trans hold hf (fun k hk h => ?_), ⟨hf.size, fun k o hB hk ho => ?_⟩, fun k hk h1 h2 => hf.block k (by omega) ?_⟩
    · rcases h with e | e | e
      · omega
      · omega
      · have h8 := hv0 k e
        omega
    · rw [hf.block k (Array.getElem?_eq_some_iff.1 hk).1 ?_]
      · exact hk
      · rintro (e | e | e)
        · omega
        · omega
        · rcases hc.sl with ⟨rfl, _⟩ | ⟨hb, cap, rfl, ⟨J, hr, _⟩, _⟩
          · simp [Value.ownBlock] at e
          · simp [Value.ownBlock] at e
            subst e
            rw [hr] at hk
            cases hk
            simp [Obj.isCells] at ho
    · rintro (e | e | e)
      · exact h1 e
      · exact h2 e
      · have h8 := hv0 k e
        omega
  cases hp : P d.2 with
  | none =>
    have hv : ∃ ao cap, v = .slice ao G.length cap := by
      rcases hc.sl with ⟨rfl, rfl⟩ | ⟨hb, cap, rfl, _⟩
      · exact ⟨none, 0, rfl⟩
      · exact ⟨_, _, rfl⟩
    refine (put_new bc bm G.length v now G P d W hc rfl (by omega) hd hp hv).mono ?_
    rintro e w' ⟨rfl, hb, cap', G', P', hC, hper', hwh, hf⟩
    obtain ⟨o1, o2, o3⟩ := hout w' hf
    refine ⟨rfl, ⟨⟨_, G', P', hC, hper'.trans (set_new hc.pl hp hper), fun k hk => ?_⟩, setR_srt hsrt d, o1, hbc, hbm0, hbB, hmB, Nat.le_trans hBW o2.size⟩, o2, o3⟩
    simp [Value.ownBlock] at hk
    subst hk
    rcases hwh with h1 | h1
    · exact hv0 _ h1
    · omega
  | some p =>
    obtain ⟨i, hi, hat⟩ := hc.pl.no d.2 (by rw [hp]; simp)
    have hpi := hc.pl.pl i hi
    rw [hat, hp] at hpi
    obtain rfl : p = i := Option.some.inj hpi
    rcases hc.sl with ⟨_, rfl⟩ | ⟨hb, cap, rfl, hR, hne, hcm⟩
    · simp at hi
    · refine (put_set bc hb bm cap G.length now G P d p W hc rfl (by omega) hd hp hi hat hR hne).mono ?_
      rintro e w' ⟨rfl, G', P', r1, r2, r3, r4, r5, r6⟩
      obtain ⟨o1, o2, o3⟩ := hout w' (Frm.mono r6 (fun k _ hk => by
        rcases hk with e | e
        · exact Or.inr (Or.inr (by rw [e]; rfl))
        · exact Or.inr (Or.inl e)))
      have hl2 : G'.length = G.length := by rw [r3.length_eq]; simp
      have hbm : bc ≠ bm := ne_of_cell hc.map hc.cells.1
      have hC : Cal w' bc bm (.slice (some ⟨hb, 0, none⟩) G.length cap) now G' P' := by
        refine ⟨?_, Or.inr ⟨hb, cap, by rw [hl2], r1, hne, hcm⟩, by rw [hl2]; exact r4, r5, r2, ?_, ?_⟩
        · rw [r6.block bc hcl (by rintro (e | e); exact hne e.symm; exact hbm e)]; exact hc.blk
        · exact (Mv.set hc.heap hc.nd hc.pl hi hat).nd.perm r3
        · intro x hx
          rcases List.mem_or_eq_of_mem_set (r3.mem_iff.1 hx) with h1 | h1
          · exact hc.ok x h1
          · rw [h1]; exact hd
      exact ⟨rfl, ⟨⟨_, G', P', hC, r3.trans (set_there hi hc.nd hat hper), hv0⟩, setR_srt hsrt d, o1, hbc, hbm0, hbB, hmB, Nat.le_trans hBW o2.size⟩, o2, o3⟩

theorem KB.kc {w0 W : World} {B bc bm : Nat} {now : Int} {R : List Due} (h : KB w0 B bc bm now R W) : KC w0 W bc now R := by
  obtain ⟨⟨v, G, P, hc, hper, hv0⟩, hsrt, hold, hbc, hbm0, hbB, hmB, hBW⟩ := h
  refine ⟨fun k => k = bc ∨ k = bm ∨ v.ownBlock = some k, ⟨bm, v, G, P, hc, hper, hsrt, Or.inl rfl, Or.inr (Or.inl rfl), fun k hk => Or.inr (Or.inr hk)⟩, hold, fun k hk => ?_⟩
  have h1 := hc.lt
  have h2 := hc.map.lt
  rcases hk with e | e | e
  · omega
  · omega
  · have h3 := hv0 k e
    have h4 := hc.sl.lt k e
    omega

theorem KB.olds {w0 W W' : World} {B bc bm : Nat} {now : Int} {R : List Due} (h : KB w0 B bc bm now R W) (ho : Old W W') : KB w0 B bc bm now R W' := by
  obtain ⟨⟨v, G, P, hc, hper, hv0⟩, hsrt, hold, hbc, hbm0, hbB, hmB, hBW⟩ := h
  exact ⟨⟨v, G, P, hc.old ho, hper, hv0⟩, hsrt, hold.trans ho, hbc, hbm0, hbB, hmB, Nat.le_trans hBW ho.size⟩

theorem ofR_append (L : List Due) (d : Due) : ofR (L ++ [d]) = setR (ofR L) d := by
  unfold ofR; rw [List.foldl_append]; rfl

theorem insD_last {d : Due} : ∀ {P : List Due}, (∀ x ∈ P, dlt x d) → insD d P = P ++ [d]
  | [], _ => rfl
  | x :: P, h => by
    unfold insD
    rw [if_pos (h x (by simp)), insD_last (fun y hy => h y (by simp [hy]))]
    rfl

/-- Dues in order, each number once: put one after another they stand so. -/
theorem ofR_self {R : List Due} (hs : Srt R) (hn : ND R) : ∀ k, k ≤ R.length → ofR (R.take k) = R.take k
  | 0, _ => by simp [ofR]
  | k + 1, hk => by
    have hk' : k < R.length := hk
    rw [List.take_succ_eq_append_getElem hk', ofR_append, ofR_self hs hn k (by omega)]
    have h1 : ∀ x ∈ R.take k, dlt x R[k] ∧ x.2 ≠ R[k].2 := by
      intro x hx
      obtain ⟨i, hi, rfl⟩ := List.getElem_of_mem hx
      have hi' : i < k := by rw [List.length_take] at hi; omega
      rw [List.getElem_take]
      refine ⟨List.pairwise_iff_getElem.1 hs i k (by omega) hk' hi', ?_⟩
      have h3 := List.pairwise_iff_getElem.1 hn i k (by simp; omega) (by simp; omega) hi'
      simpa using h3
    unfold setR
    rw [show wo R[k].2 (R.take k) = R.take k from List.filter_eq_self.2 (fun x hx => by simpa using (h1 x hx).2)]
    exact insD_last (fun x hx => (h1 x hx).1)

/-- The book-keeping of a range leaves it as it is. -/
theorem KB.own {β : Type} {w0 : World} {B bc bm : Nat} {now : Int} (f : β → List Due) : OwnFrom B (fun pre W => KB w0 B bc bm now (f pre) W) := by
  intro s W W' row h hg hr
  obtain ⟨⟨v, G, P, hc, hper, hv0⟩, hsrt, hold, hbc, hbm0, hbB, hmB, hBW⟩ := h
  have hos := hold.size
  have hf : Frm (fun k => row = some k) W W' := ⟨hg.os, hg.tape, hg.output, hg.size, fun k hk hne => hg.block k hk (fun e => hne e.symm)⟩
  refine ⟨⟨v, G, P, hc.kept hf (fun e => ?_) (fun e => ?_) (fun k hk e => ?_), hper, hv0⟩, hsrt, Frm.trans hold hf (fun k hk e => ?_), hbc, hbm0, hbB, hmB, Nat.le_trans hBW hg.size⟩
  · have := (hr _ e).1; omega
  · have := (hr _ e).1; omega
  · obtain ⟨_, o, h1, h2⟩ := hr _ e
    rcases hc.sl with ⟨rfl, _⟩ | ⟨hb, cap, rfl, ⟨J, hr', _⟩, _⟩
    · simp [Value.ownBlock] at hk
    · simp [Value.ownBlock] at hk
      subst hk
      rw [hr'] at h1
      cases h1
      simp [Obj.isCells] at h2
  · have := (hr _ e).1; omega
end Go.Proofs.Ytbaibikpdaphoaa
