/- A reader of any bytes under any calls, beside the document's: WireReads walked. -/
import Derived.Test.YtchjkcghaddmhaaA7
import Derived.Test.YtchjkcghaddmhaaS1
import Derived.Test.YtchjkcghaddmhaaK2
namespace Go.Proofs.Ytchjkcghaddmhaa
open Go.RowKit
set_option linter.unusedSimpArgs false

/-- What holds behind each operation may be narrowed midway. -/
theorem wpAnyH_narrow {P : Program} {md : Region.Mode} {ops : Array Oper} {Q : Exit → Act → World → Prop} {S T : World → Prop} (hTS : ∀ w, T w → S w) :
    ∀ (fuel : Nat) (listed : Array Bool) (a : Act) (w : World), wpAnyH P md ops Q T fuel listed a w → wpAnyH P md ops Q S fuel listed a w
  | 0, _, _, _, h => h
  | fuel + 1, _, _, _, h => ⟨h.1, fun i hi => wpOp_mono (fun a' w' h' => ⟨hTS w' h'.1, wpAnyH_narrow hTS fuel _ a' w' h'.2⟩) (h.2 i hi)⟩

/-- The copy of the bytes, one byte longer, in memory of its own. -/
structure Rm (w w2 : World) (g cap2 : Nat) (xs : List UInt8) : Prop where
  frm : Frm (fun _ => False) w w2
  gb : w.heap.size ≤ g
  gs : g < w2.heap.size
  cap : xs.length + 1 ≤ cap2
  src : Src w2 (some ⟨g, 0, none⟩) cap2 xs
  last : w2.cell? ⟨g, xs.length, none⟩ = some (.int .u8 165)
  row : Row w2 w.heap.size (.slice (some ⟨g, 0, none⟩) (xs.length + 1) cap2) (some g) (xs ++ [165])

theorem rm_of {w w1 w2 : World} {o : Obj} {v1 v2 : Value} {xs : List UInt8} {n : Nat} (hg1 : w.grownBy w1 none) (h1 : w1.ownsRow w.heap.size 5 1 v1 xs.length (xs.map byteV))
    (hg2 : (w1.alloc o).grownBy w2 v1.ownBlock) (hn : n = xs.length + 1) (h2 : w2.ownsRow w.heap.size 5 1 v2 n (xs.map byteV ++ [.int .u8 165])) :
    ∃ g cap2, v2 = .slice (some ⟨g, 0, none⟩) (xs.length + 1) cap2 ∧ Rm w w2 g cap2 xs := by
  subst hn
  have hl := h1.lt
  have hrow := h2
  rcases h2.2 with ⟨_, h0⟩ | ⟨g, cap2, cur, rfl, hb, hg, hnc, _⟩
  · omega
  have hc := h2.cells (g := g) rfl
  have hgs := (Array.getElem?_eq_some_iff.1 hg).1
  have hfr : Frm (fun _ => False) w w2 := ((((Frm.refl _ w).grown hg1 (fun k e => by cases e)).alloc o).grown hg2 (fun k e => .inl (by have := hl k e; omega)))
  refine ⟨g, cap2, rfl, hfr, hb, hgs, hnc, ⟨(fun h => by cases h), by omega, ?_⟩, ?_, ⟨rfl, ?_⟩⟩
  · intro i hi
    refine ⟨g, 0, rfl, hgs, ?_⟩
    have := hc i (byteV xs[i]) (by rw [List.getElem?_append_left (by simp; omega)]; simp [hi])
    rw [Addr.add_lit] at this
    exact this
  · have := hc xs.length (.int .u8 165) (by rw [List.getElem?_append_right (by simp)]; simp)
    rw [Addr.add_lit, Nat.zero_add] at this
    exact this
  · have e : (xs ++ [165]).map byteV = xs.map byteV ++ [.int .u8 165] := by rw [List.map_append]; rfl
    rw [e, List.length_append]
    exact hrow

theorem conv_src {w : World} {ao : Option Addr} {cap : Nat} {xs : List UInt8} (h : Src w ao cap xs) : (convert 25 9 (.slice ao xs.length cap)).run Try.prog w = .ok (.string ⟨xs.toArray⟩) w := by
  cases ao with
  | none =>
    obtain ⟨rfl, rfl⟩ := h.nil rfl
    exact conv_row (base := 0) (r := none) ⟨rfl, World.ownsRow_nil _ _ _ _⟩
  | some a => exact run_convert_bytes_back w 25 9 5 a cap xs Try.underlying25 Try.underlying5 Try.underlying9 (fun i hi => by
      obtain ⟨g, o, h1, _, h3⟩ := h.cells i hi
      cases h1
      rw [Addr.add_lit]
      exact h3)

/-- The script in memory. -/
def AsksIn (w : World) (so : Option Addr) (K : List (Int × Int)) : Prop :=
  ∀ i (h : i < K.length), ∃ g o, so = some ⟨g, o, none⟩ ∧ g < w.heap.size ∧ w.cell? ⟨g, o + i * 2, none⟩ = some (.int .i64 K[i].1) ∧ w.cell? ⟨g, o + i * 2 + 1, none⟩ = some (.int .i64 K[i].2)

/-- Both readers at some place. -/
def AnyB (w0 W : World) (b : Nat) (v : Value) (db : Nat) (ao : Option Addr) (cap : Nat) (xs : List UInt8) : Prop := ∃ p, Both w0 W b v db ao cap xs p

theorem AnyB.script {w0 W : World} {b : Nat} {v : Value} {db : Nat} {ao : Option Addr} {cap : Nat} {xs : List UInt8} (h : AnyB w0 W b v db ao cap xs) {g : Nat} (hg : g < w0.heap.size) {i : Nat} {u : Value} (hc : w0.cell? ⟨g, i, none⟩ = some u) : W.cell? ⟨g, i, none⟩ = some u := by
  obtain ⟨p, h⟩ := h
  rw [World.cell?_of_block (w := w0) (h.rr.frm.block g hg (fun e => e))]
  exact hc

theorem both_new {w w2 w3 : World} {g cap2 b : Nat} {v : Value} {ao : Option Addr} {cap n : Nat} {xs : List UInt8} (hn : xs.length = n) (hs : Src w ao cap xs) (hm : Rm w w2 g cap2 xs) (hrd : Rd w3 b v xs 0) (hf : Frm (fun _ => False) w2 w3) (hb : w2.heap.size ≤ b) :
    Both w (w3.alloc (.cells #[.slice ao n cap, .int .i64 0] 48)) b v w3.heap.size ao cap xs 0 := by
  subst hn
  have h1 := hrd.lt
  have h2 := hrd.row.2.lt
  have h3 := hm.frm.size
  have h4 := hf.size
  refine ⟨hrd.kept (S := fun _ => False) ((Frm.refl _ _).alloc _) (fun e => e) (fun _ _ e => e), ⟨hs, heap_alloc_new w3 _, (hm.frm.trans hf (fun _ _ e => e)).alloc _, by omega, Nat.zero_le _⟩, by omega, ?_, by omega⟩
  intro e
  have := h2 _ e
  omega

theorem Both.spoilt {w0 w w' : World} {b : Nat} {v : Value} {db : Nat} {ao : Option Addr} {cap : Nat} {xs : List UInt8} {p g : Nat} (h : Both w0 w b v db ao cap xs p) (hf : Frm (fun k => some k = some g) w w') (hb : b ≠ g) (hv : v.ownBlock ≠ some g) (hd : db ≠ g) (hg : w0.heap.size ≤ g) : Both w0 w' b v db ao cap xs p :=
  ⟨h.rd.kept hf (fun e => hb (by simpa using e)) (fun k hk e => hv (by rw [hk, e])), h.rr.kept hf (fun e => hd (by simpa using e)) (fun k e => by simp at e; omega), h.ne, h.vdb, h.bge⟩

theorem spoil_len (v : Value) (base : Nat) (r : Option Nat) (xs : List UInt8) (n : Nat) (hn : xs.length = n) (w : World) (hrow : Row w base v r xs) (hlen : n ≤ 900000000000) :
    Calls Try.prog 14 #[v] w fun e w' => e = .returned (.tuple #[]) ∧ Frm (fun k => some k = r) w w' := by
  subst hn
  refine (spoil_any v base r xs w hrow hlen).mono ?_
  rintro e w' ⟨rfl, ys, _, _, hf⟩
  exact ⟨rfl, hf⟩

theorem src_nil (w : World) : Src w none 0 [] := ⟨fun _ => ⟨rfl, rfl⟩, Nat.le_refl _, fun i h => by simp at h⟩

theorem newReader_len (ao : Option Addr) (cap : Nat) (xs : List UInt8) (n : Nat) (hn : xs.length = n) (w : World) (hs : Src w ao cap xs) (hlen : n ≤ 900000000000) :
    Calls Try.prog 16 #[.slice ao n cap] w fun e w' => NewRd w xs e w' := by
  subst hn
  exact newReader_src ao cap xs w hs hlen

theorem conv_len {w : World} {ao : Option Addr} {cap : Nat} {xs : List UInt8} {n : Nat} (hn : xs.length = n) (h : Src w ao cap xs) (m : Nat) : (convert 25 9 (.slice ao n cap)).run Try.prog (w.drewN m) = .ok (.string ⟨xs.toArray⟩) (w.drewN m) := by
  subst hn
  exact conv_src (h.grow ((Frm.refl _ w).drewN m))

set_option maxRecDepth 100000 in
set_option maxHeartbeats 8000000 in
theorem reads_some (a : Addr) (cap : Nat) (xs : List UInt8) (n : Nat) (hn : xs.length = n) (so : Option Addr) (sc : Nat) (K : List (Int × Int)) (k : Nat) (hk : K.length = k) (w : World) (hs : Src w (some a) cap xs) (hK : AsksIn w so K) (hKb : ∀ x ∈ K, x.2 ≤ 9223372036854775807) (hlen : n ≤ 1000000000) (hkl : k ≤ 1000000000) :
    Calls Try.prog 4 #[.slice (some a) n cap, .slice so k sc] w fun e w' => e = .returned (.bool true) ∧ Frm (fun _ => False) w w' := by
  obtain ⟨i0, hi0, hz0, hz1, hz2⟩ := info_parts Try.info5
  have hnews := hs.news
  go_enter Try.func4, Try.ntmps4
  go_wp2_with (first
    | (at_builtin; refine wpList_append_own _ (by rfl) _ _ 25 (by rfl) w.heap.size 5 i0 _ 1 1 Try.underlying25 hi0 hz0 hz1 hz2 rfl (by omega) (.slice none 0 0) 0 [] (by rfl) (World.ownsRow_nil _ _ _ _) a n cap (xs.map byteV) (by rfl) (by simp [hn]) hnews (by intro u hu; simp at hu; obtain ⟨x, _, rfl⟩ := hu; rfl) (by unfold maxLen; omega) (by omega) (Nat.le_refl _) ?_; intro v1 w1 hown1 hgrow1 _; rw [Nat.zero_add, List.nil_append, ← hn] at hown1)
    | (at_builtin; refine wpList_append_own _ (by rfl) _ _ 25 (by rfl) w.heap.size 5 i0 _ 1 1 Try.underlying25 hi0 hz0 hz1 hz2 rfl (by omega) v1 xs.length (xs.map byteV) (by rfl) (hown1.alloc _) ⟨_, 0, none⟩ 1 1 [.int .u8 165] (by rfl) (by rfl) (World.news_of_block (cs := #[.int .u8 165]) (t := 5) (fr := (0, 0)) (heap_alloc_new _ _)) (by simp [Value.oneCell']) (by unfold maxLen; omega) (by omega) (by have := hgrow1.size; simp at this ⊢; omega) ?_; intro v2 w2 hown2 hgrow2 _; obtain ⟨g, cap2, rfl, hm⟩ := rm_of hgrow1 hown1 hgrow2 (by rfl) hown2; clear hown2 hgrow2 hown1 hgrow1; have hc2 := hm.cap)
    | fail)
  refine (newReader_len _ cap2 xs n hn w2 hm.src (by omega)).mono ?_
  rintro e w3 ⟨b, v, rfl, hrd, hf3, hb, hvb⟩
  have hB := both_new hn hs hm hrd hf3 hb
  have hf4 : Frm (fun _ => False) w2 (w3.alloc (.cells #[.slice (some a) n cap, .int .i64 0] 48)) := hf3.alloc _
  have hbl := hB.rd.lt
  have hne1 : b ≠ g := by have := hm.gs; omega
  have hne2 : v.ownBlock ≠ some g := fun e => by have := hvb g e; have := hm.gs; omega
  have hne3 : w3.heap.size ≠ g := by have := hm.gs; have := hf3.size; omega
  have hgb := hm.gb
  have hsrc4 := hm.src.grow hf4
  have hsrc5 := hs.grow (hm.frm.trans hf4 (fun _ _ e => e))
  have hcv1 := conv_len hn hsrc4
  have hcv2 := conv_len hn hsrc5
  have hlast := (World.cell?_of_block (w := w2) (a := ⟨g, xs.length, none⟩) (hf4.block g hm.gs (fun e => e))).trans hm.last
  rw [hn] at hlast
  have hrow4 := hm.row.kept hf4 (fun _ _ e => e)
  clear hrd hf3 hb hvb hf4 hsrc4 hsrc5
  go_wp2_with fail
  generalize w3.heap.size = db at *
  generalize w3.alloc (.cells #[.slice (some a) n cap, .int .i64 0] 48) = w4 at *
  go_quiet (fail)
  have hlx : (xs ++ [165]).length = n + 1 := by rw [List.length_append, hn]; rfl
  rw [hn] at hrow4
  go_wp2_with fail
  refine (spoil_len _ _ _ _ _ hlx _ (hrow4.kept ((Frm.refl (fun _ => False) w4).drewN nq) (fun _ _ e => e)) (by omega)).mono ?_
  rintro e w5 ⟨rfl, hf5⟩
  have hB5 : AnyB w w5 b v db (some a) cap xs := ⟨_, (hB.grow ((Frm.refl _ w4).drewN nq)).spoilt hf5 hne1 hne2 hne3 hgb⟩
  clear hB hf5 hrow4 hlast hcv1 hcv2 hne1 hne2 hne3 hbl hm hlx hgb
  go_wp2_with fail
  go_loopw [8] (fun i wr => ∃ j : Nat, j ≤ k ∧ i = .int .i64 (j : Int) ∧ AnyB w wr b v db (some a) cap xs) (fun i _ => k - (intOf i).toNat)
  case atStart => exact ⟨0, Nat.zero_le _, rfl, hB5⟩
  case round =>
    clear hB5
    obtain ⟨j, hj, rfl, hA⟩ := hrel
    by_cases hlt : j < k
    · obtain ⟨sg, sof, hso, hsg, hk1, hk2⟩ := hK j (by omega)
      have hkb := hKb K[j] (List.getElem_mem _)
      generalize K[j] = y at *
      obtain ⟨kind, num⟩ := y
      dsimp only at hk1 hk2 hkb
      subst hso
      have hlt' : (j : Int) < (k : Int) := by omega
      go_wp2_with fail
      refine wp_region_noPanic ?_
      refine wp_region_held_drew (S := fun W => AnyB w W b v db (some a) cap xs) (by kernel_rfl) (by obtain ⟨p, hp⟩ := hA; exact ⟨p, hp.grow ((Frm.refl _ _).drew)⟩) (fun hHeld => ?_)
      generalize wr.drew = W1 at *
      clear hA
      refine' wpAnyH_take (i := 0) rfl (by kernel_rfl) (by kernel_rfl) (by kernel_rfl) (fun _ _ _ h => h) (Or.inl ⟨by rfl, ?_⟩) hHeld ?_
      rotate_left
      · intro W hSw
        have hSv : AnyB w W b v db (some a) cap xs := hSw
        clear hSw
        simp only [List.getElem_toArray, List.getElem_cons_zero, List.getElem_cons_succ]
        go_simp
        all_goals with_reducible rfl
      simp only [List.getElem_toArray, List.getElem_cons_zero, List.getElem_cons_succ, Act.put, List.setIfInBounds_toArray, List.set_cons_zero, List.set_cons_succ]
      refine' wpAnyH_take (i := 1) rfl (by kernel_rfl) (by kernel_rfl) (by kernel_rfl) (fun _ _ _ h => h) (Or.inl ⟨by rfl, ?_⟩) hHeld ?_
      rotate_left
      · intro W hSw
        have hSv : AnyB w W b v db (some a) cap xs := hSw
        clear hSw
        simp only [List.getElem_toArray, List.getElem_cons_zero, List.getElem_cons_succ]
        go_simp
        all_goals with_reducible rfl
      simp only [List.getElem_toArray, List.getElem_cons_zero, List.getElem_cons_succ, Act.put, List.setIfInBounds_toArray, List.set_cons_zero, List.set_cons_succ]
      refine' wpAnyH_take (i := 2) rfl (by kernel_rfl) (by kernel_rfl) (by kernel_rfl) (fun _ _ _ h => h) (Or.inl ⟨by rfl, ?_⟩) hHeld ?_
      rotate_left
      · intro W hSw
        have hSv : AnyB w W b v db (some a) cap xs := hSw
        clear hSw
        simp only [List.getElem_toArray, List.getElem_cons_zero, List.getElem_cons_succ]
        go_simp
        all_goals with_reducible rfl
      simp only [List.getElem_toArray, List.getElem_cons_zero, List.getElem_cons_succ, Act.put, List.setIfInBounds_toArray, List.set_cons_zero, List.set_cons_succ]
      refine' wpAnyH_take (i := 3) rfl (by kernel_rfl) (by kernel_rfl) (by kernel_rfl) (fun _ _ _ h => h) (Or.inl ⟨by rfl, ?_⟩) hHeld ?_
      rotate_left
      · intro W hSw
        have hSv : AnyB w W b v db (some a) cap xs := hSw
        clear hSw
        simp only [List.getElem_toArray, List.getElem_cons_zero, List.getElem_cons_succ]
        go_simp
        all_goals with_reducible rfl
      simp only [List.getElem_toArray, List.getElem_cons_zero, List.getElem_cons_succ, Act.put, List.setIfInBounds_toArray, List.set_cons_zero, List.set_cons_succ]
      refine' wpAnyH_take (i := 4) rfl (by kernel_rfl) (by kernel_rfl) (by kernel_rfl) (fun _ _ _ h => h) (Or.inl ⟨by rfl, ?_⟩) hHeld ?_
      rotate_left
      · intro W hSw
        have hSv : AnyB w W b v db (some a) cap xs := hSw
        clear hSw
        simp only [List.getElem_toArray, List.getElem_cons_zero, List.getElem_cons_succ]
        go_simp
        all_goals with_reducible rfl
      simp only [List.getElem_toArray, List.getElem_cons_zero, List.getElem_cons_succ, Act.put, List.setIfInBounds_toArray, List.set_cons_zero, List.set_cons_succ]
      refine' wpAnyH_take (i := 5) rfl (by kernel_rfl) (by kernel_rfl) (by kernel_rfl) (fun _ _ _ h => h) (Or.inl ⟨by rfl, ?_⟩) hHeld ?_
      rotate_left
      · intro W hSw
        have hSv : AnyB w W b v db (some a) cap xs := hSw
        clear hSw
        have sc1 := hSv.script hsg hk1
        have sc2 := hSv.script hsg hk2
        simp only [List.getElem_toArray, List.getElem_cons_zero, List.getElem_cons_succ]
        go_simp
        all_goals with_reducible rfl
      simp only [List.getElem_toArray, List.getElem_cons_zero, List.getElem_cons_succ, Act.put, List.setIfInBounds_toArray, List.set_cons_zero, List.set_cons_succ]
      refine wpAnyH_ready (rs := [6]) (by kernel_rfl) (by simp) ?_
      refine AllReadyH.cons (o := _) rfl (fun K_ hK_ => ?_) AllReadyH.nil
      simp only [List.getElem_toArray, List.getElem_cons_zero, List.getElem_cons_succ]
      go_simp
      obtain ⟨p, hp⟩ := hHeld
      refine (asks_any b v db (some a) cap xs p kind num _ hp (by omega) hkb).mono ?_
      rintro e w6 ⟨rfl, ⟨q, hq⟩, _⟩
      refine hK_.out _ _ ⟨q, hq⟩ (fun _ => ?_)
      clear hp
      have hHeld : AnyB w w6 b v db (some a) cap xs := ⟨q, hq⟩
      clear hK_ K_
      try simp only [Act.put, List.setIfInBounds_toArray, List.set_cons_zero, List.set_cons_succ]
      refine' wpAnyH_take (i := 7) rfl (by kernel_rfl) (by kernel_rfl) (by kernel_rfl) (fun _ _ _ h => h) (Or.inl ⟨by rfl, ?_⟩) hHeld ?_
      rotate_left
      · intro W hSw
        have hSv : AnyB w W b v db (some a) cap xs := hSw
        clear hSw
        simp only [List.getElem_toArray, List.getElem_cons_zero, List.getElem_cons_succ]
        go_simp
        all_goals with_reducible rfl
      simp only [List.getElem_toArray, List.getElem_cons_zero, List.getElem_cons_succ, Act.put, List.setIfInBounds_toArray, List.set_cons_zero, List.set_cons_succ]
      refine' wpAnyH_take (i := 8) rfl (by kernel_rfl) (by kernel_rfl) (by kernel_rfl) (fun _ _ _ h => h) (Or.inl ⟨by rfl, ?_⟩) hHeld ?_
      rotate_left
      · intro W hSw
        have hSv : AnyB w W b v db (some a) cap xs := hSw
        clear hSw
        simp only [List.getElem_toArray, List.getElem_cons_zero, List.getElem_cons_succ]
        go_simp
        all_goals with_reducible rfl
      simp only [List.getElem_toArray, List.getElem_cons_zero, List.getElem_cons_succ, Act.put, List.setIfInBounds_toArray, List.set_cons_zero, List.set_cons_succ]
      refine wpAnyH_narrow (T := fun W => Both w W b v db (some a) cap xs q) (fun W h => ⟨q, h⟩) _ _ _ _ ?_
      clear hHeld
      have hHeld := hq
      have hqle := hq.rd.le
      clear hq
      refine' wpAnyH_take (i := 9) rfl (by kernel_rfl) (by kernel_rfl) (by kernel_rfl) (fun _ _ _ h => h) (Or.inl ⟨by rfl, ?_⟩) hHeld ?_
      rotate_left
      · intro W hSw
        have hSv : Both w W b v db (some a) cap xs q := hSw
        clear hSw
        simp only [List.getElem_toArray, List.getElem_cons_zero, List.getElem_cons_succ]
        go_simp
        all_goals with_reducible rfl
      simp only [List.getElem_toArray, List.getElem_cons_zero, List.getElem_cons_succ, Act.put, List.setIfInBounds_toArray, List.set_cons_zero, List.set_cons_succ]
      refine' wpAnyH_take (i := 11) rfl (by kernel_rfl) (by kernel_rfl) (by kernel_rfl) (fun _ _ _ h => h) (Or.inl ⟨by rfl, ?_⟩) hHeld ?_
      rotate_left
      · intro W hSw
        have hSv : Both w W b v db (some a) cap xs q := hSw
        clear hSw
        simp only [List.getElem_toArray, List.getElem_cons_zero, List.getElem_cons_succ]
        go_simp
        all_goals with_reducible rfl
      simp only [List.getElem_toArray, List.getElem_cons_zero, List.getElem_cons_succ, Act.put, List.setIfInBounds_toArray, List.set_cons_zero, List.set_cons_succ]
      refine' wpAnyH_take (i := 12) rfl (by kernel_rfl) (by kernel_rfl) (by kernel_rfl) (fun _ _ _ h => h) (Or.inl ⟨by rfl, ?_⟩) hHeld ?_
      rotate_left
      · intro W hSw
        have hSv : Both w W b v db (some a) cap xs q := hSw
        clear hSw
        simp only [List.getElem_toArray, List.getElem_cons_zero, List.getElem_cons_succ]
        go_simp
        all_goals with_reducible rfl
      simp only [List.getElem_toArray, List.getElem_cons_zero, List.getElem_cons_succ, Act.put, List.setIfInBounds_toArray, List.set_cons_zero, List.set_cons_succ]
      refine' wpAnyH_take (i := 13) rfl (by kernel_rfl) (by kernel_rfl) (by kernel_rfl) (fun _ _ _ h => h) (Or.inl ⟨by rfl, ?_⟩) hHeld ?_
      rotate_left
      · intro W hSw
        have hSv : Both w W b v db (some a) cap xs q := hSw
        clear hSw
        simp only [List.getElem_toArray, List.getElem_cons_zero, List.getElem_cons_succ]
        go_simp
        all_goals with_reducible rfl
      simp only [List.getElem_toArray, List.getElem_cons_zero, List.getElem_cons_succ, Act.put, List.setIfInBounds_toArray, List.set_cons_zero, List.set_cons_succ]
      refine' wpAnyH_take (i := 14) rfl (by kernel_rfl) (by kernel_rfl) (by kernel_rfl) (fun _ _ _ h => h) (Or.inl ⟨by rfl, ?_⟩) hHeld ?_
      rotate_left
      · intro W hSw
        have hSv : Both w W b v db (some a) cap xs q := hSw
        clear hSw
        obtain ⟨sc0, sc1, _⟩ := hSv.rr.cells
        simp only [List.getElem_toArray, List.getElem_cons_zero, List.getElem_cons_succ]
        go_simp
        all_goals with_reducible rfl
      simp only [List.getElem_toArray, List.getElem_cons_zero, List.getElem_cons_succ, Act.put, List.setIfInBounds_toArray, List.set_cons_zero, List.set_cons_succ]
      refine wpAnyH_ready (rs := [10]) (by kernel_rfl) (by simp) ?_
      refine AllReadyH.cons (o := _) rfl (fun K_ hK_ => ?_) AllReadyH.nil
      simp only [List.getElem_toArray, List.getElem_cons_zero, List.getElem_cons_succ]
      go_simp
      refine (rplace_any b v xs q _ hHeld.rd).mono ?_
      rintro e w7 ⟨rfl, rfl⟩
      refine hK_.out _ _ hHeld (fun _ => ?_)
      clear hK_ K_
      try simp only [Act.put, List.setIfInBounds_toArray, List.set_cons_zero, List.set_cons_succ]
      refine' wpAnyH_take (i := 15) rfl (by kernel_rfl) (by kernel_rfl) (by kernel_rfl) (fun _ _ _ h => h) (Or.inl ⟨by rfl, ?_⟩) hHeld ?_
      rotate_left
      · intro W hSw
        have hSv : Both w W b v db (some a) cap xs q := hSw
        clear hSw
        simp only [List.getElem_toArray, List.getElem_cons_zero, List.getElem_cons_succ]
        go_simp
        all_goals with_reducible rfl
      simp only [List.getElem_toArray, List.getElem_cons_zero, List.getElem_cons_succ, Act.put, List.setIfInBounds_toArray, List.set_cons_zero, List.set_cons_succ]
      refine' wpAnyH_take (i := 16) rfl (by kernel_rfl) (by kernel_rfl) (by kernel_rfl) (fun _ _ _ h => h) (Or.inl ⟨by rfl, ?_⟩) hHeld ?_
      rotate_left
      · intro W hSw
        have hSv : Both w W b v db (some a) cap xs q := hSw
        clear hSw
        simp only [List.getElem_toArray, List.getElem_cons_zero, List.getElem_cons_succ]
        go_simp
        all_goals with_reducible rfl
      simp only [List.getElem_toArray, List.getElem_cons_zero, List.getElem_cons_succ, Act.put, List.setIfInBounds_toArray, List.set_cons_zero, List.set_cons_succ]
      refine' wpAnyH_take (i := 17) rfl (by kernel_rfl) (by kernel_rfl) (by kernel_rfl) (fun _ _ _ h => h) (Or.inl ⟨by rfl, ?_⟩) hHeld ?_
      rotate_left
      · intro W hSw
        have hSv : Both w W b v db (some a) cap xs q := hSw
        clear hSw
        simp only [List.getElem_toArray, List.getElem_cons_zero, List.getElem_cons_succ]
        go_simp
        all_goals with_reducible rfl
      simp only [List.getElem_toArray, List.getElem_cons_zero, List.getElem_cons_succ, Act.put, List.setIfInBounds_toArray, List.set_cons_zero, List.set_cons_succ]
      refine' wpAnyH_take (i := 18) rfl (by kernel_rfl) (by kernel_rfl) (by kernel_rfl) (fun _ _ _ h => h) (Or.inl ⟨by rfl, ?_⟩) hHeld ?_
      rotate_left
      · intro W hSw
        have hSv : Both w W b v db (some a) cap xs q := hSw
        clear hSw
        simp only [List.getElem_toArray, List.getElem_cons_zero, List.getElem_cons_succ]
        go_simp
        all_goals with_reducible rfl
      simp only [List.getElem_toArray, List.getElem_cons_zero, List.getElem_cons_succ, Act.put, List.setIfInBounds_toArray, List.set_cons_zero, List.set_cons_succ]
      refine' wpAnyH_take (i := 20) rfl (by kernel_rfl) (by kernel_rfl) (by kernel_rfl) (fun _ _ _ h => h) (Or.inl ⟨by rfl, ?_⟩) hHeld ?_
      rotate_left
      · intro W hSw
        have hSv : Both w W b v db (some a) cap xs q := hSw
        clear hSw
        simp only [List.getElem_toArray, List.getElem_cons_zero, List.getElem_cons_succ]
        go_simp
        all_goals with_reducible rfl
      simp only [List.getElem_toArray, List.getElem_cons_zero, List.getElem_cons_succ, Act.put, List.setIfInBounds_toArray, List.set_cons_zero, List.set_cons_succ]
      refine wpAnyH_ready (rs := [19]) (by kernel_rfl) (by simp) ?_
      refine AllReadyH.cons (o := _) rfl (fun K_ hK_ => ?_) AllReadyH.nil
      simp only [List.getElem_toArray, List.getElem_cons_zero, List.getElem_cons_succ]
      go_simp
      refine (rleft_any b v xs q _ hHeld.rd (by omega)).mono ?_
      rintro e w7 ⟨rfl, m1, rfl⟩
      have hH2 := hHeld.grow ((Frm.refl _ _).drewN m1)
      refine hK_.out _ _ hH2 (fun _ => ?_)
      clear hHeld
      have hHeld := hH2
      clear hK_ K_ hH2
      try simp only [Act.put, List.setIfInBounds_toArray, List.set_cons_zero, List.set_cons_succ]
      refine wpAnyH_ready (rs := [21]) (by kernel_rfl) (by simp) ?_
      refine AllReadyH.cons (o := _) rfl (fun K_ hK_ => ?_) AllReadyH.nil
      simp only [List.getElem_toArray, List.getElem_cons_zero, List.getElem_cons_succ]
      go_simp
      refine (refLeft_any db (some a) cap xs q _ hHeld.rr (by omega)).mono ?_
      rintro e w8 ⟨rfl, m2, rfl⟩
      have hH2 := hHeld.grow ((Frm.refl _ _).drewN m2)
      refine hK_.out _ _ hH2 (fun _ => ?_)
      clear hHeld
      have hHeld := hH2
      clear hK_ K_ hH2
      try simp only [Act.put, List.setIfInBounds_toArray, List.set_cons_zero, List.set_cons_succ]
      refine' wpAnyH_take (i := 22) rfl (by kernel_rfl) (by kernel_rfl) (by kernel_rfl) (fun _ _ _ h => h) (Or.inl ⟨by rfl, ?_⟩) hHeld ?_
      rotate_left
      · intro W hSw
        have hSv : Both w W b v db (some a) cap xs q := hSw
        clear hSw
        simp only [List.getElem_toArray, List.getElem_cons_zero, List.getElem_cons_succ]
        go_simp
        all_goals with_reducible rfl
      simp only [List.getElem_toArray, List.getElem_cons_zero, List.getElem_cons_succ, Act.put, List.setIfInBounds_toArray, List.set_cons_zero, List.set_cons_succ]
      refine' wpAnyH_take (i := 23) rfl (by kernel_rfl) (by kernel_rfl) (by kernel_rfl) (fun _ _ _ h => h) (Or.inl ⟨by rfl, ?_⟩) hHeld ?_
      rotate_left
      · intro W hSw
        have hSv : Both w W b v db (some a) cap xs q := hSw
        clear hSw
        simp only [List.getElem_toArray, List.getElem_cons_zero, List.getElem_cons_succ]
        go_simp
        all_goals with_reducible rfl
      simp only [List.getElem_toArray, List.getElem_cons_zero, List.getElem_cons_succ, Act.put, List.setIfInBounds_toArray, List.set_cons_zero, List.set_cons_succ]
      refine wpAnyH_done (by kernel_rfl) ?_ _
      refine NoPanic.normal ?_
      have hA2 : AnyB w _ b v db (some a) cap xs := ⟨q, hHeld⟩
      clear hHeld
      generalize (w7.drewN m1).drewN m2 = w10 at *
      go_wp2
      go_roundw
      case rel => exact ⟨j + 1, by omega, by go_num, hA2⟩
      case measure => simp [intOf]; omega
    · obtain rfl : j = k := by omega
      obtain ⟨p, hp⟩ := hA
      have hfr := hp.rr.frm
      clear hp hK hKb
      go_wp2_with fail
      refine (known_any wr).mono ?_
      rintro e w9 ⟨rfl, hf9⟩
      go_wp2
      go_ret
      exact ⟨rfl, hfr.trans hf9 (fun _ _ h => h)⟩

set_option maxRecDepth 100000 in
set_option maxHeartbeats 8000000 in
theorem reads_none (so : Option Addr) (sc : Nat) (K : List (Int × Int)) (k : Nat) (hk : K.length = k) (w : World) (hK : AsksIn w so K) (hKb : ∀ x ∈ K, x.2 ≤ 9223372036854775807) (hkl : k ≤ 1000000000) :
    Calls Try.prog 4 #[.slice none 0 0, .slice so k sc] w fun e w' => e = .returned (.bool true) ∧ Frm (fun _ => False) w w' := by
  obtain ⟨i0, hi0, hz0, hz1, hz2⟩ := info_parts Try.info5
  have hs := src_nil w
  have hal := heap_alloc_new w (.cells #[.int .u8 165] 5)
  go_enter Try.func4, Try.ntmps4
  go_wp2_with (first
    | (at_builtin; refine wpList_append_own_none (by rfl) _ _ 25 (by rfl) w.heap.size 5 i0 1 Try.underlying25 hi0 (.slice none 0 0) 0 [] (by rfl) (World.ownsRow_nil _ _ _ _) (by rfl) ?_)
    | (at_builtin; refine wpList_append_own _ (by rfl) _ _ 25 (by rfl) w.heap.size 5 i0 _ 1 1 Try.underlying25 hi0 hz0 hz1 hz2 rfl (by omega) (.slice none 0 0) 0 [] (by rfl) (World.ownsRow_nil _ _ _ _) ⟨w.heap.size, 0, none⟩ 1 1 [.int .u8 165] (by rfl) (by rfl) (World.news_of_block (cs := #[.int .u8 165]) (t := 5) (fr := (0, 0)) hal) (by simp [Value.oneCell']) (by unfold maxLen; omega) (by omega) (by simp) ?_; intro v2 w2 hown2 hgrow2 _; obtain ⟨g, cap2, rfl, hm⟩ := rm_of (xs := []) (v1 := .slice none 0 0) ⟨rfl, rfl, rfl, Nat.le_refl _, fun _ _ _ => rfl⟩ (World.ownsRow_nil _ _ _ _) hgrow2 (by rfl) hown2; clear hown2 hgrow2; have hc2 := hm.cap)
    | fail)
  clear hal
  refine (newReader_len _ cap2 [] 0 rfl w2 hm.src (by omega)).mono ?_
  rintro e w3 ⟨b, v, rfl, hrd, hf3, hb, hvb⟩
  have hB := both_new (n := 0) rfl hs hm hrd hf3 hb
  have hf4 : Frm (fun _ => False) w2 (w3.alloc (.cells #[.slice none 0 0, .int .i64 0] 48)) := hf3.alloc _
  have hbl := hB.rd.lt
  have hne1 : b ≠ g := by have := hm.gs; omega
  have hne2 : v.ownBlock ≠ some g := fun e => by have := hvb g e; have := hm.gs; omega
  have hne3 : w3.heap.size ≠ g := by have := hm.gs; have := hf3.size; omega
  have hgb := hm.gb
  have hsrc4 := hm.src.grow hf4
  have hsrc5 := hs.grow (hm.frm.trans hf4 (fun _ _ e => e))
  have hcv1 := conv_len (n := 0) rfl hsrc4
  have hcv2 := conv_len (n := 0) rfl hsrc5
  have hlast := (World.cell?_of_block (w := w2) (a := ⟨g, 0, none⟩) (hf4.block g hm.gs (fun e => e))).trans hm.last
  have hrow4 := hm.row.kept hf4 (fun _ _ e => e)
  clear hrd hf3 hb hvb hf4 hsrc4 hsrc5
  go_wp2_with fail
  generalize w3.heap.size = db at *
  generalize w3.alloc (.cells #[.slice none 0 0, .int .i64 0] 48) = w4 at *
  go_quiet (fail)
  have hlx : ([] ++ [(165 : UInt8)]).length = 1 := rfl
  simp only [List.length_nil, Nat.zero_add] at hrow4
  go_wp2_with fail
  refine (spoil_len _ _ _ _ _ hlx _ (hrow4.kept ((Frm.refl (fun _ => False) w4).drewN nq) (fun _ _ e => e)) (by omega)).mono ?_
  rintro e w5 ⟨rfl, hf5⟩
  have hB5 : AnyB w w5 b v db none 0 [] := ⟨_, (hB.grow ((Frm.refl _ w4).drewN nq)).spoilt hf5 hne1 hne2 hne3 hgb⟩
  clear hB hf5 hrow4 hlast hcv1 hcv2 hne1 hne2 hne3 hbl hm hlx hgb
  go_wp2_with fail
  go_loopw [8] (fun i wr => ∃ j : Nat, j ≤ k ∧ i = .int .i64 (j : Int) ∧ AnyB w wr b v db none 0 []) (fun i _ => k - (intOf i).toNat)
  case atStart => exact ⟨0, Nat.zero_le _, rfl, hB5⟩
  case round =>
    clear hB5
    obtain ⟨j, hj, rfl, hA⟩ := hrel
    by_cases hlt : j < k
    · obtain ⟨sg, sof, hso, hsg, hk1, hk2⟩ := hK j (by omega)
      have hkb := hKb K[j] (List.getElem_mem _)
      generalize K[j] = y at *
      obtain ⟨kind, num⟩ := y
      dsimp only at hk1 hk2 hkb
      subst hso
      have hlt' : (j : Int) < (k : Int) := by omega
      go_wp2_with fail
      refine wp_region_noPanic ?_
      refine wp_region_held_drew (S := fun W => AnyB w W b v db none 0 []) (by kernel_rfl) (by obtain ⟨p, hp⟩ := hA; exact ⟨p, hp.grow ((Frm.refl _ _).drew)⟩) (fun hHeld => ?_)
      generalize wr.drew = W1 at *
      clear hA
      refine' wpAnyH_take (i := 0) rfl (by kernel_rfl) (by kernel_rfl) (by kernel_rfl) (fun _ _ _ h => h) (Or.inl ⟨by rfl, ?_⟩) hHeld ?_
      rotate_left
      · intro W hSw
        have hSv : AnyB w W b v db none 0 [] := hSw
        clear hSw
        simp only [List.getElem_toArray, List.getElem_cons_zero, List.getElem_cons_succ]
        go_simp
        all_goals with_reducible rfl
      simp only [List.getElem_toArray, List.getElem_cons_zero, List.getElem_cons_succ, Act.put, List.setIfInBounds_toArray, List.set_cons_zero, List.set_cons_succ]
      refine' wpAnyH_take (i := 1) rfl (by kernel_rfl) (by kernel_rfl) (by kernel_rfl) (fun _ _ _ h => h) (Or.inl ⟨by rfl, ?_⟩) hHeld ?_
      rotate_left
      · intro W hSw
        have hSv : AnyB w W b v db none 0 [] := hSw
        clear hSw
        simp only [List.getElem_toArray, List.getElem_cons_zero, List.getElem_cons_succ]
        go_simp
        all_goals with_reducible rfl
      simp only [List.getElem_toArray, List.getElem_cons_zero, List.getElem_cons_succ, Act.put, List.setIfInBounds_toArray, List.set_cons_zero, List.set_cons_succ]
      refine' wpAnyH_take (i := 2) rfl (by kernel_rfl) (by kernel_rfl) (by kernel_rfl) (fun _ _ _ h => h) (Or.inl ⟨by rfl, ?_⟩) hHeld ?_
      rotate_left
      · intro W hSw
        have hSv : AnyB w W b v db none 0 [] := hSw
        clear hSw
        simp only [List.getElem_toArray, List.getElem_cons_zero, List.getElem_cons_succ]
        go_simp
        all_goals with_reducible rfl
      simp only [List.getElem_toArray, List.getElem_cons_zero, List.getElem_cons_succ, Act.put, List.setIfInBounds_toArray, List.set_cons_zero, List.set_cons_succ]
      refine' wpAnyH_take (i := 3) rfl (by kernel_rfl) (by kernel_rfl) (by kernel_rfl) (fun _ _ _ h => h) (Or.inl ⟨by rfl, ?_⟩) hHeld ?_
      rotate_left
      · intro W hSw
        have hSv : AnyB w W b v db none 0 [] := hSw
        clear hSw
        simp only [List.getElem_toArray, List.getElem_cons_zero, List.getElem_cons_succ]
        go_simp
        all_goals with_reducible rfl
      simp only [List.getElem_toArray, List.getElem_cons_zero, List.getElem_cons_succ, Act.put, List.setIfInBounds_toArray, List.set_cons_zero, List.set_cons_succ]
      refine' wpAnyH_take (i := 4) rfl (by kernel_rfl) (by kernel_rfl) (by kernel_rfl) (fun _ _ _ h => h) (Or.inl ⟨by rfl, ?_⟩) hHeld ?_
      rotate_left
      · intro W hSw
        have hSv : AnyB w W b v db none 0 [] := hSw
        clear hSw
        simp only [List.getElem_toArray, List.getElem_cons_zero, List.getElem_cons_succ]
        go_simp
        all_goals with_reducible rfl
      simp only [List.getElem_toArray, List.getElem_cons_zero, List.getElem_cons_succ, Act.put, List.setIfInBounds_toArray, List.set_cons_zero, List.set_cons_succ]
      refine' wpAnyH_take (i := 5) rfl (by kernel_rfl) (by kernel_rfl) (by kernel_rfl) (fun _ _ _ h => h) (Or.inl ⟨by rfl, ?_⟩) hHeld ?_
      rotate_left
      · intro W hSw
        have hSv : AnyB w W b v db none 0 [] := hSw
        clear hSw
        have sc1 := hSv.script hsg hk1
        have sc2 := hSv.script hsg hk2
        simp only [List.getElem_toArray, List.getElem_cons_zero, List.getElem_cons_succ]
        go_simp
        all_goals with_reducible rfl
      simp only [List.getElem_toArray, List.getElem_cons_zero, List.getElem_cons_succ, Act.put, List.setIfInBounds_toArray, List.set_cons_zero, List.set_cons_succ]
      refine wpAnyH_ready (rs := [6]) (by kernel_rfl) (by simp) ?_
      refine AllReadyH.cons (o := _) rfl (fun K_ hK_ => ?_) AllReadyH.nil
      simp only [List.getElem_toArray, List.getElem_cons_zero, List.getElem_cons_succ]
      go_simp
      obtain ⟨p, hp⟩ := hHeld
      refine (asks_any b v db none 0 [] p kind num _ hp (by simp) hkb).mono ?_
      rintro e w6 ⟨rfl, ⟨q, hq⟩, _⟩
      refine hK_.out _ _ ⟨q, hq⟩ (fun _ => ?_)
      clear hp
      have hHeld : AnyB w w6 b v db none 0 [] := ⟨q, hq⟩
      clear hK_ K_
      try simp only [Act.put, List.setIfInBounds_toArray, List.set_cons_zero, List.set_cons_succ]
      refine' wpAnyH_take (i := 7) rfl (by kernel_rfl) (by kernel_rfl) (by kernel_rfl) (fun _ _ _ h => h) (Or.inl ⟨by rfl, ?_⟩) hHeld ?_
      rotate_left
      · intro W hSw
        have hSv : AnyB w W b v db none 0 [] := hSw
        clear hSw
        simp only [List.getElem_toArray, List.getElem_cons_zero, List.getElem_cons_succ]
        go_simp
        all_goals with_reducible rfl
      simp only [List.getElem_toArray, List.getElem_cons_zero, List.getElem_cons_succ, Act.put, List.setIfInBounds_toArray, List.set_cons_zero, List.set_cons_succ]
      refine' wpAnyH_take (i := 8) rfl (by kernel_rfl) (by kernel_rfl) (by kernel_rfl) (fun _ _ _ h => h) (Or.inl ⟨by rfl, ?_⟩) hHeld ?_
      rotate_left
      · intro W hSw
        have hSv : AnyB w W b v db none 0 [] := hSw
        clear hSw
        simp only [List.getElem_toArray, List.getElem_cons_zero, List.getElem_cons_succ]
        go_simp
        all_goals with_reducible rfl
      simp only [List.getElem_toArray, List.getElem_cons_zero, List.getElem_cons_succ, Act.put, List.setIfInBounds_toArray, List.set_cons_zero, List.set_cons_succ]
      refine wpAnyH_narrow (T := fun W => Both w W b v db none 0 [] q) (fun W h => ⟨q, h⟩) _ _ _ _ ?_
      clear hHeld
      have hHeld := hq
      have hqle := hq.rd.le
      clear hq
      refine' wpAnyH_take (i := 9) rfl (by kernel_rfl) (by kernel_rfl) (by kernel_rfl) (fun _ _ _ h => h) (Or.inl ⟨by rfl, ?_⟩) hHeld ?_
      rotate_left
      · intro W hSw
        have hSv : Both w W b v db none 0 [] q := hSw
        clear hSw
        simp only [List.getElem_toArray, List.getElem_cons_zero, List.getElem_cons_succ]
        go_simp
        all_goals with_reducible rfl
      simp only [List.getElem_toArray, List.getElem_cons_zero, List.getElem_cons_succ, Act.put, List.setIfInBounds_toArray, List.set_cons_zero, List.set_cons_succ]
      refine' wpAnyH_take (i := 11) rfl (by kernel_rfl) (by kernel_rfl) (by kernel_rfl) (fun _ _ _ h => h) (Or.inl ⟨by rfl, ?_⟩) hHeld ?_
      rotate_left
      · intro W hSw
        have hSv : Both w W b v db none 0 [] q := hSw
        clear hSw
        simp only [List.getElem_toArray, List.getElem_cons_zero, List.getElem_cons_succ]
        go_simp
        all_goals with_reducible rfl
      simp only [List.getElem_toArray, List.getElem_cons_zero, List.getElem_cons_succ, Act.put, List.setIfInBounds_toArray, List.set_cons_zero, List.set_cons_succ]
      refine' wpAnyH_take (i := 12) rfl (by kernel_rfl) (by kernel_rfl) (by kernel_rfl) (fun _ _ _ h => h) (Or.inl ⟨by rfl, ?_⟩) hHeld ?_
      rotate_left
      · intro W hSw
        have hSv : Both w W b v db none 0 [] q := hSw
        clear hSw
        simp only [List.getElem_toArray, List.getElem_cons_zero, List.getElem_cons_succ]
        go_simp
        all_goals with_reducible rfl
      simp only [List.getElem_toArray, List.getElem_cons_zero, List.getElem_cons_succ, Act.put, List.setIfInBounds_toArray, List.set_cons_zero, List.set_cons_succ]
      refine' wpAnyH_take (i := 13) rfl (by kernel_rfl) (by kernel_rfl) (by kernel_rfl) (fun _ _ _ h => h) (Or.inl ⟨by rfl, ?_⟩) hHeld ?_
      rotate_left
      · intro W hSw
        have hSv : Both w W b v db none 0 [] q := hSw
        clear hSw
        simp only [List.getElem_toArray, List.getElem_cons_zero, List.getElem_cons_succ]
        go_simp
        all_goals with_reducible rfl
      simp only [List.getElem_toArray, List.getElem_cons_zero, List.getElem_cons_succ, Act.put, List.setIfInBounds_toArray, List.set_cons_zero, List.set_cons_succ]
      refine' wpAnyH_take (i := 14) rfl (by kernel_rfl) (by kernel_rfl) (by kernel_rfl) (fun _ _ _ h => h) (Or.inl ⟨by rfl, ?_⟩) hHeld ?_
      rotate_left
      · intro W hSw
        have hSv : Both w W b v db none 0 [] q := hSw
        clear hSw
        obtain ⟨sc0, sc1, _⟩ := hSv.rr.cells
        simp only [List.getElem_toArray, List.getElem_cons_zero, List.getElem_cons_succ]
        go_simp
        all_goals with_reducible rfl
      simp only [List.getElem_toArray, List.getElem_cons_zero, List.getElem_cons_succ, Act.put, List.setIfInBounds_toArray, List.set_cons_zero, List.set_cons_succ]
      refine wpAnyH_ready (rs := [10]) (by kernel_rfl) (by simp) ?_
      refine AllReadyH.cons (o := _) rfl (fun K_ hK_ => ?_) AllReadyH.nil
      simp only [List.getElem_toArray, List.getElem_cons_zero, List.getElem_cons_succ]
      go_simp
      refine (rplace_any b v [] q _ hHeld.rd).mono ?_
      rintro e w7 ⟨rfl, rfl⟩
      refine hK_.out _ _ hHeld (fun _ => ?_)
      clear hK_ K_
      try simp only [Act.put, List.setIfInBounds_toArray, List.set_cons_zero, List.set_cons_succ]
      refine' wpAnyH_take (i := 15) rfl (by kernel_rfl) (by kernel_rfl) (by kernel_rfl) (fun _ _ _ h => h) (Or.inl ⟨by rfl, ?_⟩) hHeld ?_
      rotate_left
      · intro W hSw
        have hSv : Both w W b v db none 0 [] q := hSw
        clear hSw
        simp only [List.getElem_toArray, List.getElem_cons_zero, List.getElem_cons_succ]
        go_simp
        all_goals with_reducible rfl
      simp only [List.getElem_toArray, List.getElem_cons_zero, List.getElem_cons_succ, Act.put, List.setIfInBounds_toArray, List.set_cons_zero, List.set_cons_succ]
      refine' wpAnyH_take (i := 16) rfl (by kernel_rfl) (by kernel_rfl) (by kernel_rfl) (fun _ _ _ h => h) (Or.inl ⟨by rfl, ?_⟩) hHeld ?_
      rotate_left
      · intro W hSw
        have hSv : Both w W b v db none 0 [] q := hSw
        clear hSw
        simp only [List.getElem_toArray, List.getElem_cons_zero, List.getElem_cons_succ]
        go_simp
        all_goals with_reducible rfl
      simp only [List.getElem_toArray, List.getElem_cons_zero, List.getElem_cons_succ, Act.put, List.setIfInBounds_toArray, List.set_cons_zero, List.set_cons_succ]
      refine' wpAnyH_take (i := 17) rfl (by kernel_rfl) (by kernel_rfl) (by kernel_rfl) (fun _ _ _ h => h) (Or.inl ⟨by rfl, ?_⟩) hHeld ?_
      rotate_left
      · intro W hSw
        have hSv : Both w W b v db none 0 [] q := hSw
        clear hSw
        simp only [List.getElem_toArray, List.getElem_cons_zero, List.getElem_cons_succ]
        go_simp
        all_goals with_reducible rfl
      simp only [List.getElem_toArray, List.getElem_cons_zero, List.getElem_cons_succ, Act.put, List.setIfInBounds_toArray, List.set_cons_zero, List.set_cons_succ]
      refine' wpAnyH_take (i := 18) rfl (by kernel_rfl) (by kernel_rfl) (by kernel_rfl) (fun _ _ _ h => h) (Or.inl ⟨by rfl, ?_⟩) hHeld ?_
      rotate_left
      · intro W hSw
        have hSv : Both w W b v db none 0 [] q := hSw
        clear hSw
        simp only [List.getElem_toArray, List.getElem_cons_zero, List.getElem_cons_succ]
        go_simp
        all_goals with_reducible rfl
      simp only [List.getElem_toArray, List.getElem_cons_zero, List.getElem_cons_succ, Act.put, List.setIfInBounds_toArray, List.set_cons_zero, List.set_cons_succ]
      refine' wpAnyH_take (i := 20) rfl (by kernel_rfl) (by kernel_rfl) (by kernel_rfl) (fun _ _ _ h => h) (Or.inl ⟨by rfl, ?_⟩) hHeld ?_
      rotate_left
      · intro W hSw
        have hSv : Both w W b v db none 0 [] q := hSw
        clear hSw
        simp only [List.getElem_toArray, List.getElem_cons_zero, List.getElem_cons_succ]
        go_simp
        all_goals with_reducible rfl
      simp only [List.getElem_toArray, List.getElem_cons_zero, List.getElem_cons_succ, Act.put, List.setIfInBounds_toArray, List.set_cons_zero, List.set_cons_succ]
      refine wpAnyH_ready (rs := [19]) (by kernel_rfl) (by simp) ?_
      refine AllReadyH.cons (o := _) rfl (fun K_ hK_ => ?_) AllReadyH.nil
      simp only [List.getElem_toArray, List.getElem_cons_zero, List.getElem_cons_succ]
      go_simp
      refine (rleft_any b v [] q _ hHeld.rd (by simp)).mono ?_
      rintro e w7 ⟨rfl, m1, rfl⟩
      have hH2 := hHeld.grow ((Frm.refl _ _).drewN m1)
      refine hK_.out _ _ hH2 (fun _ => ?_)
      clear hHeld
      have hHeld := hH2
      clear hK_ K_ hH2
      try simp only [Act.put, List.setIfInBounds_toArray, List.set_cons_zero, List.set_cons_succ]
      refine wpAnyH_ready (rs := [21]) (by kernel_rfl) (by simp) ?_
      refine AllReadyH.cons (o := _) rfl (fun K_ hK_ => ?_) AllReadyH.nil
      simp only [List.getElem_toArray, List.getElem_cons_zero, List.getElem_cons_succ]
      go_simp
      refine (refLeft_any db none 0 [] q _ hHeld.rr (by simp)).mono ?_
      rintro e w8 ⟨rfl, m2, rfl⟩
      have hH2 := hHeld.grow ((Frm.refl _ _).drewN m2)
      refine hK_.out _ _ hH2 (fun _ => ?_)
      clear hHeld
      have hHeld := hH2
      clear hK_ K_ hH2
      try simp only [Act.put, List.setIfInBounds_toArray, List.set_cons_zero, List.set_cons_succ]
      refine' wpAnyH_take (i := 22) rfl (by kernel_rfl) (by kernel_rfl) (by kernel_rfl) (fun _ _ _ h => h) (Or.inl ⟨by rfl, ?_⟩) hHeld ?_
      rotate_left
      · intro W hSw
        have hSv : Both w W b v db none 0 [] q := hSw
        clear hSw
        simp only [List.getElem_toArray, List.getElem_cons_zero, List.getElem_cons_succ]
        go_simp
        all_goals with_reducible rfl
      simp only [List.getElem_toArray, List.getElem_cons_zero, List.getElem_cons_succ, Act.put, List.setIfInBounds_toArray, List.set_cons_zero, List.set_cons_succ]
      refine' wpAnyH_take (i := 23) rfl (by kernel_rfl) (by kernel_rfl) (by kernel_rfl) (fun _ _ _ h => h) (Or.inl ⟨by rfl, ?_⟩) hHeld ?_
      rotate_left
      · intro W hSw
        have hSv : Both w W b v db none 0 [] q := hSw
        clear hSw
        simp only [List.getElem_toArray, List.getElem_cons_zero, List.getElem_cons_succ]
        go_simp
        all_goals with_reducible rfl
      simp only [List.getElem_toArray, List.getElem_cons_zero, List.getElem_cons_succ, Act.put, List.setIfInBounds_toArray, List.set_cons_zero, List.set_cons_succ]
      refine wpAnyH_done (by kernel_rfl) ?_ _
      refine NoPanic.normal ?_
      have hA2 : AnyB w _ b v db none 0 [] := ⟨q, hHeld⟩
      clear hHeld
      generalize (w7.drewN m1).drewN m2 = w10 at *
      go_wp2
      go_roundw
      case rel => exact ⟨j + 1, by omega, by go_num, hA2⟩
      case measure => simp [intOf]; omega
    · obtain rfl : j = k := by omega
      obtain ⟨p, hp⟩ := hA
      have hfr := hp.rr.frm
      clear hp hK hKb
      go_wp2_with fail
      refine (known_any wr).mono ?_
      rintro e w9 ⟨rfl, hf9⟩
      go_wp2
      go_ret
      exact ⟨rfl, hfr.trans hf9 (fun _ _ h => h)⟩

end Go.Proofs.Ytchjkcghaddmhaa
