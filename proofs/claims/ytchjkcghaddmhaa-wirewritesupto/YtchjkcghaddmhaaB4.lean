/- A list of numbers is written out of a copy, which stays. -/
import Derived.Test.YtchjkcghaddmhaaB3
namespace Go.Proofs.Ytchjkcghaddmhaa
open Go.RowKit

def u64s (L : List Nat) : List Value := L.map (fun (n : Nat) => Value.int .u64 (n : Int))

theorem WrOut.drewN {w w' : World} {b : Nat} {r : Option Nat} {ys : List UInt8} (h : WrOut w b r ys w') (n : Nat) : WrOut w b r ys (w'.drewN n) := by
  obtain ⟨r1, h1, h2, h3⟩ := h
  exact ⟨r1, h1.kept (S := fun _ => False) ((Frm.refl _ _).drewN n) (fun h => h) (fun _ _ h => h), h2.drewN n, h3⟩

/-- The copy of a list, one number longer, in memory of its own. -/
structure Cp (w w2 : World) (box : Obj) (g cap2 : Nat) (L : List Nat) : Prop where
  frm : Frm (fun _ => False) w w2
  bx : w2.heap[w.heap.size]? = some box
  gb : w.heap.size < g
  gs : g < w2.heap.size
  cap : L.length + 1 ≤ cap2
  cell : ∀ i (h : i < L.length), w2.cell? ⟨g, i, none⟩ = some (.int .u64 (L[i] : Int))
  last : w2.cell? ⟨g, L.length, none⟩ = some (.int .u64 771)

theorem cp_of {w w1 w2 : World} {box o : Obj} {v1 v2 : Value} {L : List Nat} {n : Nat} (hg1 : (w.alloc box).grownBy w1 none) (h1 : w1.ownsRow (w.heap.size + 1) 32 1 v1 L.length (u64s L))
    (hg2 : (w1.alloc o).grownBy w2 v1.ownBlock) (hn : n = L.length + 1) (h2 : w2.ownsRow (w.heap.size + 1) 32 1 v2 n (u64s L ++ [.int .u64 771])) :
    ∃ g cap2, v2 = .slice (some ⟨g, 0, none⟩) (L.length + 1) cap2 ∧ Cp w w2 box g cap2 L := by
  subst hn
  have hl := h1.lt
  have hs1 := hg1.size
  have hs2 := hg2.size
  simp at hs1 hs2
  rcases h2.2 with ⟨_, h0⟩ | ⟨g, cap2, cur, rfl, hb, hg, hnc, _⟩
  · omega
  have hc := h2.cells (g := g) rfl
  have hfr : Frm (fun _ => False) w w2 := (((((Frm.refl _ w).alloc box).grown hg1 (fun k e => by cases e)).alloc o).grown hg2 (fun k e => .inl (by have := hl k e; omega)))
  refine ⟨g, cap2, rfl, hfr, ?_, by omega, (Array.getElem?_eq_some_iff.1 hg).1, hnc, ?_, ?_⟩
  · rw [hg2.block w.heap.size (by simp; omega) (fun e => by have := hl _ e.symm; omega), Below.heap_alloc _ _ _ (by omega), hg1.block w.heap.size (by simp) (by simp)]
    exact heap_alloc_new w box
  · intro i hi
    have := hc i (.int .u64 (L[i] : Int)) (by rw [List.getElem?_append_left (by simp [u64s]; omega)]; simp [u64s, hi])
    rw [Addr.add_lit, Nat.zero_add] at this
    exact this
  · have := hc L.length (.int .u64 771) (by rw [List.getElem?_append_right (by simp [u64s])]; simp [u64s])
    rw [Addr.add_lit, Nat.zero_add] at this
    exact this

theorem Cp.nums {w w2 : World} {box : Obj} {g cap2 : Nat} {L : List Nat} {b : Nat} {r : Option Nat} {xs : List UInt8} (h : Cp w w2 box g cap2 L) (hw : Wr w b r xs) : Nums w2 (some ⟨g, 0, none⟩) L (WrS b r) := by
  intro i hi
  have h1 := hw.lt
  have h2 := hw.row
  have h3 := h.gb
  refine ⟨g, 0, rfl, h.gs, ?_, by rw [Nat.zero_add]; exact h.cell i hi⟩
  rintro (e | e)
  · omega
  · have := h2 g e.symm; omega

/-- The copy stays, while the writer writes. -/
theorem Cp.kept {w w2 w3 : World} {box : Obj} {g cap2 : Nat} {L : List Nat} {b : Nat} {r : Option Nat} {xs : List UInt8} (h : Cp w w2 box g cap2 L) (hw : Wr w b r xs) (hf : Frm (WrS b r) w2 w3) :
    w3.heap[w.heap.size]? = some box ∧ NumsC w3 (some ⟨g, 0, none⟩) (L.map (fun (n : Nat) => (n : Int))) ∧ w3.cell? ⟨g, L.length, none⟩ = some (.int .u64 771) := by
  have h1 := hw.lt
  have h2 := hw.row
  have h3 := h.gb
  have hs := h.frm.size
  have hgs := h.gs
  have hg : w3.heap[g]? = w2.heap[g]? := hf.block g h.gs (by
    rintro (e | e)
    · omega
    · have := h2 g e.symm; omega)
  refine ⟨?_, ?_, ?_⟩
  · rw [hf.block _ (by omega) (by
      rintro (e | e)
      · omega
      · have := h2 _ e.symm; omega)]
    exact h.bx
  · intro i hi
    rw [List.length_map] at hi
    refine ⟨g, 0, rfl, ?_⟩
    rw [World.cell?_of_block (w := w2) hg, Nat.zero_add, h.cell i hi, List.getElem_map]
  · rw [World.cell?_of_block (w := w2) hg]; exact h.last

theorem nums_c {w w' : World} {B : Nat} {S : Nat → Prop} {ao : Option Addr} {L : List Nat} (h : NumsB w B ao L) (hB : B ≤ w.heap.size) (hf : Frm S w w') (hS : ∀ g, g < B → ¬ S g) : NumsC w' ao (L.map (fun (n : Nat) => (n : Int))) := by
  intro i hi
  rw [List.length_map] at hi
  obtain ⟨g, o, h1, h2, h3⟩ := h i hi
  refine ⟨g, o, h1, ?_⟩
  rw [World.cell?_of_block (w := w) (hf.block g (show g < w.heap.size by omega) (hS g h2)), h3, List.getElem_map]

theorem box_cell {w w3 : World} {cs : Array Value} {t : TypeId} {i : Nat} {u : Value} (h : w3.heap[w.heap.size]? = some (.cells cs t (0, 0))) (hu : cs[i]? = some u) : w3.cell? ⟨w.heap.size, i, none⟩ = some u := by
  simp [World.cell?, h, hu]

theorem same_len (ao bo : Option Addr) (ca cb n : Nat) (L : List Int) (w : World) (hn : L.length = n) (ha : NumsC w ao L) (hb : NumsC w bo L) (hl : n ≤ 1000000000000) :
    Calls Try.prog 50 #[.slice ao n ca, .slice bo n cb] w fun e w' => e = .returned (.bool true) ∧ ∃ n, w' = w.drewN n := by
  subst hn
  exact same_any ao bo ca cb L w ha hb hl

theorem cells_news {w : World} {B : Nat} {a : Addr} {L : List Nat} (h : NumsB w B (some a) L) (hB : B ≤ w.heap.size) (o : Obj) : ∀ j u, (u64s L)[j]? = some u → (w.alloc o).cell? (a.add j) = some u := by
  intro j u hj
  have hjl : j < L.length := by
    have := (List.getElem?_eq_some_iff.1 hj).1
    simpa [u64s] using this
  obtain ⟨g, o', h1, h2, h3⟩ := h j hjl
  simp only [Option.some.injEq] at h1
  subst h1
  rw [Addr.add_lit, World.cell?_of_block (w := w) (Below.heap_alloc _ _ _ (show g < w.heap.size by omega)), h3]
  simp [u64s, hjl] at hj
  rw [hj]

set_option maxRecDepth 100000 in
set_option maxHeartbeats 2000000 in
theorem puts_6s (b : Nat) (r : Option Nat) (xs : List UInt8) (x : Nat) (s : ByteArray) (a : Addr) (cL : Nat) (L : List Nat) (aT : Option Addr) (cT : Nat) (T : List ByteArray) (w : World) (hw : Wr w b r xs) (B : Nat) (hB : B ≤ b) (hBr : ∀ g, r = some g → B ≤ g) (hN : NumsB w B (some a) L) (hL : ∀ x ∈ L, x < 18446744073709551616) (hs : L.length ≤ 1000000000) (hlen : xs.length ≤ 100000000000) :
    Calls Try.prog 11 #[.pointer (some ⟨b, 0, none⟩), .agg #[.int .i64 6, .int .u64 (x : Int), .string s, .slice (some a) L.length cL, .slice aT T.length cT]] w fun e w' => e = .returned (.bool true) ∧ WrOut w b r (xs ++ (numF L.length ++ numsF L)) w' := by
  obtain ⟨i0, hi0, hz0, hz1, hz2⟩ := info_parts Try.info32
  have hbl := hw.lt
  have hBl : B ≤ w.heap.size := by omega
  have hnw := fun o => cells_news hN hBl o
  go_enter Try.func11, Try.ntmps11
  go_wp2_with (first
    | (at_builtin; refine wpList_append_own _ (by rfl) _ _ 33 (by rfl) (w.heap.size + 1) 32 i0 _ 1 8 Try.underlying33 hi0 hz0 hz1 hz2 rfl (by omega) (.slice none 0 0) 0 [] (by rfl) (World.ownsRow_nil _ _ _ _) a L.length cL (u64s L) (by rfl) (by simp [u64s]) (hnw _) (by intro u hu; simp [u64s] at hu; obtain ⟨_, _, rfl⟩ := hu; rfl) (by unfold maxLen; omega) (by omega) (by simp) ?_; intro v1 w1 hown1 hgrow1 _; rw [Nat.zero_add, List.nil_append] at hown1)
    | (at_builtin; refine wpList_append_own _ (by rfl) _ _ 33 (by rfl) (w.heap.size + 1) 32 i0 _ 1 8 Try.underlying33 hi0 hz0 hz1 hz2 rfl (by omega) v1 L.length (u64s L) (by rfl) (hown1.alloc _) ⟨_, 0, none⟩ 1 1 [.int .u64 771] (by rfl) (by rfl) (World.news_of_block (cs := #[.int .u64 771]) (t := 32) (fr := (0, 0)) (heap_alloc_new _ _)) (by simp [Value.oneCell']) (by unfold maxLen; omega) (by omega) (by have := hgrow1.size; simp at this ⊢; omega) ?_; intro v2 w2 hown2 hgrow2 _; obtain ⟨g, cap2, rfl, hcp⟩ := cp_of hgrow1 hown1 hgrow2 (by rfl) hown2; clear hown2 hgrow2; have hb3 := box_cell (i := 3) hcp.bx (by rfl); have hc2 := hcp.cap)
    | fail)
  have hw2 := hw.kept hcp.frm (fun h => h) (fun _ _ h => h)
  have hfr := hcp.frm
  have hnm := hcp.nums hw
  refine (wlist_any b r xs _ cap2 L _ hw2 hnm hL (by omega)).mono ?_
  rintro e w3 ⟨rfl, ho⟩
  obtain ⟨r3, hw3, hf3, hr3⟩ := ho
  obtain ⟨hbx, hnc, hlast⟩ := hcp.kept hw hf3
  have hb33 := box_cell (i := 3) hbx (by rfl)
  have hfin : Hid (WrOut w b r (xs ++ (numF L.length ++ numsF L)) w3) := by
    show WrOut w b r (xs ++ (numF L.length ++ numsF L)) w3
    rw [← List.append_assoc]
    exact WrOut.next (hfr.mono (fun _ _ h => h.elim)) (.inl rfl) ⟨r3, hw3, hf3, hr3⟩
  have hnc2 := nums_c hN hBl ((hfr.mono (T := WrS b r) (fun _ _ h => h.elim)).trans hf3 (fun _ _ h => h)) (fun k hk => by
    rintro (e | e)
    · omega
    · have := hBr k e.symm; omega)
  clear hcp hw2 hnm
  go_wp2_with fail
  refine (num_any 0 _).mono ?_
  rintro e w4 ⟨rfl, rfl⟩
  go_wp2_with fail
  go_quiet ((go_at_call 50; exact Calls.quiet_of (same_len (some ⟨g, 0, none⟩) (some a) cap2 cL L.length (L.map (fun (n : Nat) => (n : Int))) _ (by simp) (hnc.drewN _) (hnc2.drewN _) (by omega))))
  go_wp2
  go_ret
  exact ⟨rfl, hfin.out.drewN _⟩

set_option maxRecDepth 100000 in
set_option maxHeartbeats 2000000 in
theorem puts_6n (b : Nat) (r : Option Nat) (xs : List UInt8) (x : Nat) (s : ByteArray) (aT : Option Addr) (cT : Nat) (T : List ByteArray) (w : World) (hw : Wr w b r xs) (hlen : xs.length ≤ 100000000000) :
    Calls Try.prog 11 #[.pointer (some ⟨b, 0, none⟩), .agg #[.int .i64 6, .int .u64 (x : Int), .string s, .slice none 0 0, .slice aT T.length cT]] w fun e w' => e = .returned (.bool true) ∧ WrOut w b r (xs ++ (numF 0 ++ numsF [])) w' := by
  obtain ⟨i0, hi0, hz0, hz1, hz2⟩ := info_parts Try.info32
  have hbl := hw.lt
  have hal : ((w.alloc (.cells #[.int .i64 6, .int .u64 (x : Int), .string s, .slice none 0 0, .slice aT T.length cT] 36)).alloc (.cells #[.int .u64 771] 32)).heap[w.heap.size + 1]? = some (.cells #[.int .u64 771] 32) := by
    have h := heap_alloc_new (w.alloc (.cells #[.int .i64 6, .int .u64 (x : Int), .string s, .slice none 0 0, .slice aT T.length cT] 36)) (.cells #[.int .u64 771] 32)
    simpa using h
  go_enter Try.func11, Try.ntmps11
  go_wp2_with (first
    | (at_builtin; refine wpList_append_own_none (by rfl) _ _ 33 (by rfl) (w.heap.size + 1) 32 i0 1 Try.underlying33 hi0 (.slice none 0 0) 0 [] (by rfl) (World.ownsRow_nil _ _ _ _) (by rfl) ?_)
    | (at_builtin; refine wpList_append_own _ (by rfl) _ _ 33 (by rfl) (w.heap.size + 1) 32 i0 _ 1 8 Try.underlying33 hi0 hz0 hz1 hz2 rfl (by omega) (.slice none 0 0) 0 [] (by rfl) (World.ownsRow_nil _ _ _ _) ⟨w.heap.size + 1, 0, none⟩ 1 1 [.int .u64 771] (by rfl) (by rfl) (World.news_of_block (cs := #[.int .u64 771]) (t := 32) (fr := (0, 0)) hal) (by simp [Value.oneCell']) (by unfold maxLen; omega) (by omega) (by simp) ?_; intro v2 w2 hown2 hgrow2 _; obtain ⟨g, cap2, rfl, hcp⟩ := cp_of (L := []) (v1 := .slice none 0 0) ⟨rfl, rfl, rfl, Nat.le_refl _, fun _ _ _ => rfl⟩ (World.ownsRow_nil _ _ _ _) hgrow2 (by rfl) hown2; clear hown2 hgrow2; have hb3 := box_cell (i := 3) hcp.bx (by rfl); have hc2 := hcp.cap)
    | fail)
  have hw2 := hw.kept hcp.frm (fun h => h) (fun _ _ h => h)
  have hfr := hcp.frm
  have hnm := hcp.nums hw
  refine (wlist_any b r xs _ cap2 [] _ hw2 hnm (by simp) (by simp; omega)).mono ?_
  rintro e w3 ⟨rfl, ho⟩
  obtain ⟨r3, hw3, hf3, hr3⟩ := ho
  obtain ⟨hbx, hnc, hlast⟩ := hcp.kept hw hf3
  have hb33 := box_cell (i := 3) hbx (by rfl)
  have hfin : Hid (WrOut w b r (xs ++ (numF 0 ++ numsF [])) w3) := by
    show WrOut w b r (xs ++ (numF 0 ++ numsF [])) w3
    rw [← List.append_assoc]
    exact WrOut.next (hfr.mono (fun _ _ h => h.elim)) (.inl rfl) ⟨r3, hw3, hf3, hr3⟩
  have hnc2 : NumsC w3 none [] := fun i hi => by simp at hi
  rw [List.length_nil] at hlast
  clear hcp hw2 hnm
  go_wp2_with fail
  refine (num_any 0 _).mono ?_
  rintro e w4 ⟨rfl, rfl⟩
  go_wp2_with fail
  go_quiet ((go_at_call 50; exact Calls.quiet_of (same_len (some ⟨g, 0, none⟩) none cap2 0 0 [] _ (by simp) (hnc.drewN _) (hnc2.drewN _) (by omega))))
  go_wp2
  go_ret
  exact ⟨rfl, hfin.out.drewN _⟩

/-- It is written, whatever it is. -/
theorem puts_any (b : Nat) (r : Option Nat) (xs : List UInt8) (p : PutV) (w : World) (hw : Wr w b r xs) (B : Nat) (hB : B ≤ b) (hBr : ∀ g, r = some g → B ≤ g) (hp : p.In w B) (hlen : xs.length ≤ 100000000000) :
    Calls Try.prog 11 #[.pointer (some ⟨b, 0, none⟩), .agg p.cells] w fun e w' => e = .returned (.bool true) ∧ WrOut w b r (xs ++ putF p) w' := by
  have hsz := hp.size
  by_cases k1 : p.kind = 1
  · exact puts_1 b r xs p w hw k1 hp.x hlen
  by_cases k2 : p.kind = 2
  · exact puts_2 b r xs p w hw k2 hp.x hlen
  by_cases k3 : p.kind = 3
  · by_cases ho : p.x % 2 = 1
    · exact puts_3true b r xs p w hw k3 ho hlen
    · exact puts_3false b r xs p w hw k3 ho hlen
  by_cases k4 : p.kind = 4
  · exact puts_4 b r xs p w hw k4 hlen
  by_cases k5 : p.kind = 5
  · exact puts_5 b r xs p w hw k5 (by omega) hlen
  by_cases k6 : p.kind = 6
  · rw [show putF p = numF p.L.length ++ numsF p.L from by unfold putF; rw [if_neg k1, if_neg k2, if_neg k3, if_neg k4, if_neg k5, if_pos k6]]
    have hN := hp.nums
    have hL := hp.L
    have hnil := hp.nil
    clear hp
    obtain ⟨kind, x, s, aL, cL, L, aT, cT, T⟩ := p
    dsimp only [PutV.cells] at *
    subst k6
    cases aL with
    | none =>
      obtain rfl : L = [] := by
        cases L with
        | nil => rfl
        | cons x L => obtain ⟨g, o, h, _⟩ := hN 0 (by simp); simp at h
      obtain rfl := hnil rfl
      exact puts_6n b r xs x s aT cT T w hw hlen
    | some a => exact puts_6s b r xs x s a cL L aT cT T w hw B hB hBr hN hL (by omega) hlen
  by_cases k7 : p.kind = 7
  · exact puts_7 b r xs p w hw B hB hBr k7 hp.texts (by omega) hlen
  exact puts_0 b r xs p w hw k1 k2 k3 k4 k5 k6 k7

end Go.Proofs.Ytchjkcghaddmhaa
