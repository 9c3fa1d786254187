/- Whose names begin so, in their order. -/
import Derived.Test.YtjkgijfddgppjaaN17
namespace Go.Proofs.Ytjkgijfddgppjaa
open Go.RowKit Go.Shelf Go.Maps Go.Sort

set_option maxRecDepth 100000 in
set_option maxHeartbeats 4000000 in
theorem insertion_nil (fv : Value) (w : World) : Calls Try.prog 76 #[.slice none 0 0, .int .i64 0, .int .i64 0, fv] w fun e w' => e = .returned (.tuple #[]) ∧ w' = w := by
  go_enter Try.func76, Try.ntmps76
  go_wp2_with fail
  refine wp_loop_rounds 1 ?_
  rw [rounds_succ]
  go_wp2
  go_end0
  exact ⟨rfl, rfl⟩

set_option maxRecDepth 100000 in
set_option maxHeartbeats 4000000 in
theorem pdq_nil (fv : Value) (lim : Int) (w : World) : Calls Try.prog 71 #[.slice none 0 0, .int .i64 0, .int .i64 0, .int .i64 lim, fv] w fun e w' => e = .returned (.tuple #[]) ∧ w' = w := by
  have hI := hid (insertion_nil fv)
  go_enter Try.func71, Try.ntmps71
  go_wp2_with fail
  refine wp_loop_rounds 1 ?_
  rw [rounds_succ]
  go_wp2_with fail
  refine (hI.out _).mono ?_
  rintro e w2 ⟨rfl, e2⟩
  rw [e2]
  clear e2 w2
  go_wp2
  first | go_end0 | refine bodyPost_ret (results_none rfl _ _ _) rfl ?_
  exact ⟨rfl, rfl⟩

set_option maxRecDepth 100000 in
set_option maxHeartbeats 4000000 in
theorem len64_zero (w : World) : Calls Try.prog 85 #[.int .u64 0] w fun e w' => e = .returned (.int .i64 0) ∧ w' = w := by
  go_enter Try.func85, Try.ntmps85
  go_wp2
  go_ret
  exact ⟨by first | rfl | kernel_rfl, rfl⟩

set_option maxRecDepth 100000 in
set_option maxHeartbeats 4000000 in
theorem bitlen_zero (w : World) : Calls Try.prog 72 #[.int .u64 0] w fun e w' => e = .returned (.int .i64 0) ∧ w' = w := by
  have h := hid len64_zero
  go_enter Try.func72, Try.ntmps72
  go_wp2_with fail
  refine (h.out _).mono ?_
  rintro e w2 ⟨rfl, e2⟩
  rw [e2]
  clear e2 w2
  go_wp2
  go_ret
  exact ⟨rfl, rfl⟩

set_option maxRecDepth 100000 in
set_option maxHeartbeats 4000000 in
theorem sort_nil (fv : Value) (w : World) : Calls Try.prog 61 #[.slice none 0 0, fv] w fun e w' => e = .returned (.tuple #[]) ∧ w' = w := by
  have h1 := hid bitlen_zero
  have h2 := hid (pdq_nil fv 0)
  go_enter Try.func61, Try.ntmps61
  go_wp2_with fail
  refine (h1.out _).mono ?_
  rintro e w2 ⟨rfl, e2⟩
  rw [e2]
  clear e2 w2
  go_wp2_with fail
  refine (h2.out _).mono ?_
  rintro e w2 ⟨rfl, e2⟩
  rw [e2]
  clear e2 w2
  go_wp2
  go_end0
  exact ⟨rfl, rfl⟩


/-- Whose names begin so, among the first k. -/
def begN (L : List (List UInt8)) (x : List UInt8) (k : Nat) : List Nat := (List.range k).filter (fun n => Lib.hasPrefix (L.getD n []) x)

theorem begN_succ (L : List (List UInt8)) (x : List UInt8) (k : Nat) : begN L x (k + 1) = begN L x k ++ (if Lib.hasPrefix (L.getD k []) x then [k] else []) := by
  unfold begN
  rw [List.range_succ, List.filter_append]
  simp [List.filter_cons]
theorem begN_lt {L : List (List UInt8)} {x : List UInt8} {k n : Nat} (h : n ∈ begN L x k) : n < k := by
  unfold begN at h
  simpa using (List.mem_filter.1 h).1
theorem begN_len (L : List (List UInt8)) (x : List UInt8) (k : Nat) : (begN L x k).length ≤ k := by
  unfold begN
  have := List.length_filter_le (fun n => Lib.hasPrefix (L.getD n []) x) (List.range k)
  simpa using this

/-- The values of numbers. -/
def natsV (N : List Nat) : List Value := N.map (fun n : Nat => Value.int .i64 (n : Int))

theorem info3 : (Try.prog.info? 3).map (fun i => (i.zero, i.size, i.bytes)) = some (some (.int .i64 0), 1, 8) := by kernel_rfl

theorem nats_form {w : World} {B : Nat} {v : Value} {N : List Nat} (h : w.ownsRow B 3 1 v N.length (natsV N)) : (N = [] ∧ v = .slice none 0 0) ∨ ∃ g cap cur, v = .slice (some ⟨g, 0, none⟩) N.length cap ∧ B ≤ g ∧ w.heap[g]? = some (.cells cur 3 (0, 0)) ∧ ∀ i (h : i < N.length), w.cell? ⟨g, i, none⟩ = some (.int .i64 (N[i] : Int)) := by
  rcases h.2 with ⟨rfl, h0⟩ | ⟨g, cap, cur, rfl, h3, h4, h5, h6, h7, h8⟩
  · exact Or.inl ⟨List.eq_nil_of_length_eq_zero h0, rfl⟩
  · refine Or.inr ⟨g, cap, cur, rfl, h3, h4, fun i hi => blk_cells h4 ?_⟩
    have h9 : (cur.toList.take (N.length * 1))[i]? = (natsV N)[i]? := by rw [h8]
    rw [List.getElem?_take_of_lt (by omega)] at h9
    simpa [natsV, hi] using h9

theorem nats_slice {w : World} {B : Nat} {v : Value} {N : List Nat} (h : w.ownsRow B 3 1 v N.length (natsV N)) : ∃ ar cr, v = .slice ar N.length cr := by
  rcases nats_form h with ⟨h1, rfl⟩ | ⟨g', c', _, rfl, _⟩
  · exact ⟨none, 0, by rw [h1]; rfl⟩
  · exact ⟨_, _, rfl⟩

/-- Numbers as places of a list. -/
def finsOf (m : Nat) (N : List Nat) (h : ∀ n ∈ N, n < m) : Array (Fin m) := (N.pmap (fun n hn => (⟨n, hn⟩ : Fin m)) h).toArray
theorem finsOf_size {m : Nat} {N : List Nat} (h : ∀ n ∈ N, n < m) : (finsOf m N h).size = N.length := by simp [finsOf]
theorem finsOf_get {m : Nat} {N : List Nat} (h : ∀ n ∈ N, n < m) {i : Nat} (hi : i < (finsOf m N h).size) : (finsOf m N h)[i].val = N[i]'(by rw [finsOf_size] at hi; exact hi) := by simp [finsOf]
theorem finsOf_vals {m : Nat} {N : List Nat} (h : ∀ n ∈ N, n < m) : (finsOf m N h).toList.map Fin.val = N := by
  apply List.ext_getElem
  · simp [finsOf]
  · intro i h1 h2
    simp [finsOf]

/-- What Begins tells, in memory of its own. -/
def ListOf (w w' : World) (v : Value) (R : List Nat) : Prop := ∃ ao cap, v = .slice ao R.length cap ∧ NumsC .i64 w' ao (nums R) ∧ (∀ g o, ao = some ⟨g, o, none⟩ → w.heap.size ≤ g ∧ o = 0 ∧ ∀ i, i < R.length → w'.frozen? ⟨g, i, none⟩ = false)

set_option maxRecDepth 100000 in
set_option maxHeartbeats 4000000 in
theorem tbegins_any (tb mb : Nat) (v : Value) (most : Int) (L : List (List UInt8)) (x : List UInt8) (w : World) (h : Tbl w tb mb v most L) (hL : L.length ≤ 1048576) :
    Calls Try.prog 49 #[.pointer (some ⟨tb, 0, none⟩), .string ⟨x.toArray⟩] w fun e w' => ∃ vr R, e = .returned vr ∧ InOrd L (begN L x L.length) R ∧ ListOf w w' vr R ∧ Old w w' := by
  obtain ⟨i3, hi, hz0, hz1, hz2⟩ := info_parts info3
  obtain ⟨ao, cap, hv⟩ := h.form
  have c1 := h.cell1
  rw [hv] at c1
  have kh := hid h
  have kP := hid (fun y X => Try.strings_HasPrefix ⟨y⟩ ⟨x.toArray⟩ X)
  obtain ⟨sx, hsx⟩ : ∃ s : ByteArray, (⟨x.toArray⟩ : ByteArray) = s := ⟨_, rfl⟩
  have hts : sx.data.toList = x := by rw [← hsx]
  rw [hsx] at kP ⊢
  rw [hts] at kP
  clear hsx hts h
  have o0 : Old w (w.alloc (.cells #[.pointer (some ⟨tb, 0, none⟩)] 63)) := (Old.refl w).alloc _
  have cb := new_cell w #[.pointer (some ⟨tb, 0, none⟩)] 63 0 _ rfl
  have c1' := o0.cell c1
  have z0 := alloc_size w (.cells #[.pointer (some ⟨tb, 0, none⟩)] 63)
  go_enter Try.func49, Try.ntmps49
  go_wp2_with fail
  obtain ⟨w0, hw0⟩ : ∃ w0, w.alloc (.cells #[.pointer (some ⟨tb, 0, none⟩)] 63) = w0 := ⟨_, rfl⟩
  rw [hw0] at o0 cb c1' z0 ⊢
  have k0 := hid o0
  have kz := hid z0
  have kb := hid cb
  clear hw0 o0 z0 c1 cb
  obtain ⟨s, hs⟩ : ∃ s, w.heap.size = s := ⟨_, rfl⟩
  have ks := hid hs
  rw [hs] at kz kb ⊢
  clear hs c1'
  go_loopw [5, 6, 7, 13] (fun vr _ _ t wr => ∃ k : Nat, k ≤ L.length ∧ t = .int .i64 (k : Int) ∧ wr.ownsRow (s + 1) 3 1 vr (begN L x k).length (natsV (begN L x k)) ∧ (begN L x k = [] → vr = .slice none 0 0) ∧ Below (s + 1) w0 wr) (fun _ _ _ t _ => L.length - (intOf t).toNat)
  case atStart => exact ⟨0, Nat.zero_le _, rfl, ⟨rfl, Or.inl ⟨rfl, rfl⟩⟩, fun _ => rfl, Below.refl _ _⟩
  case round =>
    obtain ⟨k, hk, rfl, hrow, hem, hB⟩ := hrel
    have hsz := hB.size
    have hln := begN_len L x k
    have kB := hid hB
    clear hB
    by_cases hlt : k < L.length
    · obtain ⟨g, cap2, hv2, ci⟩ := kh.out.nth hlt
      rw [hv] at hv2
      simp only [Value.slice.injEq, true_and] at hv2
      obtain ⟨rfl, rfl⟩ := hv2
      have hgl : g < s + 1 := by
        have := World.block_lt_of_cell? w _ ci
        have := ks.out
        simp only at *
        omega
      have cw : wr.cell? ⟨g, k, none⟩ = some (.string ⟨(L[k]).toArray⟩) := by
        rw [kB.out.cell (p := ⟨g, k, none⟩) hgl]
        exact k0.out.cell ci
      have hk' : (k : Int) < (L.length : Int) := by omega
      have kp := hid (kP.out (L[k]).toArray)
      simp only at kp
      have hG := hid (begN_succ L x k)
      rw [getD_at hlt] at hG
      clear ci
      generalize L[k] = y at *
      cases hp : Lib.hasPrefix y x
      · rw [hp] at kp hG
        go_wp2_with fail
        refine (kp.out _).mono ?_
        rintro e w' ⟨rfl, e1⟩
        rw [e1]
        clear e1 w'
        go_wp2_with fail
        go_roundw
        case rel =>
          refine ⟨k + 1, by omega, by go_num, ?_, ?_, kB.out⟩
          · rw [hG.out]
            simpa using hrow
          · rw [hG.out]
            simpa using hem
        case measure => simp [intOf]; omega
      · rw [hp] at kp hG
        go_wp2_with fail
        refine (kp.out _).mono ?_
        rintro e w' ⟨rfl, e1⟩
        rw [e1]
        clear e1 w'
        obtain ⟨ar, cr, rfl⟩ := nats_slice hrow
        generalize begN L x k = N at *
        go_wp2_with (at_builtin; refine wpList_append_lies _ rfl _ _ 53 rfl (s + 1) 3 i3 (.int .i64 0) 1 8 Try.underlying53 hi hz0 hz1 hz2 rfl (by decide) _ _ _ rfl (hrow.alloc _) ⟨wr.heap.size, 0, none⟩ 1 1 [.int .i64 (k : Int)] rfl rfl ?c1 ?c2 (by decide) ?c3 ?c4 ?c5 _ rfl ?_)
        case c1 =>
          intro j u hj
          match j, hj with
          | 0, hj => simp at hj; subst hj; simp [Addr.add]
        case c2 => intro u hu; simp at hu; subst hu; rfl
        case c3 => unfold maxLen; omega
        case c4 => omega
        case c5 => have := kz.out; simp; omega
        intro g2 cap' w2 hown2 hgrow hat hlt'
        have hb3 : Hid (Below (s + 1) w0 w2) := ((kB.out.alloc (by have := kz.out; omega) _).grown hgrow (by have := kz.out; simp; omega) (fun k hk => (hrow.lt k hk).1))
        have ko := hid hown2
        clear hown2 hgrow hat
        go_wp2_with fail
        go_roundw
        case rel =>
          refine ⟨k + 1, by omega, by go_num, ?_, ?_, hb3.out⟩
          · rw [hG.out]
            simp only [if_true]
            rw [List.length_append]
            have : natsV (N ++ [k]) = natsV N ++ [.int .i64 (k : Int)] := by simp [natsV]
            rw [this]
            exact ko.out
          · rw [hG.out]
            simp
        case measure => simp [intOf]; omega
    · obtain rfl : k = L.length := by omega
      have hN : ∀ n ∈ begN L x L.length, n < L.length := fun n hn => begN_lt hn
      obtain ⟨N, hNe⟩ : ∃ N, begN L x L.length = N := ⟨_, rfl⟩
      rw [hNe] at hN hrow hem hln
      have hz := kz.out
      have hs0 := ks.out
      rcases nats_form hrow with ⟨rfl, rfl⟩ | ⟨g2, cr, cur, rfl, hg2, hgb, hcs⟩
      · go_wp2_with fail
        refine (sort_nil _ _).mono ?_
        rintro e w' ⟨rfl, e1⟩
        rw [e1]
        clear e1 w'
        go_wp2_with fail
        go_ret
        refine ⟨.slice none 0 0, [], rfl, by rw [hNe]; exact ⟨List.Perm.refl _, List.Pairwise.nil⟩, ⟨none, 0, rfl, fun i hi => by simp [nums] at hi, fun _ _ h => by cases h⟩, ?_⟩
        exact k0.out.trans (Old.of_below (by rw [hz]; exact kB.out))
      · have hpos : 0 < N.length ∨ N = [] := by cases N <;> simp
        rcases hpos with hpos | rfl
        · have hL0 : 0 < L.length := by
            cases N with
            | nil => simp at hpos
            | cons n _ => have := hN n (by simp); omega
          obtain ⟨g, cap2, hv2, ci0⟩ := kh.out.nth hL0
          rw [hv] at hv2
          simp only [Value.slice.injEq, true_and] at hv2
          obtain ⟨rfl, rfl⟩ := hv2
          have hgl : g < s := by
            have := World.block_lt_of_cell? w _ ci0
            simp only at this
            omega
          have htl : tb < s := by have := blk_lt kh.out.blk; omega
          have hws : Old w wr := k0.out.trans (Old.of_below (by rw [hz]; exact kB.out))
          have hsort := sort_names L (finsOf L.length N hN) (by rw [finsOf_size]; exact hpos) (by rw [finsOf_size]; omega) s tb g cap g2 cr wr
            (by rw [kB.out.cell (p := ⟨s, 0, none⟩) (by simp only; omega)]; exact kb.out)
            (by rw [← hv]; exact hws.cell kh.out.cell1)
            (fun i hi => by
              obtain ⟨g', c', hv', ci⟩ := kh.out.nth hi
              rw [hv] at hv'
              simp only [Value.slice.injEq, Option.some.injEq, Addr.mk.injEq, and_true, true_and] at hv'
              obtain ⟨rfl, rfl⟩ := hv'
              exact hws.cell ci)
            (by omega) (by omega) (by omega) (blk_lt hgb) (fun i hi => by
              have hi' : i < N.length := by rw [finsOf_size] at hi; exact hi
              refine ⟨?_, blk_fz hgb i⟩
              rw [finsOf_get]
              exact hcs i hi')
          rw [finsOf_size, finsOf_vals] at hsort
          have ksort := hid hsort
          have kw := hid hws
          have kg := hid hgb
          clear hsort hws hgb hcs
          go_wp2_with fail
          refine ksort.out.mono ?_
          rintro e w' ⟨rfl, R, hR, hnum, hfz, hfr⟩
          have hl : R.length = N.length := hR.1.length_eq
          have kR := hid hR
          have kn := hid hnum
          have kf := hid hfr
          have kfz := hid hfz
          clear hR hnum hfr hfz ksort
          go_wp2_with fail
          go_ret
          refine ⟨.slice (some ⟨g2, 0, none⟩) N.length cr, R, rfl, by rw [hNe]; exact kR.out, ⟨some ⟨g2, 0, none⟩, cr, by rw [hl], kn.out, ?_⟩, ?_⟩
          · intro g' o' e
            simp only [Option.some.injEq, Addr.mk.injEq, and_true] at e
            obtain ⟨rfl, rfl⟩ := e
            exact ⟨by omega, rfl, kfz.out⟩
          · exact Frm.trans (S := fun _ => False) kw.out kf.out (fun i hi h => by omega)
        · exact absurd (hem rfl) (by simp)
end Go.Proofs.Ytjkgijfddgppjaa
