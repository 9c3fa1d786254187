/- NamesThere, walked: the names come. -/
import Derived.Test.YtjkgijfddgppjaaN21
import Derived.Test.YtjkgijfddgppjaaN11
namespace Go.Proofs.Ytjkgijfddgppjaa
open Go.RowKit Go.Sort

/-- The table of a run that began in w. -/
structure TS (w wr : World) (v : Value) (most : Int) (L : List (List UInt8)) : Prop where
  t : Nms wr (w.heap.size + 2) (w.heap.size + 1) w.heap.size v most L
  good : Good L
  old : Old w wr
  own : ∀ k, v.ownBlock = some k → w.heap.size ≤ k

theorem TS.step {w wr wr' : World} {v : Value} {most : Int} {L : List (List UInt8)} (h : TS w wr v most L) (o : Old wr wr') : TS w wr' v most L := ⟨h.t.old o, h.good, h.old.trans o, h.own⟩

theorem ref_good {L : List (List UInt8)} {most : Int} {x : List UInt8} (h : refZ L most x = 0) : x ∉ L ∧ 1 ≤ x.length ∧ x.length ≤ 64 ∧ (L.length : Int) < most := by
  unfold refZ at h
  split at h
  · omega
  · split at h
    · omega
    · split at h
      · omega
      · rename_i h1 h2 h3
        have : chkZ x = 0 := by simpa using h1
        unfold chkZ at this
        split at this
        · exact ⟨h2, by omega, by omega, by omega⟩
        · omega

theorem TS.add {w wr wr' : World} {v v' : Value} {most : Int} {L : List (List UInt8)} {x : List UInt8} (h : TS w wr v most L) (hr : refZ L most x = 0) (ht : Nms wr' (w.heap.size + 2) (w.heap.size + 1) w.heap.size v' most (L ++ [x])) (hf : Frm (fun k => k = w.heap.size + 1 ∨ k = w.heap.size ∨ v.ownBlock = some k) wr wr') (hv : ∀ k, v'.ownBlock = some k → v.ownBlock = some k ∨ wr.heap.size ≤ k) : TS w wr' v' most (L ++ [x]) := by
  obtain ⟨h1, h2, h3, _⟩ := ref_good hr
  refine ⟨ht, h.good.snoc h1 h2 h3, ?_, fun k hk => ?_⟩
  · exact Frm.trans h.old hf (fun i hi hh => by
      rcases hh with e | e | e
      · omega
      · omega
      · have := h.own i e; omega)
  · rcases hv k hk with e | e
    · exact h.own k e
    · have := h.old.size; omega

/-- A list of texts. -/
def StrsC (w : World) (ao : Option Addr) (Ls : List (List UInt8)) : Prop := ∀ i (h : i < Ls.length), ∃ g o, ao = some ⟨g, o, none⟩ ∧ w.cell? ⟨g, o + i, none⟩ = some (.string ⟨(Ls[i]).toArray⟩)

theorem run_to (x : List UInt8) (k : Nat) (h : k ≤ x.length) (W : World) : (Instr.slice 9 (.string ⟨x.toArray⟩) none (some (.int .i64 (k : Int))) none).run Try.prog W = .ok (.string ⟨(x.take k).toArray⟩) W := by
  have hz : (⟨x.toArray⟩ : ByteArray).size = x.length := by simp [ByteArray.size]
  rw [run_slice_string_to_if _ _ _ _ _ Try.underlying9, if_pos ⟨by omega, by rw [hz]; omega⟩]
  rw [ByteArray.extract_mk]
  simp


theorem idx_at {L : List (List UInt8)} (h : Good L) {k : Nat} (hk : k < L.length) : idx L (L.getD k []) = some k := by
  rw [getD_at hk]
  unfold idx
  rw [if_pos (List.getElem_mem hk)]
  congr 1
  refine nodup_inj h.nd (List.idxOf_lt_length_of_mem (List.getElem_mem hk)) hk ?_
  simp

set_option maxRecDepth 100000 in
set_option maxHeartbeats 1000000 in
theorem there_any (ao : Option Addr) (cap : Nat) (Ls : List (List UInt8)) (w : World) (ha : StrsC w ao Ls) (hl : Ls.length ≤ 9223372036854775807) :
    Calls Try.prog 5 #[.slice ao Ls.length cap] w fun e w' => e = .returned (.bool true) ∧ Old w w' := by
  have k3 := hid known_any
  by_cases h60 : Ls.length ≤ 60
  · have kN := hid (new_good (Ls.length : Int) w ⟨by omega, by omega⟩)
    have kA := hid ha
    clear ha
    go_enter Try.func5, Try.ntmps5
    go_wp2_with fail
    refine kN.out.mono ?_
    rintro e w1 ⟨rfl, o1, n1, z1⟩
    have kT : Hid (TS w w1 (.slice none 0 0) (Ls.length : Int) []) := ⟨n1, Good.nil, o1, fun k hk => by simp [Value.ownBlock] at hk⟩
    clear o1 n1 z1 kN
    obtain ⟨s, hs⟩ : ∃ s, w.heap.size = s := ⟨_, rfl⟩
    have ks := hid hs
    rw [hs]
    clear hs
    go_wp2_with fail
    go_loopw [5] (fun t wr => ∃ (i : Nat) (L : List (List UInt8)) (v : Value), i ≤ Ls.length ∧ L.length ≤ i ∧ t = .int .i64 (i : Int) ∧ Hid (TS w wr v (Ls.length : Int) L)) (fun t _ => Ls.length - (intOf t).toNat)
    case atStart => exact ⟨0, [], _, Nat.zero_le _, Nat.le_refl _, rfl, kT⟩
    case round =>
      obtain ⟨i, L, v, hi, hLi, rfl, hT⟩ := hrel
      clear kT
      have kL := hid (len_any _ _ _ _ _ _ wr hT.out.t)
      rw [ks.out] at kL
      by_cases hlt : i < Ls.length
      · obtain ⟨g, o, rfl, ci⟩ := kA.out i hlt
        have ci := hT.out.old.cell ci
        have hi' : (i : Int) < (Ls.length : Int) := by omega
        obtain ⟨x, hx⟩ : ∃ x, Ls[i] = x := ⟨_, rfl⟩
        rw [hx] at ci
        clear hx
        by_cases hr : refZ L (Ls.length : Int) x = 0
        · have kG := hid (add_good _ _ _ _ _ _ x wr hT.out.t (by omega) hr)
          rw [ks.out] at kG
          go_wp2_with fail
          refine kL.out.mono ?_
          rintro e w' ⟨rfl, e1⟩
          rw [e1]
          clear e1 w'
          go_wp2_with fail
          refine kG.out.mono ?_
          rintro e w2 ⟨rfl, v', h2, f2, q2⟩
          have kT2 : Hid (TS w w2 v' (Ls.length : Int) (L ++ [x])) := hT.out.add hr (by rw [ks.out]; exact h2) (by rw [ks.out]; exact f2) q2
          clear h2 f2 q2 kG kL hT
          go_wp2_with fail
          go_roundw
          case rel => exact ⟨i + 1, L ++ [x], v', by omega, by simp; omega, by go_num, kT2⟩
          case measure => simp [intOf]; omega
        · have kG := hid (add_bad _ _ _ _ _ _ x wr hT.out.t (by omega) hr)
          rw [ks.out] at kG
          have hne : (refZ L (Ls.length : Int) x != 0) = true := by simpa using hr
          clear hr
          generalize refZ L (Ls.length : Int) x = r at *
          go_wp2_with fail
          refine kL.out.mono ?_
          rintro e w' ⟨rfl, e1⟩
          rw [e1]
          clear e1 w'
          go_wp2_with fail
          refine kG.out.mono ?_
          rintro e w2 ⟨rfl, o2⟩
          have kT2 := hid (hT.out.step o2)
          have kL2 := hid (len_any _ _ _ _ _ _ w2 kT2.out.t)
          rw [ks.out] at kL2
          clear o2 kG kL hT
          go_wp2_with fail
          refine kL2.out.mono ?_
          rintro e w' ⟨rfl, e1⟩
          rw [e1]
          clear e1 w'
          go_wp2_with fail
          go_roundw
          case rel => exact ⟨i + 1, L, v, by omega, by omega, by go_num, kT2⟩
          case measure => simp [intOf]; omega
      · have kS := hid (sorted_any _ _ _ _ _ _ wr hT.out.t (by omega))
        rw [ks.out] at kS
        have hL60 : L.length ≤ 60 := by omega
        go_wp2_with fail
        refine kS.out.mono ?_
        rintro e w2 ⟨vr, R, rfl, hR, hlist, o2⟩
        obtain ⟨rl, rlt, rord⟩ := ord_all hT.out.good hR
        obtain ⟨ar, cr, rfl, hnum, -⟩ := hlist
        rw [rl]
        have kT2 := hid (hT.out.step o2)
        have kR := hid (And.intro rl (And.intro rlt rord))
        have kn := hid hnum
        clear hR hnum o2 kS kL hT rl rlt rord
        have kL2 := hid (len_any _ _ _ _ _ _ w2 kT2.out.t)
        rw [ks.out] at kL2
        go_wp2_with fail
        refine kL2.out.mono ?_
        rintro e w' ⟨rfl, e1⟩
        rw [e1]
        clear e1 w'
        go_wp2_with fail
        clear kL2
        go_loopw [10] (fun t wr => ∃ k : Nat, k ≤ L.length ∧ t = .int .i64 (k : Int) ∧ Hid (Old w2 wr)) (fun t _ => L.length - (intOf t).toNat)
        case atStart => exact ⟨0, Nat.zero_le _, rfl, Old.refl _⟩
        case round =>
          obtain ⟨k, hk, rfl, hO⟩ := hrel
          have kT3 := hid (kT2.out.step hO.out)
          have kL := hid (len_any _ _ _ _ _ _ wr kT3.out.t)
          rw [ks.out] at kL
          by_cases hlt : k < L.length
          · have hx64 := kT3.out.good.hi k
            obtain ⟨x, hx⟩ : ∃ x, L.getD k [] = x := ⟨_, rfl⟩
            have kM := hid (name_good _ _ _ _ _ _ wr kT3.out.t k hlt (by rw [← getD_at hlt]; exact hx64))
            have kI := idx_at kT3.out.good hlt
            rw [ks.out, ← getD_at hlt, hx] at kM
            rw [hx] at kI hx64
            have kI := hid kI
            obtain ⟨sx, hsx⟩ : ∃ q : ByteArray, (⟨x.toArray⟩ : ByteArray) = q := ⟨_, rfl⟩
            have hzx : sx.size = x.length := by rw [← hsx]; simp [ByteArray.size]
            have hts : sx.toList = x := by rw [← hsx]; exact ByteArray.toList_mk x
            have kto := hid (fun d (hd : d ≤ x.length) => run_to x d hd)
            rw [hsx] at kM
            simp only [hsx] at kto
            have hlt' : (k : Int) < (L.length : Int) := by omega
            have kx := hid hx
            clear hx
            go_wp2_with fail
            refine kL.out.mono ?_
            rintro e w' ⟨rfl, e1⟩
            rw [e1]
            clear e1 w'
            go_wp2_with fail
            refine kM.out.mono ?_
            rintro e w3 ⟨rfl, q3⟩
            have kT4 := hid (kT3.out.step q3)
            have kO4 := hid (hO.out.trans q3)
            clear q3 kT3 hO kL kM
            have kF := hid (find_any _ _ _ _ _ _ x w3 kT4.out.t (by have : maxLen = 9223372036854775807 := rfl; omega))
            rw [ks.out, hsx, kI.out] at kF
            simp only [numV, Option.getD_some, Option.isSome_some] at kF
            go_wp2_with fail
            refine kF.out.mono ?_
            rintro e w' ⟨rfl, e1⟩
            rw [e1]
            clear e1 w' kF
            have kH := hid (short_good _ _ _ _ _ _ k w3 kT4.out.t hlt (kT4.out.good.lo k hlt) kT4.out.good.hi (by omega))
            rw [ks.out] at kH
            go_wp2_with fail
            refine kH.out.mono ?_
            rintro e w4 ⟨d, rfl, hsd, q4⟩
            have kT5 := hid (kT4.out.step q4)
            have kO5 := hid (kO4.out.trans q4)
            obtain ⟨d1, d2⟩ := hsd.bnd kT5.out.good hlt
            rw [kx.out] at d2
            have ksd := hid hsd
            clear q4 hsd kT4 kO4 kH
            have hd1 : ((d : Int) < 1) = False := by simp; omega
            have hd2 : ((x.length : Int) < (d : Int)) = False := by simp; omega
            have ht1 := kto.out d d2
            have kB := hid (begins_any _ _ _ _ _ _ (x.take d) w4 kT5.out.t (by omega))
            rw [ks.out] at kB
            go_wp2_with fail
            refine kB.out.mono ?_
            rintro e w5 ⟨vb, Rb, rfl, hRb, hlb, q5⟩
            rw [← kx.out] at hRb
            obtain ⟨rb, hrb, hrest⟩ := ksd.out.beg kT5.out.good hlt hRb
            obtain ⟨ab, cbb, rfl, hnb, -⟩ := hlb
            have kT6 := hid (kT5.out.step q5)
            have kO6 := hid (kO5.out.trans q5)
            obtain ⟨gb, ob, rfl, cb0⟩ := hnb 0 (by rw [hrb]; simp [nums])
            subst hrb
            simp only [nums, List.getElem_map, List.getElem_cons_zero, Nat.add_zero] at cb0
            clear q5 hRb hnb kT5 kO5 kB ht1
            have kun := hid (unsp_good (x := x) (s := spellL x) rfl)
            have kln : Hid ((spellL x).length ≤ 1000) := by
              have := enc_len x
              show (34 :: (x.flatMap encB ++ [34])).length ≤ 1000
              simp only [List.length_cons, List.length_append, List.length_nil]
              omega
            cases rb with
            | nil =>
              clear hrest
              by_cases h1d : 1 < d
              · have hg1 : (1 : Int) < (d : Int) := by omega
                have hw1 : (d : Int) - 1 = ((d - 1 : Nat) : Int) := by omega
                have ht2 : ∀ X, (Instr.slice 9 (.string sx) none (some (.int .i64 ((d : Int) - 1))) none).run Try.prog X = .ok (.string ⟨(x.take (d - 1)).toArray⟩) X := fun X => by
                  rw [hw1]; exact kto.out (d - 1) (by omega) X
                clear hw1
                have kB2 := hid (begins_any _ _ _ _ _ _ (x.take (d - 1)) w5 kT6.out.t (by omega))
                rw [ks.out] at kB2
                go_wp2_with fail
                refine kB2.out.mono ?_
                rintro e w7 ⟨vc, Rc, rfl, hRc, hlc, q7⟩
                rw [← kx.out] at hRc
                have h2 := ksd.out.less hlt h1d hRc
                obtain ⟨ac, cc, rfl, -, -⟩ := hlc
                have kT7 := hid (kT6.out.step q7)
                have kO7 := hid (kO6.out.trans q7)
                generalize Rc.length = nc at *
                have h2' : ((nc : Int) < 2) = False := by simp; omega
                clear q7 hRc kT6 kO6 kB2 ht2
                have kSp := hid (spell_any x w7 (by omega))
                rw [hsx] at kSp
                go_wp2_with fail
                refine kSp.out.mono ?_
                rintro e w8 ⟨rfl, q8⟩
                have kT8 := hid (kT7.out.step q8)
                have kO8 := hid (kO7.out.trans q8)
                clear q8 kSp kT7 kO7
                have kUn := hid (unspell_any (spellL x) w8 (by have := kln.out; omega))
                rw [kun.out] at kUn
                go_wp2_with fail
                refine kUn.out.mono ?_
                rintro e w9 ⟨rfl, q9⟩
                have kT9 := hid (kT8.out.step q9)
                have kO9 := hid (kO8.out.trans q9)
                clear q9 kUn kT8 kO8
                by_cases hk0 : 0 < k
                · obtain ⟨j, rfl⟩ : ∃ j, k = j + 1 := ⟨k - 1, by omega⟩
                  obtain ⟨rl, rlt, rord⟩ := kR.out
                  have hj1 : (0 : Int) < ((j + 1 : Nat) : Int) := by omega
                  have hj2 : ((j + 1 : Nat) : Int) - 1 = (j : Int) := by omega
                  have hj3 : (j : Int) < (L.length : Int) := by omega
                  have hj4 : ((j + 1 : Nat) : Int) < (L.length : Int) := by omega
                  obtain ⟨g1, o1, hg1, c1⟩ := kn.out j (by simp [nums]; omega)
                  obtain ⟨g2, o2, hg2, c2⟩ := kn.out (j + 1) (by simp [nums]; omega)
                  rw [hg1] at hg2
                  simp only [Option.some.injEq, Addr.mk.injEq, and_true] at hg2
                  obtain ⟨rfl, rfl⟩ := hg2
                  subst hg1
                  simp only [nums, List.getElem_map] at c1 c2
                  have a1 := rlt j (by omega)
                  have a2 := rlt (j + 1) (by omega)
                  have hord := hid (rord j (by omega))
                  obtain ⟨r1, hr1⟩ : ∃ r1, R[j]'(by omega) = r1 := ⟨_, rfl⟩
                  obtain ⟨r2, hr2⟩ : ∃ r2, R[j + 1]'(by omega) = r2 := ⟨_, rfl⟩
                  rw [hr1] at c1 a1
                  rw [hr2] at c2 a2
                  rw [hr1, hr2] at hord
                  clear hr1 hr2 rlt rord
                  have c1 := kO9.out.cell c1
                  have c2 := kO9.out.cell c2
                  have kM1 := hid (name_good _ _ _ _ _ _ w9 kT9.out.t r1 a1 (by rw [← getD_at a1]; exact kT9.out.good.hi r1))
                  rw [ks.out, ← getD_at a1] at kM1
                  have hbl : Op.bytesLess (L.getD r1 []) (L.getD r2 []) = true := by rw [bytesLess_eq]; exact decide_eq_true hord.out
                  have kM2 := hid (fun W (hW : TS w W v (Ls.length : Int) L) => name_good _ _ _ _ _ _ W hW.t r2 a2 (by rw [← getD_at a2]; exact hW.good.hi r2))
                  rw [ks.out, ← getD_at a2] at kM2
                  generalize L.getD r1 [] = x1 at *
                  generalize L.getD r2 [] = x2 at *
                  go_wp2_with fail
                  refine kM1.out.mono ?_
                  rintro e w10 ⟨rfl, q10⟩
                  have kT10 := hid (kT9.out.step q10)
                  have kO10 := hid (kO9.out.trans q10)
                  have c2 := q10.cell c2
                  clear q10 kM1 c1 kT9 kO9
                  go_wp2_with fail
                  refine (kM2.out _ kT10.out).mono ?_
                  rintro e w11 ⟨rfl, q11⟩
                  have kO11 := hid (kO10.out.trans q11)
                  clear q11 kM2 c2 kT10 kO10
                  go_wp2_with fail
                  go_roundw
                  case rel => exact ⟨j + 2, by omega, by go_num, kO11⟩
                  case measure => simp [intOf]; omega
                · obtain rfl : k = 0 := by omega
                  go_wp2_with fail
                  go_roundw
                  case rel => exact ⟨1, by omega, by go_num, kO9⟩
                  case measure => simp [intOf]; omega
              · have hg1 : ((1 : Int) < (d : Int)) = False := by simp; omega
                have kSp := hid (spell_any x w5 (by omega))
                rw [hsx] at kSp
                go_wp2_with fail
                refine kSp.out.mono ?_
                rintro e w8 ⟨rfl, q8⟩
                have kT8 := hid (kT6.out.step q8)
                have kO8 := hid (kO6.out.trans q8)
                clear q8 kSp kT6 kO6
                have kUn := hid (unspell_any (spellL x) w8 (by have := kln.out; omega))
                rw [kun.out] at kUn
                go_wp2_with fail
                refine kUn.out.mono ?_
                rintro e w9 ⟨rfl, q9⟩
                have kT9 := hid (kT8.out.step q9)
                have kO9 := hid (kO8.out.trans q9)
                clear q9 kUn kT8 kO8
                by_cases hk0 : 0 < k
                · obtain ⟨j, rfl⟩ : ∃ j, k = j + 1 := ⟨k - 1, by omega⟩
                  obtain ⟨rl, rlt, rord⟩ := kR.out
                  have hj1 : (0 : Int) < ((j + 1 : Nat) : Int) := by omega
                  have hj2 : ((j + 1 : Nat) : Int) - 1 = (j : Int) := by omega
                  have hj3 : (j : Int) < (L.length : Int) := by omega
                  have hj4 : ((j + 1 : Nat) : Int) < (L.length : Int) := by omega
                  obtain ⟨g1, o1, hg1, c1⟩ := kn.out j (by simp [nums]; omega)
                  obtain ⟨g2, o2, hg2, c2⟩ := kn.out (j + 1) (by simp [nums]; omega)
                  rw [hg1] at hg2
                  simp only [Option.some.injEq, Addr.mk.injEq, and_true] at hg2
                  obtain ⟨rfl, rfl⟩ := hg2
                  subst hg1
                  simp only [nums, List.getElem_map] at c1 c2
                  have a1 := rlt j (by omega)
                  have a2 := rlt (j + 1) (by omega)
                  have hord := hid (rord j (by omega))
                  obtain ⟨r1, hr1⟩ : ∃ r1, R[j]'(by omega) = r1 := ⟨_, rfl⟩
                  obtain ⟨r2, hr2⟩ : ∃ r2, R[j + 1]'(by omega) = r2 := ⟨_, rfl⟩
                  rw [hr1] at c1 a1
                  rw [hr2] at c2 a2
                  rw [hr1, hr2] at hord
                  clear hr1 hr2 rlt rord
                  have c1 := kO9.out.cell c1
                  have c2 := kO9.out.cell c2
                  have kM1 := hid (name_good _ _ _ _ _ _ w9 kT9.out.t r1 a1 (by rw [← getD_at a1]; exact kT9.out.good.hi r1))
                  rw [ks.out, ← getD_at a1] at kM1
                  have hbl : Op.bytesLess (L.getD r1 []) (L.getD r2 []) = true := by rw [bytesLess_eq]; exact decide_eq_true hord.out
                  have kM2 := hid (fun W (hW : TS w W v (Ls.length : Int) L) => name_good _ _ _ _ _ _ W hW.t r2 a2 (by rw [← getD_at a2]; exact hW.good.hi r2))
                  rw [ks.out, ← getD_at a2] at kM2
                  generalize L.getD r1 [] = x1 at *
                  generalize L.getD r2 [] = x2 at *
                  go_wp2_with fail
                  refine kM1.out.mono ?_
                  rintro e w10 ⟨rfl, q10⟩
                  have kT10 := hid (kT9.out.step q10)
                  have kO10 := hid (kO9.out.trans q10)
                  have c2 := q10.cell c2
                  clear q10 kM1 c1 kT9 kO9
                  go_wp2_with fail
                  refine (kM2.out _ kT10.out).mono ?_
                  rintro e w11 ⟨rfl, q11⟩
                  have kO11 := hid (kO10.out.trans q11)
                  clear q11 kM2 c2 kT10 kO10
                  go_wp2_with fail
                  go_roundw
                  case rel => exact ⟨j + 2, by omega, by go_num, kO11⟩
                  case measure => simp [intOf]; omega
                · obtain rfl : k = 0 := by omega
                  go_wp2_with fail
                  go_roundw
                  case rel => exact ⟨1, by omega, by go_num, kO9⟩
                  case measure => simp [intOf]; omega
            | cons r0 rr =>
              have hdx := hrest (by simp)
              rw [kx.out] at hdx
              have hb4 : ((d : Int) != (x.length : Int)) = false := by rw [hdx]; simp
              clear hrest hdx
              have hb5 : (1 : Int) < ((rr.length + 1 + 1 : Nat) : Int) := by omega
              simp only [List.length_cons]
              generalize rr.length = nr at *
              by_cases h1d : 1 < d
              · have hg1 : (1 : Int) < (d : Int) := by omega
                have hw1 : (d : Int) - 1 = ((d - 1 : Nat) : Int) := by omega
                have ht2 : ∀ X, (Instr.slice 9 (.string sx) none (some (.int .i64 ((d : Int) - 1))) none).run Try.prog X = .ok (.string ⟨(x.take (d - 1)).toArray⟩) X := fun X => by
                  rw [hw1]; exact kto.out (d - 1) (by omega) X
                clear hw1
                have kB2 := hid (begins_any _ _ _ _ _ _ (x.take (d - 1)) w5 kT6.out.t (by omega))
                rw [ks.out] at kB2
                go_wp2_with fail
                refine kB2.out.mono ?_
                rintro e w7 ⟨vc, Rc, rfl, hRc, hlc, q7⟩
                rw [← kx.out] at hRc
                have h2 := ksd.out.less hlt h1d hRc
                obtain ⟨ac, cc, rfl, -, -⟩ := hlc
                have kT7 := hid (kT6.out.step q7)
                have kO7 := hid (kO6.out.trans q7)
                generalize Rc.length = nc at *
                have h2' : ((nc : Int) < 2) = False := by simp; omega
                clear q7 hRc kT6 kO6 kB2 ht2
                have kSp := hid (spell_any x w7 (by omega))
                rw [hsx] at kSp
                go_wp2_with fail
                refine kSp.out.mono ?_
                rintro e w8 ⟨rfl, q8⟩
                have kT8 := hid (kT7.out.step q8)
                have kO8 := hid (kO7.out.trans q8)
                clear q8 kSp kT7 kO7
                have kUn := hid (unspell_any (spellL x) w8 (by have := kln.out; omega))
                rw [kun.out] at kUn
                go_wp2_with fail
                refine kUn.out.mono ?_
                rintro e w9 ⟨rfl, q9⟩
                have kT9 := hid (kT8.out.step q9)
                have kO9 := hid (kO8.out.trans q9)
                clear q9 kUn kT8 kO8
                by_cases hk0 : 0 < k
                · obtain ⟨j, rfl⟩ : ∃ j, k = j + 1 := ⟨k - 1, by omega⟩
                  obtain ⟨rl, rlt, rord⟩ := kR.out
                  have hj1 : (0 : Int) < ((j + 1 : Nat) : Int) := by omega
                  have hj2 : ((j + 1 : Nat) : Int) - 1 = (j : Int) := by omega
                  have hj3 : (j : Int) < (L.length : Int) := by omega
                  have hj4 : ((j + 1 : Nat) : Int) < (L.length : Int) := by omega
                  obtain ⟨g1, o1, hg1, c1⟩ := kn.out j (by simp [nums]; omega)
                  obtain ⟨g2, o2, hg2, c2⟩ := kn.out (j + 1) (by simp [nums]; omega)
                  rw [hg1] at hg2
                  simp only [Option.some.injEq, Addr.mk.injEq, and_true] at hg2
                  obtain ⟨rfl, rfl⟩ := hg2
                  subst hg1
                  simp only [nums, List.getElem_map] at c1 c2
                  have a1 := rlt j (by omega)
                  have a2 := rlt (j + 1) (by omega)
                  have hord := hid (rord j (by omega))
                  obtain ⟨r1, hr1⟩ : ∃ r1, R[j]'(by omega) = r1 := ⟨_, rfl⟩
                  obtain ⟨r2, hr2⟩ : ∃ r2, R[j + 1]'(by omega) = r2 := ⟨_, rfl⟩
                  rw [hr1] at c1 a1
                  rw [hr2] at c2 a2
                  rw [hr1, hr2] at hord
                  clear hr1 hr2 rlt rord
                  have c1 := kO9.out.cell c1
                  have c2 := kO9.out.cell c2
                  have kM1 := hid (name_good _ _ _ _ _ _ w9 kT9.out.t r1 a1 (by rw [← getD_at a1]; exact kT9.out.good.hi r1))
                  rw [ks.out, ← getD_at a1] at kM1
                  have hbl : Op.bytesLess (L.getD r1 []) (L.getD r2 []) = true := by rw [bytesLess_eq]; exact decide_eq_true hord.out
                  have kM2 := hid (fun W (hW : TS w W v (Ls.length : Int) L) => name_good _ _ _ _ _ _ W hW.t r2 a2 (by rw [← getD_at a2]; exact hW.good.hi r2))
                  rw [ks.out, ← getD_at a2] at kM2
                  generalize L.getD r1 [] = x1 at *
                  generalize L.getD r2 [] = x2 at *
                  go_wp2_with fail
                  refine kM1.out.mono ?_
                  rintro e w10 ⟨rfl, q10⟩
                  have kT10 := hid (kT9.out.step q10)
                  have kO10 := hid (kO9.out.trans q10)
                  have c2 := q10.cell c2
                  clear q10 kM1 c1 kT9 kO9
                  go_wp2_with fail
                  refine (kM2.out _ kT10.out).mono ?_
                  rintro e w11 ⟨rfl, q11⟩
                  have kO11 := hid (kO10.out.trans q11)
                  clear q11 kM2 c2 kT10 kO10
                  go_wp2_with fail
                  go_roundw
                  case rel => exact ⟨j + 2, by omega, by go_num, kO11⟩
                  case measure => simp [intOf]; omega
                · obtain rfl : k = 0 := by omega
                  go_wp2_with fail
                  go_roundw
                  case rel => exact ⟨1, by omega, by go_num, kO9⟩
                  case measure => simp [intOf]; omega
              · have hg1 : ((1 : Int) < (d : Int)) = False := by simp; omega
                have kSp := hid (spell_any x w5 (by omega))
                rw [hsx] at kSp
                go_wp2_with fail
                refine kSp.out.mono ?_
                rintro e w8 ⟨rfl, q8⟩
                have kT8 := hid (kT6.out.step q8)
                have kO8 := hid (kO6.out.trans q8)
                clear q8 kSp kT6 kO6
                have kUn := hid (unspell_any (spellL x) w8 (by have := kln.out; omega))
                rw [kun.out] at kUn
                go_wp2_with fail
                refine kUn.out.mono ?_
                rintro e w9 ⟨rfl, q9⟩
                have kT9 := hid (kT8.out.step q9)
                have kO9 := hid (kO8.out.trans q9)
                clear q9 kUn kT8 kO8
                by_cases hk0 : 0 < k
                · obtain ⟨j, rfl⟩ : ∃ j, k = j + 1 := ⟨k - 1, by omega⟩
                  obtain ⟨rl, rlt, rord⟩ := kR.out
                  have hj1 : (0 : Int) < ((j + 1 : Nat) : Int) := by omega
                  have hj2 : ((j + 1 : Nat) : Int) - 1 = (j : Int) := by omega
                  have hj3 : (j : Int) < (L.length : Int) := by omega
                  have hj4 : ((j + 1 : Nat) : Int) < (L.length : Int) := by omega
                  obtain ⟨g1, o1, hg1, c1⟩ := kn.out j (by simp [nums]; omega)
                  obtain ⟨g2, o2, hg2, c2⟩ := kn.out (j + 1) (by simp [nums]; omega)
                  rw [hg1] at hg2
                  simp only [Option.some.injEq, Addr.mk.injEq, and_true] at hg2
                  obtain ⟨rfl, rfl⟩ := hg2
                  subst hg1
                  simp only [nums, List.getElem_map] at c1 c2
                  have a1 := rlt j (by omega)
                  have a2 := rlt (j + 1) (by omega)
                  have hord := hid (rord j (by omega))
                  obtain ⟨r1, hr1⟩ : ∃ r1, R[j]'(by omega) = r1 := ⟨_, rfl⟩
                  obtain ⟨r2, hr2⟩ : ∃ r2, R[j + 1]'(by omega) = r2 := ⟨_, rfl⟩
                  rw [hr1] at c1 a1
                  rw [hr2] at c2 a2
                  rw [hr1, hr2] at hord
                  clear hr1 hr2 rlt rord
                  have c1 := kO9.out.cell c1
                  have c2 := kO9.out.cell c2
                  have kM1 := hid (name_good _ _ _ _ _ _ w9 kT9.out.t r1 a1 (by rw [← getD_at a1]; exact kT9.out.good.hi r1))
                  rw [ks.out, ← getD_at a1] at kM1
                  have hbl : Op.bytesLess (L.getD r1 []) (L.getD r2 []) = true := by rw [bytesLess_eq]; exact decide_eq_true hord.out
                  have kM2 := hid (fun W (hW : TS w W v (Ls.length : Int) L) => name_good _ _ _ _ _ _ W hW.t r2 a2 (by rw [← getD_at a2]; exact hW.good.hi r2))
                  rw [ks.out, ← getD_at a2] at kM2
                  generalize L.getD r1 [] = x1 at *
                  generalize L.getD r2 [] = x2 at *
                  go_wp2_with fail
                  refine kM1.out.mono ?_
                  rintro e w10 ⟨rfl, q10⟩
                  have kT10 := hid (kT9.out.step q10)
                  have kO10 := hid (kO9.out.trans q10)
                  have c2 := q10.cell c2
                  clear q10 kM1 c1 kT9 kO9
                  go_wp2_with fail
                  refine (kM2.out _ kT10.out).mono ?_
                  rintro e w11 ⟨rfl, q11⟩
                  have kO11 := hid (kO10.out.trans q11)
                  clear q11 kM2 c2 kT10 kO10
                  go_wp2_with fail
                  go_roundw
                  case rel => exact ⟨j + 2, by omega, by go_num, kO11⟩
                  case measure => simp [intOf]; omega
                · obtain rfl : k = 0 := by omega
                  go_wp2_with fail
                  go_roundw
                  case rel => exact ⟨1, by omega, by go_num, kO9⟩
                  case measure => simp [intOf]; omega
          · have kK := hid (k3.out wr)
            go_wp2_with fail
            refine kL.out.mono ?_
            rintro e w' ⟨rfl, e1⟩
            rw [e1]
            clear e1 w'
            go_wp2_with fail
            refine kK.out.mono ?_
            rintro e w5 ⟨rfl, q5⟩
            have o5 := hid (kT3.out.old.trans q5)
            clear q5
            go_wp2_with fail
            go_ret
            exact ⟨rfl, o5.out⟩
  · clear ha
    generalize Ls.length = n at *
    go_enter Try.func5, Try.ntmps5
    go_wp2_with fail
    refine (k3.out _).mono ?_
    rintro e w5 ⟨rfl, q5⟩
    have o5 := hid q5
    clear q5
    go_wp2_with fail
    go_ret
    exact ⟨rfl, o5.out⟩
end Go.Proofs.Ytjkgijfddgppjaa
