/- The document's SameEntries. -/
import Derived.Test.YtlhlmkdgbgppiaaJ14
namespace Go.Proofs.Ytlhlmkdgbgppiaa
open Go.RowKit Go.Shelf Go.Maps

theorem take_snoc_eq {α : Type} {p q : List α} {k : Nat} (h1 : k < p.length) (h2 : k < q.length) : p.take (k + 1) = q.take (k + 1) ↔ p.take k = q.take k ∧ p[k] = q[k] := by
  rw [List.take_add_one, List.take_add_one, List.getElem?_eq_getElem h1, List.getElem?_eq_getElem h2]
  simp only [Option.toList_some]
  constructor
  · intro h
    have := List.append_inj' h rfl
    exact ⟨this.1, by simpa using this.2⟩
  · rintro ⟨a, b⟩
    rw [a, b]

set_option maxRecDepth 100000 in
set_option maxHeartbeats 2000000 in
theorem dsameE_big (ao bo : Option Addr) (c d : Nat) (p q : List Es) (w : World) (h1 : EsC w ao p) (h2 : EsC w bo q) (hl : p.length ≤ 8796093022208) (hl2 : q.length ≤ 8796093022208) :
    Calls Try.prog 25 #[.slice ao p.length c, .slice bo q.length d] w fun e w' => e = .returned (.bool (decide (p = q))) ∧ ∃ n, w' = w.drewN n := by
  have kp := hid h1
  have kq := hid h2
  clear h1 h2
  by_cases hlen : p.length = q.length
  · have hq : ((p.length : Int) != (q.length : Int)) = false := by simp [hlen]
    have khl := hid hlen
    clear hlen
    go_enter Try.func25, Try.ntmps25
    go_wp2_with fail
    go_loopw [5] (fun t wr => ∃ k : Nat, k ≤ p.length ∧ t = .int .i64 (k : Int) ∧ Hid (p.take k = q.take k) ∧ ∃ n, wr = w.drewN n) (fun t _ => p.length - (intOf t).toNat)
    case atStart => exact ⟨0, Nat.zero_le _, rfl, hid rfl, 0, rfl⟩
    case round =>
      obtain ⟨k, hk, rfl, hE, nd, rfl⟩ := hrel
      by_cases hlt : k < p.length
      · have hlt2 : k < q.length := by rw [← khl.out]; exact hlt
        obtain ⟨g, o, rfl, c0, c1⟩ := kp.out k hlt
        obtain ⟨g', o', rfl, c2, c3⟩ := kq.out k hlt2
        have hk' : (k : Int) < (p.length : Int) := by omega
        have hk2 : (k : Int) < (q.length : Int) := by omega
        have hs := hid (take_snoc_eq hlt hlt2)
        have hx := hid (fun (h : p = q) => (by subst h; rfl : p[k] = q[k]'hlt2))
        generalize p[k] = x at c0 c1 hs hx
        generalize q[k] = y at c2 c3 hs hx
        obtain ⟨x1, x2⟩ := x
        obtain ⟨y1, y2⟩ := y
        dsimp only at c0 c1 c2 c3
        by_cases e : (x1, x2) = (y1, y2)
        · have ke := hid e
          obtain ⟨rfl, rfl⟩ := Prod.mk.inj e
          clear e
          have hq1 : (x1 == x1) = true := by simp
          have hq2 : (x2 == x2) = true := by simp
          go_wp2_with fail
          go_quiet (fail)
          go_wp2_with fail
          go_roundw
          case rel => exact ⟨k + 1, by omega, by go_num, hid (hs.out.mpr ⟨hE.out, by trivial⟩), _, rfl⟩
          case measure => simp [intOf]; omega
        · have hne : p ≠ q := fun h => e (hx.out h)
          have kne := hid (decide_eq_false hne)
          clear hne
          by_cases e1 : x1 = y1
          · subst e1
            have hq1 : (x1 == x1) = true := by simp
            have hq2 : (x2 == y2) = false := by simpa using fun e2 => e (by rw [e2])
            clear e
            go_wp2_with fail
            go_quiet (fail)
            go_wp2_with fail
            go_ret
            exact ⟨by rw [kne.out]; rfl, _, World.drewN_drewN _ _ _⟩
          · have hq1 : (x1 == y1) = false := by simpa using e1
            clear e e1
            go_wp2_with fail
            go_quiet (fail)
            go_wp2_with fail
            go_ret
            exact ⟨by rw [kne.out]; rfl, _, World.drewN_drewN _ _ _⟩
      · obtain rfl : k = p.length := by omega
        have heq : p = q := by
          have := hE.out
          rw [List.take_length, khl.out, List.take_length] at this
          exact this
        have keq := hid (decide_eq_true heq)
        clear heq
        go_wp2_with fail
        go_ret
        exact ⟨by rw [keq.out]; rfl, nd, rfl⟩
  · have hq : ((p.length : Int) != (q.length : Int)) = true := by simp only [bne_iff_ne, ne_eq]; omega
    have hne : p ≠ q := fun h => hlen (by rw [h])
    rw [decide_eq_false hne]
    clear hne hlen
    go_enter Try.func25, Try.ntmps25
    go_wp2_with fail
    go_ret
    exact ⟨rfl, 0, rfl⟩
theorem dsameE_any (ao bo : Option Addr) (c d : Nat) (p q : List Es) (w : World) (h1 : EsC w ao p) (h2 : EsC w bo q) (hl : p.length ≤ 1048576) (hl2 : q.length ≤ 1048576) :
    Calls Try.prog 25 #[.slice ao p.length c, .slice bo q.length d] w fun e w' => e = .returned (.bool (decide (p = q))) ∧ ∃ n, w' = w.drewN n :=
  dsameE_big ao bo c d p q w h1 h2 (by omega) (by omega)
end Go.Proofs.Ytlhlmkdgbgppiaa

/- The document's Account. -/
namespace Go.Proofs.Ytlhlmkdgbgppiaa
open Go.RowKit Go.Shelf Go.Maps

set_option maxRecDepth 100000 in
set_option maxHeartbeats 2000000 in
theorem dacc_bad (rb : Nat) (D : Nat → Prop) (L : List (List UInt8)) (B : List Int) (P : List (List Es)) (n : Int) (w : World) (h : Doc w rb D L B P) (hn : ¬ (0 ≤ n ∧ n < L.length)) :
    Calls Try.prog 31 #[.pointer (some ⟨rb, 0, none⟩), .int .i64 n] w fun e w' => e = .returned (.tuple #[.agg #[.string ⟨#[]⟩, .int .i64 0, .int .i64 0], .int .i64 4]) ∧ Old w w' := by
  have o1 : Old w (w.alloc (.cells #[.string ⟨#[]⟩, .int .i64 0, .int .i64 0] 82)) := (Old.refl w).alloc _
  obtain ⟨nv, lv, qv, hb, ⟨ao, c, rfl, -⟩, -, -⟩ := h
  have d0 : w.cell? ⟨rb, 0, none⟩ = some (.slice ao L.length c) := blk_cells hb rfl
  have d0 := o1.cell d0
  have n1 := heap_new w (.cells #[.string ⟨#[]⟩, .int .i64 0, .int .i64 0] 82)
  have ko := hid o1
  have hB := n1
  have b0 : (w.alloc (.cells #[.string ⟨#[]⟩, .int .i64 0, .int .i64 0] 82)).cell? ⟨w.heap.size, 0, none⟩ = some (.string ⟨#[]⟩) := blk_cells hB rfl
  have b1 : (w.alloc (.cells #[.string ⟨#[]⟩, .int .i64 0, .int .i64 0] 82)).cell? ⟨w.heap.size, 1, none⟩ = some (.int .i64 0) := blk_cells hB rfl
  have b2 : (w.alloc (.cells #[.string ⟨#[]⟩, .int .i64 0, .int .i64 0] 82)).cell? ⟨w.heap.size, 2, none⟩ = some (.int .i64 0) := blk_cells hB rfl
  have f0 := fun i => blk_fz hB i
  clear hb o1 n1 hB
  generalize L.length = m at *
  by_cases h1 : n < 0
  · clear hn
    go_enter Try.func31, Try.ntmps31
    go_wp2_with fail
    refine bodyPost_ret (v := .tuple #[.agg #[.string ⟨#[]⟩, .int .i64 0, .int .i64 0], .int .i64 4]) ?_ rfl ⟨rfl, ko.out⟩
    simp [results, Try.f31, go_sem, b0, b1, b2]
  · have h2 : (m : Int) ≤ n := by omega
    clear hn
    go_enter Try.func31, Try.ntmps31
    go_wp2_with fail
    refine bodyPost_ret (v := .tuple #[.agg #[.string ⟨#[]⟩, .int .i64 0, .int .i64 0], .int .i64 4]) ?_ rfl ⟨rfl, ko.out⟩
    simp [results, Try.f31, go_sem, b0, b1, b2]

end Go.Proofs.Ytlhlmkdgbgppiaa

/- The document's Same. -/
namespace Go.Proofs.Ytlhlmkdgbgppiaa
open Go.RowKit Go.Shelf Go.Maps

set_option maxRecDepth 100000 in
set_option maxHeartbeats 4000000 in
theorem dsame_any (rb rc : Nat) (D D2 : Nat → Prop) (L L2 : List (List UInt8)) (B B2 : List Int) (P P2 : List (List Es)) (w : World) (h1 : Doc w rb D L B P) (h2 : Doc w rc D2 L2 B2 P2) (hB : B.length = L.length) (hB2 : B2.length = L2.length) (he : ∀ p ∈ P, p.length ≤ 1048576) (he2 : ∀ p ∈ P2, p.length ≤ 1048576) (hL : L.length ≤ 1048576) (hL2 : L2.length ≤ 1048576) (hP : P.length ≤ 1048576) (hP2 : P2.length ≤ 1048576) :
    Calls Try.prog 36 #[.pointer (some ⟨rb, 0, none⟩), .pointer (some ⟨rc, 0, none⟩)] w fun e w' => e = .returned (.bool (decide (L = L2 ∧ B = B2 ∧ P = P2))) ∧ ∃ n, w' = w.drewN n := by
  obtain ⟨nv, lv, qv, hb, ⟨a1, c1, rfl, s1, -⟩, ⟨a2, c2, rfl, s2, -⟩, ⟨a3, c3, rfl, -, -, s3⟩⟩ := h1
  obtain ⟨nv, lv, qv, hc, ⟨b1, e1, rfl, t1, -⟩, ⟨b2, e2, rfl, t2, -⟩, ⟨b3, e3, rfl, -, -, t3⟩⟩ := h2
  have d0 : w.cell? ⟨rb, 0, none⟩ = some (.slice a1 L.length c1) := blk_cells hb rfl
  have d1 : w.cell? ⟨rb, 1, none⟩ = some (.slice a2 B.length c2) := blk_cells hb rfl
  have d2 : w.cell? ⟨rb, 2, none⟩ = some (.slice a3 P.length c3) := blk_cells hb rfl
  have f0 : w.cell? ⟨rc, 0, none⟩ = some (.slice b1 L2.length e1) := blk_cells hc rfl
  have f1 : w.cell? ⟨rc, 1, none⟩ = some (.slice b2 B2.length e2) := blk_cells hc rfl
  have f2 : w.cell? ⟨rc, 2, none⟩ = some (.slice b3 P2.length e3) := blk_cells hc rfl
  have ks1 := hid s1
  have ks2 := hid s2
  have ks3 := hid s3
  have kt1 := hid t1
  have kt2 := hid t2
  have kt3 := hid t3
  have kB := hid hB
  have kB2 := hid hB2
  have ke := hid he
  have ke2 := hid he2
  clear hb hc s1 s2 s3 t1 t2 t3 hB hB2 he he2
  by_cases hl : L.length = L2.length
  · by_cases hp : P.length = P2.length
    · have hq1 : ((L.length : Int) != (L2.length : Int)) = false := by simp [hl]
      have hq2 : ((P.length : Int) != (P2.length : Int)) = false := by simp [hp]
      have kl := hid hl
      have kp := hid hp
      clear hl hp
      go_enter Try.func36, Try.ntmps36
      go_wp2_with fail
      go_quiet (fail)
      go_wp2_with fail
      go_loopw [5] (fun t wr => ∃ k : Nat, k ≤ L.length ∧ t = .int .i64 (k : Int) ∧ Hid (L.take k = L2.take k ∧ B.take k = B2.take k) ∧ ∃ n, wr = w.drewN n) (fun t _ => L.length - (intOf t).toNat)
      case atStart => exact ⟨0, Nat.zero_le _, rfl, hid ⟨rfl, rfl⟩, _, rfl⟩
      case round =>
        obtain ⟨k, hk, rfl, hE, nd, rfl⟩ := hrel
        by_cases hlt : k < L.length
        · have hlt2 : k < L2.length := by rw [← kl.out]; exact hlt
          have hlb : k < B.length := by rw [kB.out]; exact hlt
          have hlb2 : k < B2.length := by rw [kB2.out]; exact hlt2
          obtain ⟨g, o, rfl, m0⟩ := ks1.out k hlt
          obtain ⟨g', o', rfl, m1⟩ := kt1.out k hlt2
          obtain ⟨j, q, rfl, m2⟩ := ks2.out k hlb
          obtain ⟨j', q', rfl, m3⟩ := kt2.out k hlb2
          have hk1 : (k : Int) < (L.length : Int) := by omega
          have hk2 : (k : Int) < (L2.length : Int) := by omega
          have hk3 : (k : Int) < (B.length : Int) := by omega
          have hk4 : (k : Int) < (B2.length : Int) := by omega
          have hs := hid (take_snoc_eq hlt hlt2)
          have hs2 := hid (take_snoc_eq hlb hlb2)
          have hx := hid (fun (h : L = L2) => (by subst h; rfl : L[k] = L2[k]'hlt2))
          have hx2 := hid (fun (h : B = B2) => (by subst h; rfl : B[k] = B2[k]'hlb2))
          generalize L[k] = x1 at m0 hs hx
          generalize L2[k] = y1 at m1 hs hx
          generalize B[k] = x2 at m2 hs2 hx2
          generalize B2[k] = y2 at m3 hs2 hx2
          clear hlt2 hlb hlb2
          by_cases n1 : x1 = y1
          · subst n1
            have hq3 : (x1 != x1) = false := by simp
            have hq4 : (x1 == x1) = true := by simp
            by_cases n2 : x2 = y2
            · subst n2
              have hq5 : (x2 != x2) = false := by simp
              have hq6 : (x2 == x2) = true := by simp
              go_wp2_with fail
              go_quiet (fail)
              go_wp2_with fail
              go_roundw
              case rel => exact ⟨k + 1, by omega, by go_num, hid ⟨hs.out.mpr ⟨hE.out.1, by trivial⟩, hs2.out.mpr ⟨hE.out.2, by trivial⟩⟩, _, rfl⟩
              case measure => simp [intOf]; omega
            · have hq5 : (x2 != y2) = true := by simpa using n2
              have hq6 : (x2 == y2) = false := by simpa using n2
              have kne := hid (decide_eq_false (fun h => n2 (hx2.out h.2.1) : ¬ (L = L2 ∧ B = B2 ∧ P = P2)))
              clear n2
              go_wp2_with fail
              go_quiet (fail)
              go_wp2_with fail
              go_ret
              exact ⟨by rw [kne.out]; rfl, _, World.drewN_drewN _ _ _⟩
          · have hq3 : (x1 != y1) = true := by simpa using n1
            have hq4 : (x1 == y1) = false := by simpa using n1
            have kne := hid (decide_eq_false (fun h => n1 (hx.out h.1) : ¬ (L = L2 ∧ B = B2 ∧ P = P2)))
            clear n1
            go_wp2_with fail
            go_quiet (fail)
            go_wp2_with fail
            go_ret
            exact ⟨by rw [kne.out]; rfl, _, World.drewN_drewN _ _ _⟩
        · obtain rfl : k = L.length := by omega
          have hLL : L = L2 := by
            have := hE.out.1
            rw [List.take_length, kl.out, List.take_length] at this
            exact this
          have hBB : B = B2 := by
            have := hE.out.2
            rw [← kB.out, List.take_length, kB.out, kl.out, ← kB2.out, List.take_length] at this
            exact this
          have kLB := hid (And.intro hLL hBB)
          clear hLL hBB hE
          go_wp2_with fail
          go_loopw [6, 7] (fun t t7 wr => ∃ k : Nat, k ≤ P.length ∧ t = .int .i64 (k : Int) ∧ Hid (P.take k = P2.take k) ∧ ∃ n, wr = w.drewN n) (fun t _ _ => P.length - (intOf t).toNat)
          case atStart => exact ⟨0, Nat.zero_le _, rfl, hid rfl, _, rfl⟩
          case round =>
            obtain ⟨k, hk, rfl, hE, nd, hw⟩ := hrel
            have hO : Old w wr := by rw [hw]; exact (Old.refl w).drewN nd
            have kw := hid hw
            have d2 := hO.cell d2
            have f2 := hO.cell f2
            clear hw
            by_cases hlt : k < P.length
            · have hlt2 : k < P2.length := by rw [← kp.out]; exact hlt
              obtain ⟨g, o, u, rfl, m0', ⟨aa, ca, rfl, ea, -⟩⟩ := ks3.out k hlt
              obtain ⟨g', o', u', rfl, m1', ⟨ab, cb, rfl, eb, -⟩⟩ := kt3.out k hlt2
              have m0 := hO.cell m0'
              have m1 := hO.cell m1'
              clear m0' m1'
              have hk1 : (k : Int) < (P.length : Int) := by omega
              have hk2 : (k : Int) < (P2.length : Int) := by omega
              have kS := hid (fun m => dsameE_any aa ab ca cb P[k] P2[k] (wr.drewN m) (ea.old (hO.drewN m)) (eb.old (hO.drewN m)) (ke.out _ (List.getElem_mem hlt)) (ke2.out _ (List.getElem_mem hlt2)))
              have hs := hid (take_snoc_eq hlt hlt2)
              have hx := hid (fun (h : P = P2) => (by subst h; rfl : P[k] = P2[k]'hlt2))
              clear ea eb
              generalize P[k] = x at m0 hs hx kS
              generalize P2[k] = y at m1 hs hx kS
              clear hlt2
              by_cases n1 : x = y
              · have hd := decide_eq_true n1
                rw [hd] at kS
                have kn := hid n1
                clear n1 hd
                go_wp2_with fail
                go_quiet (with_reducible exact Calls.quiet_of (kS.out _))
                go_wp2_with fail
                go_roundw
                case rel => exact ⟨k + 1, by omega, by go_num, hid (hs.out.mpr ⟨hE.out, kn.out⟩), _, by rw [kw.out]; exact World.drewN_drewN _ _ _⟩
                case measure => simp [intOf]; omega
              · have hd := decide_eq_false n1
                rw [hd] at kS
                have kne := hid (decide_eq_false (fun h => n1 (hx.out h.2.2) : ¬ (L = L2 ∧ B = B2 ∧ P = P2)))
                clear n1 hd
                go_wp2_with fail
                go_quiet (with_reducible exact Calls.quiet_of (kS.out _))
                go_wp2_with fail
                go_ret
                exact ⟨by rw [kne.out]; rfl, _, by rw [kw.out]; exact World.drewN_drewN _ _ _⟩
            · obtain rfl : k = P.length := by omega
              have hPP : P = P2 := by
                have := hE.out
                rw [List.take_length, kp.out, List.take_length] at this
                exact this
              have keq := hid (decide_eq_true (⟨kLB.out.1, kLB.out.2, hPP⟩ : L = L2 ∧ B = B2 ∧ P = P2))
              clear hPP
              go_wp2_with fail
              go_ret
              exact ⟨by rw [keq.out]; rfl, nd, kw.out⟩
    · have hq1 : ((L.length : Int) != (L2.length : Int)) = false := by simp [hl]
      have hq2 : ((P.length : Int) != (P2.length : Int)) = true := by simp only [bne_iff_ne, ne_eq]; omega
      have kne := hid (decide_eq_false (fun h => hp (by rw [h.2.2]) : ¬ (L = L2 ∧ B = B2 ∧ P = P2)))
      clear hl hp
      go_enter Try.func36, Try.ntmps36
      go_wp2_with fail
      go_quiet (fail)
      go_wp2_with fail
      go_ret
      exact ⟨by rw [kne.out]; rfl, _, rfl⟩
  · have hq1 : ((L.length : Int) != (L2.length : Int)) = true := by simp only [bne_iff_ne, ne_eq]; omega
    have kne := hid (decide_eq_false (fun h => hl (by rw [h.1]) : ¬ (L = L2 ∧ B = B2 ∧ P = P2)))
    clear hl
    go_enter Try.func36, Try.ntmps36
    go_wp2_with fail
    go_quiet (fail)
    go_wp2_with fail
    go_ret
    exact ⟨by rw [kne.out]; rfl, _, rfl⟩
end Go.Proofs.Ytlhlmkdgbgppiaa

/- The document's Line. -/
namespace Go.Proofs.Ytlhlmkdgbgppiaa
open Go.RowKit Go.Shelf Go.Maps

/-- What a name's line holds of the first k postings. -/
def lnN (P : List (List Es)) (x : List UInt8) (k : Nat) : List (Int × Int) := (List.range k).flatMap fun i => if hasN (P.getD i []) x then [((i : Int), ofN (P.take (i + 1)) x)] else []
theorem lnN_succ (P : List (List Es)) (x : List UInt8) (k : Nat) : lnN P x (k + 1) = lnN P x k ++ if hasN (P.getD k []) x then [((k : Int), ofN (P.take (k + 1)) x)] else [] := by
  unfold lnN
  rw [List.range_succ, List.flatMap_append]
  simp
theorem lnN_len (P : List (List Es)) (x : List UInt8) : ∀ k, (lnN P x k).length ≤ k
  | 0 => by simp [lnN]
  | k + 1 => by
    have := lnN_len P x k
    rw [lnN_succ, List.length_append]
    split <;> simp <;> omega

def flatI : List (Int × Int) → List Value
  | [] => []
  | e :: p => .int .i64 e.1 :: .int .i64 e.2 :: flatI p
theorem flatI_append : ∀ (p q : List (Int × Int)), flatI (p ++ q) = flatI p ++ flatI q
  | [], _ => rfl
  | e :: p, q => by simp [flatI, flatI_append p q]

theorem infoPt : (Try.prog.info? 136).map (fun i => (i.zero, i.size, i.bytes)) = some (some (.agg #[.int .i64 0, .int .i64 0]), 2, 16) := by kernel_rfl

set_option maxRecDepth 100000 in
set_option maxHeartbeats 4000000 in
theorem dline_any (rb : Nat) (D : Nat → Prop) (L : List (List UInt8)) (B : List Int) (P : List (List Es)) (x : List UInt8) (w : World) (h : Doc w rb D L B P) (hP : P.length ≤ 200) (hk : ∀ p ∈ P, OkN p) :
    Calls Try.prog 57 #[.pointer (some ⟨rb, 0, none⟩), .string ⟨x.toArray⟩] w fun e w' => ∃ v, e = .returned v ∧ w'.ownsRow w.heap.size 136 2 v (lnN P x P.length).length (flatI (lnN P x P.length)) ∧ Old w w' := by
  obtain ⟨nv, lv, qv, hb, -, -, ⟨ao, c, rfl, -, -, hs⟩⟩ := h
  have c0 : w.cell? ⟨rb, 2, none⟩ = some (.slice ao P.length c) := blk_cells hb rfl
  have kh := hid hs
  have kk := hid hk
  obtain ⟨i1, hI, hz1, hs1, hb1⟩ := info_parts infoPt
  have kz1 := hid hz1
  have ks1 := hid hs1
  have kb1 := hid hb1
  have kI := hid hI
  have hnil : w.ownsRow w.heap.size 136 2 (.slice none 0 0) 0 [] := ⟨rfl, Or.inl ⟨rfl, rfl⟩⟩
  have kn := hid hnil
  clear hb hs hk hz1 hs1 hb1 hI hnil
  go_enter Try.func57, Try.ntmps57
  go_wp2_with fail
  go_loopw [5, 6, 7, 8, 9] (fun t5 t6 t7 t8 t9 wr => ∃ k : Nat, k ≤ P.length ∧ t7 = .int .i64 (k : Int) ∧ t6 = .int .i64 (ofN (P.take k) x) ∧ Hid (wr.ownsRow w.heap.size 136 2 t5 (lnN P x k).length (flatI (lnN P x k))) ∧ Hid (Old w wr)) (fun _ _ t _ _ _ => P.length - (intOf t).toNat)
  case atStart => exact ⟨0, Nat.zero_le _, rfl, rfl, kn, hid (Old.refl _)⟩
  case round =>
    obtain ⟨k, hk, rfl, rfl, hR, hO⟩ := hrel
    have c1 := hO.out.cell c0
    by_cases hlt : k < P.length
    · obtain ⟨g, o, u, rfl, cu, ⟨ae, ce, rfl, hE, -⟩⟩ := kh.out k hlt
      have cu1 := hO.out.cell cu
      clear cu
      have hk' : (k : Int) < (P.length : Int) := by omega
      have hs1 := hid (ofN_take P x k hlt)
      have hln := hid (lnN_succ P x k)
      have hll := lnN_len P x k
      have hg := hid (getD_get (d := []) hlt)
      have hb := ofN_bnd (P.take (k + 1)) x (fun p hp => kk.out p (List.mem_of_mem_take hp))
      rw [hs1.out, List.length_take] at hb
      have kS := hid (dsum_any ae ce P[k] x wr (hE.old hO.out) (kk.out _ (List.getElem_mem hlt)))
      rw [hg.out, hs1.out] at hln
      generalize hp : P[k] = p at *
      have hlo : -9223372036854775808 ≤ ofN (P.take k) x + sumN p x := by omega
      have hhi : ofN (P.take k) x + sumN p x ≤ 9223372036854775807 := by omega
      clear hb hE hp
      generalize lnN P x k = N at *
      by_cases hh : hasN p x = true
      · rw [hh] at kS
        rw [hh, if_pos rfl] at hln
        go_wp2_with fail
        refine kS.out.mono ?_
        rintro e w' ⟨rfl, e2⟩
        rw [e2]
        clear e2
        have hws := hO.out.size
        have o3 : Old wr (wr.alloc (.cells #[.int .i64 (k : Int), .int .i64 (ofN (P.take k) x + sumN p x)] 136)) := (Old.refl wr).alloc _
        have n3 := new_cell wr #[.int .i64 (k : Int), .int .i64 (ofN (P.take k) x + sumN p x)] 136 0 _ rfl
        have n4 := new_cell wr #[.int .i64 (k : Int), .int .i64 (ofN (P.take k) x + sumN p x)] 136 1 _ rfl
        have r3 := hR.out.alloc (.cells #[.int .i64 (k : Int), .int .i64 (ofN (P.take k) x + sumN p x)] 136)
        have hc3 : ∀ ad, (some (⟨wr.heap.size, 0, none⟩ : Addr)) = some ad → ∀ (j : Nat) (u : Value), [Value.int .i64 (k : Int), .int .i64 (ofN (P.take k) x + sumN p x)][j]? = some u → (wr.alloc (.cells #[.int .i64 (k : Int), .int .i64 (ofN (P.take k) x + sumN p x)] 136)).cell? (ad.add j) = some u := fun ad e j u hu => by
          simp only [Option.some.injEq] at e
          subst e
          match j, hu with
          | 0, hu =>
            simp only [List.getElem?_cons_zero, Option.some.injEq] at hu
            subst hu
            rw [Addr.add_lit]
            exact n3
          | 1, hu =>
            simp only [List.getElem?_cons_succ, List.getElem?_cons_zero, Option.some.injEq] at hu
            subst hu
            rw [Addr.add_lit]
            exact n4
        have hws3 := o3.size
        have ko3 := hid o3
        have kr3 := hid r3
        have kc3 := hid hc3
        have hN : Hid (flatI N ++ [Value.int .i64 (k : Int), .int .i64 (ofN (P.take k) x + sumN p x)] = flatI (lnN P x (k + 1))) := hid (by rw [hln.out, flatI_append]; rfl)
        have hNl : Hid (N.length + 1 = (lnN P x (k + 1)).length) := hid (by rw [hln.out]; simp)
        clear o3 n3 n4 r3 hc3 hln
        go_wp2_with (at_builtin; refine wpApp rfl _ _ 133 rfl w.heap.size 136 i1 (.agg #[.int .i64 0, .int .i64 0]) 2 16 Try.underlying133 kI.out kz1.out ks1.out kb1.out rfl (by omega) u5 N.length (flatI N) rfl kr3.out (some ⟨wr.heap.size, 0, none⟩) 1 1 _ rfl (fun e => by cases e) rfl kc3.out (by intro u hu; simp at hu; rcases hu with rfl | rfl <;> rfl) (by unfold maxLen; omega) (by omega) (by omega) ?_)
        intro v2 w2 r2 f2
        rw [hN.out, hNl.out] at r2
        have hv := fun k hk => (hR.out.lt k hk).1
        have o2 : Old w w2 := Frm.trans (hO.out.trans ko3.out) f2 (fun i hi e => by have := hv i e; omega)
        have kr2 := hid r2
        have ko2 := hid o2
        clear r2 o2 f2 hv
        go_wp2_with fail
        go_roundw
        case rel => exact ⟨k + 1, by omega, by go_num, by rw [hs1.out], kr2, ko2⟩
        case measure => simp [intOf]; omega
      · have hh := eq_false_of_ne_true hh
        rw [hh] at kS
        rw [hh] at hln
        have hN : Hid (lnN P x (k + 1) = N) := hid (by rw [hln.out]; simp)
        clear hln
        go_wp2_with fail
        refine kS.out.mono ?_
        rintro e w' ⟨rfl, e2⟩
        rw [e2]
        clear e2
        go_wp2_with fail
        go_roundw
        case rel => exact ⟨k + 1, by omega, by go_num, by rw [hs1.out], by rw [hN.out]; exact hR, hO⟩
        case measure => simp [intOf]; omega
    · obtain rfl : k = P.length := by omega
      go_wp2_with fail
      go_ret
      exact ⟨_, rfl, hR.out, hO.out⟩
end Go.Proofs.Ytlhlmkdgbgppiaa
