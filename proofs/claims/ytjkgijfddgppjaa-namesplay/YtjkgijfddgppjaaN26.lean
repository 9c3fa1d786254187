/- The document's Begins, walked. -/
import Derived.Test.YtjkgijfddgppjaaN25
import Derived.Maps.AppendAt
namespace Go.Proofs.Ytjkgijfddgppjaa
open Go.RowKit Go.Sort

theorem nats_cells {w : World} {B : Nat} {g cap : Nat} {N : List Nat} (h : w.ownsRow B 3 1 (.slice (some ⟨g, 0, none⟩) N.length cap) N.length (natsV N)) : (∀ i (h : i < N.length), w.cell? ⟨g, i, none⟩ = some (.int .i64 (N[i] : Int))) ∧ N.length ≤ cap ∧ cap ≤ maxLen ∧ (∃ cur, w.heap[g]? = some (.cells cur 3 (0, 0))) ∧ B ≤ g := by
  rcases h.2 with ⟨h1, _⟩ | ⟨g', cap', cur, h1, h3, h4, h5, h6, h7, h8⟩
  · cases h1
  · simp only [Value.slice.injEq, Option.some.injEq, Addr.mk.injEq, and_true, true_and] at h1
    obtain ⟨rfl, rfl⟩ := h1
    refine ⟨fun i hi => blk_cells h4 ?_, h5, h6, ⟨cur, h4⟩, h3⟩
    have h9 : (cur.toList.take (N.length * 1))[i]? = (natsV N)[i]? := by rw [h8]
    rw [List.getElem?_take_of_lt (by omega)] at h9
    simpa [natsV, hi] using h9


set_option maxRecDepth 100000 in
set_option maxHeartbeats 4000000 in
theorem dbegins_any (rb : Nat) (v : Value) (most : Int) (L : List (List UInt8)) (x : List UInt8) (w : World) (h : Doc w rb v most L) (hL : L.length ≤ 1048576) (hx : x.length ≤ 9223372036854775807) :
    Calls Try.prog 50 #[.pointer (some ⟨rb, 0, none⟩), .string ⟨x.toArray⟩] w fun e w' => ∃ vr R, e = .returned vr ∧ InOrd L (begN L x L.length) R ∧ ListOf w w' vr R ∧ Old w w' := by
  obtain ⟨i3, hi, hz0, hz1, hz2⟩ := info_parts info3
  obtain ⟨ao, cap, hv⟩ := h.lst.form
  have c0 := h.c0
  rw [hv] at c0
  have kh := hid h
  have hlr := blk_lt h.blk
  have kP := hid (fun y X => dprefix_any y x X hx)
  obtain ⟨sx, hsx⟩ : ∃ s : ByteArray, (⟨x.toArray⟩ : ByteArray) = s := ⟨_, rfl⟩
  rw [hsx] at kP ⊢
  clear hsx h
  go_enter Try.func50, Try.ntmps50
  go_wp2_with fail
  go_loopw [5, 6] (fun vr t wr => ∃ (k : Nat) (out : List Nat), k ≤ L.length ∧ t = .int .i64 (k : Int) ∧ Hid (InOrd L (begN L x k) out) ∧ wr.ownsRow w.heap.size 3 1 vr out.length (natsV out) ∧ (out = [] → vr = .slice none 0 0) ∧ Below w.heap.size w wr) (fun _ t _ => L.length - (intOf t).toNat)
  case atStart => exact ⟨0, [], Nat.zero_le _, rfl, ⟨List.Perm.refl _, List.Pairwise.nil⟩, ⟨rfl, Or.inl ⟨rfl, rfl⟩⟩, fun _ => rfl, Below.refl _ _⟩
  case round =>
    obtain ⟨k, out, hk, rfl, hO, hrow, hem, hB⟩ := hrel
    have hsz := hB.size
    have hol : out.length ≤ k := by rw [hO.out.1.length_eq]; exact begN_len L x k
    have d0 : wr.cell? ⟨rb, 0, none⟩ = some (.slice ao L.length cap) := by rw [hB.cell (p := ⟨rb, 0, none⟩) hlr]; exact c0
    have kB := hid hB
    clear hB
    by_cases hlt : k < L.length
    · obtain ⟨g, cap2, hv2, ci⟩ := kh.out.lst.nth hlt
      rw [hv] at hv2
      simp only [Value.slice.injEq, true_and] at hv2
      obtain ⟨rfl, rfl⟩ := hv2
      have hgl : g < w.heap.size := World.block_lt_of_cell? w _ ci
      have cw : wr.cell? ⟨g, k, none⟩ = some (.string ⟨(L[k]).toArray⟩) := by rw [kB.out.cell (p := ⟨g, k, none⟩) hgl]; exact ci
      have kcs : Hid (∀ n, n < L.length → wr.cell? ⟨g, n, none⟩ = some (.string ⟨(L.getD n []).toArray⟩)) := fun n hn => by
        obtain ⟨g', c', hv', cn⟩ := kh.out.lst.nth hn
        rw [hv] at hv'
        simp only [Value.slice.injEq, Option.some.injEq, Addr.mk.injEq, and_true, true_and] at hv'
        obtain ⟨rfl, rfl⟩ := hv'
        rw [getD_at hn, kB.out.cell (p := ⟨g, n, none⟩) hgl]
        exact cn
      have hk' : (k : Int) < (L.length : Int) := by omega
      have kp := hid (kP.out L[k])
      have hG := hid (begN_succ L x k)
      have hLk := getD_at hlt
      rw [hLk] at hG
      clear ci
      obtain ⟨y, hy⟩ : ∃ y, L[k] = y := ⟨_, rfl⟩
      rw [hy] at cw kp hG hLk
      clear hy
      have kLk := hid hLk
      clear hLk
      cases hp : Lib.hasPrefix y x
      · rw [hp] at kp hG
        go_wp2_with fail
        refine (kp.out _).mono ?_
        rintro e w' ⟨rfl, e1⟩
        rw [e1]
        clear e1 w'
        go_wp2_with fail
        go_roundw
        case rel => exact ⟨k + 1, out, by omega, by go_num, by rw [hG.out]; simpa using hO, hrow, hem, kB.out⟩
        case measure => simp [intOf]; omega
      · rw [hp] at kp hG
        simp only [if_true] at hG
        go_wp2_with fail
        refine (kp.out _).mono ?_
        rintro e w' ⟨rfl, e1⟩
        rw [e1]
        clear e1 w'
        obtain ⟨ar, cr, rfl⟩ := nats_slice hrow
        obtain ⟨WA, rfl⟩ : ∃ WA, WA = wr := ⟨_, rfl⟩
        go_wp2_with fail
        go_loopw [7] (fun t wr2 => ∃ p : Nat, p ≤ out.length ∧ t = .int .i64 (p : Int) ∧ Hid (IsP L out k p) ∧ Old WA wr2) (fun t _ => out.length - (intOf t).toNat)
        case atStart => exact ⟨0, Nat.zero_le _, rfl, ⟨Nat.zero_le _, fun q h hq => by omega⟩, Old.refl _⟩
        case round =>
          obtain ⟨p, hpl, rfl, hIP, hOW⟩ := hrel
          have d0q := hOW.cell d0
          have cwq := hOW.cell cw
          clear cw d0
          by_cases hpo : p < out.length
          · have hpo' : (p : Int) < (out.length : Int) := by omega
            obtain ⟨g2, rfl⟩ : ∃ g2, ar = some ⟨g2, 0, none⟩ := by
              rcases nats_form hrow with ⟨rfl, _⟩ | ⟨g2, c2, cur, e, _⟩
              · simp at hpo
              · simp only [Value.slice.injEq] at e
                exact ⟨g2, e.1⟩
            obtain ⟨hcs, hoc, hcm, ⟨cur, hcur⟩, hg2⟩ := nats_cells hrow
            have cp := hOW.cell (hcs p hpo)
            have hom : out[p] < L.length := by
              have := begN_lt (hO.out.1.mem_iff.1 (List.getElem_mem hpo))
              omega
            have cz := hOW.cell (kcs.out out[p] hom)
            have hom' : (out[p] : Int) < (L.length : Int) := by omega
            obtain ⟨z, hz⟩ : ∃ z, L.getD out[p] [] = z := ⟨_, rfl⟩
            rw [hz] at cz
            have kz := hid hz
            obtain ⟨op, hop⟩ : ∃ op, out[p] = op := ⟨_, rfl⟩
            rw [hop] at cp cz hom'
            have khc := hid hcs
            clear hz hop hcs hom
            by_cases hlz : z < y
            · have hbl : Op.bytesLess z y = true := by rw [bytesLess_eq]; exact decide_eq_true hlz
              have hIP2 : Hid (IsP L out k (p + 1)) := by
                refine ⟨by omega, fun q hq hqp => ?_⟩
                by_cases e : q = p
                · subst e
                  rw [kz.out, kLk.out]
                  exact hlz
                · exact hIP.out.lo q hq (by omega)
              go_wp2_with fail
              go_quiet (fail)
              go_wp2_with fail
              go_roundw
              case rel => exact ⟨p + 1, by omega, by go_num, hIP2, hOW.drewN _⟩
              case measure => simp [intOf]; omega
            · have hbl : Op.bytesLess z y = false := by rw [bytesLess_eq]; exact decide_eq_false hlz
              have hE : Hid (InOrd L (begN L x (k + 1)) (out.take p ++ k :: out.drop p)) := by
                rw [hG.out]
                exact hO.out.insert hIP.out (fun _ => by rw [kz.out, kLk.out]; exact hlz)
              go_wp2_with fail
              go_quiet (fail)
              have oW : Old WA (wr.drewN nq) := hOW.drewN nq
              have hrW := owns_kept hrow (w' := wr.drewN nq) (fun kk hkk => by
                obtain ⟨cu, hcu⟩ := owns_block hrow hkk
                exact oW.block kk (blk_lt hcu) (fun h => h))
              have kBW : Hid (Below w.heap.size w (wr.drewN nq)) := kB.out.trans (oW.below.mono hsz)
              generalize wr.drewN nq = W at *
              obtain ⟨hcW, hoc, hcm, -, hg2⟩ := nats_cells hrW
              have khW := hid hcW
              have krW := hid hrW
              clear hcW hrW d0q cwq hOW oW kcs hrow cp cz kz hbl
              have hsW := kBW.out.size
              have hnil : W.ownsRow w.heap.size 3 1 (.slice none 0 0) 0 [] := ⟨rfl, Or.inl ⟨rfl, rfl⟩⟩
              have hone : ∀ N : List Nat, ∀ u ∈ natsV N, u.oneCell' = true := fun N u hu => by
                simp only [natsV, List.mem_map] at hu
                obtain ⟨y, _, rfl⟩ := hu
                rfl
              have hn1 : ∀ j u, (natsV (out.take p))[j]? = some u → W.cell? ((⟨g2, 0, none⟩ : Addr).add j) = some u := fun j u hu => by
                have hj : j < p := by
                  have := (List.getElem?_eq_some_iff.1 hu).1
                  simp [natsV] at this
                  omega
                have hadd : (⟨g2, 0, none⟩ : Addr).add j = ⟨g2, j, none⟩ := by unfold Addr.add; split <;> simp_all
                rw [hadd, khW.out j (by omega)]
                simpa [natsV, hj, show j < out.length by omega] using hu
              have hpc : (p : Int) ≤ (cr : Int) := by omega
              have hpl2 : (p : Int) ≤ (out.length : Int) := by omega
              go_wp2_with (at_builtin; refine wpList_append_own_at _ rfl _ _ 53 rfl w.heap.size 3 i3 (.int .i64 0) 1 8 Try.underlying53 hi hz0 hz1 hz2 rfl (by decide) _ _ _ rfl hnil ⟨g2, 0, none⟩ p cr (natsV (out.take p)) rfl (by simp [natsV]; omega) hn1 (hone _) (by unfold maxLen; omega) (by omega) hsW ?_)
              intro v1 w1 hown1 hgrow1 _ hat1
              obtain ⟨a1, c1, rfl⟩ : ∃ a1 c1, v1 = .slice a1 p c1 := by
                rcases hown1.2 with ⟨e, h0⟩ | ⟨gg, cc, cu, e, _⟩
                · exact ⟨none, 0, by rw [e, h0]⟩
                · exact ⟨_, _, e⟩
              have o1 : Old W w1 := ⟨hgrow1.os, hgrow1.tape, hgrow1.output, hgrow1.size, fun q hq _ => hgrow1.block q hq (by simp [Value.ownBlock])⟩
              have hgW : g2 < W.heap.size := by
                obtain ⟨cu, hcu⟩ := owns_block krW.out (g := g2) rfl
                exact blk_lt hcu
              have hne1 : ∀ q, (Value.slice a1 p c1).ownBlock = some q → q ≠ g2 := fun q hq e => by
                rcases hat1 with h | h
                · rw [hq] at h; simp [Value.ownBlock] at h
                · rw [hq] at h
                  have : q = W.heap.size := by simpa using h
                  omega
              have kb1 : Hid (Below w.heap.size w w1) := kBW.out.trans (o1.below.mono hsW)
              have hs1 := kb1.out.size
              have hrow1 := hown1.alloc (.cells #[.int .i64 (k : Int)] 3)
              have klt1 := hid (fun q (hq : (Value.slice a1 p c1).ownBlock = some q) => (hown1.lt q hq).1)
              clear hgrow1 hat1 hown1 hn1 hnil
              go_wp2_with (at_builtin; refine wpList_append_lies _ rfl _ _ 53 rfl w.heap.size 3 i3 (.int .i64 0) 1 8 Try.underlying53 hi hz0 hz1 hz2 rfl (by decide) _ _ _ rfl hrow1 ⟨w1.heap.size, 0, none⟩ 1 1 [.int .i64 (k : Int)] rfl rfl ?c1 ?c2 (by decide) ?c3 ?c4 ?c5 _ rfl ?_)
              case c1 =>
                intro j u hj
                match j, hj with
                | 0, hj => simp at hj; subst hj; simp [Addr.add]
              case c2 => intro u hu; simp at hu; subst hu; rfl
              case c3 => unfold maxLen; omega
              case c4 => omega
              case c5 => simp; omega
              intro g3 c3 w3 hown3 hgrow3 hat3 hlt3
              have f3 : Frm (fun q => (Value.slice a1 p c1).ownBlock = some q) w1 w3 := Frm.trans ((Frm.refl _ w1).alloc _) (⟨hgrow3.os, hgrow3.tape, hgrow3.output, hgrow3.size, fun q hq hn => hgrow3.block q hq (fun e => hn e.symm)⟩ : Frm (fun q => (Value.slice a1 p c1).ownBlock = some q) _ w3) (fun _ _ h => h)
              have kb3 : Hid (Below w.heap.size w w3) := ⟨f3.os.trans kb1.out.os, f3.tape.trans kb1.out.tape, f3.output.trans kb1.out.output, Nat.le_trans kb1.out.size f3.size, fun q hq => (f3.block q (by omega) (fun e => by have := klt1.out q e; omega)).trans (kb1.out.block q hq)⟩
              have hg3 : w.heap.size ≤ g3 ∧ g3 ≠ g2 := by
                rcases hat3 with h | h
                · exact ⟨klt1.out g3 h, hne1 g3 h⟩
                · have := o1.size
                  exact ⟨by omega, by omega⟩
              have hc3 : ∀ i (h : i < out.length), w3.cell? ⟨g2, i, none⟩ = some (.int .i64 (out[i] : Int)) := fun i h => frm_cell f3 (o1.cell (khW.out i h)) (fun e => hne1 g2 e rfl)
              have hs3 := kb3.out.size
              have khc3 := hid hc3
              have ko3 := hid hown3
              clear hgrow3 hat3 hown3 hc3 f3 hrow1
              have hdl : (natsV (out.drop p)).length = (out.length - p) * 1 := by simp [natsV]
              by_cases hcp : cr = p
              · have hm0 : out.length - p = 0 := by omega
                have hn3 : ∀ j u, (natsV (out.drop p))[j]? = some u → w3.cell? ((⟨g2, 0, none⟩ : Addr).add j) = some u := fun j u hu => by
                  have := (List.getElem?_eq_some_iff.1 hu).1
                  simp [natsV] at this
                  omega
                clear hm0
                go_wp2_with (at_builtin; refine wpList_append_own_at _ rfl _ _ 53 rfl w.heap.size 3 i3 (.int .i64 0) 1 8 Try.underlying53 hi hz0 hz1 hz2 rfl (by decide) _ _ _ rfl ko3.out ⟨g2, 0, none⟩ (out.length - p) _ (natsV (out.drop p)) rfl hdl hn3 (hone _) (by unfold maxLen; omega) (by omega) hs3 ?_)
                intro v4 w4 hown4 hgrow4 hnil4 hat4
                have kb4 : Hid (Below w.heap.size w w4) := kb3.out.grown hgrow4 hs3 (fun q hq => by simp [Value.ownBlock] at hq; omega)
                have ko4 := hid hown4
                clear hown4 hgrow4 hat4 hnil4
                obtain ⟨a4, n4, c4, rfl⟩ : ∃ a4 n4 c4, v4 = .slice a4 n4 c4 := by
                  rcases ko4.out.2 with ⟨e, h0⟩ | ⟨gg, cc, cu, e, _⟩
                  · exact ⟨_, _, _, e⟩
                  · exact ⟨_, _, _, e⟩
                go_wp2_with fail
                go_roundw
                case rel =>
                  have el : (out.take p ++ k :: out.drop p).length = p + 1 + (out.length - p) := by simp; omega
                  have ev : natsV (out.take p ++ k :: out.drop p) = natsV (out.take p) ++ .int .i64 (k : Int) :: natsV (out.drop p) := by simp [natsV]
                  refine ⟨k + 1, out.take p ++ k :: out.drop p, by omega, by go_num, hE, ?_, fun e => by simp at e, kb4.out⟩
                  rw [el, ev]
                  exact ko4.out
                case measure => simp [intOf]; omega
              · have hn3 : ∀ j u, (natsV (out.drop p))[j]? = some u → w3.cell? ((⟨g2, p, none⟩ : Addr).add j) = some u := fun j u hu => by
                  have hj : p + j < out.length := by
                    have := (List.getElem?_eq_some_iff.1 hu).1
                    simp [natsV] at this
                    omega
                  have hadd : (⟨g2, p, none⟩ : Addr).add j = ⟨g2, p + j, none⟩ := by unfold Addr.add; split <;> simp_all
                  rw [hadd, khc3.out (p + j) hj]
                  simpa [natsV, hj, show j < out.length - p by omega] using hu
                go_wp2_with (at_builtin; refine wpList_append_own_at _ rfl _ _ 53 rfl w.heap.size 3 i3 (.int .i64 0) 1 8 Try.underlying53 hi hz0 hz1 hz2 rfl (by decide) _ _ _ rfl ko3.out ⟨g2, p, none⟩ (out.length - p) _ (natsV (out.drop p)) rfl hdl hn3 (hone _) (by unfold maxLen; omega) (by omega) hs3 ?_)
                intro v4 w4 hown4 hgrow4 hnil4 hat4
                have kb4 : Hid (Below w.heap.size w w4) := kb3.out.grown hgrow4 hs3 (fun q hq => by simp [Value.ownBlock] at hq; omega)
                have ko4 := hid hown4
                clear hown4 hgrow4 hat4 hnil4
                obtain ⟨a4, n4, c4, rfl⟩ : ∃ a4 n4 c4, v4 = .slice a4 n4 c4 := by
                  rcases ko4.out.2 with ⟨e, h0⟩ | ⟨gg, cc, cu, e, _⟩
                  · exact ⟨_, _, _, e⟩
                  · exact ⟨_, _, _, e⟩
                go_wp2_with fail
                go_roundw
                case rel =>
                  have el : (out.take p ++ k :: out.drop p).length = p + 1 + (out.length - p) := by simp; omega
                  have ev : natsV (out.take p ++ k :: out.drop p) = natsV (out.take p) ++ .int .i64 (k : Int) :: natsV (out.drop p) := by simp [natsV]
                  refine ⟨k + 1, out.take p ++ k :: out.drop p, by omega, by go_num, hE, ?_, fun e => by simp at e, kb4.out⟩
                  rw [el, ev]
                  exact ko4.out
                case measure => simp [intOf]; omega
          · have hpo' : decide ((p : Int) < (out.length : Int)) = false := decide_eq_false (by omega)
            have hE : Hid (InOrd L (begN L x (k + 1)) (out.take p ++ k :: out.drop p)) := by
              rw [hG.out]
              exact hO.out.insert hIP.out (fun h => absurd h hpo)
            by_cases ho : out = []
            · have hvr := hem ho
              subst ho
              simp only [Value.slice.injEq] at hvr
              obtain ⟨rfl, -, rfl⟩ := hvr
              obtain rfl : p = 0 := by simpa using hpl
              go_wp2_with fail
              go_quiet (fail)
              have kBW : Hid (Below w.heap.size w (wr.drewN nq)) := kB.out.trans ((hOW.drewN nq).below.mono hsz)
              generalize wr.drewN nq = W at *
              have hsW := kBW.out.size
              have hnil : W.ownsRow w.heap.size 3 1 (.slice none 0 0) 0 [] := ⟨rfl, Or.inl ⟨rfl, rfl⟩⟩
              have hrow1 := hnil.alloc (.cells #[.int .i64 (k : Int)] 3)
              clear d0q cwq hOW kcs hrow
              go_wp2_with (first
                | (at_builtin; refine wpList_append_own_none rfl _ _ 53 rfl w.heap.size 3 i3 1 Try.underlying53 hi (.slice none 0 0) 0 [] rfl hnil rfl ?_)
                | (at_builtin; refine wpList_append_lies _ rfl _ _ 53 rfl w.heap.size 3 i3 (.int .i64 0) 1 8 Try.underlying53 hi hz0 hz1 hz2 rfl (by decide) _ _ _ rfl hrow1 ⟨W.heap.size, 0, none⟩ 1 1 [.int .i64 (k : Int)] rfl rfl ?c1 ?c2 (by decide) ?c3 ?c4 ?c5 _ rfl ?_))
              case c1 =>
                intro j u hj
                match j, hj with
                | 0, hj => simp at hj; subst hj; simp [Addr.add]
              case c2 => intro u hu; simp at hu; subst hu; rfl
              case c3 => unfold maxLen; omega
              case c4 => omega
              case c5 => simp; omega
              intro g3 c3 w3 hown3 hgrow3 hat3 hlt3
              have kb3 : Hid (Below w.heap.size w w3) := (kBW.out.alloc hsW _).grown hgrow3 (by simp; omega) (fun q hq => by simp [Value.ownBlock] at hq)
              have ko3 := hid hown3
              have hw3 := hown3
              clear hgrow3 hat3 hown3
              go_wp2_with (at_builtin; refine wpList_append_own_none rfl _ _ 53 rfl w.heap.size 3 i3 1 Try.underlying53 hi _ _ _ rfl hw3 rfl ?_)
              go_roundw
              case rel =>
                refine ⟨k + 1, [k], by omega, by go_num, hE, ?_, fun e => by simp at e, kb3.out⟩
                exact ko3.out
              case measure => simp [intOf]; omega
            · obtain ⟨g2, rfl⟩ : ∃ g2, ar = some ⟨g2, 0, none⟩ := by
                rcases nats_form hrow with ⟨rfl, _⟩ | ⟨g2, c2, cur, e, _⟩
                · exact absurd rfl ho
                · simp only [Value.slice.injEq] at e
                  exact ⟨g2, e.1⟩
              go_wp2_with fail
              go_quiet (fail)
              have oW : Old WA (wr.drewN nq) := hOW.drewN nq
              have hrW := owns_kept hrow (w' := wr.drewN nq) (fun kk hkk => by
                obtain ⟨cu, hcu⟩ := owns_block hrow hkk
                exact oW.block kk (blk_lt hcu) (fun h => h))
              have kBW : Hid (Below w.heap.size w (wr.drewN nq)) := kB.out.trans (oW.below.mono hsz)
              generalize wr.drewN nq = W at *
              obtain ⟨hcW, hoc, hcm, -, hg2⟩ := nats_cells hrW
              have khW := hid hcW
              have krW := hid hrW
              clear hcW hrW d0q cwq hOW oW kcs hrow hem
              have hsW := kBW.out.size
              have hnil : W.ownsRow w.heap.size 3 1 (.slice none 0 0) 0 [] := ⟨rfl, Or.inl ⟨rfl, rfl⟩⟩
              have hone : ∀ N : List Nat, ∀ u ∈ natsV N, u.oneCell' = true := fun N u hu => by
                simp only [natsV, List.mem_map] at hu
                obtain ⟨y, _, rfl⟩ := hu
                rfl
              have hn1 : ∀ j u, (natsV (out.take p))[j]? = some u → W.cell? ((⟨g2, 0, none⟩ : Addr).add j) = some u := fun j u hu => by
                have hj : j < p := by
                  have := (List.getElem?_eq_some_iff.1 hu).1
                  simp [natsV] at this
                  omega
                have hadd : (⟨g2, 0, none⟩ : Addr).add j = ⟨g2, j, none⟩ := by unfold Addr.add; split <;> simp_all
                rw [hadd, khW.out j (by omega)]
                simpa [natsV, hj, show j < out.length by omega] using hu
              have hpc : (p : Int) ≤ (cr : Int) := by omega
              have hpl2 : (p : Int) ≤ (out.length : Int) := by omega
              go_wp2_with (at_builtin; refine wpList_append_own_at _ rfl _ _ 53 rfl w.heap.size 3 i3 (.int .i64 0) 1 8 Try.underlying53 hi hz0 hz1 hz2 rfl (by decide) _ _ _ rfl hnil ⟨g2, 0, none⟩ p cr (natsV (out.take p)) rfl (by simp [natsV]; omega) hn1 (hone _) (by unfold maxLen; omega) (by omega) hsW ?_)
              intro v1 w1 hown1 hgrow1 _ hat1
              obtain ⟨a1, c1, rfl⟩ : ∃ a1 c1, v1 = .slice a1 p c1 := by
                rcases hown1.2 with ⟨e, h0⟩ | ⟨gg, cc, cu, e, _⟩
                · exact ⟨none, 0, by rw [e, h0]⟩
                · exact ⟨_, _, e⟩
              have o1 : Old W w1 := ⟨hgrow1.os, hgrow1.tape, hgrow1.output, hgrow1.size, fun q hq _ => hgrow1.block q hq (by simp [Value.ownBlock])⟩
              have hgW : g2 < W.heap.size := by
                obtain ⟨cu, hcu⟩ := owns_block krW.out (g := g2) rfl
                exact blk_lt hcu
              have hne1 : ∀ q, (Value.slice a1 p c1).ownBlock = some q → q ≠ g2 := fun q hq e => by
                rcases hat1 with h | h
                · rw [hq] at h; simp [Value.ownBlock] at h
                · rw [hq] at h
                  have : q = W.heap.size := by simpa using h
                  omega
              have kb1 : Hid (Below w.heap.size w w1) := kBW.out.trans (o1.below.mono hsW)
              have hs1 := kb1.out.size
              have hrow1 := hown1.alloc (.cells #[.int .i64 (k : Int)] 3)
              have klt1 := hid (fun q (hq : (Value.slice a1 p c1).ownBlock = some q) => (hown1.lt q hq).1)
              clear hgrow1 hat1 hown1 hn1 hnil
              go_wp2_with (at_builtin; refine wpList_append_lies _ rfl _ _ 53 rfl w.heap.size 3 i3 (.int .i64 0) 1 8 Try.underlying53 hi hz0 hz1 hz2 rfl (by decide) _ _ _ rfl hrow1 ⟨w1.heap.size, 0, none⟩ 1 1 [.int .i64 (k : Int)] rfl rfl ?c1 ?c2 (by decide) ?c3 ?c4 ?c5 _ rfl ?_)
              case c1 =>
                intro j u hj
                match j, hj with
                | 0, hj => simp at hj; subst hj; simp [Addr.add]
              case c2 => intro u hu; simp at hu; subst hu; rfl
              case c3 => unfold maxLen; omega
              case c4 => omega
              case c5 => simp; omega
              intro g3 c3 w3 hown3 hgrow3 hat3 hlt3
              have f3 : Frm (fun q => (Value.slice a1 p c1).ownBlock = some q) w1 w3 := Frm.trans ((Frm.refl _ w1).alloc _) (⟨hgrow3.os, hgrow3.tape, hgrow3.output, hgrow3.size, fun q hq hn => hgrow3.block q hq (fun e => hn e.symm)⟩ : Frm (fun q => (Value.slice a1 p c1).ownBlock = some q) _ w3) (fun _ _ h => h)
              have kb3 : Hid (Below w.heap.size w w3) := ⟨f3.os.trans kb1.out.os, f3.tape.trans kb1.out.tape, f3.output.trans kb1.out.output, Nat.le_trans kb1.out.size f3.size, fun q hq => (f3.block q (by omega) (fun e => by have := klt1.out q e; omega)).trans (kb1.out.block q hq)⟩
              have hg3 : w.heap.size ≤ g3 ∧ g3 ≠ g2 := by
                rcases hat3 with h | h
                · exact ⟨klt1.out g3 h, hne1 g3 h⟩
                · have := o1.size
                  exact ⟨by omega, by omega⟩
              have hc3 : ∀ i (h : i < out.length), w3.cell? ⟨g2, i, none⟩ = some (.int .i64 (out[i] : Int)) := fun i h => frm_cell f3 (o1.cell (khW.out i h)) (fun e => hne1 g2 e rfl)
              have hs3 := kb3.out.size
              have khc3 := hid hc3
              have ko3 := hid hown3
              clear hgrow3 hat3 hown3 hc3 f3 hrow1
              have hdl : (natsV (out.drop p)).length = (out.length - p) * 1 := by simp [natsV]
              by_cases hcp : cr = p
              · have hm0 : out.length - p = 0 := by omega
                have hn3 : ∀ j u, (natsV (out.drop p))[j]? = some u → w3.cell? ((⟨g2, 0, none⟩ : Addr).add j) = some u := fun j u hu => by
                  have := (List.getElem?_eq_some_iff.1 hu).1
                  simp [natsV] at this
                  omega
                clear hm0
                go_wp2_with (at_builtin; refine wpList_append_own_at _ rfl _ _ 53 rfl w.heap.size 3 i3 (.int .i64 0) 1 8 Try.underlying53 hi hz0 hz1 hz2 rfl (by decide) _ _ _ rfl ko3.out ⟨g2, 0, none⟩ (out.length - p) _ (natsV (out.drop p)) rfl hdl hn3 (hone _) (by unfold maxLen; omega) (by omega) hs3 ?_)
                intro v4 w4 hown4 hgrow4 hnil4 hat4
                have kb4 : Hid (Below w.heap.size w w4) := kb3.out.grown hgrow4 hs3 (fun q hq => by simp [Value.ownBlock] at hq; omega)
                have ko4 := hid hown4
                clear hown4 hgrow4 hat4 hnil4
                obtain ⟨a4, n4, c4, rfl⟩ : ∃ a4 n4 c4, v4 = .slice a4 n4 c4 := by
                  rcases ko4.out.2 with ⟨e, h0⟩ | ⟨gg, cc, cu, e, _⟩
                  · exact ⟨_, _, _, e⟩
                  · exact ⟨_, _, _, e⟩
                go_wp2_with fail
                go_roundw
                case rel =>
                  have el : (out.take p ++ k :: out.drop p).length = p + 1 + (out.length - p) := by simp; omega
                  have ev : natsV (out.take p ++ k :: out.drop p) = natsV (out.take p) ++ .int .i64 (k : Int) :: natsV (out.drop p) := by simp [natsV]
                  refine ⟨k + 1, out.take p ++ k :: out.drop p, by omega, by go_num, hE, ?_, fun e => by simp at e, kb4.out⟩
                  rw [el, ev]
                  exact ko4.out
                case measure => simp [intOf]; omega
              · have hn3 : ∀ j u, (natsV (out.drop p))[j]? = some u → w3.cell? ((⟨g2, p, none⟩ : Addr).add j) = some u := fun j u hu => by
                  have hj : p + j < out.length := by
                    have := (List.getElem?_eq_some_iff.1 hu).1
                    simp [natsV] at this
                    omega
                  have hadd : (⟨g2, p, none⟩ : Addr).add j = ⟨g2, p + j, none⟩ := by unfold Addr.add; split <;> simp_all
                  rw [hadd, khc3.out (p + j) hj]
                  simpa [natsV, hj, show j < out.length - p by omega] using hu
                go_wp2_with (at_builtin; refine wpList_append_own_at _ rfl _ _ 53 rfl w.heap.size 3 i3 (.int .i64 0) 1 8 Try.underlying53 hi hz0 hz1 hz2 rfl (by decide) _ _ _ rfl ko3.out ⟨g2, p, none⟩ (out.length - p) _ (natsV (out.drop p)) rfl hdl hn3 (hone _) (by unfold maxLen; omega) (by omega) hs3 ?_)
                intro v4 w4 hown4 hgrow4 hnil4 hat4
                have kb4 : Hid (Below w.heap.size w w4) := kb3.out.grown hgrow4 hs3 (fun q hq => by simp [Value.ownBlock] at hq; omega)
                have ko4 := hid hown4
                clear hown4 hgrow4 hat4 hnil4
                obtain ⟨a4, n4, c4, rfl⟩ : ∃ a4 n4 c4, v4 = .slice a4 n4 c4 := by
                  rcases ko4.out.2 with ⟨e, h0⟩ | ⟨gg, cc, cu, e, _⟩
                  · exact ⟨_, _, _, e⟩
                  · exact ⟨_, _, _, e⟩
                go_wp2_with fail
                go_roundw
                case rel =>
                  have el : (out.take p ++ k :: out.drop p).length = p + 1 + (out.length - p) := by simp; omega
                  have ev : natsV (out.take p ++ k :: out.drop p) = natsV (out.take p) ++ .int .i64 (k : Int) :: natsV (out.drop p) := by simp [natsV]
                  refine ⟨k + 1, out.take p ++ k :: out.drop p, by omega, by go_num, hE, ?_, fun e => by simp at e, kb4.out⟩
                  rw [el, ev]
                  exact ko4.out
                case measure => simp [intOf]; omega
    · obtain rfl : k = L.length := by omega
      go_wp2_with fail
      go_ret
      refine ⟨_, out, rfl, hO.out, ?_, Old.of_below kB.out⟩
      rcases nats_form hrow with ⟨rfl, rfl⟩ | ⟨g2, c2, cur, rfl, hg2, hgb, hcs⟩
      · exact ⟨none, 0, rfl, fun i hi => by simp [nums] at hi, fun _ _ h => by cases h⟩
      · refine ⟨some ⟨g2, 0, none⟩, c2, rfl, fun i hi => ?_, fun g' o' e => ?_⟩
        · simp only [nums, List.length_map] at hi
          refine ⟨g2, 0, rfl, ?_⟩
          rw [Nat.zero_add, hcs i hi]
          simp [nums]
        · simp only [Option.some.injEq, Addr.mk.injEq, and_true] at e
          obtain ⟨rfl, rfl⟩ := e
          exact ⟨hg2, rfl, fun i _ => blk_fz hgb i⟩
end Go.Proofs.Ytjkgijfddgppjaa
