/- CellsOrder, walked. -/
import Derived.Test.YtpnnfkgnkalhlaaK58
import Derived.Test.YtpnnfkgnkalhlaaK50
namespace Go.Proofs.Ytpnnfkgnkalhlaa
open Go.RowKit Go.Lib Go.Maps

theorem info_int : (Try.prog.info? 3).map (fun i => (i.zero, i.bytes, i.size)) = some (some (.int .i64 0), 8, 1) := by kernel_rfl
theorem make_int (n : Nat) (hn : n ≤ 1048576) (w : World) : (Instr.makeSlice 68 (.int .i64 (n : Int)) (.int .i64 (n : Int))).run Try.prog w = .ok (.slice (some ⟨w.heap.size, 0, none⟩) n n) (w.alloc (.cells (Array.replicate n (Value.int .i64 0)) 3)) := by
  obtain ⟨i, hi, h2⟩ := Option.map_eq_some_iff.1 info_int
  simp only [Prod.mk.injEq] at h2
  obtain ⟨hz, hb, hs⟩ := h2
  have h := run_make (P := Try.prog) w 68 3 i (.int .i64 0) Try.underlying68 hi hz .i64 .i64 n n (by omega) (by omega) (by rw [hb]; omega) (by omega)
  rw [h, hs]
  simp only [Int.toNat_natCast, Nat.mul_one, made_ints]


set_option maxRecDepth 100000 in
set_option maxHeartbeats 16000000 in
theorem corder_walk (mk gt ts : Int) (oa pa : Option Addr) (n co m cp : Nat) (O : List (List (Int × Int))) (P : List Int) (w : World) (hO : OpsC w oa O) (hn : O.length = n) (hP : NumsC .i64 w pa P) (hm : P.length = m) (ht2 : ts ≤ 9223372036854775807) (hmm : m ≤ 1000000000000) (hol : ∀ j : Nat, (O[j]?.getD []).length ≤ 1000000000000) :
    Calls Try.prog 5 #[.agg #[.int .i64 mk, .int .i64 gt, .int .i64 ts], .slice oa n co, .slice pa m cp] w fun e w' => e = .returned (.bool true) ∧ Old w w' := by
  have kK := hid (known_any (w.alloc (.cells #[.int .i64 mk, .int .i64 gt, .int .i64 ts] 23)))
  have o1 : Old w (w.alloc (.cells #[.int .i64 mk, .int .i64 gt, .int .i64 ts] 23)) := (Old.refl w).alloc _
  have c0 := new_cell w #[.int .i64 mk, .int .i64 gt, .int .i64 ts] 23 0 (.int .i64 mk) rfl
  have c1 := new_cell w #[.int .i64 mk, .int .i64 gt, .int .i64 ts] 23 1 (.int .i64 gt) rfl
  have c2 := new_cell w #[.int .i64 mk, .int .i64 gt, .int .i64 ts] 23 2 (.int .i64 ts) rfl
  have ko1 := hid o1
  have kO := hid hO
  have kP := hid hP
  have kn := hid hn
  have km := hid hm
  have kol := hid hol
  clear o1 hO hP hn hm hol
  go_enter Try.func5, Try.ntmps5
  go_wp2_with fail
  generalize w.alloc (.cells #[.int .i64 mk, .int .i64 gt, .int .i64 ts] 23) = w1 at *
  obtain ⟨s, hs⟩ : ∃ s, w.heap.size = s := ⟨_, rfl⟩
  have kss := hid hs
  rw [hs] at c0 c1 c2 ⊢
  clear hs
  refine kK.out.mono ?_
  rintro e w2 ⟨rfl, o2⟩
  replace c0 := o2.cell c0
  replace c1 := o2.cell c1
  replace c2 := o2.cell c2
  have ko2 := hid (ko1.out.trans o2)
  clear o2 kK ko1
  go_wp2_with fail
  by_cases hbad : ((n : Int) < 1 ∨ 64 < (n : Int)) ∨ gt < 1 ∨ ts < 0
  · refine (walk_bad mk gt ts oa pa n co m cp w2 hbad).mono ?_
    rintro e w3 ⟨rfl, o3⟩
    have oz : Old w3 (w3.alloc (.cells #[.int .i64 0, .int .i64 0, .int .i64 0, .int .i64 0, .bool false, .int .i64 0, .bool false, .int .i64 0] 63)) := (Old.refl w3).alloc _
    replace c0 := oz.cell (o3.cell c0)
    replace c1 := oz.cell (o3.cell c1)
    replace c2 := oz.cell (o3.cell c2)
    have ko3 := hid ((ko2.out.trans o3).trans oz)
    have kbad := hid hbad
    clear o3 ko2 hbad oz
    go_wp2_with fail
    generalize w3.alloc (.cells #[.int .i64 0, .int .i64 0, .int .i64 0, .int .i64 0, .bool false, .int .i64 0, .bool false, .int .i64 0] 63) = w4 at *
    refine (doc_new_bad mk gt ts n w4 kbad.out).mono ?_
    rintro e w5 ⟨rfl, o5⟩
    have ko5 := hid (ko3.out.trans o5)
    clear o5 c0 c1 c2
    go_wp2_with fail
    refine (num_any 2 w5).mono ?_
    rintro e w6 ⟨rfl, rfl⟩
    have kfin := ko5
    clear ko5
    by_cases hnz : n = 0
    · have hb1 : ((0 : Int) != (n : Int)) = false := by simp; omega
      go_wp2_with fail
      all_goals go_ret
      all_goals exact ⟨rfl, kfin.out⟩
    · have hb1 : ((0 : Int) != (n : Int)) = true := by simp; omega
      go_wp2_with fail
      all_goals go_ret
      all_goals exact ⟨rfl, kfin.out⟩
  · have h1 : 1 ≤ n := by omega
    have h2 : n ≤ 64 := by omega
    have hg : 1 ≤ gt := by omega
    have ht : 0 ≤ ts := by omega
    clear hbad
    refine (walk_good mk gt ts oa pa n co m cp O P w2 (kO.out.old ko2.out) kn.out (kP.out.old ko2.out) km.out h1 h2 hg ht ht2 hmm kol.out).mono ?_
    rintro e w3 ⟨ab, rfl, o3, hab, hrow⟩
    have kan := hid (ans_of (F := fun j => (walkTo O P (walk0 mk gt ts n) m).out j) hrow)
    have hablt : Hid (ab < w3.heap.size) := by
      obtain ⟨v, hv, -⟩ := hrow 0 (by omega)
      exact World.block_lt_of_cell? w3 _ hv
    obtain ⟨e0, e1, e2, e3, e4, e5, e6, e7, he⟩ : ∃ (e0 e1 e2 e3 : Int) (e4 : Bool) (e5 : Int) (e6 : Bool) (e7 : Int), endV (walkTo O P (walk0 mk gt ts n) m).s = .agg #[.int .i64 e0, .int .i64 e1, .int .i64 e2, .int .i64 e3, .bool e4, .int .i64 e5, .bool e6, .int .i64 e7] := ⟨_, _, _, _, _, _, _, _, rfl⟩
    rw [he]
    have ke := hid he
    have oz : Old w3 (w3.alloc (.cells #[.int .i64 e0, .int .i64 e1, .int .i64 e2, .int .i64 e3, .bool e4, .int .i64 e5, .bool e6, .int .i64 e7] 63)) := (Old.refl w3).alloc _
    have nz := hid (heap_new w3 (.cells #[.int .i64 e0, .int .i64 e1, .int .i64 e2, .int .i64 e3, .bool e4, .int .i64 e5, .bool e6, .int .i64 e7] 63))
    have zz : Hid ((w3.alloc (.cells #[.int .i64 e0, .int .i64 e1, .int .i64 e2, .int .i64 e3, .bool e4, .int .i64 e5, .bool e6, .int .i64 e7] 63)).heap.size = w3.heap.size + 1) := World.size_alloc _ _
    replace c0 := oz.cell (o3.cell c0)
    replace c1 := oz.cell (o3.cell c1)
    replace c2 := oz.cell (o3.cell c2)
    have ko23 := hid (ko2.out.trans o3)
    have ko3 := hid ((ko2.out.trans o3).trans oz)
    have kz := hid oz
    clear o3 ko2 oz he hrow hab
    go_wp2_with fail
    generalize w3.alloc (.cells #[.int .i64 e0, .int .i64 e1, .int .i64 e2, .int .i64 e3, .bool e4, .int .i64 e5, .bool e6, .int .i64 e7] 63) = w4 at *
    obtain ⟨eb, heb⟩ : ∃ eb, w3.heap.size = eb := ⟨_, rfl⟩
    have keb := hid heb
    rw [heb] at nz zz hablt kan ⊢
    clear heb
    refine (doc_newX mk gt ts n w4 h1 h2 hg ht).mono ?_
    rintro e w5 ⟨db, rfl, o5, sb, hdoc, hdb, hsb⟩
    have ko5 := hid (ko3.out.trans o5)
    have k45 := hid o5
    have kdoc := hid hdoc
    have kdb := hid hdb
    have ksb := hid hsb
    clear o5 c0 c1 c2 hdoc hdb hsb
    go_wp2_with fail
    refine (num_any 0 w5).mono ?_
    rintro e w6 ⟨rfl, rfl⟩
    go_wp2_with fail
    rw [make_int n (by omega) w6]
    go_wp2_with fail
    have hCO : Hid (CO w ab w6.heap.size db sb eb eb n (fun j => (walkTo O P (walk0 mk gt ts n) m).out j) #[.int .i64 e0, .int .i64 e1, .int .i64 e2, .int .i64 e3, .bool e4, .int .i64 e5, .bool e6, .int .i64 e7] (walkTo O P (walk0 mk gt ts n) 0) (w6.alloc (.cells (Array.replicate n (.int .i64 0)) 3))) := by
      have oa6 : Old w6 (w6.alloc (.cells (Array.replicate n (.int .i64 0)) 3)) := (Old.refl w6).alloc _
      have h56 := k45.out.size
      have hz := zz.out
      have hd := kdb.out
      have hs := ksb.out
      have l1 : db < w6.heap.size := by obtain ⟨c, t, hb⟩ := kdoc.out.blk; exact (Array.getElem?_eq_some_iff.1 hb).1
      have l2 : sb < w6.heap.size := (Array.getElem?_eq_some_iff.1 kdoc.out.row.choose_spec).1
      have hw3 := ko23.out.size
      have hk3 := keb.out
      have ha := hablt.out
      refine ⟨ko5.out.trans oa6, ((kan.out.frm kz.out ha (fun k e => e.elim)).frm k45.out ha (fun k e => e.elim)).frm oa6 ha (fun k e => e.elim), ⟨?_⟩, kdoc.out.frm oa6 (fun h => h) (fun h => h), ?_, by omega, by omega⟩
      · have hr : ((nxL (walkTo O P (walk0 mk gt ts n) 0) n).map (Value.int .i64)).toArray = Array.replicate n (.int .i64 0) := by
          apply Array.ext
          · simp [nxL]
          · intro i h1 h2
            simp [nxL, walkTo, walk0]
        rw [hr]
        exact heap_new w6 _
      · rw [oa6.block _ (by omega) (fun h => h), k45.out.block _ (by omega) (fun h => h)]
        exact nz.out
    obtain ⟨nb, hnb⟩ : ∃ nb, w6.heap.size = nb := ⟨_, rfl⟩
    rw [hnb] at hCO ⊢
    clear hnb
    have hb0 := hid (walkTo_bnd (O := O) (P := P) (W := walk0 mk gt ts n) (fun _ => rfl) ⟨by simp [walk0, h2], by simp [walk0], by simp [walk0], by simp [walk0], by simpa [walk0] using ht, by simpa [walk0] using ht2⟩)
    clear kan nz zz kz ko23 ko3 keb k45 kdoc kdb ksb
    generalize w6.alloc (.cells (Array.replicate n (.int .i64 0)) 3) = w7 at *
    have kW := hid (fun i => order_step (O := O) (P := P) (W := walk0 mk gt ts n) (fun _ => rfl) (fun _ => rfl) i m)
    have kle := hid (fun i j => walkTo_le (O := O) (P := P) (W := walk0 mk gt ts n) (fun _ => rfl) i j)
    obtain ⟨cs, hcs⟩ : ∃ cs : Array Value, #[.int .i64 e0, .int .i64 e1, .int .i64 e2, .int .i64 e3, .bool e4, .int .i64 e5, .bool e6, .int .i64 e7] = cs := ⟨_, rfl⟩
    rw [hcs] at hCO
    have kcs := hid hcs
    clear hcs
    go_loopw [13] (fun t wr => ∃ i : Nat, i ≤ m ∧ t = .int .i64 (i : Int) ∧ Hid (CO w ab nb db sb eb eb n (fun j => (walkTo O P (walk0 mk gt ts n) m).out j) cs (walkTo O P (walk0 mk gt ts n) i) wr)) (fun t _ => m - (intOf t).toNat)
    case atStart => exact ⟨0, Nat.zero_le _, rfl, hCO⟩
    case round =>
      obtain ⟨i, hi, rfl, hC⟩ := hrel
      by_cases him : i < m
      · have him' : (i : Int) < (m : Int) := by omega
        obtain ⟨pg, po, rfl, pc⟩ := kP.out i (by rw [km.out]; exact him)
        obtain ⟨pk, hpk⟩ : ∃ pk, P[i]'(by rw [km.out]; exact him) = pk := ⟨_, rfl⟩
        have hpe : P[i]?.getD 0 = pk := by rw [← hpk, List.getElem?_eq_getElem (by rw [km.out]; exact him)]; rfl
        rw [hpk] at pc
        replace pc := hC.out.old.cell pc
        have kst := hid (kW.out i him)
        dsimp only [Hid] at kst
        rw [hpe, kn.out] at kst
        have hn0 : (n : Int) ≠ 0 := by omega
        have hnz : ((n : Int) == 0) = false := by simp; omega
        obtain ⟨p, hp⟩ : ∃ p, pickOf pk n = p := ⟨_, rfl⟩
        have hpn : p < n := by
          rw [← hp]
          unfold pickOf
          have a4 := Int.emod_lt_of_pos pk (show (0 : Int) < n by omega)
          have a5 := Int.emod_nonneg pk hn0
          omega
        have hmn : Hid (pk.tmod n < 0 → pk.tmod n + n = (p : Int)) := fun h => by rw [← hp]; exact pick_neg h1 h2 h
        have hmp : Hid (¬ pk.tmod n < 0 → pk.tmod n = (p : Int)) := fun h => by rw [← hp]; exact pick_pos h1 h2 h
        rw [hp] at kst
        have t1 := Int.tmod_lt_of_pos pk (show (0 : Int) < n by omega)
        have t2 := Int.lt_tmod_of_pos pk (show (0 : Int) < n by omega)
        have kstep := hid kst
        clear kst hpk hpe hp
        by_cases hneg : pk.tmod n < 0
        · go_upto_region 16 with fail
          rw [hmn.out hneg]
          clear hneg hmn hmp pc t1 t2 hn0 hnz
          obtain ⟨ar, ac, ax, arow⟩ := hC.out.ans p hpn
          have nx := hC.out.nxt.cell (i := p) (by rw [nxL_len]; exact hpn)
          rw [nxL_at _ _ _ hpn] at nx
          obtain ⟨nx0, nxf⟩ := nx
          have hNle := kle.out i p
          have hlp := kol.out p
          obtain ⟨N, hN⟩ : ∃ N, ((walkTo O P (walk0 mk gt ts n) i).out p).length = N := ⟨_, rfl⟩
          obtain ⟨L, hL⟩ : ∃ L, ((walkTo O P (walk0 mk gt ts n) m).out p).length = L := ⟨_, rfl⟩
          rw [hN] at nx0 hNle
          try dsimp only at ax arow
          rw [hL] at ax arow
          try dsimp only at kstep
          have kstep2 := kstep.out
          rw [hN] at kstep2
          clear kstep
          have hpn' : (p : Int) < (n : Int) := by omega
          have hN9 : (N : Int) ≤ 1000000000000 := by omega
          rcases kstep2 with ⟨hpass, hs1, ho1⟩ | ⟨a, hF, hNo, hwh, ho1⟩
          · have hC2 := hid (hC.out.same hs1 ho1)
            clear hs1 ho1
            by_cases hLN : L ≤ N
            · have hge : decide (L ≤ N) = true := by simpa using hLN
              have hd := hid (hC2.out.frm ((Old.refl wr).drewN 1) (fun k e => e.elim))
              clear hC hC2
              go_wp2_with fail
              go_region
              go_wp2_with fail
              go_roundw
              case rel => exact ⟨i + 1, by omega, by go_num, hd⟩
              case measure => simp [intOf]; omega
            · have hge : decide (L ≤ N) = false := by simpa using hLN
              obtain ⟨b, hb1, hb2⟩ := hpass.resolve_left (by rw [hL]; exact hLN)
              obtain ⟨g, hg1, hg2, r0, r1, r2⟩ := arow N (by omega)
              rw [hb1] at r0 r1 r2
              dsimp only [Option.getD_some] at r0 r1 r2
              have hne : (b.2.2 != (i : Int)) = true := by rw [bne_iff_ne]; exact hb2
              subst hg1
              have hd := hid (hC2.out.frm ((Old.refl wr).drewN 1) (fun k e => e.elim))
              have hNL : (N : Int) < (L : Int) := by omega
              generalize b.2.2 = b3 at *
              clear hC hC2 arow hpass hb1 r0 r1
              go_wp2_with fail
              go_region
              go_wp2_with fail
              go_roundw
              case rel => exact ⟨i + 1, by omega, by go_num, hd⟩
              case measure => simp [intOf]; omega
          · have hNL : N < L := by
              have := (List.getElem?_eq_some_iff.1 hF).1
              omega
            have hge : decide (L ≤ N) = false := by simp; omega
            obtain ⟨g, hg1, hg2, r0, r1, r2⟩ := arow N hNL
            rw [hF] at r0 r1 r2
            dsimp only [Option.getD_some] at r0 r1 r2
            have hne : ((i : Int) != (i : Int)) = false := by simp
            subst hg1
            have hNL' : (N : Int) < (L : Int) := by omega
            obtain ⟨a1, a2⟩ := a
            dsimp only at r0 r1 r2 hwh ho1
            obtain ⟨og, oo, ro, oc, rfl, ox, orow⟩ := kO.out p (by rw [kn.out]; exact hpn)
            obtain ⟨ln, hln⟩ : ∃ ln, (O[p]?.getD []).length = ln := ⟨_, rfl⟩
            rw [hln] at ox orow hNo
            obtain ⟨rg, rq, hro, y0, y1, -⟩ := orow N hNo
            subst hro
            have hogl := hid (World.block_lt_of_cell? w _ ox)
            have hrgl := hid (World.block_lt_of_cell? w _ y0)
            dsimp only [Hid] at hogl hrgl
            replace hogl := hid hogl
            replace hrgl := hid hrgl
            replace ox := hC.out.old.cell ox
            replace y0 := hC.out.old.cell y0
            replace y1 := hC.out.old.cell y1
            have hop : curOp O (walkTo O P (walk0 mk gt ts n) i) p = (O[p]?.getD [])[N]?.getD (0, 0) := by unfold curOp; rw [hN]
            rw [hop] at hwh
            generalize (O[p]?.getD [])[N]?.getD (0, 0) = op at *
            obtain ⟨kd, xx⟩ := op
            dsimp only at y0 y1 hwh
            have hge2 : decide (ln ≤ N) = false := by simp; omega
            have hNo' : (N : Int) < (ln : Int) := by omega
            have kho := hid ho1
            have kwh := hid hwh
            have kN := hid hN
            clear arow orow hF ho1 hwh hop hN hL hln
            go_wp2_with fail
            go_region
            go_wp2_with fail
            go_region
            go_wp2_with fail
            have oD : Old wr wr.drew.drew := ((Old.refl wr).drewN 1).drewN 1
            have hCD := hid (hC.out.frm oD (fun k e => e.elim))
            replace nx0 := oD.cell nx0
            replace ax := oD.cell ax
            replace r0 := oD.cell r0
            replace r1 := oD.cell r1
            replace r2 := oD.cell r2
            replace ox := oD.cell ox
            replace y0 := oD.cell y0
            replace y1 := oD.cell y1
            have kwr := hid oD
            generalize wr.drew.drew = wD at *
            have hlt := hid hCD.out.lt
            have hnn := hid hCD.out.ne
            have hwl := hid hCD.out.old.size
            have hdl : Hid (db < wD.heap.size ∧ sb < wD.heap.size ∧ nb < wD.heap.size ∧ eb < wD.heap.size) := by
              have l1 : db < wD.heap.size := by obtain ⟨c, t, hb⟩ := hCD.out.doc.blk; exact (Array.getElem?_eq_some_iff.1 hb).1
              exact ⟨l1, (Array.getElem?_eq_some_iff.1 hCD.out.doc.row.choose_spec).1, hCD.out.nxt.lt, (Array.getElem?_eq_some_iff.1 hCD.out.fin).1⟩
            have bo : ¬ (og = db ∨ og = sb) := by have := hlt.out; have := hogl.out; omega
            have br : ¬ (rg = db ∨ rg = sb) := by have := hlt.out; have := hrgl.out; omega
            have bn : ¬ (nb = db ∨ nb = sb) := by have := hnn.out; omega
            have kS := hid (⟨nx0, ax, r0, r1, r2⟩ : wD.cell? ⟨nb, p, none⟩ = some (.int .i64 (N : Int)) ∧ wD.cell? ⟨ab, p, none⟩ = some (.slice (some ⟨g, 0, none⟩) L ac) ∧ wD.cell? ⟨g, N * 3, none⟩ = some (.int .i64 a1) ∧ wD.cell? ⟨g, N * 3 + 1, none⟩ = some (.bool a2) ∧ wD.cell? ⟨g, N * 3 + 2, none⟩ = some (.int .i64 (i : Int)))
            clear ax r0 r1 r2 nxf hC
            refine wp_region_noPanic ?_
            refine wp_region_held_drew (S := fun X => Frm (fun k => k = db ∨ k = sb) wD X) (by kernel_rfl) ((Frm.refl _ wD).drewN 1) (fun hHeld => ?_)
            have hD0 : Hid (DocX wD.drew db sb (walkTo O P (walk0 mk gt ts n) i).s) := hCD.out.doc.frm ((Old.refl wD).drewN 1) (fun h => h) (fun h => h)
            have hz0 : Hid (wD.heap.size ≤ wD.drew.heap.size) := hHeld.size
            generalize wD.drew = W0 at *
            refine' wpAnyH_take (i := 0) rfl (by kernel_rfl) (by kernel_rfl) (by kernel_rfl) (fun _ _ _ h => h) (Or.inl ⟨by rfl, ?_⟩) hHeld ?_
            rotate_left
            · intro W hSw
              have q1 := frm_cell hSw ox bo
              have q2 := frm_cell hSw y0 br
              have q3 := frm_cell hSw y1 br
              have q4 := frm_cell hSw nx0 bn
              clear hSw
              simp only [List.getElem_toArray, List.getElem_cons_zero]
              go_simp
              all_goals with_reducible rfl
            simp only [List.getElem_toArray, List.getElem_cons_zero, Act.put, List.setIfInBounds_toArray, List.set_cons_zero, List.set_cons_succ]
            refine' wpAnyH_take (i := 1) rfl (by kernel_rfl) (by kernel_rfl) (by kernel_rfl) (fun _ _ _ h => h) (Or.inl ⟨by rfl, ?_⟩) hHeld ?_
            rotate_left
            · intro W hSw
              have q1 := frm_cell hSw ox bo
              have q2 := frm_cell hSw y0 br
              have q3 := frm_cell hSw y1 br
              have q4 := frm_cell hSw nx0 bn
              clear hSw
              simp only [List.getElem_toArray, List.getElem_cons_zero, List.getElem_cons_succ]
              go_simp
              all_goals with_reducible rfl
            simp only [List.getElem_toArray, List.getElem_cons_zero, List.getElem_cons_succ, Act.put, List.setIfInBounds_toArray, List.set_cons_zero, List.set_cons_succ]
            refine' wpAnyH_take (i := 2) rfl (by kernel_rfl) (by kernel_rfl) (by kernel_rfl) (fun _ _ _ h => h) (Or.inl ⟨by rfl, ?_⟩) hHeld ?_
            rotate_left
            · intro W hSw
              have q1 := frm_cell hSw ox bo
              have q2 := frm_cell hSw y0 br
              have q3 := frm_cell hSw y1 br
              have q4 := frm_cell hSw nx0 bn
              clear hSw
              simp only [List.getElem_toArray, List.getElem_cons_zero, List.getElem_cons_succ]
              go_simp
              all_goals with_reducible rfl
            simp only [List.getElem_toArray, List.getElem_cons_zero, List.getElem_cons_succ, Act.put, List.setIfInBounds_toArray, List.set_cons_zero, List.set_cons_succ]
            refine' wpAnyH_take (i := 3) rfl (by kernel_rfl) (by kernel_rfl) (by kernel_rfl) (fun _ _ _ h => h) (Or.inl ⟨by rfl, ?_⟩) hHeld ?_
            rotate_left
            · intro W hSw
              have q1 := frm_cell hSw ox bo
              have q2 := frm_cell hSw y0 br
              have q3 := frm_cell hSw y1 br
              have q4 := frm_cell hSw nx0 bn
              clear hSw
              simp only [List.getElem_toArray, List.getElem_cons_zero, List.getElem_cons_succ]
              go_simp
              all_goals with_reducible rfl
            simp only [List.getElem_toArray, List.getElem_cons_zero, List.getElem_cons_succ, Act.put, List.setIfInBounds_toArray, List.set_cons_zero, List.set_cons_succ]
            refine' wpAnyH_take (i := 4) rfl (by kernel_rfl) (by kernel_rfl) (by kernel_rfl) (fun _ _ _ h => h) (Or.inl ⟨by rfl, ?_⟩) hHeld ?_
            rotate_left
            · intro W hSw
              have q1 := frm_cell hSw ox bo
              have q2 := frm_cell hSw y0 br
              have q3 := frm_cell hSw y1 br
              have q4 := frm_cell hSw nx0 bn
              clear hSw
              simp only [List.getElem_toArray, List.getElem_cons_zero, List.getElem_cons_succ]
              go_simp
              all_goals with_reducible rfl
            simp only [List.getElem_toArray, List.getElem_cons_zero, List.getElem_cons_succ, Act.put, List.setIfInBounds_toArray, List.set_cons_zero, List.set_cons_succ]
            refine' wpAnyH_take (i := 5) rfl (by kernel_rfl) (by kernel_rfl) (by kernel_rfl) (fun _ _ _ h => h) (Or.inl ⟨by rfl, ?_⟩) hHeld ?_
            rotate_left
            · intro W hSw
              have q1 := frm_cell hSw ox bo
              have q2 := frm_cell hSw y0 br
              have q3 := frm_cell hSw y1 br
              have q4 := frm_cell hSw nx0 bn
              clear hSw
              simp only [List.getElem_toArray, List.getElem_cons_zero, List.getElem_cons_succ]
              go_simp
              all_goals with_reducible rfl
            simp only [List.getElem_toArray, List.getElem_cons_zero, List.getElem_cons_succ, Act.put, List.setIfInBounds_toArray, List.set_cons_zero, List.set_cons_succ]
            refine' wpAnyH_take (i := 6) rfl (by kernel_rfl) (by kernel_rfl) (by kernel_rfl) (fun _ _ _ h => h) (Or.inl ⟨by rfl, ?_⟩) hHeld ?_
            rotate_left
            · intro W hSw
              have q1 := frm_cell hSw ox bo
              have q2 := frm_cell hSw y0 br
              have q3 := frm_cell hSw y1 br
              have q4 := frm_cell hSw nx0 bn
              clear hSw
              simp only [List.getElem_toArray, List.getElem_cons_zero, List.getElem_cons_succ]
              go_simp
              all_goals with_reducible rfl
            simp only [List.getElem_toArray, List.getElem_cons_zero, List.getElem_cons_succ, Act.put, List.setIfInBounds_toArray, List.set_cons_zero, List.set_cons_succ]
            refine' wpAnyH_take (i := 7) rfl (by kernel_rfl) (by kernel_rfl) (by kernel_rfl) (fun _ _ _ h => h) (Or.inl ⟨by rfl, ?_⟩) hHeld ?_
            rotate_left
            · intro W hSw
              have q1 := frm_cell hSw ox bo
              have q2 := frm_cell hSw y0 br
              have q3 := frm_cell hSw y1 br
              have q4 := frm_cell hSw nx0 bn
              clear hSw
              simp only [List.getElem_toArray, List.getElem_cons_zero, List.getElem_cons_succ]
              go_simp
              all_goals with_reducible rfl
            simp only [List.getElem_toArray, List.getElem_cons_zero, List.getElem_cons_succ, Act.put, List.setIfInBounds_toArray, List.set_cons_zero, List.set_cons_succ]
            refine' wpAnyH_take (i := 8) rfl (by kernel_rfl) (by kernel_rfl) (by kernel_rfl) (fun _ _ _ h => h) (Or.inl ⟨by rfl, ?_⟩) hHeld ?_
            rotate_left
            · intro W hSw
              have q1 := frm_cell hSw ox bo
              have q2 := frm_cell hSw y0 br
              have q3 := frm_cell hSw y1 br
              have q4 := frm_cell hSw nx0 bn
              clear hSw
              simp only [List.getElem_toArray, List.getElem_cons_zero, List.getElem_cons_succ]
              go_simp
              all_goals with_reducible rfl
            simp only [List.getElem_toArray, List.getElem_cons_zero, List.getElem_cons_succ, Act.put, List.setIfInBounds_toArray, List.set_cons_zero, List.set_cons_succ]
            refine' wpAnyH_take (i := 9) rfl (by kernel_rfl) (by kernel_rfl) (by kernel_rfl) (fun _ _ _ h => h) (Or.inl ⟨by rfl, ?_⟩) hHeld ?_
            rotate_left
            · intro W hSw
              have q1 := frm_cell hSw ox bo
              have q2 := frm_cell hSw y0 br
              have q3 := frm_cell hSw y1 br
              have q4 := frm_cell hSw nx0 bn
              clear hSw
              simp only [List.getElem_toArray, List.getElem_cons_zero, List.getElem_cons_succ]
              go_simp
              all_goals with_reducible rfl
            simp only [List.getElem_toArray, List.getElem_cons_zero, List.getElem_cons_succ, Act.put, List.setIfInBounds_toArray, List.set_cons_zero, List.set_cons_succ]
            refine' wpAnyH_take (i := 10) rfl (by kernel_rfl) (by kernel_rfl) (by kernel_rfl) (fun _ _ _ h => h) (Or.inl ⟨by rfl, ?_⟩) hHeld ?_
            rotate_left
            · intro W hSw
              have q1 := frm_cell hSw ox bo
              have q2 := frm_cell hSw y0 br
              have q3 := frm_cell hSw y1 br
              have q4 := frm_cell hSw nx0 bn
              clear hSw
              simp only [List.getElem_toArray, List.getElem_cons_zero, List.getElem_cons_succ]
              go_simp
              all_goals with_reducible rfl
            simp only [List.getElem_toArray, List.getElem_cons_zero, List.getElem_cons_succ, Act.put, List.setIfInBounds_toArray, List.set_cons_zero, List.set_cons_succ]
            refine' wpAnyH_take (i := 11) rfl (by kernel_rfl) (by kernel_rfl) (by kernel_rfl) (fun _ _ _ h => h) (Or.inl ⟨by rfl, ?_⟩) hHeld ?_
            rotate_left
            · intro W hSw
              have q1 := frm_cell hSw ox bo
              have q2 := frm_cell hSw y0 br
              have q3 := frm_cell hSw y1 br
              have q4 := frm_cell hSw nx0 bn
              clear hSw
              simp only [List.getElem_toArray, List.getElem_cons_zero, List.getElem_cons_succ]
              go_simp
              all_goals with_reducible rfl
            simp only [List.getElem_toArray, List.getElem_cons_zero, List.getElem_cons_succ, Act.put, List.setIfInBounds_toArray, List.set_cons_zero, List.set_cons_succ]
            clear nx0 ox y0 y1
            refine wpAnyH_ready (rs := [12, 13]) (by kernel_rfl) (by simp) ?_
            refine AllReadyH.cons (o := _) rfl (fun K hK => ?_) (AllReadyH.cons (o := _) rfl (fun K hK => ?_) AllReadyH.nil)
            · simp only [List.getElem_toArray, List.getElem_cons_zero, List.getElem_cons_succ]
              go_simp
              refine (doc_do db sb p kd xx _ i W0 hD0.out (by rw [(hb0.out i).2]; simpa [walk0] using hpn) (hb0.out i).1 (by omega)).mono ?_
              rintro e W1 ⟨rfl, f1, d1⟩
              rw [kwh.out] at d1 ⊢
              dsimp only at d1 ⊢
              unfold ans
              have hH1 := Frm.trans hHeld f1 (fun _ _ h => h)
              have kd1 := hid d1
              clear f1 d1
              refine hK.out _ _ (hH1) (fun hHeld2 => ?_)
              clear hHeld hK
              have hHeld := hHeld2
              clear hHeld2
              clear hH1
              try simp only [Act.put, List.setIfInBounds_toArray, List.set_cons_zero, List.set_cons_succ]
              refine wpAnyH_ready (rs := [13]) (by kernel_rfl) (by simp) ?_
              refine AllReadyH.cons (o := _) rfl (fun K hK => ?_) AllReadyH.nil
              simp only [List.getElem_toArray, List.getElem_cons_zero, List.getElem_cons_succ]
              go_simp
              have hH2 := Frm.alloc hHeld (.cells #[.int .i64 0, .bool false, .int .i64 0] 52)
              have kd2 := hid (kd1.out.frm ((Old.refl W1).alloc (.cells #[.int .i64 0, .bool false, .int .i64 0] 52)) (fun h => h) (fun h => h))
              have kb2 := hid (heap_new W1 (.cells #[.int .i64 0, .bool false, .int .i64 0] 52))
              have hz2 : Hid (wD.heap.size ≤ W1.heap.size) := hHeld.size
              refine hK.out _ _ (hH2) (fun hHeld2 => ?_)
              clear hHeld hK
              have hHeld := hHeld2
              clear hHeld2
              clear hH2 kd1
              generalize W1.alloc (.cells #[.int .i64 0, .bool false, .int .i64 0] 52) = X2 at *
              generalize W1.heap.size = xb at *
              try simp only [Act.put, List.setIfInBounds_toArray, List.set_cons_zero, List.set_cons_succ]
              have g0 := (three_cells kb2.out).1
              have g1 := (three_cells kb2.out).2.1
              have g2 := (three_cells kb2.out).2.2.1
              have gz := (three_cells kb2.out).2.2.2
              have z0 := gz 0
              have z1 := gz 1
              have z2 := gz 2
              refine wpAnyH_ready (rs := [14]) (by kernel_rfl) (by simp) ?_
              refine AllReadyH.cons (o := _) rfl (fun K hK => ?_) AllReadyH.nil
              simp only [List.getElem_toArray, List.getElem_cons_zero, List.getElem_cons_succ]
              go_simp
              have hz := hz2.out
              have hdd := hdl.out
              have fX := Frm.setCell (Frm.setCell (Frm.setCell hHeld ⟨xb, 0, none⟩ (Or.inl hz) (.int .i64 a1)) ⟨xb, 1, none⟩ (Or.inl hz) (.bool a2)) ⟨xb, 2, none⟩ (Or.inl hz) (.int .i64 0)
              have fY := (set_three (a' := .int .i64 a1) (b' := .bool a2) (c' := .int .i64 0) kb2.out).2
              have dX := hid (kd2.out.frm fY (by omega) (by omega))
              have bX : Hid ((((X2.setCell ⟨xb, 0, none⟩ (.int .i64 a1)).setCell ⟨xb, 1, none⟩ (.bool a2)).setCell ⟨xb, 2, none⟩ (.int .i64 0)).heap[xb]? = some (.cells #[.int .i64 a1, .bool a2, .int .i64 0] 52 (0, 0))) := by
                have hb := kb2.out
                show _ = _
                simp [World.setCell, Array.getElem?_modify, hb]
              refine hK.out _ _ fX (fun hHeld2 => ?_)
              clear hK hHeld fY g0 g1 g2 gz z0 z1 z2 kd2 kb2 hHeld2
              have kX := hid fX
              clear fX
              generalize ((X2.setCell ⟨xb, 0, none⟩ (.int .i64 a1)).setCell ⟨xb, 1, none⟩ (.bool a2)).setCell ⟨xb, 2, none⟩ (.int .i64 0) = X3 at *
              try simp only [Act.put, List.setIfInBounds_toArray, List.set_cons_zero, List.set_cons_succ]
              refine wpAnyH_done (by kernel_rfl) ?_ _
              refine NoPanic.normal ?_
              have x2 := (three_cells bX.out).2.2.1
              have xf := (three_cells bX.out).2.2.2 2
              have kF4 := hid (Frm.setCell kX.out ⟨xb, 2, none⟩ (Or.inl hz) (.int .i64 (i : Int)))
              have f4 := frm_set X3 xb 2 (.int .i64 (i : Int))
              have kd4 := hid (dX.out.frm f4 (by omega) (by omega))
              have hb4 : (X3.setCell ⟨xb, 2, none⟩ (.int .i64 (i : Int))).heap[xb]? = some (.cells #[.int .i64 a1, .bool a2, .int .i64 (i : Int)] 52 (0, 0)) := by
                have hb := bX.out
                simp [World.setCell, Array.getElem?_modify, hb]
              have w0 := (three_cells hb4).1
              have w1' := (three_cells hb4).2.1
              have w2' := (three_cells hb4).2.2.1
              obtain ⟨s1, s2, s3, s4, s5⟩ := kS.out
              have hltt := hlt.out
              have hg9 := hg2
              replace s1 := frm_cell kF4.out s1 bn
              replace s2 := frm_cell kF4.out s2 (by show ¬ (ab = db ∨ ab = sb); omega)
              replace s3 := frm_cell kF4.out s3 (by show ¬ (g = db ∨ g = sb); omega)
              replace s4 := frm_cell kF4.out s4 (by show ¬ (g = db ∨ g = sb); omega)
              replace s5 := frm_cell kF4.out s5 (by show ¬ (g = db ∨ g = sb); omega)
              have nfz : (X3.setCell ⟨xb, 2, none⟩ (.int .i64 (i : Int))).frozen? ⟨nb, p, none⟩ = false := ((hCD.out.nxt.kept kF4.out bn).cell (i := p) (by rw [nxL_len]; exact hpn)).2
              have hfin : Hid (CO w ab nb db sb eb eb n (fun j => (walkTo O P (walk0 mk gt ts n) m).out j) cs (walkTo O P (walk0 mk gt ts n) (i + 1)) (((X3.setCell ⟨xb, 2, none⟩ (.int .i64 (i : Int))).drew).setCell ⟨nb, p, none⟩ (.int .i64 ((N : Int) + 1)))) := by
                have := hCD.out.next (kF4.out.drewN 1) (kd4.out.frm ((Old.refl _).drewN 1) (fun h => h) (fun h => h)) kho.out
                rw [kN.out] at this
                exact this
              clear f4 hb4 dX bX kX kF4 kd4 hCD kS hz hdd hltt
              go_wp2_with fail
              generalize X3.setCell ⟨xb, 2, none⟩ (.int .i64 (i : Int)) = X4 at *
              clear x2 xf
              go_region
              go_wp2_with fail
              go_roundw
              case rel => exact ⟨i + 1, by omega, by go_num, hfin⟩
              case measure => simp [intOf]; omega
            · simp only [List.getElem_toArray, List.getElem_cons_zero, List.getElem_cons_succ]
              go_simp
              have hH2 := Frm.alloc hHeld (.cells #[.int .i64 0, .bool false, .int .i64 0] 52)
              have kdA := hid (hD0.out.frm ((Old.refl W0).alloc (.cells #[.int .i64 0, .bool false, .int .i64 0] 52)) (fun h => h) (fun h => h))
              have kbA := hid (heap_new W0 (.cells #[.int .i64 0, .bool false, .int .i64 0] 52))
              have hz2 : Hid (wD.heap.size ≤ W0.heap.size) := hHeld.size
              refine hK.out _ _ (hH2) (fun hHeld2 => ?_)
              clear hHeld hK
              have hHeld := hHeld2
              clear hHeld2
              clear hH2
              generalize W0.alloc (.cells #[.int .i64 0, .bool false, .int .i64 0] 52) = V2 at *
              generalize W0.heap.size = xb at *
              try simp only [Act.put, List.setIfInBounds_toArray, List.set_cons_zero, List.set_cons_succ]
              refine wpAnyH_ready (rs := [12]) (by kernel_rfl) (by simp) ?_
              refine AllReadyH.cons (o := _) rfl (fun K hK => ?_) AllReadyH.nil
              simp only [List.getElem_toArray, List.getElem_cons_zero, List.getElem_cons_succ]
              go_simp
              refine (doc_do db sb p kd xx _ i V2 kdA.out (by rw [(hb0.out i).2]; simpa [walk0] using hpn) (hb0.out i).1 (by omega)).mono ?_
              rintro e X2 ⟨rfl, f1, d1⟩
              rw [kwh.out] at d1 ⊢
              dsimp only at d1 ⊢
              unfold ans
              have hH1 := Frm.trans hHeld f1 (fun _ _ h => h)
              have kd2 := hid d1
              have kb2 : Hid (X2.heap[xb]? = some (.cells #[.int .i64 0, .bool false, .int .i64 0] 52 (0, 0))) := by
                rw [Hid, f1.block xb (Array.getElem?_eq_some_iff.1 kbA.out).1 (by have := hz2.out; have := hdl.out; omega)]
                exact kbA.out
              clear f1 d1
              refine hK.out _ _ (hH1) (fun hHeld2 => ?_)
              clear hHeld hK
              have hHeld := hHeld2
              clear hHeld2
              clear hH1 kdA kbA
              try simp only [Act.put, List.setIfInBounds_toArray, List.set_cons_zero, List.set_cons_succ]
              have g0 := (three_cells kb2.out).1
              have g1 := (three_cells kb2.out).2.1
              have g2 := (three_cells kb2.out).2.2.1
              have gz := (three_cells kb2.out).2.2.2
              have z0 := gz 0
              have z1 := gz 1
              have z2 := gz 2
              refine wpAnyH_ready (rs := [14]) (by kernel_rfl) (by simp) ?_
              refine AllReadyH.cons (o := _) rfl (fun K hK => ?_) AllReadyH.nil
              simp only [List.getElem_toArray, List.getElem_cons_zero, List.getElem_cons_succ]
              go_simp
              have hz := hz2.out
              have hdd := hdl.out
              have fX := Frm.setCell (Frm.setCell (Frm.setCell hHeld ⟨xb, 0, none⟩ (Or.inl hz) (.int .i64 a1)) ⟨xb, 1, none⟩ (Or.inl hz) (.bool a2)) ⟨xb, 2, none⟩ (Or.inl hz) (.int .i64 0)
              have fY := (set_three (a' := .int .i64 a1) (b' := .bool a2) (c' := .int .i64 0) kb2.out).2
              have dX := hid (kd2.out.frm fY (by omega) (by omega))
              have bX : Hid ((((X2.setCell ⟨xb, 0, none⟩ (.int .i64 a1)).setCell ⟨xb, 1, none⟩ (.bool a2)).setCell ⟨xb, 2, none⟩ (.int .i64 0)).heap[xb]? = some (.cells #[.int .i64 a1, .bool a2, .int .i64 0] 52 (0, 0))) := by
                have hb := kb2.out
                show _ = _
                simp [World.setCell, Array.getElem?_modify, hb]
              refine hK.out _ _ fX (fun hHeld2 => ?_)
              clear hK hHeld fY g0 g1 g2 gz z0 z1 z2 kd2 kb2 hHeld2
              have kX := hid fX
              clear fX
              generalize ((X2.setCell ⟨xb, 0, none⟩ (.int .i64 a1)).setCell ⟨xb, 1, none⟩ (.bool a2)).setCell ⟨xb, 2, none⟩ (.int .i64 0) = X3 at *
              try simp only [Act.put, List.setIfInBounds_toArray, List.set_cons_zero, List.set_cons_succ]
              refine wpAnyH_done (by kernel_rfl) ?_ _
              refine NoPanic.normal ?_
              have x2 := (three_cells bX.out).2.2.1
              have xf := (three_cells bX.out).2.2.2 2
              have kF4 := hid (Frm.setCell kX.out ⟨xb, 2, none⟩ (Or.inl hz) (.int .i64 (i : Int)))
              have f4 := frm_set X3 xb 2 (.int .i64 (i : Int))
              have kd4 := hid (dX.out.frm f4 (by omega) (by omega))
              have hb4 : (X3.setCell ⟨xb, 2, none⟩ (.int .i64 (i : Int))).heap[xb]? = some (.cells #[.int .i64 a1, .bool a2, .int .i64 (i : Int)] 52 (0, 0)) := by
                have hb := bX.out
                simp [World.setCell, Array.getElem?_modify, hb]
              have w0 := (three_cells hb4).1
              have w1' := (three_cells hb4).2.1
              have w2' := (three_cells hb4).2.2.1
              obtain ⟨s1, s2, s3, s4, s5⟩ := kS.out
              have hltt := hlt.out
              have hg9 := hg2
              replace s1 := frm_cell kF4.out s1 bn
              replace s2 := frm_cell kF4.out s2 (by show ¬ (ab = db ∨ ab = sb); omega)
              replace s3 := frm_cell kF4.out s3 (by show ¬ (g = db ∨ g = sb); omega)
              replace s4 := frm_cell kF4.out s4 (by show ¬ (g = db ∨ g = sb); omega)
              replace s5 := frm_cell kF4.out s5 (by show ¬ (g = db ∨ g = sb); omega)
              have nfz : (X3.setCell ⟨xb, 2, none⟩ (.int .i64 (i : Int))).frozen? ⟨nb, p, none⟩ = false := ((hCD.out.nxt.kept kF4.out bn).cell (i := p) (by rw [nxL_len]; exact hpn)).2
              have hfin : Hid (CO w ab nb db sb eb eb n (fun j => (walkTo O P (walk0 mk gt ts n) m).out j) cs (walkTo O P (walk0 mk gt ts n) (i + 1)) (((X3.setCell ⟨xb, 2, none⟩ (.int .i64 (i : Int))).drew).setCell ⟨nb, p, none⟩ (.int .i64 ((N : Int) + 1)))) := by
                have := hCD.out.next (kF4.out.drewN 1) (kd4.out.frm ((Old.refl _).drewN 1) (fun h => h) (fun h => h)) kho.out
                rw [kN.out] at this
                exact this
              clear f4 hb4 dX bX kX kF4 kd4 hCD kS hz hdd hltt
              go_wp2_with fail
              generalize X3.setCell ⟨xb, 2, none⟩ (.int .i64 (i : Int)) = X4 at *
              clear x2 xf
              go_region
              go_wp2_with fail
              go_roundw
              case rel => exact ⟨i + 1, by omega, by go_num, hfin⟩
              case measure => simp [intOf]; omega
        · go_upto_region 16 with fail
          rw [hmp.out hneg]
          clear hneg hmn hmp pc t1 t2 hn0 hnz
          obtain ⟨ar, ac, ax, arow⟩ := hC.out.ans p hpn
          have nx := hC.out.nxt.cell (i := p) (by rw [nxL_len]; exact hpn)
          rw [nxL_at _ _ _ hpn] at nx
          obtain ⟨nx0, nxf⟩ := nx
          have hNle := kle.out i p
          have hlp := kol.out p
          obtain ⟨N, hN⟩ : ∃ N, ((walkTo O P (walk0 mk gt ts n) i).out p).length = N := ⟨_, rfl⟩
          obtain ⟨L, hL⟩ : ∃ L, ((walkTo O P (walk0 mk gt ts n) m).out p).length = L := ⟨_, rfl⟩
          rw [hN] at nx0 hNle
          try dsimp only at ax arow
          rw [hL] at ax arow
          try dsimp only at kstep
          have kstep2 := kstep.out
          rw [hN] at kstep2
          clear kstep
          have hpn' : (p : Int) < (n : Int) := by omega
          have hN9 : (N : Int) ≤ 1000000000000 := by omega
          rcases kstep2 with ⟨hpass, hs1, ho1⟩ | ⟨a, hF, hNo, hwh, ho1⟩
          · have hC2 := hid (hC.out.same hs1 ho1)
            clear hs1 ho1
            by_cases hLN : L ≤ N
            · have hge : decide (L ≤ N) = true := by simpa using hLN
              have hd := hid (hC2.out.frm ((Old.refl wr).drewN 1) (fun k e => e.elim))
              clear hC hC2
              go_wp2_with fail
              go_region
              go_wp2_with fail
              go_roundw
              case rel => exact ⟨i + 1, by omega, by go_num, hd⟩
              case measure => simp [intOf]; omega
            · have hge : decide (L ≤ N) = false := by simpa using hLN
              obtain ⟨b, hb1, hb2⟩ := hpass.resolve_left (by rw [hL]; exact hLN)
              obtain ⟨g, hg1, hg2, r0, r1, r2⟩ := arow N (by omega)
              rw [hb1] at r0 r1 r2
              dsimp only [Option.getD_some] at r0 r1 r2
              have hne : (b.2.2 != (i : Int)) = true := by rw [bne_iff_ne]; exact hb2
              subst hg1
              have hd := hid (hC2.out.frm ((Old.refl wr).drewN 1) (fun k e => e.elim))
              have hNL : (N : Int) < (L : Int) := by omega
              generalize b.2.2 = b3 at *
              clear hC hC2 arow hpass hb1 r0 r1
              go_wp2_with fail
              go_region
              go_wp2_with fail
              go_roundw
              case rel => exact ⟨i + 1, by omega, by go_num, hd⟩
              case measure => simp [intOf]; omega
          · have hNL : N < L := by
              have := (List.getElem?_eq_some_iff.1 hF).1
              omega
            have hge : decide (L ≤ N) = false := by simp; omega
            obtain ⟨g, hg1, hg2, r0, r1, r2⟩ := arow N hNL
            rw [hF] at r0 r1 r2
            dsimp only [Option.getD_some] at r0 r1 r2
            have hne : ((i : Int) != (i : Int)) = false := by simp
            subst hg1
            have hNL' : (N : Int) < (L : Int) := by omega
            obtain ⟨a1, a2⟩ := a
            dsimp only at r0 r1 r2 hwh ho1
            obtain ⟨og, oo, ro, oc, rfl, ox, orow⟩ := kO.out p (by rw [kn.out]; exact hpn)
            obtain ⟨ln, hln⟩ : ∃ ln, (O[p]?.getD []).length = ln := ⟨_, rfl⟩
            rw [hln] at ox orow hNo
            obtain ⟨rg, rq, hro, y0, y1, -⟩ := orow N hNo
            subst hro
            have hogl := hid (World.block_lt_of_cell? w _ ox)
            have hrgl := hid (World.block_lt_of_cell? w _ y0)
            dsimp only [Hid] at hogl hrgl
            replace hogl := hid hogl
            replace hrgl := hid hrgl
            replace ox := hC.out.old.cell ox
            replace y0 := hC.out.old.cell y0
            replace y1 := hC.out.old.cell y1
            have hop : curOp O (walkTo O P (walk0 mk gt ts n) i) p = (O[p]?.getD [])[N]?.getD (0, 0) := by unfold curOp; rw [hN]
            rw [hop] at hwh
            generalize (O[p]?.getD [])[N]?.getD (0, 0) = op at *
            obtain ⟨kd, xx⟩ := op
            dsimp only at y0 y1 hwh
            have hge2 : decide (ln ≤ N) = false := by simp; omega
            have hNo' : (N : Int) < (ln : Int) := by omega
            have kho := hid ho1
            have kwh := hid hwh
            have kN := hid hN
            clear arow orow hF ho1 hwh hop hN hL hln
            go_wp2_with fail
            go_region
            go_wp2_with fail
            go_region
            go_wp2_with fail
            have oD : Old wr wr.drew.drew := ((Old.refl wr).drewN 1).drewN 1
            have hCD := hid (hC.out.frm oD (fun k e => e.elim))
            replace nx0 := oD.cell nx0
            replace ax := oD.cell ax
            replace r0 := oD.cell r0
            replace r1 := oD.cell r1
            replace r2 := oD.cell r2
            replace ox := oD.cell ox
            replace y0 := oD.cell y0
            replace y1 := oD.cell y1
            have kwr := hid oD
            generalize wr.drew.drew = wD at *
            have hlt := hid hCD.out.lt
            have hnn := hid hCD.out.ne
            have hwl := hid hCD.out.old.size
            have hdl : Hid (db < wD.heap.size ∧ sb < wD.heap.size ∧ nb < wD.heap.size ∧ eb < wD.heap.size) := by
              have l1 : db < wD.heap.size := by obtain ⟨c, t, hb⟩ := hCD.out.doc.blk; exact (Array.getElem?_eq_some_iff.1 hb).1
              exact ⟨l1, (Array.getElem?_eq_some_iff.1 hCD.out.doc.row.choose_spec).1, hCD.out.nxt.lt, (Array.getElem?_eq_some_iff.1 hCD.out.fin).1⟩
            have bo : ¬ (og = db ∨ og = sb) := by have := hlt.out; have := hogl.out; omega
            have br : ¬ (rg = db ∨ rg = sb) := by have := hlt.out; have := hrgl.out; omega
            have bn : ¬ (nb = db ∨ nb = sb) := by have := hnn.out; omega
            have kS := hid (⟨nx0, ax, r0, r1, r2⟩ : wD.cell? ⟨nb, p, none⟩ = some (.int .i64 (N : Int)) ∧ wD.cell? ⟨ab, p, none⟩ = some (.slice (some ⟨g, 0, none⟩) L ac) ∧ wD.cell? ⟨g, N * 3, none⟩ = some (.int .i64 a1) ∧ wD.cell? ⟨g, N * 3 + 1, none⟩ = some (.bool a2) ∧ wD.cell? ⟨g, N * 3 + 2, none⟩ = some (.int .i64 (i : Int)))
            clear ax r0 r1 r2 nxf hC
            refine wp_region_noPanic ?_
            refine wp_region_held_drew (S := fun X => Frm (fun k => k = db ∨ k = sb) wD X) (by kernel_rfl) ((Frm.refl _ wD).drewN 1) (fun hHeld => ?_)
            have hD0 : Hid (DocX wD.drew db sb (walkTo O P (walk0 mk gt ts n) i).s) := hCD.out.doc.frm ((Old.refl wD).drewN 1) (fun h => h) (fun h => h)
            have hz0 : Hid (wD.heap.size ≤ wD.drew.heap.size) := hHeld.size
            generalize wD.drew = W0 at *
            refine' wpAnyH_take (i := 0) rfl (by kernel_rfl) (by kernel_rfl) (by kernel_rfl) (fun _ _ _ h => h) (Or.inl ⟨by rfl, ?_⟩) hHeld ?_
            rotate_left
            · intro W hSw
              have q1 := frm_cell hSw ox bo
              have q2 := frm_cell hSw y0 br
              have q3 := frm_cell hSw y1 br
              have q4 := frm_cell hSw nx0 bn
              clear hSw
              simp only [List.getElem_toArray, List.getElem_cons_zero]
              go_simp
              all_goals with_reducible rfl
            simp only [List.getElem_toArray, List.getElem_cons_zero, Act.put, List.setIfInBounds_toArray, List.set_cons_zero, List.set_cons_succ]
            refine' wpAnyH_take (i := 1) rfl (by kernel_rfl) (by kernel_rfl) (by kernel_rfl) (fun _ _ _ h => h) (Or.inl ⟨by rfl, ?_⟩) hHeld ?_
            rotate_left
            · intro W hSw
              have q1 := frm_cell hSw ox bo
              have q2 := frm_cell hSw y0 br
              have q3 := frm_cell hSw y1 br
              have q4 := frm_cell hSw nx0 bn
              clear hSw
              simp only [List.getElem_toArray, List.getElem_cons_zero, List.getElem_cons_succ]
              go_simp
              all_goals with_reducible rfl
            simp only [List.getElem_toArray, List.getElem_cons_zero, List.getElem_cons_succ, Act.put, List.setIfInBounds_toArray, List.set_cons_zero, List.set_cons_succ]
            refine' wpAnyH_take (i := 2) rfl (by kernel_rfl) (by kernel_rfl) (by kernel_rfl) (fun _ _ _ h => h) (Or.inl ⟨by rfl, ?_⟩) hHeld ?_
            rotate_left
            · intro W hSw
              have q1 := frm_cell hSw ox bo
              have q2 := frm_cell hSw y0 br
              have q3 := frm_cell hSw y1 br
              have q4 := frm_cell hSw nx0 bn
              clear hSw
              simp only [List.getElem_toArray, List.getElem_cons_zero, List.getElem_cons_succ]
              go_simp
              all_goals with_reducible rfl
            simp only [List.getElem_toArray, List.getElem_cons_zero, List.getElem_cons_succ, Act.put, List.setIfInBounds_toArray, List.set_cons_zero, List.set_cons_succ]
            refine' wpAnyH_take (i := 3) rfl (by kernel_rfl) (by kernel_rfl) (by kernel_rfl) (fun _ _ _ h => h) (Or.inl ⟨by rfl, ?_⟩) hHeld ?_
            rotate_left
            · intro W hSw
              have q1 := frm_cell hSw ox bo
              have q2 := frm_cell hSw y0 br
              have q3 := frm_cell hSw y1 br
              have q4 := frm_cell hSw nx0 bn
              clear hSw
              simp only [List.getElem_toArray, List.getElem_cons_zero, List.getElem_cons_succ]
              go_simp
              all_goals with_reducible rfl
            simp only [List.getElem_toArray, List.getElem_cons_zero, List.getElem_cons_succ, Act.put, List.setIfInBounds_toArray, List.set_cons_zero, List.set_cons_succ]
            refine' wpAnyH_take (i := 4) rfl (by kernel_rfl) (by kernel_rfl) (by kernel_rfl) (fun _ _ _ h => h) (Or.inl ⟨by rfl, ?_⟩) hHeld ?_
            rotate_left
            · intro W hSw
              have q1 := frm_cell hSw ox bo
              have q2 := frm_cell hSw y0 br
              have q3 := frm_cell hSw y1 br
              have q4 := frm_cell hSw nx0 bn
              clear hSw
              simp only [List.getElem_toArray, List.getElem_cons_zero, List.getElem_cons_succ]
              go_simp
              all_goals with_reducible rfl
            simp only [List.getElem_toArray, List.getElem_cons_zero, List.getElem_cons_succ, Act.put, List.setIfInBounds_toArray, List.set_cons_zero, List.set_cons_succ]
            refine' wpAnyH_take (i := 5) rfl (by kernel_rfl) (by kernel_rfl) (by kernel_rfl) (fun _ _ _ h => h) (Or.inl ⟨by rfl, ?_⟩) hHeld ?_
            rotate_left
            · intro W hSw
              have q1 := frm_cell hSw ox bo
              have q2 := frm_cell hSw y0 br
              have q3 := frm_cell hSw y1 br
              have q4 := frm_cell hSw nx0 bn
              clear hSw
              simp only [List.getElem_toArray, List.getElem_cons_zero, List.getElem_cons_succ]
              go_simp
              all_goals with_reducible rfl
            simp only [List.getElem_toArray, List.getElem_cons_zero, List.getElem_cons_succ, Act.put, List.setIfInBounds_toArray, List.set_cons_zero, List.set_cons_succ]
            refine' wpAnyH_take (i := 6) rfl (by kernel_rfl) (by kernel_rfl) (by kernel_rfl) (fun _ _ _ h => h) (Or.inl ⟨by rfl, ?_⟩) hHeld ?_
            rotate_left
            · intro W hSw
              have q1 := frm_cell hSw ox bo
              have q2 := frm_cell hSw y0 br
              have q3 := frm_cell hSw y1 br
              have q4 := frm_cell hSw nx0 bn
              clear hSw
              simp only [List.getElem_toArray, List.getElem_cons_zero, List.getElem_cons_succ]
              go_simp
              all_goals with_reducible rfl
            simp only [List.getElem_toArray, List.getElem_cons_zero, List.getElem_cons_succ, Act.put, List.setIfInBounds_toArray, List.set_cons_zero, List.set_cons_succ]
            refine' wpAnyH_take (i := 7) rfl (by kernel_rfl) (by kernel_rfl) (by kernel_rfl) (fun _ _ _ h => h) (Or.inl ⟨by rfl, ?_⟩) hHeld ?_
            rotate_left
            · intro W hSw
              have q1 := frm_cell hSw ox bo
              have q2 := frm_cell hSw y0 br
              have q3 := frm_cell hSw y1 br
              have q4 := frm_cell hSw nx0 bn
              clear hSw
              simp only [List.getElem_toArray, List.getElem_cons_zero, List.getElem_cons_succ]
              go_simp
              all_goals with_reducible rfl
            simp only [List.getElem_toArray, List.getElem_cons_zero, List.getElem_cons_succ, Act.put, List.setIfInBounds_toArray, List.set_cons_zero, List.set_cons_succ]
            refine' wpAnyH_take (i := 8) rfl (by kernel_rfl) (by kernel_rfl) (by kernel_rfl) (fun _ _ _ h => h) (Or.inl ⟨by rfl, ?_⟩) hHeld ?_
            rotate_left
            · intro W hSw
              have q1 := frm_cell hSw ox bo
              have q2 := frm_cell hSw y0 br
              have q3 := frm_cell hSw y1 br
              have q4 := frm_cell hSw nx0 bn
              clear hSw
              simp only [List.getElem_toArray, List.getElem_cons_zero, List.getElem_cons_succ]
              go_simp
              all_goals with_reducible rfl
            simp only [List.getElem_toArray, List.getElem_cons_zero, List.getElem_cons_succ, Act.put, List.setIfInBounds_toArray, List.set_cons_zero, List.set_cons_succ]
            refine' wpAnyH_take (i := 9) rfl (by kernel_rfl) (by kernel_rfl) (by kernel_rfl) (fun _ _ _ h => h) (Or.inl ⟨by rfl, ?_⟩) hHeld ?_
            rotate_left
            · intro W hSw
              have q1 := frm_cell hSw ox bo
              have q2 := frm_cell hSw y0 br
              have q3 := frm_cell hSw y1 br
              have q4 := frm_cell hSw nx0 bn
              clear hSw
              simp only [List.getElem_toArray, List.getElem_cons_zero, List.getElem_cons_succ]
              go_simp
              all_goals with_reducible rfl
            simp only [List.getElem_toArray, List.getElem_cons_zero, List.getElem_cons_succ, Act.put, List.setIfInBounds_toArray, List.set_cons_zero, List.set_cons_succ]
            refine' wpAnyH_take (i := 10) rfl (by kernel_rfl) (by kernel_rfl) (by kernel_rfl) (fun _ _ _ h => h) (Or.inl ⟨by rfl, ?_⟩) hHeld ?_
            rotate_left
            · intro W hSw
              have q1 := frm_cell hSw ox bo
              have q2 := frm_cell hSw y0 br
              have q3 := frm_cell hSw y1 br
              have q4 := frm_cell hSw nx0 bn
              clear hSw
              simp only [List.getElem_toArray, List.getElem_cons_zero, List.getElem_cons_succ]
              go_simp
              all_goals with_reducible rfl
            simp only [List.getElem_toArray, List.getElem_cons_zero, List.getElem_cons_succ, Act.put, List.setIfInBounds_toArray, List.set_cons_zero, List.set_cons_succ]
            refine' wpAnyH_take (i := 11) rfl (by kernel_rfl) (by kernel_rfl) (by kernel_rfl) (fun _ _ _ h => h) (Or.inl ⟨by rfl, ?_⟩) hHeld ?_
            rotate_left
            · intro W hSw
              have q1 := frm_cell hSw ox bo
              have q2 := frm_cell hSw y0 br
              have q3 := frm_cell hSw y1 br
              have q4 := frm_cell hSw nx0 bn
              clear hSw
              simp only [List.getElem_toArray, List.getElem_cons_zero, List.getElem_cons_succ]
              go_simp
              all_goals with_reducible rfl
            simp only [List.getElem_toArray, List.getElem_cons_zero, List.getElem_cons_succ, Act.put, List.setIfInBounds_toArray, List.set_cons_zero, List.set_cons_succ]
            clear nx0 ox y0 y1
            refine wpAnyH_ready (rs := [12, 13]) (by kernel_rfl) (by simp) ?_
            refine AllReadyH.cons (o := _) rfl (fun K hK => ?_) (AllReadyH.cons (o := _) rfl (fun K hK => ?_) AllReadyH.nil)
            · simp only [List.getElem_toArray, List.getElem_cons_zero, List.getElem_cons_succ]
              go_simp
              refine (doc_do db sb p kd xx _ i W0 hD0.out (by rw [(hb0.out i).2]; simpa [walk0] using hpn) (hb0.out i).1 (by omega)).mono ?_
              rintro e W1 ⟨rfl, f1, d1⟩
              rw [kwh.out] at d1 ⊢
              dsimp only at d1 ⊢
              unfold ans
              have hH1 := Frm.trans hHeld f1 (fun _ _ h => h)
              have kd1 := hid d1
              clear f1 d1
              refine hK.out _ _ (hH1) (fun hHeld2 => ?_)
              clear hHeld hK
              have hHeld := hHeld2
              clear hHeld2
              clear hH1
              try simp only [Act.put, List.setIfInBounds_toArray, List.set_cons_zero, List.set_cons_succ]
              refine wpAnyH_ready (rs := [13]) (by kernel_rfl) (by simp) ?_
              refine AllReadyH.cons (o := _) rfl (fun K hK => ?_) AllReadyH.nil
              simp only [List.getElem_toArray, List.getElem_cons_zero, List.getElem_cons_succ]
              go_simp
              have hH2 := Frm.alloc hHeld (.cells #[.int .i64 0, .bool false, .int .i64 0] 52)
              have kd2 := hid (kd1.out.frm ((Old.refl W1).alloc (.cells #[.int .i64 0, .bool false, .int .i64 0] 52)) (fun h => h) (fun h => h))
              have kb2 := hid (heap_new W1 (.cells #[.int .i64 0, .bool false, .int .i64 0] 52))
              have hz2 : Hid (wD.heap.size ≤ W1.heap.size) := hHeld.size
              refine hK.out _ _ (hH2) (fun hHeld2 => ?_)
              clear hHeld hK
              have hHeld := hHeld2
              clear hHeld2
              clear hH2 kd1
              generalize W1.alloc (.cells #[.int .i64 0, .bool false, .int .i64 0] 52) = X2 at *
              generalize W1.heap.size = xb at *
              try simp only [Act.put, List.setIfInBounds_toArray, List.set_cons_zero, List.set_cons_succ]
              have g0 := (three_cells kb2.out).1
              have g1 := (three_cells kb2.out).2.1
              have g2 := (three_cells kb2.out).2.2.1
              have gz := (three_cells kb2.out).2.2.2
              have z0 := gz 0
              have z1 := gz 1
              have z2 := gz 2
              refine wpAnyH_ready (rs := [14]) (by kernel_rfl) (by simp) ?_
              refine AllReadyH.cons (o := _) rfl (fun K hK => ?_) AllReadyH.nil
              simp only [List.getElem_toArray, List.getElem_cons_zero, List.getElem_cons_succ]
              go_simp
              have hz := hz2.out
              have hdd := hdl.out
              have fX := Frm.setCell (Frm.setCell (Frm.setCell hHeld ⟨xb, 0, none⟩ (Or.inl hz) (.int .i64 a1)) ⟨xb, 1, none⟩ (Or.inl hz) (.bool a2)) ⟨xb, 2, none⟩ (Or.inl hz) (.int .i64 0)
              have fY := (set_three (a' := .int .i64 a1) (b' := .bool a2) (c' := .int .i64 0) kb2.out).2
              have dX := hid (kd2.out.frm fY (by omega) (by omega))
              have bX : Hid ((((X2.setCell ⟨xb, 0, none⟩ (.int .i64 a1)).setCell ⟨xb, 1, none⟩ (.bool a2)).setCell ⟨xb, 2, none⟩ (.int .i64 0)).heap[xb]? = some (.cells #[.int .i64 a1, .bool a2, .int .i64 0] 52 (0, 0))) := by
                have hb := kb2.out
                show _ = _
                simp [World.setCell, Array.getElem?_modify, hb]
              refine hK.out _ _ fX (fun hHeld2 => ?_)
              clear hK hHeld fY g0 g1 g2 gz z0 z1 z2 kd2 kb2 hHeld2
              have kX := hid fX
              clear fX
              generalize ((X2.setCell ⟨xb, 0, none⟩ (.int .i64 a1)).setCell ⟨xb, 1, none⟩ (.bool a2)).setCell ⟨xb, 2, none⟩ (.int .i64 0) = X3 at *
              try simp only [Act.put, List.setIfInBounds_toArray, List.set_cons_zero, List.set_cons_succ]
              refine wpAnyH_done (by kernel_rfl) ?_ _
              refine NoPanic.normal ?_
              have x2 := (three_cells bX.out).2.2.1
              have xf := (three_cells bX.out).2.2.2 2
              have kF4 := hid (Frm.setCell kX.out ⟨xb, 2, none⟩ (Or.inl hz) (.int .i64 (i : Int)))
              have f4 := frm_set X3 xb 2 (.int .i64 (i : Int))
              have kd4 := hid (dX.out.frm f4 (by omega) (by omega))
              have hb4 : (X3.setCell ⟨xb, 2, none⟩ (.int .i64 (i : Int))).heap[xb]? = some (.cells #[.int .i64 a1, .bool a2, .int .i64 (i : Int)] 52 (0, 0)) := by
                have hb := bX.out
                simp [World.setCell, Array.getElem?_modify, hb]
              have w0 := (three_cells hb4).1
              have w1' := (three_cells hb4).2.1
              have w2' := (three_cells hb4).2.2.1
              obtain ⟨s1, s2, s3, s4, s5⟩ := kS.out
              have hltt := hlt.out
              have hg9 := hg2
              replace s1 := frm_cell kF4.out s1 bn
              replace s2 := frm_cell kF4.out s2 (by show ¬ (ab = db ∨ ab = sb); omega)
              replace s3 := frm_cell kF4.out s3 (by show ¬ (g = db ∨ g = sb); omega)
              replace s4 := frm_cell kF4.out s4 (by show ¬ (g = db ∨ g = sb); omega)
              replace s5 := frm_cell kF4.out s5 (by show ¬ (g = db ∨ g = sb); omega)
              have nfz : (X3.setCell ⟨xb, 2, none⟩ (.int .i64 (i : Int))).frozen? ⟨nb, p, none⟩ = false := ((hCD.out.nxt.kept kF4.out bn).cell (i := p) (by rw [nxL_len]; exact hpn)).2
              have hfin : Hid (CO w ab nb db sb eb eb n (fun j => (walkTo O P (walk0 mk gt ts n) m).out j) cs (walkTo O P (walk0 mk gt ts n) (i + 1)) (((X3.setCell ⟨xb, 2, none⟩ (.int .i64 (i : Int))).drew).setCell ⟨nb, p, none⟩ (.int .i64 ((N : Int) + 1)))) := by
                have := hCD.out.next (kF4.out.drewN 1) (kd4.out.frm ((Old.refl _).drewN 1) (fun h => h) (fun h => h)) kho.out
                rw [kN.out] at this
                exact this
              clear f4 hb4 dX bX kX kF4 kd4 hCD kS hz hdd hltt
              go_wp2_with fail
              generalize X3.setCell ⟨xb, 2, none⟩ (.int .i64 (i : Int)) = X4 at *
              clear x2 xf
              go_region
              go_wp2_with fail
              go_roundw
              case rel => exact ⟨i + 1, by omega, by go_num, hfin⟩
              case measure => simp [intOf]; omega
            · simp only [List.getElem_toArray, List.getElem_cons_zero, List.getElem_cons_succ]
              go_simp
              have hH2 := Frm.alloc hHeld (.cells #[.int .i64 0, .bool false, .int .i64 0] 52)
              have kdA := hid (hD0.out.frm ((Old.refl W0).alloc (.cells #[.int .i64 0, .bool false, .int .i64 0] 52)) (fun h => h) (fun h => h))
              have kbA := hid (heap_new W0 (.cells #[.int .i64 0, .bool false, .int .i64 0] 52))
              have hz2 : Hid (wD.heap.size ≤ W0.heap.size) := hHeld.size
              refine hK.out _ _ (hH2) (fun hHeld2 => ?_)
              clear hHeld hK
              have hHeld := hHeld2
              clear hHeld2
              clear hH2
              generalize W0.alloc (.cells #[.int .i64 0, .bool false, .int .i64 0] 52) = V2 at *
              generalize W0.heap.size = xb at *
              try simp only [Act.put, List.setIfInBounds_toArray, List.set_cons_zero, List.set_cons_succ]
              refine wpAnyH_ready (rs := [12]) (by kernel_rfl) (by simp) ?_
              refine AllReadyH.cons (o := _) rfl (fun K hK => ?_) AllReadyH.nil
              simp only [List.getElem_toArray, List.getElem_cons_zero, List.getElem_cons_succ]
              go_simp
              refine (doc_do db sb p kd xx _ i V2 kdA.out (by rw [(hb0.out i).2]; simpa [walk0] using hpn) (hb0.out i).1 (by omega)).mono ?_
              rintro e X2 ⟨rfl, f1, d1⟩
              rw [kwh.out] at d1 ⊢
              dsimp only at d1 ⊢
              unfold ans
              have hH1 := Frm.trans hHeld f1 (fun _ _ h => h)
              have kd2 := hid d1
              have kb2 : Hid (X2.heap[xb]? = some (.cells #[.int .i64 0, .bool false, .int .i64 0] 52 (0, 0))) := by
                rw [Hid, f1.block xb (Array.getElem?_eq_some_iff.1 kbA.out).1 (by have := hz2.out; have := hdl.out; omega)]
                exact kbA.out
              clear f1 d1
              refine hK.out _ _ (hH1) (fun hHeld2 => ?_)
              clear hHeld hK
              have hHeld := hHeld2
              clear hHeld2
              clear hH1 kdA kbA
              try simp only [Act.put, List.setIfInBounds_toArray, List.set_cons_zero, List.set_cons_succ]
              have g0 := (three_cells kb2.out).1
              have g1 := (three_cells kb2.out).2.1
              have g2 := (three_cells kb2.out).2.2.1
              have gz := (three_cells kb2.out).2.2.2
              have z0 := gz 0
              have z1 := gz 1
              have z2 := gz 2
              refine wpAnyH_ready (rs := [14]) (by kernel_rfl) (by simp) ?_
              refine AllReadyH.cons (o := _) rfl (fun K hK => ?_) AllReadyH.nil
              simp only [List.getElem_toArray, List.getElem_cons_zero, List.getElem_cons_succ]
              go_simp
              have hz := hz2.out
              have hdd := hdl.out
              have fX := Frm.setCell (Frm.setCell (Frm.setCell hHeld ⟨xb, 0, none⟩ (Or.inl hz) (.int .i64 a1)) ⟨xb, 1, none⟩ (Or.inl hz) (.bool a2)) ⟨xb, 2, none⟩ (Or.inl hz) (.int .i64 0)
              have fY := (set_three (a' := .int .i64 a1) (b' := .bool a2) (c' := .int .i64 0) kb2.out).2
              have dX := hid (kd2.out.frm fY (by omega) (by omega))
              have bX : Hid ((((X2.setCell ⟨xb, 0, none⟩ (.int .i64 a1)).setCell ⟨xb, 1, none⟩ (.bool a2)).setCell ⟨xb, 2, none⟩ (.int .i64 0)).heap[xb]? = some (.cells #[.int .i64 a1, .bool a2, .int .i64 0] 52 (0, 0))) := by
                have hb := kb2.out
                show _ = _
                simp [World.setCell, Array.getElem?_modify, hb]
              refine hK.out _ _ fX (fun hHeld2 => ?_)
              clear hK hHeld fY g0 g1 g2 gz z0 z1 z2 kd2 kb2 hHeld2
              have kX := hid fX
              clear fX
              generalize ((X2.setCell ⟨xb, 0, none⟩ (.int .i64 a1)).setCell ⟨xb, 1, none⟩ (.bool a2)).setCell ⟨xb, 2, none⟩ (.int .i64 0) = X3 at *
              try simp only [Act.put, List.setIfInBounds_toArray, List.set_cons_zero, List.set_cons_succ]
              refine wpAnyH_done (by kernel_rfl) ?_ _
              refine NoPanic.normal ?_
              have x2 := (three_cells bX.out).2.2.1
              have xf := (three_cells bX.out).2.2.2 2
              have kF4 := hid (Frm.setCell kX.out ⟨xb, 2, none⟩ (Or.inl hz) (.int .i64 (i : Int)))
              have f4 := frm_set X3 xb 2 (.int .i64 (i : Int))
              have kd4 := hid (dX.out.frm f4 (by omega) (by omega))
              have hb4 : (X3.setCell ⟨xb, 2, none⟩ (.int .i64 (i : Int))).heap[xb]? = some (.cells #[.int .i64 a1, .bool a2, .int .i64 (i : Int)] 52 (0, 0)) := by
                have hb := bX.out
                simp [World.setCell, Array.getElem?_modify, hb]
              have w0 := (three_cells hb4).1
              have w1' := (three_cells hb4).2.1
              have w2' := (three_cells hb4).2.2.1
              obtain ⟨s1, s2, s3, s4, s5⟩ := kS.out
              have hltt := hlt.out
              have hg9 := hg2
              replace s1 := frm_cell kF4.out s1 bn
              replace s2 := frm_cell kF4.out s2 (by show ¬ (ab = db ∨ ab = sb); omega)
              replace s3 := frm_cell kF4.out s3 (by show ¬ (g = db ∨ g = sb); omega)
              replace s4 := frm_cell kF4.out s4 (by show ¬ (g = db ∨ g = sb); omega)
              replace s5 := frm_cell kF4.out s5 (by show ¬ (g = db ∨ g = sb); omega)
              have nfz : (X3.setCell ⟨xb, 2, none⟩ (.int .i64 (i : Int))).frozen? ⟨nb, p, none⟩ = false := ((hCD.out.nxt.kept kF4.out bn).cell (i := p) (by rw [nxL_len]; exact hpn)).2
              have hfin : Hid (CO w ab nb db sb eb eb n (fun j => (walkTo O P (walk0 mk gt ts n) m).out j) cs (walkTo O P (walk0 mk gt ts n) (i + 1)) (((X3.setCell ⟨xb, 2, none⟩ (.int .i64 (i : Int))).drew).setCell ⟨nb, p, none⟩ (.int .i64 ((N : Int) + 1)))) := by
                have := hCD.out.next (kF4.out.drewN 1) (kd4.out.frm ((Old.refl _).drewN 1) (fun h => h) (fun h => h)) kho.out
                rw [kN.out] at this
                exact this
              clear f4 hb4 dX bX kX kF4 kd4 hCD kS hz hdd hltt
              go_wp2_with fail
              generalize X3.setCell ⟨xb, 2, none⟩ (.int .i64 (i : Int)) = X4 at *
              clear x2 xf
              go_region
              go_wp2_with fail
              go_roundw
              case rel => exact ⟨i + 1, by omega, by go_num, hfin⟩
              case measure => simp [intOf]; omega
      · obtain rfl : i = m := by omega
        have him' : ¬ (i : Int) < (i : Int) := by omega
        go_wp2_with fail
        go_loopw [16] (fun t wr => ∃ k : Nat, k ≤ n ∧ t = .int .i64 (k : Int) ∧ Hid (CO w ab nb db sb eb eb n (fun j => (walkTo O P (walk0 mk gt ts n) i).out j) cs (walkTo O P (walk0 mk gt ts n) i) wr)) (fun t _ => n - (intOf t).toNat)
        case atStart => exact ⟨0, Nat.zero_le _, rfl, hC⟩
        case round =>
          obtain ⟨k, hk, rfl, hC2⟩ := hrel
          by_cases hkn : k < n
          · have hkn' : (k : Int) < (n : Int) := by omega
            obtain ⟨ar, ac, ax, -⟩ := hC2.out.ans k hkn
            have nx := hC2.out.nxt.cell (i := k) (by rw [nxL_len]; exact hkn)
            rw [nxL_at _ _ _ hkn] at nx
            obtain ⟨nx0, -⟩ := nx
            try dsimp only at ax
            generalize ((walkTo O P (walk0 mk gt ts n) i).out k).length = L at *
            have hne : ((L : Int) != (L : Int)) = false := by simp
            have hd := hid (hC2.out.frm ((Old.refl wr).drewN 1) (fun k e => e.elim))
            clear hC hC2
            go_wp2_with fail
            go_region
            go_wp2_with fail
            go_roundw
            case rel => exact ⟨k + 1, by omega, by go_num, hd⟩
            case measure => simp [intOf]; omega
          · obtain rfl : k = n := by omega
            have hkn' : ¬ (k : Int) < (k : Int) := by omega
            go_wp2_with fail
            have hf := hC2.out.fin
            rw [← kcs.out] at hf
            have gg : ∀ i v, (#[.int .i64 e0, .int .i64 e1, .int .i64 e2, .int .i64 e3, .bool e4, .int .i64 e5, .bool e6, .int .i64 e7] : Array Value)[i]? = some v → wr.cell? ⟨eb, i, none⟩ = some v := fun i v hv => by simp only [World.cell?, hf]; exact hv
            have g0 := gg 0 _ rfl
            have g1 := gg 1 _ rfl
            have g2 := gg 2 _ rfl
            have g3 := gg 3 _ rfl
            have g4 := gg 4 _ rfl
            have g5 := gg 5 _ rfl
            have g6 := gg 6 _ rfl
            have g7 := gg 7 _ rfl
            clear gg hf
            have kEn := hid (fun X (o : Old wr X) => doc_end db sb _ X (hC2.out.doc.frm o (fun h => h) (fun h => h)) (hb0.out i).1.len)
            rw [ke.out] at kEn
            have kfo := hid hC2.out.old
            refine wp_region_noPanic ?_
            refine wp_region_held_drew (S := fun X => Old wr X) (by kernel_rfl) ((Old.refl wr).drewN 1) (fun hHeld => ?_)
            generalize wr.drew = W0 at *
            refine' wpAnyH_take (i := 0) rfl (by kernel_rfl) (by kernel_rfl) (by kernel_rfl) (fun _ _ _ h => h) (Or.inl ⟨by rfl, ?_⟩) hHeld ?_
            rotate_left
            · intro W hSw
              have q0 := Old.cell hSw g0
              have q1 := Old.cell hSw g1
              have q2 := Old.cell hSw g2
              have q3 := Old.cell hSw g3
              have q4 := Old.cell hSw g4
              have q5 := Old.cell hSw g5
              have q6 := Old.cell hSw g6
              have q7 := Old.cell hSw g7
              clear hSw
              simp only [List.getElem_toArray, List.getElem_cons_zero]
              go_simp
              all_goals with_reducible rfl
            simp only [List.getElem_toArray, List.getElem_cons_zero, Act.put, List.setIfInBounds_toArray, List.set_cons_zero, List.set_cons_succ]
            refine' wpAnyH_take (i := 1) rfl (by kernel_rfl) (by kernel_rfl) (by kernel_rfl) (fun _ _ _ h => h) (Or.inl ⟨by rfl, ?_⟩) hHeld ?_
            rotate_left
            · intro W hSw
              clear hSw
              simp only [List.getElem_toArray, List.getElem_cons_zero, List.getElem_cons_succ]
              go_simp
              all_goals with_reducible rfl
            simp only [List.getElem_toArray, List.getElem_cons_zero, List.getElem_cons_succ, Act.put, List.setIfInBounds_toArray, List.set_cons_zero, List.set_cons_succ]
            refine wpAnyH_ready (rs := [2]) (by kernel_rfl) (by simp) ?_
            refine AllReadyH.cons (o := _) rfl (fun K hK => ?_) AllReadyH.nil
            simp only [List.getElem_toArray, List.getElem_cons_zero, List.getElem_cons_succ]
            go_simp
            refine (kEn.out _ hHeld).mono ?_
            rintro e W1 ⟨rfl, o1⟩
            have hH1 := hHeld.trans o1
            clear o1
            refine hK.out _ _ (hH1) (fun hHeld2 => ?_)
            clear hHeld hK
            have hHeld := hHeld2
            clear hHeld2
            clear hH1
            try simp only [Act.put, List.setIfInBounds_toArray, List.set_cons_zero, List.set_cons_succ]
            refine' wpAnyH_take (i := 3) rfl (by kernel_rfl) (by kernel_rfl) (by kernel_rfl) (fun _ _ _ h => h) (Or.inl ⟨by rfl, ?_⟩) hHeld ?_
            rotate_left
            · intro W hSw
              clear hSw
              simp only [List.getElem_toArray, List.getElem_cons_zero, List.getElem_cons_succ]
              go_simp
              all_goals with_reducible rfl
            simp only [List.getElem_toArray, List.getElem_cons_zero, List.getElem_cons_succ, Act.put, List.setIfInBounds_toArray, List.set_cons_zero, List.set_cons_succ]
            refine' wpAnyH_take (i := 4) rfl (by kernel_rfl) (by kernel_rfl) (by kernel_rfl) (fun _ _ _ h => h) (Or.inl ⟨by rfl, ?_⟩) hHeld ?_
            rotate_left
            · intro W hSw
              clear hSw
              simp only [List.getElem_toArray, List.getElem_cons_zero, List.getElem_cons_succ]
              go_simp
              all_goals with_reducible rfl
            simp only [List.getElem_toArray, List.getElem_cons_zero, List.getElem_cons_succ, Act.put, List.setIfInBounds_toArray, List.set_cons_zero, List.set_cons_succ]
            refine wpAnyH_done (by kernel_rfl) ?_ _
            refine NoPanic.normal ?_
            have kfin := hid (kfo.out.trans hHeld)
            clear hHeld g0 g1 g2 g3 g4 g5 g6 g7
            go_wp2_with fail
            go_ret
            exact ⟨by simp, kfin.out⟩
end Go.Proofs.Ytpnnfkgnkalhlaa
