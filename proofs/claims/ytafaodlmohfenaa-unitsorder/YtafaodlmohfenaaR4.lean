/- The document's Wrong and Sell: walked. -/
import Derived.Test.YtafaodlmohfenaaR3
import Derived.Test.YtafaodlmohfenaaM3
namespace Go.Proofs.Ytafaodlmohfenaa
open Go.RowKit

set_option maxRecDepth 100000 in
set_option maxHeartbeats 8000000 in
theorem rwrong_any (count fl : Int) (ao : Option Addr) (cap : Nat) (B : List (List Int)) (w : World) (hB : BidsC w ao B) (hf : Few B) :
    Calls Try.prog 21 #[.int .i64 count, .int .i64 fl, .slice ao B.length cap] w fun e w' => e = .returned (.int .i64 (rfZ count fl B)) ∧ ∃ q, w' = w.drewN q := by
  have kC := hid (fun w => rcoins_any fl w)
  have kB := hid hB
  have kf := hid hf
  have hfew := hf.few
  clear hB hf
  by_cases h1 : count < 1
  · have ke := hid (rf_head (B := B) (show hdB count fl = true by simp [hdB, h1]))
    go_enter Try.func21, Try.ntmps21
    go_wp2_with fail
    go_ret
    exact ⟨by rw [ke.out]; rfl, 0, rfl⟩
  · by_cases h2 : count > 64
    · have ke := hid (rf_head (B := B) (show hdB count fl = true by simp [hdB, h2]))
      go_enter Try.func21, Try.ntmps21
      go_wp2_with fail
      go_ret
      exact ⟨by rw [ke.out]; rfl, 0, rfl⟩
    · cases hco : coB fl
      · have ke := hid (rf_head (B := B) (show hdB count fl = true by simp [hdB, hco]))
        rw [hco] at kC
        go_enter Try.func21, Try.ntmps21
        go_wp2_with (go_at_call 30; refine (kC.out _).mono ?_; rintro e w' ⟨rfl, e2⟩; rw [e2]; clear e2)
        go_ret
        exact ⟨by rw [ke.out]; rfl, 0, rfl⟩
      · have hh : Hid (hdB count fl = false) := by show _ = _; simp [hdB, hco, h1, h2]
        have ke := hid (rf_body (B := B) hh.out hfew)
        rw [hco] at kC
        have h3 : ¬ (B.length : Int) > 4096 := by omega
        go_enter Try.func21, Try.ntmps21
        go_wp2_with (go_at_call 30; refine (kC.out _).mono ?_; rintro e w' ⟨rfl, e2⟩; rw [e2]; clear e2)
        go_loopw [8, 7] (fun t z wr => ∃ (k : Nat) (x : Int), k ≤ B.length ∧ t = .int .i64 (k : Int) ∧ z = .int .i64 x ∧ Hid (anyB (fun i => wrB count (bd B i)) k = false) ∧ Hid (x = if anyB (fun i => lowB fl (bd B i)) k then 7 else 0) ∧ Hid (Drw w wr)) (fun t _ _ => B.length - (intOf t).toNat)
        case atStart => exact ⟨0, 0, Nat.zero_le _, rfl, rfl, rfl, rfl, hid (Drw.refl w)⟩
        case round =>
          obtain ⟨k, x, hk, rfl, rfl, hb, hx, hD⟩ := hrel
          by_cases hlt : k < B.length
          · have hlt' : (k : Int) < (B.length : Int) := by omega
            obtain ⟨g, o, rfl, ai, c, c1, hc, hn⟩ := kB.out.old hD.out.old k hlt
            have kW := hid (rcheck_any count fl ai c (bd B k) wr hn (kf.out.row k hlt))
            have hbs := hid (show anyB (fun i => wrB count (bd B i)) (k + 1) = (anyB (fun i => wrB count (bd B i)) k || wrB count (bd B k)) from rfl)
            have hls := hid (show anyB (fun i => lowB fl (bd B i)) (k + 1) = (anyB (fun i => lowB fl (bd B i)) k || lowB fl (bd B k)) from rfl)
            rw [hb.out] at hbs
            cases hw : wrB count (bd B k)
            · rw [hw] at hbs
              rw [ck_low hh.out hw] at kW
              cases hlo : lowB fl (bd B k)
              · rw [hlo] at kW hls
                rw [Bool.or_false] at hls
                generalize (bd B k).length = rl at *
                clear hn hw
                go_wp2_with fail
                refine kW.out.mono ?_
                rintro e w' ⟨rfl, q, e2⟩
                have hD2 : Hid (Drw w w') := by rw [e2]; exact hid (hD.out.more q)
                clear e2 kW
                go_wp2_with fail
                go_roundw
                case rel => exact ⟨k + 1, x, by omega, by go_num, rfl, hbs, by show _ = _; rw [hls.out]; exact hx.out, hD2⟩
                case measure => simp [intOf]; omega
              · rw [hlo] at kW hls
                rw [Bool.or_true] at hls
                generalize (bd B k).length = rl at *
                clear hn hw
                go_wp2_with fail
                refine kW.out.mono ?_
                rintro e w' ⟨rfl, q, e2⟩
                have hD2 : Hid (Drw w w') := by rw [e2]; exact hid (hD.out.more q)
                clear e2 kW
                go_wp2_with fail
                go_roundw
                case rel => exact ⟨k + 1, 7, by omega, by go_num, rfl, hbs, by show _ = _; rw [hls.out]; rfl, hD2⟩
                case measure => simp [intOf]; omega
            · rw [ck_wrong hh.out hw] at kW
              have hfin : Hid (rfZ count fl B = 2) := by
                show _ = _
                rw [ke.out, anyB_true hlt hw]; rfl
              generalize (bd B k).length = rl at *
              clear hn
              go_wp2_with fail
              refine kW.out.mono ?_
              rintro e w' ⟨rfl, q, e2⟩
              have hD2 : Hid (Drw w w') := by rw [e2]; exact hid (hD.out.more q)
              clear e2 kW
              go_wp2_with fail
              go_ret
              exact ⟨by rw [hfin.out]; rfl, hD2.out.q⟩
          · obtain rfl : k = B.length := by omega
            have hlt' : ¬ (B.length : Int) < (B.length : Int) := by omega
            have hfin : Hid (rfZ count fl B = x) := by
              show _ = _
              rw [ke.out, hb.out, hx.out]; rfl
            go_wp2_with fail
            go_ret
            exact ⟨by rw [hfin.out]; rfl, hD.out.q⟩

/-- Where the document's Sell stands. -/
structure SI (w : World) (s wb n : Nat) (v : Value) (O : List Un) (p x : Int) (q : List Un) (Y : World) : Prop where
  res : Y.heap[s]? = some zeroS
  won : Own .i64 3 Y wb (wonL q n)
  sale : Y.heap[wb + 1]? = some (.cells #[.int .i64 p, .slice (some ⟨wb, 0, none⟩) n n, .int .i64 x] 30 (0, 0))
  row : RowU w.heap.size Y v O
  old : Old w Y
  lt : w.heap.size ≤ s ∧ s < wb ∧ ∀ g, v.ownBlock = some g → g < wb
theorem SI.drewN {w : World} {s wb n : Nat} {v : Value} {O : List Un} {p x : Int} {q : List Un} {Y : World} (h : SI w s wb n v O p x q Y) (k : Nat) : SI w s wb n v O p x q (Y.drewN k) := by
  have o : Old Y (Y.drewN k) := (Old.refl Y).drewN k
  exact ⟨blk_frm h.res o (fun h => h), h.won.kept o (fun h => h), blk_frm h.sale o (fun h => h), h.row.old o, h.old.trans o, h.lt⟩
theorem rowU_frm {B : Nat} {S : Nat → Prop} {w w' : World} {v : Value} {O : List Un} (h : RowU B w v O) (f : Frm S w w') (hS : ∀ g, v.ownBlock = some g → ¬ S g) : RowU B w' v O := by
  refine ⟨h.1, ?_⟩
  rcases h.2 with h2 | ⟨g, cap, cur, rfl, h3, h4, h5⟩
  · exact Or.inl h2
  · exact Or.inr ⟨g, cap, cur, rfl, h3, by rw [f.block g (blk_lt h4) (hS g rfl)]; exact h4, h5⟩
theorem SI.next {w : World} {s wb n : Nat} {v : Value} {O : List Un} {p x : Int} {q : List Un} {Y : World} (h : SI w s wb n v O p x q Y) (u : Un) : SI w s wb n v O p x (q ++ [u]) (Y.setCell ⟨wb, u.b, none⟩ (.int .i64 ((cntU q u.b : Int) + 1))) := by
  have f := frm_set Y wb u.b (.int .i64 ((cntU q u.b : Int) + 1))
  have hlt := h.lt
  refine ⟨blk_frm h.res f (by omega), ?_, blk_frm h.sale f (by omega), rowU_frm h.row f (fun g e => by have := hlt.2.2 g e; omega), Frm.trans h.old f (fun i hi e => by omega), h.lt⟩
  have := h.won.set u.b ((cntU q u.b : Int) + 1)
  rwa [wonL_snoc] at this
theorem SI.turn {w : World} {s wb n : Nat} {v : Value} {O : List Un} {p x : Int} {q : List Un} {Y : World} (h : SI w s wb n v O p x q Y) (p' x' : Int) : SI w s wb n v O p' x' q ((Y.setCell ⟨wb + 1, 0, none⟩ (.int .i64 p')).setCell ⟨wb + 1, 2, none⟩ (.int .i64 x')) := by
  have f := Frm.trans (frm_set Y (wb + 1) 0 (.int .i64 p')) (frm_set (Y.setCell ⟨wb + 1, 0, none⟩ (.int .i64 p')) (wb + 1) 2 (.int .i64 x')) (fun _ _ h => h)
  have hlt := h.lt
  refine ⟨blk_frm h.res f (by omega), h.won.kept f (by omega), ?_, rowU_frm h.row f (fun g e => by have := hlt.2.2 g e; omega), Frm.trans h.old f (fun i hi e => by omega), h.lt⟩
  rw [heap_set _ (heap_set _ h.sale)]
  rfl


set_option maxRecDepth 100000 in
set_option maxHeartbeats 16000000 in
theorem rsell_any (count fl : Int) (ao : Option Addr) (cp : Nat) (B : List (List Int)) (w : World) (hC : BidsC w ao B) (hl : B.length ≤ 40) (hr : ∀ i, i < B.length → (bd B i).length ≤ 100) :
    Calls Try.prog 13 #[.int .i64 count, .int .i64 fl, .slice ao B.length cp] w fun e w' => SellP w w' (rfZ count fl B) (seP count fl B) (seX count fl B) (seL count fl B) e ∧ Old w w' := by
  have hf : Few B := ⟨by omega, fun i hi => by have := hr i hi; omega⟩
  have o1 : Old w (w.alloc zeroS) := (Old.refl w).alloc _
  have kR := hid (rwrong_any count fl ao cp B (w.alloc zeroS) (hC.old o1) hf)
  have hz := heap_new w zeroS
  have kC := hid (hC.old o1)
  have ko := hid o1
  have kr := hid hr
  clear hC o1 hr
  obtain ⟨z0, z1, z2, zf⟩ := zeroS_at hz
  have hlt := blk_lt hz
  have kz := hid hz
  by_cases h0 : rfZ count fl B = 0
  · have hok := ok_of h0 hf
    obtain ⟨cn, hcn⟩ : ∃ cn : Nat, count = (cn : Int) := ⟨count.toNat, by have := hok.cnt; omega⟩
    have kse : Hid (seP count fl B = saP cn fl (ordU B) ∧ seX count fl B = saN cn (ordU B) ∧ seL count fl B = wonL ((ordU B).take cn) B.length) := by
      have ht : count.toNat = cn := by omega
      unfold seP seX seL
      rw [if_pos h0, if_pos h0, if_pos h0, ht]
      exact ⟨rfl, rfl, rfl⟩
    rw [h0] at kR ⊢
    have kok := hid hok
    have hcnt := hok.cnt
    subst hcn
    clear h0 hok hz
    unfold zeroS at *
    go_enter Try.func13, Try.ntmps13
    go_wp2_with fail
    generalize w.alloc (.cells #[.int .i64 0, .slice none 0 0, .int .i64 0] 30) = w1 at *
    refine kR.out.mono ?_
    rintro e w2 ⟨rfl, q, e2⟩
    have o2 : Old w1 w2 := by rw [e2]; exact (Old.refl w1).drewN q
    have kO := hid (rorder_any ao cp B w2 (kC.out.old o2) hl kr.out)
    have kz2 := hid (blk_frm kz.out o2 (fun h => h))
    have ko2 := hid (ko.out.trans o2)
    have hw2 := hid o2.size
    clear e2 kR o2 z0 z1 z2 zf kC
    go_wp2_with fail
    refine kO.out.mono ?_
    rintro e w3 ⟨v, rfl, hR, o3⟩
    have kz3 := hid (blk_frm kz2.out o3 (fun h => h))
    have ko3 := hid (ko2.out.trans o3)
    have hM := make_i B.length (by omega) w3
    obtain ⟨s, hs⟩ : ∃ s, w.heap.size = s := ⟨_, rfl⟩
    have ks := hid hs
    rw [hs] at kz3 hlt ⊢
    have hlen : (ordU B).length ≤ 100 * 40 := by
      have h1 := oa_len kr.out (Nat.le_refl B.length) (k := 0) (Nat.zero_le _)
      rw [oa_done] at h1
      omega
    have hSI0 : Hid (SI w s w3.heap.size B.length v (ordU B) fl (-1) [] ((w3.alloc (zeroI B.length)).alloc (.cells #[.int .i64 fl, .slice (some ⟨w3.heap.size, 0, none⟩) B.length B.length, .int .i64 (-1)] 30))) := by
      have oA : Old w3 ((w3.alloc (zeroI B.length)).alloc (.cells #[.int .i64 fl, .slice (some ⟨w3.heap.size, 0, none⟩) B.length B.length, .int .i64 (-1)] 30)) := ((Old.refl w3).alloc _).alloc _
      refine ⟨blk_frm kz3.out oA (fun h => h), (own_made w3 B.length).kept ((Old.refl _).alloc _) (fun h => h), ?_, ?_, ko3.out.trans oA, by have := ks.out; omega, ?_, ?_⟩
      · have := heap_new (w3.alloc (zeroI B.length)) (.cells #[.int .i64 fl, .slice (some ⟨w3.heap.size, 0, none⟩) B.length B.length, .int .i64 (-1)] 30)
        rwa [alloc_size] at this
      · have hb : w.heap.size ≤ w2.heap.size := ko2.out.size
        have h2 := hR.old oA
        refine ⟨h2.1, ?_⟩
        rcases h2.2 with h3 | ⟨g, cap, cur, e, h3, h4⟩
        · exact Or.inl h3
        · exact Or.inr ⟨g, cap, cur, e, by omega, h4⟩
      · have := blk_lt kz3.out
        exact this
      · intro g hg
        obtain ⟨-, cur, hc⟩ := rowU_block hR hg
        exact blk_lt hc
    obtain ⟨av, cv, rfl⟩ : ∃ av cv, v = .slice av (ordU B).length cv := by
      rcases hR.form with ⟨rfl, e⟩ | ⟨b, cap, rfl, -⟩
      · exact ⟨none, 0, by rw [e]; rfl⟩
      · exact ⟨_, _, rfl⟩
    clear hs kO o3 hR kz kz2 kz3 ko2 ko3 hlt hw2
    go_wp2_with fail
    generalize (w3.alloc (zeroI B.length)).alloc (.cells #[.int .i64 fl, .slice (some ⟨w3.heap.size, 0, none⟩) B.length B.length, .int .i64 (-1)] 30) = w4 at *
    generalize w3.heap.size = wb at *
    clear hM
    go_loopw [11] (fun t wr => ∃ k : Nat, (k ≤ (ordU B).length ∧ k ≤ cn) ∧ t = .int .i64 (k : Int) ∧ Hid (SI w s wb B.length (.slice av (ordU B).length cv) (ordU B) fl (-1) ((ordU B).take k) wr)) (fun t _ => cn - (intOf t).toNat)
    case atStart => exact ⟨0, by omega, rfl, by rw [List.take_zero]; exact hSI0⟩
    case round =>
      clear hSI0
      obtain ⟨k, hk, rfl, hSI⟩ := hrel
      have sl1 := blk_cells (i := 1) (v := .slice (some ⟨wb, 0, none⟩) B.length B.length) hSI.out.sale rfl
      by_cases hlt : k < (ordU B).length
      · have hlt' : (k : Int) < ((ordU B).length : Int) := by omega
        obtain ⟨lb, hlb⟩ : ∃ lb, av = some ⟨lb, 0, none⟩ := by
          rcases hSI.out.row.form with ⟨e, e0⟩ | ⟨b, cp, e, -⟩
          · rw [e0] at hlt; simp at hlt
          · simp only [Value.slice.injEq] at e
            exact ⟨b, e.1⟩
        subst hlb
        obtain ⟨x0, -, x2⟩ := hSI.out.row.own.1.cell k hlt
        have hmem := mem_ord.1 (List.getElem_mem hlt)
        have hgk := hg_eq hlt
        have hes : Hid ((ordU B).take k ++ [(ordU B)[k]] = (ordU B).take (k + 1)) := by
          show _ = _
          rw [List.take_succ_eq_append_getElem hlt]
        obtain ⟨⟨ub, up, uc⟩, hx⟩ : ∃ u, (ordU B)[k] = u := ⟨_, rfl⟩
        rw [hgk, hx] at x0 x2
        rw [hx] at hmem hes
        dsimp only at x0 x2 hmem
        by_cases hkc : k < cn
        · have hkc' : (k : Int) < (cn : Int) := by omega
          have hlen2 : ((ordU B).take k).length = k := by rw [List.length_take]; omega
          have hcl := cntU_le ((ordU B).take k) ub
          rw [hlen2] at hcl
          obtain ⟨wn0, wnf⟩ := hSI.out.won.cell (i := ub) (by rw [wonL_len]; exact hmem.1)
          rw [wonL_at hmem.1] at wn0
          have hub' : (ub : Int) < (B.length : Int) := by omega
          have hst := hid (hSI.out.next ⟨ub, up, uc⟩)
          rw [hes.out] at hst
          dsimp only at hst
          generalize cntU ((ordU B).take k) ub = z at *
          clear hmem hx hgk hSI hlen2 hes
          go_wp2_with fail
          go_region
          go_wp2_with fail
          go_roundw
          case rel => exact ⟨k + 1, by omega, by go_num, hid (hst.out.drewN 1)⟩
          case measure => simp [intOf]; omega
        · obtain rfl : k = cn := by omega
          have hkc' : ¬ (k : Int) < (k : Int) := by omega
          have hgt : ((ordU B).length : Int) > (k : Int) := by omega
          have hfl : fl ≤ uc := by
            have := kok.out.low ub hmem.1 up hmem.2.1
            rw [← hmem.2.2] at this
            exact this
          have hmax : max fl uc = uc := by omega
          have kse2 : Hid (seP (k : Int) fl B = uc ∧ seX (k : Int) fl B = (ub : Int) ∧ seL (k : Int) fl B = wonL ((ordU B).take k) B.length) := by
            refine ⟨?_, ?_, kse.out.2.2⟩
            · rw [kse.out.1]; unfold saP; rw [if_pos hlt, hgk, hx]
            · rw [kse.out.2.1]; unfold saN; rw [if_pos hlt, hgk, hx]
          have sl0 := blk_cells (i := 0) (v := .int .i64 fl) hSI.out.sale rfl
          have sl2 := blk_cells (i := 2) (v := .int .i64 (-1)) hSI.out.sale rfl
          have slf := fun i => blk_fz hSI.out.sale i
          have hst := hid ((hSI.out.turn uc (ub : Int)).drewN 1)
          have hst1 : Hid (SI w s wb B.length (.slice (some ⟨lb, 0, none⟩) (ordU B).length cv) (ordU B) uc (ub : Int) ((ordU B).take k) (World.drew _)) := hst
          have hlb2 : Hid (lb ≠ wb + 1) := fun e => by have := hSI.out.lt.2.2 lb rfl; omega
          clear hmem hx hgk hSI hfl hes hst
          have hlb3 := hlb2.out
          go_wp2_with fail
          go_region
          generalize World.drew _ = wq at *
          have hSI := hst1
          clear sl0 sl1 sl2 slf x0 x2 hst1
          have rs := zeroS_at hSI.out.res
          obtain ⟨r0, r1, r2, rf⟩ := rs
          have sl0 := blk_cells (i := 0) (v := .int .i64 uc) hSI.out.sale rfl
          have sl1 := blk_cells (i := 1) (v := .slice (some ⟨wb, 0, none⟩) B.length B.length) hSI.out.sale rfl
          have sl2 := blk_cells (i := 2) (v := .int .i64 (ub : Int)) hSI.out.sale rfl
          have kf := hid (frm_sets3 wq s (.int .i64 uc) (.slice (some ⟨wb, 0, none⟩) B.length B.length) (.int .i64 (ub : Int)))
          have kol := hid (Frm.trans hSI.out.old kf.out (fun i hi e => by have := hSI.out.lt; omega))
          obtain ⟨y0, y1, y2⟩ := sets3_cells (x := .int .i64 uc) (y := .slice (some ⟨wb, 0, none⟩) B.length B.length) (z := .int .i64 (ub : Int)) r0 r1 r2
          unfold sets3 at kf kol y0 y1 y2
          go_wp2_with fail
          refine bodyPost_ret (v := .tuple #[.agg #[.int .i64 uc, .slice (some ⟨wb, 0, none⟩) B.length B.length, .int .i64 (ub : Int)], .int .i64 0]) (by simp [results, Try.results13, go_sem, y0, y1, y2]) rfl ⟨⟨some ⟨wb, 0, none⟩, ?_, fun _ => ⟨wb, rfl, ?_, ?_⟩⟩, kol.out⟩
          · rw [kse2.out.1, kse2.out.2.1, kse2.out.2.2, wonL_len]; rfl
          · have := hSI.out.lt; omega
          · rw [kse2.out.2.2]
            exact hSI.out.won.kept kf.out (by have := hSI.out.lt; omega)
      · have hke : k = (ordU B).length := by omega
        have hlt' : ¬ (k : Int) < ((ordU B).length : Int) := by omega
        have hgt : ¬ ((ordU B).length : Int) > (cn : Int) := by omega
        have kse2 : Hid (seP (cn : Int) fl B = fl ∧ seX (cn : Int) fl B = -1 ∧ seL (cn : Int) fl B = wonL ((ordU B).take k) B.length) := by
          refine ⟨?_, ?_, ?_⟩
          · rw [kse.out.1]; unfold saP; rw [if_neg (by omega)]
          · rw [kse.out.2.1]; unfold saN; rw [if_neg (by omega)]
          · rw [kse.out.2.2, List.take_of_length_le (by omega), List.take_of_length_le (by omega)]
        clear hke sl1
        have rs := zeroS_at hSI.out.res
        obtain ⟨r0, r1, r2, rf⟩ := rs
        have sl0 := blk_cells (i := 0) (v := .int .i64 fl) hSI.out.sale rfl
        have sl1 := blk_cells (i := 1) (v := .slice (some ⟨wb, 0, none⟩) B.length B.length) hSI.out.sale rfl
        have sl2 := blk_cells (i := 2) (v := .int .i64 (-1)) hSI.out.sale rfl
        have kf := hid (frm_sets3 wr s (.int .i64 fl) (.slice (some ⟨wb, 0, none⟩) B.length B.length) (.int .i64 (-1)))
        have kol := hid (Frm.trans hSI.out.old kf.out (fun i hi e => by have := hSI.out.lt; omega))
        obtain ⟨y0, y1, y2⟩ := sets3_cells (x := .int .i64 fl) (y := .slice (some ⟨wb, 0, none⟩) B.length B.length) (z := .int .i64 (-1)) r0 r1 r2
        unfold sets3 at kf kol y0 y1 y2
        go_wp2_with fail
        refine bodyPost_ret (v := .tuple #[.agg #[.int .i64 fl, .slice (some ⟨wb, 0, none⟩) B.length B.length, .int .i64 (-1)], .int .i64 0]) (by simp [results, Try.results13, go_sem, y0, y1, y2]) rfl ⟨⟨some ⟨wb, 0, none⟩, ?_, fun _ => ⟨wb, rfl, ?_, ?_⟩⟩, kol.out⟩
        · rw [kse2.out.1, kse2.out.2.1, kse2.out.2.2, wonL_len]; rfl
        · have := hSI.out.lt; omega
        · rw [kse2.out.2.2]
          exact hSI.out.won.kept kf.out (by have := hSI.out.lt; omega)
  · have ke : Hid (seP count fl B = 0 ∧ seX count fl B = 0 ∧ seL count fl B = []) := by
      unfold seP seX seL
      rw [if_neg h0, if_neg h0, if_neg h0]
      exact ⟨rfl, rfl, rfl⟩
    obtain ⟨z, hz1⟩ : ∃ z, rfZ count fl B = z := ⟨_, rfl⟩
    rw [hz1] at kR h0 ⊢
    have hne : (z != 0) = true := by simpa using h0
    clear hz h0 hz1 kz
    unfold zeroS at *
    go_enter Try.func13, Try.ntmps13
    go_wp2_with fail
    generalize w.alloc (.cells #[.int .i64 0, .slice none 0 0, .int .i64 0] 30) = w1 at *
    refine kR.out.mono ?_
    rintro e w2 ⟨rfl, q, e2⟩
    have o2 : Old w1 w2 := by rw [e2]; exact (Old.refl w1).drewN q
    have ko2 := hid (ko.out.trans o2)
    obtain ⟨s, hs⟩ : ∃ s, w.heap.size = s := ⟨_, rfl⟩
    rw [hs] at z0 z1 z2 zf hlt ⊢
    have y0 := o2.cell z0
    have y1 := o2.cell z1
    have y2 := o2.cell z2
    have yf := fun j => frm_frozen o2 (p := ⟨s, j, none⟩) hlt (zf j) (fun h => h)
    have kf := hid (frm_sets3 w2 s (.int .i64 0) (.slice none 0 0) (.int .i64 0))
    have kol := hid (Frm.trans ko2.out kf.out (fun i hi e => by omega))
    obtain ⟨x0, x1, x2⟩ := sets3_cells (x := .int .i64 0) (y := .slice none 0 0) (z := .int .i64 0) y0 y1 y2
    unfold sets3 at kf kol x0 x1 x2
    clear e2 kR o2 z0 z1 z2 zf hlt hs
    go_wp2_with fail
    refine bodyPost_ret (v := .tuple #[.agg #[.int .i64 0, .slice none 0 0, .int .i64 0], .int .i64 z]) (by simp [results, Try.results13, go_sem, x0, x1, x2]) rfl ⟨⟨none, ?_, fun h => ?_⟩, kol.out⟩
    · rw [ke.out.1, ke.out.2.1, ke.out.2.2]; rfl
    · rw [ke.out.2.2] at h; simp at h
end Go.Proofs.Ytafaodlmohfenaa
