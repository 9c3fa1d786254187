/- CallFills: walked. -/
import Derived.Test.YtccbmmbcfcppeaaFX
import Derived.BigQuiet
import Derived.Deep.QuietTactic
namespace Go.Proofs.Ytccbmmbcfcppeaa
open Go.RowKit Go.Lib Go.Shelf
attribute [local go_sem] Oper.semAt_some

def g1B (L : List Wt) : Bool := decide (L.length > 100) && decide (L.length ≤ 4096)
set_option maxRecDepth 100000 in
set_option maxHeartbeats 16000000 in
theorem fills_walk (ao bo : Option Addr) (ca cb : Nat) (L M : List Wt) (leave : Int) (w : World) (hL : WC w ao L) (hM : WC w bo M) (hna : ao = none → ca = 0) (hnb : bo = none → cb = 0) (h1 : L.length * 16 ≤ 140737488355312) (h2 : M.length * 16 ≤ 140737488355312) :
    Calls Try.prog 4 #[.slice ao L.length ca, .slice bo M.length cb, .int .i64 leave] w fun e w' => e = .returned (.bool true) ∧ Old w w' := by
  have hfn : ∀ (w : World) (f : Fn) (a b : Array Value), (binOp .eql 48 (.func f a b) .nilFunc).run Try.prog w = .ok (.bool false) w := fun w f a b => by kernel_rfl
  have o1 : Old w ((w.alloc (.cells #[.int .i64 leave] 3)).alloc (.cells #[.bool false] 4)) := ((Old.refl w).alloc _).alloc _
  have b1 := hid (boxed_two w (.int .i64 leave) (.bool false) 3 4)
  have kL := hid (hL.old o1)
  have kM := hid (hM.old o1)
  have kK := hid known_any
  have ko := hid o1
  have kLe := hid (fun X (h : WC X ao L) => lent_any ao ca L X h hna h1)
  have kLm := hid (fun X (h : WC X bo M) => lent_any bo cb M X h hnb h2)
  have kB : Hid (L.length ≤ 9223372036854775807 ∧ M.length ≤ 9223372036854775807) := ⟨by omega, by omega⟩
  have kFi := hid (fun ao bo ca cb X hL hM n1 n2 => fills_any ao bo ca cb L M X hL hM n1 n2 kB.out.1 kB.out.2)
  have kFr := hid (fun X hL hM => rfills_any ao bo ca cb L M X hL hM kB.out.1 kB.out.2)
  have kFl := hid (fun b c X (o : OwnW X b (L ++ [(771, 0)])) (q : WC X ao L) (hc : L.length + 1 ≤ c) => left_any b c ao ca L X o q hc (by omega))
  have kFm := hid (fun b c X (o : OwnW X b (M ++ [(771, 0)])) (q : WC X bo M) (hc : M.length + 1 ≤ c) => left_any b c bo cb M X o q hc (by omega))
  have kOk := hid (flA_ok L M)
  clear o1 hL hM hna hnb
  refine (callsIn_wide (n := 5)).1 ?_
  refine callsIn_of_wp_marks Try.func4 rfl trivial ?_ rfl
  simp only [Try.ntmps4, List.size_toArray, List.length_cons, List.length_nil, Nat.reduceAdd, Nat.reduceSub, Array.replicate_succ, Array.replicate_zero, List.push_toArray, List.append_toArray, List.nil_append, List.cons_append]
  refine wpIn_wide.2 ?_
  go_upto_region 1 with fail
  generalize (w.alloc (.cells #[.int .i64 leave] 3)).alloc (.cells #[.bool false] 4) = w1 at *
  obtain ⟨s, hs⟩ : ∃ s, w.heap.size = s := ⟨_, rfl⟩
  have kss := hid hs
  rw [hs] at b1 ⊢
  clear hs
  obtain ⟨gg, hgg⟩ : ∃ gg : Bool, gg = (g1B L || g1B M) := ⟨_, rfl⟩
  go_cut [33] from 16 to 32 (fun p wx => p = .bool gg ∧ wx = w1)
  case first =>
    have hgg := hid hgg
    by_cases a1 : L.length > 100
    · have a1' : (L.length : Int) > 100 := by omega
      by_cases a2 : L.length ≤ 4096
      · have a2' : (L.length : Int) ≤ 4096 := by omega
        have kg : Hid (gg = true) := by show _ = _; rw [hgg.out]; unfold g1B; rw [decide_eq_true a1, decide_eq_true a2]; rfl
        go_wp2_with fail
        go_meet
        case rel => exact ⟨by rw [kg.out], rfl⟩
      · have a2' : ¬ (L.length : Int) ≤ 4096 := by omega
        by_cases a3 : M.length > 100
        · have a3' : (M.length : Int) > 100 := by omega
          by_cases a4 : M.length ≤ 4096
          · have a4' : (M.length : Int) ≤ 4096 := by omega
            have kg : Hid (gg = true) := by show _ = _; rw [hgg.out]; unfold g1B; rw [decide_eq_true a1, decide_eq_false a2]; rw [decide_eq_true a3, decide_eq_true a4]; rfl
            go_wp2_with fail
            go_meet
            case rel => exact ⟨by rw [kg.out], rfl⟩
          · have a4' : ¬ (M.length : Int) ≤ 4096 := by omega
            have kg : Hid (gg = false) := by show _ = _; rw [hgg.out]; unfold g1B; rw [decide_eq_true a1, decide_eq_false a2]; rw [decide_eq_true a3, decide_eq_false a4]; rfl
            go_wp2_with fail
            go_meet
            case rel => exact ⟨by rw [kg.out], rfl⟩
        · have a3' : ¬ (M.length : Int) > 100 := by omega
          have kg : Hid (gg = false) := by show _ = _; rw [hgg.out]; unfold g1B; rw [decide_eq_true a1, decide_eq_false a2]; rw [decide_eq_false a3]; rfl
          go_wp2_with fail
          go_meet
          case rel => exact ⟨by rw [kg.out], rfl⟩
    · have a1' : ¬ (L.length : Int) > 100 := by omega
      by_cases a3 : M.length > 100
      · have a3' : (M.length : Int) > 100 := by omega
        by_cases a4 : M.length ≤ 4096
        · have a4' : (M.length : Int) ≤ 4096 := by omega
          have kg : Hid (gg = true) := by show _ = _; rw [hgg.out]; unfold g1B; rw [decide_eq_false a1]; rw [decide_eq_true a3, decide_eq_true a4]; rfl
          go_wp2_with fail
          go_meet
          case rel => exact ⟨by rw [kg.out], rfl⟩
        · have a4' : ¬ (M.length : Int) ≤ 4096 := by omega
          have kg : Hid (gg = false) := by show _ = _; rw [hgg.out]; unfold g1B; rw [decide_eq_false a1]; rw [decide_eq_true a3, decide_eq_false a4]; rfl
          go_wp2_with fail
          go_meet
          case rel => exact ⟨by rw [kg.out], rfl⟩
      · have a3' : ¬ (M.length : Int) > 100 := by omega
        have kg : Hid (gg = false) := by show _ = _; rw [hgg.out]; unfold g1B; rw [decide_eq_false a1]; rw [decide_eq_false a3]; rfl
        go_wp2_with fail
        go_meet
        case rel => exact ⟨by rw [kg.out], rfl⟩
  case rest =>
    obtain ⟨rfl, rfl⟩ := hcut
    cases gg
    · clear hgg
      go_wp2_with fail
      refine (kLe.out _ kL.out).mono ?_
      rintro e w2 ⟨q1, c1, rfl, hc1, ow1, o2, hq1⟩
      have hs1 := blk_lt b1.out.2
      have kq1 := hid hq1
      have ks1 := hid hs1
      have kbl : Hid ((0 < L.length → ∀ ad, ao = some ad → ad.block < wc.heap.size) ∧ (0 < M.length → ∀ ad, bo = some ad → ad.block < wc.heap.size)) := ⟨fun hp ad e => kL.out.lt hp ad e, fun hp ad e => kM.out.lt hp ad e⟩
      have kL := hid (kL.out.old o2)
      have kM := hid (kM.out.old o2)
      have f1 := hid (boxed_olds b1.out.1 o2)
      have f2 := hid (boxed_olds b1.out.2 o2)
      have ko := hid (ko.out.trans o2)
      have ksz := hid o2.size
      have kw1 := hid ow1
      have kc1 := hid hc1
      clear o2 ow1 hc1 hq1 hs1 kLe b1
      go_wp2_with fail
      refine (kLm.out _ kM.out).mono ?_
      rintro e w3 ⟨q2, c2, rfl, hc2, ow2, o3, hq2⟩
      have kq2 := hid hq2
      have kql : Hid (q1 < w2.heap.size ∧ q2 < w3.heap.size) := ⟨kw1.out.lt, ow2.lt⟩
      have kL := hid (kL.out.old o3)
      have kM := hid (kM.out.old o3)
      have f1 := hid (boxed_olds f1.out o3)
      have f2 := hid (boxed_olds f2.out o3)
      have ko := hid (ko.out.trans o3)
      have ksz2 := hid o3.size
      have kw1 := hid (kw1.out.old o3)
      have kw2 := hid ow2
      have kc2 := hid hc2
      clear o3 ow2 hc2 hq2 kLm
      go_wp2_with fail
      refine (kFi.out (some ⟨q1, 0, none⟩) (some ⟨q2, 0, none⟩) c1 c2 w3 kw1.out.front.off kw2.out.front.off (fun h => by cases h) (fun h => by cases h)).mono ?_
      rintro e w4 ⟨b5, b6, b2, b3, rb, rs, a2, o2, c2', d2, rfl, hF, o4⟩
      obtain ⟨n1, hn1⟩ : ∃ n1, wc.heap.size = n1 := ⟨_, rfl⟩
      obtain ⟨N, hN⟩ : ∃ N, w3.heap.size = N := ⟨_, rfl⟩
      rw [hn1] at kq1 ks1 kbl ksz
      rw [hN] at hF kql ksz2
      have kP : Hid (PW w s n1 N ao bo L M b5 b6 b2 b3 rb rs a2 o2 c2' d2 leave w4) := ⟨boxed_olds f1.out o4, boxed_olds f2.out o4, kL.out.old o4, kM.out.old o4, hF, ko.out.trans o4, ⟨ks1.out, by have := kss.out; omega, by have := ksz.out; have := ksz2.out; omega⟩, kbl.out.1, kbl.out.2⟩
      have kql : Hid (n1 ≤ q1 ∧ q1 < N ∧ n1 ≤ q2 ∧ q2 < N ∧ q1 < q2) := by
        have := kq1.out
        have := kq2.out
        have := kql.out
        have := ksz.out
        have := ksz2.out
        show _ ∧ _
        omega
      have kw1 := hid (kw1.out.old o4)
      have kw2 := hid (kw2.out.old o4)
      unfold flsV
      clear o4 hF f1 f2 kL kM ko ks1 kbl ksz ksz2 kq1 kq2 hn1 hN kFi
      go_wp2_with fail
      refine (kFl.out q1 c1 w4 kw1.out kP.out.wl kc1.out).mono ?_
      rintro e w5 ⟨rfl, o5⟩
      have kP := hid (kP.out.olds o5)
      have kw1 := hid (kw1.out.old o5)
      have kw2 := hid (kw2.out.old o5)
      clear o5 kFl
      go_wp2_with fail
      refine (kFm.out q2 c2 w5 kw2.out kP.out.wm kc2.out).mono ?_
      rintro e w6 ⟨rfl, o6⟩
      have kP := hid (kP.out.olds o6)
      have kw1 := hid (kw1.out.old o6)
      have kw2 := hid (kw2.out.old o6)
      clear o6 kFm
      have kV : Hid (OvW q1 (L.length + 1) w6 w6) := ⟨⟨_, by simp, kw1.out⟩, Frm.refl _ _⟩
      have hb1 : L.length ≤ 8796093022207 := by omega
      have hb2 : M.length ≤ 8796093022207 := by omega
      clear h1 h2
      go_wp2_with fail
      go_loopw [10] (fun u wr => ∃ k : Nat, k ≤ L.length ∧ u = .int .i64 (k : Int) ∧ Hid (OvW q1 (L.length + 1) w6 wr)) (fun u _ => L.length - (intOf u).toNat)
      case atStart => exact ⟨0, Nat.zero_le _, rfl, kV⟩
      case round =>
        clear kV
        obtain ⟨k, hk, rfl, kV⟩ := hrel
        by_cases hlt : k < L.length
        · have hlt' : (k : Int) < (L.length : Int) := by omega
          obtain ⟨⟨⟨xa, xb⟩, x1, x2⟩, hfz, hset⟩ := kV.out.one (i := k) (by omega)
          dsimp only at x1 x2
          have z1 := hfz (k * 2)
          have z2 := hfz (k * 2 + 1)
          have kset := hid (hset (9, 9))
          clear hset hfz
          go_wp2_with fail
          go_roundw
          case rel => exact ⟨k + 1, by omega, by go_num, kset⟩
          case measure => simp [intOf]; omega
        · obtain rfl : k = L.length := by omega
          have hlt' : ¬ (L.length : Int) < (L.length : Int) := by omega
          go_wp2_with fail
          have fq1 := kV.out.2
          have kP := hid (kP.out.frm fq1 (fun j e => by have := kql.out; omega))
          have kw2 := hid (kw2.out.frm fq1 (fun e => by have := kql.out; omega))
          have kV : Hid (OvW q2 (M.length + 1) wr wr) := ⟨⟨_, by simp, kw2.out⟩, Frm.refl _ _⟩
          clear fq1
          generalize wr = X1 at *
          go_loopw [11] (fun u wr => ∃ k : Nat, k ≤ M.length ∧ u = .int .i64 (k : Int) ∧ Hid (OvW q2 (M.length + 1) X1 wr)) (fun u _ => M.length - (intOf u).toNat)
          case atStart => exact ⟨0, Nat.zero_le _, rfl, kV⟩
          case round =>
            clear kV
            obtain ⟨k, hk, rfl, kV⟩ := hrel
            by_cases hlt : k < M.length
            · have hlt' : (k : Int) < (M.length : Int) := by omega
              obtain ⟨⟨⟨xa, xb⟩, x1, x2⟩, hfz, hset⟩ := kV.out.one (i := k) (by omega)
              dsimp only at x1 x2
              have z1 := hfz (k * 2)
              have z2 := hfz (k * 2 + 1)
              have kset := hid (hset (0, 0))
              clear hset hfz
              go_wp2_with fail
              go_roundw
              case rel => exact ⟨k + 1, by omega, by go_num, kset⟩
              case measure => simp [intOf]; omega
            · obtain rfl : k = M.length := by omega
              have hlt' : ¬ (M.length : Int) < (M.length : Int) := by omega
              have fq2 := kV.out.2
              have kP := hid (kP.out.frm fq2 (fun j e => by have := kql.out; omega))
              clear fq2
              go_wp2_with fail
              generalize wr = X2 at *
              clear kV kw1 kw2 kql
              refine (kFr.out X2 kP.out.wl kP.out.wm).mono ?_
              rintro e w7 ⟨v, rfl, hRo, o7⟩
              obtain ⟨wa, wq, rfl, hWr⟩ : ∃ wa wq, v = .slice wa (fls (flA L M) (flB L M)).length wq ∧ WantF w7 wa (fls (flA L M) (flB L M)) w7.heap.size := by
                rcases hRo.form with ⟨rfl, e⟩ | ⟨b, cap, rfl, -, -, own⟩
                · exact ⟨none, 0, by rw [e]; rfl, fun hl => by rw [e] at hl; simp at hl⟩
                · exact ⟨_, _, rfl, fun hl => ⟨b, rfl, own.lt, own⟩⟩
              have hOlen : Hid ((fls (flA L M) (flB L M)).length ≤ 262144) := (tot_few kOk.out.1 kOk.out.2).2
              have kP := hid (kP.out.olds o7)
              have oA : Old w7 (w7.alloc (.cells #[.slice wa (fls (flA L M) (flB L M)).length wq] 52)) := (Old.refl w7).alloc _
              have hz8 : (w7.alloc (.cells #[.slice wa (fls (flA L M) (flB L M)).length wq] 52)).heap.size = w7.heap.size + 1 := alloc_size _ _
              obtain ⟨bw, hbw⟩ : ∃ bw, w7.heap.size = bw := ⟨_, rfl⟩
              have ex0 : Hid (EF w s bw (w7.alloc (.cells #[.slice wa (fls (flA L M) (flB L M)).length wq] 52)).heap.size b5 b6 b2 b3 rb rs a2 o2 c2' d2 (flA L M) (flB L M) wa wq leave (w7.alloc (.cells #[.slice wa (fls (flA L M) (flB L M)).length wq] 52))) := by
                have kq := kP.out.olds oA
                have hlt := kP.out.lt
                have hr := blk_lt kP.out.res
                refine ⟨kq.lea, kq.res, ?_, ?_, kq.fl.tr, kq.fl.tr.nt (fun k e => e), kq.old, ?_⟩
                · rw [← hbw]
                  exact Boxed.new w7 52 (.slice wa (fls (flA L M) (flB L M)).length wq)
                · intro hl
                  obtain ⟨b, e1, e2, e3⟩ := hWr hl
                  exact ⟨b, e1, by omega, e3.frm oA (fun h => h)⟩
                · omega
              have kM8 := hid (hz8.trans (congrArg (fun x => x + 1) hbw))
              clear hRo hWr o7 oA kP kFr hz8
              go_wp2_with fail
              generalize w7.alloc (.cells #[.slice wa (fls (flA L M) (flB L M)).length wq] 52) = w8 at *
              clear hbw
              have fbt1 := hid (Boxed.new w8 3 (.int .i64 0))
              have ex1 := hid (ex0.out.frm ((Old.refl w8).alloc (.cells #[.int .i64 0] 3)) (fun _ e => e.elim))
              generalize w8.alloc (.cells #[.int .i64 0] 3) = W9 at *
              rw [kM8.out] at ex1 fbt1
              clear kM8 ex0
              generalize bw + 1 = Mz at *
              refine wp_loop_rounds 3 ?_
              rw [rounds_succ]
              have bc0 := fbt1.out.cell
              go_wp2_with fail
              have hba1 := hid (blk_lt fbt1.out)
              have tI1 : Hid (TF w s bw Mz Mz W9.heap.size b5 b6 b2 b3 rb rs a2 o2 c2' d2 (flA L M) (flB L M) wa wq leave 0 0 (W9.alloc (.cells #[.int .i64 0] 3))) := ⟨Boxed.new W9 3 (.int .i64 0), boxed_olds fbt1.out ((Old.refl _).alloc _), ex1.out.frm ((Old.refl W9).alloc _) (fun b e => e.elim)⟩
              have hz1 : Hid ((W9.alloc (.cells #[.int .i64 0] 3)).heap.size = W9.heap.size + 1) := alloc_size _ _
              clear bc0
              generalize W9.alloc (.cells #[.int .i64 0] 3) = W10 at *
              generalize W9.heap.size = ba at *
              have e1 := hba1.out
              have e3 := hz1.out
              have elt := tI1.out.ex.lt
              refine range_joinB (n := 5) (by omega) (gf := 40) (lb := #[.pointer (some ⟨b5, 0, none⟩), .pointer (some ⟨b6, 0, none⟩), .pointer (some ⟨b2, 0, none⟩), .pointer (some ⟨b3, 0, none⟩)]) rfl (enters_of Try.func40 (by kernel_rfl) rfl)
                (tr_stops 4 (by omega) b5 b6 b2 b3 rb rs a2 o2 c2' d2 (flA L M) (flB L M) kOk.out.1 kOk.out.2 (fun j => j = ba) W10 (tI1.out.ex.nt.mono (fun j e => by omega)) tI1.out.ex.tr)
                (fun h k => h.trans k) (fun W o => KeptC.alloc W o) (fun W l o o' _ h1 h2 => KeptC.put W l o o' h1 h2) (fun _ => rfl) 6
                (fun p Y => ∃ k : Nat, p = (fls (flA L M) (flB L M)).take k ∧ k ≤ (fls (flA L M) (flB L M)).length ∧ TF w s bw Mz Mz ba b5 b6 b2 b3 rb rs a2 o2 c2' d2 (flA L M) (flB L M) wa wq leave 0 k Y ∧ (leave ≤ 0 ∨ (k : Int) < leave))
                (fun p Y => ∃ k : Nat, k ≤ (fls (flA L M) (flB L M)).length ∧ TF w s bw Mz Mz ba b5 b6 b2 b3 rb rs a2 o2 c2' d2 (flA L M) (flB L M) wa wq leave 0 k Y ∧ ((k : Int) = leave ∧ 1 ≤ k))
                (fun p Y => ∃ k : Nat, k ≤ (fls (flA L M) (flB L M)).length ∧ TF w s bw Mz Mz ba b5 b6 b2 b3 rb rs a2 o2 c2' d2 (flA L M) (flB L M) wa wq leave 0 k Y ∧ ((k = (fls (flA L M) (flB L M)).length ∧ (leave ≤ 0 ∨ (k : Int) < leave)) ∨ ((k : Int) = leave ∧ 1 ≤ k)))
                (fun p X Y ⟨k, h1, h2, h3, h4⟩ hf => ⟨k, h1, h2, h3.frm hf (fun j e => by omega), h4⟩)
                (fun p X Y ⟨k, h1, h2, h3⟩ hf => ⟨k, h1, h2.frm hf (fun j e => by omega), h3⟩)
                ⟨0, by rw [List.take_zero], Nat.zero_le _, tI1.out, by omega⟩
                (fun x => .cells #[.int .i64 (x.b : Int), .int .i64 (x.s : Int), .int .i64 (x.n : Int)] 55)
                (fun x m t => (t.setIfInBounds 84 (.agg #[.int .i64 (x.b : Int), .int .i64 (x.s : Int), .int .i64 (x.n : Int)])).setIfInBounds 15 (.pointer (some ⟨m, 0, none⟩))) ?assign1 ?body1
                (fun q Y hq ⟨k, h1, h2, h3, h4⟩ => ⟨k, h2, h3, Or.inl ⟨take_all h2 (h1.symm.trans hq), h4⟩⟩)
                (fun q Y _ ⟨k, h1, h2, h3⟩ => ⟨k, h1, h2, Or.inr h3⟩) ?hQ1 ?end1
              case assign1 =>
                intro l' x W K hK
                simp only [encF]
                simp only [List.setIfInBounds_toArray, List.set_cons_zero, List.set_cons_succ] at hK
                gi_wp2
                exact hK
              case hQ1 =>
                intro b W h
                exact inBlock_both (Or.inr rfl) h
              case body1 =>
                rintro l' p x m Y ⟨k, rfl, hkl, tI, hlw⟩ ⟨k', hk', hpk⟩ hOb hm
                have klw := hid hlw
                clear hlw
                obtain ⟨hlt, rfl, rfl⟩ := pre_next hkl hk' hpk
                have hes : Hid ((fls (flA L M) (flB L M)).take k ++ [(fls (flA L M) (flB L M))[k]] = (fls (flA L M) (flB L M)).take (k + 1)) := by
                  show _ = _
                  rw [List.take_succ_eq_append_getElem hlt]
                obtain ⟨bq, hwa, hbM, hown⟩ := tI.ex.row (by omega)
                subst hwa
                obtain ⟨e0, e1, e2⟩ := hown.cell k hlt
                rw [fA_eq hlt] at e0 e1 e2
                obtain ⟨⟨xb, xp, xc⟩, hx⟩ : ∃ x, (fls (flA L M) (flB L M))[k] = x := ⟨_, rfl⟩
                rw [hx] at e0 e1 e2 hOb hes ⊢
                dsimp only at e0 e1 e2 hOb ⊢
                have m0 := blk_cells (i := 0) (v := .int .i64 (xb : Int)) hOb rfl
                have m1 := blk_cells (i := 1) (v := .int .i64 (xp : Int)) hOb rfl
                have m2 := blk_cells (i := 2) (v := .int .i64 (xc : Int)) hOb rfl
                have wc0 := tI.ex.want.cell
                have ac0 := tI.at'.cell
                have tc0 := tI.turn.cell
                have vc0 := tI.ex.lea.cell
                have kI := hid tI
                have hol := hOlen.out
                have hlt' : (k : Int) < ((fls (flA L M) (flB L M)).length : Int) := by omega
                have hd1 : decide ((fls (flA L M) (flB L M)).length ≤ k) = false := by simp; omega
                have hk9 : (k : Int) ≤ 300000 := by omega
                have z1 := cell_lt e0
                have z2 := cell_lt m0
                have z3 := cell_lt wc0
                have z4 := cell_lt ac0
                simp only [List.setIfInBounds_toArray, List.set_cons_zero, List.set_cons_succ]
                clear tI hOb hpk hk' hx hown
                gi_wp2_with fail
                refine region_round (S := fun W => Old Y W) (by kernel_rfl) (by kernel_rfl) ((Old.refl Y).drewN 1) (fun hHeld => ?_)
                have oY : Old Y Y.drew := (Old.refl Y).drewN 1
                generalize Y.drew = Y1 at *
                refine' wpAnyH_take (i := 0) rfl (by kernel_rfl) (by kernel_rfl) (by kernel_rfl) (fun _ _ _ h => h) (Or.inl ⟨by rfl, ?_⟩) hHeld ?_
                rotate_left
                · intro W hSw
                  obtain ⟨hcW, -⟩ := Old.look hSw
                  clear hSw
                  simp only [List.getElem_toArray, List.getElem_cons_zero]
                  go_simp
                  all_goals with_reducible rfl
                simp only [List.getElem_toArray, List.getElem_cons_zero, Act.put, List.setIfInBounds_toArray, List.set_cons_zero, List.set_cons_succ]
                refine' wpAnyH_take (i := 1) rfl (by kernel_rfl) (by kernel_rfl) (by kernel_rfl) (fun _ _ _ h => h) (Or.inl ⟨by rfl, ?_⟩) hHeld ?_
                rotate_left
                · intro W hSw
                  obtain ⟨hcW, -⟩ := Old.look hSw
                  clear hSw
                  simp only [List.getElem_toArray, List.getElem_cons_zero, List.getElem_cons_succ]
                  go_simp
                  all_goals with_reducible rfl
                simp only [List.getElem_toArray, List.getElem_cons_zero, List.getElem_cons_succ, Act.put, List.setIfInBounds_toArray, List.set_cons_zero, List.set_cons_succ]
                refine' wpAnyH_take (i := 2) rfl (by kernel_rfl) (by kernel_rfl) (by kernel_rfl) (fun _ _ _ h => h) (Or.inl ⟨by rfl, ?_⟩) hHeld ?_
                rotate_left
                · intro W hSw
                  obtain ⟨hcW, -⟩ := Old.look hSw
                  clear hSw
                  simp only [List.getElem_toArray, List.getElem_cons_zero, List.getElem_cons_succ]
                  go_simp
                  all_goals with_reducible rfl
                simp only [List.getElem_toArray, List.getElem_cons_zero, List.getElem_cons_succ, Act.put, List.setIfInBounds_toArray, List.set_cons_zero, List.set_cons_succ]
                refine' wpAnyH_take (i := 3) rfl (by kernel_rfl) (by kernel_rfl) (by kernel_rfl) (fun _ _ _ h => h) (Or.inl ⟨by rfl, ?_⟩) hHeld ?_
                rotate_left
                · intro W hSw
                  obtain ⟨hcW, -⟩ := Old.look hSw
                  clear hSw
                  simp only [List.getElem_toArray, List.getElem_cons_zero, List.getElem_cons_succ]
                  go_simp
                  all_goals with_reducible rfl
                simp only [List.getElem_toArray, List.getElem_cons_zero, List.getElem_cons_succ, Act.put, List.setIfInBounds_toArray, List.set_cons_zero, List.set_cons_succ]
                refine' wpAnyH_take (i := 4) rfl (by kernel_rfl) (by kernel_rfl) (by kernel_rfl) (fun _ _ _ h => h) (Or.inl ⟨by rfl, ?_⟩) hHeld ?_
                rotate_left
                · intro W hSw
                  obtain ⟨hcW, -⟩ := Old.look hSw
                  clear hSw
                  simp only [List.getElem_toArray, List.getElem_cons_zero, List.getElem_cons_succ]
                  go_simp
                  all_goals with_reducible rfl
                simp only [List.getElem_toArray, List.getElem_cons_zero, List.getElem_cons_succ, Act.put, List.setIfInBounds_toArray, List.set_cons_zero, List.set_cons_succ]
                refine' wpAnyH_take (i := 5) rfl (by kernel_rfl) (by kernel_rfl) (by kernel_rfl) (fun _ _ _ h => h) (Or.inl ⟨by rfl, ?_⟩) hHeld ?_
                rotate_left
                · intro W hSw
                  obtain ⟨hcW, -⟩ := Old.look hSw
                  clear hSw
                  simp only [List.getElem_toArray, List.getElem_cons_zero, List.getElem_cons_succ]
                  go_simp
                  all_goals with_reducible rfl
                simp only [List.getElem_toArray, List.getElem_cons_zero, List.getElem_cons_succ, Act.put, List.setIfInBounds_toArray, List.set_cons_zero, List.set_cons_succ]
                refine' wpAnyH_take (i := 6) rfl (by kernel_rfl) (by kernel_rfl) (by kernel_rfl) (fun _ _ _ h => h) (Or.inl ⟨by rfl, ?_⟩) hHeld ?_
                rotate_left
                · intro W hSw
                  obtain ⟨hcW, -⟩ := Old.look hSw
                  clear hSw
                  simp only [List.getElem_toArray, List.getElem_cons_zero, List.getElem_cons_succ]
                  go_simp
                  all_goals with_reducible rfl
                simp only [List.getElem_toArray, List.getElem_cons_zero, List.getElem_cons_succ, Act.put, List.setIfInBounds_toArray, List.set_cons_zero, List.set_cons_succ]
                refine' wpAnyH_take (i := 7) rfl (by kernel_rfl) (by kernel_rfl) (by kernel_rfl) (fun _ _ _ h => h) (Or.inl ⟨by rfl, ?_⟩) hHeld ?_
                rotate_left
                · intro W hSw
                  obtain ⟨hcW, -⟩ := Old.look hSw
                  clear hSw
                  simp only [List.getElem_toArray, List.getElem_cons_zero, List.getElem_cons_succ]
                  go_simp
                  all_goals with_reducible rfl
                simp only [List.getElem_toArray, List.getElem_cons_zero, List.getElem_cons_succ, Act.put, List.setIfInBounds_toArray, List.set_cons_zero, List.set_cons_succ]
                refine' wpAnyH_take (i := 8) rfl (by kernel_rfl) (by kernel_rfl) (by kernel_rfl) (fun _ _ _ h => h) (Or.inl ⟨by rfl, ?_⟩) hHeld ?_
                rotate_left
                · intro W hSw
                  obtain ⟨hcW, -⟩ := Old.look hSw
                  clear hSw
                  simp only [List.getElem_toArray, List.getElem_cons_zero, List.getElem_cons_succ]
                  go_simp
                  all_goals with_reducible rfl
                simp only [List.getElem_toArray, List.getElem_cons_zero, List.getElem_cons_succ, Act.put, List.setIfInBounds_toArray, List.set_cons_zero, List.set_cons_succ]
                refine' wpAnyH_take (i := 9) rfl (by kernel_rfl) (by kernel_rfl) (by kernel_rfl) (fun _ _ _ h => h) (Or.inl ⟨by rfl, ?_⟩) hHeld ?_
                rotate_left
                · intro W hSw
                  obtain ⟨hcW, -⟩ := Old.look hSw
                  clear hSw
                  simp only [List.getElem_toArray, List.getElem_cons_zero, List.getElem_cons_succ]
                  go_simp
                  all_goals with_reducible rfl
                simp only [List.getElem_toArray, List.getElem_cons_zero, List.getElem_cons_succ, Act.put, List.setIfInBounds_toArray, List.set_cons_zero, List.set_cons_succ]
                refine' wpAnyH_take (i := 10) rfl (by kernel_rfl) (by kernel_rfl) (by kernel_rfl) (fun _ _ _ h => h) (Or.inl ⟨by rfl, ?_⟩) hHeld ?_
                rotate_left
                · intro W hSw
                  obtain ⟨hcW, -⟩ := Old.look hSw
                  clear hSw
                  simp only [List.getElem_toArray, List.getElem_cons_zero, List.getElem_cons_succ]
                  go_simp
                  all_goals with_reducible rfl
                simp only [List.getElem_toArray, List.getElem_cons_zero, List.getElem_cons_succ, Act.put, List.setIfInBounds_toArray, List.set_cons_zero, List.set_cons_succ]
                refine' wpAnyH_take (i := 11) rfl (by kernel_rfl) (by kernel_rfl) (by kernel_rfl) (fun _ _ _ h => h) (Or.inl ⟨by rfl, ?_⟩) hHeld ?_
                rotate_left
                · intro W hSw
                  obtain ⟨hcW, -⟩ := Old.look hSw
                  clear hSw
                  simp only [List.getElem_toArray, List.getElem_cons_zero, List.getElem_cons_succ]
                  go_simp
                  all_goals with_reducible rfl
                simp only [List.getElem_toArray, List.getElem_cons_zero, List.getElem_cons_succ, Act.put, List.setIfInBounds_toArray, List.set_cons_zero, List.set_cons_succ]
                refine wpAnyH_done (by kernel_rfl) ?_ _
                refine OnlyN.normal ?_
                have ac1 := oY.cell ac0
                have tc1 := oY.cell tc0
                have vc1 := oY.cell vc0
                have afz1 := (boxed_olds kI.out.at' oY).frozen
                have koY := hid oY
                have hst := hid (kI.out.next oY (by omega) (by omega))
                have hfr : Hid (Frm (fun j => j = ba) Y (Y1.setCell ⟨ba, 0, none⟩ (.int .i64 ((k : Int) + 1)))) := Frm.trans (koY.out.mono (fun _ _ h => h.elim)) (frm_set Y1 ba 0 _) (fun _ _ h => h)
                clear hHeld oY wc0 ac0 tc0 vc0 e0 e1 e2 m0 m1 m2 z1 z2 z3 z4
                by_cases hlv : (k : Int) + 1 = leave
                · have hlv2 : ((k : Int) + 1 == leave) = true := by simpa using hlv
                  have hlv3 : Hid ((k : Int) + 1 = leave) := hlv
                  clear hlv
                  gi_wp2
                  refine ⟨keeps_frm hfr.out (fun j h => by omega), rfl, k + 1, by omega, hst.out, ?_⟩
                  have := hlv3.out
                  omega
                · have hlv2 : ((k : Int) + 1 == leave) = false := by simpa using hlv
                  have hlv3 : Hid (¬ (k : Int) + 1 = leave) := hlv
                  clear hlv
                  gi_wp2
                  exact ⟨keeps_frm hfr.out (fun j h => by omega), KeptC.of_frm hfr.out, k + 1, hes.out, by omega, hst.out, by have := klw.out; have := hlv3.out; omega⟩
              case end1 =>
                rintro D1 q Y hD1 ⟨k, hkl, tI, hfin⟩ hK1
                have wc0 := tI.ex.want.cell
                have ac0 := tI.at'.cell
                have tc0 := tI.turn.cell
                have vc0 := tI.ex.lea.cell
                have kI := hid tI
                have kK1 := hid hK1
                have kfn := hid hfin
                have hol := hOlen.out
                clear tI hK1 tI1 hfin
                refine inBlock_both (Or.inl rfl) ?_
                dsimp only
                go_upto_region 26 with fail
                go_cut [133] from 106 to 133 (fun p wx => p = .bool false ∧ wx = Y)
                case first =>
                  by_cases hpo : leave > 0
                  · have hmin : min leave ((fls (flA L M) (flB L M)).length : Int) = (k : Int) := by have := kfn.out; omega
                    have hp1 : decide (leave > 0) = true := decide_eq_true hpo
                    have hp2 : decide (0 < leave) = true := hp1
                    have hp3 : ¬ leave ≤ 0 := by omega
                    go_wp2_with fail
                    go_meet
                    case rel => exact ⟨rfl, rfl⟩
                  · have hkk : k = (fls (flA L M) (flB L M)).length := by have := kfn.out; omega
                    have hkb : ((k : Int) != ((fls (flA L M) (flB L M)).length : Int)) = false := by rw [hkk]; simp
                    have hp3 : leave ≤ 0 := by omega
                    clear hkk
                    go_wp2_with fail
                    go_meet
                    case rel => exact ⟨rfl, rfl⟩
                case rest =>
                  obtain ⟨rfl, rfl⟩ := hcut
                  clear wc0 ac0 vc0 kfn
                  go_wp2_with fail
                  rw [rounds_succ]
                  have fbt2 := hid (Boxed.new wc 3 (.int .i64 1))
                  have ex2 := hid (kI.out.ex.frm ((Old.refl wc).alloc (.cells #[.int .i64 1] 3)) (fun _ e => e.elim))
                  have hbt2 : Hid (Mz < wc.heap.size) := by
                    have h1 := blk_lt kI.out.turn
                    exact h1
                  have hD1l := blk_lt kK1.out
                  have kD1 := hid ((Below.heap_alloc wc (.cells #[.int .i64 1] 3) D1 hD1l).trans kK1.out)
                  have hDb1 : D1 < wc.heap.size ∧ ba < D1 := ⟨hD1l, by omega⟩
                  clear kI kK1 tc0
                  generalize wc.alloc (.cells #[.int .i64 1] 3) = W11 at *
                  generalize wc.heap.size = bt2 at *
                  have bc0 := fbt2.out.cell
                  go_wp2_with fail
                  have hba2 := hid (blk_lt fbt2.out)
                  have tI2 : Hid (TF w s bw Mz bt2 W11.heap.size b5 b6 b2 b3 rb rs a2 o2 c2' d2 (flA L M) (flB L M) wa wq leave 1 0 (W11.alloc (.cells #[.int .i64 0] 3))) := ⟨Boxed.new W11 3 (.int .i64 0), boxed_olds fbt2.out ((Old.refl _).alloc _), ex2.out.frm ((Old.refl W11).alloc _) (fun b e => e.elim)⟩
                  have hz2 : Hid ((W11.alloc (.cells #[.int .i64 0] 3)).heap.size = W11.heap.size + 1) := alloc_size _ _
                  clear bc0
                  have kD1 := hid ((Below.heap_alloc W11 (.cells #[.int .i64 0] 3) D1 (blk_lt kD1.out)).trans kD1.out)
                  generalize W11.alloc (.cells #[.int .i64 0] 3) = W12 at *
                  generalize W11.heap.size = ba2 at *
                  have e1 := hba2.out
                  have e2 := hbt2.out
                  have e3 := hz2.out
                  refine range_joinB (n := 5) (by omega) (gf := 40) (lb := #[.pointer (some ⟨b5, 0, none⟩), .pointer (some ⟨b6, 0, none⟩), .pointer (some ⟨b2, 0, none⟩), .pointer (some ⟨b3, 0, none⟩)]) rfl (enters_of Try.func40 (by kernel_rfl) rfl)
                    (tr_stops 4 (by omega) b5 b6 b2 b3 rb rs a2 o2 c2' d2 (flA L M) (flB L M) kOk.out.1 kOk.out.2 (fun j => j = ba2) W12 (tI2.out.ex.nt.mono (fun j e => by omega)) tI2.out.ex.tr)
                    (fun h k => h.trans k) (fun W o => KeptC.alloc W o) (fun W l o o' _ h1 h2 => KeptC.put W l o o' h1 h2) (fun _ => rfl) 6
                    (fun p Y => ∃ k, p = (fls (flA L M) (flB L M)).take k ∧ k ≤ (fls (flA L M) (flB L M)).length ∧ TF w s bw Mz bt2 ba2 b5 b6 b2 b3 rb rs a2 o2 c2' d2 (flA L M) (flB L M) wa wq leave 1 k Y ∧ Y.heap[D1]? = some (.deferred (some [])))
                    (fun p Y => False)
                    (fun p Y => ∃ k : Nat, k = (fls (flA L M) (flB L M)).length ∧ TF w s bw Mz bt2 ba2 b5 b6 b2 b3 rb rs a2 o2 c2' d2 (flA L M) (flB L M) wa wq leave 1 k Y ∧ Y.heap[D1]? = some (.deferred (some [])))
                    (fun p X Y ⟨k, h1, h2, h3, hm⟩ hf => ⟨k, h1, h2, h3.frm hf (fun j e => by omega), by rw [hf.block D1 (blk_lt hm) (by omega)]; exact hm⟩)
                    (fun p X Y h hf => h)
                    ⟨0, by rw [List.take_zero], Nat.zero_le _, tI2.out, kD1.out⟩
                    (fun x => .cells #[.int .i64 (x.b : Int), .int .i64 (x.s : Int), .int .i64 (x.n : Int)] 55)
                    (fun x m t => (t.setIfInBounds 84 (.agg #[.int .i64 (x.b : Int), .int .i64 (x.s : Int), .int .i64 (x.n : Int)])).setIfInBounds 15 (.pointer (some ⟨m, 0, none⟩))) ?assign2 ?body2
                    (fun q Y hq ⟨k, h1, h2, h3, hm⟩ => ⟨k, take_all h2 (h1.symm.trans hq), h3, hm⟩)
                    (fun q Y _ h => h.elim) ?hQ2 ?end2
                  case assign2 =>
                    intro l' x W K hK
                    simp only [encF]
                    simp only [List.setIfInBounds_toArray, List.set_cons_zero, List.set_cons_succ] at hK
                    gi_wp2
                    exact hK
                  case hQ2 =>
                    intro b W h
                    exact inBlock_both (Or.inr rfl) h
                  case body2 =>
                    rintro l' p x m Y ⟨k, rfl, hkl, tI, hmD1⟩ ⟨k', hk', hpk⟩ hOb hm
                    have kmD := hid hmD1
                    clear hmD1
                    obtain ⟨hlt, rfl, rfl⟩ := pre_next hkl hk' hpk
                    have hes : Hid ((fls (flA L M) (flB L M)).take k ++ [(fls (flA L M) (flB L M))[k]] = (fls (flA L M) (flB L M)).take (k + 1)) := by
                      show _ = _
                      rw [List.take_succ_eq_append_getElem hlt]
                    obtain ⟨bq, hwa, hbM, hown⟩ := tI.ex.row (by omega)
                    subst hwa
                    obtain ⟨e0, e1, e2⟩ := hown.cell k hlt
                    rw [fA_eq hlt] at e0 e1 e2
                    obtain ⟨⟨xb, xp, xc⟩, hx⟩ : ∃ x, (fls (flA L M) (flB L M))[k] = x := ⟨_, rfl⟩
                    rw [hx] at e0 e1 e2 hOb hes ⊢
                    dsimp only at e0 e1 e2 hOb ⊢
                    have m0 := blk_cells (i := 0) (v := .int .i64 (xb : Int)) hOb rfl
                    have m1 := blk_cells (i := 1) (v := .int .i64 (xp : Int)) hOb rfl
                    have m2 := blk_cells (i := 2) (v := .int .i64 (xc : Int)) hOb rfl
                    have wc0 := tI.ex.want.cell
                    have ac0 := tI.at'.cell
                    have tc0 := tI.turn.cell
                    have vc0 := tI.ex.lea.cell
                    have kI := hid tI
                    have hol := hOlen.out
                    have hlt' : (k : Int) < ((fls (flA L M) (flB L M)).length : Int) := by omega
                    have hd1 : decide ((fls (flA L M) (flB L M)).length ≤ k) = false := by simp; omega
                    have hk9 : (k : Int) ≤ 300000 := by omega
                    have z1 := cell_lt e0
                    have z2 := cell_lt m0
                    have z3 := cell_lt wc0
                    have z4 := cell_lt ac0
                    simp only [List.setIfInBounds_toArray, List.set_cons_zero, List.set_cons_succ]
                    clear tI hOb hpk hk' hx hown
                    gi_wp2_with fail
                    refine region_round (S := fun W => Old Y W) (by kernel_rfl) (by kernel_rfl) ((Old.refl Y).drewN 1) (fun hHeld => ?_)
                    have oY : Old Y Y.drew := (Old.refl Y).drewN 1
                    generalize Y.drew = Y1 at *
                    refine' wpAnyH_take (i := 0) rfl (by kernel_rfl) (by kernel_rfl) (by kernel_rfl) (fun _ _ _ h => h) (Or.inl ⟨by rfl, ?_⟩) hHeld ?_
                    rotate_left
                    · intro W hSw
                      obtain ⟨hcW, -⟩ := Old.look hSw
                      clear hSw
                      simp only [List.getElem_toArray, List.getElem_cons_zero]
                      go_simp
                      all_goals with_reducible rfl
                    simp only [List.getElem_toArray, List.getElem_cons_zero, Act.put, List.setIfInBounds_toArray, List.set_cons_zero, List.set_cons_succ]
                    refine' wpAnyH_take (i := 1) rfl (by kernel_rfl) (by kernel_rfl) (by kernel_rfl) (fun _ _ _ h => h) (Or.inl ⟨by rfl, ?_⟩) hHeld ?_
                    rotate_left
                    · intro W hSw
                      obtain ⟨hcW, -⟩ := Old.look hSw
                      clear hSw
                      simp only [List.getElem_toArray, List.getElem_cons_zero, List.getElem_cons_succ]
                      go_simp
                      all_goals with_reducible rfl
                    simp only [List.getElem_toArray, List.getElem_cons_zero, List.getElem_cons_succ, Act.put, List.setIfInBounds_toArray, List.set_cons_zero, List.set_cons_succ]
                    refine' wpAnyH_take (i := 2) rfl (by kernel_rfl) (by kernel_rfl) (by kernel_rfl) (fun _ _ _ h => h) (Or.inl ⟨by rfl, ?_⟩) hHeld ?_
                    rotate_left
                    · intro W hSw
                      obtain ⟨hcW, -⟩ := Old.look hSw
                      clear hSw
                      simp only [List.getElem_toArray, List.getElem_cons_zero, List.getElem_cons_succ]
                      go_simp
                      all_goals with_reducible rfl
                    simp only [List.getElem_toArray, List.getElem_cons_zero, List.getElem_cons_succ, Act.put, List.setIfInBounds_toArray, List.set_cons_zero, List.set_cons_succ]
                    refine' wpAnyH_take (i := 3) rfl (by kernel_rfl) (by kernel_rfl) (by kernel_rfl) (fun _ _ _ h => h) (Or.inl ⟨by rfl, ?_⟩) hHeld ?_
                    rotate_left
                    · intro W hSw
                      obtain ⟨hcW, -⟩ := Old.look hSw
                      clear hSw
                      simp only [List.getElem_toArray, List.getElem_cons_zero, List.getElem_cons_succ]
                      go_simp
                      all_goals with_reducible rfl
                    simp only [List.getElem_toArray, List.getElem_cons_zero, List.getElem_cons_succ, Act.put, List.setIfInBounds_toArray, List.set_cons_zero, List.set_cons_succ]
                    refine' wpAnyH_take (i := 4) rfl (by kernel_rfl) (by kernel_rfl) (by kernel_rfl) (fun _ _ _ h => h) (Or.inl ⟨by rfl, ?_⟩) hHeld ?_
                    rotate_left
                    · intro W hSw
                      obtain ⟨hcW, -⟩ := Old.look hSw
                      clear hSw
                      simp only [List.getElem_toArray, List.getElem_cons_zero, List.getElem_cons_succ]
                      go_simp
                      all_goals with_reducible rfl
                    simp only [List.getElem_toArray, List.getElem_cons_zero, List.getElem_cons_succ, Act.put, List.setIfInBounds_toArray, List.set_cons_zero, List.set_cons_succ]
                    refine' wpAnyH_take (i := 5) rfl (by kernel_rfl) (by kernel_rfl) (by kernel_rfl) (fun _ _ _ h => h) (Or.inl ⟨by rfl, ?_⟩) hHeld ?_
                    rotate_left
                    · intro W hSw
                      obtain ⟨hcW, -⟩ := Old.look hSw
                      clear hSw
                      simp only [List.getElem_toArray, List.getElem_cons_zero, List.getElem_cons_succ]
                      go_simp
                      all_goals with_reducible rfl
                    simp only [List.getElem_toArray, List.getElem_cons_zero, List.getElem_cons_succ, Act.put, List.setIfInBounds_toArray, List.set_cons_zero, List.set_cons_succ]
                    refine' wpAnyH_take (i := 6) rfl (by kernel_rfl) (by kernel_rfl) (by kernel_rfl) (fun _ _ _ h => h) (Or.inl ⟨by rfl, ?_⟩) hHeld ?_
                    rotate_left
                    · intro W hSw
                      obtain ⟨hcW, -⟩ := Old.look hSw
                      clear hSw
                      simp only [List.getElem_toArray, List.getElem_cons_zero, List.getElem_cons_succ]
                      go_simp
                      all_goals with_reducible rfl
                    simp only [List.getElem_toArray, List.getElem_cons_zero, List.getElem_cons_succ, Act.put, List.setIfInBounds_toArray, List.set_cons_zero, List.set_cons_succ]
                    refine' wpAnyH_take (i := 7) rfl (by kernel_rfl) (by kernel_rfl) (by kernel_rfl) (fun _ _ _ h => h) (Or.inl ⟨by rfl, ?_⟩) hHeld ?_
                    rotate_left
                    · intro W hSw
                      obtain ⟨hcW, -⟩ := Old.look hSw
                      clear hSw
                      simp only [List.getElem_toArray, List.getElem_cons_zero, List.getElem_cons_succ]
                      go_simp
                      all_goals with_reducible rfl
                    simp only [List.getElem_toArray, List.getElem_cons_zero, List.getElem_cons_succ, Act.put, List.setIfInBounds_toArray, List.set_cons_zero, List.set_cons_succ]
                    refine' wpAnyH_take (i := 8) rfl (by kernel_rfl) (by kernel_rfl) (by kernel_rfl) (fun _ _ _ h => h) (Or.inl ⟨by rfl, ?_⟩) hHeld ?_
                    rotate_left
                    · intro W hSw
                      obtain ⟨hcW, -⟩ := Old.look hSw
                      clear hSw
                      simp only [List.getElem_toArray, List.getElem_cons_zero, List.getElem_cons_succ]
                      go_simp
                      all_goals with_reducible rfl
                    simp only [List.getElem_toArray, List.getElem_cons_zero, List.getElem_cons_succ, Act.put, List.setIfInBounds_toArray, List.set_cons_zero, List.set_cons_succ]
                    refine' wpAnyH_take (i := 9) rfl (by kernel_rfl) (by kernel_rfl) (by kernel_rfl) (fun _ _ _ h => h) (Or.inl ⟨by rfl, ?_⟩) hHeld ?_
                    rotate_left
                    · intro W hSw
                      obtain ⟨hcW, -⟩ := Old.look hSw
                      clear hSw
                      simp only [List.getElem_toArray, List.getElem_cons_zero, List.getElem_cons_succ]
                      go_simp
                      all_goals with_reducible rfl
                    simp only [List.getElem_toArray, List.getElem_cons_zero, List.getElem_cons_succ, Act.put, List.setIfInBounds_toArray, List.set_cons_zero, List.set_cons_succ]
                    refine' wpAnyH_take (i := 10) rfl (by kernel_rfl) (by kernel_rfl) (by kernel_rfl) (fun _ _ _ h => h) (Or.inl ⟨by rfl, ?_⟩) hHeld ?_
                    rotate_left
                    · intro W hSw
                      obtain ⟨hcW, -⟩ := Old.look hSw
                      clear hSw
                      simp only [List.getElem_toArray, List.getElem_cons_zero, List.getElem_cons_succ]
                      go_simp
                      all_goals with_reducible rfl
                    simp only [List.getElem_toArray, List.getElem_cons_zero, List.getElem_cons_succ, Act.put, List.setIfInBounds_toArray, List.set_cons_zero, List.set_cons_succ]
                    refine' wpAnyH_take (i := 11) rfl (by kernel_rfl) (by kernel_rfl) (by kernel_rfl) (fun _ _ _ h => h) (Or.inl ⟨by rfl, ?_⟩) hHeld ?_
                    rotate_left
                    · intro W hSw
                      obtain ⟨hcW, -⟩ := Old.look hSw
                      clear hSw
                      simp only [List.getElem_toArray, List.getElem_cons_zero, List.getElem_cons_succ]
                      go_simp
                      all_goals with_reducible rfl
                    simp only [List.getElem_toArray, List.getElem_cons_zero, List.getElem_cons_succ, Act.put, List.setIfInBounds_toArray, List.set_cons_zero, List.set_cons_succ]
                    refine wpAnyH_done (by kernel_rfl) ?_ _
                    refine OnlyN.normal ?_
                    have ac1 := oY.cell ac0
                    have tc1 := oY.cell tc0
                    have vc1 := oY.cell vc0
                    have afz1 := (boxed_olds kI.out.at' oY).frozen
                    have koY := hid oY
                    have hst := hid (kI.out.next oY (by omega) (by omega))
                    have hfr : Hid (Frm (fun j => j = ba2) Y (Y1.setCell ⟨ba2, 0, none⟩ (.int .i64 ((k : Int) + 1)))) := Frm.trans (koY.out.mono (fun _ _ h => h.elim)) (frm_set Y1 ba2 0 _) (fun _ _ h => h)
                    clear hHeld oY wc0 ac0 tc0 vc0 e0 e1 e2 m0 m1 m2 z1 z2 z3 z4
                    have kmD2 := hid (show (Y1.setCell ⟨ba2, 0, none⟩ (.int .i64 ((k : Int) + 1))).heap[D1]? = some (.deferred (some [])) from (hfr.out.block D1 (blk_lt kmD.out) (by omega)).trans kmD.out)
                    gi_wp2
                    exact ⟨keeps_frm hfr.out (fun j h => by omega), KeptC.of_frm hfr.out, k + 1, hes.out, by omega, hst.out, kmD2.out⟩
                  case end2 =>
                    rintro D2 q Y hD2 ⟨k, hkk, tI, hmD1⟩ hK2
                    have wc0 := tI.ex.want.cell
                    have ac0 := tI.at'.cell
                    have tc0 := tI.turn.cell
                    have vc0 := tI.ex.lea.cell
                    have kI := hid tI
                    have kK2 := hid hK2
                    have kD1 := hid hmD1
                    have hkb : ((k : Int) != ((fls (flA L M) (flB L M)).length : Int)) = false := by rw [hkk]; simp
                    have hol := hOlen.out
                    clear tI hK2 tI2 hkk hmD1
                    refine inBlock_both (Or.inl rfl) ?_
                    dsimp only
                    go_upto_region 26 with fail
                    go_cut [133] from 106 to 133 (fun p wx => p = .bool false ∧ wx = Y)
                    case first =>
                      go_wp2_with fail
                      go_meet
                      case rel => exact ⟨rfl, rfl⟩
                    case rest =>
                      obtain ⟨rfl, rfl⟩ := hcut
                      clear wc0 ac0 vc0 hkb
                      go_wp2_with fail
                      rw [rounds_succ]
                      have fb3 := (Boxed.new wc 3 (.int .i64 2)).cell
                      go_wp2_with fail
                      refine (kK.out _).mono ?_
                      rintro e w19 ⟨rfl, o19⟩
                      have om := ((Old.refl wc).alloc _).trans o19
                      have hres := boxed_olds kI.out.ex.res om
                      have rc1 := hres.cell
                      have rf1 := hres.frozen
                      have kres := hid hres
                      have kold := hid (kI.out.ex.old.trans om)
                      have l1 := blk_lt kD1.out
                      have l2 := blk_lt kK2.out
                      have m1 := hid ((om.block D1 l1 (fun h => h)).trans kD1.out)
                      have m2 := hid ((om.block D2 l2 (fun h => h)).trans kK2.out)
                      have hz9 := om.size
                      clear o19 om hres fb3
                      go_wp2_with fail
                      have hfx := frm_set w19 (s + 1) 0 (.bool true)
                      refine leave_marks [D2, D1] _ ⟨by simp; omega, fun r hr => ?_⟩ (fun W' hW' => ?_)
                      · simp only [List.mem_cons, List.not_mem_nil, or_false] at hr
                        rcases hr with rfl | rfl
                        · rw [hfx.block r (by omega) (by omega)]
                          exact m2.out
                        · rw [hfx.block r (by omega) (by omega)]
                          exact m1.out
                      · have hge : ∀ r ∈ [D2, D1], s + 2 ≤ r := fun r hr => by
                          simp only [List.mem_cons, List.not_mem_nil, or_false] at hr
                          rcases hr with rfl | rfl <;> omega
                        have hc0 := (boxed_frm (Boxed.set (.bool true) kres.out) hW' (fun h => by have := hge _ h; omega)).cell
                        refine ⟨.bool true, ?_, rfl, ?_⟩
                        · simp [results, Try.f4, go_sem, hc0]
                        · exact Frm.trans (Frm.trans kold.out hfx (fun i hi e => by have := kss.out; omega)) hW' (fun i hi e => by have := kss.out; have := hge _ e; omega)
    · clear hgg
      go_wp2_with fail
      refine (kK.out _).mono ?_
      rintro e w5 ⟨rfl, o5⟩
      have ko5 := hid (ko.out.trans o5)
      have hres := boxed_olds b1.out.2 o5
      have rc1 := hres.cell
      have rf1 := hres.frozen
      have kres := hid hres
      clear o5 hres
      go_wp2_with fail
      have hfx := frm_set w5 (s + 1) 0 (.bool true)
      refine leave_marks [] _ ⟨by simp, fun r hr => by simp at hr⟩ (fun W' hW' => ?_)
      have hc0 := (boxed_frm (Boxed.set (.bool true) kres.out) hW' (fun h => by simp at h)).cell
      refine ⟨.bool true, ?_, rfl, ?_⟩
      · simp [results, Try.f4, go_sem, hc0]
      · exact Frm.trans (Frm.trans ko5.out hfx (fun i hi e => by have := kss.out; omega)) hW' (fun i hi e => by simp at e)
end Go.Proofs.Ytccbmmbcfcppeaa
