/- raised, extended. -/
import Derived.Test.YtkhenigdppjlhaaL5
namespace Go.Proofs.Ytkhenigdppjlhaa
open Go.RowKit

theorem old4 (w : World) (x y z u : Obj) : Old w ((((w.alloc x).alloc y).alloc z).alloc u) := (((((Old.refl w).alloc _).alloc _).alloc _).alloc _)
theorem old3 (w : World) (x y z : Obj) : Old w (((w.alloc x).alloc y).alloc z) := ((((Old.refl w).alloc _).alloc _).alloc _)

set_option maxRecDepth 100000 in
set_option maxHeartbeats 8000000 in
theorem raised_none (l : Lt) (r : Rs) (b : Bd) (w : World) (h : r.leader = -1) : Calls Try.prog 25 #[lotV l, riseV r, bidV b] w fun e w' => e = .returned (riseV (raisR l r b)) ∧ Old w w' := by
  rw [raisR, if_pos h]
  unfold lotV riseV bidV
  obtain ⟨kind, opens, closes, start, step, extend, last, floor, fall, count, rule⟩ := l
  obtain ⟨leader, limit, price, rcl⟩ := r
  obtain ⟨bidder, blimit, free, now⟩ := b
  dsimp only at *
  subst h
  go_enter Try.func25, Try.ntmps25
  go_wp2_with fail
  go_region
  all_goals go_wp2_with fail
  all_goals exact bodyPost_ret (v := .agg #[.int .i64 bidder, .int .i64 blimit, .int .i64 start, .int .i64 rcl]) (by simp [results, Try.results25, go_sem]) rfl ⟨rfl, (old4 w _ _ _ _).drewN 1⟩

set_option maxRecDepth 100000 in
set_option maxHeartbeats 8000000 in
theorem raised_own (l : Lt) (r : Rs) (b : Bd) (w : World) (h : (r.leader == -1) = false) (h2 : r.leader = b.bidder) : Calls Try.prog 25 #[lotV l, riseV r, bidV b] w fun e w' => e = .returned (riseV (raisR l r b)) ∧ Old w w' := by
  rw [raisR, if_neg (by simpa using h), if_pos h2]
  unfold lotV riseV bidV
  obtain ⟨kind, opens, closes, start, step, extend, last, floor, fall, count, rule⟩ := l
  obtain ⟨leader, limit, price, rcl⟩ := r
  obtain ⟨bidder, blimit, free, now⟩ := b
  dsimp only at *
  subst h2
  go_enter Try.func25, Try.ntmps25
  go_wp2_with fail
  all_goals exact bodyPost_ret (v := .agg #[.int .i64 leader, .int .i64 blimit, .int .i64 price, .int .i64 rcl]) (by simp [results, Try.results25, go_sem]) rfl ⟨rfl, old4 w _ _ _ _⟩

set_option maxRecDepth 100000 in
set_option maxHeartbeats 8000000 in
theorem raised_more (l : Lt) (r : Rs) (b : Bd) (w : World) (h : (r.leader == -1) = false) (h2 : (r.leader == b.bidder) = false) (h3 : r.limit < b.limit) (hr : riseB l r = true) : Calls Try.prog 25 #[lotV l, riseV r, bidV b] w fun e w' => e = .returned (riseV (raisR l r b)) ∧ Old w w' := by
  have hlf := lot_facts (rise_lot hr)
  have hrf := rise_facts hr
  have hb1 : 0 ≤ r.limit + l.step := by have := hlf.2.2.2.2.2.2; omega
  have hb2 : r.limit + l.step ≤ 2199023255552 := by have := hlf.2.2.2.2.2.2; omega
  rw [raisR, if_neg (by simpa using h), if_neg (by simpa using h2), if_pos h3]
  have hw : IntKind.i64.wrap (r.limit + l.step) = r.limit + l.step := by simp [IntKind.wrap, IntKind.bits, IntKind.signed]; omega
  clear hlf hrf hr
  unfold lotV riseV bidV
  obtain ⟨kind, opens, closes, start, step, extend, last, floor, fall, count, rule⟩ := l
  obtain ⟨leader, limit, price, rcl⟩ := r
  obtain ⟨bidder, blimit, free, now⟩ := b
  dsimp only at *
  by_cases hm : limit + step ≤ blimit
  · have km := hid (show min (limit + step) blimit = limit + step by omega)
    rw [km.out]
    go_enter Try.func25, Try.ntmps25
    go_wp2_with fail
    go_region
    all_goals go_wp2_with fail
    all_goals exact bodyPost_ret (v := .agg #[.int .i64 bidder, .int .i64 blimit, .int .i64 (limit + step), .int .i64 rcl]) (by simp [results, Try.results25, go_sem]) rfl ⟨rfl, (old4 w _ _ _ _).drewN 1⟩
  · have km := hid (show min (limit + step) blimit = blimit by omega)
    rw [km.out]
    go_enter Try.func25, Try.ntmps25
    go_wp2_with fail
    go_region
    all_goals go_wp2_with fail
    all_goals exact bodyPost_ret (v := .agg #[.int .i64 bidder, .int .i64 blimit, .int .i64 blimit, .int .i64 rcl]) (by simp [results, Try.results25, go_sem]) rfl ⟨rfl, (old4 w _ _ _ _).drewN 1⟩

set_option maxRecDepth 100000 in
set_option maxHeartbeats 8000000 in
theorem raised_less (l : Lt) (r : Rs) (b : Bd) (w : World) (h : (r.leader == -1) = false) (h2 : (r.leader == b.bidder) = false) (h3 : ¬ r.limit < b.limit) (h0 : 0 ≤ b.limit) (hr : riseB l r = true) : Calls Try.prog 25 #[lotV l, riseV r, bidV b] w fun e w' => e = .returned (riseV (raisR l r b)) ∧ Old w w' := by
  have hlf := lot_facts (rise_lot hr)
  have hrf := rise_facts hr
  have hb1 : 0 ≤ b.limit + l.step := by have := hlf.2.2.2.2.2.2; omega
  have hb2 : b.limit + l.step ≤ 2199023255552 := by have := hlf.2.2.2.2.2.2; omega
  rw [raisR, if_neg (by simpa using h), if_neg (by simpa using h2), if_neg h3]
  clear hlf hrf hr
  unfold lotV riseV bidV
  obtain ⟨kind, opens, closes, start, step, extend, last, floor, fall, count, rule⟩ := l
  obtain ⟨leader, limit, price, rcl⟩ := r
  obtain ⟨bidder, blimit, free, now⟩ := b
  dsimp only at *
  by_cases hm : blimit + step ≤ limit
  · have km := hid (show min (blimit + step) limit = blimit + step by omega)
    rw [km.out]
    go_enter Try.func25, Try.ntmps25
    go_wp2_with fail
    all_goals exact bodyPost_ret (v := .agg #[.int .i64 leader, .int .i64 limit, .int .i64 (blimit + step), .int .i64 rcl]) (by simp [results, Try.results25, go_sem]) rfl ⟨rfl, old4 w _ _ _ _⟩
  · have km := hid (show min (blimit + step) limit = limit by omega)
    rw [km.out]
    go_enter Try.func25, Try.ntmps25
    go_wp2_with fail
    all_goals exact bodyPost_ret (v := .agg #[.int .i64 leader, .int .i64 limit, .int .i64 limit, .int .i64 rcl]) (by simp [results, Try.results25, go_sem]) rfl ⟨rfl, old4 w _ _ _ _⟩

theorem raised_any (l : Lt) (r : Rs) (b : Bd) (w : World) (h0 : 0 ≤ b.limit) (hr : riseB l r = true) : Calls Try.prog 25 #[lotV l, riseV r, bidV b] w fun e w' => e = .returned (riseV (raisR l r b)) ∧ Old w w' := by
  by_cases h : r.leader = -1
  · exact raised_none l r b w h
  · by_cases h2 : r.leader = b.bidder
    · exact raised_own l r b w (by simpa using h) h2
    · by_cases h3 : r.limit < b.limit
      · exact raised_more l r b w (by simpa using h) (by simpa using h2) h3 hr
      · exact raised_less l r b w (by simpa using h) (by simpa using h2) h3 h0 hr

set_option maxRecDepth 100000 in
set_option maxHeartbeats 8000000 in
theorem extended_any (l : Lt) (r : Rs) (now : Int) (w : World) (hl : lotB l = true) (hn0 : 0 ≤ now) (hn1 : now ≤ 1099511627776) (hc0 : 0 ≤ r.closes) (hc1 : r.closes ≤ 1099511627776) : Calls Try.prog 24 #[lotV l, riseV r, .int .i64 now] w fun e w' => e = .returned (riseV (extR l r now)) ∧ Old w w' := by
  have hlf := lot_facts hl
  have hb1 : 0 ≤ now + l.extend := by omega
  have hb2 : now + l.extend ≤ 2199023255552 := by omega
  clear hlf hl
  by_cases h : r.closes - now < l.extend
  · rw [extR, if_pos h]
    unfold lotV riseV
    obtain ⟨kind, opens, closes, start, step, extend, last, floor, fall, count, rule⟩ := l
    obtain ⟨leader, limit, price, rcl⟩ := r
    dsimp only at *
    by_cases hm : now + extend ≤ last
    · have km := hid (show min (now + extend) last = now + extend by omega)
      rw [km.out]
      go_enter Try.func24, Try.ntmps24
      go_wp2_with fail
      all_goals exact bodyPost_ret (v := .agg #[.int .i64 leader, .int .i64 limit, .int .i64 price, .int .i64 (now + extend)]) (by simp [results, Try.results24, go_sem]) rfl ⟨rfl, old3 w _ _ _⟩
    · have km := hid (show min (now + extend) last = last by omega)
      rw [km.out]
      go_enter Try.func24, Try.ntmps24
      go_wp2_with fail
      all_goals exact bodyPost_ret (v := .agg #[.int .i64 leader, .int .i64 limit, .int .i64 price, .int .i64 last]) (by simp [results, Try.results24, go_sem]) rfl ⟨rfl, old3 w _ _ _⟩
  · rw [extR, if_neg h]
    unfold lotV riseV
    obtain ⟨kind, opens, closes, start, step, extend, last, floor, fall, count, rule⟩ := l
    obtain ⟨leader, limit, price, rcl⟩ := r
    dsimp only at *
    go_enter Try.func24, Try.ntmps24
    go_wp2_with fail
    all_goals exact bodyPost_ret (v := .agg #[.int .i64 leader, .int .i64 limit, .int .i64 price, .int .i64 rcl]) (by simp [results, Try.results24, go_sem]) rfl ⟨rfl, old3 w _ _ _⟩

end Go.Proofs.Ytkhenigdppjlhaa
