/- What is promised of shares, walked. -/
import Derived.Test.YtocpbnjkijpbiaaDoorY6
import Derived.Test.YtocpbnjkijpbiaaDoorE5
namespace Go.Proofs.YtocpbnjkijpbiaaDoor
open Go.RowKit Go.Lib

theorem small_succ {X : Nat → Int} {j : Nat} {t B : Int} (hq : ∀ i, i < j → X i ≤ B) (ht : X j = t) (hsm : t ≤ B) : ∀ i, i < j + 1 → X i ≤ B := by
  intro i hi
  rcases Nat.lt_or_eq_of_le (Nat.lt_succ_iff.1 hi) with h | h
  · exact hq i h
  · rw [h, ht]; exact hsm

set_option maxRecDepth 100000 in
set_option maxHeartbeats 8000000 in
theorem fair_any (c : Int) (ao bo : Option Addr) (ca cb n : Nat) (X V SX SV : Nat → Int) (L out : List Int) (w : World) (hl : n ≤ 300) (hc0 : 0 ≤ c) (hc1 : c ≤ 1099511627776) (hF : FairF c n X V SX SV) (ha : Reads w ao n X) (hb : Reads w bo n V)
    (hbN : NumsC .i64 w bo out) (hML : ∀ f k, k < n → (mulL f L).take (k + 1) = (mulL f L).take k ++ [f * X k])
    (hSh : ∀ f : Int, 2 ≤ f → f ≤ 3 → (∀ i, i < n → X i ≤ 366503875925) → ∀ (a : Option Addr) (cp : Nat) (w1 : World), NumsC .i64 w1 a ((mulL f L).take n) → Calls Tryd.prog 6 #[.int .i64 c, .slice a n cp] w1 fun e w' => ∃ ba, e = .returned (.tuple #[.slice (some ⟨ba, 0, none⟩) n n, .int .i64 0]) ∧ NumsC .i64 w' (some ⟨ba, 0, none⟩) out ∧ Old w1 w')
    (hSame : ∀ (a b : Option Addr) (x y : Nat) (w1 : World), NumsC .i64 w1 a out → NumsC .i64 w1 b out → Calls Tryd.prog 22 #[.slice a n x, .slice b n y] w1 fun e w' => e = .returned (.bool true) ∧ ∃ m, w' = w1.drewN m) :
    Calls Tryd.prog 8 #[.int .i64 c, .slice ao n ca, .slice bo n cb] w fun e w' => e = .returned (.bool true) ∧ Old w w' := by
  have hF' := hid hF
  have ha' := hid ha
  have hb' := hid hb
  have hS0 := hid hF.sv0
  have hX0 := hid hF.sx0
  have hbN' := hid hbN
  have hML' := hid hML
  have hSh' := hid hSh
  have hSame' := hid hSame
  have hN := hid num_any
  have hall := hid hF.all
  obtain ⟨i0, hi0, hz0, hz1, hz2⟩ := info_parts info2
  clear ha hb hF hbN hML hSh hSame
  go_enter Tryd.func8, Tryd.ntmps8
  go_wp2_with fail
  go_loopw [7, 8, 9] (fun s t i wr => ∃ k : Nat, k ≤ n ∧ i = .int .i64 (k : Int) ∧ s = .int .i64 (SV k) ∧ t = .int .i64 (SX k) ∧ ∃ m, wr = w.drewN m) (fun _ _ i _ => n - (intOf i).toNat)
  case atStart => exact ⟨0, Nat.zero_le _, rfl, by rw [hS0.out], by rw [hX0.out], 0, rfl⟩
  case round =>
    obtain ⟨k, hk, rfl, rfl, rfl, m, rfl⟩ := hrel
    clear hS0 hX0
    have hyb := hF'.out.svb k hk
    have hzb := hF'.out.sxb k hk
    by_cases hlt : k < n
    · obtain ⟨g, o1, hao, hca⟩ := ha'.out k hlt
      obtain ⟨g2, o2, hbo, hcb⟩ := hb'.out k hlt
      have h1 := hF'.out.v k hlt
      have h3 := hF'.out.x k hlt
      have h4 := hid (hF'.out.sv k hlt)
      have h5 := hid (hF'.out.sx k hlt)
      have h6 := hid (fun j (hj : j < n) => hF'.out.ord k j hlt hj)
      have h7 := hid (fun j (hj : j < n) => hF'.out.ord j k hj hlt)
      have hxj := hid (fun j (hj : j < n) => hF'.out.x j hj)
      obtain ⟨v, hv⟩ : ∃ v, V k = v := ⟨_, rfl⟩
      obtain ⟨x, hx⟩ : ∃ x, X k = x := ⟨_, rfl⟩
      obtain ⟨y, hy⟩ : ∃ y, SV k = y := ⟨_, rfl⟩
      obtain ⟨z, hz⟩ : ∃ z, SX k = z := ⟨_, rfl⟩
      have hy' := hid hy
      have hz' := hid hz
      have hv' := hid hv
      have hx' := hid hx
      rw [hv] at h1 hcb
      rw [hx] at h3 hca
      rw [hy] at hyb ⊢
      rw [hz] at hzb ⊢
      clear hv hx hy hz
      subst hao hbo
      have hA := hid ha'.out
      have hB := hid hb'.out
      clear ha' hb'
      go_wp2_with fail
      go_loopw [10] (fun s wr => ∃ j : Nat, j ≤ k ∧ s = .int .i64 (j : Int) ∧ ∃ m, wr = w.drewN m) (fun s _ => k - (intOf s).toNat)
      case atStart => exact ⟨0, Nat.zero_le _, rfl, _, rfl⟩
      case round =>
        obtain ⟨j, hj, rfl, m2, rfl⟩ := hrel
        by_cases hjk : j < k
        · obtain ⟨g3, o3, hao, hcj⟩ := hA.out j (by omega)
          obtain ⟨g4, o4, hbo, hdj⟩ := hB.out j (by omega)
          simp only [Option.some.injEq, Addr.mk.injEq, and_true] at hao hbo
          obtain ⟨rfl, rfl⟩ := hao
          obtain ⟨rfl, rfl⟩ := hbo
          have q1 := h6.out j (by omega)
          have q2 := h7.out j (by omega)
          rw [hv'.out, hx'.out] at q1 q2
          generalize V j = u at *
          generalize X j = t at *
          have hjn : j < n := by omega
          rcases Int.lt_trichotomy x t with hxt | hxt | hxt
          · have q3 := q2 hxt
            have e1 : decide (t < x) = false := by simp; omega
            have e2 : decide (u < v) = false := by simp; omega
            have e3 : decide (x < t) = true := by simp; omega
            clear q1 q2
            go_wp2_with fail
            go_quiet (fail)
            go_wp2
            go_roundw
            case rel => exact ⟨j + 1, by omega, by go_num, _, rfl⟩
            case measure => simp [intOf]; omega
          · subst hxt
            have e1 : decide (x < x) = false := by simp
            clear q1 q2
            go_wp2_with fail
            go_quiet (fail)
            go_wp2
            go_roundw
            case rel => exact ⟨j + 1, by omega, by go_num, _, rfl⟩
            case measure => simp [intOf]; omega
          · have q3 := q1 hxt
            have e1 : decide (t < x) = true := by simp; omega
            have e2 : decide (v < u) = false := by simp; omega
            have e3 : decide (x < t) = false := by simp; omega
            clear q1 q2
            go_wp2_with fail
            go_quiet (fail)
            go_wp2
            go_roundw
            case rel => exact ⟨j + 1, by omega, by go_num, _, rfl⟩
            case measure => simp [intOf]; omega
        · obtain rfl : j = k := by omega
          go_wp2_with fail
          go_roundw
          case rel => exact ⟨j + 1, by omega, by go_num, by rw [h4.out, hy'.out, hv'.out], by rw [h5.out, hz'.out, hx'.out], _, rfl⟩
          case measure => simp [intOf]; omega
    · obtain rfl : k = n := by omega
      rw [hall.out] at hyb ⊢
      have hxb := hid (fun i (hi : i < k) => hF'.out.x i hi)
      have hA := hid ha'.out
      have hB := hid hb'.out
      clear ha' hb'
      go_wp2_with fail
      go_loopw [11] (fun s wr => ∃ f : Int, (f = 2 ∨ f = 3 ∨ f = 4) ∧ s = .int .i64 f ∧ Old w wr) (fun s _ => 4 - (intOf s).toNat)
      case atStart => exact ⟨2, Or.inl rfl, rfl, (Old.refl w).drewN m⟩
      case round =>
        obtain ⟨f, hf, rfl, hold⟩ := hrel
        have hold' := hid hold
        clear hold
        rcases hf with rfl | rfl | rfl
        · go_wp2_with fail
          go_loopw [12, 13, 14] (fun v b i ws => ∃ j : Nat, j ≤ k ∧ i = .int .i64 (j : Int) ∧ (∃ q : Bool, b = .bool q ∧ Hid (q = true → ∀ i, i < j → X i ≤ 366503875925)) ∧ ws.ownsRow w.heap.size 2 1 v j (((mulL 2 L).take j).map (Value.int .i64)) ∧ Old w ws) (fun _ _ i _ => k - (intOf i).toNat)
          case atStart => exact ⟨0, Nat.zero_le _, rfl, ⟨true, rfl, fun _ i hi => by omega⟩, by simpa using World.ownsRow_nil _ _ _ _, hold'.out⟩
          case round =>
            obtain ⟨j, hj, rfl, ⟨q, rfl, hq⟩, hown, holdj⟩ := hrel
            have holdj' := hid holdj
            have hsz := holdj.size
            clear holdj
            by_cases hjk : j < k
            · obtain ⟨g3, o3, hao, hcj⟩ := hA.out j hjk
              have hc0 := hcj
              replace hcj := holdj'.out.cell hcj
              subst hao
              have q3 := hxb.out j hjk
              have hml := hid (hML'.out 2 j hjk)
              obtain ⟨t, ht⟩ : ∃ t, X j = t := ⟨_, rfl⟩
              have ht' := hid ht
              rw [ht] at q3 hcj hc0
              clear ht
              cases q
              · go_wp2_with (first
                  | (at_builtin; refine wpList_append_lies _ (by rfl) _ _ 22 (by rfl) w.heap.size 2 i0 _ 1 8 Tryd.underlying22 hi0 hz0 hz1 hz2 rfl (by omega) _ j (((mulL 2 L).take j).map (Value.int .i64)) (by rfl) (World.ownsRow.alloc hown _) ⟨_, 0, none⟩ 1 1 [.int .i64 (2 * t)] (by rfl) (by rfl) (World.news_of_block (heap_new _ _)) (by intro u hu; simp at hu; subst hu; rfl) (by omega) (by unfold maxLen; omega) (by omega) (Nat.le_trans hsz (by simp)) _ rfl ?_; intro g1 cap1 w6 hown6 hgrow6 hat6 hlt6; have hold6 : Hid (Old w w6) := Frm.grown (holdj'.out.alloc _) hgrow6 (fun k hk => Or.inl (hown.lt k hk).1); have hc6 := hold6.out.cell hc0; clear hgrow6 hat6 hlt6)
                  | fail)
                go_roundw
                case rel => exact ⟨j + 1, by omega, by go_num, ⟨false, rfl, (fun h => by cases h)⟩, by rw [hml.out, List.map_append, ht'.out]; exact hown6, hold6.out⟩
                case measure => simp [intOf]; omega
              · by_cases hsm : t ≤ 366503875925
                · have hd : decide (t ≤ 366503875925) = true := by simp; omega
                  go_wp2_with (first
                    | (at_builtin; refine wpList_append_lies _ (by rfl) _ _ 22 (by rfl) w.heap.size 2 i0 _ 1 8 Tryd.underlying22 hi0 hz0 hz1 hz2 rfl (by omega) _ j (((mulL 2 L).take j).map (Value.int .i64)) (by rfl) (World.ownsRow.alloc hown _) ⟨_, 0, none⟩ 1 1 [.int .i64 (2 * t)] (by rfl) (by rfl) (World.news_of_block (heap_new _ _)) (by intro u hu; simp at hu; subst hu; rfl) (by omega) (by unfold maxLen; omega) (by omega) (Nat.le_trans hsz (by simp)) _ rfl ?_; intro g1 cap1 w6 hown6 hgrow6 hat6 hlt6; have hold6 : Hid (Old w w6) := Frm.grown (holdj'.out.alloc _) hgrow6 (fun k hk => Or.inl (hown.lt k hk).1); have hc6 := hold6.out.cell hc0; clear hgrow6 hat6 hlt6)
                    | fail)
                  go_roundw
                  case rel => exact ⟨j + 1, by omega, by go_num, ⟨true, rfl, (fun _ => small_succ (hq.out rfl) ht'.out hsm)⟩, by rw [hml.out, List.map_append, ht'.out]; exact hown6, hold6.out⟩
                  case measure => simp [intOf]; omega
                · have hd : decide (t ≤ 366503875925) = false := by simp; omega
                  go_wp2_with (first
                    | (at_builtin; refine wpList_append_lies _ (by rfl) _ _ 22 (by rfl) w.heap.size 2 i0 _ 1 8 Tryd.underlying22 hi0 hz0 hz1 hz2 rfl (by omega) _ j (((mulL 2 L).take j).map (Value.int .i64)) (by rfl) (World.ownsRow.alloc hown _) ⟨_, 0, none⟩ 1 1 [.int .i64 (2 * t)] (by rfl) (by rfl) (World.news_of_block (heap_new _ _)) (by intro u hu; simp at hu; subst hu; rfl) (by omega) (by unfold maxLen; omega) (by omega) (Nat.le_trans hsz (by simp)) _ rfl ?_; intro g1 cap1 w6 hown6 hgrow6 hat6 hlt6; have hold6 : Hid (Old w w6) := Frm.grown (holdj'.out.alloc _) hgrow6 (fun k hk => Or.inl (hown.lt k hk).1); have hc6 := hold6.out.cell hc0; clear hgrow6 hat6 hlt6)
                    | fail)
                  go_roundw
                  case rel => exact ⟨j + 1, by omega, by go_num, ⟨false, rfl, (fun h => by cases h)⟩, by rw [hml.out, List.map_append, ht'.out]; exact hown6, hold6.out⟩
                  case measure => simp [intOf]; omega
            · obtain rfl : j = k := by omega
              cases q
              · go_wp2_with fail
                go_roundw
                case rel => exact ⟨2 + 1, by simp, by go_num, holdj'.out⟩
                case measure => simp [intOf]
              · obtain ⟨a1, cp1, rfl, hlen1, hnum1⟩ := nums_of_owns hown
                have hs1 := hid (hSh'.out 2 (by omega) (by omega) (hq.out rfl) a1 cp1 _ hnum1)
                clear hown hnum1 hlen1
                go_wp2_with fail
                refine hs1.out.mono ?_
                rintro e w7 ⟨ba, rfl, hn7, ho7⟩
                have hn7' := hid hn7
                have ho7' := hid (holdj'.out.trans ho7)
                clear hn7 ho7 hs1
                have hs2 := hid (hSame'.out (some ⟨ba, 0, none⟩) bo j cb w7 hn7'.out (hbN'.out.old ho7'.out))
                go_wp2_with fail
                refine (hN.out _ _).mono ?_
                rintro e w8 ⟨rfl, e8⟩
                rw [e8]
                clear e8
                go_wp2_with fail
                refine hs2.out.mono ?_
                rintro e w9 ⟨rfl, m9, e9⟩
                rw [e9]
                clear e9
                go_wp2_with fail
                go_roundw
                case rel => exact ⟨2 + 1, by simp, by go_num, ho7'.out.drewN m9⟩
                case measure => simp [intOf]
        · go_wp2_with fail
          go_loopw [12, 13, 14] (fun v b i ws => ∃ j : Nat, j ≤ k ∧ i = .int .i64 (j : Int) ∧ (∃ q : Bool, b = .bool q ∧ Hid (q = true → ∀ i, i < j → X i ≤ 366503875925)) ∧ ws.ownsRow w.heap.size 2 1 v j (((mulL 3 L).take j).map (Value.int .i64)) ∧ Old w ws) (fun _ _ i _ => k - (intOf i).toNat)
          case atStart => exact ⟨0, Nat.zero_le _, rfl, ⟨true, rfl, fun _ i hi => by omega⟩, by simpa using World.ownsRow_nil _ _ _ _, hold'.out⟩
          case round =>
            obtain ⟨j, hj, rfl, ⟨q, rfl, hq⟩, hown, holdj⟩ := hrel
            have holdj' := hid holdj
            have hsz := holdj.size
            clear holdj
            by_cases hjk : j < k
            · obtain ⟨g3, o3, hao, hcj⟩ := hA.out j hjk
              have hc0 := hcj
              replace hcj := holdj'.out.cell hcj
              subst hao
              have q3 := hxb.out j hjk
              have hml := hid (hML'.out 3 j hjk)
              obtain ⟨t, ht⟩ : ∃ t, X j = t := ⟨_, rfl⟩
              have ht' := hid ht
              rw [ht] at q3 hcj hc0
              clear ht
              cases q
              · go_wp2_with (first
                  | (at_builtin; refine wpList_append_lies _ (by rfl) _ _ 22 (by rfl) w.heap.size 2 i0 _ 1 8 Tryd.underlying22 hi0 hz0 hz1 hz2 rfl (by omega) _ j (((mulL 3 L).take j).map (Value.int .i64)) (by rfl) (World.ownsRow.alloc hown _) ⟨_, 0, none⟩ 1 1 [.int .i64 (3 * t)] (by rfl) (by rfl) (World.news_of_block (heap_new _ _)) (by intro u hu; simp at hu; subst hu; rfl) (by omega) (by unfold maxLen; omega) (by omega) (Nat.le_trans hsz (by simp)) _ rfl ?_; intro g1 cap1 w6 hown6 hgrow6 hat6 hlt6; have hold6 : Hid (Old w w6) := Frm.grown (holdj'.out.alloc _) hgrow6 (fun k hk => Or.inl (hown.lt k hk).1); have hc6 := hold6.out.cell hc0; clear hgrow6 hat6 hlt6)
                  | fail)
                go_roundw
                case rel => exact ⟨j + 1, by omega, by go_num, ⟨false, rfl, (fun h => by cases h)⟩, by rw [hml.out, List.map_append, ht'.out]; exact hown6, hold6.out⟩
                case measure => simp [intOf]; omega
              · by_cases hsm : t ≤ 366503875925
                · have hd : decide (t ≤ 366503875925) = true := by simp; omega
                  go_wp2_with (first
                    | (at_builtin; refine wpList_append_lies _ (by rfl) _ _ 22 (by rfl) w.heap.size 2 i0 _ 1 8 Tryd.underlying22 hi0 hz0 hz1 hz2 rfl (by omega) _ j (((mulL 3 L).take j).map (Value.int .i64)) (by rfl) (World.ownsRow.alloc hown _) ⟨_, 0, none⟩ 1 1 [.int .i64 (3 * t)] (by rfl) (by rfl) (World.news_of_block (heap_new _ _)) (by intro u hu; simp at hu; subst hu; rfl) (by omega) (by unfold maxLen; omega) (by omega) (Nat.le_trans hsz (by simp)) _ rfl ?_; intro g1 cap1 w6 hown6 hgrow6 hat6 hlt6; have hold6 : Hid (Old w w6) := Frm.grown (holdj'.out.alloc _) hgrow6 (fun k hk => Or.inl (hown.lt k hk).1); have hc6 := hold6.out.cell hc0; clear hgrow6 hat6 hlt6)
                    | fail)
                  go_roundw
                  case rel => exact ⟨j + 1, by omega, by go_num, ⟨true, rfl, (fun _ => small_succ (hq.out rfl) ht'.out hsm)⟩, by rw [hml.out, List.map_append, ht'.out]; exact hown6, hold6.out⟩
                  case measure => simp [intOf]; omega
                · have hd : decide (t ≤ 366503875925) = false := by simp; omega
                  go_wp2_with (first
                    | (at_builtin; refine wpList_append_lies _ (by rfl) _ _ 22 (by rfl) w.heap.size 2 i0 _ 1 8 Tryd.underlying22 hi0 hz0 hz1 hz2 rfl (by omega) _ j (((mulL 3 L).take j).map (Value.int .i64)) (by rfl) (World.ownsRow.alloc hown _) ⟨_, 0, none⟩ 1 1 [.int .i64 (3 * t)] (by rfl) (by rfl) (World.news_of_block (heap_new _ _)) (by intro u hu; simp at hu; subst hu; rfl) (by omega) (by unfold maxLen; omega) (by omega) (Nat.le_trans hsz (by simp)) _ rfl ?_; intro g1 cap1 w6 hown6 hgrow6 hat6 hlt6; have hold6 : Hid (Old w w6) := Frm.grown (holdj'.out.alloc _) hgrow6 (fun k hk => Or.inl (hown.lt k hk).1); have hc6 := hold6.out.cell hc0; clear hgrow6 hat6 hlt6)
                    | fail)
                  go_roundw
                  case rel => exact ⟨j + 1, by omega, by go_num, ⟨false, rfl, (fun h => by cases h)⟩, by rw [hml.out, List.map_append, ht'.out]; exact hown6, hold6.out⟩
                  case measure => simp [intOf]; omega
            · obtain rfl : j = k := by omega
              cases q
              · go_wp2_with fail
                go_roundw
                case rel => exact ⟨3 + 1, by simp, by go_num, holdj'.out⟩
                case measure => simp [intOf]
              · obtain ⟨a1, cp1, rfl, hlen1, hnum1⟩ := nums_of_owns hown
                have hs1 := hid (hSh'.out 3 (by omega) (by omega) (hq.out rfl) a1 cp1 _ hnum1)
                clear hown hnum1 hlen1
                go_wp2_with fail
                refine hs1.out.mono ?_
                rintro e w7 ⟨ba, rfl, hn7, ho7⟩
                have hn7' := hid hn7
                have ho7' := hid (holdj'.out.trans ho7)
                clear hn7 ho7 hs1
                have hs2 := hid (hSame'.out (some ⟨ba, 0, none⟩) bo j cb w7 hn7'.out (hbN'.out.old ho7'.out))
                go_wp2_with fail
                refine (hN.out _ _).mono ?_
                rintro e w8 ⟨rfl, e8⟩
                rw [e8]
                clear e8
                go_wp2_with fail
                refine hs2.out.mono ?_
                rintro e w9 ⟨rfl, m9, e9⟩
                rw [e9]
                clear e9
                go_wp2_with fail
                go_roundw
                case rel => exact ⟨3 + 1, by simp, by go_num, ho7'.out.drewN m9⟩
                case measure => simp [intOf]
        · go_wp2_with fail
          go_loopw [17] (fun s ws => ∃ j : Nat, j ≤ k ∧ s = .int .i64 (j : Int) ∧ ∃ m, ws = wr.drewN m) (fun s _ => k - (intOf s).toNat)
          case atStart => exact ⟨0, Nat.zero_le _, rfl, 0, rfl⟩
          case round =>
            obtain ⟨j, hj, rfl, m2, rfl⟩ := hrel
            by_cases hjk : j < k
            · obtain ⟨g3, o3, hao, hcj⟩ := hA.out j hjk
              obtain ⟨g4, o4, hbo, hdj⟩ := hB.out j hjk
              replace hcj := hold'.out.cell hcj
              replace hdj := hold'.out.cell hdj
              subst hao hbo
              have q1 := hF'.out.within j hjk
              have q2 := hF'.out.v j hjk
              have q3 := hF'.out.x j hjk
              obtain ⟨u, hu⟩ : ∃ u, V j = u := ⟨_, rfl⟩
              obtain ⟨t, ht⟩ : ∃ t, X j = t := ⟨_, rfl⟩
              obtain ⟨z, hz⟩ : ∃ z, SX k = z := ⟨_, rfl⟩
              rw [hu] at q1 q2 hdj
              rw [ht] at q1 q3 hcj
              rw [hz] at q1 hzb ⊢
              clear hu ht hz
              by_cases d1 : c < 1000000
              · by_cases d2 : t < 1000000
                · by_cases d3 : z < 1000000
                  · have p1 := mul_small (a := u) (b := z) q2.1 (by omega) hzb.1 d3
                    have p2 := mul_small (a := c) (b := t) hc0 d1 q3.1 d2
                    have e1 : decide (c < 1000000) = true := by simp; omega
                    have e2 : decide (t < 1000000) = true := by simp; omega
                    have e3 : decide (z < 1000000) = true := by simp; omega
                    have e4 : decide (c * t + z ≤ u * z) = false := by simp; omega
                    go_wp2_with fail
                    go_quiet (fail)
                    go_wp2
                    go_roundw
                    case rel => exact ⟨j + 1, by omega, by go_num, _, rfl⟩
                    case measure => simp [intOf]; omega
                  · have e1 : decide (c < 1000000) = true := by simp; omega
                    have e2 : decide (t < 1000000) = true := by simp; omega
                    have e3 : decide (z < 1000000) = false := by simp; omega
                    clear q1
                    go_wp2_with fail
                    go_quiet (fail)
                    go_wp2
                    go_roundw
                    case rel => exact ⟨j + 1, by omega, by go_num, _, rfl⟩
                    case measure => simp [intOf]; omega
                · have e1 : decide (c < 1000000) = true := by simp; omega
                  have e2 : decide (t < 1000000) = false := by simp; omega
                  clear q1
                  go_wp2_with fail
                  go_quiet (fail)
                  go_wp2
                  go_roundw
                  case rel => exact ⟨j + 1, by omega, by go_num, _, rfl⟩
                  case measure => simp [intOf]; omega
              · have e1 : decide (c < 1000000) = false := by simp; omega
                clear q1
                go_wp2_with fail
                go_quiet (fail)
                go_wp2
                go_roundw
                case rel => exact ⟨j + 1, by omega, by go_num, _, rfl⟩
                case measure => simp [intOf]; omega
            · obtain rfl : j = k := by omega
              go_wp2_with fail
              go_ret
              exact ⟨rfl, hold'.out.drewN m2⟩
end Go.Proofs.YtocpbnjkijpbiaaDoor
