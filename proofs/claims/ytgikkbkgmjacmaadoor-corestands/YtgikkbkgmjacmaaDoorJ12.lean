/- The search in memory; bound, options: walked. -/
import Derived.Test.YtgikkbkgmjacmaaDoorJ9
import Derived.Test.YtgikkbkgmjacmaaDoorRN
import Derived.Test.YtgikkbkgmjacmaaDoorP10
namespace Go.Proofs.YtgikkbkgmjacmaaDoor
open Go.RowKit Go.Lib Go.Shelf
attribute [local go_sem] Oper.semAt_some

/-- What is known of an instance that may be, and of prices. -/
structure OkB (B : Ins) (m : Nat) (P : List Int) : Prop where
  m1 : 1 ≤ m
  m10 : m ≤ 10
  len : B.length ≤ 32
  off : ∀ l ∈ B, OkO (2 ^ m - 1) l
  eight : ∀ l ∈ B, l.length ≤ 8
  pr : OkP P

theorem OkB.all {B : Ins} {m : Nat} {P : List Int} (h : OkB B m P) : 2 ^ m ≤ 1024 := by
  have := Nat.pow_le_pow_right (n := 2) (by decide) h.m10
  simpa using this
theorem OkB.drop {B : Ins} {m : Nat} {P : List Int} (h : OkB B m P) (k : Nat) : ∀ l ∈ B.drop k, OkO (2 ^ m - 1) l := fun l hl => h.off l (List.mem_of_mem_drop hl)

/-- The search, behind its pointer. -/
structure Sr (B : Ins) (m : Nat) (P : List Int) (sb mb : Nat) (bo : Option Addr) (cap cb cc : Nat) (W : World) : Prop where
  c0 : W.cell? ⟨sb, 0, none⟩ = some (.slice bo B.length cap)
  c1 : W.cell? ⟨sb, 1, none⟩ = some (.map (some mb))
  c2 : W.cell? ⟨sb, 2, none⟩ = some (.slice (some ⟨cb, 0, none⟩) (2 ^ m) cc)
  gn : ∀ i, i ≤ B.length → W.cell? ⟨sb, 3 + i, none⟩ = some (.int .i64 (sg P (2 ^ m - 1) (B.drop i)))
  co : ∀ f, f < 2 ^ m → W.cell? ⟨cb, f, none⟩ = some (.int .i64 (cz P f))
  ins : InsC W bo B

theorem Sr.kept {B : Ins} {m : Nat} {P : List Int} {sb mb : Nat} {bo : Option Addr} {cap cb cc : Nat} {W Y : World} (h : Sr B m P sb mb bo cap cb cc W) (hk : ∀ p v, W.cell? p = some v → Y.cell? p = some v) : Sr B m P sb mb bo cap cb cc Y :=
  ⟨hk _ _ h.c0, hk _ _ h.c1, hk _ _ h.c2, fun i hi => hk _ _ (h.gn i hi), fun f hf => hk _ _ (h.co f hf), h.ins.kept hk⟩
theorem Sr.old {B : Ins} {m : Nat} {P : List Int} {sb mb : Nat} {bo : Option Addr} {cap cb cc : Nat} {W Y : World} (h : Sr B m P sb mb bo cap cb cc W) (o : Old W Y) : Sr B m P sb mb bo cap cb cc Y := h.kept (fun _ _ hv => o.cell hv)

theorem cells_of {B : Ins} {mb : Nat} {W Y : World} (hm : KM B W mb) (hf : Frm (fun k => k = mb ∨ W.heap.size ≤ k) W Y) : ∀ p v, W.cell? p = some v → Y.cell? p = some v := fun p v hv => by
  have h1 := hm.noCell hv
  have h2 := World.block_lt_of_cell? _ _ hv
  exact frm_cell hf hv (by rintro (e | e); exact h1 e; omega)

theorem kept_map {B : Ins} {mb : Nat} {T : Nat → Prop} {W Y : World} (hm : KM B W mb) (hf : Frm (fun q => q = mb) W Y) : KeptC T W Y := fun k o _ hk hc => by
  have hne : k ≠ mb := fun e => by
    obtain ⟨es, c, hb⟩ := hm.blk
    rw [e, hb] at hk
    cases hk
    cases hc
  rw [hf.block k (blk_lt hk) hne]
  exact hk
theorem keeps_map {mb N : Nat} {W Y : World} (hm : mb < N) (hf : Frm (fun q => q = mb) W Y) : KeepsFrom N W Y := ⟨hf.size, fun k o hN hk _ => by rw [hf.block k (blk_lt hk) (by omega)]; exact hk⟩

variable {B : Ins} {m : Nat} {P : List Int} {sb mb : Nat} {bo : Option Addr} {cap cb cc : Nat}

set_option maxRecDepth 100000 in
set_option maxHeartbeats 4000000 in
theorem sbound_any (k f : Nat) (W : World) (ok : OkB B m P) (h : Sr B m P sb mb bo cap cb cc W) (hk : k ≤ B.length) (hf : f < 2 ^ m) :
    Calls Tryd.prog 108 #[.pointer (some ⟨sb, 0, none⟩), partV k f] W fun e w' => e = .returned (.int .i64 (bnZ P (2 ^ m - 1) (B.drop k) f)) ∧ Old W w' := by
  have o1 : Old W (W.alloc (.cells #[.int .i64 (k : Int), .int .u32 (f : Int)] 128)) := (Old.refl W).alloc _
  have b1 := heap_new W (.cells #[.int .i64 (k : Int), .int .u32 (f : Int)] 128)
  have h2 := h.c2
  have h3 := h.gn k hk
  have h4 := h.co f hf
  have hcz := cz_bnd ok.pr f
  have hsg := sg_bnd ok.pr (f := 2 ^ m - 1) (ok.drop k)
  have hdl : (B.drop k).length ≤ 32 := by rw [List.length_drop]; have := ok.len; omega
  have hsl : W.heap[sb]? ≠ none := by
    have := World.block_lt_of_cell? _ _ h.c0
    simp
    exact this
  have kbn : Hid (bnZ P (2 ^ m - 1) (B.drop k) f = cz P f + sg P (2 ^ m - 1) (B.drop k)) := rfl
  have hkl := ok.len
  have hk33 : (k : Int) < 33 := by omega
  have hfm : (f : Int) < ((2 ^ m : Nat) : Int) := by omega
  generalize bnZ P (2 ^ m - 1) (B.drop k) f = z at *
  generalize (2 ^ m - 1) = al at *
  generalize 2 ^ m = pm at *
  generalize cz P f = x1 at *
  generalize sg P al (B.drop k) = x2 at *
  generalize (B.drop k).length = dl at *
  have hadd : -9223372036854775808 ≤ x1 + x2 ∧ x1 + x2 ≤ 9223372036854775807 := by omega
  have q2 := o1.cell h2
  have q3 := o1.cell h3
  have q4 := o1.cell h4
  have ko := hid o1
  have d0 := blk_cells (i := 0) b1 rfl
  have d1 := blk_cells (i := 1) b1 rfl
  simp only [List.getElem_toArray, List.getElem_cons_zero, List.getElem_cons_succ] at d0 d1
  have kok := hid ok
  have kh := hid h
  clear h2 h3 h4 b1 o1 h ok hsl
  unfold partV
  go_enter Tryd.func108, Tryd.ntmps108
  go_upto_region 1 with fail
  generalize W.alloc (.cells #[.int .i64 (k : Int), .int .u32 (f : Int)] 128) = w1 at *
  go_quiet (fail)
  go_wp2_with fail
  go_ret
  exact ⟨by rw [kbn.out]; rfl, ko.out.drewN _⟩

set_option maxRecDepth 100000 in
theorem options_any (k f : Nat) (W : World) : Calls Tryd.prog 106 #[.pointer (some ⟨sb, 0, none⟩), partV k f] W fun e w' => e = .returned (.func (.func 128) #[] #[.pointer (some ⟨W.heap.size, 0, none⟩), .pointer (some ⟨W.heap.size + 1, 0, none⟩)]) ∧ w' = (W.alloc (.cells #[.pointer (some ⟨sb, 0, none⟩)] 125)).alloc (.cells #[.int .i64 (k : Int), .int .u32 (f : Int)] 128) := by
  unfold partV
  go_enter Tryd.func106, Tryd.ntmps106
  go_wp2
  go_ret
  exact ⟨rfl, rfl⟩
end Go.Proofs.YtgikkbkgmjacmaaDoor

/- The options of a part, as a function over which one ranges. -/
namespace Go.Proofs.YtgikkbkgmjacmaaDoor
open Go.RowKit Go.Lib Go.Shelf
attribute [local go_sem] Oper.semAt_some

/-- An option as it is told. -/
def optV (k : Nat) (o : Opt) : Value := .agg #[.int .i64 o.1, .int .i64 o.2.1, .int .i64 ((k : Int) + 1), .int .u32 (o.2.2 : Int)]
def encO (k : Nat) (o : Opt) : Array Value := #[optV k o]

/-- Where the options' function finds what it tells. -/
structure OC (sb n cap g o : Nat) (a0 : Option Addr) (c0 pb qb k f : Nat) (L : List Off) (W : World) : Prop where
  p0 : W.cell? ⟨pb, 0, none⟩ = some (.pointer (some ⟨sb, 0, none⟩))
  q0 : W.cell? ⟨qb, 0, none⟩ = some (.int .i64 (k : Int))
  q1 : W.cell? ⟨qb, 1, none⟩ = some (.int .u32 (f : Int))
  s0 : W.cell? ⟨sb, 0, none⟩ = some (.slice (some ⟨g, o, none⟩) n cap)
  row : W.cell? ⟨g, o + k, none⟩ = some (.slice a0 L.length c0)
  off : OffC W a0 L

theorem opt_more {f : Nat} {L : List Off} {n : Nat} (hn : n < L.length) (h : subB L[n].1 f = true) : optA f (L.drop n) n = ((n : Int), L[n].2, less f L[n].1) :: optA f (L.drop (n + 1)) (n + 1) := by
  rw [List.drop_eq_getElem_cons hn, optA, if_pos h]
theorem opt_less {f : Nat} {L : List Off} {n : Nat} (hn : n < L.length) (h : subB L[n].1 f = false) : optA f (L.drop n) n = optA f (L.drop (n + 1)) (n + 1) := by
  rw [List.drop_eq_getElem_cons hn, optA, if_neg (by rw [h]; simp)]
theorem opt_last {f : Nat} {L : List Off} : optA f (L.drop L.length) L.length = [(-1, 0, f)] := by rw [List.drop_length, optA]

set_option maxRecDepth 100000 in
set_option maxHeartbeats 4000000 in
theorem options1_P (d : Nat) (hd : 1 ≤ d) (sb N cap g o : Nat) (a0 : Option Addr) (c0 pb qb k f : Nat) (L : List Off) (hk : k < N) (hN : N ≤ 32) (hl : L.length ≤ 8) (hcn : ∀ x ∈ L, x.1 < 4294967296) (T : Nat → Prop) (w : World) (hC : ∀ Y, KeptC T w Y → OC sb N cap g o a0 c0 pb qb k f L Y) :
    SeqP Tryd.prog d 128 #[.pointer (some ⟨pb, 0, none⟩), .pointer (some ⟨qb, 0, none⟩)] (encO k) (KeptC T) (fun q => ∃ r, opts L f = q ++ r) (fun q => q = opts L f) (fun q => ∃ r, opts L f = q ++ r) w := by
  intro lp J Jx W hbe hJ _ hY h0
  have kt0 : KeptC T w W := KeptC.of_frm (Frm.mono (Old.of_below hbe) (fun _ _ h => h.elim))
  obtain ⟨p0, q0, q1, s0, e2, -⟩ := hC W kt0
  have khY := hid hY
  have khJ := hid hJ
  have kh0 := hid h0
  have khC := hid hC
  have kwW := hid (hbe.size)
  have kkt := hid kt0
  have kcn := hid hcn
  clear hY hJ h0 hC kt0 hbe hcn
  have hkN : (k : Int) < (N : Int) := by omega
  refine callsIn_of_wp Tryd.func128 rfl trivial ?_ rfl
  simp only [Tryd.ntmps128, List.size_toArray, List.length_cons, List.length_nil, Nat.reduceAdd, Nat.reduceSub, Array.replicate_succ, Array.replicate_zero, List.push_toArray, List.append_toArray, List.nil_append, List.cons_append]
  gi_wp2_with fail
  refine wpIn_wide.2 ?_
  go_quiet (fail)
  have koN : Hid (Old W (W.drewN nq)) := (Old.refl W).drewN _
  generalize W.drewN nq = W1 at *
  have kt1 : Hid (KeptC T w W1) := kkt.out.trans (KeptC.of_frm (Frm.mono koN.out (fun _ _ h => h.elim)))
  have kJ1 : Hid (J [] W1) := khJ.out _ _ _ kh0.out (Frm.mono koN.out (fun _ _ h => h.elim))
  clear p0 q0 q1 s0 e2 kkt kh0
  gi_wp2_with fail
  have hk31 : (k : Int) ≤ 31 := by omega
  have kWi := hid (fun a b w => within_any a b w)
  gi_loopw [15] (fun v wr => ∃ (n : Nat) (p : List Opt), n ≤ L.length ∧ v = .int .i64 (n : Int) ∧ Hid (J p wr ∧ opts L f = p ++ optA f (L.drop n) n ∧ KeptC T w wr)) (fun v _ => L.length - (intOf v).toNat)
  case atStart => exact ⟨0, [], Nat.zero_le _, rfl, hid ⟨kJ1.out, rfl, kt1.out⟩⟩
  case round =>
    clear kJ1 kt1 koN W1
    obtain ⟨n, p, hn, rfl, hD⟩ := hrel
    by_cases hlt : n < L.length
    · have hlt' : (n : Int) < (L.length : Int) := by omega
      have hoc := khC.out wr hD.out.2.2
      obtain ⟨gg, oo, rfl, r0, r1⟩ := hoc.off n hlt
      obtain ⟨x, hx⟩ : ∃ x, L[n] = x := ⟨_, rfl⟩
      have kyes := hid (opt_more (f := f) hlt)
      have kno := hid (opt_less (f := f) hlt)
      rw [hx] at r0 r1 kyes kno
      have hxl : x.1 < 4294967296 := by rw [← hx]; exact kcn.out _ (List.getElem_mem hlt)
      obtain ⟨xg, xc⟩ := x
      dsimp only at r0 r1 kyes kno hxl
      have oA : Old wr (wr.alloc (.cells #[.int .u32 (xg : Int), .int .i64 xc] 46)) := (Old.refl wr).alloc _
      have q0 := oA.cell hoc.q0
      have q1 := oA.cell hoc.q1
      have v0 := new_cell wr #[.int .u32 (xg : Int), .int .i64 xc] 46 0 _ rfl
      have v1 := new_cell wr #[.int .u32 (xg : Int), .int .i64 xc] 46 1 _ rfl
      simp only [List.getElem_toArray, List.getElem_cons_zero, List.getElem_cons_succ] at v0 v1
      have hbl := bits_less f xg
      have kJA := hid (khJ.out _ _ _ hD.out.1 (Frm.mono oA (fun _ _ h => h.elim)))
      have ktA : Hid (KeptC T w (wr.alloc (.cells #[.int .u32 (xg : Int), .int .i64 xc] 46))) := hD.out.2.2.trans (KeptC.of_frm (Frm.mono oA (fun _ _ h => h.elim)))
      clear hx hoc oA
      gi_wp2_with fail
      refine ⟨trivial, ?_⟩
      refine (callsIn_wide.2 (kWi.out _ _ _)).mono ?_
      rintro e w' ⟨rfl, e9⟩
      rw [e9]
      clear e9 w'
      generalize wr.alloc (.cells #[.int .u32 (xg : Int), .int .i64 xc] 46) = W2 at *
      cases hsub : subB xg f
      · have hD2 : Hid (J p W2 ∧ opts L f = p ++ optA f (L.drop (n + 1)) (n + 1) ∧ KeptC T w W2) := hid ⟨kJA.out, by rw [hD.out.2.1, kno.out hsub], ktA.out⟩
        clear hD kJA ktA
        gi_wp2_with fail
        refine ⟨fun _ h => (by cases h), ?_⟩
        gi_wp2_with fail
        go_roundw
        case rel => exact ⟨n + 1, p, by omega, by go_num, hD2⟩
        case measure => simp [intOf]; omega
      · have hall : Hid (opts L f = (p ++ [((n : Int), xc, less f xg)]) ++ optA f (L.drop (n + 1)) (n + 1)) := by
          show _ = _
          rw [hD.out.2.1, kyes.out hsub, List.append_assoc]
          rfl
        obtain ⟨fn, tmps, asn, bdy, hy, hR⟩ := khY.out p ((n : Int), xc, less f xg) _ kJA.out ⟨_, hall.out⟩
        dsimp only [encO, optV] at hy
        clear hD
        gi_wp2_with fail
        refine (round_wide hR).mono ?_
        rintro e w7 (⟨rfl, hJ7, hp7⟩ | ⟨rfl, hJx7⟩)
        · have hD7 : Hid (J (p ++ [((n : Int), xc, less f xg)]) w7 ∧ opts L f = (p ++ [((n : Int), xc, less f xg)]) ++ optA f (L.drop (n + 1)) (n + 1) ∧ KeptC T w w7) := hid ⟨hJ7, hall.out, ktA.out.trans hp7⟩
          clear hy hR kJA ktA hJ7 hp7 hall q0 q1 v0 v1 hbl
          gi_wp2_with fail
          go_roundw
          case rel => exact ⟨n + 1, _, by omega, by go_num, hD7⟩
          case measure => simp [intOf]; omega
        · clear hy hR kJA ktA q0 q1 v0 v1 hbl
          gi_wp2_with fail
          refine bodyPost_ret (results_none rfl _ _ _) rfl ?_
          exact ⟨⟨_, rfl⟩, .inr ⟨_, ⟨_, hall.out⟩, hJx7⟩⟩
    · have hlt' : ¬ (n : Int) < (L.length : Int) := by omega
      obtain rfl : n = L.length := by omega
      have hoc := khC.out wr hD.out.2.2
      have q0 := hoc.q0
      have q1 := hoc.q1
      have hall : Hid (opts L f = (p ++ [(-1, 0, f)]) ++ []) := by
        show _ = _
        rw [hD.out.2.1, opt_last]
        simp
      obtain ⟨fn, tmps, asn, bdy, hy, hR⟩ := khY.out p (-1, 0, f) _ hD.out.1 ⟨_, hall.out⟩
      dsimp only [encO, optV] at hy
      clear hoc
      gi_wp2_with fail
      refine (round_wide hR).mono ?_
      rintro e w7 (⟨rfl, hJ7, hp7⟩ | ⟨rfl, hJx7⟩)
      · clear hy hR q0 q1
        gi_wp2_with fail
        go_end0
        exact ⟨⟨_, rfl⟩, .inl ⟨_, by rw [hall.out, List.append_nil], hJ7⟩⟩
      · clear hy hR q0 q1
        gi_wp2_with fail
        go_end0
        exact ⟨⟨_, rfl⟩, .inr ⟨_, ⟨_, hall.out⟩, hJx7⟩⟩
end Go.Proofs.YtgikkbkgmjacmaaDoor
