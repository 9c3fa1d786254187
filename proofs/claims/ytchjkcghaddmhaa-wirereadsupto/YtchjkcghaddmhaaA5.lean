/- The document's reader: lists of texts. -/
import Derived.Test.YtchjkcghaddmhaaA3
namespace Go.Proofs.Ytchjkcghaddmhaa
open Go.RowKit

/-- What the document's reader leaves behind a list. -/
def RTkT (w0 w : World) (db : Nat) (ao : Option Addr) (cap : Nat) (xs : List UInt8) (p : Nat) (t : List (List UInt8) × Int × Nat) (e : Ending) (w' : World) : Prop :=
  ∃ u, e = .returned (.tuple #[u, .int .i64 t.2.1]) ∧ TextsAt w' w.heap.size u t.1 ∧ RR w0 w' db ao cap xs (p + t.2.2) ∧ Frm (fun k => k = db) w w'

/-- How the reading of a list stands, k things on. -/
structure NtInv (w0 w wr : World) (db : Nat) (ao : Option Addr) (cap : Nat) (xs : List UInt8) (s0 N k : Nat) (u : Value) (L : List (List UInt8)) (q : Nat) : Prop where
  len : L.length = k
  own : wr.ownsRow w.heap.size 9 1 u k (L.map strV)
  rr : RR w0 wr db ao cap xs q
  frm : Frm (fun j => j = db) w wr
  at_ : s0 + (rdTs N (xs.drop s0)).2.2 = q + (rdTs (N - k) (xs.drop q)).2.2
  all : (rdTs N (xs.drop s0)).1 = L ++ (rdTs (N - k) (xs.drop q)).1
  err : (rdTs N (xs.drop s0)).2.1 = (rdTs (N - k) (xs.drop q)).2.1

/-- The first error of a list stands. -/
structure NtErr (w0 w wr : World) (db : Nat) (ao : Option Addr) (cap : Nat) (xs : List UInt8) (s0 N : Nat) (er : Int) (q : Nat) : Prop where
  rr : RR w0 wr db ao cap xs q
  frm : Frm (fun j => j = db) w wr
  ne : er ≠ 0
  err : (rdTs N (xs.drop s0)).2.1 = er

theorem nt_mem {w0 w w3 w4 : World} {db : Nat} {ao : Option Addr} {cap : Nat} {xs : List UInt8} {q : Nat} {u : Value} (hw0 : w0.heap.size ≤ w.heap.size) (hdb : db < w.heap.size) (hu : ∀ g, u.ownBlock = some g → w.heap.size ≤ g) (hr : RR w0 w3 db ao cap xs q) (hf : Frm (fun j => j = db) w w3) (o : Obj) (hg : (w3.alloc o).grownBy w4 u.ownBlock) :
    RR w0 w4 db ao cap xs q ∧ Frm (fun j => j = db) w w4 := by
  have hf34 : Frm (fun j => w.heap.size ≤ j) w3 w4 := ((Frm.refl _ w3).alloc o).grown hg (fun g e => .inr (hu g e))
  exact ⟨hr.kept hf34 (by omega) (fun k hk => by omega), hf.trans hf34 (fun i hi e => by omega)⟩

/-- One thing more. -/
theorem nt_step {w0 w wr w3 w4 : World} {db : Nat} {ao : Option Addr} {cap : Nat} {xs : List UInt8} {s0 N k : Nat} {u u' : Value} {L : List (List UInt8)} {q : Nat} (hw0 : w0.heap.size ≤ w.heap.size) (hdb : db < w.heap.size) (h : NtInv w0 w wr db ao cap xs s0 N k u L q) (hk : k < N)
    (hz : (rdW (xs.drop q)).2.1 = 0) (hr : RR w0 w3 db ao cap xs (q + (rdW (xs.drop q)).2.2)) (hf : Frm (fun j => j = db) wr w3) (o : Obj) (hg : (w3.alloc o).grownBy w4 u.ownBlock)
    (hown : w4.ownsRow w.heap.size 9 1 u' (k + 1) (L.map strV ++ [strV (rdW (xs.drop q)).1])) :
    NtInv w0 w w4 db ao cap xs s0 N (k + 1) u' (L ++ [(rdW (xs.drop q)).1]) (q + (rdW (xs.drop q)).2.2) := by
  obtain ⟨hr4, hf4⟩ := nt_mem hw0 hdb (fun g e => (h.own.lt g e).1) hr (h.frm.trans hf (fun _ _ h => h)) o hg
  have hN : N - k = (N - (k + 1)) + 1 := by omega
  have hs := rdTs_succ (N - (k + 1)) (xs.drop q) hz
  rw [← hN, List.drop_drop] at hs
  refine ⟨by simp [h.len], by simpa using hown, hr4, hf4, ?_, ?_, ?_⟩
  · rw [h.at_, hs]; simp only; omega
  · rw [h.all, hs]; simp
  · rw [h.err, hs]

theorem nt_fail {w0 w wr w3 w4 : World} {db : Nat} {ao : Option Addr} {cap : Nat} {xs : List UInt8} {s0 N k : Nat} {u : Value} {L : List (List UInt8)} {q q' : Nat} (hw0 : w0.heap.size ≤ w.heap.size) (hdb : db < w.heap.size) (h : NtInv w0 w wr db ao cap xs s0 N k u L q) (hk : k < N)
    (hz : ¬ (rdW (xs.drop q)).2.1 = 0) (hr : RR w0 w3 db ao cap xs q') (hf : Frm (fun j => j = db) wr w3) (o : Obj) (hg : (w3.alloc o).grownBy w4 u.ownBlock) :
    NtErr w0 w w4 db ao cap xs s0 N (rdW (xs.drop q)).2.1 q' := by
  obtain ⟨hr4, hf4⟩ := nt_mem hw0 hdb (fun g e => (h.own.lt g e).1) hr (h.frm.trans hf (fun _ _ h => h)) o hg
  refine ⟨hr4, hf4, hz, ?_⟩
  rw [h.err, show N - k = (N - (k + 1)) + 1 from by omega, rdTs_err _ _ hz]

theorem nt_end {w0 w wr : World} {db : Nat} {ao : Option Addr} {cap : Nat} {xs : List UInt8} {p c N : Nat} {u : Value} {L : List (List UInt8)} {q : Nat} (h : NtInv w0 w wr db ao cap xs (p + c) N N u L q) :
    RTkT w0 w db ao cap xs p (rdFinT (rdTs N (xs.drop (p + c))) c) (.returned (.tuple #[u, .int .i64 0])) wr := by
  have h1 := h.at_
  have h2 := h.all
  have h3 := h.err
  rw [Nat.sub_self] at h1 h2 h3
  simp only [rdTs, List.append_nil, Nat.add_zero] at h1 h2 h3
  unfold rdFinT
  rw [if_neg (by rw [h3]; simp), h2]
  refine ⟨u, rfl, ?_, ?_, h.frm⟩
  · unfold TextsAt
    have := h.own
    rw [← h.len] at this
    exact this
  · rw [← Nat.add_assoc, h1]; exact h.rr

theorem nt_out {w0 w wr w' : World} {db : Nat} {ao : Option Addr} {cap : Nat} {xs : List UInt8} {p c N : Nat} {er : Int} {q : Nat} (h : NtErr w0 w wr db ao cap xs (p + c) N er q) (hr : RR w0 w' db ao cap xs (p + 0)) (hf : Frm (fun j => j = db) wr w') :
    RTkT w0 w db ao cap xs p (rdFinT (rdTs N (xs.drop (p + c))) c) (.returned (.tuple #[.slice none 0 0, .int .i64 er])) w' := by
  have h3 := h.err
  unfold rdFinT
  rw [if_pos (by rw [h3]; exact h.ne), h3]
  exact ⟨_, rfl, World.ownsRow_nil _ _ _ _, hr, h.frm.trans hf (fun _ _ h => h)⟩

set_option maxRecDepth 100000 in
set_option maxHeartbeats 4000000 in
theorem refTexts_bad {w0 : World} (db : Nat) (ao : Option Addr) (cap : Nat) (xs : List UInt8) (p : Nat) (most : Int) (w : World) (hr : RR w0 w db ao cap xs p) (hlen : xs.length ≤ 900000000000) (hm : most ≤ 9223372036854775807) (hbad : (rdCount (xs.drop p) most).2.1 ≠ 0) :
    Calls Try.prog 61 #[.pointer (some ⟨db, 0, none⟩), .int .i64 most, .int .i64 9] w fun e w' => RTkT w0 w db ao cap xs p ([], (rdCount (xs.drop p) most).2.1, 0) e w' := by
  have hle := hr.le
  have hld : (xs.drop p).length = xs.length - p := List.length_drop
  obtain ⟨f1, f2, f3, f4, f5, f6⟩ := rdNum_facts (xs.drop p)
  obtain ⟨hc0, hc1, hz1⟩ := hr.cells
  have hn := hid (refNum_any db ao cap xs p w hr hlen)
  rcases rdCount_ways (xs.drop p) most with ⟨h0, hw⟩ | ⟨h0, h1, hw⟩ | ⟨h0, h1, h2, hw⟩ | ⟨h0, h1, h2, h3, hw⟩ | ⟨h0, h1, h2, h3, hw⟩
  · rw [hw]
    clear hw hn hbad
    go_enter Try.func61, Try.ntmps61
    go_wp2
    go_ret2
    exact ⟨_, rfl, World.ownsRow_nil _ _ _ _, hr, Frm.refl _ _⟩
  · rw [hw]
    clear hw hbad
    generalize rdNum (xs.drop p) = t at *
    obtain ⟨x, er, c⟩ := t
    dsimp only at h1 f1 f2 f3 ⊢
    have ht : (er != 0) = true := by rw [bne_iff_ne]; exact h1
    have ht2 : (er == 0) = false := by rw [beq_eq_false_iff_ne]; exact h1
    clear h1 f4 f5 f6 hld
    go_enter Try.func61, Try.ntmps61
    go_wp2_with fail
    refine hn.out.mono ?_
    rintro e w1 ⟨rfl, hr1, hf1⟩
    dsimp only at hr1
    clear hn hc0 hc1 hz1
    obtain ⟨hc0, hc1, hz1⟩ := hr1.cells
    have hst := hid (hr1.back (q := p) hle)
    go_wp2_with fail
    refine wp_loop_rounds 1 ?_
    rw [rounds_succ]
    go_wp2
    go_ret2
    exact ⟨_, rfl, World.ownsRow_nil _ _ _ _, hst.out.1, hf1.trans hst.out.2 (fun _ _ h => h)⟩
  · rw [hw]
    clear hw hbad
    generalize rdNum (xs.drop p) = t at *
    obtain ⟨x, er, c⟩ := t
    dsimp only at h1 h2 f1 f2 f3 ⊢
    subst h1
    clear f4 f5 f6 hld
    go_enter Try.func61, Try.ntmps61
    go_wp2_with fail
    refine hn.out.mono ?_
    rintro e w1 ⟨rfl, hr1, hf1⟩
    dsimp only at hr1
    clear hn hc0 hc1 hz1
    obtain ⟨hc0, hc1, hz1⟩ := hr1.cells
    have hst := hid (hr1.back (q := p) hle)
    go_wp2_with fail
    refine wp_loop_rounds 1 ?_
    rw [rounds_succ]
    go_wp2
    go_ret2
    exact ⟨_, rfl, World.ownsRow_nil _ _ _ _, hst.out.1, hf1.trans hst.out.2 (fun _ _ h => h)⟩
  · rw [hw]
    rw [hld] at h3 f3
    clear hw hbad
    generalize rdNum (xs.drop p) = t at *
    obtain ⟨x, er, c⟩ := t
    dsimp only at h1 h2 f1 f2 f3 h3 ⊢
    subst h1
    clear f4 f5 f6 hld
    go_enter Try.func61, Try.ntmps61
    go_wp2_with fail
    refine hn.out.mono ?_
    rintro e w1 ⟨rfl, hr1, hf1⟩
    dsimp only at hr1
    clear hn hc0 hc1 hz1
    go_wp2_with fail
    refine (refLeft_any db ao cap xs _ _ hr1 hlen).mono ?_
    rintro e w2 ⟨rfl, k, rfl⟩
    have hd : (xs.length : Int) - ((p + c : Nat) : Int) < x := by omega
    have hr2 := hr1.grow ((Frm.refl (fun _ => False) w1).drewN k)
    have hf2 := hf1.drewN k
    generalize w1.drewN k = w2 at *
    obtain ⟨hc0, hc1, hz1⟩ := hr2.cells
    have hst := hid (hr2.back (q := p) hle)
    go_wp2_with fail
    refine wp_loop_rounds 1 ?_
    rw [rounds_succ]
    go_wp2
    go_ret2
    exact ⟨_, rfl, World.ownsRow_nil _ _ _ _, hst.out.1, hf2.trans hst.out.2 (fun _ _ h => h)⟩
  · rw [hw] at hbad
    exact absurd rfl hbad

set_option maxRecDepth 100000 in
set_option maxHeartbeats 4000000 in
theorem refTexts_good {w0 : World} (db : Nat) (ao : Option Addr) (cap : Nat) (xs : List UInt8) (p : Nat) (most : Int) (w : World) (hr : RR w0 w db ao cap xs p) (hlen : xs.length ≤ 900000000000) (hm : most ≤ 9223372036854775807) (c N : Nat)
    (h0 : 0 ≤ most) (ht : Hid (rdNum (xs.drop p) = ((N : Int), 0, c))) (h2 : (N : Int) ≤ most) (h3 : p + c + N ≤ xs.length) :
    Calls Try.prog 61 #[.pointer (some ⟨db, 0, none⟩), .int .i64 most, .int .i64 9] w fun e w' => RTkT w0 w db ao cap xs p (rdFinT (rdTs N (xs.drop (p + c))) c) e w' := by
  obtain ⟨i0, hi0, hz0, hz1, hz2⟩ := info_parts Try.info9
  have hle := hr.le
  have hn := hid (refNum_any db ao cap xs p w hr hlen)
  rw [ht.out] at hn
  clear ht
  have hdb := hr.lt
  have hw0 := hr.frm.size
  obtain ⟨hc0, hc1, hz1'⟩ := hr.cells
  go_enter Try.func61, Try.ntmps61
  go_wp2_with fail
  refine hn.out.mono ?_
  rintro e w1 ⟨rfl, hr1, hf1⟩
  dsimp only at hr1
  clear hn hc0 hc1 hz1'
  go_wp2_with fail
  refine (refLeft_any db ao cap xs _ _ hr1 hlen).mono ?_
  rintro e w2 ⟨rfl, kk, rfl⟩
  have hd : ¬ (xs.length : Int) - ((p + c : Nat) : Int) < (N : Int) := by omega
  have hr2 := hr1.grow ((Frm.refl (fun _ => False) w1).drewN kk)
  have hf2 := hf1.drewN kk
  generalize w1.drewN kk = w2 at *
  clear hr1 hf1
  have hI : NtInv w0 w w2 db ao cap xs (p + c) N 0 (.slice none 0 0) [] (p + c) := ⟨rfl, World.ownsRow_nil _ _ _ _, hr2, hf2, by simp, by simp, by simp⟩
  clear hr2 hf2
  go_wp2_with fail
  go_loopw [10, 11, 12] (fun e u i wr => ∃ k : Nat, k ≤ N ∧ i = .int .u64 (k : Int) ∧ ((e = .int .i64 0 ∧ ∃ L q, NtInv w0 w wr db ao cap xs (p + c) N k u L q) ∨ ∃ er q, e = .int .i64 er ∧ NtErr w0 w wr db ao cap xs (p + c) N er q)) (fun _ _ i _ => N - (intOf i).toNat)
  case atStart => exact ⟨0, Nat.zero_le _, rfl, .inl ⟨rfl, [], _, hI⟩⟩
  case round =>
    clear hI
    obtain ⟨k, hk, rfl, ⟨rfl, L, q, hinv⟩ | ⟨er, q, rfl, herr⟩⟩ := hrel
    · by_cases hlt : k < N
      · have hrn := hid (refText_any db ao cap xs q 9 wr hinv.rr hlen (by omega))
        rw [show rdText (xs.drop q) 9 = rdW (xs.drop q) from rfl] at hrn
        have hown := hinv.own
        have hsz := hinv.frm.size
        by_cases he : (rdW (xs.drop q)).2.1 = 0
        · have HS := hid (fun w3 w4 u' => nt_step (w3 := w3) (w4 := w4) (u' := u') hw0 hdb hinv hlt he)
          generalize rdW (xs.drop q) = T at *
          obtain ⟨x, er, cc⟩ := T
          dsimp only at he
          subst he
          clear hinv hr
          go_wp2_with fail
          refine hrn.out.mono ?_
          rintro e w3 ⟨rfl, hr3, hf3⟩
          have hown3 := owns_frm hown hf3 (fun g hg e => by omega)
          have hs3 := hf3.size
          go_wp2_with (at_builtin; refine wpList_append_own _ (by rfl) _ _ 34 (by rfl) w.heap.size 9 i0 _ 1 16 Try.underlying34 hi0 hz0 hz1 hz2 rfl (by omega) u11 k (L.map strV) (by rfl) (hown3.alloc _) ⟨w3.heap.size, 0, none⟩ 1 1 [Value.string ⟨x.toArray⟩] (by rfl) (by rfl) (World.news_of_block (cs := #[Value.string ⟨x.toArray⟩]) (t := 9) (fr := (0, 0)) (heap_alloc_new w3 _)) (by simp [Value.oneCell']) (by unfold maxLen; omega) (by omega) (by simp; omega) ?_; intro u' w4 hown4 hgrow _)
          have hst := HS.out w3 w4 u' hr3 hf3 _ hgrow hown4
          clear hown4 hgrow hown3 hown HS
          go_wp2
          go_roundw
          case rel => exact ⟨k + 1, by omega, by go_num, .inl ⟨rfl, _, _, hst⟩⟩
          case measure => simp [intOf]; omega
        · have HS := hid (fun w3 w4 q' => nt_fail (w3 := w3) (w4 := w4) (q' := q') hw0 hdb hinv hlt he)
          generalize rdW (xs.drop q) = T at *
          obtain ⟨x, er, cc⟩ := T
          dsimp only at he
          clear hinv hr
          go_wp2_with fail
          refine hrn.out.mono ?_
          rintro e w3 ⟨rfl, hr3, hf3⟩
          have hown3 := owns_frm hown hf3 (fun g hg e => by omega)
          have hs3 := hf3.size
          go_wp2_with (at_builtin; refine wpList_append_own _ (by rfl) _ _ 34 (by rfl) w.heap.size 9 i0 _ 1 16 Try.underlying34 hi0 hz0 hz1 hz2 rfl (by omega) u11 k (L.map strV) (by rfl) (hown3.alloc _) ⟨w3.heap.size, 0, none⟩ 1 1 [Value.string ⟨x.toArray⟩] (by rfl) (by rfl) (World.news_of_block (cs := #[Value.string ⟨x.toArray⟩]) (t := 9) (fr := (0, 0)) (heap_alloc_new w3 _)) (by simp [Value.oneCell']) (by unfold maxLen; omega) (by omega) (by simp; omega) ?_; intro u' w4 hown4 hgrow _)
          have hst := HS.out w3 w4 _ hr3 hf3 _ hgrow
          clear hown4 hgrow hown3 hown HS
          go_wp2
          go_roundw
          case rel => exact ⟨k + 1, by omega, by go_num, .inr ⟨_, _, rfl, hst⟩⟩
          case measure => simp [intOf]; omega
      · obtain rfl : k = N := by omega
        have hfin := hid (nt_end hinv)
        clear hinv hr
        go_wp2_with fail
        go_ret2
        exact hfin.out
    · have hne := herr.ne
      have ht1 : (er != 0) = true := by rw [bne_iff_ne]; exact hne
      have ht2 : (er == 0) = false := by rw [beq_eq_false_iff_ne]; exact hne
      obtain ⟨hc0, hc1, hz1'⟩ := herr.rr.cells
      have hst := herr.rr.back (q := p) hle
      have hfin := hid (nt_out herr hst.1 hst.2)
      clear hst herr hr hne
      go_wp2_with fail
      go_ret2
      exact hfin.out

theorem refTexts_any {w0 : World} (db : Nat) (ao : Option Addr) (cap : Nat) (xs : List UInt8) (p : Nat) (most : Int) (w : World) (hr : RR w0 w db ao cap xs p) (hlen : xs.length ≤ 900000000000) (hm : most ≤ 9223372036854775807) :
    Calls Try.prog 61 #[.pointer (some ⟨db, 0, none⟩), .int .i64 most, .int .i64 9] w fun e w' => RTkT w0 w db ao cap xs p (rdTakeT (xs.drop p) most) e w' := by
  by_cases hb : (rdCount (xs.drop p) most).2.1 ≠ 0
  · rw [show rdTakeT (xs.drop p) most = ([], (rdCount (xs.drop p) most).2.1, 0) from by unfold rdTakeT; rw [if_pos hb]]
    exact refTexts_bad db ao cap xs p most w hr hlen hm hb
  · have hb' : (rdCount (xs.drop p) most).2.1 = 0 := by omega
    rw [rdTakeT_eq _ _ hb']
    obtain ⟨f1, f2, f3, f4, f5, f6⟩ := rdNum_facts (xs.drop p)
    have hle := hr.le
    rcases rdCount_ways (xs.drop p) most with ⟨h0, hw⟩ | ⟨h0, h1, hw⟩ | ⟨h0, h1, h2, hw⟩ | ⟨h0, h1, h2, h3, hw⟩ | ⟨h0, h1, h2, h3, hw⟩
    · rw [hw] at hb'; simp at hb'
    · rw [hw] at hb'; exact absurd hb' h1
    · rw [hw] at hb'; simp at hb'
    · rw [hw] at hb'; simp at hb'
    · rw [hw]
      dsimp only
      rw [List.drop_drop]
      rw [List.length_drop] at h3 f3
      obtain ⟨N, hN⟩ := Int.eq_ofNat_of_zero_le f1
      rw [hN, Int.toNat_natCast]
      rw [hN] at h2 h3
      exact refTexts_good db ao cap xs p most w hr hlen hm _ N h0 (by show rdNum (xs.drop p) = _; rw [← hN, ← h1]) (by omega) (by omega)

end Go.Proofs.Ytchjkcghaddmhaa
