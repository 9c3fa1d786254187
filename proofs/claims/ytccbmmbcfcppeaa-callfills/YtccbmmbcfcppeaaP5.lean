/- Who trades with whom, as a function over which one ranges: walked. -/
import Derived.Test.YtccbmmbcfcppeaaP4
import Derived.Test.YtccbmmbcfcppeaaJ1
import Derived.WalkMore
namespace Go.Proofs.Ytccbmmbcfcppeaa
open Go.RowKit Go.Lib Go.Shelf
attribute [local go_sem] Oper.semAt_some

def encF (x : Fl) : Array Value := #[.agg #[.int .i64 (x.b : Int), .int .i64 (x.s : Int), .int .i64 (x.n : Int)]]

/-- Where one goes on: b, m of the buyers, s, n of the sellers; k are told. -/
structure Gi (L M : List Wt) (b s m n k : Nat) : Prop where
  hb : b ≤ L.length
  hs : s ≤ M.length
  hm : b < L.length → m < kW L (og (keyB L) L.length b)
  hn : s < M.length → n < kW M (og (keyS M) M.length s)
  m64 : m ≤ 64
  n64 : n ≤ 64
  hd : (fls L M).drop k = mrg ((L.length - b) + (M.length - s)) (stX (itB L) b m) (stX (itS M) s n)
  hk : k ≤ (fls L M).length
theorem itB_len (L : List Wt) : (itB L).length = L.length := by unfold itB; rw [it_len, ord_len]
theorem itS_len (L : List Wt) : (itS L).length = L.length := by unfold itS; rw [it_len, ord_len]
theorem itB_at {L : List Wt} {b : Nat} (h : b < L.length) : (itB L)[b]'(by rw [itB_len]; exact h) = ⟨og (keyB L) L.length b, cW L (og (keyB L) L.length b), kW L (og (keyB L) L.length b)⟩ := by
  unfold itB
  rw [it_at (by rw [ord_len]; exact h), og_at h]
theorem itS_at {L : List Wt} {b : Nat} (h : b < L.length) : (itS L)[b]'(by rw [itS_len]; exact h) = ⟨og (keyS L) L.length b, cW L (og (keyS L) L.length b), kW L (og (keyS L) L.length b)⟩ := by
  unfold itS
  rw [it_at (by rw [ord_len]; exact h), og_at h]
theorem Gi.start {L M : List Wt} (hL : OkW L) (hM : OkW M) : Gi L M 0 0 0 0 0 := by
  refine ⟨Nat.zero_le _, Nat.zero_le _, fun h => ?_, fun h => ?_, by omega, by omega, ?_, Nat.zero_le _⟩
  · have := hL.ok _ (og_lt (K := keyB L) h); omega
  · have := hM.ok _ (og_lt (K := keyS M) h); omega
  · rw [List.drop_zero]
    unfold stX fls
    rw [redu_zero, redu_zero, List.drop_zero, List.drop_zero, Nat.sub_zero, Nat.sub_zero]
theorem Gi.all {L M : List Wt} {k : Nat} (he : (fls L M).drop k = []) : (fls L M).take k = fls L M := List.take_of_length_le (List.drop_eq_nil_iff.1 he)
theorem Gi.over {L M : List Wt} {b s m n k : Nat} (h : Gi L M b s m n k) (he : L.length ≤ b ∨ M.length ≤ s) : (fls L M).take k = fls L M :=
  Gi.all (by rw [h.hd]; exact mrg_nil (by rw [itB_len, itS_len]; exact he))
theorem Gi.stop {L M : List Wt} {b s m n k : Nat} (h : Gi L M b s m n k) (hb : b < L.length) (hs : s < M.length) (hc : cW L (og (keyB L) L.length b) < cW M (og (keyS M) M.length s)) : (fls L M).take k = fls L M := by
  refine Gi.all ?_
  rw [h.hd, show L.length - b + (M.length - s) = (L.length - b + (M.length - s) - 1) + 1 by omega]
  exact mrg_stop (by rw [itB_len]; exact hb) (by rw [itS_len]; exact hs) (by rw [itB_at hb, itS_at hs]; exact hc)
theorem nx_le {k m c : Nat} (hc : m + c ≤ k) (hk : k ≤ 64) : nxM k m c ≤ 64 := by unfold nxM; split <;> omega
theorem Gi.step {L M : List Wt} (hL : OkW L) (hM : OkW M) {b s m n k : Nat} (h : Gi L M b s m n k) (hb : b < L.length) (hs : s < M.length) (hc : cW M (og (keyS M) M.length s) ≤ cW L (og (keyB L) L.length b)) {c : Nat} (hcc : c = min (kW L (og (keyB L) L.length b) - m) (kW M (og (keyS M) M.length s) - n)) :
    (fls L M).take k ++ [⟨og (keyB L) L.length b, og (keyS M) M.length s, c⟩] = (fls L M).take (k + 1) ∧ k < (fls L M).length ∧ Gi L M (nxB (kW L (og (keyB L) L.length b)) b m c) (nxB (kW M (og (keyS M) M.length s)) s n c) (nxM (kW L (og (keyB L) L.length b)) m c) (nxM (kW M (og (keyS M) M.length s)) n c) (k + 1) := by
  have hm := h.hm hb
  have hn := h.hn hs
  have oL := hL.ok _ (og_lt (K := keyB L) hb)
  have oM := hM.ok _ (og_lt (K := keyS M) hs)
  have e := h.hd
  rw [show L.length - b + (M.length - s) = (L.length - b + (M.length - s) - 1) + 1 by omega, mrg_step (by rw [itB_len]; exact hb) (by rw [itS_len]; exact hs) (by rw [itB_at hb]; exact hm) (by rw [itS_at hs]; exact hn) (by rw [itB_at hb, itS_at hs]; exact hc)] at e
  rw [itB_at hb, itS_at hs] at e
  dsimp only at e
  rw [← hcc] at e
  have hlt : k < (fls L M).length := by
    apply Nat.lt_of_not_le
    intro hle
    rw [List.drop_of_length_le hle] at e
    cases e
  rw [List.drop_eq_getElem_cons hlt, List.cons.injEq] at e
  refine ⟨by rw [List.take_succ_eq_append_getElem hlt, e.1], hlt, ⟨?_, ?_, fun h2 => ?_, fun h2 => ?_, nx_le (by omega) oL.2.2.2, nx_le (by omega) oM.2.2.2, ?_, by omega⟩⟩
  · unfold nxB; split <;> omega
  · unfold nxB; split <;> omega
  · unfold nxB nxM at *
    split
    · rename_i h3
      try rw [if_pos h3] at h2
      have := hL.ok _ (og_lt (K := keyB L) h2)
      omega
    · omega
  · unfold nxB nxM at *
    split
    · rename_i h3
      try rw [if_pos h3] at h2
      have := hM.ok _ (og_lt (K := keyS M) h2)
      omega
    · omega
  · rw [e.2]
    refine mrg_fuel _ _ _ _ ?_ ?_
    · rw [stX_len, stX_len, itB_len, itS_len]
      unfold nxB
      split <;> split <;> omega
    · rw [stX_len, stX_len, itB_len, itS_len]
      exact Nat.le_refl _

/-- What the body may turn. -/
structure NT (T : Nat → Prop) (b5 b6 b2 b3 rb rs : Nat) (ao bo : Option Addr) (L M : List Wt) : Prop where
  n5 : ¬ T b5
  n6 : ¬ T b6
  n2 : ¬ T b2
  n3 : ¬ T b3
  nb : 0 < L.length → ¬ T rb
  ns : 0 < M.length → ¬ T rs
  na : 0 < L.length → ∀ ad, ao = some ad → ¬ T ad.block
  no : 0 < M.length → ∀ ad, bo = some ad → ¬ T ad.block
theorem kept_nums {T : Nat → Prop} {X Y : World} {b : Nat} {L : List Int} (h : NumsC .i64 X (some ⟨b, 0, none⟩) L) (hk : KeptC T X Y) (ht : 0 < L.length → ¬ T b) : NumsC .i64 Y (some ⟨b, 0, none⟩) L := by
  intro i hi
  obtain ⟨g, o, e, h1⟩ := h i hi
  have : b = g := by
    simp only [Option.some.injEq, Addr.mk.injEq] at e
    exact e.1
  exact ⟨g, o, e, kept_cell hk (by rw [this] at ht; exact ht (by omega)) h1⟩
theorem kept_wants {T : Nat → Prop} {X Y : World} {ao : Option Addr} {L : List Wt} (h : WC X ao L) (hk : KeptC T X Y) (ht : 0 < L.length → ∀ ad, ao = some ad → ¬ T ad.block) : WC Y ao L := by
  intro i hi
  obtain ⟨g, o, rfl, h1, h2⟩ := h i hi
  have hs := ht (by omega) _ rfl
  exact ⟨g, o, rfl, kept_cell hk hs h1, kept_cell hk hs h2⟩
theorem TrC.kept {T : Nat → Prop} {w w' : World} {b5 b6 b2 b3 rb rs : Nat} {ao bo : Option Addr} {ca cb : Nat} {L M : List Wt} (h : TrC w b5 b6 b2 b3 rb rs ao bo ca cb L M) (hk : KeptC T w w') (n : NT T b5 b6 b2 b3 rb rs ao bo L M) : TrC w' b5 b6 b2 b3 rb rs ao bo ca cb L M :=
  ⟨kept_cell hk n.n5 h.c5, kept_cell hk n.n6 h.c6, kept_cell hk n.n2 h.c2, kept_cell hk n.n3 h.c3, kept_nums h.r5 hk (by rw [dl_len]; exact n.nb), kept_nums h.r6 hk (by rw [dl_len]; exact n.ns), kept_wants h.wl hk n.na, kept_wants h.wm hk n.no⟩

end Go.Proofs.Ytccbmmbcfcppeaa
