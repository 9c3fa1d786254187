/- The law's lent, with what lies behind; what is posted by both. -/
import Derived.Test.YtlhlmkdgbgppiaaJ17
import Derived.Test.YtlhlmkdgbgppiaaJ16
import Derived.Test.YtlhlmkdgbgppiaaE8
import Derived.Test.YtlhlmkdgbgppiaaDA
namespace Go.Proofs.Ytlhlmkdgbgppiaa
open Go.RowKit Go.Shelf Go.Maps

theorem EsC.pre {w : World} {ao : Option Addr} {E F : List Es} (h : EsC w ao (E ++ F)) : EsC w ao E := fun i hi => by
  obtain ⟨g, o, e, x0, x1⟩ := h i (by rw [List.length_append]; omega)
  rw [List.getElem_append_left hi] at x0 x1
  exact ⟨g, o, e, x0, x1⟩
theorem EsC.behind {w : World} {g : Nat} {E : List Es} {y : Es} (h : EsC w (some ⟨g, 0, none⟩) (E ++ [y])) : w.cell? ⟨g, E.length * 2, none⟩ = some (.string ⟨y.1.toArray⟩) := by
  obtain ⟨g', o, e, x0, -⟩ := h E.length (by simp)
  cases e
  rw [List.getElem_append_right (Nat.le_refl _)] at x0
  simpa using x0

/-- Both are asked to post. -/
theorem post_pair (k : Bk) (ao bo : Option Addr) (c d : Nat) (E : List Es) (w : World) (h : BkOk w k) (hP : k.x.P.length ≤ 200) (hE : EsC w ao E) (hF : ∀ W, Frm k.x.own w W → EsC W bo E) (hno : bo = none → d = 0) (hs : ∀ e ∈ E, e.1.length ≤ maxLen) :
    Calls Try.prog 13 #[k.x.ptr, .slice ao E.length c] w fun e w1 => ∃ a r : Int, e = .returned (.tuple #[.int .i64 a, .int .i64 r]) ∧ Frm k.x.own w w1 ∧
      Calls Try.prog 24 #[.pointer (some ⟨k.rb, 0, none⟩), .slice bo E.length d] w1 fun e' w2 => e' = .returned (.tuple #[.int .i64 a, .int .i64 r]) ∧ ∃ k', Pair w w2 k k' := by
  have hmay := h.r.rel.may h.o.len E
  by_cases hz : planZ k.x.L k.x.A E = 0
  · refine (lpost_good k.x ao c E _ w rfl h.l h.o hE hs (by omega) hz).mono ?_
    rintro e w1 ⟨rfl, pv', h1, h2, hf1, hv⟩
    have hf1' : Frm k.x.own w w1 := Frm.mono hf1 (fun i _ hi => by
      rcases hi with hi | hi | hi
      · exact Or.inr (Or.inr (Or.inr (Or.inl hi)))
      · exact Or.inl hi
      · exact Or.inr (Or.inr (Or.inr (Or.inr (Or.inr hi)))))
    refine ⟨_, _, rfl, hf1', ?_⟩
    refine (dpost_good k.rb k.D k.x.L k.B k.P bo d E w1 (h.doc1 hf1') h.lenL h.lenB (by rw [h.r.len]; exact hP) h.okN (hF w1 hf1') hno (h.dl1 hf1.size) (by rw [hmay]; exact hz)).mono ?_
    rintro e w2 ⟨rfl, h3, hf2⟩
    obtain ⟨g1, g2, g3⟩ := h.next (goes_posted hv) h1 h2 hf1' h3 hf2 (h.r.posted h.o.len h.o.nd (plan_names hz))
    exact ⟨by rw [h.r.len], _, g1, g2, g3, by simp [Lx.posted]⟩
  · refine (lpost_bad k.x ao c E _ w rfl h.l h.o hE hs hz).mono ?_
    rintro e w1 ⟨rfl, o1⟩
    have hf1' : Frm k.x.own w w1 := Frm.mono o1 (fun _ _ e => e.elim)
    refine ⟨_, _, rfl, hf1', ?_⟩
    refine (dpost_bad k.rb k.D k.x.L k.B k.P bo d E w1 (h.d.old o1) h.lenL h.lenB (by rw [h.r.len]; exact hP) h.okN (hF w1 hf1') (by rw [hmay]; exact hz)).mono ?_
    rintro e w2 ⟨rfl, o2⟩
    exact ⟨by rw [hmay], k, h.same (o1.trans o2)⟩

set_option maxRecDepth 100000 in
set_option maxHeartbeats 4000000 in
theorem lent2_any (ao : Option Addr) (c : Nat) (E : List Es) (w : World) (hp : EsC w ao E) (hno : ao = none → c = 0) (hl : E.length ≤ 5864062014634) :
    Calls Try.prog 22 #[.slice ao E.length c] w fun e w' => ∃ g cap, ∃ cur : Array Value, e = .returned (.slice (some ⟨g, 0, none⟩) E.length cap) ∧ w.heap.size ≤ g ∧ w'.heap[g]? = some (.cells cur 76 (0, 0)) ∧ E.length * 2 ≤ cur.size ∧ E.length + 1 ≤ cap ∧ EsC w' (some ⟨g, 0, none⟩) (E ++ [([109, 97, 114, 107], 0)]) ∧ Old w w' := by
  obtain ⟨i2, hi2, hz2, hs2, hb2⟩ := info_parts infoE
  have kp := hid hp
  have hpn : Hid (ao = none → c = 0 ∧ E.length = 0) := hid (fun h => ⟨hno h, by
    cases hE : E.length with
    | zero => rfl
    | succ n =>
      obtain ⟨g, o, e, -⟩ := hp 0 (by omega)
      rw [h] at e
      cases e⟩)
  have ki := hid hi2
  have kz := hid hz2
  have ks := hid hs2
  have kb := hid hb2
  have kn : Hid (w.ownsRow w.heap.size 76 2 (.slice none 0 0) 0 []) := hid ⟨rfl, Or.inl ⟨rfl, rfl⟩⟩
  clear hp hno hi2 hz2 hs2 hb2
  go_enter Try.func22, Try.ntmps22
  go_wp2_with (at_builtin; refine wpApp rfl _ _ 39 rfl w.heap.size 76 i2 (.agg #[.string .empty, .int .i64 0]) 2 24 Try.underlying39 ki.out kz.out ks.out kb.out rfl (by omega) (.slice none 0 0) 0 [] rfl kn.out ao E.length c (flatS E) rfl hpn.out (flatS_length E) (fun ad e j u hu => by subst e; exact esc_cells kp.out j u hu) (flatS_one E) (by unfold maxLen; omega) (by omega) (Nat.le_refl _) ?_)
  intro v3 w3 r3 f3
  have o3 : Old w w3 := Frm.mono f3 (fun _ _ e => by simp [Value.ownBlock] at e)
  have r3' : w3.ownsRow w.heap.size 76 2 v3 E.length (flatS E) := by simpa using r3
  have r4 := hid (r3'.alloc (.cells #[.string ⟨#[109, 97, 114, 107]⟩, .int .i64 0] 76))
  have o4 := hid (o3.alloc (.cells #[.string ⟨#[109, 97, 114, 107]⟩, .int .i64 0] 76))
  have n3 := new_cell w3 #[.string ⟨#[109, 97, 114, 107]⟩, .int .i64 0] 76 0 _ rfl
  have n4 := new_cell w3 #[.string ⟨#[109, 97, 114, 107]⟩, .int .i64 0] 76 1 _ rfl
  have hv3 := hid (fun k hk => (r3'.lt k hk).1)
  have kE : Hid (EsC (w3.alloc (.cells #[.string ⟨#[109, 97, 114, 107]⟩, .int .i64 0] 76)) (some ⟨w3.heap.size, 0, none⟩) [([109, 97, 114, 107], 0)]) := hid (fun i hi => by
    match i, hi with
    | 0, hi => exact ⟨_, _, rfl, n3, n4⟩)
  have hz := hid (o4.out.size)
  clear r3 f3 r3' o3 n3 n4
  go_wp2_with (at_builtin; refine wpApp rfl _ _ 39 rfl w.heap.size 76 i2 (.agg #[.string .empty, .int .i64 0]) 2 24 Try.underlying39 ki.out kz.out ks.out kb.out rfl (by omega) v3 E.length (flatS E) rfl r4.out (some ⟨w3.heap.size, 0, none⟩) 1 1 (flatS [([109, 97, 114, 107], 0)]) rfl (fun e => by cases e) (flatS_length _) (fun ad e j u hu => by cases e; exact esc_cells kE.out j u hu) (flatS_one _) (by unfold maxLen; omega) (by omega) hz.out ?_)
  intro v5 w5 r5 f5
  have o5 := hid (Frm.trans o4.out f5 (fun i hi e => by have := hv3.out i e; omega) : Old w w5)
  have r6 : w5.ownsRow w.heap.size 76 2 v5 (E.length + 1) (flatS (E ++ [([109, 97, 114, 107], 0)])) := by rw [flatS_app]; exact r5
  have hE6 := owns_ents r6 (by simp)
  obtain ⟨-, h2⟩ := r6
  rcases h2 with ⟨-, h0⟩ | ⟨g, cap, cur, rfl, h3, h4, h5, h6, h7, h8⟩
  · exact absurd h0 (by omega)
  · obtain ⟨a6, c6, e6, hE7, -⟩ := hE6
    have ha : a6 = some ⟨g, 0, none⟩ := by
      injection e6 with e7
      exact e7.symm
    rw [ha] at hE7
    have kE7 := hid hE7
    have k4 := hid h4
    have k3 := hid h3
    have hcs : E.length * 2 ≤ cur.size := by omega
    have kcs := hid hcs
    have hcap : E.length + 1 ≤ cap := by omega
    have kcap := hid hcap
    have hcap2 : (E.length : Int) ≤ (cap : Int) := by omega
    clear hE7 h4 h3 h7 h8 e6 r5 f5 hcs
    go_wp2_with fail
    go_ret
    exact ⟨g, _, cur, rfl, k3.out, k4.out, kcs.out, kcap.out, kE7.out, o5.out⟩
end Go.Proofs.Ytlhlmkdgbgppiaa

/- The law's told: what it has in memory. -/
namespace Go.Proofs.Ytlhlmkdgbgppiaa
open Go.RowKit Go.Lib Go.Shelf Go.Maps
attribute [local go_sem] Oper.semAt_some

/-- What is told does not turn. -/
structure TT (rb : Nat) (leave : Int) (W2 : World) (s0 : Nat) (Y : World) : Prop where
  r : Boxed Y s0 26 (.pointer (some ⟨rb, 0, none⟩))
  lea : Boxed Y (s0 + 1) 2 (.int .i64 leave)
  res : Boxed Y (s0 + 2) 4 (.bool false)
  oW : Old W2 Y
theorem TT.frm {rb : Nat} {leave : Int} {W2 : World} {s0 : Nat} {Y Y' : World} {S : Nat → Prop} (h : TT rb leave W2 s0 Y) (hf : Frm S Y Y') (hS : ∀ b, S b → W2.heap.size ≤ b) (h3 : s0 + 3 ≤ W2.heap.size) : TT rb leave W2 s0 Y' :=
  ⟨boxed_frm h.r hf (fun e => by have := hS _ e; omega), boxed_frm h.lea hf (fun e => by have := hS _ e; omega), boxed_frm h.res hf (fun e => by have := hS _ e; omega), Frm.trans h.oW hf (fun i hi e => by have := hS _ e; omega)⟩
theorem TT.olds {rb : Nat} {leave : Int} {W2 : World} {s0 : Nat} {Y Y' : World} (h : TT rb leave W2 s0 Y) (hf : Old Y Y') : TT rb leave W2 s0 Y' :=
  ⟨boxed_olds h.r hf, boxed_olds h.lea hf, boxed_olds h.res hf, h.oW.trans hf⟩

/-- Three boxes and the turn's: where it stands. -/
structure TS (rb : Nat) (leave : Int) (W2 : World) (s0 bt kb mb : Nat) (j : Int) (k m : Nat) (Y : World) : Prop where
  turn : Boxed Y bt 3 (.int .i64 j)
  kk : Boxed Y kb 3 (.int .i64 (k : Int))
  mm : Boxed Y mb 3 (.int .i64 (m : Int))
  t : TT rb leave W2 s0 Y
section
variable {rb : Nat} {leave : Int} {W2 : World} {s0 bt kb mb : Nat} {j : Int} {k m : Nat} {Y Y' : World}
theorem TS.olds (h : TS rb leave W2 s0 bt kb mb j k m Y) (hf : Old Y Y') : TS rb leave W2 s0 bt kb mb j k m Y' :=
  ⟨boxed_olds h.turn hf, boxed_olds h.kk hf, boxed_olds h.mm hf, h.t.olds hf⟩
/-- Blocks behind all of them. -/
theorem TS.far {S : Nat → Prop} (h : TS rb leave W2 s0 bt kb mb j k m Y) (hf : Frm S Y Y') (hS : ∀ b, S b → mb < b) (h3 : s0 + 3 ≤ W2.heap.size) (h4 : W2.heap.size ≤ bt) (h5 : bt < kb) (h6 : kb < mb) : TS rb leave W2 s0 bt kb mb j k m Y' :=
  ⟨boxed_frm h.turn hf (fun e => by have := hS _ e; omega), boxed_frm h.kk hf (fun e => by have := hS _ e; omega), boxed_frm h.mm hf (fun e => by have := hS _ e; omega), h.t.frm hf (fun b e => by have := hS _ e; omega) h3⟩
theorem TS.nextk (h : TS rb leave W2 s0 bt kb mb j k m Y) (h3 : s0 + 3 ≤ W2.heap.size) (h4 : W2.heap.size ≤ bt) (h5 : bt < kb) (h6 : kb < mb) : TS rb leave W2 s0 bt kb mb j (k + 1) m (Y.setCell ⟨kb, 0, none⟩ (.int .i64 ((k : Int) + 1))) := by
  have hf := frm_set Y kb 0 (.int .i64 ((k : Int) + 1))
  exact ⟨boxed_frm h.turn hf (by omega), Boxed.set _ h.kk, boxed_frm h.mm hf (by omega), h.t.frm hf (fun b e => by omega) h3⟩
theorem TS.nextm (h : TS rb leave W2 s0 bt kb mb j k m Y) (h3 : s0 + 3 ≤ W2.heap.size) (h4 : W2.heap.size ≤ bt) (h5 : bt < kb) (h6 : kb < mb) : TS rb leave W2 s0 bt kb mb j k (m + 1) (Y.setCell ⟨mb, 0, none⟩ (.int .i64 ((m : Int) + 1))) := by
  have hf := frm_set Y mb 0 (.int .i64 ((m : Int) + 1))
  exact ⟨boxed_frm h.turn hf (by omega), boxed_frm h.kk hf (by omega), Boxed.set _ h.mm, h.t.frm hf (fun b e => by omega) h3⟩
end
/-- How far it went. -/
def Fin (leave : Int) (n k : Nat) : Prop := k = n ∨ (k : Int) = leave
theorem acL_at {L : List (List UInt8)} {A : List Ac} {p : List AcN} {y : AcN} {k k' : Nat} (hk : k ≤ L.length) (hk' : k' ≤ L.length) (hp : p = (acL L A).take k) (h : p ++ [y] = (acL L A).take k') : k < L.length ∧ y = (k, L.getD k [], A.getD k (0, 0)) ∧ p ++ [y] = (acL L A).take (k + 1) := by
  have hl := congrArg List.length h
  rw [List.length_append, List.length_take, acL_len, Nat.min_eq_left hk', hp, List.length_take, acL_len, Nat.min_eq_left hk] at hl
  simp only [List.length_cons, List.length_nil] at hl
  have hlt : k < L.length := by omega
  obtain rfl : k' = k + 1 := by omega
  refine ⟨hlt, ?_, h⟩
  rw [hp, List.take_succ_eq_append_getElem (by rw [acL_len]; exact hlt)] at h
  have := List.append_inj_right' h rfl
  simp only [List.cons.injEq, and_true] at this
  rw [this]
  simp [acL, nmL, acF]
end Go.Proofs.Ytlhlmkdgbgppiaa

/- A range over a function whose variable lies in a box, gone through or left by a break: one end for both. -/
namespace Go.Proofs.Ytlhlmkdgbgppiaa
open Go.RowKit Go.Lib Go.Shelf

theorem range_joinNb {α : Type} {P : Program} {n : Nat} {g : Operand} {ps : Array Tmp} {assign body : Code} {Q : Exit → Act → World → Prop} {a : Act} {w : World} (hn : 1 ≤ n) {gf : Nat} {lb : Array Value}
    (hg : a.eval g = .func (.func gf) #[] lb) (eg : ∀ args w, (callFunc gf args).run P w = .ok (.enter gf args) w) {enc : α → Array Value} {Kp : World → World → Prop} {Pre S Sp : List α → Prop}
    (hseq : SeqN P (n - 1) gf lb enc Kp Pre S Sp w) (hKt : ∀ {A B D : World}, Kp A B → Kp B D → Kp A D) (hKa : ∀ (W : World) (o : Obj), Kp W (W.alloc o))
    (hKb : ∀ (W : World) (o o' : Obj), W.heap[w.heap.size + 1]? = some o → o.isCells = false → Kp W (W.putObj (w.heap.size + 1) o')) (hps : ∀ x, (enc x).size = ps.size)
    (id : Nat) (I X Fin : List α → World → Prop) (hI : ∀ p A B, I p A → Frm (fun k => w.heap.size ≤ k) A B → I p B) (hX : ∀ p A B, X p A → Frm (fun k => w.heap.size ≤ k) A B → X p B)
    (h0 : I [] w) (ob : α → Obj) (upd : α → Nat → Array Value → Array Value)
    (hassign : ∀ (l : Nat) (p : List α) (x : α) (W : World) (K : Act → World → Prop), Pre (p ++ [x]) → K { tmps := upd x W.heap.size a.tmps, defers := [] } (W.alloc (ob x)) → assign.wpIn (Fence.wide.inRound l) (n - 1 - 1) P (Exit.then K (fun _ _ _ => False)) { tmps := (ps.zip (enc x)).foldl (fun t (p, v) => t.setIfInBounds p v) a.tmps, defers := [] } W)
    (hbody : ∀ (l : Nat) (p : List α) (x : α) (mm : Nat) (W : World), I p W → Pre (p ++ [x]) → W.heap[mm]? = some (ob x) → w.heap.size + 2 ≤ mm → body.wpIn (Fence.wide.inRound l) (n - 1 - 1) P (ownPostG w.heap.size Kp I (fun c q Y => c = .exit id ∧ X q Y) (p ++ [x]) W) { tmps := upd x mm a.tmps, defers := [] } W)
    (hS : ∀ q W, S q → I q W → Fin q W) (hSp : ∀ q W, Sp q → X q W → Fin q W) (hQ : ∀ b W, Q .normal b W → Q (.exit id) b W)
    (hend : ∀ (D : Nat) (q : List α) (W : World), w.heap.size = D → Fin q W → W.heap[D]? = some (.deferred (some [])) → Q .normal { a with defers := { target := .collected D, args := #[] } :: a.defers } W) :
    (Code.rangeFunc g ps assign body).wp P Q a w := by
  refine (wpIn_wide (n := n)).1 ?_
  refine range_Nb hn hg eg hseq hKt hKa hKb hps I (fun c q Y => c = .exit id ∧ X q Y) hI (fun c p A B h hf => ⟨h.1, hX p A B h.2 hf⟩) h0 ob upd hassign hbody
    (fun D q W hD hs hi hK => hend D q W hD (hS q W hs hi) hK) ?_
  rintro D c p W hD hs ⟨rfl, hx⟩ hK
  refine wpIn_wide.2 ?_
  exact wp_exit (hQ _ _ (hend D p W hD (hSp p W hs hx) hK))
end Go.Proofs.Ytlhlmkdgbgppiaa

/- The law's told: boxes, marks, what is written over. -/
namespace Go.Proofs.Ytlhlmkdgbgppiaa
open Go.RowKit Go.Lib Go.Shelf Go.Maps

/-- The turn's boxes, and the marks left so far. -/
structure TM (Ls : List Nat) (rb : Nat) (leave : Int) (W2 : World) (s0 bt kb mb : Nat) (j : Int) (k m : Nat) (Y : World) : Prop where
  s : TS rb leave W2 s0 bt kb mb j k m Y
  ms : ∀ r ∈ Ls, Y.heap[r]? = some (.deferred (some []))
section
variable {Ls : List Nat} {rb : Nat} {leave : Int} {W2 : World} {s0 bt kb mb : Nat} {j : Int} {k m : Nat} {Y Y' : World}
theorem mk_frm {S : Nat → Prop} (h : ∀ r ∈ Ls, Y.heap[r]? = some (.deferred (some []))) (hf : Frm S Y Y') (hL : ∀ r ∈ Ls, ¬ S r) : ∀ r ∈ Ls, Y'.heap[r]? = some (.deferred (some [])) := fun r hr => by
  rw [hf.block r (Array.getElem?_eq_some_iff.1 (h r hr)).1 (hL r hr)]
  exact h r hr
theorem mk_set {b : Nat} {t : TypeId} {v : Value} (u : Value) (h : ∀ r ∈ Ls, Y.heap[r]? = some (.deferred (some []))) (hb : Boxed Y b t v) : ∀ r ∈ Ls, (Y.setCell ⟨b, 0, none⟩ u).heap[r]? = some (.deferred (some [])) :=
  mk_frm h (frm_set Y b 0 u) (fun r hr e => by
    subst e
    have h1 := h r hr
    have h2 : Y.heap[r]? = some (.cells #[v] t (0, 0)) := hb
    rw [h1] at h2
    simp at h2)
theorem TM.olds (h : TM Ls rb leave W2 s0 bt kb mb j k m Y) (hf : Old Y Y') : TM Ls rb leave W2 s0 bt kb mb j k m Y' := ⟨h.s.olds hf, mk_frm h.ms hf (fun _ _ e => e)⟩
theorem TM.far {S : Nat → Prop} (h : TM Ls rb leave W2 s0 bt kb mb j k m Y) (hf : Frm S Y Y') (hS : ∀ b, S b → mb < b) (hL : ∀ r ∈ Ls, ¬ S r) (h3 : s0 + 3 ≤ W2.heap.size) (h4 : W2.heap.size ≤ bt) (h5 : bt < kb) (h6 : kb < mb) : TM Ls rb leave W2 s0 bt kb mb j k m Y' := ⟨h.s.far hf hS h3 h4 h5 h6, mk_frm h.ms hf hL⟩
theorem TM.nextk (h : TM Ls rb leave W2 s0 bt kb mb j k m Y) (h3 : s0 + 3 ≤ W2.heap.size) (h4 : W2.heap.size ≤ bt) (h5 : bt < kb) (h6 : kb < mb) : TM Ls rb leave W2 s0 bt kb mb j (k + 1) m (Y.setCell ⟨kb, 0, none⟩ (.int .i64 ((k : Int) + 1))) := ⟨h.s.nextk h3 h4 h5 h6, mk_set _ h.ms h.s.kk⟩
theorem TM.nextm (h : TM Ls rb leave W2 s0 bt kb mb j k m Y) (h3 : s0 + 3 ≤ W2.heap.size) (h4 : W2.heap.size ≤ bt) (h5 : bt < kb) (h6 : kb < mb) : TM Ls rb leave W2 s0 bt kb mb j k (m + 1) (Y.setCell ⟨mb, 0, none⟩ (.int .i64 ((m : Int) + 1))) := ⟨h.s.nextm h3 h4 h5 h6, mk_set _ h.ms h.s.mm⟩
theorem TM.over {g : Nat} {arr : Array Value} {t : TypeId} {z : Nat × Nat} (h : TM Ls rb leave W2 s0 bt kb mb j k m Y) (hf : Frm (fun k => k = g) Y Y') (hg : Y.heap[g]? = some (.cells arr t z)) (hm : mb < g) (h3 : s0 + 3 ≤ W2.heap.size) (h4 : W2.heap.size ≤ bt) (h5 : bt < kb) (h6 : kb < mb) : TM Ls rb leave W2 s0 bt kb mb j k m Y' :=
  h.far hf (fun b e => by omega) (fun r hr e => by
    subst e
    have h1 := h.ms r hr
    rw [hg] at h1
    cases h1) h3 h4 h5 h6
end
/-- The ledger, where told entries are written over. -/
theorem Ldg.over {W W' : World} {x : Lx} {g : Nat} {E : List Es} (h : Ldg W x) (ho : OwnS W g E) (hf : Frm (fun k => k = g) W W') (hx : ∀ k, x.all k → k ≠ g) : Ldg W' x :=
  h.frm hf hx (fun k arr z hk e => by
    subst e
    have : W.heap[k]? = some (.cells (flatS E).toArray 76 (0, 0)) := ho
    rw [hk] at this
    simp at this)
/-- All's function leaves what it wants alone where a loop is turned. -/
theorem KpA.put {x : Lx} {b2 lo s : Nat} {W : World} {l : Nat} {o o' : Obj} (hl : s ≤ l) (hb : b2 < s) (hx : ∀ k, x.all k → k < s) (h1 : W.heap[l]? = some o) (h2 : o.isCells = false) : KpA x b2 lo W (W.putObj l o') := fun ⟨a, b, c⟩ =>
  ⟨a.put o' h1 h2 (fun e => by have := hx l (by rw [e]; exact Or.inr (Or.inr (Or.inr (Or.inr (Or.inl rfl))))); omega) (fun e => by have := hx l (by rw [e]; exact Or.inr (Or.inr (Or.inr (Or.inr (Or.inr (Or.inl rfl)))))); omega),
    frm_cell frm_put b (fun e => by have : b2 = l := e; omega), Nat.le_trans c (frm_put (W := W) (l := l) (o' := o')).size⟩
theorem PxS.put {lo : Nat} {y : PsN} {W : World} {l : Nat} {o o' : Obj} (h1 : W.heap[l]? = some o) (h2 : o.isCells = false) (h : PxS lo y W) : PxS lo y (W.putObj l o') :=
  ⟨h.1, h.2.frm frm_put (fun e => by
    have h3 : W.heap[y.2.1]? = some (.cells (flatS y.2.2).toArray 76 (0, 0)) := h.2
    rw [e, h1] at h3
    simp only [Option.some.injEq] at h3
    subst h3
    cases h2)⟩
theorem KpA.old {x : Lx} {b2 lo : Nat} {W W' : World} (o : Old W W') : KpA x b2 lo W W' := fun ⟨a, b, c⟩ => ⟨a.old o, o.cell b, Nat.le_trans c o.size⟩
theorem psF_snoc {q : List PsN} {y : PsN} {L : List (List UInt8)} {P : List (List En)} {m m' : Nat} (hm : m ≤ P.length) (hm' : m' ≤ P.length) (h : psF q = (psL L P).take m) (h' : psF (q ++ [y]) = (psL L P).take m') : m < P.length ∧ y.1 = m ∧ y.2.2 = entsOf L (P.getD m []) ∧ psF (q ++ [y]) = (psL L P).take (m + 1) := by
  have hl := congrArg List.length h'
  have hl0 := congrArg List.length h
  simp only [psF, List.length_map, List.length_append, List.length_cons, List.length_nil, List.length_take, psL_len] at hl hl0
  have hlt : m < P.length := by omega
  obtain rfl : m' = m + 1 := by omega
  refine ⟨hlt, ?_, ?_, h'⟩ <;>
  · rw [psL_take _ _ _ hlt, ← h] at h'
    simp [psF] at h'
    simp [h']
/-- How far it went, in the turn j. -/
def FinJ (j leave : Int) (n k : Nat) : Prop := k = n ∨ (j = 0 ∧ (k : Int) = leave)
theorem KpA.overs {x : Lx} {b2 lo s g : Nat} {W W' : World} {E : List Es} (ho : OwnS W g E) (hf : Frm (fun k => k = g) W W') (hg : s ≤ g) (hb : b2 < s) (hx : ∀ k, x.all k → k < s) : KpA x b2 lo W W' := fun ⟨a, b, c⟩ =>
  ⟨a.over ho hf (fun k hk e => by have := hx k hk; omega), frm_cell hf b (fun e => by have : b2 = g := e; omega), Nat.le_trans c hf.size⟩
theorem KpA.box {x : Lx} {b2 lo s b : Nat} {W : World} {t : TypeId} {v : Value} (u : Value) (hv : Boxed W b t v) (ht : t ≠ 150) (hs : s ≤ b) (hb : b2 < s) (hx : ∀ k, x.all k → k < s) : KpA x b2 lo W (W.setCell ⟨b, 0, none⟩ u) := fun ⟨a, b', c⟩ =>
  ⟨a.box u hv ht (fun k hk e => by have := hx k hk; omega), frm_cell (frm_set W b 0 u) b' (fun e => by have : b2 = b := e; omega), Nat.le_trans c (frm_set W b 0 u).size⟩
theorem keeps_over {B g : Nat} {W W' : World} {E : List Es} (ho : OwnS W g E) (hf : Frm (fun k => k = g) W W') : KeepsFrom B W W' :=
  ⟨hf.size, fun i ob hi hk2 hc => by
    rw [hf.block i (Array.getElem?_eq_some_iff.1 hk2).1 (fun e => by
      have h3 : W.heap[g]? = some (.cells (flatS E).toArray 76 (0, 0)) := ho
      have e' : i = g := e
      rw [e', h3] at hk2
      simp only [Option.some.injEq] at hk2
      subst hk2
      cases hc)]
    exact hk2⟩
theorem keeps_box {B b : Nat} {W : World} (u : Value) (h : b < B) : KeepsFrom B W (W.setCell ⟨b, 0, none⟩ u) :=
  ⟨(frm_set W b 0 u).size, fun i ob hi hk2 hc => by
    rw [(frm_set W b 0 u).block i (Array.getElem?_eq_some_iff.1 hk2).1 (by omega)]
    exact hk2⟩
/-- Some places of an array, written. -/
def setsZ (t : Array Value) (z : Nat → Value) (is : List Nat) : Array Value := is.foldl (fun t i => t.setIfInBounds i (z i)) t
/-- A region after which only some places are new: what stands then, whatever they hold. -/
theorem region_midZ {P : Program} {id : Nat} {ops : Array Oper} {b : Bool} {Q : Exit → Act → World → Prop} {t : Array Value} {ds : List Deferred} {w : World} (is : List Nat) (T : (Nat → Value) → World → Prop)
    (h : (Code.region id ops b).wp P (fun e a' w' => e = .normal ∧ ∃ z, a' = { tmps := setsZ t z is, defers := ds } ∧ T z w') { tmps := t, defers := ds } w)
    (hF : ∀ z w', T z w' → Q .normal { tmps := setsZ t z is, defers := ds } w') : (Code.region id ops b).wp P Q { tmps := t, defers := ds } w :=
  Code.wp_mono (fun e a' w' ⟨he, z, ha, ht⟩ => by subst he; subst ha; exact hF z w' ht) h
theorem midZ_end {t t' : Array Value} {ds : List Deferred} {w : World} {is : List Nat} {T : (Nat → Value) → World → Prop} (h : t' = setsZ t (fun i => t'.getD i (.bool false)) is) (hT : T (fun i => t'.getD i (.bool false)) w) :
    Exit.normal = Exit.normal ∧ ∃ z, ({ tmps := t', defers := ds } : Act) = { tmps := setsZ t z is, defers := ds } ∧ T z w := ⟨rfl, _, by rw [← h], hT⟩
theorem qqa {α : Type _} {xs : List α} {i : Nat} (h : i < xs.toArray.size) : xs.toArray[i]'h = xs[i]'h := rfl
theorem qqb {α : Type _} (a : α) (l : List α) (h : 0 < (a :: l).length) : (a :: l)[0]'h = a := rfl
theorem qqc {α : Type _} (a : α) (l : List α) (i : Nat) (h : i + 1 < (a :: l).length) : (a :: l)[i + 1]'h = l[i]'(Nat.lt_of_succ_lt_succ h) := rfl
theorem qqd {α : Type _} (l : List α) (i : Nat) (a : α) : l.toArray.setIfInBounds i a = (l.set i a).toArray := List.setIfInBounds_toArray l i a
theorem qqe {α : Type _} {x a : α} {l : List α} : (x :: l).set 0 a = a :: l := rfl
theorem qqf {α : Type _} {x a : α} {l : List α} {i : Nat} : (x :: l).set (i + 1) a = x :: l.set i a := rfl
end Go.Proofs.Ytlhlmkdgbgppiaa
