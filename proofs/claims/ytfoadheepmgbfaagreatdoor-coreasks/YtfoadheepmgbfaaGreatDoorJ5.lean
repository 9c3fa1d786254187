/- A range over a function that is gone through, or left by a break: one end for both. -/
import Derived.Test.YtfoadheepmgbfaaGreatDoorJ4
import Derived.Test.YtfoadheepmgbfaaGreatDoorJ2
namespace Go.Proofs.YtfoadheepmgbfaaGreatDoor
open Go.RowKit Go.Lib Go.Shelf

theorem kept_cell {T : Nat → Prop} {X Y : World} (h : KeptC T X Y) {p : Addr} {v : Value} (ht : ¬ T p.block) (hc : X.cell? p = some v) : Y.cell? p = some v := by
  have hg : p.block < X.heap.size := World.block_lt_of_cell? X _ hc
  obtain ⟨o, ho⟩ : ∃ o, X.heap[p.block]? = some o := ⟨_, Array.getElem?_eq_getElem hg⟩
  have hcell : o.isCells = true := by
    cases o <;> simp [World.cell?, ho] at hc ⊢
    all_goals rfl
  rw [← hc]
  exact World.cell?_of_block ((h _ _ ht ho hcell).trans ho.symm)

theorem range_joinP {α : Type} {P : Program} {n : Nat} {g : Operand} {ps : Array Tmp} {assign body : Code} {Q : Exit → Act → World → Prop} {a : Act} {w : World} (hn : 1 ≤ n) {gf : Nat} {lb : Array Value}
    (hg : a.eval g = .func (.func gf) #[] lb) (eg : ∀ args w, (callFunc gf args).run P w = .ok (.enter gf args) w) {enc : α → Array Value} {Kp : World → World → Prop} {Pre S Sp : List α → Prop}
    (hseq : SeqP P (n - 1) gf lb enc Kp Pre S Sp w) (hKt : ∀ {A B D : World}, Kp A B → Kp B D → Kp A D)
    (hKb : ∀ (W : World) (l : Nat) (o o' : Obj), w.heap.size ≤ l → W.heap[l]? = some o → o.isCells = false → Kp W (W.putObj l o')) (hps : ∀ x, (enc x).size = ps.size)
    (id : Nat) (I X Fin : List α → World → Prop) (hI : ∀ p A B, I p A → Frm (fun k => w.heap.size ≤ k) A B → I p B) (hX : ∀ p A B, X p A → Frm (fun k => w.heap.size ≤ k) A B → X p B)
    (h0 : I [] w) (upd : α → Array Value → Array Value)
    (hassign : ∀ (l : Nat) (x : α) (W : World) (K : Act → World → Prop), K { tmps := upd x a.tmps, defers := [] } W → assign.wpIn (Fence.wide.inRound l) (n - 1 - 1) P (Exit.then K (fun _ _ _ => False)) { tmps := (ps.zip (enc x)).foldl (fun t (p, v) => t.setIfInBounds p v) a.tmps, defers := [] } W)
    (hbody : ∀ (l : Nat) (p : List α) (x : α) (W : World), I p W → Pre (p ++ [x]) → body.wpIn (Fence.wide.inRound l) (n - 1 - 1) P (ownPostG w.heap.size Kp I (fun c q Y => c = .exit id ∧ X q Y) (p ++ [x]) W) { tmps := upd x a.tmps, defers := [] } W)
    (hS : ∀ q W, S q → I q W → Fin q W) (hSp : ∀ q W, Sp q → X q W → Fin q W) (hQ : ∀ b W, Q .normal b W → Q (.exit id) b W)
    (hend : ∀ (D : Nat) (q : List α) (W : World), w.heap.size ≤ D → Fin q W → W.heap[D]? = some (.deferred (some [])) → Q .normal { a with defers := { target := .collected D, args := #[] } :: a.defers } W) :
    (Code.rangeFunc g ps assign body).wp P Q a w := by
  refine (wpIn_wide (n := n)).1 ?_
  refine range_priv hn hg eg hseq hKt hKb hps I (fun c q Y => c = .exit id ∧ X q Y)
    (fun p A B row h hg hr => hI p A B h (Frm.grown (Frm.refl _ A) hg (fun k e => Or.inr (hr k e).1)))
    (fun c p A B row h hg hr => ⟨h.1, hX p A B h.2 (Frm.grown (Frm.refl _ A) hg (fun k e => Or.inr (hr k e).1))⟩)
    (fun p A B h hf => hI p A B h (Frm.mono hf (fun k _ e => by omega)))
    (fun c p A B h hf => ⟨h.1, hX p A B h.2 (Frm.mono hf (fun k _ e => by omega))⟩)
    h0 (fun x => { tmps := upd x a.tmps, defers := [] }) hassign hbody (fun D q W hD hs hi hK => hend D q W hD (hS q W hs hi) hK) ?_
  rintro D c p W hD hs ⟨rfl, hx⟩ hK
  refine wpIn_wide.2 ?_
  exact wp_exit (hQ _ _ (hend D p W hD (hSp p W hs hx) hK))

end Go.Proofs.YtfoadheepmgbfaaGreatDoor

/- Each, for every loop body that keeps the table, told only what it tells. -/
namespace Go.Proofs.YtfoadheepmgbfaaGreatDoor
open Go.RowKit Go.Lib Go.Shelf
attribute [local go_sem] Oper.semAt_some

set_option maxRecDepth 100000 in
set_option maxHeartbeats 2000000 in
theorem each1_P (d : Nat) (hd : 1 ≤ d) (l B : Nat) (s : Nat) (hs : s < 4294967296) (T : Nat → Prop) (hT0 : ¬ T 0) (J Jx : List (Fin 32) → World → Prop)
    (hY : ∀ pre x W, J pre W → (∃ k, k ≤ (goodsL s).length ∧ (pre ++ [x]).map Fin.val = (goodsL s).take k) → YieldAt Fence.wide (d - 1) Tryz.prog l #[.int .i64 (x.val : Int)] W fun e W' =>
      (e = .returned (.bool true) ∧ J (pre ++ [x]) W' ∧ KeptC T W W') ∨ (e = .returned (.bool false) ∧ Jx (pre ++ [x]) W'))
    (W : World) (hB : W.cell? ⟨B, 0, none⟩ = some (.int .u32 (s : Int))) (hT : TabAt 0 Lib.deBruijn32tab W) (h0 : J [] W) :
    CallsIn Fence.wide d Tryz.prog 98 #[.func (.yield l) #[] #[], .pointer (some ⟨B, 0, none⟩)] W fun e W' => (∃ v, e = .returned v) ∧
      ((∃ ys, ys.map Fin.val = goodsL s ∧ J ys W') ∨ (∃ pre, (∃ k, k ≤ (goodsL s).length ∧ pre.map Fin.val = (goodsL s).take k) ∧ Jx pre W')) := by
  have kz := hid (rest_zero s hs)
  have ke := hid (rest_end s hs)
  refine callsIn_of_wp Tryz.func98 rfl trivial ?_ rfl
  simp only [Tryz.ntmps98, List.size_toArray, List.length_cons, List.length_nil, Nat.reduceAdd, Nat.reduceSub, Array.replicate_succ, Array.replicate_zero, List.push_toArray, List.append_toArray, List.nil_append, List.cons_append]
  gi_wp2
  gi_loopw [3] (fun v wr => ∃ k : Nat, k ≤ (goodsL s).length ∧ v = .int .u32 (rest s k : Int) ∧ (∃ p : List (Fin 32), p.map Fin.val = (goodsL s).take k ∧ J p wr) ∧ TabAt 0 Lib.deBruijn32tab wr)
    (fun v _ => (intOf v).toNat)
  case atStart => exact ⟨0, Nat.zero_le _, by rw [kz.out], ⟨[], by simp, h0⟩, hT⟩
  case round =>
    obtain ⟨k, hk, rfl, ⟨p, hp, hJs⟩, hTs⟩ := hrel
    by_cases hlt : k < (goodsL s).length
    · obtain ⟨n0, n1, n2⟩ := rest_next hs hlt
      have hrl := rest_lt s k
      have hgl := goodsL_lt (List.getElem_mem hlt)
      have kt := hid (tz_any (rest s k) n0 hrl wr hTs)
      rw [n1] at kt
      have kJ := hid hJs
      have kT := hid hTs
      have hta : Hid ((goodsL s).take (k + 1) = (goodsL s).take k ++ [(goodsL s)[k]]) := by
        show _ = _
        rw [List.take_add_one, List.getElem?_eq_getElem hlt]
        rfl
      have hpl0 : p.length = k := by
        have := congrArg List.length hp
        simp at this
        omega
      have hlen : p.length < (goodsL s).length := by omega
      have kp := hid hp
      clear hp hpl0
      have hless : Hid (bits .andNot .u32 (rest s k : Int) ((2 ^ (goodsL s)[k] : Nat) : Int) = (rest s (k + 1) : Int)) := by
        show _ = _
        rw [bits_less, n2]
      have hmeas : Hid (rest s (k + 1) < rest s k) := by
        show _ < _
        have hbit : (rest s k).testBit (goodsL s)[k] = true := by rw [← n1]; exact (ctz_low n0 hrl).1
        have hq : (less (rest s k) (2 ^ (goodsL s)[k])).testBit (goodsL s)[k] = false := by rw [less_bit _ _ hrl, Nat.testBit_two_pow]; simp
        have : rest s k = rest s (k + 1) + 2 ^ (goodsL s)[k] := by
          rw [← n2, ← or_bit hq]
          apply eq_of_bits
          intro i
          rw [Nat.testBit_or, less_bit _ _ hrl, Nat.testBit_two_pow]
          by_cases e : (goodsL s)[k] = i
          · rw [e] at hbit; simp [e, hbit]
          · simp [e]
        have := Nat.two_pow_pos (goodsL s)[k]
        omega
      have hpl := pow_lt32 hgl
      have hne : ((rest s k : Int) != 0) = true := by simp; omega
      clear hJs hTs n1 n2
      obtain ⟨g, hg⟩ : ∃ g, (goodsL s)[k] = g := ⟨_, rfl⟩
      rw [hg] at kt hta hless hgl hpl
      have hg' : (g : Int) < 32 := by omega
      clear hg
      gi_wp2_with fail
      refine ⟨trivial, ?_⟩
      refine (callsIn_wide.2 kt.out).mono ?_
      rintro e w2 ⟨rfl, e2⟩
      rw [e2]
      clear e2 w2
      obtain ⟨fn, tmps, assign, body, hy, hR⟩ := hY p ⟨g, hgl⟩ _ kJ.out ⟨k + 1, by omega, by rw [List.map_append, kp.out, hta.out]; rfl⟩
      clear kt
      gi_wp2
      refine hR.mono ?_
      rintro e W3 (⟨rfl, hJ3, hb3⟩ | ⟨rfl, hJx3⟩)
      · have hT3 : Hid (TabAt 0 Lib.deBruijn32tab W3) := fun j hj => kept_cell hb3 hT0 (kT.out j hj)
        have e1 : (2 : Int) ^ g % 4294967296 = ((2 ^ g : Nat) : Int) := by
          rw [show ((2 : Int) ^ g) = ((2 ^ g : Nat) : Int) by simp]
          exact Int.emod_eq_of_lt (Int.natCast_nonneg _) (Int.ofNat_lt.2 hpl)
        gi_wp2
        go_roundw
        case rel => exact ⟨k + 1, by omega, by first | rw [e1, hless.out] | rw [show ((2 : Int) ^ g) = ((2 ^ g : Nat) : Int) by simp, hless.out], ⟨p ++ [⟨g, hgl⟩], by rw [List.map_append, kp.out, hta.out]; rfl, hJ3⟩, hT3.out⟩
        case measure =>
          have := hmeas.out
          first | (rw [e1, hless.out]; simp [intOf]; omega) | (rw [show ((2 : Int) ^ g) = ((2 ^ g : Nat) : Int) by simp, hless.out]; simp [intOf]; omega) | (simp [intOf, hless.out]; omega)
      · gi_wp2
        refine bodyPost_ret (results_none rfl _ _ _) rfl ?_
        exact ⟨⟨_, rfl⟩, .inr ⟨p ++ [⟨g, hgl⟩], ⟨k + 1, by omega, by rw [List.map_append, kp.out, hta.out]; rfl⟩, hJx3⟩⟩
    · obtain rfl : k = (goodsL s).length := by omega
      rw [ke.out]
      gi_wp2
      go_end0
      exact ⟨⟨_, rfl⟩, .inl ⟨p, by rw [hp, List.take_length], hJs⟩⟩

theorem each_P (d : Nat) (hd : 1 ≤ d) (B : Nat) (T : Nat → Prop) (hT0 : ¬ T 0) (s : Nat) (hs : s < 4294967296) (w : World) (hB : w.cell? ⟨B, 0, none⟩ = some (.int .u32 (s : Int))) (hT : TabAt 0 Lib.deBruijn32tab w) :
    SeqP Tryz.prog d 98 #[.pointer (some ⟨B, 0, none⟩)] (fun x : Fin 32 => #[Value.int .i64 (x.val : Int)]) (KeptC T) (fun q => ∃ k, k ≤ (goodsL s).length ∧ q.map Fin.val = (goodsL s).take k)
      (fun ys => ys.map Fin.val = goodsL s) (fun q => ∃ k, k ≤ (goodsL s).length ∧ q.map Fin.val = (goodsL s).take k) w := fun l J Jx W hW _ _ hY h0 =>
  each1_P d hd l B s hs T hT0 J Jx hY W ((Old.of_below hW).cell hB) (fun j hj => (Old.of_below hW).cell (hT j hj)) h0

end Go.Proofs.YtfoadheepmgbfaaGreatDoor

/- What a set costs: in plain words, and the program's Cost, walked. -/
namespace Go.Proofs.YtfoadheepmgbfaaGreatDoor
open Go.RowKit Go.Lib Go.Shelf
attribute [local go_sem] Oper.semAt_some



theorem wrap_is (n : Int) : IntKind.i64.wrap n = wrap64 n := by
  unfold wrap64
  exact IntKind.wrap_i64 n

/-- What goods cost, one by one, modulo 2 to the power 64. -/
def costF (P : List Int) (s : Int) (l : List Nat) : Int := l.foldl (fun s i => wrap64 (s + P.getD i 0)) s
/-- What a set costs. -/
def costZ (P : List Int) (g : Nat) : Int := costF P 0 ((goodsL g).filter (fun i => decide (i < P.length)))

theorem costF_snoc (P : List Int) (s : Int) (l : List Nat) (i : Nat) : costF P s (l ++ [i]) = wrap64 (costF P s l + P.getD i 0) := by simp [costF]

theorem filter_same {n : Nat} {l : List Nat} (h : ∀ x ∈ l, x < n) : l.filter (fun i => decide (i < n)) = l := List.filter_eq_self.2 (fun x hx => by simpa using h x hx)

theorem filter_cut {n k : Nat} {L l : List Nat} {x : Nat} (hs : L.Pairwise (· < ·)) (hp : l ++ [x] = L.take k) (h : ∀ y ∈ l, y < n) (hx : n ≤ x) : L.filter (fun i => decide (i < n)) = l := by
  have e : L = (l ++ [x]) ++ L.drop k := by rw [hp, List.take_append_drop]
  rw [e, List.filter_append, List.filter_append, filter_same h]
  have h1 : [x].filter (fun i => decide (i < n)) = [] := by simp; omega
  have h2 : (L.drop k).filter (fun i => decide (i < n)) = [] := by
    rw [List.filter_eq_nil_iff]
    intro y hy
    rw [e] at hs
    have := (List.pairwise_append.1 hs).2.2 x (by simp) y hy
    simp
    omega
  rw [h1, h2, List.append_nil, List.append_nil]

/-- While the goods of a set are told. -/
structure CoI (X0 : World) (s : Nat) (P : List Int) (p : List (Fin 32)) (W : World) : Prop where
  lt : ∀ x ∈ p, x.val < P.length
  frm : Frm (fun k => k = s + 1) X0 W
  cost : Boxed W (s + 1) 2 (.int .i64 (costF P 0 (p.map Fin.val)))

/-- Where it is over. -/
def CoE (X0 : World) (s g : Nat) (P : List Int) (W : World) : Prop := Frm (fun k => s + 1 ≤ k) X0 W ∧ Boxed W (s + 1) 2 (.int .i64 (costZ P g))

set_option maxRecDepth 100000 in
set_option maxHeartbeats 4000000 in
theorem cost_any (po : Option Addr) (cap : Nat) (P : List Int) (g : Nat) (w : World) (h : NumsC .i64 w po P) (hg : g < 4294967296) (hT : Tabs w) :
    Calls Tryz.prog 67 #[.slice po P.length cap, .int .u32 (g : Int)] w fun e w' => e = .returned (.int .i64 (costZ P g)) ∧ Old w w' := by
  have kE := hid (fun w => each_any g w)
  have htab := block_lt_tab hT
  have kT := hid hT
  have kh := hid h
  clear hT h
  refine (callsIn_wide (n := 5)).1 ?_
  refine callsIn_of_wp_marks Tryz.func67 rfl trivial ?_ rfl
  simp only [Tryz.ntmps67, List.size_toArray, List.length_cons, List.length_nil, Nat.reduceAdd, Nat.reduceSub, Array.replicate_succ, Array.replicate_zero, List.push_toArray, List.append_toArray, List.nil_append, List.cons_append]
  refine wpIn_wide.2 ?_
  go_wp2_with fail
  have b2 := hid (boxed_two w (.slice po P.length cap) (.int .i64 0) 25 2)
  have o2 : Hid (Old w ((w.alloc (.cells #[.slice po P.length cap] 25)).alloc (.cells #[.int .i64 0] 2))) := ((Old.refl w).alloc _).alloc _
  have z2 : Hid (((w.alloc (.cells #[.slice po P.length cap] 25)).alloc (.cells #[.int .i64 0] 2)).heap.size = w.heap.size + 2) := by show _ = _; simp only [alloc_size]
  generalize (w.alloc (.cells #[.slice po P.length cap] 25)).alloc (.cells #[.int .i64 0] 2) = W2 at *
  obtain ⟨s, hs⟩ : ∃ s, w.heap.size = s := ⟨_, rfl⟩
  have kss := hid hs
  rw [hs] at htab b2 z2 ⊢
  clear hs
  refine (kE.out _).mono ?_
  rintro e w3 ⟨rfl, e2⟩
  rw [e2, z2.out]
  clear e2 w3
  have o3 : Hid (Old w (W2.alloc (.cells #[.int .u32 (g : Int)] 60))) := o2.out.alloc _
  have b0 := hid (boxed_olds b2.out.1 ((Old.refl W2).alloc (.cells #[.int .u32 (g : Int)] 60)))
  have b1 := hid (boxed_olds b2.out.2 ((Old.refl W2).alloc (.cells #[.int .u32 (g : Int)] 60)))
  have cB := hid (new_cell W2 #[.int .u32 (g : Int)] 60 0 _ rfl)
  have z3 : Hid ((W2.alloc (.cells #[.int .u32 (g : Int)] 60)).heap.size = s + 3) := by show _ = _; rw [alloc_size, z2.out]
  rw [z2.out] at cB
  clear b2 o2 z2
  generalize W2.alloc (.cells #[.int .u32 (g : Int)] 60) = X0 at *
  go_wp2_with fail
  refine range_joinP (n := 5) (by omega) (gf := 98) (lb := #[.pointer (some ⟨s + 2, 0, none⟩)]) rfl (enters_of Tryz.func98 (by kernel_rfl) rfl)
    (each_P 4 (by omega) (s + 2) (fun k => k = s + 1) (by omega) g hg X0 cB.out (kT.out.old o3.out).tz)
    (fun h k => h.trans k) (fun W l o o' _ h1 h2 => KeptC.put W l o o' h1 h2) (fun _ => rfl) 0
    (fun p Y => (∀ x ∈ p, x.val < P.length) ∧ Frm (fun k => s + 1 ≤ k ∧ k ≠ s + 2) X0 Y ∧ Boxed Y (s + 1) 2 (.int .i64 (costF P 0 (p.map Fin.val))))
    (fun q Y => (∃ p x, q = p ++ [x] ∧ P.length ≤ x.val ∧ (∀ x ∈ p, x.val < P.length) ∧ Boxed Y (s + 1) 2 (.int .i64 (costF P 0 (p.map Fin.val)))) ∧ Frm (fun k => s + 1 ≤ k ∧ k ≠ s + 2) X0 Y)
    (fun _ Y => CoE X0 s g P Y)
    (fun p A B ⟨h1, h2, h3⟩ hf => ⟨h1, Frm.trans h2 hf (fun i hi e => by have := z3.out; omega), boxed_frm h3 hf (by have := z3.out; omega)⟩)
    (fun q A B ⟨⟨p, x, h1, h2, h3, h4⟩, h5⟩ hf => ⟨⟨p, x, h1, h2, h3, boxed_frm h4 hf (by have := z3.out; omega)⟩, Frm.trans h5 hf (fun i hi e => by have := z3.out; omega)⟩)
    ⟨by simp, Frm.refl _ _, b1.out⟩
    (fun x t => (t.setIfInBounds 9 (.int .i64 (x.val : Int))).setIfInBounds 6 (.int .i64 (x.val : Int)))
    ?assign1 ?body1
    (fun q W hq ⟨h1, h2, h3⟩ => ⟨Frm.mono h2 (fun i _ e => e.1), by
      have e : costZ P g = costF P 0 (q.map Fin.val) := by
        rw [costZ, ← hq, filter_same]
        intro x hx
        obtain ⟨y, hy, rfl⟩ := List.mem_map.1 hx
        exact h1 y hy
      rw [e]
      exact h3⟩)
    (fun q W ⟨k, hk, hq⟩ ⟨⟨p, x, h1, h2, h3, h4⟩, h5⟩ => ⟨Frm.mono h5 (fun i _ e => e.1), by
      have e : costZ P g = costF P 0 (p.map Fin.val) := by
        rw [costZ, filter_cut (l := p.map Fin.val) (x := x.val) (k := k) (goodsL_sorted g) (by rw [← hq, h1, List.map_append]; rfl) ?_ h2]
        intro y hy
        obtain ⟨z, hz, rfl⟩ := List.mem_map.1 hy
        exact h3 z hz
      rw [e]
      exact h4⟩) ?hQ1 ?end1
  case assign1 =>
    intro l' x W K hK
    simp only [List.setIfInBounds_toArray, List.set_cons_zero, List.set_cons_succ] at hK
    gi_wp2
    exact hK
  case hQ1 =>
    intro b W h
    exact inBlock_both (Or.inr rfl) h
  case body1 =>
    rintro l' p x Y ⟨hp, hf, hb⟩ -
    simp only [List.setIfInBounds_toArray, List.set_cons_zero, List.set_cons_succ]
    have c0 := (boxed_frm b0.out hf (by omega)).cell
    have c1 := hb.cell
    have f1 := hb.frozen
    have kb := hid hb
    have kp := hid hp
    have kf := hid hf
    have z3' := z3.out
    clear hb hp hf
    by_cases hx : x.val < P.length
    · obtain ⟨gb, o, rfl, d1⟩ := kh.out x.val hx
      have d2 := frm_cell kf.out (o3.out.cell d1) (by have := World.block_lt_of_cell? _ _ d1; dsimp only at this ⊢; have := kss.out; omega)
      have hgd : Hid (P.getD x.val 0 = P[x.val]) := by
        show _ = _
        rw [List.getD_eq_getElem?_getD, List.getElem?_eq_getElem hx]; rfl
      obtain ⟨v, hv⟩ : ∃ v, P[x.val] = v := ⟨_, rfl⟩
      rw [hv] at d2 hgd
      clear hv d1
      have hgs : Hid (gb ≠ s + 1) := by
        show gb ≠ s + 1
        intro e
        subst e
        have := World.block_lt_of_cell? _ _ (kh.out x.val hx).choose_spec.choose_spec.2
        have e2 := (kh.out x.val hx).choose_spec.choose_spec.1
        have e3 := congrArg Addr.block (Option.some.inj e2)
        dsimp only at e3 this
        have := kss.out
        omega
      have hx1 : (x.val : Int) < (P.length : Int) := by omega
      have hx2 : decide ((x.val : Int) ≥ (P.length : Int)) = false := by simp; omega
      have hx3 : decide (P.length ≤ x.val) = false := by simp; omega
      obtain ⟨c, hc⟩ : ∃ c, costF P 0 (p.map Fin.val) = c := ⟨_, rfl⟩
      rw [hc] at c1
      have kc : Hid (costF P 0 ((p ++ [x]).map Fin.val) = wrap64 (c + v)) := by
        show _ = _
        rw [List.map_append]
        show costF P 0 (p.map Fin.val ++ [x.val]) = _
        rw [costF_snoc, hc, hgd.out]
      clear hc
      gi_wp2_with fail
      refine region_round (S := fun X => X.cell? ⟨s, 0, none⟩ = some (.slice (some ⟨gb, o, none⟩) P.length cap) ∧ X.cell? ⟨gb, o + x.val, none⟩ = some (.int .i64 v)) (by kernel_rfl) (by kernel_rfl) ⟨((Old.refl Y).drewN 1).cell c0, ((Old.refl Y).drewN 1).cell d2⟩ (fun hHeld => ?_)
      have c1' := ((Old.refl Y).drewN 1).cell c1
      have f1' : (Y.drewN 1).frozen? ⟨s + 1, 0, none⟩ = false := f1
      have hYo := hid ((Old.refl Y).drewN 1)
      have kbd := hid (boxed_olds kb.out hYo.out)
      change (Y.drew).frozen? ⟨s + 1, 0, none⟩ = false at f1'
      change (Y.drew).cell? ⟨s + 1, 0, none⟩ = _ at c1'
      change Hid (Old Y Y.drew) at hYo
      change Hid (Boxed Y.drew _ _ _) at kbd
      generalize Y.drew = V at *
      refine' qtk (i := 1) rfl (fun _ _ _ h => h) (Or.inl ⟨by rfl, ?_⟩) hHeld ?_
      rotate_left
      · intro W hSw
        obtain ⟨r1, r2⟩ := hSw
        simp only [qqa, qqb, qqc]
        go_simp
        all_goals with_reducible rfl
      simp only [qqa, qqb, qqc, Act.put, qqd, qqe, qqf]
      refine' qtk (i := 2) rfl (fun _ _ _ h => h) (Or.inl ⟨by rfl, ?_⟩) hHeld ?_
      rotate_left
      · intro W hSw
        obtain ⟨r1, r2⟩ := hSw
        simp only [qqa, qqb, qqc]
        go_simp
        all_goals with_reducible rfl
      simp only [qqa, qqb, qqc, Act.put, qqd, qqe, qqf]
      refine' qtk (i := 3) rfl (fun _ _ _ h => h) (Or.inl ⟨by rfl, ?_⟩) hHeld ?_
      rotate_left
      · intro W hSw
        obtain ⟨r1, r2⟩ := hSw
        simp only [qqa, qqb, qqc]
        go_simp
        all_goals with_reducible rfl
      simp only [qqa, qqb, qqc, Act.put, qqd, qqe, qqf]
      refine' qtk (i := 4) rfl (fun _ _ _ h => h) (Or.inl ⟨by rfl, ?_⟩) hHeld ?_
      rotate_left
      · intro W hSw
        obtain ⟨r1, r2⟩ := hSw
        simp only [qqa, qqb, qqc]
        go_simp
        all_goals with_reducible rfl
      simp only [qqa, qqb, qqc, Act.put, qqd, qqe, qqf]
      refine wpAnyH_ready (rs := [0]) (by kernel_rfl) (by simp) ?_
      refine AllReadyH.cons (o := _) rfl (fun K hK => ?_) AllReadyH.nil
      simp only [qqa, qqb]
      go_simp
      refine hK.out _ _ (hHeld) (fun hHeld2 => ?_)
      clear hHeld hK
      have hHeld := hHeld2
      clear hHeld2
      try simp only [Act.put, qqd, qqe, qqf]
      refine' qtk (i := 5) rfl (fun _ _ _ h => h) (Or.inl ⟨by rfl, ?_⟩) hHeld ?_
      rotate_left
      · intro W hSw
        obtain ⟨r1, r2⟩ := hSw
        simp only [qqa, qqb, qqc]
        go_simp
        all_goals with_reducible rfl
      simp only [qqa, qqb, qqc, Act.put, qqd, qqe, qqf]
      refine wpAnyH_ready (rs := [6]) (by kernel_rfl) (by simp) ?_
      refine AllReadyH.cons (o := _) rfl (fun K hK => ?_) AllReadyH.nil
      simp only [qqa, qqb, qqc]
      go_simp
      refine hK.out _ _ ⟨frm_cell (frm_set V (s + 1) 0 _) hHeld.1 (by dsimp only; omega), frm_cell (frm_set V (s + 1) 0 _) hHeld.2 (by have := hgs.out; dsimp only; omega)⟩ (fun _ => ?_)
      try simp only [Act.put, qqd, qqe, qqf]
      refine wpAnyH_done (by kernel_rfl) ?_ _
      refine OnlyN.normal ?_
      have hfs := frm_set V (s + 1) 0 (.int .i64 (IntKind.i64.wrap (c + v)))
      refine ⟨(keeps_old hYo.out).trans (keeps_low (by omega) _ _), (KeptC.of_frm (Frm.mono hYo.out (fun _ _ h => h.elim))).trans (KeptC.of_frm hfs), fun y hy => ?_, Frm.trans kf.out (Frm.trans (S := fun k => k = s + 1) (Frm.mono hYo.out (fun _ _ h => h.elim)) hfs (fun _ _ e => e)) (fun i _ e => by omega), ?_⟩
      · rcases List.mem_append.1 hy with h1 | h1
        · exact kp.out y h1
        · obtain rfl : y = x := by simpa using h1
          exact hx
      · rw [kc.out, ← wrap_is (c + v)]
        exact Boxed.set _ kbd.out
    · have hx1 : (x.val : Int) ≥ (P.length : Int) := by omega
      have hx2 : decide ((x.val : Int) ≥ (P.length : Int)) = true := by simp; omega
      have hx3 : decide (P.length ≤ x.val) = true := by simp; omega
      gi_wp2
      exact ⟨keeps_old (Old.refl _), rfl, ⟨p, x, rfl, by omega, kp.out, kb.out⟩, kf.out⟩
  case end1 =>
    rintro D q Y hD ⟨hf, hb⟩ hK
    have c1 := hb.cell
    have kf := hid hf
    have kK := hid hK
    have z3' := z3.out
    clear hf hb hK
    refine inBlock_both (Or.inl rfl) ?_
    dsimp only
    go_wp2_with fail
    refine leave_marks [D] _ ⟨by simp, fun r hr => ?_⟩ (fun W' hW' => ?_)
    · obtain rfl : r = D := by simpa using hr
      exact kK.out
    · refine ⟨.int .i64 (costZ P g), ?_, rfl, ?_⟩
      · simp [results, Tryz.f67, go_sem]
      · exact Frm.trans (Frm.trans o3.out kf.out (fun i hi e => by have := kss.out; omega)) hW' (fun i hi e => by
          have : i = D := by simpa using e
          have := kss.out
          omega)
end Go.Proofs.YtfoadheepmgbfaaGreatDoor
