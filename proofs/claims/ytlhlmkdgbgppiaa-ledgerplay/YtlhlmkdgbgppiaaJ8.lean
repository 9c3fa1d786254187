/- Two accounts, a posting, and back. -/
import Derived.Test.YtlhlmkdgbgppiaaL11
import Derived.Test.YtlhlmkdgbgppiaaJ3
namespace Go.Proofs.Ytlhlmkdgbgppiaa
open Go.RowKit Go.Shelf Go.Maps

/-- The ledger behind an opening. -/
def Lx.opened (x : Lx) (n : List UInt8) (b : Int) (v : Value) : Lx := { x with v := v, L := x.L ++ [n], A := x.A ++ [(b, 0)] }
theorem OkL.opened {x : Lx} (h : OkL x) {n : List UInt8} {b : Int} {v : Value} (hz : opnZ x.L n b = 0) : OkL (x.opened n b v) := by
  unfold opnZ at hz
  split at hz
  · cases hz
  · rename_i hb
    unfold refZ at hz
    split at hz
    · rename_i h1; exact absurd hz h1
    · rename_i h1
      split at hz
      · cases hz
      · rename_i h2
        split at hz
        · cases hz
        · rename_i h3
          have hl := h.len
          refine ⟨by simp [Lx.opened, hl], ?_, ?_, fun m hm => ?_, fun p hp => ?_⟩
          · exact h.oka.opened (by omega) (by omega)
          · show (x.L ++ [n]).Nodup
            rw [List.nodup_append]
            refine ⟨h.nd, by simp, fun a ha b hb => ?_⟩
            rw [List.mem_singleton.1 hb]
            rintro rfl
            exact h2 ha
          · rcases List.mem_append.1 hm with hm | hm
            · exact h.chk m hm
            · rw [List.mem_singleton.1 hm]
              simpa using h1
          · exact (h.ps p hp).more (by simp [Lx.opened])
theorem lopen_good (x : Lx) (n : List UInt8) (b m : Int) (w : World) (hm : (x.A.length : Int) = m) (h : Ldg w x) (hk : OkL x) (hr : opnZ x.L n b = 0) :
    Calls Try.prog 10 #[x.ptr, .string ⟨n.toArray⟩, .int .i64 b] w fun e w' => e = .returned (.tuple #[.int .i64 m, .int .i64 0]) ∧ ∃ v', Ldg w' (x.opened n b v') ∧ OkL (x.opened n b v') ∧ Frm x.own w w' ∧ ∀ k, v'.ownBlock = some k → x.v.ownBlock = some k ∨ w.heap.size ≤ k :=
  hm ▸ (open_good x n b w h hk hr).mono fun _ _ ⟨h1, v', h2, h3, h4⟩ => ⟨h1, v', h2, hk.opened hr, h3, h4⟩

theorem lpost_good (x : Lx) (ao : Option Addr) (cap : Nat) (E : List Es) (m : Int) (w : World) (hm : (x.P.length : Int) = m) (h : Ldg w x) (hk : OkL x) (hE : EsC w ao E) (hs : ∀ e ∈ E, e.1.length ≤ maxLen) (hP : x.P.length ≤ 1048576) (hz : planZ x.L x.A E = 0) :
    Calls Try.prog 13 #[x.ptr, .slice ao E.length cap] w fun e w' => e = .returned (.tuple #[.int .i64 m, .int .i64 0]) ∧ ∃ pv', Ldg w' (x.posted (planP x.L E) pv') ∧ OkL (x.posted (planP x.L E) pv') ∧ Frm x.wrote w w' ∧ ∀ k, pv'.ownBlock = some k → x.pv.ownBlock = some k ∨ w.heap.size ≤ k :=
  hm ▸ post_good x ao cap E w h hk hE hs hP hz
theorem lpost_bad (x : Lx) (ao : Option Addr) (cap : Nat) (E : List Es) (m : Int) (w : World) (hm : planZ x.L x.A E = m) (h : Ldg w x) (hk : OkL x) (hE : EsC w ao E) (hs : ∀ e ∈ E, e.1.length ≤ maxLen) (h0 : m ≠ 0) :
    Calls Try.prog 13 #[x.ptr, .slice ao E.length cap] w fun e w' => e = .returned (.tuple #[.int .i64 0, .int .i64 m]) ∧ Old w w' :=
  hm ▸ post_bad x ao cap E w h hk hE hs (hm ▸ h0)
theorem lhas_good (x : Lx) (n : List UInt8) (k : Nat) (m : Int) (w : World) (hm : (x.A.getD k (0, 0)).2 = m) (h : Ldg w x) (hk : OkL x) (hn : n.length ≤ maxLen) (hi : idx x.L n = some k) :
    Calls Try.prog 27 #[x.ptr, .string ⟨n.toArray⟩] w fun e w' => e = .returned (.tuple #[.int .i64 m, .int .i64 0]) ∧ w' = w :=
  hm ▸ has_good x n k w h hk hn hi
/-- All that a ledger has is new. -/
def New (B : Nat) (x : Lx) : Prop := ∀ k, x.all k → B ≤ k
theorem New.frm {B : Nat} {x : Lx} {w w1 w2 : World} {S : Nat → Prop} (h : New B x) (o : Old w w1) (hB : w.heap.size ≤ B) (f : Frm S w1 w2) (hS : ∀ k, S k → x.own k) : Old w w2 :=
  Frm.trans o f (fun i hi hs => by have := h i (Or.inr (Or.inr (hS i hs))); omega)
theorem New.opened {B : Nat} {x : Lx} {n : List UInt8} {b : Int} {v : Value} {w : World} (h : New B x) (hB : B ≤ w.heap.size) (hv : ∀ k, v.ownBlock = some k → x.v.ownBlock = some k ∨ w.heap.size ≤ k) : New B (x.opened n b v) := fun k hk => by
  rcases hk with rfl | rfl | rfl | rfl | rfl | rfl | hk | hk
  · exact h _ (Or.inl rfl)
  · exact h _ (Or.inr (Or.inl rfl))
  · exact h _ (Or.inr (Or.inr (Or.inl rfl)))
  · exact h _ (Or.inr (Or.inr (Or.inr (Or.inl rfl))))
  · exact h _ (Or.inr (Or.inr (Or.inr (Or.inr (Or.inl rfl)))))
  · exact h _ (Or.inr (Or.inr (Or.inr (Or.inr (Or.inr (Or.inl rfl))))))
  · rcases hv k hk with hk | hk
    · exact h k (Or.inr (Or.inr (Or.inr (Or.inr (Or.inr (Or.inr (Or.inl hk)))))))
    · omega
  · exact h k (Or.inr (Or.inr (Or.inr (Or.inr (Or.inr (Or.inr (Or.inr hk)))))))
theorem New.posted {B : Nat} {x : Lx} {q : List En} {v : Value} {w : World} (h : New B x) (hB : B ≤ w.heap.size) (hv : ∀ k, v.ownBlock = some k → x.pv.ownBlock = some k ∨ w.heap.size ≤ k) : New B (x.posted q v) := fun k hk => by
  rcases hk with rfl | rfl | rfl | rfl | rfl | rfl | hk | hk
  · exact h _ (Or.inl rfl)
  · exact h _ (Or.inr (Or.inl rfl))
  · exact h _ (Or.inr (Or.inr (Or.inl rfl)))
  · exact h _ (Or.inr (Or.inr (Or.inr (Or.inl rfl))))
  · exact h _ (Or.inr (Or.inr (Or.inr (Or.inr (Or.inl rfl)))))
  · exact h _ (Or.inr (Or.inr (Or.inr (Or.inr (Or.inr (Or.inl rfl))))))
  · exact h k (Or.inr (Or.inr (Or.inr (Or.inr (Or.inr (Or.inr (Or.inl hk)))))))
  · rcases hv k hk with hk | hk
    · exact h k (Or.inr (Or.inr (Or.inr (Or.inr (Or.inr (Or.inr (Or.inr hk)))))))
    · omega
theorem New.fresh (s : Nat) : New s (Lx.fresh s) := fun k hk => by
  rcases hk with rfl | rfl | rfl | rfl | rfl | rfl | hk | hk
  · show s ≤ s + 5; omega
  · show s ≤ s + 2; omega
  · show s ≤ s + 4; omega
  · show s ≤ s + 1; omega
  · exact Nat.le_refl _
  · show s ≤ s + 3; omega
  · simp [Lx.fresh, Value.ownBlock] at hk
  · simp [Lx.fresh, Value.ownBlock] at hk
theorem wrote_own {x : Lx} {k : Nat} (h : x.wrote k) : x.own k := h.elim (fun h => Or.inr (Or.inr (Or.inr (Or.inl h)))) (fun h => h.elim (fun h => Or.inl h) (fun h => Or.inr (Or.inr (Or.inr (Or.inr (Or.inr h))))))

def house : List UInt8 := [104, 111, 117, 115, 101]
def ann : List UInt8 := [97, 110, 110]
def Ek1 : List Es := [(house, -50), (ann, 50)]
def Ek2 : List Es := [(ann, -60), (house, 60)]

def Ak0 : List Ac := [(-1000, 0), (0, 0)]
def Pk : List En := planP [house, ann] Ek1
theorem r1 : opnZ [] house (-1000) = 0 := by decide
theorem r2 : opnZ [house] ann 0 = 0 := by decide
theorem r3 : planZ [house, ann] Ak0 Ek1 = 0 := by decide
theorem r4 : planZ [house, ann] (postA Ak0 Pk) Ek2 = 7 := by decide
theorem r5 : ((postA Ak0 Pk).getD 1 (0, 0)).2 = 50 := by decide
theorem r6 : idx [house, ann] ann = some 1 := by decide
theorem r8 : planZ [house, ann] (postA Ak0 Pk) (negE (entsOf [house, ann] Pk)) = 0 := by decide
theorem hk1 : ∀ e ∈ Ek1, e.1.length ≤ maxLen := by decide
theorem hk2 : ∀ e ∈ Ek2, e.1.length ≤ maxLen := by decide
theorem hk3 : ∀ e ∈ negE [(house, -50), (ann, 50)], e.1.length ≤ maxLen := by decide

set_option maxRecDepth 100000 in
set_option maxHeartbeats 4000000 in
theorem lknown_any (w : World) : Calls Try.prog 9 #[] w fun e w' => e = .returned (.bool true) ∧ Old w w' := by
  go_enter Try.func9, Try.ntmps9
  go_wp2_with fail
  refine (lnew_any w).mono ?_
  rintro e w1 ⟨rfl, o1, h1, z1⟩
  obtain ⟨s, hs⟩ : ∃ s, w.heap.size = s := ⟨_, rfl⟩
  have n1 : New s (Lx.fresh s) := New.fresh s
  have k1 := ok_fresh s
  rw [hs] at h1 z1 ⊢
  have ks := hid hs
  have f1 := hid o1
  have kz1 := hid z1
  clear hs o1 z1
  simp only [Lx.ptr]
  go_wp2_with fail
  refine (lopen_good (Lx.fresh s) house (-1000) 0 w1 rfl h1 k1 r1).mono ?_
  rintro e w2 ⟨rfl, v2, h2, k2, g2, q2⟩
  have f2 := hid (n1.frm f1.out (by have := ks.out; omega) g2 (fun _ h => h))
  have n2 := New.opened (n := house) (b := -1000) n1 (by have := kz1.out; omega) q2
  have z2 := g2.size
  have kz2 : Hid (s ≤ w2.heap.size) := hid (by have := kz1.out; omega)
  clear h1 n1 k1 g2 q2 f1 z2 kz1
  go_wp2_with fail
  refine (lopen_good ((Lx.fresh s).opened house (-1000) v2) ann 0 1 w2 rfl h2 k2 r2).mono ?_
  rintro e w3 ⟨rfl, v3, h3, k3, g3, q3⟩
  have f3 := hid (n2.frm f2.out (by have := ks.out; omega) g3 (fun _ h => h))
  have n3 := New.opened (n := ann) (b := 0) n2 kz2.out q3
  have z3 := g3.size
  have kz3 : Hid (s ≤ w3.heap.size) := hid (by have := kz2.out; omega)
  clear h2 n2 k2 g3 q3 f2 z3 kz2
  go_wp2_with fail
  have oa : Old w3 (w3.alloc (.cells #[.string ⟨#[104, 111, 117, 115, 101]⟩, .int .i64 (-50), .string ⟨#[97, 110, 110]⟩, .int .i64 50] 76)) := (Old.refl _).alloc _
  have na := heap_new w3 (.cells #[.string ⟨#[104, 111, 117, 115, 101]⟩, .int .i64 (-50), .string ⟨#[97, 110, 110]⟩, .int .i64 50] 76)
  have hE : EsC (w3.alloc (.cells #[.string ⟨#[104, 111, 117, 115, 101]⟩, .int .i64 (-50), .string ⟨#[97, 110, 110]⟩, .int .i64 50] 76)) (some ⟨w3.heap.size, 0, none⟩) Ek1 := OwnS.esc (q := Ek1) na
  refine (lpost_good (((Lx.fresh s).opened house (-1000) v2).opened ann 0 v3) (some ⟨w3.heap.size, 0, none⟩) 2 Ek1 0 _ rfl (h3.old oa) k3 hE hk1 (Nat.zero_le _) r3).mono ?_
  rintro e w4 ⟨rfl, v4, h4, k4, g4, q4⟩
  have f4 := hid (n3.frm (f3.out.trans oa) (by have := ks.out; omega) g4 (fun _ h => wrote_own h))
  have n4 := New.posted (q := planP [house, ann] Ek1) n3 (by have := kz3.out; have := oa.size; omega) q4
  have z4 := g4.size
  have kz4 : Hid (s ≤ w4.heap.size) := hid (by have := kz3.out; have := oa.size; omega)
  clear h3 n3 k3 g4 q4 f3 z4 kz3 oa na hE
  go_wp2_with fail
  have oa : Old w4 (w4.alloc (.cells #[.string ⟨#[97, 110, 110]⟩, .int .i64 (-60), .string ⟨#[104, 111, 117, 115, 101]⟩, .int .i64 60] 76)) := (Old.refl _).alloc _
  have na := heap_new w4 (.cells #[.string ⟨#[97, 110, 110]⟩, .int .i64 (-60), .string ⟨#[104, 111, 117, 115, 101]⟩, .int .i64 60] 76)
  have hE : EsC (w4.alloc (.cells #[.string ⟨#[97, 110, 110]⟩, .int .i64 (-60), .string ⟨#[104, 111, 117, 115, 101]⟩, .int .i64 60] 76)) (some ⟨w4.heap.size, 0, none⟩) Ek2 := OwnS.esc (q := Ek2) na
  refine (lpost_bad ((((Lx.fresh s).opened house (-1000) v2).opened ann 0 v3).posted (planP [house, ann] Ek1) v4) (some ⟨w4.heap.size, 0, none⟩) 2 Ek2 7 _ r4 (h4.old oa) k4 hE hk2 (by decide)).mono ?_
  rintro e w5 ⟨rfl, o5⟩
  have f5 := hid ((f4.out.trans oa).trans o5)
  have h5 := h4.old (oa.trans o5)
  have kz5 : Hid (s ≤ w5.heap.size) := hid (by have := kz4.out; have := oa.size; have := o5.size; omega)
  clear h4 f4 kz4 oa na hE o5
  go_wp2_with fail
  refine (lhas_good ((((Lx.fresh s).opened house (-1000) v2).opened ann 0 v3).posted (planP [house, ann] Ek1) v4) ann 1 50 _ r5 h5 k4 (by decide) r6).mono ?_
  rintro e w6 ⟨rfl, rfl⟩
  go_wp2_with fail
  refine (back_any ((((Lx.fresh s).opened house (-1000) v2).opened ann 0 v3).posted (planP [house, ann] Ek1) v4) 0 _ (fun e w' => e = .returned (.tuple #[.int .i64 1, .int .i64 0]) ∧ Old w w') h5 k4 (show 0 < 1 by decide) (fun W b oW hb hO => ?_)).mono ?_
  · refine (lpost_good ((((Lx.fresh s).opened house (-1000) v2).opened ann 0 v3).posted (planP [house, ann] Ek1) v4) (some ⟨b, 0, none⟩) _ _ 1 W rfl (h5.old oW) k4 hO.esc hk3 (show 1 ≤ 1048576 by decide) r8).mono ?_
    rintro e w7 ⟨rfl, v7, -, -, g7, -⟩
    exact ⟨1, 0, rfl, rfl, n4.frm (f5.out.trans oW) (by have := ks.out; omega) g7 (fun _ h => wrote_own h)⟩
  · rintro e w7 ⟨rfl, o7⟩
    have k7 := hid o7
    clear o7 h5 k4 n4
    go_wp2_with fail
    go_ret
    exact ⟨rfl, k7.out⟩
end Go.Proofs.Ytlhlmkdgbgppiaa

/- A range over a function that keeps a state of its own in blocks that it makes: what is asked of such a function, and what a loop over it comes to. -/
namespace Go.Proofs.Ytlhlmkdgbgppiaa
open Go.RowKit Go.Lib Go.Shelf

/-- What is asked of the function: it tells Pre's lists only, one by one; it may turn the blocks that it makes. -/
def SeqP {α : Type} (P : Program) (n : Nat) (g : Nat) (lb : Array Value) (enc : α → Array Value) (Kp : World → World → Prop) (Pre S Sp : List α → Prop) (w : World) : Prop :=
  ∀ (l : Nat) (J Jx : List α → World → Prop) (W : World), Below w.heap.size w W →
    (∀ p X Y, J p X → Frm (fun k => W.heap.size ≤ k) X Y → J p Y) → (∀ p X Y, Jx p X → Frm (fun k => W.heap.size ≤ k) X Y → Jx p Y) →
    (∀ p x X, J p X → Pre (p ++ [x]) → YieldAt Fence.wide (n - 1) P l (enc x) X fun e Y => (e = .returned (.bool true) ∧ J (p ++ [x]) Y ∧ Kp X Y) ∨ (e = .returned (.bool false) ∧ Jx (p ++ [x]) Y)) →
    J [] W → CallsIn Fence.wide n P g (#[.func (.yield l) #[] #[]] ++ lb) W fun e Y => (∃ v, e = .returned v) ∧ ((∃ q, S q ∧ J q Y) ∨ (∃ p, Sp p ∧ Jx p Y))

/-- The loop. -/
theorem range_priv {α : Type} {P : Program} {n : Nat} {g : Operand} {ps : Array Tmp} {assign body : Code} {Q : Exit → Act → World → Prop} {a : Act} {w : World} (hn : 1 ≤ n) {gf : Nat} {lb : Array Value}
    (hg : a.eval g = .func (.func gf) #[] lb) (eg : ∀ args w, (callFunc gf args).run P w = .ok (.enter gf args) w) {enc : α → Array Value} {Kp : World → World → Prop} {Pre S Sp : List α → Prop}
    (hseq : SeqP P (n - 1) gf lb enc Kp Pre S Sp w) (hKt : ∀ {A B D : World}, Kp A B → Kp B D → Kp A D)
    (hKb : ∀ (W : World) (l : Nat) (o o' : Obj), w.heap.size ≤ l → W.heap[l]? = some o → o.isCells = false → Kp W (W.putObj l o')) (hps : ∀ x, (enc x).size = ps.size)
    (I : List α → World → Prop) (Ix : Code → List α → World → Prop) (hI : OwnFrom w.heap.size I) (hIx : ∀ c, OwnFrom w.heap.size (Ix c))
    (hIP : ∀ p X Y, I p X → Frm (fun k => w.heap.size + 2 ≤ k) X Y → I p Y) (hIxP : ∀ c p X Y, Ix c p X → Frm (fun k => w.heap.size + 2 ≤ k) X Y → Ix c p Y) (h0 : I [] w) (a₁ : α → Act)
    (hassign : ∀ (l : Nat) (x : α) (W : World) (K : Act → World → Prop), K (a₁ x) W → assign.wpIn (Fence.wide.inRound l) (n - 1 - 1) P (Exit.then K (fun _ _ _ => False)) { tmps := (ps.zip (enc x)).foldl (fun t (p, v) => t.setIfInBounds p v) a.tmps, defers := [] } W)
    (hbody : ∀ (l : Nat) (p : List α) (x : α) (W : World), I p W → Pre (p ++ [x]) → body.wpIn (Fence.wide.inRound l) (n - 1 - 1) P (ownPostG w.heap.size Kp I Ix (p ++ [x]) W) (a₁ x) W)
    (hdone : ∀ (D : Nat) (q : List α) (W : World), w.heap.size ≤ D → S q → I q W → W.heap[D]? = some (.deferred (some [])) → Q .normal { a with defers := { target := .collected D, args := #[] } :: a.defers } W)
    (hstop : ∀ (D : Nat) (c : Code) (p : List α) (W : World), w.heap.size ≤ D → Sp p → Ix c p W → W.heap[D]? = some (.deferred (some [])) → c.wpIn Fence.wide n P Q { a with defers := { target := .collected D, args := #[] } :: a.defers } W) :
    (Code.rangeFunc g ps assign body).wpIn Fence.wide n P Q a w := by
  refine wpIn_rangeFunc fun fn hfn => ?_
  let R : LoopState → Option Code → Obj := fun st pe => .loop { state := st, pending := pe, fn, tmps := a.tmps, params := ps, assign, body, defers := w.heap.size }
  let Md : Obj := .deferred (some [])
  have lr : ∀ st pe, (R st pe).isCells = false := fun _ _ => rfl
  obtain ⟨V, hV⟩ : ∃ V, (w.alloc Md).alloc (R .ready none) = V := ⟨_, rfl⟩
  have vR : V.heap[w.heap.size + 1]? = some (R .ready none) := by
    have := heap_new (w.alloc Md) (R .ready none)
    rwa [alloc_size, hV] at this
  have vD : V.heap[w.heap.size]? = some Md := by
    rw [← hV, Below.heap_alloc _ _ _ (by rw [alloc_size]; omega)]
    exact heap_new w Md
  have vI : I [] V := by rw [← hV]; exact hI.alloc _ (hI.alloc _ h0)
  have vB : Below w.heap.size w V := by rw [← hV]; exact (((Old.refl w).alloc _).alloc _).below
  have vS : V.heap.size = w.heap.size + 2 := by rw [← hV, alloc_size, alloc_size]
  refine ⟨w.heap.size + 1, [{ target := .collected w.heap.size, args := #[] }], V, { target := .fn (.func gf) lb, args := #[.func (.yield (w.heap.size + 1)) #[] #[]] }, V, gf, #[.func (.yield (w.heap.size + 1)) #[] #[]] ++ lb, V,
    by rw [← hV]; exact run_enterLoop_outer _ _ _ _ _, by simp only [resolve, hg]; simp [go_sem], fun _ _ => trivial, by simp [invoke, go_sem, eg], fun _ => hn, ?_⟩
  have keep : ∀ {X Y : World} {k : Nat} {o : Obj}, Frm (fun k => V.heap.size ≤ k) X Y → k < w.heap.size + 2 → X.heap[k]? = some o → Y.heap[k]? = some o := fun hf hk h => by
    rw [hf.block _ (Array.getElem?_eq_some_iff.1 h).1 (by rw [vS]; omega)]
    exact h
  refine (hseq (w.heap.size + 1) (fun p X => I p X ∧ X.heap[w.heap.size + 1]? = some (R .ready none) ∧ X.heap[w.heap.size]? = some Md)
    (fun p X => ∃ c, Ix c p X ∧ X.heap[w.heap.size + 1]? = some (R .done (some c)) ∧ X.heap[w.heap.size]? = some Md) V vB
    (fun p X Y h hf => ⟨hIP p X Y h.1 (Frm.mono hf (fun k _ hk => by rw [vS] at hk; exact hk)), keep hf (by omega) h.2.1, keep hf (by omega) h.2.2⟩)
    (fun p X Y ⟨c, h1, h2, h3⟩ hf => ⟨c, hIxP c p X Y h1 (Frm.mono hf (fun k _ hk => by rw [vS] at hk; exact hk)), keep hf (by omega) h2, keep hf (by omega) h3⟩) ?_ ⟨vI, vR, vD⟩).mono ?_
  · rintro p x X ⟨xI, xR, xD⟩ hlen
    have hlt : w.heap.size + 1 < X.heap.size := (Array.getElem?_eq_some_iff.1 xR).1
    refine ⟨fn, _, assign, body, run_yield (P := P) (args := enc x) xR (hps x), roundIn_of_wpIn hfn (hassign _ x X _ ?_)⟩
    refine ⟨_, run_beginRound xR rfl, ?_⟩
    have bR : (X.putObj (w.heap.size + 1) (R .busy none)).heap[w.heap.size + 1]? = some (R .busy none) := World.putObj_heap_same hlt
    have bD : (X.putObj (w.heap.size + 1) (R .busy none)).heap[w.heap.size]? = some Md := (World.putObj_heap_other (by omega)).trans xD
    have bK : Kp X (X.putObj (w.heap.size + 1) (R .busy none)) := hKb _ _ _ _ (by omega) xR (lr _ _)
    have ends : ∀ (j : Option Code) (Y : World), KeepsFrom w.heap.size (X.putObj (w.heap.size + 1) (R .busy none)) Y →
        Y.heap[w.heap.size + 1]? = some (R .busy none) ∧ (Instr.endRound (w.heap.size + 1) j).run P Y = .ok (.bool j.isNone) (Y.putObj (w.heap.size + 1) (R (if j.isNone then .ready else .done) j)) ∧
        (Y.putObj (w.heap.size + 1) (R (if j.isNone then .ready else .done) j)).heap[w.heap.size + 1]? = some (R (if j.isNone then .ready else .done) j) ∧
        (Y.putObj (w.heap.size + 1) (R (if j.isNone then .ready else .done) j)).heap[w.heap.size]? = some Md := fun j Y hY => by
      have yR := hY.same _ _ (by omega) bR rfl
      exact ⟨yR, run_endRound (P := P) j yR, World.putObj_heap_same (Array.getElem?_eq_some_iff.1 yR).1, (World.putObj_heap_other (by omega)).trans (hY.same _ _ (Nat.le_refl _) bD rfl)⟩
    refine wpIn_mono (hbody _ p x _ (hI.putObj _ xI (by omega) xR (lr _ _)) hlen) fun e b Y hp => ?_
    cases e with
    | normal =>
      obtain ⟨kY, pY, iY⟩ := hp
      obtain ⟨yR, run, zR, zD⟩ := ends none Y kY
      exact ⟨_, _, run, .inl ⟨rfl, ⟨hI.putObj _ iY (by omega) yR (lr _ _), zR, zD⟩, hKt (hKt bK pY) (hKb _ _ _ _ (by omega) yR (lr _ _))⟩⟩
    | ret =>
      obtain ⟨kY, iY⟩ := hp
      obtain ⟨yR, run, zR, zD⟩ := ends (some .ret) Y kY
      exact ⟨_, _, run, .inr ⟨rfl, .ret, (hIx _).putObj _ iY (by omega) yR (lr _ _), zR, zD⟩⟩
    | exit i =>
      obtain ⟨kY, iY⟩ := hp
      obtain ⟨yR, run, zR, zD⟩ := ends (some (.exit i)) Y kY
      exact ⟨_, _, run, .inr ⟨rfl, .exit i, (hIx _).putObj _ iY (by omega) yR (lr _ _), zR, zD⟩⟩
    | goto t =>
      obtain ⟨kY, iY⟩ := hp
      obtain ⟨yR, run, zR, zD⟩ := ends (some (.goto t)) Y kY
      exact ⟨_, _, run, .inr ⟨rfl, .goto t, (hIx _).putObj _ iY (by omega) yR (lr _ _), zR, zD⟩⟩
    | panic ch => exact hp.elim
    | outgrown => exact hp.elim
  · rintro e Y ⟨⟨v, rfl⟩, (⟨q, hS, yI, yR, yD⟩ | ⟨p, hSp, c, yI, yR, yD⟩)⟩
    · exact ⟨none, _, run_endLoop (P := P) yR (by simp), hdone _ q _ (Nat.le_refl _) hS (hI.putObj _ yI (by omega) yR (lr _ _)) ((World.putObj_heap_other (by omega)).trans yD)⟩
    · exact ⟨some c, _, run_endLoop (P := P) yR (by simp), hstop _ c p _ (Nat.le_refl _) hSp ((hIx c).putObj _ yI (by omega) yR (lr _ _)) ((World.putObj_heap_other (by omega)).trans yD)⟩

/-- Blocks of cells are kept, but for those of T. -/
def KeptC (T : Nat → Prop) (X Y : World) : Prop := ∀ k o, ¬ T k → X.heap[k]? = some o → o.isCells = true → Y.heap[k]? = some o

theorem KeptC.trans {T : Nat → Prop} {A B C : World} (h : KeptC T A B) (k : KeptC T B C) : KeptC T A C := fun i o ht hi ho => k i o ht (h i o ht hi ho) ho
theorem KeptC.put {T : Nat → Prop} (W : World) (l : Nat) (o o' : Obj) (h : W.heap[l]? = some o) (ho : o.isCells = false) : KeptC T W (W.putObj l o') := fun k u _ hk hu => by
  by_cases e : k = l
  · subst e
    rw [h, Option.some.injEq] at hk
    subst hk
    rw [ho] at hu
    cases hu
  · exact (World.putObj_heap_other e).trans hk
theorem KeptC.of_frm {T : Nat → Prop} {X Y : World} (h : Frm T X Y) : KeptC T X Y := fun k o ht hk _ => by
  rw [h.block k (Array.getElem?_eq_some_iff.1 hk).1 ht]
  exact hk

end Go.Proofs.Ytlhlmkdgbgppiaa

/- A range over a function that is gone through, or left by a break: one end for both. -/
namespace Go.Proofs.Ytlhlmkdgbgppiaa
open Go.RowKit Go.Lib Go.Shelf

theorem kept_cell {T : Nat → Prop} {X Y : World} (h : KeptC T X Y) {p : Addr} {v : Value} (ht : ¬ T p.block) (hc : X.cell? p = some v) : Y.cell? p = some v := by
  have hg : p.block < X.heap.size := World.block_lt_of_cell? X _ hc
  obtain ⟨o, ho⟩ : ∃ o, X.heap[p.block]? = some o := ⟨_, Array.getElem?_eq_getElem hg⟩
  have hcell : o.isCells = true := by
    cases o <;> simp [World.cell?, ho] at hc ⊢
    all_goals rfl
  rw [← hc]
  exact World.cell?_of_block ((h _ _ ht ho hcell).trans ho.symm)

theorem range_joinP {α : Type} {P : Program} {n : Nat} {g : Operand} {ps : Array Tmp} {assign body : Code} {Q : Exit → Act → World → Prop} {a : Act} {w : World} (hn : 1 ≤ n) {gf : Nat} {lb : Array Value}
    (hg : a.eval g = .func (.func gf) #[] lb) (eg : ∀ args w, (callFunc gf args).run P w = .ok (.enter gf args) w) {enc : α → Array Value} {Kp : World → World → Prop} {Pre S Sp : List α → Prop}
    (hseq : SeqP P (n - 1) gf lb enc Kp Pre S Sp w) (hKt : ∀ {A B D : World}, Kp A B → Kp B D → Kp A D)
    (hKb : ∀ (W : World) (l : Nat) (o o' : Obj), w.heap.size ≤ l → W.heap[l]? = some o → o.isCells = false → Kp W (W.putObj l o')) (hps : ∀ x, (enc x).size = ps.size)
    (id : Nat) (I X Fin : List α → World → Prop) (hI : ∀ p A B, I p A → Frm (fun k => w.heap.size ≤ k) A B → I p B) (hX : ∀ p A B, X p A → Frm (fun k => w.heap.size ≤ k) A B → X p B)
    (h0 : I [] w) (upd : α → Array Value → Array Value)
    (hassign : ∀ (l : Nat) (x : α) (W : World) (K : Act → World → Prop), K { tmps := upd x a.tmps, defers := [] } W → assign.wpIn (Fence.wide.inRound l) (n - 1 - 1) P (Exit.then K (fun _ _ _ => False)) { tmps := (ps.zip (enc x)).foldl (fun t (p, v) => t.setIfInBounds p v) a.tmps, defers := [] } W)
    (hbody : ∀ (l : Nat) (p : List α) (x : α) (W : World), I p W → Pre (p ++ [x]) → body.wpIn (Fence.wide.inRound l) (n - 1 - 1) P (ownPostG w.heap.size Kp I (fun c q Y => c = .exit id ∧ X q Y) (p ++ [x]) W) { tmps := upd x a.tmps, defers := [] } W)
    (hS : ∀ q W, S q → I q W → Fin q W) (hSp : ∀ q W, Sp q → X q W → Fin q W) (hQ : ∀ b W, Q .normal b W → Q (.exit id) b W)
    (hend : ∀ (D : Nat) (q : List α) (W : World), w.heap.size ≤ D → Fin q W → W.heap[D]? = some (.deferred (some [])) → Q .normal { a with defers := { target := .collected D, args := #[] } :: a.defers } W) :
    (Code.rangeFunc g ps assign body).wp P Q a w := by
  refine (wpIn_wide (n := n)).1 ?_
  refine range_priv hn hg eg hseq hKt hKb hps I (fun c q Y => c = .exit id ∧ X q Y)
    (fun p A B row h hg hr => hI p A B h (Frm.grown (Frm.refl _ A) hg (fun k e => Or.inr (hr k e).1)))
    (fun c p A B row h hg hr => ⟨h.1, hX p A B h.2 (Frm.grown (Frm.refl _ A) hg (fun k e => Or.inr (hr k e).1))⟩)
    (fun p A B h hf => hI p A B h (Frm.mono hf (fun k _ e => by omega)))
    (fun c p A B h hf => ⟨h.1, hX p A B h.2 (Frm.mono hf (fun k _ e => by omega))⟩)
    h0 (fun x => { tmps := upd x a.tmps, defers := [] }) hassign hbody (fun D q W hD hs hi hK => hend D q W hD (hS q W hs hi) hK) ?_
  rintro D c p W hD hs ⟨rfl, hx⟩ hK
  refine wpIn_wide.2 ?_
  exact wp_exit (hQ _ _ (hend D p W hD (hSp p W hs hx) hK))

end Go.Proofs.Ytlhlmkdgbgppiaa
