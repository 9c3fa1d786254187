/- Two accounts, a posting, and back. -/
import Derived.Test.YtlhlmkdgbgppiaaL11
namespace Go.Proofs.Ytlhlmkdgbgppiaa
open Go.RowKit Go.Shelf Go.Maps

/-- The ledger behind an opening. -/
def Lx.opened (x : Lx) (n : List UInt8) (b : Int) (v : Value) : Lx := { x with v := v, L := x.L ++ [n], A := x.A ++ [(b, 0)] }
theorem OkL.opened {x : Lx} (h : OkL x) {n : List UInt8} {b : Int} {v : Value} (hz : opnZ x.L n b = 0) : OkL (x.opened n b v) := by
  unfold opnZ at hz
  split at hz
  · cases hz
  · rename_i hb
    unfold refZ at hz
    split at hz
    · rename_i h1; exact absurd hz h1
    · rename_i h1
      split at hz
      · cases hz
      · rename_i h2
        split at hz
        · cases hz
        · rename_i h3
          have hl := h.len
          refine ⟨by simp [Lx.opened, hl], ?_, ?_, fun m hm => ?_, fun p hp => ?_⟩
          · exact h.oka.opened (by omega) (by omega)
          · show (x.L ++ [n]).Nodup
            rw [List.nodup_append]
            refine ⟨h.nd, by simp, fun a ha b hb => ?_⟩
            rw [List.mem_singleton.1 hb]
            rintro rfl
            exact h2 ha
          · rcases List.mem_append.1 hm with hm | hm
            · exact h.chk m hm
            · rw [List.mem_singleton.1 hm]
              simpa using h1
          · exact (h.ps p hp).more (by simp [Lx.opened])
theorem lopen_good (x : Lx) (n : List UInt8) (b m : Int) (w : World) (hm : (x.A.length : Int) = m) (h : Ldg w x) (hk : OkL x) (hr : opnZ x.L n b = 0) :
    Calls Try.prog 10 #[x.ptr, .string ⟨n.toArray⟩, .int .i64 b] w fun e w' => e = .returned (.tuple #[.int .i64 m, .int .i64 0]) ∧ ∃ v', Ldg w' (x.opened n b v') ∧ OkL (x.opened n b v') ∧ Frm x.own w w' ∧ ∀ k, v'.ownBlock = some k → x.v.ownBlock = some k ∨ w.heap.size ≤ k :=
  hm ▸ (open_good x n b w h hk hr).mono fun _ _ ⟨h1, v', h2, h3, h4⟩ => ⟨h1, v', h2, hk.opened hr, h3, h4⟩

theorem lpost_good (x : Lx) (ao : Option Addr) (cap : Nat) (E : List Es) (m : Int) (w : World) (hm : (x.P.length : Int) = m) (h : Ldg w x) (hk : OkL x) (hE : EsC w ao E) (hs : ∀ e ∈ E, e.1.length ≤ maxLen) (hP : x.P.length ≤ 1048576) (hz : planZ x.L x.A E = 0) :
    Calls Try.prog 13 #[x.ptr, .slice ao E.length cap] w fun e w' => e = .returned (.tuple #[.int .i64 m, .int .i64 0]) ∧ ∃ pv', Ldg w' (x.posted (planP x.L E) pv') ∧ OkL (x.posted (planP x.L E) pv') ∧ Frm x.wrote w w' ∧ ∀ k, pv'.ownBlock = some k → x.pv.ownBlock = some k ∨ w.heap.size ≤ k :=
  hm ▸ post_good x ao cap E w h hk hE hs hP hz
theorem lpost_bad (x : Lx) (ao : Option Addr) (cap : Nat) (E : List Es) (m : Int) (w : World) (hm : planZ x.L x.A E = m) (h : Ldg w x) (hk : OkL x) (hE : EsC w ao E) (hs : ∀ e ∈ E, e.1.length ≤ maxLen) (h0 : m ≠ 0) :
    Calls Try.prog 13 #[x.ptr, .slice ao E.length cap] w fun e w' => e = .returned (.tuple #[.int .i64 0, .int .i64 m]) ∧ Old w w' :=
  hm ▸ post_bad x ao cap E w h hk hE hs (hm ▸ h0)
theorem lhas_good (x : Lx) (n : List UInt8) (k : Nat) (m : Int) (w : World) (hm : (x.A.getD k (0, 0)).2 = m) (h : Ldg w x) (hk : OkL x) (hn : n.length ≤ maxLen) (hi : idx x.L n = some k) :
    Calls Try.prog 27 #[x.ptr, .string ⟨n.toArray⟩] w fun e w' => e = .returned (.tuple #[.int .i64 m, .int .i64 0]) ∧ w' = w :=
  hm ▸ has_good x n k w h hk hn hi
/-- All that a ledger has is new. -/
def New (B : Nat) (x : Lx) : Prop := ∀ k, x.all k → B ≤ k
theorem New.frm {B : Nat} {x : Lx} {w w1 w2 : World} {S : Nat → Prop} (h : New B x) (o : Old w w1) (hB : w.heap.size ≤ B) (f : Frm S w1 w2) (hS : ∀ k, S k → x.own k) : Old w w2 :=
  Frm.trans o f (fun i hi hs => by have := h i (Or.inr (Or.inr (hS i hs))); omega)
theorem New.opened {B : Nat} {x : Lx} {n : List UInt8} {b : Int} {v : Value} {w : World} (h : New B x) (hB : B ≤ w.heap.size) (hv : ∀ k, v.ownBlock = some k → x.v.ownBlock = some k ∨ w.heap.size ≤ k) : New B (x.opened n b v) := fun k hk => by
  rcases hk with rfl | rfl | rfl | rfl | rfl | rfl | hk | hk
  · exact h _ (Or.inl rfl)
  · exact h _ (Or.inr (Or.inl rfl))
  · exact h _ (Or.inr (Or.inr (Or.inl rfl)))
  · exact h _ (Or.inr (Or.inr (Or.inr (Or.inl rfl))))
  · exact h _ (Or.inr (Or.inr (Or.inr (Or.inr (Or.inl rfl)))))
  · exact h _ (Or.inr (Or.inr (Or.inr (Or.inr (Or.inr (Or.inl rfl))))))
  · rcases hv k hk with hk | hk
    · exact h k (Or.inr (Or.inr (Or.inr (Or.inr (Or.inr (Or.inr (Or.inl hk)))))))
    · omega
  · exact h k (Or.inr (Or.inr (Or.inr (Or.inr (Or.inr (Or.inr (Or.inr hk)))))))
theorem New.posted {B : Nat} {x : Lx} {q : List En} {v : Value} {w : World} (h : New B x) (hB : B ≤ w.heap.size) (hv : ∀ k, v.ownBlock = some k → x.pv.ownBlock = some k ∨ w.heap.size ≤ k) : New B (x.posted q v) := fun k hk => by
  rcases hk with rfl | rfl | rfl | rfl | rfl | rfl | hk | hk
  · exact h _ (Or.inl rfl)
  · exact h _ (Or.inr (Or.inl rfl))
  · exact h _ (Or.inr (Or.inr (Or.inl rfl)))
  · exact h _ (Or.inr (Or.inr (Or.inr (Or.inl rfl))))
  · exact h _ (Or.inr (Or.inr (Or.inr (Or.inr (Or.inl rfl)))))
  · exact h _ (Or.inr (Or.inr (Or.inr (Or.inr (Or.inr (Or.inl rfl))))))
  · exact h k (Or.inr (Or.inr (Or.inr (Or.inr (Or.inr (Or.inr (Or.inl hk)))))))
  · rcases hv k hk with hk | hk
    · exact h k (Or.inr (Or.inr (Or.inr (Or.inr (Or.inr (Or.inr (Or.inr hk)))))))
    · omega
theorem New.fresh (s : Nat) : New s (Lx.fresh s) := fun k hk => by
  rcases hk with rfl | rfl | rfl | rfl | rfl | rfl | hk | hk
  · show s ≤ s + 5; omega
  · show s ≤ s + 2; omega
  · show s ≤ s + 4; omega
  · show s ≤ s + 1; omega
  · exact Nat.le_refl _
  · show s ≤ s + 3; omega
  · simp [Lx.fresh, Value.ownBlock] at hk
  · simp [Lx.fresh, Value.ownBlock] at hk
theorem wrote_own {x : Lx} {k : Nat} (h : x.wrote k) : x.own k := h.elim (fun h => Or.inr (Or.inr (Or.inr (Or.inl h)))) (fun h => h.elim (fun h => Or.inl h) (fun h => Or.inr (Or.inr (Or.inr (Or.inr (Or.inr h))))))

def house : List UInt8 := [104, 111, 117, 115, 101]
def ann : List UInt8 := [97, 110, 110]
def Ek1 : List Es := [(house, -50), (ann, 50)]
def Ek2 : List Es := [(ann, -60), (house, 60)]

def Ak0 : List Ac := [(-1000, 0), (0, 0)]
def Pk : List En := planP [house, ann] Ek1
theorem r1 : opnZ [] house (-1000) = 0 := by decide
theorem r2 : opnZ [house] ann 0 = 0 := by decide
theorem r3 : planZ [house, ann] Ak0 Ek1 = 0 := by decide
theorem r4 : planZ [house, ann] (postA Ak0 Pk) Ek2 = 7 := by decide
theorem r5 : ((postA Ak0 Pk).getD 1 (0, 0)).2 = 50 := by decide
theorem r6 : idx [house, ann] ann = some 1 := by decide
theorem r8 : planZ [house, ann] (postA Ak0 Pk) (negE (entsOf [house, ann] Pk)) = 0 := by decide
theorem hk1 : ∀ e ∈ Ek1, e.1.length ≤ maxLen := by decide
theorem hk2 : ∀ e ∈ Ek2, e.1.length ≤ maxLen := by decide
theorem hk3 : ∀ e ∈ negE [(house, -50), (ann, 50)], e.1.length ≤ maxLen := by decide

set_option maxRecDepth 100000 in
set_option maxHeartbeats 4000000 in
theorem lknown_any (w : World) : Calls Try.prog 9 #[] w fun e w' => e = .returned (.bool true) ∧ Old w w' := by
  go_enter Try.func9, Try.ntmps9
  go_wp2_with fail
  refine (lnew_any w).mono ?_
  rintro e w1 ⟨rfl, o1, h1, z1⟩
  obtain ⟨s, hs⟩ : ∃ s, w.heap.size = s := ⟨_, rfl⟩
  have n1 : New s (Lx.fresh s) := New.fresh s
  have k1 := ok_fresh s
  rw [hs] at h1 z1 ⊢
  have ks := hid hs
  have f1 := hid o1
  have kz1 := hid z1
  clear hs o1 z1
  simp only [Lx.ptr]
  go_wp2_with fail
  refine (lopen_good (Lx.fresh s) house (-1000) 0 w1 rfl h1 k1 r1).mono ?_
  rintro e w2 ⟨rfl, v2, h2, k2, g2, q2⟩
  have f2 := hid (n1.frm f1.out (by have := ks.out; omega) g2 (fun _ h => h))
  have n2 := New.opened (n := house) (b := -1000) n1 (by have := kz1.out; omega) q2
  have z2 := g2.size
  have kz2 : Hid (s ≤ w2.heap.size) := hid (by have := kz1.out; omega)
  clear h1 n1 k1 g2 q2 f1 z2 kz1
  go_wp2_with fail
  refine (lopen_good ((Lx.fresh s).opened house (-1000) v2) ann 0 1 w2 rfl h2 k2 r2).mono ?_
  rintro e w3 ⟨rfl, v3, h3, k3, g3, q3⟩
  have f3 := hid (n2.frm f2.out (by have := ks.out; omega) g3 (fun _ h => h))
  have n3 := New.opened (n := ann) (b := 0) n2 kz2.out q3
  have z3 := g3.size
  have kz3 : Hid (s ≤ w3.heap.size) := hid (by have := kz2.out; omega)
  clear h2 n2 k2 g3 q3 f2 z3 kz2
  go_wp2_with fail
  have oa : Old w3 (w3.alloc (.cells #[.string ⟨#[104, 111, 117, 115, 101]⟩, .int .i64 (-50), .string ⟨#[97, 110, 110]⟩, .int .i64 50] 76)) := (Old.refl _).alloc _
  have na := heap_new w3 (.cells #[.string ⟨#[104, 111, 117, 115, 101]⟩, .int .i64 (-50), .string ⟨#[97, 110, 110]⟩, .int .i64 50] 76)
  have hE : EsC (w3.alloc (.cells #[.string ⟨#[104, 111, 117, 115, 101]⟩, .int .i64 (-50), .string ⟨#[97, 110, 110]⟩, .int .i64 50] 76)) (some ⟨w3.heap.size, 0, none⟩) Ek1 := OwnS.esc (q := Ek1) na
  refine (lpost_good (((Lx.fresh s).opened house (-1000) v2).opened ann 0 v3) (some ⟨w3.heap.size, 0, none⟩) 2 Ek1 0 _ rfl (h3.old oa) k3 hE hk1 (Nat.zero_le _) r3).mono ?_
  rintro e w4 ⟨rfl, v4, h4, k4, g4, q4⟩
  have f4 := hid (n3.frm (f3.out.trans oa) (by have := ks.out; omega) g4 (fun _ h => wrote_own h))
  have n4 := New.posted (q := planP [house, ann] Ek1) n3 (by have := kz3.out; have := oa.size; omega) q4
  have z4 := g4.size
  have kz4 : Hid (s ≤ w4.heap.size) := hid (by have := kz3.out; have := oa.size; omega)
  clear h3 n3 k3 g4 q4 f3 z4 kz3 oa na hE
  go_wp2_with fail
  have oa : Old w4 (w4.alloc (.cells #[.string ⟨#[97, 110, 110]⟩, .int .i64 (-60), .string ⟨#[104, 111, 117, 115, 101]⟩, .int .i64 60] 76)) := (Old.refl _).alloc _
  have na := heap_new w4 (.cells #[.string ⟨#[97, 110, 110]⟩, .int .i64 (-60), .string ⟨#[104, 111, 117, 115, 101]⟩, .int .i64 60] 76)
  have hE : EsC (w4.alloc (.cells #[.string ⟨#[97, 110, 110]⟩, .int .i64 (-60), .string ⟨#[104, 111, 117, 115, 101]⟩, .int .i64 60] 76)) (some ⟨w4.heap.size, 0, none⟩) Ek2 := OwnS.esc (q := Ek2) na
  refine (lpost_bad ((((Lx.fresh s).opened house (-1000) v2).opened ann 0 v3).posted (planP [house, ann] Ek1) v4) (some ⟨w4.heap.size, 0, none⟩) 2 Ek2 7 _ r4 (h4.old oa) k4 hE hk2 (by decide)).mono ?_
  rintro e w5 ⟨rfl, o5⟩
  have f5 := hid ((f4.out.trans oa).trans o5)
  have h5 := h4.old (oa.trans o5)
  have kz5 : Hid (s ≤ w5.heap.size) := hid (by have := kz4.out; have := oa.size; have := o5.size; omega)
  clear h4 f4 kz4 oa na hE o5
  go_wp2_with fail
  refine (lhas_good ((((Lx.fresh s).opened house (-1000) v2).opened ann 0 v3).posted (planP [house, ann] Ek1) v4) ann 1 50 _ r5 h5 k4 (by decide) r6).mono ?_
  rintro e w6 ⟨rfl, rfl⟩
  go_wp2_with fail
  refine (back_any ((((Lx.fresh s).opened house (-1000) v2).opened ann 0 v3).posted (planP [house, ann] Ek1) v4) 0 _ (fun e w' => e = .returned (.tuple #[.int .i64 1, .int .i64 0]) ∧ Old w w') h5 k4 (show 0 < 1 by decide) (fun W b oW hb hO => ?_)).mono ?_
  · refine (lpost_good ((((Lx.fresh s).opened house (-1000) v2).opened ann 0 v3).posted (planP [house, ann] Ek1) v4) (some ⟨b, 0, none⟩) _ _ 1 W rfl (h5.old oW) k4 hO.esc hk3 (show 1 ≤ 1048576 by decide) r8).mono ?_
    rintro e w7 ⟨rfl, v7, -, -, g7, -⟩
    exact ⟨1, 0, rfl, rfl, n4.frm (f5.out.trans oW) (by have := ks.out; omega) g7 (fun _ h => wrote_own h)⟩
  · rintro e w7 ⟨rfl, o7⟩
    have k7 := hid o7
    clear o7 h5 k4 n4
    go_wp2_with fail
    go_ret
    exact ⟨rfl, k7.out⟩
end Go.Proofs.Ytlhlmkdgbgppiaa
