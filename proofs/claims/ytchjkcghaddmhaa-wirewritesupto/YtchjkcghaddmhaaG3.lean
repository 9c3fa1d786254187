/- What a round of WireWrites leaves; append in whatever order. -/
import Derived.Test.YtchjkcghaddmhaaG2
namespace Go.Proofs.Ytchjkcghaddmhaa
open Go.RowKit

theorem run_app (W : World) (ty : TypeId) (base base2 : Nat) (v v2 : Value) (xs zs : List UInt8) (hown : OwnB W base v xs) (hown2 : OwnB W base2 v2 zs) (hb : xs.length + zs.length ≤ 900000000000) (hbase : base ≤ W.heap.size) :
    ∃ v' W', (Builtin.append_ #[25, 25] ty #[v, v2]).run Try.prog W = .ok v' W' ∧ OwnB W' base v' (xs ++ zs) ∧ W.grownBy W' v.ownBlock ∧ (v'.ownBlock = v.ownBlock ∨ v'.ownBlock = some W.heap.size) := by
  obtain ⟨i0, hi0, hz0, hz1, hz2⟩ := info_parts Try.info5
  rcases hown2.2 with ⟨rfl, h0⟩ | ⟨g, cap, cur, rfl, _⟩
  · obtain rfl : zs = [] := List.eq_nil_of_length_eq_zero h0
    refine ⟨v, W, run_append_owned_none (P := Try.prog) W base 25 ty 5 i0 1 Try.underlying25 hi0 v xs.length (xs.map byteV) hown, by rw [List.append_nil]; exact hown, ⟨rfl, rfl, rfl, Nat.le_refl _, fun _ _ _ => rfl⟩, .inl rfl⟩
  · have hcells := World.ownsRow.cells (g := g) hown2 rfl
    obtain ⟨v', W', hr, h2, h3, _, h5⟩ := run_append_own_at (P := Try.prog) W base 25 ty 5 i0 _ 1 1 Try.underlying25 hi0 hz0 hz1 hz2 rfl (by omega) v xs.length (xs.map byteV) hown ⟨g, 0, none⟩ zs.length cap (zs.map byteV) (by simp) hcells (by intro u hu; simp at hu; obtain ⟨x, _, rfl⟩ := hu; rfl) (by unfold maxLen; omega) (by omega) hbase
    exact ⟨v', W', hr, ownB_app rfl h2, h3, h5⟩

/-- At a step of a region that draws its order. -/
theorem step_app {ops : Array Oper} {o : Oper} {a : Act} {K : Act → World → Prop} {Q : Exit → Act → World → Prop} {E : Prop} (W : World) (hgd : o.guard = none) (s x : Operand)
    (ho : o.op = .call { callee := .builtin .append, args := #[s, x], argTypes := #[25, 25] }) (base base2 : Nat) (v v2 : Value) (xs zs : List UInt8) (hs : a.eval s = v) (hx : a.eval x = v2) (hown : OwnB W base v xs) (hown2 : OwnB W base2 v2 zs)
    (hb : xs.length + zs.length ≤ 900000000000) (hbase : base ≤ W.heap.size)
    (h : ∀ v' W', OwnB W' base v' (xs ++ zs) → W.grownBy W' v.ownBlock → (v'.ownBlock = v.ownBlock ∨ v'.ownBlock = some W.heap.size) → K (a.put o.dst v') W') :
    if Region.wanted o (yielded ops a.tmps) = true then Oper.wp Try.prog o a W K Q else E := by
  have hw : Region.wanted o (yielded ops a.tmps) = true := by simp [Region.wanted, hgd]
  rw [if_pos hw]
  obtain ⟨v', W', hr, h2, h3, h4⟩ := run_app W o.type base base2 v v2 xs zs hown hown2 hb hbase
  unfold Oper.wp execOp
  simp only [ho, resolve, invoke, builtin, Sem.run_bind, Sem.run_pure, Result.andThen_ok, List.map_toArray, List.map_cons, List.map_nil, hs, hx, hr]
  exact h v' W' h2 h3 h4

variable {w W : World} {ao : Nat → Option Addr} {cp : Nat → Nat} {ps : Nat → List PutV} {tag : Nat → Nat} {r : Nat → Option Nat} {v : Nat → Value} {xs ys : Nat → List UInt8}

theorem WS.congr {xs' ys' : Nat → List UInt8} (h : WS w W ao cp ps tag r v xs ys) (hx : ∀ k, k < 2 → xs' k = xs k) (hy : ∀ k, k < 2 → ys' k = ys k) : WS w W ao cp ps tag r v xs' ys' :=
  ⟨h.frm, h.sz, h.h5, h.h6, h.h7, fun k hk => by rw [hx k hk]; exact h.wr k hk, fun k hk => by rw [hy k hk]; exact h.own k hk, h.tr, h.tv, h.tg⟩

/-- How many of each are written in round n, ahead of the writer k. -/
def cnt (ps : Nat → List PutV) (n k : Nat) : Nat → List UInt8 := fun j => putsF ((ps j).take (if j < k then n + 1 else n))

/-- The state in round n ahead of the writer k. -/
def St (w W : World) (ao : Nat → Option Addr) (cp : Nat → Nat) (ps : Nat → List PutV) (n k : Nat) : Prop :=
  ∃ tag r v, WS w W ao cp ps tag r v (cnt ps n k) (cnt ps n k)

theorem St.skip {n k : Nat} (h : St w W ao cp ps n k) (hn : (ps k).length ≤ n) : St w W ao cp ps n (k + 1) := by
  obtain ⟨tag, r, v, h⟩ := h
  have e : ∀ j, j < 2 → cnt ps n (k + 1) j = cnt ps n k j := by
    intro j _
    unfold cnt
    by_cases h1 : j < k
    · rw [if_pos h1, if_pos (by omega)]
    · by_cases h2 : j = k
      · subst h2
        rw [if_pos (by omega), if_neg (by omega), List.take_of_length_le hn, List.take_of_length_le (by omega)]
      · rw [if_neg (by omega), if_neg h1]
  exact ⟨tag, r, v, h.congr e e⟩

theorem St.next {n : Nat} (h : St w W ao cp ps n 2) : St w W ao cp ps (n + 1) 0 := by
  obtain ⟨tag, r, v, h⟩ := h
  have e : ∀ j, j < 2 → cnt ps (n + 1) 0 j = cnt ps n 2 j := by
    intro j hj
    unfold cnt
    rw [if_neg (by omega), if_pos hj]
  exact ⟨tag, r, v, h.congr e e⟩

theorem cnt_self (ps : Nat → List PutV) (n k : Nat) : cnt ps n k k = putsF ((ps k).take n) := by unfold cnt; rw [if_neg (by omega)]

/-- Both have been written at k. -/
theorem St.step {n k : Nat} (hk : k < 2) (hn : n < (ps k).length) (h : WS w W ao cp ps tag r v (upd (cnt ps n k) k (cnt ps n k k ++ putF ((ps k)[n]))) (upd (cnt ps n k) k (cnt ps n k k ++ putF ((ps k)[n])))) : St w W ao cp ps n (k + 1) := by
  have e : ∀ j, j < 2 → cnt ps n (k + 1) j = upd (cnt ps n k) k (cnt ps n k k ++ putF ((ps k)[n])) j := by
    intro j _
    by_cases h2 : j = k
    · subst h2
      rw [upd_same, cnt_self, ← putsF_snoc (ps j) n hn]
      unfold cnt
      rw [if_pos (by omega)]
    · rw [upd_other _ _ _ _ h2]
      unfold cnt
      by_cases h1 : j < k
      · rw [if_pos h1, if_pos (by omega)]
      · rw [if_neg (by omega), if_neg h1]
  exact ⟨tag, r, v, h.congr e e⟩

theorem cnt_len {k : Nat} (hlen : (putsF (ps k)).length ≤ 100000000000) (n : Nat) (hn : n < (ps k).length) : (cnt ps n k k).length + (putF ((ps k)[n])).length ≤ 100000000000 := by
  rw [cnt_self]
  rw [putsF_parts (ps k) n hn, List.length_append, List.length_append] at hlen
  omega

theorem new_at (w : World) (o : Obj) (n : Nat) (h : n = w.heap.size) : (w.alloc o).heap[n]? = some o := by subst h; exact heap_alloc_new w o

theorem five_blocks (w : World) (o1 o2 o3 o4 o5 : Obj) :
    (((((w.alloc o1).alloc o2).alloc o3).alloc o4).alloc o5).heap[w.heap.size]? = some o1 ∧ (((((w.alloc o1).alloc o2).alloc o3).alloc o4).alloc o5).heap[w.heap.size + 1]? = some o2 ∧ (((((w.alloc o1).alloc o2).alloc o3).alloc o4).alloc o5).heap[w.heap.size + 2]? = some o3 ∧
    (((((w.alloc o1).alloc o2).alloc o3).alloc o4).alloc o5).heap[w.heap.size + 3]? = some o4 ∧ (((((w.alloc o1).alloc o2).alloc o3).alloc o4).alloc o5).heap[w.heap.size + 4]? = some o5 := by
  refine ⟨?_, ?_, ?_, ?_, ?_⟩
  · rw [Below.heap_alloc _ _ _ (by simp; omega), Below.heap_alloc _ _ _ (by simp; omega), Below.heap_alloc _ _ _ (by simp; omega), Below.heap_alloc _ _ _ (by simp)]; exact new_at _ _ _ rfl
  · rw [Below.heap_alloc _ _ _ (by simp), Below.heap_alloc _ _ _ (by simp), Below.heap_alloc _ _ _ (by simp)]; exact new_at _ _ _ (by simp)
  · rw [Below.heap_alloc _ _ _ (by simp), Below.heap_alloc _ _ _ (by simp)]; exact new_at _ _ _ (by simp)
  · rw [Below.heap_alloc _ _ _ (by simp)]; exact new_at _ _ _ (by simp)
  · exact new_at _ _ _ (by simp)

theorem ws_new (w : World) (ao : Nat → Option Addr) (cp : Nat → Nat) (ps : Nat → List PutV) :
    WS w (((((w.alloc (.cells #[.slice none 0 0] 27)).alloc (.cells #[.slice none 0 0] 27)).alloc (.cells #[.pointer (some ⟨w.heap.size, 0, none⟩), .pointer (some ⟨w.heap.size + 1, 0, none⟩)] 28)).alloc (.cells #[.slice (ao 0) (ps 0).length (cp 0), .slice (ao 1) (ps 1).length (cp 1)] 29)).alloc (.cells #[.slice none 0 0, .slice none 0 0] 30))
      ao cp ps (fun _ => 0) (fun _ => none) (fun _ => .slice none 0 0) (fun _ => []) (fun _ => []) := by
  have two : ∀ k, k < 2 → k = 0 ∨ k = 1 := fun k hk => by omega
  obtain ⟨b1, b2, b3, b4, b5⟩ := five_blocks w (.cells #[.slice none 0 0] 27) (.cells #[.slice none 0 0] 27) (.cells #[.pointer (some ⟨w.heap.size, 0, none⟩), .pointer (some ⟨w.heap.size + 1, 0, none⟩)] 28) (.cells #[.slice (ao 0) (ps 0).length (cp 0), .slice (ao 1) (ps 1).length (cp 1)] 29) (.cells #[.slice none 0 0, .slice none 0 0] 30)
  have hfr : Frm (fun _ => False) w (((((w.alloc (.cells #[.slice none 0 0] 27)).alloc (.cells #[.slice none 0 0] 27)).alloc (.cells #[.pointer (some ⟨w.heap.size, 0, none⟩), .pointer (some ⟨w.heap.size + 1, 0, none⟩)] 28)).alloc (.cells #[.slice (ao 0) (ps 0).length (cp 0), .slice (ao 1) (ps 1).length (cp 1)] 29)).alloc (.cells #[.slice none 0 0, .slice none 0 0] 30)) := ((((((Frm.refl _ w).alloc _).alloc _).alloc _).alloc _).alloc _)
  have hsz : w.heap.size + 5 ≤ (((((w.alloc (.cells #[.slice none 0 0] 27)).alloc (.cells #[.slice none 0 0] 27)).alloc (.cells #[.pointer (some ⟨w.heap.size, 0, none⟩), .pointer (some ⟨w.heap.size + 1, 0, none⟩)] 28)).alloc (.cells #[.slice (ao 0) (ps 0).length (cp 0), .slice (ao 1) (ps 1).length (cp 1)] 29)).alloc (.cells #[.slice none 0 0, .slice none 0 0] 30)).heap.size := by simp
  generalize (((((w.alloc (.cells #[.slice none 0 0] 27)).alloc (.cells #[.slice none 0 0] 27)).alloc (.cells #[.pointer (some ⟨w.heap.size, 0, none⟩), .pointer (some ⟨w.heap.size + 1, 0, none⟩)] 28)).alloc (.cells #[.slice (ao 0) (ps 0).length (cp 0), .slice (ao 1) (ps 1).length (cp 1)] 29)).alloc (.cells #[.slice none 0 0, .slice none 0 0] 30)) = W at *
  refine ⟨hfr, hsz, ?_, ?_, ?_, ?_, ?_, ?_, ?_, ?_⟩
  · intro k hk
    rcases two k hk with rfl | rfl <;> simp [World.cell?, b3]
  · intro k hk
    rcases two k hk with rfl | rfl <;> simp [World.cell?, b4]
  · intro k hk
    rcases two k hk with rfl | rfl <;> simp [World.cell?, World.frozen?, b5]
  · intro k hk
    rcases two k hk with rfl | rfl
    · exact ⟨_, b1, rfl, World.ownsRow_nil _ _ _ _⟩
    · exact ⟨_, b2, rfl, World.ownsRow_nil _ _ _ _⟩
  · intro k hk
    exact World.ownsRow_nil _ _ _ _
  · intro k hk g hg; cases hg
  · intro k hk g hg; cases hg
  · intro g hg; exact absurd rfl hg

theorem st_new {w W : World} {ao : Nat → Option Addr} {cp : Nat → Nat} {ps : Nat → List PutV} (h : WS w W ao cp ps (fun _ => 0) (fun _ => none) (fun _ => .slice none 0 0) (fun _ => []) (fun _ => [])) : St w W ao cp ps 0 0 := by
  have e : ∀ j, j < 2 → cnt ps 0 0 j = [] := by
    intro j _
    unfold cnt
    rw [if_neg (by omega), List.take_zero]; rfl
  exact ⟨_, _, _, h.congr e e⟩

end Go.Proofs.Ytchjkcghaddmhaa
