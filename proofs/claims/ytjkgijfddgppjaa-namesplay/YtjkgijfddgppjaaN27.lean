/- The document's Short, Copy and Same, walked. -/
import Derived.Test.YtjkgijfddgppjaaN26
import Derived.Test.YtjkgijfddgppjaaN22
namespace Go.Proofs.Ytjkgijfddgppjaa
open Go.RowKit Go.Sort

/-- Whether so much of a name is enough. -/
theorem Short.one {L : List (List UInt8)} {n d k : Nat} (hn : n < L.length) (hs : Short L n d) (h1k : 1 ≤ k) (hk : k < (L.getD n []).length) : (begN L ((L.getD n []).take k) L.length).length = 1 ↔ d ≤ k := by
  have hm : n ∈ begN L ((L.getD n []).take k) L.length := mem_begN.2 ⟨hn, List.take_prefix _ _⟩
  constructor
  · intro h1
    apply Classical.byContradiction
    intro hd
    have two : ∃ m, m ≠ n ∧ m ∈ begN L ((L.getD n []).take k) L.length := by
      rcases hs with ⟨⟨m, h2, h3, h4⟩, _⟩ | hs
      · exact ⟨m, h3, mem_begN.2 ⟨h2, (List.take_prefix _ _).trans h4⟩⟩
      · rcases hs.so with e | ⟨m, h2, h3, h4⟩
        · omega
        · exact ⟨m, h3, mem_begN.2 ⟨h2, take_mono (by omega) h4⟩⟩
    obtain ⟨m, h2, h3⟩ := two
    have := two_len hm h3 (fun e => h2 e.symm)
    omega
  · intro hd
    rcases hs with ⟨_, e⟩ | hs
    · omega
    · have hall : ∀ m ∈ begN L ((L.getD n []).take k) L.length, m = n := fun m h => by
        obtain ⟨h1, h2⟩ := mem_begN.1 h
        apply Classical.byContradiction
        intro hne
        exact hs.no m h1 hne (take_mono hd h2)
      have hnd := begN_nodup L ((L.getD n []).take k) L.length
      generalize begN L ((L.getD n []).take k) L.length = N at *
      match N, hm with
      | [c], _ => rfl
      | a :: b :: r, _ =>
        have ha := hall a (by simp)
        have hb := hall b (by simp)
        rw [List.nodup_cons] at hnd
        exact absurd (by simp [ha, hb]) hnd.1

set_option maxRecDepth 100000 in
set_option maxHeartbeats 2000000 in
theorem dshort_good (rb : Nat) (v : Value) (most : Int) (L : List (List UInt8)) (n d : Nat) (w : World) (h : Doc w rb v most L) (hL : L.length ≤ 1048576) (hn : n < L.length) (hs : Short L n d) (hd1 : 1 ≤ d) (hd2 : d ≤ (L.getD n []).length) (h64 : (L.getD n []).length ≤ 64) :
    Calls Try.prog 29 #[.pointer (some ⟨rb, 0, none⟩), .int .i64 (n : Int)] w fun e w' => e = .returned (.tuple #[.int .i64 (d : Int), .bool true]) ∧ Old w w' := by
  obtain ⟨ao, cap, hv⟩ := h.lst.form
  have c0 := h.c0
  rw [hv] at c0
  obtain ⟨g, cap2, hv2, ci⟩ := h.lst.nth hn
  rw [hv] at hv2
  simp only [Value.slice.injEq, true_and] at hv2
  obtain ⟨rfl, rfl⟩ := hv2
  rw [← getD_at hn] at ci
  have hn' : (n : Int) < (L.length : Int) := by omega
  have kO : Hid (∀ k, 1 ≤ k → k < (L.getD n []).length → ((begN L ((L.getD n []).take k) L.length).length = 1 ↔ d ≤ k)) := fun k h1 h2 => hs.one hn h1 h2
  have kB := hid (fun k W (hW : Old w W) (hk : k ≤ 64) => dbegins_any rb v most L ((L.getD n []).take k) W (h.old hW) hL (by simp; omega))
  obtain ⟨x, hx⟩ : ∃ x, L.getD n [] = x := ⟨_, rfl⟩
  rw [hx] at ci hd2 h64
  rw [hx] at kO kB
  have kto := hid (fun d (hd : d ≤ x.length) => run_to x d hd)
  obtain ⟨sx, hsx⟩ : ∃ q : ByteArray, (⟨x.toArray⟩ : ByteArray) = q := ⟨_, rfl⟩
  have hzx : sx.size = x.length := by rw [← hsx]; simp [ByteArray.size]
  rw [hsx] at ci
  simp only [hsx] at kto
  have q0 : decide ((n : Int) < 0) = false := decide_eq_false (by omega)
  have q1 : decide ((L.length : Int) ≤ (n : Int)) = false := decide_eq_false (by omega)
  have q2 : decide (L.length ≤ n) = false := decide_eq_false (by omega)
  clear hsx hx h hs
  go_enter Try.func29, Try.ntmps29
  go_wp2_with fail
  go_loopw [7] (fun t wr => ∃ k : Nat, 1 ≤ k ∧ k ≤ d ∧ t = .int .i64 (k : Int) ∧ Hid (Old w wr)) (fun t _ => d + 1 - (intOf t).toNat)
  case atStart => exact ⟨1, Nat.le_refl _, hd1, rfl, Old.refl _⟩
  case round =>
    obtain ⟨k, hk1, hkd, rfl, hO⟩ := hrel
    by_cases hlt : k < x.length
    · have hlt' : (k : Int) < (x.length : Int) := by omega
      have ht := kto.out k (by omega)
      go_wp2_with fail
      refine (kB.out k wr hO.out (by omega)).mono ?_
      rintro e w2 ⟨vr, R, rfl, hR, hlist, q2⟩
      obtain ⟨ar, cr, rfl, -, -⟩ := hlist
      have hl : R.length = (begN L (x.take k) L.length).length := hR.1.length_eq
      have hiff := kO.out k hk1 hlt
      rw [← hl] at hiff
      have kO2 := hid (hO.out.trans q2)
      clear hR q2 hl
      generalize R.length = nr at *
      by_cases hdk : d ≤ k
      · have hnr := hiff.2 hdk
        have hb : ((nr : Int) == 1) = true := by rw [hnr]; simp
        have hdk2 := hid hdk
        clear hiff hnr hdk
        go_wp2_with fail
        go_ret2
        have : k = d := by have := hdk2.out; omega
        exact ⟨by rw [this]; rfl, kO2.out⟩
      · have hnr : ¬ nr = 1 := fun e => hdk (hiff.1 e)
        have hb : ((nr : Int) == 1) = false := by simp; omega
        clear hiff hnr
        go_wp2_with fail
        go_roundw
        case rel => exact ⟨k + 1, by omega, by omega, by go_num, kO2⟩
        case measure => simp [intOf]; omega
    · have hlt' : ¬ (k : Int) < (x.length : Int) := by omega
      have hdx : Hid (d = x.length) := by show d = x.length; omega
      go_wp2_with fail
      go_ret2
      exact ⟨by rw [hdx.out]; rfl, hO.out⟩

set_option maxRecDepth 100000 in
set_option maxHeartbeats 2000000 in
theorem dshort_bad (rb : Nat) (v : Value) (most : Int) (L : List (List UInt8)) (n : Int) (w : World) (h : Doc w rb v most L) (hn : ¬ (0 ≤ n ∧ n < L.length)) :
    Calls Try.prog 29 #[.pointer (some ⟨rb, 0, none⟩), .int .i64 n] w fun e w' => e = .returned (.tuple #[.int .i64 0, .bool false]) ∧ w' = w := by
  obtain ⟨ao, cap, hv⟩ := h.lst.form
  have c0 := h.c0
  rw [hv] at c0
  clear h
  generalize L.length = m at *
  by_cases h0 : n < 0
  · clear hn
    go_enter Try.func29, Try.ntmps29
    go_wp2_with fail
    go_ret2
    exact ⟨rfl, rfl⟩
  · have h1 : (m : Int) ≤ n := by omega
    clear hn
    go_enter Try.func29, Try.ntmps29
    go_wp2_with fail
    go_ret2
    exact ⟨rfl, rfl⟩

set_option maxRecDepth 100000 in
set_option maxHeartbeats 2000000 in
theorem dcopy_any (rb : Nat) (v : Value) (most : Int) (L : List (List UInt8)) (w : World) (h : Doc w rb v most L) :
    Calls Try.prog 31 #[.pointer (some ⟨rb, 0, none⟩)] w fun e w' => e = .returned (.pointer (some ⟨w.heap.size, 0, none⟩)) ∧ Old w w' ∧ Doc w' w.heap.size v most L ∧ w'.heap.size = w.heap.size + 1 := by
  have c0 := h.c0
  have c1 := h.c1
  obtain ⟨ao, cap, hv⟩ := h.lst.form
  have kl := hid h.lst
  rw [hv] at c0 kl ⊢
  clear h
  go_enter Try.func31, Try.ntmps31
  go_wp2_with fail
  refine bodyPost_ret ?_ rfl ⟨rfl, (Old.refl w).alloc _, ⟨heap_new _ _, kl.out.frm ((Old.refl w).alloc _) (fun _ _ h => h)⟩, by simp only [alloc_size]⟩
  simp [results, Try.f31, go_sem]

set_option maxRecDepth 100000 in
set_option maxHeartbeats 2000000 in
theorem dsame_any (ra rb : Nat) (va vb : Value) (ma mb : Int) (L M : List (List UInt8)) (w : World) (h : Doc w ra va ma L) (h' : Doc w rb vb mb M) (hL : L.length ≤ 1048576) (hM : M.length ≤ 1048576) :
    Calls Try.prog 33 #[.pointer (some ⟨ra, 0, none⟩), .pointer (some ⟨rb, 0, none⟩)] w fun e w' => e = .returned (.bool (decide (L = M))) ∧ Old w w' := by
  have c0 := h.c0
  have e0 := h'.c0
  obtain ⟨ao, cap, hv⟩ := h.lst.form
  obtain ⟨bo, cbp, hv'⟩ := h'.lst.form
  rw [hv] at c0
  rw [hv'] at e0
  have kh := hid h.lst
  have kh' := hid h'.lst
  clear h h'
  by_cases hl : L.length = M.length
  · have hb : ((L.length : Int) != (M.length : Int)) = false := by rw [hl]; simp
    have khl := hid hl
    have hML : (M.length : Int) = (L.length : Int) := by omega
    go_enter Try.func33, Try.ntmps33
    go_wp2_with fail
    go_quiet (fail)
    have o1 : Old w (w.drewN nq) := (Old.refl w).drewN nq
    have c0 := o1.cell c0
    have e0 := o1.cell e0
    generalize w.drewN nq = w1 at *
    have ko1 := hid o1
    clear o1 hl
    go_wp2_with fail
    go_loopw [5] (fun t wr => ∃ k : Nat, k ≤ L.length ∧ t = .int .i64 (k : Int) ∧ Hid (L.take k = M.take k) ∧ Old w1 wr) (fun t _ => L.length - (intOf t).toNat)
    case atStart => exact ⟨0, Nat.zero_le _, rfl, by show L.take 0 = M.take 0; simp, Old.refl _⟩
    case round =>
      obtain ⟨k, hk, rfl, hT, hO⟩ := hrel
      have c0r := hO.cell c0
      have e0r := hO.cell e0
      by_cases hlt : k < L.length
      · have hlM : k < M.length := by have := khl.out; omega
        obtain ⟨g, cap2, hv2, ci⟩ := kh.out.nth hlt
        rw [hv] at hv2
        simp only [Value.slice.injEq, true_and] at hv2
        obtain ⟨rfl, rfl⟩ := hv2
        obtain ⟨g', cap3, hv3, di⟩ := kh'.out.nth hlM
        rw [hv'] at hv3
        simp only [Value.slice.injEq, true_and] at hv3
        obtain ⟨rfl, rfl⟩ := hv3
        have ci := hO.cell (ko1.out.cell ci)
        have di := hO.cell (ko1.out.cell di)
        have hk1 : (k : Int) < (L.length : Int) := by omega
        have hk2 : (k : Int) < (M.length : Int) := by omega
        by_cases e : L[k] = M[k]
        · have hbe : (L[k] == M[k]) = true := by rw [e]; simp
          have hT2 : Hid (L.take (k + 1) = M.take (k + 1)) := by
            show L.take (k + 1) = M.take (k + 1)
            rw [List.take_succ_eq_append_getElem hlt, List.take_succ_eq_append_getElem hlM, hT.out, e]
          clear e
          generalize L[k] = a at *
          generalize M[k] = b at *
          go_wp2_with fail
          go_quiet (fail)
          go_wp2_with fail
          go_roundw
          case rel => exact ⟨k + 1, by omega, by go_num, hT2, hO.drewN _⟩
          case measure => simp [intOf]; omega
        · have hbe : (L[k] == M[k]) = false := by simpa using e
          have hD : Hid (decide (L = M) = false) := decide_eq_false (fun hh => e (by subst hh; rfl))
          clear e
          generalize L[k] = a at *
          generalize M[k] = b at *
          go_wp2_with fail
          go_quiet (fail)
          go_wp2_with fail
          go_ret
          exact ⟨by rw [hD.out]; rfl, ko1.out.trans (hO.drewN _)⟩
      · have hD : Hid (decide (L = M) = true) := decide_eq_true (by
          have := hT.out
          rwa [List.take_of_length_le (by omega), List.take_of_length_le (by have := khl.out; omega)] at this)
        go_wp2_with fail
        go_ret
        exact ⟨by rw [hD.out]; rfl, ko1.out.trans hO⟩
  · have hb : ((L.length : Int) != (M.length : Int)) = true := by simp; omega
    have hD : Hid (decide (L = M) = false) := decide_eq_false (fun hh => hl (by rw [hh]))
    clear hl
    go_enter Try.func33, Try.ntmps33
    go_wp2_with fail
    go_quiet (fail)
    go_wp2_with fail
    go_ret
    exact ⟨by rw [hD.out]; rfl, (Old.refl _).drewN _⟩
end Go.Proofs.Ytjkgijfddgppjaa
