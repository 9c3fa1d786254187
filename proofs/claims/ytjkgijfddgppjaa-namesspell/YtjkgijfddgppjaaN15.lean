/- NamesSpell, walked. -/
import Derived.Test.YtjkgijfddgppjaaN14
import Derived.Test.YtjkgijfddgppjaaN5
namespace Go.Proofs.Ytjkgijfddgppjaa
open Go.RowKit

set_option maxRecDepth 100000 in
set_option maxHeartbeats 2000000 in
theorem namesSpell_any (a b : List UInt8) (ha : a.length ≤ 9223372036854775807) (hb : b.length ≤ 9223372036854775807) (w : World) : Calls Try.prog 4 #[.string ⟨a.toArray⟩, .string ⟨b.toArray⟩] w fun e w' => e = .returned (.bool true) ∧ Old w w' := by
  have k3 := hid known_any
  obtain ⟨sa, hsa⟩ : ∃ x : ByteArray, (⟨a.toArray⟩ : ByteArray) = x := ⟨_, rfl⟩
  have hza : sa.size = a.length := by rw [← hsa]; simp [ByteArray.size]
  obtain ⟨sb, hsb⟩ : ∃ x : ByteArray, (⟨b.toArray⟩ : ByteArray) = x := ⟨_, rfl⟩
  have hzb : sb.size = b.length := by rw [← hsb]; simp [ByteArray.size]
  by_cases h1 : a.length ≤ 20000
  · by_cases h2 : b.length ≤ 20000
    · have kS := hid (fun W => spell_any a W (by omega))
      have kR := hid (fun W => refSpell_any a W (by omega))
      have kU := hid (fun W => unspell_any b W (by omega))
      have kV := hid (fun W => refUnspell_any b W (by omega))
      rw [hsa] at kS kR ⊢
      rw [hsb] at kU kV ⊢
      clear hsa hsb
      generalize unspR b = u at *
      generalize spellL a = sp at *
      generalize a.length = na at *
      generalize b.length = nb at *
      go_enter Try.func4, Try.ntmps4
      go_wp2_with fail
      refine (kU.out _).mono ?_
      rintro e w1 ⟨rfl, q1⟩
      have o1 := hid q1
      clear q1
      go_wp2_with fail
      refine (kV.out _).mono ?_
      rintro e w2 ⟨rfl, q2⟩
      have o2 := hid (o1.out.trans q2)
      clear q2 o1
      go_wp2_with fail
      refine (kS.out _).mono ?_
      rintro e w3 ⟨rfl, q3⟩
      have o3 := hid (o2.out.trans q3)
      clear q3 o2
      go_wp2_with fail
      refine (kR.out _).mono ?_
      rintro e w4 ⟨rfl, q4⟩
      have o4 := hid (o3.out.trans q4)
      clear q4 o3
      go_wp2_with fail
      refine (k3.out _).mono ?_
      rintro e w5 ⟨rfl, q5⟩
      have o5 := hid (o4.out.trans q5)
      clear q5
      go_wp2_with fail
      go_ret
      exact ⟨rfl, o5.out⟩
    · rw [hsa, hsb]
      clear hsa hsb
      generalize a.length = na at *
      generalize b.length = nb at *
      go_enter Try.func4, Try.ntmps4
      go_wp2_with fail
      refine (k3.out _).mono ?_
      rintro e w5 ⟨rfl, q5⟩
      have o5 := hid q5
      clear q5
      go_wp2_with fail
      go_ret
      exact ⟨rfl, o5.out⟩
  · rw [hsa, hsb]
    clear hsa hsb
    generalize a.length = na at *
    generalize b.length = nb at *
    go_enter Try.func4, Try.ntmps4
    go_wp2_with fail
    refine (k3.out _).mono ?_
    rintro e w5 ⟨rfl, q5⟩
    have o5 := hid q5
    clear q5
    go_wp2_with fail
    go_ret
    exact ⟨rfl, o5.out⟩
end Go.Proofs.Ytjkgijfddgppjaa
