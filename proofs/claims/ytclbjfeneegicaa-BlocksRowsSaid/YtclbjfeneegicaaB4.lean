
import Derived.Test.YtclbjfeneegicaaB3
/- B4: together, inline, put -/
namespace Go.Proofs.Ytclbjfeneegicaa
open Go.RowKit
set_option linter.unusedVariables false
set_option maxRecDepth 100000

theorem together_any (a b : Int) (w : World) (h0 : 0 ≤ a) (h1 : a ≤ 9223372036854775807) (hb0 : 0 ≤ b) (hb1 : b ≤ 9223372036854775807) :
    Calls Try.prog 27 #[.int .i64 a, .int .i64 b] w fun e w' => e = .returned (.int .i64 (tog a b)) ∧ w' = w := by
  have e1 : IntKind.i64.wrap (9223372036854775807 - a) = 9223372036854775807 - a := by rw [IntKind.wrap_i64]; omega
  by_cases h : 9223372036854775807 - a < b
  · have e2 : tog a b = 9223372036854775807 := by unfold tog; omega
    have e3 : IntKind.i64.wrap (a + (9223372036854775807 - a)) = 9223372036854775807 := by rw [IntKind.wrap_i64]; omega
    rw [e2]
    have HT := Lib.hid trivial
    go_enter Try.func27, Try.ntmps27
    go_wp2
    go_ret
    exact ⟨rfl, rfl⟩
  · have e2 : tog a b = a + b := by unfold tog; omega
    have e3 : IntKind.i64.wrap (a + b) = a + b := by rw [IntKind.wrap_i64]; omega
    rw [e2]
    go_enter Try.func27, Try.ntmps27
    go_wp2
    go_ret
    exact ⟨rfl, rfl⟩

theorem inline_any (z : Cz) (w : World) (hz : Arow w (.slice z.a z.s.length z.c) z.s) :
    Calls Try.prog 30 #[.agg #[.int .i32 z.r, .slice z.a z.s.length z.c]] w fun e w' => ∃ a c, e = .returned (.slice a z.inl.length c) ∧ Arow w' (.slice a z.inl.length c) z.inl ∧ Below w.heap.size w w' := by
  obtain ⟨r, a, c, s⟩ := z
  dsimp only at hz ⊢
  have HB := Lib.hid ((Below.refl w.heap.size w).alloc (Nat.le_refl _) (.cells #[.int .i32 r, .slice a s.length c] 44))
  have HZ := Lib.hid (hz.below HB.out (Nat.le_refl _))
  clear hz
  by_cases h : r = 10
  · subst h
    have e : (⟨10, a, c, s⟩ : Cz).inl = [] := rfl
    rw [e]
    go_enter Try.func30, Try.ntmps30
    go_wp2
    go_ret
    exact ⟨_, _, rfl, Row.nil _, HB.out⟩
  · have e : (⟨r, a, c, s⟩ : Cz).inl = s := if_neg h
    rw [e]
    have g : (r == 10) = false := by simpa using h
    clear h e
    obtain ⟨n, hn⟩ : ∃ n, s.length = n := ⟨_, rfl⟩
    rw [hn] at HZ ⊢
    rw [hn] at HB
    clear hn
    go_enter Try.func30, Try.ntmps30
    go_wp2
    go_ret
    exact ⟨_, _, rfl, HZ.out, HB.out⟩
end Go.Proofs.Ytclbjfeneegicaa
