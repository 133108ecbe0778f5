
import Derived.Test.YtgckofoaiojocaaY8
import Derived.Test.YtgckofoaiojocaaYM4
namespace Go.Proofs.Ytgckofoaiojocaa
open Go.RowKit
set_option linter.unusedVariables false

theorem bl_iff (a b : UInt8) (x y : List UInt8) : Op.bytesLess (a :: x) (b :: y) = true ↔ a.toNat < b.toNat ∨ (a = b ∧ Op.bytesLess x y = true) := by
  simp [Op.bytesLess, UInt8.lt_iff_toNat_lt]
theorem bl_irr : ∀ x : List UInt8, Op.bytesLess x x = false
  | [] => rfl
  | a :: x => by
    rw [Bool.eq_false_iff]; intro h
    rcases (bl_iff a a x x).1 h with h | ⟨_, h⟩
    · omega
    · rw [bl_irr x] at h; cases h
theorem bl_asym : ∀ x y : List UInt8, Op.bytesLess x y = true → Op.bytesLess y x = false
  | [], [], h => by cases h
  | [], b :: y, _ => rfl
  | a :: x, [], h => by cases h
  | a :: x, b :: y, h => by
    rw [Bool.eq_false_iff]; intro h2
    rcases (bl_iff a b x y).1 h with h | ⟨e, h⟩ <;> rcases (bl_iff b a y x).1 h2 with h2 | ⟨e2, h2⟩
    · omega
    · subst e2; omega
    · subst e; omega
    · rw [bl_asym x y h] at h2; cases h2
theorem bl_tri : ∀ x y : List UInt8, Op.bytesLess x y = true ∨ Op.bytesLess y x = true ∨ x = y
  | [], [] => .inr (.inr rfl)
  | [], b :: y => .inl rfl
  | a :: x, [] => .inr (.inl rfl)
  | a :: x, b :: y => by
    rcases Nat.lt_trichotomy a.toNat b.toNat with h | h | h
    · exact .inl ((bl_iff a b x y).2 (.inl h))
    · have e : a = b := UInt8.toNat_inj.1 h
      subst e
      rcases bl_tri x y with h | h | h
      · exact .inl ((bl_iff a a x y).2 (.inr ⟨rfl, h⟩))
      · exact .inr (.inl ((bl_iff a a y x).2 (.inr ⟨rfl, h⟩)))
      · exact .inr (.inr (by rw [h]))
    · exact .inr (.inl ((bl_iff b a y x).2 (.inl h)))
theorem bl_trans : ∀ x y z : List UInt8, Op.bytesLess x y = true → Op.bytesLess y z = true → Op.bytesLess x z = true
  | x, y, [], _, h => by cases y <;> cases h
  | [], y, c :: z, _, _ => rfl
  | a :: x, [], c :: z, h, _ => by cases h
  | a :: x, b :: y, c :: z, h1, h2 => by
    rw [bl_iff]
    rcases (bl_iff a b x y).1 h1 with g1 | ⟨e1, g1⟩ <;> rcases (bl_iff b c y z).1 h2 with g2 | ⟨e2, g2⟩
    · exact .inl (by omega)
    · exact .inl (by rw [← e2]; exact g1)
    · exact .inl (by rw [e1]; exact g2)
    · exact .inr ⟨e1.trans e2, bl_trans x y z g1 g2⟩

theorem rank_inj {f g : Int} (h0 : 0 ≤ f) (h1 : f < 18446744073709551616) (g0 : 0 ≤ g) (g1 : g < 18446744073709551616) (h : rankI f = rankI g) : f = g := by
  unfold rankI at h; split at h <;> split at h <;> omega

/-- Alike, by its fields. -/
def alikeB (k n f : Int) (s : ByteArray) (k' n' f' : Int) (s' : ByteArray) : Bool := (k == k') && (n == n') && (f == f') && (s.toList == s'.toList)
theorem alike_iff {k n f : Int} {s : ByteArray} {k' n' f' : Int} {s' : ByteArray} : alikeB k n f s k' n' f' s' = true ↔ k = k' ∧ n = n' ∧ f = f' ∧ s.toList = s'.toList := by
  unfold alikeB; simp [and_assoc]
/-- What is known of a value's fields by its kind. -/
theorem may_kinds {k n f : Int} {s : ByteArray} (h : vmay k n f s = true) : (k = 1 ∧ f = 0 ∧ s.toList = []) ∨ (k = 2 ∧ f = 0 ∧ s.toList = []) ∨ (k = 3 ∧ n = 0 ∧ s.toList = []) ∨ (k = 4 ∧ n = 0 ∧ f = 0) := by
  unfold vmay at h
  rw [decide_eq_true_iff] at h
  rcases h with ⟨a, _, b, c⟩ | ⟨a, b, c⟩ | ⟨a, b, _, c⟩ | ⟨a, b, c, _⟩
  · exact .inl ⟨a, b, (toList_nil s).2 c⟩
  · exact .inr (.inl ⟨a, b, (toList_nil s).2 c⟩)
  · exact .inr (.inr (.inl ⟨a, b, (toList_nil s).2 c⟩))
  · exact .inr (.inr (.inr ⟨a, b, c⟩))

theorem kless_irr {k n f : Int} {s : ByteArray} {k' n' f' : Int} {s' : ByteArray} (h : alikeB k n f s k' n' f' s' = true) : kless k n f s k' n' f' s' = false := by
  obtain ⟨rfl, rfl, rfl, hs⟩ := alike_iff.1 h
  unfold kless
  rw [if_neg (by simp), hs, bl_irr]
  split
  · simp
  · split <;> simp
theorem kless_asym {k n f : Int} {s : ByteArray} {k' n' f' : Int} {s' : ByteArray} (h : kless k n f s k' n' f' s' = true) : kless k' n' f' s' k n f s = false := by
  unfold kless at *
  by_cases hk : k = k'
  · subst hk
    rw [if_neg (by simp)] at h ⊢
    by_cases h3 : k = 3
    · rw [if_pos h3] at h ⊢
      simp at h ⊢; omega
    · rw [if_neg h3] at h ⊢
      by_cases h4 : k = 4
      · rw [if_pos h4] at h ⊢
        exact bl_asym _ _ h
      · rw [if_neg h4] at h ⊢
        simp at h ⊢; omega
  · rw [if_pos hk] at h
    rw [if_pos (Ne.symm hk)]
    simp at h ⊢; omega
theorem kless_tri {k n f : Int} {s : ByteArray} {k' n' f' : Int} {s' : ByteArray} (h0 : 0 ≤ f) (h1 : f < 18446744073709551616) (g0 : 0 ≤ f') (g1 : f' < 18446744073709551616)
    (hm : vmay k n f s = true) (hm' : vmay k' n' f' s' = true) : kless k n f s k' n' f' s' = true ∨ kless k' n' f' s' k n f s = true ∨ alikeB k n f s k' n' f' s' = true := by
  by_cases hk : k = k'
  · subst hk
    rcases may_kinds hm with ⟨a, b, c⟩ | ⟨a, b, c⟩ | ⟨a, b, c⟩ | ⟨a, b, c⟩ <;> rcases may_kinds hm' with ⟨a', b', c'⟩ | ⟨a', b', c'⟩ | ⟨a', b', c'⟩ | ⟨a', b', c'⟩ <;> try omega
    · subst a
      rw [← kl_n (by decide) (by decide), ← kl_n (by decide) (by decide), alike_iff, c, c']
      rcases Int.lt_trichotomy n n' with h | h | h
      · exact .inl (by simpa using h)
      · exact .inr (.inr ⟨rfl, h, by omega, rfl⟩)
      · exact .inr (.inl (by simpa using h))
    · subst a
      rw [← kl_n (by decide) (by decide), ← kl_n (by decide) (by decide), alike_iff, c, c']
      rcases Int.lt_trichotomy n n' with h | h | h
      · exact .inl (by simpa using h)
      · exact .inr (.inr ⟨rfl, h, by omega, rfl⟩)
      · exact .inr (.inl (by simpa using h))
    · subst a
      rw [← kl_3, ← kl_3, alike_iff, c, c']
      rcases Int.lt_trichotomy (rankI f) (rankI f') with h | h | h
      · exact .inl (by simpa using h)
      · exact .inr (.inr ⟨rfl, by omega, rank_inj h0 h1 g0 g1 h, rfl⟩)
      · exact .inr (.inl (by simpa using h))
    · subst a
      rw [← kl_4, ← kl_4, alike_iff]
      rcases bl_tri s.toList s'.toList with h | h | h
      · exact .inl h
      · exact .inr (.inl h)
      · exact .inr (.inr ⟨rfl, by omega, by omega, h⟩)
  · unfold kless
    rw [if_pos hk, if_pos (Ne.symm hk)]
    rcases Int.lt_trichotomy k k' with h | h | h
    · exact .inl (by simpa using h)
    · exact absurd h hk
    · exact .inr (.inl (by simpa using h))
theorem kless_trans {k n f : Int} {s : ByteArray} {k' n' f' : Int} {s' : ByteArray} {k2 n2 f2 : Int} {s2 : ByteArray} (h : kless k n f s k' n' f' s' = true) (h' : kless k' n' f' s' k2 n2 f2 s2 = true) : kless k n f s k2 n2 f2 s2 = true := by
  unfold kless at *
  by_cases hk : k = k'
  · subst hk
    rw [if_neg (by simp)] at h
    by_cases hk2 : k = k2
    · subst hk2
      rw [if_neg (by simp)] at h' ⊢
      by_cases h3 : k = 3
      · rw [if_pos h3] at h h' ⊢
        simp at h h' ⊢; omega
      · rw [if_neg h3] at h h' ⊢
        by_cases h4 : k = 4
        · rw [if_pos h4] at h h' ⊢
          exact bl_trans _ _ _ h h'
        · rw [if_neg h4] at h h' ⊢
          simp at h h' ⊢; omega
    · rw [if_pos hk2] at h' ⊢
      exact h'
  · rw [if_pos hk] at h
    by_cases hk2 : k' = k2
    · subst hk2
      rw [if_pos hk]; exact h
    · rw [if_pos hk2] at h'
      simp at h h'
      rw [if_pos (by omega)]
      simp; omega
/-- Of two numbers of one kind the smaller one stands ahead. -/
theorem num_less {k n f : Int} {s : ByteArray} {n' f' : Int} {s' : ByteArray} (h0 : 0 ≤ f) (h1 : f < 18446744073709551616) (g0 : 0 ≤ f') (g1 : f' < 18446744073709551616)
    (ho : numOk k n f s = true) (ho' : numOk k n' f' s' = true) (h : (FloatKind.f64.format.order (numF k n f s) (numF k n' f' s') == some .lt) = true) : kless k n f s k n' f' s' = true := by
  unfold numOk at ho ho'
  simp at ho ho'
  obtain ⟨hm, hk⟩ := ho
  unfold numF at h
  rw [hm, ho'.1] at h
  unfold kless
  rw [if_neg (by simp)]
  rcases hk with rfl | rfl
  · simp only [if_true] at h
    have hr := order_rank _ _ (fl_lt n) (fl_lt n') h
    rw [if_neg (by decide), if_neg (by decide)]
    simp
    by_cases hn : n' ≤ n
    · have := fl_mono hn
      omega
    · omega
  · simp only [if_true, show ((3 : Int) = 2) = False by simp, if_false] at h
    have hr := order_rank _ _ (by omega) (by omega) h
    rw [Int.toNat_of_nonneg h0, Int.toNat_of_nonneg g0] at hr
    rw [if_pos rfl]
    simpa using hr
end Go.Proofs.Ytgckofoaiojocaa
