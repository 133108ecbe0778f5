
import Derived.Test.YtiobcifpebehnaaDoorA2
import Derived.Lib.ItoaNum
import Derived.Lib.ItoaMem
import Derived.Lib.ItoaLen
/- I1: the text by which a set is found: no other set has it -/
namespace Go.Proofs.YtiobcifpebehnaaDoor
open Go.RowKit
set_option linter.unusedVariables false

/-! ### numerals -/
def dval (l : List UInt8) : Nat := l.foldl (fun a b => a * 10 + (b.toNat - 48)) 0
theorem dval_snoc (l : List UInt8) (b : UInt8) : dval (l ++ [b]) = dval l * 10 + (b.toNat - 48) := by simp [dval]
theorem dig_val {i : Nat} (h : i < 10) : (UInt8.ofNat (48 + i)).toNat = 48 + i := by
  rw [UInt8.toNat_ofNat']; omega
theorem dval_dec (u : Nat) : dval (Lib.decDigits u) = u := by
  induction u using Nat.strongRecOn with
  | _ u ih =>
    by_cases h : u < 10
    · rw [Lib.decDigits, dif_pos h]
      show 0 * 10 + ((UInt8.ofNat (48 + u)).toNat - 48) = u
      rw [dig_val h]; omega
    · rw [Lib.decDigits, dif_neg h, dval_snoc, ih (u / 10) (by omega), dig_val (Nat.mod_lt _ (by decide))]; omega
theorem dec_digit (u : Nat) : ∀ b ∈ Lib.decDigits u, 48 ≤ b.toNat ∧ b.toNat ≤ 57 := by
  induction u using Nat.strongRecOn with
  | _ u ih =>
    intro b hb
    by_cases h : u < 10
    · rw [Lib.decDigits, dif_pos h] at hb
      obtain rfl := List.mem_singleton.1 hb
      rw [dig_val h]; omega
    · rw [Lib.decDigits, dif_neg h] at hb
      rcases List.mem_append.1 hb with hb | hb
      · exact ih (u / 10) (by omega) b hb
      · obtain rfl := List.mem_singleton.1 hb
        rw [dig_val (Nat.mod_lt _ (by decide))]
        have := Nat.mod_lt u (show 0 < 10 by decide)
        omega
theorem dec_inj {u v : Nat} (h : Lib.decDigits u = Lib.decDigits v) : u = v := by
  rw [← dval_dec u, ← dval_dec v, h]
theorem dec_ne_nil (u : Nat) : Lib.decDigits u ≠ [] := by
  intro h
  have := Lib.decDigits_length u
  have := Lib.nDigits_pos u
  rw [h] at *
  simp at *
  omega
theorem itoa_inj {a b : Int} (h : Lib.itoa a = Lib.itoa b) : a = b := by
  unfold Lib.itoa at h
  have key : ∀ (u v : Nat), (45 : UInt8) :: Lib.decDigits u ≠ Lib.decDigits v := fun u v e => by
    have := dec_digit v 45 (by rw [← e]; simp)
    simp at this
  by_cases ha : a < 0 <;> by_cases hb : b < 0
  · rw [if_pos ha, if_pos hb] at h
    have := dec_inj (List.cons.inj h).2
    omega
  · rw [if_pos ha, if_neg hb] at h
    exact absurd h (key _ _)
  · rw [if_neg ha, if_pos hb] at h
    exact absurd h.symm (key _ _)
  · rw [if_neg ha, if_neg hb] at h
    have := dec_inj h
    omega
theorem dec_noblank (u : Nat) : (32 : UInt8) ∉ Lib.decDigits u := fun h => by
  have := dec_digit u 32 h
  simp at this
theorem itoa_noblank (a : Int) : (32 : UInt8) ∉ Lib.itoa a := fun h => by
  unfold Lib.itoa at h
  split at h
  · rcases List.mem_cons.1 h with e | h
    · cases e
    · exact dec_noblank _ h
  · exact dec_noblank _ h

/-- Cut at the first blank. -/
theorem cut_blank : ∀ {a b r s : List UInt8}, (32 : UInt8) ∉ a → (32 : UInt8) ∉ b → a ++ 32 :: r = b ++ 32 :: s → a = b ∧ r = s
  | [], [], r, s, _, _, h => ⟨rfl, (List.cons.inj h).2⟩
  | [], y :: b, r, s, _, hb, h => absurd (List.cons.inj h).1 (fun e => hb (by simp [← e]))
  | x :: a, [], r, s, ha, _, h => absurd (List.cons.inj h).1 (fun e => ha (by simp [e]))
  | x :: a, y :: b, r, s, ha, hb, h => by
    obtain ⟨h1, h2⟩ := List.cons.inj h
    obtain ⟨h3, h4⟩ := cut_blank (fun e => ha (List.mem_cons_of_mem _ e)) (fun e => hb (List.mem_cons_of_mem _ e)) h2
    exact ⟨by rw [h1, h3], h4⟩

/-- An attribute's part of the text, with what comes behind. -/
def attT (a : Att) (r : List UInt8) : List UInt8 :=
  Lib.itoa a.key ++ 32 :: (Lib.decDigits a.k.toNat ++ 32 :: (Lib.itoa a.n ++ 32 :: (Lib.decDigits a.f.toNat ++ 32 :: (Lib.itoa (a.s.size : Int) ++ 32 :: (a.s.data.toList ++ r)))))
def txt : List Att → List UInt8
  | [] => []
  | a :: r => attT a (txt r)
theorem attT_ne (a : Att) (r : List UInt8) : attT a r ≠ [] := by
  unfold attT
  simp
theorem attT_app (a : Att) (r s : List UInt8) : attT a r ++ s = attT a (r ++ s) := by
  unfold attT
  simp only [List.append_assoc, List.cons_append]
theorem txt_app (x y : List Att) : txt (x ++ y) = txt x ++ txt y := by
  induction x with
  | nil => rfl
  | cons a r ih => rw [List.cons_append]; show attT a (txt (r ++ y)) = attT a (txt r) ++ txt y; rw [ih, attT_app]
theorem bytes_eq {a b : ByteArray} (h : a.data.toList = b.data.toList) : a = b := ByteArray.ext (by cases a; cases b; simp_all)
theorem attT_inj {a b : Att} {r s : List UInt8} (ha : AttW a) (hb : AttW b) (h : attT a r = attT b s) : a = b ∧ r = s := by
  unfold attT at h
  obtain ⟨h1, h⟩ := cut_blank (itoa_noblank _) (itoa_noblank _) h
  obtain ⟨h2, h⟩ := cut_blank (dec_noblank _) (dec_noblank _) h
  obtain ⟨h3, h⟩ := cut_blank (itoa_noblank _) (itoa_noblank _) h
  obtain ⟨h4, h⟩ := cut_blank (dec_noblank _) (dec_noblank _) h
  obtain ⟨h5, h⟩ := cut_blank (itoa_noblank _) (itoa_noblank _) h
  have h5 := itoa_inj h5
  have hl : a.s.data.toList.length = b.s.data.toList.length := by
    have : a.s.size = b.s.size := by clear h h1 h2 h3 h4; omega
    exact this
  obtain ⟨h6, h7⟩ := List.append_inj h hl
  refine ⟨?_, h7⟩
  have k1 := itoa_inj h1
  have k2 := dec_inj h2
  have k3 := itoa_inj h3
  have k4 := dec_inj h4
  have k6 := bytes_eq h6
  have ka := Go.bounds_u8 ha.k
  have kb := Go.bounds_u8 hb.k
  have fa := ha.f0
  have fb := hb.f0
  obtain ⟨a1, a2, a3, a4, a5⟩ := a
  obtain ⟨b1, b2, b3, b4, b5⟩ := b
  simp only at ka kb fa fb k1 k2 k3 k4 k6
  rw [Att.mk.injEq]
  exact ⟨k1, by omega, k3, by omega, k6⟩
/-- One text, one set. -/
theorem txt_inj : ∀ {x y : List Att}, (∀ a ∈ x, AttW a) → (∀ a ∈ y, AttW a) → txt x = txt y → x = y
  | [], [], _, _, _ => rfl
  | [], b :: s, _, _, h => absurd h.symm (attT_ne _ _)
  | a :: r, [], _, _, h => absurd h (attT_ne _ _)
  | a :: r, b :: s, hx, hy, h => by
    obtain ⟨h1, h2⟩ := attT_inj (hx a (by simp)) (hy b (by simp)) h
    rw [h1, txt_inj (fun c hc => hx c (by simp [hc])) (fun c hc => hy c (by simp [hc])) h2]
theorem att_len {a : Att} (h : AttW a) : (attT a []).length ≤ 108 + a.s.size := by
  have h1 := Lib.itoa_length_le a.key (by have := Go.bounds_i64 h.key; omega) (by have := Go.bounds_i64 h.key; omega)
  have h3 := Lib.itoa_length_le a.n (by have := Go.bounds_i64 h.n; omega) (by have := Go.bounds_i64 h.n; omega)
  have h5 := Lib.itoa_length_le (a.s.size : Int) (by omega) (by have := h.s; unfold maxLen at this; omega)
  have h2 := Lib.nDigits_le20 a.k.toNat (by have := Go.bounds_u8 h.k; omega)
  have h4 := Lib.nDigits_le20 a.f.toNat (by have := h.f1; omega)
  rw [← Lib.decDigits_length] at h2 h4
  unfold attT
  simp only [List.length_append, List.length_cons, List.length_nil, Array.length_toList]
  have : a.s.data.size = a.s.size := rfl
  omega
/-- How long a set's text is, of texts of at most m bytes. -/
theorem txt_len {m : Nat} : ∀ {x : List Att}, (∀ a ∈ x, AttW a ∧ a.s.size ≤ m) → (txt x).length ≤ x.length * (108 + m)
  | [], _ => by simp [txt]
  | a :: r, h => by
    have h1 := att_len (h a (by simp)).1
    have h2 := (h a (by simp)).2
    have h3 := txt_len (x := r) (fun c hc => h c (by simp [hc]))
    have : (txt (a :: r)).length = (attT a []).length + (txt r).length := by
      show (attT a (txt r)).length = _
      have e := attT_app a [] (txt r)
      rw [List.nil_append] at e
      rw [← e, List.length_append]
    rw [this, List.length_cons, Nat.add_mul]
    omega
end Go.Proofs.YtiobcifpebehnaaDoor
