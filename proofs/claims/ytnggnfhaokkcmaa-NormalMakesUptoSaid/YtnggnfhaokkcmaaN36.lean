
import Derived.Test.YtnggnfhaokkcmaaN35
/- N36: two makers, told an op's copy; the copy written over -/
namespace Go.Proofs.Ytnggnfhaokkcmaa
open Go.RowKit
set_option linter.unusedVariables false
set_option maxRecDepth 100000

/-- An op's copy, in a row of its own, and a variable that holds it. -/
structure YB (n0 bt : Nat) (y : Oz) (v : Value) (W : World) : Prop where
  row : Oown (fun g => n0 ≤ g ∧ g < bt) W v [y]
  box : Cb bt 34 y.cs W
  h0 : n0 ≤ bt
/-- Two makers and the copy. -/
structure MY2 (w0 : World) (n0 bt : Nat) (F1 F2 : Nat → Prop) (bm bz : Nat) (R1 R2 : List Opn) (y : Oz) (v : Value) (W : World) : Prop where
  k : MK w0 F1 F2 bm bz R1 R2 W
  y : YB n0 bt y v W
  g1 : ∀ k, F1 k → k < n0 ∨ bt < k
  g2 : ∀ k, F2 k → k < n0 ∨ bt < k
  b1 : bm < n0
  b2 : bz < n0
def MYP (w0 : World) (n0 bt bm bz : Nat) (R1 R2 : List Opn) (y : Oz) (v : Value) (W : World) : Prop := ∃ F1 F2, MY2 w0 n0 bt F1 F2 bm bz R1 R2 y v W
def MKP (w0 : World) (bm bz : Nat) (R1 R2 : List Opn) (W : World) : Prop := ∃ F1 F2, MK w0 F1 F2 bm bz R1 R2 W
section
variable {w0 W W2 : World} {F1 F2 S : Nat → Prop} {n0 bt bm bz : Nat} {R1 R2 R : List Opn} {y : Oz} {v : Value}
theorem YB.off (h : YB n0 bt y v W) (ho : Off S W W2) (hS : ∀ k, S k → k < n0 ∨ bt < k) : YB n0 bt y v W2 :=
  ⟨h.row.off ho (fun k hk _ hh => by have := hS k hh; omega), h.box.off ho (fun hh => by have := hS _ hh; have := h.h0; omega), h.h0⟩
theorem YB.at (h : YB n0 bt y v W) : OAt bt 0 y W := ⟨h.box.cell 0, h.box.cell 1, h.box.cell 2, h.box.cell 3, h.box.cell 4⟩
theorem YB.own (h : YB n0 bt y v W) : OpOwn (fun g => n0 ≤ g ∧ g < bt) W y := h.row.own y (by simp)
theorem MYP.swap (h : MYP w0 n0 bt bm bz R1 R2 y v W) : MYP w0 n0 bt bz bm R2 R1 y v W := by
  obtain ⟨F1, F2, h⟩ := h
  exact ⟨F2, F1, h.k.swap, h.y, h.g2, h.g1, h.b2, h.b1⟩
theorem MKP.swap (h : MKP w0 bm bz R1 R2 W) : MKP w0 bz bm R2 R1 W := by
  obtain ⟨F1, F2, h⟩ := h
  exact ⟨F2, F1, h.swap⟩
theorem MKP.below (h : MKP w0 bm bz R1 R2 W) (hb : Below W.heap.size W W2) : MKP w0 bm bz R1 R2 W2 := by
  obtain ⟨F1, F2, h⟩ := h
  exact ⟨F1, F2, h.below hb⟩
theorem MKP.bel (h : MKP w0 bm bz R1 R2 W) : Below w0.heap.size w0 W := by
  obtain ⟨F1, F2, h⟩ := h
  exact h.bel
theorem MYP.below (h : MYP w0 n0 bt bm bz R1 R2 y v W) (hb : Below W.heap.size W W2) : MYP w0 n0 bt bm bz R1 R2 y v W2 := by
  obtain ⟨F1, F2, h⟩ := h
  exact ⟨F1, F2, h.k.below hb, h.y.off (S := fun _ => False) (Off.of_below hb) (fun _ h => h.elim), h.g1, h.g2, h.b1, h.b2⟩
theorem MYP.yb (h : MYP w0 n0 bt bm bz R1 R2 y v W) : YB n0 bt y v W := by
  obtain ⟨F1, F2, h⟩ := h
  exact h.y
theorem MYP.kp (h : MYP w0 n0 bt bm bz R1 R2 y v W) : MKP w0 bm bz R1 R2 W := by
  obtain ⟨F1, F2, h⟩ := h
  exact ⟨F1, F2, h.k⟩
theorem MY2.told (h : MY2 w0 n0 bt F1 F2 bm bz R1 R2 y v W) (hm : MS (fun k => F1 k ∨ W.heap.size ≤ k) bm R W2) (ho : Off (fun k => k = bm ∨ F1 k) W W2) : MYP w0 n0 bt bm bz R R2 y v W2 := by
  have hbt := h.y.box.lt
  refine ⟨_, F2, h.k.told hm ho, h.y.off ho (fun k hk => ?_), fun k hk => ?_, h.g2, h.b1, h.b2⟩
  · rcases hk with hk | hk
    · subst hk; exact .inl h.b1
    · exact h.g1 k hk
  · rcases hk.1 with hk | hk
    · exact h.g1 k hk
    · exact .inr (by omega)
theorem na_own {n0 bt : Nat} {a : Option Addr} {n c : Nat} (h : ∀ g, (Value.slice a n c).ownBlock = some g → n0 ≤ g ∧ g < bt) (hS : ∀ k, S k → k < n0 ∨ bt < k) : Na S a n := fun _ x hx hh => by
  subst hx
  have h1 := h x.block (by simp [Value.ownBlock])
  have h2 := hS _ hh
  omega
theorem MY2.apart (h : MY2 w0 n0 bt F1 F2 bm bz R1 R2 y v W) : ∀ k, (k = bm ∨ F1 k) → k < n0 ∨ bt < k := fun k hk => by
  rcases hk with hk | hk
  · subst hk; exact .inl h.b1
  · exact h.g1 k hk
theorem y_retain (L T : Nat) (h : MYP w0 n0 bt bm bz R1 R2 y v W) (hri : RI R1 L T) (hL : L + 1 ≤ 33554432) (hT : T ≤ 33554432) (hsm : Sm y) (hn : y.n ≤ 9223372036854775807) :
    Calls Try.prog 18 #[.pointer (some ⟨bm, 0, none⟩), .int .i64 y.n, .slice y.pa y.pt.length y.pc] W fun e w' => e = .returned (.tuple #[]) ∧ MYP w0 n0 bt bm bz (rtell ⟨1, y.n, [], [], y.pt⟩ R1) R2 y v w' := by
  obtain ⟨F1, F2, h⟩ := h
  have ho := h.y.own
  have hok := ho.ok
  refine (retain_any F1 bm R1 L T y.n y.pa y.pc y.pt W h.k.m hri ⟨ints_nil _ W, Row.nil W, hok.p⟩ ⟨fun h0 => by simp at h0, fun h0 => by simp at h0, na_own ho.fp h.apart⟩ ⟨by simp, by simp, hsm.p⟩ hn hL (by simpa using hT)).mono fun e w' ⟨he, hm, hoff⟩ => ⟨he, h.told hm hoff⟩
theorem y_insert (L T : Nat) (h : MYP w0 n0 bt bm bz R1 R2 y v W) (hri : RI R1 L T) (hL : L + 1 ≤ 33554432) (hT : T + y.rs.length ≤ 33554432) (hsm : Sm y) :
    Calls Try.prog 19 #[.pointer (some ⟨bm, 0, none⟩), .slice y.ra y.rs.length y.rc, .slice y.sa y.st.length y.sc] W fun e w' => e = .returned (.tuple #[]) ∧ MYP w0 n0 bt bm bz (rtell ⟨2, 0, y.rs, y.st, []⟩ R1) R2 y v w' := by
  obtain ⟨F1, F2, h⟩ := h
  have ho := h.y.own
  have hok := ho.ok
  refine (insertM_any F1 bm R1 L T y.ra y.rc y.rs y.sa y.sc y.st W h.k.m hri ⟨hok.r, hok.s, Row.nil W⟩ ⟨na_own ho.fr h.apart, na_own ho.fs h.apart, fun h0 => by simp at h0⟩ ⟨hsm.r, hsm.s, by simp⟩ (by simp) hL hT).mono fun e w' ⟨he, hm, hoff⟩ => ⟨he, h.told hm hoff⟩
theorem y_delete (L T : Nat) (h : MYP w0 n0 bt bm bz R1 R2 y v W) (hri : RI R1 L T) (hL : L + 1 ≤ 33554432) (hT : T ≤ 33554432) (hn : y.n ≤ 9223372036854775807) :
    Calls Try.prog 20 #[.pointer (some ⟨bm, 0, none⟩), .int .i64 y.n] W fun e w' => e = .returned (.tuple #[]) ∧ MYP w0 n0 bt bm bz (rtell ⟨3, y.n, [], [], []⟩ R1) R2 y v w' := by
  obtain ⟨F1, F2, h⟩ := h
  refine (deleteM_any F1 bm R1 L T y.n W h.k.m hri ⟨ints_nil _ W, Row.nil W, Row.nil W⟩ ⟨fun h0 => by simp at h0, fun h0 => by simp at h0, fun h0 => by simp at h0⟩ ⟨by simp, by simp, by simp⟩ hn hL (by simpa using hT)).mono fun e w' ⟨he, hm, hoff⟩ => ⟨he, h.told hm hoff⟩
theorem k_retain (L T : Nat) (h : MKP w0 bm bz R1 R2 W) (hri : RI R1 L T) (hL : L + 1 ≤ 33554432) (hT : T ≤ 33554432) :
    Calls Try.prog 18 #[.pointer (some ⟨bm, 0, none⟩), .int .i64 0, .slice none 0 0] W fun e w' => e = .returned (.tuple #[]) ∧ MKP w0 bm bz R1 R2 w' := by
  obtain ⟨F1, F2, h⟩ := h
  refine (retain_any F1 bm R1 L T 0 none 0 [] W h.m hri ⟨ints_nil _ W, Row.nil W, Row.nil W⟩ ⟨fun h0 => by simp at h0, fun h0 => by simp at h0, fun h0 => by simp at h0⟩ ⟨by simp, by simp, by simp⟩ (by simp) hL (by simpa using hT)).mono fun e w' ⟨he, hm, hoff⟩ => ⟨he, by rw [rtell_zero (by decide)] at hm; exact ⟨_, F2, h.told hm hoff⟩⟩
theorem k_insert (L T : Nat) (h : MKP w0 bm bz R1 R2 W) (hri : RI R1 L T) (hL : L + 1 ≤ 33554432) (hT : T ≤ 33554432) :
    Calls Try.prog 19 #[.pointer (some ⟨bm, 0, none⟩), .slice none 0 0, .slice none 0 0] W fun e w' => e = .returned (.tuple #[]) ∧ MKP w0 bm bz R1 R2 w' := by
  obtain ⟨F1, F2, h⟩ := h
  refine (insertM_any F1 bm R1 L T none 0 [] none 0 [] W h.m hri ⟨ints_nil _ W, Row.nil W, Row.nil W⟩ ⟨fun h0 => by simp at h0, fun h0 => by simp at h0, fun h0 => by simp at h0⟩ ⟨by simp, by simp, by simp⟩ (by simp) hL (by simpa using hT)).mono fun e w' ⟨he, hm, hoff⟩ => ⟨he, by rw [rtell_zero (by decide)] at hm; exact ⟨_, F2, h.told hm hoff⟩⟩
theorem k_delete (L T : Nat) (h : MKP w0 bm bz R1 R2 W) (hri : RI R1 L T) (hL : L + 1 ≤ 33554432) (hT : T ≤ 33554432) :
    Calls Try.prog 20 #[.pointer (some ⟨bm, 0, none⟩), .int .i64 (-1)] W fun e w' => e = .returned (.tuple #[]) ∧ MKP w0 bm bz R1 R2 w' := by
  obtain ⟨F1, F2, h⟩ := h
  refine (deleteM_any F1 bm R1 L T (-1) W h.m hri ⟨ints_nil _ W, Row.nil W, Row.nil W⟩ ⟨fun h0 => by simp at h0, fun h0 => by simp at h0, fun h0 => by simp at h0⟩ ⟨by simp, by simp, by simp⟩ (by simp) hL (by simpa using hT)).mono fun e w' ⟨he, hm, hoff⟩ => ⟨he, by rw [rtell_zero (by decide)] at hm; exact ⟨_, F2, h.told hm hoff⟩⟩
theorem k_ops {zs : List Oz} {k : Nat} (h : MKP w0 bm bz (tellR ((zs.take k).map Oz.o)) R2 W) (ht : TkF zs k) :
    Calls Try.prog 21 #[.pointer (some ⟨bm, 0, none⟩)] W fun e w' => ∃ a n c ys, e = .returned (.slice a n c) ∧ ys.length = n ∧ ys.map Oz.o = formO ((zs.take k).map Oz.o) ∧ Oown (fun g => W.heap.size ≤ g) w' (.slice a n c) ys ∧ Below W.heap.size W w' := by
  obtain ⟨F1, F2, h⟩ := h
  refine (mops_any F1 bm _ W h.m ht.sm ht.len).mono fun e w' ⟨v, ys, he, hy, ho, hb⟩ => ?_
  obtain ⟨a, c, rfl, -, -⟩ := ho.shape
  exact ⟨a, _, c, ys, he, rfl, hy, ho, hb⟩
/-- The copy written over: the makers stay. -/
theorem MYP.wrote {W5 : World} (h : MYP w0 n0 bt bm bz R1 R2 y v W5) (hw : WrO W5 v [y] W) (hn : w0.heap.size ≤ n0) : MKP w0 bm bz R1 R2 W := by
  obtain ⟨F1, F2, h⟩ := h
  refine ⟨F1, F2, h.k.off hw.off (fun k hk => ?_) (fun k hk hl => ?_)⟩
  · have := sb_own h.y.row hk; omega
  · have h1 := sb_own h.y.row hk
    have h2 := h.b1
    have h3 := h.b2
    exact ⟨by omega, by omega, fun hh => by have := h.g1 k hh; omega, fun hh => by have := h.g2 k hh; omega⟩
theorem YB.kept {W5 : World} (h : YB n0 bt y v W5) (hw : WrO W5 v [y] W) : OAt bt 0 y W := by
  have := h.box.off hw.off (fun hh => by have := sb_own h.row hh; omega)
  exact ⟨this.cell 0, this.cell 1, this.cell 2, this.cell 3, this.cell 4⟩
end
end Go.Proofs.Ytnggnfhaokkcmaa
