
import Derived.Test.YtclbjfeneegicaaB1
/- B2: blocks as plain data -/
namespace Go.Proofs.Ytclbjfeneegicaa
open Go.RowKit
set_option linter.unusedVariables false

/-- A block: how many places, which set. -/
structure Bk where
  n : Int
  s : List Att
deriving DecidableEq
/-- A block's places; those of a row of blocks. -/
def plc (b : Bk) : List (List Att) := List.replicate b.n.toNat b.s
def ex (l : List Bk) : List (List Att) := l.flatMap plc
theorem ex_nil : ex [] = [] := rfl
theorem ex_cons (b : Bk) (l : List Bk) : ex (b :: l) = plc b ++ ex l := rfl
theorem ex_app (a b : List Bk) : ex (a ++ b) = ex a ++ ex b := by simp [ex]
theorem ex_one (b : Bk) : ex [b] = plc b := by simp [ex]
theorem plc_len (b : Bk) : (plc b).length = b.n.toNat := by simp [plc]
theorem plc_neg {b : Bk} (h : b.n ≤ 0) : plc b = [] := by unfold plc; rw [show b.n.toNat = 0 by omega]; rfl
/-- Proper. -/
def Prp : List Bk → Prop
  | [] => True
  | x :: r => 0 < x.n ∧ (∀ y, r.head? = some y → x.s ≠ y.s) ∧ Prp r
theorem ex_head {y : Bk} (r : List Bk) (h : 0 < y.n) : (ex (y :: r)).head? = some y.s := by
  rw [ex_cons]
  unfold plc
  obtain ⟨k, hk⟩ : ∃ k, y.n.toNat = k + 1 := ⟨y.n.toNat - 1, by omega⟩
  rw [hk, List.replicate_succ]
  rfl
theorem rep_eq {α : Type} {s t : α} {A B : List α} : ∀ (a b : Nat), 0 < a → 0 < b → A.head? ≠ some s → B.head? ≠ some t → List.replicate a s ++ A = List.replicate b t ++ B → a = b ∧ s = t ∧ A = B
  | 0, _, h, _, _, _, _ => absurd h (Nat.lt_irrefl _)
  | _ + 1, 0, _, h, _, _, _ => absurd h (Nat.lt_irrefl _)
  | a + 1, b + 1, _, _, hA, hB, h => by
    rw [List.replicate_succ, List.replicate_succ, List.cons_append, List.cons_append] at h
    injection h with h1 h2
    subst h1
    cases a with
    | zero =>
      cases b with
      | zero => exact ⟨rfl, rfl, by simpa using h2⟩
      | succ b =>
        exfalso
        apply hA
        have : A = List.replicate (b + 1) s ++ B := by simpa using h2
        rw [this, List.replicate_succ]; rfl
    | succ a =>
      cases b with
      | zero =>
        exfalso
        apply hB
        have : B = List.replicate (a + 1) s ++ A := by simpa using h2.symm
        rw [this, List.replicate_succ]; rfl
      | succ b =>
        obtain ⟨q1, -, q3⟩ := rep_eq (a + 1) (b + 1) (by omega) (by omega) hA hB h2
        exact ⟨by omega, rfl, q3⟩
theorem ex_head_ne {s : List Att} {r : List Bk} (hr : Prp r) (h : ∀ y, r.head? = some y → s ≠ y.s) : (ex r).head? ≠ some s := by
  cases r with
  | nil => simp [ex]
  | cons y r =>
    rw [ex_head r hr.1]
    intro e
    injection e with e
    exact h y rfl e.symm
/-- Proper blocks that tell the same at each place are the same. -/
theorem prp_uniq : ∀ (l l' : List Bk), Prp l → Prp l' → ex l = ex l' → l = l'
  | [], [], _, _, _ => rfl
  | [], y :: r, _, h, e => by
    have := ex_head r h.1
    rw [← e] at this
    cases this
  | x :: r, [], h, _, e => by
    have := ex_head r h.1
    rw [e] at this
    cases this
  | x :: r, y :: r', h, h', e => by
    obtain ⟨q1, q2, q3⟩ := rep_eq x.n.toNat y.n.toNat (by have := h.1; omega) (by have := h'.1; omega) (ex_head_ne h.2.2 h.2.1) (ex_head_ne h'.2.2 h'.2.1) e
    have q4 := prp_uniq r r' h.2.2 h'.2.2 q3
    have h1 := h.1
    have h2 := h'.1
    obtain ⟨n, s⟩ := x
    obtain ⟨m, t⟩ := y
    dsimp only at q1 q2 h1 h2
    rw [q4, q2, show n = m by omega]
theorem prp_snoc : ∀ (A : List Bk) (x : Bk), Prp (A ++ [x]) ↔ Prp A ∧ 0 < x.n ∧ ∀ y, A.getLast? = some y → y.s ≠ x.s
  | [], x => by simp [Prp]
  | [z], x => by
    show (0 < z.n ∧ (∀ y, [x].head? = some y → z.s ≠ y.s) ∧ Prp [x]) ↔ _
    simp [Prp]
    intro _
    exact And.comm
  | z :: z' :: r, x => by
    have ih := prp_snoc (z' :: r) x
    show (0 < z.n ∧ (∀ y, ((z' :: r) ++ [x]).head? = some y → z.s ≠ y.s) ∧ Prp ((z' :: r) ++ [x])) ↔ (0 < z.n ∧ (∀ y, (z' :: r).head? = some y → z.s ≠ y.s) ∧ Prp (z' :: r)) ∧ 0 < x.n ∧ ∀ y, (z :: z' :: r).getLast? = some y → y.s ≠ x.s
    rw [ih, List.getLast?_cons_cons]
    have e1 : ((z' :: r) ++ [x]).head? = some z' := rfl
    have e2 : (z' :: r).head? = some z' := rfl
    rw [e1, e2]
    constructor
    · rintro ⟨a, b, c, d, e⟩; exact ⟨⟨a, b, c⟩, d, e⟩
    · rintro ⟨⟨a, b, c⟩, d, e⟩; exact ⟨a, b, c, d, e⟩
theorem prp_front : ∀ (A B : List Bk), Prp (A ++ B) → Prp A
  | [], B, _ => trivial
  | [x], B, h => ⟨h.1, by simp, trivial⟩
  | x :: y :: r, B, h => ⟨h.1, h.2.1, prp_front (y :: r) B h.2.2⟩
theorem prp_pos : ∀ (l : List Bk), Prp l → ∀ b ∈ l, 0 < b.n
  | x :: r, h, b, hb => by
    rcases List.mem_cons.1 hb with rfl | hb
    · exact h.1
    · exact prp_pos r h.2.2 b hb
/-- l is the one proper row of these places. -/
structure Rep (l : List Bk) (p : List (List Att)) : Prop where
  prp : Prp l
  ex : ex l = p
theorem Rep.nil : Rep [] [] := ⟨trivial, rfl⟩
theorem Rep.uniq {l l' : List Bk} {p : List (List Att)} (h : Rep l p) (h' : Rep l' p) : l = l' := prp_uniq l l' h.prp h'.prp (h.ex.trans h'.ex.symm)
theorem Rep.iff {l l' : List Bk} {p p' : List (List Att)} (h : Rep l p) (h' : Rep l' p') : l = l' ↔ p = p' :=
  ⟨fun e => by rw [← h.ex, ← h'.ex, e], fun e => by subst e; exact h.uniq h'⟩
theorem Rep.len {l : List Bk} {p : List (List Att)} (h : Rep l p) : l.length ≤ p.length := by
  rw [← h.ex]
  have hp := prp_pos l h.prp
  clear h
  induction l with
  | nil => simp
  | cons x r ih =>
    rw [ex_cons, List.length_append, plc_len, List.length_cons]
    have := ih (fun b hb => hp b (List.mem_cons_of_mem _ hb))
    have := hp x List.mem_cons_self
    omega
theorem Rep.same {l0 : List Bk} {y : Bk} {p : List (List Att)} (h : Rep (l0 ++ [y]) p) {n : Int} (hn : 0 < n) : Rep (l0 ++ [⟨y.n + n, y.s⟩]) (p ++ List.replicate n.toNat y.s) := by
  obtain ⟨h1, h2, h3⟩ := (prp_snoc l0 y).1 h.prp
  refine ⟨(prp_snoc l0 _).2 ⟨h1, by show 0 < y.n + n; omega, h3⟩, ?_⟩
  rw [← h.ex, ex_app, ex_app, ex_one, ex_one, List.append_assoc]
  congr 1
  unfold plc
  rw [List.replicate_append_replicate]
  congr 1
  show (y.n + n).toNat = _
  omega
theorem Rep.next {l : List Bk} {p : List (List Att)} (h : Rep l p) {n : Int} {s : List Att} (hn : 0 < n) (hs : ∀ y, l.getLast? = some y → y.s ≠ s) : Rep (l ++ [⟨n, s⟩]) (p ++ List.replicate n.toNat s) := by
  refine ⟨(prp_snoc l _).2 ⟨h.prp, hn, hs⟩, ?_⟩
  rw [ex_app, h.ex, ex_one]; rfl
theorem Rep.mem_le {l0 : List Bk} {y : Bk} {p : List (List Att)} (h : Rep (l0 ++ [y]) p) : y.n ≤ p.length := by
  rw [← h.ex, ex_app, ex_one, List.length_append, plc_len]
  omega

/-! ### how blocks are told -/
/-- Two numbers together, as far as an int goes. -/
def tog (a b : Int) : Int := a + min b (9223372036854775807 - a)
theorem tog_pos {a b : Int} (h0 : 0 ≤ a) (h1 : a ≤ 9223372036854775807) (hb : 0 ≤ b) : 0 ≤ tog a b ∧ tog a b ≤ 9223372036854775807 ∧ a ≤ tog a b := by
  unfold tog; omega
theorem tog_fit {a b : Int} (h : a + b ≤ 9223372036854775807) : tog a b = a + b := by
  unfold tog; omega
section
variable {β : Type} (f : β → Bk)
def tel : Int → List β → List (Int × β)
  | _, [] => []
  | b, z :: r => if (f z).n ≤ 0 then tel b r else (b, z) :: tel (tog b (f z).n) r
/-- Where the next one would begin. -/
def tend : Int → List β → Int
  | b, [] => b
  | b, z :: r => if (f z).n ≤ 0 then tend b r else tend (tog b (f z).n) r
theorem tel_snoc : ∀ (l : List β) (b : Int) (z : β), tel f b (l ++ [z]) = if (f z).n ≤ 0 then tel f b l else tel f b l ++ [(tend f b l, z)]
  | [], b, z => by simp [tel, tend]
  | x :: r, b, z => by
    rw [List.cons_append, tel, tel, tend]
    split
    · rw [tel_snoc r]
    · rw [tel_snoc r]
      split <;> simp
theorem tend_snoc : ∀ (l : List β) (b : Int) (z : β), tend f b (l ++ [z]) = if (f z).n ≤ 0 then tend f b l else tog (tend f b l) (f z).n
  | [], b, z => by simp [tend]
  | x :: r, b, z => by
    rw [List.cons_append, tend, tend]
    split
    · rw [tend_snoc r]
    · rw [tend_snoc r]
theorem tel_pre {l : List β} {b : Int} {k m : Nat} (h : k ≤ m) : tel f b (l.take k) <+: tel f b (l.take m) := by
  obtain ⟨d, rfl⟩ : ∃ d, m = k + d := ⟨m - k, by omega⟩
  clear h
  induction d with
  | zero => exact List.prefix_refl _
  | succ d ih =>
    refine ih.trans ?_
    by_cases hk : k + d < l.length
    · rw [show k + (d + 1) = (k + d) + 1 by omega, List.take_succ_eq_append_getElem hk, tel_snoc]
      split
      · exact List.prefix_refl _
      · exact List.prefix_append _ _
    · rw [List.take_of_length_le (by omega), List.take_of_length_le (by omega)]
      exact List.prefix_refl _
theorem tend_pos : ∀ (l : List β) {b : Int}, 0 ≤ b → b ≤ 9223372036854775807 → 0 ≤ tend f b l ∧ tend f b l ≤ 9223372036854775807
  | [], b, h0, h1 => ⟨h0, h1⟩
  | z :: r, b, h0, h1 => by
    rw [tend]
    split
    · exact tend_pos r h0 h1
    · have := tog_pos h0 h1 (b := (f z).n) (by omega)
      exact tend_pos r this.1 this.2.1
theorem tel_mem : ∀ (l : List β) {b : Int} {t : Int × β}, 0 ≤ b → b ≤ 9223372036854775807 → t ∈ tel f b l → b ≤ t.1 ∧ t.1 ≤ 9223372036854775807 ∧ 0 < (f t.2).n ∧ t.2 ∈ l
  | z :: r, b, t, h0, h1, h => by
    rw [tel] at h
    split at h
    · obtain ⟨q1, q2, q3, q4⟩ := tel_mem r h0 h1 h
      exact ⟨q1, q2, q3, List.mem_cons_of_mem _ q4⟩
    · have ht := tog_pos h0 h1 (b := (f z).n) (by omega)
      rcases List.mem_cons.1 h with rfl | h
      · exact ⟨Int.le_refl _, h1, by show 0 < (f z).n; omega, List.mem_cons_self⟩
      · obtain ⟨q1, q2, q3, q4⟩ := tel_mem r ht.1 ht.2.1 h
        exact ⟨by omega, q2, q3, List.mem_cons_of_mem _ q4⟩
theorem tel_len : ∀ (l : List β) (b : Int), (tel f b l).length ≤ l.length
  | [], _ => Nat.le_refl _
  | z :: r, b => by
    rw [tel]
    split
    · have := tel_len r b; simp; omega
    · have := tel_len r (tog b (f z).n); simp; omega
/-- What is told begins rising. -/
theorem tel_rise : ∀ (l : List β) {b : Int} {A : List (Int × β)} {t : Int × β} {B : List (Int × β)}, 0 ≤ b → b ≤ 9223372036854775807 → tel f b l = A ++ t :: B → ∀ u ∈ B, t.1 ≤ u.1
  | [], b, A, t, B, _, _, h => by simp [tel] at h
  | z :: r, b, A, t, B, h0, h1, h => by
    rw [tel] at h
    split at h
    · exact tel_rise r h0 h1 h
    · have ht := tog_pos h0 h1 (b := (f z).n) (by omega)
      cases A with
      | nil =>
        injection h with e1 e2
        subst e1
        intro u hu
        rw [← e2] at hu
        have := (tel_mem f r ht.1 ht.2.1 hu).1
        show b ≤ u.1
        omega
      | cons a A =>
        injection h with e1 e2
        exact tel_rise r ht.1 ht.2.1 e2
theorem tel_last : ∀ (l : List β) (b : Int), tend f b l = match (tel f b l).getLast? with | none => b | some t => tog t.1 (f t.2).n
  | [], b => rfl
  | z :: r, b => by
    rw [tend, tel]
    split
    · exact tel_last r b
    · have := tel_last r (tog b (f z).n)
      rw [this, List.getLast?_cons]
      cases (tel f (tog b (f z).n) r).getLast? <;> rfl
/-- How many places are told. -/
def lenB (l : List Bk) : Int := (ex l).length
theorem lenB_nil : lenB [] = 0 := rfl
theorem lenB_cons (x : Bk) (r : List Bk) : lenB (x :: r) = x.n.toNat + lenB r := by unfold lenB; rw [ex_cons, List.length_append, plc_len]; omega
theorem lenB_pos (l : List Bk) : 0 ≤ lenB l := by unfold lenB; omega
theorem tend_len : ∀ (l : List β) {b : Int}, b + lenB (l.map f) ≤ 9223372036854775807 → tend f b l = b + lenB (l.map f)
  | [], b, _ => by simp [tend, lenB_nil]
  | z :: r, b, h => by
    rw [List.map_cons, lenB_cons] at h
    rw [tend, List.map_cons, lenB_cons]
    have := lenB_pos (r.map f)
    split
    · rw [tend_len r (by omega)]; omega
    · rw [tog_fit (by omega), tend_len r (by omega)]; omega
/-- What a block tells between two places. -/
def pieceC (i j : Int) (t : Int × β) : List (List Att) := List.replicate (min (j - t.1) (f t.2).n - max (i - t.1) 0).toNat (f t.2).s
theorem pieceC_past {i j : Int} {t : Int × β} (h : j ≤ t.1) : pieceC f i j t = [] := by
  unfold pieceC
  rw [show (min (j - t.1) (f t.2).n - max (i - t.1) 0).toNat = 0 by omega]; rfl
theorem take_drop_app {α : Type} (k : Nat) (s : α) (E : List α) (J I : Nat) : ((List.replicate k s ++ E).take J).drop I = List.replicate (min J k - I) s ++ (E.take (J - k)).drop (I - k) := by
  rw [List.take_append, List.drop_append]
  simp only [List.length_replicate, List.take_replicate, List.drop_replicate]
  congr 1
  by_cases h : k ≤ J
  · rw [Nat.min_eq_right h]
  · rw [show J - k = 0 by omega]; simp
theorem cut_tel (i j : Int) (hi : 0 ≤ i) : ∀ (l : List β) {b : Int}, 0 ≤ b → b + lenB (l.map f) ≤ 9223372036854775807 → (tel f b l).flatMap (pieceC f i j) = ((ex (l.map f)).take (j - b).toNat).drop (i - b).toNat
  | [], b, _, _ => by simp [tel, ex]
  | z :: r, b, h0, h => by
    rw [List.map_cons, lenB_cons] at h
    have hr := lenB_pos (r.map f)
    rw [tel, List.map_cons, ex_cons]
    split
    · rw [plc_neg (by assumption), List.nil_append]
      exact cut_tel i j hi r h0 (by omega)
    · have hz : 0 < (f z).n := by omega
      rw [tog_fit (by omega), List.flatMap_cons, cut_tel i j hi r (by omega) (by omega)]
      unfold plc pieceC
      rw [take_drop_app]
      dsimp only
      have e1 : min (j - b).toNat (f z).n.toNat - (i - b).toNat = (min (j - b) (f z).n - max (i - b) 0).toNat := by omega
      have e2 : (j - b).toNat - (f z).n.toNat = (j - (b + (f z).n)).toNat := by omega
      have e3 : (i - b).toNat - (f z).n.toNat = (i - (b + (f z).n)).toNat := by omega
      rw [e1, e2, e3]
/-- The block in which a place lies. -/
def hit (i : Int) (t : Int × β) : Prop := t.1 ≤ i ∧ i - t.1 < (f t.2).n
theorem hit_yes {i : Int} : ∀ (l : List β) {b : Int} {t : Int × β}, 0 ≤ b → b + lenB (l.map f) ≤ 9223372036854775807 → t ∈ tel f b l → hit f i t → b ≤ i ∧ (ex (l.map f))[(i - b).toNat]? = some (f t.2).s
  | z :: r, b, t, h0, h, ht, hh => by
    rw [List.map_cons, lenB_cons] at h
    have hr := lenB_pos (r.map f)
    rw [tel] at ht
    rw [List.map_cons, ex_cons]
    split at ht
    · rw [plc_neg (by assumption), List.nil_append]
      exact hit_yes r h0 (by omega) ht hh
    · rw [tog_fit (by omega)] at ht
      rcases List.mem_cons.1 ht with rfl | ht
      · obtain ⟨a1, a2⟩ := hh
        dsimp only at a1 a2
        refine ⟨a1, ?_⟩
        rw [List.getElem?_append_left (by rw [plc_len]; omega)]
        unfold plc
        rw [List.getElem?_replicate, if_pos (by omega)]
      · obtain ⟨q1, q2⟩ := hit_yes r (by omega) (by omega) ht hh
        refine ⟨by omega, ?_⟩
        rw [List.getElem?_append_right (by rw [plc_len]; omega), plc_len, show (i - b).toNat - (f z).n.toNat = (i - (b + (f z).n)).toNat by omega]
        exact q2
theorem hit_no {i : Int} : ∀ (l : List β) {b : Int}, 0 ≤ b → b + lenB (l.map f) ≤ 9223372036854775807 → b ≤ i → (∀ t ∈ tel f b l, ¬ hit f i t) → b + lenB (l.map f) ≤ i
  | [], b, _, _, hb, _ => by simp [lenB_nil]; exact hb
  | z :: r, b, h0, h, hb, hn => by
    rw [List.map_cons, lenB_cons] at h ⊢
    have hr := lenB_pos (r.map f)
    rw [tel] at hn
    split at hn
    · have := hit_no r h0 (by omega) hb hn
      omega
    · rw [tog_fit (by omega)] at hn
      have h1 := hn (b, z) List.mem_cons_self
      unfold hit at h1
      dsimp only at h1
      have := hit_no r (b := b + (f z).n) (by omega) (by omega) (by omega) (fun t ht => hn t (List.mem_cons_of_mem _ ht))
      omega
end
theorem lenB_le {l : List Bk} {m : Nat} {N : Int} (h : ∀ b ∈ l, b.n ≤ N) (hN : 0 ≤ N) (hl : l.length ≤ m) : lenB l ≤ m * N := by
  induction l generalizing m with
  | nil => rw [lenB_nil]; exact Int.mul_nonneg (by omega) hN
  | cons x r ih =>
    rw [lenB_cons]
    obtain ⟨m, rfl⟩ : ∃ k, m = k + 1 := ⟨m - 1, by simp at hl; omega⟩
    have := ih (m := m) (fun b hb => h b (List.mem_cons_of_mem _ hb)) (by simpa using hl)
    have := h x List.mem_cons_self
    rw [show ((m + 1 : Nat) : Int) * N = m * N + N by rw [show ((m + 1 : Nat) : Int) = (m : Int) + 1 from rfl, Int.add_mul, Int.one_mul]]
    omega
end Go.Proofs.Ytclbjfeneegicaa
