
import Derived.Test.YtiobcifpebehnaaDoorG
import Derived.Test.YtiobcifpebehnaaDoorShelf
import Derived.Lib.RuneBytes
import Derived.Lib.ValidLaws
import Derived.Lib.RuneCount
import Derived.Lib.OthersKept
import Derived.Laws.BytesArg
/- A1 -/
namespace Go.Proofs.YtiobcifpebehnaaDoor
open Go.RowKit
set_option linter.unusedVariables false

def mayB (r : Int) : Bool := decide (0 ≤ r ∧ r ≤ 1114111 ∧ ¬ (55296 ≤ r ∧ r ≤ 57343))

theorem rmay_any (r : Int) (w : World) :
    Calls Tryd.prog 79 #[.int .i32 r] w fun e w' => e = .returned (.bool (mayB r)) ∧ w = w' := by
  have hcases : r < 0 ∨ (0 ≤ r ∧ r < 55296) ∨ (55296 ≤ r ∧ r ≤ 57343) ∨ (57343 < r ∧ r ≤ 1114111) ∨ 1114111 < r := by omega
  rcases hcases with h | ⟨h, h'⟩ | ⟨h, h'⟩ | ⟨h, h'⟩ | h
  all_goals
    first
      | (have hf : mayB r = false := by unfold mayB; rw [decide_eq_false_iff_not]; omega)
      | (have hf : mayB r = true := by unfold mayB; rw [decide_eq_true_iff]; omega)
    rw [hf]; clear hf
    go_enter Tryd.func79, Tryd.ntmps79
    go_wp2
    go_ret
    first | exact ⟨rfl, rfl⟩ | exact ⟨ret_bool (by simp <;> omega), rfl⟩
end Go.Proofs.YtiobcifpebehnaaDoor

/- A2 -/
namespace Go.Proofs.YtiobcifpebehnaaDoor
open Go.RowKit
set_option linter.unusedVariables false

def nl (xs : List Int) : Int := (xs.filter (· == 10)).length
theorem nl_le (xs : List Int) : 0 ≤ nl xs ∧ nl xs ≤ xs.length := by
  unfold nl
  have := List.length_filter_le (fun x : Int => x == 10) xs
  omega
theorem nl_snoc (xs : List Int) (x : Int) : nl (xs ++ [x]) = nl xs + if x = 10 then 1 else 0 := by
  unfold nl
  rw [List.filter_append]
  by_cases h : x = 10 <;> simp [h]
theorem nl_take (xs : List Int) (j : Nat) (h : j < xs.length) : nl (xs.take (j + 1)) = nl (xs.take j) + if xs.getD j 0 = 10 then 1 else 0 := by
  rw [take_snoc xs j h, nl_snoc]

end Go.Proofs.YtiobcifpebehnaaDoor

/- A3 -/
namespace Go.Proofs.YtiobcifpebehnaaDoor
open Go.RowKit
set_option linter.unusedVariables false

def sameB (xs ys : List Int) : Bool := decide (xs = ys)

theorem same_ne (xs ys : List Int) (k : Nat) (h1 : k < xs.length) (h2 : k < ys.length) (h : xs.getD k 0 ≠ ys.getD k 0) : sameB xs ys = false := by
  unfold sameB
  rw [decide_eq_false_iff_not]
  rintro rfl
  exact h rfl
theorem same_eq (xs ys : List Int) (h1 : xs.length = ys.length) (h : xs.take xs.length = ys.take xs.length) : sameB xs ys = true := by
  unfold sameB
  rw [decide_eq_true_iff]
  rw [List.take_of_length_le (Nat.le_refl _), h1, List.take_of_length_le (Nat.le_refl _)] at h
  exact h

end Go.Proofs.YtiobcifpebehnaaDoor

/- A4 -/
namespace Go.Proofs.YtiobcifpebehnaaDoor
open Go.RowKit
set_option linter.unusedVariables false

def utfZ (xs : List Int) : List Int := xs.flatMap Lib.encodeRuneZ
def allMay (xs : List Int) : Bool := xs.all mayB
theorem utfZ_snoc (xs : List Int) (x : Int) : utfZ (xs ++ [x]) = utfZ xs ++ Lib.encodeRuneZ x := by simp [utfZ]
theorem utfZ_len : ∀ xs : List Int, (utfZ xs).length ≤ 4 * xs.length
  | [] => by simp [utfZ]
  | x :: t => by
    have h := Lib.encodeRuneZ_length x
    have ih := utfZ_len t
    simp only [utfZ, List.flatMap_cons, List.length_append, List.length_cons] at ih ⊢
    omega
theorem allMay_take (xs : List Int) (k : Nat) (h : k < xs.length) (hm : allMay (xs.take k) = true) (hx : mayB (xs.getD k 0) = true) : allMay (xs.take (k + 1)) = true := by
  rw [take_snoc xs k h]
  simp only [allMay, List.all_append, List.all_cons, List.all_nil, Bool.and_true, Bool.and_eq_true] at hm ⊢
  exact ⟨hm, hx⟩
theorem allMay_not (xs : List Int) (k : Nat) (h : k < xs.length) (hx : mayB (xs.getD k 0) = false) : allMay xs = false := by
  cases ha : allMay xs with
  | false => rfl
  | true =>
    rw [allMay, List.all_eq_true] at ha
    have := ha (xs.getD k 0) (by simp [List.getD, h])
    rw [this] at hx
    cases hx
theorem may_range (r : Int) (h : mayB r = true) : 0 ≤ r ∧ r ≤ 1114111 := by
  unfold mayB at h
  rw [decide_eq_true_iff] at h
  omega

theorem info5 : (Tryd.prog.info? 5).map (fun i => (i.zero, i.size, i.bytes)) = some (some (.int .u8 0), 1, 1) := by kernel_rfl
theorem info21 : (Tryd.prog.info? 21).map (fun i => (i.zero, i.size, i.bytes)) = some (some (.int .i32 0), 1, 4) := by kernel_rfl

def BytesPost (B : Nat) (xs : List Int) (w : World) (e : Ending) (w' : World) : Prop :=
  Below w.heap.size w w' ∧
  ((allMay xs = true ∧ ∃ v n, e = .returned (.tuple #[v, .int .i64 0]) ∧ w'.ownsRow B 5 1 v n ((utfZ xs).map (Value.int .u8))) ∨
   (allMay xs = false ∧ e = .returned (.tuple #[.slice none 0 0, .int .i64 3])))

/-- What a round of Bytes does. -/
theorem bytes_round {w wr w1 : World} {o : Obj} {B k n : Nat} {v v' : Value} {xs : List Int} {x : Int} (hx : xs.getD k 0 = x) (hk : k < xs.length) (hB : w.heap.size = B)
    (h1 : w1.ownsRow B 5 1 v' (n + (Lib.runeCells x).length) ((utfZ (xs.take k)).map (Value.int .u8) ++ Lib.runeCells x)) (hown : wr.ownsRow B 5 1 v n ((utfZ (xs.take k)).map (Value.int .u8)))
    (hg : (wr.alloc o).grownBy w1 v.ownBlock) (hb : Below B w wr) :
    (w1.ownsRow B 5 1 v' (n + (Lib.runeCells x).length) ((utfZ (xs.take (k + 1))).map (Value.int .u8))) ∧ Below B w w1 := by
  subst hB
  refine ⟨?_, ?_⟩
  · rw [take_snoc xs k hk, hx, utfZ_snoc, List.map_append]
    exact h1
  · have hsz := hb.size
    refine (hb.alloc hsz o).grown hg (by simp; omega) ?_
    intro j hj
    exact (hown.lt j hj).1

end Go.Proofs.YtiobcifpebehnaaDoor

/- A5 -/
namespace Go.Proofs.YtiobcifpebehnaaDoor
open Go.RowKit
set_option linter.unusedVariables false

theorem six_any (n : Int) (w : World) (h0 : 0 ≤ n) (h1 : n ≤ 2147483647) :
    Calls Tryd.prog 85 #[.int .i32 n] w fun e w' => e = .returned (.int .u8 (128 + n % 64)) ∧ w = w' := by
  go_enter Tryd.func85, Tryd.ntmps85
  go_wp2
  go_ret
  exact ⟨rfl, rfl⟩

def OnePost (r : Int) (w : World) (e : Ending) (w' : World) : Prop :=
  Below w.heap.size w w' ∧ ∃ g n, e = .returned (.slice (some ⟨g, 0, none⟩) n n) ∧ n = (Lib.encodeRuneZ r).length ∧ w'.ownsRow w.heap.size 5 1 (.slice (some ⟨g, 0, none⟩) n n) n ((Lib.encodeRuneZ r).map (Value.int .u8))

theorem one_end (w : World) (r : Int) (zs : List Int) (h : Lib.encodeRuneZ r = zs) (hl : zs.length ≤ 4) :
    OnePost r w (.returned (.slice (some ⟨w.heap.size, 0, none⟩) zs.length zs.length)) (w.alloc (.cells (zs.map (Value.int .u8)).toArray 5)) := by
  refine ⟨(Below.refl _ _).alloc (Nat.le_refl _) _, w.heap.size, zs.length, rfl, by rw [h], ?_⟩
  have := owns_built w 5 (zs.map (Value.int .u8)).toArray (by simp; unfold maxLen; omega)
  simpa [h] using this

set_option maxHeartbeats 1000000 in
theorem one_any (r : Int) (w : World) (h0 : mayB r = true) :
    Calls Tryd.prog 80 #[.int .i32 r] w (OnePost r w) := by
  have hr := may_range r h0
  unfold mayB at h0
  rw [decide_eq_true_iff] at h0
  have hcases : r < 128 ∨ (128 ≤ r ∧ r < 2048) ∨ (2048 ≤ r ∧ r < 65536) ∨ 65536 ≤ r := by omega
  rcases hcases with h | ⟨h, h'⟩ | ⟨h, h'⟩ | h
  · have E := one_end w r [r] (Lib.encodeRuneZ_one (by omega) (by omega)) (by simp)
    clear h0
    go_enter Tryd.func80, Tryd.ntmps80
    go_wp2
    go_ret
    exact E
  · have E := one_end w r _ (Lib.encodeRuneZ_two (by omega) (by omega)) (by simp)
    clear h0
    go_enter Tryd.func80, Tryd.ntmps80
    go_wp2_with (go_at_call 85; refine (six_any _ _ (by omega) (by omega)).mono ?_; rintro e w' ⟨rfl, rfl⟩)
    go_ret
    exact E
  · have E := one_end w r _ (Lib.encodeRuneZ_three (by omega)) (by simp)
    clear h0
    go_enter Tryd.func80, Tryd.ntmps80
    go_wp2_with (go_at_call 85; refine (six_any _ _ (by omega) (by omega)).mono ?_; rintro e w' ⟨rfl, rfl⟩)
    go_ret
    exact E
  · have E := one_end w r _ (Lib.encodeRuneZ_four (by omega) (by omega)) (by simp)
    clear h0
    go_enter Tryd.func80, Tryd.ntmps80
    go_wp2_with (go_at_call 85; refine (six_any _ _ (by omega) (by omega)).mono ?_; rintro e w' ⟨rfl, rfl⟩)
    go_ret
    exact E
end Go.Proofs.YtiobcifpebehnaaDoor

/- A6 -/
namespace Go.Proofs.YtiobcifpebehnaaDoor
open Go.RowKit
set_option linter.unusedVariables false

theorem ints_one (k : IntKind) (zs : List Int) : ∀ u ∈ zs.map (Value.int k), u.oneCell' = true := by
  intro u hu
  simp at hu
  obtain ⟨x, _, rfl⟩ := hu
  rfl

/-- What a round of the document's Bytes does. -/
theorem rbytes_round {w wr w0 w1 : World} {B k n m : Nat} {v v' : Value} {xs : List Int} {x : Int} (hx : xs.getD k 0 = x) (hk : k < xs.length) (hB : w.heap.size = B)
    (h1 : w1.ownsRow B 5 1 v' (n + m) ((utfZ (xs.take k)).map (Value.int .u8) ++ (Lib.encodeRuneZ x).map (Value.int .u8))) (hown : wr.ownsRow B 5 1 v n ((utfZ (xs.take k)).map (Value.int .u8)))
    (h0 : Below wr.heap.size wr w0) (hg : w0.grownBy w1 v.ownBlock) (hb : Below B w wr) :
    (w1.ownsRow B 5 1 v' (n + m) ((utfZ (xs.take (k + 1))).map (Value.int .u8))) ∧ Below B w w1 := by
  subst hB
  refine ⟨?_, ?_⟩
  · rw [take_snoc xs k hk, hx, utfZ_snoc, List.map_append]
    exact h1
  · have hsz := hb.size
    have hsz0 := h0.size
    refine (hb.trans (h0.mono hsz)).grown hg (by omega) ?_
    intro j hj
    exact (hown.lt j hj).1

end Go.Proofs.YtiobcifpebehnaaDoor

/- M1 -/
namespace Go.Proofs.YtiobcifpebehnaaDoor
open Go.Lib
set_option linter.unusedVariables false

/-- What Read gives: the runes of bytes, or nothing. -/
def readF : Nat → List UInt8 → Option (List Int)
  | 0, l => if l = [] then some [] else none
  | f + 1, l => if l = [] then some [] else if (decodeL l).1 = 65533 ∧ (decodeL l).2 = 1 then none else (readF f (l.drop (decodeL l).2)).map fun t => ((decodeL l).1 : Int) :: t
def readL (l : List UInt8) : Option (List Int) := readF l.length l

theorem readF_nil : ∀ f, readF f [] = some []
  | 0 => rfl
  | _ + 1 => by simp [readF]
theorem readF_fuel : ∀ (n m : Nat) (l : List UInt8), l.length ≤ n → l.length ≤ m → readF n l = readF m l
  | 0, m, l, hn, _ => by
    have : l = [] := List.eq_nil_of_length_eq_zero (by omega)
    subst this
    rw [readF_nil, readF_nil]
  | n + 1, 0, l, _, hm => by
    have : l = [] := List.eq_nil_of_length_eq_zero (by omega)
    subst this
    rw [readF_nil, readF_nil]
  | n + 1, m + 1, l, hn, hm => by
    unfold readF
    by_cases hne : l = []
    · simp [hne]
    · have hw := decodeL_width l
      have hl : 0 < l.length := List.length_pos_iff.2 hne
      rw [if_neg hne, if_neg hne, readF_fuel n m (l.drop (decodeL l).2) (by rw [List.length_drop]; omega) (by rw [List.length_drop]; omega)]
theorem readL_nil : readL [] = some [] := rfl
theorem readL_step (l : List UInt8) (hne : l ≠ []) : readL l = if (decodeL l).1 = 65533 ∧ (decodeL l).2 = 1 then none else (readL (l.drop (decodeL l).2)).map fun t => ((decodeL l).1 : Int) :: t := by
  have hl : 0 < l.length := List.length_pos_iff.2 hne
  have hw := decodeL_width l
  obtain ⟨n, hn⟩ : ∃ n, l.length = n + 1 := ⟨l.length - 1, by omega⟩
  unfold readL
  rw [hn]
  show (if l = [] then some [] else _) = _
  rw [if_neg hne, readF_fuel n (l.drop (decodeL l).2).length _ (by rw [List.length_drop]; omega) (Nat.le_refl _)]

/-- The replacement's own three bytes. -/
theorem decode_repl (t : List UInt8) : decodeL (239 :: 191 :: 189 :: t) = (65533, 3) := by
  rw [decodeL_N]
  simp [decodeN]
theorem prefix_repl (l : List UInt8) (h : hasPrefix l [239, 191, 189] = true) : (decodeL l).2 = 3 := by
  unfold hasPrefix at h
  rw [List.isPrefixOf_iff_prefix] at h
  obtain ⟨t, rfl⟩ := h
  rw [show [239, 191, 189] ++ t = 239 :: 191 :: 189 :: t from rfl, decode_repl]
theorem repl_prefix (l : List UInt8) (hne : l ≠ []) (h1 : (decodeL l).1 = 65533) (h2 : (decodeL l).2 ≠ 1) : hasPrefix l [239, 191, 189] = true := by
  have h := encode_decode l hne (fun h => h2 h.2)
  rw [h1] at h
  have e : encodeRune ((65533 : Nat) : Int) = [239, 191, 189] := by decide
  rw [e] at h
  unfold hasPrefix
  rw [List.isPrefixOf_iff_prefix]
  exact h ▸ List.take_prefix _ _

/-- What a round of Read does, in plain words. -/
theorem read_on (L : List UInt8) (pos : Nat) (acc : List Int) (hp : pos < L.length) (hok : ¬ ((decodeL (L.drop pos)).1 = 65533 ∧ (decodeL (L.drop pos)).2 = 1))
    (h : (readL (L.drop pos)).map (fun t => acc ++ t) = readL L) :
    (readL (L.drop (pos + (decodeL (L.drop pos)).2))).map (fun t => (acc ++ [((decodeL (L.drop pos)).1 : Int)]) ++ t) = readL L := by
  have hne : L.drop pos ≠ [] := by
    intro h0
    have := congrArg List.length h0
    simp at this
    omega
  rw [readL_step _ hne, if_neg hok, List.drop_drop] at h
  rw [← h, Option.map_map]
  congr 1
  funext t
  simp
theorem read_off (L : List UInt8) (pos : Nat) (acc : List Int) (hp : pos < L.length) (hok : (decodeL (L.drop pos)).1 = 65533 ∧ (decodeL (L.drop pos)).2 = 1)
    (h : (readL (L.drop pos)).map (fun t => acc ++ t) = readL L) : readL L = none := by
  have hne : L.drop pos ≠ [] := by
    intro h0
    have := congrArg List.length h0
    simp at this
    omega
  rw [readL_step _ hne, if_pos hok] at h
  exact h.symm
theorem read_end (L : List UInt8) (pos : Nat) (acc : List Int) (hp : ¬ pos < L.length) (h : (readL (L.drop pos)).map (fun t => acc ++ t) = readL L) : readL L = some acc := by
  rw [List.drop_eq_nil_of_le (by omega), readL_nil] at h
  simpa using h.symm

/- there and back -/
theorem byteN (z : Int) (h0 : 0 ≤ z) (h1 : z < 256) : (z.toNat.toUInt8).toNat = z.toNat := by
  simp
  omega
theorem decode_encode (r : Int) (hr : 0 ≤ r) (hm : r ≤ 1114111) (hs : ¬ (55296 ≤ r ∧ r ≤ 57343)) (t : List UInt8) : decodeL (encodeRune r ++ t) = (r.toNat, (encodeRune r).length) := by
  rw [decodeL_N]
  unfold encodeRune
  have hcases : r < 128 ∨ (128 ≤ r ∧ r < 2048) ∨ (2048 ≤ r ∧ r < 65536) ∨ 65536 ≤ r := by omega
  rcases hcases with h | ⟨h, h'⟩ | ⟨h, h'⟩ | h
  · rw [encodeRuneZ_one (by omega) (by omega)]
    simp only [List.map_cons, List.map_nil, List.cons_append, List.nil_append, List.getD_cons_zero, List.getD_cons_succ, List.length_cons, List.length_nil]
    rw [byteN r (by omega) (by omega), decodeN_ascii _ _ _ _ _ (by omega)]
  · rw [encodeRuneZ_two (by omega) (by omega)]
    simp only [List.map_cons, List.map_nil, List.cons_append, List.nil_append, List.getD_cons_zero, List.getD_cons_succ, List.length_cons, List.length_nil]
    rw [byteN _ (show 0 ≤ 192 + r / 64 by omega) (by omega), byteN _ (show 0 ≤ 128 + r % 64 by omega) (by omega)]
    unfold decodeN
    rw [if_neg (by omega), if_pos (by omega), if_pos (by omega)]
    congr 1
    omega
  · rw [encodeRuneZ_three (by omega)]
    simp only [List.map_cons, List.map_nil, List.cons_append, List.nil_append, List.getD_cons_zero, List.getD_cons_succ, List.length_cons, List.length_nil]
    rw [byteN _ (show 0 ≤ 224 + r / 4096 by omega) (by omega), byteN _ (show 0 ≤ 128 + r / 64 % 64 by omega) (by omega), byteN _ (show 0 ≤ 128 + r % 64 by omega) (by omega)]
    unfold decodeN
    rw [if_neg (by omega), if_neg (by omega), if_pos (by omega), if_pos (by omega)]
    congr 1
    omega
  · rw [encodeRuneZ_four (by omega) (by omega)]
    simp only [List.map_cons, List.map_nil, List.cons_append, List.nil_append, List.getD_cons_zero, List.getD_cons_succ, List.length_cons, List.length_nil]
    rw [byteN _ (show 0 ≤ 240 + r / 262144 by omega) (by omega), byteN _ (show 0 ≤ 128 + r / 4096 % 64 by omega) (by omega), byteN _ (show 0 ≤ 128 + r / 64 % 64 by omega) (by omega), byteN _ (show 0 ≤ 128 + r % 64 by omega) (by omega)]
    unfold decodeN
    rw [if_neg (by omega), if_neg (by omega), if_neg (by omega), if_pos (by omega), if_pos (by omega)]
    congr 1
    omega
def mayP (r : Int) : Prop := 0 ≤ r ∧ r ≤ 1114111 ∧ ¬ (55296 ≤ r ∧ r ≤ 57343)
def encs (xs : List Int) : List UInt8 := xs.flatMap encodeRune
theorem encs_cons (x : Int) (t : List Int) : encs (x :: t) = encodeRune x ++ encs t := rfl
theorem encodeRune_len (r : Int) : 1 ≤ (encodeRune r).length ∧ (encodeRune r).length ≤ 4 := by
  have := runeCells_le r
  rwa [runeCells_length] at this
/-- Runes that may be are read out of their bytes. -/
theorem read_encs : ∀ xs : List Int, (∀ x ∈ xs, mayP x) → readL (encs xs) = some xs
  | [], _ => rfl
  | x :: t, h => by
    obtain ⟨h0, h1, h2⟩ := h x (by simp)
    have ih := read_encs t (fun y hy => h y (by simp [hy]))
    have hl := encodeRune_len x
    have hne : encs (x :: t) ≠ [] := by
      intro h0
      have := congrArg List.length h0
      rw [encs_cons, List.length_append, List.length_nil] at this
      omega
    have hd := decode_encode x h0 h1 h2 (encs t)
    rw [readL_step _ hne, encs_cons, hd, if_neg]
    · simp only [List.drop_left, ih, Option.map_some]
      rw [Int.toNat_of_nonneg h0]
    · rintro ⟨e1, e2⟩
      have : x = 65533 := by dsimp only at e1; omega
      subst this
      exact absurd e2 (by decide)
theorem decodeN_may (n b0 b1 b2 b3 : Nat) (h0 : b0 < 256) : mayP ((decodeN n b0 b1 b2 b3).1 : Int) := by
  have h := decodeN_rune_le n b0 b1 b2 b3 h0
  rcases decodeN_shape n b0 b1 b2 b3 with ⟨c, e⟩ | ⟨c1, c2, c3, cv, e⟩ | ⟨c1, c2, c3, c4, cv, cs, e⟩ | ⟨c1, c2, c3, c4, c5, cv, cw, e⟩ | e
  all_goals (rw [e] at h ⊢; unfold mayP; dsimp only at h ⊢; omega)
/-- What is read may be, and has just these bytes. -/
theorem encs_read : ∀ (n : Nat) (l : List UInt8) (xs : List Int), l.length ≤ n → readL l = some xs → encs xs = l ∧ ∀ x ∈ xs, mayP x
  | 0, l, xs, hn, h => by
    have : l = [] := List.eq_nil_of_length_eq_zero (by omega)
    subst this
    rw [readL_nil] at h
    obtain rfl : [] = xs := by simpa using h
    exact ⟨rfl, by simp⟩
  | n + 1, l, xs, hn, h => by
    by_cases hne : l = []
    · subst hne
      rw [readL_nil] at h
      obtain rfl : [] = xs := by simpa using h
      exact ⟨rfl, by simp⟩
    · rw [readL_step l hne] at h
      split at h
      · cases h
      · rename_i hv
        have hw := decodeL_width l
        have hl : 0 < l.length := List.length_pos_iff.2 hne
        cases hr : readL (l.drop (decodeL l).2) with
        | none => rw [hr] at h; cases h
        | some t =>
          rw [hr] at h
          obtain rfl : ((decodeL l).1 : Int) :: t = xs := by simpa using h
          obtain ⟨ih1, ih2⟩ := encs_read n _ t (by rw [List.length_drop]; omega) hr
          refine ⟨?_, ?_⟩
          · rw [encs_cons, ih1, encode_decode l hne hv, List.take_append_drop]
          · intro x hx
            rcases List.mem_cons.1 hx with rfl | hx
            · rw [decodeL_N]
              exact decodeN_may _ _ _ _ _ (UInt8.toNat_lt _)
            · exact ih2 x hx
end Go.Proofs.YtiobcifpebehnaaDoor

/- A7 -/
namespace Go.Proofs.YtiobcifpebehnaaDoor
open Go.RowKit
set_option linter.unusedVariables false

/-- The bytes of a row of numbers. -/
def bl (bs : List Int) : List UInt8 := (strOfNums bs).data.toList
theorem bl_len (bs : List Int) : (bl bs).length = bs.length := by simp [bl, strOfNums]

def ReadPost (B : Nat) (bs : List Int) (w : World) (e : Ending) (w' : World) : Prop :=
  Below w.heap.size w w' ∧
  ((∃ rs v n, readL (bl bs) = some rs ∧ e = .returned (.tuple #[v, .int .i64 0]) ∧ w'.ownsRow B 21 1 v n (rs.map (Value.int .i32))) ∨
   (readL (bl bs) = none ∧ e = .returned (.tuple #[.slice none 0 0, .int .i64 3])))

theorem iter_kept {W w' : World} {k p B n : Nat} {e : TypeId} {s : ByteArray} {v : Value} {cs : List Value} (h : W.heap[k]? = some (.stringIter s p)) (hown : W.ownsRow B e 1 v n cs) (hg : W.grownBy w' v.ownBlock) : w'.heap[k]? = some (.stringIter s p) := by
  have hlt : k < W.heap.size := (Array.getElem?_eq_some_iff.1 h).1
  refine (hg.block k hlt ?_).trans h
  intro hk
  rcases hown.2 with ⟨rfl, _⟩ | ⟨g, cap, cur, rfl, hB, hgg, _⟩
  · simp [Value.ownBlock] at hk
  · simp [Value.ownBlock] at hk
    subst hk
    rw [hgg] at h
    cases h

/-- What a round of Read does to memory. -/
theorem read_round {w wr W w1 : World} {o : Obj} {B K pos p2 n m : Nat} {v v' : Value} {acc : List Int} {r : Int} {s : ByteArray} (hB : w.heap.size = B) (hW : wr.iterAt K s p2 = W)
    (hit : wr.heap[K]? = some (.stringIter s pos)) (hBK : B ≤ K) (hown : (wr.iterAt K s p2).ownsRow B 21 1 v n (acc.map (Value.int .i32))) (hb : Below B w wr)
    (h1 : w1.ownsRow B 21 1 v' m (acc.map (Value.int .i32) ++ [.int .i32 r])) (hg : (W.alloc o).grownBy w1 v.ownBlock) :
    w1.ownsRow B 21 1 v' m ((acc ++ [r]).map (Value.int .i32)) ∧ w1.heap[K]? = some (.stringIter s p2) ∧ Below B w w1 := by
  subst hB
  subst hW
  have hit2 := Lib.iterAt_heap wr K s pos p2 hit
  have hsz := hb.size
  have hbw2 := Lib.below_iterAt hb (k := K) hBK s p2
  have hlt : K < (wr.iterAt K s p2).heap.size := (Array.getElem?_eq_some_iff.1 hit2).1
  refine ⟨by simpa using h1, ?_, ?_⟩
  · exact iter_kept ((Below.heap_alloc _ o K hlt).trans hit2) (hown.alloc o) hg
  · have hsz2 := hbw2.size
    refine (hbw2.alloc hsz2 o).grown hg (by simp; omega) ?_
    intro j hj
    exact (hown.lt j hj).1
theorem owns_iterAt {wr : World} {B K n pos p2 : Nat} {e : TypeId} {v : Value} {cs : List Value} {s : ByteArray} (hown : wr.ownsRow B e 1 v n cs) (hit : wr.heap[K]? = some (.stringIter s pos)) : (wr.iterAt K s p2).ownsRow B e 1 v n cs := by
  refine ⟨hown.1, ?_⟩
  rcases hown.2 with hn | ⟨g, cap, cur, rfl, hB, hgg, rest⟩
  · exact .inl hn
  · refine .inr ⟨g, cap, cur, rfl, hB, ?_, rest⟩
    rw [Lib.iterAt_other, hgg]
    rintro rfl
    rw [hgg] at hit
    cases hit
theorem cell_new (w : World) (x : Value) (t : TypeId) : ∀ j u, [x][j]? = some u → (w.alloc (.cells #[x] t)).cell? ((⟨w.heap.size, 0, none⟩ : Addr).add j) = some u := by
  intro j u hj
  match j, hj with
  | 0, hj => simp at hj; subst hj; simp [Addr.add]
end Go.Proofs.YtiobcifpebehnaaDoor

/- A8 -/
namespace Go.Proofs.YtiobcifpebehnaaDoor
open Go.RowKit
set_option linter.unusedVariables false

theorem size_bl (bs : List Int) : (strOfNums bs).size = (bl bs).length := by rw [bl_len, strOfNums_size]

theorem repl_list : (⟨#[239, 191, 189]⟩ : ByteArray).data.toList = [239, 191, 189] := rfl
/-- strings.HasPrefix of the replacement's bytes, its answer known. -/
theorem prefix_at (s p : ByteArray) (w : World) (b : Bool) (h : Lib.hasPrefix s.data.toList p.data.toList = b) :
    Calls Tryd.prog 84 #[.string s, .string p] w fun e w' => e = .returned (.bool b) ∧ w = w' :=
  (Tryd.strings_HasPrefix s p w).mono fun _ _ ⟨he, hw⟩ => ⟨by rw [he, h], hw.symm⟩

/-- All that a round of Read asks, in plain words. -/
theorem read_facts {bs : List Int} {s : ByteArray} {pos : Nat} {acc : List Int} (hsl : s.data.toList = bl bs) (hp : pos < s.size) (hacc : (readL ((bl bs).drop pos)).map (fun t => acc ++ t) = readL (bl bs)) :
    ∃ (r : Int) (r' wd : Nat), Utf8.decode s pos = (r', wd) ∧ (r' : Int) = r ∧ 0 ≤ r ∧ r ≤ 1114111 ∧ 1 ≤ wd ∧ pos + wd ≤ s.size ∧
      (r ≠ 65533 → (readL ((bl bs).drop (pos + wd))).map (fun t => (acc ++ [r]) ++ t) = readL (bl bs)) ∧
      (r = 65533 → (Lib.hasPrefix (s.extract pos s.size).data.toList (⟨#[239, 191, 189]⟩ : ByteArray).data.toList = true ∧ (readL ((bl bs).drop (pos + wd))).map (fun t => (acc ++ [r]) ++ t) = readL (bl bs)) ∨
        (Lib.hasPrefix (s.extract pos s.size).data.toList (⟨#[239, 191, 189]⟩ : ByteArray).data.toList = false ∧ readL (bl bs) = none)) := by
  have hpl : pos < (bl bs).length := by rw [← hsl, ← Lib.size_eq]; exact hp
  have hne : (bl bs).drop pos ≠ [] := by
    intro h0
    have := congrArg List.length h0
    rw [List.length_drop, List.length_nil] at this
    omega
  have hdec := Lib.decodeL_drop s pos
  rw [hsl] at hdec
  have hw1 := Lib.decode_width_pos s pos hp
  have hwl := Lib.decodeL_le _ hne
  have hrl := Lib.rune_le s pos
  have hon := read_on (bl bs) pos acc hpl
  have hoff := read_off (bl bs) pos acc hpl
  have hpre1 := repl_prefix ((bl bs).drop pos) hne
  have hpre2 := prefix_repl ((bl bs).drop pos)
  have hex : (s.extract pos s.size).data.toList = (bl bs).drop pos := by rw [Lib.extract_data, List.take_of_length_le (by rw [List.length_drop, ← Lib.size_eq]; exact Nat.le_refl _), hsl]
  rw [hex, repl_list]
  rw [hdec] at hwl hon hoff hpre1 hpre2
  obtain ⟨r', wd, hd⟩ : ∃ r' wd, Utf8.decode s pos = (r', wd) := ⟨_, _, rfl⟩
  rw [hd] at hwl hon hoff hpre1 hpre2 hw1 hrl
  dsimp only at hwl hon hoff hpre1 hpre2 hw1 hrl
  rw [List.length_drop] at hwl
  have hsz : s.size = (bl bs).length := by rw [Lib.size_eq, hsl]
  refine ⟨r', r', wd, hd, rfl, by omega, by omega, hw1, by omega, fun h => hon (by omega) hacc, fun h => ?_⟩
  by_cases h1 : wd = 1
  · refine .inr ⟨?_, hoff ⟨by omega, h1⟩ hacc⟩
    cases hh : Lib.hasPrefix ((bl bs).drop pos) [239, 191, 189] with
    | false => rfl
    | true => have := hpre2 hh; omega
  · exact .inl ⟨hpre1 (by omega) h1, hon (by omega) hacc⟩

theorem conv_ints (v : Value) (bs : List Int) (w : World) (hv : Ints .u8 w v bs) : (convert 71 9 v).run Tryd.prog w = .ok (.string (strOfNums bs)) w := by
  rcases hv with ⟨a, cap, rfl, rfl, hm, ha⟩ | ⟨b, off, cap, rfl, h0, h1, hm, hc⟩
  · cases a with
    | none => exact run_convert_bytes_nil w _ _ Tryd.underlying71 Tryd.underlying5 0 cap _ Tryd.underlying9
    | some x =>
      rw [run_convert_bytes_string w _ _ _ _ 0 cap Tryd.underlying71 Tryd.underlying5 Tryd.underlying9, run_bytesToString w x 0 cap [] (by simpa using run_loadCells_list (P := Tryd.prog) w x [] (by intro j v hj; simp at hj))]
      rfl
  · exact run_convert_bytes_arg w _ _ Tryd.underlying71 Tryd.underlying5 b off bs.length cap bs rfl hc _ Tryd.underlying9

set_option maxHeartbeats 4000000 in
set_option maxRecDepth 100000 in
theorem read_any (v : Value) (bs : List Int) (w : World) (hv : Ints .u8 w v bs) (hlen : bs.length ≤ 1048576) :
    Calls Tryd.prog 78 #[v] w (ReadPost w.heap.size bs w) := by
  obtain ⟨i0, hi, hz0, hz1, hz2⟩ := info_parts info21
  obtain ⟨s, hs⟩ : ∃ s, strOfNums bs = s := ⟨_, rfl⟩
  have hsl : s.data.toList = bl bs := by rw [← hs]; rfl
  have hsz : s.size = bs.length := by rw [← hs, strOfNums_size]
  have hss : s.size ≤ 1048576 := by omega
  have hconv : ∀ w', w' = w → (convert 71 9 v).run Tryd.prog w' = .ok (.string s) w' := by
    rintro w' rfl
    rw [← hs]
    exact conv_ints v bs w' hv
  obtain ⟨a, cap, hva⟩ := hv.shape
  subst hva
  have hcv := hconv w rfl
  obtain ⟨B, hB⟩ : ∃ B, w.heap.size = B := ⟨_, rfl⟩
  have HB := Lib.hid hB
  have HSL := Lib.hid hsl
  have HSZ := Lib.hid hsz
  rw [hB]
  have hBle : B ≤ w.heap.size := by omega
  have hrc := Lib.runeCount_le s
  clear hB hs hconv hv hsl hsz
  go_enter Tryd.func78, Tryd.ntmps78
  go_wp2_with (go_at_call 83; refine (Tryd.utf8_RuneCountInString s _ (by omega)).mono ?_)
  rintro e w1 ⟨rfl, p0, rfl⟩
  go_wp2_with (at_make; refine wpList_make_own _ rfl _ _ 104 rfl B 21 i0 (.int .i32 0) 1 Tryd.underlying104 hi hz0 hz1 _ _ _ (Lib.runeCount s) rfl rfl (by omega) (by rw [hz2]; omega) (by unfold maxLen; omega) (by simp [World.iter]; omega) ?_; intro w0 hown0 hgrow0)
  go_loopw [5] (fun v wr => ∃ (pos : Nat) (acc : List Int) (n : Nat), wr.ownsRow B 21 1 v n (acc.map (Value.int .i32)) ∧ wr.heap[w0.heap.size]? = some (.stringIter s pos) ∧ Below B w wr ∧ Hid ((readL ((bl bs).drop pos)).map (fun t => acc ++ t) = readL (bl bs)) ∧ acc.length ≤ pos ∧ pos ≤ s.size) (fun _ wr => s.size - wr.iterPos w0.heap.size)
  case atStart =>
    refine ⟨0, [], 0, hown0.alloc _, World.iter_heap _ _ _, ?_, by simp [Hid], by simp, by omega⟩
    have h1 : Below B w (w.iter s p0) := (Below.refl _ _).alloc (by omega) _
    have h2 := h1.grown hgrow0 (by simp [World.iter]; omega) (fun k h => by cases h)
    exact h2.alloc (by have := h2.size; omega) _
  case round =>
    obtain ⟨pos, acc, n, hown, hit, hb, hacc, hal, hps⟩ := hrel
    have hszr : w0.heap.size < wr.heap.size := (Array.getElem?_eq_some_iff.1 hit).1
    by_cases hp : pos < s.size
    · obtain ⟨r, r', wd, hd, hrr, hr0, hr1, hw1, hwl, hne, heq⟩ := read_facts HSL.out hp hacc.out
      have hnx : ∀ ty, (Instr.next (.pointer (some ⟨w0.heap.size, 0, none⟩)) true ty).run Tryd.prog wr = .ok (.tuple #[.bool true, .int .i64 pos, .int .i32 r]) (wr.iterAt w0.heap.size s (pos + wd)) := fun ty => by
        rw [← hrr, Lib.run_next_any_at wr w0.heap.size s pos ty hit hp, hd]
      have hown2 := owns_iterAt (p2 := pos + wd) hown hit
      obtain ⟨W, hW⟩ : ∃ W, wr.iterAt w0.heap.size s (pos + wd) = W := ⟨_, rfl⟩
      have hWs : W.heap.size = wr.heap.size := by rw [← hW, Lib.iterAt_size]
      rw [hW] at hnx hown2
      have HW := Lib.hid hW
      have HD := Lib.hid hd
      have HN := Lib.hid hne
      have HE := Lib.hid heq
      have hBW : B ≤ W.heap.size := by have := hb.size; omega
      have HWS := Lib.hid hWs
      have hn : n ≤ 1048576 := by have e := hown.1; simp at e; omega
      clear hd hrr hne heq hW hWs
      have fin : ∀ (K : Hid ((readL ((bl bs).drop (pos + wd))).map (fun t => (acc ++ [r]) ++ t) = readL (bl bs))) (v' : Value) (w1 : World), w1.ownsRow B 21 1 v' (n + 1) (acc.map (Value.int .i32) ++ [.int .i32 r]) → (W.alloc (.cells #[.int .i32 r] 21)).grownBy w1 u5.ownBlock →
          (∃ (pos : Nat) (acc : List Int) (n : Nat), w1.ownsRow B 21 1 v' n (acc.map (Value.int .i32)) ∧ w1.heap[w0.heap.size]? = some (.stringIter s pos) ∧ Below B w w1 ∧ Hid ((readL ((bl bs).drop pos)).map (fun t => acc ++ t) = readL (bl bs)) ∧ acc.length ≤ pos ∧ pos ≤ s.size) ∧
          s.size - w1.iterPos w0.heap.size < s.size - wr.iterPos w0.heap.size := by
        intro K v' w1 h1 hg
        have hBK : B ≤ w0.heap.size := by have := hgrow0.size; simp [World.iter] at this; omega
        have R := read_round HB.out HW.out hit hBK (HW.out.symm ▸ hown2) hb h1 hg
        refine ⟨⟨pos + wd, acc ++ [r], n + 1, R.1, R.2.1, R.2.2, K, by simp; omega, hwl⟩, ?_⟩
        simp only [World.iterPos, R.2.1, hit]
        omega
      have FIN := Lib.hid fin
      clear fin
      by_cases hz : r = 65533
      · subst hz
        rcases HE.out rfl with ⟨hp1, K0⟩ | ⟨hp1, K0⟩
        · have HP := Lib.hid hp1
          have K := Lib.hid K0
          clear HN HE hp1 K0
          go_wp2_with (first
            | (go_at_call 84; refine (prefix_at _ _ _ _ HP.out).mono ?_; rintro e w' ⟨rfl, rfl⟩)
            | (at_builtin; refine wpList_append_own _ rfl _ _ 104 rfl B 21 i0 (.int .i32 0) 1 4 Tryd.underlying104 hi hz0 hz1 hz2 rfl (by decide) _ _ _ rfl (hown2.alloc _) ⟨W.heap.size, 0, none⟩ 1 1 [.int .i32 65533] rfl rfl (cell_new _ _ _) (by intro u hu; simp at hu; subst hu; rfl) (by unfold maxLen; omega) (by omega) (by simp; omega) ?_; intro v' w1 hown1 hgrow1 _))
          have R := FIN.out K v' w1 hown1 hgrow1
          clear hown1 hgrow1
          go_wp2
          go_roundw
          case rel => exact R.1
          case measure => exact R.2
        · have HP := Lib.hid hp1
          have K := Lib.hid K0
          have hbw : Below B w W := HW.out ▸ Lib.below_iterAt hb (by have := hgrow0.size; simp [World.iter] at this; omega) s (pos + wd)
          clear HN HE hp1 K0 FIN
          go_wp2_with (go_at_call 84; refine (prefix_at _ _ _ _ HP.out).mono ?_; rintro e w' ⟨rfl, rfl⟩)
          go_ret2
          exact ⟨HB.out.symm ▸ hbw, .inr ⟨K.out, rfl⟩⟩
      · have hq : (r == 65533) = false := by simp [hz]
        have K := Lib.hid (HN.out hz)
        clear HN HE hz
        go_wp2_with (at_builtin; refine wpList_append_own _ rfl _ _ 104 rfl B 21 i0 (.int .i32 0) 1 4 Tryd.underlying104 hi hz0 hz1 hz2 rfl (by decide) _ _ _ rfl (hown2.alloc _) ⟨W.heap.size, 0, none⟩ 1 1 [.int .i32 r] rfl rfl (cell_new _ _ _) (by intro u hu; simp at hu; subst hu; rfl) (by unfold maxLen; omega) (by omega) (by simp; omega) ?_; intro v' w1 hown1 hgrow1 _)
        have R := FIN.out K v' w1 hown1 hgrow1
        clear hown1 hgrow1
        go_wp2
        go_roundw
        case rel => exact R.1
        case measure => exact R.2
    · have hnx : ∀ ty, (Instr.next (.pointer (some ⟨w0.heap.size, 0, none⟩)) true ty).run Tryd.prog wr = _ := fun ty => Lib.run_next_end_at wr w0.heap.size s pos ty hit hp
      have HR := Lib.hid (read_end (bl bs) pos acc (by rw [← size_bl]; have := HSZ.out; rw [strOfNums_size]; omega) hacc.out)
      go_wp2
      go_ret2
      exact ⟨HB.out.symm ▸ hb, .inl ⟨acc, _, _, HR.out, rfl, hown⟩⟩
end Go.Proofs.YtiobcifpebehnaaDoor

/- A9 -/
namespace Go.Proofs.YtiobcifpebehnaaDoor
open Go.RowKit
set_option linter.unusedVariables false

end Go.Proofs.YtiobcifpebehnaaDoor

/- L1 -/
namespace Go.Proofs.YtiobcifpebehnaaDoor
open Go.RowKit
set_option linter.unusedVariables false

theorem bl_map (bs : List Int) : bl bs = bs.map fun n => UInt8.ofNat n.toNat := rfl
theorem bl_utfZ (xs : List Int) : bl (utfZ xs) = encs xs := by
  rw [bl_map, utfZ, encs, List.map_flatMap]
  rfl
theorem allMay_iff (xs : List Int) : allMay xs = true ↔ ∀ x ∈ xs, mayP x := by
  rw [allMay, List.all_eq_true]
  constructor
  · intro h x hx
    have := h x hx
    unfold mayB at this
    rw [decide_eq_true_iff] at this
    exact this
  · intro h x hx
    unfold mayB
    rw [decide_eq_true_iff]
    exact h x hx
theorem str_of_bl {a b : List Int} (h : bl a = bl b) : strOfNums a = strOfNums b := by
  unfold strOfNums
  rw [bl_map, bl_map] at h
  rw [h]

theorem encs_len : ∀ xs : List Int, xs.length ≤ (encs xs).length
  | [] => by simp
  | x :: t => by
    have h := encodeRune_len x
    have ih := encs_len t
    rw [encs_cons, List.length_append, List.length_cons]
    omega
/-- What was read: it may be, and its bytes are these. -/
theorem read_back {bs rs : List Int} (h : readL (bl bs) = some rs) : allMay rs = true ∧ strOfNums (utfZ rs) = strOfNums bs ∧ rs.length ≤ bs.length := by
  obtain ⟨h1, h2⟩ := encs_read _ _ _ (Nat.le_refl _) h
  refine ⟨(allMay_iff rs).2 h2, str_of_bl (by rw [bl_utfZ, h1]), ?_⟩
  have := encs_len rs
  rw [h1, bl_len] at this
  exact this

end Go.Proofs.YtiobcifpebehnaaDoor
