import Derived.Test.YtohgopibimgjfaaGreatZ5
import Derived.Below
import Derived.BigQuiet
import Derived.Deep.Quiet
import Derived.Deep.QuietTactic
import Derived.Laws.AppendOwnNone
import Derived.Laws.BytesArg
import Derived.Laws.CopyOwn
import Derived.Lib.Hide
import Derived.Lib.OthersKept
import Derived.Lib.RuneBytes
import Derived.Lib.RuneCount
import Derived.Lib.ValidLaws
import Derived.OpenShut
import Derived.ProofKit
import Derived.WalkKit
/- B -/
namespace Go.Proofs.YtohgopibimgjfaaGreat
open Go.RowKit
set_option linter.unusedVariables false

end Go.Proofs.YtohgopibimgjfaaGreat

/- R -/
namespace Go.Proofs.YtohgopibimgjfaaGreat
open Go.RowKit
set_option linter.unusedVariables false

end Go.Proofs.YtohgopibimgjfaaGreat

/- W -/
namespace Go.Proofs.YtohgopibimgjfaaGreat
open Go.RowKit
set_option linter.unusedVariables false

end Go.Proofs.YtohgopibimgjfaaGreat

/- K -/
namespace Go.Proofs.YtohgopibimgjfaaGreat
open Go.RowKit
set_option linter.unusedVariables false

end Go.Proofs.YtohgopibimgjfaaGreat

/- K2 -/
namespace Go.Proofs.YtohgopibimgjfaaGreat
open Go.RowKit
set_option linter.unusedVariables false

end Go.Proofs.YtohgopibimgjfaaGreat

/- Q -/
namespace Go.Proofs.YtohgopibimgjfaaGreat
open Go.RowKit
set_option linter.unusedVariables false

section
variable {P : Program} {ops : Array Oper} {C : World → Prop} {Q : Act → Prop} {a : Act} {o : Oper} {rest : List Oper}
end
end Go.Proofs.YtohgopibimgjfaaGreat

/- A1 -/
namespace Go.Proofs.YtohgopibimgjfaaGreat
open Go.RowKit
set_option linter.unusedVariables false

end Go.Proofs.YtohgopibimgjfaaGreat

/- A2 -/
namespace Go.Proofs.YtohgopibimgjfaaGreat
open Go.RowKit
set_option linter.unusedVariables false

end Go.Proofs.YtohgopibimgjfaaGreat

/- A3 -/
namespace Go.Proofs.YtohgopibimgjfaaGreat
open Go.RowKit
set_option linter.unusedVariables false

end Go.Proofs.YtohgopibimgjfaaGreat

/- A4 -/
namespace Go.Proofs.YtohgopibimgjfaaGreat
open Go.RowKit
set_option linter.unusedVariables false

def utfZ (xs : List Int) : List Int := xs.flatMap Lib.encodeRuneZ
def allMay (xs : List Int) : Bool := xs.all mayB
theorem utfZ_snoc (xs : List Int) (x : Int) : utfZ (xs ++ [x]) = utfZ xs ++ Lib.encodeRuneZ x := by simp [utfZ]
theorem utfZ_len : ∀ xs : List Int, (utfZ xs).length ≤ 4 * xs.length
  | [] => by simp [utfZ]
  | x :: t => by
    have h := Lib.encodeRuneZ_length x
    have ih := utfZ_len t
    simp only [utfZ, List.flatMap_cons, List.length_append, List.length_cons] at ih ⊢
    omega
theorem allMay_take (xs : List Int) (k : Nat) (h : k < xs.length) (hm : allMay (xs.take k) = true) (hx : mayB (xs.getD k 0) = true) : allMay (xs.take (k + 1)) = true := by
  rw [take_snoc xs k h]
  simp only [allMay, List.all_append, List.all_cons, List.all_nil, Bool.and_true, Bool.and_eq_true] at hm ⊢
  exact ⟨hm, hx⟩
theorem allMay_not (xs : List Int) (k : Nat) (h : k < xs.length) (hx : mayB (xs.getD k 0) = false) : allMay xs = false := by
  cases ha : allMay xs with
  | false => rfl
  | true =>
    rw [allMay, List.all_eq_true] at ha
    have := ha (xs.getD k 0) (by simp [List.getD, h])
    rw [this] at hx
    cases hx
theorem info5 : (Tryz.prog.info? 5).map (fun i => (i.zero, i.size, i.bytes)) = some (some (.int .u8 0), 1, 1) := by kernel_rfl
def BytesPost (B : Nat) (xs : List Int) (w : World) (e : Ending) (w' : World) : Prop :=
  Below w.heap.size w w' ∧
  ((allMay xs = true ∧ ∃ v n, e = .returned (.tuple #[v, .int .i64 0]) ∧ w'.ownsRow B 5 1 v n ((utfZ xs).map (Value.int .u8))) ∨
   (allMay xs = false ∧ e = .returned (.tuple #[.slice none 0 0, .int .i64 3])))

end Go.Proofs.YtohgopibimgjfaaGreat

/- A5 -/
namespace Go.Proofs.YtohgopibimgjfaaGreat
open Go.RowKit
set_option linter.unusedVariables false

end Go.Proofs.YtohgopibimgjfaaGreat

/- A6 -/
namespace Go.Proofs.YtohgopibimgjfaaGreat
open Go.RowKit
set_option linter.unusedVariables false

theorem ints_one (k : IntKind) (zs : List Int) : ∀ u ∈ zs.map (Value.int k), u.oneCell' = true := by
  intro u hu
  simp at hu
  obtain ⟨x, _, rfl⟩ := hu
  rfl

/-- What a round of the document's Bytes does. -/
theorem rbytes_round {w wr w0 w1 : World} {B k n m : Nat} {v v' : Value} {xs : List Int} {x : Int} (hx : xs.getD k 0 = x) (hk : k < xs.length) (hB : w.heap.size = B)
    (h1 : w1.ownsRow B 5 1 v' (n + m) ((utfZ (xs.take k)).map (Value.int .u8) ++ (Lib.encodeRuneZ x).map (Value.int .u8))) (hown : wr.ownsRow B 5 1 v n ((utfZ (xs.take k)).map (Value.int .u8)))
    (h0 : Below wr.heap.size wr w0) (hg : w0.grownBy w1 v.ownBlock) (hb : Below B w wr) :
    (w1.ownsRow B 5 1 v' (n + m) ((utfZ (xs.take (k + 1))).map (Value.int .u8))) ∧ Below B w w1 := by
  subst hB
  refine ⟨?_, ?_⟩
  · rw [take_snoc xs k hk, hx, utfZ_snoc, List.map_append]
    exact h1
  · have hsz := hb.size
    have hsz0 := h0.size
    refine (hb.trans (h0.mono hsz)).grown hg (by omega) ?_
    intro j hj
    exact (hown.lt j hj).1

set_option maxHeartbeats 1000000 in
theorem rnbytes_any (v : Value) (xs : List Int) (w : World) (hv : Ints .i32 w v xs) (hlen : xs.length ≤ 1048576) :
    Calls Tryz.prog 60 #[v] w (BytesPost w.heap.size xs w) := by
  obtain ⟨i0, hi, hz0, hz1, hz2⟩ := info_parts info5
  rcases hv with ⟨a, cap, rfl, rfl, hm, _⟩ | ⟨b, off, cap, rfl, h0, h1, hm, hc⟩
  · go_enter Tryz.func60, Tryz.ntmps60
    go_wp2
    refine wp_loop_rounds 1 ?_
    rw [rounds_succ]
    go_wp2
    go_ret2
    exact ⟨Below.refl _ _, .inl ⟨rfl, _, _, rfl, World.ownsRow_nil _ _ _ _⟩⟩
  · unfold maxLen at hm
    obtain ⟨B, hB⟩ : ∃ B, w.heap.size = B := ⟨_, rfl⟩
    have hbB : b < B := hB ▸ World.block_lt_of_cell? w _ (hc 0 h0)
    have HB := Lib.hid hB
    rw [hB]
    have hBle : B ≤ w.heap.size := by omega
    clear hB
    go_enter Tryz.func60, Tryz.ntmps60
    go_wp2
    go_loopw [4, 5] (fun v i wr => ∃ k n : Nat, k ≤ xs.length ∧ i = .int .i64 k ∧ wr.ownsRow B 5 1 v n ((utfZ (xs.take k)).map (Value.int .u8)) ∧ Hid (allMay (xs.take k) = true) ∧ Below B w wr) (fun _ i _ => xs.length - (intOf i).toNat)
    case atStart => exact ⟨0, 0, Nat.zero_le _, rfl, World.ownsRow_nil _ _ _ _, rfl, Below.refl _ _⟩
    case round =>
      obtain ⟨k, n, hk, rfl, hown, ham, hb⟩ := hrel
      have hsz := hb.size
      have hn : n ≤ 4200000 := by
        have e := hown.1
        have l := utfZ_len (xs.take k)
        have l2 : (xs.take k).length ≤ k := List.length_take_le _ _
        simp at e
        omega
      by_cases hlt : k < xs.length
      · have hcx : wr.cell? ⟨b, off + k, none⟩ = some (.int .i32 (xs.getD k 0)) := (hb.cell (p := ⟨b, off + k, none⟩) hbB).trans (hc k hlt)
        have K1 := Lib.hid (allMay_take xs k hlt ham.out)
        have K2 := Lib.hid (allMay_not xs k hlt)
        obtain ⟨x, hx⟩ : ∃ x, xs.getD k 0 = x := ⟨_, rfl⟩
        rw [hx] at hcx K1 K2
        have HX := Lib.hid hx
        clear hx hc
        cases hmx : mayB x with
        | true =>
          have hr := may_range x hmx
          have K3 := Lib.hid (K1.out hmx)
          clear K1 K2
          go_wp2_with (first
            | (go_at_call 91; refine (rmay_any _ _).mono ?_; rintro e w' ⟨rfl, rfl⟩)
            | (go_at_call 99; refine (one_any _ _ hmx).mono ?_))
          rintro e w0 ⟨hb0, g, m, rfl, hm4, hone⟩
          have hl4 := Lib.encodeRuneZ_length x
          have hown0 := owns_below hown hb0
          have hsz0 := hb0.size
          have HM := Lib.hid hm4
          have hm44 : m ≤ 4 := by omega
          clear hm4 hl4
          go_wp2_with (at_builtin; refine wpList_append_own _ rfl _ _ 31 rfl B 5 i0 (.int .u8 0) 1 1 Tryz.underlying31 hi hz0 hz1 hz2 rfl (by decide) _ _ _ rfl hown0 ⟨g, 0, none⟩ m m ((Lib.encodeRuneZ x).map (Value.int .u8)) rfl (by rw [HM.out]; simp) (hone.cells rfl) (ints_one _ _) (by unfold maxLen; omega) (by omega) (by omega) ?_; intro v' w1 hown1 hgrow1 _)
          have R := rbytes_round HX.out hlt HB.out hown1 hown hb0 hgrow1 hb
          clear hown1 hgrow1 hown hone hown0
          go_wp2
          go_roundw
          case rel => exact ⟨k + 1, _, by omega, by go_num, R.1, K3.out, R.2⟩
          case measure => simp [intOf]; omega
        | false =>
          have K3 := Lib.hid (K2.out hmx)
          clear K1 K2
          go_wp2_with (go_at_call 91; refine (rmay_any _ _).mono ?_; rintro e w' ⟨rfl, rfl⟩)
          go_ret2
          exact ⟨HB.out.symm ▸ hb, .inr ⟨K3.out, rfl⟩⟩
      · obtain rfl : k = xs.length := by omega
        have ham2 := ham.out
        rw [List.take_of_length_le (Nat.le_refl _)] at ham2 hown
        have HA := Lib.hid ham2
        clear ham ham2
        go_wp2
        go_ret2
        exact ⟨HB.out.symm ▸ hb, .inl ⟨HA.out, _, _, rfl, hown⟩⟩
end Go.Proofs.YtohgopibimgjfaaGreat

/- M1 -/
namespace Go.Proofs.YtohgopibimgjfaaGreat
open Go.Lib
set_option linter.unusedVariables false

/- there and back -/
theorem byteN (z : Int) (h0 : 0 ≤ z) (h1 : z < 256) : (z.toNat.toUInt8).toNat = z.toNat := by
  simp
  omega
theorem decode_encode (r : Int) (hr : 0 ≤ r) (hm : r ≤ 1114111) (hs : ¬ (55296 ≤ r ∧ r ≤ 57343)) (t : List UInt8) : decodeL (encodeRune r ++ t) = (r.toNat, (encodeRune r).length) := by
  rw [decodeL_N]
  unfold encodeRune
  have hcases : r < 128 ∨ (128 ≤ r ∧ r < 2048) ∨ (2048 ≤ r ∧ r < 65536) ∨ 65536 ≤ r := by omega
  rcases hcases with h | ⟨h, h'⟩ | ⟨h, h'⟩ | h
  · rw [encodeRuneZ_one (by omega) (by omega)]
    simp only [List.map_cons, List.map_nil, List.cons_append, List.nil_append, List.getD_cons_zero, List.getD_cons_succ, List.length_cons, List.length_nil]
    rw [byteN r (by omega) (by omega), decodeN_ascii _ _ _ _ _ (by omega)]
  · rw [encodeRuneZ_two (by omega) (by omega)]
    simp only [List.map_cons, List.map_nil, List.cons_append, List.nil_append, List.getD_cons_zero, List.getD_cons_succ, List.length_cons, List.length_nil]
    rw [byteN _ (show 0 ≤ 192 + r / 64 by omega) (by omega), byteN _ (show 0 ≤ 128 + r % 64 by omega) (by omega)]
    unfold decodeN
    rw [if_neg (by omega), if_pos (by omega), if_pos (by omega)]
    congr 1
    omega
  · rw [encodeRuneZ_three (by omega)]
    simp only [List.map_cons, List.map_nil, List.cons_append, List.nil_append, List.getD_cons_zero, List.getD_cons_succ, List.length_cons, List.length_nil]
    rw [byteN _ (show 0 ≤ 224 + r / 4096 by omega) (by omega), byteN _ (show 0 ≤ 128 + r / 64 % 64 by omega) (by omega), byteN _ (show 0 ≤ 128 + r % 64 by omega) (by omega)]
    unfold decodeN
    rw [if_neg (by omega), if_neg (by omega), if_pos (by omega), if_pos (by omega)]
    congr 1
    omega
  · rw [encodeRuneZ_four (by omega) (by omega)]
    simp only [List.map_cons, List.map_nil, List.cons_append, List.nil_append, List.getD_cons_zero, List.getD_cons_succ, List.length_cons, List.length_nil]
    rw [byteN _ (show 0 ≤ 240 + r / 262144 by omega) (by omega), byteN _ (show 0 ≤ 128 + r / 4096 % 64 by omega) (by omega), byteN _ (show 0 ≤ 128 + r / 64 % 64 by omega) (by omega), byteN _ (show 0 ≤ 128 + r % 64 by omega) (by omega)]
    unfold decodeN
    rw [if_neg (by omega), if_neg (by omega), if_neg (by omega), if_pos (by omega), if_pos (by omega)]
    congr 1
    omega
def encs (xs : List Int) : List UInt8 := xs.flatMap encodeRune
theorem encs_cons (x : Int) (t : List Int) : encs (x :: t) = encodeRune x ++ encs t := rfl
theorem encodeRune_len (r : Int) : 1 ≤ (encodeRune r).length ∧ (encodeRune r).length ≤ 4 := by
  have := runeCells_le r
  rwa [runeCells_length] at this
/-- Runes that may be are read out of their bytes. -/
theorem read_encs : ∀ xs : List Int, (∀ x ∈ xs, mayP x) → readL (encs xs) = some xs
  | [], _ => rfl
  | x :: t, h => by
    obtain ⟨h0, h1, h2⟩ := h x (by simp)
    have ih := read_encs t (fun y hy => h y (by simp [hy]))
    have hl := encodeRune_len x
    have hne : encs (x :: t) ≠ [] := by
      intro h0
      have := congrArg List.length h0
      rw [encs_cons, List.length_append, List.length_nil] at this
      omega
    have hd := decode_encode x h0 h1 h2 (encs t)
    rw [readL_step _ hne, encs_cons, hd, if_neg]
    · simp only [List.drop_left, ih, Option.map_some]
      rw [Int.toNat_of_nonneg h0]
    · rintro ⟨e1, e2⟩
      have : x = 65533 := by dsimp only at e1; omega
      subst this
      exact absurd e2 (by decide)
theorem decodeN_may (n b0 b1 b2 b3 : Nat) (h0 : b0 < 256) : mayP ((decodeN n b0 b1 b2 b3).1 : Int) := by
  have h := decodeN_rune_le n b0 b1 b2 b3 h0
  rcases decodeN_shape n b0 b1 b2 b3 with ⟨c, e⟩ | ⟨c1, c2, c3, cv, e⟩ | ⟨c1, c2, c3, c4, cv, cs, e⟩ | ⟨c1, c2, c3, c4, c5, cv, cw, e⟩ | e
  all_goals (rw [e] at h ⊢; unfold mayP; dsimp only at h ⊢; omega)
/-- What is read may be, and has just these bytes. -/
theorem encs_read : ∀ (n : Nat) (l : List UInt8) (xs : List Int), l.length ≤ n → readL l = some xs → encs xs = l ∧ ∀ x ∈ xs, mayP x
  | 0, l, xs, hn, h => by
    have : l = [] := List.eq_nil_of_length_eq_zero (by omega)
    subst this
    rw [readL_nil] at h
    obtain rfl : [] = xs := by simpa using h
    exact ⟨rfl, by simp⟩
  | n + 1, l, xs, hn, h => by
    by_cases hne : l = []
    · subst hne
      rw [readL_nil] at h
      obtain rfl : [] = xs := by simpa using h
      exact ⟨rfl, by simp⟩
    · rw [readL_step l hne] at h
      split at h
      · cases h
      · rename_i hv
        have hw := decodeL_width l
        have hl : 0 < l.length := List.length_pos_iff.2 hne
        cases hr : readL (l.drop (decodeL l).2) with
        | none => rw [hr] at h; cases h
        | some t =>
          rw [hr] at h
          obtain rfl : ((decodeL l).1 : Int) :: t = xs := by simpa using h
          obtain ⟨ih1, ih2⟩ := encs_read n _ t (by rw [List.length_drop]; omega) hr
          refine ⟨?_, ?_⟩
          · rw [encs_cons, ih1, encode_decode l hne hv, List.take_append_drop]
          · intro x hx
            rcases List.mem_cons.1 hx with rfl | hx
            · rw [decodeL_N]
              exact decodeN_may _ _ _ _ _ (UInt8.toNat_lt _)
            · exact ih2 x hx
end Go.Proofs.YtohgopibimgjfaaGreat

/- A7 -/
namespace Go.Proofs.YtohgopibimgjfaaGreat
open Go.RowKit
set_option linter.unusedVariables false

end Go.Proofs.YtohgopibimgjfaaGreat

/- A8 -/
namespace Go.Proofs.YtohgopibimgjfaaGreat
open Go.RowKit
set_option linter.unusedVariables false

end Go.Proofs.YtohgopibimgjfaaGreat

/- A9 -/
namespace Go.Proofs.YtohgopibimgjfaaGreat
open Go.RowKit
set_option linter.unusedVariables false

end Go.Proofs.YtohgopibimgjfaaGreat

/- L1 -/
namespace Go.Proofs.YtohgopibimgjfaaGreat
open Go.RowKit
set_option linter.unusedVariables false

theorem bl_map (bs : List Int) : bl bs = bs.map fun n => UInt8.ofNat n.toNat := rfl
theorem bl_utfZ (xs : List Int) : bl (utfZ xs) = encs xs := by
  rw [bl_map, utfZ, encs, List.map_flatMap]
  rfl
theorem allMay_iff (xs : List Int) : allMay xs = true ↔ ∀ x ∈ xs, mayP x := by
  rw [allMay, List.all_eq_true]
  constructor
  · intro h x hx
    have := h x hx
    unfold mayB at this
    rw [decide_eq_true_iff] at this
    exact this
  · intro h x hx
    unfold mayB
    rw [decide_eq_true_iff]
    exact h x hx
theorem str_of_bl {a b : List Int} (h : bl a = bl b) : strOfNums a = strOfNums b := by
  unfold strOfNums
  rw [bl_map, bl_map] at h
  rw [h]

theorem encs_len : ∀ xs : List Int, xs.length ≤ (encs xs).length
  | [] => by simp
  | x :: t => by
    have h := encodeRune_len x
    have ih := encs_len t
    rw [encs_cons, List.length_append, List.length_cons]
    omega
/-- What was read: it may be, and its bytes are these. -/
theorem read_back {bs rs : List Int} (h : readL (bl bs) = some rs) : allMay rs = true ∧ strOfNums (utfZ rs) = strOfNums bs ∧ rs.length ≤ bs.length := by
  obtain ⟨h1, h2⟩ := encs_read _ _ _ (Nat.le_refl _) h
  refine ⟨(allMay_iff rs).2 h2, str_of_bl (by rw [bl_utfZ, h1]), ?_⟩
  have := encs_len rs
  rw [h1, bl_len] at this
  exact this

end Go.Proofs.YtohgopibimgjfaaGreat

/- P1: bytes that are read and printed, as plain data: a reader and its printer -/
namespace Go.Proofs.YtohgopibimgjfaaGreat
open Go.RowKit Go.Lib
set_option linter.unusedVariables false
set_option maxRecDepth 100000

/-- Bytes, as numbers. -/
def Okb (l : List Int) : Prop := ∀ b ∈ l, 0 ≤ b ∧ b < 256
theorem Okb.app {a b : List Int} (ha : Okb a) (hb : Okb b) : Okb (a ++ b) := fun x hx => by
  rcases List.mem_append.1 hx with h | h
  · exact ha x h
  · exact hb x h
theorem Okb.left {a b : List Int} (h : Okb (a ++ b)) : Okb a := fun x hx => h x (List.mem_append_left _ hx)
theorem Okb.right {a b : List Int} (h : Okb (a ++ b)) : Okb b := fun x hx => h x (List.mem_append_right _ hx)
theorem Okb.drop {l : List Int} (h : Okb l) (n : Nat) : Okb (l.drop n) := fun x hx => h x (List.mem_of_mem_drop hx)
theorem Okb.take {l : List Int} (h : Okb l) (n : Nat) : Okb (l.take n) := fun x hx => h x (List.mem_of_mem_take hx)
theorem okb_nil : Okb [] := fun x hx => by cases hx
theorem okb_form (n : Nat) : Okb (form n) := form_bytes n
/-- A reader p, its printer e, and the things C that it reads. -/
structure Cod {α : Type} (p : List Int → Option (α × List Int)) (e : α → List Int) (C : α → Prop) : Prop where
  out : ∀ l x r, Okb l → p l = some (x, r) → C x ∧ l = e x ++ r
  back : ∀ x r, C x → p (e x ++ r) = some (x, r)
  okb : ∀ x, C x → Okb (e x)
theorem Cod.rest {α : Type} {p : List Int → Option (α × List Int)} {e : α → List Int} {C : α → Prop} (h : Cod p e C) {l r : List Int} {x : α} (hl : Okb l) (hp : p l = some (x, r)) : Okb r := by
  obtain ⟨-, h2⟩ := h.out l x r hl hp
  rw [h2] at hl
  exact hl.right
/-- No printed thing is the beginning of another. -/
theorem Cod.apart {α : Type} {p : List Int → Option (α × List Int)} {e : α → List Int} {C : α → Prop} (h : Cod p e C) {x y : α} {r s : List Int} (hx : C x) (hy : C y) (he : e x ++ r = e y ++ s) : x = y ∧ r = s := by
  have h1 := h.back x r hx
  have h2 := h.back y s hy
  rw [he, h2] at h1
  simp only [Option.some.injEq, Prod.mk.injEq] at h1
  exact ⟨h1.1.symm, h1.2.symm⟩

/-- A number of 64 bits. -/
def cNum (l : List Int) : Option (Nat × List Int) := match dec64 l with
  | none => none
  | some (n, s) => some (n, l.drop s)
theorem cNum_none {l : List Int} (h : dec64 l = none) : cNum l = none := by unfold cNum; rw [h]
theorem cNum_some {l : List Int} {n s : Nat} (h : dec64 l = some (n, s)) : cNum l = some (n, l.drop s) := by unfold cNum; rw [h]
theorem cod_num : Cod cNum form (fun n => n < 18446744073709551616) := by
  refine ⟨fun l x r hl hp => ?_, fun x r hx => ?_, fun x hx => okb_form x⟩
  · unfold cNum at hp
    cases hd : dec64 l with
    | none => rw [hd] at hp; cases hp
    | some q =>
      obtain ⟨n, s⟩ := q
      rw [hd] at hp
      simp only [Option.some.injEq, Prod.mk.injEq] at hp
      obtain ⟨rfl, rfl⟩ := hp
      obtain ⟨h1, h2, h3, h4, h5, -⟩ := dec64_take l hl n s hd
      exact ⟨h5, by rw [h1, List.take_append_drop]⟩
  · rw [cNum_some (dec64_form x r hx), List.drop_left]

/-- One behind the other. -/
def cPair {α β : Type} (p : List Int → Option (α × List Int)) (q : α → List Int → Option (β × List Int)) (l : List Int) : Option ((α × β) × List Int) := match p l with
  | none => none
  | some (x, r) => match q x r with
    | none => none
    | some (y, s) => some ((x, y), s)
theorem cPair_no {α β : Type} {p : List Int → Option (α × List Int)} {q : α → List Int → Option (β × List Int)} {l : List Int} (h : p l = none) : cPair p q l = none := by unfold cPair; rw [h]
theorem cPair_yes {α β : Type} {p : List Int → Option (α × List Int)} {q : α → List Int → Option (β × List Int)} {l r : List Int} {x : α} (h : p l = some (x, r)) : cPair p q l = match q x r with
    | none => none
    | some (y, s) => some ((x, y), s) := by unfold cPair; rw [h]
theorem cod_pair {α β : Type} {p : List Int → Option (α × List Int)} {e : α → List Int} {C : α → Prop} {q : α → List Int → Option (β × List Int)} {f : α → β → List Int} {D : α → β → Prop} (hp : Cod p e C) (hq : ∀ x, C x → Cod (q x) (f x) (D x)) :
    Cod (cPair p q) (fun z => e z.1 ++ f z.1 z.2) (fun z => C z.1 ∧ D z.1 z.2) := by
  refine ⟨fun l z r hl h => ?_, fun z r hz => ?_, fun z hz => (hp.okb _ hz.1).app ((hq _ hz.1).okb _ hz.2)⟩
  · cases h1 : p l with
    | none => rw [cPair_no h1] at h; cases h
    | some a =>
      obtain ⟨x, s⟩ := a
      rw [cPair_yes h1] at h
      obtain ⟨c1, c2⟩ := hp.out l x s hl h1
      cases h2 : q x s with
      | none => rw [h2] at h; cases h
      | some b =>
        obtain ⟨y, t⟩ := b
        rw [h2] at h
        simp only [Option.some.injEq, Prod.mk.injEq] at h
        obtain ⟨rfl, rfl⟩ := h
        obtain ⟨d1, d2⟩ := (hq x c1).out s y t (hp.rest hl h1) h2
        exact ⟨⟨c1, d1⟩, by rw [c2, d2, List.append_assoc]⟩
  · obtain ⟨x, y⟩ := z
    have h1 := hp.back x (f x y ++ r) hz.1
    rw [← List.append_assoc] at h1
    rw [cPair_yes h1, (hq x hz.1).back y r hz.2]
/-- Turned into another thing, both ways. -/
def cMap {α β : Type} (g : α → β) (p : List Int → Option (α × List Int)) (l : List Int) : Option (β × List Int) := match p l with
  | none => none
  | some (x, r) => some (g x, r)
theorem cMap_no {α β : Type} {g : α → β} {p : List Int → Option (α × List Int)} {l : List Int} (h : p l = none) : cMap g p l = none := by unfold cMap; rw [h]
theorem cMap_yes {α β : Type} {g : α → β} {p : List Int → Option (α × List Int)} {l r : List Int} {x : α} (h : p l = some (x, r)) : cMap g p l = some (g x, r) := by unfold cMap; rw [h]
theorem cod_map {α β : Type} {p : List Int → Option (α × List Int)} {e : α → List Int} {C : α → Prop} {D : β → Prop} (g : α → β) (h : β → α) (hp : Cod p e C) (h1 : ∀ x, C x → D (g x) ∧ h (g x) = x) (h2 : ∀ y, D y → C (h y) ∧ g (h y) = y) :
    Cod (cMap g p) (fun y => e (h y)) D := by
  refine ⟨fun l y r hl hy => ?_, fun y r hy => ?_, fun y hy => hp.okb _ (h2 y hy).1⟩
  · cases hc : p l with
    | none => rw [cMap_no hc] at hy; cases hy
    | some a =>
      obtain ⟨x, s⟩ := a
      rw [cMap_yes hc] at hy
      simp only [Option.some.injEq, Prod.mk.injEq] at hy
      obtain ⟨rfl, rfl⟩ := hy
      obtain ⟨c1, c2⟩ := hp.out l x s hl hc
      exact ⟨(h1 x c1).1, by rw [(h1 x c1).2]; exact c2⟩
  · rw [cMap_yes (hp.back _ r (h2 y hy).1), (h2 y hy).2]
/-- Just those. -/
def cOnly {α : Type} (b : α → Bool) (p : List Int → Option (α × List Int)) (l : List Int) : Option (α × List Int) := match p l with
  | none => none
  | some (x, r) => if b x then some (x, r) else none
theorem cOnly_no {α : Type} {b : α → Bool} {p : List Int → Option (α × List Int)} {l : List Int} (h : p l = none) : cOnly b p l = none := by unfold cOnly; rw [h]
theorem cOnly_yes {α : Type} {b : α → Bool} {p : List Int → Option (α × List Int)} {l r : List Int} {x : α} (h : p l = some (x, r)) : cOnly b p l = if b x then some (x, r) else none := by unfold cOnly; rw [h]
theorem cod_only {α : Type} {p : List Int → Option (α × List Int)} {e : α → List Int} {C : α → Prop} (b : α → Bool) (hp : Cod p e C) : Cod (cOnly b p) e (fun x => C x ∧ b x = true) := by
  refine ⟨fun l y r hl hy => ?_, fun y r hy => ?_, fun y hy => hp.okb _ hy.1⟩
  · cases hc : p l with
    | none => rw [cOnly_no hc] at hy; cases hy
    | some a =>
      obtain ⟨x, s⟩ := a
      rw [cOnly_yes hc] at hy
      by_cases hb : b x = true
      · rw [if_pos hb] at hy
        simp only [Option.some.injEq, Prod.mk.injEq] at hy
        obtain ⟨rfl, rfl⟩ := hy
        obtain ⟨c1, c2⟩ := hp.out l x s hl hc
        exact ⟨⟨c1, hb⟩, c2⟩
      · rw [if_neg hb] at hy; cases hy
  · rw [cOnly_yes (hp.back _ r hy.1), if_pos hy.2]
/-- So many, one behind the other. -/
def cMany {α : Type} (p : List Int → Option (α × List Int)) : Nat → List Int → Option (List α × List Int)
  | 0, l => some ([], l)
  | k + 1, l => match p l with
    | none => none
    | some (x, r) => match cMany p k r with
      | none => none
      | some (xs, s) => some (x :: xs, s)
theorem cMany_0 {α : Type} (p : List Int → Option (α × List Int)) (l : List Int) : cMany p 0 l = some ([], l) := rfl
theorem cMany_no {α : Type} {p : List Int → Option (α × List Int)} {k : Nat} {l : List Int} (h : p l = none) : cMany p (k + 1) l = none := by rw [cMany, h]
theorem cMany_yes {α : Type} {p : List Int → Option (α × List Int)} {k : Nat} {l r : List Int} {x : α} (h : p l = some (x, r)) : cMany p (k + 1) l = match cMany p k r with
      | none => none
      | some (xs, s) => some (x :: xs, s) := by rw [cMany, h]
theorem cod_many {α : Type} {p : List Int → Option (α × List Int)} {e : α → List Int} {C : α → Prop} (hp : Cod p e C) : ∀ k : Nat, Cod (cMany p k) (fun xs => xs.flatMap e) (fun xs => xs.length = k ∧ ∀ x ∈ xs, C x) := by
  intro k
  induction k with
  | zero =>
    refine ⟨fun l xs r hl h => ?_, fun xs r h => ?_, fun xs h => ?_⟩
    · rw [cMany_0] at h
      simp only [Option.some.injEq, Prod.mk.injEq] at h
      obtain ⟨rfl, rfl⟩ := h
      exact ⟨⟨rfl, by simp⟩, rfl⟩
    · obtain rfl := List.eq_nil_of_length_eq_zero h.1
      rfl
    · obtain rfl := List.eq_nil_of_length_eq_zero h.1
      exact okb_nil
  | succ k ih =>
    refine ⟨fun l xs r hl h => ?_, fun xs r h => ?_, fun xs h => ?_⟩
    · cases h1 : p l with
      | none => rw [cMany_no h1] at h; cases h
      | some a =>
        obtain ⟨x, s⟩ := a
        rw [cMany_yes h1] at h
        obtain ⟨c1, c2⟩ := hp.out l x s hl h1
        cases h2 : cMany p k s with
        | none => rw [h2] at h; cases h
        | some b =>
          obtain ⟨ys, t⟩ := b
          rw [h2] at h
          simp only [Option.some.injEq, Prod.mk.injEq] at h
          obtain ⟨rfl, rfl⟩ := h
          obtain ⟨⟨d1, d2⟩, d3⟩ := ih.out s ys t (hp.rest hl h1) h2
          refine ⟨⟨by simp [d1], fun y hy => ?_⟩, by rw [c2, d3, List.flatMap_cons, List.append_assoc]⟩
          rcases List.mem_cons.1 hy with rfl | hy
          · exact c1
          · exact d2 y hy
    · cases xs with
      | nil => simp at h
      | cons x ys =>
        rw [List.flatMap_cons, List.append_assoc, cMany_yes (hp.back x _ (h.2 x (List.mem_cons_self ..))), ih.back ys r ⟨by simpa using h.1, fun y hy => h.2 y (List.mem_cons_of_mem _ hy)⟩]
    · intro b hb
      obtain ⟨x, hx, hb⟩ := List.mem_flatMap.1 hb
      exact hp.okb x (h.2 x hx) b hb
/-- How many, and they. -/
def cList {α : Type} (p : List Int → Option (α × List Int)) : List Int → Option (List α × List Int) := cMap (fun z : Nat × List α => z.2) (cPair cNum (fun k => cMany p k))
theorem cod_list {α : Type} {p : List Int → Option (α × List Int)} {e : α → List Int} {C : α → Prop} (hp : Cod p e C) : Cod (cList p) (fun xs => form xs.length ++ xs.flatMap e) (fun xs => xs.length < 18446744073709551616 ∧ ∀ x ∈ xs, C x) := by
  refine cod_map (C := fun z => z.1 < 18446744073709551616 ∧ (z.2.length = z.1 ∧ ∀ x ∈ z.2, C x)) (D := fun xs : List α => xs.length < 18446744073709551616 ∧ ∀ x ∈ xs, C x) (fun z : Nat × List α => z.2) (fun xs => (xs.length, xs)) (cod_pair cod_num (fun k _ => cod_many hp k)) (fun z hz => ?_) (fun y hy => ⟨⟨hy.1, rfl, hy.2⟩, rfl⟩)
  obtain ⟨k, xs⟩ := z
  obtain ⟨h1, h2, h3⟩ := hz
  simp only at h1 h2 h3
  subst h2
  exact ⟨⟨h1, h3⟩, rfl⟩
theorem cList_no {α : Type} {p : List Int → Option (α × List Int)} {l : List Int} (h : cNum l = none) : cList p l = none := cMap_no (cPair_no h)
theorem cList_yes {α : Type} {p : List Int → Option (α × List Int)} {l r : List Int} {k : Nat} (h : cNum l = some (k, r)) : cList p l = cMany p k r := by
  unfold cList cMap
  rw [cPair_yes h]
  cases cMany p k r with
  | none => rfl
  | some a => rfl
/-- Bytes: how many, and they. -/
def cBytes (l : List Int) : Option (List Int × List Int) := match cNum l with
  | none => none
  | some (n, r) => if n ≤ r.length then some (r.take n, r.drop n) else none
theorem cod_bytes : Cod cBytes (fun x => form x.length ++ x) (fun x => x.length < 18446744073709551616 ∧ Okb x) := by
  refine ⟨fun l x r hl h => ?_, fun x r hx => ?_, fun x hx => (okb_form _).app hx.2⟩
  · unfold cBytes at h
    cases h1 : cNum l with
    | none => rw [h1] at h; cases h
    | some a =>
      obtain ⟨n, s⟩ := a
      rw [h1] at h
      simp only at h
      obtain ⟨c1, c2⟩ := cod_num.out l n s hl h1
      have hs := cod_num.rest hl h1
      by_cases hn : n ≤ s.length
      · rw [if_pos hn] at h
        simp only [Option.some.injEq, Prod.mk.injEq] at h
        obtain ⟨rfl, rfl⟩ := h
        have hlen : (s.take n).length = n := by rw [List.length_take]; omega
        refine ⟨⟨by rw [hlen]; exact c1, hs.take n⟩, ?_⟩
        rw [hlen, List.append_assoc, List.take_append_drop]
        exact c2
      · rw [if_neg hn] at h; cases h
  · unfold cBytes
    have h1 := cod_num.back x.length (x ++ r) hx.1
    rw [← List.append_assoc] at h1
    rw [h1]
    simp only
    rw [if_pos (by simp), List.take_left, List.drop_left]
end Go.Proofs.YtohgopibimgjfaaGreat

/- P2: values, sets, patches and ops as bytes -/
namespace Go.Proofs.YtohgopibimgjfaaGreat
open Go.RowKit Go.Lib
set_option linter.unusedVariables false
set_option maxRecDepth 100000

/-- A text's bytes, as numbers. -/
def nu (s : ByteArray) : List Int := s.data.toList.map fun b => (b.toNat : Int)
theorem nu_okb (s : ByteArray) : Okb (nu s) := fun x hx => by
  obtain ⟨b, hb, rfl⟩ := List.mem_map.1 hx
  have := b.toNat_lt
  omega
theorem nu_len (s : ByteArray) : (nu s).length = s.size := by simp [nu]
theorem str_nu (s : ByteArray) : strOfNums (nu s) = s := by
  have h : (nu s).map (fun n : Int => UInt8.ofNat n.toNat) = s.data.toList := by
    unfold nu
    rw [List.map_map]
    conv => rhs; rw [← List.map_id s.data.toList]
    refine List.map_congr_left fun b hb => ?_
    simp
  have h2 : (strOfNums (nu s)).data.toList = s.data.toList := by rw [← h]; rfl
  have h3 : (strOfNums (nu s)).data = s.data := Array.ext' h2
  cases hs : strOfNums (nu s)
  cases s
  rw [hs] at h3
  simp only at h3
  rw [h3]
theorem nu_str {l : List Int} (h : Okb l) : nu (strOfNums l) = l := str_eq (nu_okb _) h (str_nu _)
theorem zig_zag (n : Nat) : zig (zag n) = n := by
  unfold zag zig
  by_cases h : n % 2 = 0
  · rw [if_pos h, if_pos (by omega)]; omega
  · rw [if_neg h, if_neg (by omega)]; omega
theorem zag_rng {n : Nat} (h : n < 18446744073709551616) : -9223372036854775808 ≤ zag n ∧ zag n ≤ 9223372036854775807 := by
  unfold zag
  split <;> omega

/-- A value. -/
structure Vl where
  k : Int
  n : Int
  f : Int
  s : ByteArray
  deriving DecidableEq
def zV : Vl := ⟨0, 0, 0, ⟨#[]⟩⟩
/-- A value of a kind, that may be told by bytes. -/
def VK (k : Nat) (v : Vl) : Prop := (1 ≤ k ∧ k ≤ 4) ∧ v.k = k ∧
  if k = 1 ∨ k = 2 then (-9223372036854775808 ≤ v.n ∧ v.n ≤ 9223372036854775807) ∧ v.f = 0 ∧ v.s = ⟨#[]⟩
  else if k = 3 then v.n = 0 ∧ (0 ≤ v.f ∧ v.f < 18446744073709551616) ∧ v.s = ⟨#[]⟩
  else v.n = 0 ∧ v.f = 0 ∧ v.s.size < 18446744073709551616
def eVal (k : Nat) (v : Vl) : List Int := if k = 1 ∨ k = 2 then form (zig v.n) else if k = 3 then form v.f.toNat else form v.s.size ++ nu v.s
def cVal (k : Nat) : List Int → Option (Vl × List Int) :=
  if k = 1 ∨ k = 2 then cMap (fun n : Nat => (⟨k, zag n, 0, ⟨#[]⟩⟩ : Vl)) cNum
  else if k = 3 then cMap (fun n : Nat => (⟨3, 0, n, ⟨#[]⟩⟩ : Vl)) cNum
  else if k = 4 then cMap (fun b : List Int => (⟨4, 0, 0, strOfNums b⟩ : Vl)) cBytes
  else fun _ => none
theorem vl_ext {v : Vl} {k n f : Int} {s : ByteArray} (h1 : v.k = k) (h2 : v.n = n) (h3 : v.f = f) (h4 : v.s = s) : (⟨k, n, f, s⟩ : Vl) = v := by
  cases v; simp only at h1 h2 h3 h4; subst h1 h2 h3 h4; rfl
theorem cod_val (k : Nat) : Cod (cVal k) (eVal k) (VK k) := by
  by_cases h1 : k = 1 ∨ k = 2
  · have e1 : cVal k = cMap (fun n : Nat => (⟨k, zag n, 0, ⟨#[]⟩⟩ : Vl)) cNum := by unfold cVal; rw [if_pos h1]
    have e2 : eVal k = fun v => form (zig v.n) := by funext v; unfold eVal; rw [if_pos h1]
    rw [e1, e2]
    refine cod_map (D := VK k) (fun n : Nat => (⟨k, zag n, 0, ⟨#[]⟩⟩ : Vl)) (fun v : Vl => zig v.n) cod_num (fun n hn => ⟨⟨by omega, rfl, ?_⟩, zig_zag n⟩) (fun v hv => ?_)
    · rw [if_pos h1]; exact ⟨zag_rng hn, rfl, rfl⟩
    · obtain ⟨-, h3, h4⟩ := hv
      rw [if_pos h1] at h4
      exact ⟨zig_lt _ h4.1.1 h4.1.2, vl_ext h3 (zag_zig _).symm h4.2.1 h4.2.2⟩
  by_cases h3 : k = 3
  · subst h3
    have e1 : cVal 3 = cMap (fun n : Nat => (⟨3, 0, n, ⟨#[]⟩⟩ : Vl)) cNum := rfl
    have e2 : eVal 3 = fun v => form v.f.toNat := rfl
    rw [e1, e2]
    refine cod_map (D := VK 3) (fun n : Nat => (⟨3, 0, n, ⟨#[]⟩⟩ : Vl)) (fun v : Vl => v.f.toNat) cod_num (fun n hn => ⟨⟨by omega, rfl, ?_⟩, by simp⟩) (fun v hv => ?_)
    · rw [if_neg (by omega), if_pos rfl]
      have : n < 18446744073709551616 := hn
      exact ⟨rfl, ⟨by simp, by simp only; omega⟩, rfl⟩
    · obtain ⟨-, h3, h4⟩ := hv
      rw [if_neg (by omega), if_pos rfl] at h4
      exact ⟨by show v.f.toNat < _; omega, vl_ext h3 h4.1 (by omega) h4.2.2⟩
  by_cases h4 : k = 4
  · subst h4
    have e1 : cVal 4 = cMap (fun b : List Int => (⟨4, 0, 0, strOfNums b⟩ : Vl)) cBytes := rfl
    have e2 : eVal 4 = fun v => form (nu v.s).length ++ nu v.s := by funext v; rw [nu_len]; rfl
    rw [e1, e2]
    refine cod_map (D := VK 4) (fun b : List Int => (⟨4, 0, 0, strOfNums b⟩ : Vl)) (fun v : Vl => nu v.s) cod_bytes (fun b hb => ⟨⟨by omega, rfl, ?_⟩, nu_str hb.2⟩) (fun v hv => ?_)
    · rw [if_neg (by omega), if_neg (by omega)]
      refine ⟨rfl, rfl, ?_⟩
      have h5 : (strOfNums b).size = b.length := by rw [← nu_len, nu_str hb.2]
      rw [h5]; exact hb.1
    · obtain ⟨-, h3, h4⟩ := hv
      rw [if_neg (by omega), if_neg (by omega)] at h4
      exact ⟨⟨by rw [nu_len]; exact h4.2.2, nu_okb _⟩, vl_ext h3 h4.1 h4.2.1 (str_nu _).symm⟩
  · have e1 : cVal k = fun _ => none := by unfold cVal; rw [if_neg h1, if_neg h3, if_neg h4]
    rw [e1]
    refine ⟨fun l x r _ h => by simp at h, fun x r h => ?_, fun x h => ?_⟩
    · have := h.1; omega
    · have := h.1; omega
theorem VK.lt {k : Nat} {v : Vl} (h : VK k v) : k < 18446744073709551616 := by have := h.1; omega
/-- A value, behind its kind. -/
def cVl : List Int → Option (Vl × List Int) := cMap (fun z : Nat × Vl => z.2) (cPair cNum cVal)
def eVl (v : Vl) : List Int := form v.k.toNat ++ eVal v.k.toNat v
def VC (v : Vl) : Prop := VK v.k.toNat v
theorem VK.k {k : Nat} {v : Vl} (h : VK k v) : v.k.toNat = k := by rw [h.2.1]; simp
theorem cod_vl : Cod cVl eVl VC := by
  refine cod_map (C := fun z : Nat × Vl => z.1 < 18446744073709551616 ∧ VK z.1 z.2) (D := VC) (fun z : Nat × Vl => z.2) (fun v : Vl => (v.k.toNat, v)) (cod_pair cod_num fun k _ => cod_val k) (fun z hz => ?_) (fun v hv => ⟨⟨hv.lt, hv⟩, rfl⟩)
  obtain ⟨k, v⟩ := z
  have hk := hz.2.k
  simp only at hk
  subst hk
  exact ⟨hz.2, rfl⟩
/-- A value, or none. -/
def cGone : List Int → Option (Vl × List Int) := cMap (fun z : Nat × Vl => z.2) (cPair cNum fun k => if k = 0 then fun l => some (zV, l) else cVal k)
def GC (v : Vl) : Prop := v = zV ∨ VC v
def eGone (v : Vl) : List Int := form v.k.toNat ++ if v.k.toNat = 0 then [] else eVal v.k.toNat v
theorem cod_none : Cod (fun l => some (zV, l)) (fun _ => []) (fun v : Vl => v = zV) := by
  refine ⟨fun l x r _ h => ?_, fun x r h => by rw [h]; rfl, fun _ _ => okb_nil⟩
  simp only [Option.some.injEq, Prod.mk.injEq] at h
  exact ⟨h.1.symm, h.2⟩
theorem cod_gone : Cod cGone eGone GC := by
  have hq : ∀ k : Nat, Cod (if k = 0 then fun l => some (zV, l) else cVal k) (fun v => if k = 0 then [] else eVal k v) (fun v => if k = 0 then v = zV else VK k v) := fun k => by
    by_cases h : k = 0
    · simp only [if_pos h]; exact cod_none
    · simp only [if_neg h]; exact cod_val k
  refine cod_map (C := fun z : Nat × Vl => z.1 < 18446744073709551616 ∧ if z.1 = 0 then z.2 = zV else VK z.1 z.2) (D := GC) (fun z : Nat × Vl => z.2) (fun v : Vl => (v.k.toNat, v)) (cod_pair cod_num fun k _ => hq k) (fun z hz => ?_) (fun v hv => ?_)
  · obtain ⟨k, v⟩ := z
    obtain ⟨h1, h2⟩ := hz
    simp only at h1 h2
    by_cases h : k = 0
    · rw [if_pos h] at h2
      subst h h2
      exact ⟨.inl rfl, rfl⟩
    · rw [if_neg h] at h2
      have hk := h2.k
      subst hk
      exact ⟨.inr h2, rfl⟩
  · rcases hv with rfl | hv
    · exact ⟨⟨by decide, (if_pos (show zV.k.toNat = 0 from rfl)).mpr rfl⟩, rfl⟩
    · have h0 : ¬ v.k.toNat = 0 := by have := hv.1; omega
      exact ⟨⟨hv.lt, by simp only [if_neg h0]; exact hv⟩, rfl⟩
/-- A key. -/
def cKey : List Int → Option (Nat × List Int) := cOnly (fun n => decide (n < 9223372036854775808)) cNum
theorem cod_key : Cod cKey form (fun n => n < 9223372036854775808) := by
  have h := cod_only (fun n => decide (n < 9223372036854775808)) cod_num
  refine ⟨fun l x r hl hp => ?_, fun x r hx => h.back x r ⟨by omega, decide_eq_true hx⟩, fun x _ => okb_form x⟩
  obtain ⟨h1, h2⟩ := h.out l x r hl hp
  exact ⟨of_decide_eq_true h1.2, h2⟩
/-- An attribute; a change. -/
def attOf (z : Nat × Vl) : Att := ⟨z.1, z.2.k, z.2.n, z.2.f, z.2.s⟩
def vlA (a : Att) : Vl := ⟨a.k, a.n, a.f, a.s⟩
def cAtt : List Int → Option (Att × List Int) := cMap attOf (cPair cKey fun _ => cVl)
def eAtt (a : Att) : List Int := form a.key.toNat ++ eVl (vlA a)
def AK (a : Att) : Prop := (0 ≤ a.key ∧ a.key < 9223372036854775808) ∧ VC (vlA a)
theorem cod_att : Cod cAtt eAtt AK := by
  refine cod_map (C := fun z : Nat × Vl => z.1 < 9223372036854775808 ∧ VC z.2) (D := AK) attOf (fun a : Att => (a.key.toNat, vlA a)) (cod_pair cod_key fun _ _ => cod_vl) (fun z hz => ?_) (fun a ha => ?_)
  · obtain ⟨k, v⟩ := z
    obtain ⟨h1, h2⟩ := hz
    simp only at h1 h2
    exact ⟨⟨⟨by simp [attOf], by simp only [attOf]; omega⟩, h2⟩, by simp [attOf, vlA]⟩
  · obtain ⟨⟨h1, h2⟩, h3⟩ := ha
    refine ⟨⟨by simp only; omega, h3⟩, ?_⟩
    cases a
    simp only [attOf, vlA] at *
    rw [Int.toNat_of_nonneg h1]
def chgOf (z : Nat × Vl) : Chg := ⟨z.1, z.2.k == 0, z.2.k, z.2.n, z.2.f, z.2.s⟩
def vlC (c : Chg) : Vl := ⟨c.k, c.n, c.f, c.s⟩
def cChg : List Int → Option (Chg × List Int) := cMap chgOf (cPair cKey fun _ => cGone)
def eChg (c : Chg) : List Int := form c.key.toNat ++ eGone (vlC c)
def GK (c : Chg) : Prop := (0 ≤ c.key ∧ c.key < 9223372036854775808) ∧ (if c.g then vlC c = zV else VC (vlC c))
theorem VC.k0 {v : Vl} (h : VC v) : (v.k == 0) = false := by
  have h1 := h.1
  have h2 := h.2.1
  simp
  omega
theorem cod_chg : Cod cChg eChg GK := by
  refine cod_map (C := fun z : Nat × Vl => z.1 < 9223372036854775808 ∧ GC z.2) (D := GK) chgOf (fun c : Chg => (c.key.toNat, vlC c)) (cod_pair cod_key fun _ _ => cod_gone) (fun z hz => ?_) (fun c hc => ?_)
  · obtain ⟨k, v⟩ := z
    obtain ⟨h1, h2⟩ := hz
    simp only at h1 h2
    refine ⟨⟨⟨by simp [chgOf], by simp only [chgOf]; omega⟩, ?_⟩, by simp [chgOf, vlC]⟩
    rcases h2 with rfl | h2
    · exact (if_pos (show (chgOf (k, zV)).g = true from rfl)).mpr rfl
    · have h0 := h2.k0
      have hg : (chgOf (k, v)).g = false := h0
      rw [hg, if_neg (by simp)]
      exact h2
  · obtain ⟨⟨h1, h2⟩, h3⟩ := hc
    obtain ⟨key, g, k, n, f, s⟩ := c
    simp only [vlC] at h1 h2 h3
    cases g
    · rw [if_neg (by simp)] at h3
      refine ⟨⟨by simp only; omega, .inr h3⟩, ?_⟩
      have h0 : (k == 0) = false := h3.k0
      simp only [chgOf, vlC, h0]
      rw [Int.toNat_of_nonneg h1]
    · rw [if_pos rfl] at h3
      refine ⟨⟨by simp only; omega, .inl h3⟩, ?_⟩
      simp only [zV, Vl.mk.injEq] at h3
      obtain ⟨rfl, rfl, rfl, rfl⟩ := h3
      simp only [chgOf, vlC]
      rw [Int.toNat_of_nonneg h1]
      rfl
end Go.Proofs.YtohgopibimgjfaaGreat

/- P3: runes, ops and deltas as bytes -/
namespace Go.Proofs.YtohgopibimgjfaaGreat
open Go.RowKit Go.Lib
set_option linter.unusedVariables false
set_option maxRecDepth 100000

theorem utfZ_okb (xs : List Int) (h : allMay xs = true) : Okb (utfZ xs) := fun b hb => by
  have e := bl_utfZ xs
  obtain ⟨x, hx, hb2⟩ := List.mem_flatMap.1 hb
  have hm := (allMay_iff xs).1 h x hx
  obtain ⟨m1, m2, m3⟩ := hm
  unfold encodeRuneZ at hb2
  repeat' split at hb2
  all_goals
    simp only [List.mem_cons, List.not_mem_nil, or_false] at hb2
    omega
/-- Runes, as bytes that have their number ahead. -/
def cRunes (l : List Int) : Option (List Int × List Int) := match cBytes l with
  | none => none
  | some (x, r) => match readL (bl x) with
    | none => none
    | some rs => some (rs, r)
def eRunes (rs : List Int) : List Int := form (utfZ rs).length ++ utfZ rs
def RK (rs : List Int) : Prop := allMay rs = true ∧ (utfZ rs).length < 18446744073709551616
theorem cRunes_no {l : List Int} (h : cBytes l = none) : cRunes l = none := by unfold cRunes; rw [h]
theorem cRunes_bad {l x r : List Int} (h : cBytes l = some (x, r)) (h2 : readL (bl x) = none) : cRunes l = none := by unfold cRunes; rw [h]; simp only [h2]
theorem cRunes_yes {l x r rs : List Int} (h : cBytes l = some (x, r)) (h2 : readL (bl x) = some rs) : cRunes l = some (rs, r) := by unfold cRunes; rw [h]; simp only [h2]
theorem read_utf {x rs : List Int} (hx : Okb x) (h : readL (bl x) = some rs) : allMay rs = true ∧ utfZ rs = x := by
  obtain ⟨h1, h2, -⟩ := read_back h
  exact ⟨h1, str_eq (utfZ_okb rs h1) hx h2⟩
theorem utf_read {rs : List Int} (h : allMay rs = true) : readL (bl (utfZ rs)) = some rs := by
  rw [bl_utfZ]; exact read_encs rs ((allMay_iff rs).1 h)
theorem cod_runes : Cod cRunes eRunes RK := by
  refine ⟨fun l rs r hl h => ?_, fun rs r h => ?_, fun rs h => (okb_form _).app (utfZ_okb rs h.1)⟩
  · cases h1 : cBytes l with
    | none => rw [cRunes_no h1] at h; cases h
    | some a =>
      obtain ⟨x, s⟩ := a
      cases h2 : readL (bl x) with
      | none => rw [cRunes_bad h1 h2] at h; cases h
      | some ys =>
        rw [cRunes_yes h1 h2] at h
        simp only [Option.some.injEq, Prod.mk.injEq] at h
        obtain ⟨rfl, rfl⟩ := h
        obtain ⟨⟨c1, c2⟩, c3⟩ := cod_bytes.out l x s hl h1
        obtain ⟨d1, d2⟩ := read_utf c2 h2
        subst d2
        exact ⟨⟨d1, c1⟩, c3⟩
  · exact cRunes_yes (cod_bytes.back (utfZ rs) r ⟨h.2, utfZ_okb rs h.1⟩) (utf_read h.1)
/-- A length, at most so great. -/
def cLen (M : Nat) : List Int → Option (Nat × List Int) := cOnly (fun n => decide (n ≤ M)) cNum
theorem cod_len {M : Nat} (hM : M < 18446744073709551616) : Cod (cLen M) form (fun n => n ≤ M) := by
  have h := cod_only (fun n => decide (n ≤ M)) cod_num
  refine ⟨fun l x r hl hp => ?_, fun x r hx => h.back x r ⟨by show x < _; omega, decide_eq_true hx⟩, fun x _ => okb_form x⟩
  obtain ⟨h1, h2⟩ := h.out l x r hl hp
  exact ⟨of_decide_eq_true h1.2, h2⟩
/-- An op of each kind. -/
def opR (z : Nat × List Chg) : Opn := ⟨1, z.1, [], [], z.2⟩
def opI (z : List Int × List Att) : Opn := ⟨2, 0, z.1, z.2, []⟩
def opD (n : Nat) : Opn := ⟨3, n, [], [], []⟩
def cOpR (M : Nat) : List Int → Option (Opn × List Int) := cMap opR (cPair (cLen M) fun _ => cList cChg)
def cOpI : List Int → Option (Opn × List Int) := cMap opI (cPair cRunes fun _ => cList cAtt)
def cOpD (M : Nat) : List Int → Option (Opn × List Int) := cMap opD (cLen M)
def ePatch (pt : List Chg) : List Int := form pt.length ++ pt.flatMap eChg
def eSet (st : List Att) : List Int := form st.length ++ st.flatMap eAtt
def KR (M : Nat) (o : Opn) : Prop := o.k = 1 ∧ (0 ≤ o.n ∧ o.n ≤ M) ∧ o.rs = [] ∧ o.st = [] ∧ o.pt.length < 18446744073709551616 ∧ ∀ c ∈ o.pt, GK c
def KI (o : Opn) : Prop := o.k = 2 ∧ o.n = 0 ∧ RK o.rs ∧ o.pt = [] ∧ o.st.length < 18446744073709551616 ∧ ∀ a ∈ o.st, AK a
def KD (M : Nat) (o : Opn) : Prop := o.k = 3 ∧ (0 ≤ o.n ∧ o.n ≤ M) ∧ o.rs = [] ∧ o.st = [] ∧ o.pt = []
theorem opn_ext {o : Opn} {k n : Int} {rs : List Int} {st : List Att} {pt : List Chg} (h1 : o.k = k) (h2 : o.n = n) (h3 : o.rs = rs) (h4 : o.st = st) (h5 : o.pt = pt) : (⟨k, n, rs, st, pt⟩ : Opn) = o := by
  cases o; simp only at h1 h2 h3 h4 h5; subst h1 h2 h3 h4 h5; rfl
theorem cod_opR {M : Nat} (hM : M < 18446744073709551616) : Cod (cOpR M) (fun o => form o.n.toNat ++ ePatch o.pt) (KR M) := by
  refine cod_map (C := fun z : Nat × List Chg => z.1 ≤ M ∧ (z.2.length < 18446744073709551616 ∧ ∀ c ∈ z.2, GK c)) (D := KR M) opR (fun o : Opn => (o.n.toNat, o.pt)) (cod_pair (cod_len hM) fun _ _ => cod_list cod_chg) (fun z hz => ?_) (fun o ho => ?_)
  · obtain ⟨n, pt⟩ := z
    obtain ⟨h1, h2, h3⟩ := hz
    simp only at h1 h2 h3
    exact ⟨⟨rfl, ⟨by simp [opR], by simp only [opR]; omega⟩, rfl, rfl, h2, h3⟩, by simp [opR]⟩
  · obtain ⟨h1, ⟨h2, h3⟩, h4, h5, h6, h7⟩ := ho
    exact ⟨⟨by simp only; omega, h6, h7⟩, opn_ext h1 (by simp only; omega) h4 h5 rfl⟩
theorem cod_opI : Cod cOpI (fun o => eRunes o.rs ++ eSet o.st) KI := by
  refine cod_map (C := fun z : List Int × List Att => RK z.1 ∧ (z.2.length < 18446744073709551616 ∧ ∀ c ∈ z.2, AK c)) (D := KI) opI (fun o : Opn => (o.rs, o.st)) (cod_pair cod_runes fun _ _ => cod_list cod_att) (fun z hz => ?_) (fun o ho => ?_)
  · exact ⟨⟨rfl, rfl, hz.1, rfl, hz.2.1, hz.2.2⟩, rfl⟩
  · obtain ⟨h1, h2, h3, h4, h5, h6⟩ := ho
    exact ⟨⟨h3, h5, h6⟩, opn_ext h1 h2 rfl rfl h4⟩
theorem cod_opD {M : Nat} (hM : M < 18446744073709551616) : Cod (cOpD M) (fun o => form o.n.toNat) (KD M) := by
  refine cod_map (C := fun n : Nat => n ≤ M) (D := KD M) opD (fun o : Opn => o.n.toNat) (cod_len hM) (fun n hn => ?_) (fun o ho => ?_)
  · exact ⟨⟨rfl, ⟨by simp [opD], by simp only [opD]; omega⟩, rfl, rfl, rfl⟩, by simp [opD]⟩
  · obtain ⟨h1, ⟨h2, h3⟩, h4, h5, h6⟩ := ho
    exact ⟨by omega, opn_ext h1 (by omega) h4 h5 h6⟩
/-- An op, told by its kind. -/
def cKind (M k : Nat) : List Int → Option (Opn × List Int) := if k = 1 then cOpR M else if k = 2 then cOpI else if k = 3 then cOpD M else fun _ => none
def eKind (k : Nat) (o : Opn) : List Int := if k = 1 then form o.n.toNat ++ ePatch o.pt else if k = 2 then eRunes o.rs ++ eSet o.st else form o.n.toNat
def KK (M k : Nat) (o : Opn) : Prop := if k = 1 then KR M o else if k = 2 then KI o else if k = 3 then KD M o else False
theorem cod_kind {M : Nat} (hM : M < 18446744073709551616) (k : Nat) : Cod (cKind M k) (eKind k) (KK M k) := by
  by_cases h1 : k = 1
  · subst h1; exact cod_opR hM
  by_cases h2 : k = 2
  · subst h2; exact cod_opI
  by_cases h3 : k = 3
  · subst h3; exact cod_opD hM
  · have e1 : cKind M k = fun _ => none := by unfold cKind; rw [if_neg h1, if_neg h2, if_neg h3]
    have e2 : KK M k = fun _ => False := by funext o; unfold KK; rw [if_neg h1, if_neg h2, if_neg h3]
    rw [e1, e2]
    exact ⟨fun l x r _ h => by simp at h, fun x r h => h.elim, fun x h => h.elim⟩
theorem KK.k {M k : Nat} {o : Opn} (h : KK M k o) : o.k = k ∧ 1 ≤ k ∧ k ≤ 3 := by
  unfold KK at h
  by_cases h1 : k = 1
  · subst h1; rw [if_pos rfl] at h; exact ⟨h.1, by omega, by omega⟩
  by_cases h2 : k = 2
  · subst h2; rw [if_neg h1, if_pos rfl] at h; exact ⟨h.1, by omega, by omega⟩
  by_cases h3 : k = 3
  · subst h3; rw [if_neg h1, if_neg h2, if_pos rfl] at h; exact ⟨h.1, by omega, by omega⟩
  · rw [if_neg h1, if_neg h2, if_neg h3] at h; exact h.elim
def cOp (M : Nat) : List Int → Option (Opn × List Int) := cMap (fun z : Nat × Opn => z.2) (cPair cNum (cKind M))
def eOp (o : Opn) : List Int := form o.k.toNat ++ eKind o.k.toNat o
/-- An op that may be told by bytes. -/
def OK (M : Nat) (o : Opn) : Prop := KK M o.k.toNat o
theorem cod_op {M : Nat} (hM : M < 18446744073709551616) : Cod (cOp M) eOp (OK M) := by
  refine cod_map (C := fun z : Nat × Opn => z.1 < 18446744073709551616 ∧ KK M z.1 z.2) (D := OK M) (fun z : Nat × Opn => z.2) (fun o : Opn => (o.k.toNat, o)) (cod_pair cod_num fun k _ => cod_kind hM k) (fun z hz => ?_) (fun o ho => ⟨⟨by have := ho.k; simp only; omega, ho⟩, rfl⟩)
  obtain ⟨k, o⟩ := z
  have hk := hz.2.k.1
  simp only at hk
  have e : o.k.toNat = k := by rw [hk]; simp
  subst e
  exact ⟨hz.2, rfl⟩
/-- A delta. -/
def cOps (M : Nat) : List Int → Option (List Opn × List Int) := cList (cOp M)
def encX (xs : List Opn) : List Int := form xs.length ++ xs.flatMap eOp
def XK (M : Nat) (xs : List Opn) : Prop := xs.length < 18446744073709551616 ∧ ∀ o ∈ xs, OK M o
theorem cod_ops {M : Nat} (hM : M < 18446744073709551616) : Cod (cOps M) encX (XK M) := cod_list (cod_op hM)
/-- All bytes, as a delta. -/
def cAll (M : Nat) (l : List Int) : Option (List Opn) := match cOps M l with
  | none => none
  | some (xs, r) => if r = [] then some xs else none
theorem cAll_some {M : Nat} (hM : M < 18446744073709551616) {l : List Int} (hl : Okb l) {xs : List Opn} : cAll M l = some xs ↔ XK M xs ∧ l = encX xs := by
  constructor
  · intro h
    unfold cAll at h
    cases h1 : cOps M l with
    | none => rw [h1] at h; cases h
    | some a =>
      obtain ⟨ys, r⟩ := a
      rw [h1] at h
      simp only at h
      by_cases hr : r = []
      · rw [if_pos hr] at h
        simp only [Option.some.injEq] at h
        subst h hr
        have := (cod_ops hM).out l ys [] hl h1
        rwa [List.append_nil] at this
      · rw [if_neg hr] at h; cases h
  · rintro ⟨h1, rfl⟩
    unfold cAll
    have := (cod_ops hM).back xs [] h1
    rw [List.append_nil] at this
    rw [this]
    simp
/-- The bytes tell the delta. -/
theorem encX_inj {M : Nat} (hM : M < 18446744073709551616) {xs ys : List Opn} (hx : XK M xs) (hy : XK M ys) (h : encX xs = encX ys) : xs = ys := by
  have := (cod_ops hM).apart (r := []) (s := []) hx hy (by rw [h])
  exact this.1
/-- No delta's bytes begin another's. -/
theorem encX_more {M : Nat} (hM : M < 18446744073709551616) {l : List Int} {b : Int} (hl : Okb l) (hb : 0 ≤ b ∧ b < 256) {xs : List Opn} (h : cAll M l = some xs) : cAll M (l ++ [b]) = none := by
  obtain ⟨h1, h2⟩ := (cAll_some hM hl).1 h
  cases hc : cAll M (l ++ [b]) with
  | none => rfl
  | some ys =>
    exfalso
    obtain ⟨h3, h4⟩ := (cAll_some hM (hl.app (fun x hx => by obtain rfl := List.mem_singleton.1 hx; exact hb))).1 hc
    have := (cod_ops hM).apart (r := [b]) (s := []) h1 h3 (by rw [← h2, h4, List.append_nil])
    simp at this
theorem encX_less {M : Nat} (hM : M < 18446744073709551616) {l : List Int} {b : Int} (hl : Okb (l ++ [b])) {xs : List Opn} (h : cAll M (l ++ [b]) = some xs) : cAll M l = none := by
  cases hc : cAll M l with
  | none => rfl
  | some ys =>
    have := encX_more hM hl.left (hl b (by simp)) hc
    rw [this] at h; cases h
theorem encX_pos (xs : List Opn) : 0 < (encX xs).length := by
  unfold encX
  have := form_pos xs.length
  rw [List.length_append]
  omega
/-- With another greatest length: the same, of what keeps both. -/
theorem OK.mono {M M' : Nat} {o : Opn} (h : OK M o) (hn : o.n ≤ M') : OK M' o := by
  unfold OK KK at *
  by_cases h1 : o.k.toNat = 1
  · rw [if_pos h1] at h ⊢; exact ⟨h.1, ⟨h.2.1.1, hn⟩, h.2.2⟩
  rw [if_neg h1] at h ⊢
  by_cases h2 : o.k.toNat = 2
  · rw [if_pos h2] at h ⊢; exact h
  rw [if_neg h2] at h ⊢
  by_cases h3 : o.k.toNat = 3
  · rw [if_pos h3] at h ⊢; exact ⟨h.1, ⟨h.2.1.1, hn⟩, h.2.2⟩
  · rw [if_neg h3] at h; exact h.elim
end Go.Proofs.YtohgopibimgjfaaGreat

/- F1 -/
/- F1: an op, a row of ops that came in or that is made -/
namespace Go.Proofs.YtohgopibimgjfaaGreat
open Go.RowKit Go.ChangeShapes Go.WideShapes Go.Deep
set_option linter.unusedVariables false

/-- An op as it is laid; an op as plain data. -/
structure OpV where
  k : Int
  n : Int
  ra : Option Addr
  rl : Nat
  rc : Nat
  sa : Option Addr
  sl : Nat
  sc : Nat
  pa : Option Addr
  pl : Nat
  pc : Nat
def opC : Cel OpV := ⟨fun o => [.int .u8 o.k, .int .i64 o.n, .slice o.ra o.rl o.rc, .slice o.sa o.sl o.sc, .slice o.pa o.pl o.pc], 5, fun _ => rfl, fun o u hu => by
  simp only [List.mem_cons, List.not_mem_nil, or_false] at hu
  rcases hu with rfl | rfl | rfl | rfl | rfl <;> rfl, by decide⟩
/-- What is true of its numbers. -/
structure FpW (p : Opn) : Prop where
  k : (Lit.int .u8 p.k).wf = true
  n : (Lit.int .i64 p.n).wf = true
  s : ∀ a ∈ p.st, AttW a
  p : ∀ c ∈ p.pt, ChgW c
/-- An op that reads so. -/
structure OpR (w : World) (o : OpV) (p : Opn) : Prop where
  k : o.k = p.k
  n : o.n = p.n
  r : Ints .i32 w (.slice o.ra o.rl o.rc) p.rs
  s : Arow w (.slice o.sa o.sl o.sc) p.st
  p : Crow w (.slice o.pa o.pl o.pc) p.pt
theorem OpR.below {w w' : World} {o : OpV} {p : Opn} (h : OpR w o p) (hb : Below w.heap.size w w') : OpR w' o p := ⟨h.k, h.n, h.r.below hb, h.s.below hb (Nat.le_refl _), h.p.below hb (Nat.le_refl _)⟩
theorem OpR.ll {w : World} {o : OpV} {p : Opn} (h : OpR w o p) : o.rl = p.rs.length ∧ o.sl = p.st.length ∧ o.pl = p.pt.length := by
  obtain ⟨a, c, e⟩ := h.r.shape
  obtain ⟨a2, c2, e2⟩ := h.s.shape
  obtain ⟨a3, c3, e3⟩ := h.p.shape
  injection e with _ e _
  injection e2 with _ e2 _
  injection e3 with _ e3 _
  exact ⟨e, e2, e3⟩
/-- A slice of ops that reads as ls. -/
def Frow (w : World) (v : Value) (ls : List Opn) : Prop := ∃ ss : List OpV, Row opC w v ss ∧ ss.length = ls.length ∧ ∀ j (h1 : j < ss.length) (h2 : j < ls.length), OpR w ss[j] ls[j]
theorem Frow.shape {w : World} {v : Value} {ls : List Opn} (h : Frow w v ls) : ∃ a cap, v = .slice a ls.length cap := by
  obtain ⟨ss, h1, h2, -⟩ := h
  obtain ⟨a, cap, rfl⟩ := h1.shape
  exact ⟨a, cap, by rw [h2]⟩
theorem Frow.len {w : World} {v : Value} {ls : List Opn} (h : Frow w v ls) : ls.length ≤ 9223372036854775807 := by
  obtain ⟨ss, h1, h2, -⟩ := h
  have := h1.len
  rwa [h2] at this
theorem Frow.below {w w' : World} {v : Value} {ls : List Opn} (h : Frow w v ls) (hb : Below w.heap.size w w') : Frow w' v ls := by
  obtain ⟨ss, h1, h2, h3⟩ := h
  exact ⟨ss, h1.below hb (Nat.le_refl _), h2, fun j q1 q2 => (h3 j q1 q2).below hb⟩
theorem Frow.opn {w : World} {a : Option Addr} {n cap : Nat} {ls : List Opn} (h : Frow w (.slice a n cap) ls) (h0 : 0 < ls.length) :
    ∃ b off, a = some ⟨b, off, none⟩ ∧ n = ls.length ∧ ls.length ≤ cap ∧ cap ≤ maxLen ∧ b < w.heap.size ∧ (∀ j (hj : j < ls.length), ∃ ra rc sa sc pa pc,
      w.cell? ⟨b, off + j * 5, none⟩ = some (.int .u8 ls[j].k) ∧ w.cell? ⟨b, off + j * 5 + 1, none⟩ = some (.int .i64 ls[j].n) ∧ w.cell? ⟨b, off + j * 5 + 2, none⟩ = some (.slice ra ls[j].rs.length rc) ∧ w.cell? ⟨b, off + j * 5 + 3, none⟩ = some (.slice sa ls[j].st.length sc) ∧ w.cell? ⟨b, off + j * 5 + 4, none⟩ = some (.slice pa ls[j].pt.length pc) ∧
      Ints .i32 w (.slice ra ls[j].rs.length rc) ls[j].rs ∧ Arow w (.slice sa ls[j].st.length sc) ls[j].st ∧ Crow w (.slice pa ls[j].pt.length pc) ls[j].pt) := by
  obtain ⟨ss, h1, h2, h3⟩ := h
  obtain ⟨b, off, ha, hn, hc, hm, hb, hat, -⟩ := Row.opened h1 (by omega)
  refine ⟨b, off, ha, by omega, by omega, hm, hb, fun j hj => ?_⟩
  have hj' : j < ss.length := by omega
  have hr := h3 j hj' hj
  obtain ⟨l1, l2, l3⟩ := hr.ll
  have c0 := hat j hj' 0 _ rfl
  have c1 := hat j hj' 1 _ rfl
  have c2 := hat j hj' 2 _ rfl
  have c3 := hat j hj' 3 _ rfl
  have c4 := hat j hj' 4 _ rfl
  have q1 := hr.r
  have q2 := hr.s
  have q3 := hr.p
  rw [l1] at c2 q1
  rw [l2] at c3 q2
  rw [l3] at c4 q3
  rw [hr.k] at c0
  rw [hr.n] at c1
  exact ⟨_, _, _, _, _, _, c0, c1, c2, c3, c4, q1, q2, q3⟩
/-- Its parts, as Go cuts them. -/
theorem Frow.head {w : World} {a : Option Addr} {n cap hi : Nat} {ls : List Opn} (h : Frow w (.slice a n cap) ls) (h2 : hi ≤ ls.length) : Frow w (.slice a hi cap) (ls.take hi) := by
  obtain ⟨ss, h1, e, h3⟩ := h
  refine ⟨ss.take hi, h1.head (by omega), by simp [e], fun j q1 q2 => ?_⟩
  rw [List.getElem_take, List.getElem_take]
  exact h3 j _ _
theorem Frow.tail {w : World} {a : Option Addr} {n cap lo : Nat} {ls : List Opn} (h : Frow w (.slice a n cap) ls) (h1 : lo ≤ ls.length) :
    (cap = lo → Frow w (.slice a (ls.length - lo) 0) (ls.drop lo)) ∧ (¬ cap = lo → Frow w (.slice (a.map fun x => x.add (lo * 5)) (ls.length - lo) (cap - lo)) (ls.drop lo)) := by
  obtain ⟨ss, k1, e, h3⟩ := h
  have k2 := k1.tail (lo := lo) (by omega)
  have hj : ∀ j (q1 : j < (ss.drop lo).length) (q2 : j < (ls.drop lo).length), OpR w (ss.drop lo)[j] (ls.drop lo)[j] := fun j q1 q2 => by
    rw [List.getElem_drop, List.getElem_drop]
    exact h3 _ _ _
  refine ⟨fun hc => ⟨ss.drop lo, ?_, by simp [e], hj⟩, fun hc => ⟨ss.drop lo, ?_, by simp [e], hj⟩⟩
  · rw [← e]; exact k2.1 hc
  · rw [← e]; exact k2.2 hc
theorem Frow.nil (w : World) : Frow w (.slice none 0 0) [] := ⟨[], Row.nil w, rfl, fun j h => by simp at h⟩
end Go.Proofs.YtohgopibimgjfaaGreat

/- F2 -/
/- F2: ops as plain data: lengths, sums, what may be, what is in place, what fits -/
namespace Go.Proofs.YtohgopibimgjfaaGreat
open Go.RowKit
set_option linter.unusedVariables false

/-- An op's length. -/
def lenO (p : Opn) : Int := if p.k = 2 then (p.rs.length : Int) else if 0 ≤ p.n then p.n else 0
def sat (n l : Int) : Int := n + if 9223372036854775807 - n < l then 9223372036854775807 - n else l
def cnt (kd : Int) (p : Opn) : Bool := p.k == 1 || p.k == kd
def sumK (kd : Int) (xs : List Opn) : Int := xs.foldl (fun n p => if cnt kd p then sat n (lenO p) else n) 0
def tot (kd : Int) (xs : List Opn) : Int := (xs.map fun p => if cnt kd p then lenO p else 0).sum
theorem lenO_nn (p : Opn) : 0 ≤ lenO p := by
  unfold lenO
  split
  · omega
  · split <;> omega
theorem sat_min {n l : Int} (h : n ≤ 9223372036854775807) : sat n l = min (n + l) 9223372036854775807 := by
  unfold sat
  split <;> omega
theorem sumK_snoc (kd : Int) (xs : List Opn) (x : Opn) : sumK kd (xs ++ [x]) = if cnt kd x then sat (sumK kd xs) (lenO x) else sumK kd xs := by simp [sumK]
theorem tot_app (kd : Int) (xs ys : List Opn) : tot kd (xs ++ ys) = tot kd xs + tot kd ys := by simp [tot]
theorem tot_cons (kd : Int) (x : Opn) (xs : List Opn) : tot kd (x :: xs) = (if cnt kd x then lenO x else 0) + tot kd xs := by simp [tot]
theorem tot_nil (kd : Int) : tot kd [] = 0 := rfl
theorem tot_nn (kd : Int) : ∀ xs : List Opn, 0 ≤ tot kd xs
  | [] => by simp [tot]
  | x :: r => by
    rw [tot_cons]
    have := tot_nn kd r
    have := lenO_nn x
    split <;> omega
theorem fold_tot (kd : Int) : ∀ (xs : List Opn) (n : Int), 0 ≤ n → n ≤ 9223372036854775807 → xs.foldl (fun n p => if cnt kd p then sat n (lenO p) else n) n = min (n + tot kd xs) 9223372036854775807
  | [], n, h0, h1 => by rw [List.foldl_nil, tot_nil]; omega
  | x :: r, n, h0, h1 => by
    rw [List.foldl_cons, tot_cons]
    have hx := lenO_nn x
    have hr := tot_nn kd r
    by_cases hc : cnt kd x = true
    · rw [if_pos hc, if_pos hc, fold_tot kd r _ (by rw [sat_min h1]; omega) (by rw [sat_min h1]; omega), sat_min h1]
      omega
    · rw [if_neg hc, if_neg hc, fold_tot kd r n h0 h1]
      omega
theorem sumK_tot (kd : Int) (xs : List Opn) : sumK kd xs = min (tot kd xs) 9223372036854775807 := by
  unfold sumK
  rw [fold_tot kd xs 0 (by omega) (by omega), Int.zero_add]
theorem sumK_rng (kd : Int) (xs : List Opn) : 0 ≤ sumK kd xs ∧ sumK kd xs ≤ 9223372036854775807 := by
  have := tot_nn kd xs
  rw [sumK_tot]; omega
theorem sum_step {kd : Int} {xs : List Opn} {k : Nat} (h : k < xs.length) : sumK kd (xs.take (k + 1)) = if cnt kd xs[k] then sat (sumK kd (xs.take k)) (lenO xs[k]) else sumK kd (xs.take k) := by rw [tsnoc h, sumK_snoc]

/-- What is told of one op. -/
def mayR (ks : List Key) (p : Opn) : Int := if lenO p < 1 ∨ 0 < p.rs.length ∨ 0 < p.st.length then 3 else may6 ks p.pt
def mayI (ks : List Key) (p : Opn) : Int := if lenO p < 1 ∨ p.n ≠ 0 ∨ 0 < p.pt.length then 3 else if p.rs.all mayB then may5 ks p.st else 3
def mayD (p : Opn) : Int := if lenO p < 1 ∨ 0 < p.rs.length ∨ 0 < p.st.length ∨ 0 < p.pt.length then 3 else 0
def mayO (ks : List Key) (p : Opn) : Int := if p.k = 1 then mayR ks p else if p.k = 2 then mayI ks p else if p.k = 3 then mayD p else 3
def told (ks : List Key) (xs : List Opn) : Int := if xs.any (fun p => mayO ks p == 3) then 3 else if xs.any (fun p => mayO ks p == 4) then 4 else 0
/-- What is told of a delta. -/
def mayX (ks : List Key) (xs : List Opn) : Int := if 536870912 < sumK 3 xs ∨ 536870912 < sumK 2 xs then 3 else told ks xs

/-- Has the set keys of that kind alone? -/
def aloneB (ks : List Key) (b : Bool) (a : Att) : Bool := match fnd ks a.key with
  | some k => k.blk == b
  | none => false
def alone (ks : List Key) (st : List Att) (b : Bool) : Bool := st.all (aloneB ks b)
/-- What is taken by kinds, and whether the last cell stays. -/
def tk (xs : List Opn) : Int := (xs.map fun p => if p.k = 2 then 0 else p.n).sum
def keeps (n : Int) (xs : List Opn) : Prop := ∀ j (h : j < xs.length), ¬ (xs[j].k ≠ 1 ∧ n - tk (xs.take (j + 1)) = 0)
noncomputable instance (n : Int) (xs : List Opn) : Decidable (keeps n xs) := Classical.propDecidable _
/-! ### steps -/
theorem any_step {q : Opn → Bool} {xs : List Opn} {k : Nat} (h : k < xs.length) : (xs.take (k + 1)).any q = ((xs.take k).any q || q xs[k]) := by rw [tsnoc h, List.any_append]; simp only [List.any_cons, List.any_nil, Bool.or_false]
theorem any_mem {q : Opn → Bool} {xs : List Opn} {k : Nat} (h : k < xs.length) (hq : q xs[k] = true) : xs.any q = true := List.any_eq_true.2 ⟨_, List.getElem_mem h, hq⟩
theorem told_3 {ks : List Key} {xs : List Opn} {k : Nat} (h : k < xs.length) (hq : mayO ks xs[k] = 3) : told ks xs = 3 := by
  unfold told
  rw [if_pos (any_mem h (by simp [hq]))]
/-- What has been told so far. -/
def Sofar (ks : List Key) (xs : List Opn) (k : Nat) (t : Int) : Prop := (xs.take k).any (fun p => mayO ks p == 3) = false ∧ t = if (xs.take k).any (fun p => mayO ks p == 4) then 4 else 0
theorem sofar_0 (ks : List Key) (xs : List Opn) : Sofar ks xs 0 0 := ⟨by simp, by simp⟩
theorem sofar_4 {ks : List Key} {xs : List Opn} {k : Nat} {t : Int} (hs : Sofar ks xs k t) (h : k < xs.length) (hq : mayO ks xs[k] = 4) : Sofar ks xs (k + 1) 4 := by
  refine ⟨?_, ?_⟩
  · rw [any_step h, hs.1, hq]; rfl
  · rw [any_step h, hq]; simp
theorem sofar_o {ks : List Key} {xs : List Opn} {k : Nat} {t : Int} (hs : Sofar ks xs k t) (h : k < xs.length) (h3 : mayO ks xs[k] ≠ 3) (h4 : mayO ks xs[k] ≠ 4) : Sofar ks xs (k + 1) t := by
  have e3 : (mayO ks xs[k] == 3) = false := by simpa using h3
  have e4 : (mayO ks xs[k] == 4) = false := by simpa using h4
  refine ⟨?_, ?_⟩
  · rw [any_step h, hs.1, e3]; rfl
  · rw [any_step h, e4, Bool.or_false]; exact hs.2
theorem sofar_end {ks : List Key} {xs : List Opn} {t : Int} (hs : Sofar ks xs xs.length t) : told ks xs = t := by
  obtain ⟨h1, h2⟩ := hs
  rw [List.take_length] at h1 h2
  unfold told
  rw [if_neg (by rw [h1]; exact Bool.false_ne_true), h2]
theorem all_step {α : Type} {q : α → Bool} {xs : List α} {k : Nat} (h : k < xs.length) (hp : (xs.take k).all q = true) (hx : q xs[k] = true) : (xs.take (k + 1)).all q = true := by rw [tsnoc h, List.all_append, hp]; simpa using hx
theorem all_bad {α : Type} {q : α → Bool} {xs : List α} {k : Nat} (h : k < xs.length) (hx : q xs[k] = false) : xs.all q = false := by rw [List.all_eq_false]; exact ⟨_, List.getElem_mem h, by rw [hx]; exact Bool.false_ne_true⟩
theorem all_end {α : Type} {q : α → Bool} {xs : List α} (hp : (xs.take xs.length).all q = true) : xs.all q = true := by rwa [List.take_length] at hp
end Go.Proofs.YtohgopibimgjfaaGreat

/- F3 -/
/- F3: an op's length; sets of one kind alone; in place -/
namespace Go.Proofs.YtohgopibimgjfaaGreat
open Go.RowKit
set_option linter.unusedVariables false

set_option maxRecDepth 100000 in
theorem flength_any (k n : Int) (m : Nat) (ra : Option Addr) (rc : Nat) (sa : Option Addr) (sl sc : Nat) (pa : Option Addr) (pl pc : Nat) (w : World) :
    Calls Tryz.prog 79 #[.agg (opcs k n ra m rc sa sl sc pa pl pc)] w fun e w' => e = .returned (.int .i64 (if k = 2 then (m : Int) else if 0 ≤ n then n else 0)) ∧ Below w.heap.size w w' := by
  have HB := Lib.hid (kbelow_one w (.cells (opcs k n ra m rc sa sl sc pa pl pc) 56))
  by_cases hk : k = 2
  · subst hk
    rw [if_pos rfl]
    go_enter Tryz.func79, Tryz.ntmps79
    go_wp2
    go_ret
    exact ⟨rfl, HB.out⟩
  · rw [if_neg hk]
    have e2 : (k == 2) = false := by simpa using hk
    by_cases h0 : 0 ≤ n
    · rw [if_pos h0]
      clear hk
      go_enter Tryz.func79, Tryz.ntmps79
      go_wp2
      go_ret
      refine ⟨ret_int ?_, HB.out⟩
      first | omega | (split <;> omega)
    · rw [if_neg h0]
      clear hk
      go_enter Tryz.func79, Tryz.ntmps79
      go_wp2
      go_ret
      refine ⟨ret_int ?_, HB.out⟩
      first | omega | (split <;> omega)

end Go.Proofs.YtohgopibimgjfaaGreat

/- F4 -/
/- F4: an op in its box; in place; what may be of each kind -/
namespace Go.Proofs.YtohgopibimgjfaaGreat
open Go.RowKit
set_option linter.unusedVariables false

/-- An op in a block of its own. -/
@[reducible] def OBox (b : Nat) (k n : Int) (ra : Option Addr) (rl rc : Nat) (sa : Option Addr) (sl sc : Nat) (pa : Option Addr) (pl pc : Nat) (w : World) : Prop :=
  w.cell? ⟨b, 0, none⟩ = some (.int .u8 k) ∧ w.cell? ⟨b, 1, none⟩ = some (.int .i64 n) ∧ w.cell? ⟨b, 2, none⟩ = some (.slice ra rl rc) ∧ w.cell? ⟨b, 3, none⟩ = some (.slice sa sl sc) ∧ w.cell? ⟨b, 4, none⟩ = some (.slice pa pl pc)
section
variable {k n : Int} {ra : Option Addr} {rl rc : Nat} {sa : Option Addr} {sl sc : Nat} {pa : Option Addr} {pl pc : Nat}
theorem OBox.below {B b : Nat} {w w' : World} (h : OBox b k n ra rl rc sa sl sc pa pl pc w) (hb : Below B w w') (hB : b < B) : OBox b k n ra rl rc sa sl sc pa pl pc w' := by
  obtain ⟨h0, h1, h2, h3, h4⟩ := h
  exact ⟨(hb.cell (p := ⟨b, _, none⟩) hB).trans h0, (hb.cell (p := ⟨b, _, none⟩) hB).trans h1, (hb.cell (p := ⟨b, _, none⟩) hB).trans h2, (hb.cell (p := ⟨b, _, none⟩) hB).trans h3, (hb.cell (p := ⟨b, _, none⟩) hB).trans h4⟩
theorem OBox.lt {b : Nat} {w : World} (h : OBox b k n ra rl rc sa sl sc pa pl pc w) : b < w.heap.size := World.block_lt_of_cell? w _ h.1
theorem OBox.stay {b : Nat} {w w' : World} (h : OBox b k n ra rl rc sa sl sc pa pl pc w) (hb : Below w.heap.size w w') : OBox b k n ra rl rc sa sl sc pa pl pc w' := h.below hb h.lt
end
theorem OBox.box (k n : Int) (ra : Option Addr) (rl rc : Nat) (sa : Option Addr) (sl sc : Nat) (pa : Option Addr) (pl pc : Nat) (w : World) (t : TypeId) : OBox w.heap.size k n ra rl rc sa sl sc pa pl pc (w.alloc (.cells (opcs k n ra rl rc sa sl sc pa pl pc) t)) := by
  refine ⟨?_, ?_, ?_, ?_, ?_⟩ <;> (rw [cell_of_row _ w.heap.size _ _ t (0, 0) (heap_alloc_new w _)]; rfl)

end Go.Proofs.YtohgopibimgjfaaGreat

/- F5 -/
/- F5: what may be of each kind -/
namespace Go.Proofs.YtohgopibimgjfaaGreat
open Go.RowKit
set_option linter.unusedVariables false

/-- An op's length, by its parts. -/
def lenK (k n : Int) (rl : Nat) : Int := if k = 2 then (rl : Int) else if 0 ≤ n then n else 0
theorem lenK_any (k n : Int) (rl : Nat) (ra : Option Addr) (rc : Nat) (sa : Option Addr) (sl sc : Nat) (pa : Option Addr) (pl pc : Nat) (lx : Int) (h : lenK k n rl = lx) (w : World) :
    Calls Tryz.prog 79 #[.agg (opcs k n ra rl rc sa sl sc pa pl pc)] w fun e w' => e = .returned (.int .i64 lx) ∧ Below w.heap.size w w' := by
  rw [← h]; exact flength_any k n rl ra rc sa sl sc pa pl pc w

set_option maxRecDepth 100000 in
set_option maxHeartbeats 2000000 in
theorem mayRetain_any (v : Value) (ks : List Key) (k n : Int) (pt : List Chg) (ra : Option Addr) (rl rc : Nat) (sa : Option Addr) (sl sc : Nat) (pa : Option Addr) (pl pc : Nat) (w : World)
    (hs : Sch w v ks) (hp : Crow w (.slice pa pl pc) pt) (hW : ∀ a ∈ pt, ChgW a) :
    Calls Tryz.prog 44 #[v, .agg (opcs k n ra rl rc sa sl sc pa pl pc)] w fun e w' => e = .returned (.int .i64 (if lenK k n rl < 1 ∨ 0 < rl ∨ 0 < sl then 3 else may6 ks pt)) ∧ Below w.heap.size w w' := by
  have HB := Lib.hid (kbelow_one w (.cells (opcs k n ra rl rc sa sl sc pa pl pc) 56))
  have HX := Lib.hid (OBox.box k n ra rl rc sa sl sc pa pl pc w 56)
  have HM := Lib.hid (fun W (hb : Below w.heap.size w W) => may_any6 v ks (.slice pa pl pc) pt W (hs.below hb (Nat.le_refl _)) (hp.below hb (Nat.le_refl _)) hW)
  obtain ⟨lx, hlx⟩ : ∃ l, lenK k n rl = l := ⟨_, rfl⟩
  have HL := Lib.hid (lenK_any k n rl ra rc sa sl sc pa pl pc lx hlx)
  rw [hlx]
  clear hs hp hW hlx
  generalize may6 ks pt = m at *
  by_cases h1 : lx < 1
  · rw [if_pos (.inl h1)]
    have d1 : decide (lx < 1) = true := decide_eq_true h1
    clear h1
    go_enter Tryz.func44, Tryz.ntmps44
    go_wp2_with (first
      | (go_at_call 79; (with_reducible refine (HL.out _).mono ?_); rintro e w1 ⟨rfl, hb⟩; have HB1 := Lib.hid (below_add HB.out hb HB.out.size); obtain ⟨c0, c1, c2, c3, c4⟩ := HX.out.stay hb; clear hb))
    go_ret
    exact ⟨rfl, HB1.out⟩
  have d1 : decide (lx < 1) = false := decide_eq_false h1
  by_cases h2 : 0 < rl
  · rw [if_pos (.inr (.inl h2))]
    have d2 : decide (0 < rl) = true := decide_eq_true h2
    have d3 : decide ((0 : Int) < (rl : Int)) = true := decide_eq_true (by omega)
    clear h1 h2
    go_enter Tryz.func44, Tryz.ntmps44
    go_wp2_with (first
      | (go_at_call 79; (with_reducible refine (HL.out _).mono ?_); rintro e w1 ⟨rfl, hb⟩; have HB1 := Lib.hid (below_add HB.out hb HB.out.size); obtain ⟨c0, c1, c2, c3, c4⟩ := HX.out.stay hb; clear hb))
    go_ret
    exact ⟨rfl, HB1.out⟩
  obtain rfl : rl = 0 := by omega
  by_cases h3 : 0 < sl
  · rw [if_pos (.inr (.inr h3))]
    have d2 : decide (0 < sl) = true := decide_eq_true h3
    have d3 : decide ((0 : Int) < (sl : Int)) = true := decide_eq_true (by omega)
    clear h1 h2 h3
    go_enter Tryz.func44, Tryz.ntmps44
    go_wp2_with (first
      | (go_at_call 79; (with_reducible refine (HL.out _).mono ?_); rintro e w1 ⟨rfl, hb⟩; have HB1 := Lib.hid (below_add HB.out hb HB.out.size); obtain ⟨c0, c1, c2, c3, c4⟩ := HX.out.stay hb; clear hb))
    go_ret
    exact ⟨rfl, HB1.out⟩
  obtain rfl : sl = 0 := by omega
  rw [if_neg (by omega)]
  clear h1 h2 h3
  go_enter Tryz.func44, Tryz.ntmps44
  go_wp2_with (first
    | (go_at_call 79; (with_reducible refine (HL.out _).mono ?_); rintro e w1 ⟨rfl, hb⟩; have HB1 := Lib.hid (below_add HB.out hb HB.out.size); obtain ⟨c0, c1, c2, c3, c4⟩ := HX.out.stay hb; clear hb)
    | (go_at_call 80; (with_reducible refine (HM.out _ HB1.out).mono ?_); rintro e w2 ⟨rfl, hb⟩; have HB2 := Lib.hid (below_add HB1.out hb HB1.out.size); clear hb))
  go_ret
  exact ⟨rfl, HB2.out⟩

set_option maxRecDepth 100000 in
set_option maxHeartbeats 2000000 in
theorem mayDelete_any (k n : Int) (ra : Option Addr) (rl rc : Nat) (sa : Option Addr) (sl sc : Nat) (pa : Option Addr) (pl pc : Nat) (w : World) :
    Calls Tryz.prog 46 #[.agg (opcs k n ra rl rc sa sl sc pa pl pc)] w fun e w' => e = .returned (.int .i64 (if lenK k n rl < 1 ∨ 0 < rl ∨ 0 < sl ∨ 0 < pl then 3 else 0)) ∧ Below w.heap.size w w' := by
  have HB := Lib.hid (kbelow_one w (.cells (opcs k n ra rl rc sa sl sc pa pl pc) 56))
  have HX := Lib.hid (OBox.box k n ra rl rc sa sl sc pa pl pc w 56)
  obtain ⟨lx, hlx⟩ : ∃ l, lenK k n rl = l := ⟨_, rfl⟩
  have HL := Lib.hid (lenK_any k n rl ra rc sa sl sc pa pl pc lx hlx)
  rw [hlx]
  clear hlx
  by_cases h1 : lx < 1
  · rw [if_pos (.inl h1)]
    have d1 : decide (lx < 1) = true := decide_eq_true h1
    clear h1
    go_enter Tryz.func46, Tryz.ntmps46
    go_wp2_with (first
      | (go_at_call 79; (with_reducible refine (HL.out _).mono ?_); rintro e w1 ⟨rfl, hb⟩; have HB1 := Lib.hid (below_add HB.out hb HB.out.size); obtain ⟨c0, c1, c2, c3, c4⟩ := HX.out.stay hb; clear hb))
    go_ret
    exact ⟨rfl, HB1.out⟩
  have d1 : decide (lx < 1) = false := decide_eq_false h1
  by_cases h2 : 0 < rl
  · rw [if_pos (.inr (.inl h2))]
    have d2 : decide (0 < rl) = true := decide_eq_true h2
    have d3 : decide ((0 : Int) < (rl : Int)) = true := decide_eq_true (by omega)
    clear h1 h2
    go_enter Tryz.func46, Tryz.ntmps46
    go_wp2_with (first
      | (go_at_call 79; (with_reducible refine (HL.out _).mono ?_); rintro e w1 ⟨rfl, hb⟩; have HB1 := Lib.hid (below_add HB.out hb HB.out.size); obtain ⟨c0, c1, c2, c3, c4⟩ := HX.out.stay hb; clear hb))
    go_ret
    exact ⟨rfl, HB1.out⟩
  obtain rfl : rl = 0 := by omega
  by_cases h3 : 0 < sl
  · rw [if_pos (.inr (.inr (.inl h3)))]
    have d2 : decide (0 < sl) = true := decide_eq_true h3
    have d3 : decide ((0 : Int) < (sl : Int)) = true := decide_eq_true (by omega)
    clear h1 h2 h3
    go_enter Tryz.func46, Tryz.ntmps46
    go_wp2_with (first
      | (go_at_call 79; (with_reducible refine (HL.out _).mono ?_); rintro e w1 ⟨rfl, hb⟩; have HB1 := Lib.hid (below_add HB.out hb HB.out.size); obtain ⟨c0, c1, c2, c3, c4⟩ := HX.out.stay hb; clear hb))
    go_ret
    exact ⟨rfl, HB1.out⟩
  obtain rfl : sl = 0 := by omega
  by_cases h4 : 0 < pl
  · rw [if_pos (.inr (.inr (.inr h4)))]
    have d2 : decide (0 < pl) = true := decide_eq_true h4
    have d3 : decide ((0 : Int) < (pl : Int)) = true := decide_eq_true (by omega)
    clear h1 h2 h3 h4
    go_enter Tryz.func46, Tryz.ntmps46
    go_wp2_with (first
      | (go_at_call 79; (with_reducible refine (HL.out _).mono ?_); rintro e w1 ⟨rfl, hb⟩; have HB1 := Lib.hid (below_add HB.out hb HB.out.size); obtain ⟨c0, c1, c2, c3, c4⟩ := HX.out.stay hb; clear hb))
    go_ret
    exact ⟨rfl, HB1.out⟩
  obtain rfl : pl = 0 := by omega
  rw [if_neg (by omega)]
  clear h1 h2 h3 h4
  go_enter Tryz.func46, Tryz.ntmps46
  go_wp2_with (first
    | (go_at_call 79; (with_reducible refine (HL.out _).mono ?_); rintro e w1 ⟨rfl, hb⟩; have HB1 := Lib.hid (below_add HB.out hb HB.out.size); obtain ⟨c0, c1, c2, c3, c4⟩ := HX.out.stay hb; clear hb))
  go_ret
  exact ⟨rfl, HB1.out⟩

set_option maxRecDepth 100000 in
set_option maxHeartbeats 2000000 in
theorem mayInsert_any (v : Value) (ks : List Key) (k n : Int) (rs : List Int) (st : List Att) (ra : Option Addr) (rl rc : Nat) (sa : Option Addr) (sl sc : Nat) (pa : Option Addr) (pl pc : Nat) (w : World)
    (hs : Sch w v ks) (hr : Ints .i32 w (.slice ra rl rc) rs) (ha : Arow w (.slice sa sl sc) st) (hW : ∀ a ∈ st, AttW a) (hrl : rs.length = rl) :
    Calls Tryz.prog 45 #[v, .agg (opcs k n ra rl rc sa sl sc pa pl pc)] w fun e w' => e = .returned (.int .i64 (if lenK k n rl < 1 ∨ n ≠ 0 ∨ 0 < pl then 3 else if rs.all mayB then may5 ks st else 3)) ∧ Below w.heap.size w w' := by
  have HB := Lib.hid (kbelow_one w (.cells (opcs k n ra rl rc sa sl sc pa pl pc) 56))
  have HX := Lib.hid (OBox.box k n ra rl rc sa sl sc pa pl pc w 56)
  have HM := Lib.hid (fun W (hb : Below w.heap.size w W) => may_any5 v ks (.slice sa sl sc) st W (hs.below hb (Nat.le_refl _)) (ha.below hb (Nat.le_refl _)) hW)
  have HR := Lib.hid (fun W (hb : Below w.heap.size w W) => hr.below hb)
  have HRM := Lib.hid (fun x w => may_any x w)
  have hl63 := hr.len
  obtain ⟨lx, hlx⟩ : ∃ l, lenK k n rl = l := ⟨_, rfl⟩
  have HL := Lib.hid (lenK_any k n rl ra rc sa sl sc pa pl pc lx hlx)
  rw [hlx]
  clear hs hr ha hW hlx
  generalize may5 ks st = m at *
  by_cases h1 : lx < 1
  · rw [if_pos (.inl h1)]
    have d1 : decide (lx < 1) = true := decide_eq_true h1
    clear h1 hrl hl63
    go_enter Tryz.func45, Tryz.ntmps45
    go_wp2_with (first
      | (go_at_call 79; (with_reducible refine (HL.out _).mono ?_); rintro e w1 ⟨rfl, hb⟩; have HB1 := Lib.hid (below_add HB.out hb HB.out.size); obtain ⟨c0, c1, c2, c3, c4⟩ := HX.out.stay hb; clear hb))
    go_ret
    exact ⟨rfl, HB1.out⟩
  have d1 : decide (lx < 1) = false := decide_eq_false h1
  by_cases h2 : n ≠ 0
  · rw [if_pos (.inr (.inl h2))]
    have e0 : (n == 0) = false := by simpa using h2
    have e1 : (n != 0) = true := by simpa using h2
    clear h1 h2 hrl hl63
    go_enter Tryz.func45, Tryz.ntmps45
    go_wp2_with (first
      | (go_at_call 79; (with_reducible refine (HL.out _).mono ?_); rintro e w1 ⟨rfl, hb⟩; have HB1 := Lib.hid (below_add HB.out hb HB.out.size); obtain ⟨c0, c1, c2, c3, c4⟩ := HX.out.stay hb; clear hb))
    go_ret
    exact ⟨rfl, HB1.out⟩
  obtain rfl : n = 0 := by omega
  by_cases h4 : 0 < pl
  · rw [if_pos (.inr (.inr h4))]
    have d2 : decide (0 < pl) = true := decide_eq_true h4
    have d3 : decide ((0 : Int) < (pl : Int)) = true := decide_eq_true (by omega)
    clear h1 h2 h4 hrl hl63
    go_enter Tryz.func45, Tryz.ntmps45
    go_wp2_with (first
      | (go_at_call 79; (with_reducible refine (HL.out _).mono ?_); rintro e w1 ⟨rfl, hb⟩; have HB1 := Lib.hid (below_add HB.out hb HB.out.size); obtain ⟨c0, c1, c2, c3, c4⟩ := HX.out.stay hb; clear hb))
    go_ret
    exact ⟨rfl, HB1.out⟩
  obtain rfl : pl = 0 := by omega
  rw [if_neg (by omega)]
  clear h1 h2 h4
  obtain ⟨res, hres⟩ : ∃ r, (if rs.all mayB then m else 3) = r := ⟨_, rfl⟩
  rw [hres]
  have HT := Lib.hid (show rs.all mayB = true → m = res from fun h => by rw [← hres, if_pos h])
  have HF := Lib.hid (show rs.all mayB = false → 3 = res from fun h => by rw [← hres, if_neg (by rw [h]; exact Bool.false_ne_true)])
  clear hres
  by_cases hr0 : 0 < rs.length
  rotate_left
  · obtain rfl : rs = [] := List.eq_nil_of_length_eq_zero (by omega)
    obtain rfl : rl = 0 := hrl.symm
    clear hr0 hrl hl63
    go_enter Tryz.func45, Tryz.ntmps45
    go_wp2_with (first
      | (go_at_call 79; (with_reducible refine (HL.out _).mono ?_); rintro e w1 ⟨rfl, hb⟩; have HB1 := Lib.hid (below_add HB.out hb HB.out.size); obtain ⟨c0, c1, c2, c3, c4⟩ := HX.out.stay hb; clear hb))
    refine wp_loop_rounds 1 ?_
    rw [rounds_succ]
    go_wp2_with (go_at_call 82; (with_reducible refine (HM.out _ HB1.out).mono ?_); rintro e w2 ⟨rfl, hb⟩; have HB2 := Lib.hid (below_add HB1.out hb HB1.out.size); clear hb)
    go_ret
    exact ⟨ret_int (HT.out rfl), HB2.out⟩
  have hrow := HR.out w (Below.refl _ _)
  obtain ⟨b1, o1, rfl, -, -, -, hat⟩ := Ints.opened hrow hr0
  have hbl : b1 < w.heap.size := World.block_lt_of_cell? w _ (hat 0 hr0)
  have HAT := Lib.hid hat
  subst hrl
  clear hrow hat
  go_enter Tryz.func45, Tryz.ntmps45
  go_wp2_with (first
    | (go_at_call 79; (with_reducible refine (HL.out _).mono ?_); rintro e w1 ⟨rfl, hb⟩; have HB1 := Lib.hid (below_add HB.out hb HB.out.size); have HX1 := Lib.hid (HX.out.stay hb); obtain ⟨c0, c1, c2, c3, c4⟩ := HX1.out; clear hb))
  clear c0 c1 c2 c3 c4
  go_loopw [24] (fun s24 wr => ∃ k : Nat, k ≤ rs.length ∧ s24 = .int .i64 k ∧ Hid ((rs.take k).all mayB = true ∧ Below w1.heap.size w1 wr)) (fun s24 _ => rs.length - (intOf s24).toNat)
  case atStart => exact ⟨0, Nat.zero_le _, rfl, Lib.hid ⟨rfl, Below.refl _ _⟩⟩
  case round =>
    obtain ⟨j, hj, rfl, HI⟩ := hrel
    have HI1 := Lib.hid HI.out.1
    have HBW := Lib.hid (below_add HB1.out HI.out.2 HB1.out.size)
    have HB9 := Lib.hid HI.out.2
    clear HI
    by_cases hlt : j < rs.length
    · have hc := HAT.out j hlt
      have c0 := (HBW.out.cell (p := ⟨b1, o1 + j, none⟩) hbl).trans hc
      have hY := fun h => all_step (q := mayB) hlt HI1.out h
      have hN := fun h => all_bad (q := mayB) hlt h
      have hg : rs.getD j 0 = rs[j] := by simp [List.getD, List.getElem?_eq_getElem hlt]
      try rw [hg] at c0
      have HLT := Lib.hid hlt
      have HMX := Lib.hid (HRM.out rs[j])
      generalize rs[j] = x at *
      generalize mayB x = mb at *
      clear hc hg
      cases mb
      · have HE := Lib.hid (hN rfl)
        clear hY hN
        go_wp2_with (go_at_call 81; (with_reducible refine (HMX.out _).mono ?_); rintro e w2 ⟨rfl, rfl⟩)
        go_ret
        exact ⟨ret_int (HF.out HE.out), HBW.out⟩
      · have HE := Lib.hid (hY rfl)
        clear hY hN
        go_wp2_with (go_at_call 81; (with_reducible refine (HMX.out _).mono ?_); rintro e w2 ⟨rfl, rfl⟩)
        go_roundw
        case rel => exact ⟨j + 1, HLT.out, by go_num, Lib.hid ⟨HE.out, HB9.out⟩⟩
        case measure => have := HLT.out; simp [intOf]; omega
    · obtain rfl : j = rs.length := by omega
      have HE := Lib.hid (all_end HI1.out)
      obtain ⟨c0, c1, c2, c3, c4⟩ := HX1.out.stay HB9.out
      go_wp2_with (go_at_call 82; (with_reducible refine (HM.out _ HBW.out).mono ?_); rintro e w2 ⟨rfl, hb⟩; have HB2 := Lib.hid (below_add HBW.out hb HBW.out.size); clear hb)
      go_ret
      exact ⟨ret_int (HT.out HE.out), HB2.out⟩
end Go.Proofs.YtohgopibimgjfaaGreat

/- F6 -/
/- F6: sums of lengths; the last cell -/
namespace Go.Proofs.YtohgopibimgjfaaGreat
open Go.RowKit
set_option linter.unusedVariables false

/-- An op at a place of a row. -/
def FAt (b o : Nat) (p : Opn) (w : World) : Prop := ∃ rl sl pl, p.rs.length = rl ∧ p.st.length = sl ∧ p.pt.length = pl ∧ ∃ ra rc sa sc pa pc,
  w.cell? ⟨b, o, none⟩ = some (.int .u8 p.k) ∧ w.cell? ⟨b, o + 1, none⟩ = some (.int .i64 p.n) ∧ w.cell? ⟨b, o + 2, none⟩ = some (.slice ra rl rc) ∧ w.cell? ⟨b, o + 3, none⟩ = some (.slice sa sl sc) ∧ w.cell? ⟨b, o + 4, none⟩ = some (.slice pa pl pc) ∧
  Ints .i32 w (.slice ra rl rc) p.rs ∧ Arow w (.slice sa sl sc) p.st ∧ Crow w (.slice pa pl pc) p.pt
theorem FAt.below {b o : Nat} {p : Opn} {w w' : World} (h : FAt b o p w) (hb : Below w.heap.size w w') : FAt b o p w' := by
  obtain ⟨rl, sl, pl, h1, h2, h3, ra, rc, sa, sc, pa, pc, c0, c1, c2, c3, c4, q1, q2, q3⟩ := h
  have hl : b < w.heap.size := World.block_lt_of_cell? w _ c0
  exact ⟨rl, sl, pl, h1, h2, h3, ra, rc, sa, sc, pa, pc, (hb.cell (p := ⟨b, _, none⟩) hl).trans c0, (hb.cell (p := ⟨b, _, none⟩) hl).trans c1, (hb.cell (p := ⟨b, _, none⟩) hl).trans c2, (hb.cell (p := ⟨b, _, none⟩) hl).trans c3, (hb.cell (p := ⟨b, _, none⟩) hl).trans c4, q1.below hb, q2.below hb (Nat.le_refl _), q3.below hb (Nat.le_refl _)⟩
theorem Frow.ats {w : World} {a : Option Addr} {n cap : Nat} {ls : List Opn} (h : Frow w (.slice a n cap) ls) (h0 : 0 < ls.length) :
    ∃ b off, a = some ⟨b, off, none⟩ ∧ n = ls.length ∧ ls.length ≤ cap ∧ cap ≤ maxLen ∧ b < w.heap.size ∧ ∀ j (hj : j < ls.length), FAt b (off + j * 5) ls[j] w := by
  obtain ⟨b, off, h1, h2, h3, h4, h5, hat⟩ := h.opn h0
  refine ⟨b, off, h1, h2, h3, h4, h5, fun j hj => ?_⟩
  obtain ⟨ra, rc, sa, sc, pa, pc, c0, c1, c2, c3, c4, q1, q2, q3⟩ := hat j hj
  exact ⟨_, _, _, rfl, rfl, rfl, ra, rc, sa, sc, pa, pc, c0, c1, c2, c3, c4, q1, q2, q3⟩

theorem cnt_1 {kd : Int} {p : Opn} (h : p.k = 1) : cnt kd p = true := by simp [cnt, h]
theorem cnt_k {kd : Int} {p : Opn} (h : p.k = kd) : cnt kd p = true := by simp [cnt, h]
theorem cnt_n {kd : Int} {p : Opn} (h1 : p.k ≠ 1) (h : p.k ≠ kd) : cnt kd p = false := by simp [cnt, h1, h]

set_option maxRecDepth 100000 in
set_option maxHeartbeats 4000000 in
theorem retained_any (kd : Int) (u : Value) (ls : List Opn) (w : World) (hv : Frow w u ls) :
    Calls Tryz.prog 78 #[.int .u8 kd, u] w fun e w' => e = .returned (.int .i64 (sumK kd ls)) ∧ Below w.heap.size w w' := by
  have hl : ls.length ≤ 9223372036854775807 := hv.len
  obtain ⟨a1, cap1, rfl⟩ := hv.shape
  by_cases h0 : 0 < ls.length
  rotate_left
  · obtain rfl : ls = [] := List.eq_nil_of_length_eq_zero (by omega)
    clear hv h0
    go_enter Tryz.func78, Tryz.ntmps78
    go_wp2
    refine wp_loop_rounds 1 ?_
    rw [rounds_succ]
    go_wp2
    go_ret
    exact ⟨rfl, Below.refl _ _⟩
  obtain ⟨b1, o1, rfl, -, -, -, hbl, hat⟩ := hv.ats h0
  have HAT := Lib.hid hat
  clear hv hat
  go_enter Tryz.func78, Tryz.ntmps78
  go_wp2
  go_loopw [5, 10] (fun s5 s10 wr => ∃ k : Nat, k ≤ ls.length ∧ s5 = .int .i64 (sumK kd (ls.take k)) ∧ s10 = .int .i64 k ∧ Hid (Below w.heap.size w wr)) (fun _ s10 _ => ls.length - (intOf s10).toNat)
  case atStart => exact ⟨0, Nat.zero_le _, rfl, rfl, Lib.hid (Below.refl _ _)⟩
  case round =>
    obtain ⟨k, hk, rfl, rfl, HR⟩ := hrel
    by_cases hlt : k < ls.length
    · have hoat := (HAT.out k hlt).below HR.out
      have hst := sum_step (kd := kd) hlt
      obtain ⟨hn0, hn1⟩ := sumK_rng kd (ls.take k)
      obtain ⟨hm0, hm1⟩ := sumK_rng kd (ls.take (k + 1))
      generalize sumK kd (ls.take k) = n at *
      have HLT := Lib.hid hlt
      generalize ls[k] = p at *
      have hlx0 := lenO_nn p
      have hlen : ∀ rl, p.rs.length = rl → lenK p.k p.n rl = lenO p := fun rl h => by rw [← h]; rfl
      have hc1 := @cnt_1 kd p
      have hck := @cnt_k kd p
      have hcn := @cnt_n kd p
      obtain ⟨rl, sl, pl, e1, e2, e3, ra, rc, sa, sc, pa, pc, c0, c1, c2, c3, c4, q1, q2, q3⟩ := hoat
      obtain ⟨lx, hlx⟩ : ∃ l, lenO p = l := ⟨_, rfl⟩
      have HL := Lib.hid (lenK_any p.k p.n rl ra rc sa sl sc pa pl pc lx (by rw [hlen rl e1, hlx]))
      rw [hlx] at hst hlx0
      have hrl := q1.len
      rw [e1] at hrl
      obtain ⟨pk, pn, prs, pst, ppt⟩ := p
      simp only at c0 c1 c2 c3 c4 HL hc1 hck hcn
      have HX := Lib.hid (kbelow_one wr (.cells (opcs pk pn ra rl rc sa sl sc pa pl pc) 56))
      have HB := Lib.hid (below_add HR.out HX.out HR.out.size)
      have HY := Lib.hid (OBox.box pk pn ra rl rc sa sl sc pa pl pc wr 56)
      clear q1 q2 q3 e1 e2 e3 hlen hlx hlt HR hrl
      by_cases hcc : cnt kd ⟨pk, pn, prs, pst, ppt⟩ = true
      · rw [if_pos hcc] at hst
        unfold sat at hst
        have HS := Lib.hid hst
        have hwho : pk = 1 ∨ (¬ pk = 1 ∧ pk = kd) := by
          simp only [cnt, Bool.or_eq_true, beq_iff_eq] at hcc
          omega
        clear hcc hc1 hck hcn
        by_cases hA : 9223372036854775807 - n < lx
        · rw [if_pos hA] at hst
          rw [if_pos hA] at HS
          rcases hwho with rfl | ⟨hne, rfl⟩
          · go_wp2_with (go_at_call 79; (with_reducible refine (HL.out _).mono ?_); rintro e w1 ⟨rfl, hb⟩; have HB1 := Lib.hid (below_add HB.out hb HB.out.size); clear hb)
            go_roundw
            case rel => exact ⟨k + 1, HLT.out, by rw [HS.out]; congr 1; omega, by go_num, HB1⟩
            case measure => have := HLT.out; simp [intOf]; omega
          · have e1 : (pk == 1) = false := by simpa using hne
            clear hne
            go_wp2_with (go_at_call 79; (with_reducible refine (HL.out _).mono ?_); rintro e w1 ⟨rfl, hb⟩; have HB1 := Lib.hid (below_add HB.out hb HB.out.size); clear hb)
            go_roundw
            case rel => exact ⟨k + 1, HLT.out, by rw [HS.out]; congr 1; omega, by go_num, HB1⟩
            case measure => have := HLT.out; simp [intOf]; omega
        · rw [if_neg hA] at hst
          rw [if_neg hA] at HS
          rcases hwho with rfl | ⟨hne, rfl⟩
          · go_wp2_with (go_at_call 79; (with_reducible refine (HL.out _).mono ?_); rintro e w1 ⟨rfl, hb⟩; have HB1 := Lib.hid (below_add HB.out hb HB.out.size); clear hb)
            go_roundw
            case rel => exact ⟨k + 1, HLT.out, by rw [HS.out]; congr 1; omega, by go_num, HB1⟩
            case measure => have := HLT.out; simp [intOf]; omega
          · have e1 : (pk == 1) = false := by simpa using hne
            clear hne
            go_wp2_with (go_at_call 79; (with_reducible refine (HL.out _).mono ?_); rintro e w1 ⟨rfl, hb⟩; have HB1 := Lib.hid (below_add HB.out hb HB.out.size); clear hb)
            go_roundw
            case rel => exact ⟨k + 1, HLT.out, by rw [HS.out]; congr 1; omega, by go_num, HB1⟩
            case measure => have := HLT.out; simp [intOf]; omega
      · rw [if_neg hcc] at hst
        have HS := Lib.hid hst
        have hne : ¬ pk = 1 ∧ ¬ pk = kd := by
          simp only [cnt, Bool.or_eq_true, beq_iff_eq] at hcc
          omega
        have e1 : (pk == 1) = false := by simpa using hne.1
        have e2 : (pk == kd) = false := by simpa using hne.2
        clear hcc hc1 hck hcn hne hst
        go_wp2
        go_roundw
        case rel => exact ⟨k + 1, HLT.out, by rw [HS.out], by go_num, HB⟩
        case measure => have := HLT.out; simp [intOf]; omega
    · obtain rfl : k = ls.length := by omega
      have HE := Lib.hid (show sumK kd (ls.take ls.length) = sumK kd ls by rw [List.take_length])
      go_wp2
      go_ret
      exact ⟨ret_int HE.out, HR.out⟩

theorem ftakes_any (u : Value) (ls : List Opn) (w : World) (hv : Frow w u ls) :
    Calls Tryz.prog 42 #[u] w fun e w' => e = .returned (.int .i64 (sumK 3 ls)) ∧ Below w.heap.size w w' := by
  have HR := Lib.hid (retained_any 3 u ls w hv)
  clear hv
  go_enter Tryz.func42, Tryz.ntmps42
  go_wp2_with (go_at_call 78; (with_reducible refine (HR.out).mono ?_); rintro e w1 ⟨rfl, hb⟩)
  go_ret
  exact ⟨rfl, hb⟩
theorem fmakes_any (u : Value) (ls : List Opn) (w : World) (hv : Frow w u ls) :
    Calls Tryz.prog 43 #[u] w fun e w' => e = .returned (.int .i64 (sumK 2 ls)) ∧ Below w.heap.size w w' := by
  have HR := Lib.hid (retained_any 2 u ls w hv)
  clear hv
  go_enter Tryz.func43, Tryz.ntmps43
  go_wp2_with (go_at_call 78; (with_reducible refine (HR.out).mono ?_); rintro e w1 ⟨rfl, hb⟩)
  go_ret
  exact ⟨rfl, hb⟩
end Go.Proofs.YtohgopibimgjfaaGreat

/- F7 -/
/- F7: May -/
namespace Go.Proofs.YtohgopibimgjfaaGreat
open Go.RowKit
set_option linter.unusedVariables false

/-- An op, told by its kind. -/
theorem mayO_1 (ks : List Key) (p : Opn) (h : p.k = 1) : mayO ks p = if lenK p.k p.n p.rs.length < 1 ∨ 0 < p.rs.length ∨ 0 < p.st.length then 3 else may6 ks p.pt := by unfold mayO; rw [if_pos h]; rfl
theorem mayO_2 (ks : List Key) (p : Opn) (h : p.k = 2) : mayO ks p = if lenK p.k p.n p.rs.length < 1 ∨ p.n ≠ 0 ∨ 0 < p.pt.length then 3 else if p.rs.all mayB then may5 ks p.st else 3 := by unfold mayO; rw [if_neg (by omega), if_pos h]; rfl
theorem mayO_3 (ks : List Key) (p : Opn) (h : p.k = 3) : mayO ks p = if lenK p.k p.n p.rs.length < 1 ∨ 0 < p.rs.length ∨ 0 < p.st.length ∨ 0 < p.pt.length then 3 else 0 := by unfold mayO; rw [if_neg (by omega), if_neg (by omega), if_pos h]; rfl
theorem mayO_n (ks : List Key) (p : Opn) (h1 : p.k ≠ 1) (h2 : p.k ≠ 2) (h3 : p.k ≠ 3) : mayO ks p = 3 := by unfold mayO; rw [if_neg h1, if_neg h2, if_neg h3]

set_option maxRecDepth 100000 in
set_option maxHeartbeats 4000000 in
theorem may_anyX (v u : Value) (ks : List Key) (ls : List Opn) (w : World) (hs : Sch w v ks) (hv : Frow w u ls) (hW : ∀ p ∈ ls, FpW p) :
    Calls Tryz.prog 20 #[v, u] w fun e w' => e = .returned (.int .i64 (mayX ks ls)) ∧ Below w.heap.size w w' := by
  have hl : ls.length ≤ 9223372036854775807 := hv.len
  have HTK := Lib.hid (fun W (hb : Below w.heap.size w W) => ftakes_any u ls W (hv.below hb))
  have HMK := Lib.hid (fun W (hb : Below w.heap.size w W) => fmakes_any u ls W (hv.below hb))
  obtain ⟨a1, cap1, rfl⟩ := hv.shape
  unfold mayX
  generalize sumK 3 ls = t3 at *
  generalize sumK 2 ls = t2 at *
  have HB0 := Lib.hid (Below.refl w.heap.size w)
  by_cases h3 : 536870912 < t3
  · rw [if_pos (.inl h3)]
    clear hv hW hs
    go_enter Tryz.func20, Tryz.ntmps20
    go_wp2
    go_step3
    go_wp2_with (go_at_call 42; (with_reducible refine (HTK.out _ HB0.out).mono ?_); rintro e w1 ⟨rfl, hb⟩; have HB1 := Lib.hid (below_add HB0.out hb HB0.out.size); clear hb)
    try rw [Exit.noGoto_ret]
    go_ret
    exact ⟨rfl, HB1.out⟩
  by_cases h2 : 536870912 < t2
  · rw [if_pos (.inr h2)]
    clear hv hW hs
    go_enter Tryz.func20, Tryz.ntmps20
    go_wp2
    go_step3
    go_wp2_with (first
      | (go_at_call 42; (with_reducible refine (HTK.out _ HB0.out).mono ?_); rintro e w1 ⟨rfl, hb⟩; have HB1 := Lib.hid (below_add HB0.out hb HB0.out.size); clear hb)
      | (go_at_call 43; (with_reducible refine (HMK.out _ HB1.out).mono ?_); rintro e w1 ⟨rfl, hb⟩; have HB2 := Lib.hid (below_add HB1.out hb HB1.out.size); clear hb))
    try rw [Exit.noGoto_ret]
    go_ret
    exact ⟨rfl, HB2.out⟩
  rw [if_neg (by omega)]
  by_cases h0 : 0 < ls.length
  rotate_left
  · obtain rfl : ls = [] := List.eq_nil_of_length_eq_zero (by omega)
    simp only [List.length_nil] at HTK HMK
    clear hv hW hs h0
    go_enter Tryz.func20, Tryz.ntmps20
    go_wp2
    go_step3
    go_wp2_with (first
      | (go_at_call 42; (with_reducible refine (HTK.out _ HB0.out).mono ?_); rintro e w1 ⟨rfl, hb⟩; have HB1 := Lib.hid (below_add HB0.out hb HB0.out.size); clear hb)
      | (go_at_call 43; (with_reducible refine (HMK.out _ HB1.out).mono ?_); rintro e w1 ⟨rfl, hb⟩; have HB2 := Lib.hid (below_add HB1.out hb HB1.out.size); clear hb))
    go_step3
    go_wp2
    refine wp_loop_rounds 1 ?_
    rw [rounds_succ]
    go_wp2
    try rw [Exit.noGoto_ret]
    go_ret
    exact ⟨rfl, HB2.out⟩
  obtain ⟨b1, o1, rfl, -, -, -, hbl, hat⟩ := hv.ats h0
  have HAT := Lib.hid hat
  have HS := Lib.hid hs
  clear hv hat hs
  go_enter Tryz.func20, Tryz.ntmps20
  go_wp2
  go_step3
  go_wp2_with (first
    | (go_at_call 42; (with_reducible refine (HTK.out _ HB0.out).mono ?_); rintro e w1 ⟨rfl, hb⟩; have HB1 := Lib.hid (below_add HB0.out hb HB0.out.size); clear hb)
    | (go_at_call 43; (with_reducible refine (HMK.out _ HB1.out).mono ?_); rintro e w1 ⟨rfl, hb⟩; have HB2 := Lib.hid (below_add HB1.out hb HB1.out.size); clear hb))
  go_step3
  go_wp2
  go_loopw [5, 19] (fun s5 s19 wr => ∃ (k : Nat) (t : Int), k ≤ ls.length ∧ s5 = .int .i64 t ∧ s19 = .int .i64 k ∧ Hid (Sofar ks ls k t ∧ Below w.heap.size w wr)) (fun _ s19 _ => ls.length - (intOf s19).toNat)
  case atStart => exact ⟨0, 0, Nat.zero_le _, rfl, rfl, Lib.hid ⟨sofar_0 ks ls, HB2.out⟩⟩
  case round =>
    clear HB2 HTK HMK HB0 HB1
    obtain ⟨k, t, hk, rfl, rfl, HR⟩ := hrel
    by_cases hlt : k < ls.length
    · have hoat := (HAT.out k hlt).below HR.out.2
      have hw := hW _ (List.getElem_mem hlt)
      have HLT := Lib.hid hlt
      have HT3 := Lib.hid (fun h => told_3 (ks := ks) hlt h)
      have HS4 := Lib.hid (fun h => sofar_4 HR.out.1 hlt h)
      have HSO := Lib.hid (fun h3 h4 => sofar_o HR.out.1 hlt h3 h4)
      have HBR := Lib.hid HR.out.2
      have m1 := mayO_1 ks ls[k]
      have m2 := mayO_2 ks ls[k]
      have m3 := mayO_3 ks ls[k]
      have m4 := mayO_n ks ls[k]
      generalize ls[k] = p at *
      obtain ⟨m, hm⟩ : ∃ m, mayO ks p = m := ⟨_, rfl⟩
      rw [hm] at m1 m2 m3 m4 HT3 HS4 HSO
      obtain ⟨rl, sl, pl, e1, e2, e3, ra, rc, sa, sc, pa, pc, c0, c1, c2, c3, c4, q1, q2, q3⟩ := hoat
      have hsw := HS.out.below HBR.out (Nat.le_refl _)
      rw [e1, e2] at m1
      rw [e1, e3] at m2
      rw [e1, e2, e3] at m3
      have HX := Lib.hid (kbelow_one wr (.cells (opcs p.k p.n ra rl rc sa sl sc pa pl pc) 56))
      have HR1 := Lib.hid (fun W (hb : Below wr.heap.size wr W) (h : p.k = 1) => by have := mayRetain_any v ks p.k p.n p.pt ra rl rc sa sl sc pa pl pc W (hsw.below hb (Nat.le_refl _)) (q3.below hb (Nat.le_refl _)) hw.p; rw [← m1 h] at this; exact this)
      have HR2 := Lib.hid (fun W (hb : Below wr.heap.size wr W) (h : p.k = 2) => by have := mayInsert_any v ks p.k p.n p.rs p.st ra rl rc sa sl sc pa pl pc W (hsw.below hb (Nat.le_refl _)) (q1.below hb) (q2.below hb (Nat.le_refl _)) hw.s e1; rw [← m2 h] at this; exact this)
      have HR3 := Lib.hid (fun W (h : p.k = 3) => by have := mayDelete_any p.k p.n ra rl rc sa sl sc pa pl pc W; rw [← m3 h] at this; exact this)
      have HB := Lib.hid (below_add HBR.out HX.out HBR.out.size)
      obtain ⟨pk, pn, prs, pst, ppt⟩ := p
      simp only at c0 c1 c2 c3 c4 HR1 HR2 HR3 HX HB m4
      clear q1 q2 q3 e1 e2 e3 hm hlt HR hw hsw m1 m2 m3
      have hkind : pk = 1 ∨ pk = 2 ∨ pk = 3 ∨ (pk ≠ 1 ∧ pk ≠ 2 ∧ pk ≠ 3) := by omega
      rcases hkind with rfl | rfl | rfl | ⟨n1, n2, n3⟩
      · have HRR := Lib.hid (fun W hb => HR1.out W hb rfl)
        clear HR1 HR2 HR3 m4
        by_cases hm3 : m = 3
        · subst hm3
          go_wp2_with (go_at_call 44; (with_reducible refine (HRR.out _ HX.out).mono ?_); rintro e w3 ⟨rfl, hb⟩; have HB3 := Lib.hid (below_add HB.out hb HB.out.size); clear hb)
          try rw [Exit.noGoto_ret]
          go_ret
          exact ⟨ret_int (HT3.out (by trivial)).symm, HB3.out⟩
        · have f3 : (m == 3) = false := by simpa using hm3
          by_cases hm4 : m = 4
          · subst hm4
            have HNX := Lib.hid (HS4.out rfl)
            clear hm3
            go_wp2_with (go_at_call 44; (with_reducible refine (HRR.out _ HX.out).mono ?_); rintro e w3 ⟨rfl, hb⟩; have HB3 := Lib.hid (below_add HB.out hb HB.out.size); clear hb)
            go_roundw
            case rel => exact ⟨k + 1, 4, HLT.out, rfl, by go_num, Lib.hid ⟨HNX.out, HB3.out⟩⟩
            case measure => have := HLT.out; simp [intOf]; omega
          · have f4 : (m == 4) = false := by simpa using hm4
            have HNX := Lib.hid (HSO.out hm3 hm4)
            clear hm3 hm4
            go_wp2_with (go_at_call 44; (with_reducible refine (HRR.out _ HX.out).mono ?_); rintro e w3 ⟨rfl, hb⟩; have HB3 := Lib.hid (below_add HB.out hb HB.out.size); clear hb)
            go_roundw
            case rel => exact ⟨k + 1, t, HLT.out, rfl, by go_num, Lib.hid ⟨HNX.out, HB3.out⟩⟩
            case measure => have := HLT.out; simp [intOf]; omega
      · have HRR := Lib.hid (fun W hb => HR2.out W hb rfl)
        clear HR1 HR2 HR3 m4
        by_cases hm3 : m = 3
        · subst hm3
          go_wp2_with (go_at_call 45; (with_reducible refine (HRR.out _ HX.out).mono ?_); rintro e w3 ⟨rfl, hb⟩; have HB3 := Lib.hid (below_add HB.out hb HB.out.size); clear hb)
          try rw [Exit.noGoto_ret]
          go_ret
          exact ⟨ret_int (HT3.out (by trivial)).symm, HB3.out⟩
        · have f3 : (m == 3) = false := by simpa using hm3
          by_cases hm4 : m = 4
          · subst hm4
            have HNX := Lib.hid (HS4.out rfl)
            clear hm3
            go_wp2_with (go_at_call 45; (with_reducible refine (HRR.out _ HX.out).mono ?_); rintro e w3 ⟨rfl, hb⟩; have HB3 := Lib.hid (below_add HB.out hb HB.out.size); clear hb)
            go_roundw
            case rel => exact ⟨k + 1, 4, HLT.out, rfl, by go_num, Lib.hid ⟨HNX.out, HB3.out⟩⟩
            case measure => have := HLT.out; simp [intOf]; omega
          · have f4 : (m == 4) = false := by simpa using hm4
            have HNX := Lib.hid (HSO.out hm3 hm4)
            clear hm3 hm4
            go_wp2_with (go_at_call 45; (with_reducible refine (HRR.out _ HX.out).mono ?_); rintro e w3 ⟨rfl, hb⟩; have HB3 := Lib.hid (below_add HB.out hb HB.out.size); clear hb)
            go_roundw
            case rel => exact ⟨k + 1, t, HLT.out, rfl, by go_num, Lib.hid ⟨HNX.out, HB3.out⟩⟩
            case measure => have := HLT.out; simp [intOf]; omega
      · have HRR := Lib.hid (fun W => HR3.out W rfl)
        clear HR1 HR2 HR3 m4
        by_cases hm3 : m = 3
        · subst hm3
          go_wp2_with (go_at_call 46; (with_reducible refine (HRR.out _).mono ?_); rintro e w3 ⟨rfl, hb⟩; have HB3 := Lib.hid (below_add HB.out hb HB.out.size); clear hb)
          try rw [Exit.noGoto_ret]
          go_ret
          exact ⟨ret_int (HT3.out (by trivial)).symm, HB3.out⟩
        · have f3 : (m == 3) = false := by simpa using hm3
          by_cases hm4 : m = 4
          · subst hm4
            have HNX := Lib.hid (HS4.out rfl)
            clear hm3
            go_wp2_with (go_at_call 46; (with_reducible refine (HRR.out _).mono ?_); rintro e w3 ⟨rfl, hb⟩; have HB3 := Lib.hid (below_add HB.out hb HB.out.size); clear hb)
            go_roundw
            case rel => exact ⟨k + 1, 4, HLT.out, rfl, by go_num, Lib.hid ⟨HNX.out, HB3.out⟩⟩
            case measure => have := HLT.out; simp [intOf]; omega
          · have f4 : (m == 4) = false := by simpa using hm4
            have HNX := Lib.hid (HSO.out hm3 hm4)
            clear hm3 hm4
            go_wp2_with (go_at_call 46; (with_reducible refine (HRR.out _).mono ?_); rintro e w3 ⟨rfl, hb⟩; have HB3 := Lib.hid (below_add HB.out hb HB.out.size); clear hb)
            go_roundw
            case rel => exact ⟨k + 1, t, HLT.out, rfl, by go_num, Lib.hid ⟨HNX.out, HB3.out⟩⟩
            case measure => have := HLT.out; simp [intOf]; omega
      · obtain rfl : m = 3 := m4 n1 n2 n3
        have e1 : (pk == 1) = false := by simpa using n1
        have e2 : (pk == 2) = false := by simpa using n2
        have e3 : (pk == 3) = false := by simpa using n3
        clear HR1 HR2 HR3 m4 n1 n2 n3
        go_wp2
        try rw [Exit.noGoto_ret]
        go_ret
        exact ⟨ret_int (HT3.out (by trivial)).symm, HB.out⟩
    · obtain rfl : k = ls.length := by omega
      have HE := Lib.hid (sofar_end HR.out.1)
      have HBR := Lib.hid HR.out.2
      go_wp2
      try rw [Exit.noGoto_ret]
      go_ret
      exact ⟨ret_int HE.out.symm, HBR.out⟩
end Go.Proofs.YtohgopibimgjfaaGreat

/- F8 -/
/- F8: what is true of a delta that may be; InPlace, the last cell -/
namespace Go.Proofs.YtohgopibimgjfaaGreat
open Go.RowKit
set_option linter.unusedVariables false

/-- An op of which no error is told. -/
structure Fine (ks : List Key) (p : Opn) : Prop where
  n3 : mayO ks p ≠ 3
  n4 : mayO ks p ≠ 4
theorem Fine.kind {ks : List Key} {p : Opn} (h : Fine ks p) : p.k = 1 ∨ p.k = 2 ∨ p.k = 3 := by
  have h3 := h.n3
  unfold mayO at h3
  by_cases q1 : p.k = 1
  · exact .inl q1
  by_cases q2 : p.k = 2
  · exact .inr (.inl q2)
  by_cases q3 : p.k = 3
  · exact .inr (.inr q3)
  rw [if_neg q1, if_neg q2, if_neg q3] at h3
  exact absurd rfl h3
theorem Fine.len {ks : List Key} {p : Opn} (h : Fine ks p) : 1 ≤ lenO p := by
  have h3 := h.n3
  have := h.kind
  unfold mayO mayR mayI mayD at h3
  apply Int.not_lt.1
  intro hl
  apply h3
  rcases this with q | q | q
  · rw [if_pos q, if_pos (.inl hl)]
  · rw [if_neg (by omega), if_pos q, if_pos (.inl hl)]
  · rw [if_neg (by omega), if_neg (by omega), if_pos q, if_pos (.inl hl)]
theorem Fine.num {ks : List Key} {p : Opn} (h : Fine ks p) (h2 : p.k ≠ 2) : lenO p = p.n := by
  have := h.len
  unfold lenO at this ⊢
  rw [if_neg h2] at this ⊢
  split <;> rename_i q
  · rfl
  · rw [if_neg q] at this; omega
theorem told_0 {ks : List Key} {xs : List Opn} : told ks xs = 0 ↔ ∀ p ∈ xs, Fine ks p := by
  unfold told
  constructor
  · intro h p hp
    by_cases q3 : xs.any (fun p => mayO ks p == 3) = true
    · rw [if_pos q3] at h; omega
    by_cases q4 : xs.any (fun p => mayO ks p == 4) = true
    · rw [if_neg q3, if_pos q4] at h; omega
    refine ⟨fun h3 => q3 (List.any_eq_true.2 ⟨p, hp, by simp [h3]⟩), fun h4 => q4 (List.any_eq_true.2 ⟨p, hp, by simp [h4]⟩)⟩
  · intro h
    rw [if_neg, if_neg]
    · intro q
      obtain ⟨p, hp, h4⟩ := List.any_eq_true.1 q
      exact (h p hp).n4 (by simpa using h4)
    · intro q
      obtain ⟨p, hp, h4⟩ := List.any_eq_true.1 q
      exact (h p hp).n3 (by simpa using h4)
theorem mayX_0 {ks : List Key} {xs : List Opn} : mayX ks xs = 0 ↔ tot 3 xs ≤ 536870912 ∧ tot 2 xs ≤ 536870912 ∧ ∀ p ∈ xs, Fine ks p := by
  unfold mayX
  rw [sumK_tot, sumK_tot]
  constructor
  · intro h
    by_cases q : 536870912 < min (tot 3 xs) 9223372036854775807 ∨ 536870912 < min (tot 2 xs) 9223372036854775807
    · rw [if_pos q] at h; omega
    · rw [if_neg q] at h
      exact ⟨by omega, by omega, told_0.1 h⟩
  · intro ⟨h1, h2, h3⟩
    rw [if_neg (by omega)]
    exact told_0.2 h3
theorem mayX_ways (ks : List Key) (xs : List Opn) : mayX ks xs = 0 ∨ mayX ks xs = 3 ∨ mayX ks xs = 4 := by
  unfold mayX told
  split
  · exact .inr (.inl rfl)
  split
  · exact .inr (.inl rfl)
  split
  · exact .inr (.inr rfl)
  · exact .inl rfl
end Go.Proofs.YtohgopibimgjfaaGreat

/- the bridge -/
namespace Go.Proofs.YtohgopibimgjfaaGreat
open Go.RowKit
set_option linter.unusedVariables false
/-- An op of stage 16 as one of stage 15. -/
def Oz.f (z : Oz) : OpV := ⟨z.k, z.n, z.ra, z.rs.length, z.rc, z.sa, z.st.length, z.sc, z.pa, z.pt.length, z.pc⟩
theorem fl_f : ∀ zs : List Oz, fl opC (zs.map Oz.f) = fl ozC zs
  | [] => rfl
  | z :: r => by
    have := fl_f r
    simp only [fl, List.map_cons, List.flatMap_cons] at this ⊢
    rw [this]
    rfl
theorem Orow.f {w : World} {v : Value} {zs : List Oz} (h : Orow w v zs) : Frow w v (zs.map Oz.o) := by
  refine ⟨zs.map Oz.f, ?_, by simp, fun j h1 h2 => ?_⟩
  · rcases h.row with ⟨a, c, h1, h2, h3⟩ | ⟨b, off, cap, h1, h2, h3, h4, h5⟩
    · refine .inl ⟨a, c, h1, ?_, h3⟩
      rw [h2]; rfl
    · refine .inr ⟨b, off, cap, ?_, ?_, ?_, h4, ?_⟩
      · rw [List.length_map]; exact h1
      · rw [List.length_map]; exact h2
      · rw [List.length_map]; exact h3
      · rw [fl_f]; exact h5
  · have hm : zs[j]'(by simpa using h1) ∈ zs := List.getElem_mem _
    have hk := h.ok _ hm
    simp only [List.getElem_map]
    exact ⟨rfl, rfl, hk.r, hk.s, hk.p⟩
theorem OpW.f {z : Oz} (h : OpW z) : FpW z.o := ⟨h.k, h.n, h.s, h.p⟩
theorem FpW.all {zs : List Oz} (h : ∀ z ∈ zs, OpW z) : ∀ p ∈ zs.map Oz.o, FpW p := fun p hp => by
  obtain ⟨z, hz, rfl⟩ := List.mem_map.1 hp
  exact (h z hz).f
theorem pmay_any (v u : Value) (ks : List Key) (zs : List Oz) (w : World) (hs : Sch w v ks) (hv : Orow w u zs) (hW : ∀ z ∈ zs, OpW z) :
    Calls Tryz.prog 20 #[v, u] w fun e w' => e = .returned (.int .i64 (mayX ks (zs.map Oz.o))) ∧ Below w.heap.size w w' :=
  may_anyX v u ks _ w hs hv.f (FpW.all hW)
end Go.Proofs.YtohgopibimgjfaaGreat

/- P5: the reference's May, whole -/
namespace Go.Proofs.YtohgopibimgjfaaGreat
open Go.RowKit
set_option linter.unusedVariables false
set_option maxRecDepth 100000

def rBad (ks : List Key) (z : Oz) : Bool := !decide (FB z) || may5 ks z.st == 3 || may6 ks z.pt == 3
def rKey (ks : List Key) (z : Oz) : Bool := may5 ks z.st != 0 || may6 ks z.pt != 0
def rmX (ks : List Key) (xs : List Oz) : Int := if xs.any (rBad ks) then 3 else if 536870912 < xs.foldl takeZ 0 ∨ 536870912 < xs.foldl makeZ 0 then 3 else if xs.any (rKey ks) then 4 else 0
theorem rBad_eq (ks : List Key) (z : Oz) : rBad ks z = (!decide (FB z) || may5 ks z.st == 3 || may6 ks z.pt == 3) := rfl
theorem rKey_eq (ks : List Key) (z : Oz) : rKey ks z = (may5 ks z.st != 0 || may6 ks z.pt != 0) := rfl
theorem any_on {q : Oz → Bool} {xs : List Oz} {k : Nat} (hk : k < xs.length) (h : (xs.take k).any q = false) (hx : q xs[k] = false) : (xs.take (k + 1)).any q = false := by
  rw [List.take_succ_eq_append_getElem hk, List.any_append, h]
  simp [hx]
theorem any_all {q : Oz → Bool} {xs : List Oz} (h : (xs.take xs.length).any q = false) : xs.any q = false := by rwa [List.take_length] at h
theorem rm_bad {ks : List Key} {xs : List Oz} {k : Nat} (hk : k < xs.length) (h : rBad ks xs[k] = true) : rmX ks xs = 3 := by
  unfold rmX
  rw [if_pos (List.any_eq_true.2 ⟨_, List.getElem_mem hk, h⟩)]
theorem rm_big (ks : List Key) (xs : List Oz) (h : xs.any (rBad ks) = false) (hb : 536870912 < xs.foldl takeZ 0 ∨ 536870912 < xs.foldl makeZ 0) : rmX ks xs = 3 := by
  unfold rmX
  rw [if_neg (by rw [h]; simp), if_pos hb]
theorem rm_key {ks : List Key} {xs : List Oz} {k : Nat} (hk : k < xs.length) (h : xs.any (rBad ks) = false) (hb : ¬ (536870912 < xs.foldl takeZ 0 ∨ 536870912 < xs.foldl makeZ 0)) (hx : rKey ks xs[k] = true) : rmX ks xs = 4 := by
  unfold rmX
  rw [if_neg (by rw [h]; simp), if_neg hb, if_pos (List.any_eq_true.2 ⟨_, List.getElem_mem hk, hx⟩)]
theorem rm_end (ks : List Key) (xs : List Oz) (h : xs.any (rBad ks) = false) (hb : ¬ (536870912 < xs.foldl takeZ 0 ∨ 536870912 < xs.foldl makeZ 0)) (hx : xs.any (rKey ks) = false) : rmX ks xs = 0 := by
  unfold rmX
  rw [if_neg (by rw [h]; simp), if_neg hb, if_neg (by rw [hx]; simp)]
set_option maxHeartbeats 4000000 in
theorem rmayE_any (v u : Value) (ks : List Key) (xs : List Oz) (w : World) (hs : Krow w v ks) (hx : Orow w u xs) (hW : ∀ z ∈ xs, OpW z) (hsm : ∀ z ∈ xs, Sm z) (hA : ∀ z ∈ xs, ∀ a ∈ z.st, a.s.size ≤ 50000000) (hC : ∀ z ∈ xs, ∀ a ∈ z.pt, a.s.size ≤ 50000000) :
    Calls Tryz.prog 22 #[v, u] w fun e w' => e = .returned (.int .i64 (rmX ks xs)) ∧ Below w.heap.size w w' := by
  have hl := hx.len
  obtain ⟨a1, cap1, rfl⟩ := hx.shape
  have HTK := Lib.hid (fun W (hb : Below w.heap.size w W) => takes_any _ xs W (hx.below hb))
  have HMK := Lib.hid (fun W (hb : Below w.heap.size w W) => makes_any _ xs W (hx.below hb))
  have HAT := Lib.hid (fun (h0 : 0 < xs.length) => hx.row.ats h0)
  have HFM := Lib.hid (fun z (hz : z ∈ xs) W (hb : Below w.heap.size w W) => form_any z W ((hx.ok z hz).below hb) (hsm z hz))
  have HM5 := Lib.hid (fun z (hz : z ∈ xs) W (hb : Below w.heap.size w W) => rmay_any5 v ks z.sv z.st W (hs.below hb (Nat.le_refl _)) ((hx.ok z hz).below hb).s (hW z hz).s (hA z hz))
  have HM6 := Lib.hid (fun z (hz : z ∈ xs) W (hb : Below w.heap.size w W) => rmay_any6 v ks z.pv z.pt W (hs.below hb (Nat.le_refl _)) ((hx.ok z hz).below hb).p (hW z hz).p (fun _ => hC z hz))
  have HFIN := Lib.hid (rm_end ks xs)
  have HBIG := Lib.hid (rm_big ks xs)
  clear hs hx hW hsm hA hC
  go_enter Tryz.func22, Tryz.ntmps22
  go_wp2
  go_loopw [5] (fun i wr => ∃ k : Nat, k ≤ xs.length ∧ i = .int .i64 k ∧ Hid ((xs.take k).any (rBad ks) = false ∧ Below w.heap.size w wr)) (fun i _ => xs.length - (intOf i).toNat)
  case atStart => exact ⟨0, Nat.zero_le _, rfl, Lib.hid ⟨by simp, Below.refl _ _⟩⟩
  case round =>
    obtain ⟨k, hk, rfl, HP⟩ := hrel
    by_cases hlt : k < xs.length
    · obtain ⟨b1, o1, rfl, -, -, -, hbl, hat⟩ := HAT.out (by omega)
      have HCC := Lib.hid (fun W (hb : Below w.heap.size w W) => (hat k hlt).below hb)
      have HF := Lib.hid (HFM.out _ (List.getElem_mem hlt))
      have H5 := Lib.hid (HM5.out _ (List.getElem_mem hlt))
      have H6 := Lib.hid (HM6.out _ (List.getElem_mem hlt))
      have HBAD := Lib.hid (fun h => rm_bad (ks := ks) hlt h)
      have HOK := Lib.hid (fun h => any_on hlt HP.out.1 h)
      have hrb := rBad_eq ks xs[k]
      have HB := Lib.hid HP.out.2
      have HLT := Lib.hid hlt
      clear hat HP HAT HFM HM5 HM6
      generalize xs[k] = z at *
      obtain ⟨fb, hfb⟩ : ∃ b, decide (FB z) = b := ⟨_, rfl⟩
      rw [hfb] at hrb
      have KF := Lib.hid (fun w9 (hS : Below w.heap.size w w9) => (HF.out w9 hS).mono fun e w' (h : _ ∧ _) => (⟨(show e = .returned (.bool (decide (FB z))) from h.1).trans (by rw [hfb]), below_add hS h.2 hS.size⟩ : e = .returned (.bool fb) ∧ Below w.heap.size w w'))
      generalize may5 ks z.st = e5 at *
      generalize may6 ks z.pt = e6 at *
      have K5 := Lib.hid (fun w9 (hS : Below w.heap.size w w9) => (H5.out w9 hS).mono fun e w' (h : _ ∧ _) => (⟨h.1, below_add hS h.2 hS.size⟩ : _ ∧ Below w.heap.size w w'))
      have K6 := Lib.hid (fun w9 (hS : Below w.heap.size w w9) => (H6.out w9 hS).mono fun e w' (h : _ ∧ _) => (⟨h.1, below_add hS h.2 hS.size⟩ : _ ∧ Below w.heap.size w w'))
      have HRB := Lib.hid hrb
      clear HF H5 H6 hrb hfb
      cases fb
      · have HX := Lib.hid (HBAD.out (by rw [HRB.out]; rfl))
        clear HBAD HOK HRB
        obtain ⟨c0, c1, c2, c3, c4⟩ := HCC.out wr HB.out
        go_wp2_with (first
          | (go_at_call 53; (with_reducible refine (KF.out _ HB.out).mono ?_); rintro e w1 ⟨rfl, hb⟩; have G1 := Lib.hid hb; clear hb ; obtain ⟨c0, c1, c2, c3, c4⟩ := HCC.out w1 G1.out))
        go_ret
        exact ⟨ret_int HX.out.symm, G1.out⟩
      by_cases h5 : e5 = 3
      · have q5 : (e5 == 3) = true := by simpa using h5
        clear h5
        have HX := Lib.hid (HBAD.out (by rw [HRB.out, q5]; rfl))
        clear HBAD HOK HRB
        obtain ⟨c0, c1, c2, c3, c4⟩ := HCC.out wr HB.out
        go_wp2_with (first
          | (go_at_call 53; (with_reducible refine (KF.out _ HB.out).mono ?_); rintro e w1 ⟨rfl, hb⟩; have G1 := Lib.hid hb; clear hb ; obtain ⟨c0, c1, c2, c3, c4⟩ := HCC.out w1 G1.out)
          | (go_at_call 54; (with_reducible refine (K5.out _ G1.out).mono ?_); rintro e w2 ⟨rfl, hb⟩; have G2 := Lib.hid hb; clear hb ; obtain ⟨c0, c1, c2, c3, c4⟩ := HCC.out w2 G2.out))
        go_ret
        exact ⟨ret_int HX.out.symm, G2.out⟩
      have q5 : (e5 == 3) = false := by simpa using h5
      clear h5
      by_cases h6 : e6 = 3
      · have q6 : (e6 == 3) = true := by simpa using h6
        clear h6
        have HX := Lib.hid (HBAD.out (by rw [HRB.out, q5, q6]; rfl))
        clear HBAD HOK HRB
        obtain ⟨c0, c1, c2, c3, c4⟩ := HCC.out wr HB.out
        go_wp2_with (first
          | (go_at_call 53; (with_reducible refine (KF.out _ HB.out).mono ?_); rintro e w1 ⟨rfl, hb⟩; have G1 := Lib.hid hb; clear hb ; obtain ⟨c0, c1, c2, c3, c4⟩ := HCC.out w1 G1.out)
          | (go_at_call 54; (with_reducible refine (K5.out _ G1.out).mono ?_); rintro e w2 ⟨rfl, hb⟩; have G2 := Lib.hid hb; clear hb ; obtain ⟨c0, c1, c2, c3, c4⟩ := HCC.out w2 G2.out)
          | (go_at_call 55; (with_reducible refine (K6.out _ G2.out).mono ?_); rintro e w3 ⟨rfl, hb⟩; have G3 := Lib.hid hb; clear hb ; obtain ⟨c0, c1, c2, c3, c4⟩ := HCC.out w3 G3.out))
        go_ret
        exact ⟨ret_int HX.out.symm, G3.out⟩
      have q6 : (e6 == 3) = false := by simpa using h6
      clear h6
      have HN := Lib.hid (HOK.out (by rw [HRB.out, q5, q6]; rfl))
      clear HBAD HOK HRB
      obtain ⟨c0, c1, c2, c3, c4⟩ := HCC.out wr HB.out
      go_wp2_with (first
        | (go_at_call 53; (with_reducible refine (KF.out _ HB.out).mono ?_); rintro e w1 ⟨rfl, hb⟩; have G1 := Lib.hid hb; clear hb ; obtain ⟨c0, c1, c2, c3, c4⟩ := HCC.out w1 G1.out)
        | (go_at_call 54; (with_reducible refine (K5.out _ G1.out).mono ?_); rintro e w2 ⟨rfl, hb⟩; have G2 := Lib.hid hb; clear hb ; obtain ⟨c0, c1, c2, c3, c4⟩ := HCC.out w2 G2.out)
        | (go_at_call 55; (with_reducible refine (K6.out _ G2.out).mono ?_); rintro e w3 ⟨rfl, hb⟩; have G3 := Lib.hid hb; clear hb ; obtain ⟨c0, c1, c2, c3, c4⟩ := HCC.out w3 G3.out))
      go_roundw
      case rel => exact ⟨k + 1, HLT.out, by go_num, Lib.hid ⟨HN.out, G3.out⟩⟩
      case measure => have := HLT.out; simp [intOf]; omega
    · obtain rfl : k = xs.length := by omega
      have HNB := Lib.hid (any_all HP.out.1)
      have HB := Lib.hid HP.out.2
      have KT := Lib.hid (fun w9 (hS : Below w.heap.size w w9) => (HTK.out w9 hS).mono fun e w' (h : _ ∧ _) => (⟨h.1, below_add hS h.2 hS.size⟩ : _ ∧ Below w.heap.size w w'))
      have KM := Lib.hid (fun w9 (hS : Below w.heap.size w w9) => (HMK.out w9 hS).mono fun e w' (h : _ ∧ _) => (⟨h.1, below_add hS h.2 hS.size⟩ : _ ∧ Below w.heap.size w w'))
      have HKEY := Lib.hid (fun j (hj : j < xs.length) => rm_key (ks := ks) hj HNB.out)
      have HBG := Lib.hid (HBIG.out HNB.out)
      have HFN := Lib.hid (HFIN.out HNB.out)
      clear HP HFM HTK HMK HBIG HFIN
      generalize xs.foldl takeZ 0 = nt at *
      generalize xs.foldl makeZ 0 = nm at *
      by_cases ht : 536870912 < nt
      · have qt : decide (536870912 < nt) = true := decide_eq_true ht
        have HX := Lib.hid (HBG.out (.inl ht))
        clear ht HKEY HBG HFN
        go_wp2_with (first
          | (go_at_call 56; (with_reducible refine (KT.out _ HB.out).mono ?_); rintro e w1 ⟨rfl, hb⟩; have G1 := Lib.hid hb; clear hb))
        go_ret
        exact ⟨ret_int HX.out.symm, G1.out⟩
      have qt : decide (536870912 < nt) = false := decide_eq_false ht
      by_cases hm : 536870912 < nm
      · have qm : decide (536870912 < nm) = true := decide_eq_true hm
        have HX := Lib.hid (HBG.out (.inr hm))
        clear hm ht HKEY HBG HFN
        go_wp2_with (first
          | (go_at_call 56; (with_reducible refine (KT.out _ HB.out).mono ?_); rintro e w1 ⟨rfl, hb⟩; have G1 := Lib.hid hb; clear hb)
          | (go_at_call 57; (with_reducible refine (KM.out _ G1.out).mono ?_); rintro e w2 ⟨rfl, hb⟩; have G2 := Lib.hid hb; clear hb))
        go_ret
        exact ⟨ret_int HX.out.symm, G2.out⟩
      have qm : decide (536870912 < nm) = false := decide_eq_false hm
      have HNO := Lib.hid (show ¬ (536870912 < nt ∨ 536870912 < nm) by omega)
      clear hm ht HBG
      go_wp2_with (first
        | (go_at_call 56; (with_reducible refine (KT.out _ HB.out).mono ?_); rintro e w1 ⟨rfl, hb⟩; have G1 := Lib.hid hb; clear hb)
        | (go_at_call 57; (with_reducible refine (KM.out _ G1.out).mono ?_); rintro e w2 ⟨rfl, hb⟩; have G2 := Lib.hid hb; clear hb))
      go_loopw [6] (fun i wr => ∃ k : Nat, k ≤ xs.length ∧ i = .int .i64 k ∧ Hid ((xs.take k).any (rKey ks) = false ∧ Below w.heap.size w wr)) (fun i _ => xs.length - (intOf i).toNat)
      case atStart => exact ⟨0, Nat.zero_le _, rfl, Lib.hid ⟨by simp, G2.out⟩⟩
      case round =>
        clear HB G1 G2
        obtain ⟨k, hk, rfl, HP⟩ := hrel
        by_cases hlt : k < xs.length
        · obtain ⟨b1, o1, rfl, -, -, -, hbl, hat⟩ := HAT.out (by omega)
          have HCC := Lib.hid (fun W (hb : Below w.heap.size w W) => (hat k hlt).below hb)
          have H5 := Lib.hid (HM5.out _ (List.getElem_mem hlt))
          have H6 := Lib.hid (HM6.out _ (List.getElem_mem hlt))
          have HLT := Lib.hid hlt
          have HBAD := Lib.hid (HKEY.out k hlt HNO.out)
          have HOK := Lib.hid (fun h => any_on hlt HP.out.1 h)
          have hrb := rKey_eq ks xs[k]
          have HB := Lib.hid HP.out.2
          clear hat HAT HM5 HM6 HKEY HFN HP
          generalize xs[k] = z at *
          generalize may5 ks z.st = e5 at *
          generalize may6 ks z.pt = e6 at *
          have K5 := Lib.hid (fun w9 (hS : Below w.heap.size w w9) => (H5.out w9 hS).mono fun e w' (h : _ ∧ _) => (⟨h.1, below_add hS h.2 hS.size⟩ : _ ∧ Below w.heap.size w w'))
          have K6 := Lib.hid (fun w9 (hS : Below w.heap.size w w9) => (H6.out w9 hS).mono fun e w' (h : _ ∧ _) => (⟨h.1, below_add hS h.2 hS.size⟩ : _ ∧ Below w.heap.size w w'))
          have HRB := Lib.hid hrb
          clear H5 H6 hrb
          by_cases h5 : e5 = 0
          rotate_left
          · have q5 : (e5 != 0) = true := by simpa using h5
            clear h5
            have HX := Lib.hid (HBAD.out (by rw [HRB.out, q5]; rfl))
            clear HBAD HOK HRB
            obtain ⟨c0, c1, c2, c3, c4⟩ := HCC.out wr HB.out
            go_wp2_with (first
              | (go_at_call 54; (with_reducible refine (K5.out _ HB.out).mono ?_); rintro e w1 ⟨rfl, hb⟩; have G1 := Lib.hid hb; clear hb ; obtain ⟨c0, c1, c2, c3, c4⟩ := HCC.out w1 G1.out))
            go_ret
            exact ⟨ret_int HX.out.symm, G1.out⟩
          have q5 : (e5 != 0) = false := by simpa using h5
          clear h5
          by_cases h6 : e6 = 0
          rotate_left
          · have q6 : (e6 != 0) = true := by simpa using h6
            clear h6
            have HX := Lib.hid (HBAD.out (by rw [HRB.out, q5, q6]; rfl))
            clear HBAD HOK HRB
            obtain ⟨c0, c1, c2, c3, c4⟩ := HCC.out wr HB.out
            go_wp2_with (first
              | (go_at_call 54; (with_reducible refine (K5.out _ HB.out).mono ?_); rintro e w1 ⟨rfl, hb⟩; have G1 := Lib.hid hb; clear hb ; obtain ⟨c0, c1, c2, c3, c4⟩ := HCC.out w1 G1.out)
              | (go_at_call 55; (with_reducible refine (K6.out _ G1.out).mono ?_); rintro e w2 ⟨rfl, hb⟩; have G2 := Lib.hid hb; clear hb ; obtain ⟨c0, c1, c2, c3, c4⟩ := HCC.out w2 G2.out))
            go_ret
            exact ⟨ret_int HX.out.symm, G2.out⟩
          have q6 : (e6 != 0) = false := by simpa using h6
          clear h6
          have HN := Lib.hid (HOK.out (by rw [HRB.out, q5, q6]; rfl))
          clear HBAD HOK HRB
          obtain ⟨c0, c1, c2, c3, c4⟩ := HCC.out wr HB.out
          go_wp2_with (first
            | (go_at_call 54; (with_reducible refine (K5.out _ HB.out).mono ?_); rintro e w1 ⟨rfl, hb⟩; have G1 := Lib.hid hb; clear hb ; obtain ⟨c0, c1, c2, c3, c4⟩ := HCC.out w1 G1.out)
            | (go_at_call 55; (with_reducible refine (K6.out _ G1.out).mono ?_); rintro e w2 ⟨rfl, hb⟩; have G2 := Lib.hid hb; clear hb ; obtain ⟨c0, c1, c2, c3, c4⟩ := HCC.out w2 G2.out))
          go_roundw
          case rel => exact ⟨k + 1, HLT.out, by go_num, Lib.hid ⟨HN.out, G2.out⟩⟩
          case measure => have := HLT.out; simp [intOf]; omega
        · obtain rfl : k = xs.length := by omega
          have HX := Lib.hid (HFN.out HNO.out (any_all HP.out.1))
          have HB := Lib.hid HP.out.2
          clear HFN HKEY HP
          go_wp2
          go_ret
          exact ⟨ret_int HX.out.symm, HB.out⟩
end Go.Proofs.YtohgopibimgjfaaGreat

/- P6: both say the same of a delta; a delta that may be -/
namespace Go.Proofs.YtohgopibimgjfaaGreat
open Go.RowKit
set_option linter.unusedVariables false
set_option maxRecDepth 100000

theorem may5_nil (ks : List Key) : may5 ks [] = 0 := rfl
theorem may6_nil (ks : List Key) : may6 ks [] = 0 := rfl
theorem may5_ways (ks : List Key) (xs : List Att) : may5 ks xs = 0 ∨ may5 ks xs = 3 ∨ may5 ks xs = 4 := by
  unfold may5
  split
  · split
    · exact .inl rfl
    · exact .inr (.inr rfl)
  · exact .inr (.inl rfl)
theorem may6_ways (ks : List Key) (xs : List Chg) : may6 ks xs = 0 ∨ may6 ks xs = 3 ∨ may6 ks xs = 4 := by
  unfold may6
  split
  · split
    · exact .inl rfl
    · exact .inr (.inr rfl)
  · exact .inr (.inl rfl)
theorem all_getD (rs : List Int) : (∀ j, j < rs.length → mayB (rs.getD j 0) = true) ↔ rs.all mayB = true := by
  rw [List.all_eq_true]
  constructor
  · intro h x hx
    obtain ⟨j, hj, rfl⟩ := List.getElem_of_mem hx
    have := h j hj
    rwa [show rs.getD j 0 = rs[j] from by simp [List.getD, List.getElem?_eq_getElem hj]] at this
  · intro h j hj
    rw [show rs.getD j 0 = rs[j] from by simp [List.getD, List.getElem?_eq_getElem hj]]
    exact h _ (List.getElem_mem hj)
theorem rBad_no {ks : List Key} {z : Oz} (h : ¬ FB z) : rBad ks z = true := by rw [rBad_eq, decide_eq_false h]; rfl
theorem rBad_yes {ks : List Key} {z : Oz} (h : FB z) : rBad ks z = (may5 ks z.st == 3 || may6 ks z.pt == 3) := by rw [rBad_eq, decide_eq_true h]; rfl
theorem lenO_n {z : Oz} (h : z.k ≠ 2) : lenO z.o = if 0 ≤ z.n then z.n else 0 := by
  unfold lenO
  rw [if_neg (show ¬ z.o.k = 2 from h)]; rfl
theorem lenO_2 {z : Oz} (h : z.k = 2) : lenO z.o = z.rs.length := by
  unfold lenO
  rw [if_pos (show z.o.k = 2 from h)]; rfl
/-- A retain, an insert, a delete: when the reference tells it malformed. -/
theorem bad_1 (ks : List Key) {z : Oz} (h : z.k = 1) : rBad ks z = true ↔ mayO ks z.o = 3 ∨ 536870912 < z.n := by
  have hl := lenO_n (z := z) (by omega)
  have hm : mayO ks z.o = if lenO z.o < 1 ∨ 0 < z.rs.length ∨ 0 < z.st.length then 3 else may6 ks z.pt := by
    unfold mayO; rw [if_pos (show z.o.k = 1 from h)]; rfl
  by_cases hf : z.rs.length = 0 ∧ z.st.length = 0 ∧ 1 ≤ z.n
  · obtain ⟨f1, f2, f3⟩ := hf
    rw [if_neg (by rw [hl, if_pos (by omega)]; omega)] at hm
    rw [hm]
    by_cases hb : z.n ≤ 536870912
    · rw [rBad_yes (.inl ⟨h, f1, f2, f3, hb⟩), List.eq_nil_of_length_eq_zero f2, may5_nil]
      simp
      omega
    · rw [rBad_no (fun hF => by rcases hF with q | q | q <;> omega)]
      simp
      omega
  · have : lenO z.o < 1 ∨ 0 < z.rs.length ∨ 0 < z.st.length := by rw [hl]; split <;> omega
    rw [if_pos this] at hm
    rw [hm, rBad_no (fun hF => by rcases hF with q | q | q <;> omega)]
    simp
theorem bad_3 (ks : List Key) {z : Oz} (h : z.k = 3) : rBad ks z = true ↔ mayO ks z.o = 3 ∨ 536870912 < z.n := by
  have hl := lenO_n (z := z) (by omega)
  have hm : mayO ks z.o = if lenO z.o < 1 ∨ 0 < z.rs.length ∨ 0 < z.st.length ∨ 0 < z.pt.length then 3 else 0 := by
    have h3 : z.o.k = 3 := h
    unfold mayO; rw [if_neg (by omega), if_neg (by omega), if_pos h3]; rfl
  by_cases hf : z.rs.length = 0 ∧ z.st.length = 0 ∧ z.pt.length = 0 ∧ 1 ≤ z.n
  · obtain ⟨f1, f2, f3, f4⟩ := hf
    rw [if_neg (by rw [hl, if_pos (by omega)]; omega)] at hm
    rw [hm]
    by_cases hb : z.n ≤ 536870912
    · rw [rBad_yes (.inr (.inl ⟨h, f1, f2, f3, f4, hb⟩)), List.eq_nil_of_length_eq_zero f2, List.eq_nil_of_length_eq_zero f3, may5_nil, may6_nil]
      simp
      omega
    · rw [rBad_no (fun hF => by rcases hF with q | q | q <;> omega)]
      simp
      omega
  · have : lenO z.o < 1 ∨ 0 < z.rs.length ∨ 0 < z.st.length ∨ 0 < z.pt.length := by rw [hl]; split <;> omega
    rw [if_pos this] at hm
    rw [hm, rBad_no (fun hF => by rcases hF with q | q | q <;> omega)]
    simp
theorem bad_2 (ks : List Key) {z : Oz} (h : z.k = 2) : rBad ks z = true ↔ mayO ks z.o = 3 := by
  have hl := lenO_2 (z := z) h
  have hm : mayO ks z.o = if lenO z.o < 1 ∨ z.n ≠ 0 ∨ 0 < z.pt.length then 3 else if z.rs.all mayB then may5 ks z.st else 3 := by
    have h2 : z.o.k = 2 := h
    unfold mayO; rw [if_neg (by omega), if_pos h2]; rfl
  by_cases hf : 1 ≤ z.rs.length ∧ z.n = 0 ∧ z.pt.length = 0
  · obtain ⟨f1, f2, f3⟩ := hf
    rw [if_neg (by rw [hl]; omega)] at hm
    by_cases ha : z.rs.all mayB = true
    · rw [if_pos ha] at hm
      rw [hm, rBad_yes (.inr (.inr ⟨h, (all_getD _).2 ha, f2, f3, f1⟩)), List.eq_nil_of_length_eq_zero f3, may6_nil]
      simp
    · rw [if_neg ha] at hm
      rw [hm, rBad_no (fun hF => by
        rcases hF with q | q | q
        · omega
        · omega
        · exact ha ((all_getD _).1 q.2.1))]
      simp
  · rw [if_pos (show lenO z.o < 1 ∨ z.n ≠ 0 ∨ 0 < z.pt.length by rw [hl]; omega)] at hm
    rw [hm, rBad_no (fun hF => by rcases hF with q | q | q <;> omega)]
    simp
theorem bad_n (ks : List Key) {z : Oz} (h1 : z.k ≠ 1) (h2 : z.k ≠ 2) (h3 : z.k ≠ 3) : rBad ks z = true ∧ mayO ks z.o = 3 := by
  refine ⟨rBad_no (fun hF => by rcases hF with q | q | q <;> omega), ?_⟩
  unfold mayO
  rw [if_neg (show ¬ z.o.k = 1 from h1), if_neg (show ¬ z.o.k = 2 from h2), if_neg (show ¬ z.o.k = 3 from h3)]
theorem bad_any (ks : List Key) (z : Oz) : rBad ks z = true ↔ mayO ks z.o = 3 ∨ ((z.k = 1 ∨ z.k = 3) ∧ 536870912 < z.n) := by
  by_cases h1 : z.k = 1
  · rw [bad_1 ks h1]; simp [h1]
  by_cases h2 : z.k = 2
  · rw [bad_2 ks h2]; simp [h2]
  by_cases h3 : z.k = 3
  · rw [bad_3 ks h3]; simp [h3]
  · obtain ⟨a, b⟩ := bad_n ks h1 h2 h3
    rw [a, b]; simp
/-- What is well-formed: of it, when a key is wrong. -/
theorem fb_of {ks : List Key} {z : Oz} (h : rBad ks z = false) : FB z ∧ may5 ks z.st ≠ 3 ∧ may6 ks z.pt ≠ 3 := by
  by_cases hf : FB z
  · rw [rBad_yes hf] at h
    refine ⟨hf, fun q => ?_, fun q => ?_⟩
    · rw [q] at h; simp at h
    · rw [q] at h; simp at h
  · rw [rBad_no hf] at h; cases h
theorem key_any {ks : List Key} {z : Oz} (h : rBad ks z = false) : rKey ks z = true ↔ mayO ks z.o = 4 := by
  obtain ⟨hf, h5, h6⟩ := fb_of h
  have w5 := may5_ways ks z.st
  have w6 := may6_ways ks z.pt
  rcases hf with ⟨k, r, s, n1, n2⟩ | ⟨k, r, s, p, n1, n2⟩ | ⟨k, a, n, p, r⟩
  · have hl := lenO_n (z := z) (by omega)
    have hm : mayO ks z.o = if lenO z.o < 1 ∨ 0 < z.rs.length ∨ 0 < z.st.length then 3 else may6 ks z.pt := by
      unfold mayO; rw [if_pos (show z.o.k = 1 from k)]; rfl
    rw [if_neg (by rw [hl, if_pos (by omega)]; omega)] at hm
    rw [hm, rKey_eq, List.eq_nil_of_length_eq_zero s, may5_nil]
    simp
    omega
  · have hl := lenO_n (z := z) (by omega)
    have h3 : z.o.k = 3 := k
    have hm : mayO ks z.o = if lenO z.o < 1 ∨ 0 < z.rs.length ∨ 0 < z.st.length ∨ 0 < z.pt.length then 3 else 0 := by
      unfold mayO; rw [if_neg (by omega), if_neg (by omega), if_pos h3]; rfl
    rw [if_neg (by rw [hl, if_pos (by omega)]; omega)] at hm
    rw [hm, rKey_eq, List.eq_nil_of_length_eq_zero s, List.eq_nil_of_length_eq_zero p, may5_nil, may6_nil]
    simp
  · have hl := lenO_2 (z := z) k
    have h2 : z.o.k = 2 := k
    have hm : mayO ks z.o = if lenO z.o < 1 ∨ z.n ≠ 0 ∨ 0 < z.pt.length then 3 else if z.rs.all mayB then may5 ks z.st else 3 := by
      unfold mayO; rw [if_neg (by omega), if_pos h2]; rfl
    rw [if_neg (by rw [hl]; omega), if_pos ((all_getD _).1 a)] at hm
    rw [hm, rKey_eq, List.eq_nil_of_length_eq_zero p, may6_nil]
    simp
    omega
theorem tot_mem {kd : Int} {xs : List Opn} {p : Opn} (hp : p ∈ xs) (hc : cnt kd p = true) : lenO p ≤ tot kd xs := by
  induction xs with
  | nil => cases hp
  | cons x r ih =>
    rw [tot_cons]
    have h1 := tot_nn kd r
    have h2 := lenO_nn x
    rcases List.mem_cons.1 hp with rfl | hp
    · rw [if_pos hc]; omega
    · have := ih hp
      split <;> omega
/-- Sums of what is well-formed: nothing wraps. -/
theorem fb_len {z : Oz} (h : FB z) (hs : Sm z) : (1 ≤ lenO z.o ∧ lenO z.o ≤ 536870912) ∧ lenZ z = lenO z.o ∧ (z.k ≠ 2 → z.n = lenO z.o) := by
  have hr := hs.r
  rcases h with ⟨k, r, s, n1, n2⟩ | ⟨k, r, s, p, n1, n2⟩ | ⟨k, a, n, p, r⟩
  · rw [lenO_n (by omega), if_pos (by omega)]
    unfold lenZ
    rw [if_neg (by omega)]
    exact ⟨⟨n1, n2⟩, rfl, fun _ => rfl⟩
  · rw [lenO_n (by omega), if_pos (by omega)]
    unfold lenZ
    rw [if_neg (by omega)]
    exact ⟨⟨n1, n2⟩, rfl, fun _ => rfl⟩
  · rw [lenO_2 k]
    unfold lenZ
    rw [if_pos k]
    exact ⟨⟨by omega, by omega⟩, rfl, fun h => absurd k h⟩
theorem wrap_ok {t : Int} (h0 : 0 ≤ t) (h1 : t ≤ 9223372036854775807) : wrap64 t = t := by
  rw [show wrap64 t = IntKind.i64.wrap t from (Go.IntWalk.i64_left _).symm, IntKind.wrap_i64]; omega
theorem fold_fb : ∀ (xs : List Oz) (t u : Int) (n : Nat), (∀ z ∈ xs, FB z ∧ Sm z) → xs.length + n ≤ 4294967296 → (0 ≤ t ∧ t ≤ n * 536870912) → (0 ≤ u ∧ u ≤ n * 536870912) →
    xs.foldl takeZ t = t + tot 3 (xs.map Oz.o) ∧ xs.foldl makeZ u = u + tot 2 (xs.map Oz.o)
  | [], t, u, n, _, _, _, _ => by simp [tot]
  | z :: r, t, u, n, h, hn, ht, hu => by
    obtain ⟨hf, hs⟩ := h z (List.mem_cons_self ..)
    obtain ⟨⟨l1, l2⟩, l3, l4⟩ := fb_len hf hs
    have hk : z.k = 1 ∨ z.k = 2 ∨ z.k = 3 := by rcases hf with q | q | q <;> omega
    rw [List.length_cons] at hn
    have e1 : takeZ t z = t + if cnt 3 z.o then lenO z.o else 0 := by
      unfold takeZ
      rcases hk with k | k | k
      · rw [if_neg (by omega), l4 (by omega), wrap_ok (by omega) (by omega), cnt_1 (show z.o.k = 1 from k)]; rfl
      · have : cnt 3 z.o = false := cnt_n (by have : z.o.k = 2 := k; omega) (by have : z.o.k = 2 := k; omega)
        rw [if_pos k, this]; simp
      · rw [if_neg (by omega), l4 (by omega), wrap_ok (by omega) (by omega), cnt_k (show z.o.k = 3 from k)]; rfl
    have e2 : makeZ u z = u + if cnt 2 z.o then lenO z.o else 0 := by
      unfold makeZ
      rcases hk with k | k | k
      · rw [if_neg (by omega), l3, wrap_ok (by omega) (by omega), cnt_1 (show z.o.k = 1 from k)]; rfl
      · rw [if_neg (by omega), l3, wrap_ok (by omega) (by omega), cnt_k (show z.o.k = 2 from k)]; rfl
      · have : cnt 2 z.o = false := cnt_n (by have : z.o.k = 3 := k; omega) (by have : z.o.k = 3 := k; omega)
        rw [if_pos k, this]; simp
    obtain ⟨i1, i2⟩ := fold_fb r (takeZ t z) (makeZ u z) (n + 1) (fun y hy => h y (List.mem_cons_of_mem _ hy)) (by omega) (by rw [e1]; push_cast; split <;> omega) (by rw [e2]; push_cast; split <;> omega)
    rw [List.foldl_cons, List.foldl_cons, i1, i2, List.map_cons, tot_cons, tot_cons, e1, e2]
    exact ⟨by omega, by omega⟩
/-- The program's May and the reference's: one. -/
theorem may_same (ks : List Key) (xs : List Oz) (hs : ∀ z ∈ xs, Sm z) (hl : xs.length ≤ 50331648) : rmX ks xs = mayX ks (xs.map Oz.o) := by
  by_cases hb : xs.any (rBad ks) = true
  · have e1 : rmX ks xs = 3 := by unfold rmX; rw [if_pos hb]
    rw [e1]
    obtain ⟨z, hz, h⟩ := List.any_eq_true.1 hb
    have hm : z.o ∈ xs.map Oz.o := List.mem_map_of_mem hz
    symm
    rcases (bad_any ks z).1 h with h | ⟨hk, hn⟩
    · unfold mayX
      split
      · rfl
      · unfold told
        rw [if_pos (List.any_eq_true.2 ⟨z.o, hm, by simp [h]⟩)]
    · have hc : cnt 3 z.o = true := by
        rcases hk with k | k
        · exact cnt_1 k
        · exact cnt_k k
      have := tot_mem hm hc
      rw [lenO_n (by omega), if_pos (by omega)] at this
      unfold mayX
      rw [sumK_tot, sumK_tot, if_pos (.inl (by omega))]
  · have hb' : xs.any (rBad ks) = false := by simpa using hb
    have hall : ∀ z ∈ xs, rBad ks z = false := fun z hz => by
      by_cases q : rBad ks z = true
      · exact absurd (List.any_eq_true.2 ⟨z, hz, q⟩) hb
      · simpa using q
    obtain ⟨i1, i2⟩ := fold_fb xs 0 0 0 (fun z hz => ⟨(fb_of (hall z hz)).1, hs z hz⟩) (by omega) (by omega) (by omega)
    have n3 := tot_nn 3 (xs.map Oz.o)
    have n2 := tot_nn 2 (xs.map Oz.o)
    unfold rmX mayX
    rw [if_neg hb, i1, i2, sumK_tot, sumK_tot]
    by_cases hg : 536870912 < tot 3 (xs.map Oz.o) ∨ 536870912 < tot 2 (xs.map Oz.o)
    · rw [if_pos (show 536870912 < 0 + tot 3 (xs.map Oz.o) ∨ 536870912 < 0 + tot 2 (xs.map Oz.o) by omega), if_pos (show 536870912 < min (tot 3 (xs.map Oz.o)) 9223372036854775807 ∨ 536870912 < min (tot 2 (xs.map Oz.o)) 9223372036854775807 by omega)]
    · rw [if_neg (show ¬ (536870912 < 0 + tot 3 (xs.map Oz.o) ∨ 536870912 < 0 + tot 2 (xs.map Oz.o)) by omega), if_neg (show ¬ (536870912 < min (tot 3 (xs.map Oz.o)) 9223372036854775807 ∨ 536870912 < min (tot 2 (xs.map Oz.o)) 9223372036854775807) by omega)]
      unfold told
      have h3 : ¬ (xs.map Oz.o).any (fun p => mayO ks p == 3) = true := fun q => by
        obtain ⟨p, hp, h3⟩ := List.any_eq_true.1 q
        obtain ⟨z, hz, rfl⟩ := List.mem_map.1 hp
        have := (bad_any ks z).2 (.inl (by simpa using h3))
        rw [hall z hz] at this; cases this
      rw [if_neg h3]
      by_cases h4 : xs.any (rKey ks) = true
      · rw [if_pos h4]
        obtain ⟨z, hz, h⟩ := List.any_eq_true.1 h4
        rw [if_pos (List.any_eq_true.2 ⟨z.o, List.mem_map_of_mem hz, by simp [(key_any (hall z hz)).1 h]⟩)]
      · rw [if_neg h4, if_neg]
        intro q
        obtain ⟨p, hp, h⟩ := List.any_eq_true.1 q
        obtain ⟨z, hz, rfl⟩ := List.mem_map.1 hp
        exact h4 (List.any_eq_true.2 ⟨z, hz, (key_any (hall z hz)).2 (by simpa using h)⟩)
end Go.Proofs.YtohgopibimgjfaaGreat

/- P7: a delta that may be: its form may be, and both have bytes -/
namespace Go.Proofs.YtohgopibimgjfaaGreat
open Go.RowKit Go.Lib
set_option linter.unusedVariables false
set_option maxRecDepth 100000

/-- An op of which no error is told, part by part. -/
structure Fo (ks : List Key) (p : Opn) : Prop where
  kind : p.k = 1 ∨ p.k = 2 ∨ p.k = 3
  r : p.k = 1 → p.rs = [] ∧ p.st = [] ∧ 1 ≤ p.n ∧ may6 ks p.pt = 0
  i : p.k = 2 → p.n = 0 ∧ p.pt = [] ∧ p.rs ≠ [] ∧ p.rs.all mayB = true ∧ may5 ks p.st = 0
  d : p.k = 3 → p.rs = [] ∧ p.st = [] ∧ p.pt = [] ∧ 1 ≤ p.n
theorem nil_of {α : Type} {l : List α} (h : ¬ 0 < l.length) : l = [] := List.eq_nil_of_length_eq_zero (by omega)
theorem len_1 {p : Opn} (h : p.k ≠ 2) : lenO p = if 0 ≤ p.n then p.n else 0 := by unfold lenO; rw [if_neg h]
theorem len_2 {p : Opn} (h : p.k = 2) : lenO p = p.rs.length := by unfold lenO; rw [if_pos h]
theorem fine_fo {ks : List Key} {p : Opn} : Fine ks p ↔ Fo ks p := by
  constructor
  · intro h
    have hk := h.kind
    have hl := h.len
    obtain ⟨h3, h4⟩ := h
    refine ⟨hk, fun k => ?_, fun k => ?_, fun k => ?_⟩
    · have hm : mayO ks p = if lenO p < 1 ∨ 0 < p.rs.length ∨ 0 < p.st.length then 3 else may6 ks p.pt := by unfold mayO; rw [if_pos k]; rfl
      by_cases q : lenO p < 1 ∨ 0 < p.rs.length ∨ 0 < p.st.length
      · rw [if_pos q] at hm; exact absurd hm h3
      · rw [if_neg q] at hm
        rw [hm] at h3 h4
        have := may6_ways ks p.pt
        rw [len_1 (by omega)] at hl
        exact ⟨nil_of (by omega), nil_of (by omega), by split at hl <;> omega, by omega⟩
    · have hm : mayO ks p = if lenO p < 1 ∨ p.n ≠ 0 ∨ 0 < p.pt.length then 3 else if p.rs.all mayB then may5 ks p.st else 3 := by unfold mayO; rw [if_neg (by omega), if_pos k]; rfl
      by_cases q : lenO p < 1 ∨ p.n ≠ 0 ∨ 0 < p.pt.length
      · rw [if_pos q] at hm; exact absurd hm h3
      · rw [if_neg q] at hm
        by_cases ha : p.rs.all mayB = true
        · rw [if_pos ha] at hm
          rw [hm] at h3 h4
          have := may5_ways ks p.st
          rw [len_2 k] at hl
          exact ⟨by omega, nil_of (by omega), fun hh => by rw [hh] at hl; simp at hl, ha, by omega⟩
        · rw [if_neg ha] at hm; exact absurd hm h3
    · have hm : mayO ks p = if lenO p < 1 ∨ 0 < p.rs.length ∨ 0 < p.st.length ∨ 0 < p.pt.length then 3 else 0 := by unfold mayO; rw [if_neg (by omega), if_neg (by omega), if_pos k]; rfl
      by_cases q : lenO p < 1 ∨ 0 < p.rs.length ∨ 0 < p.st.length ∨ 0 < p.pt.length
      · rw [if_pos q] at hm; exact absurd hm h3
      · rw [len_1 (by omega)] at hl
        exact ⟨nil_of (by omega), nil_of (by omega), nil_of (by omega), by split at hl <;> omega⟩
  · intro h
    have h0 : mayO ks p = 0 := by
      rcases h.kind with k | k | k
      · obtain ⟨a, b, c, d⟩ := h.r k
        have hm : mayO ks p = if lenO p < 1 ∨ 0 < p.rs.length ∨ 0 < p.st.length then 3 else may6 ks p.pt := by unfold mayO; rw [if_pos k]; rfl
        rw [hm, if_neg, d]
        rw [len_1 (by omega), a, b, if_pos (by omega)]; simp; omega
      · obtain ⟨a, b, c, d, e⟩ := h.i k
        have hm : mayO ks p = if lenO p < 1 ∨ p.n ≠ 0 ∨ 0 < p.pt.length then 3 else if p.rs.all mayB then may5 ks p.st else 3 := by unfold mayO; rw [if_neg (by omega), if_pos k]; rfl
        have hp : 0 < p.rs.length := List.length_pos_iff.2 c
        rw [hm, if_neg, if_pos d, e]
        rw [len_2 k, a, b]; simp; omega
      · obtain ⟨a, b, c, d⟩ := h.d k
        have hm : mayO ks p = if lenO p < 1 ∨ 0 < p.rs.length ∨ 0 < p.st.length ∨ 0 < p.pt.length then 3 else 0 := by unfold mayO; rw [if_neg (by omega), if_neg (by omega), if_pos k]; rfl
        rw [hm, if_neg]
        rw [len_1 (by omega), a, b, c, if_pos (by omega)]; simp; omega
    exact ⟨by rw [h0]; omega, by rw [h0]; omega⟩
theorem Fo.len {ks : List Key} {p : Opn} (h : Fo ks p) : 1 ≤ lenN p := by
  unfold lenN
  rcases h.kind with k | k | k
  · rw [if_neg (by omega), if_pos (.inl k)]; exact (h.r k).2.2.1
  · rw [if_pos k]
    have := List.length_pos_iff.2 (h.i k).2.2.1
    omega
  · rw [if_neg (by omega), if_pos (.inr k)]; exact (h.d k).2.2.2
theorem Fo.tm {ks : List Key} {p : Opn} (h : Fo ks p) (hn : p.n ≤ 9223372036854775807) : Tm p :=
  ⟨fun k => ⟨(h.r k).2.1, (h.r k).1, (h.r k).2.2.1⟩, fun k => ⟨(h.i k).1, (h.i k).2.1, (h.i k).2.2.1⟩, fun k => ⟨(h.d k).2.1, (h.d k).2.2.1, (h.d k).1, (h.d k).2.2.2⟩, h.kind, hn⟩
/-- What holds of all told, and of two made one, holds of the form. -/
theorem rpush_all {P : Opn → Prop} (hl : ∀ l p, P l → P p → Alike l p → P (long l p)) {p : Opn} {r : List Opn} (hp : P p) (hr : ∀ o ∈ r, P o) : ∀ o ∈ rpush p r, P o := by
  cases r with
  | nil => intro o ho; obtain rfl := List.mem_singleton.1 ho; exact hp
  | cons l r =>
    by_cases ha : Alike l p
    · rw [rpush_yes r ha]
      intro o ho
      rcases List.mem_cons.1 ho with rfl | ho
      · exact hl l p (hr l (by simp)) hp ha
      · exact hr o (by simp [ho])
    · rw [rpush_no r ha]
      intro o ho
      rcases List.mem_cons.1 ho with rfl | ho
      · exact hp
      · exact hr o ho
theorem rtell_all {P : Opn → Prop} (hl : ∀ l p, P l → P p → Alike l p → P (long l p)) (h1 : ∀ p, P p → 1 ≤ lenN p) {p : Opn} {R : List Opn} (hp : P p) (hR : ∀ o ∈ R, P o) : ∀ o ∈ rtell p R, P o := by
  cases R with
  | nil => rw [rtell_nil (h1 p hp)]; intro o ho; obtain rfl := List.mem_singleton.1 ho; exact hp
  | cons d r =>
    by_cases hc : p.k = 2 ∧ d.k = 3
    · rw [rtell_del r (h1 p hp) hc.1 hc.2]
      intro o ho
      rcases List.mem_cons.1 ho with rfl | ho
      · exact hR o (by simp)
      · exact rpush_all hl hp (fun o h => hR o (by simp [h])) o ho
    · rw [rtell_else r (h1 p hp) hc]; exact rpush_all hl hp hR
theorem form_all {P : Opn → Prop} (hl : ∀ l p, P l → P p → Alike l p → P (long l p)) (h1 : ∀ p, P p → 1 ≤ lenN p) {xs : List Opn} (h : ∀ p ∈ xs, P p) : ∀ o ∈ formO xs, P o := by
  intro o ho
  have h2 : o ∈ settleR (tellR xs) := by simpa [formO] using ho
  exact tell_ind (P := fun R => ∀ o ∈ R, P o) (by simp) xs (fun p hp R hR => rtell_all hl h1 (h p hp) hR) o (settle_sub _ o h2)
theorem fo_long {ks : List Key} {l p : Opn} (hl : Fo ks l) (hp : Fo ks p) (ha : Alike l p) (hn : l.n ≤ 9223372036854775807) : Fo ks (long l p) := by
  obtain ⟨e1, e2, e3⟩ := long_k l p
  have hk : l.k = p.k := ha.1
  have hr : l.k ≠ 2 → (long l p).rs = l.rs ∧ (long l p).n = l.n + min p.n (9223372036854775807 - l.n) := fun h => by unfold long; rw [if_neg h]; exact ⟨rfl, rfl⟩
  have hi : l.k = 2 → (long l p).rs = l.rs ++ p.rs ∧ (long l p).n = l.n := fun h => by unfold long; rw [if_pos h]; exact ⟨rfl, rfl⟩
  refine ⟨by rw [e1]; exact hl.kind, fun k => ?_, fun k => ?_, fun k => ?_⟩
  · rw [e1] at k
    obtain ⟨a, b, c, d⟩ := hl.r k
    obtain ⟨a', b', c', d'⟩ := hp.r (by omega)
    obtain ⟨r1, r2⟩ := hr (by omega)
    exact ⟨by rw [r1, a], by rw [e2, b], by rw [r2]; omega, by rw [e3]; exact d⟩
  · rw [e1] at k
    obtain ⟨a, b, c, d, e⟩ := hl.i k
    obtain ⟨a', b', c', d', e'⟩ := hp.i (by omega)
    obtain ⟨r1, r2⟩ := hi k
    exact ⟨by rw [r2, a], by rw [e3, b], by rw [r1]; exact fun hh => c (List.append_eq_nil_iff.1 hh).1, by rw [r1, List.all_append, d, d']; rfl, by rw [e2]; exact e⟩
  · rw [e1] at k
    obtain ⟨a, b, c, d⟩ := hl.d k
    obtain ⟨a', b', c', d'⟩ := hp.d (by omega)
    obtain ⟨r1, r2⟩ := hr (by omega)
    exact ⟨by rw [r1, a], by rw [e2, b], by rw [e3, c], by rw [r2]; omega⟩
/-- How much: no more. -/
theorem lenO_long {ks : List Key} {l p : Opn} (hl : Fo ks l) (hp : Fo ks p) (ha : Alike l p) : lenO (long l p) ≤ lenO l + lenO p := by
  have e1 := (long_k l p).1
  have hk : l.k = p.k := ha.1
  by_cases h2 : l.k = 2
  · rw [len_2 (by rw [e1]; exact h2), len_2 h2, len_2 (by omega)]
    unfold long; rw [if_pos h2]; simp only [List.length_append]; omega
  · rw [len_1 (by rw [e1]; exact h2), len_1 h2, len_1 (by omega)]
    unfold long; rw [if_neg h2]; simp only
    split <;> split <;> split <;> omega
theorem tot_rpush {kd : Int} {ks : List Key} {p : Opn} {r : List Opn} (hp : Fo ks p) (hr : ∀ o ∈ r, Fo ks o) : tot kd (rpush p r) ≤ tot kd r + if cnt kd p then lenO p else 0 := by
  cases r with
  | nil => rw [rpush_nil, tot_cons, tot_nil]; omega
  | cons l r =>
    by_cases ha : Alike l p
    · rw [rpush_yes r ha, tot_cons, tot_cons]
      have e : cnt kd (long l p) = cnt kd l := by unfold cnt; rw [(long_k l p).1]
      have e2 : cnt kd p = cnt kd l := by unfold cnt; rw [ha.1]
      have := lenO_long (hr l (by simp)) hp ha
      rw [e, e2]
      split <;> omega
    · rw [rpush_no r ha, tot_cons]; omega
theorem tot_rtell {kd : Int} {ks : List Key} {p : Opn} {R : List Opn} (hp : Fo ks p) (hR : ∀ o ∈ R, Fo ks o) : tot kd (rtell p R) ≤ tot kd R + if cnt kd p then lenO p else 0 := by
  cases R with
  | nil => rw [rtell_nil hp.len, tot_cons, tot_nil]; omega
  | cons d r =>
    by_cases hc : p.k = 2 ∧ d.k = 3
    · rw [rtell_del r hp.len hc.1 hc.2, tot_cons, tot_cons]
      have := tot_rpush (kd := kd) (r := r) hp (fun o h => hR o (by simp [h]))
      omega
    · rw [rtell_else r hp.len hc]; exact tot_rpush hp hR
theorem tot_rev (kd : Int) (xs : List Opn) : tot kd xs.reverse = tot kd xs := by
  induction xs with
  | nil => rfl
  | cons x r ih => rw [List.reverse_cons, tot_app, ih, tot_cons, tot_cons, tot_nil]; omega
/-- An op of so many at most. -/
structure Fn (ks : List Key) (p : Opn) : Prop where
  fo : Fo ks p
  n : p.n ≤ 9223372036854775807
theorem fn_long {ks : List Key} (l p : Opn) (hl : Fn ks l) (hp : Fn ks p) (ha : Alike l p) : Fn ks (long l p) := by
  refine ⟨fo_long hl.fo hp.fo ha hl.n, ?_⟩
  have := hl.n
  unfold long
  split
  · exact this
  · simp only; omega
theorem tell_tot (kd : Int) {ks : List Key} : ∀ (xs : List Opn), (∀ p ∈ xs, Fn ks p) → tot kd (tellR xs) ≤ tot kd xs := fun xs => by
  induction xs using snoc_ind with
  | nil => intro _; exact Int.le_refl _
  | append_singleton xs x ih =>
    intro h
    have hx := h x (by simp)
    have hxs : ∀ p ∈ xs, Fn ks p := fun p hp => h p (by simp [hp])
    have hR : ∀ o ∈ tellR xs, Fn ks o := tell_ind (P := fun R => ∀ o ∈ R, Fn ks o) (by simp) xs (fun p hp R hR => rtell_all fn_long (fun p h => h.fo.len) (hxs p hp) hR)
    have h1 := ih hxs
    have h2 := tot_rtell (kd := kd) hx.fo (fun o ho => (hR o ho).fo)
    rw [tellR_snoc, tot_app, tot_cons, tot_nil]
    omega
theorem form_tot (kd : Int) {ks : List Key} {xs : List Opn} (h : ∀ p ∈ xs, Fn ks p) : tot kd (formO xs) ≤ tot kd xs := by
  have h1 := tell_tot kd xs h
  have h2 : tot kd (settleR (tellR xs)) ≤ tot kd (tellR xs) := by
    cases tellR xs with
    | nil => exact Int.le_refl _
    | cons o r =>
      by_cases hi : Idle o
      · rw [settleR_yes r hi, tot_cons]
        have := lenO_nn o
        split <;> omega
      · rw [settleR_no r hi]; exact Int.le_refl _
  unfold formO
  rw [tot_rev]
  omega
theorem may_fn {ks : List Key} {xs : List Opn} (h : mayX ks xs = 0) : ∀ p ∈ xs, Fn ks p := fun p hp => by
  obtain ⟨h1, h2, h3⟩ := mayX_0.1 h
  have hf := fine_fo.1 (h3 p hp)
  refine ⟨hf, ?_⟩
  rcases hf.kind with k | k | k
  · have := tot_mem hp (kd := 3) (cnt_1 k)
    rw [len_1 (by omega)] at this
    split at this <;> omega
  · rw [(hf.i k).1]; omega
  · have := tot_mem hp (kd := 3) (cnt_k k)
    rw [len_1 (by omega)] at this
    split at this <;> omega
theorem may_tm {ks : List Key} {xs : List Opn} (h : mayX ks xs = 0) : ∀ p ∈ xs, Tm p := fun p hp => ((may_fn h p hp).fo).tm (may_fn h p hp).n
/-- The form of what may be may be. -/
theorem may_form {ks : List Key} {xs : List Opn} (h : mayX ks xs = 0) : mayX ks (formO xs) = 0 := by
  have hn := may_fn h
  obtain ⟨h1, h2, -⟩ := mayX_0.1 h
  have t3 := form_tot 3 hn
  have t2 := form_tot 2 hn
  exact mayX_0.2 ⟨by omega, by omega, fun p hp => fine_fo.2 (form_all fn_long (fun p h => h.fo.len) hn p hp).fo⟩
end Go.Proofs.YtohgopibimgjfaaGreat

/- P8: what may be has bytes; what its bytes are read as -/
namespace Go.Proofs.YtohgopibimgjfaaGreat
open Go.RowKit Go.Lib
set_option linter.unusedVariables false
set_option maxRecDepth 100000

theorem empty_of {s : ByteArray} (h : s.size = 0) : s = ⟨#[]⟩ := by
  have h1 : (nu s).length = 0 := by rw [nu_len]; exact h
  have h2 := str_nu s
  rw [List.eq_nil_of_length_eq_zero h1] at h2
  rw [← h2]; rfl
theorem key_rng {ks : List Key} (hg : Good ks) {id : Int} {k : Key} (h : fnd ks id = some k) : 1 ≤ id ∧ id ≤ 1000 := by
  obtain ⟨h1, h2⟩ := fnd_some h
  have := hg.1 k h1
  unfold mayK at this
  rw [decide_eq_true_iff] at this
  rw [← h2]
  exact ⟨this.1, this.2.1⟩
theorem vmay_vk {v : Vl} (h : vmay v.k v.n v.f v.s = true) (hn : -9223372036854775808 ≤ v.n ∧ v.n ≤ 9223372036854775807) (hf : 0 ≤ v.f ∧ v.f < 18446744073709551616) : VC v := by
  unfold vmay at h
  rw [decide_eq_true_iff] at h
  obtain ⟨k, n, f, s⟩ := v
  simp only at h hn hf
  unfold VC VK
  simp only
  rcases h with ⟨rfl, h1, h2, h3⟩ | ⟨rfl, h2, h3⟩ | ⟨rfl, h1, h2, h3⟩ | ⟨rfl, h1, h2, h3⟩
  · exact ⟨by decide, rfl, by rw [if_pos (.inl (by rfl))]; exact ⟨hn, h2, empty_of h3⟩⟩
  · exact ⟨by decide, rfl, by rw [if_pos (.inr (by rfl))]; exact ⟨hn, h2, empty_of h3⟩⟩
  · exact ⟨by decide, rfl, by rw [if_neg (by decide), if_pos (by rfl)]; exact ⟨h1, hf, empty_of h3⟩⟩
  · refine ⟨by decide, rfl, ?_⟩
    rw [if_neg (by decide), if_neg (by decide)]
    unfold textB at h3
    rw [Bool.and_eq_true, decide_eq_true_iff] at h3
    exact ⟨h1, h2, by have := h3.1; omega⟩
theorem att_ak {ks : List Key} (hg : Good ks) {st : List Att} (h : may5 ks st = 0) (hW : ∀ a ∈ st, AttW a) : st.length ≤ 64 ∧ ∀ a ∈ st, AK a := by
  unfold may5 at h
  by_cases hw : wf5 st = true
  · rw [if_pos hw] at h
    by_cases hf : okF5 ks st = true
    · unfold wf5 at hw
      rw [Bool.and_eq_true, Bool.and_eq_true, decide_eq_true_iff, decide_eq_true_iff] at hw
      obtain ⟨⟨-, h64⟩, hv⟩ := hw
      refine ⟨h64, fun a ha => ?_⟩
      have h1 := List.all_eq_true.1 hv a ha
      have h2 := List.all_eq_true.1 hf a ha
      have hw := hW a ha
      have b1 := Go.bounds_i64 hw.n
      have b2 := hw.f0
      have b3 := Go.bounds_u64 hw.f
      refine ⟨?_, vmay_vk h1 (by simp only [vlA]; omega) (by simp only [vlA]; omega)⟩
      cases hk : fnd ks a.key with
      | none => rw [fitsB_none hk] at h2; cases h2
      | some k => have := key_rng hg hk; omega
    · rw [if_neg hf] at h; omega
  · rw [if_neg hw] at h; omega
theorem zv_of {c : Chg} (h : zv c = true) : vlC c = zV := by
  unfold zv at h
  simp only [Bool.and_eq_true, beq_iff_eq] at h
  obtain ⟨⟨⟨h1, h2⟩, h3⟩, h4⟩ := h
  have hs : c.s.size = 0 := by
    have := congrArg List.length h4
    rw [toList_data, toList_data] at this
    simpa using this
  unfold vlC zV
  rw [h1, h2, h3, empty_of hs]
theorem chg_gk {ks : List Key} (hg : Good ks) {pt : List Chg} (h : may6 ks pt = 0) (hW : ∀ c ∈ pt, ChgW c) : pt.length ≤ 64 ∧ ∀ c ∈ pt, GK c := by
  unfold may6 at h
  by_cases hw : (wf6 pt && okV (ats pt)) = true
  · rw [if_pos hw] at h
    by_cases hf : (okF5 ks (ats pt) && pt.all (isIn ks)) = true
    · rw [Bool.and_eq_true] at hw hf
      obtain ⟨hw, hv⟩ := hw
      unfold wf6 at hw
      rw [Bool.and_eq_true, Bool.and_eq_true, decide_eq_true_iff, decide_eq_true_iff] at hw
      obtain ⟨⟨-, h64⟩, hgo⟩ := hw
      refine ⟨h64, fun c hc => ?_⟩
      have h1 := List.all_eq_true.1 hgo c hc
      have h2 := List.all_eq_true.1 hf.2 c hc
      have hw := hW c hc
      have b1 := Go.bounds_i64 hw.n
      have b2 := hw.f0
      have b3 := hw.f1
      refine ⟨?_, ?_⟩
      · unfold isIn at h2
        cases hk : fnd ks c.key with
        | none => rw [hk] at h2; cases h2
        | some k => have := key_rng hg hk; omega
      · cases hcg : c.g with
        | true =>
          rw [if_pos rfl]
          unfold gOk at h1
          rw [hcg] at h1
          exact zv_of (by simpa using h1)
        | false =>
          rw [if_neg (by simp)]
          have hm : toA c ∈ ats pt := List.mem_map_of_mem (List.mem_filter.2 ⟨hc, by simp [hcg]⟩)
          have h3 := List.all_eq_true.1 hv _ hm
          exact vmay_vk h3 (by simp only [vlC]; omega) (by simp only [vlC]; omega)
    · rw [if_neg hf] at h; omega
  · rw [if_neg hw] at h; omega
/-- Its sets' and patches' numbers are numbers. -/
structure Sw (p : Opn) : Prop where
  s : ∀ a ∈ p.st, AttW a
  p : ∀ c ∈ p.pt, ChgW c
theorem sw_long (l p : Opn) (hl : Sw l) (hp : Sw p) (ha : Alike l p) : Sw (long l p) := by
  obtain ⟨-, e2, e3⟩ := long_k l p
  exact ⟨by rw [e2]; exact hl.s, by rw [e3]; exact hl.p⟩
/-- Both at once, so that the form keeps them. -/
theorem form_sw {ks : List Key} {xs : List Opn} (h : mayX ks xs = 0) (hs : ∀ p ∈ xs, Sw p) : ∀ p ∈ formO xs, Sw p := fun p hp =>
  (form_all (P := fun p => Fn ks p ∧ Sw p) (fun l p hl hp ha => ⟨fn_long l p hl.1 hp.1 ha, sw_long l p hl.2 hp.2 ha⟩) (fun p h => h.1.fo.len) (fun p hp => ⟨may_fn h p hp, hs p hp⟩) p hp).2
theorem may_xk {M : Nat} (hM : 536870912 ≤ M) {ks : List Key} (hg : Good ks) {xs : List Opn} (hl : xs.length < 18446744073709551616) (h : mayX ks xs = 0) (hs : ∀ p ∈ xs, Sw p) : XK M xs := by
  obtain ⟨t3, t2, -⟩ := mayX_0.1 h
  refine ⟨hl, fun p hp => ?_⟩
  obtain ⟨hf, hn⟩ := may_fn h p hp
  have hw := hs p hp
  unfold OK KK
  rcases hf.kind with k | k | k
  · obtain ⟨a, b, c, d⟩ := hf.r k
    have := tot_mem hp (kd := 3) (cnt_1 k)
    rw [len_1 (by omega), if_pos (by omega)] at this
    obtain ⟨e1, e2⟩ := chg_gk hg d hw.p
    rw [k, if_pos (by rfl)]
    exact ⟨k, ⟨by omega, by omega⟩, a, b, by omega, e2⟩
  · obtain ⟨a, b, c, d, e⟩ := hf.i k
    have := tot_mem hp (kd := 2) (cnt_k k)
    rw [len_2 k] at this
    obtain ⟨e1, e2⟩ := att_ak hg e hw.s
    have hu := utfZ_len p.rs
    rw [k, if_neg (by decide), if_pos (by rfl)]
    exact ⟨k, a, ⟨d, by omega⟩, b, by omega, e2⟩
  · obtain ⟨a, b, c, d⟩ := hf.d k
    have := tot_mem hp (kd := 3) (cnt_k k)
    rw [len_1 (by omega), if_pos (by omega)] at this
    rw [k, if_neg (by decide), if_neg (by decide), if_pos (by rfl)]
    exact ⟨k, ⟨by omega, by omega⟩, a, b, c⟩
/-- What all bytes are read as: a delta and the error. -/
noncomputable def decX (M : Nat) (ks : List Key) (l : List Int) : List Opn × Int := match cAll M l with
  | none => ([], 3)
  | some xs => if mayX ks xs = 3 ∨ ¬ formO xs = xs then ([], 3) else if mayX ks xs = 4 then ([], 4) else (xs, 0)
/-- The form's bytes are read as the form. -/
theorem dec_enc {M : Nat} (hM : 536870912 ≤ M) (hM2 : M < 18446744073709551616) {ks : List Key} (hg : Good ks) {xs : List Opn} (hl : xs.length < 18446744073709551616) (h : mayX ks xs = 0) (hs : ∀ p ∈ xs, Sw p) (hn : formO xs = xs) : decX M ks (encX xs) = (xs, 0) := by
  have hx := may_xk hM hg hl h hs
  have h1 := (cAll_some hM2 ((cod_ops hM2).okb xs hx)).2 ⟨hx, rfl⟩
  unfold decX
  rw [h1]
  simp only
  rw [if_neg (by rw [h]; intro hh; rcases hh with hh | hh <;> first | omega | exact hh hn), if_neg (by omega)]
theorem dec_0 {M : Nat} {ks : List Key} {l : List Int} {xs : List Opn} (h : decX M ks l = (xs, 0)) : cAll M l = some xs ∧ mayX ks xs = 0 ∧ formO xs = xs := by
  unfold decX at h
  cases hc : cAll M l with
  | none => rw [hc] at h; simp at h
  | some ys =>
    rw [hc] at h
    simp only at h
    by_cases h3 : mayX ks ys = 3 ∨ ¬ formO ys = ys
    · rw [if_pos h3] at h; simp at h
    · rw [if_neg h3] at h
      by_cases h4 : mayX ks ys = 4
      · rw [if_pos h4] at h; simp at h
      · rw [if_neg h4] at h
        simp only [Prod.mk.injEq, and_true] at h
        subst h
        have := mayX_ways ks ys
        exact ⟨rfl, by omega, by
          by_cases q : formO ys = ys
          · exact q
          · exact absurd (.inr q) h3⟩
theorem dec_none {M : Nat} {ks : List Key} {l : List Int} (h : cAll M l = none) : decX M ks l = ([], 3) := by unfold decX; rw [h]
end Go.Proofs.YtohgopibimgjfaaGreat

/- P9: the reference's bytes of a value -/
namespace Go.Proofs.YtohgopibimgjfaaGreat
open Go.RowKit Go.Lib
set_option linter.unusedVariables false
set_option maxRecDepth 100000

/-- Bytes that the call has made. -/
structure Bs (w0 : World) (v : Value) (xs : List Int) (W : World) : Prop where
  own : W.ownsRow w0.heap.size 5 1 v xs.length (xs.map (Value.int .u8))
  bel : Below w0.heap.size w0 W
theorem own_shape3 {W : World} {B m k : Nat} {e : TypeId} {v : Value} {cs : List Value} (h : W.ownsRow B e m v k cs) : ∃ a n c, k = n ∧ v = .slice a n c := by
  obtain ⟨a, c, h1, -, -⟩ := own_shape h
  exact ⟨a, _, c, rfl, h1⟩
section
variable {w0 w W W2 : World} {v v2 : Value} {xs ys : List Int}
theorem Bs.below (h : Bs w0 v xs W) (hb : Below W.heap.size W W2) : Bs w0 v xs W2 := ⟨owns_below h.own hb, below_add h.bel hb h.bel.size⟩
theorem Bs.app (h : Bs w0 v xs W) (ho : W2.ownsRow w0.heap.size 5 1 v2 (xs.length + ys.length) (xs.map (Value.int .u8) ++ ys.map (Value.int .u8))) (hg : W.grownBy W2 v.ownBlock) : Bs w0 v2 (xs ++ ys) W2 :=
  ⟨by rw [List.length_append, List.map_append]; exact ho, h.bel.grown hg h.bel.size (fun k hk => (h.own.lt k hk).1)⟩
theorem Bs.shape (h : Bs w0 v xs W) : ∃ a n c, xs.length = n ∧ v = .slice a n c := by
  obtain ⟨a, c, e, -, -⟩ := own_shape h.own
  exact ⟨a, _, c, rfl, e⟩
theorem Bs.made (h : Bs w0 v xs W) : WMade xs w0 (.returned v) W := ⟨v, rfl, h.own, h.bel⟩
/-- Made in the middle of a call. -/
theorem Bs.of (hb : Below w0.heap.size w0 w) (ho : W.ownsRow w.heap.size 5 1 v xs.length (xs.map (Value.int .u8))) (hb2 : Below w.heap.size w W) : Bs w0 v xs W :=
  ⟨⟨ho.1, by
    rcases ho.2 with h | ⟨g, cap, cur, e, hB, r⟩
    · exact .inl h
    · exact .inr ⟨g, cap, cur, e, Nat.le_trans hb.size hB, r⟩⟩, below_add hb hb2 hb.size⟩
theorem Bs.made2 {w2 : World} (h : Bs w0 v xs W) (hb : Below w2.heap.size w2 w0) : WMade xs w2 (.returned v) W := (Bs.of hb h.own h.bel).made
end
theorem eVl_num {k : Nat} (n f : Int) (s : ByteArray) (h : k = 1 ∨ k = 2) : eVl ⟨k, n, f, s⟩ = form k ++ form (zig n) := by
  unfold eVl eVal
  simp only [Int.toNat_natCast]
  rw [if_pos h]
theorem eVl_txt {k : Nat} (n f : Int) (s : ByteArray) (h : ¬ (k = 1 ∨ k = 2)) (h3 : k ≠ 3) : eVl ⟨k, n, f, s⟩ = form k ++ form s.size ++ nu s := by
  unfold eVl eVal
  simp only [Int.toNat_natCast]
  rw [if_neg h, if_neg h3, List.append_assoc]

set_option maxHeartbeats 4000000 in
theorem rvalue_any (k f : Nat) (n : Int) (s : ByteArray) (w : World) (hk : k < 256) (hf : f < 18446744073709551616) (hn : -9223372036854775808 ≤ n ∧ n ≤ 9223372036854775807) (hs : s.size ≤ 1048576) :
    Calls Tryz.prog 59 #[val k n f s] w (WMade (eVl ⟨k, n, f, s⟩) w) := by
  obtain ⟨i0, hi, hz0, hz1, hz2⟩ := info_parts info8
  have HFK := Lib.hid (fun W => wform_any k W (show k < _ by omega))
  have hB := Lib.hid (kbelow_one w (.cells (vcells k n f s) 59))
  have HA := Lib.hid (At.box k n f s w 59)
  have lk : (form k).length ≤ 10 := form_ten k (by omega)
  have hzl := zig_lt n hn.1 hn.2
  have lz : (form (zig n)).length ≤ 10 := form_ten _ hzl
  have lf : (form f).length ≤ 10 := form_ten _ hf
  have ls : (form s.size).length ≤ 10 := form_ten _ (by omega)
  by_cases h12 : k = 1 ∨ k = 2
  · rw [eVl_num n f s h12]
    have HFZ := Lib.hid (fun W => wform_any (zig n) W hzl)
    have HWH := Lib.hid (fun W => whole_any n W hn.1 hn.2)
    rcases h12 with rfl | rfl
    all_goals
      obtain ⟨c0, c1, c2, c3⟩ := HA.out
      go_enter Tryz.func59, Tryz.ntmps59
      go_wp2_with (first
        | (go_at_call 98; go_loud (refine (HWH.out _).mono ?_); go_loud (rintro e w2 ⟨rfl, rfl⟩))
        | (go_at_call 58; (with_reducible refine (HFZ.out _).mono ?_); rintro e w3 ⟨v3, rfl, ho, hb⟩; go_loud (obtain ⟨a3, n3, c3, hn, rfl⟩ := own_shape3 ho; clear hn; have HO3 := Lib.hid (HO.out.below hb); have HY := Lib.hid (Ints.of_owns ho).1; clear ho hb))
        | (at_builtin; go_loud (refine wpList_append_ints rfl (.tmp 13) (.tmp 17) 31 rfl _ 5 i0 (.int .u8 0) 1 Tryz.underlying31 hi hz0 hz1 hz2 rfl _ _ _ rfl HO3.out.own _ .u8 _ rfl HY.out (by (try simp only [List.length_append, nu_len]); unfold maxLen; omega) (by (try simp only [List.length_append, nu_len]); omega) HO3.out.bel.size ?_); intro v4 w4 hown hgrow; have HO4 := Lib.hid (HO3.out.app hown hgrow); obtain ⟨a4, n4, c4, hn, rfl⟩ := HO4.out.shape; clear hn; clear hown hgrow)
        | (go_at_call 58; refine (HFK.out _).mono ?_; rintro e w1 ⟨v1, rfl, ho, hb⟩; go_loud (obtain ⟨a1, n1, c1, hn, rfl⟩ := own_shape3 ho; clear hn; have HO := Lib.hid (Bs.mk ho hb); obtain ⟨d0, d1, d2, d3⟩ := HA.out.below hb; clear ho hb)))
      go_ret
      exact HO4.out.made2 hB.out
  by_cases h3 : k = 3
  · subst h3
    rw [show eVl ⟨((3 : Nat) : Int), n, f, s⟩ = form 3 ++ form f from rfl]
    have HFF := Lib.hid (fun W => wform_any f W hf)
    obtain ⟨c0, c1, c2, c3⟩ := HA.out
    clear h12
    go_enter Tryz.func59, Tryz.ntmps59
    go_wp2_with (first
      | (go_at_call 58; (with_reducible refine (HFF.out _).mono ?_); rintro e w3 ⟨v3, rfl, ho, hb⟩; go_loud (obtain ⟨a3, n3, c3, hn, rfl⟩ := own_shape3 ho; clear hn; have HO3 := Lib.hid (HO.out.below hb); have HY := Lib.hid (Ints.of_owns ho).1; clear ho hb))
      | (at_builtin; go_loud (refine wpList_append_ints rfl (.tmp 21) (.tmp 24) 31 rfl _ 5 i0 (.int .u8 0) 1 Tryz.underlying31 hi hz0 hz1 hz2 rfl _ _ _ rfl HO3.out.own _ .u8 _ rfl HY.out (by (try simp only [List.length_append, nu_len]); unfold maxLen; omega) (by (try simp only [List.length_append, nu_len]); omega) HO3.out.bel.size ?_); intro v4 w4 hown hgrow; have HO4 := Lib.hid (HO3.out.app hown hgrow); obtain ⟨a4, n4, c4, hn, rfl⟩ := HO4.out.shape; clear hn; clear hown hgrow)
      | (go_at_call 58; refine (HFK.out _).mono ?_; rintro e w1 ⟨v1, rfl, ho, hb⟩; go_loud (obtain ⟨a1, n1, c1, hn, rfl⟩ := own_shape3 ho; clear hn; have HO := Lib.hid (Bs.mk ho hb); obtain ⟨d0, d1, d2, d3⟩ := HA.out.below hb; clear ho hb)))
    go_ret
    exact HO4.out.made2 hB.out
  · rw [eVl_txt n f s h12 h3]
    have HFS := Lib.hid (fun W => wform_any s.size W (show s.size < _ by omega))
    have HBY := Lib.hid (fun W => bytes_of s W (by omega))
    have e1 : ((k : Int) == 1) = false := by simp; omega
    have e2 : ((k : Int) == 2) = false := by simp; omega
    have e3 : ((k : Int) == 3) = false := by simp; omega
    obtain ⟨c0, c1, c2, c3⟩ := HA.out
    clear h12 h3
    go_enter Tryz.func59, Tryz.ntmps59
    go_upto_region 9 with (first
      | (go_at_call 58; (with_reducible refine (HFK.out _).mono ?_); rintro e w1 ⟨v1, rfl, ho, hb⟩; go_loud (obtain ⟨a1, n1, c1, hn, rfl⟩ := own_shape3 ho; clear hn; have HO := Lib.hid (Bs.mk ho hb); have HA1 := Lib.hid (HA.out.below hb); obtain ⟨d0, d1, d2, d3⟩ := HA1.out; clear ho hb))
      | (go_at_call 58; (with_reducible refine (HFS.out _).mono ?_); rintro e w3 ⟨v3, rfl, ho, hb⟩; go_loud (obtain ⟨a3, n3, c3, hn, rfl⟩ := own_shape3 ho; clear hn; have HO3 := Lib.hid (HO.out.below hb); have HA3 := Lib.hid (HA1.out.below hb); have HY := Lib.hid (Ints.of_owns ho).1; clear ho hb))
      | (at_builtin; go_loud (refine wpList_append_ints rfl (.tmp 26) (.tmp 31) 31 rfl _ 5 i0 (.int .u8 0) 1 Tryz.underlying31 hi hz0 hz1 hz2 rfl _ _ _ rfl HO3.out.own _ .u8 _ rfl HY.out (by (try simp only [List.length_append, nu_len]); unfold maxLen; omega) (by (try simp only [List.length_append, nu_len]); omega) HO3.out.bel.size ?_); intro v4 w4 hown hgrow; have HO4 := Lib.hid (HO3.out.app hown hgrow); obtain ⟨a4, n4, c4, hn, rfl⟩ := HO4.out.shape; clear hn; clear hown hgrow))
    obtain ⟨vb, wb, hcv, hib, hbb⟩ := HBY.out w4
    have HO5 := Lib.hid (HO4.out.below hbb)
    have HY5 := Lib.hid (show Ints .u8 wb vb (nu s) from hib)
    obtain ⟨d0, d1, d2, d3⟩ := HA.out.below HO4.out.bel
    have hl4 : (form k ++ form s.size).length ≤ 20 := by rw [List.length_append]; omega
    clear hib hbb
    obtain ⟨ab, cb, rfl⟩ := HY5.out.shape
    go_wp2_with (at_builtin; go_loud (refine wpList_append_ints rfl (.tmp 33) (.tmp 36) 31 rfl _ 5 i0 (.int .u8 0) 1 Tryz.underlying31 hi hz0 hz1 hz2 rfl _ _ _ rfl HO5.out.own _ .u8 _ rfl HY5.out (by (try simp only [List.length_append, nu_len]); unfold maxLen; omega) (by (try simp only [List.length_append, nu_len]); omega) HO5.out.bel.size ?_); intro v6 w6 hown hgrow; have HO6 := Lib.hid (HO5.out.app hown hgrow); obtain ⟨a6, n6, c6, hn, rfl⟩ := HO6.out.shape; clear hn; clear hown hgrow)
    go_ret
    exact HO6.out.made2 hB.out
end Go.Proofs.YtohgopibimgjfaaGreat
