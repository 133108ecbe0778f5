
import Derived.Test.YtkejebjppnhidaaC5
import Derived.Test.YtkejebjppnhidaaA9
/- C12: great -/
namespace Go.Proofs.Ytkejebjppnhidaa
open Go.RowKit
set_option linter.unusedVariables false

theorem row_size {α : Type} {C : Cel α} {W : World} {a : Option Addr} {n c : Nat} {l : List α} (h : Row C W (.slice a n c) l) : n = l.length := by
  obtain ⟨_, _, e⟩ := h.shape
  injection e
/-- How much there is. -/
def sizeC (p : List Chg) : Nat := (p.map fun c => c.s.size).sum
def sizeA (a : List Att) : Nat := (a.map fun c => c.s.size).sum
def totC (p : List Chg) : Nat := p.length + sizeC p
def totA (a : List Att) : Nat := a.length + sizeA a
def totS (l : List (List Att)) : Nat := (l.map totA).sum
theorem sizeC_snoc {p : List Chg} {k : Nat} (h : k < p.length) : sizeC (p.take (k + 1)) = sizeC (p.take k) + p[k].s.size := by unfold sizeC; rw [tsnoc h, List.map_append, List.sum_append]; simp
theorem sizeA_snoc {p : List Att} {k : Nat} (h : k < p.length) : sizeA (p.take (k + 1)) = sizeA (p.take k) + p[k].s.size := by unfold sizeA; rw [tsnoc h, List.map_append, List.sum_append]; simp
theorem totS_snoc {l : List (List Att)} {k : Nat} (h : k < l.length) : totS (l.take (k + 1)) = totS (l.take k) + totA l[k] := by unfold totS; rw [tsnoc h, List.map_append, List.sum_append]; simp
theorem sizeC_le : ∀ {p : List Chg} {c : Chg}, c ∈ p → c.s.size ≤ sizeC p
  | x :: r, c, h => by
    unfold sizeC
    rcases List.mem_cons.1 h with rfl | h
    · simp
    · have := sizeC_le h; unfold sizeC at this; simp; omega
theorem sizeA_le : ∀ {p : List Att} {c : Att}, c ∈ p → c.s.size ≤ sizeA p
  | x :: r, c, h => by
    unfold sizeA
    rcases List.mem_cons.1 h with rfl | h
    · simp
    · have := sizeA_le h; unfold sizeA at this; simp; omega
/-- A sum that is right as long as it is no greater than 2^62. -/
def Sum (m : Int) (n : Nat) : Prop := n ≤ 4611686018427387904 → m = n
theorem sum_add {m r : Int} {n k : Nat} (h : Sum m n) (hr : IntKind.i64.wrap (m + k) = r) : Sum r (n + k) := by
  intro hn
  have := h (by omega)
  rw [← hr, this, IntKind.wrap_i64]
  omega

/-- What the program reckons. -/
def wadd (m : Int) (k : Nat) : Int := IntKind.i64.wrap (m + (k : Nat))
def gC (p : List Chg) (k : Nat) : Int := (p.take k).foldl (fun m c => wadd m c.s.size) (p.length : Nat)
def gA (m : Int) (a : List Att) (k : Nat) : Int := (a.take k).foldl (fun m c => wadd m c.s.size) (wadd m a.length)
def gS (m : Int) (l : List (List Att)) (k : Nat) : Int := (l.take k).foldl (fun m a => gA m a a.length) m
theorem gC_snoc {p : List Chg} {k : Nat} (h : k < p.length) : gC p (k + 1) = wadd (gC p k) p[k].s.size := by unfold gC; rw [tsnoc h, List.foldl_append]; rfl
theorem gA_snoc {m : Int} {p : List Att} {k : Nat} (h : k < p.length) : gA m p (k + 1) = wadd (gA m p k) p[k].s.size := by unfold gA; rw [tsnoc h, List.foldl_append]; rfl
theorem gS_snoc {m : Int} {p : List (List Att)} {k : Nat} (h : k < p.length) : gS m p (k + 1) = gA (gS m p k) p[k] p[k].length := by unfold gS; rw [tsnoc h, List.foldl_append]; rfl
theorem gC_sum (p : List Chg) : ∀ k, k ≤ p.length → Sum (gC p k) (p.length + sizeC (p.take k))
  | 0, _ => fun _ => by simp [gC, sizeC]
  | k + 1, h => by
    have h1 : k < p.length := h
    rw [gC_snoc h1, sizeC_snoc h1, ← Nat.add_assoc]
    exact sum_add (gC_sum p k (by omega)) rfl
theorem gA_sum {m : Int} {n : Nat} (hm : Sum m n) (p : List Att) : ∀ k, k ≤ p.length → Sum (gA m p k) (n + (p.length + sizeA (p.take k)))
  | 0, _ => by have := sum_add (k := p.length) hm rfl; simpa [gA, sizeA, wadd] using this
  | k + 1, h => by
    have h1 : k < p.length := h
    rw [gA_snoc h1, sizeA_snoc h1, ← Nat.add_assoc p.length, ← Nat.add_assoc]
    exact sum_add (gA_sum hm p k (by omega)) rfl
theorem gS_sum {m : Int} {n : Nat} (hm : Sum m n) (p : List (List Att)) : ∀ k, k ≤ p.length → Sum (gS m p k) (n + totS (p.take k))
  | 0, _ => by simpa [gS, totS] using hm
  | k + 1, h => by
    have h1 : k < p.length := h
    rw [gS_snoc h1, totS_snoc h1, ← Nat.add_assoc]
    have := gA_sum (gS_sum hm p k (by omega)) p[k] p[k].length (Nat.le_refl _)
    rw [tend] at this
    exact this
/-- What great answers. -/
def grt (p : List Chg) (l : List (List Att)) : Bool := decide (4000 < gS (gC p p.length) l l.length)
/-- What is not great, and can't be reckoned wrong, is small. -/
theorem grt_no {p : List Chg} {l : List (List Att)} (h : grt p l = false) (hs : totC p + totS l ≤ 4611686018427387904) : totC p + totS l ≤ 4000 := by
  have h1 := gS_sum (gC_sum p p.length (Nat.le_refl _)) l l.length (Nat.le_refl _)
  rw [tend, tend] at h1
  have h2 := h1 hs
  unfold grt at h
  rw [decide_eq_false_iff_not] at h
  have e : p.length + sizeC p = totC p := rfl
  rw [e] at h2
  omega

set_option maxRecDepth 100000 in
set_option maxHeartbeats 1000000 in
theorem great_sets (a2 : Option Addr) (n2 c2 : Nat) (v : Value) (p : List Chg) (ss : List (Option Addr × Nat × Nat)) (l : List (List Att)) (w : World) (hv : Crow w v p) (h2 : Row slC w (.slice a2 n2 c2) ss) (hr : Rows5 w ss l) :
    Calls Try.prog 9 #[v, .slice a2 n2 c2] w fun e w' => e = .returned (.bool (grt p l)) ∧ w = w' := by
  have hl1 := hv.len
  have hl2 := h2.len
  obtain rfl : n2 = ss.length := row_size h2
  obtain ⟨a1, cap1, rfl⟩ := hv.shape
  have hP : ∀ k (hk : k < p.length), ∃ b o, a1 = some ⟨b, o, none⟩ ∧ w.cell? ⟨b, o + k * 6 + 5, none⟩ = some (.string p[k].s) := fun k hk => by
    obtain ⟨b, o, rfl, -, -, -, -, hat⟩ := Crow.opn hv (by omega)
    exact ⟨b, o, rfl, (hat k hk).2.2.2.2.2⟩
  have hS : ∀ k (hk : k < ss.length) (hk2 : k < l.length), ∃ b o, a2 = some ⟨b, o, none⟩ ∧ w.cell? ⟨b, o + k, none⟩ = some (slV ss[k]) ∧ Arow w (slV ss[k]) l[k] := fun k hk hk2 => by
    obtain ⟨b, o, rfl, -, -, -, -, hat, -⟩ := h2.opened (by omega)
    have := hat k hk 0 _ rfl
    exact ⟨b, o, rfl, by simpa [slC] using this, hr.2 k hk hk2⟩
  have HP := Lib.hid hP
  have HS := Lib.hid hS
  have HLL := Lib.hid hr.1
  clear hv h2 hr hP hS
  go_enter Try.func9, Try.ntmps9
  go_wp2
  go_loop [5, 13] (fun s5 s13 => ∃ k : Nat, k ≤ p.length ∧ s13 = .int .i64 k ∧ s5 = .int .i64 (gC p k)) (fun _ s13 => p.length - (intOf s13).toNat)
  case atStart => exact ⟨0, Nat.zero_le _, rfl, rfl⟩
  case round =>
    obtain ⟨k, hk, rfl, rfl⟩ := hrel
    by_cases hlt : k < p.length
    · obtain ⟨b, o, rfl, c5⟩ := HP.out k hlt
      have hs := (gC_snoc hlt).symm
      unfold wadd at hs
      generalize p[k].s = s at *
      obtain ⟨r, hrr⟩ : ∃ r, gC p (k + 1) = r := ⟨_, rfl⟩
      rw [hrr] at hs
      go_wp2
      go_round
      case rel => exact ⟨k + 1, by omega, by go_num, by rw [hrr]⟩
      case measure => simp [intOf]; omega
    · obtain rfl : k = p.length := by omega
      clear HP
      go_wp2
      go_loop [5, 28] (fun s5 s28 => ∃ k : Nat, k ≤ ss.length ∧ s28 = .int .i64 k ∧ s5 = .int .i64 (gS (gC p p.length) l k)) (fun _ s28 => ss.length - (intOf s28).toNat)
      case atStart => exact ⟨0, Nat.zero_le _, rfl, rfl⟩
      case round =>
        obtain ⟨k, hk, rfl, rfl⟩ := hrel
        by_cases hlt : k < ss.length
        · have hk2 : k < l.length := by rw [← HLL.out]; exact hlt
          obtain ⟨b2, o2, rfl, c2c, hA⟩ := HS.out k hlt hk2
          have hs := gS_snoc (m := gC p p.length) hk2
          generalize ss[k] = x at *
          generalize l[k] = y at *
          obtain ⟨x1, x2, x3⟩ := x
          change w.cell? ⟨b2, o2 + k, none⟩ = some (.slice x1 x2 x3) at c2c
          change Arow w (.slice x1 x2 x3) _ at hA
          have hyl := hA.len
          obtain rfl : x2 = y.length := row_size hA
          have hY : ∀ j (hj : j < y.length), ∃ b o, x1 = some ⟨b, o, none⟩ ∧ w.cell? ⟨b, o + j * 5 + 4, none⟩ = some (.string y[j].s) := fun j hj => by
            obtain ⟨b, o, rfl, -, -, -, -, hat⟩ := Arow.opn hA (by omega)
            exact ⟨b, o, rfl, (hat j hj).2.2.2.2⟩
          have HY := Lib.hid hY
          have HSN := Lib.hid hs
          clear hA hY hs
          generalize gS (gC p p.length) l k = m at *
          have hr0 : IntKind.i64.wrap (m + ((y.length : Nat) : Int)) = gA m y 0 := rfl
          go_wp2
          go_loop [5, 43] (fun s5 s43 => ∃ j : Nat, j ≤ y.length ∧ s43 = .int .i64 j ∧ s5 = .int .i64 (gA m y j)) (fun _ s43 => y.length - (intOf s43).toNat)
          case atStart => exact ⟨0, Nat.zero_le _, rfl, rfl⟩
          case round =>
            obtain ⟨j, hj, rfl, rfl⟩ := hrel
            by_cases hltj : j < y.length
            · obtain ⟨b, o, rfl, c4⟩ := HY.out j hltj
              have hs := (gA_snoc (m := m) hltj).symm
              unfold wadd at hs
              generalize y[j].s = s at *
              obtain ⟨r, hrr⟩ : ∃ r, gA m y (j + 1) = r := ⟨_, rfl⟩
              rw [hrr] at hs
              go_wp2
              go_round
              case rel => exact ⟨j + 1, by omega, by go_num, by rw [hrr]⟩
              case measure => simp [intOf]; omega
            · obtain rfl : j = y.length := by omega
              clear HY
              go_wp2
              go_round
              case rel => exact ⟨k + 1, by omega, by go_num, by rw [HSN.out]⟩
              case measure => simp [intOf]; omega
        · obtain rfl : k = l.length := by have := HLL.out; omega
          go_wp2
          go_ret
          exact ⟨rfl, rfl⟩
end Go.Proofs.Ytkejebjppnhidaa
