
import Derived.Test.YtiobcifpebehnaaDoorI10
/- I11: Free -/
namespace Go.Proofs.YtiobcifpebehnaaDoor
open Go.RowKit
set_option linter.unusedVariables false

theorem Tb.mono {B : Nat} {S S' : Nat → Prop} {tb : Nat} {T : TabS} {n : Nat} {w : World} (h : Tb B S tb T n w) (hS : ∀ k, S k → S' k) (hB : ∀ k, S' k → B ≤ k) : Tb B S' tb T n w := by
  obtain ⟨st, mb, m, sv, fv, hs, D, h⟩ := h
  exact ⟨st, mb, m, sv, fv, hs, D, h.mono hS hB⟩
theorem Tb.sB {B : Nat} {S : Nat → Prop} {tb : Nat} {T : TabS} {n : Nat} {w : World} (h : Tb B S tb T n w) : ∀ k, S k → B ≤ k := by obtain ⟨st, mb, m, sv, fv, hs, D, h⟩ := h; exact h.sB
theorem Tb.hB {B : Nat} {S : Nat → Prop} {tb : Nat} {T : TabS} {n : Nat} {w : World} (h : Tb B S tb T n w) : B ≤ w.heap.size := by obtain ⟨st, mb, m, sv, fv, hs, D, h⟩ := h; exact h.hB
theorem Tb.ok {B : Nat} {S : Nat → Prop} {tb : Nat} {T : TabS} {n : Nat} {w : World} (h : Tb B S tb T n w) : T.Ok := by obtain ⟨st, mb, m, sv, fv, hs, D, h⟩ := h; exact h.ok
theorem Tb.grow {B : Nat} {S : Nat → Prop} {tb : Nat} {T : TabS} {n : Nat} {w w' : World} (h : Tb B S tb T n w) (hw : B ≤ w'.heap.size) : Tb B (fun k => S k ∨ w'.heap.size ≤ k) tb T n w :=
  h.mono (fun k hk => .inl hk) (fun k hk => by rcases hk with hk | hk; exact h.sB k hk; omega)

section
variable {B : Nat} {S : Nat → Prop} {tb : Nat} {T : TabS} {n : Nat}
def FreeP (B : Nat) (S : Nat → Prop) (tb : Nat) (T : TabS) (n : Nat) (id : Int) (w : World) (e : Ending) (w' : World) : Prop :=
  (T.has id = true ∧ e = .returned (.int .i64 0) ∧ Tb B (fun k => S k ∨ w.heap.size ≤ k) tb (T.less id.toNat) (n + 1) w' ∧ Off S w w') ∨ (T.has id = false ∧ e = .returned (.int .i64 5) ∧ w' = w)
theorem free_end {j : Nat} {w w' : World} (hh : T.has (j : Int) = true) (h : Tb B S tb (T.less j) (n + 1) w' ∧ Off S w w') (hB : B ≤ w.heap.size) : FreeP B S tb T n (j : Nat) w (.returned (.int .i64 0)) w' :=
  .inl ⟨hh, rfl, by rw [Int.toNat_natCast]; exact h.1.grow hB, h.2⟩

set_option maxHeartbeats 1000000 in
theorem free_any (id : Int) (w : World) (h : Tb B S tb T n w) (hn : n ≤ 1000000) (htab : Tab B w) :
    Calls Tryd.prog 16 #[.pointer (some ⟨tb, 0, none⟩), .int .i64 id] w (FreeP B S tb T n id w) := by
  obtain ⟨st, mb, m, sv, fv, hs, D, h⟩ := h
  obtain ⟨g, cap, rfl, hg, hcap⟩ := h.form
  have HF := Lib.hid (find7_any id w h hn)
  unfold fndP at HF
  cases hh : T.has id with
  | true =>
    obtain ⟨j, rfl, hl⟩ := has_live hh
    have hj := live_lt hl h.ok.pos
    obtain ⟨x, hx, -, ct, -, ft, -⟩ := h.place hj
    obtain ⟨y, hy, hyn⟩ := h.num hj
    obtain rfl : y = x := by rw [hx] at hy; exact (Option.some.inj hy).symm
    rw [hh, if_pos rfl, Int.toNat_natCast] at HF
    have hq : T.times j ≤ 1000000 := Nat.le_trans (h.le.times j) hn
    have hles := h.le.es
    have HB := Lib.hid h.hB
    by_cases hd : j ≠ 0 ∧ T.times j = 1
    · obtain ⟨hj0, hq1⟩ := hd
      have e0 : ((j : Int) != 0) = true := by simpa using hj0
      have hM := h.mem
      rw [← h.len] at hM
      have HX : ((y.a = y.a ∧ y.l = y.l) ∧ y.c = y.c) := ⟨⟨rfl, rfl⟩, rfl⟩
      have hM2 := hM.poke (q := 0) hx
      have ht2 : Tab B (w.setCell ⟨g, j * 2 + 1, none⟩ (.int .i64 ((0 : Nat) : Int))) := htab.on ((Below.refl B w).setCell (p := ⟨g, j * 2 + 1, none⟩) (h.sB _ (h.sSv _ rfl)) _)
      have hx2 : (hs.set j ⟨y.a, y.l, y.c, 0⟩)[j]? = some ⟨y.a, y.l, y.c, 0⟩ := by rw [List.getElem?_set, if_pos rfl, if_pos (by rw [h.len]; exact hj)]
      have HD := Lib.hid (drop_any hM2 hx2 (h.ok.small j hl) ht2 (by have := h.le.free; omega) (by rw [List.length_set, h.len]; omega))
      have HO := Lib.hid (Off.of_grown (S := S) (grown_set (w := w) (g := g) (o := j * 2 + 1) (.int .i64 ((0 : Nat) : Int))) (fun g' hg' => by cases hg'; exact h.sSv _ rfl))
      have HT := Lib.hid h
      have c2 : (w.setCell ⟨g, j * 2 + 1, none⟩ (.int .i64 ((0 : Nat) : Int))).cell? ⟨g, j * 2 + 1, none⟩ = some (.int .i64 ((0 : Nat) : Int)) := World.cell?_setCell_same _ _ _ ct
      obtain ⟨k0, -, -, -, -⟩ := hM2.cells
      obtain ⟨k1, -, -, -, -⟩ := hM.cells
      rw [hq1] at ct
      have E1 := Lib.hid (show (w.setCell ⟨g, j * 2 + 1, none⟩ (.int .i64 ((0 : Nat) : Int))).heap.size = w.heap.size by simp)
      have HH := Lib.hid hh
      have HL := Lib.hid hl
      clear h hM hM2 ht2 hx2 hh hl htab HX
      go_enter Tryd.func16, Tryd.ntmps16
      go_wp2_with (first
        | (go_at_call 36; refine HF.out.mono ?_; rintro e w1 ⟨rfl, rfl⟩)
        | (go_at_call 37; refine HD.out.mono ?_; rintro e w2 ⟨rfl, ⟨sv', fv', hM3⟩, hO3⟩))
      go_ret
      rw [E1.out] at hM3
      refine .inl ⟨HH.out, rfl, ?_, HO.out.seq hO3⟩
      rw [Int.toNat_natCast, less_out hj0 hq1]
      refine ⟨_, _, _, _, _, _, _, hM3.tbm (T := T.out j) (n := n + 1) ?_ (fun i _ => (set_out T j i).symm) rfl rfl (by omega) (fun i z hz => ?_) (HT.out.ids.out HT.out.ok hj0 HL.out) (ok_out HT.out.ok hj0 HL.out) (le_out HT.out.le j)⟩
      · simp [TabS.out, HT.out.len]
      · rw [times_out]
        rw [List.getElem?_set] at hz
        split at hz
        · rename_i hij
          subst hij
          split at hz
          · cases hz; rw [if_pos rfl]
          · cases hz
        · rename_i hij
          rw [List.getElem?_set, if_neg hij] at hz
          rw [if_neg (fun e => hij e.symm)]
          exact HT.out.hn i z hz
    · have HH := Lib.hid hh
      have hle : T.less j = T.upd j ⟨T.set j, T.times j - 1⟩ := less_upd hd
      by_cases h0 : T.times j = 0
      · have hj0 : j = 0 := by rcases hl with hl | hl; exact hl; omega
        subst hj0
        have HR := Lib.hid (h.renum (q := 0) hl (.inl rfl) (by omega))
        rw [h0] at ct hle
        have es := set_same ct
        rw [es] at HR
        rw [← hle] at HR
        clear h hh hl hx hy hles hle es
        go_enter Tryd.func16, Tryd.ntmps16
        go_wp2_with (go_at_call 36; refine HF.out.mono ?_; rintro e w1 ⟨rfl, rfl⟩)
        go_ret
        exact free_end HH.out HR.out HB.out
      · obtain ⟨p, hp⟩ : ∃ p, T.times j = p + 1 := ⟨T.times j - 1, by omega⟩
        rw [hp] at ct hle hd
        rw [show p + 1 - 1 = p from rfl] at hle
        have hpj : p = 0 → j = 0 := fun e => by
          rcases Nat.eq_zero_or_pos j with e2 | e2
          · exact e2
          · exact absurd ⟨by omega, by omega⟩ hd
        have HR := Lib.hid (h.renum (q := p) hl (by rcases Nat.eq_zero_or_pos p with e | e; exact .inl (hpj e); exact .inr e) (by have := h.le.times j; omega))
        rw [← hle] at HR
        have hp2 : (p : Int) ≤ 1000000 := by omega
        have c2 : (w.setCell ⟨g, j * 2 + 1, none⟩ (.int .i64 (p : Int))).cell? ⟨g, j * 2 + 1, none⟩ = some (.int .i64 (p : Int)) := World.cell?_setCell_same _ _ _ ct
        have ct' : w.cell? ⟨g, j * 2 + 1, none⟩ = some (.int .i64 ((p : Int) + 1)) := by rw [ct]; simp
        clear ct hq
        by_cases hp0 : p = 0
        · have hj0 := hpj hp0
          subst hp0
          subst hj0
          clear h hh hl hx hy hles hle hp hd hpj h0
          go_enter Tryd.func16, Tryd.ntmps16
          go_wp2_with (go_at_call 36; refine HF.out.mono ?_; rintro e w1 ⟨rfl, rfl⟩)
          go_ret
          exact free_end HH.out HR.out HB.out
        · have e2 : ((p : Int) == 0) = false := by simpa using hp0
          clear h hh hl hx hy hles hle hp hd hpj h0
          go_enter Tryd.func16, Tryd.ntmps16
          go_wp2_with (go_at_call 36; refine HF.out.mono ?_; rintro e w1 ⟨rfl, rfl⟩)
          go_ret
          exact free_end HH.out HR.out HB.out
  | false =>
    rw [hh] at HF
    simp only [Bool.false_eq_true, if_false] at HF
    have HH := Lib.hid hh
    clear h hh
    go_enter Tryd.func16, Tryd.ntmps16
    go_wp2_with (go_at_call 36; refine HF.out.mono ?_; rintro e w1 ⟨rfl, rfl⟩)
    go_ret
    exact .inr ⟨HH.out, rfl, rfl⟩
end
end Go.Proofs.YtiobcifpebehnaaDoor
