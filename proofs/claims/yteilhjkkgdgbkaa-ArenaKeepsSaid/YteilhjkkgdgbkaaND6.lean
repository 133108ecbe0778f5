
import Derived.Test.YteilhjkkgdgbkaaNC6
/- ND6: Take, Free, New of an arena of int64 -/
namespace Go.Proofs.Yteilhjkkgdgbkaa
open Go.RowKit
set_option linter.unusedVariables false

section
variable {B : Nat} {S : Nat → Prop} {ab st : Nat} {sv fv : Value} {ps : List (Option Int)} {fr : List Nat}
/-- An arena of blocks of S, from B on, at block ab. -/
def Ar_6 (B : Nat) (S : Nat → Prop) (ab : Nat) (A : ArS Int) (n : Nat) (w : World) : Prop := (∃ st sv fv, ArM K_6 B S ab st sv fv A.ps A.free w) ∧ A.Ok ∧ A.Le n
set_option maxHeartbeats 1000000 in
theorem takeM_6 (A : ArS Int) (x : Int) (w : World) (h : ArM K_6 B S ab st sv fv A.ps A.free w) (hl : A.ps.length ≤ 1000000) (hl2 : A.free.length ≤ 1000000) (hok : A.Ok) :
    Calls Try.prog 10 #[.pointer (some ⟨ab, 0, none⟩), .int .i64 x] w fun e w' => e = .returned (.int .i64 (A.fresh : Nat)) ∧ Off S w w' ∧
      ∃ sv' fv', ArM K_6 B (fun k => S k ∨ w.heap.size ≤ k) ab st sv' fv' (A.take x).ps (A.take x).free w' := by
  obtain ⟨c0, -, -⟩ := h.cells
  have hn := next_any_6 A x w h hl hl2 hok
  obtain ⟨i, hi⟩ : ∃ i, A.fresh = i := ⟨_, rfl⟩
  rw [hi] at hn ⊢
  have HN := Lib.hid hn
  clear h hl hl2 hok hn hi
  go_enter Try.func10, Try.ntmps10
  go_wp2_with (go_at_call 28; refine HN.out.mono ?_; rintro e w1 ⟨rfl, hO, sv1, fv1, ps1, hM, hlt, hle, hno, hps⟩; refine Hid.out ?_)
  obtain ⟨g, cap, rfl, -, hcap⟩ := hM.form (by omega)
  obtain ⟨d0, d1, -⟩ := hM.cells
  obtain ⟨p0, p1, p2⟩ := hM.place hno rfl
  have p1 : w1.cell? ⟨g, i * 2 + 1, none⟩ = some (.int .i64 0) := p1
  have f0 := p2 (i * 2)
  have f1 := p2 (i * 2 + 1)
  have k0 : (0 : Int) ≤ (i : Int) := by omega
  have k1 : (i : Int) < (ps1.length : Int) := by omega
  have M2 := Lib.hid (hM.put2 hlt (y := some x) rfl)
  have O2 := Lib.hid ((hO.mono (S' := fun k => S k ∨ w.heap.size ≤ k) (fun k hk => .inl hk)).seq (Off.of_grown (grown_two (w := w1) (g := g) (o := i * 2) (p := i * 2 + 1) (.bool true) (.int .i64 x)) (fun g' hg' => by cases hg'; exact hM.sSv _ rfl)))
  have HP := Lib.hid hps
  clear hM hO hps hno p2 HN
  refine Lib.hid ?_
  go_wp2
  go_ret
  exact ⟨rfl, O2.out.cut, _, _, by rw [← HP.out]; exact M2.out⟩

set_option maxHeartbeats 2000000 in
theorem freeM_6 (w : World) {g cap k : Nat} {x : Int} (h : ArM K_6 B S ab st (.slice (some ⟨g, 0, none⟩) ps.length cap) fv ps fr w) (hk : ps[k]? = some (some x)) (hl : ps.length ≤ 1000000) (hl2 : fr.length ≤ 1000000) :
    Calls Try.prog 12 #[.pointer (some ⟨ab, 0, none⟩), .int .i64 (k : Nat)] w fun e w' => e = .returned (.int .i64 0) ∧ Off S w w' ∧
      ∃ fv', ArM K_6 B (fun k => S k ∨ w.heap.size ≤ k) ab st (.slice (some ⟨g, 0, none⟩) ps.length cap) fv' (ps.set k none) (fr ++ [k]) w' := by
  obtain ⟨i0, hi, hz0, hz1, hz2⟩ := info_in_6
  have HF := Lib.hid (find_yes_6 w h hk hl)
  obtain ⟨p0, p9, p2⟩ := h.place hk rfl
  have p1 : w.cell? ⟨g, k * 2 + 1, none⟩ = some (.int .i64 x) := p9
  have f0 := p2 (k * 2)
  have f1 := p2 (k * 2 + 1)
  have hlt := (List.getElem?_eq_some_iff.1 hk).1
  have hsB : ∀ k, S k ∨ w.heap.size ≤ k → B ≤ k := fun k hk => by rcases hk with hk | hk; exact h.sB k hk; have := h.hB; omega
  have hM2 : ArM K_6 B (fun k => S k ∨ w.heap.size ≤ k) ab st (.slice (some ⟨g, 0, none⟩) ps.length cap) fv (ps.set k none) fr ((w.setCell ⟨g, k * 2, none⟩ (.bool false)).setCell ⟨g, k * 2 + 1, none⟩ (.int .i64 0)) := (h.put2 hlt (y := none) rfl).mono (S' := fun k => S k ∨ w.heap.size ≤ k) (fun k hk => .inl hk) hsB
  have O2 := Lib.hid (Off.of_grown (S := fun k => S k ∨ w.heap.size ≤ k) (grown_two (w := w) (g := g) (o := k * 2) (p := k * 2 + 1) (.bool false) (.int .i64 0)) (fun g' hg' => by cases hg'; exact .inl (h.sSv _ rfl)))
  obtain ⟨fa, fc, rfl, -, -⟩ := own_shape h.hfv
  have hbs : B ≤ w.heap.size := h.hB
  clear h hk p9 p2 hsB
  go_enter Try.func12, Try.ntmps12
  go_wp2_with (go_at_call 29; refine HF.out.mono ?_; rintro e w1 ⟨rfl, rfl⟩)
  generalize (w1.setCell ⟨g, k * 2, none⟩ (.bool false)).setCell ⟨g, k * 2 + 1, none⟩ (.int .i64 0) = W at *
  have hbA : Below W.heap.size W (W.alloc (.cells #[.int .i64 (k : Nat)] 3)).drew := ((Below.refl _ _).alloc (Nat.le_refl _) _).drew
  obtain ⟨c0, -, c1⟩ := (hM2.below (Below.refl _ W).drew).cells
  obtain ⟨c2, -, c3⟩ := (hM2.below hbA).cells
  have M3 := Lib.hid (hM2.below hbA)
  have O3 := Lib.hid (O2.out.seq (Off.of_below hbA))
  have HW := Lib.hid (fun (w4 : World) (hG : (W.alloc (.cells #[.int .i64 (k : Nat)] 3)).drew.grownBy w4 (Value.slice fa fr.length fc).ownBlock) => (show w4.cell? ⟨ab, 0, none⟩ = some (.pointer (some ⟨st, 0, none⟩)) ∧ w4.cell? ⟨st, 1, none⟩ = some (.slice fa fr.length fc) ∧ w4.frozen? ⟨st, 1, none⟩ = false from by
    have hst4 := far hG (hM2.below hbA).hst (fun g' hg' => by
      obtain ⟨cur, hc⟩ := own_tag (hM2.below hbA).hfv hg'
      exact ⟨_, hc, fun e => by injection e with _ e _; exact K_6.nSI e.symm⟩)
    have hab4 := far hG (hM2.below hbA).hab (fun g' hg' => by
      obtain ⟨cur, hc⟩ := own_tag (hM2.below hbA).hfv hg'
      exact ⟨_, hc, fun e => by injection e with _ e _; exact K_6.nAI e.symm⟩)
    exact ⟨by rw [cell_of_row w4 ab 0 _ _ _ hab4]; rfl, by rw [cell_of_row w4 st 1 _ _ _ hst4]; rfl, by simp [World.frozen?, hst4]⟩))
  have HSZ := Lib.hid (show w1.heap.size ≤ W.heap.size from O2.out.size)
  have FIN := Lib.hid (fun (g4 cap4 : Nat) (w4 : World) (ho : w4.ownsRow 0 3 1 (.slice (some ⟨g4, 0, none⟩) (fr.length + 1) cap4) (fr.length + 1) (fr.map (fun i => Value.int .i64 (i : Nat)) ++ [.int .i64 (k : Nat)])) (hG : (W.alloc (.cells #[.int .i64 (k : Nat)] 3)).drew.grownBy w4 (Value.slice fa fr.length fc).ownBlock) (ha : (Value.slice fa fr.length fc).ownBlock = some g4 ∨ g4 = W.heap.size + 1) => (show Off S w1 (w4.setCell ⟨st, 1, none⟩ (.slice (some ⟨g4, 0, none⟩) (fr.length + 1) cap4)) ∧ ∃ fv', ArM K_6 B (fun k => S k ∨ w1.heap.size ≤ k) ab st (.slice (some ⟨g, 0, none⟩) ps.length cap) fv' (ps.set k none) (fr ++ [k]) (w4.setCell ⟨st, 1, none⟩ (.slice (some ⟨g4, 0, none⟩) (fr.length + 1) cap4)) from by
    have e4 : (fr ++ [k]).map (fun i => Value.int .i64 (i : Nat)) = fr.map (fun i => Value.int .i64 (i : Nat)) ++ [.int .i64 (k : Nat)] := by simp
    have l4 : (fr ++ [k]).length = fr.length + 1 := by simp
    rw [← e4, ← l4] at ho
    rw [l4] at ho
    have ho' : w4.ownsRow 0 3 1 (.slice (some ⟨g4, 0, none⟩) (fr.length + 1) cap4) (fr ++ [k]).length ((fr ++ [k]).map fun i => Value.int .i64 (i : Nat)) := by rw [l4]; exact ho
    refine ⟨((O3.out.seq (Off.of_grown hG (fun g' hg' => M3.out.sFv g' hg'))).seq (Off.of_grown (grown_set (w := w4) (g := st) (o := 1) _) (fun g' hg' => by cases hg'; exact M3.out.sSt))).cut, _, M3.out.refree hG ho' (fun g' hg' => ?_)⟩
    cases hg'
    rcases ha with e | e
    · exact M3.out.sFv _ e
    · right; have := HSZ.out; show w1.heap.size ≤ g4; omega))
  clear hM2 hbA O2 p0 p1 f0 f1 hlt HF
  go_region_law
    ((refine step_append_lies _ (by rfl) (.tmp 29) (.tmp 31) 28 (by rfl) 0 3 i0 (.int .i64 0) 1 8 Try.underlying28 hi hz0 hz1 hz2 (by rfl) (by decide) (.slice fa fr.length fc) fr.length (fr.map fun i => Value.int .i64 (i : Nat)) (by rfl) M3.out.hfv ⟨W.heap.size, 0, none⟩ 1 1 [.int .i64 (k : Nat)] (by rfl) (by rfl) (World.news_of_block (heap_alloc_new _ _)) (by simp [Value.oneCell']) (by decide) (by unfold maxLen; omega) (by omega) (by simp) _ rfl ?_; intro g4 cap4 w4 hown4 hgrow4 hat4 hlt4; obtain ⟨q0, q1, q2⟩ := HW.out w4 hgrow4))
  all_goals (go_wp2; go_ret; refine ⟨rfl, ?_⟩; exact FIN.out g4 cap4 w4 hown4 hgrow4 (by simpa using hat4))

/-! ### the calls, as a law takes them -/
variable {A : ArS Int} {n : Nat} {w w' : World}
theorem Ar_6.kept (h : Ar_6 B S ab A n w) (hz : w.heap.size ≤ w'.heap.size) (hk : ∀ k, k < w.heap.size → S k → w'.heap[k]? = w.heap[k]?) : Ar_6 B S ab A n w' := by
  obtain ⟨⟨st, sv, fv, h⟩, h2, h3⟩ := h
  exact ⟨⟨st, sv, fv, h.kept hz hk⟩, h2, h3⟩
theorem Ar_6.below (h : Ar_6 B S ab A n w) (hb : Below w.heap.size w w') : Ar_6 B S ab A n w' := h.kept hb.size (fun k hk _ => hb.block k hk)
theorem Ar_6.off {U : Nat → Prop} (h : Ar_6 B S ab A n w) (ho : Off U w w') (hd : ∀ k, S k → ¬ U k) : Ar_6 B S ab A n w' := h.kept ho.size (fun k hk hS => ho.block k hk (hd k hS))
theorem Ar_6.mono (h : Ar_6 B S ab A n w) {S' : Nat → Prop} (hS : ∀ k, S k → S' k) (hB : ∀ k, S' k → B ≤ k) : Ar_6 B S' ab A n w := by
  obtain ⟨⟨st, sv, fv, h⟩, h2, h3⟩ := h
  exact ⟨⟨st, sv, fv, h.mono hS hB⟩, h2, h3⟩
theorem Ar_6.cutS (h : Ar_6 B S ab A n w) : Ar_6 B (fun k => S k ∧ k < w.heap.size) ab A n w := by
  obtain ⟨⟨st, sv, fv, h⟩, h2, h3⟩ := h
  exact ⟨⟨st, sv, fv, h.cutS⟩, h2, h3⟩
theorem Ar_6.le (h : Ar_6 B S ab A n w) {m : Nat} (hm : n ≤ m) : Ar_6 B S ab A m w := ⟨h.1, h.2.1, h.2.2.mono hm⟩
theorem Ar_6.sB (h : Ar_6 B S ab A n w) : ∀ k, S k → B ≤ k := by obtain ⟨⟨st, sv, fv, h⟩, h2, h3⟩ := h; exact h.sB
theorem Ar_6.hB (h : Ar_6 B S ab A n w) : B ≤ w.heap.size := by obtain ⟨⟨st, sv, fv, h⟩, h2, h3⟩ := h; exact h.hB
theorem Ar_6.ok (h : Ar_6 B S ab A n w) : A.Ok := h.2.1
theorem Ar_6.lt (h : Ar_6 B S ab A n w) : ab < w.heap.size := by obtain ⟨⟨st, sv, fv, h⟩, h2, h3⟩ := h; exact lt_of_heap h.hab
/-- Take. -/
theorem take_6 (x : Int) (h : Ar_6 B S ab A n w) (hn : n ≤ 1000000) :
    Calls Try.prog 10 #[.pointer (some ⟨ab, 0, none⟩), .int .i64 x] w fun e w' => e = .returned (.int .i64 (A.fresh : Nat)) ∧ Ar_6 B (fun k => S k ∨ w.heap.size ≤ k) ab (A.take x) (n + 1) w' ∧ Off S w w' := by
  obtain ⟨⟨st, sv, fv, h⟩, h2, h3⟩ := h
  exact (takeM_6 A x w h (Nat.le_trans h3.ps hn) (Nat.le_trans h3.free hn) h2).mono fun e w' ⟨q1, q2, sv', fv', q3⟩ => ⟨q1, ⟨⟨_, _, _, q3⟩, ok_take h2 x, le_take h3 x⟩, q2⟩
theorem free_yes_6 {k : Nat} {x : Int} (h : Ar_6 B S ab A n w) (hn : n ≤ 1000000) (hx : A.at_ k = some x) :
    Calls Try.prog 12 #[.pointer (some ⟨ab, 0, none⟩), .int .i64 (k : Nat)] w fun e w' => e = .returned (.int .i64 0) ∧ Ar_6 B (fun k => S k ∨ w.heap.size ≤ k) ab (A.out k) (n + 1) w' ∧ Off S w w' := by
  obtain ⟨⟨st, sv, fv, h⟩, h2, h3⟩ := h
  have hlt := at_lt hx
  obtain ⟨g, cap, rfl, -, -⟩ := h.form (by omega)
  refine (freeM_6 w h (by rw [at_get hlt, hx]) (Nat.le_trans h3.ps hn) (Nat.le_trans h3.free hn)).mono fun e w' ⟨q1, q2, fv', q3⟩ => ⟨q1, ⟨⟨st, .slice (some ⟨g, 0, none⟩) A.ps.length cap, fv', ?_⟩, ok_out h2 hx, le_out h3 k⟩, q2⟩
  exact q3
theorem free_not_6 {i : Int} (h : Ar_6 B S ab A n w) (hn : n ≤ 1000000) (hx : A.has i = false) :
    Calls Try.prog 12 #[.pointer (some ⟨ab, 0, none⟩), .int .i64 i] w fun e w' => e = .returned (.int .i64 5) ∧ w' = w := by
  obtain ⟨⟨st, sv, fv, h⟩, h2, h3⟩ := h
  exact free_no_6 A i w h hx (Nat.le_trans h3.ps hn)
theorem puts_6 {k : Nat} {x : Int} (y : Int) (h : Ar_6 B S ab A n w) (hn : n ≤ 1000000) (hx : A.at_ k = some x) :
    Calls Try.prog 14 #[.pointer (some ⟨ab, 0, none⟩), .int .i64 (k : Nat), .int .i64 y] w fun e w' => e = .returned (.int .i64 0) ∧ Ar_6 B S ab (A.put k y) n w' ∧ Off S w w' := by
  obtain ⟨⟨st, sv, fv, h⟩, h2, h3⟩ := h
  have hlt := at_lt hx
  obtain ⟨g, cap, rfl, -, -⟩ := h.form (by omega)
  refine (put_yes_6 w y h (by rw [at_get hlt, hx]) (Nat.le_trans h3.ps hn)).mono fun e w' ⟨q1, q2, q3⟩ => ⟨q1, ⟨⟨st, .slice (some ⟨g, 0, none⟩) A.ps.length cap, fv, ?_⟩, ok_put h2 hx y, le_put h3 k y⟩, q3⟩
  exact q2
theorem put_not_6 {i : Int} (y : Int) (h : Ar_6 B S ab A n w) (hn : n ≤ 1000000) (hx : A.has i = false) :
    Calls Try.prog 14 #[.pointer (some ⟨ab, 0, none⟩), .int .i64 i, .int .i64 y] w fun e w' => e = .returned (.int .i64 5) ∧ w' = w := by
  obtain ⟨⟨st, sv, fv, h⟩, h2, h3⟩ := h
  exact put_no_6 A i y w h hx (Nat.le_trans h3.ps hn)
theorem ats_6 {k : Nat} {x : Int} (h : Ar_6 B S ab A n w) (hn : n ≤ 1000000) (hx : A.at_ k = some x) :
    Calls Try.prog 15 #[.pointer (some ⟨ab, 0, none⟩), .int .i64 (k : Nat)] w fun e w' => e = .returned (.tuple #[.int .i64 x, .int .i64 0]) ∧ w' = w := by
  obtain ⟨⟨st, sv, fv, h⟩, h2, h3⟩ := h
  have hlt := at_lt hx
  obtain ⟨g, cap, rfl, -, -⟩ := h.form (by omega)
  exact at_yes_6 w h (by rw [at_get hlt, hx]) (Nat.le_trans h3.ps hn)
theorem at_not_6 {i : Int} (h : Ar_6 B S ab A n w) (hn : n ≤ 1000000) (hx : A.has i = false) :
    Calls Try.prog 15 #[.pointer (some ⟨ab, 0, none⟩), .int .i64 i] w fun e w' => e = .returned (.tuple #[.int .i64 0, .int .i64 5]) ∧ w' = w := by
  obtain ⟨⟨st, sv, fv, h⟩, h2, h3⟩ := h
  exact at_no_6 A i w h hx (Nat.le_trans h3.ps hn)
theorem lens_6 (h : Ar_6 B S ab A n w) (hn : n ≤ 1000000) :
    Calls Try.prog 16 #[.pointer (some ⟨ab, 0, none⟩)] w fun e w' => e = .returned (.int .i64 (A.len : Nat)) ∧ ∃ q, w' = w.drewN q := by
  obtain ⟨⟨st, sv, fv, h⟩, h2, h3⟩ := h
  exact len_6 w h (by have := h2.cnt; omega) (Nat.le_trans h3.ps hn)
theorem caps_6 (h : Ar_6 B S ab A n w) :
    Calls Try.prog 18 #[.pointer (some ⟨ab, 0, none⟩)] w fun e w' => e = .returned (.int .i64 (A.ps.length : Nat)) ∧ w' = w := by
  obtain ⟨⟨st, sv, fv, h⟩, h2, h3⟩ := h
  exact cap_6 w h
theorem new_6 (w : World) :
    Calls Try.prog 7 #[] w fun e w' => ∃ ab, e = .returned (.pointer (some ⟨ab, 0, none⟩)) ∧ Ar_6 w.heap.size (fun k => w.heap.size ≤ k) ab newA 0 w' ∧ Below w.heap.size w w' ∧ w'.heap.size = w.heap.size + 2 := by
  have hb1 := (Below.refl w.heap.size w).alloc (Nat.le_refl _) (.cells #[.slice none 0 0, .slice none 0 0] 67)
  have hb2 := hb1.alloc (by simp) (.cells #[.pointer (some ⟨w.heap.size, 0, none⟩)] 49)
  have h1 : ((w.alloc (.cells #[.slice none 0 0, .slice none 0 0] 67)).alloc (.cells #[.pointer (some ⟨w.heap.size, 0, none⟩)] 49)).heap[w.heap.size]? = some (.cells #[.slice none 0 0, .slice none 0 0] 67) := by
    rw [Below.heap_alloc _ _ _ (by simp)]; exact heap_alloc_new w _
  have h2 : ((w.alloc (.cells #[.slice none 0 0, .slice none 0 0] 67)).alloc (.cells #[.pointer (some ⟨w.heap.size, 0, none⟩)] 49)).heap[w.heap.size + 1]? = some (.cells #[.pointer (some ⟨w.heap.size, 0, none⟩)] 49) := by
    have := heap_alloc_new (w.alloc (.cells #[.slice none 0 0, .slice none 0 0] 67)) (.cells #[.pointer (some ⟨w.heap.size, 0, none⟩)] 49)
    simpa using this
  have HA := Lib.hid (show Ar_6 w.heap.size (fun k => w.heap.size ≤ k) (w.heap.size + 1) newA 0 _ from ⟨⟨w.heap.size, .slice none 0 0, .slice none 0 0, ⟨h2, h1, own_nil _ _ _ _, own_nil _ _ _ _, Nat.le_succ _, Nat.le_refl _, fun g hg => by simp [Value.ownBlock] at hg, fun g hg => by simp [Value.ownBlock] at hg, fun k hk => hk, hb2.size⟩⟩, ok_newA, le_newA 0⟩)
  have HB := Lib.hid hb2
  clear h1 h2 hb1 hb2
  go_enter Try.func7, Try.ntmps7
  go_wp2
  go_ret
  exact ⟨_, rfl, HA.out, HB.out, by simp⟩
end
end Go.Proofs.Yteilhjkkgdgbkaa
