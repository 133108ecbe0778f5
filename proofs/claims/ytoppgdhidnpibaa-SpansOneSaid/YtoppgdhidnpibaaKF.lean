
import Derived.Test.YtoppgdhidnpibaaKE
/- KF: spans as they came in; whether they may be put in -/
namespace Go.Proofs.Ytoppgdhidnpibaa
open Go.RowKit
set_option linter.unusedVariables false
set_option maxRecDepth 100000

/-- A span as it came in. -/
structure Rw where
  n : Int
  d : Int
def RwC : Cel Rw := ⟨fun x => [.int .i64 x.n, .int .i64 x.d], 2, fun _ => rfl, fun x u hu => by
  simp only [List.mem_cons, List.not_mem_nil, or_false] at hu
  rcases hu with rfl | rfl <;> rfl, by decide⟩
def Rw.ck (x : Rw) : Ck := ⟨x.n.toNat, x.d⟩
def badW (x : Rw) : Bool := decide (x.n < 0) || decide (x.d < 0)
def anyBad (xs : List Rw) : Bool := xs.any badW
theorem fl_ck : ∀ {xs : List Rw}, (∀ x ∈ xs, 0 ≤ x.n) → Go.Proofs.Ytoppgdhidnpibaa.fl RwC xs = Go.Proofs.Ytoppgdhidnpibaa.fl CkC (xs.map Rw.ck)
  | [], _ => rfl
  | x :: r, h => by
    rw [List.map_cons, fl_cons, fl_cons, fl_ck (fun y hy => h y (List.mem_cons_of_mem _ hy))]
    have := h x List.mem_cons_self
    show [Value.int .i64 x.n, Value.int .i64 x.d] ++ _ = [Value.int .i64 ((x.n.toNat : Nat) : Int), Value.int .i64 x.d] ++ _
    rw [Int.toNat_of_nonneg this]
theorem row_ck {w : World} {v : Value} {xs : List Rw} (h : Row RwC w v xs) (hp : ∀ x ∈ xs, 0 ≤ x.n) : Row CkC w v (xs.map Rw.ck) := by
  rcases h with ⟨a, cap, hv, rfl, h1, h2⟩ | ⟨b, off, cap, hv, h0, h1, h2, h3⟩
  · exact .inl ⟨a, cap, hv, rfl, h1, h2⟩
  · exact .inr ⟨b, off, cap, by rw [List.length_map]; exact hv, by rw [List.length_map]; exact h0, by rw [List.length_map]; exact h1, h2, by rw [← fl_ck hp]; exact h3⟩
theorem anyBad_no {xs : List Rw} (h : anyBad xs = false) : ∀ x ∈ xs, 0 ≤ x.n ∧ 0 ≤ x.d := fun x hx => by
  unfold anyBad at h
  have := (List.any_eq_false.1 h) x hx
  unfold badW at this
  simp at this
  exact ⟨by omega, by omega⟩
theorem rw_at {w : World} {b off cap : Nat} {xs : List Rw} (h : Row RwC w (.slice (some ⟨b, off, none⟩) xs.length cap) xs) {k : Nat} (hk : k < xs.length) : w.cell? ⟨b, off + k * 2, none⟩ = some (.int .i64 xs[k].n) ∧ w.cell? ⟨b, off + k * 2 + 1, none⟩ = some (.int .i64 xs[k].d) := by
  obtain ⟨b', off', e, -, -, -, -, hat, -⟩ := Row.opened h (by omega)
  injection e with e
  injection e with e1 e2
  subst e1 e2
  exact ⟨hat k hk 0 _ rfl, hat k hk 1 _ rfl⟩
theorem mal_any (n d : Int) (w : World) : Calls Try.prog 30 #[.agg #[.int .i64 n, .int .i64 d]] w fun e w' => e = .returned (.bool (decide (n < 0) || decide (d < 0))) ∧ Below w.heap.size w w' := by
  have hb := (Below.refl w.heap.size w).alloc (Nat.le_refl _) (.cells #[.int .i64 n, .int .i64 d] 44)
  have HB := Lib.hid hb
  clear hb
  cases d1 : decide (n < 0) <;> cases d2 : decide (d < 0) <;>
  (go_enter Try.func30, Try.ntmps30
   go_wp2
   go_ret
   exact ⟨rfl, HB.out⟩)
theorem anyBad_step {xs : List Rw} {k : Nat} (h : k < xs.length) (hp : anyBad (xs.take k) = false) (hx : badW xs[k] = false) : anyBad (xs.take (k + 1)) = false := by
  unfold anyBad at *
  rw [List.take_succ_eq_append_getElem h, List.any_append, hp]
  simpa using hx
theorem anyBad_hit {xs : List Rw} {k : Nat} (h : k < xs.length) (hx : badW xs[k] = true) : anyBad xs = true := by
  unfold anyBad
  rw [List.any_eq_true]
  exact ⟨_, List.getElem_mem h, hx⟩
set_option maxHeartbeats 600000 in
theorem index_any (v : Value) (xs : List Rw) (w : World) (hv : Row RwC w v xs) :
    Calls Try.prog 47 #[v, .func (.func 30) #[] #[]] w fun e w' => ∃ k : Int, e = .returned (.int .i64 k) ∧ decide (0 ≤ k) = anyBad xs ∧ Below w.heap.size w w' := by
  have hl := hv.len
  obtain ⟨a1, cap1, rfl⟩ := hv.shape
  have eg : ∀ args w, (callFunc 30 args).run Try.prog w = .ok (.enter 30 args) w := enters_of Try.func30 (by kernel_rfl) rfl
  by_cases h0 : 0 < xs.length
  · obtain ⟨b1, o1, rfl, -, -, -, hbl, -, -⟩ := Row.opened hv h0
    have HV := Lib.hid hv
    clear hv
    go_enter Try.func47, Try.ntmps47
    go_wp2
    go_loopw [8] (fun s8 wr => ∃ k : Nat, k ≤ xs.length ∧ s8 = .int .i64 k ∧ Hid (anyBad (xs.take k) = false) ∧ Below w.heap.size w wr) (fun s8 _ => xs.length - (intOf s8).toNat)
    case atStart => exact ⟨0, Nat.zero_le _, rfl, Lib.hid rfl, Below.refl _ _⟩
    case round =>
      obtain ⟨k, hk, rfl, HP, hb⟩ := hrel
      rename_i wr
      by_cases hlt : k < xs.length
      · obtain ⟨c0, c1⟩ := rw_at (HV.out.below hb (Nat.le_refl _)) hlt
        have HM := Lib.hid (fun w => mal_any xs[k].n xs[k].d w)
        have HST := Lib.hid (fun h => anyBad_step hlt HP.out h)
        have HHI := Lib.hid (fun h => anyBad_hit hlt h)
        unfold badW at HST HHI
        have hsz := hb.size
        have HB := Lib.hid hb
        generalize xs[k].n = n at *
        generalize xs[k].d = d at *
        obtain ⟨bb, hbb⟩ : ∃ bb, (decide (n < 0) || decide (d < 0)) = bb := ⟨_, rfl⟩
        rw [hbb] at HM HST HHI
        clear hb hbb
        cases bb
        · have HS1 := Lib.hid (HST.out rfl)
          clear HST HHI
          go_wp2_with (go_at_call 30; refine (HM.out _).mono ?_; rintro e w1 ⟨rfl, b1⟩; have B1 := Lib.hid b1; clear b1)
          go_roundw
          case rel => exact ⟨k + 1, hlt, by simp, HS1, below_add HB.out B1.out HB.out.size⟩
          case measure => simp only [intOf]; omega
        · have HS1 := Lib.hid (HHI.out rfl)
          clear HST HHI
          go_wp2_with (go_at_call 30; refine (HM.out _).mono ?_; rintro e w1 ⟨rfl, b1⟩; have B1 := Lib.hid b1; clear b1)
          go_ret
          exact ⟨k, rfl, by rw [HS1.out]; exact decide_eq_true (by omega), below_add HB.out B1.out HB.out.size⟩
      · obtain rfl : k = xs.length := by omega
        have HE := Lib.hid (show anyBad xs = false by have := HP.out; rwa [List.take_of_length_le (Nat.le_refl _)] at this)
        go_wp2
        go_ret
        exact ⟨-1, rfl, by rw [HE.out]; rfl, hb⟩
  · obtain rfl : xs = [] := List.length_eq_zero_iff.1 (by omega)
    clear hv
    go_enter Try.func47, Try.ntmps47
    go_wp2
    go_loopw [8] (fun s8 wr => s8 = .int .i64 0 ∧ wr = w) (fun _ _ => 0)
    case atStart => exact ⟨rfl, rfl⟩
    case round =>
      obtain ⟨rfl, rfl⟩ := hrel
      go_wp2
      go_ret
      exact ⟨-1, rfl, rfl, Below.refl _ _⟩
theorem contains_any (v : Value) (xs : List Rw) (w : World) (hv : Row RwC w v xs) :
    Calls Try.prog 29 #[v, .func (.func 30) #[] #[]] w fun e w' => e = .returned (.bool (anyBad xs)) ∧ Below w.heap.size w w' := by
  have HI := Lib.hid (index_any v xs w hv)
  clear hv
  obtain ⟨bb, hbb⟩ : ∃ bb, anyBad xs = bb := ⟨_, rfl⟩
  rw [hbb] at HI ⊢
  clear hbb
  cases bb <;>
  (go_enter Try.func29, Try.ntmps29
   go_wp2_with (go_at_call 47; refine HI.out.mono ?_; rintro e w1 ⟨k, rfl, hk, b1⟩; have B1 := Lib.hid b1; clear b1)
   go_ret
   exact ⟨rfl, B1.out⟩)
end Go.Proofs.Ytoppgdhidnpibaa
