
import Derived.Test.YtmbjjaflgdfihaaN3
/- N4: rows of ops that the call owns, with all that they hold; whole numbers copied, held side by side -/
namespace Go.Proofs.Ytmbjjaflgdfihaa
open Go.RowKit
set_option linter.unusedVariables false
set_option maxRecDepth 100000

/-- An op all of whose slices lie in blocks of F, which nobody else has. -/
structure OpOwn (F : Nat → Prop) (w : World) (z : Oz) : Prop where
  r : w.ownsRow 0 21 1 z.rv z.rs.length (z.rs.map (Value.int .i32))
  s : w.ownsRow 0 46 5 z.sv z.st.length (fl attC z.st)
  p : w.ownsRow 0 86 6 z.pv z.pt.length (fl chC z.pt)
  fr : ∀ g, z.rv.ownBlock = some g → F g
  fs : ∀ g, z.sv.ownBlock = some g → F g
  fp : ∀ g, z.pv.ownBlock = some g → F g
/-- Two ops whose runes lie apart. -/
def Ap (y z : Oz) : Prop := ∀ g, y.rv.ownBlock = some g → z.rv.ownBlock ≠ some g
structure Oown (F : Nat → Prop) (w : World) (v : Value) (zs : List Oz) : Prop where
  row : w.ownsRow 0 51 5 v zs.length (fl ozC zs)
  f : ∀ g, v.ownBlock = some g → F g
  own : ∀ z ∈ zs, OpOwn F w z
  ap : zs.Pairwise Ap
section
variable {F F' S : Nat → Prop} {w w' : World} {v v' : Value} {z : Oz} {zs : List Oz}
theorem OpOwn.ok (h : OpOwn F w z) : OpOk w z := ⟨(Ints.of_owns h.r).1, (Row.of_owns (C := attC) h.s).1, (Row.of_owns (C := chC) h.p).1⟩
theorem OpOwn.mono (h : OpOwn F w z) (hF : ∀ g, F g → F' g) : OpOwn F' w z := ⟨h.r, h.s, h.p, fun g hg => hF g (h.fr g hg), fun g hg => hF g (h.fs g hg), fun g hg => hF g (h.fp g hg)⟩
theorem OpOwn.kept (h : OpOwn F w z) (hr : ∀ g, z.rv.ownBlock = some g → w'.heap[g]? = w.heap[g]?) (hs : ∀ g, z.sv.ownBlock = some g → w'.heap[g]? = w.heap[g]?) (hp : ∀ g, z.pv.ownBlock = some g → w'.heap[g]? = w.heap[g]?) : OpOwn F w' z :=
  ⟨owns_kept h.r hr, owns_kept h.s hs, owns_kept h.p hp, h.fr, h.fs, h.fp⟩
theorem OpOwn.off (h : OpOwn F w z) (ho : Off S w w') (hS : ∀ k, F k → k < w.heap.size → ¬ S k) : OpOwn F w' z :=
  h.kept (fun g hg => ho.block g (own_lt7 h.r hg) (hS g (h.fr g hg) (own_lt7 h.r hg))) (fun g hg => ho.block g (own_lt7 h.s hg) (hS g (h.fs g hg) (own_lt7 h.s hg))) (fun g hg => ho.block g (own_lt7 h.p hg) (hS g (h.fp g hg) (own_lt7 h.p hg)))
theorem OpOwn.below (h : OpOwn F w z) (hb : Below w.heap.size w w') : OpOwn F w' z := h.off (S := fun _ => False) (Off.of_below hb) (fun _ _ _ h => h)
theorem Oown.orow (h : Oown F w v zs) : Orow w v zs := ⟨(Row.of_owns (C := ozC) h.row).1, fun z hz => (h.own z hz).ok⟩
theorem Oown.mono (h : Oown F w v zs) (hF : ∀ g, F g → F' g) : Oown F' w v zs := ⟨h.row, fun g hg => hF g (h.f g hg), fun z hz => (h.own z hz).mono hF, h.ap⟩
theorem Oown.off (h : Oown F w v zs) (ho : Off S w w') (hS : ∀ k, F k → k < w.heap.size → ¬ S k) : Oown F w' v zs :=
  ⟨owns_kept h.row (fun g hg => ho.block g (own_lt7 h.row hg) (hS g (h.f g hg) (own_lt7 h.row hg))), h.f, fun z hz => (h.own z hz).off ho hS, h.ap⟩
theorem Oown.below (h : Oown F w v zs) (hb : Below w.heap.size w w') : Oown F w' v zs := h.off (S := fun _ => False) (Off.of_below hb) (fun _ _ _ h => h)
theorem Oown.nil (F : Nat → Prop) (w : World) : Oown F w (.slice none 0 0) [] := ⟨World.ownsRow_nil _ _ _ _, fun g hg => by simp [Value.ownBlock] at hg, by simp, List.Pairwise.nil⟩
theorem Oown.shape (h : Oown F w v zs) : ∃ a c, v = .slice a zs.length c ∧ (a = none ∨ ∃ g, a = some ⟨g, 0, none⟩) ∧ zs.length ≤ c := own_shape h.row
theorem tag_ne {B B' : Nat} {e e' : TypeId} {s s' n n' : Nat} {u u' : Value} {xs ys : List Value} (h : w.ownsRow B e s u n xs) (h' : w.ownsRow B' e' s' u' n' ys) (hne : e ≠ e') {g : Nat} (hg : u.ownBlock = some g) : u'.ownBlock ≠ some g := fun hg' => by
  obtain ⟨c1, h1⟩ := own_tag h hg
  obtain ⟨c2, h2⟩ := own_tag h' hg'
  rw [h1] at h2
  injection h2 with h2
  injection h2 with _ h2 _
  exact hne h2
/-- The row's own block turned, no other. -/
theorem OpOwn.row (h : OpOwn F w z) {u : Value} {n : Nat} {xs : List Value} (hr : w.ownsRow 0 51 5 u n xs) (ho : Off (fun k => u.ownBlock = some k) w w') : OpOwn F w' z :=
  h.kept (fun g hg => ho.block g (own_lt7 h.r hg) (tag_ne h.r hr (by decide) hg)) (fun g hg => ho.block g (own_lt7 h.s hg) (tag_ne h.s hr (by decide) hg)) (fun g hg => ho.block g (own_lt7 h.p hg) (tag_ne h.p hr (by decide) hg))
/-- A shorter part from the front on. -/
theorem owns_head {B : Nat} {e : TypeId} {size n k c : Nat} {a : Option Addr} {xs : List Value} (h : w.ownsRow B e size (.slice a n c) n xs) (hk : k ≤ n) (ha : a ≠ none) : w.ownsRow B e size (.slice a k c) k (xs.take (k * size)) := by
  refine ⟨?_, ?_⟩
  · have := h.1
    rw [List.length_take, this]
    exact Nat.min_eq_left (Nat.mul_le_mul_right _ hk)
  · rcases h.2 with ⟨hn, _⟩ | ⟨g, cap, cur, hv, hB, hg, hc, hm, hs, ht⟩
    · injection hn with hn; exact absurd hn ha
    · injection hv with e1 e2 e3
      subst e1 e3
      refine .inr ⟨g, c, cur, rfl, hB, hg, by omega, hm, hs, ?_⟩
      rw [← ht, List.take_take, Nat.min_eq_left (Nat.mul_le_mul_right _ hk)]
theorem fl_take {α : Type} (C : Cel α) (xs : List α) {k : Nat} (hk : k ≤ xs.length) : (fl C xs).take (k * C.m) = fl C (xs.take k) := by
  have e : fl C xs = fl C (xs.take k) ++ fl C (xs.drop k) := by rw [← fl_app, List.take_append_drop]
  rw [e, List.take_append_of_le_length (by rw [fl_len, List.length_take, Nat.min_eq_left hk]; exact Nat.le_refl _), List.take_of_length_le (by rw [fl_len, List.length_take, Nat.min_eq_left hk]; exact Nat.le_refl _)]
theorem Oown.head {a : Option Addr} {c k : Nat} (h : Oown F w (.slice a zs.length c) zs) (hk : k ≤ zs.length) (h0 : 0 < zs.length) : Oown F w (.slice a k c) (zs.take k) := by
  have ha : a ≠ none := by
    rcases h.row.2 with ⟨_, hn⟩ | ⟨g, cap, cur, hv, -⟩
    · omega
    · injection hv with e1 _ _; rw [e1]; simp
  have := owns_head h.row hk ha
  have hl : (zs.take k).length = k := by rw [List.length_take]; omega
  refine ⟨by rw [hl, ← fl_take ozC zs hk]; exact this, fun g hg => h.f g (by cases a with | none => exact absurd rfl ha | some x => simpa [Value.ownBlock] using hg), fun z hz => h.own z (List.mem_of_mem_take hz), h.ap.sublist (List.take_sublist _ _)⟩
/-- One more op behind the row, as the row grew. -/
theorem Oown.more (h : Oown F w v zs) (hF : ∀ g, F g → F' g) (hg : w.grownBy w' v.ownBlock) (hz : OpOwn F' w z) (hap : ∀ y ∈ zs, Ap y z) (ho : w'.ownsRow 0 51 5 v' (zs.length + 1) (fl ozC zs ++ ozC.c z)) (hf : ∀ g, v'.ownBlock = some g → F' g) : Oown F' w' v' (zs ++ [z]) := by
  have hO : Off (fun k => v.ownBlock = some k) w w' := Off.of_grown hg (fun g hg => hg)
  refine ⟨?_, hf, fun y hy => ?_, ?_⟩
  · rw [List.length_append, fl_app, fl_one]; exact ho
  · rcases List.mem_append.1 hy with hy | hy
    · exact ((h.own y hy).mono hF).row h.row hO
    · obtain rfl := List.mem_singleton.1 hy; exact hz.row h.row hO
  · rw [List.pairwise_append]
    exact ⟨h.ap, List.pairwise_singleton _ _, fun y hy x hx => by obtain rfl := List.mem_singleton.1 hx; exact hap y hy⟩
end
/-- Runes that lie in a block made behind all others lie apart from them. -/
theorem ap_new {F : Nat → Prop} {w : World} {zs : List Oz} {z : Oz} (h : ∀ y ∈ zs, OpOwn F w y) (hz : ∀ g, z.rv.ownBlock = some g → w.heap.size ≤ g) : ∀ y ∈ zs, Ap y z := fun y hy g hg hg2 => by
  have h1 := own_lt7 (h y hy).r hg
  have h2 := hz g hg2
  omega

theorem info_op : ∃ i, Try.prog.info? 51 = some i ∧ i.zero = some (.agg (opcs 0 0 none 0 0 none 0 0 none 0 0)) ∧ i.size = 5 ∧ i.bytes = 88 := ⟨_, rfl, rfl, rfl, rfl⟩
theorem info_i32 : ∃ i, Try.prog.info? 21 = some i ∧ i.zero = some (.int .i32 0) ∧ i.size = 1 ∧ i.bytes = 4 := ⟨_, rfl, rfl, rfl, rfl⟩
theorem inil_eql (a : Option Addr) (l c : Nat) (w : World) : (binOp .eql 36 (.slice a l c) (.slice none 0 0)).run Try.prog w = .ok (.bool a.isNone) w := by
  simp only [binOp, Sem.run_bind, run_equal_slice_nil w 36 21 a l c Try.underlying36, Result.andThen_ok, Sem.run_pure]
theorem iclone_any (v : Value) (xs : List Int) (w : World) (hv : Ints .i32 w v xs) (hl : xs.length * 4 ≤ 140737488355328) :
    Calls Try.prog 54 #[v] w fun e w' => ∃ u, e = .returned u ∧ w'.ownsRow w.heap.size 21 1 u xs.length (xs.map (Value.int .i32)) ∧ Below w.heap.size w w' := by
  obtain ⟨i0, hi, hz0, hz1, hz2⟩ := info_i32
  have HV := Lib.hid hv
  have hnil := fun a l c w => inil_eql a l c w
  obtain ⟨a, cap, rfl⟩ := hv.shape
  cases a with
  | none =>
    obtain ⟨rfl, rfl⟩ : xs = [] ∧ cap = 0 := by
      rcases hv with ⟨_, _, h, hx, _, h0⟩ | ⟨_, _, _, h, _⟩
      · injection h with h1 _ h3; subst hx; exact ⟨rfl, by rw [h3]; exact h0 h1.symm⟩
      · injection h with h1; cases h1
    clear hv HV
    go_enter Try.func54, Try.ntmps54
    go_wp2
    go_ret
    exact ⟨_, rfl, World.ownsRow_nil _ _ _ _, Below.refl _ _⟩
  | some a =>
    clear hv
    have hB := (Below.refl w.heap.size w).alloc (Nat.le_refl _) (.cells #[] 21)
    go_enter Try.func54, Try.ntmps54
    go_wp2_with (at_builtin; refine wpList_append_ints rfl (.tmp 5) (.tmp 6) 36 rfl w.heap.size 21 i0 (.int .i32 0) 4 Try.underlying36 hi hz0 hz1 hz2 rfl _ 0 [] rfl (owns_none w 21 1) _ .i32 xs rfl (HV.out.below hB) (by unfold maxLen; omega) (by omega) (by simp) ?_; intro v3 w3 hown3 hgrow3)
    go_ret
    refine ⟨_, rfl, ?_, hB.grown hgrow3 (by simp) (fun j hj => own_base (owns_none w 21 1) hj)⟩
    rw [Nat.zero_add, List.nil_append] at hown3
    exact hown3
/-- Two rows of whole numbers, side by side. -/
theorem iequal_any (v1 v2 : Value) (xs ys : List Int) (w : World) (hv1 : Ints .i32 w v1 xs) (hv2 : Ints .i32 w v2 ys) :
    Calls Try.prog 38 #[v1, v2] w fun e w' => e = .returned (.bool (sameB xs ys)) ∧ ∃ n, w' = w.drewN n := by
  have l1 := hv1.len
  have l2 := hv2.len
  by_cases hlen : xs.length = ys.length
  · rcases hv1 with ⟨a, cap, rfl, rfl, hm, _⟩ | ⟨b, off, cap, rfl, h0, h1, hm, hc⟩
    · obtain rfl : ys = [] := List.eq_nil_of_length_eq_zero hlen.symm
      obtain ⟨a2, cap2, rfl⟩ := hv2.shape
      clear hv2 hlen l1 l2
      go_enter Try.func38, Try.ntmps38
      go_wp2
      refine wp_loop_rounds 1 ?_
      rw [rounds_succ]
      go_wp2
      go_ret
      exact ⟨rfl, 0, rfl⟩
    · rcases hv2 with ⟨a, cap2, rfl, rfl, hm2, _⟩ | ⟨b2, off2, cap2, rfl, h02, h12, hm2, hc2⟩
      · simp at hlen; subst hlen; simp at h0
      · have hq : ((xs.length : Int) == ys.length) = true := by rw [hlen]; simp
        have hq2 : ((xs.length : Int) != ys.length) = false := by rw [hlen]; simp
        have HL := Lib.hid hlen
        have hle : xs.length ≤ ys.length := by omega
        unfold maxLen at hm hm2
        clear hlen
        go_enter Try.func38, Try.ntmps38
        go_wp2
        go_loopw [13] (fun i wr => ∃ k n : Nat, k ≤ xs.length ∧ i = .int .i64 k ∧ Hid (xs.take k = ys.take k) ∧ wr = w.drewN n) (fun i _ => xs.length - (intOf i).toNat)
        case atStart => exact ⟨0, 0, Nat.zero_le _, rfl, by simp [Hid], rfl⟩
        case round =>
          obtain ⟨k, n, hk, rfl, ht, rfl⟩ := hrel
          by_cases hlt : k < xs.length
          · have hcx := hc k hlt
            have hcy := hc2 k (by omega)
            clear hc hc2
            have HK : xs.getD k 0 = ys.getD k 0 → Hid (xs.take (k + 1) = ys.take (k + 1)) := fun he => by
              show xs.take (k + 1) = ys.take (k + 1)
              rw [take_snoc xs k hlt, take_snoc ys k (by omega), ht.out, he]
            have HF := same_ne xs ys k hlt (by omega)
            generalize xs.getD k 0 = x at hcx HK HF
            generalize ys.getD k 0 = y at hcy HK HF
            by_cases he : x = y
            · have HT := HK he
              have hq3 : (x != y) = false := by simp [he]
              have hq4 : (x == y) = true := by simp [he]
              clear HK HF he ht
              go_wp2
              go_quiet (fail)
              go_wp2
              go_roundw
              case rel => exact ⟨k + 1, n + nq, by omega, by go_num, HT, by simp⟩
              case measure => simp [intOf]; omega
            · have HT := Lib.hid (HF he)
              have hq3 : (x != y) = true := by simp [he]
              have hq4 : (x == y) = false := by simp [he]
              clear HK HF he ht
              go_wp2
              go_quiet (fail)
              go_wp2
              go_ret
              exact ⟨ret_bool HT.out.symm, n + nq, by simp⟩
          · go_wp2
            go_ret
            exact ⟨ret_bool (same_eq xs ys HL.out (by obtain rfl : k = xs.length := by omega
                                                      exact ht.out)).symm, n, rfl⟩
  · have hq : ((xs.length : Int) == ys.length) = false := by simp; omega
    have hq2 : ((xs.length : Int) != ys.length) = true := by simp; omega
    have hf : sameB xs ys = false := by unfold sameB; rw [decide_eq_false_iff_not]; rintro rfl; exact hlen rfl
    obtain ⟨a1, cap1, rfl⟩ := hv1.shape
    obtain ⟨a2, cap2, rfl⟩ := hv2.shape
    rw [hf]
    clear hv1 hv2 hf hlen
    go_enter Try.func38, Try.ntmps38
    go_wp2
    go_ret
    exact ⟨rfl, 0, rfl⟩
end Go.Proofs.Ytmbjjaflgdfihaa
