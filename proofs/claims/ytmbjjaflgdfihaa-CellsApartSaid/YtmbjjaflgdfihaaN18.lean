
import Derived.Test.YtmbjjaflgdfihaaN17
/- N18: Is; a maker's calls -/
namespace Go.Proofs.Ytmbjjaflgdfihaa
open Go.RowKit
set_option linter.unusedVariables false
set_option maxRecDepth 100000

theorem nr_one (l : List Opn) : NR (l.take 1).reverse := by
  cases l with
  | nil => trivial
  | cons x r => trivial
theorem nr_step {l : List Opn} {k : Nat} (h : k + 1 < l.length) (hn : NR (l.take (k + 1)).reverse) (hb : ¬ Bad l[k] l[k + 1]) : NR (l.take (k + 1 + 1)).reverse := by
  have e1 : l.take (k + 1 + 1) = l.take (k + 1) ++ [l[k + 1]] := List.take_succ_eq_append_getElem h
  have e2 : l.take (k + 1) = l.take k ++ [l[k]] := List.take_succ_eq_append_getElem (by omega)
  rw [e1, List.reverse_append, List.reverse_singleton, List.singleton_append]
  rw [e2, List.reverse_append, List.reverse_singleton, List.singleton_append] at hn ⊢
  exact ⟨hb, hn⟩
theorem nr_pre {a b : List Opn} (h : NR (a ++ b).reverse) : NR a.reverse := by
  have : ∀ r : List Opn, NR (r ++ a.reverse) → NR a.reverse := fun r => by
    induction r with
    | nil => intro h; exact h
    | cons x r ih => intro h; exact ih h.tail
  rw [List.reverse_append] at h
  exact this _ h
theorem nr_bad {l : List Opn} {k : Nat} (h : k + 1 < l.length) (hb : Bad l[k] l[k + 1]) : ¬ NR l.reverse := fun hn => by
  have e : l = l.take (k + 1 + 1) ++ l.drop (k + 1 + 1) := (List.take_append_drop _ _).symm
  rw [e] at hn
  have h2 := nr_pre hn
  have e1 : l.take (k + 1 + 1) = l.take (k + 1) ++ [l[k + 1]] := List.take_succ_eq_append_getElem h
  have e2 : l.take (k + 1) = l.take k ++ [l[k]] := List.take_succ_eq_append_getElem (by omega)
  rw [e1, List.reverse_append, List.reverse_singleton, List.singleton_append, e2, List.reverse_append, List.reverse_singleton, List.singleton_append] at h2
  exact h2.1 hb
/-- What Is answers. -/
def IsP (xs : List Oz) (e : Ending) : Prop := ∃ b, e = .returned (.bool b) ∧ (b = true ↔ normal (xs.map Oz.o))
/-- A maker at bm that was told what reads R (the last op first); all that it has lies in blocks of F. -/
structure MS (F : Nat → Prop) (bm : Nat) (R : List Opn) (w : World) : Prop where
  ex : ∃ va n vc zs, Cb bm 90 #[.slice va n vc] w ∧ Oown F w (.slice va n vc) zs ∧ zs.length = n ∧ (zs.map Oz.o).reverse = R
  nb : ¬ F bm
theorem MS.lt {F : Nat → Prop} {bm : Nat} {R : List Opn} {w : World} (h : MS F bm R w) : bm < w.heap.size := by
  obtain ⟨va, n, vc, zs, hc, -⟩ := h.ex
  exact hc.lt
theorem MS.off {F S : Nat → Prop} {bm : Nat} {R : List Opn} {w w' : World} (h : MS F bm R w) (ho : Off S w w') (hS : ∀ k, (k = bm ∨ F k) → k < w.heap.size → ¬ S k) : MS F bm R w' := by
  obtain ⟨va, n, vc, zs, hc, h2, h3, h4⟩ := h.ex
  exact ⟨⟨va, n, vc, zs, hc.off ho (hS _ (.inl rfl) hc.lt), h2.off ho (fun k hk hl => hS k (.inr hk) hl), h3, h4⟩, h.nb⟩
theorem MS.below {F : Nat → Prop} {bm : Nat} {R : List Opn} {w w' : World} (h : MS F bm R w) (hb : Below w.heap.size w w') : MS F bm R w' := h.off (S := fun _ => False) (Off.of_below hb) (fun _ _ _ h => h)
/-- One op told: to one that is there, to one that is not. -/
theorem tell_one (F : Nat → Prop) (bm : Nat) (R : List Opn) (L S : Nat) (z : Oz) (w : World) (h : MS F bm R w) (hri : RI R L S) (hz : OpOk w z) (hn : OpNa (fun k => k = bm ∨ F k) z) (hsm : Sm z) (hzn : z.n ≤ 9223372036854775807) (hL : L + 1 ≤ 100663296) (hS : S + z.rs.length ≤ 100663296) :
    Calls Try.prog 42 #[.pointer (some ⟨bm, 0, none⟩), .slice (some ⟨w.heap.size, 0, none⟩) 1 1] (w.alloc (.cells z.cs 51)) fun e w' => e = .returned (.tuple #[]) ∧ MS (fun k => F k ∨ w.heap.size ≤ k) bm (rtell z.o R) w' ∧ Off (fun k => k = bm ∨ F k) w w' := by
  obtain ⟨va, n, vc, zs, hc, h2, h3, h4⟩ := h.ex
  have hb := kbelow_one w (.cells z.cs 51)
  have hlt := h.lt
  have hsz : (w.alloc (.cells z.cs 51)).heap.size = w.heap.size + 1 := by simp
  have hts : TS F bm (w.alloc (.cells z.cs 51)) R va n vc zs (w.alloc (.cells z.cs 51)) := ⟨hc.below hb, (h2.below hb).mono fun k hk => .inl hk, h3, h4, Off.refl _ _⟩
  have hF : ∀ (G : Nat → Prop), (∀ k, G k → F k ∧ k < w.heap.size) → True := fun _ _ => trivial
  -- the row's own blocks alone, so that the op's slice is apart
  have hts2 : TS (fun k => F k ∧ k < w.heap.size) bm (w.alloc (.cells z.cs 51)) R va n vc zs (w.alloc (.cells z.cs 51)) := ⟨hc.below hb, ((Oown.tight h2).below hb).mono fun k hk => .inl hk, h3, h4, Off.refl _ _⟩
  refine (tell_any (fun k => F k ∧ k < w.heap.size) bm _ R L S va n vc zs [z] _ (fun hh => h.nb hh.1) (by omega) hts2 hri (orow_one w z _ hz) (fun a m c e => ?_) (fun x hx => ?_) (fun x hx => ?_) (fun x hx => ?_) (by simp; omega) (by simp [sumR, Oz.o]; omega)).mono fun e w' ⟨he, va', n', vc', zs', ht, _⟩ => ⟨he, ⟨⟨va', n', vc', zs', ht.m, ht.o.mono fun k hk => ?_, ht.n, ht.r⟩, fun hh => ?_⟩, ?_⟩
  · injection e with e1 e2 e3
    subst e1
    intro _ x hx hh
    injection hx with hx
    subst hx
    simp only at hh
    omega
  · obtain rfl := List.mem_singleton.1 hx
    exact hn.mono fun g hg => hg.imp id And.left
  · obtain rfl := List.mem_singleton.1 hx; exact hsm
  · obtain rfl := List.mem_singleton.1 hx; exact hzn
  · rcases hk with hk | hk
    · exact .inl hk.1
    · exact .inr (by omega)
  · rcases hh with hh | hh
    · exact h.nb hh
    · omega
  · exact Off.below_l hb (ht.off.mono fun k hk => hk.imp id And.left)

theorem retain_none (n : Int) (pa : Option Addr) (pc : Nat) (pt : List Chg) (w : World) : Calls Try.prog 28 #[.pointer none, .int .i64 n, .slice pa pt.length pc] w fun e w' => e = .returned (.tuple #[]) ∧ Below w.heap.size w w' := by
  have HT := Lib.hid (fun u W => tell_none u W)
  have HB := Lib.hid (kbelow_one w (.cells (Oz.cs (⟨1, n, none, 0, [], none, 0, [], pa, pc, pt⟩ : Oz)) 51))
  go_enter Try.func28, Try.ntmps28
  go_wp2_with (go_at_call 42; refine (HT.out _ _).mono ?_; rintro e w1 ⟨rfl, rfl⟩)
  go_end0
  exact ⟨rfl, HB.out⟩
theorem retain_any (F : Nat → Prop) (bm : Nat) (R : List Opn) (L S : Nat) (n : Int) (pa : Option Addr) (pc : Nat) (pt : List Chg) (w : World) (h : MS F bm R w) (hri : RI R L S) (hz : OpOk w (⟨1, n, none, 0, [], none, 0, [], pa, pc, pt⟩ : Oz)) (hn : OpNa (fun k => k = bm ∨ F k) (⟨1, n, none, 0, [], none, 0, [], pa, pc, pt⟩ : Oz)) (hsm : Sm (⟨1, n, none, 0, [], none, 0, [], pa, pc, pt⟩ : Oz)) (hzn : Oz.n (⟨1, n, none, 0, [], none, 0, [], pa, pc, pt⟩ : Oz) ≤ 9223372036854775807) (hL : L + 1 ≤ 100663296) (hS : S + (Oz.rs (⟨1, n, none, 0, [], none, 0, [], pa, pc, pt⟩ : Oz)).length ≤ 100663296) :
    Calls Try.prog 28 #[.pointer (some ⟨bm, 0, none⟩), .int .i64 n, .slice pa pt.length pc] w fun e w' => e = .returned (.tuple #[]) ∧ MS (fun k => F k ∨ w.heap.size ≤ k) bm (rtell (Oz.o (⟨1, n, none, 0, [], none, 0, [], pa, pc, pt⟩ : Oz)) R) w' ∧ Off (fun k => k = bm ∨ F k) w w' := by
  have HT := Lib.hid (tell_one F bm R L S (⟨1, n, none, 0, [], none, 0, [], pa, pc, pt⟩ : Oz) w h hri hz hn hsm hzn hL hS)
  clear h hri hz hn hsm hzn hL hS
  go_enter Try.func28, Try.ntmps28
  go_wp2_with (go_at_call 42; refine (HT.out).mono ?_; rintro e w1 ⟨rfl, hms, hoff⟩; have HR := Lib.hid (And.intro hms hoff); clear hms hoff)
  go_end0
  exact ⟨rfl, HR.out.1, HR.out.2⟩

theorem insertM_none (ra : Option Addr) (rc : Nat) (rs : List Int) (sa : Option Addr) (sc : Nat) (st : List Att) (w : World) : Calls Try.prog 41 #[.pointer none, .slice ra rs.length rc, .slice sa st.length sc] w fun e w' => e = .returned (.tuple #[]) ∧ Below w.heap.size w w' := by
  have HT := Lib.hid (fun u W => tell_none u W)
  have HB := Lib.hid (kbelow_one w (.cells (Oz.cs (⟨2, 0, ra, rc, rs, sa, sc, st, none, 0, []⟩ : Oz)) 51))
  go_enter Try.func41, Try.ntmps41
  go_wp2_with (go_at_call 42; refine (HT.out _ _).mono ?_; rintro e w1 ⟨rfl, rfl⟩)
  go_end0
  exact ⟨rfl, HB.out⟩
theorem insertM_any (F : Nat → Prop) (bm : Nat) (R : List Opn) (L S : Nat) (ra : Option Addr) (rc : Nat) (rs : List Int) (sa : Option Addr) (sc : Nat) (st : List Att) (w : World) (h : MS F bm R w) (hri : RI R L S) (hz : OpOk w (⟨2, 0, ra, rc, rs, sa, sc, st, none, 0, []⟩ : Oz)) (hn : OpNa (fun k => k = bm ∨ F k) (⟨2, 0, ra, rc, rs, sa, sc, st, none, 0, []⟩ : Oz)) (hsm : Sm (⟨2, 0, ra, rc, rs, sa, sc, st, none, 0, []⟩ : Oz)) (hzn : Oz.n (⟨2, 0, ra, rc, rs, sa, sc, st, none, 0, []⟩ : Oz) ≤ 9223372036854775807) (hL : L + 1 ≤ 100663296) (hS : S + (Oz.rs (⟨2, 0, ra, rc, rs, sa, sc, st, none, 0, []⟩ : Oz)).length ≤ 100663296) :
    Calls Try.prog 41 #[.pointer (some ⟨bm, 0, none⟩), .slice ra rs.length rc, .slice sa st.length sc] w fun e w' => e = .returned (.tuple #[]) ∧ MS (fun k => F k ∨ w.heap.size ≤ k) bm (rtell (Oz.o (⟨2, 0, ra, rc, rs, sa, sc, st, none, 0, []⟩ : Oz)) R) w' ∧ Off (fun k => k = bm ∨ F k) w w' := by
  have HT := Lib.hid (tell_one F bm R L S (⟨2, 0, ra, rc, rs, sa, sc, st, none, 0, []⟩ : Oz) w h hri hz hn hsm hzn hL hS)
  clear h hri hz hn hsm hzn hL hS
  go_enter Try.func41, Try.ntmps41
  go_wp2_with (go_at_call 42; refine (HT.out).mono ?_; rintro e w1 ⟨rfl, hms, hoff⟩; have HR := Lib.hid (And.intro hms hoff); clear hms hoff)
  go_end0
  exact ⟨rfl, HR.out.1, HR.out.2⟩

theorem mops_none (w : World) : Calls Try.prog 30 #[.pointer none] w fun e w' => e = .returned (.slice none 0 0) ∧ w' = w := by
  go_enter Try.func30, Try.ntmps30
  go_wp2
  go_ret
  exact ⟨rfl, rfl⟩
theorem mops_any (F : Nat → Prop) (bm : Nat) (R : List Opn) (w : World) (h : MS F bm R w) (hsm : ∀ o ∈ R, o.rs.length ≤ 50331648 ∧ o.st.length ≤ 50331648 ∧ o.pt.length ≤ 50331648) (hl : R.length ≤ 50331648) :
    Calls Try.prog 30 #[.pointer (some ⟨bm, 0, none⟩)] w fun e w' => ∃ v ys, e = .returned v ∧ ys.map Oz.o = (settleR R).reverse ∧ Oown (fun g => w.heap.size ≤ g) w' v ys ∧ Below w.heap.size w w' := by
  obtain ⟨va, n, vc, zs, hc, h2, h3, h4⟩ := h.ex
  subst h3
  have HSE := Lib.hid (settled_any va vc zs w h2.orow)
  have hsz : ∀ z ∈ settleZ zs, Sm z := fun z hz => by
    have : z.o ∈ R := by rw [← h4]; simpa using List.mem_map_of_mem (f := Oz.o) (mem_settleZ hz)
    obtain ⟨a, b, c⟩ := hsm _ this
    exact ⟨a, b, c⟩
  have hln : (settleZ zs).length ≤ 50331648 := by
    have e := settleZ_len zs
    have : R.length = zs.length := by rw [← h4]; simp
    split at e <;> omega
  have HCP := Lib.hid (ocopy_any (.slice va (settleZ zs).length vc) (settleZ zs) w (h2.settle rfl).orow hln hsz)
  have HE := Lib.hid (show (settleZ zs).map Oz.o = (settleR R).reverse by rw [settleZ_o, h4])
  have cm := hc.cell 0
  have cm2 : w.cell? ⟨bm, 0, none⟩ = some (.slice va zs.length vc) := cm
  clear cm hc h2 h4 hsz hln hsm hl h
  go_enter Try.func30, Try.ntmps30
  go_wp2_with (first
    | (go_at_call 47; refine (HSE.out).mono ?_; rintro e w1 ⟨rfl, rfl⟩)
    | (go_at_call 46; refine (HCP.out).mono ?_; rintro e w2 ⟨v2, ys2, rfl, he2, ho2, hb2⟩; have HR := Lib.hid (And.intro he2 (And.intro ho2 hb2)); clear he2 ho2 hb2))
  go_ret
  exact ⟨_, ys2, rfl, HR.out.1.trans HE.out, HR.out.2.1, HR.out.2.2⟩
end Go.Proofs.Ytmbjjaflgdfihaa
