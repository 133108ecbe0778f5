
import Derived.Test.YtnggnfhaokkcmaaN34
/- N35: two makers side by side -/
namespace Go.Proofs.Ytnggnfhaokkcmaa
open Go.RowKit
set_option linter.unusedVariables false
set_option maxRecDepth 100000

theorem ri_tell : ∀ (l : List Opn), (∀ p ∈ l, p.n ≤ 9223372036854775807) → RI (tellR l) l.length (sumR l) := fun l => by
  induction l using snoc_ind with
  | nil => intro _; exact ri_nil
  | append_singleton l p ih =>
    intro hl
    have := ri_rtell (ih fun q hq => hl q (by simp [hq])) (hl p (by simp))
    rw [tellR_snoc]
    exact this.mono (by simp) (by rw [sumR_app]; simp [sumR])
/-- The first so many of what came in. -/
structure TkF (zs : List Oz) (k : Nat) : Prop where
  ri : RI (tellR ((zs.take k).map Oz.o)) k (sumR (zs.map Oz.o))
  sm : ∀ o ∈ tellR ((zs.take k).map Oz.o), o.rs.length ≤ 16777216 ∧ o.st.length ≤ 16777216 ∧ o.pt.length ≤ 16777216
  len : (tellR ((zs.take k).map Oz.o)).length ≤ 16777216
  li : LIn (zs.take k)
  tm : Tame (zs.take k)
theorem take_li {zs : List Oz} (hi : LIn zs) (k : Nat) : LIn (zs.take k) := by
  have h := (take_rs zs k 0).1
  have hr := hi.rs
  have hl := hi.len
  have h2 : (zs.take k).length ≤ zs.length := by rw [List.length_take]; omega
  exact ⟨⟨fun z hz => hi.i.sm z (List.mem_of_mem_take hz), fun z hz => hi.i.n z (List.mem_of_mem_take hz), by omega, by omega⟩, fun z hz => hi.a z (List.mem_of_mem_take hz), fun z hz => hi.c z (List.mem_of_mem_take hz), by omega, by omega⟩
theorem take_tame {zs : List Oz} (ht : Tame zs) (k : Nat) : Tame (zs.take k) := by
  obtain ⟨h1, h2, -, -⟩ := take_tm (f := 0) ht k
  have := ht.n
  exact ⟨h1, by omega⟩
theorem tk_f {zs : List Oz} (hi : LIn zs) (ht : Tame zs) {k : Nat} (hk : k ≤ zs.length) : TkF zs k := by
  have hl := take_li hi k
  have htt := take_tame ht k
  have hr := (take_rs zs k 0).1
  have hrs := hi.rs
  have hlen := hi.len
  have h0 := ri_tell ((zs.take k).map Oz.o) (fun p hp => by obtain ⟨x, hx, rfl⟩ := List.mem_map.1 hp; exact hl.i.n x hx)
  have e : ((zs.take k).map Oz.o).length = k := by rw [List.length_map, List.length_take]; omega
  rw [e] at h0
  have hn := htt.n
  have hkp := tell_kept ((zs.take k).map Oz.o) htt.tm (by omega)
  refine ⟨h0.mono (Nat.le_refl _) (by omega), fun o ho => ?_, ?_, hl, htt⟩
  · obtain ⟨p, hp, e1, e2⟩ := tell_like _ _ ho
    obtain ⟨x, hx, rfl⟩ := List.mem_map.1 hp
    have hs := hl.i.sm x hx
    have h1 := sumR_mem ho
    have h2 := hkp.rs
    have e4 : o.st = x.st := e1
    have e5 : o.pt = x.pt := e2
    exact ⟨by omega, by rw [e4]; exact hs.s, by rw [e5]; exact hs.p⟩
  · have := hkp.len
    rw [e] at this
    omega
theorem tell_take {zs : List Oz} {k : Nat} (hk : k < zs.length) : tellR ((zs.take (k + 1)).map Oz.o) = rtell zs[k].o (tellR ((zs.take k).map Oz.o)) := by rw [take_oz hk, tellR_snoc]

/-- Two makers. -/
structure MK (w0 : World) (F1 F2 : Nat → Prop) (bm bz : Nat) (R1 R2 : List Opn) (W : World) : Prop where
  bel : Below w0.heap.size w0 W
  m : MS F1 bm R1 W
  z : MS F2 bz R2 W
  f1 : ∀ k, F1 k → w0.heap.size ≤ k ∧ k < W.heap.size
  f2 : ∀ k, F2 k → w0.heap.size ≤ k ∧ k < W.heap.size
  d : ∀ k, F1 k → ¬ F2 k
  mz : ¬ F1 bz
  zm : ¬ F2 bm
  ne : bm ≠ bz
  hm : w0.heap.size ≤ bm
  hz : w0.heap.size ≤ bz
section
variable {w0 W W2 : World} {F1 F2 S : Nat → Prop} {bm bz : Nat} {R1 R2 R : List Opn}
theorem MK.swap (h : MK w0 F1 F2 bm bz R1 R2 W) : MK w0 F2 F1 bz bm R2 R1 W := ⟨h.bel, h.z, h.m, h.f2, h.f1, fun k h2 h1 => h.d k h1 h2, h.zm, h.mz, fun e => h.ne e.symm, h.hz, h.hm⟩
theorem MK.off (h : MK w0 F1 F2 bm bz R1 R2 W) (ho : Off S W W2) (hS : ∀ k, S k → w0.heap.size ≤ k) (h1 : ∀ k, S k → k < W.heap.size → k ≠ bm ∧ k ≠ bz ∧ ¬ F1 k ∧ ¬ F2 k) : MK w0 F1 F2 bm bz R1 R2 W2 := by
  have hs := ho.size
  refine ⟨h.bel.trans (ho.below hS h.bel.size), h.m.off ho (fun k hk hl hh => ?_), h.z.off ho (fun k hk hl hh => ?_), fun k hk => ⟨(h.f1 k hk).1, by have := (h.f1 k hk).2; omega⟩, fun k hk => ⟨(h.f2 k hk).1, by have := (h.f2 k hk).2; omega⟩, h.d, h.mz, h.zm, h.ne, h.hm, h.hz⟩
  · obtain ⟨a, b, c, d⟩ := h1 k hh hl
    rcases hk with hk | hk
    · exact a hk
    · exact c hk
  · obtain ⟨a, b, c, d⟩ := h1 k hh hl
    rcases hk with hk | hk
    · exact b hk
    · exact d hk
theorem MK.below (h : MK w0 F1 F2 bm bz R1 R2 W) (hb : Below W.heap.size W W2) : MK w0 F1 F2 bm bz R1 R2 W2 := h.off (S := fun _ => False) (Off.of_below hb) (fun _ h => h.elim) (fun _ h => h.elim)
/-- Behind a call of the first. -/
theorem MK.told (h : MK w0 F1 F2 bm bz R1 R2 W) (hm : MS (fun k => F1 k ∨ W.heap.size ≤ k) bm R W2) (ho : Off (fun k => k = bm ∨ F1 k) W W2) : MK w0 (fun k => (F1 k ∨ W.heap.size ≤ k) ∧ k < W2.heap.size) F2 bm bz R R2 W2 := by
  have hs := ho.size
  have hbz := h.z.lt
  have hbm := h.m.lt
  have hw := h.bel.size
  refine ⟨h.bel.trans (ho.below (fun k hk => ?_) h.bel.size), ?_, h.z.off ho (fun k hk hl hh => ?_), fun k hk => ⟨?_, hk.2⟩, fun k hk => ⟨(h.f2 k hk).1, by have := (h.f2 k hk).2; omega⟩, fun k hk h2 => ?_, fun hk => ?_, h.zm, h.ne, h.hm, h.hz⟩
  · rcases hk with hk | hk
    · subst hk; exact h.hm
    · exact (h.f1 k hk).1
  · obtain ⟨va, n, vc, zs, h1, h2, h3, h4⟩ := hm.ex
    refine ⟨⟨va, n, vc, zs, h1, Oown.tight h2, h3, h4⟩, fun hh => ?_⟩
    rcases hh.1 with hh | hh
    · exact h.m.nb hh
    · omega
  · rcases hk with hk | hk
    · subst hk
      rcases hh with hh | hh
      · exact h.ne hh.symm
      · exact h.mz hh
    · rcases hh with hh | hh
      · subst hh; exact h.zm hk
      · exact h.d k hh hk
  · rcases hk.1 with hk | hk
    · exact (h.f1 k hk).1
    · omega
  · rcases hk.1 with hk | hk
    · exact h.d k hk h2
    · have := (h.f2 k h2).2; omega
  · rcases hk.1 with hk | hk
    · exact h.mz hk
    · omega
end
theorem mk_new (w1 : World) : MK w1 (fun _ => False) (fun _ => False) w1.heap.size (w1.heap.size + 1) [] [] ((w1.alloc (.cells #[.slice none 0 0] 45)).alloc (.cells #[.slice none 0 0] 45)) := by
  have k1 := kbelow_one w1 (.cells #[.slice none 0 0] 45)
  have c1 := cb_new w1 45 #[.slice none 0 0]
  have s1 : (w1.alloc (.cells #[.slice none 0 0] 45)).heap.size = w1.heap.size + 1 := by simp
  generalize w1.alloc (.cells #[.slice none 0 0] 45) = w2 at *
  have k2 := kbelow_one w2 (.cells #[.slice none 0 0] 45)
  have c2 := cb_new w2 45 #[.slice none 0 0]
  rw [s1] at c2
  exact ⟨below_add k1 k2 k1.size, ⟨⟨none, 0, 0, [], c1.below k2, Oown.nil _ _, rfl, rfl⟩, fun h => h⟩, ⟨⟨none, 0, 0, [], c2, Oown.nil _ _, rfl, rfl⟩, fun h => h⟩, fun _ h => h.elim, fun _ h => h.elim, fun _ h => h.elim, fun h => h, fun h => h, by omega, Nat.le_refl _, by omega⟩
end Go.Proofs.Ytnggnfhaokkcmaa
