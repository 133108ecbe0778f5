
import Derived.Test.YtnggnfhaokkcmaaN36
/- N37: a round of NormalMakes -/
namespace Go.Proofs.Ytnggnfhaokkcmaa
open Go.RowKit
set_option linter.unusedVariables false
set_option maxRecDepth 100000

section
variable {w0 W Wc W2 W3 : World} {n0 bt bm bz k : Nat} {R1 R2 : List Opn} {y : Oz} {v : Value} {ys zs : List Oz}
theorem my_start (h : MKP w0 bm bz R1 R2 W) (hb : Below W.heap.size W Wc) (ho : Oown (fun g => W.heap.size ≤ g) Wc v [y]) : MYP w0 W.heap.size Wc.heap.size bm bz R1 R2 y v (Wc.alloc (.cells y.cs 34)) := by
  obtain ⟨F1, F2, h⟩ := h
  have hb2 := kbelow_one Wc (.cells y.cs 34)
  exact ⟨F1, F2, (h.below hb).below hb2, ⟨(Oown.tight ho).below hb2, cb_new _ _ _, hb.size⟩, fun k hk => .inl (h.f1 k hk).2, fun k hk => .inl (h.f2 k hk).2, h.m.lt, h.z.lt⟩
theorem MKP.wroteB (h : MKP w0 bm bz R1 R2 W) (hb : Below W.heap.size W W2) (hw : WrO W2 v ys W3) (hS : ∀ k, Sb v ys k → W.heap.size ≤ k) : MKP w0 bm bz R1 R2 W3 :=
  h.below (hb.trans (hw.off.below hS hb.size))
theorem told_mem (hk : k < zs.length) : zs[k].o ∈ zs.map Oz.o := List.mem_map_of_mem (List.getElem_mem hk)
theorem told_ret (ht : Tame zs) (hk : k < zs.length) (he : y.o = zs[k].o) (h1 : y.k = 1) : rtell ⟨1, y.n, [], [], y.pt⟩ (tellR ((zs.take k).map Oz.o)) = tellR ((zs.take (k + 1)).map Oz.o) := by
  have hm := ht.tm _ (told_mem hk)
  rw [← he] at hm
  obtain ⟨e1, e2, -⟩ := hm.ret h1
  rw [tell_take hk, ← he]
  congr 1
  simp only [Oz.o] at *
  rw [h1, e1, e2]
theorem told_ins (ht : Tame zs) (hk : k < zs.length) (he : y.o = zs[k].o) (h2 : y.k = 2) : rtell ⟨2, 0, y.rs, y.st, []⟩ (tellR ((zs.take k).map Oz.o)) = tellR ((zs.take (k + 1)).map Oz.o) := by
  have hm := ht.tm _ (told_mem hk)
  rw [← he] at hm
  obtain ⟨e1, e2, -⟩ := hm.ins h2
  rw [tell_take hk, ← he]
  congr 1
  simp only [Oz.o] at *
  rw [h2, e1, e2]
theorem told_del (ht : Tame zs) (hk : k < zs.length) (he : y.o = zs[k].o) (h1 : y.k ≠ 1) (h2 : y.k ≠ 2) : rtell ⟨3, y.n, [], [], []⟩ (tellR ((zs.take k).map Oz.o)) = tellR ((zs.take (k + 1)).map Oz.o) := by
  have hm := ht.tm _ (told_mem hk)
  rw [← he] at hm
  have h3 : y.k = 3 := by
    rcases hm.kind with h | h | h
    · exact absurd h h1
    · exact absurd h h2
    · exact h
  obtain ⟨e1, e2, e3, -⟩ := hm.del h3
  rw [tell_take hk, ← he]
  congr 1
  simp only [Oz.o] at *
  rw [h3, e1, e2, e3]
theorem told_sm (hi : LIn zs) (hk : k < zs.length) (he : y.o = zs[k].o) : Sm y ∧ y.n ≤ 9223372036854775807 ∧ y.rs.length ≤ 1048576 := by
  have h1 := sm_o he (hi.i.sm _ (List.getElem_mem hk))
  have h2 : y.n = zs[k].n := congrArg Opn.n he
  have h3 := sumR_mem (told_mem hk)
  have h4 : y.rs = zs[k].rs := congrArg Opn.rs he
  have h5 := hi.rs
  have h6 : zs[k].o.rs = zs[k].rs := rfl
  exact ⟨h1, by rw [h2]; exact hi.i.n _ (List.getElem_mem hk), by rw [h4, ← h6]; omega⟩
theorem part_one (hk : k < zs.length) : (zs.take (k + 1)).drop k = [zs[k]] := by
  rw [List.take_succ_eq_append_getElem hk, List.drop_append_of_le_length (by rw [List.length_take]; omega), List.drop_of_length_le (by rw [List.length_take]; omega)]
  rfl
theorem in_one (hi : LIn zs) (hk : k < zs.length) : In [zs[k]] := by
  have h1 := List.getElem_mem hk
  have h2 := sumR_mem (told_mem hk)
  have h3 := hi.rs
  have h4 : sumR ([zs[k]].map Oz.o) = zs[k].o.rs.length := by simp [sumR, Oz.o]
  exact ⟨fun z hz => by obtain rfl := List.mem_singleton.1 hz; exact hi.i.sm _ h1, fun z hz => by obtain rfl := List.mem_singleton.1 hz; exact hi.i.n _ h1, by simp, by omega⟩
theorem one_part {cap1 g1 o1 : Nat} (hx : Orow W (.slice (some ⟨g1, o1, none⟩) zs.length cap1) zs) (hk : k < zs.length) (hc : zs.length ≤ cap1) : Orow W (.slice (some ⟨g1, o1 + k * 5, none⟩) 1 (cap1 - k)) [zs[k]] := by
  have h := hx.mid (lo := k) (hi := k + 1) (by omega) hk
  rw [sliced_no (by omega), Nat.add_sub_cancel_left, part_one hk] at h
  simpa only [Option.map_some, Go.WideShapes.add_plain] using h
theorem one_at {F : Nat → Prop} {gu uc : Nat} (h : Oown F W (.slice (some ⟨gu, 0, none⟩) 1 uc) [y]) : OAt gu 0 y W ∧ 1 ≤ uc := by
  obtain ⟨b, off, e, -, hc, -, -, hat⟩ := h.orow.row.ats (by simp)
  injection e with e
  injection e with e1 e2
  subst e1 e2
  have := hat 0 (by simp)
  simp only [Nat.zero_mul, Nat.add_zero, List.getElem_cons_zero] at this
  exact ⟨this, by simpa using hc⟩
theorem sm_form (ht : TkF zs k) (h : ys.map Oz.o = formO ((zs.take k).map Oz.o)) {z : Oz} (hz : z ∈ ys) : Sm z := by
  have h1 : z.o ∈ formO ((zs.take k).map Oz.o) := by rw [← h]; exact List.mem_map_of_mem hz
  unfold formO at h1
  have h2 := ht.sm _ (settle_sub _ _ (List.mem_reverse.1 h1))
  exact ⟨h2.1, h2.2.1, h2.2.2⟩
theorem settle_le (R : List Opn) : (settleR R).length ≤ R.length := by
  cases R with
  | nil => exact Nat.le_refl _
  | cons o r =>
    by_cases hi : Idle o
    · rw [settleR_yes r hi]; simp
    · rw [settleR_no r hi]; exact Nat.le_refl _
theorem len_form (ht : TkF zs k) (h : ys.map Oz.o = formO ((zs.take k).map Oz.o)) : ys.length ≤ 16777216 := by
  have h1 := congrArg List.length h
  rw [List.length_map] at h1
  unfold formO at h1
  rw [List.length_reverse] at h1
  have := settle_le (tellR ((zs.take k).map Oz.o))
  have := ht.len
  omega
end
end Go.Proofs.Ytnggnfhaokkcmaa
