
import Derived.Test.YtoienmcgcefdiaaS6
import Derived.Test.YtoienmcgcefdiaaS7
import Derived.Sort.OwnSorted
import Derived.Maps.RangeWalk
/- S10: Keys -/
namespace Go.Proofs.Ytoienmcgcefdiaa
open Go.RowKit
set_option linter.unusedVariables false

theorem infoKey : (Try.prog.info? 32).map (fun i => (i.zero, i.size, i.bytes)) = some (some (kv noKey), 6, 24) := by kernel_rfl
theorem kcell_new (w : World) (k : Key) (t : TypeId) : ∀ j u, (kc k)[j]? = some u → (w.alloc (.cells (kca k) t)).cell? ((⟨w.heap.size, 0, none⟩ : Addr).add j) = some u := by
  intro j u hu
  rw [Go.WideShapes.add_plain, Nat.zero_add, cell_of_row (w.alloc (.cells (kca k) t)) w.heap.size j _ t (0, 0) (heap_alloc_new w _), ← hu]
  simp
theorem kcell_new1 (w : World) (o : Obj) (k : Key) (t : TypeId) : ∀ j u, (kc k)[j]? = some u → ((w.alloc o).alloc (.cells (kca k) t)).cell? ((⟨w.heap.size + 1, 0, none⟩ : Addr).add j) = some u := by
  have h := kcell_new (w.alloc o) k t
  simpa only [World.size_alloc] using h
theorem kc_one (k : Key) : ∀ u ∈ kc k, u.oneCell' = true := by
  have := flat_one_cells [k]
  rwa [flat_one] at this

/-- What Keys answers: a row of the call's own. -/
def KeysPost (ks : List Key) (w : World) (e : Ending) (w' : World) : Prop :=
  ∃ v, e = .returned v ∧ w'.ownsRow w.heap.size 32 6 v (rising ks).length (flat (rising ks)) ∧ Below w.heap.size w w'

/-- The loop over the map: l is what has come so far. -/
def KeysRel (B : Nat) (w : World) (b r : Nat) (ks : List Key) (v : Value) (wr : World) : Prop :=
  ∃ l left cnt, wr.ranges Try.prog 3 keyElem b r 64 (dat ks) left cnt ∧ wr.ownsRow B 32 6 v l.length (flat l) ∧ v ≠ .slice none 0 0 ∧ Apart l ∧
    (∀ k, k ∈ l ↔ k ∈ ks ∧ left (.int .i64 k.id) = false) ∧ Below B w wr ∧ l.length + cnt ≤ 64

theorem keys_init {w w1 w2 : World} {b : Nat} {ks : List Key} {v : Value} (hA : Apart ks) (hl : ks.length ≤ 64) (h1 : w1.ownsRow w.heap.size 32 6 v 0 []) (hv : v ≠ .slice none 0 0) (hg1 : w.grownBy w1 none)
    (hr : w2.ranges Try.prog 3 keyElem b w1.heap.size 64 (dat ks) (Maps.has (dat ks)) (Maps.size (dat ks))) (hg2 : w1.grownBy w2 none) : KeysRel w.heap.size w b w1.heap.size ks v w2 := by
  refine ⟨[], _, _, hr, h1.kept hg2 (Classical.em _), hv, List.Pairwise.nil, fun k => ?_, ((Below.refl _ _).grown hg1 (Nat.le_refl _) (by simp)).grown hg2 hg1.size (by simp), by rw [dat_size hA]; simpa using hl⟩
  simp only [List.not_mem_nil, false_iff, not_and]
  intro hk
  rw [dat_has, fnd_mem hA hk]
  simp

theorem keys_step {B : Nat} {w wr w1 w2 : World} {b r : Nat} {ks l : List Key} {left : Lit → Bool} {cnt cnt1 : Nat} {v v2 : Value} {x : Int} {c : Key} (hA : Apart ks) (hB : B ≤ r)
    (hown : wr.ownsRow B 32 6 v l.length (flat l)) (hv : v ≠ .slice none 0 0) (hal : Apart l) (hm : ∀ k, k ∈ l ↔ k ∈ ks ∧ left (.int .i64 k.id) = false) (hbw : Below B w wr) (hcnt : l.length + cnt ≤ 64)
    (hlk : left (.int .i64 x) = true) (hf : fnd ks x = some c) (hrg1 : w1.ranges Try.prog 3 keyElem b r 64 (dat ks) (fun z => left z && !z.sameKey (.int .i64 x)) cnt1) (hlt : cnt1 < cnt) (hg1 : wr.grownBy w1 (some r)) (hbase : B ≤ wr.heap.size)
    (o1 o2 : Obj) (hown2 : w2.ownsRow B 32 6 v2 (l.length + 1) (flat l ++ kc c)) (hg2 : ((w1.alloc o1).alloc o2).grownBy w2 v.ownBlock) (hbb : b < B) (hne : some r ≠ v.ownBlock) (hnil : v2 = .slice none 0 0 ↔ v = .slice none 0 0 ∧ 1 = 0) :
    KeysRel B w b r ks v2 w2 ∧ w2.rangeLeft b r = cnt1 := by
  obtain ⟨hc, hid⟩ := fnd_some hf
  subst hid
  have hcl : c ∉ l := fun h => by have := ((hm c).1 h).2; rw [hlk] at this; cases this
  have hown1 := (hown.kept hg1 (.inr hne.symm))
  refine ⟨⟨l ++ [c], _, cnt1, ((hrg1.alloc o1).alloc o2).kept hg2 (row_ne_low hown hbb) hne, by simpa [flat_app, flat_one] using hown2, fun h => by have := (hnil.1 h).2; omega, ?_, fun k => ?_, ?_, by simp; omega⟩, (((hrg1.alloc o1).alloc o2).kept hg2 (row_ne_low hown hbb) hne).left_eq⟩
  · refine List.pairwise_append.2 ⟨hal, by simp, fun a ha y hy => ?_⟩
    simp at hy
    subst hy
    intro e
    have h1 := fnd_mem hA ((hm a).1 ha).1
    rw [e, hf] at h1
    injection h1 with h1
    subst h1
    exact hcl ha
  · rw [List.mem_append, hm k]
    constructor
    · rintro (⟨h1, h2⟩ | h)
      · exact ⟨h1, by simp [h2]⟩
      · simp at h
        subst h
        refine ⟨hc, ?_⟩
        have : (Lit.int .i64 k.id).sameKey (.int .i64 k.id) = true := WideAt.sameKey_self (int_key _)
        simp [this]
    · rintro ⟨h1, h2⟩
      by_cases e : k.id = c.id
      · right
        have h3 := fnd_mem hA h1
        rw [e, hf] at h3
        injection h3 with h3
        simp [h3]
      · left
        refine ⟨h1, ?_⟩
        have : (Lit.int .i64 k.id).sameKey (.int .i64 c.id) = false := Maps.sameKey_ne (fun h => e (by injection h))
        simpa [this] using h2
  · refine ((((hbw.grown hg1 hbase (fun j hj => by cases hj; exact hB)).alloc (Nat.le_trans hbase hg1.size) o1).alloc (by simp; have := hg1.size; omega) o2)).grown hg2 (by simp; have := hg1.size; omega) (fun j hj => ?_)
    have := (hown.lt j hj).1
    exact this

theorem keys_end {B : Nat} {w wr w2 : World} {ks l l' : List Key} {left : Lit → Bool} {g cap : Nat} (hg : Good ks) (hBw : B = w.heap.size) (hbase : B ≤ wr.heap.size)
    (hown : wr.ownsRow B 32 6 (.slice (some ⟨g, 0, none⟩) l.length cap) l.length (flat l)) (hm : ∀ k, k ∈ l ↔ k ∈ ks ∧ left (.int .i64 k.id) = false) (hbw : Below B w wr) (hl0 : ∀ kl, left kl = false)
    (hp : l'.Perm l) (hs : l'.Pairwise (fun a b => a.id < b.id)) (hown2 : w2.ownsRow B 32 6 (.slice (some ⟨g, 0, none⟩) l.length cap) l.length (flat l')) (hg2 : wr.grownBy w2 (some g)) :
    KeysPost ks w (.returned (.slice (some ⟨g, 0, none⟩) l.length cap)) w2 := by
  have hr : l' = rising ks := rising_unique hg hs fun k => (hp.mem_iff).trans ((hm k).trans ⟨fun h => h.1, fun h => ⟨h, hl0 _⟩⟩)
  have hlen : l.length = (rising ks).length := by rw [← hr]; exact hp.length_eq.symm
  subst hBw
  refine ⟨_, rfl, ?_, hbw.grown hg2 hbase (fun j hj => ?_)⟩
  · rw [← hr] at hlen ⊢
    rw [← hlen]
    exact hown2
  · cases hj
    exact (hown.lt g (by simp [Value.ownBlock])).1

theorem keys_none (w : World) : Calls Try.prog 12 #[.pointer none] w (KeysPost [] w) := by
  have hr := Lib.hid rising_nil
  go_enter Try.func12, Try.ntmps12
  go_wp2
  go_ret
  refine ⟨_, rfl, ?_, Below.refl _ _⟩
  rw [hr.out]
  exact ⟨by simp [flat_nil], .inl ⟨rfl, rfl⟩⟩

set_option maxRecDepth 100000 in
set_option maxHeartbeats 1000000 in
theorem keys_map (s b : Nat) (ks : List Key) (w : World) (hg : Good ks) (hc : w.cell? ⟨s, 0, none⟩ = some (.map (some b))) (ho : w.ownsMap Try.prog 3 keyElem b 64 (dat ks)) :
    Calls Try.prog 12 #[.pointer (some ⟨s, 0, none⟩)] w (KeysPost ks w) := by
  obtain ⟨i0, hi, hz0, hz1, hz2⟩ := info_parts infoKey
  have hsize := dat_size hg.2
  have hl64 : ks.length ≤ 64 := by have := ho.size_le; omega
  have hs64 : Maps.size (dat ks) ≤ 64 := by omega
  have hbb := ho.lt
  have hss := World.block_lt_of_cell? _ _ hc
  have HZ := Lib.hid hsize
  clear hsize
  go_enter Try.func12, Try.ntmps12
  go_wp2_with (first
    | (at_len; refine wpList_len_own _ rfl _ 46 rfl 3 32 Try.underlying46 _ b _ _ rfl ho ?_)
    | (at_make; refine wpList_make_own _ rfl _ _ 22 rfl w.heap.size 32 i0 (kv noKey) 6 Try.underlying22 hi hz0 hz1 .i64 .i64 _ (Maps.size (dat ks)) rfl rfl rfl (by rw [hz2]; omega) (by unfold maxLen; omega) (Nat.le_refl _) ?_; intro w1 hown1 hgrow1; have hc1 := (World.cell?_of_block (a := ⟨s, 0, none⟩) (hgrow1.block s hss (by simp))).trans hc)
    | (at_range; refine wpList_range_own _ rfl _ 46 rfl 3 32 keyedInt Try.underlying46 keyElem b 64 (dat ks) rfl (ho.kept hgrow1 (by simp)) ?_; intro w2 hrg2 hgrow2 hsz2))
  have hini := keys_init hg.2 hl64 hown1 (by simp) hgrow1 hrg2 hgrow2
  have hBr := hgrow1.size
  clear hrg2 hgrow2 hsz2 hown1 hgrow1 hc1 hc hss HZ
  generalize w1.heap.size = r at hini hBr ⊢
  go_loopw [3] (fun v wr => KeysRel w.heap.size w b r ks v wr) (fun _ wr => wr.rangeLeft b r)
  case atStart => exact hini
  case round =>
    obtain ⟨l, left, cnt, hrg, hown, hnn, hal, hm, hbw, hcnt⟩ := hrel
    have hne := row_ne_iter hown hrg
    have hbs := hbw.size
    have HM := Lib.hid hm
    clear hm
    go_wp2_with (first
      | (at_next; refine wpList_next_ranges _ rfl (.tmp 18) rfl 3 keyedInt keyElem (Value.int .i64) kv (fun key kl h => by obtain ⟨x, rfl, _⟩ := Maps.keyOf_int_inv Try.underlying3 h; exact ⟨x, rfl⟩) (fun v y h => by obtain ⟨k, rfl, _⟩ := keyElem_inv h; exact ⟨k, rfl⟩) b r 64 (dat ks) left cnt rfl hrg ?_ ?_))
    · intro hc0 hl0
      obtain ⟨g, cap, rfl⟩ : ∃ g cap, u3 = .slice (some ⟨g, 0, none⟩) l.length cap := by
        rcases hown.2 with ⟨hnil, _⟩ | ⟨g, cap, cur, hv, _⟩
        · exact absurd hnil hnn
        · exact ⟨g, cap, hv⟩
      have HO := Lib.hid hown
      have HL := Lib.hid hl0
      clear hrg hne hl0
      go_wp2_with (go_at_call 21; ((with_reducible refine (sort_any g cap w.heap.size l _ hal HO.out (by omega)).mono ?_); rintro e w3 ⟨rfl, l', hp, hs, hown3, hg3⟩))
      go_ret
      exact keys_end hg rfl hbs HO.out HM.out hbw HL.out hp hs hown3 hg3
    · intro x c kl yd yp w2 cnt2 hkey hlk hv hat hrg2 hlt hg2 hs2 hen
      obtain ⟨x', ex, rfl, hwx⟩ := Maps.keyOf_int_inv Try.underlying3 hkey
      obtain rfl : x = x' := by injection ex
      obtain ⟨c', hf, hy⟩ := dat_at_some hg.2 hat
      obtain ⟨c2, ec, ez⟩ := keyElem_inv hv
      have hcc : c' = c := by
        rw [hy] at ez
        injection ez with e1 _
        injection e1 with e1
        injection ec with e2
        obtain ⟨a1, a2, a3, a4, a5, a6⟩ := c
        obtain ⟨b1, b2, b3, b4, b5, b6⟩ := c2
        simp at e2
        rw [e1]
        obtain ⟨q1, q2, q3, q4, q5, q6⟩ := e2
        subst q1 q2 q3 q4 q5 q6
        rfl
      subst hcc
      have hbs2 := hg2.size
      have hown2 := hown.kept hg2 (.inr hne.symm)
      have hstep := Lib.hid (fun v2 w3 o1 o2 h1 h2 h3 => keys_step (w2 := w3) (v2 := v2) hg.2 hBr hown hnn hal HM.out hbw hcnt hlk hf hrg2 hlt hg2 hbs o1 o2 h1 h2 hbb hne h3)
      have hle := Lib.hid hrg.left_eq
      have HLT := Lib.hid hlt
      clear hkey hlk hv hat hrg2 hg2 hs2 hf hy ez ec ex hrg hown hlt
      go_wp2_with (at_builtin; refine wpList_append_own _ rfl (.tmp 23) (.tmp 25) 22 rfl w.heap.size 32 i0 (kv noKey) 6 24 Try.underlying22 hi hz0 hz1 hz2 rfl (by decide) u3 l.length (flat l) rfl ((hown2.alloc _).alloc _) ⟨w2.heap.size + 1, 0, none⟩ 1 1 (kc c') rfl rfl (kcell_new1 w2 _ c' 32) (kc_one c') (by unfold maxLen; omega) (by omega) (by simp; omega) ?_; intro v3 w3 hown3 hgrow3 hnil3)
      have hrel := hstep.out v3 w3 _ _ hown3 hgrow3 hnil3
      have HR := Lib.hid hrel
      clear hown3 hgrow3 hnil3 hrel
      go_roundw
      case rel => exact HR.out.1
      case measure => rw [HR.out.2, hle.out]; exact HLT.out

theorem flat_own {w w1 : World} {n : Nat} (h : w1.ownsRow w.heap.size 32 6 (.slice (some ⟨w.heap.size, 0, none⟩) 0 n) 0 []) : w1.ownsRow w.heap.size 32 6 (.slice (some ⟨w.heap.size, 0, none⟩) ([] : List Key).length n) ([] : List Key).length (flat []) := h
theorem keys_zero (s : Nat) (w : World) (hc : w.cell? ⟨s, 0, none⟩ = some (.map none)) :
    Calls Try.prog 12 #[.pointer (some ⟨s, 0, none⟩)] w (KeysPost [] w) := by
  obtain ⟨i0, hi, hz0, hz1, hz2⟩ := info_parts infoKey
  have hln := fun w ty => Maps.len_nil (P := Try.prog) (w := w) Try.underlying46 ty
  have hrn := fun w => run_range_nilMap (P := Try.prog) w _ _ _ Try.underlying46
  have hss := World.block_lt_of_cell? _ _ hc
  go_enter Try.func12, Try.ntmps12
  go_wp2_with (first
    | (at_make; refine wpList_make_own _ rfl _ _ 22 rfl w.heap.size 32 i0 (kv noKey) 6 Try.underlying22 hi hz0 hz1 .i64 .i64 _ 0 rfl rfl rfl (by rw [hz2]; omega) (by unfold maxLen; omega) (Nat.le_refl _) ?_; intro w1 hown1 hgrow1; have hc1 := (World.cell?_of_block (a := ⟨s, 0, none⟩) (hgrow1.block s hss (by simp))).trans hc))
  have hx := run_next_nilMap (P := Try.prog) w1
  have HO := Lib.hid (flat_own (hown1.alloc (.mapIter none 0 #[] 0)))
  have hbw := ((Below.refl _ _).grown hgrow1 (Nat.le_refl _) (by simp)).alloc hgrow1.size (.mapIter none 0 #[] 0)
  clear hown1 hgrow1 hc1 hc hln hrn hi hz0 hz1 hz2 hss
  have hso := sort_any w.heap.size 0 w.heap.size [] _ List.Pairwise.nil HO.out (by simp)
  simp only [List.length_nil] at hso
  have HSO := Lib.hid hso
  clear hso
  refine wp_loop_rounds 1 ?_
  rw [rounds_succ]
  go_wp2_with (go_at_call 21; ((with_reducible refine HSO.out.mono ?_); rintro e w3 ⟨rfl, l', hp, hs, hown3, hg3⟩))
  go_ret
  exact keys_end (left := fun _ => false) good_nil rfl hbw.size HO.out (by simp) hbw (fun _ => rfl) hp hs hown3 hg3

/-- Keys of whatever schema. -/
theorem keys_any (v : Value) (ks : List Key) (w : World) (hs : Sch w v ks) :
    Calls Try.prog 12 #[v] w (KeysPost ks w) := by
  obtain ⟨hg, h⟩ := hs
  rcases h with ⟨rfl, rfl⟩ | ⟨s, rfl, hc, rfl⟩ | ⟨s, b, rfl, hc, ho⟩
  · exact keys_none w
  · exact keys_zero s w hc
  · exact keys_map s b ks w hg hc ho
end Go.Proofs.Ytoienmcgcefdiaa
