
import Derived.Test.YteodfbkfpboehaaDCX
/- DDX: Take, Free, New of an arena of rubric/para.run -/
namespace Go.Proofs.Yteodfbkfpboehaa
open Go.RowKit
set_option linter.unusedVariables false

theorem pset_X (x : Ck) : Try.prog.built 143 [(0, .bool true), (1, .agg (K_X.c x).toArray)] = some (plT K_X (some x)).toArray := by
  obtain ⟨i, hi, hz, -, -⟩ := info_pl_X
  exact built_two _ i hi _ Try.underlying143 (.bool false) K_X.zc hz 2 (by kernel_rfl) K_X.lenZ true (K_X.c x) (K_X.len x)
section
variable {S : Nat → Prop} {ab st : Nat} {sv fv : Value} {ps : List (Option Ck)} {fr : List Nat}
set_option maxRecDepth 100000 in
set_option maxHeartbeats 1000000 in
theorem takeM_X (A : ArS Ck) (x : Ck) (w : World) (h : AtM K_X S ab st sv fv A.ps A.free w) (hl : A.ps.length ≤ 1000000) (hl2 : A.free.length ≤ 1000000) (hok : A.Ok) (hlt : ∀ k, S k → k < w.heap.size) :
    Calls Try.prog 81 #[.pointer (some ⟨ab, 0, none⟩), .agg (K_X.c x).toArray] w fun e w' => e = .returned (.int .i64 (A.fresh : Nat)) ∧ Off S w w' ∧
      ∃ sv' fv', AtM K_X (fun k => S k ∨ w.heap.size ≤ k) ab st sv' fv' (A.take x).ps (A.take x).free w' := by
  obtain ⟨cx, hcx⟩ : ∃ cx, (K_X.c x).toArray = cx := ⟨_, rfl⟩
  have HPS := Lib.hid (pset_X x)
  have HCS := Lib.hid (csize_X x)
  rw [hcx] at HPS HCS ⊢
  have hbA := (Below.refl w.heap.size w).alloc (Nat.le_refl _) (.cells cx 61)
  have hA := h.below hbA
  obtain ⟨c0, -, -⟩ := hA.cells
  have hn := next_any_X A x _ hA hl hl2 hok
  have HX := Lib.hid (heap_alloc_new w (.cells cx 61))
  have HO := Lib.hid hbA
  have HNS : Hid (¬ S w.heap.size) := Lib.hid (fun hh => by have := hlt _ hh; omega)
  obtain ⟨i, hi⟩ : ∃ i, A.fresh = i := ⟨_, rfl⟩
  rw [hi] at hn ⊢
  have HN := Lib.hid hn
  clear h hl hl2 hok hn hi hlt hbA hA
  go_enter Try.func81, Try.ntmps81
  go_wp2_with (go_at_call 86; refine HN.out.mono ?_; rintro e w1 ⟨rfl, hO, sv1, fv1, ps1, hM, hlt, hle, hno, hps⟩; refine Hid.out ?_)
  obtain ⟨g, cap, rfl, -, hcap⟩ := hM.form (by omega)
  have hM' := hM.below (below_drew w1)
  obtain ⟨d0, d1, -⟩ := hM'.cells
  have HX1 : Hid (w1.drew.heap[w.heap.size]? = some (.cells cx 61 (0, 0))) := Lib.hid ((hO.block w.heap.size (lt_of_heap HX.out) HNS.out).trans HX.out)
  have HT := Lib.hid (hM'.there hno)
  have k0 : (0 : Int) ≤ (i : Int) := by omega
  have k1 : (i : Int) < (ps1.length : Int) := by omega
  have M2 := Lib.hid (hM'.putA hlt (some x))
  have O2 := Lib.hid ((((Off.of_below HO.out).seq (hO.mono (S' := fun k => S k ∨ w.heap.size ≤ k) (fun k hk => .inl hk))).seq (Off.of_below (S := fun k => S k ∨ w.heap.size ≤ k) (below_drew w1))).seq (Off.of_grown (grown_sets g (plT K_X (some x)) (i * 3) w1.drew) (fun g' hg' => by
    cases hg'
    rcases hM.sSv _ rfl with hh | hh
    · exact .inl hh
    · have hh' : (w.alloc (.cells cx 61)).heap.size ≤ g := hh
      exact .inr (by have := HO.out.size; show w.heap.size ≤ g; omega))))
  have M2 : Hid (AtM K_X (fun k => S k ∨ w.heap.size ≤ k) ab st (.slice (some ⟨g, 0, none⟩) ps1.length cap) fv1 (ps1.set i (some x)) (A.take x).free (w1.drew.setCells g (i * 3) (plT K_X (some x)))) :=
    Lib.hid (M2.out.mono (fun k hk => by rcases hk with hk | hk; exact .inl hk; exact .inr (by have := HO.out.size; omega)))
  have HP := Lib.hid hps
  have hgx : g ≠ w.heap.size := fun e => by
    obtain ⟨cur, hc⟩ := own_tag hM'.hsv (g := g) rfl
    rw [e, HX1.out] at hc
    injection hc with hc
    injection hc with _ hc _
    exact absurd hc (by decide)
  have K3 := Lib.hid (show (w1.drew.setCells g (i * 3) (plT K_X (some x))).cell? ⟨ab, 0, none⟩ = some (.pointer (some ⟨st, 0, none⟩)) ∧ (w1.drew.setCells g (i * 3) (plT K_X (some x))).cell? ⟨st, 0, none⟩ = some (.slice (some ⟨g, 0, none⟩) ps1.length cap) ∧ (w1.drew.setCells g (i * 3) (plT K_X (some x))).heap[w.heap.size]? = some (.cells cx 61 (0, 0)) from
    ⟨M2.out.cells.1, M2.out.cells.2.1, ((grown_sets g (plT K_X (some x)) (i * 3) w1.drew).block _ (lt_of_heap HX1.out) (fun e => hgx (by injection e with e; exact e.symm))).trans HX1.out⟩)
  obtain ⟨PX, hPX⟩ : ∃ PX, plT K_X (some x) = PX := ⟨_, rfl⟩
  have HL : Hid (PX.toArray.size = 3) := Lib.hid (by rw [List.size_toArray, ← hPX]; exact plT_len K_X (some x))
  have H1 : Hid (PX.toArray.all (·.oneCell') = true) := Lib.hid (by rw [← hPX]; exact all_oneCell_toArray (plT_one K_X (some x)))
  have HT : Hid (w1.drew.there g (i * 3) PX.toArray.size) := Lib.hid (by rw [HL.out]; exact HT.out)
  rw [hPX] at HPS M2 O2 K3
  clear hM hM' hO hps hno HN hcx hPX hle hcap
  refine Lib.hid ?_
  refine Hid.out ?_
  refine Lib.hid ?_
  go_wp2_with fail
  refine h_start (S := fun W => W.cell? ⟨ab, 0, none⟩ = some (.pointer (some ⟨st, 0, none⟩)) ∧ W.cell? ⟨st, 0, none⟩ = some (.slice (some ⟨g, 0, none⟩) ps1.length cap) ∧ W.heap[w.heap.size]? = some (.cells cx 61 (0, 0))) (by kernel_rfl) ?_
  have K0 := Lib.hid (show w1.drew.cell? ⟨ab, 0, none⟩ = some (.pointer (some ⟨st, 0, none⟩)) ∧ w1.drew.cell? ⟨st, 0, none⟩ = some (.slice (some ⟨g, 0, none⟩) ps1.length cap) ∧ w1.drew.heap[w.heap.size]? = some (.cells cx 61 (0, 0)) from ⟨d0, d1, HX1.out⟩)
  refine h_val (i := 0) (v := .pointer (some ⟨ab, 0, none⟩)) rfl (by kernel_rfl) (by kernel_rfl) (by kernel_rfl) (fun _ _ _ h => h) (by rfl) (fun w hS => ?_) K0.out ?_
  · obtain ⟨q0, q1, q2⟩ := hS
    go_simp
  go_frame
  refine h_val (i := 1) (v := .pointer (some ⟨ab, 0, none⟩)) rfl (by kernel_rfl) (by kernel_rfl) (by kernel_rfl) (fun _ _ _ h => h) (by rfl) (fun w hS => ?_) K0.out ?_
  · obtain ⟨q0, q1, q2⟩ := hS
    go_simp
  go_frame
  refine h_val (i := 2) (v := .pointer (some ⟨ab, 0, none⟩)) rfl (by kernel_rfl) (by kernel_rfl) (by kernel_rfl) (fun _ _ _ h => h) (by rfl) (fun w hS => ?_) K0.out ?_
  · obtain ⟨q0, q1, q2⟩ := hS
    go_simp
  go_frame
  refine h_val (i := 3) (v := .pointer (some ⟨st, 0, none⟩)) rfl (by kernel_rfl) (by kernel_rfl) (by kernel_rfl) (fun _ _ _ h => h) (by rfl) (fun w hS => ?_) K0.out ?_
  · obtain ⟨q0, q1, q2⟩ := hS
    go_simp
  go_frame
  refine h_val (i := 4) (v := .pointer (some ⟨st, 0, none⟩)) rfl (by kernel_rfl) (by kernel_rfl) (by kernel_rfl) (fun _ _ _ h => h) (by rfl) (fun w hS => ?_) K0.out ?_
  · obtain ⟨q0, q1, q2⟩ := hS
    go_simp
  go_frame
  refine h_val (i := 5) (v := .pointer (some ⟨st, 0, none⟩)) rfl (by kernel_rfl) (by kernel_rfl) (by kernel_rfl) (fun _ _ _ h => h) (by rfl) (fun w hS => ?_) K0.out ?_
  · obtain ⟨q0, q1, q2⟩ := hS
    go_simp
  go_frame
  refine h_val (i := 6) (v := .slice (some ⟨g, 0, none⟩) ps1.length cap) rfl (by kernel_rfl) (by kernel_rfl) (by kernel_rfl) (fun _ _ _ h => h) (by rfl) (fun w hS => ?_) K0.out ?_
  · obtain ⟨q0, q1, q2⟩ := hS
    go_simp
  go_frame
  refine h_val (i := 7) (v := .int .i64 (i : Nat)) rfl (by kernel_rfl) (by kernel_rfl) (by kernel_rfl) (fun _ _ _ h => h) (by rfl) (fun w hS => ?_) K0.out ?_
  · obtain ⟨q0, q1, q2⟩ := hS
    go_simp
  go_frame
  refine h_val (i := 8) (v := .agg cx) rfl (by kernel_rfl) (by kernel_rfl) (by kernel_rfl) (fun _ _ _ h => h) (by rfl) (fun w hS => ?_) K0.out ?_
  · obtain ⟨q0, q1, q2⟩ := hS
    exact x_load 61 (.tmp 3) rfl _ rfl _ _ _ _ q2 Try.underlying61 rfl (ainfo_X _ HCS.out)
  go_frame
  refine h_val (i := 9) (v := .agg PX.toArray) rfl (by kernel_rfl) (by kernel_rfl) (by kernel_rfl) (fun _ _ _ h => h) (by rfl) (fun w hS => ?_) K0.out ?_
  · obtain ⟨q0, q1, q2⟩ := hS
    exact x_buildL 143 _ rfl [(0, .bool true), (1, .agg cx)] rfl PX.toArray HPS.out
  go_frame
  refine h_val (i := 10) (v := .pointer (some ⟨g, i * 3, none⟩)) rfl (by kernel_rfl) (by kernel_rfl) (by kernel_rfl) (fun _ _ _ h => h) (by rfl) (fun w hS => ?_) K0.out ?_
  · obtain ⟨q0, q1, q2⟩ := hS
    go_simp
  go_frame
  refine h_step (i := 11) rfl (by kernel_rfl) (by rfl) (fun K hK => ?_)
  refine wp_store_mid 143 (.tmp 33) (.tmp 32) rfl g (i * 3) PX.toArray rfl rfl HT.out (pinfo_X _ HL.out) H1.out ?_
  refine hK _ _ K3.out ?_
  go_frame
  refine h_done (by kernel_rfl) ?_
  go_wp2
  go_ret
  exact ⟨rfl, O2.out.cut, _, _, by rw [← HP.out]; exact M2.out⟩

set_option maxRecDepth 100000 in
set_option maxHeartbeats 2000000 in
theorem freeM_X (w : World) {g cap k : Nat} {x : Ck} (h : AtM K_X S ab st (.slice (some ⟨g, 0, none⟩) ps.length cap) fv ps fr w) (hk : ps[k]? = some (some x)) (hl : ps.length ≤ 1000000) (hl2 : fr.length ≤ 1000000) :
    Calls Try.prog 66 #[.pointer (some ⟨ab, 0, none⟩), .int .i64 (k : Nat)] w fun e w' => e = .returned (.int .i64 0) ∧ Off S w w' ∧
      ∃ fv', AtM K_X (fun k => S k ∨ w.heap.size ≤ k) ab st (.slice (some ⟨g, 0, none⟩) ps.length cap) fv' (ps.set k none) (fr ++ [k]) w' := by
  obtain ⟨i0, hi, hz0, hz1, hz2⟩ := info_in_X
  have HF := Lib.hid (find_yes_X w h hk)
  have hlt := (List.getElem?_eq_some_iff.1 hk).1
  obtain ⟨PZ, hPZ⟩ : ∃ PZ, plT K_X none = PZ := ⟨_, rfl⟩
  have HPB := Lib.hid pbuilt_X
  have HL : Hid (PZ.toArray.size = 3) := Lib.hid (by rw [List.size_toArray, ← hPZ]; exact plT_len K_X none)
  have H1 : Hid (PZ.toArray.all (·.oneCell') = true) := Lib.hid (by rw [← hPZ]; exact all_oneCell_toArray (plT_one K_X none))
  have HT : Hid (w.there g (k * 3) PZ.toArray.size) := Lib.hid (by rw [HL.out]; exact h.there hk)
  have hM2 : AtM K_X (fun k => S k ∨ w.heap.size ≤ k) ab st (.slice (some ⟨g, 0, none⟩) ps.length cap) fv (ps.set k none) fr (w.setCells g (k * 3) (plT K_X none)) := (h.putA hlt none).mono (S' := fun k => S k ∨ w.heap.size ≤ k) (fun k hk => .inl hk)
  have O2 := Lib.hid (Off.of_grown (S := fun k => S k ∨ w.heap.size ≤ k) (grown_sets g (plT K_X none) (k * 3) w) (fun g' hg' => by cases hg'; exact .inl (h.sSv _ rfl)))
  rw [hPZ] at hM2 O2 HPB
  obtain ⟨fa, fc, rfl, -, -⟩ := own_shape h.hfv
  clear h hk hPZ
  go_enter Try.func66, Try.ntmps66
  go_wp2_with (first
    | (go_at_call 83; refine HF.out.mono ?_; rintro e w1 ⟨rfl, rfl⟩)
    | (refine wpList_buildL rfl 143 _ rfl _ rfl [] rfl PZ.toArray HPB.out ?_)
    | (refine wpList_store_mid rfl 143 (.tmp 18) (.tmp 17) rfl g (k * 3) PZ.toArray rfl rfl HT.out (pinfo_X _ HL.out) H1.out ?_))
  have eL : PZ.toArray.toList = PZ := rfl
  try rw [eL]
  generalize w1.setCells g (k * 3) PZ = W at *
  have hbA : Below W.heap.size W (W.alloc (.cells #[.int .i64 (k : Nat)] 3)).drew := ((Below.refl _ _).alloc (Nat.le_refl _) _).drew
  obtain ⟨c0, -, c1⟩ := (hM2.below (Below.refl _ W).drew).cells
  obtain ⟨c2, -, c3⟩ := (hM2.below hbA).cells
  have M3 := Lib.hid (hM2.below hbA)
  have O3 := Lib.hid (O2.out.seq (Off.of_below hbA))
  have HW := Lib.hid (fun (w4 : World) (hG : (W.alloc (.cells #[.int .i64 (k : Nat)] 3)).drew.grownBy w4 (Value.slice fa fr.length fc).ownBlock) => (show w4.cell? ⟨ab, 0, none⟩ = some (.pointer (some ⟨st, 0, none⟩)) ∧ w4.cell? ⟨st, 1, none⟩ = some (.slice fa fr.length fc) ∧ w4.frozen? ⟨st, 1, none⟩ = false from by
    have hst4 := far hG (hM2.below hbA).hst (fun g' hg' => by
      obtain ⟨cur, hc⟩ := own_tag (hM2.below hbA).hfv hg'
      exact ⟨_, hc, fun e => by injection e with _ e _; exact K_X.nSI e.symm⟩)
    have hab4 := far hG (hM2.below hbA).hab (fun g' hg' => by
      obtain ⟨cur, hc⟩ := own_tag (hM2.below hbA).hfv hg'
      exact ⟨_, hc, fun e => by injection e with _ e _; exact K_X.nAI e.symm⟩)
    exact ⟨by rw [cell_of_row w4 ab 0 _ _ _ hab4]; rfl, by rw [cell_of_row w4 st 1 _ _ _ hst4]; rfl, by simp [World.frozen?, hst4]⟩))
  have HSZ := Lib.hid (show w1.heap.size ≤ W.heap.size from O2.out.size)
  have FIN := Lib.hid (fun (g4 cap4 : Nat) (w4 : World) (ho : w4.ownsRow 0 3 1 (.slice (some ⟨g4, 0, none⟩) (fr.length + 1) cap4) (fr.length + 1) (fr.map (fun i => Value.int .i64 (i : Nat)) ++ [.int .i64 (k : Nat)])) (hG : (W.alloc (.cells #[.int .i64 (k : Nat)] 3)).drew.grownBy w4 (Value.slice fa fr.length fc).ownBlock) (ha : (Value.slice fa fr.length fc).ownBlock = some g4 ∨ g4 = W.heap.size + 1) => (show Off S w1 (w4.setCell ⟨st, 1, none⟩ (.slice (some ⟨g4, 0, none⟩) (fr.length + 1) cap4)) ∧ ∃ fv', AtM K_X (fun k => S k ∨ w1.heap.size ≤ k) ab st (.slice (some ⟨g, 0, none⟩) ps.length cap) fv' (ps.set k none) (fr ++ [k]) (w4.setCell ⟨st, 1, none⟩ (.slice (some ⟨g4, 0, none⟩) (fr.length + 1) cap4)) from by
    have e4 : (fr ++ [k]).map (fun i => Value.int .i64 (i : Nat)) = fr.map (fun i => Value.int .i64 (i : Nat)) ++ [.int .i64 (k : Nat)] := by simp
    have l4 : (fr ++ [k]).length = fr.length + 1 := by simp
    rw [← e4, ← l4] at ho
    rw [l4] at ho
    have ho' : w4.ownsRow 0 3 1 (.slice (some ⟨g4, 0, none⟩) (fr.length + 1) cap4) (fr ++ [k]).length ((fr ++ [k]).map fun i => Value.int .i64 (i : Nat)) := by rw [l4]; exact ho
    refine ⟨((O3.out.seq (Off.of_grown hG (fun g' hg' => M3.out.sFv g' hg'))).seq (Off.of_grown (grown_set (w := w4) (g := st) (o := 1) _) (fun g' hg' => by cases hg'; exact M3.out.sSt))).cut, _, M3.out.refree hG ho' (fun g' hg' => ?_)⟩
    cases hg'
    rcases ha with e | e
    · exact M3.out.sFv _ e
    · right; have := HSZ.out; show w1.heap.size ≤ g4; omega))
  clear hM2 hbA O2 hlt HF HL H1 HT HPB
  go_region_law
    ((refine step_append_lies _ (by rfl) (.tmp 29) (.tmp 31) 132 (by rfl) 0 3 i0 (.int .i64 0) 1 8 Try.underlying132 hi hz0 hz1 hz2 (by rfl) (by decide) (.slice fa fr.length fc) fr.length (fr.map fun i => Value.int .i64 (i : Nat)) (by rfl) M3.out.hfv ⟨W.heap.size, 0, none⟩ 1 1 [.int .i64 (k : Nat)] (by rfl) (by rfl) (World.news_of_block (heap_alloc_new _ _)) (by simp [Value.oneCell']) (by decide) (by unfold maxLen; omega) (by omega) (by simp) _ rfl ?_; intro g4 cap4 w4 hown4 hgrow4 hat4 hlt4; obtain ⟨q0, q1, q2⟩ := HW.out w4 hgrow4))
  all_goals (go_wp2; go_ret; refine ⟨rfl, ?_⟩; exact FIN.out g4 cap4 w4 hown4 hgrow4 (by simpa using hat4))

theorem free_no_X (A : ArS Ck) (i : Int) (w : World) (h : AtM K_X S ab st sv fv A.ps fr w) (hh : A.has i = false) :
    Calls Try.prog 66 #[.pointer (some ⟨ab, 0, none⟩), .int .i64 i] w fun e w' => e = .returned (.int .i64 5) ∧ w' = w := by
  have HF := Lib.hid (find_no_X A i w h hh)
  clear h hh
  go_enter Try.func66, Try.ntmps66
  go_wp2_with (go_at_call 83; refine HF.out.mono ?_; rintro e w1 ⟨rfl, rfl⟩)
  go_ret
  exact ⟨rfl, rfl⟩

/-- An arena at block ab, in blocks of S. -/
def At_X (S : Nat → Prop) (ab : Nat) (A : ArS Ck) (w : World) : Prop := (∃ st sv fv, AtM K_X S ab st sv fv A.ps A.free w) ∧ A.Ok ∧ A.ps.length ≤ 1000000
variable {A : ArS Ck} {w w' : World}
theorem At_X.kept (h : At_X S ab A w) (hk : ∀ k, k < w.heap.size → S k → w'.heap[k]? = w.heap[k]?) : At_X S ab A w' := by
  obtain ⟨⟨st, sv, fv, h⟩, h2, h3⟩ := h
  exact ⟨⟨st, sv, fv, h.kept hk⟩, h2, h3⟩
theorem At_X.below (h : At_X S ab A w) (hb : Below w.heap.size w w') : At_X S ab A w' := h.kept (fun k hk _ => hb.block k hk)
theorem At_X.off {U : Nat → Prop} (h : At_X S ab A w) (ho : Off U w w') (hd : ∀ k, S k → ¬ U k) : At_X S ab A w' := h.kept (fun k hk hS => ho.block k hk (hd k hS))
theorem At_X.mono (h : At_X S ab A w) {S' : Nat → Prop} (hS : ∀ k, S k → S' k) : At_X S' ab A w := by
  obtain ⟨⟨st, sv, fv, h⟩, h2, h3⟩ := h
  exact ⟨⟨st, sv, fv, h.mono hS⟩, h2, h3⟩
theorem At_X.cutS (h : At_X S ab A w) : At_X (fun k => S k ∧ k < w.heap.size) ab A w := by
  obtain ⟨⟨st, sv, fv, h⟩, h2, h3⟩ := h
  exact ⟨⟨st, sv, fv, h.cutS⟩, h2, h3⟩
theorem At_X.ok (h : At_X S ab A w) : A.Ok := h.2.1
theorem At_X.lt (h : At_X S ab A w) : ab < w.heap.size := by obtain ⟨⟨st, sv, fv, h⟩, h2, h3⟩ := h; exact lt_of_heap h.hab
theorem At_X.mem (h : At_X S ab A w) : S ab := by obtain ⟨⟨st, sv, fv, h⟩, h2, h3⟩ := h; exact h.sA
theorem free_len_X (h : A.Ok) (h3 : A.ps.length ≤ 1000000) : A.free.length ≤ 1000000 := by have := h.cnt; omega
/-- Take. -/
theorem take_X (x : Ck) (h : At_X S ab A w) (hn : cnt A.ps < 1000000) (hlt : ∀ k, S k → k < w.heap.size) :
    Calls Try.prog 81 #[.pointer (some ⟨ab, 0, none⟩), .agg (K_X.c x).toArray] w fun e w' => e = .returned (.int .i64 (A.fresh : Nat)) ∧ At_X (fun k => S k ∨ w.heap.size ≤ k) ab (A.take x) w' ∧ Off S w w' := by
  obtain ⟨⟨st, sv, fv, h⟩, h2, h3⟩ := h
  refine (takeM_X A x w h h3 (free_len_X h2 h3) h2 hlt).mono fun e w' ⟨q1, q2, sv', fv', q3⟩ => ⟨q1, ⟨⟨_, _, _, q3⟩, ok_take h2 x, ?_⟩, q2⟩
  have hc := h2.cnt
  unfold ArS.take
  cases hf : A.free.getLast? with
  | some i => simpa using h3
  | none =>
    have e : A.free = [] := by simpa using hf
    rw [e] at hc
    simp at hc ⊢
    omega
theorem free_yes_X {k : Nat} {x : Ck} (h : At_X S ab A w) (hx : A.at_ k = some x) :
    Calls Try.prog 66 #[.pointer (some ⟨ab, 0, none⟩), .int .i64 (k : Nat)] w fun e w' => e = .returned (.int .i64 0) ∧ At_X (fun k => S k ∨ w.heap.size ≤ k) ab (A.out k) w' ∧ Off S w w' := by
  obtain ⟨⟨st, sv, fv, h⟩, h2, h3⟩ := h
  have hlt := at_lt hx
  obtain ⟨g, cap, rfl, -, -⟩ := h.form (by omega)
  refine (freeM_X w h (by rw [at_get hlt, hx]) h3 (free_len_X h2 h3)).mono fun e w' ⟨q1, q2, fv', q3⟩ => ⟨q1, ⟨⟨st, .slice (some ⟨g, 0, none⟩) A.ps.length cap, fv', ?_⟩, ok_out h2 hx, ?_⟩, q2⟩
  · exact q3
  · show (A.ps.set k none).length ≤ _
    rw [List.length_set]; exact h3
theorem free_not_X {i : Int} (h : At_X S ab A w) (hx : A.has i = false) :
    Calls Try.prog 66 #[.pointer (some ⟨ab, 0, none⟩), .int .i64 i] w fun e w' => e = .returned (.int .i64 5) ∧ w' = w := by
  obtain ⟨⟨st, sv, fv, h⟩, h2, h3⟩ := h
  exact free_no_X A i w h hx
theorem ats_X {k : Nat} {x : Ck} (h : At_X S ab A w) (hx : A.at_ k = some x) :
    Calls Try.prog 79 #[.pointer (some ⟨ab, 0, none⟩), .int .i64 (k : Nat)] w fun e w' => e = .returned (.tuple #[.agg (K_X.c x).toArray, .int .i64 0]) ∧ Below w.heap.size w w' := by
  obtain ⟨⟨st, sv, fv, h⟩, h2, h3⟩ := h
  have hlt := at_lt hx
  obtain ⟨g, cap, rfl, -, -⟩ := h.form (by omega)
  exact at_yes_X w h (by rw [at_get hlt, hx])
theorem at_not_X {i : Int} (h : At_X S ab A w) (hx : A.has i = false) :
    Calls Try.prog 79 #[.pointer (some ⟨ab, 0, none⟩), .int .i64 i] w fun e w' => e = .returned (.tuple #[.agg K_X.zc.toArray, .int .i64 5]) ∧ Below w.heap.size w w' := by
  obtain ⟨⟨st, sv, fv, h⟩, h2, h3⟩ := h
  exact at_no_X A i w h hx
theorem new_X (w : World) :
    Calls Try.prog 76 #[] w fun e w' => ∃ ab, e = .returned (.pointer (some ⟨ab, 0, none⟩)) ∧ At_X (fun k => w.heap.size ≤ k ∧ k < w'.heap.size) ab newA w' ∧ Below w.heap.size w w' ∧ w'.heap.size = w.heap.size + 2 := by
  have hb1 := (Below.refl w.heap.size w).alloc (Nat.le_refl _) (.cells #[.slice none 0 0, .slice none 0 0] 146)
  have hb2 := hb1.alloc (by simp) (.cells #[.pointer (some ⟨w.heap.size, 0, none⟩)] 149)
  have h1 : ((w.alloc (.cells #[.slice none 0 0, .slice none 0 0] 146)).alloc (.cells #[.pointer (some ⟨w.heap.size, 0, none⟩)] 149)).heap[w.heap.size]? = some (.cells #[.slice none 0 0, .slice none 0 0] 146) := by
    rw [Below.heap_alloc _ _ _ (by simp)]; exact heap_alloc_new w _
  have h2 : ((w.alloc (.cells #[.slice none 0 0, .slice none 0 0] 146)).alloc (.cells #[.pointer (some ⟨w.heap.size, 0, none⟩)] 149)).heap[w.heap.size + 1]? = some (.cells #[.pointer (some ⟨w.heap.size, 0, none⟩)] 149) := by
    have := heap_alloc_new (w.alloc (.cells #[.slice none 0 0, .slice none 0 0] 146)) (.cells #[.pointer (some ⟨w.heap.size, 0, none⟩)] 149)
    simpa using this
  have HA := Lib.hid (show At_X (fun k => w.heap.size ≤ k) (w.heap.size + 1) newA _ from ⟨⟨w.heap.size, .slice none 0 0, .slice none 0 0, ⟨h2, h1, own_nil _ _ _ _, own_nil _ _ _ _, Nat.le_succ _, Nat.le_refl _, fun g hg => by simp [Value.ownBlock] at hg, fun g hg => by simp [Value.ownBlock] at hg⟩⟩, ok_newA, by simp [newA]⟩)
  have HB := Lib.hid hb2
  clear h1 h2 hb1 hb2
  go_enter Try.func76, Try.ntmps76
  go_wp2
  go_ret
  exact ⟨_, rfl, HA.out.cutS, HB.out, by simp⟩
end
end Go.Proofs.Yteodfbkfpboehaa
