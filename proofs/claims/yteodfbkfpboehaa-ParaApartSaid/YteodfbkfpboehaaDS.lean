
import Derived.Test.YteodfbkfpboehaaDR
/- DS: things in a row; how long all is; a part put in the place of another one -/
namespace Go.Proofs.Yteodfbkfpboehaa
open Go.RowKit
set_option linter.unusedVariables false
set_option maxRecDepth 100000

def CkC : Cel Ck := ⟨Ck.c, 2, K_X.len, ck_one, by decide⟩
theorem pr_l (x : Ck) : Pr x.l := by
  by_cases h : x.n = 0
  · unfold Ck.l; rw [if_pos h]; exact trivial
  · unfold Ck.l; rw [if_neg h]; exact pr_one (by omega)
theorem wt_l (x : Ck) : Wc.wt x.l ≤ Wc.wt [x] := by
  by_cases h : x.n = 0
  · unfold Ck.l; rw [if_pos h, Way.wt_nil]; exact Nat.zero_le _
  · unfold Ck.l; rw [if_neg h]; exact Nat.le_refl _
theorem Sq.weak2 {Q Q' : Nat} {D : Sv → Prop} {S : Nat → Prop} {tb : Nat} {root : Int} {F : List TC} {w : World} (h : Sq D Q S tb root F w) (hq : Q ≤ Q') : Sq D Q' S tb root F w := ⟨h.1, Nat.le_trans h.2 hq⟩
section
variable {Q : Nat} {D : Sv → Prop} {S : Nat → Prop} {tb : Nat} {root : Int} {F : List TC} {w w' W : World}
/-- A slice that reads so whatever happens within S. -/
def RowK (S : Nat → Prop) (w : World) (v : Value) (xs : List Ck) : Prop := ∀ W, Off S w W → Row CkC W v xs
theorem RowK.off {v : Value} {xs : List Ck} (h : RowK S w v xs) (ho : Off S w w') : RowK S w' v xs := fun W hW => h W (ho.seq hW)
theorem RowK.row {v : Value} {xs : List Ck} (h : RowK S w v xs) : Row CkC w v xs := h w (Off.refl _ _)
theorem RowK.head {b off cap n : Nat} {xs : List Ck} (h : RowK S w (.slice (some ⟨b, off, none⟩) n cap) xs) {m : Nat} (hm : m ≤ xs.length) : RowK S w (.slice (some ⟨b, off, none⟩) m cap) (xs.take m) := fun W hW => (h W hW).head hm
theorem RowK.tail {b off cap n : Nat} {xs : List Ck} (h : RowK S w (.slice (some ⟨b, off, none⟩) n cap) xs) {m : Nat} (hm : m ≤ xs.length) (hc : ¬ cap = m) : RowK S w (.slice (some ⟨b, off + m * 2, none⟩) (xs.length - m) (cap - m)) (xs.drop m) := fun W hW => by
  have := ((h W hW).tail hm).2 hc
  simpa [Go.WideShapes.add_plain, CkC] using this
@[reducible] def RowQ (D : Sv → Prop) (tb : Nat) (root : Int) (xs : List Ck) : Prop := ∀ (Q : Nat) (S : Nat → Prop) (F : List TC) (w : World) (v : Value), Sq D Q S tb root F w → Up S w → RowK S w v xs → Q + Wc.wt xs ≤ 1500000000 → (∀ x ∈ xs, D x.d) →
    Calls Try.prog 46 #[.pointer (some ⟨tb, 0, none⟩), v] w fun e w' => ∃ T : TC, e = .returned (.int .i64 T.id) ∧ flat (T.el Wc) = flat xs ∧ Pr (T.el Wc) ∧ Sq D (Q + Wc.wt xs) S tb root (T :: F) w' ∧ Off S w w'
theorem row_nil : RowQ D tb root [] := by
  intro Q S F w v h hup hr hQ hdx
  have H := Lib.hid h
  obtain ⟨a, cap, rfl⟩ := hr.row.shape
  clear h hup hr hQ
  go_enter Try.func46, Try.ntmps46
  go_wp2
  go_ret
  exact ⟨.nil, rfl, rfl, trivial, ⟨H.out.1.nil, by have := H.out.2; rw [tot_cons]; simp only [Tr.el, Way.wt_nil]; omega⟩, Off.refl _ _⟩
theorem row_one1 (x : Ck) : RowQ D tb root [x] := by
  intro Q S F w v h hup hr hQ hdx
  obtain ⟨a, cap, hv⟩ := hr.row.shape
  have hr0 := hr.row
  rw [hv] at hr0
  obtain ⟨b, off, ha, -, -, -, -, hat, -⟩ := hr0.opened (by simp)
  subst hv ha
  have HRG : Hid (w.rangeAt b off (K_X.c x)) := Lib.hid (fun j u hj => by
    have := hat 0 (by simp) j u (by simpa [CkC, K_X] using hj)
    simpa using this)
  have HL := Lib.hid (leaf_q x h hup (by omega) (hdx x (by simp)))
  have HS := Lib.hid (sinfo_X (K_X.c x) (K_X.len x))
  unfold cvs at HL
  rw [show krow x = (K_X.c x).toArray from rfl] at HL
  clear h hup hr hQ hr0 hat
  go_enter Try.func46, Try.ntmps46
  go_wp2_with (first
    | (refine wpList_load_midw (by rfl) 61 (.tmp 14) rfl b off rfl (K_X.c x) _ HRG.out Try.underlying61 rfl HS.out ?_)
    | (go_at_call 61; refine HL.out.mono ?_; rintro e w1 ⟨L, rfl, el, ss, oo⟩; have EL := Lib.hid el; have SS := Lib.hid ss; have OO := Lib.hid oo; clear el ss oo))
  go_ret
  exact ⟨L, rfl, by rw [EL.out, flat_l, flat_cons, flat_nil, List.append_nil], by rw [EL.out]; exact pr_l x, SS.out.weak2 (Nat.add_le_add_left (wt_l x) _), OO.out⟩
set_option maxHeartbeats 2000000 in
theorem row_more (xs : List Ck) (m : Nat) (hm : xs.length / 2 = m) (hm2 : 2 ≤ xs.length) (i1 : RowQ D tb root (xs.take m)) (i2 : RowQ D tb root (xs.drop m)) : RowQ D tb root xs := by
  intro Q S F w v h hup hr hQ hdx
  obtain ⟨a, cap, hv⟩ := hr.row.shape
  have hr0 := hr.row
  rw [hv] at hr0
  obtain ⟨b, off, ha, -, hcap, -, -, -, -⟩ := hr0.opened (by omega)
  subst hv ha
  have hmx : m < xs.length := by omega
  have HR1 := Lib.hid (hr.head (m := m) (by omega))
  have HR2 := Lib.hid (hr.tail (m := m) (by omega) (by omega))
  have HFL : Hid (Wc.wt xs = Wc.wt (xs.take m) + Wc.wt (xs.drop m) ∧ flat xs = flat (xs.take m) ++ flat (xs.drop m)) := by
    have : flat xs = flat (xs.take m) ++ flat (xs.drop m) := by rw [← flat_app, List.take_append_drop]
    exact Lib.hid ⟨by rw [← Way.wt_app, List.take_append_drop], this⟩
  have HD1 := Lib.hid (fun y hy => hdx y (List.mem_of_mem_take (i := m) hy))
  have HD2 := Lib.hid (fun y hy => hdx y (List.mem_of_mem_drop (i := m) hy))
  clear hdx
  have I1 := Lib.hid i1
  have I2 := Lib.hid i2
  have HQ := Lib.hid hQ
  have S0 := Lib.hid h
  have P0 := Lib.hid (hup.below (below_drew (B := 0) w))
  have hq1 : ((xs.length : Nat) : Int) / 2 = (m : Nat) := by omega
  have hlen := hr0.len
  obtain ⟨n, hn⟩ : ∃ n, xs.length = n := ⟨_, rfl⟩
  have e0 : (((n : Nat) : Int) == 0) = false := by rw [beq_eq_false_iff_ne]; omega
  have e1 : (((n : Nat) : Int) == 1) = false := by rw [beq_eq_false_iff_ne]; omega
  have e0' : (n == 0) = false := by rw [beq_eq_false_iff_ne]; omega
  have e1' : (n == 1) = false := by rw [beq_eq_false_iff_ne]; omega
  have hwq : wrap64 (((n : Nat) : Int) / 2) = ((m : Nat) : Int) := by rw [← hn, hq1]; unfold wrap64; omega
  rw [hn] at HR2 ⊢
  have g0 : (0 : Int) ≤ ((m : Nat) : Int) := by omega
  have g1 : ((m : Nat) : Int) ≤ ((n : Nat) : Int) := by omega
  have g2 : ((m : Nat) : Int) ≤ ((cap : Nat) : Int) := by omega
  have g3 : ¬ cap = m := by omega
  have S1 := Lib.hid (S0.out.below (below_drew w))
  have R1 := Lib.hid (HR1.out.off (Off.of_below (below_drew w)))
  have R2 := Lib.hid (HR2.out.off (Off.of_below (below_drew w)))
  clear h hup hr hQ hr0 i1 i2 hm hm2 hn HR1 HR2
  go_enter Try.func46, Try.ntmps46
  go_upto_region 7 with fail
  have K_0 := Lib.hid (show w.drew = w.drew from rfl)
  refine h_start (S := fun _ => True) (by kernel_rfl) ?_
  refine h_val (i := 0) (v := .pointer (some ⟨tb, 0, none⟩)) rfl (by kernel_rfl) (by kernel_rfl) (by kernel_rfl) (fun _ _ _ h => h) (by rfl) (fun wz hS => ?_) trivial ?_
  · skip
    go_simp
  go_frame
  refine h_val (i := 1) (v := .pointer (some ⟨tb, 0, none⟩)) rfl (by kernel_rfl) (by kernel_rfl) (by kernel_rfl) (fun _ _ _ h => h) (by rfl) (fun wz hS => ?_) trivial ?_
  · skip
    go_simp
  go_frame
  refine h_val (i := 2) (v := .slice (some ⟨b, off, none⟩) n cap) rfl (by kernel_rfl) (by kernel_rfl) (by kernel_rfl) (fun _ _ _ h => h) (by rfl) (fun wz hS => ?_) trivial ?_
  · skip
    go_simp
  go_frame
  refine h_val (i := 3) (v := .int .i64 (m : Nat)) rfl (by kernel_rfl) (by kernel_rfl) (by kernel_rfl) (fun _ _ _ h => h) (by rfl) (fun wz hS => ?_) trivial ?_
  · skip
    go_simp
  go_frame
  refine h_val (i := 4) (v := .slice (some ⟨b, off, none⟩) m cap) rfl (by kernel_rfl) (by kernel_rfl) (by kernel_rfl) (fun _ _ _ h => h) (by rfl) (fun wz hS => ?_) trivial ?_
  · skip
    go_simp
  go_frame
  refine h_val (i := 6) (v := .pointer (some ⟨tb, 0, none⟩)) rfl (by kernel_rfl) (by kernel_rfl) (by kernel_rfl) (fun _ _ _ h => h) (by rfl) (fun wz hS => ?_) trivial ?_
  · skip
    go_simp
  go_frame
  refine h_val (i := 7) (v := .slice (some ⟨b, off, none⟩) n cap) rfl (by kernel_rfl) (by kernel_rfl) (by kernel_rfl) (fun _ _ _ h => h) (by rfl) (fun wz hS => ?_) trivial ?_
  · skip
    go_simp
  go_frame
  refine h_val (i := 8) (v := .int .i64 (m : Nat)) rfl (by kernel_rfl) (by kernel_rfl) (by kernel_rfl) (fun _ _ _ h => h) (by rfl) (fun wz hS => ?_) trivial ?_
  · skip
    go_simp
  go_frame
  refine h_val (i := 9) (v := .slice (some ⟨b, off + m * 2, none⟩) (n - m) (cap - m)) rfl (by kernel_rfl) (by kernel_rfl) (by kernel_rfl) (fun _ _ _ h => h) (by rfl) (fun wz hS => ?_) trivial ?_
  · skip
    go_simp
  go_frame
  refine h_all1 (i := 5) (by kernel_rfl) ?_
  refine o_call (f := 46) (args := #[.pointer (some ⟨tb, 0, none⟩), .slice (some ⟨b, off, none⟩) m cap]) rfl (by rfl) (by go_simp) ?_
  refine (I1.out Q S F _ _ S1.out P0.out R1.out (by have := HQ.out; have := HFL.out.1; omega) HD1.out).mono ?_
  rintro e v1 ⟨T1, rfl, e1x, p1x, ss, oo⟩
  have S2 := Lib.hid ss
  have O2 := Lib.hid (Off.below_l (below_drew w) oo)
  have P2 := Lib.hid (P0.out.off oo)
  have R3 := Lib.hid (R2.out.off oo)
  have E1 := Lib.hid e1x
  have PR1 := Lib.hid p1x
  clear ss oo e1x p1x
  have K_1 := Lib.hid (show v1 = v1 from rfl)
  refine ⟨_, rfl, trivial, ?_⟩
  go_frame
  refine h_all1 (i := 10) (by kernel_rfl) ?_
  refine o_call (f := 46) (args := #[.pointer (some ⟨tb, 0, none⟩), .slice (some ⟨b, off + m * 2, none⟩) (n - m) (cap - m)]) rfl (by rfl) (by go_simp) ?_
  refine (I2.out _ S (T1 :: F) _ _ S2.out P2.out R3.out (by have := HQ.out; have := HFL.out.1; omega) HD2.out).mono ?_
  rintro e v2 ⟨T2, rfl, e2x, p2x, ss, oo⟩
  have S3 := Lib.hid ss
  have O3 := Lib.hid (O2.out.seq oo)
  have P3 := Lib.hid (P2.out.off oo)
  have E2 := Lib.hid e2x
  have PR2 := Lib.hid p2x
  clear ss oo e2x p2x
  have K_2 := Lib.hid (show v2 = v2 from rfl)
  refine ⟨_, rfl, trivial, ?_⟩
  go_frame
  refine h_all1 (i := 11) (by kernel_rfl) ?_
  refine o_call (f := 45) (args := #[.pointer (some ⟨tb, 0, none⟩), .int .i64 T1.id, .int .i64 T2.id]) rfl (by rfl) (by go_simp) ?_
  refine (join_any T1 T2 S3.out.swap P3.out (by have := HQ.out; have := HFL.out.1; omega)).mono ?_
  rintro e v3 ⟨T3, rfl, e3x, p3x, ss, oo⟩
  have S4 := Lib.hid ss
  have O4 := Lib.hid (O3.out.seq oo)
  have E3 := Lib.hid e3x
  have PR3 := Lib.hid p3x
  clear ss oo e3x p3x
  have K_3 := Lib.hid (show v3 = v3 from rfl)
  refine ⟨_, rfl, trivial, ?_⟩
  go_frame
  refine h_val (i := 12) (v := .int .i64 T3.id) rfl (by kernel_rfl) (by kernel_rfl) (by kernel_rfl) (fun _ _ _ h => h) (by rfl) (fun wz hS => ?_) trivial ?_
  · skip
    go_simp
  go_frame
  refine h_done (by kernel_rfl) ?_
  go_wp2
  go_ret
  exact ⟨T3, rfl, by rw [E3.out, E1.out, E2.out]; exact HFL.out.2.symm, PR3.out PR1.out PR2.out, ⟨S4.out.1, by have := S4.out.2; have := HFL.out.1; omega⟩, O4.out⟩
theorem row_all : ∀ (k : Nat) (xs : List Ck), xs.length ≤ k → RowQ D tb root xs := by
  intro k
  induction k with
  | zero =>
    intro xs hk
    obtain rfl : xs = [] := List.length_eq_zero_iff.1 (by omega)
    exact row_nil
  | succ k ih =>
    intro xs hk
    match xs, hk with
    | [], _ => exact row_nil
    | [x], _ => exact row_one1 x
    | x :: y :: r, hk =>
      have hl : (x :: y :: r).length = r.length + 2 := rfl
      refine row_more (x :: y :: r) _ rfl (by omega) (ih _ ?_) (ih _ ?_)
      · rw [List.length_take]; omega
      · rw [List.length_drop]; omega
theorem row_any (xs : List Ck) : RowQ D tb root xs := row_all _ xs (Nat.le_refl _)

/-! how long all is; a place within; a part put in the place of another one -/
theorem size_any (R : TC) (h : Sq D Q S tb R.id (R :: F) w) : Calls Try.prog 33 #[.pointer (some ⟨tb, 0, none⟩)] w fun e w' => e = .returned (.agg #[.int .i64 (Wc.ln (R.el Wc) : Nat), .int .i64 0]) ∧ Below w.heap.size w w' := by
  have hb := (Below.refl w.heap.size w).alloc (Nat.le_refl _) (.cells #[.int .i64 0, .int .i64 0] 74)
  have hz := cb_new w 74 #[.int .i64 0, .int .i64 0]
  have H := Lib.hid (h.below hb)
  have HZ := Lib.hid hz
  have HB := Lib.hid hb
  have hc : (w.alloc (.cells #[.int .i64 0, .int .i64 0] 74)).cell? ⟨tb, 5, none⟩ = some (.int .i64 R.id) := by
    obtain ⟨⟨an, cn, U, V, A, C, h1, h2⟩, -⟩ := H.out
    exact h1.cells.2.2.2.2.2.1
  have hfs := field_sz
  obtain ⟨n1, hn1⟩ : ∃ n, Wc.ln (R.el Wc) = n := ⟨_, rfl⟩
  have HAT := Lib.hid (at_st R List.mem_cons_self H.out)
  rw [hn1] at HAT ⊢
  clear h hb hz hn1
  go_enter Try.func33, Try.ntmps33
  go_wp2_with (first
    | (go_at_call 51; refine HAT.out.mono ?_; rintro e w1 ⟨rfl, b1⟩; have Z1 := Lib.hid (HZ.out.below b1); have B1 := Lib.hid (below_add HB.out b1 (by simp)); clear b1)
    | (refine wpList_store_row rfl 74 (.tmp 2) (.tmp 9) rfl w.heap.size #[.int .i64 (n1 : Nat), .int .i64 0] rfl rfl _ _ Z1.out (zinfo _ _) rfl (zone2 _ _) ?_))
  exact bodyPost_ret (results_cell_row Try.results33 _ _ _ _ _ _ _ rfl (Z1.out.set #[.int .i64 (n1 : Nat), .int .i64 0]) Try.underlying74 rfl (zinfo _ _)) rfl ⟨rfl, below_row B1.out (Nat.le_refl _)⟩
theorem place_any (R : TC) (k : Nat) (hk : k ≤ Wc.ln (R.el Wc)) (h : Sq D Q S tb R.id (R :: F) w) : Calls Try.prog 41 #[.pointer (some ⟨tb, 0, none⟩), .int .i64 (k : Nat)] w fun e w' => e = .returned (.int .i64 (k : Nat)) ∧ Below w.heap.size w w' := by
  have HSZ := Lib.hid (size_any R h)
  have hfl := field_len
  obtain ⟨n1, hn1⟩ : ∃ n, Wc.ln (R.el Wc) = n := ⟨_, rfl⟩
  rw [hn1] at HSZ
  rw [hn1] at hk
  have e1 : max ((k : Nat) : Int) 0 = ((k : Nat) : Int) := by omega
  have e2 : min ((k : Nat) : Int) ((n1 : Nat) : Int) = ((k : Nat) : Int) := by omega
  have e3 : min k n1 = k := by omega
  clear h hn1
  go_enter Try.func41, Try.ntmps41
  go_wp2_with (go_at_call 33; refine HSZ.out.mono ?_; rintro e w1 ⟨rfl, b1⟩; have B1 := Lib.hid b1; clear b1)
  go_ret
  exact ⟨rfl, B1.out⟩
/-- The root is told anew. -/
theorem TrM.setRoot {an cn : Nat} {U V : Nat → Prop} {A : ArS Nd} {C : ArS Ck} (h : TrM D S tb an cn U V root A C w) (r : Int) : TrM D S tb an cn U V r A C (w.setCell ⟨tb, 5, none⟩ (.int .i64 r)) := by
  have ho : Off (fun k => k = tb) w (w.setCell ⟨tb, 5, none⟩ (.int .i64 r)) := Off.of_grown (grown_set (w := w) (g := tb) (o := 5) _) (fun g hg => by cases hg; rfl)
  refine ⟨?_, h.nodes.off ho (fun k hk e => h.ut (e ▸ hk)), h.things.off ho (fun k hk e => h.vt (e ▸ hk)), h.uS, h.vS, h.tS, h.uv, h.ut, h.vt, fun k hk => ?_, fun k hk => ?_, fun d hd => ?_, h.cD⟩
  · rw [heap_set (.int .i64 r) h.hd]; rfl
  · have := h.uw k hk; have := ho.size; omega
  · have := h.vw k hk; have := ho.size; omega
  · obtain ⟨q1, q2, q3⟩ := h.kD d hd
    exact ⟨q1.keep (fun k hk => ho.block k (q3 k hk).2.2.2.2 (q3 k hk).2.2.2.1), q2, fun k hk => ⟨(q3 k hk).1, (q3 k hk).2.1, (q3 k hk).2.2.1, (q3 k hk).2.2.2.1, Nat.lt_of_lt_of_le (q3 k hk).2.2.2.2 ho.size⟩⟩
theorem Sq.setRoot (h : Sq D Q S tb root F w) (r : Int) : Sq D Q S tb r F (w.setCell ⟨tb, 5, none⟩ (.int .i64 r)) ∧ Off S w (w.setCell ⟨tb, 5, none⟩ (.int .i64 r)) := by
  obtain ⟨⟨an, cn, U, V, A, C, h1, h2⟩, h3⟩ := h
  exact ⟨⟨⟨an, cn, U, V, A, C, h1.setRoot r, h2⟩, h3⟩, Off.of_grown (grown_set (w := w) (g := tb) (o := 5) _) (fun g hg => by cases hg; exact h1.tS)⟩
theorem Sq.root5 (h : Sq D Q S tb root F w) : w.cell? ⟨tb, 5, none⟩ = some (.int .i64 root) ∧ w.frozen? ⟨tb, 5, none⟩ = false := by
  obtain ⟨⟨an, cn, U, V, A, C, h1, h2⟩, h3⟩ := h
  exact ⟨h1.cells.2.2.2.2.2.1, h1.cells.2.2.2.2.2.2 5⟩
set_option maxHeartbeats 2000000 in
theorem splice_any (R : TC) (i j : Nat) (hij : i ≤ j) (hj : j ≤ Wc.ln (R.el Wc)) (hp : Pr (R.el Wc)) (v : Value) (xs : List Ck) (h : Sq D Q S tb R.id (R :: F) w) (hup : Up S w) (hr : RowK S w v xs) (hQ : Q + Wc.wt xs ≤ 1300000000) (hdx : ∀ x ∈ xs, D x.d) :
    Calls Try.prog 30 #[.pointer (some ⟨tb, 0, none⟩), .int .i64 (i : Nat), .int .i64 (j : Nat), v] w fun e w' => e = .returned (.tuple #[]) ∧ ∃ R' : TC, flat (R'.el Wc) = (flat (R.el Wc)).take i ++ (flat xs ++ (flat (R.el Wc)).drop j) ∧ Pr (R'.el Wc) ∧ Sq D (Q + 10000 + 10000 + Wc.wt xs) S tb R'.id (R' :: F) w' ∧ Off S w w' := by
  have PI := Lib.hid (place_any R i (by omega) h)
  have HJ := Lib.hid (fun (w' : World) (h' : Sq D Q S tb R.id (R :: F) w') => place_any R j hj h')
  have S0 := Lib.hid h
  have P0 := Lib.hid hup
  have R0 := Lib.hid hr
  have HQ := Lib.hid hQ
  have hji : ((j : Nat) : Int) - ((i : Nat) : Int) = ((j - i : Nat) : Int) := by omega
  have hle := (h.ht (show Q ≤ 4000000000 by omega) R List.mem_cons_self).2.1
  have u1 : 0 ≤ ((j : Nat) : Int) - ((i : Nat) : Int) := by omega
  have u2 : ((j : Nat) : Int) - ((i : Nat) : Int) ≤ 4000000000 := by omega
  have HIJ := Lib.hid (And.intro hij hj)
  have HP := Lib.hid hp
  have HDX := Lib.hid hdx
  have O0 := Lib.hid (Off.refl S w)
  clear h hup hr hQ hij hj hle hp hdx
  go_enter Try.func30, Try.ntmps30
  go_wp2_with (first
    | (go_at_call 41; with_reducible refine PI.out.mono ?_; clear PI; rintro e w1 ⟨rfl, bb⟩; have S1 := Lib.hid (S0.out.below bb); have O1 := Lib.hid (O0.out.below_r bb); have P1 := Lib.hid (P0.out.below bb); clear bb)
    | (go_at_call 41; with_reducible refine (HJ.out _ S1.out).mono ?_; clear HJ; rintro e w2 ⟨rfl, bb⟩; have S2 := Lib.hid (S1.out.below bb); have O2 := Lib.hid (O1.out.below_r bb); have P2 := Lib.hid (P1.out.below bb); clear bb; obtain ⟨c5, -⟩ := S2.out.root5)
    | (go_at_call 43; with_reducible refine (split_any R i S2.out P2.out (by have := HQ.out; omega)).mono ?_; clear c5; rintro e w3 ⟨a, rest, rfl, ea, ss, oo⟩; have S3 := Lib.hid ss; have O3 := Lib.hid (O2.out.seq oo); have P3 := Lib.hid (P2.out.off oo); have EA := Lib.hid ea; clear ss oo ea)
    | (go_at_call 43; with_reducible refine (split_any rest (j - i) S3.out.swap P3.out (by have := HQ.out; omega)).mono ?_; rintro e w4 ⟨gone, beh, rfl, eb, ss, oo⟩; have S4 := Lib.hid ss; have O4 := Lib.hid (O3.out.seq oo); have P4 := Lib.hid (P3.out.off oo); have EB := Lib.hid eb; clear ss oo eb)
    | (go_at_call 44; with_reducible refine (drop_q gone S4.out P4.out).mono ?_; rintro e w5 ⟨rfl, ss, oo⟩; have S5 := Lib.hid ss; have O5 := Lib.hid (O4.out.seq oo); have P5 := Lib.hid (P4.out.off oo); clear ss oo; have R5 := Lib.hid (R0.out.off O5.out))
    | (go_at_call 46; with_reducible refine (row_any xs _ S _ _ v S5.out P5.out R5.out (by have := HQ.out; omega) HDX.out).mono ?_; rintro e w6 ⟨mid, rfl, em, pm, ss, oo⟩; have S6 := Lib.hid ss; have O6 := Lib.hid (O5.out.seq oo); have P6 := Lib.hid (P5.out.off oo); have EM := Lib.hid em; have PM := Lib.hid pm; clear ss oo em pm)
    | (go_at_call 45; with_reducible refine (join_any a mid (S6.out.perm ((List.Perm.cons _ (List.Perm.swap _ _ _)).trans (List.Perm.swap _ _ _ |>.trans (List.Perm.cons _ (List.Perm.refl _))))) P6.out (by have := HQ.out; omega)).mono ?_; rintro e w7 ⟨c, rfl, ec, pc, ss, oo⟩; have S7 := Lib.hid ss; have O7 := Lib.hid (O6.out.seq oo); have P7 := Lib.hid (P6.out.off oo); have EC := Lib.hid ec; have PC := Lib.hid pc; clear ss oo ec pc)
    | (go_at_call 45; with_reducible refine (join_any c beh S7.out P7.out (by have := HQ.out; omega)).mono ?_; rintro e w8 ⟨d, rfl, ed, pd, ss, oo⟩; have S8 := Lib.hid ss; have O8 := Lib.hid (O7.out.seq oo); have ED := Lib.hid ed; have PD := Lib.hid pd; obtain ⟨c5, f5⟩ := ss.root5; clear ss oo ed pd))
  go_end0
  have pr1 := EA.out.2.2 HP.out
  have pr2 := EB.out.2.2 pr1.2
  refine ⟨rfl, d, ?_, PD.out (PC.out pr1.1 PM.out) pr2.2, (S8.out.setRoot d.id).1, O8.out.seq (S8.out.setRoot d.id).2⟩
  rw [ED.out, EC.out, EA.out.1, EM.out, EB.out.2.1, EA.out.2.1, List.drop_drop, List.append_assoc]
  rw [show i + (j - i) = j by have := HIJ.out.1; omega]
end
end Go.Proofs.Yteodfbkfpboehaa
