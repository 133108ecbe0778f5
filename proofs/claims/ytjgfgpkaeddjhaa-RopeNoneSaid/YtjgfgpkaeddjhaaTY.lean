
import Derived.Test.YtjgfgpkaeddjhaaTX
/- TY: the thing at a place; how many newlines are ahead of it; where a newline is -/
namespace Go.Proofs.Ytjgfgpkaeddjhaa
open Go.RowKit
set_option linter.unusedVariables false
set_option maxRecDepth 100000

theorem nl_find : ∀ (l : List Int) (n : Nat), n < nl l → ∃ j, j < l.length ∧ l.getD j 0 = 10 ∧ nl (l.take j) = n
  | [], n, h => by simp [nl] at h
  | c :: r, n, h => by
    by_cases hc : c = 10
    · have e : nl (c :: r) = nl r + 1 := by simp [nl, hc]
      cases n with
      | zero => exact ⟨0, by simp, by simp [hc], by simp [nl]⟩
      | succ m =>
        obtain ⟨j, h1, h2, h3⟩ := nl_find r m (by omega)
        refine ⟨j + 1, by simp; omega, by simpa using h2, ?_⟩
        rw [List.take_succ_cons, ← h3]
        simp [nl, hc]
    · have e : nl (c :: r) = nl r := by simp [nl, hc]
      obtain ⟨j, h1, h2, h3⟩ := nl_find r n (by omega)
      refine ⟨j + 1, by simp; omega, by simpa using h2, ?_⟩
      rw [List.take_succ_cons, ← h3]
      simp [nl, hc]
theorem slots_hit {l : List Int} {j : Nat} (hj : j < l.length) (h : l.getD j 0 = 10) : ((slots l).getD j 0 == 11) = true := by
  rw [List.getD_eq_getElem?_getD] at h ⊢
  unfold slots
  rw [List.getElem?_append_left (by simpa using hj), List.getElem?_map]
  rw [List.getElem?_eq_getElem hj] at h ⊢
  simp at h ⊢
  omega
/-- What was looked for, and found. -/
def Sk (r : Int → List Int → Bool) (l : List Int) (i : Int) (cx : Array Value) (a b : Nat) : Prop :=
  ∃ (x : Ck) (pre post : List Int), row (slots x.l) = cx ∧ pre.length = a ∧ nl pre = b ∧ l = pre ++ (x.l ++ post) ∧ (pre = [] ∨ r i pre = false) ∧ (post = [] ∨ r i (pre ++ x.l) = true)
section
variable {l : List Int} {k : Nat} {cx : Array Value} {a b : Nat}
theorem sk_at (h : Sk rA l (k : Nat) cx a b) (hk : k ≤ l.length) : a ≤ k ∧ a ≤ l.length ∧ b ≤ l.length ∧ ∃ x : Ck, row (slots x.l) = cx ∧ (k < l.length → k - a < x.l.length ∧ x.l.getD (k - a) 0 = l.getD k 0) ∧ b + nl (x.l.take (k - a)) = nl (l.take k) := by
  obtain ⟨x, pre, post, h1, rfl, rfl, rfl, h2, h3⟩ := h
  have ha : pre.length ≤ k := by
    rcases h2 with rfl | h2
    · simp
    · unfold rA at h2; have := of_decide_eq_false h2; omega
  have hb : k ≤ pre.length + x.l.length := by
    rcases h3 with rfl | h3
    · simp only [List.append_nil, List.length_append] at hk; omega
    · unfold rA at h3; have := of_decide_eq_true h3; simp only [List.length_append] at this; omega
  have hnp := nl_le pre
  refine ⟨ha, by simp, by simp only [List.length_append]; omega, x, h1, fun hk2 => ?_, ?_⟩
  · have hc : k < pre.length + x.l.length := by
      rcases h3 with rfl | h3
      · simp only [List.append_nil, List.length_append] at hk2; omega
      · unfold rA at h3; have := of_decide_eq_true h3; simp only [List.length_append] at this; omega
    refine ⟨by omega, ?_⟩
    rw [List.getD_eq_getElem?_getD, List.getD_eq_getElem?_getD, List.getElem?_append_right ha, List.getElem?_append_left (by omega)]
  · rw [List.take_append, List.take_of_length_le ha, nl_app, List.take_append_of_le_length (by omega)]
theorem sk_mark (h : Sk rM l (k : Nat) cx a b) (hk : k < nl l) : b ≤ k ∧ a ≤ l.length ∧ ∃ (x : Ck) (j : Nat), row (slots x.l) = cx ∧ nlAt x.l ((k : Nat) - (b : Nat) : Int) = some j ∧ a + j < l.length ∧ l.getD (a + j) 0 = 10 ∧ nl (l.take (a + j)) = k := by
  obtain ⟨x, pre, post, h1, rfl, rfl, rfl, h2, h3⟩ := h
  have ha : nl pre ≤ k := by
    rcases h2 with rfl | h2
    · simp [nl]
    · unfold rM at h2; have := of_decide_eq_false h2; omega
  have hb : k < nl pre + nl x.l := by
    rcases h3 with rfl | h3
    · simp only [List.append_nil, nl_app] at hk; omega
    · unfold rM at h3; have := of_decide_eq_true h3; rw [nl_app] at this; omega
  obtain ⟨j, j1, j2, j3⟩ := nl_find x.l (k - nl pre) (by omega)
  have h32 := x.ok.1
  refine ⟨ha, by simp, x, j, h1, nlAt_yes (slots_hit j1 j2) (by omega) (by omega), by simp only [List.length_append]; omega, ?_, ?_⟩
  · rw [List.getD_eq_getElem?_getD, List.getElem?_append_right (by omega), List.getElem?_append_left (by omega), ← List.getD_eq_getElem?_getD, ← j2]
    congr 1
    omega
  · rw [List.take_append, List.take_of_length_le (by omega), nl_app, List.take_append_of_le_length (by omega), show pre.length + j - pre.length = j by omega, j3]
    omega
end
section
variable {Q : Nat} {S : Nat → Prop} {tb : Nat} {w w' W : World}
theorem skA_any (R : TC) (i : Int) (cb : Nat) (h : Sq Q S tb R.id [R] w) (hQ : Q ≤ 400000) (hc : Cb cb 3 #[.int .i64 i] w) :
    Calls Try.prog 45 #[.pointer (some ⟨tb, 0, none⟩), .func (.func 46) #[] #[.pointer (some ⟨cb, 0, none⟩)]] w fun e w' => ∃ (cx : Array Value) (a b : Nat), e = .returned (.tuple #[.agg cx, .agg #[.int .i64 (a : Nat), .int .i64 (b : Nat)]]) ∧ cx.size = 32 ∧ cx.all (·.oneCell') = true ∧ Sk rA (R.el Wc) i cx a b ∧ Below w.heap.size w w' := by
  refine (seekA_any R i cb h hQ hc).mono ?_
  rintro e w' ⟨x, pre, post, rfl, q1, q2, q3, q4⟩
  exact ⟨_, _, _, rfl, xc_size _ x.ok.1, row_one _, ⟨x, pre, post, rfl, rfl, rfl, q1, q2, q3⟩, q4⟩
theorem skH_any (R : TC) (i : Int) (cb : Nat) (h : Sq Q S tb R.id [R] w) (hQ : Q ≤ 400000) (hc : Cb cb 3 #[.int .i64 i] w) :
    Calls Try.prog 45 #[.pointer (some ⟨tb, 0, none⟩), .func (.func 51) #[] #[.pointer (some ⟨cb, 0, none⟩)]] w fun e w' => ∃ (cx : Array Value) (a b : Nat), e = .returned (.tuple #[.agg cx, .agg #[.int .i64 (a : Nat), .int .i64 (b : Nat)]]) ∧ cx.size = 32 ∧ cx.all (·.oneCell') = true ∧ Sk rA (R.el Wc) i cx a b ∧ Below w.heap.size w w' := by
  refine (seekH_any R i cb h hQ hc).mono ?_
  rintro e w' ⟨x, pre, post, rfl, q1, q2, q3, q4⟩
  exact ⟨_, _, _, rfl, xc_size _ x.ok.1, row_one _, ⟨x, pre, post, rfl, rfl, rfl, q1, q2, q3⟩, q4⟩
theorem skM_any (R : TC) (i : Int) (cb : Nat) (h : Sq Q S tb R.id [R] w) (hQ : Q ≤ 400000) (hc : Cb cb 3 #[.int .i64 i] w) :
    Calls Try.prog 45 #[.pointer (some ⟨tb, 0, none⟩), .func (.func 52) #[] #[.pointer (some ⟨cb, 0, none⟩)]] w fun e w' => ∃ (cx : Array Value) (a b : Nat), e = .returned (.tuple #[.agg cx, .agg #[.int .i64 (a : Nat), .int .i64 (b : Nat)]]) ∧ cx.size = 32 ∧ cx.all (·.oneCell') = true ∧ Sk rM (R.el Wc) i cx a b ∧ Below w.heap.size w w' := by
  refine (seekM_any R i cb h hQ hc).mono ?_
  rintro e w' ⟨x, pre, post, rfl, q1, q2, q3, q4⟩
  exact ⟨_, _, _, rfl, xc_size _ x.ok.1, row_one _, ⟨x, pre, post, rfl, rfl, rfl, q1, q2, q3⟩, q4⟩
theorem sk_zero (w : World) (i : Int) : Cb w.heap.size 3 #[.int .i64 i] ((w.alloc (.cells #[.int .i64 i] 3)).alloc (.cells (row zero32) 58)) ∧ Cb (w.heap.size + 1) 58 (row zero32) ((w.alloc (.cells #[.int .i64 i] 3)).alloc (.cells (row zero32) 58)) ∧ Below w.heap.size w ((w.alloc (.cells #[.int .i64 i] 3)).alloc (.cells (row zero32) 58)) := by
  refine ⟨(cb_new w _ _).alloc _, ?_, ((Below.refl _ w).alloc (Nat.le_refl _) _).alloc (by simp) _⟩
  have := cb_new (w.alloc (.cells #[.int .i64 i] 3)) 58 (row zero32)
  rwa [World.size_alloc] at this
set_option maxHeartbeats 1000000 in
theorem treeAt_any (R : TC) (k : Nat) (h : Sq Q S tb R.id [R] w) (hQ : Q ≤ 400000) (hk : k < (R.el Wc).length) :
    Calls Try.prog 26 #[.pointer (some ⟨tb, 0, none⟩), .int .i64 (k : Nat)] w fun e w' => ∃ (x : Ck) (j : Nat), e = .returned (.tuple #[cv x.l, .int .i64 (j : Nat)]) ∧ j < x.l.length ∧ x.l.getD j 0 = (R.el Wc).getD k 0 ∧ Below w.heap.size w w' := by
  have hlen := (h.ht hQ R List.mem_cons_self).2
  have HK := Lib.hid (And.intro hk hlen)
  have HSK := Lib.hid (fun (w' : World) (hb : Below w.heap.size w w') (hc : Cb w.heap.size 3 #[.int .i64 (k : Nat)] w') => skA_any R (k : Nat) w.heap.size (h.below hb) hQ hc)
  clear h hQ hk hlen
  go_enter Try.func26, Try.ntmps26
  go_upto_region 1 with fail
  refine with_worldT (fun W => Cb w.heap.size 3 #[.int .i64 (k : Nat)] W ∧ Cb (w.heap.size + 1) 58 (row zero32) W ∧ Below w.heap.size w W) (sk_zero w (k : Nat)) fun W0 hW0 => ?_
  have K0 := Lib.hid hW0.1
  have R0 := Lib.hid hW0.2.1
  have B0 := Lib.hid hW0.2.2
  clear hW0
  go_wp2_with (first
    | (go_at_call 45; refine (HSK.out _ B0.out K0.out).mono ?_; clear HSK; rintro e w1 ⟨cx, a, b, rfl, sx, ox, sk, b1⟩; have SX := Lib.hid sx; have OX := Lib.hid ox; have SK := Lib.hid (sk_at sk (by have := HK.out.1; omega)); have K1 := Lib.hid ((K0.out.below b1).alloc (.cells #[.int .i64 0, .int .i64 0] 80)); have R1 := Lib.hid ((R0.out.below b1).alloc (.cells #[.int .i64 0, .int .i64 0] 80)); have B1 := Lib.hid ((below_add B0.out b1 B0.out.size).alloc (by have := B0.out.size; have := b1.size; omega) (.cells #[.int .i64 0, .int .i64 0] 80)); have V1 := Lib.hid (cb_new w1 80 #[.int .i64 0, .int .i64 0]); have Z1 := Lib.hid (show w.heap.size + 1 < w1.heap.size from Nat.lt_of_lt_of_le R0.out.lt b1.size); clear b1 sx ox sk)
    | (refine wpList_store_row rfl 58 (.tmp 4) (.tmp 11) rfl (w.heap.size + 1) cx rfl rfl _ _ R1.out (xinfo SX.out) (by rw [SX.out]; exact xz_size) OX.out ?_)
    | (refine wpList_store_row rfl 80 (.tmp 6) (.tmp 12) rfl w1.heap.size #[.int .i64 (a : Nat), .int .i64 (b : Nat)] rfl rfl _ _ (V1.out.other (c := w.heap.size + 1) (by have := Z1.out; omega) cx) (zinfo _ _) rfl (zone2 _ _) ?_))
  have u0 := SK.out.1
  have u9 := HK.out
  have u1 : 0 ≤ ((k : Nat) : Int) - ((a : Nat) : Int) := by omega
  have u2 : ((k : Nat) : Int) - ((a : Nat) : Int) ≤ 400000 := by omega
  clear u0 u9
  obtain ⟨b6, hb6⟩ : ∃ b6, w1.heap.size = b6 := ⟨_, rfl⟩
  have W2 := Lib.hid (show Cb w.heap.size 3 #[.int .i64 (k : Nat)] ((((w1.alloc (.cells #[.int .i64 0, .int .i64 0] 80)).setRow (w.heap.size + 1) cx)).setRow w1.heap.size #[.int .i64 (a : Nat), .int .i64 (b : Nat)]) ∧ Cb w1.heap.size 80 #[.int .i64 (a : Nat), .int .i64 (b : Nat)] ((((w1.alloc (.cells #[.int .i64 0, .int .i64 0] 80)).setRow (w.heap.size + 1) cx)).setRow w1.heap.size #[.int .i64 (a : Nat), .int .i64 (b : Nat)]) ∧ Cb (w.heap.size + 1) 58 cx ((((w1.alloc (.cells #[.int .i64 0, .int .i64 0] 80)).setRow (w.heap.size + 1) cx)).setRow w1.heap.size #[.int .i64 (a : Nat), .int .i64 (b : Nat)]) ∧ Below w.heap.size w ((((w1.alloc (.cells #[.int .i64 0, .int .i64 0] 80)).setRow (w.heap.size + 1) cx)).setRow w1.heap.size #[.int .i64 (a : Nat), .int .i64 (b : Nat)]) from
    ⟨(K1.out.other (by omega) _).other (by have := Z1.out; omega) _, (V1.out.other (by have := Z1.out; omega) _).set _, (R1.out.set _).other (by have := Z1.out; omega) _, below_row (below_row B1.out (by omega)) (by have := Z1.out; omega)⟩)
  refine with_worldT (fun W => Cb w.heap.size 3 #[.int .i64 (k : Nat)] W ∧ Cb w1.heap.size 80 #[.int .i64 (a : Nat), .int .i64 (b : Nat)] W ∧ Cb (w.heap.size + 1) 58 cx W ∧ Below w.heap.size w W) W2.out fun W1 hW1 => ?_
  have K_0 := Lib.hid (show Cb w.heap.size 3 #[.int .i64 (k : Nat)] W1.drew ∧ Cb w1.heap.size 80 #[.int .i64 (a : Nat), .int .i64 (b : Nat)] W1.drew from ⟨hW1.1.below (below_drew _), hW1.2.1.below (below_drew _)⟩)
  have R_0 := Lib.hid (hW1.2.2.1.below (below_drew _))
  have B_0 := Lib.hid hW1.2.2.2.drew
  have Z2 := Lib.hid Z1.out
  clear W2 hW1 K1 R1 V1 B1 K0 R0 B0 Z1
  refine Hid.out ?_
  rw [hb6] at K_0 Z2 ⊢
  refine Lib.hid ?_
  clear hb6
  go_frame
  refine h_start (S := fun W => (Cb w.heap.size 3 #[.int .i64 (k : Nat)] W ∧ Cb b6 80 #[.int .i64 (a : Nat), .int .i64 (b : Nat)] W) ∧ Cb (w.heap.size + 1) 58 cx W) (by kernel_rfl) ?_
  refine h_val (i := 0) (v := .agg cx) rfl (by kernel_rfl) (by kernel_rfl) (by kernel_rfl) (fun _ _ _ h => h) (by rfl) (fun wz hS => ?_) ⟨K_0.out, R_0.out⟩ ?_
  · exact ex_load_row 58 (.tmp 4) rfl (w.heap.size + 1) rfl _ cx _ _ hS.2 Try.underlying58 rfl (xinfo SX.out)
  go_frame
  refine h_val (i := 1) (v := .int .i64 (k : Nat)) rfl (by kernel_rfl) (by kernel_rfl) (by kernel_rfl) (fun _ _ _ h => h) (by rfl) (fun wz hS => ?_) ⟨K_0.out, R_0.out⟩ ?_
  · have q := hS.1.1.cell 0
    go_simp
  go_frame
  refine h_val (i := 2) (v := .pointer (some ⟨b6, 0, none⟩)) rfl (by kernel_rfl) (by kernel_rfl) (by kernel_rfl) (fun _ _ _ h => h) (by rfl) (fun wz hS => ?_) ⟨K_0.out, R_0.out⟩ ?_
  · skip
    go_simp
  go_frame
  refine h_val (i := 3) (v := .int .i64 (a : Nat)) rfl (by kernel_rfl) (by kernel_rfl) (by kernel_rfl) (fun _ _ _ h => h) (by rfl) (fun wz hS => ?_) ⟨K_0.out, R_0.out⟩ ?_
  · have q := hS.1.2.cell 0
    go_simp
  go_frame
  refine h_val (i := 4) (v := .int .i64 (((k : Nat) : Int) - ((a : Nat) : Int))) rfl (by kernel_rfl) (by kernel_rfl) (by kernel_rfl) (fun _ _ _ h => h) (by rfl) (fun wz hS => ?_) ⟨K_0.out, R_0.out⟩ ?_
  · skip
    go_simp
    rw [IntKind.wrap_i64]; omega
  go_frame
  refine h_all1 (i := 5) (by kernel_rfl) ?_
  refine o_step rfl (by rfl) ?_
  refine wp_store_row 58 (.tmp 4) (.tmp 13) rfl (w.heap.size + 1) cx rfl rfl _ _ R_0.out (xinfo SX.out) rfl OX.out ?_
  have K_1 := Lib.hid (And.intro (K_0.out.1.other (c := w.heap.size + 1) (by omega) cx) (K_0.out.2.other (c := w.heap.size + 1) (by have := Z2.out; omega) cx))
  have R_1 := Lib.hid (R_0.out.set cx)
  have B_1 := Lib.hid (below_row (cs := cx) B_0.out (show w.heap.size ≤ w.heap.size + 1 by omega))
  refine ⟨⟨K_1.out, R_1.out⟩, ?_⟩
  go_frame
  refine h_val (i := 6) (v := .int .i64 (((k : Nat) : Int) - ((a : Nat) : Int))) rfl (by kernel_rfl) (by kernel_rfl) (by kernel_rfl) (fun _ _ _ h => h) (by rfl) (fun wz hS => ?_) ⟨K_1.out, R_1.out⟩ ?_
  · skip
    go_simp
  go_frame
  refine h_done (by kernel_rfl) ?_
  go_wp2
  obtain ⟨q1, -, -, x, hx, hx2, -⟩ := SK.out
  obtain ⟨hx3, hx4⟩ := hx2 HK.out.1
  exact bodyPost_ret (results_x_tmp (v := .int .i64 (((k : Nat) : Int) - ((a : Nat) : Int))) Try.results26 SX.out R_1.out _ rfl rfl) rfl ⟨x, k - a, by unfold cv; rw [hx, show (((k - a : Nat) : Nat) : Int) = ((k : Nat) : Int) - ((a : Nat) : Int) by omega], hx3, hx4, B_1.out⟩
theorem nlx_any {k b j : Nat} {cx : Array Value} (x : Ck) (hx : row (slots x.l) = cx) (hj : nlAt x.l ((k : Nat) - (b : Nat) : Int) = some j) (w : World) : Calls Try.prog 34 #[.agg cx, .int .i64 (((k : Nat) : Int) - ((b : Nat) : Int))] w fun e w' => e = .returned (.tuple #[.int .i64 (j : Nat), .bool true]) ∧ Below w.heap.size w w' := by
  have := newlineAt_any x.l x.ok (((k : Nat) : Int) - ((b : Nat) : Int)) w
  unfold cv at this
  rw [hx, hj] at this
  exact this
/-- Both variables, made one behind the other. -/
theorem two_xz (w : World) : Cb w.heap.size 58 (row zero32) ((w.alloc (.cells (row zero32) 58)).alloc (.cells #[.int .i64 0, .int .i64 0] 80)) ∧ Cb (w.heap.size + 1) 80 #[.int .i64 0, .int .i64 0] ((w.alloc (.cells (row zero32) 58)).alloc (.cells #[.int .i64 0, .int .i64 0] 80)) := by
  refine ⟨(cb_new w _ _).alloc _, ?_⟩
  have := cb_new (w.alloc (.cells (row zero32) 58)) 80 #[.int .i64 0, .int .i64 0]
  rwa [World.size_alloc] at this
set_option maxHeartbeats 1000000 in
theorem marksAhead_any (R : TC) (k : Nat) (h : Sq Q S tb R.id [R] w) (hQ : Q ≤ 400000) (hk : k ≤ (R.el Wc).length) :
    Calls Try.prog 31 #[.pointer (some ⟨tb, 0, none⟩), .int .i64 (k : Nat), .func (.func 32) #[] #[]] w fun e w' => e = .returned (.int .i64 (nl ((R.el Wc).take k) : Nat)) ∧ Below w.heap.size w w' := by
  have hlen := (h.ht hQ R List.mem_cons_self).2
  have HK := Lib.hid (And.intro hk hlen)
  have HSK := Lib.hid (fun (w' : World) (hb : Below w.heap.size w w') (hc : Cb w.heap.size 3 #[.int .i64 (k : Nat)] w') => skH_any R (k : Nat) w.heap.size (h.below hb) hQ hc)
  have hnl := nl_le (R.el Wc)
  have HNL := Lib.hid hnl
  have eg : ∀ args w, (callFunc 32 args).run Try.prog w = .ok (.enter 32 args) w := enters_of Try.func32 (by kernel_rfl) rfl
  clear h hQ hk hlen hnl
  go_enter Try.func31, Try.ntmps31
  go_upto_region 1 with fail
  refine with_worldT (fun W => Cb w.heap.size 3 #[.int .i64 (k : Nat)] W ∧ Below w.heap.size w W) ⟨cb_new w _ _, (Below.refl _ w).alloc (Nat.le_refl _) _⟩ fun W0 hW0 => ?_
  have K0 := Lib.hid hW0.1
  have B0 := Lib.hid hW0.2
  clear hW0
  go_wp2_with (first
    | (go_at_call 45; refine (HSK.out _ B0.out K0.out).mono ?_; clear HSK; rintro e w1 ⟨cx, a, b, rfl, sx, ox, sk, b1⟩; have SX := Lib.hid sx; have OX := Lib.hid ox; have SK := Lib.hid (sk_at sk HK.out.1); have K1 := Lib.hid (((K0.out.below b1).alloc (.cells (row zero32) 58)).alloc (.cells #[.int .i64 0, .int .i64 0] 80)); have B1 := Lib.hid (((below_add B0.out b1 B0.out.size).alloc (by have := B0.out.size; have := b1.size; omega) (.cells (row zero32) 58)).alloc (by have := B0.out.size; have := b1.size; rw [World.size_alloc]; omega) (.cells #[.int .i64 0, .int .i64 0] 80)); have V1 := Lib.hid (two_xz w1); have Z1 := Lib.hid (show w.heap.size < w1.heap.size from Nat.lt_of_lt_of_le K0.out.lt b1.size); clear b1 sx ox sk)
    | (refine wpList_store_row rfl 58 (.tmp 7) (.tmp 13) rfl w1.heap.size cx rfl rfl _ _ V1.out.1 (xinfo SX.out) (by rw [SX.out]; exact xz_size) OX.out ?_)
    | (refine wpList_store_row rfl 80 (.tmp 8) (.tmp 14) rfl (w1.heap.size + 1) #[.int .i64 (a : Nat), .int .i64 (b : Nat)] rfl rfl _ _ (V1.out.2.other (c := w1.heap.size) (by omega) cx) (zinfo _ _) rfl (zone2 _ _) ?_; refine with_worldTL (fun W => Cb w.heap.size 3 #[.int .i64 (k : Nat)] W ∧ Cb (w1.heap.size + 1) 80 #[.int .i64 (a : Nat), .int .i64 (b : Nat)] W ∧ Cb w1.heap.size 58 cx W ∧ Below w.heap.size w W) ⟨(K1.out.other (by have := Z1.out; omega) _).other (by have := Z1.out; omega) _, (V1.out.2.other (by omega) _).set _, (V1.out.1.set _).other (by omega) _, below_row (below_row B1.out (by have := Z1.out; omega)) (by have := Z1.out; omega)⟩ fun W1 hW1 => ?_; have K2 := Lib.hid hW1.1; have Y2 := Lib.hid hW1.2.1; have X2 := Lib.hid hW1.2.2.1; have B2 := Lib.hid hW1.2.2.2; have c1 : W1.cell? ⟨w.heap.size, 0, none⟩ = some (.int .i64 (k : Nat)) := hW1.1.cell 0; have c2 : W1.cell? ⟨w1.heap.size + 1, 0, none⟩ = some (.int .i64 (a : Nat)) := hW1.2.1.cell 0; have c3 : W1.cell? ⟨w1.heap.size + 1, 1, none⟩ = some (.int .i64 (b : Nat)) := hW1.2.1.cell 1; clear hW1 K1 B1 V1))
  obtain ⟨q1, q2, q3, x, hx, -, he⟩ := SK.out
  have u9 := HK.out
  have u8 := HNL.out
  have u1 : 0 ≤ ((k : Nat) : Int) - ((a : Nat) : Int) := by omega
  have u2 : ((k : Nat) : Int) - ((a : Nat) : Int) ≤ 400000 := by omega
  have hah : ∀ w, Calls Try.prog 32 #[.agg cx, .int .i64 (((k : Nat) : Int) - ((a : Nat) : Int))] w fun e w' => e = .returned (.int .i64 (nl (x.l.take (k - a)) : Nat)) ∧ Below w.heap.size w w' := fun w => by
    have := ahead_any x.l x.ok (((k : Nat) : Int) - ((a : Nat) : Int)) w
    unfold cv at this
    rw [hx, show (((k : Nat) : Int) - ((a : Nat) : Int)).toNat = k - a by omega] at this
    exact this
  obtain ⟨n1, hn1⟩ : ∃ n, nl (x.l.take (k - a)) = n := ⟨_, rfl⟩
  rw [hn1] at hah he
  have HAH := Lib.hid hah
  have HE := Lib.hid he
  have u3 : 0 ≤ ((b : Nat) : Int) + ((n1 : Nat) : Int) := by omega
  have u4 : ((b : Nat) : Int) + ((n1 : Nat) : Int) ≤ 900000 := by
    have := nl_le ((R.el Wc).take k)
    have := List.length_take_le k (R.el Wc)
    omega
  clear q1 q2 q3 u8 u9 hah he hn1 hx
  have KS0 := And.intro (K2.out.below (below_drew _)) (And.intro (Y2.out.below (below_drew _)) (X2.out.below (below_drew _)))
  have B_0 := Lib.hid B2.out.drew
  clear K2 Y2 X2 B2
  obtain ⟨b7, hb7⟩ : ∃ b7, w1.heap.size = b7 := ⟨_, rfl⟩
  refine Hid.out ?_
  rw [hb7] at KS0 Z1 ⊢
  refine Lib.hid ?_
  have KS := Lib.hid KS0
  clear KS0 hb7
  go_frame
  refine h_start (S := (fun W => Cb w.heap.size 3 #[.int .i64 (k : Nat)] W ∧ Cb (b7 + 1) 80 #[.int .i64 (a : Nat), .int .i64 (b : Nat)] W ∧ Cb b7 58 cx W)) (by kernel_rfl) ?_
  refine h_val (i := 0) (v := .pointer (some ⟨b7 + 1, 1, none⟩)) rfl (by kernel_rfl) (by kernel_rfl) (by kernel_rfl) (fun _ _ _ h => h) (by rfl) (fun wz hS => ?_) KS.out ?_
  · skip
    go_simp
  go_frame
  refine h_val (i := 1) (v := .int .i64 (b : Nat)) rfl (by kernel_rfl) (by kernel_rfl) (by kernel_rfl) (fun _ _ _ h => h) (by rfl) (fun wz hS => ?_) KS.out ?_
  · skip
    have q := hS.2.1.cell 1
    go_simp
  go_frame
  refine h_val (i := 2) (v := .func (.func 32) #[] #[]) rfl (by kernel_rfl) (by kernel_rfl) (by kernel_rfl) (fun _ _ _ h => h) (by rfl) (fun wz hS => ?_) KS.out ?_
  · skip
    go_simp
  go_frame
  refine h_val (i := 3) (v := .agg cx) rfl (by kernel_rfl) (by kernel_rfl) (by kernel_rfl) (fun _ _ _ h => h) (by rfl) (fun wz hS => ?_) KS.out ?_
  · skip
    exact ex_load_row 58 (.tmp 7) rfl b7 rfl _ cx _ _ hS.2.2 Try.underlying58 rfl (xinfo SX.out)
  go_frame
  refine h_val (i := 4) (v := .int .i64 (k : Nat)) rfl (by kernel_rfl) (by kernel_rfl) (by kernel_rfl) (fun _ _ _ h => h) (by rfl) (fun wz hS => ?_) KS.out ?_
  · skip
    have q := hS.1.cell 0
    go_simp
  go_frame
  refine h_val (i := 5) (v := .pointer (some ⟨b7 + 1, 0, none⟩)) rfl (by kernel_rfl) (by kernel_rfl) (by kernel_rfl) (fun _ _ _ h => h) (by rfl) (fun wz hS => ?_) KS.out ?_
  · skip
    go_simp
  go_frame
  refine h_val (i := 6) (v := .int .i64 (a : Nat)) rfl (by kernel_rfl) (by kernel_rfl) (by kernel_rfl) (fun _ _ _ h => h) (by rfl) (fun wz hS => ?_) KS.out ?_
  · skip
    have q := hS.2.1.cell 0
    go_simp
  go_frame
  refine h_val (i := 7) (v := .int .i64 (((k : Nat) : Int) - ((a : Nat) : Int))) rfl (by kernel_rfl) (by kernel_rfl) (by kernel_rfl) (fun _ _ _ h => h) (by rfl) (fun wz hS => ?_) KS.out ?_
  · skip
    go_simp
    rw [IntKind.wrap_i64]; omega
  go_frame
  refine h_all1 (i := 8) (by kernel_rfl) ?_
  refine o_call (f := 32) (args := #[.agg cx, .int .i64 (((k : Nat) : Int) - ((a : Nat) : Int))]) rfl (by rfl) (by go_simp) ?_
  refine (HAH.out _).mono ?_
  rintro e w5 ⟨rfl, b5⟩
  have KT := Lib.hid (And.intro (KS.out.1.below b5) (And.intro (KS.out.2.1.below b5) (KS.out.2.2.below b5)))
  have B_1 := Lib.hid (below_add B_0.out b5 B_0.out.size)
  clear b5
  refine ⟨_, rfl, KT.out, ?_⟩
  go_frame
  refine h_val (i := 9) (v := .int .i64 (((b : Nat) : Int) + ((n1 : Nat) : Int))) rfl (by kernel_rfl) (by kernel_rfl) (by kernel_rfl) (fun _ _ _ h => h) (by rfl) (fun wz hS => ?_) KT.out ?_
  · skip
    go_simp
    rw [IntKind.wrap_i64]; omega
  go_frame
  refine h_val (i := 10) (v := .int .i64 (((b : Nat) : Int) + ((n1 : Nat) : Int))) rfl (by kernel_rfl) (by kernel_rfl) (by kernel_rfl) (fun _ _ _ h => h) (by rfl) (fun wz hS => ?_) KT.out ?_
  · skip
    go_simp
  go_frame
  refine h_done (by kernel_rfl) ?_
  go_wp2
  go_ret
  refine ⟨?_, B_1.out⟩
  rw [← HE.out]
  rfl
set_option maxHeartbeats 1000000 in
theorem markAt_any (R : TC) (k : Nat) (h : Sq Q S tb R.id [R] w) (hQ : Q ≤ 400000) (hk : k < nl (R.el Wc)) :
    Calls Try.prog 33 #[.pointer (some ⟨tb, 0, none⟩), .int .i64 (k : Nat), .func (.func 34) #[] #[]] w fun e w' => ∃ j : Nat, e = .returned (.int .i64 (j : Nat)) ∧ j < (R.el Wc).length ∧ (R.el Wc).getD j 0 = 10 ∧ nl ((R.el Wc).take j) = k ∧ Below w.heap.size w w' := by
  have hlen := (h.ht hQ R List.mem_cons_self).2
  have HK := Lib.hid (And.intro hk hlen)
  have HSK := Lib.hid (fun (w' : World) (hb : Below w.heap.size w w') (hc : Cb w.heap.size 3 #[.int .i64 (k : Nat)] w') => skM_any R (k : Nat) w.heap.size (h.below hb) hQ hc)
  have hnl := nl_le (R.el Wc)
  have HNL := Lib.hid hnl
  have eg : ∀ args w, (callFunc 34 args).run Try.prog w = .ok (.enter 34 args) w := enters_of Try.func34 (by kernel_rfl) rfl
  clear h hQ hk hlen hnl
  go_enter Try.func33, Try.ntmps33
  go_upto_region 1 with fail
  refine with_worldT (fun W => Cb w.heap.size 3 #[.int .i64 (k : Nat)] W ∧ Below w.heap.size w W) ⟨cb_new w _ _, (Below.refl _ w).alloc (Nat.le_refl _) _⟩ fun W0 hW0 => ?_
  have K0 := Lib.hid hW0.1
  have B0 := Lib.hid hW0.2
  clear hW0
  go_wp2_with (first
    | (go_at_call 45; refine (HSK.out _ B0.out K0.out).mono ?_; clear HSK; rintro e w1 ⟨cx, a, b, rfl, sx, ox, sk, b1⟩; have SX := Lib.hid sx; have OX := Lib.hid ox; obtain ⟨q1, q2, x, j, hx, hj, q3, q4, q5⟩ := sk_mark sk HK.out.1; have u9 := HK.out; have u8 := HNL.out; have u1 : 0 ≤ ((k : Nat) : Int) - ((b : Nat) : Int) := (by omega); have u2 : ((k : Nat) : Int) - ((b : Nat) : Int) ≤ 400000 := (by omega); have u3 : 0 ≤ ((a : Nat) : Int) + ((j : Nat) : Int) := (by omega); have u4 : ((a : Nat) : Int) + ((j : Nat) : Int) ≤ 400000 := (by omega); have HAH := Lib.hid (fun w => nlx_any x hx hj w); have HE := Lib.hid (And.intro q3 (And.intro q4 q5)); clear q1 q2 q3 q4 q5 hx hj u9 u8; have K1 := Lib.hid (((K0.out.below b1).alloc (.cells (row zero32) 58)).alloc (.cells #[.int .i64 0, .int .i64 0] 80)); have B1 := Lib.hid (((below_add B0.out b1 B0.out.size).alloc (by have := B0.out.size; have := b1.size; omega) (.cells (row zero32) 58)).alloc (by have := B0.out.size; have := b1.size; rw [World.size_alloc]; omega) (.cells #[.int .i64 0, .int .i64 0] 80)); have V1 := Lib.hid (two_xz w1); have Z1 := Lib.hid (show w.heap.size < w1.heap.size from Nat.lt_of_lt_of_le K0.out.lt b1.size); clear b1 sx ox sk)
    | (refine wpList_store_row rfl 58 (.tmp 7) (.tmp 15) rfl w1.heap.size cx rfl rfl _ _ V1.out.1 (xinfo SX.out) (by rw [SX.out]; exact xz_size) OX.out ?_)
    | (refine wpList_store_row rfl 80 (.tmp 8) (.tmp 16) rfl (w1.heap.size + 1) #[.int .i64 (a : Nat), .int .i64 (b : Nat)] rfl rfl _ _ (V1.out.2.other (c := w1.heap.size) (by omega) cx) (zinfo _ _) rfl (zone2 _ _) ?_; refine with_worldTL (fun W => Cb w.heap.size 3 #[.int .i64 (k : Nat)] W ∧ Cb (w1.heap.size + 1) 80 #[.int .i64 (a : Nat), .int .i64 (b : Nat)] W ∧ Cb w1.heap.size 58 cx W ∧ Below w.heap.size w W) ⟨(K1.out.other (by have := Z1.out; omega) _).other (by have := Z1.out; omega) _, (V1.out.2.other (by omega) _).set _, (V1.out.1.set _).other (by omega) _, below_row (below_row B1.out (by have := Z1.out; omega)) (by have := Z1.out; omega)⟩ fun W1 hW1 => ?_; have K2 := Lib.hid hW1.1; have Y2 := Lib.hid hW1.2.1; have X2 := Lib.hid hW1.2.2.1; have B2 := Lib.hid hW1.2.2.2; have c1 : W1.cell? ⟨w.heap.size, 0, none⟩ = some (.int .i64 (k : Nat)) := hW1.1.cell 0; have c2 : W1.cell? ⟨w1.heap.size + 1, 0, none⟩ = some (.int .i64 (a : Nat)) := hW1.2.1.cell 0; have c3 : W1.cell? ⟨w1.heap.size + 1, 1, none⟩ = some (.int .i64 (b : Nat)) := hW1.2.1.cell 1; clear hW1 K1 B1 V1)
    | (refine wpList_load_roww 58 (.tmp 7) rfl w1.heap.size rfl (by rfl) _ _ _ _ X2.out Try.underlying58 rfl (xinfo SX.out) ?_)
    | (go_at_call 34; refine (HAH.out _).mono ?_; clear HAH; rintro e w5 ⟨rfl, b5⟩; have c4 : w5.cell? ⟨w1.heap.size + 1, 0, none⟩ = some (.int .i64 (a : Nat)) := (Y2.out.below b5).cell 0; have B3 := Lib.hid (below_add B2.out b5 B2.out.size); clear b5))
  go_ret
  exact ⟨a + j, by rw [show (((a + j : Nat) : Nat) : Int) = ((a : Nat) : Int) + ((j : Nat) : Int) by omega] <;> rfl, HE.out.1, HE.out.2.1, HE.out.2.2, B3.out⟩
end
end Go.Proofs.Ytjgfgpkaeddjhaa
