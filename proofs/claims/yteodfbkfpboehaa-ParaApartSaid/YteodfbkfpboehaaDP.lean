
import Derived.Test.YteodfbkfpboehaaEA
/- DP: one tree behind the other, what meets melded -/
namespace Go.Proofs.Yteodfbkfpboehaa
open Go.RowKit
set_option linter.unusedVariables false
set_option maxRecDepth 100000

theorem meld_wt (x y : Ck) {B : Nat} (h : x.n + y.n ≤ B) : Wc.wt (melK x y).l ≤ B + 10000 := by
  have h1 : Wc.ln (melK x y).l = x.n + y.n := lnS_l (melK x y)
  have h2 : (melK x y).l.length ≤ 1 := by unfold Ck.l; split <;> simp
  unfold Way.wt
  omega
theorem wt_one {x : Ck} (h : x.l = [x]) : Wc.wt [x] = x.n + 10000 := by
  unfold Way.wt
  rw [← h, show Wc.ln x.l = x.n from lnS_l x, h]; rfl
section
variable {A : ArS Nd} {C : ArS Ck} {T T1 T4 a b : TC}
theorem join_pr_not (ia : a.In Wc A C) (ib : b.In Wc A C) (na : a ≠ .nil) (nb : b ≠ .nil) (hm : melB a.lastx b.firstx = false) (e : T.el Wc = a.el Wc ++ b.el Wc) : Pr (a.el Wc) → Pr (b.el Wc) → Pr (T.el Wc) := by
  obtain ⟨p, ea, -, -⟩ := ia.lastx na
  obtain ⟨s, eb, -, -⟩ := ib.firstx nb
  rw [e, ea, eb]
  exact fun h1 h2 => pr_next h1 h2 (by unfold melB at hm; exact of_decide_eq_false hm)
theorem join_meld_el (ia : a.In Wc A C) (ib : b.In Wc A C) (na : a ≠ .nil) (nb : b ≠ .nil) (hm : melB a.lastx b.firstx = true) (e1 : T1.el Wc ++ a.lastx.l = a.el Wc) (e4 : b.firstx.l ++ T4.el Wc = b.el Wc)
    (e : T.el Wc = (T1.el Wc ++ (melK a.lastx b.firstx).l) ++ T4.el Wc) : flat (T.el Wc) = flat (a.el Wc) ++ flat (b.el Wc) ∧ (Pr (a.el Wc) → Pr (b.el Wc) → Pr (T.el Wc)) ∧ Wc.wt (T.el Wc) ≤ Wc.wt (a.el Wc) + Wc.wt (b.el Wc) := by
  obtain ⟨p, ea, la, -⟩ := ia.lastx na
  obtain ⟨s, eb, lb, -⟩ := ib.firstx nb
  rw [la] at e1
  rw [lb] at e4
  have hd : a.lastx.d.s = b.firstx.d.s := by unfold melB at hm; exact of_decide_eq_true hm
  rw [← e1, ← e4, e]
  refine ⟨flat_meld hd, fun h1 h2 => pr_meld h1 h2 hd, ?_⟩
  have h1 := meld_wt a.lastx b.firstx (Nat.le_refl _)
  have h2 : Wc.wt ([b.firstx] ++ T4.el Wc) = b.firstx.n + 10000 + Wc.wt (T4.el Wc) := by rw [Way.wt_app, wt_one lb]
  rw [h2, Way.wt_app, Way.wt_app, Way.wt_app, wt_one la]
  omega
end
section
variable {Q : Nat} {D : Sv → Prop} {S : Nat → Prop} {tb : Nat} {root : Int} {F : List TC} {w w' W : World}
theorem Sq.swap {a b : TC} (h : Sq D Q S tb root (a :: b :: F) w) : Sq D Q S tb root (b :: a :: F) w := h.perm (List.Perm.swap _ _ _)
theorem Sq.weak {Q' : Nat} (h : Sq D Q S tb root F w) (hq : Q ≤ Q') : Sq D Q' S tb root F w := ⟨h.1, Nat.le_trans h.2 hq⟩
theorem Sq.ends {a b : TC} (h : Sq D Q S tb root (a :: b :: F) w) (na : a ≠ .nil) (nb : b ≠ .nil) : a.lastx.n + b.firstx.n ≤ Q := by
  obtain ⟨⟨an, cn, U, V, A, C, h1, h2⟩, h3⟩ := h
  obtain ⟨p, ea, la, -⟩ := (h2.inn a (by simp)).lastx na
  obtain ⟨s, eb, lb, -⟩ := (h2.inn b (by simp)).firstx nb
  have e1 : Wc.wt (a.el Wc) = Wc.wt p + (a.lastx.n + 10000) := by rw [ea, Way.wt_app, wt_one la]
  have e2 : Wc.wt (b.el Wc) = b.firstx.n + 10000 + Wc.wt s := by rw [eb, show b.firstx :: s = [b.firstx] ++ s from rfl, Way.wt_app, wt_one lb]
  rw [tot_cons, tot_cons, e1, e2] at h3
  omega
theorem Sq.lastd {a : TC} {F : List TC} (h : Sq D Q S tb root F w) (ha : a ∈ F) (na : a ≠ .nil) : D a.lastx.d := by
  have h0 := h
  obtain ⟨⟨an, cn, U, V, A, C, h1, h2⟩, h3⟩ := h
  obtain ⟨p, ea, la, -⟩ := (h2.inn a ha).lastx na
  exact h0.dmem ha (by rw [ea]; simp)
theorem Sq.firstd {a : TC} {F : List TC} (h : Sq D Q S tb root F w) (ha : a ∈ F) (na : a ≠ .nil) : D a.firstx.d := by
  have h0 := h
  obtain ⟨⟨an, cn, U, V, A, C, h1, h2⟩, h3⟩ := h
  obtain ⟨p, ea, la, -⟩ := (h2.inn a ha).firstx na
  exact h0.dmem ha (by rw [ea]; simp)
theorem join_nil1 (a b : TC) (h : Sq D Q S tb root (a :: b :: F) w) (hup : Up S w) (hQ : Q ≤ 4000000000) (ha : .nil = a) :
    Calls Try.prog 45 #[.pointer (some ⟨tb, 0, none⟩), .int .i64 a.id, .int .i64 b.id] w fun e w' => ∃ T : TC, e = .returned (.int .i64 T.id) ∧ flat (T.el Wc) = flat (a.el Wc) ++ flat (b.el Wc) ∧ (Pr (a.el Wc) → Pr (b.el Wc) → Pr (T.el Wc)) ∧ Sq D Q S tb root (T :: F) w' ∧ Off S w w' := by
  have e1 : ((Tr.id a) == -1) = true := by rw [← ha]; rfl
  have HL := Lib.hid (link_any a b h hup hQ)
  have HE := Lib.hid (show a.el Wc = [] by rw [← ha]; rfl)
  clear h hup hQ ha
  go_enter Try.func45, Try.ntmps45
  go_wp2_with (go_at_call 67; refine HL.out.mono ?_; rintro e w1 ⟨T, rfl, nT, eT, ss, oo⟩; have ET := Lib.hid eT; have SS := Lib.hid ss; have OO := Lib.hid oo; clear nT eT ss oo)
  go_ret
  exact ⟨T, rfl, by rw [ET.out, flat_app], fun p q => (by rw [ET.out, HE.out]; exact q), SS.out, OO.out⟩
theorem join_nil2 (a b : TC) (h : Sq D Q S tb root (a :: b :: F) w) (hup : Up S w) (hQ : Q ≤ 4000000000) (hna : a ≠ .nil) (hb : .nil = b) :
    Calls Try.prog 45 #[.pointer (some ⟨tb, 0, none⟩), .int .i64 a.id, .int .i64 b.id] w fun e w' => ∃ T : TC, e = .returned (.int .i64 T.id) ∧ flat (T.el Wc) = flat (a.el Wc) ++ flat (b.el Wc) ∧ (Pr (a.el Wc) → Pr (b.el Wc) → Pr (T.el Wc)) ∧ Sq D Q S tb root (T :: F) w' ∧ Off S w w' := by
  have e1 : ((Tr.id a) == -1) = false := Tr.id_ne hna
  have e2 : ((Tr.id b) == -1) = true := by rw [← hb]; rfl
  have HL := Lib.hid (link_any a b h hup hQ)
  have HE := Lib.hid (show b.el Wc = [] by rw [← hb]; rfl)
  clear h hup hQ hna hb
  go_enter Try.func45, Try.ntmps45
  go_wp2_with (go_at_call 67; refine HL.out.mono ?_; rintro e w1 ⟨T, rfl, nT, eT, ss, oo⟩; have ET := Lib.hid eT; have SS := Lib.hid ss; have OO := Lib.hid oo; clear nT eT ss oo)
  go_ret
  exact ⟨T, rfl, by rw [ET.out, flat_app], fun p q => (by rw [ET.out, HE.out, List.append_nil]; exact p), SS.out, OO.out⟩

set_option maxHeartbeats 4000000 in
theorem join_not (a b : TC) (h : Sq D Q S tb root (a :: b :: F) w) (hup : Up S w) (hQ : Q ≤ 1500000000) (hna : a ≠ .nil) (hnb : b ≠ .nil) (hm : melB a.lastx b.firstx = false) :
    Calls Try.prog 45 #[.pointer (some ⟨tb, 0, none⟩), .int .i64 a.id, .int .i64 b.id] w fun e w' => ∃ T : TC, e = .returned (.int .i64 T.id) ∧ flat (T.el Wc) = flat (a.el Wc) ++ flat (b.el Wc) ∧ (Pr (a.el Wc) → Pr (b.el Wc) → Pr (T.el Wc)) ∧ Sq D Q S tb root (T :: F) w' ∧ Off S w w' := by
  have e1 : ((Tr.id a) == -1) = false := Tr.id_ne hna
  have e2 : ((Tr.id b) == -1) = false := Tr.id_ne hnb
  have H := Lib.hid h
  have HUP := Lib.hid hup
  have HQ := Lib.hid hQ
  have HNA := Lib.hid hna
  have HNB := Lib.hid hnb
  have HMB := Lib.hid hm
  obtain ⟨⟨an, cn, U, V, A, C, h1, h2⟩, -⟩ := h
  have HIA := Lib.hid (h2.inn a (by simp))
  have HIB := Lib.hid (h2.inn b (by simp))
  obtain ⟨x, hx⟩ : ∃ x, a.lastx = x := ⟨_, rfl⟩
  obtain ⟨y, hy⟩ : ∃ y, b.firstx = y := ⟨_, rfl⟩
  have HX := Lib.hid hx
  have HY := Lib.hid hy
  have hxy : x.n + y.n ≤ Q := by rw [← hx, ← hy]; exact H.out.ends hna hnb
  have HXY := Lib.hid hxy
  have hdx : D x.d := by rw [← hx]; exact H.out.lastd (by simp) hna
  have hdy : D y.d := by rw [← hy]; exact H.out.firstd (by simp) hnb
  have HDX := Lib.hid hdx
  have HMEL := Lib.hid (fun w' (hb' : Below w.heap.size w w') => meld_any x y (by omega) w' ((H.out.reads hdx).1.below hb' (Nat.le_refl _)) ((H.out.reads hdy).1.below hb' (Nat.le_refl _)))
  rw [← hx, ← hy, hm, hx, hy] at HMEL
  have HLF := Lib.hid (fun (Q' : Nat) (S' : Nat → Prop) (F' : List TC) (w' : World) (h' : Sq D Q' S' tb root F' w') (hup' : Up S' w') (hQ' : Q' ≤ 4000000000) => leaf_q (melK x y) h' hup' hQ' (show D x.d from HDX.out))
  have SM := Lib.hid (xc_size (melK x y))
  have OM := Lib.hid (krow_one (melK x y))
  unfold cvs at HMEL HLF
  have HTH := Lib.hid (fun (w' : World) (h' : TrM D S tb an cn U V root A C w') (M : Nd) (z : Ck) (hz : ∃ k : Nat, M.thing = (k : Nat) ∧ C.at_ k = some z) => thing_any h' M z (.inl hz))
  unfold cvs at HTH
  obtain ⟨cm, hcm⟩ : ∃ cm, krow (melK x y) = cm := ⟨_, rfl⟩
  rw [hcm] at HMEL HLF SM OM
  obtain ⟨cx, hcx⟩ : ∃ cx, krow x = cx := ⟨_, rfl⟩
  obtain ⟨cy, hcy⟩ : ∃ cy, krow y = cy := ⟨_, rfl⟩
  rw [hcx, hcy] at HMEL
  have HCX := Lib.hid hcx
  have HCY := Lib.hid hcy
  have HT := Lib.hid h1
  clear hup hQ h1 h2 hm hx hy hcm hcx hcy hna hnb hxy hdx hdy
  go_enter Try.func45, Try.ntmps45
  go_upto_region 3 with fail
  refine with_worldT (fun W => W = w) rfl fun W0 hW0 => ?_
  subst hW0
  have T_0 := Lib.hid (HT.out.below (below_drew W0))
  have K_0 := Lib.hid T_0.out.cb
  have B_0 := Lib.hid (show Below W0.heap.size W0 W0.drew from below_drew W0)
  refine h_start (S := fun W => Cb tb 92 (tcs an cn root) W) (by kernel_rfl) ?_
  refine h_val (i := 0) (v := .pointer (some ⟨tb, 0, none⟩)) rfl (by kernel_rfl) (by kernel_rfl) (by kernel_rfl) (fun _ _ _ h => h) (by rfl) (fun wz hS => ?_) K_0.out ?_
  · skip
    go_simp
  go_frame
  refine h_val (i := 1) (v := .pointer (some ⟨tb, 0, none⟩)) rfl (by kernel_rfl) (by kernel_rfl) (by kernel_rfl) (fun _ _ _ h => h) (by rfl) (fun wz hS => ?_) K_0.out ?_
  · skip
    go_simp
  go_frame
  refine h_val (i := 2) (v := .pointer (some ⟨tb, 0, none⟩)) rfl (by kernel_rfl) (by kernel_rfl) (by kernel_rfl) (fun _ _ _ h => h) (by rfl) (fun wz hS => ?_) K_0.out ?_
  · skip
    go_simp
  go_frame
  refine h_val (i := 3) (v := .pointer (some ⟨tb, 2, none⟩)) rfl (by kernel_rfl) (by kernel_rfl) (by kernel_rfl) (fun _ _ _ h => h) (by rfl) (fun wz hS => ?_) K_0.out ?_
  · skip
    go_simp
  go_frame
  refine h_val (i := 4) (v := .func (.func 56) #[] #[]) rfl (by kernel_rfl) (by kernel_rfl) (by kernel_rfl) (fun _ _ _ h => h) (by rfl) (fun wz hS => ?_) K_0.out ?_
  · skip
    have q2 : wz.cell? ⟨tb, 2, none⟩ = some (.func (.func 56) #[] #[]) := hS.cell 2
    go_simp
  go_frame
  refine h_val (i := 5) (v := .pointer (some ⟨tb, 0, none⟩)) rfl (by kernel_rfl) (by kernel_rfl) (by kernel_rfl) (fun _ _ _ h => h) (by rfl) (fun wz hS => ?_) K_0.out ?_
  · skip
    go_simp
  go_frame
  refine h_val (i := 6) (v := .pointer (some ⟨tb, 0, none⟩)) rfl (by kernel_rfl) (by kernel_rfl) (by kernel_rfl) (fun _ _ _ h => h) (by rfl) (fun wz hS => ?_) K_0.out ?_
  · skip
    go_simp
  go_frame
  refine h_val (i := 7) (v := .int .i64 a.id) rfl (by kernel_rfl) (by kernel_rfl) (by kernel_rfl) (fun _ _ _ h => h) (by rfl) (fun wz hS => ?_) K_0.out ?_
  · skip
    go_simp
  go_frame
  refine h_val (i := 10) (v := .pointer (some ⟨tb, 0, none⟩)) rfl (by kernel_rfl) (by kernel_rfl) (by kernel_rfl) (fun _ _ _ h => h) (by rfl) (fun wz hS => ?_) K_0.out ?_
  · skip
    go_simp
  go_frame
  refine h_val (i := 11) (v := .pointer (some ⟨tb, 0, none⟩)) rfl (by kernel_rfl) (by kernel_rfl) (by kernel_rfl) (fun _ _ _ h => h) (by rfl) (fun wz hS => ?_) K_0.out ?_
  · skip
    go_simp
  go_frame
  refine h_val (i := 12) (v := .int .i64 b.id) rfl (by kernel_rfl) (by kernel_rfl) (by kernel_rfl) (fun _ _ _ h => h) (by rfl) (fun wz hS => ?_) K_0.out ?_
  · skip
    go_simp
  go_frame
  refine h_all2 (i := 8) (j := 19) (by kernel_rfl) ?_ ?_
  · skip
    refine o_call (f := 68) (args := #[.pointer (some ⟨tb, 0, none⟩), .int .i64 a.id]) rfl (by rfl) (by go_simp) ?_
    refine (lastT_any a T_0.out HIA.out HNA.out).mono ?_
    rintro e w1 ⟨M1, rfl, hM, b1⟩
    have HM1 := Lib.hid hM
    have K_1 := Lib.hid (K_0.out.below b1)
    have T_1 := Lib.hid (T_0.out.below b1)
    have B_1 := Lib.hid (below_add B_0.out b1 B_0.out.size)
    clear b1 hM
    refine ⟨_, rfl, K_1.out, ?_⟩
    go_frame
    refine h_all2 (i := 9) (j := 19) (by kernel_rfl) ?_ ?_
    · skip
      refine o_call (f := 59) (args := #[.pointer (some ⟨tb, 0, none⟩), ndv M1]) rfl (by rfl) (by go_simp) ?_
      have ht := HTH.out _ T_1.out M1 x (by rw [← HX.out]; exact HM1.out)
      rw [HCX.out] at ht
      refine ht.mono ?_
      clear ht
      rintro e w2 ⟨rfl, b2⟩
      have K_2 := Lib.hid (K_1.out.below b2)
      have T_2 := Lib.hid (T_1.out.below b2)
      have B_2 := Lib.hid (below_add B_1.out b2 B_1.out.size)
      clear b2
      refine ⟨_, rfl, K_2.out, ?_⟩
      go_frame
      refine h_all2 (i := 13) (j := 19) (by kernel_rfl) ?_ ?_
      · skip
        refine o_call (f := 69) (args := #[.pointer (some ⟨tb, 0, none⟩), .int .i64 b.id]) rfl (by rfl) (by go_simp) ?_
        refine (firstT_any b T_2.out HIB.out HNB.out).mono ?_
        rintro e w3 ⟨M2, rfl, hM, b3⟩
        have HM2 := Lib.hid hM
        have K_3 := Lib.hid (K_2.out.below b3)
        have T_3 := Lib.hid (T_2.out.below b3)
        have B_3 := Lib.hid (below_add B_2.out b3 B_2.out.size)
        clear b3 hM
        refine ⟨_, rfl, K_3.out, ?_⟩
        go_frame
        refine h_all2 (i := 14) (j := 19) (by kernel_rfl) ?_ ?_
        · skip
          refine o_call (f := 59) (args := #[.pointer (some ⟨tb, 0, none⟩), ndv M2]) rfl (by rfl) (by go_simp) ?_
          have ht := HTH.out _ T_3.out M2 y (by rw [← HY.out]; exact HM2.out)
          rw [HCY.out] at ht
          refine ht.mono ?_
          clear ht
          rintro e w4 ⟨rfl, b4⟩
          have K_4 := Lib.hid (K_3.out.below b4)
          have T_4 := Lib.hid (T_3.out.below b4)
          have B_4 := Lib.hid (below_add B_3.out b4 B_3.out.size)
          clear b4
          refine ⟨_, rfl, K_4.out, ?_⟩
          go_frame
          refine h_all2 (i := 15) (j := 19) (by kernel_rfl) ?_ ?_
          · skip
            refine o_call (f := 56) (args := #[.agg cx, .agg cy]) rfl (by rfl) (by go_simp) ?_
            refine (HMEL.out _ B_4.out).mono ?_
            rintro e w5 ⟨rfl, b5⟩
            have K_5 := Lib.hid (K_4.out.below b5)
            have T_5 := Lib.hid (T_4.out.below b5)
            have B_5 := Lib.hid (below_add B_4.out b5 B_4.out.size)
            clear b5
            refine ⟨_, rfl, K_5.out, ?_⟩
            go_frame
            refine h_val (i := 16) (v := .tuple #[.agg cm, .bool false]) rfl (by kernel_rfl) (by kernel_rfl) (by kernel_rfl) (fun _ _ _ h => h) (by rfl) (fun wz hS => ?_) K_5.out ?_
            · skip
              go_simp
            go_frame
            refine h_val (i := 17) (v := .agg cm) rfl (by kernel_rfl) (by kernel_rfl) (by kernel_rfl) (fun _ _ _ h => h) (by rfl) (fun wz hS => ?_) K_5.out ?_
            · skip
              go_simp
            go_frame
            refine h_val (i := 18) (v := .bool false) rfl (by kernel_rfl) (by kernel_rfl) (by kernel_rfl) (fun _ _ _ h => h) (by rfl) (fun wz hS => ?_) K_5.out ?_
            · skip
              go_simp
            go_frame
            refine h_all1 (i := 19) (by kernel_rfl) ?_
            refine o_step rfl (by rfl) ?_
            refine wp_alloc_row 61 rfl czr xzero ?_
            have v6 := cb_new w5 61 czr
            have z6 : W0.heap.size ≤ (w5).heap.size := B_5.out.size
            have y6 : tb < (w5).heap.size := K_5.out.lt
            have K_6 := Lib.hid (K_5.out.alloc (.cells czr 61))
            have T_6 := Lib.hid (T_5.out.below (below_alloc1 _ (.cells czr 61)))
            have B_6 := Lib.hid (B_5.out.alloc B_5.out.size (.cells czr 61))
            obtain ⟨b7, e7⟩ : ∃ b7, (w5).heap.size = b7 := ⟨_, rfl⟩
            rw [e7] at v6 z6 y6 ⊢
            have V_6 := Lib.hid v6
            have Z7 := Lib.hid z6
            have Y7 := Lib.hid y6
            clear v6 e7 z6 y6
            refine ⟨K_6.out, ?_⟩
            go_frame
            refine h_all1 (i := 20) (by kernel_rfl) ?_
            refine o_step rfl (by rfl) ?_
            refine wp_store_row 61 (.tmp 7) (.tmp 36) rfl b7 cm rfl rfl _ _ V_6.out (xinfo SM.out) (by rw [SM.out]; exact xz_size) OM.out ?_
            have K_e := Lib.hid (K_6.out.other (c := b7) (by have := Y7.out; omega) cm)
            have V_e := Lib.hid (V_6.out.set cm)
            have B_e := Lib.hid (below_row (cs := cm) B_6.out Z7.out)
            refine ⟨K_e.out, ?_⟩
            go_frame
            refine h_val (i := 21) (v := .bool false) rfl (by kernel_rfl) (by kernel_rfl) (by kernel_rfl) (fun _ _ _ h => h) (by rfl) (fun wz hS => ?_) K_e.out ?_
            · skip
              go_simp
            go_frame
            refine h_done (by kernel_rfl) ?_
            go_wp2_with (go_at_call 67; refine (link_any a b (H.out.below B_e.out) (HUP.out.below B_e.out) (by have := HQ.out; omega)).mono ?_; rintro e w9 ⟨T, rfl, nT, eT, ss, oo⟩; have ET := Lib.hid eT; have SS := Lib.hid ss; have OO := Lib.hid oo; clear nT eT ss oo)
            go_ret
            exact ⟨T, rfl, by rw [ET.out, flat_app], join_pr_not HIA.out HIB.out HNA.out HNB.out HMB.out ET.out, SS.out, Off.below_l B_e.out OO.out⟩
          · skip
            refine o_step rfl (by rfl) ?_
            refine wp_alloc_row 61 rfl czr xzero ?_
            have v8 := cb_new w4 61 czr
            have z8 : W0.heap.size ≤ (w4).heap.size := B_4.out.size
            have y8 : tb < (w4).heap.size := K_4.out.lt
            have K_8 := Lib.hid (K_4.out.alloc (.cells czr 61))
            have T_8 := Lib.hid (T_4.out.below (below_alloc1 _ (.cells czr 61)))
            have B_8 := Lib.hid (B_4.out.alloc B_4.out.size (.cells czr 61))
            obtain ⟨b7, e7⟩ : ∃ b7, (w4).heap.size = b7 := ⟨_, rfl⟩
            rw [e7] at v8 z8 y8 ⊢
            have V_8 := Lib.hid v8
            have Z7 := Lib.hid z8
            have Y7 := Lib.hid y8
            clear v8 e7 z8 y8
            refine ⟨K_8.out, ?_⟩
            go_frame
            refine h_all1 (i := 15) (by kernel_rfl) ?_
            refine o_call (f := 56) (args := #[.agg cx, .agg cy]) rfl (by rfl) (by go_simp) ?_
            refine (HMEL.out _ B_8.out).mono ?_
            rintro e w9 ⟨rfl, b9⟩
            have K_9 := Lib.hid (K_8.out.below b9)
            have T_9 := Lib.hid (T_8.out.below b9)
            have B_9 := Lib.hid (below_add B_8.out b9 B_8.out.size)
            have V_9 := Lib.hid (V_8.out.below b9)
            clear b9
            refine ⟨_, rfl, K_9.out, ?_⟩
            go_frame
            refine h_val (i := 16) (v := .tuple #[.agg cm, .bool false]) rfl (by kernel_rfl) (by kernel_rfl) (by kernel_rfl) (fun _ _ _ h => h) (by rfl) (fun wz hS => ?_) K_9.out ?_
            · skip
              go_simp
            go_frame
            refine h_val (i := 17) (v := .agg cm) rfl (by kernel_rfl) (by kernel_rfl) (by kernel_rfl) (fun _ _ _ h => h) (by rfl) (fun wz hS => ?_) K_9.out ?_
            · skip
              go_simp
            go_frame
            refine h_val (i := 18) (v := .bool false) rfl (by kernel_rfl) (by kernel_rfl) (by kernel_rfl) (fun _ _ _ h => h) (by rfl) (fun wz hS => ?_) K_9.out ?_
            · skip
              go_simp
            go_frame
            refine h_all1 (i := 20) (by kernel_rfl) ?_
            refine o_step rfl (by rfl) ?_
            refine wp_store_row 61 (.tmp 7) (.tmp 36) rfl b7 cm rfl rfl _ _ V_9.out (xinfo SM.out) (by rw [SM.out]; exact xz_size) OM.out ?_
            have K_e := Lib.hid (K_9.out.other (c := b7) (by have := Y7.out; omega) cm)
            have V_e := Lib.hid (V_9.out.set cm)
            have B_e := Lib.hid (below_row (cs := cm) B_9.out Z7.out)
            refine ⟨K_e.out, ?_⟩
            go_frame
            refine h_val (i := 21) (v := .bool false) rfl (by kernel_rfl) (by kernel_rfl) (by kernel_rfl) (fun _ _ _ h => h) (by rfl) (fun wz hS => ?_) K_e.out ?_
            · skip
              go_simp
            go_frame
            refine h_done (by kernel_rfl) ?_
            go_wp2_with (go_at_call 67; refine (link_any a b (H.out.below B_e.out) (HUP.out.below B_e.out) (by have := HQ.out; omega)).mono ?_; rintro e w9 ⟨T, rfl, nT, eT, ss, oo⟩; have ET := Lib.hid eT; have SS := Lib.hid ss; have OO := Lib.hid oo; clear nT eT ss oo)
            go_ret
            exact ⟨T, rfl, by rw [ET.out, flat_app], join_pr_not HIA.out HIB.out HNA.out HNB.out HMB.out ET.out, SS.out, Off.below_l B_e.out OO.out⟩
        · skip
          refine o_step rfl (by rfl) ?_
          refine wp_alloc_row 61 rfl czr xzero ?_
          have v11 := cb_new w3 61 czr
          have z11 : W0.heap.size ≤ (w3).heap.size := B_3.out.size
          have y11 : tb < (w3).heap.size := K_3.out.lt
          have K_11 := Lib.hid (K_3.out.alloc (.cells czr 61))
          have T_11 := Lib.hid (T_3.out.below (below_alloc1 _ (.cells czr 61)))
          have B_11 := Lib.hid (B_3.out.alloc B_3.out.size (.cells czr 61))
          obtain ⟨b7, e7⟩ : ∃ b7, (w3).heap.size = b7 := ⟨_, rfl⟩
          rw [e7] at v11 z11 y11 ⊢
          have V_11 := Lib.hid v11
          have Z7 := Lib.hid z11
          have Y7 := Lib.hid y11
          clear v11 e7 z11 y11
          refine ⟨K_11.out, ?_⟩
          go_frame
          refine h_all1 (i := 14) (by kernel_rfl) ?_
          refine o_call (f := 59) (args := #[.pointer (some ⟨tb, 0, none⟩), ndv M2]) rfl (by rfl) (by go_simp) ?_
          have ht := HTH.out _ T_11.out M2 y (by rw [← HY.out]; exact HM2.out)
          rw [HCY.out] at ht
          refine ht.mono ?_
          clear ht
          rintro e w12 ⟨rfl, b12⟩
          have K_12 := Lib.hid (K_11.out.below b12)
          have T_12 := Lib.hid (T_11.out.below b12)
          have B_12 := Lib.hid (below_add B_11.out b12 B_11.out.size)
          have V_12 := Lib.hid (V_11.out.below b12)
          clear b12
          refine ⟨_, rfl, K_12.out, ?_⟩
          go_frame
          refine h_all1 (i := 15) (by kernel_rfl) ?_
          refine o_call (f := 56) (args := #[.agg cx, .agg cy]) rfl (by rfl) (by go_simp) ?_
          refine (HMEL.out _ B_12.out).mono ?_
          rintro e w13 ⟨rfl, b13⟩
          have K_13 := Lib.hid (K_12.out.below b13)
          have T_13 := Lib.hid (T_12.out.below b13)
          have B_13 := Lib.hid (below_add B_12.out b13 B_12.out.size)
          have V_13 := Lib.hid (V_12.out.below b13)
          clear b13
          refine ⟨_, rfl, K_13.out, ?_⟩
          go_frame
          refine h_val (i := 16) (v := .tuple #[.agg cm, .bool false]) rfl (by kernel_rfl) (by kernel_rfl) (by kernel_rfl) (fun _ _ _ h => h) (by rfl) (fun wz hS => ?_) K_13.out ?_
          · skip
            go_simp
          go_frame
          refine h_val (i := 17) (v := .agg cm) rfl (by kernel_rfl) (by kernel_rfl) (by kernel_rfl) (fun _ _ _ h => h) (by rfl) (fun wz hS => ?_) K_13.out ?_
          · skip
            go_simp
          go_frame
          refine h_val (i := 18) (v := .bool false) rfl (by kernel_rfl) (by kernel_rfl) (by kernel_rfl) (fun _ _ _ h => h) (by rfl) (fun wz hS => ?_) K_13.out ?_
          · skip
            go_simp
          go_frame
          refine h_all1 (i := 20) (by kernel_rfl) ?_
          refine o_step rfl (by rfl) ?_
          refine wp_store_row 61 (.tmp 7) (.tmp 36) rfl b7 cm rfl rfl _ _ V_13.out (xinfo SM.out) (by rw [SM.out]; exact xz_size) OM.out ?_
          have K_e := Lib.hid (K_13.out.other (c := b7) (by have := Y7.out; omega) cm)
          have V_e := Lib.hid (V_13.out.set cm)
          have B_e := Lib.hid (below_row (cs := cm) B_13.out Z7.out)
          refine ⟨K_e.out, ?_⟩
          go_frame
          refine h_val (i := 21) (v := .bool false) rfl (by kernel_rfl) (by kernel_rfl) (by kernel_rfl) (fun _ _ _ h => h) (by rfl) (fun wz hS => ?_) K_e.out ?_
          · skip
            go_simp
          go_frame
          refine h_done (by kernel_rfl) ?_
          go_wp2_with (go_at_call 67; refine (link_any a b (H.out.below B_e.out) (HUP.out.below B_e.out) (by have := HQ.out; omega)).mono ?_; rintro e w9 ⟨T, rfl, nT, eT, ss, oo⟩; have ET := Lib.hid eT; have SS := Lib.hid ss; have OO := Lib.hid oo; clear nT eT ss oo)
          go_ret
          exact ⟨T, rfl, by rw [ET.out, flat_app], join_pr_not HIA.out HIB.out HNA.out HNB.out HMB.out ET.out, SS.out, Off.below_l B_e.out OO.out⟩
      · skip
        refine o_step rfl (by rfl) ?_
        refine wp_alloc_row 61 rfl czr xzero ?_
        have v15 := cb_new w2 61 czr
        have z15 : W0.heap.size ≤ (w2).heap.size := B_2.out.size
        have y15 : tb < (w2).heap.size := K_2.out.lt
        have K_15 := Lib.hid (K_2.out.alloc (.cells czr 61))
        have T_15 := Lib.hid (T_2.out.below (below_alloc1 _ (.cells czr 61)))
        have B_15 := Lib.hid (B_2.out.alloc B_2.out.size (.cells czr 61))
        obtain ⟨b7, e7⟩ : ∃ b7, (w2).heap.size = b7 := ⟨_, rfl⟩
        rw [e7] at v15 z15 y15 ⊢
        have V_15 := Lib.hid v15
        have Z7 := Lib.hid z15
        have Y7 := Lib.hid y15
        clear v15 e7 z15 y15
        refine ⟨K_15.out, ?_⟩
        go_frame
        refine h_all1 (i := 13) (by kernel_rfl) ?_
        refine o_call (f := 69) (args := #[.pointer (some ⟨tb, 0, none⟩), .int .i64 b.id]) rfl (by rfl) (by go_simp) ?_
        refine (firstT_any b T_15.out HIB.out HNB.out).mono ?_
        rintro e w16 ⟨M2, rfl, hM, b16⟩
        have HM2 := Lib.hid hM
        have K_16 := Lib.hid (K_15.out.below b16)
        have T_16 := Lib.hid (T_15.out.below b16)
        have B_16 := Lib.hid (below_add B_15.out b16 B_15.out.size)
        have V_16 := Lib.hid (V_15.out.below b16)
        clear b16 hM
        refine ⟨_, rfl, K_16.out, ?_⟩
        go_frame
        refine h_all1 (i := 14) (by kernel_rfl) ?_
        refine o_call (f := 59) (args := #[.pointer (some ⟨tb, 0, none⟩), ndv M2]) rfl (by rfl) (by go_simp) ?_
        have ht := HTH.out _ T_16.out M2 y (by rw [← HY.out]; exact HM2.out)
        rw [HCY.out] at ht
        refine ht.mono ?_
        clear ht
        rintro e w17 ⟨rfl, b17⟩
        have K_17 := Lib.hid (K_16.out.below b17)
        have T_17 := Lib.hid (T_16.out.below b17)
        have B_17 := Lib.hid (below_add B_16.out b17 B_16.out.size)
        have V_17 := Lib.hid (V_16.out.below b17)
        clear b17
        refine ⟨_, rfl, K_17.out, ?_⟩
        go_frame
        refine h_all1 (i := 15) (by kernel_rfl) ?_
        refine o_call (f := 56) (args := #[.agg cx, .agg cy]) rfl (by rfl) (by go_simp) ?_
        refine (HMEL.out _ B_17.out).mono ?_
        rintro e w18 ⟨rfl, b18⟩
        have K_18 := Lib.hid (K_17.out.below b18)
        have T_18 := Lib.hid (T_17.out.below b18)
        have B_18 := Lib.hid (below_add B_17.out b18 B_17.out.size)
        have V_18 := Lib.hid (V_17.out.below b18)
        clear b18
        refine ⟨_, rfl, K_18.out, ?_⟩
        go_frame
        refine h_val (i := 16) (v := .tuple #[.agg cm, .bool false]) rfl (by kernel_rfl) (by kernel_rfl) (by kernel_rfl) (fun _ _ _ h => h) (by rfl) (fun wz hS => ?_) K_18.out ?_
        · skip
          go_simp
        go_frame
        refine h_val (i := 17) (v := .agg cm) rfl (by kernel_rfl) (by kernel_rfl) (by kernel_rfl) (fun _ _ _ h => h) (by rfl) (fun wz hS => ?_) K_18.out ?_
        · skip
          go_simp
        go_frame
        refine h_val (i := 18) (v := .bool false) rfl (by kernel_rfl) (by kernel_rfl) (by kernel_rfl) (fun _ _ _ h => h) (by rfl) (fun wz hS => ?_) K_18.out ?_
        · skip
          go_simp
        go_frame
        refine h_all1 (i := 20) (by kernel_rfl) ?_
        refine o_step rfl (by rfl) ?_
        refine wp_store_row 61 (.tmp 7) (.tmp 36) rfl b7 cm rfl rfl _ _ V_18.out (xinfo SM.out) (by rw [SM.out]; exact xz_size) OM.out ?_
        have K_e := Lib.hid (K_18.out.other (c := b7) (by have := Y7.out; omega) cm)
        have V_e := Lib.hid (V_18.out.set cm)
        have B_e := Lib.hid (below_row (cs := cm) B_18.out Z7.out)
        refine ⟨K_e.out, ?_⟩
        go_frame
        refine h_val (i := 21) (v := .bool false) rfl (by kernel_rfl) (by kernel_rfl) (by kernel_rfl) (fun _ _ _ h => h) (by rfl) (fun wz hS => ?_) K_e.out ?_
        · skip
          go_simp
        go_frame
        refine h_done (by kernel_rfl) ?_
        go_wp2_with (go_at_call 67; refine (link_any a b (H.out.below B_e.out) (HUP.out.below B_e.out) (by have := HQ.out; omega)).mono ?_; rintro e w9 ⟨T, rfl, nT, eT, ss, oo⟩; have ET := Lib.hid eT; have SS := Lib.hid ss; have OO := Lib.hid oo; clear nT eT ss oo)
        go_ret
        exact ⟨T, rfl, by rw [ET.out, flat_app], join_pr_not HIA.out HIB.out HNA.out HNB.out HMB.out ET.out, SS.out, Off.below_l B_e.out OO.out⟩
    · skip
      refine o_step rfl (by rfl) ?_
      refine wp_alloc_row 61 rfl czr xzero ?_
      have v20 := cb_new w1 61 czr
      have z20 : W0.heap.size ≤ (w1).heap.size := B_1.out.size
      have y20 : tb < (w1).heap.size := K_1.out.lt
      have K_20 := Lib.hid (K_1.out.alloc (.cells czr 61))
      have T_20 := Lib.hid (T_1.out.below (below_alloc1 _ (.cells czr 61)))
      have B_20 := Lib.hid (B_1.out.alloc B_1.out.size (.cells czr 61))
      obtain ⟨b7, e7⟩ : ∃ b7, (w1).heap.size = b7 := ⟨_, rfl⟩
      rw [e7] at v20 z20 y20 ⊢
      have V_20 := Lib.hid v20
      have Z7 := Lib.hid z20
      have Y7 := Lib.hid y20
      clear v20 e7 z20 y20
      refine ⟨K_20.out, ?_⟩
      go_frame
      refine h_all1 (i := 9) (by kernel_rfl) ?_
      refine o_call (f := 59) (args := #[.pointer (some ⟨tb, 0, none⟩), ndv M1]) rfl (by rfl) (by go_simp) ?_
      have ht := HTH.out _ T_20.out M1 x (by rw [← HX.out]; exact HM1.out)
      rw [HCX.out] at ht
      refine ht.mono ?_
      clear ht
      rintro e w21 ⟨rfl, b21⟩
      have K_21 := Lib.hid (K_20.out.below b21)
      have T_21 := Lib.hid (T_20.out.below b21)
      have B_21 := Lib.hid (below_add B_20.out b21 B_20.out.size)
      have V_21 := Lib.hid (V_20.out.below b21)
      clear b21
      refine ⟨_, rfl, K_21.out, ?_⟩
      go_frame
      refine h_all1 (i := 13) (by kernel_rfl) ?_
      refine o_call (f := 69) (args := #[.pointer (some ⟨tb, 0, none⟩), .int .i64 b.id]) rfl (by rfl) (by go_simp) ?_
      refine (firstT_any b T_21.out HIB.out HNB.out).mono ?_
      rintro e w22 ⟨M2, rfl, hM, b22⟩
      have HM2 := Lib.hid hM
      have K_22 := Lib.hid (K_21.out.below b22)
      have T_22 := Lib.hid (T_21.out.below b22)
      have B_22 := Lib.hid (below_add B_21.out b22 B_21.out.size)
      have V_22 := Lib.hid (V_21.out.below b22)
      clear b22 hM
      refine ⟨_, rfl, K_22.out, ?_⟩
      go_frame
      refine h_all1 (i := 14) (by kernel_rfl) ?_
      refine o_call (f := 59) (args := #[.pointer (some ⟨tb, 0, none⟩), ndv M2]) rfl (by rfl) (by go_simp) ?_
      have ht := HTH.out _ T_22.out M2 y (by rw [← HY.out]; exact HM2.out)
      rw [HCY.out] at ht
      refine ht.mono ?_
      clear ht
      rintro e w23 ⟨rfl, b23⟩
      have K_23 := Lib.hid (K_22.out.below b23)
      have T_23 := Lib.hid (T_22.out.below b23)
      have B_23 := Lib.hid (below_add B_22.out b23 B_22.out.size)
      have V_23 := Lib.hid (V_22.out.below b23)
      clear b23
      refine ⟨_, rfl, K_23.out, ?_⟩
      go_frame
      refine h_all1 (i := 15) (by kernel_rfl) ?_
      refine o_call (f := 56) (args := #[.agg cx, .agg cy]) rfl (by rfl) (by go_simp) ?_
      refine (HMEL.out _ B_23.out).mono ?_
      rintro e w24 ⟨rfl, b24⟩
      have K_24 := Lib.hid (K_23.out.below b24)
      have T_24 := Lib.hid (T_23.out.below b24)
      have B_24 := Lib.hid (below_add B_23.out b24 B_23.out.size)
      have V_24 := Lib.hid (V_23.out.below b24)
      clear b24
      refine ⟨_, rfl, K_24.out, ?_⟩
      go_frame
      refine h_val (i := 16) (v := .tuple #[.agg cm, .bool false]) rfl (by kernel_rfl) (by kernel_rfl) (by kernel_rfl) (fun _ _ _ h => h) (by rfl) (fun wz hS => ?_) K_24.out ?_
      · skip
        go_simp
      go_frame
      refine h_val (i := 17) (v := .agg cm) rfl (by kernel_rfl) (by kernel_rfl) (by kernel_rfl) (fun _ _ _ h => h) (by rfl) (fun wz hS => ?_) K_24.out ?_
      · skip
        go_simp
      go_frame
      refine h_val (i := 18) (v := .bool false) rfl (by kernel_rfl) (by kernel_rfl) (by kernel_rfl) (fun _ _ _ h => h) (by rfl) (fun wz hS => ?_) K_24.out ?_
      · skip
        go_simp
      go_frame
      refine h_all1 (i := 20) (by kernel_rfl) ?_
      refine o_step rfl (by rfl) ?_
      refine wp_store_row 61 (.tmp 7) (.tmp 36) rfl b7 cm rfl rfl _ _ V_24.out (xinfo SM.out) (by rw [SM.out]; exact xz_size) OM.out ?_
      have K_e := Lib.hid (K_24.out.other (c := b7) (by have := Y7.out; omega) cm)
      have V_e := Lib.hid (V_24.out.set cm)
      have B_e := Lib.hid (below_row (cs := cm) B_24.out Z7.out)
      refine ⟨K_e.out, ?_⟩
      go_frame
      refine h_val (i := 21) (v := .bool false) rfl (by kernel_rfl) (by kernel_rfl) (by kernel_rfl) (fun _ _ _ h => h) (by rfl) (fun wz hS => ?_) K_e.out ?_
      · skip
        go_simp
      go_frame
      refine h_done (by kernel_rfl) ?_
      go_wp2_with (go_at_call 67; refine (link_any a b (H.out.below B_e.out) (HUP.out.below B_e.out) (by have := HQ.out; omega)).mono ?_; rintro e w9 ⟨T, rfl, nT, eT, ss, oo⟩; have ET := Lib.hid eT; have SS := Lib.hid ss; have OO := Lib.hid oo; clear nT eT ss oo)
      go_ret
      exact ⟨T, rfl, by rw [ET.out, flat_app], join_pr_not HIA.out HIB.out HNA.out HNB.out HMB.out ET.out, SS.out, Off.below_l B_e.out OO.out⟩
  · skip
    refine o_step rfl (by rfl) ?_
    refine wp_alloc_row 61 rfl czr xzero ?_
    have v26 := cb_new W0.drew 61 czr
    have z26 : W0.heap.size ≤ (W0.drew).heap.size := B_0.out.size
    have y26 : tb < (W0.drew).heap.size := K_0.out.lt
    have K_26 := Lib.hid (K_0.out.alloc (.cells czr 61))
    have T_26 := Lib.hid (T_0.out.below (below_alloc1 _ (.cells czr 61)))
    have B_26 := Lib.hid (B_0.out.alloc B_0.out.size (.cells czr 61))
    obtain ⟨b7, e7⟩ : ∃ b7, (W0.drew).heap.size = b7 := ⟨_, rfl⟩
    rw [e7] at v26 z26 y26 ⊢
    have V_26 := Lib.hid v26
    have Z7 := Lib.hid z26
    have Y7 := Lib.hid y26
    clear v26 e7 z26 y26
    refine ⟨K_26.out, ?_⟩
    go_frame
    refine h_all1 (i := 8) (by kernel_rfl) ?_
    refine o_call (f := 68) (args := #[.pointer (some ⟨tb, 0, none⟩), .int .i64 a.id]) rfl (by rfl) (by go_simp) ?_
    refine (lastT_any a T_26.out HIA.out HNA.out).mono ?_
    rintro e w27 ⟨M1, rfl, hM, b27⟩
    have HM1 := Lib.hid hM
    have K_27 := Lib.hid (K_26.out.below b27)
    have T_27 := Lib.hid (T_26.out.below b27)
    have B_27 := Lib.hid (below_add B_26.out b27 B_26.out.size)
    have V_27 := Lib.hid (V_26.out.below b27)
    clear b27 hM
    refine ⟨_, rfl, K_27.out, ?_⟩
    go_frame
    refine h_all1 (i := 9) (by kernel_rfl) ?_
    refine o_call (f := 59) (args := #[.pointer (some ⟨tb, 0, none⟩), ndv M1]) rfl (by rfl) (by go_simp) ?_
    have ht := HTH.out _ T_27.out M1 x (by rw [← HX.out]; exact HM1.out)
    rw [HCX.out] at ht
    refine ht.mono ?_
    clear ht
    rintro e w28 ⟨rfl, b28⟩
    have K_28 := Lib.hid (K_27.out.below b28)
    have T_28 := Lib.hid (T_27.out.below b28)
    have B_28 := Lib.hid (below_add B_27.out b28 B_27.out.size)
    have V_28 := Lib.hid (V_27.out.below b28)
    clear b28
    refine ⟨_, rfl, K_28.out, ?_⟩
    go_frame
    refine h_all1 (i := 13) (by kernel_rfl) ?_
    refine o_call (f := 69) (args := #[.pointer (some ⟨tb, 0, none⟩), .int .i64 b.id]) rfl (by rfl) (by go_simp) ?_
    refine (firstT_any b T_28.out HIB.out HNB.out).mono ?_
    rintro e w29 ⟨M2, rfl, hM, b29⟩
    have HM2 := Lib.hid hM
    have K_29 := Lib.hid (K_28.out.below b29)
    have T_29 := Lib.hid (T_28.out.below b29)
    have B_29 := Lib.hid (below_add B_28.out b29 B_28.out.size)
    have V_29 := Lib.hid (V_28.out.below b29)
    clear b29 hM
    refine ⟨_, rfl, K_29.out, ?_⟩
    go_frame
    refine h_all1 (i := 14) (by kernel_rfl) ?_
    refine o_call (f := 59) (args := #[.pointer (some ⟨tb, 0, none⟩), ndv M2]) rfl (by rfl) (by go_simp) ?_
    have ht := HTH.out _ T_29.out M2 y (by rw [← HY.out]; exact HM2.out)
    rw [HCY.out] at ht
    refine ht.mono ?_
    clear ht
    rintro e w30 ⟨rfl, b30⟩
    have K_30 := Lib.hid (K_29.out.below b30)
    have T_30 := Lib.hid (T_29.out.below b30)
    have B_30 := Lib.hid (below_add B_29.out b30 B_29.out.size)
    have V_30 := Lib.hid (V_29.out.below b30)
    clear b30
    refine ⟨_, rfl, K_30.out, ?_⟩
    go_frame
    refine h_all1 (i := 15) (by kernel_rfl) ?_
    refine o_call (f := 56) (args := #[.agg cx, .agg cy]) rfl (by rfl) (by go_simp) ?_
    refine (HMEL.out _ B_30.out).mono ?_
    rintro e w31 ⟨rfl, b31⟩
    have K_31 := Lib.hid (K_30.out.below b31)
    have T_31 := Lib.hid (T_30.out.below b31)
    have B_31 := Lib.hid (below_add B_30.out b31 B_30.out.size)
    have V_31 := Lib.hid (V_30.out.below b31)
    clear b31
    refine ⟨_, rfl, K_31.out, ?_⟩
    go_frame
    refine h_val (i := 16) (v := .tuple #[.agg cm, .bool false]) rfl (by kernel_rfl) (by kernel_rfl) (by kernel_rfl) (fun _ _ _ h => h) (by rfl) (fun wz hS => ?_) K_31.out ?_
    · skip
      go_simp
    go_frame
    refine h_val (i := 17) (v := .agg cm) rfl (by kernel_rfl) (by kernel_rfl) (by kernel_rfl) (fun _ _ _ h => h) (by rfl) (fun wz hS => ?_) K_31.out ?_
    · skip
      go_simp
    go_frame
    refine h_val (i := 18) (v := .bool false) rfl (by kernel_rfl) (by kernel_rfl) (by kernel_rfl) (fun _ _ _ h => h) (by rfl) (fun wz hS => ?_) K_31.out ?_
    · skip
      go_simp
    go_frame
    refine h_all1 (i := 20) (by kernel_rfl) ?_
    refine o_step rfl (by rfl) ?_
    refine wp_store_row 61 (.tmp 7) (.tmp 36) rfl b7 cm rfl rfl _ _ V_31.out (xinfo SM.out) (by rw [SM.out]; exact xz_size) OM.out ?_
    have K_e := Lib.hid (K_31.out.other (c := b7) (by have := Y7.out; omega) cm)
    have V_e := Lib.hid (V_31.out.set cm)
    have B_e := Lib.hid (below_row (cs := cm) B_31.out Z7.out)
    refine ⟨K_e.out, ?_⟩
    go_frame
    refine h_val (i := 21) (v := .bool false) rfl (by kernel_rfl) (by kernel_rfl) (by kernel_rfl) (fun _ _ _ h => h) (by rfl) (fun wz hS => ?_) K_e.out ?_
    · skip
      go_simp
    go_frame
    refine h_done (by kernel_rfl) ?_
    go_wp2_with (go_at_call 67; refine (link_any a b (H.out.below B_e.out) (HUP.out.below B_e.out) (by have := HQ.out; omega)).mono ?_; rintro e w9 ⟨T, rfl, nT, eT, ss, oo⟩; have ET := Lib.hid eT; have SS := Lib.hid ss; have OO := Lib.hid oo; clear nT eT ss oo)
    go_ret
    exact ⟨T, rfl, by rw [ET.out, flat_app], join_pr_not HIA.out HIB.out HNA.out HNB.out HMB.out ET.out, SS.out, Off.below_l B_e.out OO.out⟩

set_option maxHeartbeats 4000000 in
theorem join_meld (a b : TC) (h : Sq D Q S tb root (a :: b :: F) w) (hup : Up S w) (hQ : Q ≤ 1500000000) (hna : a ≠ .nil) (hnb : b ≠ .nil) (hm : melB a.lastx b.firstx = true) :
    Calls Try.prog 45 #[.pointer (some ⟨tb, 0, none⟩), .int .i64 a.id, .int .i64 b.id] w fun e w' => ∃ T : TC, e = .returned (.int .i64 T.id) ∧ flat (T.el Wc) = flat (a.el Wc) ++ flat (b.el Wc) ∧ (Pr (a.el Wc) → Pr (b.el Wc) → Pr (T.el Wc)) ∧ Sq D Q S tb root (T :: F) w' ∧ Off S w w' := by
  have e1 : ((Tr.id a) == -1) = false := Tr.id_ne hna
  have e2 : ((Tr.id b) == -1) = false := Tr.id_ne hnb
  have H := Lib.hid h
  have HUP := Lib.hid hup
  have HQ := Lib.hid hQ
  have HNA := Lib.hid hna
  have HNB := Lib.hid hnb
  have HMB := Lib.hid hm
  obtain ⟨⟨an, cn, U, V, A, C, h1, h2⟩, -⟩ := h
  have HIA := Lib.hid (h2.inn a (by simp))
  have HIB := Lib.hid (h2.inn b (by simp))
  obtain ⟨x, hx⟩ : ∃ x, a.lastx = x := ⟨_, rfl⟩
  obtain ⟨y, hy⟩ : ∃ y, b.firstx = y := ⟨_, rfl⟩
  have HX := Lib.hid hx
  have HY := Lib.hid hy
  have hxy : x.n + y.n ≤ Q := by rw [← hx, ← hy]; exact H.out.ends hna hnb
  have HXY := Lib.hid hxy
  have hdx : D x.d := by rw [← hx]; exact H.out.lastd (by simp) hna
  have hdy : D y.d := by rw [← hy]; exact H.out.firstd (by simp) hnb
  have HDX := Lib.hid hdx
  have HMEL := Lib.hid (fun w' (hb' : Below w.heap.size w w') => meld_any x y (by omega) w' ((H.out.reads hdx).1.below hb' (Nat.le_refl _)) ((H.out.reads hdy).1.below hb' (Nat.le_refl _)))
  rw [← hx, ← hy, hm, hx, hy] at HMEL
  have HLF := Lib.hid (fun (Q' : Nat) (S' : Nat → Prop) (F' : List TC) (w' : World) (h' : Sq D Q' S' tb root F' w') (hup' : Up S' w') (hQ' : Q' ≤ 4000000000) => leaf_q (melK x y) h' hup' hQ' (show D x.d from HDX.out))
  have SM := Lib.hid (xc_size (melK x y))
  have OM := Lib.hid (krow_one (melK x y))
  unfold cvs at HMEL HLF
  have HTH := Lib.hid (fun (w' : World) (h' : TrM D S tb an cn U V root A C w') (M : Nd) (z : Ck) (hz : ∃ k : Nat, M.thing = (k : Nat) ∧ C.at_ k = some z) => thing_any h' M z (.inl hz))
  unfold cvs at HTH
  obtain ⟨cm, hcm⟩ : ∃ cm, krow (melK x y) = cm := ⟨_, rfl⟩
  rw [hcm] at HMEL HLF SM OM
  obtain ⟨cx, hcx⟩ : ∃ cx, krow x = cx := ⟨_, rfl⟩
  obtain ⟨cy, hcy⟩ : ∃ cy, krow y = cy := ⟨_, rfl⟩
  rw [hcx, hcy] at HMEL
  have HCX := Lib.hid hcx
  have HCY := Lib.hid hcy
  have HT := Lib.hid h1
  clear hup hQ h1 h2 hm hx hy hcm hcx hcy hna hnb hxy hdx hdy
  go_enter Try.func45, Try.ntmps45
  go_upto_region 3 with fail
  refine with_worldT (fun W => W = w) rfl fun W0 hW0 => ?_
  subst hW0
  have T_0 := Lib.hid (HT.out.below (below_drew W0))
  have K_0 := Lib.hid T_0.out.cb
  have B_0 := Lib.hid (show Below W0.heap.size W0 W0.drew from below_drew W0)
  refine h_start (S := fun W => Cb tb 92 (tcs an cn root) W) (by kernel_rfl) ?_
  refine h_val (i := 0) (v := .pointer (some ⟨tb, 0, none⟩)) rfl (by kernel_rfl) (by kernel_rfl) (by kernel_rfl) (fun _ _ _ h => h) (by rfl) (fun wz hS => ?_) K_0.out ?_
  · skip
    go_simp
  go_frame
  refine h_val (i := 1) (v := .pointer (some ⟨tb, 0, none⟩)) rfl (by kernel_rfl) (by kernel_rfl) (by kernel_rfl) (fun _ _ _ h => h) (by rfl) (fun wz hS => ?_) K_0.out ?_
  · skip
    go_simp
  go_frame
  refine h_val (i := 2) (v := .pointer (some ⟨tb, 0, none⟩)) rfl (by kernel_rfl) (by kernel_rfl) (by kernel_rfl) (fun _ _ _ h => h) (by rfl) (fun wz hS => ?_) K_0.out ?_
  · skip
    go_simp
  go_frame
  refine h_val (i := 3) (v := .pointer (some ⟨tb, 2, none⟩)) rfl (by kernel_rfl) (by kernel_rfl) (by kernel_rfl) (fun _ _ _ h => h) (by rfl) (fun wz hS => ?_) K_0.out ?_
  · skip
    go_simp
  go_frame
  refine h_val (i := 4) (v := .func (.func 56) #[] #[]) rfl (by kernel_rfl) (by kernel_rfl) (by kernel_rfl) (fun _ _ _ h => h) (by rfl) (fun wz hS => ?_) K_0.out ?_
  · skip
    have q2 : wz.cell? ⟨tb, 2, none⟩ = some (.func (.func 56) #[] #[]) := hS.cell 2
    go_simp
  go_frame
  refine h_val (i := 5) (v := .pointer (some ⟨tb, 0, none⟩)) rfl (by kernel_rfl) (by kernel_rfl) (by kernel_rfl) (fun _ _ _ h => h) (by rfl) (fun wz hS => ?_) K_0.out ?_
  · skip
    go_simp
  go_frame
  refine h_val (i := 6) (v := .pointer (some ⟨tb, 0, none⟩)) rfl (by kernel_rfl) (by kernel_rfl) (by kernel_rfl) (fun _ _ _ h => h) (by rfl) (fun wz hS => ?_) K_0.out ?_
  · skip
    go_simp
  go_frame
  refine h_val (i := 7) (v := .int .i64 a.id) rfl (by kernel_rfl) (by kernel_rfl) (by kernel_rfl) (fun _ _ _ h => h) (by rfl) (fun wz hS => ?_) K_0.out ?_
  · skip
    go_simp
  go_frame
  refine h_val (i := 10) (v := .pointer (some ⟨tb, 0, none⟩)) rfl (by kernel_rfl) (by kernel_rfl) (by kernel_rfl) (fun _ _ _ h => h) (by rfl) (fun wz hS => ?_) K_0.out ?_
  · skip
    go_simp
  go_frame
  refine h_val (i := 11) (v := .pointer (some ⟨tb, 0, none⟩)) rfl (by kernel_rfl) (by kernel_rfl) (by kernel_rfl) (fun _ _ _ h => h) (by rfl) (fun wz hS => ?_) K_0.out ?_
  · skip
    go_simp
  go_frame
  refine h_val (i := 12) (v := .int .i64 b.id) rfl (by kernel_rfl) (by kernel_rfl) (by kernel_rfl) (fun _ _ _ h => h) (by rfl) (fun wz hS => ?_) K_0.out ?_
  · skip
    go_simp
  go_frame
  refine h_all2 (i := 8) (j := 19) (by kernel_rfl) ?_ ?_
  · skip
    refine o_call (f := 68) (args := #[.pointer (some ⟨tb, 0, none⟩), .int .i64 a.id]) rfl (by rfl) (by go_simp) ?_
    refine (lastT_any a T_0.out HIA.out HNA.out).mono ?_
    rintro e w1 ⟨M1, rfl, hM, b1⟩
    have HM1 := Lib.hid hM
    have K_1 := Lib.hid (K_0.out.below b1)
    have T_1 := Lib.hid (T_0.out.below b1)
    have B_1 := Lib.hid (below_add B_0.out b1 B_0.out.size)
    clear b1 hM
    refine ⟨_, rfl, K_1.out, ?_⟩
    go_frame
    refine h_all2 (i := 9) (j := 19) (by kernel_rfl) ?_ ?_
    · skip
      refine o_call (f := 59) (args := #[.pointer (some ⟨tb, 0, none⟩), ndv M1]) rfl (by rfl) (by go_simp) ?_
      have ht := HTH.out _ T_1.out M1 x (by rw [← HX.out]; exact HM1.out)
      rw [HCX.out] at ht
      refine ht.mono ?_
      clear ht
      rintro e w2 ⟨rfl, b2⟩
      have K_2 := Lib.hid (K_1.out.below b2)
      have T_2 := Lib.hid (T_1.out.below b2)
      have B_2 := Lib.hid (below_add B_1.out b2 B_1.out.size)
      clear b2
      refine ⟨_, rfl, K_2.out, ?_⟩
      go_frame
      refine h_all2 (i := 13) (j := 19) (by kernel_rfl) ?_ ?_
      · skip
        refine o_call (f := 69) (args := #[.pointer (some ⟨tb, 0, none⟩), .int .i64 b.id]) rfl (by rfl) (by go_simp) ?_
        refine (firstT_any b T_2.out HIB.out HNB.out).mono ?_
        rintro e w3 ⟨M2, rfl, hM, b3⟩
        have HM2 := Lib.hid hM
        have K_3 := Lib.hid (K_2.out.below b3)
        have T_3 := Lib.hid (T_2.out.below b3)
        have B_3 := Lib.hid (below_add B_2.out b3 B_2.out.size)
        clear b3 hM
        refine ⟨_, rfl, K_3.out, ?_⟩
        go_frame
        refine h_all2 (i := 14) (j := 19) (by kernel_rfl) ?_ ?_
        · skip
          refine o_call (f := 59) (args := #[.pointer (some ⟨tb, 0, none⟩), ndv M2]) rfl (by rfl) (by go_simp) ?_
          have ht := HTH.out _ T_3.out M2 y (by rw [← HY.out]; exact HM2.out)
          rw [HCY.out] at ht
          refine ht.mono ?_
          clear ht
          rintro e w4 ⟨rfl, b4⟩
          have K_4 := Lib.hid (K_3.out.below b4)
          have T_4 := Lib.hid (T_3.out.below b4)
          have B_4 := Lib.hid (below_add B_3.out b4 B_3.out.size)
          clear b4
          refine ⟨_, rfl, K_4.out, ?_⟩
          go_frame
          refine h_all2 (i := 15) (j := 19) (by kernel_rfl) ?_ ?_
          · skip
            refine o_call (f := 56) (args := #[.agg cx, .agg cy]) rfl (by rfl) (by go_simp) ?_
            refine (HMEL.out _ B_4.out).mono ?_
            rintro e w5 ⟨rfl, b5⟩
            have K_5 := Lib.hid (K_4.out.below b5)
            have T_5 := Lib.hid (T_4.out.below b5)
            have B_5 := Lib.hid (below_add B_4.out b5 B_4.out.size)
            clear b5
            refine ⟨_, rfl, K_5.out, ?_⟩
            go_frame
            refine h_val (i := 16) (v := .tuple #[.agg cm, .bool true]) rfl (by kernel_rfl) (by kernel_rfl) (by kernel_rfl) (fun _ _ _ h => h) (by rfl) (fun wz hS => ?_) K_5.out ?_
            · skip
              go_simp
            go_frame
            refine h_val (i := 17) (v := .agg cm) rfl (by kernel_rfl) (by kernel_rfl) (by kernel_rfl) (fun _ _ _ h => h) (by rfl) (fun wz hS => ?_) K_5.out ?_
            · skip
              go_simp
            go_frame
            refine h_val (i := 18) (v := .bool true) rfl (by kernel_rfl) (by kernel_rfl) (by kernel_rfl) (fun _ _ _ h => h) (by rfl) (fun wz hS => ?_) K_5.out ?_
            · skip
              go_simp
            go_frame
            refine h_all1 (i := 19) (by kernel_rfl) ?_
            refine o_step rfl (by rfl) ?_
            refine wp_alloc_row 61 rfl czr xzero ?_
            have v6 := cb_new w5 61 czr
            have z6 : W0.heap.size ≤ (w5).heap.size := B_5.out.size
            have y6 : tb < (w5).heap.size := K_5.out.lt
            have K_6 := Lib.hid (K_5.out.alloc (.cells czr 61))
            have T_6 := Lib.hid (T_5.out.below (below_alloc1 _ (.cells czr 61)))
            have B_6 := Lib.hid (B_5.out.alloc B_5.out.size (.cells czr 61))
            obtain ⟨b7, e7⟩ : ∃ b7, (w5).heap.size = b7 := ⟨_, rfl⟩
            rw [e7] at v6 z6 y6 ⊢
            have V_6 := Lib.hid v6
            have Z7 := Lib.hid z6
            have Y7 := Lib.hid y6
            clear v6 e7 z6 y6
            refine ⟨K_6.out, ?_⟩
            go_frame
            refine h_all1 (i := 20) (by kernel_rfl) ?_
            refine o_step rfl (by rfl) ?_
            refine wp_store_row 61 (.tmp 7) (.tmp 36) rfl b7 cm rfl rfl _ _ V_6.out (xinfo SM.out) (by rw [SM.out]; exact xz_size) OM.out ?_
            have K_e := Lib.hid (K_6.out.other (c := b7) (by have := Y7.out; omega) cm)
            have V_e := Lib.hid (V_6.out.set cm)
            have B_e := Lib.hid (below_row (cs := cm) B_6.out Z7.out)
            refine ⟨K_e.out, ?_⟩
            go_frame
            refine h_val (i := 21) (v := .bool true) rfl (by kernel_rfl) (by kernel_rfl) (by kernel_rfl) (fun _ _ _ h => h) (by rfl) (fun wz hS => ?_) K_e.out ?_
            · skip
              go_simp
            go_frame
            refine h_done (by kernel_rfl) ?_
            go_upto_region 6 with fail
            refine with_worldT (fun W => Cb b7 61 cm W ∧ Below W0.heap.size W0 W) ⟨V_e.out, B_e.out⟩ fun W4 hW4 => ?_
            have B_4 := Lib.hid hW4.2.drew
            have K_06 := Lib.hid (show Cb b7 61 cm W4.drew from hW4.1.below (below_drew _))
            have HN7 := Lib.hid (loc_not (S := S) (w := W0) (W := W4.drew) (b := b7) Z7.out K_06.out.lt)
            have HS4 := Lib.hid (loc_sub (S := S) (w := W0) (W := W4.drew) HUP.out B_4.out.size)
            have S0 := Lib.hid (H.out.loc B_4.out)
            have P0 := Lib.hid (loc_up S W0 W4.drew)
            have HML := Lib.hid (meld_wt x y HXY.out)
            generalize Loc S W0 W4.drew = S4 at *
            have O0 := Lib.hid (Off.refl S4 W4.drew)
            clear hW4 V_e K_e B_e HT HMEL HTH
            refine h_start (S := fun W => Cb b7 61 cm W) (by kernel_rfl) ?_
            refine h_val (i := 0) (v := .pointer (some ⟨tb, 0, none⟩)) rfl (by kernel_rfl) (by kernel_rfl) (by kernel_rfl) (fun _ _ _ h => h) (by rfl) (fun wz hS => ?_) K_06.out ?_
            · skip
              go_simp
            go_frame
            refine h_val (i := 1) (v := .pointer (some ⟨tb, 0, none⟩)) rfl (by kernel_rfl) (by kernel_rfl) (by kernel_rfl) (fun _ _ _ h => h) (by rfl) (fun wz hS => ?_) K_06.out ?_
            · skip
              go_simp
            go_frame
            refine h_val (i := 2) (v := .pointer (some ⟨tb, 0, none⟩)) rfl (by kernel_rfl) (by kernel_rfl) (by kernel_rfl) (fun _ _ _ h => h) (by rfl) (fun wz hS => ?_) K_06.out ?_
            · skip
              go_simp
            go_frame
            refine h_val (i := 3) (v := .int .i64 a.id) rfl (by kernel_rfl) (by kernel_rfl) (by kernel_rfl) (fun _ _ _ h => h) (by rfl) (fun wz hS => ?_) K_06.out ?_
            · skip
              go_simp
            go_frame
            refine h_val (i := 5) (v := .pointer (some ⟨tb, 0, none⟩)) rfl (by kernel_rfl) (by kernel_rfl) (by kernel_rfl) (fun _ _ _ h => h) (by rfl) (fun wz hS => ?_) K_06.out ?_
            · skip
              go_simp
            go_frame
            refine h_val (i := 6) (v := .agg cm) rfl (by kernel_rfl) (by kernel_rfl) (by kernel_rfl) (fun _ _ _ h => h) (by rfl) (fun wz hS => ?_) K_06.out ?_
            · skip
              exact x_load 61 (.tmp 7) rfl _ rfl _ _ _ _ hS Try.underlying61 rfl (xinfo SM.out)
            go_frame
            refine h_val (i := 9) (v := .pointer (some ⟨tb, 0, none⟩)) rfl (by kernel_rfl) (by kernel_rfl) (by kernel_rfl) (fun _ _ _ h => h) (by rfl) (fun wz hS => ?_) K_06.out ?_
            · skip
              go_simp
            go_frame
            refine h_val (i := 10) (v := .int .i64 b.id) rfl (by kernel_rfl) (by kernel_rfl) (by kernel_rfl) (fun _ _ _ h => h) (by rfl) (fun wz hS => ?_) K_06.out ?_
            · skip
              go_simp
            go_frame
            refine h_all1 (i := 4) (by kernel_rfl) ?_
            refine o_call (f := 70) (args := #[.pointer (some ⟨tb, 0, none⟩), .int .i64 a.id]) rfl (by rfl) (by go_simp) ?_
            refine (butLast_all a HNA.out ⟨_, _, HIA.out⟩ S4 _ _ S0.out P0.out (by have := HQ.out; have := HML.out; omega)).mono ?_
            rintro e v1 ⟨T1, rfl, e1, ss, oo⟩
            have K_16 := Lib.hid (K_06.out.off oo HN7.out)
            have S1 := Lib.hid ss
            have O1 := Lib.hid (O0.out.seq oo)
            have P1 := Lib.hid (P0.out.off oo)
            have E1 := Lib.hid e1
            clear ss oo e1
            refine ⟨_, rfl, K_16.out, ?_⟩
            go_frame
            refine h_all1 (i := 7) (by kernel_rfl) ?_
            refine o_call (f := 61) (args := #[.pointer (some ⟨tb, 0, none⟩), .agg cm]) rfl (by rfl) (by go_simp) ?_
            refine (HLF.out _ S4 _ _ S1.out P1.out (by have := HQ.out; have := HML.out; omega)).mono ?_
            rintro e v2 ⟨T2, rfl, e2, ss, oo⟩
            have K_26 := Lib.hid (K_16.out.off oo HN7.out)
            have S2 := Lib.hid ss
            have O2 := Lib.hid (O1.out.seq oo)
            have P2 := Lib.hid (P1.out.off oo)
            have E2 := Lib.hid e2
            clear ss oo e2
            refine ⟨_, rfl, K_26.out, ?_⟩
            go_frame
            refine h_all1 (i := 8) (by kernel_rfl) ?_
            refine o_call (f := 67) (args := #[.pointer (some ⟨tb, 0, none⟩), .int .i64 T1.id, .int .i64 T2.id]) rfl (by rfl) (by go_simp) ?_
            refine (link_any T1 T2 S2.out.swap P2.out (by have := HQ.out; have := HML.out; omega)).mono ?_
            rintro e v3 ⟨T3, rfl, -, e3, ss, oo⟩
            have K_36 := Lib.hid (K_26.out.off oo HN7.out)
            have S3 := Lib.hid ss
            have O3 := Lib.hid (O2.out.seq oo)
            have P3 := Lib.hid (P2.out.off oo)
            have E3 := Lib.hid e3
            clear ss oo e3
            refine ⟨_, rfl, K_36.out, ?_⟩
            go_frame
            refine h_all1 (i := 11) (by kernel_rfl) ?_
            refine o_call (f := 71) (args := #[.pointer (some ⟨tb, 0, none⟩), .int .i64 b.id]) rfl (by rfl) (by go_simp) ?_
            refine (butFirst_all b HNB.out ⟨_, _, HIB.out⟩ S4 _ _ S3.out.swap P3.out (by have := HQ.out; have := HML.out; omega)).mono ?_
            rintro e v4 ⟨T4, rfl, e4, ss, oo⟩
            have K_46 := Lib.hid (K_36.out.off oo HN7.out)
            have S4 := Lib.hid ss
            have O4 := Lib.hid (O3.out.seq oo)
            have P4 := Lib.hid (P3.out.off oo)
            have E4 := Lib.hid e4
            clear ss oo e4
            refine ⟨_, rfl, K_46.out, ?_⟩
            go_frame
            refine h_all1 (i := 12) (by kernel_rfl) ?_
            refine o_call (f := 67) (args := #[.pointer (some ⟨tb, 0, none⟩), .int .i64 T3.id, .int .i64 T4.id]) rfl (by rfl) (by go_simp) ?_
            refine (link_any T3 T4 S4.out.swap P4.out (by have := HQ.out; have := HML.out; omega)).mono ?_
            rintro e v5 ⟨T5, rfl, -, e5, ss, oo⟩
            have K_56 := Lib.hid (K_46.out.off oo HN7.out)
            have S5 := Lib.hid ss
            have O5 := Lib.hid (O4.out.seq oo)
            have P5 := Lib.hid (P4.out.off oo)
            have E5 := Lib.hid e5
            clear ss oo e5
            refine ⟨_, rfl, K_56.out, ?_⟩
            go_frame
            refine h_val (i := 13) (v := .int .i64 T5.id) rfl (by kernel_rfl) (by kernel_rfl) (by kernel_rfl) (fun _ _ _ h => h) (by rfl) (fun wz hS => ?_) K_56.out ?_
            · skip
              go_simp
            go_frame
            refine h_done (by kernel_rfl) ?_
            go_wp2
            go_ret
            have hjm := join_meld_el HIA.out HIB.out HNA.out HNB.out HMB.out E1.out E4.out (T := T5) (by rw [E5.out, E3.out, E2.out, HX.out, HY.out])
            refine ⟨T5, rfl, hjm.1, hjm.2.1, ⟨(S5.out.1.mono HS4.out), ?_⟩, Off.below_l B_4.out (O5.out.mono HS4.out)⟩
            have := H.out.2
            rw [tot_cons, tot_cons] at this
            have hw := hjm.2.2
            rw [tot_cons]
            omega
          · skip
            refine o_step rfl (by rfl) ?_
            refine wp_alloc_row 61 rfl czr xzero ?_
            have v8 := cb_new w4 61 czr
            have z8 : W0.heap.size ≤ (w4).heap.size := B_4.out.size
            have y8 : tb < (w4).heap.size := K_4.out.lt
            have K_8 := Lib.hid (K_4.out.alloc (.cells czr 61))
            have T_8 := Lib.hid (T_4.out.below (below_alloc1 _ (.cells czr 61)))
            have B_8 := Lib.hid (B_4.out.alloc B_4.out.size (.cells czr 61))
            obtain ⟨b7, e7⟩ : ∃ b7, (w4).heap.size = b7 := ⟨_, rfl⟩
            rw [e7] at v8 z8 y8 ⊢
            have V_8 := Lib.hid v8
            have Z7 := Lib.hid z8
            have Y7 := Lib.hid y8
            clear v8 e7 z8 y8
            refine ⟨K_8.out, ?_⟩
            go_frame
            refine h_all1 (i := 15) (by kernel_rfl) ?_
            refine o_call (f := 56) (args := #[.agg cx, .agg cy]) rfl (by rfl) (by go_simp) ?_
            refine (HMEL.out _ B_8.out).mono ?_
            rintro e w9 ⟨rfl, b9⟩
            have K_9 := Lib.hid (K_8.out.below b9)
            have T_9 := Lib.hid (T_8.out.below b9)
            have B_9 := Lib.hid (below_add B_8.out b9 B_8.out.size)
            have V_9 := Lib.hid (V_8.out.below b9)
            clear b9
            refine ⟨_, rfl, K_9.out, ?_⟩
            go_frame
            refine h_val (i := 16) (v := .tuple #[.agg cm, .bool true]) rfl (by kernel_rfl) (by kernel_rfl) (by kernel_rfl) (fun _ _ _ h => h) (by rfl) (fun wz hS => ?_) K_9.out ?_
            · skip
              go_simp
            go_frame
            refine h_val (i := 17) (v := .agg cm) rfl (by kernel_rfl) (by kernel_rfl) (by kernel_rfl) (fun _ _ _ h => h) (by rfl) (fun wz hS => ?_) K_9.out ?_
            · skip
              go_simp
            go_frame
            refine h_val (i := 18) (v := .bool true) rfl (by kernel_rfl) (by kernel_rfl) (by kernel_rfl) (fun _ _ _ h => h) (by rfl) (fun wz hS => ?_) K_9.out ?_
            · skip
              go_simp
            go_frame
            refine h_all1 (i := 20) (by kernel_rfl) ?_
            refine o_step rfl (by rfl) ?_
            refine wp_store_row 61 (.tmp 7) (.tmp 36) rfl b7 cm rfl rfl _ _ V_9.out (xinfo SM.out) (by rw [SM.out]; exact xz_size) OM.out ?_
            have K_e := Lib.hid (K_9.out.other (c := b7) (by have := Y7.out; omega) cm)
            have V_e := Lib.hid (V_9.out.set cm)
            have B_e := Lib.hid (below_row (cs := cm) B_9.out Z7.out)
            refine ⟨K_e.out, ?_⟩
            go_frame
            refine h_val (i := 21) (v := .bool true) rfl (by kernel_rfl) (by kernel_rfl) (by kernel_rfl) (fun _ _ _ h => h) (by rfl) (fun wz hS => ?_) K_e.out ?_
            · skip
              go_simp
            go_frame
            refine h_done (by kernel_rfl) ?_
            go_upto_region 6 with fail
            refine with_worldT (fun W => Cb b7 61 cm W ∧ Below W0.heap.size W0 W) ⟨V_e.out, B_e.out⟩ fun W4 hW4 => ?_
            have B_4 := Lib.hid hW4.2.drew
            have K_06 := Lib.hid (show Cb b7 61 cm W4.drew from hW4.1.below (below_drew _))
            have HN7 := Lib.hid (loc_not (S := S) (w := W0) (W := W4.drew) (b := b7) Z7.out K_06.out.lt)
            have HS4 := Lib.hid (loc_sub (S := S) (w := W0) (W := W4.drew) HUP.out B_4.out.size)
            have S0 := Lib.hid (H.out.loc B_4.out)
            have P0 := Lib.hid (loc_up S W0 W4.drew)
            have HML := Lib.hid (meld_wt x y HXY.out)
            generalize Loc S W0 W4.drew = S4 at *
            have O0 := Lib.hid (Off.refl S4 W4.drew)
            clear hW4 V_e K_e B_e HT HMEL HTH
            refine h_start (S := fun W => Cb b7 61 cm W) (by kernel_rfl) ?_
            refine h_val (i := 0) (v := .pointer (some ⟨tb, 0, none⟩)) rfl (by kernel_rfl) (by kernel_rfl) (by kernel_rfl) (fun _ _ _ h => h) (by rfl) (fun wz hS => ?_) K_06.out ?_
            · skip
              go_simp
            go_frame
            refine h_val (i := 1) (v := .pointer (some ⟨tb, 0, none⟩)) rfl (by kernel_rfl) (by kernel_rfl) (by kernel_rfl) (fun _ _ _ h => h) (by rfl) (fun wz hS => ?_) K_06.out ?_
            · skip
              go_simp
            go_frame
            refine h_val (i := 2) (v := .pointer (some ⟨tb, 0, none⟩)) rfl (by kernel_rfl) (by kernel_rfl) (by kernel_rfl) (fun _ _ _ h => h) (by rfl) (fun wz hS => ?_) K_06.out ?_
            · skip
              go_simp
            go_frame
            refine h_val (i := 3) (v := .int .i64 a.id) rfl (by kernel_rfl) (by kernel_rfl) (by kernel_rfl) (fun _ _ _ h => h) (by rfl) (fun wz hS => ?_) K_06.out ?_
            · skip
              go_simp
            go_frame
            refine h_val (i := 5) (v := .pointer (some ⟨tb, 0, none⟩)) rfl (by kernel_rfl) (by kernel_rfl) (by kernel_rfl) (fun _ _ _ h => h) (by rfl) (fun wz hS => ?_) K_06.out ?_
            · skip
              go_simp
            go_frame
            refine h_val (i := 6) (v := .agg cm) rfl (by kernel_rfl) (by kernel_rfl) (by kernel_rfl) (fun _ _ _ h => h) (by rfl) (fun wz hS => ?_) K_06.out ?_
            · skip
              exact x_load 61 (.tmp 7) rfl _ rfl _ _ _ _ hS Try.underlying61 rfl (xinfo SM.out)
            go_frame
            refine h_val (i := 9) (v := .pointer (some ⟨tb, 0, none⟩)) rfl (by kernel_rfl) (by kernel_rfl) (by kernel_rfl) (fun _ _ _ h => h) (by rfl) (fun wz hS => ?_) K_06.out ?_
            · skip
              go_simp
            go_frame
            refine h_val (i := 10) (v := .int .i64 b.id) rfl (by kernel_rfl) (by kernel_rfl) (by kernel_rfl) (fun _ _ _ h => h) (by rfl) (fun wz hS => ?_) K_06.out ?_
            · skip
              go_simp
            go_frame
            refine h_all1 (i := 4) (by kernel_rfl) ?_
            refine o_call (f := 70) (args := #[.pointer (some ⟨tb, 0, none⟩), .int .i64 a.id]) rfl (by rfl) (by go_simp) ?_
            refine (butLast_all a HNA.out ⟨_, _, HIA.out⟩ S4 _ _ S0.out P0.out (by have := HQ.out; have := HML.out; omega)).mono ?_
            rintro e v1 ⟨T1, rfl, e1, ss, oo⟩
            have K_16 := Lib.hid (K_06.out.off oo HN7.out)
            have S1 := Lib.hid ss
            have O1 := Lib.hid (O0.out.seq oo)
            have P1 := Lib.hid (P0.out.off oo)
            have E1 := Lib.hid e1
            clear ss oo e1
            refine ⟨_, rfl, K_16.out, ?_⟩
            go_frame
            refine h_all1 (i := 7) (by kernel_rfl) ?_
            refine o_call (f := 61) (args := #[.pointer (some ⟨tb, 0, none⟩), .agg cm]) rfl (by rfl) (by go_simp) ?_
            refine (HLF.out _ S4 _ _ S1.out P1.out (by have := HQ.out; have := HML.out; omega)).mono ?_
            rintro e v2 ⟨T2, rfl, e2, ss, oo⟩
            have K_26 := Lib.hid (K_16.out.off oo HN7.out)
            have S2 := Lib.hid ss
            have O2 := Lib.hid (O1.out.seq oo)
            have P2 := Lib.hid (P1.out.off oo)
            have E2 := Lib.hid e2
            clear ss oo e2
            refine ⟨_, rfl, K_26.out, ?_⟩
            go_frame
            refine h_all1 (i := 8) (by kernel_rfl) ?_
            refine o_call (f := 67) (args := #[.pointer (some ⟨tb, 0, none⟩), .int .i64 T1.id, .int .i64 T2.id]) rfl (by rfl) (by go_simp) ?_
            refine (link_any T1 T2 S2.out.swap P2.out (by have := HQ.out; have := HML.out; omega)).mono ?_
            rintro e v3 ⟨T3, rfl, -, e3, ss, oo⟩
            have K_36 := Lib.hid (K_26.out.off oo HN7.out)
            have S3 := Lib.hid ss
            have O3 := Lib.hid (O2.out.seq oo)
            have P3 := Lib.hid (P2.out.off oo)
            have E3 := Lib.hid e3
            clear ss oo e3
            refine ⟨_, rfl, K_36.out, ?_⟩
            go_frame
            refine h_all1 (i := 11) (by kernel_rfl) ?_
            refine o_call (f := 71) (args := #[.pointer (some ⟨tb, 0, none⟩), .int .i64 b.id]) rfl (by rfl) (by go_simp) ?_
            refine (butFirst_all b HNB.out ⟨_, _, HIB.out⟩ S4 _ _ S3.out.swap P3.out (by have := HQ.out; have := HML.out; omega)).mono ?_
            rintro e v4 ⟨T4, rfl, e4, ss, oo⟩
            have K_46 := Lib.hid (K_36.out.off oo HN7.out)
            have S4 := Lib.hid ss
            have O4 := Lib.hid (O3.out.seq oo)
            have P4 := Lib.hid (P3.out.off oo)
            have E4 := Lib.hid e4
            clear ss oo e4
            refine ⟨_, rfl, K_46.out, ?_⟩
            go_frame
            refine h_all1 (i := 12) (by kernel_rfl) ?_
            refine o_call (f := 67) (args := #[.pointer (some ⟨tb, 0, none⟩), .int .i64 T3.id, .int .i64 T4.id]) rfl (by rfl) (by go_simp) ?_
            refine (link_any T3 T4 S4.out.swap P4.out (by have := HQ.out; have := HML.out; omega)).mono ?_
            rintro e v5 ⟨T5, rfl, -, e5, ss, oo⟩
            have K_56 := Lib.hid (K_46.out.off oo HN7.out)
            have S5 := Lib.hid ss
            have O5 := Lib.hid (O4.out.seq oo)
            have P5 := Lib.hid (P4.out.off oo)
            have E5 := Lib.hid e5
            clear ss oo e5
            refine ⟨_, rfl, K_56.out, ?_⟩
            go_frame
            refine h_val (i := 13) (v := .int .i64 T5.id) rfl (by kernel_rfl) (by kernel_rfl) (by kernel_rfl) (fun _ _ _ h => h) (by rfl) (fun wz hS => ?_) K_56.out ?_
            · skip
              go_simp
            go_frame
            refine h_done (by kernel_rfl) ?_
            go_wp2
            go_ret
            have hjm := join_meld_el HIA.out HIB.out HNA.out HNB.out HMB.out E1.out E4.out (T := T5) (by rw [E5.out, E3.out, E2.out, HX.out, HY.out])
            refine ⟨T5, rfl, hjm.1, hjm.2.1, ⟨(S5.out.1.mono HS4.out), ?_⟩, Off.below_l B_4.out (O5.out.mono HS4.out)⟩
            have := H.out.2
            rw [tot_cons, tot_cons] at this
            have hw := hjm.2.2
            rw [tot_cons]
            omega
        · skip
          refine o_step rfl (by rfl) ?_
          refine wp_alloc_row 61 rfl czr xzero ?_
          have v11 := cb_new w3 61 czr
          have z11 : W0.heap.size ≤ (w3).heap.size := B_3.out.size
          have y11 : tb < (w3).heap.size := K_3.out.lt
          have K_11 := Lib.hid (K_3.out.alloc (.cells czr 61))
          have T_11 := Lib.hid (T_3.out.below (below_alloc1 _ (.cells czr 61)))
          have B_11 := Lib.hid (B_3.out.alloc B_3.out.size (.cells czr 61))
          obtain ⟨b7, e7⟩ : ∃ b7, (w3).heap.size = b7 := ⟨_, rfl⟩
          rw [e7] at v11 z11 y11 ⊢
          have V_11 := Lib.hid v11
          have Z7 := Lib.hid z11
          have Y7 := Lib.hid y11
          clear v11 e7 z11 y11
          refine ⟨K_11.out, ?_⟩
          go_frame
          refine h_all1 (i := 14) (by kernel_rfl) ?_
          refine o_call (f := 59) (args := #[.pointer (some ⟨tb, 0, none⟩), ndv M2]) rfl (by rfl) (by go_simp) ?_
          have ht := HTH.out _ T_11.out M2 y (by rw [← HY.out]; exact HM2.out)
          rw [HCY.out] at ht
          refine ht.mono ?_
          clear ht
          rintro e w12 ⟨rfl, b12⟩
          have K_12 := Lib.hid (K_11.out.below b12)
          have T_12 := Lib.hid (T_11.out.below b12)
          have B_12 := Lib.hid (below_add B_11.out b12 B_11.out.size)
          have V_12 := Lib.hid (V_11.out.below b12)
          clear b12
          refine ⟨_, rfl, K_12.out, ?_⟩
          go_frame
          refine h_all1 (i := 15) (by kernel_rfl) ?_
          refine o_call (f := 56) (args := #[.agg cx, .agg cy]) rfl (by rfl) (by go_simp) ?_
          refine (HMEL.out _ B_12.out).mono ?_
          rintro e w13 ⟨rfl, b13⟩
          have K_13 := Lib.hid (K_12.out.below b13)
          have T_13 := Lib.hid (T_12.out.below b13)
          have B_13 := Lib.hid (below_add B_12.out b13 B_12.out.size)
          have V_13 := Lib.hid (V_12.out.below b13)
          clear b13
          refine ⟨_, rfl, K_13.out, ?_⟩
          go_frame
          refine h_val (i := 16) (v := .tuple #[.agg cm, .bool true]) rfl (by kernel_rfl) (by kernel_rfl) (by kernel_rfl) (fun _ _ _ h => h) (by rfl) (fun wz hS => ?_) K_13.out ?_
          · skip
            go_simp
          go_frame
          refine h_val (i := 17) (v := .agg cm) rfl (by kernel_rfl) (by kernel_rfl) (by kernel_rfl) (fun _ _ _ h => h) (by rfl) (fun wz hS => ?_) K_13.out ?_
          · skip
            go_simp
          go_frame
          refine h_val (i := 18) (v := .bool true) rfl (by kernel_rfl) (by kernel_rfl) (by kernel_rfl) (fun _ _ _ h => h) (by rfl) (fun wz hS => ?_) K_13.out ?_
          · skip
            go_simp
          go_frame
          refine h_all1 (i := 20) (by kernel_rfl) ?_
          refine o_step rfl (by rfl) ?_
          refine wp_store_row 61 (.tmp 7) (.tmp 36) rfl b7 cm rfl rfl _ _ V_13.out (xinfo SM.out) (by rw [SM.out]; exact xz_size) OM.out ?_
          have K_e := Lib.hid (K_13.out.other (c := b7) (by have := Y7.out; omega) cm)
          have V_e := Lib.hid (V_13.out.set cm)
          have B_e := Lib.hid (below_row (cs := cm) B_13.out Z7.out)
          refine ⟨K_e.out, ?_⟩
          go_frame
          refine h_val (i := 21) (v := .bool true) rfl (by kernel_rfl) (by kernel_rfl) (by kernel_rfl) (fun _ _ _ h => h) (by rfl) (fun wz hS => ?_) K_e.out ?_
          · skip
            go_simp
          go_frame
          refine h_done (by kernel_rfl) ?_
          go_upto_region 6 with fail
          refine with_worldT (fun W => Cb b7 61 cm W ∧ Below W0.heap.size W0 W) ⟨V_e.out, B_e.out⟩ fun W4 hW4 => ?_
          have B_4 := Lib.hid hW4.2.drew
          have K_06 := Lib.hid (show Cb b7 61 cm W4.drew from hW4.1.below (below_drew _))
          have HN7 := Lib.hid (loc_not (S := S) (w := W0) (W := W4.drew) (b := b7) Z7.out K_06.out.lt)
          have HS4 := Lib.hid (loc_sub (S := S) (w := W0) (W := W4.drew) HUP.out B_4.out.size)
          have S0 := Lib.hid (H.out.loc B_4.out)
          have P0 := Lib.hid (loc_up S W0 W4.drew)
          have HML := Lib.hid (meld_wt x y HXY.out)
          generalize Loc S W0 W4.drew = S4 at *
          have O0 := Lib.hid (Off.refl S4 W4.drew)
          clear hW4 V_e K_e B_e HT HMEL HTH
          refine h_start (S := fun W => Cb b7 61 cm W) (by kernel_rfl) ?_
          refine h_val (i := 0) (v := .pointer (some ⟨tb, 0, none⟩)) rfl (by kernel_rfl) (by kernel_rfl) (by kernel_rfl) (fun _ _ _ h => h) (by rfl) (fun wz hS => ?_) K_06.out ?_
          · skip
            go_simp
          go_frame
          refine h_val (i := 1) (v := .pointer (some ⟨tb, 0, none⟩)) rfl (by kernel_rfl) (by kernel_rfl) (by kernel_rfl) (fun _ _ _ h => h) (by rfl) (fun wz hS => ?_) K_06.out ?_
          · skip
            go_simp
          go_frame
          refine h_val (i := 2) (v := .pointer (some ⟨tb, 0, none⟩)) rfl (by kernel_rfl) (by kernel_rfl) (by kernel_rfl) (fun _ _ _ h => h) (by rfl) (fun wz hS => ?_) K_06.out ?_
          · skip
            go_simp
          go_frame
          refine h_val (i := 3) (v := .int .i64 a.id) rfl (by kernel_rfl) (by kernel_rfl) (by kernel_rfl) (fun _ _ _ h => h) (by rfl) (fun wz hS => ?_) K_06.out ?_
          · skip
            go_simp
          go_frame
          refine h_val (i := 5) (v := .pointer (some ⟨tb, 0, none⟩)) rfl (by kernel_rfl) (by kernel_rfl) (by kernel_rfl) (fun _ _ _ h => h) (by rfl) (fun wz hS => ?_) K_06.out ?_
          · skip
            go_simp
          go_frame
          refine h_val (i := 6) (v := .agg cm) rfl (by kernel_rfl) (by kernel_rfl) (by kernel_rfl) (fun _ _ _ h => h) (by rfl) (fun wz hS => ?_) K_06.out ?_
          · skip
            exact x_load 61 (.tmp 7) rfl _ rfl _ _ _ _ hS Try.underlying61 rfl (xinfo SM.out)
          go_frame
          refine h_val (i := 9) (v := .pointer (some ⟨tb, 0, none⟩)) rfl (by kernel_rfl) (by kernel_rfl) (by kernel_rfl) (fun _ _ _ h => h) (by rfl) (fun wz hS => ?_) K_06.out ?_
          · skip
            go_simp
          go_frame
          refine h_val (i := 10) (v := .int .i64 b.id) rfl (by kernel_rfl) (by kernel_rfl) (by kernel_rfl) (fun _ _ _ h => h) (by rfl) (fun wz hS => ?_) K_06.out ?_
          · skip
            go_simp
          go_frame
          refine h_all1 (i := 4) (by kernel_rfl) ?_
          refine o_call (f := 70) (args := #[.pointer (some ⟨tb, 0, none⟩), .int .i64 a.id]) rfl (by rfl) (by go_simp) ?_
          refine (butLast_all a HNA.out ⟨_, _, HIA.out⟩ S4 _ _ S0.out P0.out (by have := HQ.out; have := HML.out; omega)).mono ?_
          rintro e v1 ⟨T1, rfl, e1, ss, oo⟩
          have K_16 := Lib.hid (K_06.out.off oo HN7.out)
          have S1 := Lib.hid ss
          have O1 := Lib.hid (O0.out.seq oo)
          have P1 := Lib.hid (P0.out.off oo)
          have E1 := Lib.hid e1
          clear ss oo e1
          refine ⟨_, rfl, K_16.out, ?_⟩
          go_frame
          refine h_all1 (i := 7) (by kernel_rfl) ?_
          refine o_call (f := 61) (args := #[.pointer (some ⟨tb, 0, none⟩), .agg cm]) rfl (by rfl) (by go_simp) ?_
          refine (HLF.out _ S4 _ _ S1.out P1.out (by have := HQ.out; have := HML.out; omega)).mono ?_
          rintro e v2 ⟨T2, rfl, e2, ss, oo⟩
          have K_26 := Lib.hid (K_16.out.off oo HN7.out)
          have S2 := Lib.hid ss
          have O2 := Lib.hid (O1.out.seq oo)
          have P2 := Lib.hid (P1.out.off oo)
          have E2 := Lib.hid e2
          clear ss oo e2
          refine ⟨_, rfl, K_26.out, ?_⟩
          go_frame
          refine h_all1 (i := 8) (by kernel_rfl) ?_
          refine o_call (f := 67) (args := #[.pointer (some ⟨tb, 0, none⟩), .int .i64 T1.id, .int .i64 T2.id]) rfl (by rfl) (by go_simp) ?_
          refine (link_any T1 T2 S2.out.swap P2.out (by have := HQ.out; have := HML.out; omega)).mono ?_
          rintro e v3 ⟨T3, rfl, -, e3, ss, oo⟩
          have K_36 := Lib.hid (K_26.out.off oo HN7.out)
          have S3 := Lib.hid ss
          have O3 := Lib.hid (O2.out.seq oo)
          have P3 := Lib.hid (P2.out.off oo)
          have E3 := Lib.hid e3
          clear ss oo e3
          refine ⟨_, rfl, K_36.out, ?_⟩
          go_frame
          refine h_all1 (i := 11) (by kernel_rfl) ?_
          refine o_call (f := 71) (args := #[.pointer (some ⟨tb, 0, none⟩), .int .i64 b.id]) rfl (by rfl) (by go_simp) ?_
          refine (butFirst_all b HNB.out ⟨_, _, HIB.out⟩ S4 _ _ S3.out.swap P3.out (by have := HQ.out; have := HML.out; omega)).mono ?_
          rintro e v4 ⟨T4, rfl, e4, ss, oo⟩
          have K_46 := Lib.hid (K_36.out.off oo HN7.out)
          have S4 := Lib.hid ss
          have O4 := Lib.hid (O3.out.seq oo)
          have P4 := Lib.hid (P3.out.off oo)
          have E4 := Lib.hid e4
          clear ss oo e4
          refine ⟨_, rfl, K_46.out, ?_⟩
          go_frame
          refine h_all1 (i := 12) (by kernel_rfl) ?_
          refine o_call (f := 67) (args := #[.pointer (some ⟨tb, 0, none⟩), .int .i64 T3.id, .int .i64 T4.id]) rfl (by rfl) (by go_simp) ?_
          refine (link_any T3 T4 S4.out.swap P4.out (by have := HQ.out; have := HML.out; omega)).mono ?_
          rintro e v5 ⟨T5, rfl, -, e5, ss, oo⟩
          have K_56 := Lib.hid (K_46.out.off oo HN7.out)
          have S5 := Lib.hid ss
          have O5 := Lib.hid (O4.out.seq oo)
          have P5 := Lib.hid (P4.out.off oo)
          have E5 := Lib.hid e5
          clear ss oo e5
          refine ⟨_, rfl, K_56.out, ?_⟩
          go_frame
          refine h_val (i := 13) (v := .int .i64 T5.id) rfl (by kernel_rfl) (by kernel_rfl) (by kernel_rfl) (fun _ _ _ h => h) (by rfl) (fun wz hS => ?_) K_56.out ?_
          · skip
            go_simp
          go_frame
          refine h_done (by kernel_rfl) ?_
          go_wp2
          go_ret
          have hjm := join_meld_el HIA.out HIB.out HNA.out HNB.out HMB.out E1.out E4.out (T := T5) (by rw [E5.out, E3.out, E2.out, HX.out, HY.out])
          refine ⟨T5, rfl, hjm.1, hjm.2.1, ⟨(S5.out.1.mono HS4.out), ?_⟩, Off.below_l B_4.out (O5.out.mono HS4.out)⟩
          have := H.out.2
          rw [tot_cons, tot_cons] at this
          have hw := hjm.2.2
          rw [tot_cons]
          omega
      · skip
        refine o_step rfl (by rfl) ?_
        refine wp_alloc_row 61 rfl czr xzero ?_
        have v15 := cb_new w2 61 czr
        have z15 : W0.heap.size ≤ (w2).heap.size := B_2.out.size
        have y15 : tb < (w2).heap.size := K_2.out.lt
        have K_15 := Lib.hid (K_2.out.alloc (.cells czr 61))
        have T_15 := Lib.hid (T_2.out.below (below_alloc1 _ (.cells czr 61)))
        have B_15 := Lib.hid (B_2.out.alloc B_2.out.size (.cells czr 61))
        obtain ⟨b7, e7⟩ : ∃ b7, (w2).heap.size = b7 := ⟨_, rfl⟩
        rw [e7] at v15 z15 y15 ⊢
        have V_15 := Lib.hid v15
        have Z7 := Lib.hid z15
        have Y7 := Lib.hid y15
        clear v15 e7 z15 y15
        refine ⟨K_15.out, ?_⟩
        go_frame
        refine h_all1 (i := 13) (by kernel_rfl) ?_
        refine o_call (f := 69) (args := #[.pointer (some ⟨tb, 0, none⟩), .int .i64 b.id]) rfl (by rfl) (by go_simp) ?_
        refine (firstT_any b T_15.out HIB.out HNB.out).mono ?_
        rintro e w16 ⟨M2, rfl, hM, b16⟩
        have HM2 := Lib.hid hM
        have K_16 := Lib.hid (K_15.out.below b16)
        have T_16 := Lib.hid (T_15.out.below b16)
        have B_16 := Lib.hid (below_add B_15.out b16 B_15.out.size)
        have V_16 := Lib.hid (V_15.out.below b16)
        clear b16 hM
        refine ⟨_, rfl, K_16.out, ?_⟩
        go_frame
        refine h_all1 (i := 14) (by kernel_rfl) ?_
        refine o_call (f := 59) (args := #[.pointer (some ⟨tb, 0, none⟩), ndv M2]) rfl (by rfl) (by go_simp) ?_
        have ht := HTH.out _ T_16.out M2 y (by rw [← HY.out]; exact HM2.out)
        rw [HCY.out] at ht
        refine ht.mono ?_
        clear ht
        rintro e w17 ⟨rfl, b17⟩
        have K_17 := Lib.hid (K_16.out.below b17)
        have T_17 := Lib.hid (T_16.out.below b17)
        have B_17 := Lib.hid (below_add B_16.out b17 B_16.out.size)
        have V_17 := Lib.hid (V_16.out.below b17)
        clear b17
        refine ⟨_, rfl, K_17.out, ?_⟩
        go_frame
        refine h_all1 (i := 15) (by kernel_rfl) ?_
        refine o_call (f := 56) (args := #[.agg cx, .agg cy]) rfl (by rfl) (by go_simp) ?_
        refine (HMEL.out _ B_17.out).mono ?_
        rintro e w18 ⟨rfl, b18⟩
        have K_18 := Lib.hid (K_17.out.below b18)
        have T_18 := Lib.hid (T_17.out.below b18)
        have B_18 := Lib.hid (below_add B_17.out b18 B_17.out.size)
        have V_18 := Lib.hid (V_17.out.below b18)
        clear b18
        refine ⟨_, rfl, K_18.out, ?_⟩
        go_frame
        refine h_val (i := 16) (v := .tuple #[.agg cm, .bool true]) rfl (by kernel_rfl) (by kernel_rfl) (by kernel_rfl) (fun _ _ _ h => h) (by rfl) (fun wz hS => ?_) K_18.out ?_
        · skip
          go_simp
        go_frame
        refine h_val (i := 17) (v := .agg cm) rfl (by kernel_rfl) (by kernel_rfl) (by kernel_rfl) (fun _ _ _ h => h) (by rfl) (fun wz hS => ?_) K_18.out ?_
        · skip
          go_simp
        go_frame
        refine h_val (i := 18) (v := .bool true) rfl (by kernel_rfl) (by kernel_rfl) (by kernel_rfl) (fun _ _ _ h => h) (by rfl) (fun wz hS => ?_) K_18.out ?_
        · skip
          go_simp
        go_frame
        refine h_all1 (i := 20) (by kernel_rfl) ?_
        refine o_step rfl (by rfl) ?_
        refine wp_store_row 61 (.tmp 7) (.tmp 36) rfl b7 cm rfl rfl _ _ V_18.out (xinfo SM.out) (by rw [SM.out]; exact xz_size) OM.out ?_
        have K_e := Lib.hid (K_18.out.other (c := b7) (by have := Y7.out; omega) cm)
        have V_e := Lib.hid (V_18.out.set cm)
        have B_e := Lib.hid (below_row (cs := cm) B_18.out Z7.out)
        refine ⟨K_e.out, ?_⟩
        go_frame
        refine h_val (i := 21) (v := .bool true) rfl (by kernel_rfl) (by kernel_rfl) (by kernel_rfl) (fun _ _ _ h => h) (by rfl) (fun wz hS => ?_) K_e.out ?_
        · skip
          go_simp
        go_frame
        refine h_done (by kernel_rfl) ?_
        go_upto_region 6 with fail
        refine with_worldT (fun W => Cb b7 61 cm W ∧ Below W0.heap.size W0 W) ⟨V_e.out, B_e.out⟩ fun W4 hW4 => ?_
        have B_4 := Lib.hid hW4.2.drew
        have K_06 := Lib.hid (show Cb b7 61 cm W4.drew from hW4.1.below (below_drew _))
        have HN7 := Lib.hid (loc_not (S := S) (w := W0) (W := W4.drew) (b := b7) Z7.out K_06.out.lt)
        have HS4 := Lib.hid (loc_sub (S := S) (w := W0) (W := W4.drew) HUP.out B_4.out.size)
        have S0 := Lib.hid (H.out.loc B_4.out)
        have P0 := Lib.hid (loc_up S W0 W4.drew)
        have HML := Lib.hid (meld_wt x y HXY.out)
        generalize Loc S W0 W4.drew = S4 at *
        have O0 := Lib.hid (Off.refl S4 W4.drew)
        clear hW4 V_e K_e B_e HT HMEL HTH
        refine h_start (S := fun W => Cb b7 61 cm W) (by kernel_rfl) ?_
        refine h_val (i := 0) (v := .pointer (some ⟨tb, 0, none⟩)) rfl (by kernel_rfl) (by kernel_rfl) (by kernel_rfl) (fun _ _ _ h => h) (by rfl) (fun wz hS => ?_) K_06.out ?_
        · skip
          go_simp
        go_frame
        refine h_val (i := 1) (v := .pointer (some ⟨tb, 0, none⟩)) rfl (by kernel_rfl) (by kernel_rfl) (by kernel_rfl) (fun _ _ _ h => h) (by rfl) (fun wz hS => ?_) K_06.out ?_
        · skip
          go_simp
        go_frame
        refine h_val (i := 2) (v := .pointer (some ⟨tb, 0, none⟩)) rfl (by kernel_rfl) (by kernel_rfl) (by kernel_rfl) (fun _ _ _ h => h) (by rfl) (fun wz hS => ?_) K_06.out ?_
        · skip
          go_simp
        go_frame
        refine h_val (i := 3) (v := .int .i64 a.id) rfl (by kernel_rfl) (by kernel_rfl) (by kernel_rfl) (fun _ _ _ h => h) (by rfl) (fun wz hS => ?_) K_06.out ?_
        · skip
          go_simp
        go_frame
        refine h_val (i := 5) (v := .pointer (some ⟨tb, 0, none⟩)) rfl (by kernel_rfl) (by kernel_rfl) (by kernel_rfl) (fun _ _ _ h => h) (by rfl) (fun wz hS => ?_) K_06.out ?_
        · skip
          go_simp
        go_frame
        refine h_val (i := 6) (v := .agg cm) rfl (by kernel_rfl) (by kernel_rfl) (by kernel_rfl) (fun _ _ _ h => h) (by rfl) (fun wz hS => ?_) K_06.out ?_
        · skip
          exact x_load 61 (.tmp 7) rfl _ rfl _ _ _ _ hS Try.underlying61 rfl (xinfo SM.out)
        go_frame
        refine h_val (i := 9) (v := .pointer (some ⟨tb, 0, none⟩)) rfl (by kernel_rfl) (by kernel_rfl) (by kernel_rfl) (fun _ _ _ h => h) (by rfl) (fun wz hS => ?_) K_06.out ?_
        · skip
          go_simp
        go_frame
        refine h_val (i := 10) (v := .int .i64 b.id) rfl (by kernel_rfl) (by kernel_rfl) (by kernel_rfl) (fun _ _ _ h => h) (by rfl) (fun wz hS => ?_) K_06.out ?_
        · skip
          go_simp
        go_frame
        refine h_all1 (i := 4) (by kernel_rfl) ?_
        refine o_call (f := 70) (args := #[.pointer (some ⟨tb, 0, none⟩), .int .i64 a.id]) rfl (by rfl) (by go_simp) ?_
        refine (butLast_all a HNA.out ⟨_, _, HIA.out⟩ S4 _ _ S0.out P0.out (by have := HQ.out; have := HML.out; omega)).mono ?_
        rintro e v1 ⟨T1, rfl, e1, ss, oo⟩
        have K_16 := Lib.hid (K_06.out.off oo HN7.out)
        have S1 := Lib.hid ss
        have O1 := Lib.hid (O0.out.seq oo)
        have P1 := Lib.hid (P0.out.off oo)
        have E1 := Lib.hid e1
        clear ss oo e1
        refine ⟨_, rfl, K_16.out, ?_⟩
        go_frame
        refine h_all1 (i := 7) (by kernel_rfl) ?_
        refine o_call (f := 61) (args := #[.pointer (some ⟨tb, 0, none⟩), .agg cm]) rfl (by rfl) (by go_simp) ?_
        refine (HLF.out _ S4 _ _ S1.out P1.out (by have := HQ.out; have := HML.out; omega)).mono ?_
        rintro e v2 ⟨T2, rfl, e2, ss, oo⟩
        have K_26 := Lib.hid (K_16.out.off oo HN7.out)
        have S2 := Lib.hid ss
        have O2 := Lib.hid (O1.out.seq oo)
        have P2 := Lib.hid (P1.out.off oo)
        have E2 := Lib.hid e2
        clear ss oo e2
        refine ⟨_, rfl, K_26.out, ?_⟩
        go_frame
        refine h_all1 (i := 8) (by kernel_rfl) ?_
        refine o_call (f := 67) (args := #[.pointer (some ⟨tb, 0, none⟩), .int .i64 T1.id, .int .i64 T2.id]) rfl (by rfl) (by go_simp) ?_
        refine (link_any T1 T2 S2.out.swap P2.out (by have := HQ.out; have := HML.out; omega)).mono ?_
        rintro e v3 ⟨T3, rfl, -, e3, ss, oo⟩
        have K_36 := Lib.hid (K_26.out.off oo HN7.out)
        have S3 := Lib.hid ss
        have O3 := Lib.hid (O2.out.seq oo)
        have P3 := Lib.hid (P2.out.off oo)
        have E3 := Lib.hid e3
        clear ss oo e3
        refine ⟨_, rfl, K_36.out, ?_⟩
        go_frame
        refine h_all1 (i := 11) (by kernel_rfl) ?_
        refine o_call (f := 71) (args := #[.pointer (some ⟨tb, 0, none⟩), .int .i64 b.id]) rfl (by rfl) (by go_simp) ?_
        refine (butFirst_all b HNB.out ⟨_, _, HIB.out⟩ S4 _ _ S3.out.swap P3.out (by have := HQ.out; have := HML.out; omega)).mono ?_
        rintro e v4 ⟨T4, rfl, e4, ss, oo⟩
        have K_46 := Lib.hid (K_36.out.off oo HN7.out)
        have S4 := Lib.hid ss
        have O4 := Lib.hid (O3.out.seq oo)
        have P4 := Lib.hid (P3.out.off oo)
        have E4 := Lib.hid e4
        clear ss oo e4
        refine ⟨_, rfl, K_46.out, ?_⟩
        go_frame
        refine h_all1 (i := 12) (by kernel_rfl) ?_
        refine o_call (f := 67) (args := #[.pointer (some ⟨tb, 0, none⟩), .int .i64 T3.id, .int .i64 T4.id]) rfl (by rfl) (by go_simp) ?_
        refine (link_any T3 T4 S4.out.swap P4.out (by have := HQ.out; have := HML.out; omega)).mono ?_
        rintro e v5 ⟨T5, rfl, -, e5, ss, oo⟩
        have K_56 := Lib.hid (K_46.out.off oo HN7.out)
        have S5 := Lib.hid ss
        have O5 := Lib.hid (O4.out.seq oo)
        have P5 := Lib.hid (P4.out.off oo)
        have E5 := Lib.hid e5
        clear ss oo e5
        refine ⟨_, rfl, K_56.out, ?_⟩
        go_frame
        refine h_val (i := 13) (v := .int .i64 T5.id) rfl (by kernel_rfl) (by kernel_rfl) (by kernel_rfl) (fun _ _ _ h => h) (by rfl) (fun wz hS => ?_) K_56.out ?_
        · skip
          go_simp
        go_frame
        refine h_done (by kernel_rfl) ?_
        go_wp2
        go_ret
        have hjm := join_meld_el HIA.out HIB.out HNA.out HNB.out HMB.out E1.out E4.out (T := T5) (by rw [E5.out, E3.out, E2.out, HX.out, HY.out])
        refine ⟨T5, rfl, hjm.1, hjm.2.1, ⟨(S5.out.1.mono HS4.out), ?_⟩, Off.below_l B_4.out (O5.out.mono HS4.out)⟩
        have := H.out.2
        rw [tot_cons, tot_cons] at this
        have hw := hjm.2.2
        rw [tot_cons]
        omega
    · skip
      refine o_step rfl (by rfl) ?_
      refine wp_alloc_row 61 rfl czr xzero ?_
      have v20 := cb_new w1 61 czr
      have z20 : W0.heap.size ≤ (w1).heap.size := B_1.out.size
      have y20 : tb < (w1).heap.size := K_1.out.lt
      have K_20 := Lib.hid (K_1.out.alloc (.cells czr 61))
      have T_20 := Lib.hid (T_1.out.below (below_alloc1 _ (.cells czr 61)))
      have B_20 := Lib.hid (B_1.out.alloc B_1.out.size (.cells czr 61))
      obtain ⟨b7, e7⟩ : ∃ b7, (w1).heap.size = b7 := ⟨_, rfl⟩
      rw [e7] at v20 z20 y20 ⊢
      have V_20 := Lib.hid v20
      have Z7 := Lib.hid z20
      have Y7 := Lib.hid y20
      clear v20 e7 z20 y20
      refine ⟨K_20.out, ?_⟩
      go_frame
      refine h_all1 (i := 9) (by kernel_rfl) ?_
      refine o_call (f := 59) (args := #[.pointer (some ⟨tb, 0, none⟩), ndv M1]) rfl (by rfl) (by go_simp) ?_
      have ht := HTH.out _ T_20.out M1 x (by rw [← HX.out]; exact HM1.out)
      rw [HCX.out] at ht
      refine ht.mono ?_
      clear ht
      rintro e w21 ⟨rfl, b21⟩
      have K_21 := Lib.hid (K_20.out.below b21)
      have T_21 := Lib.hid (T_20.out.below b21)
      have B_21 := Lib.hid (below_add B_20.out b21 B_20.out.size)
      have V_21 := Lib.hid (V_20.out.below b21)
      clear b21
      refine ⟨_, rfl, K_21.out, ?_⟩
      go_frame
      refine h_all1 (i := 13) (by kernel_rfl) ?_
      refine o_call (f := 69) (args := #[.pointer (some ⟨tb, 0, none⟩), .int .i64 b.id]) rfl (by rfl) (by go_simp) ?_
      refine (firstT_any b T_21.out HIB.out HNB.out).mono ?_
      rintro e w22 ⟨M2, rfl, hM, b22⟩
      have HM2 := Lib.hid hM
      have K_22 := Lib.hid (K_21.out.below b22)
      have T_22 := Lib.hid (T_21.out.below b22)
      have B_22 := Lib.hid (below_add B_21.out b22 B_21.out.size)
      have V_22 := Lib.hid (V_21.out.below b22)
      clear b22 hM
      refine ⟨_, rfl, K_22.out, ?_⟩
      go_frame
      refine h_all1 (i := 14) (by kernel_rfl) ?_
      refine o_call (f := 59) (args := #[.pointer (some ⟨tb, 0, none⟩), ndv M2]) rfl (by rfl) (by go_simp) ?_
      have ht := HTH.out _ T_22.out M2 y (by rw [← HY.out]; exact HM2.out)
      rw [HCY.out] at ht
      refine ht.mono ?_
      clear ht
      rintro e w23 ⟨rfl, b23⟩
      have K_23 := Lib.hid (K_22.out.below b23)
      have T_23 := Lib.hid (T_22.out.below b23)
      have B_23 := Lib.hid (below_add B_22.out b23 B_22.out.size)
      have V_23 := Lib.hid (V_22.out.below b23)
      clear b23
      refine ⟨_, rfl, K_23.out, ?_⟩
      go_frame
      refine h_all1 (i := 15) (by kernel_rfl) ?_
      refine o_call (f := 56) (args := #[.agg cx, .agg cy]) rfl (by rfl) (by go_simp) ?_
      refine (HMEL.out _ B_23.out).mono ?_
      rintro e w24 ⟨rfl, b24⟩
      have K_24 := Lib.hid (K_23.out.below b24)
      have T_24 := Lib.hid (T_23.out.below b24)
      have B_24 := Lib.hid (below_add B_23.out b24 B_23.out.size)
      have V_24 := Lib.hid (V_23.out.below b24)
      clear b24
      refine ⟨_, rfl, K_24.out, ?_⟩
      go_frame
      refine h_val (i := 16) (v := .tuple #[.agg cm, .bool true]) rfl (by kernel_rfl) (by kernel_rfl) (by kernel_rfl) (fun _ _ _ h => h) (by rfl) (fun wz hS => ?_) K_24.out ?_
      · skip
        go_simp
      go_frame
      refine h_val (i := 17) (v := .agg cm) rfl (by kernel_rfl) (by kernel_rfl) (by kernel_rfl) (fun _ _ _ h => h) (by rfl) (fun wz hS => ?_) K_24.out ?_
      · skip
        go_simp
      go_frame
      refine h_val (i := 18) (v := .bool true) rfl (by kernel_rfl) (by kernel_rfl) (by kernel_rfl) (fun _ _ _ h => h) (by rfl) (fun wz hS => ?_) K_24.out ?_
      · skip
        go_simp
      go_frame
      refine h_all1 (i := 20) (by kernel_rfl) ?_
      refine o_step rfl (by rfl) ?_
      refine wp_store_row 61 (.tmp 7) (.tmp 36) rfl b7 cm rfl rfl _ _ V_24.out (xinfo SM.out) (by rw [SM.out]; exact xz_size) OM.out ?_
      have K_e := Lib.hid (K_24.out.other (c := b7) (by have := Y7.out; omega) cm)
      have V_e := Lib.hid (V_24.out.set cm)
      have B_e := Lib.hid (below_row (cs := cm) B_24.out Z7.out)
      refine ⟨K_e.out, ?_⟩
      go_frame
      refine h_val (i := 21) (v := .bool true) rfl (by kernel_rfl) (by kernel_rfl) (by kernel_rfl) (fun _ _ _ h => h) (by rfl) (fun wz hS => ?_) K_e.out ?_
      · skip
        go_simp
      go_frame
      refine h_done (by kernel_rfl) ?_
      go_upto_region 6 with fail
      refine with_worldT (fun W => Cb b7 61 cm W ∧ Below W0.heap.size W0 W) ⟨V_e.out, B_e.out⟩ fun W4 hW4 => ?_
      have B_4 := Lib.hid hW4.2.drew
      have K_06 := Lib.hid (show Cb b7 61 cm W4.drew from hW4.1.below (below_drew _))
      have HN7 := Lib.hid (loc_not (S := S) (w := W0) (W := W4.drew) (b := b7) Z7.out K_06.out.lt)
      have HS4 := Lib.hid (loc_sub (S := S) (w := W0) (W := W4.drew) HUP.out B_4.out.size)
      have S0 := Lib.hid (H.out.loc B_4.out)
      have P0 := Lib.hid (loc_up S W0 W4.drew)
      have HML := Lib.hid (meld_wt x y HXY.out)
      generalize Loc S W0 W4.drew = S4 at *
      have O0 := Lib.hid (Off.refl S4 W4.drew)
      clear hW4 V_e K_e B_e HT HMEL HTH
      refine h_start (S := fun W => Cb b7 61 cm W) (by kernel_rfl) ?_
      refine h_val (i := 0) (v := .pointer (some ⟨tb, 0, none⟩)) rfl (by kernel_rfl) (by kernel_rfl) (by kernel_rfl) (fun _ _ _ h => h) (by rfl) (fun wz hS => ?_) K_06.out ?_
      · skip
        go_simp
      go_frame
      refine h_val (i := 1) (v := .pointer (some ⟨tb, 0, none⟩)) rfl (by kernel_rfl) (by kernel_rfl) (by kernel_rfl) (fun _ _ _ h => h) (by rfl) (fun wz hS => ?_) K_06.out ?_
      · skip
        go_simp
      go_frame
      refine h_val (i := 2) (v := .pointer (some ⟨tb, 0, none⟩)) rfl (by kernel_rfl) (by kernel_rfl) (by kernel_rfl) (fun _ _ _ h => h) (by rfl) (fun wz hS => ?_) K_06.out ?_
      · skip
        go_simp
      go_frame
      refine h_val (i := 3) (v := .int .i64 a.id) rfl (by kernel_rfl) (by kernel_rfl) (by kernel_rfl) (fun _ _ _ h => h) (by rfl) (fun wz hS => ?_) K_06.out ?_
      · skip
        go_simp
      go_frame
      refine h_val (i := 5) (v := .pointer (some ⟨tb, 0, none⟩)) rfl (by kernel_rfl) (by kernel_rfl) (by kernel_rfl) (fun _ _ _ h => h) (by rfl) (fun wz hS => ?_) K_06.out ?_
      · skip
        go_simp
      go_frame
      refine h_val (i := 6) (v := .agg cm) rfl (by kernel_rfl) (by kernel_rfl) (by kernel_rfl) (fun _ _ _ h => h) (by rfl) (fun wz hS => ?_) K_06.out ?_
      · skip
        exact x_load 61 (.tmp 7) rfl _ rfl _ _ _ _ hS Try.underlying61 rfl (xinfo SM.out)
      go_frame
      refine h_val (i := 9) (v := .pointer (some ⟨tb, 0, none⟩)) rfl (by kernel_rfl) (by kernel_rfl) (by kernel_rfl) (fun _ _ _ h => h) (by rfl) (fun wz hS => ?_) K_06.out ?_
      · skip
        go_simp
      go_frame
      refine h_val (i := 10) (v := .int .i64 b.id) rfl (by kernel_rfl) (by kernel_rfl) (by kernel_rfl) (fun _ _ _ h => h) (by rfl) (fun wz hS => ?_) K_06.out ?_
      · skip
        go_simp
      go_frame
      refine h_all1 (i := 4) (by kernel_rfl) ?_
      refine o_call (f := 70) (args := #[.pointer (some ⟨tb, 0, none⟩), .int .i64 a.id]) rfl (by rfl) (by go_simp) ?_
      refine (butLast_all a HNA.out ⟨_, _, HIA.out⟩ S4 _ _ S0.out P0.out (by have := HQ.out; have := HML.out; omega)).mono ?_
      rintro e v1 ⟨T1, rfl, e1, ss, oo⟩
      have K_16 := Lib.hid (K_06.out.off oo HN7.out)
      have S1 := Lib.hid ss
      have O1 := Lib.hid (O0.out.seq oo)
      have P1 := Lib.hid (P0.out.off oo)
      have E1 := Lib.hid e1
      clear ss oo e1
      refine ⟨_, rfl, K_16.out, ?_⟩
      go_frame
      refine h_all1 (i := 7) (by kernel_rfl) ?_
      refine o_call (f := 61) (args := #[.pointer (some ⟨tb, 0, none⟩), .agg cm]) rfl (by rfl) (by go_simp) ?_
      refine (HLF.out _ S4 _ _ S1.out P1.out (by have := HQ.out; have := HML.out; omega)).mono ?_
      rintro e v2 ⟨T2, rfl, e2, ss, oo⟩
      have K_26 := Lib.hid (K_16.out.off oo HN7.out)
      have S2 := Lib.hid ss
      have O2 := Lib.hid (O1.out.seq oo)
      have P2 := Lib.hid (P1.out.off oo)
      have E2 := Lib.hid e2
      clear ss oo e2
      refine ⟨_, rfl, K_26.out, ?_⟩
      go_frame
      refine h_all1 (i := 8) (by kernel_rfl) ?_
      refine o_call (f := 67) (args := #[.pointer (some ⟨tb, 0, none⟩), .int .i64 T1.id, .int .i64 T2.id]) rfl (by rfl) (by go_simp) ?_
      refine (link_any T1 T2 S2.out.swap P2.out (by have := HQ.out; have := HML.out; omega)).mono ?_
      rintro e v3 ⟨T3, rfl, -, e3, ss, oo⟩
      have K_36 := Lib.hid (K_26.out.off oo HN7.out)
      have S3 := Lib.hid ss
      have O3 := Lib.hid (O2.out.seq oo)
      have P3 := Lib.hid (P2.out.off oo)
      have E3 := Lib.hid e3
      clear ss oo e3
      refine ⟨_, rfl, K_36.out, ?_⟩
      go_frame
      refine h_all1 (i := 11) (by kernel_rfl) ?_
      refine o_call (f := 71) (args := #[.pointer (some ⟨tb, 0, none⟩), .int .i64 b.id]) rfl (by rfl) (by go_simp) ?_
      refine (butFirst_all b HNB.out ⟨_, _, HIB.out⟩ S4 _ _ S3.out.swap P3.out (by have := HQ.out; have := HML.out; omega)).mono ?_
      rintro e v4 ⟨T4, rfl, e4, ss, oo⟩
      have K_46 := Lib.hid (K_36.out.off oo HN7.out)
      have S4 := Lib.hid ss
      have O4 := Lib.hid (O3.out.seq oo)
      have P4 := Lib.hid (P3.out.off oo)
      have E4 := Lib.hid e4
      clear ss oo e4
      refine ⟨_, rfl, K_46.out, ?_⟩
      go_frame
      refine h_all1 (i := 12) (by kernel_rfl) ?_
      refine o_call (f := 67) (args := #[.pointer (some ⟨tb, 0, none⟩), .int .i64 T3.id, .int .i64 T4.id]) rfl (by rfl) (by go_simp) ?_
      refine (link_any T3 T4 S4.out.swap P4.out (by have := HQ.out; have := HML.out; omega)).mono ?_
      rintro e v5 ⟨T5, rfl, -, e5, ss, oo⟩
      have K_56 := Lib.hid (K_46.out.off oo HN7.out)
      have S5 := Lib.hid ss
      have O5 := Lib.hid (O4.out.seq oo)
      have P5 := Lib.hid (P4.out.off oo)
      have E5 := Lib.hid e5
      clear ss oo e5
      refine ⟨_, rfl, K_56.out, ?_⟩
      go_frame
      refine h_val (i := 13) (v := .int .i64 T5.id) rfl (by kernel_rfl) (by kernel_rfl) (by kernel_rfl) (fun _ _ _ h => h) (by rfl) (fun wz hS => ?_) K_56.out ?_
      · skip
        go_simp
      go_frame
      refine h_done (by kernel_rfl) ?_
      go_wp2
      go_ret
      have hjm := join_meld_el HIA.out HIB.out HNA.out HNB.out HMB.out E1.out E4.out (T := T5) (by rw [E5.out, E3.out, E2.out, HX.out, HY.out])
      refine ⟨T5, rfl, hjm.1, hjm.2.1, ⟨(S5.out.1.mono HS4.out), ?_⟩, Off.below_l B_4.out (O5.out.mono HS4.out)⟩
      have := H.out.2
      rw [tot_cons, tot_cons] at this
      have hw := hjm.2.2
      rw [tot_cons]
      omega
  · skip
    refine o_step rfl (by rfl) ?_
    refine wp_alloc_row 61 rfl czr xzero ?_
    have v26 := cb_new W0.drew 61 czr
    have z26 : W0.heap.size ≤ (W0.drew).heap.size := B_0.out.size
    have y26 : tb < (W0.drew).heap.size := K_0.out.lt
    have K_26 := Lib.hid (K_0.out.alloc (.cells czr 61))
    have T_26 := Lib.hid (T_0.out.below (below_alloc1 _ (.cells czr 61)))
    have B_26 := Lib.hid (B_0.out.alloc B_0.out.size (.cells czr 61))
    obtain ⟨b7, e7⟩ : ∃ b7, (W0.drew).heap.size = b7 := ⟨_, rfl⟩
    rw [e7] at v26 z26 y26 ⊢
    have V_26 := Lib.hid v26
    have Z7 := Lib.hid z26
    have Y7 := Lib.hid y26
    clear v26 e7 z26 y26
    refine ⟨K_26.out, ?_⟩
    go_frame
    refine h_all1 (i := 8) (by kernel_rfl) ?_
    refine o_call (f := 68) (args := #[.pointer (some ⟨tb, 0, none⟩), .int .i64 a.id]) rfl (by rfl) (by go_simp) ?_
    refine (lastT_any a T_26.out HIA.out HNA.out).mono ?_
    rintro e w27 ⟨M1, rfl, hM, b27⟩
    have HM1 := Lib.hid hM
    have K_27 := Lib.hid (K_26.out.below b27)
    have T_27 := Lib.hid (T_26.out.below b27)
    have B_27 := Lib.hid (below_add B_26.out b27 B_26.out.size)
    have V_27 := Lib.hid (V_26.out.below b27)
    clear b27 hM
    refine ⟨_, rfl, K_27.out, ?_⟩
    go_frame
    refine h_all1 (i := 9) (by kernel_rfl) ?_
    refine o_call (f := 59) (args := #[.pointer (some ⟨tb, 0, none⟩), ndv M1]) rfl (by rfl) (by go_simp) ?_
    have ht := HTH.out _ T_27.out M1 x (by rw [← HX.out]; exact HM1.out)
    rw [HCX.out] at ht
    refine ht.mono ?_
    clear ht
    rintro e w28 ⟨rfl, b28⟩
    have K_28 := Lib.hid (K_27.out.below b28)
    have T_28 := Lib.hid (T_27.out.below b28)
    have B_28 := Lib.hid (below_add B_27.out b28 B_27.out.size)
    have V_28 := Lib.hid (V_27.out.below b28)
    clear b28
    refine ⟨_, rfl, K_28.out, ?_⟩
    go_frame
    refine h_all1 (i := 13) (by kernel_rfl) ?_
    refine o_call (f := 69) (args := #[.pointer (some ⟨tb, 0, none⟩), .int .i64 b.id]) rfl (by rfl) (by go_simp) ?_
    refine (firstT_any b T_28.out HIB.out HNB.out).mono ?_
    rintro e w29 ⟨M2, rfl, hM, b29⟩
    have HM2 := Lib.hid hM
    have K_29 := Lib.hid (K_28.out.below b29)
    have T_29 := Lib.hid (T_28.out.below b29)
    have B_29 := Lib.hid (below_add B_28.out b29 B_28.out.size)
    have V_29 := Lib.hid (V_28.out.below b29)
    clear b29 hM
    refine ⟨_, rfl, K_29.out, ?_⟩
    go_frame
    refine h_all1 (i := 14) (by kernel_rfl) ?_
    refine o_call (f := 59) (args := #[.pointer (some ⟨tb, 0, none⟩), ndv M2]) rfl (by rfl) (by go_simp) ?_
    have ht := HTH.out _ T_29.out M2 y (by rw [← HY.out]; exact HM2.out)
    rw [HCY.out] at ht
    refine ht.mono ?_
    clear ht
    rintro e w30 ⟨rfl, b30⟩
    have K_30 := Lib.hid (K_29.out.below b30)
    have T_30 := Lib.hid (T_29.out.below b30)
    have B_30 := Lib.hid (below_add B_29.out b30 B_29.out.size)
    have V_30 := Lib.hid (V_29.out.below b30)
    clear b30
    refine ⟨_, rfl, K_30.out, ?_⟩
    go_frame
    refine h_all1 (i := 15) (by kernel_rfl) ?_
    refine o_call (f := 56) (args := #[.agg cx, .agg cy]) rfl (by rfl) (by go_simp) ?_
    refine (HMEL.out _ B_30.out).mono ?_
    rintro e w31 ⟨rfl, b31⟩
    have K_31 := Lib.hid (K_30.out.below b31)
    have T_31 := Lib.hid (T_30.out.below b31)
    have B_31 := Lib.hid (below_add B_30.out b31 B_30.out.size)
    have V_31 := Lib.hid (V_30.out.below b31)
    clear b31
    refine ⟨_, rfl, K_31.out, ?_⟩
    go_frame
    refine h_val (i := 16) (v := .tuple #[.agg cm, .bool true]) rfl (by kernel_rfl) (by kernel_rfl) (by kernel_rfl) (fun _ _ _ h => h) (by rfl) (fun wz hS => ?_) K_31.out ?_
    · skip
      go_simp
    go_frame
    refine h_val (i := 17) (v := .agg cm) rfl (by kernel_rfl) (by kernel_rfl) (by kernel_rfl) (fun _ _ _ h => h) (by rfl) (fun wz hS => ?_) K_31.out ?_
    · skip
      go_simp
    go_frame
    refine h_val (i := 18) (v := .bool true) rfl (by kernel_rfl) (by kernel_rfl) (by kernel_rfl) (fun _ _ _ h => h) (by rfl) (fun wz hS => ?_) K_31.out ?_
    · skip
      go_simp
    go_frame
    refine h_all1 (i := 20) (by kernel_rfl) ?_
    refine o_step rfl (by rfl) ?_
    refine wp_store_row 61 (.tmp 7) (.tmp 36) rfl b7 cm rfl rfl _ _ V_31.out (xinfo SM.out) (by rw [SM.out]; exact xz_size) OM.out ?_
    have K_e := Lib.hid (K_31.out.other (c := b7) (by have := Y7.out; omega) cm)
    have V_e := Lib.hid (V_31.out.set cm)
    have B_e := Lib.hid (below_row (cs := cm) B_31.out Z7.out)
    refine ⟨K_e.out, ?_⟩
    go_frame
    refine h_val (i := 21) (v := .bool true) rfl (by kernel_rfl) (by kernel_rfl) (by kernel_rfl) (fun _ _ _ h => h) (by rfl) (fun wz hS => ?_) K_e.out ?_
    · skip
      go_simp
    go_frame
    refine h_done (by kernel_rfl) ?_
    go_upto_region 6 with fail
    refine with_worldT (fun W => Cb b7 61 cm W ∧ Below W0.heap.size W0 W) ⟨V_e.out, B_e.out⟩ fun W4 hW4 => ?_
    have B_4 := Lib.hid hW4.2.drew
    have K_06 := Lib.hid (show Cb b7 61 cm W4.drew from hW4.1.below (below_drew _))
    have HN7 := Lib.hid (loc_not (S := S) (w := W0) (W := W4.drew) (b := b7) Z7.out K_06.out.lt)
    have HS4 := Lib.hid (loc_sub (S := S) (w := W0) (W := W4.drew) HUP.out B_4.out.size)
    have S0 := Lib.hid (H.out.loc B_4.out)
    have P0 := Lib.hid (loc_up S W0 W4.drew)
    have HML := Lib.hid (meld_wt x y HXY.out)
    generalize Loc S W0 W4.drew = S4 at *
    have O0 := Lib.hid (Off.refl S4 W4.drew)
    clear hW4 V_e K_e B_e HT HMEL HTH
    refine h_start (S := fun W => Cb b7 61 cm W) (by kernel_rfl) ?_
    refine h_val (i := 0) (v := .pointer (some ⟨tb, 0, none⟩)) rfl (by kernel_rfl) (by kernel_rfl) (by kernel_rfl) (fun _ _ _ h => h) (by rfl) (fun wz hS => ?_) K_06.out ?_
    · skip
      go_simp
    go_frame
    refine h_val (i := 1) (v := .pointer (some ⟨tb, 0, none⟩)) rfl (by kernel_rfl) (by kernel_rfl) (by kernel_rfl) (fun _ _ _ h => h) (by rfl) (fun wz hS => ?_) K_06.out ?_
    · skip
      go_simp
    go_frame
    refine h_val (i := 2) (v := .pointer (some ⟨tb, 0, none⟩)) rfl (by kernel_rfl) (by kernel_rfl) (by kernel_rfl) (fun _ _ _ h => h) (by rfl) (fun wz hS => ?_) K_06.out ?_
    · skip
      go_simp
    go_frame
    refine h_val (i := 3) (v := .int .i64 a.id) rfl (by kernel_rfl) (by kernel_rfl) (by kernel_rfl) (fun _ _ _ h => h) (by rfl) (fun wz hS => ?_) K_06.out ?_
    · skip
      go_simp
    go_frame
    refine h_val (i := 5) (v := .pointer (some ⟨tb, 0, none⟩)) rfl (by kernel_rfl) (by kernel_rfl) (by kernel_rfl) (fun _ _ _ h => h) (by rfl) (fun wz hS => ?_) K_06.out ?_
    · skip
      go_simp
    go_frame
    refine h_val (i := 6) (v := .agg cm) rfl (by kernel_rfl) (by kernel_rfl) (by kernel_rfl) (fun _ _ _ h => h) (by rfl) (fun wz hS => ?_) K_06.out ?_
    · skip
      exact x_load 61 (.tmp 7) rfl _ rfl _ _ _ _ hS Try.underlying61 rfl (xinfo SM.out)
    go_frame
    refine h_val (i := 9) (v := .pointer (some ⟨tb, 0, none⟩)) rfl (by kernel_rfl) (by kernel_rfl) (by kernel_rfl) (fun _ _ _ h => h) (by rfl) (fun wz hS => ?_) K_06.out ?_
    · skip
      go_simp
    go_frame
    refine h_val (i := 10) (v := .int .i64 b.id) rfl (by kernel_rfl) (by kernel_rfl) (by kernel_rfl) (fun _ _ _ h => h) (by rfl) (fun wz hS => ?_) K_06.out ?_
    · skip
      go_simp
    go_frame
    refine h_all1 (i := 4) (by kernel_rfl) ?_
    refine o_call (f := 70) (args := #[.pointer (some ⟨tb, 0, none⟩), .int .i64 a.id]) rfl (by rfl) (by go_simp) ?_
    refine (butLast_all a HNA.out ⟨_, _, HIA.out⟩ S4 _ _ S0.out P0.out (by have := HQ.out; have := HML.out; omega)).mono ?_
    rintro e v1 ⟨T1, rfl, e1, ss, oo⟩
    have K_16 := Lib.hid (K_06.out.off oo HN7.out)
    have S1 := Lib.hid ss
    have O1 := Lib.hid (O0.out.seq oo)
    have P1 := Lib.hid (P0.out.off oo)
    have E1 := Lib.hid e1
    clear ss oo e1
    refine ⟨_, rfl, K_16.out, ?_⟩
    go_frame
    refine h_all1 (i := 7) (by kernel_rfl) ?_
    refine o_call (f := 61) (args := #[.pointer (some ⟨tb, 0, none⟩), .agg cm]) rfl (by rfl) (by go_simp) ?_
    refine (HLF.out _ S4 _ _ S1.out P1.out (by have := HQ.out; have := HML.out; omega)).mono ?_
    rintro e v2 ⟨T2, rfl, e2, ss, oo⟩
    have K_26 := Lib.hid (K_16.out.off oo HN7.out)
    have S2 := Lib.hid ss
    have O2 := Lib.hid (O1.out.seq oo)
    have P2 := Lib.hid (P1.out.off oo)
    have E2 := Lib.hid e2
    clear ss oo e2
    refine ⟨_, rfl, K_26.out, ?_⟩
    go_frame
    refine h_all1 (i := 8) (by kernel_rfl) ?_
    refine o_call (f := 67) (args := #[.pointer (some ⟨tb, 0, none⟩), .int .i64 T1.id, .int .i64 T2.id]) rfl (by rfl) (by go_simp) ?_
    refine (link_any T1 T2 S2.out.swap P2.out (by have := HQ.out; have := HML.out; omega)).mono ?_
    rintro e v3 ⟨T3, rfl, -, e3, ss, oo⟩
    have K_36 := Lib.hid (K_26.out.off oo HN7.out)
    have S3 := Lib.hid ss
    have O3 := Lib.hid (O2.out.seq oo)
    have P3 := Lib.hid (P2.out.off oo)
    have E3 := Lib.hid e3
    clear ss oo e3
    refine ⟨_, rfl, K_36.out, ?_⟩
    go_frame
    refine h_all1 (i := 11) (by kernel_rfl) ?_
    refine o_call (f := 71) (args := #[.pointer (some ⟨tb, 0, none⟩), .int .i64 b.id]) rfl (by rfl) (by go_simp) ?_
    refine (butFirst_all b HNB.out ⟨_, _, HIB.out⟩ S4 _ _ S3.out.swap P3.out (by have := HQ.out; have := HML.out; omega)).mono ?_
    rintro e v4 ⟨T4, rfl, e4, ss, oo⟩
    have K_46 := Lib.hid (K_36.out.off oo HN7.out)
    have S4 := Lib.hid ss
    have O4 := Lib.hid (O3.out.seq oo)
    have P4 := Lib.hid (P3.out.off oo)
    have E4 := Lib.hid e4
    clear ss oo e4
    refine ⟨_, rfl, K_46.out, ?_⟩
    go_frame
    refine h_all1 (i := 12) (by kernel_rfl) ?_
    refine o_call (f := 67) (args := #[.pointer (some ⟨tb, 0, none⟩), .int .i64 T3.id, .int .i64 T4.id]) rfl (by rfl) (by go_simp) ?_
    refine (link_any T3 T4 S4.out.swap P4.out (by have := HQ.out; have := HML.out; omega)).mono ?_
    rintro e v5 ⟨T5, rfl, -, e5, ss, oo⟩
    have K_56 := Lib.hid (K_46.out.off oo HN7.out)
    have S5 := Lib.hid ss
    have O5 := Lib.hid (O4.out.seq oo)
    have P5 := Lib.hid (P4.out.off oo)
    have E5 := Lib.hid e5
    clear ss oo e5
    refine ⟨_, rfl, K_56.out, ?_⟩
    go_frame
    refine h_val (i := 13) (v := .int .i64 T5.id) rfl (by kernel_rfl) (by kernel_rfl) (by kernel_rfl) (fun _ _ _ h => h) (by rfl) (fun wz hS => ?_) K_56.out ?_
    · skip
      go_simp
    go_frame
    refine h_done (by kernel_rfl) ?_
    go_wp2
    go_ret
    have hjm := join_meld_el HIA.out HIB.out HNA.out HNB.out HMB.out E1.out E4.out (T := T5) (by rw [E5.out, E3.out, E2.out, HX.out, HY.out])
    refine ⟨T5, rfl, hjm.1, hjm.2.1, ⟨(S5.out.1.mono HS4.out), ?_⟩, Off.below_l B_4.out (O5.out.mono HS4.out)⟩
    have := H.out.2
    rw [tot_cons, tot_cons] at this
    have hw := hjm.2.2
    rw [tot_cons]
    omega

theorem join_any (a b : TC) (h : Sq D Q S tb root (a :: b :: F) w) (hup : Up S w) (hQ : Q ≤ 1500000000) :
    Calls Try.prog 45 #[.pointer (some ⟨tb, 0, none⟩), .int .i64 a.id, .int .i64 b.id] w fun e w' => ∃ T : TC, e = .returned (.int .i64 T.id) ∧ flat (T.el Wc) = flat (a.el Wc) ++ flat (b.el Wc) ∧ (Pr (a.el Wc) → Pr (b.el Wc) → Pr (T.el Wc)) ∧ Sq D Q S tb root (T :: F) w' ∧ Off S w w' := by
  by_cases ha : a = .nil
  · exact join_nil1 a b h hup (by omega) ha.symm
  by_cases hb : b = .nil
  · exact join_nil2 a b h hup (by omega) ha hb.symm
  cases hm : melB a.lastx b.firstx with
  | false => exact join_not a b h hup hQ ha hb hm
  | true => exact join_meld a b h hup hQ ha hb hm
end
end Go.Proofs.Yteodfbkfpboehaa
