
import Derived.Test.YteodfbkfpboehaaDH
/- DI: a tree with a forest in its arenas; a fork of two, a new leaf -/
namespace Go.Proofs.Yteodfbkfpboehaa
open Go.RowKit
set_option linter.unusedVariables false
set_option maxRecDepth 100000

theorem Tr.nd_form {α β : Type} {W : Way α β} (T : Tr α) : ∃ H L R Th : Int, T.nd W = ⟨H, (T.ht : Nat), (W.ln (T.el W) : Nat), (W.mks (T.el W) : Nat), L, R, Th⟩ := by
  refine ⟨(T.nd W).held, (T.nd W).left, (T.nd W).right, (T.nd W).thing, ?_⟩
  rw [← T.nd_height (W := W), ← T.nd_len (W := W), ← T.nd_marks (W := W)]
/-- A tree's arenas hold just this forest. -/
def St (D : Sv → Prop) (S : Nat → Prop) (tb : Nat) (root : Int) (F : List TC) (w : World) : Prop := ∃ an cn U V A C, TrM D S tb an cn U V root A C w ∧ Has Wc A C F
theorem cb2_new (w : World) (t u : TypeId) (cs ds : Array Value) : Cb w.heap.size t cs ((w.alloc (.cells cs t)).alloc (.cells ds u)) ∧ Cb (w.heap.size + 1) u ds ((w.alloc (.cells cs t)).alloc (.cells ds u)) := by
  refine ⟨(cb_new w t cs).alloc _, ?_⟩
  have := cb_new (w.alloc (.cells cs t)) u ds
  rwa [World.size_alloc] at this
section
variable {D : Sv → Prop} {S : Nat → Prop} {tb an cn : Nat} {U V : Nat → Prop} {root : Int} {A A' : ArS Nd} {C C' : ArS Ck} {F : List TC} {w w' : World}
theorem St.below (h : St D S tb root F w) (hb : Below w.heap.size w w') : St D S tb root F w' := by
  obtain ⟨an, cn, U, V, A, C, h1, h2⟩ := h
  exact ⟨an, cn, U, V, A, C, h1.below hb, h2⟩
theorem St.off {X : Nat → Prop} (h : St D S tb root F w) (ho : Off X w w') (hd : ∀ k, S k → ¬ X k) : St D S tb root F w' := by
  obtain ⟨an, cn, U, V, A, C, h1, h2⟩ := h
  exact ⟨an, cn, U, V, A, C, h1.off ho hd, h2⟩
theorem St.mono (h : St D S tb root F w) {S' : Nat → Prop} (hS : ∀ k, S k → S' k) : St D S' tb root F w := by
  obtain ⟨an, cn, U, V, A, C, h1, h2⟩ := h
  exact ⟨an, cn, U, V, A, C, h1.mono hS, h2⟩
theorem St.cut (h : St D S tb root F w) : St D (fun k => S k ∧ k < w.heap.size) tb root F w := by
  obtain ⟨an, cn, U, V, A, C, h1, h2⟩ := h
  exact ⟨an, cn, U, V, A, C, h1.cut, h2⟩
theorem St.perm {F' : List TC} (h : St D S tb root F w) (hp : F.Perm F') : St D S tb root F' w := by
  obtain ⟨an, cn, U, V, A, C, h1, h2⟩ := h
  exact ⟨an, cn, U, V, A, C, h1, h2.perm hp⟩
theorem St.nil (h : St D S tb root F w) : St D S tb root (.nil :: F) w := by
  obtain ⟨an, cn, U, V, A, C, h1, h2⟩ := h
  exact ⟨an, cn, U, V, A, C, h1, has_nil.2 h2⟩
theorem St.unnil (h : St D S tb root (.nil :: F) w) : St D S tb root F w := by
  obtain ⟨an, cn, U, V, A, C, h1, h2⟩ := h
  exact ⟨an, cn, U, V, A, C, h1, has_nil.1 h2⟩
theorem At_N.room (h : At_N U an A w) (h2 : Has Wc A C F) (ht : tot Wc F ≤ 4000000000) : cnt A.ps < 1000000 := by have := h2.room; omega
theorem At_X.room (h : At_X V cn C w) (h2 : Has Wc A C F) (ht : tot Wc F ≤ 4000000000) : cnt C.ps < 1000000 := by have := h2.room; omega
theorem tot_at (h2 : Has Wc A C F) (T : TC) (hT : T ∈ F) : Wc.wt (T.el Wc) ≤ tot Wc F := by
  clear h2
  induction F with
  | nil => cases hT
  | cons U F ih =>
    rw [tot_cons]
    rcases List.mem_cons.1 hT with rfl | hT
    · omega
    · have := ih hT; omega

set_option maxHeartbeats 1000000 in
theorem fork_raw (h : TrM D S tb an cn U V root A C w) (hup : Up S w) (l r : TC) (hl : l.In Wc A C) (hr : r.In Wc A C) (hc : cnt A.ps < 1000000) (hs : Wc.ln (l.el Wc) + Wc.ln (r.el Wc) ≤ 4000000000) (hm : (l.el Wc).length + (r.el Wc).length ≤ 400000) (hh : l.ht ≤ 400000 ∧ r.ht ≤ 400000) :
    Calls Try.prog 78 #[.pointer (some ⟨tb, 0, none⟩), .int .i64 l.id, .int .i64 r.id] w fun e w' => e = .returned (.int .i64 (A.fresh : Nat)) ∧
      ∃ U', TrM D S tb an cn U' V root (A.take (Tr.nd Wc (.fork A.fresh l r))) C w' ∧ Off S w w' := by
  have HL := Lib.hid (fun w' (hb : Below w.heap.size w w') => at_any l (h.below hb) hl)
  have HR := Lib.hid (fun w' (hb : Below w.heap.size w w') => at_any r (h.below hb) hr)
  obtain ⟨Hl, Ll, Rl, Tl, el⟩ := l.nd_form (W := Wc)
  obtain ⟨Hr, Lr, Rr, Tr', er⟩ := r.nd_form (W := Wc)
  have hNd : Tr.nd Wc (.fork A.fresh l r) = ⟨1, (max l.ht r.ht + 1 : Nat), (Wc.ln (l.el Wc) + Wc.ln (r.el Wc) : Nat), (Wc.mks (l.el Wc) + Wc.mks (r.el Wc) : Nat), l.id, r.id, -1⟩ := by
    show (⟨1, _, (Wc.ln (l.el Wc ++ r.el Wc) : Nat), (Wc.mks (l.el Wc ++ r.el Wc) : Nat), _, _, _⟩ : Nd) = _
    rw [Wc.lnA, Wc.mkA]; rfl
  have hm1 : Wc.mks (l.el Wc) ≤ (l.el Wc).length := Nat.zero_le _
  have hm2 : Wc.mks (r.el Wc) ≤ (r.el Wc).length := Nat.zero_le _
  rw [hNd]
  rw [el] at HL
  rw [er] at HR
  clear hNd el er hl hr
  have hm3 : Wc.mks (l.el Wc) + Wc.mks (r.el Wc) ≤ 400000 := by omega
  clear hm1 hm2 hm
  generalize Wc.ln (l.el Wc) = al at *
  generalize Wc.ln (r.el Wc) = ar at *
  generalize Wc.mks (l.el Wc) = ml at *
  generalize Wc.mks (r.el Wc) = mr at *
  generalize l.ht = hl at *
  generalize r.ht = hr at *
  generalize l.id = li at *
  generalize r.id = ri at *
  have HP := Lib.hid (fun w => plus_any al ml ar mr (by omega) (by omega) w)
  obtain ⟨hx, ehx⟩ : ∃ hx : Nat, max hl hr = hx := ⟨_, rfl⟩
  have hxb : hx ≤ 400000 := by omega
  have ehx2 : max (hl : Int) (hr : Int) = (hx : Int) := by omega
  rw [ehx]
  have w9 : IntKind.i64.wrap ((hx : Int) + 1) = ((hx + 1 : Nat) : Int) := by rw [IntKind.wrap_i64]; omega
  have HT := Lib.hid h
  have HUP := Lib.hid hup
  clear h hup hh hm3 ehx
  go_enter Try.func78, Try.ntmps78
  go_wp2_with (first
    | (go_at_call 51; refine (HL.out _ (Below.refl _ _)).mono ?_; clear HL; rintro e w1 ⟨rfl, b1⟩; have B1 := Lib.hid b1; clear b1)
    | (go_at_call 51; refine (HR.out _ B1.out).mono ?_; clear HR; rintro e w2 ⟨rfl, b2⟩; have B2 := Lib.hid (below_add B1.out b2 B1.out.size); clear b2; have L2 := Lib.hid (cb2_new w2 102 102 ndz ndz); have B3 := Lib.hid ((B2.out.alloc B2.out.size (.cells ndz 102)).alloc (by have := B2.out.size; simp; omega) (.cells ndz 102)); have L3 := Lib.hid (And.intro (L2.out.1.set (ndc ⟨Hl, hl, al, ml, Ll, Rl, Tl⟩)) (L2.out.2.other (c := w2.heap.size) (by omega) (ndc ⟨Hl, hl, al, ml, Ll, Rl, Tl⟩))); have L4 := Lib.hid (And.intro (L3.out.1.other (c := w2.heap.size + 1) (by omega) (ndc ⟨Hr, hr, ar, mr, Lr, Rr, Tr'⟩)) (L3.out.2.set (ndc ⟨Hr, hr, ar, mr, Lr, Rr, Tr'⟩))); have B4 := Lib.hid (below_row (cs := ndc ⟨Hr, hr, ar, mr, Lr, Rr, Tr'⟩) (below_row (cs := ndc ⟨Hl, hl, al, ml, Ll, Rl, Tl⟩) B3.out (b := w2.heap.size) B2.out.size) (b := w2.heap.size + 1) (by have := B2.out.size; omega)))
    | (refine wpList_store_row rfl 102 (.tmp 7) (.tmp 11) rfl w2.heap.size (ndc ⟨Hl, hl, al, ml, Ll, Rl, Tl⟩) rfl rfl _ _ L2.out.1 (ninfo _) rfl (none_n _) ?_)
    | (refine wpList_store_row rfl 102 (.tmp 8) (.tmp 14) rfl (w2.heap.size + 1) (ndc ⟨Hr, hr, ar, mr, Lr, Rr, Tr'⟩) rfl rfl _ _ L3.out.2 (ninfo _) rfl (none_n _) ?_))
  refine with_worldT (fun W => Cb w2.heap.size 102 (ndc ⟨Hl, hl, al, ml, Ll, Rl, Tl⟩) W ∧ Cb (w2.heap.size + 1) 102 (ndc ⟨Hr, hr, ar, mr, Lr, Rr, Tr'⟩) W ∧ Below w.heap.size w W) ⟨L4.out.1, L4.out.2, B4.out⟩ fun W0 hW0 => ?_
  have hzz : w.heap.size ≤ w2.heap.size := B2.out.size
  obtain ⟨b7, hb7⟩ : ∃ b7, w2.heap.size = b7 := ⟨_, rfl⟩
  have HB7 : Hid (w.heap.size ≤ b7) := Lib.hid (hb7 ▸ hzz)
  rw [hb7] at hW0
  clear L2 L3 L4 B1 B2 B3 B4 hzz
  refine Lib.hid ?_
  rw [hb7]
  refine Hid.out ?_
  clear hb7
  have T_0 := Lib.hid (HT.out.below hW0.2.2.drew)
  have B_0 := Lib.hid hW0.2.2.drew
  have K_0 := Lib.hid (show Cb tb 92 (tcs an cn root) W0.drew ∧ Cb b7 102 (ndc ⟨Hl, hl, al, ml, Ll, Rl, Tl⟩) W0.drew ∧ Cb (b7 + 1) 102 (ndc ⟨Hr, hr, ar, mr, Lr, Rr, Tr'⟩) W0.drew from ⟨T_0.out.cb, hW0.1.below (below_drew _), hW0.2.1.below (below_drew _)⟩)
  clear hW0
  refine h_start (S := fun W => Cb tb 92 (tcs an cn root) W ∧ Cb b7 102 (ndc ⟨Hl, hl, al, ml, Ll, Rl, Tl⟩) W ∧ Cb (b7 + 1) 102 (ndc ⟨Hr, hr, ar, mr, Lr, Rr, Tr'⟩) W) (by kernel_rfl) ?_
  refine h_val (i := 0) (v := .pointer (some ⟨tb, 0, none⟩)) rfl (by kernel_rfl) (by kernel_rfl) (by kernel_rfl) (fun _ _ _ h => h) (by rfl) (fun wz hS => ?_) K_0.out ?_
  · skip
    go_simp
  go_frame
  refine h_val (i := 1) (v := .pointer (some ⟨tb, 0, none⟩)) rfl (by kernel_rfl) (by kernel_rfl) (by kernel_rfl) (fun _ _ _ h => h) (by rfl) (fun wz hS => ?_) K_0.out ?_
  · skip
    go_simp
  go_frame
  refine h_val (i := 2) (v := .pointer (some ⟨tb, 3, none⟩)) rfl (by kernel_rfl) (by kernel_rfl) (by kernel_rfl) (fun _ _ _ h => h) (by rfl) (fun wz hS => ?_) K_0.out ?_
  · skip
    go_simp
  go_frame
  refine h_val (i := 3) (v := .pointer (some ⟨an, 0, none⟩)) rfl (by kernel_rfl) (by kernel_rfl) (by kernel_rfl) (fun _ _ _ h => h) (by rfl) (fun wz hS => ?_) K_0.out ?_
  · skip
    have q3 : wz.cell? ⟨tb, 3, none⟩ = some (.pointer (some ⟨an, 0, none⟩)) := hS.1.cell 3
    go_simp
  go_frame
  refine h_val (i := 4) (v := .pointer (some ⟨b7, 1, none⟩)) rfl (by kernel_rfl) (by kernel_rfl) (by kernel_rfl) (fun _ _ _ h => h) (by rfl) (fun wz hS => ?_) K_0.out ?_
  · skip
    go_simp
  go_frame
  refine h_val (i := 5) (v := .int .i64 (hl : Nat)) rfl (by kernel_rfl) (by kernel_rfl) (by kernel_rfl) (fun _ _ _ h => h) (by rfl) (fun wz hS => ?_) K_0.out ?_
  · skip
    have q1 : wz.cell? ⟨b7, 1, none⟩ = some (.int .i64 (hl : Nat)) := hS.2.1.cell 1
    go_simp
  go_frame
  refine h_val (i := 6) (v := .pointer (some ⟨b7 + 1, 1, none⟩)) rfl (by kernel_rfl) (by kernel_rfl) (by kernel_rfl) (fun _ _ _ h => h) (by rfl) (fun wz hS => ?_) K_0.out ?_
  · skip
    go_simp
  go_frame
  refine h_val (i := 7) (v := .int .i64 (hr : Nat)) rfl (by kernel_rfl) (by kernel_rfl) (by kernel_rfl) (fun _ _ _ h => h) (by rfl) (fun wz hS => ?_) K_0.out ?_
  · skip
    have q1 : wz.cell? ⟨b7 + 1, 1, none⟩ = some (.int .i64 (hr : Nat)) := hS.2.2.cell 1
    go_simp
  go_frame
  refine h_val (i := 8) (v := .int .i64 (hx : Nat)) rfl (by kernel_rfl) (by kernel_rfl) (by kernel_rfl) (fun _ _ _ h => h) (by rfl) (fun wz hS => ?_) K_0.out ?_
  · skip
    go_simp
  go_frame
  refine h_val (i := 9) (v := .int .i64 (hx + 1 : Nat)) rfl (by kernel_rfl) (by kernel_rfl) (by kernel_rfl) (fun _ _ _ h => h) (by rfl) (fun wz hS => ?_) K_0.out ?_
  · skip
    go_simp
  go_frame
  refine h_val (i := 10) (v := .pointer (some ⟨b7, 2, none⟩)) rfl (by kernel_rfl) (by kernel_rfl) (by kernel_rfl) (fun _ _ _ h => h) (by rfl) (fun wz hS => ?_) K_0.out ?_
  · skip
    go_simp
  go_frame
  refine h_val (i := 11) (v := .agg #[.int .i64 (al : Nat), .int .i64 (ml : Nat)]) rfl (by kernel_rfl) (by kernel_rfl) (by kernel_rfl) (fun _ _ _ h => h) (by rfl) (fun wz hS => ?_) K_0.out ?_
  · skip
    have q2 : wz.cell? ⟨b7, 2, none⟩ = some (.int .i64 (al : Nat)) := hS.2.1.cell 2
    have q3 : wz.cell? ⟨b7, 3, none⟩ = some (.int .i64 (ml : Nat)) := hS.2.1.cell 3
    go_simp
  go_frame
  refine h_val (i := 12) (v := .pointer (some ⟨b7 + 1, 2, none⟩)) rfl (by kernel_rfl) (by kernel_rfl) (by kernel_rfl) (fun _ _ _ h => h) (by rfl) (fun wz hS => ?_) K_0.out ?_
  · skip
    go_simp
  go_frame
  refine h_val (i := 13) (v := .agg #[.int .i64 (ar : Nat), .int .i64 (mr : Nat)]) rfl (by kernel_rfl) (by kernel_rfl) (by kernel_rfl) (fun _ _ _ h => h) (by rfl) (fun wz hS => ?_) K_0.out ?_
  · skip
    have q2 : wz.cell? ⟨b7 + 1, 2, none⟩ = some (.int .i64 (ar : Nat)) := hS.2.2.cell 2
    have q3 : wz.cell? ⟨b7 + 1, 3, none⟩ = some (.int .i64 (mr : Nat)) := hS.2.2.cell 3
    go_simp
  go_frame
  refine h_val (i := 15) (v := .int .i64 li) rfl (by kernel_rfl) (by kernel_rfl) (by kernel_rfl) (fun _ _ _ h => h) (by rfl) (fun wz hS => ?_) K_0.out ?_
  · skip
    go_simp
  go_frame
  refine h_val (i := 16) (v := .int .i64 ri) rfl (by kernel_rfl) (by kernel_rfl) (by kernel_rfl) (fun _ _ _ h => h) (by rfl) (fun wz hS => ?_) K_0.out ?_
  · skip
    go_simp
  go_frame
  refine h_all1 (i := 14) (by kernel_rfl) ?_
  refine o_call (f := 58) (args := #[.agg #[.int .i64 (al : Nat), .int .i64 (ml : Nat)], .agg #[.int .i64 (ar : Nat), .int .i64 (mr : Nat)]]) rfl (by rfl) (by go_simp) ?_
  refine (HP.out _).mono ?_
  rintro e w1 ⟨rfl, b1⟩
  have K_1 := Lib.hid (And.intro (K_0.out.1.below b1) (And.intro (K_0.out.2.1.below b1) (K_0.out.2.2.below b1)))
  have B_1 := Lib.hid (below_add B_0.out b1 B_0.out.size)
  have T_1 := Lib.hid (T_0.out.below b1)
  clear b1
  refine ⟨_, rfl, K_1.out, ?_⟩
  go_frame
  refine h_val (i := 17) (v := ndv ⟨1, ((hx + 1 : Nat) : Int), ((al + ar : Nat) : Int), ((ml + mr : Nat) : Int), li, ri, -1⟩) rfl (by kernel_rfl) (by kernel_rfl) (by kernel_rfl) (fun _ _ _ h => h) (by rfl) (fun wz hS => ?_) K_1.out ?_
  · skip
    go_simp
  go_frame
  refine h_all1 (i := 18) (by kernel_rfl) ?_
  refine o_call (f := 80) (args := #[.pointer (some ⟨an, 0, none⟩), ndv ⟨1, ((hx + 1 : Nat) : Int), ((al + ar : Nat) : Int), ((ml + mr : Nat) : Int), li, ri, -1⟩]) rfl (by rfl) (by go_simp) ?_
  refine (take_N ⟨1, ((hx + 1 : Nat) : Int), ((al + ar : Nat) : Int), ((ml + mr : Nat) : Int), li, ri, -1⟩ T_1.out.nodes hc T_1.out.uw).mono ?_
  rintro e w2 ⟨rfl, hn, ho⟩
  have hu7 : ¬ U b7 := fun hh => by have := HT.out.uw _ hh; have := HB7.out; omega
  have hu8 : ¬ U (b7 + 1) := fun hh => by have := HT.out.uw _ hh; have := HB7.out; omega
  have K_f := Lib.hid (And.intro (K_1.out.1.off ho HT.out.ut) (And.intro (K_1.out.2.1.off ho hu7) (K_1.out.2.2.off ho hu8)))
  have T_f := Lib.hid (T_1.out.stepN (HUP.out.below B_1.out) ho hn)
  have O_f := Lib.hid (Off.below_l B_1.out (T_1.out.offN ho))
  refine ⟨_, rfl, K_f.out, ?_⟩
  go_frame
  refine h_val (i := 19) (v := .int .i64 (A.fresh : Nat)) rfl (by kernel_rfl) (by kernel_rfl) (by kernel_rfl) (fun _ _ _ h => h) (by rfl) (fun wz hS => ?_) K_f.out ?_
  · skip
    go_simp
  go_frame
  refine h_done (by kernel_rfl) ?_
  go_wp2
  go_ret
  exact ⟨rfl, _, T_f.out, O_f.out⟩

theorem Tr.In.ht_le {α β : Type} {W : Way α β} {A : ArS Nd} {C : ArS α} : ∀ {T : Tr α}, T.In W A C → T.ht ≤ (T.el W).length
  | .nil, _ => by simp [Tr.ht]
  | .leaf n t x, h => h.2.2
  | .fork n l r, h => by
    have a := h.2.2.2.1.ht_le
    have b := h.2.2.2.2.ht_le
    have c := h.2.2.2.1.el_pos h.2.1
    have d := h.2.2.2.2.el_pos h.2.2.1
    simp only [Tr.ht, Tr.el, List.length_append]
    omega
theorem fork_any (l r : TC) (h : St D S tb root (l :: r :: F) w) (hup : Up S w) (hl : l ≠ .nil) (hr : r ≠ .nil) (ht : tot Wc (l :: r :: F) ≤ 4000000000) :
    Calls Try.prog 78 #[.pointer (some ⟨tb, 0, none⟩), .int .i64 l.id, .int .i64 r.id] w fun e w' => ∃ n : Nat, e = .returned (.int .i64 (n : Nat)) ∧ St D S tb root (.fork n l r :: F) w' ∧ Off S w w' := by
  obtain ⟨an, cn, U, V, A, C, h1, h2⟩ := h
  have il := h2.inn l (by simp)
  have ir := h2.inn r (by simp)
  have hs := ht
  rw [tot_cons, tot_cons] at hs
  have a := il.ht_le
  have b := ir.ht_le
  have a1 := Wc.wt_len (l.el Wc)
  have b1 := Wc.wt_len (r.el Wc)
  have a2 := Wc.wt_ln (l.el Wc)
  have b2 := Wc.wt_ln (r.el Wc)
  refine (fork_raw h1 hup l r il ir (h1.nodes.room h2 ht) (by omega) (by omega) ⟨by omega, by omega⟩).mono ?_
  rintro e w' ⟨q1, U', q2, q3⟩
  exact ⟨A.fresh, q1, ⟨an, cn, U', V, _, C, q2, h2.forked h1.nodes.ok hl hr⟩, q3⟩

set_option maxHeartbeats 1000000 in
theorem leaf_nil (h : TrM D S tb an cn U V root A C w) (hup : Up S w) (x : Ck) (hx : x.n = 0) :
    Calls Try.prog 61 #[.pointer (some ⟨tb, 0, none⟩), cvs x] w fun e w' => e = .returned (.int .i64 (-1)) ∧ Below w.heap.size w w' := by
  have HM := Lib.hid (fun w => mea_any x w)
  have HS := Lib.hid (xc_size x)

  have hnl : True := trivial
  have hxl : True := trivial
  unfold cvs at *
  obtain ⟨cx, hcx⟩ : ∃ cx, krow x = cx := ⟨_, rfl⟩
  rw [hcx] at HM HS ⊢
  obtain ⟨xl, hxl2⟩ : ∃ xl, x.n = xl := ⟨_, rfl⟩
  obtain ⟨xn, hxn⟩ : ∃ xn : Int, ((0 : Nat) : Int) = xn := ⟨_, rfl⟩
  rw [hxl2, hxn] at HM
  have hz : xl = 0 := by rw [← hxl2, hx]
  have hd : ((xl : Int) == 0) = true := by rw [hz]; rfl
  clear hz hx
  have HT := Lib.hid h
  have HUP := Lib.hid hup
  clear hcx h hup hxn hxl2 hnl hxl
  go_enter Try.func61, Try.ntmps61
  go_upto_region 1 with fail
  refine with_worldT (fun W => Cb w.heap.size 61 cx W ∧ Below w.heap.size w W) ⟨cb_new w _ cx, (Below.refl _ w).alloc (Nat.le_refl _) _⟩ fun W0 hW0 => ?_
  have T_0 := Lib.hid (HT.out.below hW0.2.drew)
  have B_0 := Lib.hid hW0.2.drew
  have K_0 := Lib.hid (show Cb tb 92 (tcs an cn root) W0.drew ∧ Cb w.heap.size 61 cx W0.drew from ⟨T_0.out.cb, hW0.1.below (below_drew _)⟩)
  clear hW0
  refine h_start (S := fun W => Cb tb 92 (tcs an cn root) W ∧ Cb w.heap.size 61 cx W) (by kernel_rfl) ?_
  refine h_val (i := 0) (v := .pointer (some ⟨tb, 0, none⟩)) rfl (by kernel_rfl) (by kernel_rfl) (by kernel_rfl) (fun _ _ _ h => h) (by rfl) (fun wz hS => ?_) K_0.out ?_
  · skip
    go_simp
  go_frame
  refine h_val (i := 1) (v := .pointer (some ⟨tb, 0, none⟩)) rfl (by kernel_rfl) (by kernel_rfl) (by kernel_rfl) (fun _ _ _ h => h) (by rfl) (fun wz hS => ?_) K_0.out ?_
  · skip
    go_simp
  go_frame
  refine h_val (i := 2) (v := .pointer (some ⟨tb, 0, none⟩)) rfl (by kernel_rfl) (by kernel_rfl) (by kernel_rfl) (fun _ _ _ h => h) (by rfl) (fun wz hS => ?_) K_0.out ?_
  · skip
    go_simp
  go_frame
  refine h_val (i := 3) (v := .pointer (some ⟨tb, 0, none⟩)) rfl (by kernel_rfl) (by kernel_rfl) (by kernel_rfl) (fun _ _ _ h => h) (by rfl) (fun wz hS => ?_) K_0.out ?_
  · skip
    go_simp
  go_frame
  refine h_val (i := 4) (v := .func (.func 54) #[] #[]) rfl (by kernel_rfl) (by kernel_rfl) (by kernel_rfl) (fun _ _ _ h => h) (by rfl) (fun wz hS => ?_) K_0.out ?_
  · skip
    have q0 : wz.cell? ⟨tb, 0, none⟩ = some (.func (.func 54) #[] #[]) := hS.1.cell 0
    go_simp
  go_frame
  refine h_val (i := 5) (v := .agg cx) rfl (by kernel_rfl) (by kernel_rfl) (by kernel_rfl) (fun _ _ _ h => h) (by rfl) (fun wz hS => ?_) K_0.out ?_
  · skip
    exact x_load 61 (.tmp 3) rfl _ rfl _ _ _ _ hS.2 Try.underlying61 rfl (xinfo HS.out)
  go_frame
  refine h_all2 (i := 6) (j := 7) (by kernel_rfl) ?_ ?_
  · skip
    refine o_call (f := 54) (args := #[.agg cx]) rfl (by rfl) (by go_simp) ?_
    refine (HM.out _).mono ?_
    rintro e w1 ⟨rfl, b1⟩
    have K_1 := Lib.hid (And.intro (K_0.out.1.below b1) (K_0.out.2.below b1))
    have B_1 := Lib.hid (below_add B_0.out b1 B_0.out.size)
    have T_1 := Lib.hid (T_0.out.below b1)
    clear b1
    refine ⟨_, rfl, K_1.out, ?_⟩
    go_frame
    refine h_all1 (i := 7) (by kernel_rfl) ?_
    refine o_step rfl (by rfl) ?_
    refine wp_alloc_row 74 rfl #[.int .i64 0, .int .i64 0] zzero ?_
    have v2 := cb_new w1 74 #[.int .i64 0, .int .i64 0]
    have z2 : w.heap.size < (w1).heap.size := K_1.out.2.lt
    have y2 : tb < (w1).heap.size := K_1.out.1.lt
    have K_2 := Lib.hid (And.intro (K_1.out.1.alloc (.cells #[.int .i64 0, .int .i64 0] 74)) (K_1.out.2.alloc (.cells #[.int .i64 0, .int .i64 0] 74)))
    have B_2 := Lib.hid (B_1.out.alloc B_1.out.size (.cells #[.int .i64 0, .int .i64 0] 74))
    have T_2 := Lib.hid (T_1.out.below (below_alloc1 _ (.cells #[.int .i64 0, .int .i64 0] 74)))
    obtain ⟨b5, e5⟩ : ∃ b5, (w1).heap.size = b5 := ⟨_, rfl⟩
    rw [e5] at v2 z2 y2 ⊢
    have V_2 := Lib.hid v2
    clear v2 e5
    refine ⟨K_2.out, ?_⟩
    go_frame
    refine h_all1 (i := 8) (by kernel_rfl) ?_
    refine o_step rfl (by rfl) ?_
    refine wp_store_row 74 (.tmp 5) (.tmp 12) rfl b5 #[.int .i64 (xl : Nat), .int .i64 xn] rfl rfl _ _ V_2.out (zinfo _ _) rfl (zone2 _ _) ?_
    have K_e := Lib.hid (And.intro (K_2.out.1.other (c := b5) (by omega) #[.int .i64 (xl : Nat), .int .i64 xn]) (K_2.out.2.other (c := b5) (by omega) #[.int .i64 (xl : Nat), .int .i64 xn]))
    have V_e := Lib.hid (V_2.out.set #[.int .i64 (xl : Nat), .int .i64 xn])
    have B_e := Lib.hid (below_row (cs := #[.int .i64 (xl : Nat), .int .i64 xn]) B_2.out (show w.heap.size ≤ b5 by omega))
    refine ⟨K_e.out, ?_⟩
    go_frame
    refine h_done (by kernel_rfl) ?_
    have c0 : _ = some (Value.int .i64 (xl : Nat)) := V_e.out.cell 0
    go_wp2
    go_ret
    exact ⟨rfl, B_e.out⟩
  · skip
    refine o_step rfl (by rfl) ?_
    refine wp_alloc_row 74 rfl #[.int .i64 0, .int .i64 0] zzero ?_
    have v4 := cb_new W0.drew 74 #[.int .i64 0, .int .i64 0]
    have z4 : w.heap.size < (W0.drew).heap.size := K_0.out.2.lt
    have y4 : tb < (W0.drew).heap.size := K_0.out.1.lt
    have K_4 := Lib.hid (And.intro (K_0.out.1.alloc (.cells #[.int .i64 0, .int .i64 0] 74)) (K_0.out.2.alloc (.cells #[.int .i64 0, .int .i64 0] 74)))
    have B_4 := Lib.hid (B_0.out.alloc B_0.out.size (.cells #[.int .i64 0, .int .i64 0] 74))
    have T_4 := Lib.hid (T_0.out.below (below_alloc1 _ (.cells #[.int .i64 0, .int .i64 0] 74)))
    obtain ⟨b5, e5⟩ : ∃ b5, (W0.drew).heap.size = b5 := ⟨_, rfl⟩
    rw [e5] at v4 z4 y4 ⊢
    have V_4 := Lib.hid v4
    clear v4 e5
    refine ⟨K_4.out, ?_⟩
    go_frame
    refine h_all1 (i := 6) (by kernel_rfl) ?_
    refine o_call (f := 54) (args := #[.agg cx]) rfl (by rfl) (by go_simp) ?_
    refine (HM.out _).mono ?_
    rintro e w5 ⟨rfl, b5⟩
    have K_5 := Lib.hid (And.intro (K_4.out.1.below b5) (K_4.out.2.below b5))
    have B_5 := Lib.hid (below_add B_4.out b5 B_4.out.size)
    have T_5 := Lib.hid (T_4.out.below b5)
    have V_5 := Lib.hid (V_4.out.below b5)
    clear b5
    refine ⟨_, rfl, K_5.out, ?_⟩
    go_frame
    refine h_all1 (i := 8) (by kernel_rfl) ?_
    refine o_step rfl (by rfl) ?_
    refine wp_store_row 74 (.tmp 5) (.tmp 12) rfl b5 #[.int .i64 (xl : Nat), .int .i64 xn] rfl rfl _ _ V_5.out (zinfo _ _) rfl (zone2 _ _) ?_
    have K_e := Lib.hid (And.intro (K_5.out.1.other (c := b5) (by omega) #[.int .i64 (xl : Nat), .int .i64 xn]) (K_5.out.2.other (c := b5) (by omega) #[.int .i64 (xl : Nat), .int .i64 xn]))
    have V_e := Lib.hid (V_5.out.set #[.int .i64 (xl : Nat), .int .i64 xn])
    have B_e := Lib.hid (below_row (cs := #[.int .i64 (xl : Nat), .int .i64 xn]) B_5.out (show w.heap.size ≤ b5 by omega))
    refine ⟨K_e.out, ?_⟩
    go_frame
    refine h_done (by kernel_rfl) ?_
    have c0 : _ = some (Value.int .i64 (xl : Nat)) := V_e.out.cell 0
    go_wp2
    go_ret
    exact ⟨rfl, B_e.out⟩

set_option maxHeartbeats 1000000 in
theorem leaf_some (h : TrM D S tb an cn U V root A C w) (hup : Up S w) (x : Ck) (hx : x.n ≠ 0) (hc : cnt A.ps < 1000000) (hc2 : cnt C.ps < 1000000) (hdx : D x.d) :
    Calls Try.prog 61 #[.pointer (some ⟨tb, 0, none⟩), cvs x] w fun e w' => e = .returned (.int .i64 (A.fresh : Nat)) ∧ ∃ U' V', TrM D S tb an cn U' V' root (A.take (Tr.nd Wc (.leaf A.fresh C.fresh x))) (C.take x) w' ∧ Off S w w' := by
  have HCD := Lib.hid (show ∀ (t : Nat) (y : Ck), (C.take x).at_ t = some y → D y.d from fun t y hy => by
    rw [at_take h.things.ok] at hy
    split at hy
    · injection hy with hy; rw [← hy]; exact hdx
    · exact h.cD t y hy)
  clear hdx
  have HM := Lib.hid (fun w => mea_any x w)
  have HS := Lib.hid (xc_size x)
  have hNd : Tr.nd Wc (.leaf A.fresh C.fresh x) = ⟨1, 1, (x.n : Nat), ((0 : Nat) : Int), -1, -1, (C.fresh : Nat)⟩ := by
    show (⟨1, 1, (Wc.ln x.l : Nat), ((0 : Nat) : Int), -1, -1, (C.fresh : Nat)⟩ : Nd) = _
    rw [show Wc.ln x.l = x.n from lnS_l x]
  have HTX := Lib.hid (fun (w' : World) (h' : TrM D S tb an cn U V root A C w') => take_X x h'.things hc2 h'.vw)
  rw [show (Value.agg (K_X.c x).toArray) = cvs x from rfl] at HTX
  have hnl : True := trivial
  have hxl : True := trivial
  unfold cvs at *
  obtain ⟨cx, hcx⟩ : ∃ cx, krow x = cx := ⟨_, rfl⟩
  rw [hcx] at HM HS HTX ⊢
  obtain ⟨xl, hxl2⟩ : ∃ xl, x.n = xl := ⟨_, rfl⟩
  obtain ⟨xn, hxn⟩ : ∃ xn : Int, ((0 : Nat) : Int) = xn := ⟨_, rfl⟩
  rw [hxl2, hxn] at HM
  rw [hNd, hxl2, hxn]
  have hd : ((xl : Int) == 0) = false := by
    have : 0 < xl := by rw [← hxl2]; exact Nat.pos_of_ne_zero hx
    rw [beq_eq_false_iff_ne]; omega
  clear hNd hx
  have HT := Lib.hid h
  have HUP := Lib.hid hup
  clear hcx h hup hxn hxl2 hnl hxl
  go_enter Try.func61, Try.ntmps61
  go_upto_region 1 with fail
  refine with_worldT (fun W => Cb w.heap.size 61 cx W ∧ Below w.heap.size w W) ⟨cb_new w _ cx, (Below.refl _ w).alloc (Nat.le_refl _) _⟩ fun W0 hW0 => ?_
  have T_0 := Lib.hid (HT.out.below hW0.2.drew)
  have B_0 := Lib.hid hW0.2.drew
  have K_0 := Lib.hid (show Cb tb 92 (tcs an cn root) W0.drew ∧ Cb w.heap.size 61 cx W0.drew from ⟨T_0.out.cb, hW0.1.below (below_drew _)⟩)
  clear hW0
  refine h_start (S := fun W => Cb tb 92 (tcs an cn root) W ∧ Cb w.heap.size 61 cx W) (by kernel_rfl) ?_
  refine h_val (i := 0) (v := .pointer (some ⟨tb, 0, none⟩)) rfl (by kernel_rfl) (by kernel_rfl) (by kernel_rfl) (fun _ _ _ h => h) (by rfl) (fun wz hS => ?_) K_0.out ?_
  · skip
    go_simp
  go_frame
  refine h_val (i := 1) (v := .pointer (some ⟨tb, 0, none⟩)) rfl (by kernel_rfl) (by kernel_rfl) (by kernel_rfl) (fun _ _ _ h => h) (by rfl) (fun wz hS => ?_) K_0.out ?_
  · skip
    go_simp
  go_frame
  refine h_val (i := 2) (v := .pointer (some ⟨tb, 0, none⟩)) rfl (by kernel_rfl) (by kernel_rfl) (by kernel_rfl) (fun _ _ _ h => h) (by rfl) (fun wz hS => ?_) K_0.out ?_
  · skip
    go_simp
  go_frame
  refine h_val (i := 3) (v := .pointer (some ⟨tb, 0, none⟩)) rfl (by kernel_rfl) (by kernel_rfl) (by kernel_rfl) (fun _ _ _ h => h) (by rfl) (fun wz hS => ?_) K_0.out ?_
  · skip
    go_simp
  go_frame
  refine h_val (i := 4) (v := .func (.func 54) #[] #[]) rfl (by kernel_rfl) (by kernel_rfl) (by kernel_rfl) (fun _ _ _ h => h) (by rfl) (fun wz hS => ?_) K_0.out ?_
  · skip
    have q0 : wz.cell? ⟨tb, 0, none⟩ = some (.func (.func 54) #[] #[]) := hS.1.cell 0
    go_simp
  go_frame
  refine h_val (i := 5) (v := .agg cx) rfl (by kernel_rfl) (by kernel_rfl) (by kernel_rfl) (fun _ _ _ h => h) (by rfl) (fun wz hS => ?_) K_0.out ?_
  · skip
    exact x_load 61 (.tmp 3) rfl _ rfl _ _ _ _ hS.2 Try.underlying61 rfl (xinfo HS.out)
  go_frame
  refine h_all2 (i := 6) (j := 7) (by kernel_rfl) ?_ ?_
  · skip
    refine o_call (f := 54) (args := #[.agg cx]) rfl (by rfl) (by go_simp) ?_
    refine (HM.out _).mono ?_
    rintro e w1 ⟨rfl, b1⟩
    have K_1 := Lib.hid (And.intro (K_0.out.1.below b1) (K_0.out.2.below b1))
    have B_1 := Lib.hid (below_add B_0.out b1 B_0.out.size)
    have T_1 := Lib.hid (T_0.out.below b1)
    clear b1
    refine ⟨_, rfl, K_1.out, ?_⟩
    go_frame
    refine h_all1 (i := 7) (by kernel_rfl) ?_
    refine o_step rfl (by rfl) ?_
    refine wp_alloc_row 74 rfl #[.int .i64 0, .int .i64 0] zzero ?_
    have v2 := cb_new w1 74 #[.int .i64 0, .int .i64 0]
    have z2 : w.heap.size < (w1).heap.size := K_1.out.2.lt
    have y2 : tb < (w1).heap.size := K_1.out.1.lt
    have K_2 := Lib.hid (And.intro (K_1.out.1.alloc (.cells #[.int .i64 0, .int .i64 0] 74)) (K_1.out.2.alloc (.cells #[.int .i64 0, .int .i64 0] 74)))
    have B_2 := Lib.hid (B_1.out.alloc B_1.out.size (.cells #[.int .i64 0, .int .i64 0] 74))
    have T_2 := Lib.hid (T_1.out.below (below_alloc1 _ (.cells #[.int .i64 0, .int .i64 0] 74)))
    obtain ⟨b5, e5⟩ : ∃ b5, (w1).heap.size = b5 := ⟨_, rfl⟩
    rw [e5] at v2 z2 y2 ⊢
    have V_2 := Lib.hid v2
    clear v2 e5
    refine ⟨K_2.out, ?_⟩
    go_frame
    refine h_all1 (i := 8) (by kernel_rfl) ?_
    refine o_step rfl (by rfl) ?_
    refine wp_store_row 74 (.tmp 5) (.tmp 12) rfl b5 #[.int .i64 (xl : Nat), .int .i64 xn] rfl rfl _ _ V_2.out (zinfo _ _) rfl (zone2 _ _) ?_
    have K_e := Lib.hid (And.intro (K_2.out.1.other (c := b5) (by omega) #[.int .i64 (xl : Nat), .int .i64 xn]) (K_2.out.2.other (c := b5) (by omega) #[.int .i64 (xl : Nat), .int .i64 xn]))
    have V_e := Lib.hid (V_2.out.set #[.int .i64 (xl : Nat), .int .i64 xn])
    have B_e := Lib.hid (below_row (cs := #[.int .i64 (xl : Nat), .int .i64 xn]) B_2.out (show w.heap.size ≤ b5 by omega))
    refine ⟨K_e.out, ?_⟩
    go_frame
    refine h_done (by kernel_rfl) ?_
    have c0 : _ = some (Value.int .i64 (xl : Nat)) := V_e.out.cell 0
    go_upto_region 4 with fail
    refine with_worldT (fun W => Cb tb 92 (tcs an cn root) W ∧ Cb w.heap.size 61 cx W ∧ Cb b5 74 #[.int .i64 (xl : Nat), .int .i64 xn] W ∧ Below w.heap.size w W) ⟨K_e.out.1, K_e.out.2, V_e.out, B_e.out⟩ fun W4 hW4 => ?_
    have hb5 : w.heap.size < b5 := by omega
    have T_4 := Lib.hid (HT.out.below hW4.2.2.2.drew)
    have B_4 := Lib.hid hW4.2.2.2.drew
    have K_4 := Lib.hid (show Cb tb 92 (tcs an cn root) W4.drew ∧ Cb w.heap.size 61 cx W4.drew ∧ Cb b5 74 #[.int .i64 (xl : Nat), .int .i64 xn] W4.drew from ⟨hW4.1.below (below_drew _), hW4.2.1.below (below_drew _), hW4.2.2.1.below (below_drew _)⟩)
    clear hW4
    refine h_start (S := fun W => Cb tb 92 (tcs an cn root) W ∧ Cb w.heap.size 61 cx W ∧ Cb b5 74 #[.int .i64 (xl : Nat), .int .i64 xn] W) (by kernel_rfl) ?_
    refine h_val (i := 0) (v := .pointer (some ⟨tb, 0, none⟩)) rfl (by kernel_rfl) (by kernel_rfl) (by kernel_rfl) (fun _ _ _ h => h) (by rfl) (fun wz hS => ?_) K_4.out ?_
    · skip
      go_simp
    go_frame
    refine h_val (i := 1) (v := .pointer (some ⟨tb, 0, none⟩)) rfl (by kernel_rfl) (by kernel_rfl) (by kernel_rfl) (fun _ _ _ h => h) (by rfl) (fun wz hS => ?_) K_4.out ?_
    · skip
      go_simp
    go_frame
    refine h_val (i := 2) (v := .pointer (some ⟨tb, 3, none⟩)) rfl (by kernel_rfl) (by kernel_rfl) (by kernel_rfl) (fun _ _ _ h => h) (by rfl) (fun wz hS => ?_) K_4.out ?_
    · skip
      go_simp
    go_frame
    refine h_val (i := 3) (v := .pointer (some ⟨an, 0, none⟩)) rfl (by kernel_rfl) (by kernel_rfl) (by kernel_rfl) (fun _ _ _ h => h) (by rfl) (fun wz hS => ?_) K_4.out ?_
    · skip
      have q3 : wz.cell? ⟨tb, 3, none⟩ = some (.pointer (some ⟨an, 0, none⟩)) := hS.1.cell 3
      go_simp
    go_frame
    refine h_val (i := 4) (v := .agg #[.int .i64 (xl : Nat), .int .i64 xn]) rfl (by kernel_rfl) (by kernel_rfl) (by kernel_rfl) (fun _ _ _ h => h) (by rfl) (fun wz hS => ?_) K_4.out ?_
    · skip
      have q0 : wz.cell? ⟨b5, 0, none⟩ = some (.int .i64 (xl : Nat)) := hS.2.2.cell 0
      have q1 : wz.cell? ⟨b5, 1, none⟩ = some (.int .i64 xn) := hS.2.2.cell 1
      go_simp
    go_frame
    refine h_val (i := 5) (v := .pointer (some ⟨tb, 0, none⟩)) rfl (by kernel_rfl) (by kernel_rfl) (by kernel_rfl) (fun _ _ _ h => h) (by rfl) (fun wz hS => ?_) K_4.out ?_
    · skip
      go_simp
    go_frame
    refine h_val (i := 6) (v := .pointer (some ⟨tb, 0, none⟩)) rfl (by kernel_rfl) (by kernel_rfl) (by kernel_rfl) (fun _ _ _ h => h) (by rfl) (fun wz hS => ?_) K_4.out ?_
    · skip
      go_simp
    go_frame
    refine h_val (i := 7) (v := .pointer (some ⟨tb, 4, none⟩)) rfl (by kernel_rfl) (by kernel_rfl) (by kernel_rfl) (fun _ _ _ h => h) (by rfl) (fun wz hS => ?_) K_4.out ?_
    · skip
      go_simp
    go_frame
    refine h_val (i := 8) (v := .pointer (some ⟨cn, 0, none⟩)) rfl (by kernel_rfl) (by kernel_rfl) (by kernel_rfl) (fun _ _ _ h => h) (by rfl) (fun wz hS => ?_) K_4.out ?_
    · skip
      have q4 : wz.cell? ⟨tb, 4, none⟩ = some (.pointer (some ⟨cn, 0, none⟩)) := hS.1.cell 4
      go_simp
    go_frame
    refine h_val (i := 9) (v := .agg cx) rfl (by kernel_rfl) (by kernel_rfl) (by kernel_rfl) (fun _ _ _ h => h) (by rfl) (fun wz hS => ?_) K_4.out ?_
    · skip
      exact x_load 61 (.tmp 3) rfl _ rfl _ _ _ _ hS.2.1 Try.underlying61 rfl (xinfo HS.out)
    go_frame
    refine h_all1 (i := 10) (by kernel_rfl) ?_
    refine o_call (f := 81) (args := #[.pointer (some ⟨cn, 0, none⟩), .agg cx]) rfl (by rfl) (by go_simp) ?_
    refine (HTX.out _ T_4.out).mono ?_
    rintro e w1 ⟨rfl, hn, ho⟩
    have hu7 : ¬ V w.heap.size := fun hh => by have := HT.out.vw _ hh; omega
    have hu8 : ¬ V b5 := fun hh => by have := HT.out.vw _ hh; omega
    have K_g := Lib.hid (And.intro (K_4.out.1.off ho HT.out.vt) (And.intro (K_4.out.2.1.off ho hu7) (K_4.out.2.2.off ho hu8)))
    have T_g := Lib.hid (T_4.out.stepX (HUP.out.below B_4.out) ho hn HCD.out)
    have O_g := Lib.hid (Off.below_l B_4.out (T_4.out.offX ho))
    clear ho hn
    refine ⟨_, rfl, K_g.out, ?_⟩
    go_frame
    refine h_val (i := 11) (v := ndv ⟨1, 1, (xl : Nat), xn, -1, -1, (C.fresh : Nat)⟩) rfl (by kernel_rfl) (by kernel_rfl) (by kernel_rfl) (fun _ _ _ h => h) (by rfl) (fun wz hS => ?_) K_g.out ?_
    · skip
      go_simp
    go_frame
    refine h_all1 (i := 12) (by kernel_rfl) ?_
    refine o_call (f := 80) (args := #[.pointer (some ⟨an, 0, none⟩), ndv ⟨1, 1, (xl : Nat), xn, -1, -1, (C.fresh : Nat)⟩]) rfl (by rfl) (by go_simp) ?_
    refine (take_N ⟨1, 1, (xl : Nat), xn, -1, -1, (C.fresh : Nat)⟩ T_g.out.nodes hc T_g.out.uw).mono ?_
    rintro e w2 ⟨rfl, hn, ho⟩
    have hu7 : ¬ U w.heap.size := fun hh => by have := HT.out.uw _ hh; omega
    have hu8 : ¬ U b5 := fun hh => by have := HT.out.uw _ hh; omega
    have K_h := Lib.hid (And.intro (K_g.out.1.off ho HT.out.ut) (And.intro (K_g.out.2.1.off ho hu7) (K_g.out.2.2.off ho hu8)))
    have T_h := Lib.hid (T_g.out.stepN (HUP.out.off O_g.out) ho hn)
    have O_h := Lib.hid (O_g.out.seq (T_g.out.offN ho))
    refine ⟨_, rfl, K_h.out, ?_⟩
    go_frame
    refine h_val (i := 13) (v := .int .i64 (A.fresh : Nat)) rfl (by kernel_rfl) (by kernel_rfl) (by kernel_rfl) (fun _ _ _ h => h) (by rfl) (fun wz hS => ?_) K_h.out ?_
    · skip
      go_simp
    go_frame
    refine h_done (by kernel_rfl) ?_
    go_wp2
    go_ret
    exact ⟨rfl, _, _, T_h.out, O_h.out⟩
  · skip
    refine o_step rfl (by rfl) ?_
    refine wp_alloc_row 74 rfl #[.int .i64 0, .int .i64 0] zzero ?_
    have v4 := cb_new W0.drew 74 #[.int .i64 0, .int .i64 0]
    have z4 : w.heap.size < (W0.drew).heap.size := K_0.out.2.lt
    have y4 : tb < (W0.drew).heap.size := K_0.out.1.lt
    have K_4 := Lib.hid (And.intro (K_0.out.1.alloc (.cells #[.int .i64 0, .int .i64 0] 74)) (K_0.out.2.alloc (.cells #[.int .i64 0, .int .i64 0] 74)))
    have B_4 := Lib.hid (B_0.out.alloc B_0.out.size (.cells #[.int .i64 0, .int .i64 0] 74))
    have T_4 := Lib.hid (T_0.out.below (below_alloc1 _ (.cells #[.int .i64 0, .int .i64 0] 74)))
    obtain ⟨b5, e5⟩ : ∃ b5, (W0.drew).heap.size = b5 := ⟨_, rfl⟩
    rw [e5] at v4 z4 y4 ⊢
    have V_4 := Lib.hid v4
    clear v4 e5
    refine ⟨K_4.out, ?_⟩
    go_frame
    refine h_all1 (i := 6) (by kernel_rfl) ?_
    refine o_call (f := 54) (args := #[.agg cx]) rfl (by rfl) (by go_simp) ?_
    refine (HM.out _).mono ?_
    rintro e w5 ⟨rfl, b5⟩
    have K_5 := Lib.hid (And.intro (K_4.out.1.below b5) (K_4.out.2.below b5))
    have B_5 := Lib.hid (below_add B_4.out b5 B_4.out.size)
    have T_5 := Lib.hid (T_4.out.below b5)
    have V_5 := Lib.hid (V_4.out.below b5)
    clear b5
    refine ⟨_, rfl, K_5.out, ?_⟩
    go_frame
    refine h_all1 (i := 8) (by kernel_rfl) ?_
    refine o_step rfl (by rfl) ?_
    refine wp_store_row 74 (.tmp 5) (.tmp 12) rfl b5 #[.int .i64 (xl : Nat), .int .i64 xn] rfl rfl _ _ V_5.out (zinfo _ _) rfl (zone2 _ _) ?_
    have K_e := Lib.hid (And.intro (K_5.out.1.other (c := b5) (by omega) #[.int .i64 (xl : Nat), .int .i64 xn]) (K_5.out.2.other (c := b5) (by omega) #[.int .i64 (xl : Nat), .int .i64 xn]))
    have V_e := Lib.hid (V_5.out.set #[.int .i64 (xl : Nat), .int .i64 xn])
    have B_e := Lib.hid (below_row (cs := #[.int .i64 (xl : Nat), .int .i64 xn]) B_5.out (show w.heap.size ≤ b5 by omega))
    refine ⟨K_e.out, ?_⟩
    go_frame
    refine h_done (by kernel_rfl) ?_
    have c0 : _ = some (Value.int .i64 (xl : Nat)) := V_e.out.cell 0
    go_upto_region 4 with fail
    refine with_worldT (fun W => Cb tb 92 (tcs an cn root) W ∧ Cb w.heap.size 61 cx W ∧ Cb b5 74 #[.int .i64 (xl : Nat), .int .i64 xn] W ∧ Below w.heap.size w W) ⟨K_e.out.1, K_e.out.2, V_e.out, B_e.out⟩ fun W4 hW4 => ?_
    have hb5 : w.heap.size < b5 := by omega
    have T_4 := Lib.hid (HT.out.below hW4.2.2.2.drew)
    have B_4 := Lib.hid hW4.2.2.2.drew
    have K_4 := Lib.hid (show Cb tb 92 (tcs an cn root) W4.drew ∧ Cb w.heap.size 61 cx W4.drew ∧ Cb b5 74 #[.int .i64 (xl : Nat), .int .i64 xn] W4.drew from ⟨hW4.1.below (below_drew _), hW4.2.1.below (below_drew _), hW4.2.2.1.below (below_drew _)⟩)
    clear hW4
    refine h_start (S := fun W => Cb tb 92 (tcs an cn root) W ∧ Cb w.heap.size 61 cx W ∧ Cb b5 74 #[.int .i64 (xl : Nat), .int .i64 xn] W) (by kernel_rfl) ?_
    refine h_val (i := 0) (v := .pointer (some ⟨tb, 0, none⟩)) rfl (by kernel_rfl) (by kernel_rfl) (by kernel_rfl) (fun _ _ _ h => h) (by rfl) (fun wz hS => ?_) K_4.out ?_
    · skip
      go_simp
    go_frame
    refine h_val (i := 1) (v := .pointer (some ⟨tb, 0, none⟩)) rfl (by kernel_rfl) (by kernel_rfl) (by kernel_rfl) (fun _ _ _ h => h) (by rfl) (fun wz hS => ?_) K_4.out ?_
    · skip
      go_simp
    go_frame
    refine h_val (i := 2) (v := .pointer (some ⟨tb, 3, none⟩)) rfl (by kernel_rfl) (by kernel_rfl) (by kernel_rfl) (fun _ _ _ h => h) (by rfl) (fun wz hS => ?_) K_4.out ?_
    · skip
      go_simp
    go_frame
    refine h_val (i := 3) (v := .pointer (some ⟨an, 0, none⟩)) rfl (by kernel_rfl) (by kernel_rfl) (by kernel_rfl) (fun _ _ _ h => h) (by rfl) (fun wz hS => ?_) K_4.out ?_
    · skip
      have q3 : wz.cell? ⟨tb, 3, none⟩ = some (.pointer (some ⟨an, 0, none⟩)) := hS.1.cell 3
      go_simp
    go_frame
    refine h_val (i := 4) (v := .agg #[.int .i64 (xl : Nat), .int .i64 xn]) rfl (by kernel_rfl) (by kernel_rfl) (by kernel_rfl) (fun _ _ _ h => h) (by rfl) (fun wz hS => ?_) K_4.out ?_
    · skip
      have q0 : wz.cell? ⟨b5, 0, none⟩ = some (.int .i64 (xl : Nat)) := hS.2.2.cell 0
      have q1 : wz.cell? ⟨b5, 1, none⟩ = some (.int .i64 xn) := hS.2.2.cell 1
      go_simp
    go_frame
    refine h_val (i := 5) (v := .pointer (some ⟨tb, 0, none⟩)) rfl (by kernel_rfl) (by kernel_rfl) (by kernel_rfl) (fun _ _ _ h => h) (by rfl) (fun wz hS => ?_) K_4.out ?_
    · skip
      go_simp
    go_frame
    refine h_val (i := 6) (v := .pointer (some ⟨tb, 0, none⟩)) rfl (by kernel_rfl) (by kernel_rfl) (by kernel_rfl) (fun _ _ _ h => h) (by rfl) (fun wz hS => ?_) K_4.out ?_
    · skip
      go_simp
    go_frame
    refine h_val (i := 7) (v := .pointer (some ⟨tb, 4, none⟩)) rfl (by kernel_rfl) (by kernel_rfl) (by kernel_rfl) (fun _ _ _ h => h) (by rfl) (fun wz hS => ?_) K_4.out ?_
    · skip
      go_simp
    go_frame
    refine h_val (i := 8) (v := .pointer (some ⟨cn, 0, none⟩)) rfl (by kernel_rfl) (by kernel_rfl) (by kernel_rfl) (fun _ _ _ h => h) (by rfl) (fun wz hS => ?_) K_4.out ?_
    · skip
      have q4 : wz.cell? ⟨tb, 4, none⟩ = some (.pointer (some ⟨cn, 0, none⟩)) := hS.1.cell 4
      go_simp
    go_frame
    refine h_val (i := 9) (v := .agg cx) rfl (by kernel_rfl) (by kernel_rfl) (by kernel_rfl) (fun _ _ _ h => h) (by rfl) (fun wz hS => ?_) K_4.out ?_
    · skip
      exact x_load 61 (.tmp 3) rfl _ rfl _ _ _ _ hS.2.1 Try.underlying61 rfl (xinfo HS.out)
    go_frame
    refine h_all1 (i := 10) (by kernel_rfl) ?_
    refine o_call (f := 81) (args := #[.pointer (some ⟨cn, 0, none⟩), .agg cx]) rfl (by rfl) (by go_simp) ?_
    refine (HTX.out _ T_4.out).mono ?_
    rintro e w1 ⟨rfl, hn, ho⟩
    have hu7 : ¬ V w.heap.size := fun hh => by have := HT.out.vw _ hh; omega
    have hu8 : ¬ V b5 := fun hh => by have := HT.out.vw _ hh; omega
    have K_g := Lib.hid (And.intro (K_4.out.1.off ho HT.out.vt) (And.intro (K_4.out.2.1.off ho hu7) (K_4.out.2.2.off ho hu8)))
    have T_g := Lib.hid (T_4.out.stepX (HUP.out.below B_4.out) ho hn HCD.out)
    have O_g := Lib.hid (Off.below_l B_4.out (T_4.out.offX ho))
    clear ho hn
    refine ⟨_, rfl, K_g.out, ?_⟩
    go_frame
    refine h_val (i := 11) (v := ndv ⟨1, 1, (xl : Nat), xn, -1, -1, (C.fresh : Nat)⟩) rfl (by kernel_rfl) (by kernel_rfl) (by kernel_rfl) (fun _ _ _ h => h) (by rfl) (fun wz hS => ?_) K_g.out ?_
    · skip
      go_simp
    go_frame
    refine h_all1 (i := 12) (by kernel_rfl) ?_
    refine o_call (f := 80) (args := #[.pointer (some ⟨an, 0, none⟩), ndv ⟨1, 1, (xl : Nat), xn, -1, -1, (C.fresh : Nat)⟩]) rfl (by rfl) (by go_simp) ?_
    refine (take_N ⟨1, 1, (xl : Nat), xn, -1, -1, (C.fresh : Nat)⟩ T_g.out.nodes hc T_g.out.uw).mono ?_
    rintro e w2 ⟨rfl, hn, ho⟩
    have hu7 : ¬ U w.heap.size := fun hh => by have := HT.out.uw _ hh; omega
    have hu8 : ¬ U b5 := fun hh => by have := HT.out.uw _ hh; omega
    have K_h := Lib.hid (And.intro (K_g.out.1.off ho HT.out.ut) (And.intro (K_g.out.2.1.off ho hu7) (K_g.out.2.2.off ho hu8)))
    have T_h := Lib.hid (T_g.out.stepN (HUP.out.off O_g.out) ho hn)
    have O_h := Lib.hid (O_g.out.seq (T_g.out.offN ho))
    refine ⟨_, rfl, K_h.out, ?_⟩
    go_frame
    refine h_val (i := 13) (v := .int .i64 (A.fresh : Nat)) rfl (by kernel_rfl) (by kernel_rfl) (by kernel_rfl) (fun _ _ _ h => h) (by rfl) (fun wz hS => ?_) K_h.out ?_
    · skip
      go_simp
    go_frame
    refine h_done (by kernel_rfl) ?_
    go_wp2
    go_ret
    exact ⟨rfl, _, _, T_h.out, O_h.out⟩

theorem leaf_any (x : Ck) (h : St D S tb root F w) (hup : Up S w) (ht : tot Wc F ≤ 4000000000) (hdx : D x.d) :
    Calls Try.prog 61 #[.pointer (some ⟨tb, 0, none⟩), cvs x] w fun e w' => ∃ L : TC, e = .returned (.int .i64 L.id) ∧ L.el Wc = x.l ∧ St D S tb root (L :: F) w' ∧ Off S w w' := by
  have h0 := h
  obtain ⟨an, cn, U, V, A, C, h1, h2⟩ := h
  by_cases hx : x.n = 0
  · refine (leaf_nil h1 hup x hx).mono ?_
    rintro e w' ⟨q1, q2⟩
    exact ⟨.nil, q1, (show [] = x.l by unfold Ck.l; rw [if_pos hx]), (h0.below q2).nil, Off.of_below q2⟩
  · refine (leaf_some h1 hup x hx (h1.nodes.room h2 ht) (h1.things.room h2 ht) hdx).mono ?_
    rintro e w' ⟨q1, U', V', q2, q3⟩
    exact ⟨.leaf A.fresh C.fresh x, q1, rfl, ⟨an, cn, U', V', _, _, q2, h2.leafed h1.nodes.ok h1.things.ok (show 0 < x.l.length by unfold Ck.l; rw [if_neg hx]; exact Nat.one_pos)⟩, q3⟩
end
end Go.Proofs.Yteodfbkfpboehaa
