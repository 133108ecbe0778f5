import Derived.Test.YtohgopibimgjfaaGreatZ6
import Derived.Deep.CutBlock
import Derived.Deep.CutRange
/- P10: the reference's bytes of ops -/
namespace Go.Proofs.YtohgopibimgjfaaGreat
open Go.RowKit
set_option linter.unusedVariables false
set_option maxRecDepth 100000

/-- Bytes as a row of cells. -/
def u8C : Cel Int := ⟨fun x => [.int .u8 x], 1, fun _ => rfl, fun o u hu => by
  simp only [List.mem_cons, List.not_mem_nil, or_false] at hu
  subst hu; rfl, by decide⟩
theorem fl_u8 : ∀ xs : List Int, fl u8C xs = xs.map (Value.int .u8)
  | [] => rfl
  | x :: r => by rw [fl_cons, fl_u8 r]; rfl
theorem u8_row {W : World} {v : Value} {xs : List Int} (h : Ints .u8 W v xs) : Row u8C W v xs := by
  rcases h with ⟨a, c, h1, h2, h3, h4⟩ | ⟨b, off, cap, h1, h2, h3, h4, h5⟩
  · exact .inl ⟨a, c, h1, h2, h3, h4⟩
  · refine .inr ⟨b, off, cap, h1, h2, h3, h4, fun j u hu => ?_⟩
    rw [fl_u8, List.getElem?_map, Option.map_eq_some_iff] at hu
    obtain ⟨x, hx, rfl⟩ := hu
    obtain ⟨hj, e⟩ := List.getElem?_eq_some_iff.1 hx
    rw [h5 j hj]
    simp [List.getD, List.getElem?_eq_getElem hj, e]
/-- An op that is told by bytes as it is laid. -/
structure EOk (z : Oz) : Prop where
  k : z.k = 1 ∨ z.k = 2 ∨ z.k = 3
  n : 0 ≤ z.n ∧ z.n ≤ 9223372036854775807
  r : z.k = 2 → allMay z.rs = true ∧ 0 < z.rs.length ∧ z.rs.length ≤ 1048576
  s : ∀ a ∈ z.st, AttW a ∧ 0 ≤ a.key ∧ a.s.size ≤ 1048576
  p : ∀ c ∈ z.pt, ChgW c ∧ 0 ≤ c.key ∧ c.s.size ≤ 1048576 ∧ (c.g = true → vlC c = zV) ∧ (c.g = false → 1 ≤ c.k)
  sl : z.st.length ≤ 16777216
  pl : z.pt.length ≤ 16777216
/-- What is built, and the op's variable. -/
structure EB (w0 : World) (b : Nat) (z : Oz) (a : Option Addr) (n c : Nat) (xs : List Int) (W : World) : Prop where
  own : W.ownsRow w0.heap.size 5 1 (.slice a n c) n (fl u8C xs)
  hn : n = xs.length
  bel : Below w0.heap.size w0 W
  ne : (Value.slice a n c).ownBlock ≠ some b
  box : Cb b 56 z.cs W
section
variable {w0 W W2 : World} {b : Nat} {z : Oz} {a : Option Addr} {n c g m cap : Nat} {xs ys : List Int}
theorem EB.below (h : EB w0 b z a n c xs W) (hb : Below W.heap.size W W2) : EB w0 b z a n c xs W2 := ⟨owns_below h.own hb, h.hn, below_add h.bel hb h.bel.size, h.ne, h.box.below hb⟩
theorem EB.at (h : EB w0 b z a n c xs W) : OAt b 0 z W := ⟨h.box.cell 0, h.box.cell 1, h.box.cell 2, h.box.cell 3, h.box.cell 4⟩
theorem EB.app (h : EB w0 b z a n c xs W) (ho : W2.ownsRow w0.heap.size 5 1 (.slice (some ⟨g, 0, none⟩) (n + ys.length) cap) (n + ys.length) (fl u8C xs ++ fl u8C ys)) (hg : W.grownBy W2 (Value.slice a n c).ownBlock) (hl : (Value.slice a n c).ownBlock = some g ∨ W.heap.size ≤ g) : EB w0 b z (some ⟨g, 0, none⟩) (n + ys.length) cap (xs ++ ys) W2 := by
  have hb := h.box.lt
  refine ⟨by rw [fl_app]; exact ho, by rw [List.length_append, h.hn], h.bel.grown hg h.bel.size (fun k hk => (h.own.lt k hk).1), fun e => ?_, ?_⟩
  · have e2 : g = b := by simpa [Value.ownBlock] using e
    rcases hl with q | q
    · exact h.ne (by rw [q, e2])
    · omega
  · exact (hg.block b hb (fun e => h.ne e.symm)).trans h.box
theorem EB.bs (h : EB w0 b z a n c xs W) : Bs w0 (.slice a n c) xs W := by
  have h1 := h.own
  have h2 := h.hn
  subst h2
  exact ⟨by rw [← fl_u8]; exact h1, h.bel⟩
theorem Bs.eb {W1 : World} (h : Bs w0 (.slice a n c) xs W1) : EB w0 W1.heap.size z a n c xs (W1.alloc (.cells z.cs 56)) := by
  obtain ⟨a2, n2, c2, e, h2⟩ := h.shape
  injection h2 with h3 h4 h5
  subst h3 h4 h5
  have hb := kbelow_one W1 (.cells z.cs 56)
  refine ⟨?_, e.symm, below_add h.bel hb h.bel.size, fun q => ?_, cb_new _ _ _⟩
  · have := owns_below h.own hb
    rw [e] at this
    rw [fl_u8]; exact this
  · have := own_lt7 h.own q
    omega
end
theorem flat_take {α : Type} (e : α → List Int) {l : List α} {j : Nat} (hj : j < l.length) : ((l.take (j + 1)).flatMap e) = ((l.take j).flatMap e) ++ e l[j] ∧ ((l.take j).flatMap e).length + (e l[j]).length ≤ (l.flatMap e).length := by
  have h1 : ((l.take (j + 1)).flatMap e) = ((l.take j).flatMap e) ++ e l[j] := by
    rw [List.take_succ_eq_append_getElem hj, List.flatMap_append, List.flatMap_cons, List.flatMap_nil, List.append_nil]
  refine ⟨h1, ?_⟩
  have h2 := congrArg List.length h1
  rw [List.length_append] at h2
  have h3 : (l.flatMap e).length = ((l.take (j + 1)).flatMap e).length + ((l.drop (j + 1)).flatMap e).length := by
    conv => lhs; rw [← List.take_append_drop (j + 1) l, List.flatMap_append, List.length_append]
  omega
theorem eOp_1 {o : Opn} (h : o.k = 1) : eOp o = form o.k.toNat ++ (form o.n.toNat ++ (form o.pt.length ++ o.pt.flatMap eChg)) := by
  unfold eOp eKind; rw [h]; rfl
theorem eOp_2 {o : Opn} (h : o.k = 2) : eOp o = form o.k.toNat ++ ((form (utfZ o.rs).length ++ utfZ o.rs) ++ (form o.st.length ++ o.st.flatMap eAtt)) := by
  unfold eOp eKind; rw [h]; rfl
theorem eOp_3 {o : Opn} (h : o.k = 3) : eOp o = form o.k.toNat ++ form o.n.toNat := by
  unfold eOp eKind; rw [h]; rfl
theorem eChg_g {c : Chg} (h : vlC c = zV) : eChg c = form c.key.toNat ++ [0] := by
  unfold eChg eGone
  rw [h]
  have : form (Int.toNat zV.k) = [0] := form_small 0 (by omega)
  rw [this]; rfl
theorem eChg_v {c : Chg} (h : 1 ≤ c.k) : eChg c = form c.key.toNat ++ eVl (vlC c) := by
  unfold eChg eGone eVl
  rw [if_neg (show ¬ (vlC c).k.toNat = 0 by show ¬ c.k.toNat = 0; omega)]
theorem eVl_pos (v : Vl) : 0 < (eVl v).length := by
  unfold eVl
  have := form_pos v.k.toNat
  rw [List.length_append]; omega
theorem formI {x : Int} (W : World) (h0 : 0 ≤ x) (h1 : x < 18446744073709551616) : Calls Tryz.prog 58 #[.int .u64 x] W (WMade (form x.toNat) W) := by
  have := wform_any x.toNat W (show x.toNat < _ by omega)
  rwa [Int.toNat_of_nonneg h0] at this
theorem valueI {k n f : Int} {s : ByteArray} (W : World) (hk : (Lit.int .u8 k).wf = true) (hn : (Lit.int .i64 n).wf = true) (hf : (Lit.int .u64 f).wf = true) (hs : s.size ≤ 1048576) : Calls Tryz.prog 59 #[val k n f s] W (WMade (eVl ⟨k, n, f, s⟩) W) := by
  have bk := Go.bounds_u8 hk
  have bn := Go.bounds_i64 hn
  have bf := Go.bounds_u64 hf
  have := rvalue_any k.toNat f.toNat n s W (by omega) (by omega) (by omega) hs
  rwa [Int.toNat_of_nonneg (by omega), Int.toNat_of_nonneg (by omega)] at this
theorem row_far {W W2 : World} {a a2 : Option Addr} {n c n2 c2 : Nat} {xs : List Int} (h : Row u8C W (.slice a n c) xs) (hg : W.grownBy W2 (Value.slice a2 n2 c2).ownBlock) (hx : ∀ x, a = some x → (Value.slice a2 n2 c2).ownBlock ≠ some x.block) : Row u8C W2 (.slice a n c) xs :=
  h.off (S := fun k => (Value.slice a2 n2 c2).ownBlock = some k) (Off.of_grown hg (fun k hk => hk)) (fun _ x e hh => hx x e hh)
theorem utf_bytes {ra : Option Addr} {rc : Nat} {rs : List Int} (W : World) (hr : Ints .i32 W (.slice ra rs.length rc) rs) (hm : allMay rs = true) (hl : rs.length ≤ 1048576) :
    Calls Tryz.prog 60 #[.slice ra rs.length rc] W fun e w' => ∃ a c, e = .returned (.tuple #[.slice a (utfZ rs).length c, .int .i64 0]) ∧ Row u8C w' (.slice a (utfZ rs).length c) (utfZ rs) ∧ (∀ x, a = some x → W.heap.size ≤ x.block) ∧ Below W.heap.size W w' := by
  refine (rnbytes_any _ rs W hr hl).mono fun e w' h => ?_
  obtain ⟨hb, h⟩ := h
  rcases h with ⟨-, v, n, he, ho⟩ | ⟨h, -⟩
  · obtain ⟨a, c, rfl, h2, -⟩ := own_shape ho
    have hi := Ints.of_owns ho
    obtain ⟨h3, h4⟩ := hi
    subst h4
    refine ⟨a, c, he, u8_row h3, fun x e => ?_, hb⟩
    subst e
    exact (ho.lt x.block (by simp [Value.ownBlock])).1
  · rw [hm] at h; cases h
theorem utf_pos {rs : List Int} (h : 0 < rs.length) : 0 < (utfZ rs).length := by
  have h1 := encs_len rs
  rw [← bl_utfZ, bl_len] at h1
  omega
theorem valueC {c : Chg} (W : World) (h : ChgW c) (hs : c.s.size ≤ 1048576) : Calls Tryz.prog 59 #[val c.k c.n c.f c.s] W (WMade (eVl (vlC c)) W) := valueI W h.k h.n h.f hs
theorem valueA {a : Att} (W : World) (h : AttW a) (hs : a.s.size ≤ 1048576) : Calls Tryz.prog 59 #[val a.k a.n a.f a.s] W (WMade (eVl (vlA a)) W) := valueI W h.k h.n h.f hs

set_option maxHeartbeats 8000000 in
theorem rencB_any (u : Value) (zs : List Oz) (w : World) (hx : Orow w u zs) (hE : ∀ z ∈ zs, EOk z) (hL : (encX (zs.map Oz.o)).length ≤ 1000000000) :
    Calls Tryz.prog 23 #[u] w (WMade (encX (zs.map Oz.o)) w) := by
  obtain ⟨i0, hi, hz0, hz1, hz2⟩ := info_parts info8
  have hl := hx.len
  obtain ⟨b1, cap1, rfl⟩ := hx.shape
  have HE := Lib.hid hE
  have HX := Lib.hid hx
  have HAT := Lib.hid (fun (h0 : 0 < zs.length) => hx.row.ats h0)
  have e0 : encX (zs.map Oz.o) = form zs.length ++ (zs.map Oz.o).flatMap eOp := by unfold encX; rw [List.length_map]
  have hzl : (zs.map Oz.o).length = zs.length := List.length_map _
  rw [e0] at hL ⊢
  clear e0 hx hE
  have HFL := Lib.hid (fun W => wform_any zs.length W (show zs.length < _ by omega))
  have ll : (form zs.length).length ≤ 10 := form_ten _ (by omega)
  have HLL := Lib.hid hL
  rw [List.length_append] at hL
  go_enter Tryz.func23, Tryz.ntmps23
  go_wp2_with (go_at_call 58; (with_reducible refine (HFL.out _).mono ?_); rintro e w1 ⟨v1, rfl, ho, hb⟩; (obtain ⟨a1, n1, c1, hn1, rfl⟩ := own_shape3 ho; clear hn1; have HB1 := Lib.hid (Bs.mk ho hb); clear ho hb))
  go_loopw [3, 4] (fun out i wr => ∃ (k : Nat) (a : Option Addr) (n c : Nat), k ≤ zs.length ∧ i = .int .i64 k ∧ out = .slice a n c ∧ Hid (Bs w (.slice a n c) (form zs.length ++ ((zs.map Oz.o).take k).flatMap eOp) wr)) (fun _ i _ => zs.length - (intOf i).toNat)
  case atStart => exact ⟨0, a1, n1, c1, Nat.zero_le _, rfl, rfl, Lib.hid (by simpa using HB1.out)⟩
  case round =>
    clear HB1
    obtain ⟨k, a, n, c, hk, rfl, rfl, HP⟩ := hrel
    obtain ⟨wo, hwo⟩ : ∃ x : World, x = wr := ⟨_, rfl⟩
    subst hwo
    by_cases hlt : k < zs.length
    · obtain ⟨g1, o1, rfl, -, hcap, hmx, hbl, hat⟩ := HAT.out (by omega)
      have HC := Lib.hid (fun W (hb : Below w.heap.size w W) => (hat k hlt).below hb)
      obtain ⟨q1, q2⟩ := flat_take eOp (l := zs.map Oz.o) (j := k) (by omega)
      have eg : (zs.map Oz.o)[k]'(by omega) = zs[k].o := List.getElem_map _
      rw [eg] at q1 q2
      have HNX := Lib.hid q1
      have HEK := Lib.hid (HE.out _ (List.getElem_mem hlt))
      have HOK := Lib.hid (fun W (hb : Below w.heap.size w W) => (HX.out.ok _ (List.getElem_mem hlt)).below hb)
      have HLT := Lib.hid hlt
      clear hat q1 eg HE
      generalize zs[k] = z at *
      have HEB := Lib.hid (HP.out.eb (z := z))
      obtain ⟨c0, c1, c2, c3, c4⟩ := HC.out wo HP.out.bel
      obtain ⟨T, hT⟩ : ∃ T, form zs.length ++ ((zs.map Oz.o).take k).flatMap eOp = T := ⟨_, rfl⟩
      have htl : T.length + (eOp z.o).length ≤ 1000000000 := by rw [← hT, List.length_append]; omega
      rw [hT] at HEB
      have HNX2 := Lib.hid (show T ++ eOp z.o = form zs.length ++ ((zs.map Oz.o).take (k + 1)).flatMap eOp by rw [HNX.out, ← hT, List.append_assoc])
      clear hT HP HC HNX q2
      go_upto_region 6 with fail
      generalize hW3 : wo.alloc (.cells _ 56) = W3 at *
      clear hW3 c0 c1 c2 c3 c4
      generalize wo.heap.size = bo at *
      obtain ⟨d0, d1, d2, d3, d4⟩ := HEB.out.at
      have hkk := HEK.out.k
      have hn0 := HEK.out.n
      have hpl := HEK.out.pl
      have hsl := HEK.out.sl
      have HFK := Lib.hid (fun W => formI (x := z.k) W (by omega) (by omega))
      have HFN := Lib.hid (fun W => formI (x := z.n) W hn0.1 (by omega))
      have lk : (form z.k.toNat).length ≤ 10 := form_ten _ (by omega)
      have ln : (form z.n.toNat).length ≤ 10 := form_ten _ (by omega)
      have hk0 : 0 ≤ z.k ∧ z.k ≤ 3 := by omega
      clear HLL hL
      by_cases k1 : z.k = 1
      · have q1 : (z.k == 1) = true := by simpa using k1
        have e1 := eOp_1 (o := z.o) k1
        have HFP := Lib.hid (fun W => wform_any z.pt.length W (show z.pt.length < _ by omega))
        have lp : (form z.pt.length).length ≤ 10 := form_ten _ (by omega)
        have htp : (z.pt.flatMap eChg).length ≤ 1000000000 := by
          have h := htl
          rw [e1] at h
          simp only [List.length_append] at h
          show (z.o.pt.flatMap eChg).length ≤ _
          omega
        have HNX3 := Lib.hid (by have h := HNX2.out; rw [e1] at h; exact h)
        have htl2 : T.length ≤ 1000000000 := by omega
        clear htl e1 HNX2 hkk k1
        go_wp2_with (first
          | (go_at_call 58; (with_reducible refine (HFK.out _).mono ?_); rintro e w4 ⟨v4, rfl, ho, hb⟩; (obtain ⟨a4, n4, c4, hn4, rfl⟩ := own_shape3 ho; clear hn4; have HE1 := Lib.hid (HEB.out.below hb); have HY4 := Lib.hid (u8_row (Ints.of_owns ho).1); clear d0 d1 d2 d3 d4; obtain ⟨d0, d1, d2, d3, d4⟩ := HE1.out.at; clear ho hb))
          | (at_builtin; (refine wpList_append_rowL (C := u8C) rfl (.tmp 24) (.tmp 28) 31 rfl w.heap.size 5 i0 (.int .u8 0) 1 Tryz.underlying31 hi hz0 hz1 hz2 rfl _ n _ rfl HE1.out.own _ _ rfl HY4.out (form_pos _) (by have := HE1.out.hn; (try simp only [List.length_append] at this); (try simp only [List.length_cons, List.length_nil]); unfold maxLen; omega) (by have := HE1.out.hn; (try simp only [List.length_append] at this); (try simp only [List.length_cons, List.length_nil]); omega) HE1.out.bel.size ?_); intro g5 cap5 w5 hown hgrow hlies hlt; have HE2 := Lib.hid (HE1.out.app hown hgrow hlies); obtain ⟨m5, hm⟩ : ∃ m, n + (form z.k.toNat).length = m := ⟨_, rfl⟩; rw [hm] at HE2 ⊢; clear hm hown hgrow hlies hlt; clear d0 d1 d2 d3 d4; obtain ⟨d0, d1, d2, d3, d4⟩ := HE2.out.at)
          | (go_at_call 58; (with_reducible refine (HFN.out _).mono ?_); rintro e w6 ⟨v6, rfl, ho, hb⟩; (obtain ⟨a6, n6, c6, hn6, rfl⟩ := own_shape3 ho; clear hn6; have HE3 := Lib.hid (HE2.out.below hb); have HY6 := Lib.hid (u8_row (Ints.of_owns ho).1); clear d0 d1 d2 d3 d4; obtain ⟨d0, d1, d2, d3, d4⟩ := HE3.out.at; clear ho hb))
          | (at_builtin; (refine wpList_append_rowL (C := u8C) rfl (.tmp 34) (.tmp 38) 31 rfl w.heap.size 5 i0 (.int .u8 0) 1 Tryz.underlying31 hi hz0 hz1 hz2 rfl _ m5 _ rfl HE3.out.own _ _ rfl HY6.out (form_pos _) (by have := HE3.out.hn; (try simp only [List.length_append] at this); (try simp only [List.length_cons, List.length_nil]); unfold maxLen; omega) (by have := HE3.out.hn; (try simp only [List.length_append] at this); (try simp only [List.length_cons, List.length_nil]); omega) HE3.out.bel.size ?_); intro g7 cap7 w7 hown hgrow hlies hlt; have HE4 := Lib.hid (HE3.out.app hown hgrow hlies); obtain ⟨m7, hm⟩ : ∃ m, m5 + (form z.n.toNat).length = m := ⟨_, rfl⟩; rw [hm] at HE4 ⊢; clear hm hown hgrow hlies hlt; clear d0 d1 d2 d3 d4; obtain ⟨d0, d1, d2, d3, d4⟩ := HE4.out.at)
          | (go_at_call 58; (with_reducible refine (HFP.out _).mono ?_); rintro e w8 ⟨v8, rfl, ho, hb⟩; (obtain ⟨a8, n8, c8, hn8, rfl⟩ := own_shape3 ho; clear hn8; have HE5 := Lib.hid (HE4.out.below hb); have HY8 := Lib.hid (u8_row (Ints.of_owns ho).1); clear d0 d1 d2 d3 d4; obtain ⟨d0, d1, d2, d3, d4⟩ := HE5.out.at; clear ho hb))
          | (at_builtin; (refine wpList_append_rowL (C := u8C) rfl (.tmp 40) (.tmp 45) 31 rfl w.heap.size 5 i0 (.int .u8 0) 1 Tryz.underlying31 hi hz0 hz1 hz2 rfl _ m7 _ rfl HE5.out.own _ _ rfl HY8.out (form_pos _) (by have := HE5.out.hn; (try simp only [List.length_append] at this); (try simp only [List.length_cons, List.length_nil]); unfold maxLen; omega) (by have := HE5.out.hn; (try simp only [List.length_append] at this); (try simp only [List.length_cons, List.length_nil]); omega) HE5.out.bel.size ?_); intro g9 cap9 w9 hown hgrow hlies hlt; have HE6 := Lib.hid (HE5.out.app hown hgrow hlies); obtain ⟨m9, hm⟩ : ∃ m, m7 + (form z.pt.length).length = m := ⟨_, rfl⟩; rw [hm] at HE6 ⊢; clear hm hown hgrow hlies hlt; clear d0 d1 d2 d3 d4; obtain ⟨d0, d1, d2, d3, d4⟩ := HE6.out.at))
        go_loopw [3, 6] (fun out i wr => ∃ (j : Nat) (a : Option Addr) (n c : Nat), j ≤ z.pt.length ∧ i = .int .i64 j ∧ out = .slice a n c ∧ Hid (EB w bo z a n c (T ++ form z.k.toNat ++ form z.n.toNat ++ form z.pt.length ++ (z.pt.take j).flatMap eChg) wr)) (fun _ i _ => z.pt.length - (intOf i).toNat)
        case atStart => exact ⟨0, _, _, _, Nat.zero_le _, rfl, rfl, Lib.hid (by simpa using HE6.out)⟩
        case round =>
          clear HE1 HE2 HE3 HE4 HE5 HE6 HY4 HY6 HY8 d0 d1 d2 d3 d4
          obtain ⟨j, ja, jn, jc, hj, rfl, rfl, HQ⟩ := hrel
          obtain ⟨wj, hwj⟩ : ∃ x : World, x = wr := ⟨_, rfl⟩
          subst hwj
          obtain ⟨d0, d1, d2, d3, d4⟩ := HQ.out.at
          by_cases hjl : j < z.pt.length
          · have HJL := Lib.hid hjl
            obtain ⟨gp, op, hpa, -, hpc, -, hpb, hpat⟩ := Crow.opn (HOK.out w (Below.refl _ _)).p (by omega)
            obtain ⟨r1, r2⟩ := flat_take eChg hjl
            have HC := Lib.hid (fun W (hb : Below w.heap.size w W) => (hpat j hjl).below hb hpb)
            have HCE := Lib.hid (HEK.out.p _ (List.getElem_mem hjl))
            obtain ⟨U, hU⟩ : ∃ U, T ++ form z.k.toNat ++ form z.n.toNat ++ form z.pt.length ++ (z.pt.take j).flatMap eChg = U := ⟨_, rfl⟩
            have hul : U.length ≤ 3000000000 := by rw [← hU]; simp only [List.length_append]; omega
            have HR1 := Lib.hid (show U ++ eChg z.pt[j] = T ++ form z.k.toNat ++ form z.n.toNat ++ form z.pt.length ++ (z.pt.take (j + 1)).flatMap eChg by rw [r1, ← hU]; simp only [List.append_assoc]; try rfl)
            rw [hU] at HQ
            rw [hpa] at d4
            have HPA := Lib.hid hpa
            clear r1 hpat hpa hU
            generalize z.pt[j] = cg at *
            obtain ⟨hcw, hck, hcs, hcg, hcn⟩ := HCE.out
            have bk := Go.bounds_i64 hcw.key
            have HFC := Lib.hid (fun W => formI (x := cg.key) W hck (by omega))
            have lc : (form cg.key.toNat).length ≤ 10 := form_ten _ (by omega)
            have HVC := Lib.hid (fun W => valueC (c := cg) W hcw hcs)
            obtain ⟨x0, x1, x2, x3, x4, x5⟩ := HC.out _ HQ.out.bel
            clear hcw hcs HCE
            cases hgg : cg.g with
            | true =>
              have e2 := eChg_g (hcg hgg)
              rw [hgg] at x1
              have HGG := Lib.hid hgg
              rw [e2] at HR1
              clear hcg hcn r2 HVC e2
              go_upto_region 16 with (first
                | (go_at_call 58; (with_reducible refine (HFC.out _).mono ?_); rintro e w11 ⟨v11, rfl, ho, hb⟩; (obtain ⟨a11, n11, c11, hn11, rfl⟩ := own_shape3 ho; clear hn11; have HE1 := Lib.hid (HQ.out.below hb); have HY11 := Lib.hid (u8_row (Ints.of_owns ho).1); clear d0 d1 d2 d3 d4 x0 x1 x2 x3 x4 x5; obtain ⟨d0, d1, d2, d3, d4⟩ := HE1.out.at; obtain ⟨x0, x1, x2, x3, x4, x5⟩ := HC.out _ HE1.out.bel; rw [HPA.out] at d4; rw [HGG.out] at x1; clear ho hb))
                | (at_builtin; (refine wpList_append_rowL (C := u8C) rfl (.tmp 54) (.tmp 62) 31 rfl w.heap.size 5 i0 (.int .u8 0) 1 Tryz.underlying31 hi hz0 hz1 hz2 rfl _ jn _ rfl HE1.out.own _ _ rfl HY11.out (form_pos _) (by have := HE1.out.hn; (try simp only [List.length_append] at this); (try simp only [List.length_cons, List.length_nil]); unfold maxLen; omega) (by have := HE1.out.hn; (try simp only [List.length_append] at this); (try simp only [List.length_cons, List.length_nil]); omega) HE1.out.bel.size ?_); intro g12 cap12 w12 hown hgrow hlies hlt; have HE2 := Lib.hid (HE1.out.app hown hgrow hlies); obtain ⟨m12, hm⟩ : ∃ m, jn + (form cg.key.toNat).length = m := ⟨_, rfl⟩; rw [hm] at HE2 ⊢; clear hm hown hgrow hlies hlt; clear d0 d1 d2 d3 d4 x0 x1 x2 x3 x4 x5; obtain ⟨d0, d1, d2, d3, d4⟩ := HE2.out.at; obtain ⟨x0, x1, x2, x3, x4, x5⟩ := HC.out _ HE2.out.bel; rw [HPA.out] at d4; rw [HGG.out] at x1))
              have HE3 := Lib.hid (HE2.out.below (kbelow_one w12 (.cells #[.int .u8 0] 5)))
              have HY13 := Lib.hid (Row.built (C := u8C) w12 5 [0] (by simp [maxLen]))
              go_wp2_with (at_builtin; (refine wpList_append_rowL (C := u8C) rfl (.tmp 70) (.tmp 71) 31 rfl w.heap.size 5 i0 (.int .u8 0) 1 Tryz.underlying31 hi hz0 hz1 hz2 rfl _ m12 _ rfl HE3.out.own _ _ rfl HY13.out (by simp) (by have := HE3.out.hn; (try simp only [List.length_append] at this); (try simp only [List.length_cons, List.length_nil]); unfold maxLen; omega) (by have := HE3.out.hn; (try simp only [List.length_append] at this); (try simp only [List.length_cons, List.length_nil]); omega) HE3.out.bel.size ?_); intro g14 cap14 w14 hown hgrow hlies hlt; have HE4 := Lib.hid (HE3.out.app hown hgrow hlies); obtain ⟨m14, hm⟩ : ∃ m, m12 + ([(0 : Int)]).length = m := ⟨_, rfl⟩; rw [hm] at HE4 ⊢; clear hm hown hgrow hlies hlt; skip)
              have HN := Lib.hid (show EB w bo z _ _ _ _ _ from by have h := HE4.out; rw [List.append_assoc, HR1.out] at h; exact h)
              go_roundw
              case rel => exact ⟨j + 1, _, _, _, HJL.out, by go_num, rfl, HN⟩
              case measure => have := HJL.out; simp [intOf]; omega
            | false =>
              have e2 := eChg_v (hcn hgg)
              rw [hgg] at x1
              have HGG := Lib.hid hgg
              rw [e2] at HR1 r2
              rw [List.length_append] at r2
              have HVP := Lib.hid (eVl_pos (vlC cg))
              have htv : (eVl (vlC cg)).length ≤ 1000000000 := by omega
              clear hcg hcn e2 r2
              go_wp2_with (first
                | (go_at_call 58; (with_reducible refine (HFC.out _).mono ?_); rintro e w11 ⟨v11, rfl, ho, hb⟩; (obtain ⟨a11, n11, c11, hn11, rfl⟩ := own_shape3 ho; clear hn11; have HE1 := Lib.hid (HQ.out.below hb); have HY11 := Lib.hid (u8_row (Ints.of_owns ho).1); clear d0 d1 d2 d3 d4 x0 x1 x2 x3 x4 x5; obtain ⟨d0, d1, d2, d3, d4⟩ := HE1.out.at; obtain ⟨x0, x1, x2, x3, x4, x5⟩ := HC.out _ HE1.out.bel; rw [HPA.out] at d4; rw [HGG.out] at x1; clear ho hb))
                | (at_builtin; (refine wpList_append_rowL (C := u8C) rfl (.tmp 54) (.tmp 62) 31 rfl w.heap.size 5 i0 (.int .u8 0) 1 Tryz.underlying31 hi hz0 hz1 hz2 rfl _ jn _ rfl HE1.out.own _ _ rfl HY11.out (form_pos _) (by have := HE1.out.hn; (try simp only [List.length_append] at this); (try simp only [List.length_cons, List.length_nil]); unfold maxLen; omega) (by have := HE1.out.hn; (try simp only [List.length_append] at this); (try simp only [List.length_cons, List.length_nil]); omega) HE1.out.bel.size ?_); intro g12 cap12 w12 hown hgrow hlies hlt; have HE2 := Lib.hid (HE1.out.app hown hgrow hlies); obtain ⟨m12, hm⟩ : ∃ m, jn + (form cg.key.toNat).length = m := ⟨_, rfl⟩; rw [hm] at HE2 ⊢; clear hm hown hgrow hlies hlt; clear d0 d1 d2 d3 d4 x0 x1 x2 x3 x4 x5; obtain ⟨d0, d1, d2, d3, d4⟩ := HE2.out.at; obtain ⟨x0, x1, x2, x3, x4, x5⟩ := HC.out _ HE2.out.bel; rw [HPA.out] at d4; rw [HGG.out] at x1)
                | (go_at_call 59; (with_reducible refine (HVC.out _).mono ?_); rintro e w13 ⟨v13, rfl, ho, hb⟩; (obtain ⟨a13, n13, c13, hn13, rfl⟩ := own_shape3 ho; clear hn13; have HE3 := Lib.hid (HE2.out.below hb); have HY13 := Lib.hid (u8_row (Ints.of_owns ho).1); skip; clear ho hb))
                | (at_builtin; (refine wpList_append_rowL (C := u8C) rfl (.tmp 73) (.tmp 80) 31 rfl w.heap.size 5 i0 (.int .u8 0) 1 Tryz.underlying31 hi hz0 hz1 hz2 rfl _ m12 _ rfl HE3.out.own _ _ rfl HY13.out HVP.out (by have := HE3.out.hn; (try simp only [List.length_append] at this); (try simp only [List.length_cons, List.length_nil]); unfold maxLen; omega) (by have := HE3.out.hn; (try simp only [List.length_append] at this); (try simp only [List.length_cons, List.length_nil]); omega) HE3.out.bel.size ?_); intro g14 cap14 w14 hown hgrow hlies hlt; have HE4 := Lib.hid (HE3.out.app hown hgrow hlies); obtain ⟨m14, hm⟩ : ∃ m, m12 + (eVl (vlC cg)).length = m := ⟨_, rfl⟩; rw [hm] at HE4 ⊢; clear hm hown hgrow hlies hlt; skip))
              have HN := Lib.hid (show EB w bo z _ _ _ _ _ from by have h := HE4.out; rw [List.append_assoc, HR1.out] at h; exact h)
              go_roundw
              case rel => exact ⟨j + 1, _, _, _, HJL.out, by go_num, rfl, HN⟩
              case measure => have := HJL.out; simp [intOf]; omega
          · obtain rfl : j = z.pt.length := by omega
            rw [List.take_length] at HQ
            have HN := Lib.hid (show Bs w _ (form zs.length ++ ((zs.map Oz.o).take (k + 1)).flatMap eOp) _ from by have h := HQ.out.bs; simp only [List.append_assoc] at h; rw [show (T ++ (form z.k.toNat ++ (form z.n.toNat ++ (form z.pt.length ++ z.pt.flatMap eChg)))) = _ from HNX3.out] at h; exact h)
            go_wp2
            go_roundw
            case rel => exact ⟨k + 1, _, _, _, HLT.out, by go_num, rfl, HN⟩
            case measure => have := HLT.out; simp [intOf]; omega
      · have q1 : (z.k == 1) = false := by simpa using k1
        by_cases k2 : z.k = 2
        · have q2 : (z.k == 2) = true := by simpa using k2
          have e1 := eOp_2 (o := z.o) k2
          obtain ⟨hma, hrp, hrl⟩ := HEK.out.r k2
          have HBT := Lib.hid (fun W (hb : Below w.heap.size w W) => utf_bytes W (HOK.out W hb).r hma hrl)
          have HUP := Lib.hid (utf_pos hrp)
          have hul4 := utfZ_len z.rs
          have HNX3 := Lib.hid (show T ++ (form z.k.toNat ++ (form (utfZ z.rs).length ++ (utfZ z.rs ++ (form z.st.length ++ z.st.flatMap eAtt)))) = form zs.length ++ ((zs.map Oz.o).take (k + 1)).flatMap eOp by
            have h := HNX2.out
            rw [e1] at h
            rw [← h]
            simp only [List.append_assoc]
            rfl)
          have htp : (z.st.flatMap eAtt).length ≤ 1000000000 := by
            have h := htl
            rw [e1] at h
            simp only [List.length_append] at h
            show (z.o.st.flatMap eAtt).length ≤ _
            omega
          obtain ⟨ut, hut⟩ : ∃ x, utfZ z.rs = x := ⟨_, rfl⟩
          rw [hut] at HBT HUP HNX3 hul4
          have hutl : ut.length ≤ 4194304 := by omega
          have HFT := Lib.hid (fun W => wform_any ut.length W (show ut.length < _ by omega))
          have HFS := Lib.hid (fun W => wform_any z.st.length W (show z.st.length < _ by omega))
          have lt : (form ut.length).length ≤ 10 := form_ten _ (by omega)
          have lp : (form z.st.length).length ≤ 10 := form_ten _ (by omega)
          have htl2 : T.length ≤ 1000000000 := by omega
          clear htl e1 HNX2 hkk k1 k2 hut hul4 hma hrp hrl
          go_wp2_with (first
            | (go_at_call 58; (with_reducible refine (HFK.out _).mono ?_); rintro e w4 ⟨v4, rfl, ho, hb⟩; (obtain ⟨a4, n4, c4, hn4, rfl⟩ := own_shape3 ho; clear hn4; have HE1 := Lib.hid (HEB.out.below hb); have HY4 := Lib.hid (u8_row (Ints.of_owns ho).1); clear d0 d1 d2 d3 d4; obtain ⟨d0, d1, d2, d3, d4⟩ := HE1.out.at; clear ho hb))
            | (at_builtin; (refine wpList_append_rowL (C := u8C) rfl (.tmp 24) (.tmp 28) 31 rfl w.heap.size 5 i0 (.int .u8 0) 1 Tryz.underlying31 hi hz0 hz1 hz2 rfl _ n _ rfl HE1.out.own _ _ rfl HY4.out (form_pos _) (by have := HE1.out.hn; (try simp only [List.length_append] at this); (try simp only [List.length_cons, List.length_nil]); unfold maxLen; omega) (by have := HE1.out.hn; (try simp only [List.length_append] at this); (try simp only [List.length_cons, List.length_nil]); omega) HE1.out.bel.size ?_); intro g5 cap5 w5 hown hgrow hlies hlt; have HE2 := Lib.hid (HE1.out.app hown hgrow hlies); obtain ⟨m5, hm⟩ : ∃ m, n + (form z.k.toNat).length = m := ⟨_, rfl⟩; rw [hm] at HE2 ⊢; clear hm hown hgrow hlies hlt; clear d0 d1 d2 d3 d4; obtain ⟨d0, d1, d2, d3, d4⟩ := HE2.out.at)
            | (go_at_call 60; (with_reducible refine (HBT.out _ HE2.out.bel).mono ?_); rintro e w6 ⟨ta, tc, rfl, hr, hx, hb⟩; (have HE3 := Lib.hid (HE2.out.below hb); have HT6 := Lib.hid hr; have HTB := Lib.hid hx; have HG5 := Lib.hid (own_lt7 HE2.out.own (g := g5) (by simp [Value.ownBlock])); clear d0 d1 d2 d3 d4; obtain ⟨d0, d1, d2, d3, d4⟩ := HE3.out.at; clear hr hx hb))
            | (go_at_call 58; (with_reducible refine (HFT.out _).mono ?_); rintro e w7 ⟨v7, rfl, ho, hb⟩; (obtain ⟨a7, n7, c7, hn7, rfl⟩ := own_shape3 ho; clear hn7; have HE4 := Lib.hid (HE3.out.below hb); have HY7 := Lib.hid (u8_row (Ints.of_owns ho).1); have HT7 := Lib.hid (HT6.out.below hb (Nat.le_refl _)); clear d0 d1 d2 d3 d4; obtain ⟨d0, d1, d2, d3, d4⟩ := HE4.out.at; clear ho hb))
            | (at_builtin; (refine wpList_append_rowL (C := u8C) rfl (.tmp 90) (.tmp 94) 31 rfl w.heap.size 5 i0 (.int .u8 0) 1 Tryz.underlying31 hi hz0 hz1 hz2 rfl _ m5 _ rfl HE4.out.own _ _ rfl HY7.out (form_pos _) (by have := HE4.out.hn; (try simp only [List.length_append] at this); (try simp only [List.length_cons, List.length_nil]); unfold maxLen; omega) (by have := HE4.out.hn; (try simp only [List.length_append] at this); (try simp only [List.length_cons, List.length_nil]); omega) HE4.out.bel.size ?_); intro g8 cap8 w8 hown hgrow hlies hlt; have HE5 := Lib.hid (HE4.out.app hown hgrow hlies); have HT8 := Lib.hid (row_far HT7.out hgrow (fun x e q => by have := HTB.out x e; have := HG5.out; simp [Value.ownBlock] at q; omega)); obtain ⟨m8, hm⟩ : ∃ m, m5 + (form ut.length).length = m := ⟨_, rfl⟩; rw [hm] at HE5 ⊢; clear hm hown hgrow hlies hlt; clear d0 d1 d2 d3 d4; obtain ⟨d0, d1, d2, d3, d4⟩ := HE5.out.at)
            | (at_builtin; (refine wpList_append_rowL (C := u8C) rfl (.tmp 96) (.tmp 97) 31 rfl w.heap.size 5 i0 (.int .u8 0) 1 Tryz.underlying31 hi hz0 hz1 hz2 rfl _ m8 _ rfl HE5.out.own _ _ rfl HT8.out HUP.out (by have := HE5.out.hn; (try simp only [List.length_append] at this); (try simp only [List.length_cons, List.length_nil]); unfold maxLen; omega) (by have := HE5.out.hn; (try simp only [List.length_append] at this); (try simp only [List.length_cons, List.length_nil]); omega) HE5.out.bel.size ?_); intro g9 cap9 w9 hown hgrow hlies hlt; have HE6 := Lib.hid (HE5.out.app hown hgrow hlies); obtain ⟨m9, hm⟩ : ∃ m, m8 + (ut).length = m := ⟨_, rfl⟩; rw [hm] at HE6 ⊢; clear hm hown hgrow hlies hlt; clear d0 d1 d2 d3 d4; obtain ⟨d0, d1, d2, d3, d4⟩ := HE6.out.at)
            | (go_at_call 58; (with_reducible refine (HFS.out _).mono ?_); rintro e w10 ⟨v10, rfl, ho, hb⟩; (obtain ⟨a10, n10, c10, hn10, rfl⟩ := own_shape3 ho; clear hn10; have HE7 := Lib.hid (HE6.out.below hb); have HY10 := Lib.hid (u8_row (Ints.of_owns ho).1); clear d0 d1 d2 d3 d4; obtain ⟨d0, d1, d2, d3, d4⟩ := HE7.out.at; clear ho hb))
            | (at_builtin; (refine wpList_append_rowL (C := u8C) rfl (.tmp 99) (.tmp 104) 31 rfl w.heap.size 5 i0 (.int .u8 0) 1 Tryz.underlying31 hi hz0 hz1 hz2 rfl _ m9 _ rfl HE7.out.own _ _ rfl HY10.out (form_pos _) (by have := HE7.out.hn; (try simp only [List.length_append] at this); (try simp only [List.length_cons, List.length_nil]); unfold maxLen; omega) (by have := HE7.out.hn; (try simp only [List.length_append] at this); (try simp only [List.length_cons, List.length_nil]); omega) HE7.out.bel.size ?_); intro g11 cap11 w11 hown hgrow hlies hlt; have HE8 := Lib.hid (HE7.out.app hown hgrow hlies); obtain ⟨m11, hm⟩ : ∃ m, m9 + (form z.st.length).length = m := ⟨_, rfl⟩; rw [hm] at HE8 ⊢; clear hm hown hgrow hlies hlt; clear d0 d1 d2 d3 d4; obtain ⟨d0, d1, d2, d3, d4⟩ := HE8.out.at))
          go_loopw [3, 9] (fun out i wr => ∃ (j : Nat) (a : Option Addr) (n c : Nat), j ≤ z.st.length ∧ i = .int .i64 j ∧ out = .slice a n c ∧ Hid (EB w bo z a n c (T ++ form z.k.toNat ++ form ut.length ++ ut ++ form z.st.length ++ (z.st.take j).flatMap eAtt) wr)) (fun _ i _ => z.st.length - (intOf i).toNat)
          case atStart => exact ⟨0, _, _, _, Nat.zero_le _, rfl, rfl, Lib.hid (by simpa using HE8.out)⟩
          case round =>
            clear HE1 HE2 HE3 HE4 HE5 HE6 HE7 HE8 HY4 HY7 HY10 HT6 HT7 HT8 HTB d0 d1 d2 d3 d4
            obtain ⟨j, ja, jn, jc, hj, rfl, rfl, HQ⟩ := hrel
            obtain ⟨wj, hwj⟩ : ∃ x : World, x = wr := ⟨_, rfl⟩
            subst hwj
            obtain ⟨d0, d1, d2, d3, d4⟩ := HQ.out.at
            by_cases hjl : j < z.st.length
            · have HJL := Lib.hid hjl
              obtain ⟨gp, op, hpa, -, hpc, -, hpb, hpat⟩ := Arow.opn (HOK.out w (Below.refl _ _)).s (by omega)
              obtain ⟨r1, r2⟩ := flat_take eAtt hjl
              have HC := Lib.hid (fun W (hb : Below w.heap.size w W) => (hpat j hjl).below hb hpb)
              have HCE := Lib.hid (HEK.out.s _ (List.getElem_mem hjl))
              obtain ⟨U, hU⟩ : ∃ U, T ++ form z.k.toNat ++ form ut.length ++ ut ++ form z.st.length ++ (z.st.take j).flatMap eAtt = U := ⟨_, rfl⟩
              have hul : U.length ≤ 3000000000 := by rw [← hU]; simp only [List.length_append]; omega
              have HR1 := Lib.hid (show U ++ eAtt z.st[j] = T ++ form z.k.toNat ++ form ut.length ++ ut ++ form z.st.length ++ (z.st.take (j + 1)).flatMap eAtt by rw [r1, ← hU]; simp only [List.append_assoc]; try rfl)
              rw [hU] at HQ
              rw [hpa] at d3
              have HPA := Lib.hid hpa
              clear r1 hpat hpa hU
              generalize z.st[j] = cg at *
              obtain ⟨hcw, hck, hcs⟩ := HCE.out
              have bk := Go.bounds_i64 hcw.key
              have HFC := Lib.hid (fun W => formI (x := cg.key) W hck (by omega))
              have lc : (form cg.key.toNat).length ≤ 10 := form_ten _ (by omega)
              have HVC := Lib.hid (fun W => valueA (a := cg) W hcw hcs)
              obtain ⟨x0, x1, x2, x3, x4⟩ := HC.out _ HQ.out.bel
              have HVP := Lib.hid (eVl_pos (vlA cg))
              have htv : (eVl (vlA cg)).length ≤ 1000000000 := by
                have h : (eAtt cg).length ≤ 1000000000 := by omega
                unfold eAtt at h
                rw [List.length_append] at h
                omega
              have HRA := Lib.hid (show U ++ (form cg.key.toNat ++ eVl (vlA cg)) = _ from HR1.out)
              clear hcw hcs HCE HR1 r2
              go_wp2_with (first
                | (go_at_call 58; (with_reducible refine (HFC.out _).mono ?_); rintro e w11 ⟨v11, rfl, ho, hb⟩; (obtain ⟨a11, n11, c11, hn11, rfl⟩ := own_shape3 ho; clear hn11; have HE1 := Lib.hid (HQ.out.below hb); have HY11 := Lib.hid (u8_row (Ints.of_owns ho).1); clear d0 d1 d2 d3 d4 x0 x1 x2 x3 x4; obtain ⟨d0, d1, d2, d3, d4⟩ := HE1.out.at; obtain ⟨x0, x1, x2, x3, x4⟩ := HC.out _ HE1.out.bel; rw [HPA.out] at d3; clear ho hb))
                | (at_builtin; (refine wpList_append_rowL (C := u8C) rfl (.tmp 113) (.tmp 121) 31 rfl w.heap.size 5 i0 (.int .u8 0) 1 Tryz.underlying31 hi hz0 hz1 hz2 rfl _ jn _ rfl HE1.out.own _ _ rfl HY11.out (form_pos _) (by have := HE1.out.hn; (try simp only [List.length_append] at this); (try simp only [List.length_cons, List.length_nil]); unfold maxLen; omega) (by have := HE1.out.hn; (try simp only [List.length_append] at this); (try simp only [List.length_cons, List.length_nil]); omega) HE1.out.bel.size ?_); intro g12 cap12 w12 hown hgrow hlies hlt; have HE2 := Lib.hid (HE1.out.app hown hgrow hlies); obtain ⟨m12, hm⟩ : ∃ m, jn + (form cg.key.toNat).length = m := ⟨_, rfl⟩; rw [hm] at HE2 ⊢; clear hm hown hgrow hlies hlt; clear d0 d1 d2 d3 d4 x0 x1 x2 x3 x4; obtain ⟨d0, d1, d2, d3, d4⟩ := HE2.out.at; obtain ⟨x0, x1, x2, x3, x4⟩ := HC.out _ HE2.out.bel; rw [HPA.out] at d3)
                | (go_at_call 59; (with_reducible refine (HVC.out _).mono ?_); rintro e w13 ⟨v13, rfl, ho, hb⟩; (obtain ⟨a13, n13, c13, hn13, rfl⟩ := own_shape3 ho; clear hn13; have HE3 := Lib.hid (HE2.out.below hb); have HY13 := Lib.hid (u8_row (Ints.of_owns ho).1); skip; clear ho hb))
                | (at_builtin; (refine wpList_append_rowL (C := u8C) rfl (.tmp 123) (.tmp 130) 31 rfl w.heap.size 5 i0 (.int .u8 0) 1 Tryz.underlying31 hi hz0 hz1 hz2 rfl _ m12 _ rfl HE3.out.own _ _ rfl HY13.out HVP.out (by have := HE3.out.hn; (try simp only [List.length_append] at this); (try simp only [List.length_cons, List.length_nil]); unfold maxLen; omega) (by have := HE3.out.hn; (try simp only [List.length_append] at this); (try simp only [List.length_cons, List.length_nil]); omega) HE3.out.bel.size ?_); intro g14 cap14 w14 hown hgrow hlies hlt; have HE4 := Lib.hid (HE3.out.app hown hgrow hlies); obtain ⟨m14, hm⟩ : ∃ m, m12 + (eVl (vlA cg)).length = m := ⟨_, rfl⟩; rw [hm] at HE4 ⊢; clear hm hown hgrow hlies hlt; skip))
              have HN := Lib.hid (show EB w bo z _ _ _ _ _ from by have h := HE4.out; rw [List.append_assoc, HRA.out] at h; exact h)
              go_roundw
              case rel => exact ⟨j + 1, _, _, _, HJL.out, by go_num, rfl, HN⟩
              case measure => have := HJL.out; simp [intOf]; omega
            · obtain rfl : j = z.st.length := by omega
              rw [List.take_length] at HQ
              have HN := Lib.hid (show Bs w _ (form zs.length ++ ((zs.map Oz.o).take (k + 1)).flatMap eOp) _ from by have h := HQ.out.bs; simp only [List.append_assoc] at h; rw [HNX3.out] at h; exact h)
              go_wp2
              go_roundw
              case rel => exact ⟨k + 1, _, _, _, HLT.out, by go_num, rfl, HN⟩
              case measure => have := HLT.out; simp [intOf]; omega
        · have q2 : (z.k == 2) = false := by simpa using k2
          have q3 : (z.k == 3) = true := by simp; omega
          have e1 := eOp_3 (o := z.o) (show z.o.k = 3 by show z.k = 3; omega)
          have HNX3 := Lib.hid (by have h := HNX2.out; rw [e1] at h; exact h)
          have htl2 : T.length ≤ 1000000000 := by omega
          clear htl e1 HNX2 hkk k1 k2
          go_wp2_with (first
            | (go_at_call 58; (with_reducible refine (HFK.out _).mono ?_); rintro e w4 ⟨v4, rfl, ho, hb⟩; (obtain ⟨a4, n4, c4, hn4, rfl⟩ := own_shape3 ho; clear hn4; have HE1 := Lib.hid (HEB.out.below hb); have HY4 := Lib.hid (u8_row (Ints.of_owns ho).1); clear d0 d1 d2 d3 d4; obtain ⟨d0, d1, d2, d3, d4⟩ := HE1.out.at; clear ho hb))
            | (at_builtin; (refine wpList_append_rowL (C := u8C) rfl (.tmp 24) (.tmp 28) 31 rfl w.heap.size 5 i0 (.int .u8 0) 1 Tryz.underlying31 hi hz0 hz1 hz2 rfl _ n _ rfl HE1.out.own _ _ rfl HY4.out (form_pos _) (by have := HE1.out.hn; (try simp only [List.length_append] at this); (try simp only [List.length_cons, List.length_nil]); unfold maxLen; omega) (by have := HE1.out.hn; (try simp only [List.length_append] at this); (try simp only [List.length_cons, List.length_nil]); omega) HE1.out.bel.size ?_); intro g5 cap5 w5 hown hgrow hlies hlt; have HE2 := Lib.hid (HE1.out.app hown hgrow hlies); obtain ⟨m5, hm⟩ : ∃ m, n + (form z.k.toNat).length = m := ⟨_, rfl⟩; rw [hm] at HE2 ⊢; clear hm hown hgrow hlies hlt; clear d0 d1 d2 d3 d4; obtain ⟨d0, d1, d2, d3, d4⟩ := HE2.out.at)
            | (go_at_call 58; (with_reducible refine (HFN.out _).mono ?_); rintro e w6 ⟨v6, rfl, ho, hb⟩; (obtain ⟨a6, n6, c6, hn6, rfl⟩ := own_shape3 ho; clear hn6; have HE3 := Lib.hid (HE2.out.below hb); have HY6 := Lib.hid (u8_row (Ints.of_owns ho).1); clear d0 d1 d2 d3 d4; obtain ⟨d0, d1, d2, d3, d4⟩ := HE3.out.at; clear ho hb))
            | (at_builtin; (refine wpList_append_rowL (C := u8C) rfl (.tmp 134) (.tmp 138) 31 rfl w.heap.size 5 i0 (.int .u8 0) 1 Tryz.underlying31 hi hz0 hz1 hz2 rfl _ m5 _ rfl HE3.out.own _ _ rfl HY6.out (form_pos _) (by have := HE3.out.hn; (try simp only [List.length_append] at this); (try simp only [List.length_cons, List.length_nil]); unfold maxLen; omega) (by have := HE3.out.hn; (try simp only [List.length_append] at this); (try simp only [List.length_cons, List.length_nil]); omega) HE3.out.bel.size ?_); intro g7 cap7 w7 hown hgrow hlies hlt; have HE4 := Lib.hid (HE3.out.app hown hgrow hlies); obtain ⟨m7, hm⟩ : ∃ m, m5 + (form z.n.toNat).length = m := ⟨_, rfl⟩; rw [hm] at HE4 ⊢; clear hm hown hgrow hlies hlt; skip))
          have HN := Lib.hid (show Bs w _ (form zs.length ++ ((zs.map Oz.o).take (k + 1)).flatMap eOp) _ from by have h := HE4.out.bs; simp only [List.append_assoc] at h; rw [show T ++ (form z.k.toNat ++ form z.n.toNat) = _ from HNX3.out] at h; exact h)
          go_roundw
          case rel => exact ⟨k + 1, _, _, _, HLT.out, by go_num, rfl, HN⟩
          case measure => have := HLT.out; simp [intOf]; omega
    · obtain rfl : k = zs.length := by omega
      have HP2 := Lib.hid HP.out
      rw [show ((zs.map Oz.o).take zs.length) = zs.map Oz.o from by rw [← hzl, List.take_length]] at HP2
      clear HP HAT hk hlt HE
      go_wp2
      go_ret
      exact HP2.out.made
end Go.Proofs.YtohgopibimgjfaaGreat

/- P11: the form's weight -/
namespace Go.Proofs.YtohgopibimgjfaaGreat
open Go.RowKit
set_option linter.unusedVariables false
set_option maxRecDepth 100000

/-- What an op weighs. -/
def wwA (st : List Att) : Nat := (st.map fun a => 1 + a.s.size).sum
def wwC (pt : List Chg) : Nat := (pt.map fun c => 1 + c.s.size).sum
def ww (p : Opn) : Nat := 1 + p.rs.length + wwA p.st + wwC p.pt
def wws (xs : List Opn) : Nat := (xs.map ww).sum
theorem wws_cons (x : Opn) (r : List Opn) : wws (x :: r) = ww x + wws r := by simp [wws]
theorem wws_app (a b : List Opn) : wws (a ++ b) = wws a + wws b := by simp [wws]
theorem wws_nil : wws [] = 0 := rfl
theorem ww_long (l p : Opn) (ha : Alike l p) : ww (long l p) ≤ ww l + ww p := by
  obtain ⟨-, e2, e3⟩ := long_k l p
  unfold ww
  rw [e2, e3]
  have : (long l p).rs.length ≤ l.rs.length + p.rs.length := by
    unfold long
    split
    · simp
    · simp
  omega
theorem wws_rpush (p : Opn) (r : List Opn) : wws (rpush p r) ≤ ww p + wws r := by
  cases r with
  | nil => rw [rpush_nil, wws_cons]; exact Nat.le_refl _
  | cons l r =>
    by_cases ha : Alike l p
    · rw [rpush_yes r ha, wws_cons, wws_cons]
      have := ww_long l p ha
      omega
    · rw [rpush_no r ha, wws_cons]; exact Nat.le_refl _
theorem wws_rtell (p : Opn) (R : List Opn) : wws (rtell p R) ≤ ww p + wws R := by
  by_cases h : lenN p < 1
  · rw [rtell_zero h]; omega
  cases R with
  | nil => rw [rtell_nil (by omega), wws_cons]; exact Nat.le_refl _
  | cons d r =>
    by_cases hc : p.k = 2 ∧ d.k = 3
    · rw [rtell_del r (by omega) hc.1 hc.2, wws_cons, wws_cons]
      have := wws_rpush p r
      omega
    · rw [rtell_else r (by omega) hc]; exact wws_rpush p _
theorem wws_tell (xs : List Opn) : wws (tellR xs) ≤ wws xs := by
  induction xs using snoc_ind with
  | nil => exact Nat.le_refl _
  | append_singleton xs x ih =>
    rw [tellR_snoc, wws_app, wws_cons, wws_nil]
    have := wws_rtell x (tellR xs)
    omega
theorem wws_rev (xs : List Opn) : wws xs.reverse = wws xs := by
  induction xs with
  | nil => rfl
  | cons x r ih => rw [List.reverse_cons, wws_app, ih, wws_cons, wws_cons, wws_nil]; omega
theorem wws_form (xs : List Opn) : wws (formO xs) ≤ wws xs := by
  have h1 := wws_tell xs
  have h2 : wws (settleR (tellR xs)) ≤ wws (tellR xs) := by
    cases tellR xs with
    | nil => exact Nat.le_refl _
    | cons o r =>
      by_cases hi : Idle o
      · rw [settleR_yes r hi, wws_cons]; omega
      · rw [settleR_no r hi]; exact Nat.le_refl _
  unfold formO
  rw [wws_rev]
  omega
theorem wws_len (xs : List Opn) : xs.length ≤ wws xs ∧ (∀ p ∈ xs, ww p ≤ wws xs) := by
  induction xs with
  | nil => exact ⟨Nat.le_refl _, by simp⟩
  | cons x r ih =>
    rw [wws_cons, List.length_cons]
    refine ⟨by unfold ww; omega, fun p hp => ?_⟩
    rcases List.mem_cons.1 hp with rfl | hp
    · omega
    · have := ih.2 p hp; omega
theorem wwA_mem {st : List Att} {a : Att} (h : a ∈ st) : 1 + a.s.size ≤ wwA st := by
  induction st with
  | nil => cases h
  | cons x r ih =>
    have e : wwA (x :: r) = (1 + x.s.size) + wwA r := by simp [wwA]
    rw [e]
    rcases List.mem_cons.1 h with rfl | h
    · omega
    · have := ih h; omega
theorem wwC_mem {pt : List Chg} {c : Chg} (h : c ∈ pt) : 1 + c.s.size ≤ wwC pt := by
  induction pt with
  | nil => cases h
  | cons x r ih =>
    have e : wwC (x :: r) = (1 + x.s.size) + wwC r := by simp [wwC]
    rw [e]
    rcases List.mem_cons.1 h with rfl | h
    · omega
    · have := ih h; omega
theorem wwA_len (st : List Att) : st.length ≤ wwA st := by
  induction st with
  | nil => exact Nat.le_refl _
  | cons x r ih =>
    have e : wwA (x :: r) = (1 + x.s.size) + wwA r := by simp [wwA]
    rw [e, List.length_cons]; omega
theorem wwC_len (pt : List Chg) : pt.length ≤ wwC pt := by
  induction pt with
  | nil => exact Nat.le_refl _
  | cons x r ih =>
    have e : wwC (x :: r) = (1 + x.s.size) + wwC r := by simp [wwC]
    rw [e, List.length_cons]; omega
/-- How many bytes: no more than forty times what it weighs. -/
theorem eVl_len {v : Vl} (h : VC v) : (eVl v).length ≤ 30 + v.s.size := by
  have hk := h.lt
  unfold VC VK at h
  have h1 : (form v.k.toNat).length ≤ 10 := form_ten _ hk
  unfold eVl eVal
  rw [List.length_append]
  by_cases h12 : v.k.toNat = 1 ∨ v.k.toNat = 2
  · rw [if_pos h12]
    rw [if_pos h12] at h
    have : (form (zig v.n)).length ≤ 10 := form_ten _ (zig_lt _ h.2.2.1.1 h.2.2.1.2)
    omega
  · rw [if_neg h12]
    rw [if_neg h12] at h
    by_cases h3 : v.k.toNat = 3
    · rw [if_pos h3]
      rw [if_pos h3] at h
      have : (form v.f.toNat).length ≤ 10 := form_ten _ (by have := h.2.2.2.1; omega)
      omega
    · rw [if_neg h3]
      rw [if_neg h3] at h
      have : (form v.s.size).length ≤ 10 := form_ten _ h.2.2.2.2
      rw [List.length_append, nu_len]
      omega
theorem eAtt_len {a : Att} (h : AK a) : (eAtt a).length ≤ 40 * (1 + a.s.size) := by
  have h1 := eVl_len h.2
  have h2 : (form a.key.toNat).length ≤ 10 := form_ten _ (by have := h.1; omega)
  unfold eAtt
  rw [List.length_append]
  have : (vlA a).s.size = a.s.size := rfl
  omega
theorem eChg_len {c : Chg} (h : GK c) : (eChg c).length ≤ 40 * (1 + c.s.size) := by
  have h2 : (form c.key.toNat).length ≤ 10 := form_ten _ (by have := h.1; omega)
  obtain ⟨-, h⟩ := h
  cases hg : c.g with
  | true =>
    rw [hg, if_pos rfl] at h
    rw [eChg_g h, List.length_append]
    simp only [List.length_cons, List.length_nil]
    omega
  | false =>
    rw [hg, if_neg (by simp)] at h
    have hk : 1 ≤ c.k := by
      have h3 := h.1
      have : (vlC c).k.toNat = c.k.toNat := rfl
      omega
    have h1 := eVl_len h
    rw [eChg_v hk, List.length_append]
    have : (vlC c).s.size = c.s.size := rfl
    omega
theorem flatE_len {α : Type} {e : α → List Int} {f : α → Nat} {l : List α} (h : ∀ x ∈ l, (e x).length ≤ f x) : (l.flatMap e).length ≤ (l.map f).sum := by
  induction l with
  | nil => exact Nat.le_refl _
  | cons x r ih =>
    rw [List.flatMap_cons, List.length_append, List.map_cons, List.sum_cons]
    have h1 := h x (List.mem_cons_self ..)
    have h2 := ih (fun y hy => h y (List.mem_cons_of_mem _ hy))
    omega
theorem sum_mul {α : Type} (k : Nat) (f : α → Nat) (l : List α) : (l.map fun x => k * f x).sum = k * (l.map f).sum := by
  induction l with
  | nil => rfl
  | cons x r ih => rw [List.map_cons, List.sum_cons, List.map_cons, List.sum_cons, ih, Nat.mul_add]
theorem eOp_len {M : Nat} (hM : M < 18446744073709551616) {o : Opn} (h : OK M o) : (eOp o).length ≤ 40 * ww o := by
  have hk := h.k
  have h0 : (form o.k.toNat).length ≤ 10 := form_ten _ (by omega)
  unfold OK KK at h
  unfold ww
  rcases (show o.k = 1 ∨ o.k = 2 ∨ o.k = 3 by omega) with k | k | k
  · rw [k, if_pos (by rfl)] at h
    obtain ⟨-, ⟨n1, n2⟩, -, -, h5, h6⟩ := h
    rw [eOp_1 k]
    have h1 : (form o.n.toNat).length ≤ 10 := form_ten _ (by omega)
    have h2 : (form o.pt.length).length ≤ 10 := form_ten _ h5
    have h3 := flatE_len (fun c hc => eChg_len (h6 c hc))
    rw [sum_mul 40 (fun c : Chg => 1 + c.s.size)] at h3
    have h4 : (o.pt.flatMap eChg).length ≤ 40 * wwC o.pt := h3
    simp only [List.length_append]
    omega
  · rw [k, if_neg (by decide), if_pos (by rfl)] at h
    obtain ⟨-, -, hr, -, h5, h6⟩ := h
    rw [eOp_2 k]
    have h1 : (form (utfZ o.rs).length).length ≤ 10 := form_ten _ hr.2
    have h2 : (form o.st.length).length ≤ 10 := form_ten _ h5
    have h3 := flatE_len (fun a ha => eAtt_len (h6 a ha))
    rw [sum_mul 40 (fun a : Att => 1 + a.s.size)] at h3
    have h4 : (o.st.flatMap eAtt).length ≤ 40 * wwA o.st := h3
    have h7 := utfZ_len o.rs
    simp only [List.length_append]
    omega
  · rw [k, if_neg (by decide), if_neg (by decide), if_pos (by rfl)] at h
    obtain ⟨-, ⟨n1, n2⟩, -⟩ := h
    rw [eOp_3 k]
    have h1 : (form o.n.toNat).length ≤ 10 := form_ten _ (by omega)
    simp only [List.length_append]
    omega
theorem encX_len {M : Nat} (hM : M < 18446744073709551616) {xs : List Opn} (h : XK M xs) : (encX xs).length ≤ 10 + 40 * wws xs := by
  have h1 : (form xs.length).length ≤ 10 := form_ten _ h.1
  have h3 := flatE_len (fun o ho => eOp_len hM (h.2 o ho))
  rw [sum_mul 40 ww] at h3
  have h4 : (xs.flatMap eOp).length ≤ 40 * wws xs := h3
  unfold encX
  rw [List.length_append]
  omega
end Go.Proofs.YtohgopibimgjfaaGreat

/- P12: the reference's Encode -/
namespace Go.Proofs.YtohgopibimgjfaaGreat
open Go.RowKit
set_option linter.unusedVariables false
set_option maxRecDepth 100000

theorem wws_tot (zs : List Oz) : wws (zs.map Oz.o) ≤ totO zs := by
  have hA : ∀ st : List Att, wwA st = totA st := fun st => by
    induction st with
    | nil => rfl
    | cons x r ih =>
      have e : wwA (x :: r) = (1 + x.s.size) + wwA r := by simp [wwA]
      have e2 : totA (x :: r) = 1 + x.s.size + totA r := by simp [totA, sizeA]; omega
      rw [e, e2, ih]
  have hC : ∀ pt : List Chg, wwC pt = totC pt := fun pt => by
    induction pt with
    | nil => rfl
    | cons x r ih =>
      have e : wwC (x :: r) = (1 + x.s.size) + wwC r := by simp [wwC]
      have e2 : totC (x :: r) = 1 + x.s.size + totC r := by simp [totC, sizeC]; omega
      rw [e, e2, ih]
  induction zs with
  | nil => exact Nat.le_refl _
  | cons z r ih =>
    rw [List.map_cons, wws_cons]
    have e : totO (z :: r) = szO z + totO r := by simp [totO]
    have e2 : ww z.o = szO z := by
      unfold ww szO
      rw [hA, hC]; rfl
    omega
/-- What a law hands in, all of it. -/
structure Din (ks : List Key) (zs : List Oz) : Prop where
  g : Good ks
  w : ∀ z ∈ zs, OpW z
  t : totO zs ≤ 1048576
theorem Din.l {ks : List Key} {zs : List Oz} (h : Din ks zs) : LIn zs := law_in h.w (Nat.le_trans h.t (by omega))
theorem Din.sw {ks : List Key} {zs : List Oz} (h : Din ks zs) : ∀ p ∈ zs.map Oz.o, Sw p := fun p hp => by
  obtain ⟨z, hz, rfl⟩ := List.mem_map.1 hp
  exact ⟨(h.w z hz).s, (h.w z hz).p⟩
theorem may_tame {ks : List Key} {zs : List Oz} (hl : zs.length ≤ 50000000) (h : mayX ks (zs.map Oz.o) = 0) : Tame zs := by
  refine tame_yes (fun x hx => ?_) hl
  have hp : x.o ∈ zs.map Oz.o := List.mem_map_of_mem hx
  have hf := may_fn h x.o hp
  obtain ⟨t3, -, -⟩ := mayX_0.1 h
  refine ⟨hf.fo.tm hf.n, ?_⟩
  rcases hf.fo.kind with k | k | k
  · have := tot_mem hp (kd := 3) (cnt_1 k)
    rw [len_1 (by omega)] at this
    have e : x.o.n = x.n := rfl
    rw [e] at this
    split at this <;> omega
  · have := (hf.fo.i k).1
    have e : x.o.n = x.n := rfl
    omega
  · have := tot_mem hp (kd := 3) (cnt_k k)
    rw [len_1 (by omega)] at this
    have e : x.o.n = x.n := rfl
    rw [e] at this
    split at this <;> omega
theorem eok_of {ks : List Key} (hg : Good ks) {ys : List Oz} (h : mayX ks (ys.map Oz.o) = 0) (hs : ∀ p ∈ ys.map Oz.o, Sw p) (hw : wws (ys.map Oz.o) ≤ 1048576) : ∀ y ∈ ys, EOk y := fun y hy => by
  have hp : y.o ∈ ys.map Oz.o := List.mem_map_of_mem hy
  obtain ⟨hf, hn⟩ := may_fn h y.o hp
  have hw1 := (wws_len (ys.map Oz.o)).2 y.o hp
  have hx := may_xk (M := 1073741824) (by omega) hg (xs := ys.map Oz.o) (by have := (wws_len (ys.map Oz.o)).1; omega) h hs
  have ho := hx.2 y.o hp
  have hsw := hs y.o hp
  unfold ww at hw1
  have hA : ∀ a ∈ y.st, a.s.size ≤ 1048576 := fun a ha => by
    have : 1 + a.s.size ≤ wwA y.o.st := wwA_mem ha
    omega
  have hC : ∀ c ∈ y.pt, c.s.size ≤ 1048576 := fun c hc => by
    have : 1 + c.s.size ≤ wwC y.o.pt := wwC_mem hc
    omega
  have hlA : y.st.length ≤ wwA y.o.st := wwA_len y.st
  have hlC : y.pt.length ≤ wwC y.o.pt := wwC_len y.pt
  have hr : y.rs.length = y.o.rs.length := rfl
  unfold OK KK at ho
  have en : y.o.n = y.n := rfl
  have ek : y.o.k = y.k := rfl
  have est : y.o.st = y.st := rfl
  have ept : y.o.pt = y.pt := rfl
  rcases hf.kind with k | k | k
  · rw [k, if_pos (by rfl)] at ho
    obtain ⟨-, ⟨n1, n2⟩, r0, s0, h5, h6⟩ := ho
    refine ⟨.inl k, by omega, fun h2 => by omega, fun a ha => ?_, fun c hc => ?_, by omega, by omega⟩
    · rw [← est, s0] at ha; cases ha
    · have hk := h6 c hc
      refine ⟨hsw.p c hc, hk.1.1, hC c hc, fun hg => ?_, fun hg => ?_⟩
      · have := hk.2; rwa [hg, if_pos rfl] at this
      · have := hk.2
        rw [hg, if_neg (by simp)] at this
        have h3 := this.1
        have : (vlC c).k.toNat = c.k.toNat := rfl
        omega
  · rw [k, if_neg (by decide), if_pos (by rfl)] at ho
    obtain ⟨-, n0, hr2, p0, h5, h6⟩ := ho
    have hne := (hf.i k).2.2.1
    have hpos : 0 < y.o.rs.length := List.length_pos_iff.2 hne
    refine ⟨.inr (.inl k), by omega, fun h2 => ⟨hr2.1, by omega, by omega⟩, fun a ha => ?_, fun c hc => ?_, by omega, by omega⟩
    · have hk := h6 a ha
      exact ⟨hsw.s a ha, hk.1.1, hA a ha⟩
    · rw [← ept, p0] at hc; cases hc
  · rw [k, if_neg (by decide), if_neg (by decide), if_pos (by rfl)] at ho
    obtain ⟨-, ⟨n1, n2⟩, r0, s0, p0⟩ := ho
    refine ⟨.inr (.inr k), by omega, fun h2 => by omega, fun a ha => ?_, fun c hc => ?_, by omega, by omega⟩
    · rw [← est, s0] at ha; cases ha
    · rw [← ept, p0] at hc; cases hc
/-- What Encode tells. -/
def EncP (w : World) (ks : List Key) (xs : List Opn) (e : Ending) (w' : World) : Prop :=
  Below w.heap.size w w' ∧
  ((mayX ks xs = 0 ∧ ∃ v, e = .returned (.tuple #[v, .int .i64 0]) ∧ w'.ownsRow w.heap.size 5 1 v (encX (formO xs)).length ((encX (formO xs)).map (Value.int .u8))) ∨
   (mayX ks xs ≠ 0 ∧ e = .returned (.tuple #[.slice none 0 0, .int .i64 (mayX ks xs)])))
set_option maxHeartbeats 4000000 in
theorem renc_any (v u : Value) (ks : List Key) (zs : List Oz) (w : World) (hs : Krow w v ks) (hx : Orow w u zs) (hd : Din ks zs) :
    Calls Tryz.prog 13 #[v, u] w (EncP w ks (zs.map Oz.o)) := by
  have hl := hd.l
  have hms := may_same ks zs hl.i.sm hl.i.len
  have HM := Lib.hid (rmayE_any v u ks zs w hs hx hd.w hl.i.sm hl.a hl.c)
  rw [hms] at HM
  have HX := Lib.hid (fun W (hb : Below w.heap.size w W) => hx.below hb)
  obtain ⟨m, hm⟩ : ∃ m, mayX ks (zs.map Oz.o) = m := ⟨_, rfl⟩
  rw [hm] at HM
  by_cases h0 : m = 0
  · subst h0
    have HT := Lib.hid (may_tame hl.len hm)
    have HL := Lib.hid hl
    have HMO := Lib.hid hm
    have HD := Lib.hid hd
    clear hs hx hd hms hm hl
    go_enter Tryz.func13, Tryz.ntmps13
    go_wp2_with fail
    refine HM.out.mono ?_
    rintro e w1 ⟨rfl, hb⟩
    have HB1 := Lib.hid hb
    have HRO := Lib.hid (rof_any u zs w1 (HX.out w1 hb) HL.out HT.out)
    clear hb
    go_wp2_with fail
    refine HRO.out.mono ?_
    rintro e w2 ⟨v2, ys, rfl, hy, ho, hb⟩
    have HB2 := Lib.hid (below_add HB1.out hb HB1.out.size)
    have hmy : mayX ks (ys.map Oz.o) = 0 := by rw [hy]; exact may_form HMO.out
    have hwy : wws (ys.map Oz.o) ≤ 1048576 := by
      rw [hy]
      have h1 := wws_form (zs.map Oz.o)
      have h2 := wws_tot zs
      have := HD.out.t
      omega
    have hsy : ∀ p ∈ ys.map Oz.o, Sw p := by rw [hy]; exact form_sw HMO.out HD.out.sw
    have hlen := (wws_len (ys.map Oz.o)).1
    have hxk := may_xk (M := 1073741824) (by omega) HD.out.g (xs := ys.map Oz.o) (by omega) hmy hsy
    have hle := encX_len (M := 1073741824) (by omega) hxk
    have HBY := Lib.hid (rencB_any v2 ys w2 ho.orow (eok_of HD.out.g hmy hsy hwy) (by omega))
    rw [hy] at HBY
    clear hmy hwy hsy hlen hxk hle hy ho hb
    go_wp2_with fail
    refine HBY.out.mono ?_
    rintro e w3 ⟨v3, rfl, ho, hb⟩
    have HB3 := Lib.hid (below_add HB2.out hb HB2.out.size)
    have HO := Lib.hid (Bs.of HB2.out ho hb)
    clear ho hb
    obtain ⟨a3, n3, c3, -, rfl⟩ := HO.out.shape
    go_wp2
    go_ret2
    exact ⟨HB3.out, .inl ⟨HMO.out, _, rfl, HO.out.own⟩⟩
  · have e1 : (m != 0) = true := by simpa using h0
    have HF := Lib.hid (show mayX ks (zs.map Oz.o) ≠ 0 ∧ mayX ks (zs.map Oz.o) = m from ⟨by rw [hm]; exact h0, hm⟩)
    clear hs hx hd hms hm hl HX h0
    go_enter Tryz.func13, Tryz.ntmps13
    go_wp2_with fail
    refine HM.out.mono ?_
    rintro e w1 ⟨rfl, hb⟩
    go_wp2
    go_ret2
    refine ⟨hb, .inr ⟨HF.out.1, ?_⟩⟩
    rw [HF.out.2]
    rfl
end Go.Proofs.YtohgopibimgjfaaGreat

/- P13: the reference's mouth: a number, a length, a key, bytes, a value -/
namespace Go.Proofs.YtohgopibimgjfaaGreat
open Go.RowKit
set_option linter.unusedVariables false
set_option maxRecDepth 100000

/-- Bytes that are read: a variable that holds them, the place, and whether they are bad. -/
@[reducible] def moC (va : Option Addr) (n c : Nat) (p : Nat) (b : Bool) : Array Value := #[.slice va n c, .int .i64 p, .bool b]
structure Mo (bm : Nat) (va : Option Addr) (c : Nat) (bs : List Int) (p : Nat) (b : Bool) (W : World) : Prop where
  cell : Cb bm 80 (moC va bs.length c p b) W
  row : Ints .u8 W (.slice va bs.length c) bs
  ne : Na (fun k => k = bm) va bs.length
  okb : Okb bs
  len : bs.length ≤ 50000000
  at_ : p ≤ bs.length
section
variable {bm c p q : Nat} {va : Option Addr} {bs : List Int} {b d : Bool} {W W2 : World} {S : Nat → Prop}
theorem Mo.off (h : Mo bm va c bs p b W) (ho : Off S W W2) (hS : ¬ S bm) (hn : Na S va bs.length) : Mo bm va c bs p b W2 := ⟨h.cell.off ho hS, h.row.off ho hn, h.ne, h.okb, h.len, h.at_⟩
theorem Mo.below (h : Mo bm va c bs p b W) (hb : Below W.heap.size W W2) : Mo bm va c bs p b W2 := ⟨h.cell.below hb, h.row.below hb, h.ne, h.okb, h.len, h.at_⟩
theorem Mo.cells (h : Mo bm va c bs p b W) : W.cell? ⟨bm, 0, none⟩ = some (.slice va bs.length c) ∧ W.cell? ⟨bm, 1, none⟩ = some (.int .i64 p) ∧ W.cell? ⟨bm, 2, none⟩ = some (.bool b) ∧ W.frozen? ⟨bm, 1, none⟩ = false ∧ W.frozen? ⟨bm, 2, none⟩ = false := ⟨h.cell.cell 0, h.cell.cell 1, h.cell.cell 2, h.cell.frozen 1, h.cell.frozen 2⟩
theorem mo_off (u : Value) (o : Nat) : Off (fun k => k = bm) W (W.setCell ⟨bm, o, none⟩ u) := Off.of_grown (grown_set u) (fun g hg => by cases hg; rfl)
theorem Mo.setB (h : Mo bm va c bs p b W) : Mo bm va c bs p true (W.setCell ⟨bm, 2, none⟩ (.bool true)) ∧ Off (fun k => k = bm) W (W.setCell ⟨bm, 2, none⟩ (.bool true)) :=
  ⟨⟨heap_set _ h.cell, h.row.off (mo_off _ _) h.ne, h.ne, h.okb, h.len, h.at_⟩, mo_off _ _⟩
theorem Mo.setP (h : Mo bm va c bs p b W) (hq : q ≤ bs.length) : Mo bm va c bs q b (W.setCell ⟨bm, 1, none⟩ (.int .i64 q)) ∧ Off (fun k => k = bm) W (W.setCell ⟨bm, 1, none⟩ (.int .i64 q)) :=
  ⟨⟨heap_set _ h.cell, h.row.off (mo_off _ _) h.ne, h.ne, h.okb, h.len, hq⟩, mo_off _ _⟩
end
/-- What a call tells: a thing, the place, and whether it is bad. -/
def sNum (bs : List Int) (p : Nat) (b : Bool) : Nat × Nat × Bool := match dec64 (bs.drop p) with
  | none => (0, p, true)
  | some (n, s) => (n, p + s, b)
def sLen (bs : List Int) (p : Nat) (b : Bool) : Nat × Nat × Bool := if 1073741824 < (sNum bs p b).1 then (0, (sNum bs p b).2.1, true) else sNum bs p b
def sKey (bs : List Int) (p : Nat) (b : Bool) : Nat × Nat × Bool := if 9223372036854775808 ≤ (sNum bs p b).1 then (0, (sNum bs p b).2.1, true) else sNum bs p b
def sTxt (bs : List Int) (p : Nat) (b : Bool) : List Int × Nat × Bool := match dec64 (bs.drop p) with
  | none => ([], p, true)
  | some (n, s) => if n ≤ bs.length - (p + s) then ((bs.drop (p + s)).take n, p + s + n, b) else ([], p, true)
theorem sNum_none {bs : List Int} {p : Nat} (b : Bool) (h : dec64 (bs.drop p) = none) : sNum bs p b = (0, p, true) := by unfold sNum; rw [h]
theorem sNum_some {bs : List Int} {p n s : Nat} (b : Bool) (h : dec64 (bs.drop p) = some (n, s)) : sNum bs p b = (n, p + s, b) := by unfold sNum; rw [h]
theorem sNum_lt {bs : List Int} {p : Nat} (b : Bool) (ho : Okb bs) : (sNum bs p b).1 < 18446744073709551616 := by
  cases h : dec64 (bs.drop p) with
  | none => rw [sNum_none b h]; show 0 < _; omega
  | some a =>
    obtain ⟨n, s⟩ := a
    rw [sNum_some b h]
    exact (dec64_take _ (ho.drop p) n s h).2.2.2.2.1
theorem sNum_at {bs : List Int} {p : Nat} (b : Bool) (ho : Okb bs) (hp : p ≤ bs.length) : p ≤ (sNum bs p b).2.1 ∧ (sNum bs p b).2.1 ≤ bs.length := by
  cases h : dec64 (bs.drop p) with
  | none => rw [sNum_none b h]; exact ⟨Nat.le_refl _, hp⟩
  | some a =>
    obtain ⟨n, s⟩ := a
    rw [sNum_some b h]
    have := (dec64_take _ (ho.drop p) n s h).2.2.2.1
    rw [List.length_drop] at this
    exact ⟨by show p ≤ p + s; omega, by show p + s ≤ _; omega⟩
/-- The class of worlds of a region that reads. -/
def MoC (w : World) (bm : Nat) (va : Option Addr) (c : Nat) (bs : List Int) (p : Nat) (b : Bool) (W : World) : Prop := Mo bm va c bs p b W ∧ Below w.heap.size w W
theorem RUintIs.eq {bs : List Int} {p : Int} {w : World} {E : Int} {n x : Nat} (h1 : uErr bs p = E) (h2 : uNum bs p = n) (h3 : uNxt bs p = x) : RUintIs bs p w = fun e w' => e = .returned (.tuple #[.int .u64 n, .int .i64 x, .int .i64 E]) ∧ Below w.heap.size w w' := by
  funext e w'
  unfold RUintIs
  rw [h1, h2, h3]
/-- Each call, so told. -/
def MoP (bm : Nat) (va : Option Addr) (c : Nat) (bs : List Int) (w : World) (v : Value) (p : Nat) (b : Bool) (e : Ending) (w' : World) : Prop := e = .returned v ∧ Mo bm va c bs p b w' ∧ Off (fun k => k = bm) w w'
set_option maxHeartbeats 2000000 in
theorem mnum_any (bm : Nat) (va : Option Addr) (c : Nat) (bs : List Int) (p : Nat) (b : Bool) (w : World) (h : Mo bm va c bs p b w) :
    Calls Tryz.prog 29 #[.pointer (some ⟨bm, 0, none⟩)] w (MoP bm va c bs w (.int .u64 (sNum bs p b).1) (sNum bs p b).2.1 (sNum bs p b).2.2) := by
  have HU := Lib.hid (fun W (hC : MoC w bm va c bs p b W) => (ruint_any _ bs p W hC.1.row hC.1.okb (Nat.le_trans hC.1.len (by omega))))
  have HC := Lib.hid (show MoC w bm va c bs p b w.drew from ⟨h.below (Below.refl _ _).drew, (Below.refl _ _).drew⟩)
  have HM := Lib.hid h
  obtain ⟨c0, c1, c2, c3, c4⟩ := h.cells
  have hp := h.at_
  cases hd : dec64 (bs.drop p) with
  | none =>
    rw [sNum_none b hd]
    obtain ⟨u1, u2, u3⟩ := u_none hp hd
    have KN := Lib.hid (fun W (hC : MoC w bm va c bs p b W) => (show Calls _ _ _ _ _ from (HU.out W hC).mono fun e w' q => (by rw [RUintIs.eq u1 u2 u3] at q; exact ⟨q.1, hC.1.below q.2, below_add hC.2 q.2 hC.2.size⟩ : e = .returned (.tuple #[.int .u64 (0 : Nat), .int .i64 (0 : Nat), .int .i64 3]) ∧ MoC w bm va c bs p b w')))
    clear h hd u1 u2 u3 HU
    go_enter Tryz.func29, Tryz.ntmps29
    go_wp2_with fail
    refine region_classw (C := MoC w bm va c bs p b) (by kernel_rfl) (by kernel_rfl) HC.out ?_
    repeat (first
      | (refine w_val (v := ?_) (by rfl) (fun w9 hS => ?_) ?_
         rotate_left
         · obtain ⟨c0, c1, c2, c3, c4⟩ := hS.1.cells
           go_simp
           try with_reducible rfl
         simp only [Act.put, List.setIfInBounds_toArray, List.set_cons_zero, List.set_cons_succ])
      | (refine w_call (by rfl) (fun w9 hS => ?_) KN.out ?_
         · obtain ⟨c0, c1, c2, c3, c4⟩ := hS.1.cells
           go_simp
         simp only [Act.put, List.setIfInBounds_toArray, List.set_cons_zero, List.set_cons_succ]))
    refine w_end ?_
    intro w1 T1
    have HM1 := Lib.hid T1.1
    have HB := Lib.hid T1.2
    obtain ⟨c0, c1, c2, c3, c4⟩ := T1.1.cells
    clear T1
    go_wp2
    go_ret
    exact ⟨rfl, HM1.out.setB.1, (Off.of_below HB.out).seq HM1.out.setB.2⟩
  | some a =>
    obtain ⟨n, s⟩ := a
    rw [sNum_some b hd]
    obtain ⟨u1, u2, u3⟩ := u_some hp hd
    have KN0 := Lib.hid (fun W (hC : MoC w bm va c bs p b W) => (show Calls _ _ _ _ _ from (HU.out W hC).mono fun e w' q => (by rw [RUintIs.eq u1 u2 u3] at q; exact ⟨q.1, hC.1.below q.2, below_add hC.2 q.2 hC.2.size⟩ : e = .returned (.tuple #[.int .u64 n, .int .i64 (p + s : Nat), .int .i64 0]) ∧ MoC w bm va c bs p b w')))
    have hs := (dec64_take _ (h.okb.drop p) n s hd).2.2.2.1
    rw [List.length_drop] at hs
    have hq : p + s ≤ bs.length := by omega
    have HQ := Lib.hid hq
    obtain ⟨q, hqq⟩ : ∃ q, p + s = q := ⟨_, rfl⟩
    rw [hqq] at KN0 HQ ⊢
    have KN := KN0
    clear h hd u1 u2 u3 hs hq hqq HU KN0
    go_enter Tryz.func29, Tryz.ntmps29
    go_wp2_with fail
    refine region_classw (C := MoC w bm va c bs p b) (by kernel_rfl) (by kernel_rfl) HC.out ?_
    repeat (first
      | (refine w_val (v := ?_) (by rfl) (fun w9 hS => ?_) ?_
         rotate_left
         · obtain ⟨c0, c1, c2, c3, c4⟩ := hS.1.cells
           go_simp
           try with_reducible rfl
         simp only [Act.put, List.setIfInBounds_toArray, List.set_cons_zero, List.set_cons_succ])
      | (refine w_call (by rfl) (fun w9 hS => ?_) KN.out ?_
         · obtain ⟨c0, c1, c2, c3, c4⟩ := hS.1.cells
           go_simp
         simp only [Act.put, List.setIfInBounds_toArray, List.set_cons_zero, List.set_cons_succ]))
    refine w_end ?_
    intro w1 T1
    have HM1 := Lib.hid T1.1
    have HB := Lib.hid T1.2
    obtain ⟨c0, c1, c2, c3, c4⟩ := T1.1.cells
    clear T1
    go_wp2
    go_ret
    exact ⟨rfl, (HM1.out.setP HQ.out).1, (Off.of_below HB.out).seq (HM1.out.setP HQ.out).2⟩
end Go.Proofs.YtohgopibimgjfaaGreat

/- P14: a length, a key, bytes -/
namespace Go.Proofs.YtohgopibimgjfaaGreat
open Go.RowKit
set_option linter.unusedVariables false
set_option maxRecDepth 100000

theorem MoP.more {bm : Nat} {va : Option Addr} {c : Nat} {bs : List Int} {w w1 w2 : World} (ho : Off (fun k => k = bm) w w1) (ho2 : Off (fun k => k = bm) w1 w2) {v : Value} {p : Nat} {b : Bool} (h : Mo bm va c bs p b w2) : MoP bm va c bs w v p b (.returned v) w2 := ⟨rfl, h, ho.seq ho2⟩
theorem Mo.two {bm : Nat} {va : Option Addr} {c : Nat} {bs : List Int} {p : Nat} {b : Bool} {W : World} (h : Mo bm va c bs p b W) : W.cell? ⟨bm, 0, none⟩ = some (.slice va bs.length c) ∧ W.cell? ⟨bm, 1, none⟩ = some (.int .i64 p) := ⟨h.cells.1, h.cells.2.1⟩
set_option maxHeartbeats 2000000 in
theorem mlen_any (bm : Nat) (va : Option Addr) (c : Nat) (bs : List Int) (p : Nat) (b : Bool) (w : World) (h : Mo bm va c bs p b w) :
    Calls Tryz.prog 30 #[.pointer (some ⟨bm, 0, none⟩)] w (MoP bm va c bs w (.int .i64 (sLen bs p b).1) (sLen bs p b).2.1 (sLen bs p b).2.2) := by
  have HN := Lib.hid (mnum_any bm va c bs p b w h)
  have hl := sNum_lt (p := p) b h.okb
  unfold sLen
  generalize sNum bs p b = r at *
  obtain ⟨n, q, d⟩ := r
  simp only at HN hl ⊢
  clear h
  by_cases hn : 1073741824 < n
  · rw [if_pos hn]
    have d1 : decide ((1073741824 : Int) < (n : Int)) = true := decide_eq_true (by omega)
    clear hn
    go_enter Tryz.func30, Tryz.ntmps30
    go_wp2_with (go_at_call 29; refine HN.out.mono ?_; rintro e w1 ⟨rfl, hm, ho⟩; have HM1 := Lib.hid hm; have HO := Lib.hid ho; obtain ⟨c0, c1, c2, c3, c4⟩ := hm.cells; clear hm ho)
    go_ret
    exact MoP.more HO.out HM1.out.setB.2 HM1.out.setB.1
  · rw [if_neg hn]
    have d1 : decide ((1073741824 : Int) < (n : Int)) = false := decide_eq_false (by omega)
    go_enter Tryz.func30, Tryz.ntmps30
    go_wp2_with (go_at_call 29; refine HN.out.mono ?_; rintro e w1 ⟨rfl, hm, ho⟩; have HM1 := Lib.hid hm; have HO := Lib.hid ho; clear hm ho)
    go_ret
    exact ⟨rfl, HM1.out, HO.out⟩
set_option maxHeartbeats 2000000 in
theorem mkey_any (bm : Nat) (va : Option Addr) (c : Nat) (bs : List Int) (p : Nat) (b : Bool) (w : World) (h : Mo bm va c bs p b w) :
    Calls Tryz.prog 31 #[.pointer (some ⟨bm, 0, none⟩)] w (MoP bm va c bs w (.int .i64 (sKey bs p b).1) (sKey bs p b).2.1 (sKey bs p b).2.2) := by
  have HN := Lib.hid (mnum_any bm va c bs p b w h)
  have hl := sNum_lt (p := p) b h.okb
  unfold sKey
  generalize sNum bs p b = r at *
  obtain ⟨n, q, d⟩ := r
  simp only at HN hl ⊢
  clear h
  by_cases hn : 9223372036854775808 ≤ n
  · rw [if_pos hn]
    have d1 : decide ((9223372036854775808 : Int) ≤ (n : Int)) = true := decide_eq_true (by omega)
    clear hn
    go_enter Tryz.func31, Tryz.ntmps31
    go_wp2_with (go_at_call 29; refine HN.out.mono ?_; rintro e w1 ⟨rfl, hm, ho⟩; have HM1 := Lib.hid hm; have HO := Lib.hid ho; obtain ⟨c0, c1, c2, c3, c4⟩ := hm.cells; clear hm ho)
    go_ret
    exact MoP.more HO.out HM1.out.setB.2 HM1.out.setB.1
  · rw [if_neg hn]
    have d1 : decide ((9223372036854775808 : Int) ≤ (n : Int)) = false := decide_eq_false (by omega)
    go_enter Tryz.func31, Tryz.ntmps31
    go_wp2_with (go_at_call 29; refine HN.out.mono ?_; rintro e w1 ⟨rfl, hm, ho⟩; have HM1 := Lib.hid hm; have HO := Lib.hid ho; clear hm ho)
    go_ret
    exact ⟨rfl, HM1.out, HO.out⟩
/-- What Bytes tells, up to the end. -/
theorem txt_none {bs : List Int} {p : Nat} (b : Bool) (hp : p ≤ bs.length) (h : dec64 (bs.drop p) = none) : sTxt bs p b = ([], p, true) ∧ bErr bs p bs.length = 3 ∧ bNxt bs p bs.length = 0 ∧ bOut bs p bs.length = [] := by
  obtain ⟨u1, u2, u3⟩ := u_none hp h
  have e : bErr bs p bs.length = 3 := by rw [u_bad (.inr u1), u1]
  refine ⟨by unfold sTxt; rw [h], e, ?_, ?_⟩
  · unfold bNxt; rw [e, if_neg (by omega)]
  · unfold bOut; rw [e, if_neg (by omega)]
theorem txt_less {bs : List Int} {p n s : Nat} (b : Bool) (hp : p ≤ bs.length) (h : dec64 (bs.drop p) = some (n, s)) (hs : p + s ≤ bs.length) (hn : ¬ n ≤ bs.length - (p + s)) : sTxt bs p b = ([], p, true) ∧ bErr bs p bs.length = 3 ∧ bNxt bs p bs.length = 0 ∧ bOut bs p bs.length = [] := by
  obtain ⟨u1, u2, u3⟩ := u_some hp h
  have e : bErr bs p bs.length = 3 := by
    unfold bErr
    rw [u1, u2, u3, if_pos rfl, if_pos (by omega)]
  refine ⟨by unfold sTxt; rw [h]; simp only; rw [if_neg hn], e, ?_, ?_⟩
  · unfold bNxt; rw [e, if_neg (by omega)]
  · unfold bOut; rw [e, if_neg (by omega)]
theorem txt_yes {bs : List Int} {p n s : Nat} (b : Bool) (hp : p ≤ bs.length) (h : dec64 (bs.drop p) = some (n, s)) (hs : p + s ≤ bs.length) (hn : n ≤ bs.length - (p + s)) : sTxt bs p b = ((bs.drop (p + s)).take n, p + s + n, b) ∧ bErr bs p bs.length = 0 ∧ bNxt bs p bs.length = p + s + n ∧ bOut bs p bs.length = (bs.drop (p + s)).take n := by
  obtain ⟨u1, u2, u3⟩ := u_some hp h
  have e : bErr bs p bs.length = 0 := by
    unfold bErr
    rw [u1, u2, u3, if_pos rfl, if_neg (by omega)]
  refine ⟨by unfold sTxt; rw [h]; simp only; rw [if_pos hn], e, ?_, ?_⟩
  · unfold bNxt; rw [e, if_pos rfl, u2, u3]
  · unfold bOut
    rw [e, if_pos rfl, u2, u3, List.drop_take]
    congr 1
    omega
/-- A call that tells bytes. -/
def MoT (bm : Nat) (va : Option Addr) (c : Nat) (bs : List Int) (w : World) (r : List Int × Nat × Bool) (e : Ending) (w' : World) : Prop := ∃ a d, e = .returned (.slice a r.1.length d) ∧ Ints .u8 w' (.slice a r.1.length d) r.1 ∧ Mo bm va c bs r.2.1 r.2.2 w' ∧ Off (fun k => k = bm) w w'
set_option maxHeartbeats 4000000 in
theorem mtxt_any (bm : Nat) (va : Option Addr) (c : Nat) (bs : List Int) (p : Nat) (b : Bool) (w : World) (h : Mo bm va c bs p b w) :
    Calls Tryz.prog 34 #[.pointer (some ⟨bm, 0, none⟩)] w (MoT bm va c bs w (sTxt bs p b)) := by
  have hp := h.at_
  have hl := h.len
  have HCL := Lib.hid h.cell.lt
  have HU := Lib.hid (fun W (hC : Mo bm va c bs p b W) => rbytes_any _ bs p bs.length W hC.row hC.okb hC.len (by omega))
  have HMD := Lib.hid (h.below (Below.refl _ _).drew)
  have HOD := Lib.hid (Off.of_below (S := fun k => k = bm) (Below.refl w.heap.size w).drew)
  obtain ⟨E, X, O, hE, hX, hO⟩ : ∃ E X O, bErr bs p bs.length = E ∧ bNxt bs p bs.length = X ∧ bOut bs p bs.length = O := ⟨_, _, _, rfl, rfl, rfl⟩
  have HB := Lib.hid (fun W (hC : Mo bm va c bs p b W) => (HU.out W hC).mono fun e w' (q : BytesIs bs p bs.length W e w') => (show ∃ a d, e = .returned (.tuple #[.slice a O.length d, .int .i64 X, .int .i64 E]) ∧ Ints .u8 w' (.slice a O.length d) O ∧ (∀ x, a = some x → W.heap.size ≤ x.block) ∧ Below W.heap.size W w' by
    obtain ⟨v, q1, q2, q3⟩ := q
    rw [hO] at q2
    rw [hX, hE] at q1
    obtain ⟨a, d, rfl, -, -⟩ := own_shape q2
    exact ⟨a, d, q1, (Ints.of_owns q2).1, fun x e => by subst e; exact (q2.lt x.block (by simp [Value.ownBlock])).1, q3⟩))
  have hcases : (sTxt bs p b = ([], p, true) ∧ E = 3 ∧ O = []) ∨ (sTxt bs p b = (O, X, b) ∧ E = 0 ∧ X ≤ bs.length) := by
    cases hd : dec64 (bs.drop p) with
    | none =>
      obtain ⟨t1, t2, t3, t4⟩ := txt_none b hp hd
      exact .inl ⟨t1, by rw [← hE, t2], by rw [← hO, t4]⟩
    | some a =>
      obtain ⟨n, s⟩ := a
      have hs := (dec64_take _ (h.okb.drop p) n s hd).2.2.2.1
      rw [List.length_drop] at hs
      by_cases hn : n ≤ bs.length - (p + s)
      · obtain ⟨t1, t2, t3, t4⟩ := txt_yes b hp hd (by omega) hn
        exact .inr ⟨by rw [t1, ← hX, ← hO, t3, t4], by rw [← hE, t2], by rw [← hX, t3]; omega⟩
      · obtain ⟨t1, t2, t3, t4⟩ := txt_less b hp hd (by omega) hn
        exact .inl ⟨t1, by rw [← hE, t2], by rw [← hO, t4]⟩
  clear hE hX hO HU h
  obtain ⟨c0, c1, c2, c3, c4⟩ := HMD.out.cells
  rcases hcases with ⟨ht, rfl, rfl⟩ | ⟨ht, rfl, hX⟩
  · rw [ht]
    clear ht
    go_enter Tryz.func34, Tryz.ntmps34
    go_wp2_with fail
    have hS0 := HMD.out.two
    go_region_held3 (fun w' => w'.cell? ⟨bm, 0, none⟩ = some (.slice va bs.length c) ∧ w'.cell? ⟨bm, 1, none⟩ = some (.int .i64 p)) (first | assumption | trivial)
      ((go_at_call 72; go_loud (refine (HB.out _ HMD.out).mono ?_; rintro e w1 ⟨a, d, rfl, hi, hx, hb⟩; have HM1 := Lib.hid (HMD.out.below hb); have HI := Lib.hid hi; have HO1 := Lib.hid (HOD.out.seq (Off.of_below hb)); have HXX := Lib.hid hx; have hS1 := HM1.out.two; clear hi hb hx)))
    obtain ⟨c0, c1, c2, c3, c4⟩ := HM1.out.cells
    clear hS0 hS1
    go_wp2
    go_ret
    refine ⟨none, 0, rfl, .inl ⟨none, 0, rfl, rfl, by unfold maxLen; omega, fun _ => rfl⟩, HM1.out.setB.1, HO1.out.seq HM1.out.setB.2⟩
  · rw [ht]
    have HQ := Lib.hid hX
    clear ht hX
    go_enter Tryz.func34, Tryz.ntmps34
    go_wp2_with fail
    have hS0 := HMD.out.two
    go_region_held3 (fun w' => w'.cell? ⟨bm, 0, none⟩ = some (.slice va bs.length c) ∧ w'.cell? ⟨bm, 1, none⟩ = some (.int .i64 p)) (first | assumption | trivial)
      ((go_at_call 72; go_loud (refine (HB.out _ HMD.out).mono ?_; rintro e w1 ⟨a, d, rfl, hi, hx, hb⟩; have HM1 := Lib.hid (HMD.out.below hb); have HI := Lib.hid hi; have HO1 := Lib.hid (HOD.out.seq (Off.of_below hb)); have HXX := Lib.hid hx; have hS1 := HM1.out.two; clear hi hb hx)))
    obtain ⟨c0, c1, c2, c3, c4⟩ := HM1.out.cells
    clear hS0 hS1
    go_wp2
    go_ret
    refine ⟨a, d, rfl, HI.out.off (HM1.out.setP HQ.out).2 (fun _ x e hh => by have := HXX.out x e; have hl := HCL.out; simp at this; omega), (HM1.out.setP HQ.out).1, HO1.out.seq (HM1.out.setP HQ.out).2⟩
end Go.Proofs.YtohgopibimgjfaaGreat

/- P15: a value is read -/
namespace Go.Proofs.YtohgopibimgjfaaGreat
open Go.RowKit
set_option linter.unusedVariables false
set_option maxRecDepth 100000

theorem off_more {S T : Nat → Prop} {a b c : World} (h : Off S a b) (k : Off T b c) (hT : ∀ x, T x → S x ∨ a.heap.size ≤ x) : Off S a c :=
  ⟨k.os.trans h.os, k.tape.trans h.tape, k.output.trans h.output, Nat.le_trans h.size k.size, fun g hg hn => (k.block g (Nat.lt_of_lt_of_le hg h.size) (fun hh => (hT g hh).elim hn (fun q => by omega))).trans (h.block g hg hn)⟩
theorem Mo.na {bm c p : Nat} {va : Option Addr} {bs : List Int} {b : Bool} {w : World} (h : Mo bm va c bs p b w) {S : Nat → Prop} (hS : ∀ k, S k → w.heap.size ≤ k) : Na S va bs.length := fun h0 x hx hh => by
  rcases h.row with ⟨a, cap, hv, hb, -⟩ | ⟨b', off, cap, hv, -, -, -, hc⟩
  · rw [hb] at h0; simp at h0
  · injection hv with e1 e2 e3
    rw [hx] at e1
    injection e1 with e1
    subst e1
    have h1 := World.block_lt_of_cell? w _ (hc 0 h0)
    have h2 := hS _ hh
    simp only at h1 h2
    omega
theorem vcell {W : World} {g : Nat} {k n f : Int} {s : ByteArray} (h : Cb g 59 (vcells k n f s) W) : W.cell? ⟨g, 0, none⟩ = some (.int .u8 k) ∧ W.cell? ⟨g, 1, none⟩ = some (.int .i64 n) ∧ W.cell? ⟨g, 2, none⟩ = some (.int .u64 f) ∧ W.cell? ⟨g, 3, none⟩ = some (.string s) := ⟨h.cell 0, h.cell 1, h.cell 2, h.cell 3⟩
theorem vfroz {W : World} {g : Nat} {k n f : Int} {s : ByteArray} (h : Cb g 59 (vcells k n f s) W) : W.frozen? ⟨g, 0, none⟩ = false ∧ W.frozen? ⟨g, 1, none⟩ = false ∧ W.frozen? ⟨g, 2, none⟩ = false ∧ W.frozen? ⟨g, 3, none⟩ = false := ⟨h.frozen 0, h.frozen 1, h.frozen 2, h.frozen 3⟩
/-- A value is put into its variable. -/
@[reducible] def put4 (W : World) (g : Nat) (k n f : Int) (s : ByteArray) : World := (((W.setCell ⟨g, 0, none⟩ (.int .u8 k)).setCell ⟨g, 1, none⟩ (.int .i64 n)).setCell ⟨g, 2, none⟩ (.int .u64 f)).setCell ⟨g, 3, none⟩ (.string s)
theorem put4_off (W : World) (g : Nat) (k n f : Int) (s : ByteArray) : Off (fun x => x = g) W (put4 W g k n f s) :=
  (((mo_off (bm := g) _ 0).seq (mo_off _ 1)).seq (mo_off _ 2)).seq (mo_off _ 3)
theorem put4_row {W : World} {g : Nat} {k n f k' n' f' : Int} {s s' : ByteArray} (h : Cb g 59 (vcells k' n' f' s') W) : Cb g 59 (vcells k n f s) (put4 W g k n f s) :=
  heap_set _ (heap_set _ (heap_set _ (heap_set _ h)))
theorem vinfo : (Tryz.prog.info? 59).map (·.size) = some 4 := by kernel_rfl
def sVal (bs : List Int) (k p : Nat) (b : Bool) : Vl × Nat × Bool :=
  if k = 1 ∨ k = 2 then (⟨k, zag (sNum bs p b).1, 0, ⟨#[]⟩⟩, (sNum bs p b).2)
  else if k = 3 then (⟨3, 0, (sNum bs p b).1, ⟨#[]⟩⟩, (sNum bs p b).2)
  else if k = 4 then (⟨4, 0, 0, strOfNums (sTxt bs p b).1⟩, (sTxt bs p b).2)
  else (zV, p, true)
def vlV (v : Vl) : Value := val v.k v.n v.f v.s
section
variable {bm c p q : Nat} {va : Option Addr} {bs : List Int} {d : Bool} {w w1 : World}
theorem val_end (hm : Mo bm va c bs q d w1) (ho : Off (fun x => x = bm) w w1) (ha : Cb w.heap.size 59 (vcells 0 0 0 ⟨#[]⟩) w1) (hb : bm < w.heap.size) (hn : Na (fun x => x = w.heap.size) va bs.length) (k n f : Int) (s : ByteArray) :
    Mo bm va c bs q d (put4 w1 w.heap.size k n f s) ∧ Off (fun x => x = bm) w (put4 w1 w.heap.size k n f s) ∧ Cb w.heap.size 59 (vcells k n f s) (put4 w1 w.heap.size k n f s) :=
  ⟨hm.off (put4_off _ _ _ _ _ _) (by omega) hn, off_more ho (put4_off _ _ _ _ _ _) (fun x hx => .inr (by omega)), put4_row ha⟩
end
set_option maxHeartbeats 4000000 in
theorem mval_any (bm : Nat) (va : Option Addr) (c : Nat) (bs : List Int) (k p : Nat) (b : Bool) (w : World) (h : Mo bm va c bs p b w) (hk : k < 18446744073709551616) :
    Calls Tryz.prog 32 #[.pointer (some ⟨bm, 0, none⟩), .int .u64 k] w (MoP bm va c bs w (vlV (sVal bs k p b).1) (sVal bs k p b).2.1 (sVal bs k p b).2.2) := by
  have hb0 := kbelow_one w (.cells (vcells 0 0 0 ⟨#[]⟩) 59)
  have h0 := h.below hb0
  have HN := Lib.hid (mnum_any bm va c bs p b _ h0)
  have HT := Lib.hid (mtxt_any bm va c bs p b _ h0)
  have HM0 := Lib.hid h0
  have HO0 := Lib.hid (Off.of_below (S := fun k => k = bm) hb0)
  have hcl := h.cell.lt
  have HNA := Lib.hid (h.na (S := fun x => x = w.heap.size) (fun k hk => by omega))
  have HA := Lib.hid (cb_new w 59 (vcells 0 0 0 ⟨#[]⟩))
  have hfit := sNum_lt (p := p) b h.okb
  have HBK := Lib.hid (fun W => back_any (sNum bs p b).1 W hfit)
  have HSU := Lib.hid Tryz.underlying59
  clear h hb0 h0
  obtain ⟨W0, hW0⟩ : ∃ x, w.alloc (.cells (vcells 0 0 0 ⟨#[]⟩) 59) = x := ⟨_, rfl⟩
  rw [hW0] at HN HT HM0 HO0 HA
  by_cases k1 : k = 1
  · subst k1
    rw [show sVal bs 1 p b = (⟨1, zag (sNum bs p b).1, 0, ⟨#[]⟩⟩, (sNum bs p b).2) from rfl]
    generalize sNum bs p b = r at *
    clear HT hfit
    go_enter Tryz.func32, Tryz.ntmps32
    go_wp2_with (first
      | (go_at_call 29; go_loud (refine HN.out.mono ?_; rintro e w1 ⟨rfl, hm, ho⟩; have HM1 := Lib.hid hm; have HO1 := Lib.hid (HO0.out.seq ho); have HA1 := Lib.hid (HA.out.off ho (by omega)); obtain ⟨x0, x1, x2, x3⟩ := vcell HA1.out; obtain ⟨z0, z1, z2, z3⟩ := vfroz HA1.out; clear hm ho))
      | (go_at_call 70; go_loud (refine (HBK.out _).mono ?_; rintro e w2 ⟨rfl, rfl⟩)))
    obtain ⟨y1, y2, y3⟩ := val_end HM1.out HO1.out HA1.out hcl HNA.out 1 (zag r.1) 0 ⟨#[]⟩
    exact bodyPost_ret (results_cell_row Tryz.results32 _ _ _ _ _ _ _ rfl y3 HSU.out rfl vinfo) rfl ⟨rfl, y1, y2⟩
  by_cases k2 : k = 2
  · subst k2
    rw [show sVal bs 2 p b = (⟨2, zag (sNum bs p b).1, 0, ⟨#[]⟩⟩, (sNum bs p b).2) from rfl]
    generalize sNum bs p b = r at *
    clear HT hfit
    go_enter Tryz.func32, Tryz.ntmps32
    go_wp2_with (first
      | (go_at_call 29; go_loud (refine HN.out.mono ?_; rintro e w1 ⟨rfl, hm, ho⟩; have HM1 := Lib.hid hm; have HO1 := Lib.hid (HO0.out.seq ho); have HA1 := Lib.hid (HA.out.off ho (by omega)); obtain ⟨x0, x1, x2, x3⟩ := vcell HA1.out; obtain ⟨z0, z1, z2, z3⟩ := vfroz HA1.out; clear hm ho))
      | (go_at_call 70; go_loud (refine (HBK.out _).mono ?_; rintro e w2 ⟨rfl, rfl⟩)))
    obtain ⟨y1, y2, y3⟩ := val_end HM1.out HO1.out HA1.out hcl HNA.out 2 (zag r.1) 0 ⟨#[]⟩
    exact bodyPost_ret (results_cell_row Tryz.results32 _ _ _ _ _ _ _ rfl y3 HSU.out rfl vinfo) rfl ⟨rfl, y1, y2⟩
  by_cases k3 : k = 3
  · subst k3
    rw [show sVal bs 3 p b = (⟨3, 0, (sNum bs p b).1, ⟨#[]⟩⟩, (sNum bs p b).2) from rfl]
    generalize sNum bs p b = r at *
    clear HT hfit HBK
    go_enter Tryz.func32, Tryz.ntmps32
    go_wp2_with (first
      | (go_at_call 29; go_loud (refine HN.out.mono ?_; rintro e w1 ⟨rfl, hm, ho⟩; have HM1 := Lib.hid hm; have HO1 := Lib.hid (HO0.out.seq ho); have HA1 := Lib.hid (HA.out.off ho (by omega)); obtain ⟨x0, x1, x2, x3⟩ := vcell HA1.out; obtain ⟨z0, z1, z2, z3⟩ := vfroz HA1.out; clear hm ho)))
    obtain ⟨y1, y2, y3⟩ := val_end HM1.out HO1.out HA1.out hcl HNA.out 3 0 r.1 ⟨#[]⟩
    exact bodyPost_ret (results_cell_row Tryz.results32 _ _ _ _ _ _ _ rfl y3 HSU.out rfl vinfo) rfl ⟨rfl, y1, y2⟩
  by_cases k4 : k = 4
  · subst k4
    rw [show sVal bs 4 p b = (⟨4, 0, 0, strOfNums (sTxt bs p b).1⟩, (sTxt bs p b).2) from rfl]
    generalize sTxt bs p b = r at *
    clear HN hfit HBK
    go_enter Tryz.func32, Tryz.ntmps32
    go_wp2_with (first
      | (go_at_call 34; go_loud (refine HT.out.mono ?_; rintro e w1 ⟨ta, td, rfl, hi, hm, ho⟩; have hcv := conv_ints _ _ w1 hi; have HM1 := Lib.hid hm; have HO1 := Lib.hid (HO0.out.seq ho); have HA1 := Lib.hid (HA.out.off ho (by omega)); obtain ⟨x0, x1, x2, x3⟩ := vcell HA1.out; obtain ⟨z0, z1, z2, z3⟩ := vfroz HA1.out; clear hm ho hi)))
    obtain ⟨y1, y2, y3⟩ := val_end HM1.out HO1.out HA1.out hcl HNA.out 4 0 0 (strOfNums r.1)
    exact bodyPost_ret (results_cell_row Tryz.results32 _ _ _ _ _ _ _ rfl y3 HSU.out rfl vinfo) rfl ⟨rfl, y1, y2⟩
  · have es : sVal bs k p b = (zV, p, true) := by
      unfold sVal
      rw [if_neg (by omega), if_neg k3, if_neg k4]
    rw [es]
    have e1 : ((k : Int) == 1) = false := by simp; omega
    have e2 : ((k : Int) == 2) = false := by simp; omega
    have e3 : ((k : Int) == 3) = false := by simp; omega
    have e4 : ((k : Int) == 4) = false := by simp; omega
    obtain ⟨m0, m1, m2, m3, m4⟩ := HM0.out.cells
    have HM1 := Lib.hid HM0.out.setB.1
    have HO1 := Lib.hid (HO0.out.seq HM0.out.setB.2)
    have HA1 := Lib.hid (HA.out.off HM0.out.setB.2 (by omega))
    obtain ⟨x0, x1, x2, x3⟩ := vcell HA1.out
    obtain ⟨z0, z1, z2, z3⟩ := vfroz HA1.out
    clear HN HT hfit HBK es k1 k2 k3 k4
    go_enter Tryz.func32, Tryz.ntmps32
    go_wp2
    obtain ⟨y1, y2, y3⟩ := val_end HM1.out HO1.out HA1.out hcl HNA.out 0 0 0 ⟨#[]⟩
    exact bodyPost_ret (results_cell_row Tryz.results32 _ _ _ _ _ _ _ rfl y3 HSU.out rfl vinfo) rfl ⟨rfl, y1, y2⟩
end Go.Proofs.YtohgopibimgjfaaGreat

/- P16: what the mouth reads is what the readers read -/
namespace Go.Proofs.YtohgopibimgjfaaGreat
open Go.RowKit
set_option linter.unusedVariables false
set_option maxRecDepth 100000

/-- A state function and its reader, from a place on. -/
structure Simb {α : Type} (bs : List Int) (p : Nat) (b : Bool) (r : α × Nat × Bool) (f : List Int → Option (α × List Int)) : Prop where
  stay : b = true → r.2.2 = true
  bad : b = false → r.2.2 = true → f (bs.drop p) = none
  ok : r.2.2 = false → f (bs.drop p) = some (r.1, bs.drop r.2.1)
  at_ : p ≤ r.2.1 ∧ r.2.1 ≤ bs.length
theorem Simb.good {α : Type} {bs : List Int} {p : Nat} {b : Bool} {r : α × Nat × Bool} {f : List Int → Option (α × List Int)} (h : Simb bs p b r f) (hr : r.2.2 = false) : b = false := by
  cases b with
  | false => rfl
  | true => have := h.stay rfl; rw [hr] at this; cases this
theorem Simb.pair {α β : Type} {bs : List Int} {p : Nat} {b : Bool} {r : α × Nat × Bool} {r' : β × Nat × Bool} {f : List Int → Option (α × List Int)} {g : α → List Int → Option (β × List Int)} (h : Simb bs p b r f) (h' : Simb bs r.2.1 r.2.2 r' (g r.1)) : Simb bs p b ((r.1, r'.1), r'.2) (cPair f g) := by
  refine ⟨fun hb => h'.stay (h.stay hb), fun hb hr => ?_, fun hr => ?_, Nat.le_trans h.at_.1 h'.at_.1, h'.at_.2⟩
  · cases hd : r.2.2 with
    | true => exact cPair_no (h.bad hb hd)
    | false => rw [cPair_yes (h.ok hd), h'.bad hd hr]
  · have hd := h'.good hr
    rw [cPair_yes (h.ok hd), h'.ok hr]
theorem Simb.map {α β : Type} {bs : List Int} {p : Nat} {b : Bool} {r : α × Nat × Bool} {f : List Int → Option (α × List Int)} (h : Simb bs p b r f) (g : α → β) : Simb bs p b (g r.1, r.2) (cMap g f) :=
  ⟨h.stay, fun hb hr => cMap_no (h.bad hb hr), fun hr => cMap_yes (h.ok hr), h.at_⟩
theorem Simb.as {α : Type} {bs : List Int} {p : Nat} {b : Bool} {r r' : α × Nat × Bool} {f : List Int → Option (α × List Int)} (h : Simb bs p b r f) (h2 : r'.2 = r.2) (h1 : r.2.2 = false → r'.1 = r.1) : Simb bs p b r' f :=
  ⟨fun hb => by rw [h2]; exact h.stay hb, fun hb hr => h.bad hb (by rw [← h2]; exact hr), fun hr => by rw [h2] at hr ⊢; rw [h1 hr]; exact h.ok hr, by rw [h2]; exact h.at_⟩
theorem drop_drop2 (bs : List Int) (p s : Nat) : (bs.drop p).drop s = bs.drop (p + s) := by rw [List.drop_drop]
theorem simb_num {bs : List Int} (ho : Okb bs) {p : Nat} (hp : p ≤ bs.length) (b : Bool) : Simb bs p b (sNum bs p b) cNum := by
  have hat := sNum_at b ho hp
  cases h : dec64 (bs.drop p) with
  | none =>
    rw [sNum_none b h] at hat ⊢
    exact ⟨fun _ => rfl, fun _ _ => cNum_none h, fun hr => by simp at hr, hat⟩
  | some a =>
    obtain ⟨n, s⟩ := a
    rw [sNum_some b h] at hat ⊢
    exact ⟨fun hb => hb, fun hb hr => (by simp only at hr; rw [hb] at hr; cases hr), fun hr => by rw [cNum_some h, drop_drop2], hat⟩
theorem more_num {bs : List Int} (ho : Okb bs) {p : Nat} {b : Bool} (hr : (sNum bs p b).2.2 = false) : p < (sNum bs p b).2.1 := by
  cases h : dec64 (bs.drop p) with
  | none => rw [sNum_none b h] at hr; simp at hr
  | some a =>
    obtain ⟨n, s⟩ := a
    rw [sNum_some b h]
    have := (dec64_take _ (ho.drop p) n s h).2.2.1
    show p < p + s
    omega
theorem simb_len {bs : List Int} (ho : Okb bs) {p : Nat} (hp : p ≤ bs.length) (b : Bool) : Simb bs p b (sLen bs p b) (cLen 1073741824) := by
  have h := simb_num ho hp b
  unfold sLen
  by_cases hn : 1073741824 < (sNum bs p b).1
  · rw [if_pos hn]
    refine ⟨fun _ => rfl, fun hb _ => ?_, fun hr => by simp at hr, h.at_⟩
    cases hd : (sNum bs p b).2.2 with
    | true => exact cOnly_no (h.bad hb hd)
    | false => unfold cLen; rw [cOnly_yes (h.ok hd), if_neg (by simp; omega)]
  · rw [if_neg hn]
    refine ⟨h.stay, fun hb hr => cOnly_no (h.bad hb hr), fun hr => ?_, h.at_⟩
    unfold cLen
    rw [cOnly_yes (h.ok hr), if_pos (by simp; omega)]
theorem simb_key {bs : List Int} (ho : Okb bs) {p : Nat} (hp : p ≤ bs.length) (b : Bool) : Simb bs p b (sKey bs p b) cKey := by
  have h := simb_num ho hp b
  unfold sKey
  by_cases hn : 9223372036854775808 ≤ (sNum bs p b).1
  · rw [if_pos hn]
    refine ⟨fun _ => rfl, fun hb _ => ?_, fun hr => by simp at hr, h.at_⟩
    cases hd : (sNum bs p b).2.2 with
    | true => exact cOnly_no (h.bad hb hd)
    | false => unfold cKey; rw [cOnly_yes (h.ok hd), if_neg (by simp; omega)]
  · rw [if_neg hn]
    refine ⟨h.stay, fun hb hr => cOnly_no (h.bad hb hr), fun hr => ?_, h.at_⟩
    unfold cKey
    rw [cOnly_yes (h.ok hr), if_pos (by simp; omega)]
theorem simb_txt {bs : List Int} (ho : Okb bs) {p : Nat} (hp : p ≤ bs.length) (b : Bool) : Simb bs p b (sTxt bs p b) cBytes := by
  cases h : dec64 (bs.drop p) with
  | none =>
    obtain ⟨e, -⟩ := txt_none b hp h
    rw [e]
    exact ⟨fun _ => rfl, fun _ _ => by unfold cBytes; rw [cNum_none h], fun hr => by simp at hr, Nat.le_refl _, hp⟩
  | some a =>
    obtain ⟨n, s⟩ := a
    have hs := (dec64_take _ (ho.drop p) n s h).2.2.2.1
    rw [List.length_drop] at hs
    have hl : ((bs.drop p).drop s).length = bs.length - (p + s) := by rw [drop_drop2, List.length_drop]
    by_cases hn : n ≤ bs.length - (p + s)
    · obtain ⟨e, -⟩ := txt_yes b hp h (by omega) hn
      rw [e]
      refine ⟨fun hb => hb, fun hb hr => (by simp only at hr; rw [hb] at hr; cases hr), fun hr => ?_, by show p ≤ p + s + n; omega, by show p + s + n ≤ _; omega⟩
      unfold cBytes
      rw [cNum_some h]
      simp only
      rw [if_pos (by rw [hl]; exact hn), drop_drop2, drop_drop2]
    · obtain ⟨e, -⟩ := txt_less b hp h (by omega) hn
      rw [e]
      refine ⟨fun _ => rfl, fun _ _ => ?_, fun hr => by simp at hr, Nat.le_refl _, hp⟩
      unfold cBytes
      rw [cNum_some h]
      simp only
      rw [if_neg (by rw [hl]; exact hn)]
theorem simb_val {bs : List Int} (ho : Okb bs) {p : Nat} (hp : p ≤ bs.length) (k : Nat) (b : Bool) : Simb bs p b (sVal bs k p b) (cVal k) := by
  unfold sVal cVal
  by_cases h1 : k = 1 ∨ k = 2
  · rw [if_pos h1, if_pos h1]; exact (simb_num ho hp b).map (fun n : Nat => (⟨k, zag n, 0, ⟨#[]⟩⟩ : Vl))
  rw [if_neg h1, if_neg h1]
  by_cases h3 : k = 3
  · rw [if_pos h3, if_pos h3]; exact (simb_num ho hp b).map (fun n : Nat => (⟨3, 0, n, ⟨#[]⟩⟩ : Vl))
  rw [if_neg h3, if_neg h3]
  by_cases h4 : k = 4
  · rw [if_pos h4, if_pos h4]; exact (simb_txt ho hp b).map (fun x : List Int => (⟨4, 0, 0, strOfNums x⟩ : Vl))
  · rw [if_neg h4, if_neg h4]
    exact ⟨fun _ => rfl, fun _ _ => rfl, fun hr => by simp at hr, Nat.le_refl _, hp⟩
/-- Runes: bytes that are read as runes. -/
def sRun (bs : List Int) (p : Nat) (b : Bool) : List Int × Nat × Bool := match readL (bl (sTxt bs p b).1) with
  | none => ([], (sTxt bs p b).2.1, true)
  | some rs => (rs, (sTxt bs p b).2)
theorem simb_run {bs : List Int} (ho : Okb bs) {p : Nat} (hp : p ≤ bs.length) (b : Bool) : Simb bs p b (sRun bs p b) cRunes := by
  have h := simb_txt ho hp b
  unfold sRun
  cases hr : readL (bl (sTxt bs p b).1) with
  | none =>
    refine ⟨fun _ => rfl, fun hb _ => ?_, fun hq => by simp at hq, h.at_⟩
    cases hd : (sTxt bs p b).2.2 with
    | true => exact cRunes_no (h.bad hb hd)
    | false => exact cRunes_bad (h.ok hd) hr
  | some rs => exact ⟨h.stay, fun hb hq => cRunes_no (h.bad hb hq), fun hq => cRunes_yes (h.ok hq) hr, h.at_⟩
/-- An attribute; a change, as it is laid even if it is bad. -/
def sAtt (bs : List Int) (p : Nat) (b : Bool) : Att × Nat × Bool :=
  let r := sKey bs p b
  let r2 := sNum bs r.2.1 r.2.2
  let r3 := sVal bs r2.1 r2.2.1 r2.2.2
  (attOf (r.1, r3.1), r3.2)
theorem simb_att {bs : List Int} (ho : Okb bs) {p : Nat} (hp : p ≤ bs.length) (b : Bool) : Simb bs p b (sAtt bs p b) cAtt := by
  have h1 := simb_key ho hp b
  have h2 := simb_num ho h1.at_.2 (sKey bs p b).2.2
  have h3 := simb_val ho h2.at_.2 (sNum bs (sKey bs p b).2.1 (sKey bs p b).2.2).1 (sNum bs (sKey bs p b).2.1 (sKey bs p b).2.2).2.2
  exact (h1.pair (g := fun _ => cVl) ((h2.pair (g := cVal) h3).map (fun z : Nat × Vl => z.2))).map attOf
theorem more_att {bs : List Int} (ho : Okb bs) {p : Nat} (hp : p ≤ bs.length) {b : Bool} (hr : (sAtt bs p b).2.2 = false) : p < (sAtt bs p b).2.1 := by
  have h1 := simb_key ho hp b
  have h2 := simb_num ho h1.at_.2 (sKey bs p b).2.2
  have h3 := simb_val ho h2.at_.2 (sNum bs (sKey bs p b).2.1 (sKey bs p b).2.2).1 (sNum bs (sKey bs p b).2.1 (sKey bs p b).2.2).2.2
  have d3 : (sNum bs (sKey bs p b).2.1 (sKey bs p b).2.2).2.2 = false := h3.good hr
  have := more_num ho d3
  have a1 := h1.at_.1
  have a3 := h3.at_.1
  show p < (sVal bs _ _ _).2.1
  omega
def chgX (key : Nat) (g : Bool) (v : Vl) : Chg := ⟨key, g, v.k, v.n, v.f, v.s⟩
def sChg (bs : List Int) (p : Nat) (b : Bool) : Chg × Nat × Bool :=
  let r := sKey bs p b
  let r2 := sNum bs r.2.1 r.2.2
  if r2.1 = 0 then (chgX r.1 true zV, r2.2) else
    let r3 := sVal bs r2.1 r2.2.1 r2.2.2
    (chgX r.1 false r3.1, r3.2)
theorem sVal_k {bs : List Int} (ho : Okb bs) {k p : Nat} (hp : p ≤ bs.length) {b : Bool} (hr : (sVal bs k p b).2.2 = false) : (sVal bs k p b).1.k = k := by
  have h := simb_val ho hp k b
  exact ((cod_val k).out _ _ _ (ho.drop p) (h.ok hr)).1.2.1
theorem simb_chg {bs : List Int} (ho : Okb bs) {p : Nat} (hp : p ≤ bs.length) (b : Bool) : Simb bs p b (sChg bs p b) cChg := by
  have h1 := simb_key ho hp b
  have h2 := simb_num ho h1.at_.2 (sKey bs p b).2.2
  have h3 := simb_val ho h2.at_.2 (sNum bs (sKey bs p b).2.1 (sKey bs p b).2.2).1 (sNum bs (sKey bs p b).2.1 (sKey bs p b).2.2).2.2
  unfold sChg
  simp only
  by_cases h0 : (sNum bs (sKey bs p b).2.1 (sKey bs p b).2.2).1 = 0
  · rw [if_pos h0]
    have h4 : Simb bs (sNum bs (sKey bs p b).2.1 (sKey bs p b).2.2).2.1 (sNum bs (sKey bs p b).2.1 (sKey bs p b).2.2).2.2 (zV, (sNum bs (sKey bs p b).2.1 (sKey bs p b).2.2).2) (if (sNum bs (sKey bs p b).2.1 (sKey bs p b).2.2).1 = 0 then fun l => some (zV, l) else cVal (sNum bs (sKey bs p b).2.1 (sKey bs p b).2.2).1) := by
      rw [if_pos h0]
      exact ⟨fun hb => hb, fun hb hr => (by simp only at hr; rw [hb] at hr; cases hr), fun _ => rfl, Nat.le_refl _, h2.at_.2⟩
    exact (h1.pair (g := fun _ => cGone) ((h2.pair (g := fun k => if k = 0 then fun l => some (zV, l) else cVal k) h4).map (fun z : Nat × Vl => z.2))).map chgOf
  · rw [if_neg h0]
    have h4 : Simb bs (sNum bs (sKey bs p b).2.1 (sKey bs p b).2.2).2.1 (sNum bs (sKey bs p b).2.1 (sKey bs p b).2.2).2.2 (sVal bs (sNum bs (sKey bs p b).2.1 (sKey bs p b).2.2).1 (sNum bs (sKey bs p b).2.1 (sKey bs p b).2.2).2.1 (sNum bs (sKey bs p b).2.1 (sKey bs p b).2.2).2.2) (if (sNum bs (sKey bs p b).2.1 (sKey bs p b).2.2).1 = 0 then fun l => some (zV, l) else cVal (sNum bs (sKey bs p b).2.1 (sKey bs p b).2.2).1) := by
      rw [if_neg h0]; exact h3
    refine ((h1.pair (g := fun _ => cGone) ((h2.pair (g := fun k => if k = 0 then fun l => some (zV, l) else cVal k) h4).map (fun z : Nat × Vl => z.2))).map chgOf).as rfl (fun hr => ?_)
    have hk := sVal_k ho h2.at_.2 hr
    show chgX _ false _ = chgOf (_, _)
    unfold chgX chgOf
    simp only
    rw [show ((sVal bs (sNum bs (sKey bs p b).2.1 (sKey bs p b).2.2).1 (sNum bs (sKey bs p b).2.1 (sKey bs p b).2.2).2.1 (sNum bs (sKey bs p b).2.1 (sKey bs p b).2.2).2.2).1.k == 0) = false by rw [hk]; simp; omega]
theorem more_chg {bs : List Int} (ho : Okb bs) {p : Nat} (hp : p ≤ bs.length) {b : Bool} (hr : (sChg bs p b).2.2 = false) : p < (sChg bs p b).2.1 := by
  have h1 := simb_key ho hp b
  have h2 := simb_num ho h1.at_.2 (sKey bs p b).2.2
  have h3 := simb_val ho h2.at_.2 (sNum bs (sKey bs p b).2.1 (sKey bs p b).2.2).1 (sNum bs (sKey bs p b).2.1 (sKey bs p b).2.2).2.2
  have a1 := h1.at_.1
  have a3 := h3.at_.1
  unfold sChg at hr ⊢
  simp only at hr ⊢
  by_cases h0 : (sNum bs (sKey bs p b).2.1 (sKey bs p b).2.2).1 = 0
  · rw [if_pos h0] at hr ⊢
    have := more_num ho hr
    show p < (sNum bs _ _).2.1
    omega
  · rw [if_neg h0] at hr ⊢
    have := more_num ho (h3.good hr)
    show p < (sVal bs _ _ _).2.1
    omega
/-- So many, as long as nothing is bad. -/
def sMany {α : Type} (f : Nat → Bool → α × Nat × Bool) : Nat → Nat → Bool → List α × Nat × Bool
  | 0, p, b => ([], p, b)
  | k + 1, p, b => if b then ([], p, b) else ((f p b).1 :: (sMany f k (f p b).2.1 (f p b).2.2).1, (sMany f k (f p b).2.1 (f p b).2.2).2)
theorem sMany_0 {α : Type} (f : Nat → Bool → α × Nat × Bool) (p : Nat) (b : Bool) : sMany f 0 p b = ([], p, b) := rfl
theorem sMany_bad {α : Type} (f : Nat → Bool → α × Nat × Bool) (k p : Nat) : sMany f k p true = ([], p, true) := by cases k <;> rfl
theorem sMany_yes {α : Type} (f : Nat → Bool → α × Nat × Bool) (k p : Nat) : sMany f (k + 1) p false = ((f p false).1 :: (sMany f k (f p false).2.1 (f p false).2.2).1, (sMany f k (f p false).2.1 (f p false).2.2).2) := rfl
theorem simb_many {α : Type} {bs : List Int} {f : Nat → Bool → α × Nat × Bool} {g : List Int → Option (α × List Int)} (hf : ∀ p b, p ≤ bs.length → Simb bs p b (f p b) g) : ∀ (k p : Nat) (b : Bool), p ≤ bs.length → Simb bs p b (sMany f k p b) (cMany g k)
  | 0, p, b, hp => ⟨fun hb => hb, fun hb hr => (by rw [sMany_0] at hr; simp only at hr; rw [hb] at hr; cases hr), fun _ => rfl, Nat.le_refl _, hp⟩
  | k + 1, p, b, hp => by
    cases b with
    | true =>
      rw [sMany_bad]
      exact ⟨fun _ => rfl, fun hb => by simp at hb, fun hr => by simp at hr, Nat.le_refl _, hp⟩
    | false =>
      have h1 := hf p false hp
      have h2 := simb_many hf k (f p false).2.1 (f p false).2.2 h1.at_.2
      rw [sMany_yes]
      refine ⟨fun hb => by simp at hb, fun _ hr => ?_, fun hr => ?_, Nat.le_trans h1.at_.1 h2.at_.1, h2.at_.2⟩
      · cases hd : (f p false).2.2 with
        | true => exact cMany_no (h1.bad rfl hd)
        | false => rw [cMany_yes (h1.ok hd), h2.bad hd hr]
      · have hd := h2.good hr
        rw [cMany_yes (h1.ok hd), h2.ok hr]
/-- How many there are at most. -/
theorem many_len {α : Type} {bs : List Int} {f : Nat → Bool → α × Nat × Bool} {g : List Int → Option (α × List Int)} (hf : ∀ p b, p ≤ bs.length → Simb bs p b (f p b) g) (hm : ∀ p b, p ≤ bs.length → (f p b).2.2 = false → p < (f p b).2.1) : ∀ (k p : Nat) (b : Bool), p ≤ bs.length → (sMany f k p b).1.length ≤ bs.length - p + 1
  | 0, p, b, hp => by rw [sMany_0]; simp
  | k + 1, p, b, hp => by
    cases b with
    | true => rw [sMany_bad]; simp
    | false =>
      have h1 := hf p false hp
      have h2 := many_len hf hm k (f p false).2.1 (f p false).2.2 h1.at_.2
      rw [sMany_yes, List.length_cons]
      cases hd : (f p false).2.2 with
      | true => rw [sMany_bad]; simp
      | false =>
        have := hm p false hp hd
        rw [hd] at h2
        have := h1.at_.2
        omega
end Go.Proofs.YtohgopibimgjfaaGreat

/- P17: all of it: an op, a delta; what Decode tells -/
namespace Go.Proofs.YtohgopibimgjfaaGreat
open Go.RowKit
set_option linter.unusedVariables false
set_option maxRecDepth 100000

/-- An op of each kind, as it is laid even if it is bad. -/
def sOpR (bs : List Int) (p : Nat) (b : Bool) : Opn × Nat × Bool :=
  let r := sLen bs p b
  let r2 := sNum bs r.2.1 r.2.2
  let r3 := sMany (sChg bs) r2.1 r2.2.1 r2.2.2
  (⟨1, r.1, [], [], r3.1⟩, r3.2)
def sOpI (bs : List Int) (p : Nat) (b : Bool) : Opn × Nat × Bool :=
  let r := sRun bs p b
  let r2 := sNum bs r.2.1 r.2.2
  let r3 := sMany (sAtt bs) r2.1 r2.2.1 r2.2.2
  (⟨2, 0, r.1, r3.1, []⟩, r3.2)
def sOpD (bs : List Int) (p : Nat) (b : Bool) : Opn × Nat × Bool := (⟨3, (sLen bs p b).1, [], [], []⟩, (sLen bs p b).2)
def sOpK (bs : List Int) (k p : Nat) (b : Bool) : Opn × Nat × Bool := if k = 1 then sOpR bs p b else if k = 2 then sOpI bs p b else if k = 3 then sOpD bs p b else (⟨0, 0, [], [], []⟩, p, true)
def sOp (bs : List Int) (p : Nat) (b : Bool) : Opn × Nat × Bool := sOpK bs (sNum bs p b).1 (sNum bs p b).2.1 (sNum bs p b).2.2
def sOps (bs : List Int) : List Opn × Nat × Bool := sMany (sOp bs) (sNum bs 0 false).1 (sNum bs 0 false).2.1 (sNum bs 0 false).2.2
theorem simb_list {α : Type} {bs : List Int} (ho : Okb bs) {f : Nat → Bool → α × Nat × Bool} {g : List Int → Option (α × List Int)} (hf : ∀ p b, p ≤ bs.length → Simb bs p b (f p b) g) {p : Nat} (hp : p ≤ bs.length) (b : Bool) :
    Simb bs p b (sMany f (sNum bs p b).1 (sNum bs p b).2.1 (sNum bs p b).2.2) (cList g) :=
  ((simb_num ho hp b).pair (g := fun k => cMany g k) (simb_many hf _ _ _ (simb_num ho hp b).at_.2)).map (fun z : Nat × List α => z.2)
theorem simb_opR {bs : List Int} (ho : Okb bs) {p : Nat} (hp : p ≤ bs.length) (b : Bool) : Simb bs p b (sOpR bs p b) (cOpR 1073741824) := by
  have h1 := simb_len ho hp b
  have h2 := simb_list ho (fun p b hp => simb_chg ho hp b) h1.at_.2 (sLen bs p b).2.2
  exact (h1.pair (g := fun _ => cList cChg) h2).map opR
theorem simb_opI {bs : List Int} (ho : Okb bs) {p : Nat} (hp : p ≤ bs.length) (b : Bool) : Simb bs p b (sOpI bs p b) cOpI := by
  have h1 := simb_run ho hp b
  have h2 := simb_list ho (fun p b hp => simb_att ho hp b) h1.at_.2 (sRun bs p b).2.2
  exact (h1.pair (g := fun _ => cList cAtt) h2).map opI
theorem simb_opD {bs : List Int} (ho : Okb bs) {p : Nat} (hp : p ≤ bs.length) (b : Bool) : Simb bs p b (sOpD bs p b) (cOpD 1073741824) := (simb_len ho hp b).map opD
theorem simb_opK {bs : List Int} (ho : Okb bs) (k : Nat) {p : Nat} (hp : p ≤ bs.length) (b : Bool) : Simb bs p b (sOpK bs k p b) (cKind 1073741824 k) := by
  unfold sOpK cKind
  by_cases h1 : k = 1
  · rw [if_pos h1, if_pos h1]; exact simb_opR ho hp b
  rw [if_neg h1, if_neg h1]
  by_cases h2 : k = 2
  · rw [if_pos h2, if_pos h2]; exact simb_opI ho hp b
  rw [if_neg h2, if_neg h2]
  by_cases h3 : k = 3
  · rw [if_pos h3, if_pos h3]; exact simb_opD ho hp b
  · rw [if_neg h3, if_neg h3]
    exact ⟨fun _ => rfl, fun _ _ => rfl, fun hr => by simp at hr, Nat.le_refl _, hp⟩
theorem simb_op {bs : List Int} (ho : Okb bs) {p : Nat} (hp : p ≤ bs.length) (b : Bool) : Simb bs p b (sOp bs p b) (cOp 1073741824) := by
  have h1 := simb_num ho hp b
  exact (h1.pair (g := cKind 1073741824) (simb_opK ho (sNum bs p b).1 h1.at_.2 (sNum bs p b).2.2)).map (fun z : Nat × Opn => z.2)
theorem more_op {bs : List Int} (ho : Okb bs) {p : Nat} (hp : p ≤ bs.length) {b : Bool} (hr : (sOp bs p b).2.2 = false) : p < (sOp bs p b).2.1 := by
  have h1 := simb_num ho hp b
  have h2 := simb_opK ho (sNum bs p b).1 h1.at_.2 (sNum bs p b).2.2
  have := more_num ho (h2.good hr)
  have := h2.at_.1
  show p < (sOpK bs _ _ _).2.1
  omega
theorem simb_ops {bs : List Int} (ho : Okb bs) : Simb bs 0 false (sOps bs) (cOps 1073741824) := simb_list ho (fun p b hp => simb_op ho hp b) (Nat.zero_le _) false
/-- All bytes. -/
theorem all_ops {bs : List Int} (ho : Okb bs) : cAll 1073741824 bs = if (sOps bs).2.2 = true ∨ (sOps bs).2.1 ≠ bs.length then none else some (sOps bs).1 := by
  have h := simb_ops ho
  unfold cAll
  cases hd : (sOps bs).2.2 with
  | true =>
    have hb := h.bad rfl hd
    rw [List.drop_zero] at hb
    rw [hb, if_pos (.inl rfl)]
  | false =>
    have hk := h.ok hd
    rw [List.drop_zero] at hk
    rw [hk]
    have hle := h.at_.2
    by_cases he : (sOps bs).2.1 = bs.length
    · rw [if_neg (by simp [he])]
      simp only
      rw [if_pos (by rw [he]; simp)]
    · rw [if_pos (.inr he)]
      simp only
      rw [if_neg]
      intro hh
      have := congrArg List.length hh
      rw [List.length_drop] at this
      simp at this
      omega
/-- What the parts of an op that is read weigh, whatever it is. -/
theorem txt_len {bs : List Int} (ho : Okb bs) {p : Nat} (hp : p ≤ bs.length) (b : Bool) : (sTxt bs p b).1.length ≤ bs.length ∧ Okb (sTxt bs p b).1 := by
  cases h : dec64 (bs.drop p) with
  | none =>
    obtain ⟨e, -⟩ := txt_none b hp h
    rw [e]; exact ⟨Nat.zero_le _, okb_nil⟩
  | some a =>
    obtain ⟨n, s⟩ := a
    have hs := (dec64_take _ (ho.drop p) n s h).2.2.2.1
    rw [List.length_drop] at hs
    by_cases hn : n ≤ bs.length - (p + s)
    · obtain ⟨e, -⟩ := txt_yes b hp h (by omega) hn
      rw [e]
      refine ⟨?_, (ho.drop _).take _⟩
      show ((bs.drop (p + s)).take n).length ≤ _
      rw [List.length_take, List.length_drop]; omega
    · obtain ⟨e, -⟩ := txt_less b hp h (by omega) hn
      rw [e]; exact ⟨Nat.zero_le _, okb_nil⟩
theorem chg_len {bs : List Int} (ho : Okb bs) (k p : Nat) (hp : p ≤ bs.length) (b : Bool) : (sMany (sChg bs) k p b).1.length ≤ bs.length + 1 := by
  have := many_len (fun p b hp => simb_chg ho hp b) (fun p b hp hr => more_chg ho hp hr) k p b hp
  omega
theorem att_len {bs : List Int} (ho : Okb bs) (k p : Nat) (hp : p ≤ bs.length) (b : Bool) : (sMany (sAtt bs) k p b).1.length ≤ bs.length + 1 := by
  have := many_len (fun p b hp => simb_att ho hp b) (fun p b hp hr => more_att ho hp hr) k p b hp
  omega
theorem ops_len {bs : List Int} (ho : Okb bs) (k p : Nat) (hp : p ≤ bs.length) (b : Bool) : (sMany (sOp bs) k p b).1.length ≤ bs.length + 1 := by
  have := many_len (fun p b hp => simb_op ho hp b) (fun p b hp hr => more_op ho hp hr) k p b hp
  omega
end Go.Proofs.YtohgopibimgjfaaGreat

/- P18: what Decode holds while it reads -/
namespace Go.Proofs.YtohgopibimgjfaaGreat
open Go.RowKit
set_option linter.unusedVariables false
set_option maxRecDepth 100000

/-- The ops so far. -/
structure DX (w0 : World) (bm : Nat) (va : Option Addr) (c : Nat) (bs : List Int) (q : Nat) (d : Bool) (vx : Value) (xs : List Oz) (W : World) : Prop where
  mo : Mo bm va c bs q d W
  x : Oown (fun g => bm < g) W vx xs
  bel : Below w0.heap.size w0 W
  hm : w0.heap.size ≤ bm
  nv : ∀ S : Nat → Prop, (∀ k, S k → w0.heap.size ≤ k) → Na S va bs.length
/-- And an op in its variable. -/
structure DO (w0 : World) (bm bo : Nat) (va : Option Addr) (c : Nat) (bs : List Int) (q : Nat) (d : Bool) (vx : Value) (xs : List Oz) (z : Oz) (W : World) : Prop where
  mo : Mo bm va c bs q d W
  x : Oown (fun g => bm < g ∧ g < bo) W vx xs
  box : Cb bo 56 z.cs W
  own : OpOwn (fun g => bo < g) W z
  bel : Below w0.heap.size w0 W
  lt : bm < bo
  hm : w0.heap.size ≤ bm
  nv : ∀ S : Nat → Prop, (∀ k, S k → w0.heap.size ≤ k) → Na S va bs.length
def zO : Oz := ⟨0, 0, none, 0, [], none, 0, [], none, 0, []⟩
theorem own_zO (F : Nat → Prop) (W : World) : OpOwn F W zO := ⟨World.ownsRow_nil _ _ _ _, World.ownsRow_nil _ _ _ _, World.ownsRow_nil _ _ _ _, fun g hg => by simp [zO, Value.ownBlock] at hg, fun g hg => by simp [zO, Value.ownBlock] at hg, fun g hg => by simp [zO, Value.ownBlock] at hg⟩
section
variable {w0 W W2 : World} {bm bo c q q2 : Nat} {va : Option Addr} {bs : List Int} {d d2 : Bool} {vx : Value} {xs : List Oz} {z : Oz}
theorem DX.call (h : DX w0 bm va c bs q d vx xs W) (hm : Mo bm va c bs q2 d2 W2) (ho : Off (fun k => k = bm) W W2) : DX w0 bm va c bs q2 d2 vx xs W2 :=
  ⟨hm, h.x.off ho (fun k hk _ hh => by omega), h.bel.trans (ho.below (fun k hk => by have := h.hm; omega) h.bel.size), h.hm, h.nv⟩
theorem DX.op (h : DX w0 bm va c bs q d vx xs W) : DO w0 bm W.heap.size va c bs q d vx xs zO (W.alloc (.cells zO.cs 56)) := by
  have hb := kbelow_one W (.cells zO.cs 56)
  exact ⟨h.mo.below hb, (Oown.tight h.x).below hb, cb_new _ _ _, own_zO _ _, below_add h.bel hb h.bel.size, h.mo.cell.lt, h.hm, h.nv⟩
theorem DO.at (h : DO w0 bm bo va c bs q d vx xs z W) : OAt bo 0 z W := ⟨h.box.cell 0, h.box.cell 1, h.box.cell 2, h.box.cell 3, h.box.cell 4⟩
theorem DO.frz (h : DO w0 bm bo va c bs q d vx xs z W) (o : Nat) : W.frozen? ⟨bo, o, none⟩ = false := h.box.frozen o
theorem DO.call (h : DO w0 bm bo va c bs q d vx xs z W) (hm : Mo bm va c bs q2 d2 W2) (ho : Off (fun k => k = bm) W W2) : DO w0 bm bo va c bs q2 d2 vx xs z W2 := by
  have hl := h.lt
  exact ⟨hm, h.x.off ho (fun k hk _ hh => by omega), h.box.off ho (by omega), h.own.off ho (fun k hk _ hh => by omega), h.bel.trans (ho.below (fun k hk => by have := h.hm; omega) h.bel.size), hl, h.hm, h.nv⟩
theorem DO.below (h : DO w0 bm bo va c bs q d vx xs z W) (hb : Below W.heap.size W W2) : DO w0 bm bo va c bs q d vx xs z W2 :=
  ⟨h.mo.below hb, h.x.below hb, h.box.below hb, h.own.off (S := fun _ => False) (Off.of_below hb) (fun _ _ _ h => h), below_add h.bel hb h.bel.size, h.lt, h.hm, h.nv⟩
/-- A field is written. -/
theorem DO.set {z2 : Oz} {j : Nat} {u : Value} (h : DO w0 bm bo va c bs q d vx xs z W) (hcs : z.cs.setIfInBounds j u = z2.cs) (ho : OpOwn (fun g => bo < g) W z2) : DO w0 bm bo va c bs q d vx xs z2 (W.setCell ⟨bo, j, none⟩ u) := by
  have hl := h.lt
  have hm := h.hm
  have hf := mo_off (bm := bo) (W := W) u j
  refine ⟨h.mo.off hf (by omega) (h.nv _ (fun k hk => by omega)), h.x.off hf (fun k hk _ hh => by omega), ?_, ho.off hf (fun k hk _ hh => by omega), h.bel.trans (hf.below (fun k hk => by omega) h.bel.size), hl, hm, h.nv⟩
  have := heap_set (o := j) u h.box
  rw [hcs] at this
  exact this
theorem DO.setK (h : DO w0 bm bo va c bs q d vx xs z W) (k : Int) : DO w0 bm bo va c bs q d vx xs { z with k := k } (W.setCell ⟨bo, 0, none⟩ (.int .u8 k)) :=
  h.set rfl ⟨h.own.r, h.own.s, h.own.p, h.own.fr, h.own.fs, h.own.fp⟩
theorem DO.setN (h : DO w0 bm bo va c bs q d vx xs z W) (n : Int) : DO w0 bm bo va c bs q d vx xs { z with n := n } (W.setCell ⟨bo, 1, none⟩ (.int .i64 n)) :=
  h.set rfl ⟨h.own.r, h.own.s, h.own.p, h.own.fr, h.own.fs, h.own.fp⟩
theorem DO.setR {ra : Option Addr} {rc B : Nat} {rs : List Int} (h : DO w0 bm bo va c bs q d vx xs z W) (ho : W.ownsRow B 21 1 (.slice ra rs.length rc) rs.length (rs.map (Value.int .i32))) (hB : bo < B) : DO w0 bm bo va c bs q d vx xs { z with ra := ra, rc := rc, rs := rs } (W.setCell ⟨bo, 2, none⟩ (.slice ra rs.length rc)) := by
  refine h.set rfl ⟨?_, h.own.s, h.own.p, fun g hg => ?_, h.own.fs, h.own.fp⟩
  · refine ⟨ho.1, ?_⟩
    rcases ho.2 with q | ⟨g, cap, cur, e, hg, r⟩
    · exact .inl q
    · exact .inr ⟨g, cap, cur, e, Nat.zero_le _, r⟩
  · have := (ho.lt g hg).1; omega
/-- The changes grow. -/
theorem DO.appP {g cap : Nat} {cc : Chg} (h : DO w0 bm bo va c bs q d vx xs z W) (ho : W2.ownsRow 0 63 6 (.slice (some ⟨g, 0, none⟩) (z.pt.length + 1) cap) (z.pt.length + 1) (fl chC z.pt ++ fl chC [cc])) (hg : W.grownBy W2 z.pv.ownBlock) (hl : z.pv.ownBlock = some g ∨ W.heap.size ≤ g) :
    DO w0 bm bo va c bs q d vx xs { z with pa := some ⟨g, 0, none⟩, pc := cap, pt := z.pt ++ [cc] } (W2.setCell ⟨bo, 4, none⟩ (.slice (some ⟨g, 0, none⟩) (z.pt.length + 1) cap)) := by
  have hlt := h.lt
  have hm := h.hm
  have hbo := h.box.lt
  have hf : Off (fun k => z.pv.ownBlock = some k) W W2 := Off.of_grown hg (fun k hk => hk)
  have hS : ∀ k, z.pv.ownBlock = some k → bo < k := h.own.fp
  have h2 : DO w0 bm bo va c bs q d vx xs { z with pa := none, pc := 0, pt := [] } (W2.setCell ⟨bo, 4, none⟩ (.slice none 0 0)) → True := fun _ => trivial
  have hb2 : Cb bo 56 z.cs W2 := h.box.off hf (fun hh => by have := hS _ hh; omega)
  have hr : W2.ownsRow 0 21 1 z.rv z.rs.length (z.rs.map (Value.int .i32)) := owns_kept h.own.r (fun k hk => hf.block k (own_lt7 h.own.r hk) (tag_ne h.own.r h.own.p (by decide) hk))
  have hs : W2.ownsRow 0 61 5 z.sv z.st.length (fl attC z.st) := owns_kept h.own.s (fun k hk => hf.block k (own_lt7 h.own.s hk) (tag_ne h.own.s h.own.p (by decide) hk))
  have hmo : Mo bm va c bs q d W2 := h.mo.off hf (fun hh => by have := hS _ hh; omega) (h.nv _ (fun k hk => by have := hS _ hk; omega))
  have hx : Oown (fun g => bm < g ∧ g < bo) W2 vx xs := h.x.off hf (fun k hk _ hh => by have := hS _ hh; omega)
  have hbel : Below w0.heap.size w0 W2 := h.bel.trans (hf.below (fun k hk => by have := hS _ hk; omega) h.bel.size)
  have hn := mo_off (bm := bo) (W := W2) (.slice (some ⟨g, 0, none⟩) (z.pt.length + 1) cap) 4
  have ho2 : OpOwn (fun g => bo < g) W2 { z with pa := some ⟨g, 0, none⟩, pc := cap, pt := z.pt ++ [cc] } := by
    refine ⟨hr, hs, ?_, h.own.fr, h.own.fs, fun k hk => ?_⟩
    · have e : (z.pt ++ [cc]).length = z.pt.length + 1 := by simp
      show W2.ownsRow 0 _ 6 (.slice (some ⟨g, 0, none⟩) (z.pt ++ [cc]).length cap) (z.pt ++ [cc]).length (fl chC (z.pt ++ [cc]))
      rw [e, fl_app]; exact ho
    · have e : g = k := by simpa [Oz.pv, Value.ownBlock] using hk
      rcases hl with q | q
      · rw [← e]; exact hS _ q
      · omega
  refine ⟨hmo.off hn (by omega) (h.nv _ (fun k hk => by omega)), hx.off hn (fun k hk _ hh => by omega), ?_, ho2.off hn (fun k hk _ hh => by omega), hbel.trans (hn.below (fun k hk => by omega) hbel.size), hlt, hm, h.nv⟩
  have := heap_set (o := 4) (.slice (some ⟨g, 0, none⟩) (z.pt.length + 1) cap) hb2
  have e : z.cs.setIfInBounds 4 (.slice (some ⟨g, 0, none⟩) (z.pt.length + 1) cap) = Oz.cs { z with pa := some ⟨g, 0, none⟩, pc := cap, pt := z.pt ++ [cc] } := by
    unfold Oz.cs opcs
    simp
  rw [e] at this
  exact this
/-- The set grows. -/
theorem DO.appS {g cap : Nat} {cc : Att} (h : DO w0 bm bo va c bs q d vx xs z W) (ho : W2.ownsRow 0 61 5 (.slice (some ⟨g, 0, none⟩) (z.st.length + 1) cap) (z.st.length + 1) (fl attC z.st ++ fl attC [cc])) (hg : W.grownBy W2 z.sv.ownBlock) (hl : z.sv.ownBlock = some g ∨ W.heap.size ≤ g) :
    DO w0 bm bo va c bs q d vx xs { z with sa := some ⟨g, 0, none⟩, sc := cap, st := z.st ++ [cc] } (W2.setCell ⟨bo, 3, none⟩ (.slice (some ⟨g, 0, none⟩) (z.st.length + 1) cap)) := by
  have hlt := h.lt
  have hm := h.hm
  have hbo := h.box.lt
  have hf : Off (fun k => z.sv.ownBlock = some k) W W2 := Off.of_grown hg (fun k hk => hk)
  have hS : ∀ k, z.sv.ownBlock = some k → bo < k := h.own.fs
  have hb2 : Cb bo 56 z.cs W2 := h.box.off hf (fun hh => by have := hS _ hh; omega)
  have hr : W2.ownsRow 0 21 1 z.rv z.rs.length (z.rs.map (Value.int .i32)) := owns_kept h.own.r (fun k hk => hf.block k (own_lt7 h.own.r hk) (tag_ne h.own.r h.own.s (by decide) hk))
  have hp : W2.ownsRow 0 63 6 z.pv z.pt.length (fl chC z.pt) := owns_kept h.own.p (fun k hk => hf.block k (own_lt7 h.own.p hk) (tag_ne h.own.p h.own.s (by decide) hk))
  have hmo : Mo bm va c bs q d W2 := h.mo.off hf (fun hh => by have := hS _ hh; omega) (h.nv _ (fun k hk => by have := hS _ hk; omega))
  have hx : Oown (fun g => bm < g ∧ g < bo) W2 vx xs := h.x.off hf (fun k hk _ hh => by have := hS _ hh; omega)
  have hbel : Below w0.heap.size w0 W2 := h.bel.trans (hf.below (fun k hk => by have := hS _ hk; omega) h.bel.size)
  have hn := mo_off (bm := bo) (W := W2) (.slice (some ⟨g, 0, none⟩) (z.st.length + 1) cap) 3
  have ho2 : OpOwn (fun g => bo < g) W2 { z with sa := some ⟨g, 0, none⟩, sc := cap, st := z.st ++ [cc] } := by
    refine ⟨hr, ?_, hp, h.own.fr, fun k hk => ?_, h.own.fp⟩
    · have e : (z.st ++ [cc]).length = z.st.length + 1 := by simp
      show W2.ownsRow 0 _ 5 (.slice (some ⟨g, 0, none⟩) (z.st ++ [cc]).length cap) (z.st ++ [cc]).length (fl attC (z.st ++ [cc]))
      rw [e, fl_app]; exact ho
    · have e : g = k := by simpa [Oz.sv, Value.ownBlock] using hk
      rcases hl with q | q
      · rw [← e]; exact hS _ q
      · omega
  refine ⟨hmo.off hn (by omega) (h.nv _ (fun k hk => by omega)), hx.off hn (fun k hk _ hh => by omega), ?_, ho2.off hn (fun k hk _ hh => by omega), hbel.trans (hn.below (fun k hk => by omega) hbel.size), hlt, hm, h.nv⟩
  have := heap_set (o := 3) (.slice (some ⟨g, 0, none⟩) (z.st.length + 1) cap) hb2
  have e : z.cs.setIfInBounds 3 (.slice (some ⟨g, 0, none⟩) (z.st.length + 1) cap) = Oz.cs { z with sa := some ⟨g, 0, none⟩, sc := cap, st := z.st ++ [cc] } := by
    unfold Oz.cs opcs
    simp
  rw [e] at this
  exact this
/-- The op is put behind the ops. -/
theorem DO.push {a : Option Addr} {n cx g cap : Nat} (h : DO w0 bm bo va c bs q d (.slice a n cx) xs z W) (hn : n = xs.length) (ho : W2.ownsRow 0 56 5 (.slice (some ⟨g, 0, none⟩) (n + 1) cap) (n + 1) (fl ozC xs ++ fl ozC [z])) (hg : W.grownBy W2 (Value.slice a n cx).ownBlock) (hl : (Value.slice a n cx).ownBlock = some g ∨ W.heap.size ≤ g) :
    DX w0 bm va c bs q d (.slice (some ⟨g, 0, none⟩) (n + 1) cap) (xs ++ [z]) W2 := by
  have hlt := h.lt
  have hm := h.hm
  have hbo := h.box.lt
  have hf : Off (fun k => (Value.slice a n cx).ownBlock = some k) W W2 := Off.of_grown hg (fun k hk => hk)
  have hS : ∀ k, (Value.slice a n cx).ownBlock = some k → bm < k ∧ k < bo := h.x.f
  subst hn
  refine ⟨h.mo.off hf (fun hh => by have := hS _ hh; omega) (h.nv _ (fun k hk => by have := hS _ hk; omega)), ⟨?_, fun k hk => ?_, fun y hy => ?_, ?_⟩, h.bel.trans (hf.below (fun k hk => by have := hS _ hk; omega) h.bel.size), hm, h.nv⟩
  · have e : (xs ++ [z]).length = xs.length + 1 := by simp
    rw [e, fl_app]; exact ho
  · have e : g = k := by simpa [Value.ownBlock] using hk
    rcases hl with q | q
    · have := hS _ q; omega
    · omega
  · rcases List.mem_append.1 hy with hy | hy
    · have hyo := h.x.own y hy
      have : OpOwn (fun g => bm < g ∧ g < bo) W2 y := hyo.kept (fun k hk => hf.block k (own_lt7 hyo.r hk) (tag_ne hyo.r h.x.row (by decide) hk)) (fun k hk => hf.block k (own_lt7 hyo.s hk) (tag_ne hyo.s h.x.row (by decide) hk)) (fun k hk => hf.block k (own_lt7 hyo.p hk) (tag_ne hyo.p h.x.row (by decide) hk))
      exact this.mono (fun g hg => hg.1)
    · obtain rfl := List.mem_singleton.1 hy
      have : OpOwn (fun g => bo < g) W2 y := h.own.off hf (fun k hk _ hh => by have := hS _ hh; omega)
      exact this.mono (fun g hg => by omega)
  · rw [List.pairwise_append]
    refine ⟨h.x.ap, List.pairwise_singleton _ _, fun y hy u hu k hk hk2 => ?_⟩
    obtain rfl := List.mem_singleton.1 hu
    have h1 := (h.x.own y hy).fr k hk
    have h2 := h.own.fr k hk2
    omega
end
end Go.Proofs.YtohgopibimgjfaaGreat

/- P19: Decode's inner variables; how its lists go on -/
namespace Go.Proofs.YtohgopibimgjfaaGreat
open Go.RowKit
set_option linter.unusedVariables false
set_option maxRecDepth 100000

theorem ints_na {w : World} {va : Option Addr} {c : Nat} {bs : List Int} (h : Ints .u8 w (.slice va bs.length c) bs) (S : Nat → Prop) (hS : ∀ k, S k → w.heap.size ≤ k) : Na S va bs.length := fun h0 x hx hh => by
  rcases h with ⟨a, cap, hv, hb, -⟩ | ⟨b', off, cap, hv, -, -, -, hc⟩
  · rw [hb] at h0; simp at h0
  · injection hv with e1 e2 e3
    rw [hx] at e1
    injection e1 with e1
    subst e1
    have h1 := World.block_lt_of_cell? w _ (hc 0 h0)
    have h2 := hS _ hh
    simp only at h1 h2
    omega
theorem dx_start {w : World} {va : Option Addr} {c : Nat} {bs : List Int} (h : Ints .u8 w (.slice va bs.length c) bs) (ho : Okb bs) (hl : bs.length ≤ 50000000) : DX w w.heap.size va c bs 0 false (.slice none 0 0) [] (w.alloc (.cells (moC va bs.length c 0 false) 80)) := by
  have hb := kbelow_one w (.cells (moC va bs.length c 0 false) 80)
  exact ⟨⟨cb_new _ _ _, h.below hb, ints_na h _ (fun k hk => by omega), ho, hl, Nat.zero_le _⟩, Oown.nil _ _, hb, Nat.le_refl _, fun S hS => ints_na h S hS⟩
/-- A box beside an op: a change, an attribute. -/
structure DC (w0 : World) (bm bo : Nat) (va : Option Addr) (c : Nat) (bs : List Int) (q : Nat) (d : Bool) (vx : Value) (xs : List Oz) (z : Oz) (bc : Nat) (t : TypeId) (cs : Array Value) (W : World) : Prop where
  o : DO w0 bm bo va c bs q d vx xs z W
  z : OpOwn (fun g => bo < g ∧ g < bc) W z
  cb : Cb bc t cs W
  lt : bo < bc
section
variable {w0 W W2 : World} {bm bo bc c q q2 : Nat} {va : Option Addr} {bs : List Int} {d d2 : Bool} {vx : Value} {xs : List Oz} {z : Oz} {t : TypeId} {cs : Array Value}
theorem OpOwn.tight {F : Nat → Prop} (h : OpOwn F W z) : OpOwn (fun k => F k ∧ k < W.heap.size) W z :=
  ⟨h.r, h.s, h.p, fun g hg => ⟨h.fr g hg, own_lt7 h.r hg⟩, fun g hg => ⟨h.fs g hg, own_lt7 h.s hg⟩, fun g hg => ⟨h.fp g hg, own_lt7 h.p hg⟩⟩
theorem DO.bx (h : DO w0 bm bo va c bs q d vx xs z W) (t : TypeId) (cs : Array Value) : DC w0 bm bo va c bs q d vx xs z W.heap.size t cs (W.alloc (.cells cs t)) := by
  have hb := kbelow_one W (.cells cs t)
  exact ⟨h.below hb, (OpOwn.tight h.own).off (S := fun _ => False) (Off.of_below hb) (fun _ _ _ h => h), cb_new _ _ _, h.box.lt⟩
theorem DC.call (h : DC w0 bm bo va c bs q d vx xs z bc t cs W) (hm : Mo bm va c bs q2 d2 W2) (ho : Off (fun k => k = bm) W W2) : DC w0 bm bo va c bs q2 d2 vx xs z bc t cs W2 := by
  have h1 := h.o.lt
  have h2 := h.lt
  exact ⟨h.o.call hm ho, h.z.off ho (fun k hk _ hh => by omega), h.cb.off ho (by omega), h2⟩
theorem DC.below (h : DC w0 bm bo va c bs q d vx xs z bc t cs W) (hb : Below W.heap.size W W2) : DC w0 bm bo va c bs q d vx xs z bc t cs W2 :=
  ⟨h.o.below hb, h.z.off (S := fun _ => False) (Off.of_below hb) (fun _ _ _ h => h), h.cb.below hb, h.lt⟩
theorem DC.set (h : DC w0 bm bo va c bs q d vx xs z bc t cs W) (j : Nat) (u : Value) : DC w0 bm bo va c bs q d vx xs z bc t (cs.setIfInBounds j u) (W.setCell ⟨bc, j, none⟩ u) := by
  have h1 := h.o.lt
  have h2 := h.lt
  have h3 := h.o.hm
  have hf := mo_off (bm := bc) (W := W) u j
  have hz : OpOwn (fun g => bo < g ∧ g < bc) (W.setCell ⟨bc, j, none⟩ u) z := h.z.off hf (fun k hk _ hh => by omega)
  exact ⟨⟨h.o.mo.off hf (by omega) (h.o.nv _ (fun k hk => by omega)), h.o.x.off hf (fun k hk _ hh => by omega), h.o.box.off hf (by omega), hz.mono (fun g hg => hg.1), h.o.bel.trans (hf.below (fun k hk => by omega) h.o.bel.size), h1, h3, h.o.nv⟩, hz, heap_set _ h.cb, h2⟩
end
/-- How a list goes on: one more, or no more. -/
theorem goes {α : Type} {f : Nat → Bool → α × Nat × Bool} {k q : Nat} {P pt : List α} {R : Nat × Bool} (h1 : pt ++ (sMany f (k + 1) q false).1 = P) (h2 : (sMany f (k + 1) q false).2 = R) : (pt ++ [(f q false).1]) ++ (sMany f k (f q false).2.1 (f q false).2.2).1 = P ∧ (sMany f k (f q false).2.1 (f q false).2.2).2 = R := by
  rw [sMany_yes] at h1 h2
  exact ⟨by rw [List.append_assoc]; exact h1, h2⟩
theorem ends {α : Type} {f : Nat → Bool → α × Nat × Bool} {k q : Nat} {d : Bool} {P pt : List α} {R : Nat × Bool} (h : k = 0 ∨ d = true) (h1 : pt ++ (sMany f k q d).1 = P) (h2 : (sMany f k q d).2 = R) : pt = P ∧ (q, d) = R := by
  rcases h with rfl | rfl
  · rw [sMany_0] at h1 h2
    exact ⟨by rw [← h1, List.append_nil], h2⟩
  · rw [sMany_bad] at h1 h2
    exact ⟨by rw [← h1, List.append_nil], h2⟩
end Go.Proofs.YtohgopibimgjfaaGreat

/- P21: what was read whole: its numbers, its weight -/
namespace Go.Proofs.YtohgopibimgjfaaGreat
open Go.RowKit
set_option linter.unusedVariables false
set_option maxRecDepth 100000

theorem eVl_ge {v : Vl} (h : VC v) : 2 + v.s.size ≤ (eVl v).length := by
  unfold VC VK at h
  have h1 := form_pos v.k.toNat
  unfold eVl eVal
  rw [List.length_append]
  by_cases h12 : v.k.toNat = 1 ∨ v.k.toNat = 2
  · rw [if_pos h12]
    rw [if_pos h12] at h
    have h2 := form_pos (zig v.n)
    have h3 : v.s.size = 0 := by rw [h.2.2.2.2]; rfl
    omega
  · rw [if_neg h12]
    rw [if_neg h12] at h
    by_cases h3 : v.k.toNat = 3
    · rw [if_pos h3]
      rw [if_pos h3] at h
      have h2 := form_pos v.f.toNat
      have h4 : v.s.size = 0 := by rw [h.2.2.2.2]; rfl
      omega
    · rw [if_neg h3]
      have h2 := form_pos v.s.size
      rw [List.length_append, nu_len]
      omega
theorem eAtt_ge {a : Att} (h : AK a) : 1 + a.s.size ≤ (eAtt a).length := by
  have h1 := eVl_ge h.2
  have h2 := form_pos a.key.toNat
  unfold eAtt
  rw [List.length_append]
  have : (vlA a).s.size = a.s.size := rfl
  omega
theorem eChg_ge {c : Chg} (h : GK c) : 1 + c.s.size ≤ (eChg c).length := by
  have h2 := form_pos c.key.toNat
  obtain ⟨-, h⟩ := h
  have hs : (vlC c).s.size = c.s.size := rfl
  cases hg : c.g with
  | true =>
    rw [hg, if_pos rfl] at h
    rw [eChg_g h, List.length_append]
    have : c.s.size = 0 := by rw [← hs, h]; rfl
    simp only [List.length_cons, List.length_nil]
    omega
  | false =>
    rw [hg, if_neg (by simp)] at h
    have hk : 1 ≤ c.k := by
      have h3 := h.1
      have : (vlC c).k.toNat = c.k.toNat := rfl
      omega
    have h1 := eVl_ge h
    rw [eChg_v hk, List.length_append]
    omega
theorem flat_ge {α : Type} {e : α → List Int} {f : α → Nat} {l : List α} (h : ∀ x ∈ l, f x ≤ (e x).length) : (l.map f).sum ≤ (l.flatMap e).length := by
  induction l with
  | nil => exact Nat.le_refl _
  | cons x r ih =>
    rw [List.flatMap_cons, List.length_append, List.map_cons, List.sum_cons]
    have h1 := h x (List.mem_cons_self ..)
    have h2 := ih (fun y hy => h y (List.mem_cons_of_mem _ hy))
    omega
theorem utf_ge (rs : List Int) : rs.length ≤ (utfZ rs).length := by
  have h1 := encs_len rs
  rw [← bl_utfZ, bl_len] at h1
  exact h1
theorem ww_enc {M : Nat} {o : Opn} (h : OK M o) : ww o ≤ (eOp o).length := by
  have hk := h.k
  have h0 := form_pos o.k.toNat
  unfold OK KK at h
  unfold ww
  rcases (show o.k = 1 ∨ o.k = 2 ∨ o.k = 3 by omega) with k | k | k
  · rw [k, if_pos (by rfl)] at h
    obtain ⟨-, -, hr, hs, h5, h6⟩ := h
    rw [eOp_1 k, hr, hs]
    have h3 : wwC o.pt ≤ (o.pt.flatMap eChg).length := flat_ge (fun c hc => eChg_ge (h6 c hc))
    have h4 : wwA [] = 0 := rfl
    simp only [List.length_append, List.length_nil]
    omega
  · rw [k, if_neg (by decide), if_pos (by rfl)] at h
    obtain ⟨-, -, hr, hp, h5, h6⟩ := h
    rw [eOp_2 k, hp]
    have h3 : wwA o.st ≤ (o.st.flatMap eAtt).length := flat_ge (fun a ha => eAtt_ge (h6 a ha))
    have h4 : wwC [] = 0 := rfl
    have h7 := utf_ge o.rs
    simp only [List.length_append]
    omega
  · rw [k, if_neg (by decide), if_neg (by decide), if_pos (by rfl)] at h
    obtain ⟨-, -, hr, hs, hp⟩ := h
    rw [eOp_3 k, hr, hs, hp]
    have h4 : wwC [] = 0 := rfl
    have h5 : wwA [] = 0 := rfl
    simp only [List.length_append, List.length_nil]
    omega
theorem wws_enc {M : Nat} {xs : List Opn} (h : XK M xs) : wws xs ≤ (encX xs).length := by
  have h3 : wws xs ≤ (xs.flatMap eOp).length := flat_ge (fun o ho => ww_enc (h.2 o ho))
  unfold encX
  rw [List.length_append]
  omega
theorem tot_wws (zs : List Oz) : totO zs ≤ wws (zs.map Oz.o) := by
  have hA : ∀ st : List Att, wwA st = totA st := fun st => by
    induction st with
    | nil => rfl
    | cons x r ih =>
      have e : wwA (x :: r) = (1 + x.s.size) + wwA r := by simp [wwA]
      have e2 : totA (x :: r) = 1 + x.s.size + totA r := by simp [totA, sizeA]; omega
      rw [e, e2, ih]
  have hC : ∀ pt : List Chg, wwC pt = totC pt := fun pt => by
    induction pt with
    | nil => rfl
    | cons x r ih =>
      have e : wwC (x :: r) = (1 + x.s.size) + wwC r := by simp [wwC]
      have e2 : totC (x :: r) = 1 + x.s.size + totC r := by simp [totC, sizeC]; omega
      rw [e, e2, ih]
  induction zs with
  | nil => exact Nat.le_refl _
  | cons z r ih =>
    rw [List.map_cons, wws_cons]
    have e : totO (z :: r) = szO z + totO r := by simp [totO]
    have e2 : ww z.o = szO z := by
      unfold ww szO
      rw [hA, hC]; rfl
    omega
theorem wf64 {x : Int} (h : -9223372036854775808 ≤ x ∧ x ≤ 9223372036854775807) : (Lit.int .i64 x).wf = true := by
  simp only [Lit.wf, decide_eq_true_eq, Bool.and_eq_true]
  simp only [IntKind.min, IntKind.max, IntKind.signed, IntKind.bits]
  simp
  omega
theorem wfu8 {x : Int} (h : 0 ≤ x ∧ x < 256) : (Lit.int .u8 x).wf = true := by
  simp only [Lit.wf, decide_eq_true_eq, Bool.and_eq_true]
  simp only [IntKind.min, IntKind.max, IntKind.signed, IntKind.bits]
  simp
  omega
theorem wfu64 {x : Int} (h : 0 ≤ x ∧ x < 18446744073709551616) : (Lit.int .u64 x).wf = true := by
  simp only [Lit.wf, decide_eq_true_eq, Bool.and_eq_true]
  simp only [IntKind.min, IntKind.max, IntKind.signed, IntKind.bits]
  simp
  omega
theorem wf32 {x : Int} (h : 0 ≤ x ∧ x ≤ 1114111) : (Lit.int .i32 x).wf = true := by
  simp only [Lit.wf, decide_eq_true_eq, Bool.and_eq_true]
  simp only [IntKind.min, IntKind.max, IntKind.signed, IntKind.bits]
  simp
  omega
theorem vc_rng {v : Vl} (h : VC v) : (0 ≤ v.k ∧ v.k < 256) ∧ (-9223372036854775808 ≤ v.n ∧ v.n ≤ 9223372036854775807) ∧ (0 ≤ v.f ∧ v.f < 18446744073709551616) := by
  unfold VC VK at h
  obtain ⟨h1, h2, h3⟩ := h
  refine ⟨by omega, ?_⟩
  by_cases h12 : v.k.toNat = 1 ∨ v.k.toNat = 2
  · rw [if_pos h12] at h3; omega
  · rw [if_neg h12] at h3
    by_cases h4 : v.k.toNat = 3
    · rw [if_pos h4] at h3; omega
    · rw [if_neg h4] at h3; omega
theorem attw_of {a : Att} (h : AK a) (hs : a.s.size ≤ 50000000) : AttW a := by
  obtain ⟨h1, h2, h3⟩ := vc_rng h.2
  have hk := h.1
  exact ⟨wf64 (by omega), wfu8 h1, wf64 h2, wfu64 h3, by unfold maxLen; omega⟩
theorem chgw_of {c : Chg} (h : GK c) (hs : c.s.size ≤ 50000000) : ChgW c := by
  obtain ⟨hk, h⟩ := h
  cases hg : c.g with
  | true =>
    rw [hg, if_pos rfl] at h
    have e1 : c.k = 0 := congrArg Vl.k h
    have e2 : c.n = 0 := congrArg Vl.n h
    have e3 : c.f = 0 := congrArg Vl.f h
    exact ⟨wf64 (by omega), wfu8 (by omega), wf64 (by omega), wfu64 (by omega), by unfold maxLen; omega⟩
  | false =>
    rw [hg, if_neg (by simp)] at h
    obtain ⟨h1, h2, h3⟩ := vc_rng h
    exact ⟨wf64 (by omega), wfu8 h1, wf64 h2, wfu64 h3, by unfold maxLen; omega⟩
/-- A delta that was read whole. -/
theorem read_in {zs : List Oz} {bs : List Int} (h : XK 1073741824 (zs.map Oz.o)) (he : bs = encX (zs.map Oz.o)) (hl : bs.length ≤ 50000000) : (∀ z ∈ zs, OpW z) ∧ totO zs ≤ 50000000 := by
  have h1 := wws_enc h
  rw [← he] at h1
  have h2 := tot_wws zs
  refine ⟨fun z hz => ?_, by omega⟩
  have hm : z.o ∈ zs.map Oz.o := List.mem_map_of_mem hz
  have ho := h.2 _ hm
  have hw := (wws_len (zs.map Oz.o)).2 _ hm
  unfold ww at hw
  have hA : ∀ a ∈ z.st, a.s.size ≤ 50000000 := fun a ha => by
    have : 1 + a.s.size ≤ wwA z.o.st := wwA_mem ha
    omega
  have hC : ∀ c ∈ z.pt, c.s.size ≤ 50000000 := fun c hc => by
    have : 1 + c.s.size ≤ wwC z.o.pt := wwC_mem hc
    omega
  have hk := ho.k
  unfold OK KK at ho
  have ek : z.o.k = z.k := rfl
  have en : z.o.n = z.n := rfl
  have er : z.o.rs = z.rs := rfl
  have es : z.o.st = z.st := rfl
  have ep : z.o.pt = z.pt := rfl
  rcases (show z.o.k = 1 ∨ z.o.k = 2 ∨ z.o.k = 3 by omega) with k | k | k
  · rw [k, if_pos (by rfl)] at ho
    obtain ⟨-, ⟨n1, n2⟩, r0, s0, h5, h6⟩ := ho
    refine ⟨wfu8 (by omega), wf64 (by omega), fun x hx => ?_, fun a ha => ?_, fun c hc => chgw_of (h6 c hc) (hC c hc)⟩
    · rw [← er, r0] at hx; cases hx
    · rw [← es, s0] at ha; cases ha
  · rw [k, if_neg (by decide), if_pos (by rfl)] at ho
    obtain ⟨-, n0, hr, p0, h5, h6⟩ := ho
    refine ⟨wfu8 (by omega), wf64 (by omega), fun x hx => ?_, fun a ha => attw_of (h6 a ha) (hA a ha), fun c hc => ?_⟩
    · have := (allMay_iff z.o.rs).1 hr.1 x hx
      exact wf32 ⟨this.1, this.2.1⟩
    · rw [← ep, p0] at hc; cases hc
  · rw [k, if_neg (by decide), if_neg (by decide), if_pos (by rfl)] at ho
    obtain ⟨-, ⟨n1, n2⟩, r0, s0, p0⟩ := ho
    refine ⟨wfu8 (by omega), wf64 (by omega), fun x hx => ?_, fun a ha => ?_, fun c hc => ?_⟩
    · rw [← er, r0] at hx; cases hx
    · rw [← es, s0] at ha; cases ha
    · rw [← ep, p0] at hc; cases hc
theorem rm_tame {ks : List Key} {zs : List Oz} (hl : zs.length ≤ 50000000) (h : rmX ks zs ≠ 3) : Tame zs := by
  refine tame_yes (fun x hx => ?_) hl
  by_cases hb : zs.any (rBad ks) = true
  · exact absurd (by unfold rmX; rw [if_pos hb]) h
  · have hx2 : rBad ks x = false := by
      by_cases q : rBad ks x = true
      · exact absurd (List.any_eq_true.2 ⟨x, hx, q⟩) hb
      · simpa using q
    exact (fb_of hx2).1.fp
theorem dec_bad {ks : List Key} {bs : List Int} (ho : Okb bs) (h : (sOps bs).2.2 = true ∨ (sOps bs).2.1 ≠ bs.length) : decX 1073741824 ks bs = ([], 3) := dec_none (by rw [all_ops ho, if_pos h])
theorem dec_all {ks : List Key} {bs : List Int} (ho : Okb bs) (h1 : (sOps bs).2.2 = false) (h2 : (sOps bs).2.1 = bs.length) : (XK 1073741824 (sOps bs).1 ∧ bs = encX (sOps bs).1) ∧ decX 1073741824 ks bs = if mayX ks (sOps bs).1 = 3 ∨ ¬ formO (sOps bs).1 = (sOps bs).1 then ([], 3) else if mayX ks (sOps bs).1 = 4 then ([], 4) else ((sOps bs).1, 0) := by
  have h3 : cAll 1073741824 bs = some (sOps bs).1 := by rw [all_ops ho, if_neg (by simp [h1, h2])]
  refine ⟨(cAll_some (by omega) ho).1 h3, ?_⟩
  unfold decX
  rw [h3]
end Go.Proofs.YtohgopibimgjfaaGreat

/- P20: the reference's Decode -/
namespace Go.Proofs.YtohgopibimgjfaaGreat
open Go.RowKit
set_option linter.unusedVariables false
set_option maxRecDepth 100000

/-- The ops so far, and how they go on. -/
structure DL (w : World) (bm : Nat) (va : Option Addr) (c : Nat) (bs : List Int) (k q : Nat) (d : Bool) (a : Option Addr) (n cx : Nat) (W : World) (xs : List Oz) : Prop where
  x : DX w bm va c bs q d (.slice a n cx) xs W
  n : n = xs.length
  go : xs.map Oz.o ++ (sMany (sOp bs) k q d).1 = (sOps bs).1
  st : (sMany (sOp bs) k q d).2 = (sOps bs).2
  k : k < 18446744073709551616
def DLP (w : World) (bm : Nat) (va : Option Addr) (c : Nat) (bs : List Int) (k q : Nat) (d : Bool) (a : Option Addr) (n cx : Nat) (W : World) : Prop := ∃ xs, DL w bm va c bs k q d a n cx W xs
/-- The op in its variable, as it is told. -/
def DOP (w : World) (bm bo : Nat) (va : Option Addr) (c : Nat) (bs : List Int) (r : Opn × Nat × Bool) (vx : Value) (xs : List Oz) (W : World) : Prop := ∃ z, DO w bm bo va c bs r.2.1 r.2.2 vx xs z W ∧ z.o = r.1
/-- A retain's changes so far, and how they go on; an insert's set. -/
def DPt (w : World) (bm bo : Nat) (va : Option Addr) (c : Nat) (bs : List Int) (k q : Nat) (d : Bool) (vx : Value) (xs : List Oz) (n1 : Int) (P : List Chg) (S2 : Nat × Bool) (W : World) : Prop :=
  ∃ z, DO w bm bo va c bs q d vx xs z W ∧ (z.k = 1 ∧ z.n = n1 ∧ z.rs = [] ∧ z.st = []) ∧ z.pt ++ (sMany (sChg bs) k q d).1 = P ∧ (sMany (sChg bs) k q d).2 = S2 ∧ k < 18446744073709551616
def DSt (w : World) (bm bo : Nat) (va : Option Addr) (c : Nat) (bs : List Int) (k q : Nat) (d : Bool) (vx : Value) (xs : List Oz) (rs : List Int) (P : List Att) (S2 : Nat × Bool) (W : World) : Prop :=
  ∃ z, DO w bm bo va c bs q d vx xs z W ∧ (z.k = 2 ∧ z.n = 0 ∧ z.rs = rs ∧ z.pt = []) ∧ z.st ++ (sMany (sAtt bs) k q d).1 = P ∧ (sMany (sAtt bs) k q d).2 = S2 ∧ k < 18446744073709551616
theorem DO.keep {w0 W W2 : World} {bm bo c q : Nat} {va : Option Addr} {bs : List Int} {d : Bool} {vx u : Value} {xs : List Oz} {z : Oz} (h : DO w0 bm bo va c bs q d vx xs z W) (hg : W.grownBy W2 u.ownBlock) (hu : ∀ k, u.ownBlock = some k → bo < k) : Cb bo 56 z.cs W2 :=
  h.box.off (Off.of_grown hg (S := fun k => u.ownBlock = some k) (fun k hk => hk)) (fun hh => by have := hu _ hh; omega)
theorem cb6 {W : World} {b : Nat} {t : TypeId} {v0 v1 v2 v3 v4 v5 : Value} (h : Cb b t #[v0, v1, v2, v3, v4, v5] W) : W.cell? ⟨b, 0, none⟩ = some v0 ∧ W.cell? ⟨b, 1, none⟩ = some v1 ∧ W.cell? ⟨b, 2, none⟩ = some v2 ∧ W.cell? ⟨b, 3, none⟩ = some v3 ∧ W.cell? ⟨b, 4, none⟩ = some v4 ∧ W.cell? ⟨b, 5, none⟩ = some v5 := ⟨h.cell 0, h.cell 1, h.cell 2, h.cell 3, h.cell 4, h.cell 5⟩
theorem cb5 {W : World} {b : Nat} {t : TypeId} {v0 v1 v2 v3 v4 : Value} (h : Cb b t #[v0, v1, v2, v3, v4] W) : W.cell? ⟨b, 0, none⟩ = some v0 ∧ W.cell? ⟨b, 1, none⟩ = some v1 ∧ W.cell? ⟨b, 2, none⟩ = some v2 ∧ W.cell? ⟨b, 3, none⟩ = some v3 ∧ W.cell? ⟨b, 4, none⟩ = some v4 := ⟨h.cell 0, h.cell 1, h.cell 2, h.cell 3, h.cell 4⟩
theorem cbf {W : World} {b : Nat} {t : TypeId} {cs : Array Value} (h : Cb b t cs W) : W.frozen? ⟨b, 0, none⟩ = false ∧ W.frozen? ⟨b, 1, none⟩ = false ∧ W.frozen? ⟨b, 2, none⟩ = false ∧ W.frozen? ⟨b, 3, none⟩ = false ∧ W.frozen? ⟨b, 4, none⟩ = false ∧ W.frozen? ⟨b, 5, none⟩ = false := ⟨h.frozen 0, h.frozen 1, h.frozen 2, h.frozen 3, h.frozen 4, h.frozen 5⟩
theorem read_yes {v : Value} {x rs : List Int} (W : World) (hv : Ints .u8 W v x) (hx : Okb x) (hl : x.length ≤ 50000000) (h : readL (bl x) = some rs) :
    Calls Tryz.prog 33 #[v] W fun e w' => ∃ ra rc, e = .returned (.tuple #[.slice ra rs.length rc, .int .i64 0]) ∧ w'.ownsRow W.heap.size 21 1 (.slice ra rs.length rc) rs.length (rs.map (Value.int .i32)) ∧ Below W.heap.size W w' := by
  refine (rread_any v x W hv hx (by omega)).mono fun e w' h2 => ?_
  obtain ⟨hb, ⟨rs2, v2, n, h3, he, ho⟩ | ⟨h3, -⟩⟩ := h2
  · rw [h] at h3
    injection h3 with h3
    subst h3
    obtain ⟨ra, rc, rfl, -, -⟩ := own_shape ho
    have hn := (Ints.of_owns ho).2
    subst hn
    exact ⟨ra, rc, he, ho, hb⟩
  · rw [h] at h3; cases h3
theorem read_no {v : Value} {x : List Int} (W : World) (hv : Ints .u8 W v x) (hx : Okb x) (hl : x.length ≤ 50000000) (h : readL (bl x) = none) :
    Calls Tryz.prog 33 #[v] W fun e w' => e = .returned (.tuple #[.slice none 0 0, .int .i64 3]) ∧ Below W.heap.size W w' := by
  refine (rread_any v x W hv hx (by omega)).mono fun e w' h2 => ?_
  obtain ⟨hb, ⟨rs2, v2, n, h3, he, ho⟩ | ⟨h3, he⟩⟩ := h2
  · rw [h] at h3; cases h3
  · exact ⟨he, hb⟩
/-- What Decode tells. -/
def DecP (w : World) (ks : List Key) (bs : List Int) (e : Ending) (w' : World) : Prop :=
  ∃ v xs, e = .returned (.tuple #[v, .int .i64 (decX 1073741824 ks bs).2]) ∧ xs.map Oz.o = (decX 1073741824 ks bs).1 ∧ Oown (fun g => w.heap.size ≤ g) w' v xs ∧ Below w.heap.size w w'
set_option maxHeartbeats 8000000 in
theorem rdec_any (kv : Value) (ks : List Key) (va : Option Addr) (c : Nat) (bs : List Int) (w : World) (hs : Krow w kv ks) (hb : Ints .u8 w (.slice va bs.length c) bs) (ho : Okb bs) (hl : bs.length ≤ 50000000) :
    Calls Tryz.prog 16 #[kv, .slice va bs.length c] w (DecP w ks bs) := by
  have HX0 := Lib.hid (dx_start hb ho hl)
  have HN0 := Lib.hid (mnum_any _ _ _ _ _ _ _ HX0.out.mo)
  have HKS := Lib.hid hs
  have HOK := Lib.hid ho
  have hn64 := sNum_lt (p := 0) false ho
  have HST := Lib.hid (show ([] : List Oz).map Oz.o ++ (sMany (sOp bs) (sNum bs 0 false).1 (sNum bs 0 false).2.1 (sNum bs 0 false).2.2).1 = (sOps bs).1 ∧ (sMany (sOp bs) (sNum bs 0 false).1 (sNum bs 0 false).2.1 (sNum bs 0 false).2.2).2 = (sOps bs).2 from ⟨rfl, rfl⟩)
  generalize sNum bs 0 false = r0 at *
  obtain ⟨k0, q0, d0⟩ := r0
  simp only at HN0 HST hn64
  clear hs hb ho
  go_enter Tryz.func16, Tryz.ntmps16
  go_wp2_with (go_at_call 29; (refine HN0.out.mono ?_; rintro e w1 ⟨rfl, hm, ho⟩; have HX1 := Lib.hid (HX0.out.call hm ho); clear hm ho))
  generalize w.heap.size = bm at HX1 ⊢
  go_loopw [7, 8] (fun x n wr => ∃ (k q : Nat) (d : Bool) (a : Option Addr) (l cx : Nat), n = .int .u64 k ∧ x = .slice a l cx ∧ Hid (DLP w bm va c bs k q d a l cx wr)) (fun _ n _ => (intOf n).toNat)
  case atStart => exact ⟨k0, q0, d0, none, 0, 0, rfl, rfl, Lib.hid ⟨[], HX1.out, rfl, HST.out.1, HST.out.2, hn64⟩⟩
  case round =>
    clear HX0 HN0 HX1 HST hn64
    obtain ⟨k, q, d, xa, xl, xc, rfl, rfl, HP⟩ := hrel
    obtain ⟨wo, hwo⟩ : ∃ x : World, x = wr := ⟨_, rfl⟩
    subst hwo
    obtain ⟨xs, hL⟩ := HP.out
    have HL := Lib.hid hL
    have hk64 := hL.k
    have hq := hL.x.mo.at_
    obtain ⟨c0, c1, c2, c3, c4⟩ := hL.x.mo.cells
    clear HP hL
    by_cases hgo : 0 < k ∧ d = false
    · obtain ⟨hk, rfl⟩ := hgo
      obtain ⟨k', rfl⟩ : ∃ k', k = k' + 1 := ⟨k - 1, by omega⟩
      have dk : decide ((0 : Int) < ((k' + 1 : Nat) : Int)) = true := decide_eq_true (by omega)
      have hG := goes HL.out.go HL.out.st
      have HG := Lib.hid hG
      have HDO := Lib.hid HL.out.x.op
      have HNM := Lib.hid (mnum_any _ _ _ _ _ _ _ HDO.out.mo)
      have HKE := Lib.hid (show sOp bs q false = sOpK bs (sNum bs q false).1 (sNum bs q false).2.1 (sNum bs q false).2.2 from rfl)
      have hkk := sNum_lt (p := q) false HOK.out
      have hqq := (sNum_at (p := q) false HOK.out hq).2
      generalize sNum bs q false = r1 at *
      obtain ⟨kk, q1, d1⟩ := r1
      simp only at HKE HNM hkk hqq
      clear hG hk hq
      go_upto_region 8 with (go_at_call 29; (refine HNM.out.mono ?_; rintro e w2 ⟨rfl, hm, ho⟩; have HD1 := Lib.hid (HDO.out.call hm ho); clear hm ho))
      generalize wo.heap.size = bo at *
      clear HDO HNM c0 c1 c2 c3 c4
      obtain ⟨R, hR⟩ : ∃ R, sOpK bs kk q1 d1 = R := ⟨_, rfl⟩
      have HR := Lib.hid hR
      have HGR := Lib.hid (show (xs.map Oz.o ++ [R.1]) ++ (sMany (sOp bs) k' R.2.1 R.2.2).1 = (sOps bs).1 ∧ (sMany (sOp bs) k' R.2.1 R.2.2).2 = (sOps bs).2 by have h := HG.out; rw [HKE.out, hR] at h; exact h)
      have hxl := HL.out.n
      have hxb : xl ≤ 50000001 := by
        have h := congrArg List.length HL.out.go
        rw [List.length_append, List.length_map] at h
        have h2 := ops_len HOK.out (sNum bs 0 false).1 (sNum bs 0 false).2.1 (sNum_at false HOK.out (Nat.zero_le _)).2 (sNum bs 0 false).2.2
        have e : (sOps bs).1 = (sMany (sOp bs) (sNum bs 0 false).1 (sNum bs 0 false).2.1 (sNum bs 0 false).2.2).1 := rfl
        rw [e] at h
        omega
      have HXL := Lib.hid hxl
      clear hR HG HKE HL hxl
      go_upto_block 2 with fail
      go_cut [] from 24 to 131 (fun wx => Hid (DOP w bm bo va c bs R (.slice xa xl xc) xs wx))
      case first =>
        have hRR := HR.out
        obtain ⟨y0, y1, y2, y3, y4⟩ := HD1.out.at
        have z0 := HD1.out.frz 0
        have z1 := HD1.out.frz 1
        by_cases k1 : kk = 1
        · subst k1
          have hRe : R = (⟨1, (sLen bs q1 d1).1, [], [], (sMany (sChg bs) (sNum bs (sLen bs q1 d1).2.1 (sLen bs q1 d1).2.2).1 (sNum bs (sLen bs q1 d1).2.1 (sLen bs q1 d1).2.2).2.1 (sNum bs (sLen bs q1 d1).2.1 (sLen bs q1 d1).2.2).2.2).1⟩, (sMany (sChg bs) (sNum bs (sLen bs q1 d1).2.1 (sLen bs q1 d1).2.2).1 (sNum bs (sLen bs q1 d1).2.1 (sLen bs q1 d1).2.2).2.1 (sNum bs (sLen bs q1 d1).2.1 (sLen bs q1 d1).2.2).2.2).2) := hRR.symm
          have HDK := Lib.hid (HD1.out.setK 1)
          have HSL := Lib.hid (mlen_any _ _ _ _ _ _ _ HDK.out.mo)
          have hql := (simb_len HOK.out hqq d1).at_.2
          generalize sLen bs q1 d1 = r at *
          obtain ⟨n1, q2, d2⟩ := r
          simp only at hRe HSL hql
          have HSN := Lib.hid (fun W (hm : Mo bm va c bs q2 d2 W) => mnum_any _ _ _ _ _ _ _ hm)
          have hqn := (sNum_at d2 HOK.out hql).2
          have hm64 := sNum_lt (p := q2) d2 HOK.out
          have hpl := chg_len HOK.out (sNum bs q2 d2).1 (sNum bs q2 d2).2.1 hqn (sNum bs q2 d2).2.2
          generalize sNum bs q2 d2 = r at *
          obtain ⟨m1, q3, d3⟩ := r
          simp only at hRe HSN hqn hm64 hpl
          obtain ⟨P, hP⟩ : ∃ P, (sMany (sChg bs) m1 q3 d3).1 = P := ⟨_, rfl⟩
          obtain ⟨S2, hS2⟩ : ∃ S, (sMany (sChg bs) m1 q3 d3).2 = S := ⟨_, rfl⟩
          rw [hP, hS2] at hRe
          rw [hP] at hpl
          have HRE := Lib.hid hRe
          have HPS := Lib.hid (show _ ∧ _ from ⟨hP, hS2⟩)
          clear hRe hRR HR HD1 hkk hqq hP hS2 hql hqn
          go_wp2_with (first
            | (go_at_call 30; (refine HSL.out.mono ?_; rintro e w3 ⟨rfl, hm, ho⟩; have HD2 := Lib.hid (HDK.out.call hm ho); have HD3 := Lib.hid (HD2.out.setN (n1 : Nat)); clear y0 y1 y2 y3 y4 z0 z1; obtain ⟨y0, y1, y2, y3, y4⟩ := HD2.out.at; have z1 := HD2.out.frz 1; clear hm ho))
            | (go_at_call 29; (refine (HSN.out _ HD3.out.mo).mono ?_; rintro e w4 ⟨rfl, hm, ho⟩; have HD4 := Lib.hid (HD3.out.call hm ho); clear y0 y1 y2 y3 y4 z1; clear hm ho)))
          go_loopw [11] (fun n wr => ∃ (k q : Nat) (d : Bool), n = .int .u64 k ∧ Hid (DPt w bm bo va c bs k q d (.slice xa xl xc) xs n1 P S2 wr)) (fun n _ => (intOf n).toNat)
          case atStart => exact ⟨m1, q3, d3, rfl, Lib.hid ⟨_, HD4.out, ⟨rfl, rfl, rfl, rfl⟩, HPS.out.1, HPS.out.2, hm64⟩⟩
          case round =>
            clear HD2 HD3 HD4 HDK HSL HSN HPS hm64
            obtain ⟨k2, q, d, rfl, HP⟩ := hrel
            obtain ⟨wj, hwj⟩ : ∃ x : World, x = wr := ⟨_, rfl⟩
            subst hwj
            obtain ⟨z, hz, hzf, hg1, hg2, hk2⟩ := HP.out
            have HDZ := Lib.hid hz
            have HZF := Lib.hid hzf
            obtain ⟨c0, c1, c2, c3, c4⟩ := hz.mo.cells
            by_cases hgo : 0 < k2 ∧ d = false
            · obtain ⟨hk0, rfl⟩ := hgo
              obtain ⟨k3, rfl⟩ : ∃ k3, k2 = k3 + 1 := ⟨k2 - 1, by omega⟩
              have dk2 : decide ((0 : Int) < ((k3 + 1 : Nat) : Int)) = true := decide_eq_true (by omega)
              have hptl : z.pt.length ≤ 50000001 := by
                have h := congrArg List.length hg1
                rw [List.length_append] at h
                omega
              have hG := goes hg1 hg2
              have hC : sChg bs q false = if (sNum bs (sKey bs q false).2.1 (sKey bs q false).2.2).1 = 0 then (chgX (sKey bs q false).1 true zV, (sNum bs (sKey bs q false).2.1 (sKey bs q false).2.2).2) else (chgX (sKey bs q false).1 false (sVal bs (sNum bs (sKey bs q false).2.1 (sKey bs q false).2.2).1 (sNum bs (sKey bs q false).2.1 (sKey bs q false).2.2).2.1 (sNum bs (sKey bs q false).2.1 (sKey bs q false).2.2).2.2).1, (sVal bs (sNum bs (sKey bs q false).2.1 (sKey bs q false).2.2).1 (sNum bs (sKey bs q false).2.1 (sKey bs q false).2.2).2.1 (sNum bs (sKey bs q false).2.1 (sKey bs q false).2.2).2.2).2) := rfl
              have HSK := Lib.hid (mkey_any _ _ _ _ _ _ _ hz.mo)
              have hkq := (simb_key HOK.out hz.mo.at_ false).at_.2
              generalize sKey bs q false = r at *
              obtain ⟨key, q4, d4⟩ := r
              simp only at hC HSK hkq
              have HSM := Lib.hid (fun W (hm : Mo bm va c bs q4 d4 W) => mnum_any _ _ _ _ _ _ _ hm)
              have hv64 := sNum_lt (p := q4) d4 HOK.out
              generalize sNum bs q4 d4 = r at *
              obtain ⟨v, q5, d5⟩ := r
              simp only at hC HSM hv64
              have HGO := Lib.hid hG
              have HC := Lib.hid hC
              obtain ⟨i0, hi, hz0, hz1, hz2⟩ := info_ch
              clear hz hzf hg1 hg2 HP hG hC hkq hk0
              go_upto_region 18 with (first
                | (go_at_call 31; (refine HSK.out.mono ?_; rintro e w3 ⟨rfl, hm, ho⟩; have HD2 := Lib.hid (HDZ.out.call hm ho); have HDC := Lib.hid (HD2.out.bx 63 (cca ⟨key, false, 0, 0, 0, ⟨#[]⟩⟩)); clear c0 c1 c2 c3 c4; clear hm ho))
                | (go_at_call 29; (refine (HSM.out _ HDC.out.o.mo).mono ?_; rintro e w4 ⟨rfl, hm, ho⟩; have HDC2 := Lib.hid (HDC.out.call hm ho); clear hm ho)))
              generalize w3.heap.size = bc at *
              obtain ⟨b0, b1, b2, b3, b4, b5⟩ := cb6 HDC2.out.cb
              obtain ⟨f0, f1, f2, f3, f4, f5⟩ := cbf HDC2.out.cb
              clear HDZ HD2 HDC HSK HSM
              by_cases hv0 : v = 0
              · have qv : ((v : Int) == 0) = true := by simpa using hv0
                have HGG := Lib.hid (show (z.pt ++ [chgX key true zV]) ++ (sMany (sChg bs) k3 q5 d5).1 = P ∧ (sMany (sChg bs) k3 q5 d5).2 = S2 by have h := HGO.out; rw [HC.out, if_pos hv0] at h; exact h)
                clear HGO HC hv0
                have HDC3 := Lib.hid (HDC2.out.set 1 (.bool true))
                have HCB := Lib.hid (show Cb bc 63 (cca (chgX key true zV)) (w4.setCell ⟨bc, 1, none⟩ (.bool true)) from HDC3.out.cb)
                go_upto_region 21 with fail
                generalize w4.setCell ⟨bc, 1, none⟩ (.bool true) = w5 at *
                clear b0 b1 b2 b3 b4 b5 f0 f1 f2 f3 f4 f5 HDC2
                have HB := Lib.hid (HDC3.out.o.below (kbelow_one w5 (.cells (cca (chgX key true zV)) 63)))
                have HZR := Lib.hid (Row.built (C := chC) w5 63 [(chgX key true zV)] (by simp [maxLen]))
                obtain ⟨y0, y1, y2, y3, y4⟩ := HDC3.out.o.at
                obtain ⟨b0, b1, b2, b3, b4, b5⟩ := cb6 HCB.out
                go_wp2_with (at_builtin; (refine wpList_append_rowL (C := chC) rfl (.tmp 74) (.tmp 76) 54 rfl 0 63 i0 _ 56 Tryz.underlying54 hi hz0 hz1 hz2 rfl (.slice z.pa z.pt.length z.pc) z.pt.length (fl chC z.pt) rfl HB.out.own.p _ [(chgX key true zV)] rfl HZR.out (by simp) (by unfold maxLen; (try simp only [List.length_cons, List.length_nil]); omega) (by (try simp only [List.length_cons, List.length_nil]); omega) (Nat.zero_le _) ?_); intro g3 cap3 w3a hown hgrow hlies hlt; have HDA := Lib.hid (HB.out.appP hown hgrow hlies); have HBX := Lib.hid (HB.out.keep hgrow HB.out.own.fp); clear y0 y1 y2 y3 y4; obtain ⟨y0, y1, y2, y3, y4⟩ := cb5 HBX.out; have z4 := HBX.out.frozen 4; clear hown hgrow hlies hlt)
                have HN := Lib.hid (show DPt w bm bo va c bs k3 q5 d5 (.slice xa xl xc) xs n1 P S2 _ from ⟨_, HDA.out, HZF.out, HGG.out.1, HGG.out.2, by omega⟩)
                go_roundw
                case rel => exact ⟨k3, q5, d5, by go_num, HN⟩
                case measure => simp [intOf]
              · have qv : ((v : Int) == 0) = false := by simpa using hv0
                have hGG := (show (z.pt ++ [chgX key false (sVal bs v q5 d5).1]) ++ (sMany (sChg bs) k3 (sVal bs v q5 d5).2.1 (sVal bs v q5 d5).2.2).1 = P ∧ (sMany (sChg bs) k3 (sVal bs v q5 d5).2.1 (sVal bs v q5 d5).2.2).2 = S2 by have h := HGO.out; rw [HC.out, if_neg hv0] at h; exact h)
                have HSV := Lib.hid (mval_any _ _ _ _ v q5 _ _ HDC2.out.o.mo hv64)
                unfold vlV at HSV
                generalize sVal bs v q5 d5 = r at *
                obtain ⟨⟨vk, vn, vf, vs⟩, q6, d6⟩ := r
                simp only at HSV hGG
                have HGG := Lib.hid hGG
                clear HGO HC hv0 hGG
                go_upto_region 21 with (go_at_call 32; (refine HSV.out.mono ?_; rintro e w5 ⟨rfl, hm, ho⟩; have HDC4 := Lib.hid (HDC2.out.call hm ho); clear b0 b1 b2 b3 b4 b5 f0 f1 f2 f3 f4 f5; obtain ⟨b0, b1, b2, b3, b4, b5⟩ := cb6 HDC4.out.cb; obtain ⟨f0, f1, f2, f3, f4, f5⟩ := cbf HDC4.out.cb; clear hm ho))
                have HDC3 := Lib.hid ((((HDC4.out.set 2 (.int .u8 vk)).set 3 (.int .i64 vn)).set 4 (.int .u64 vf)).set 5 (.string vs))
                have HCB := Lib.hid (show Cb bc 63 (cca (chgX key false ⟨vk, vn, vf, vs⟩)) _ from HDC3.out.cb)
                generalize (((w5.setCell ⟨bc, 2, none⟩ (.int .u8 vk)).setCell ⟨bc, 3, none⟩ (.int .i64 vn)).setCell ⟨bc, 4, none⟩ (.int .u64 vf)).setCell ⟨bc, 5, none⟩ (.string vs) = w6 at *
                clear b0 b1 b2 b3 b4 b5 f0 f1 f2 f3 f4 f5 HDC2 HDC4 HSV
                have HB := Lib.hid (HDC3.out.o.below (kbelow_one w6 (.cells (cca (chgX key false ⟨vk, vn, vf, vs⟩)) 63)))
                have HZR := Lib.hid (Row.built (C := chC) w6 63 [(chgX key false ⟨vk, vn, vf, vs⟩)] (by simp [maxLen]))
                obtain ⟨y0, y1, y2, y3, y4⟩ := HDC3.out.o.at
                obtain ⟨b0, b1, b2, b3, b4, b5⟩ := cb6 HCB.out
                go_wp2_with (at_builtin; (refine wpList_append_rowL (C := chC) rfl (.tmp 74) (.tmp 76) 54 rfl 0 63 i0 _ 56 Tryz.underlying54 hi hz0 hz1 hz2 rfl (.slice z.pa z.pt.length z.pc) z.pt.length (fl chC z.pt) rfl HB.out.own.p _ [(chgX key false ⟨vk, vn, vf, vs⟩)] rfl HZR.out (by simp) (by unfold maxLen; (try simp only [List.length_cons, List.length_nil]); omega) (by (try simp only [List.length_cons, List.length_nil]); omega) (Nat.zero_le _) ?_); intro g3 cap3 w3a hown hgrow hlies hlt; have HDA := Lib.hid (HB.out.appP hown hgrow hlies); have HBX := Lib.hid (HB.out.keep hgrow HB.out.own.fp); clear y0 y1 y2 y3 y4; obtain ⟨y0, y1, y2, y3, y4⟩ := cb5 HBX.out; have z4 := HBX.out.frozen 4; clear hown hgrow hlies hlt)
                have HN := Lib.hid (show DPt w bm bo va c bs k3 q6 d6 (.slice xa xl xc) xs n1 P S2 _ from ⟨_, HDA.out, HZF.out, HGG.out.1, HGG.out.2, by omega⟩)
                go_roundw
                case rel => exact ⟨k3, q6, d6, by go_num, HN⟩
                case measure => simp [intOf]
            · have hE : k2 = 0 ∨ d = true := by
                by_cases h0 : k2 = 0
                · exact .inl h0
                · cases d
                  · exact absurd ⟨by omega, rfl⟩ hgo
                  · exact .inr rfl
              obtain ⟨hp, hs⟩ := ends hE hg1 hg2
              have HM := Lib.hid (show DOP w bm bo va c bs R (.slice xa xl xc) xs wj from ⟨z, by rw [HRE.out, ← hs]; exact hz, by rw [HRE.out]; show (⟨z.k, z.n, z.rs, z.st, z.pt⟩ : Opn) = _; rw [hzf.1, hzf.2.1, hzf.2.2.1, hzf.2.2.2, hp]⟩)
              clear hz hzf hg1 hg2 HP hgo hp hs HDZ HZF
              rcases hE with rfl | rfl
              · go_wp2
                go_meet
                exact HM
              · by_cases hk0 : 0 < k2
                · have dk2 : decide ((0 : Int) < (k2 : Int)) = true := decide_eq_true (by omega)
                  go_wp2
                  go_meet
                  exact HM
                · obtain rfl : k2 = 0 := by omega
                  go_wp2
                  go_meet
                  exact HM
        by_cases k2 : kk = 2
        · subst k2
          have HDK := Lib.hid (HD1.out.setK 2)
          have HTX := Lib.hid (mtxt_any _ _ _ _ _ _ _ HDK.out.mo)
          have hsr : sRun bs q1 d1 = match readL (bl (sTxt bs q1 d1).1) with
            | none => ([], (sTxt bs q1 d1).2.1, true)
            | some rs => (rs, (sTxt bs q1 d1).2) := rfl
          have hRe1 : R = (⟨2, 0, (sRun bs q1 d1).1, (sMany (sAtt bs) (sNum bs (sRun bs q1 d1).2.1 (sRun bs q1 d1).2.2).1 (sNum bs (sRun bs q1 d1).2.1 (sRun bs q1 d1).2.2).2.1 (sNum bs (sRun bs q1 d1).2.1 (sRun bs q1 d1).2.2).2.2).1, []⟩, (sMany (sAtt bs) (sNum bs (sRun bs q1 d1).2.1 (sRun bs q1 d1).2.2).1 (sNum bs (sRun bs q1 d1).2.1 (sRun bs q1 d1).2.2).2.1 (sNum bs (sRun bs q1 d1).2.1 (sRun bs q1 d1).2.2).2.2).2) := hRR.symm
          obtain ⟨htl, hto⟩ := txt_len HOK.out hqq d1
          have hqt := (simb_txt HOK.out hqq d1).at_.2
          generalize sTxt bs q1 d1 = t at *
          obtain ⟨tx, q2, d2⟩ := t
          simp only at hsr HTX htl hto hqt
          cases hrd : readL (bl tx) with
          | some rs =>
            rw [hrd] at hsr
            simp only at hsr
            rw [hsr] at hRe1
            have hRe0 := hRe1
            have hql := hqt
            have HRD := Lib.hid (fun W v (hv : Ints .u8 W v tx) => read_yes W hv hto (by omega) hrd)
            clear hRe1 hsr hqt htl hto hrd
            have hRe : R = (⟨2, 0, rs, (sMany (sAtt bs) (sNum bs q2 d2).1 (sNum bs q2 d2).2.1 (sNum bs q2 d2).2.2).1, []⟩, (sMany (sAtt bs) (sNum bs q2 d2).1 (sNum bs q2 d2).2.1 (sNum bs q2 d2).2.2).2) := hRe0
            have HSN := Lib.hid (fun W (hm : Mo bm va c bs q2 d2 W) => mnum_any _ _ _ _ _ _ _ hm)
            have hqn := (sNum_at d2 HOK.out hql).2
            have hm64 := sNum_lt (p := q2) d2 HOK.out
            have hpl := att_len HOK.out (sNum bs q2 d2).1 (sNum bs q2 d2).2.1 hqn (sNum bs q2 d2).2.2
            generalize sNum bs q2 d2 = r at *
            obtain ⟨m1, q3, d3⟩ := r
            simp only at hRe HSN hqn hm64 hpl
            obtain ⟨P, hP⟩ : ∃ P, (sMany (sAtt bs) m1 q3 d3).1 = P := ⟨_, rfl⟩
            obtain ⟨S2, hS2⟩ : ∃ S, (sMany (sAtt bs) m1 q3 d3).2 = S := ⟨_, rfl⟩
            rw [hP, hS2] at hRe
            rw [hP] at hpl
            have HRE := Lib.hid hRe
            have HPS := Lib.hid (show _ ∧ _ from ⟨hP, hS2⟩)
            clear hRe hRe0 hRR HR HD1 hkk hqq hP hS2 hql hqn
            go_wp2_with (first
              | (go_at_call 34; (refine HTX.out.mono ?_; rintro e w3 ⟨ta, td, rfl, hi8, hm, ho⟩; have HD2 := Lib.hid (HDK.out.call hm ho); have HI8 := Lib.hid hi8; clear y0 y1 y2 y3 y4 z0 z1; clear hm ho hi8))
              | (go_at_call 33; (refine (HRD.out _ _ HI8.out).mono ?_; rintro e w4 ⟨ra, rc, rfl, hro, hb⟩; have HD5 := Lib.hid (HD2.out.below hb); have HD3 := Lib.hid (HD5.out.setR hro HD2.out.box.lt); obtain ⟨y0, y1, y2, y3, y4⟩ := HD5.out.at; have z2 := HD5.out.frz 2; clear hro hb))
              | (go_at_call 29; (refine (HSN.out _ HD3.out.mo).mono ?_; rintro e w5 ⟨rfl, hm, ho⟩; have HD4 := Lib.hid (HD3.out.call hm ho); clear y0 y1 y2 y3 y4 z2; clear hm ho)))
            go_loopw [16] (fun n wr => ∃ (k q : Nat) (d : Bool), n = .int .u64 k ∧ Hid (DSt w bm bo va c bs k q d (.slice xa xl xc) xs rs P S2 wr)) (fun n _ => (intOf n).toNat)
            case atStart => exact ⟨m1, q3, d3, rfl, Lib.hid ⟨_, HD4.out, ⟨rfl, rfl, rfl, rfl⟩, HPS.out.1, HPS.out.2, hm64⟩⟩
            case round =>
              clear HD3 HD4 HSN HPS hm64
              obtain ⟨k2, q, d, rfl, HP⟩ := hrel
              obtain ⟨wj, hwj⟩ : ∃ x : World, x = wr := ⟨_, rfl⟩
              subst hwj
              obtain ⟨z, hz, hzf, hg1, hg2, hk2⟩ := HP.out
              have HDZ := Lib.hid hz
              have HZF := Lib.hid hzf
              obtain ⟨c0, c1, c2, c3, c4⟩ := hz.mo.cells
              by_cases hgo : 0 < k2 ∧ d = false
              · obtain ⟨hk0, rfl⟩ := hgo
                obtain ⟨k3, rfl⟩ : ∃ k3, k2 = k3 + 1 := ⟨k2 - 1, by omega⟩
                have dk2 : decide ((0 : Int) < ((k3 + 1 : Nat) : Int)) = true := decide_eq_true (by omega)
                have hptl : z.st.length ≤ 50000001 := by
                  have h := congrArg List.length hg1
                  rw [List.length_append] at h
                  omega
                have hG := goes hg1 hg2
                have hC : sAtt bs q false = (attOf ((sKey bs q false).1, (sVal bs (sNum bs (sKey bs q false).2.1 (sKey bs q false).2.2).1 (sNum bs (sKey bs q false).2.1 (sKey bs q false).2.2).2.1 (sNum bs (sKey bs q false).2.1 (sKey bs q false).2.2).2.2).1), (sVal bs (sNum bs (sKey bs q false).2.1 (sKey bs q false).2.2).1 (sNum bs (sKey bs q false).2.1 (sKey bs q false).2.2).2.1 (sNum bs (sKey bs q false).2.1 (sKey bs q false).2.2).2.2).2) := rfl
                have HSK := Lib.hid (mkey_any _ _ _ _ _ _ _ hz.mo)
                have hkq := (simb_key HOK.out hz.mo.at_ false).at_.2
                generalize sKey bs q false = r at *
                obtain ⟨key, q4, d4⟩ := r
                simp only at hC HSK hkq
                have HSM := Lib.hid (fun W (hm : Mo bm va c bs q4 d4 W) => mnum_any _ _ _ _ _ _ _ hm)
                have hv64 := sNum_lt (p := q4) d4 HOK.out
                generalize sNum bs q4 d4 = r at *
                obtain ⟨v, q5, d5⟩ := r
                simp only at hC HSM hv64
                have HSV := Lib.hid (fun W (hm : Mo bm va c bs q5 d5 W) => mval_any _ _ _ _ v _ _ _ hm hv64)
                unfold vlV at HSV
                generalize sVal bs v q5 d5 = r at *
                obtain ⟨⟨vk, vn, vf, vs⟩, q6, d6⟩ := r
                simp only at hC HSV
                have HGG := Lib.hid (show (z.st ++ [attOf (key, ⟨vk, vn, vf, vs⟩)]) ++ (sMany (sAtt bs) k3 q6 d6).1 = P ∧ (sMany (sAtt bs) k3 q6 d6).2 = S2 by have h := hG; rw [hC] at h; exact h)
                obtain ⟨i0, hi, hz0, hz1, hz2⟩ := info_at
                clear hz hzf hg1 hg2 HP hG hC hkq hk0
                go_upto_region 33 with (first
                  | (go_at_call 31; (refine HSK.out.mono ?_; rintro e w3 ⟨rfl, hm, ho⟩; have HD2 := Lib.hid (HDZ.out.call hm ho); have HDC := Lib.hid (HD2.out.bx 61 (aca ⟨key, 0, 0, 0, ⟨#[]⟩⟩)); clear c0 c1 c2 c3 c4; clear hm ho))
                  | (go_at_call 29; (refine (HSM.out _ HDC.out.o.mo).mono ?_; rintro e w4 ⟨rfl, hm, ho⟩; have HDC2 := Lib.hid (HDC.out.call hm ho); clear hm ho))
                  | (go_at_call 32; (refine (HSV.out _ HDC2.out.o.mo).mono ?_; rintro e w5 ⟨rfl, hm, ho⟩; have HDC4 := Lib.hid (HDC2.out.call hm ho); obtain ⟨b0, b1, b2, b3, b4⟩ := cb5 HDC4.out.cb; obtain ⟨f0, f1, f2, f3, f4, f5⟩ := cbf HDC4.out.cb; clear hm ho)))
                generalize w3.heap.size = bc at *
                have HDC3 := Lib.hid ((((HDC4.out.set 1 (.int .u8 vk)).set 2 (.int .i64 vn)).set 3 (.int .u64 vf)).set 4 (.string vs))
                have HCB := Lib.hid (show Cb bc 61 (aca (attOf (key, ⟨vk, vn, vf, vs⟩))) _ from HDC3.out.cb)
                generalize (((w5.setCell ⟨bc, 1, none⟩ (.int .u8 vk)).setCell ⟨bc, 2, none⟩ (.int .i64 vn)).setCell ⟨bc, 3, none⟩ (.int .u64 vf)).setCell ⟨bc, 4, none⟩ (.string vs) = w6 at *
                clear b0 b1 b2 b3 b4 f0 f1 f2 f3 f4 f5 HDZ HD2 HDC HSK HSM HDC2 HDC4 HSV
                have HB := Lib.hid (HDC3.out.o.below (kbelow_one w6 (.cells (aca (attOf (key, ⟨vk, vn, vf, vs⟩))) 61)))
                have HZR := Lib.hid (Row.built (C := attC) w6 61 [(attOf (key, ⟨vk, vn, vf, vs⟩))] (by simp [maxLen]))
                obtain ⟨y0, y1, y2, y3, y4⟩ := HDC3.out.o.at
                obtain ⟨b0, b1, b2, b3, b4⟩ := cb5 HCB.out
                go_wp2_with (at_builtin; (refine wpList_append_rowL (C := attC) rfl (.tmp 117) (.tmp 119) 53 rfl 0 61 i0 _ 48 Tryz.underlying53 hi hz0 hz1 hz2 rfl (.slice z.sa z.st.length z.sc) z.st.length (fl attC z.st) rfl HB.out.own.s _ [(attOf (key, ⟨vk, vn, vf, vs⟩))] rfl HZR.out (by simp) (by unfold maxLen; (try simp only [List.length_cons, List.length_nil]); omega) (by (try simp only [List.length_cons, List.length_nil]); omega) (Nat.zero_le _) ?_); intro g3 cap3 w3a hown hgrow hlies hlt; have HDA := Lib.hid (HB.out.appS hown hgrow hlies); have HBX := Lib.hid (HB.out.keep hgrow HB.out.own.fs); clear y0 y1 y2 y3 y4; obtain ⟨y0, y1, y2, y3, y4⟩ := cb5 HBX.out; have z3 := HBX.out.frozen 3; clear hown hgrow hlies hlt)
                have HN := Lib.hid (show DSt w bm bo va c bs k3 q6 d6 (.slice xa xl xc) xs rs P S2 _ from ⟨_, HDA.out, HZF.out, HGG.out.1, HGG.out.2, by omega⟩)
                go_roundw
                case rel => exact ⟨k3, q6, d6, by go_num, HN⟩
                case measure => simp [intOf]
              · have hE : k2 = 0 ∨ d = true := by
                  by_cases h0 : k2 = 0
                  · exact .inl h0
                  · cases d
                    · exact absurd ⟨by omega, rfl⟩ hgo
                    · exact .inr rfl
                obtain ⟨hp, hs⟩ := ends hE hg1 hg2
                have HM := Lib.hid (show DOP w bm bo va c bs R (.slice xa xl xc) xs wj from ⟨z, by rw [HRE.out, ← hs]; exact hz, by rw [HRE.out]; show (⟨z.k, z.n, z.rs, z.st, z.pt⟩ : Opn) = _; rw [hzf.1, hzf.2.1, hzf.2.2.1, hzf.2.2.2, hp]⟩)
                clear hz hzf hg1 hg2 HP hgo hp hs HDZ HZF
                rcases hE with rfl | rfl
                · go_wp2
                  go_meet
                  exact HM
                · by_cases hk0 : 0 < k2
                  · have dk2 : decide ((0 : Int) < (k2 : Int)) = true := decide_eq_true (by omega)
                    go_wp2
                    go_meet
                    exact HM
                  · obtain rfl : k2 = 0 := by omega
                    go_wp2
                    go_meet
                    exact HM
          | none =>
            rw [hrd] at hsr
            simp only at hsr
            rw [hsr] at hRe1
            obtain ⟨rs, hrs⟩ : ∃ x : List Int, x = [] := ⟨_, rfl⟩
            have HRD := Lib.hid (fun W v (hv : Ints .u8 W v tx) => read_no W hv hto (by omega) hrd)
            clear hsr htl hto hrd
            obtain ⟨dd, hdd⟩ : ∃ x : Bool, x = d2 := ⟨_, rfl⟩
            rw [← hdd] at HTX
            clear hdd
            obtain ⟨d2, hd2⟩ : ∃ x : Bool, x = true := ⟨_, rfl⟩
            rw [← hd2, ← hrs] at hRe1
            have hRe0 := hRe1
            have hql := hqt
            clear hRe1 hqt
            have hRe : R = (⟨2, 0, rs, (sMany (sAtt bs) (sNum bs q2 d2).1 (sNum bs q2 d2).2.1 (sNum bs q2 d2).2.2).1, []⟩, (sMany (sAtt bs) (sNum bs q2 d2).1 (sNum bs q2 d2).2.1 (sNum bs q2 d2).2.2).2) := hRe0
            have HSN := Lib.hid (fun W (hm : Mo bm va c bs q2 d2 W) => mnum_any _ _ _ _ _ _ _ hm)
            have hqn := (sNum_at d2 HOK.out hql).2
            have hm64 := sNum_lt (p := q2) d2 HOK.out
            have hpl := att_len HOK.out (sNum bs q2 d2).1 (sNum bs q2 d2).2.1 hqn (sNum bs q2 d2).2.2
            generalize sNum bs q2 d2 = r at *
            obtain ⟨m1, q3, d3⟩ := r
            simp only at hRe HSN hqn hm64 hpl
            obtain ⟨P, hP⟩ : ∃ P, (sMany (sAtt bs) m1 q3 d3).1 = P := ⟨_, rfl⟩
            obtain ⟨S2, hS2⟩ : ∃ S, (sMany (sAtt bs) m1 q3 d3).2 = S := ⟨_, rfl⟩
            rw [hP, hS2] at hRe
            rw [hP] at hpl
            have HRE := Lib.hid hRe
            have HPS := Lib.hid (show _ ∧ _ from ⟨hP, hS2⟩)
            clear hRe hRe0 hRR HR HD1 hkk hqq hP hS2 hql hqn
            subst hd2 hrs
            go_wp2_with (first
              | (go_at_call 34; (refine HTX.out.mono ?_; rintro e w3 ⟨ta, td, rfl, hi8, hm, ho⟩; have HD2 := Lib.hid (HDK.out.call hm ho); have HI8 := Lib.hid hi8; clear y0 y1 y2 y3 y4 z0 z1; clear hm ho hi8))
              | (go_at_call 33; (refine (HRD.out _ _ HI8.out).mono ?_; rintro e w4 ⟨rfl, hb⟩; have HD5 := Lib.hid (HD2.out.below hb); have HD6 := Lib.hid (HD5.out.call HD5.out.mo.setB.1 HD5.out.mo.setB.2); have HD3 := Lib.hid (HD6.out.setR (rs := []) (B := bo + 1) (World.ownsRow_nil _ _ _ _) (by omega)); obtain ⟨y0, y1, y2, y3, y4⟩ := HD6.out.at; have z2 := HD6.out.frz 2; obtain ⟨c0, c1, c2, c3, c4⟩ := HD5.out.mo.cells; clear hb))
              | (go_at_call 29; (refine (HSN.out _ HD3.out.mo).mono ?_; rintro e w5 ⟨rfl, hm, ho⟩; have HD4 := Lib.hid (HD3.out.call hm ho); clear y0 y1 y2 y3 y4 z2 c0 c1 c2 c3 c4; clear hm ho)))
            obtain ⟨rs, hrs⟩ : ∃ x : List Int, x = [] := ⟨_, rfl⟩
            rw [← hrs] at HRE
            go_loopw [16] (fun n wr => ∃ (k q : Nat) (d : Bool), n = .int .u64 k ∧ Hid (DSt w bm bo va c bs k q d (.slice xa xl xc) xs rs P S2 wr)) (fun n _ => (intOf n).toNat)
            case atStart => exact ⟨m1, q3, d3, rfl, Lib.hid ⟨_, HD4.out, ⟨rfl, rfl, hrs.symm, rfl⟩, HPS.out.1, HPS.out.2, hm64⟩⟩
            case round =>
              clear HD3 HD4 HSN HPS hm64
              obtain ⟨k2, q, d, rfl, HP⟩ := hrel
              obtain ⟨wj, hwj⟩ : ∃ x : World, x = wr := ⟨_, rfl⟩
              subst hwj
              obtain ⟨z, hz, hzf, hg1, hg2, hk2⟩ := HP.out
              have HDZ := Lib.hid hz
              have HZF := Lib.hid hzf
              obtain ⟨c0, c1, c2, c3, c4⟩ := hz.mo.cells
              by_cases hgo : 0 < k2 ∧ d = false
              · obtain ⟨hk0, rfl⟩ := hgo
                obtain ⟨k3, rfl⟩ : ∃ k3, k2 = k3 + 1 := ⟨k2 - 1, by omega⟩
                have dk2 : decide ((0 : Int) < ((k3 + 1 : Nat) : Int)) = true := decide_eq_true (by omega)
                have hptl : z.st.length ≤ 50000001 := by
                  have h := congrArg List.length hg1
                  rw [List.length_append] at h
                  omega
                have hG := goes hg1 hg2
                have hC : sAtt bs q false = (attOf ((sKey bs q false).1, (sVal bs (sNum bs (sKey bs q false).2.1 (sKey bs q false).2.2).1 (sNum bs (sKey bs q false).2.1 (sKey bs q false).2.2).2.1 (sNum bs (sKey bs q false).2.1 (sKey bs q false).2.2).2.2).1), (sVal bs (sNum bs (sKey bs q false).2.1 (sKey bs q false).2.2).1 (sNum bs (sKey bs q false).2.1 (sKey bs q false).2.2).2.1 (sNum bs (sKey bs q false).2.1 (sKey bs q false).2.2).2.2).2) := rfl
                have HSK := Lib.hid (mkey_any _ _ _ _ _ _ _ hz.mo)
                have hkq := (simb_key HOK.out hz.mo.at_ false).at_.2
                generalize sKey bs q false = r at *
                obtain ⟨key, q4, d4⟩ := r
                simp only at hC HSK hkq
                have HSM := Lib.hid (fun W (hm : Mo bm va c bs q4 d4 W) => mnum_any _ _ _ _ _ _ _ hm)
                have hv64 := sNum_lt (p := q4) d4 HOK.out
                generalize sNum bs q4 d4 = r at *
                obtain ⟨v, q5, d5⟩ := r
                simp only at hC HSM hv64
                have HSV := Lib.hid (fun W (hm : Mo bm va c bs q5 d5 W) => mval_any _ _ _ _ v _ _ _ hm hv64)
                unfold vlV at HSV
                generalize sVal bs v q5 d5 = r at *
                obtain ⟨⟨vk, vn, vf, vs⟩, q6, d6⟩ := r
                simp only at hC HSV
                have HGG := Lib.hid (show (z.st ++ [attOf (key, ⟨vk, vn, vf, vs⟩)]) ++ (sMany (sAtt bs) k3 q6 d6).1 = P ∧ (sMany (sAtt bs) k3 q6 d6).2 = S2 by have h := hG; rw [hC] at h; exact h)
                obtain ⟨i0, hi, hz0, hz1, hz2⟩ := info_at
                clear hz hzf hg1 hg2 HP hG hC hkq hk0
                go_upto_region 33 with (first
                  | (go_at_call 31; (refine HSK.out.mono ?_; rintro e w3 ⟨rfl, hm, ho⟩; have HD2 := Lib.hid (HDZ.out.call hm ho); have HDC := Lib.hid (HD2.out.bx 61 (aca ⟨key, 0, 0, 0, ⟨#[]⟩⟩)); clear c0 c1 c2 c3 c4; clear hm ho))
                  | (go_at_call 29; (refine (HSM.out _ HDC.out.o.mo).mono ?_; rintro e w4 ⟨rfl, hm, ho⟩; have HDC2 := Lib.hid (HDC.out.call hm ho); clear hm ho))
                  | (go_at_call 32; (refine (HSV.out _ HDC2.out.o.mo).mono ?_; rintro e w5 ⟨rfl, hm, ho⟩; have HDC4 := Lib.hid (HDC2.out.call hm ho); obtain ⟨b0, b1, b2, b3, b4⟩ := cb5 HDC4.out.cb; obtain ⟨f0, f1, f2, f3, f4, f5⟩ := cbf HDC4.out.cb; clear hm ho)))
                generalize w3.heap.size = bc at *
                have HDC3 := Lib.hid ((((HDC4.out.set 1 (.int .u8 vk)).set 2 (.int .i64 vn)).set 3 (.int .u64 vf)).set 4 (.string vs))
                have HCB := Lib.hid (show Cb bc 61 (aca (attOf (key, ⟨vk, vn, vf, vs⟩))) _ from HDC3.out.cb)
                generalize (((w5.setCell ⟨bc, 1, none⟩ (.int .u8 vk)).setCell ⟨bc, 2, none⟩ (.int .i64 vn)).setCell ⟨bc, 3, none⟩ (.int .u64 vf)).setCell ⟨bc, 4, none⟩ (.string vs) = w6 at *
                clear b0 b1 b2 b3 b4 f0 f1 f2 f3 f4 f5 HDZ HD2 HDC HSK HSM HDC2 HDC4 HSV
                have HB := Lib.hid (HDC3.out.o.below (kbelow_one w6 (.cells (aca (attOf (key, ⟨vk, vn, vf, vs⟩))) 61)))
                have HZR := Lib.hid (Row.built (C := attC) w6 61 [(attOf (key, ⟨vk, vn, vf, vs⟩))] (by simp [maxLen]))
                obtain ⟨y0, y1, y2, y3, y4⟩ := HDC3.out.o.at
                obtain ⟨b0, b1, b2, b3, b4⟩ := cb5 HCB.out
                go_wp2_with (at_builtin; (refine wpList_append_rowL (C := attC) rfl (.tmp 117) (.tmp 119) 53 rfl 0 61 i0 _ 48 Tryz.underlying53 hi hz0 hz1 hz2 rfl (.slice z.sa z.st.length z.sc) z.st.length (fl attC z.st) rfl HB.out.own.s _ [(attOf (key, ⟨vk, vn, vf, vs⟩))] rfl HZR.out (by simp) (by unfold maxLen; (try simp only [List.length_cons, List.length_nil]); omega) (by (try simp only [List.length_cons, List.length_nil]); omega) (Nat.zero_le _) ?_); intro g3 cap3 w3a hown hgrow hlies hlt; have HDA := Lib.hid (HB.out.appS hown hgrow hlies); have HBX := Lib.hid (HB.out.keep hgrow HB.out.own.fs); clear y0 y1 y2 y3 y4; obtain ⟨y0, y1, y2, y3, y4⟩ := cb5 HBX.out; have z3 := HBX.out.frozen 3; clear hown hgrow hlies hlt)
                have HN := Lib.hid (show DSt w bm bo va c bs k3 q6 d6 (.slice xa xl xc) xs rs P S2 _ from ⟨_, HDA.out, HZF.out, HGG.out.1, HGG.out.2, by omega⟩)
                go_roundw
                case rel => exact ⟨k3, q6, d6, by go_num, HN⟩
                case measure => simp [intOf]
              · have hE : k2 = 0 ∨ d = true := by
                  by_cases h0 : k2 = 0
                  · exact .inl h0
                  · cases d
                    · exact absurd ⟨by omega, rfl⟩ hgo
                    · exact .inr rfl
                obtain ⟨hp, hs⟩ := ends hE hg1 hg2
                have HM := Lib.hid (show DOP w bm bo va c bs R (.slice xa xl xc) xs wj from ⟨z, by rw [HRE.out, ← hs]; exact hz, by rw [HRE.out]; show (⟨z.k, z.n, z.rs, z.st, z.pt⟩ : Opn) = _; rw [hzf.1, hzf.2.1, hzf.2.2.1, hzf.2.2.2, hp]⟩)
                clear hz hzf hg1 hg2 HP hgo hp hs HDZ HZF
                rcases hE with rfl | rfl
                · go_wp2
                  go_meet
                  exact HM
                · by_cases hk0 : 0 < k2
                  · have dk2 : decide ((0 : Int) < (k2 : Int)) = true := decide_eq_true (by omega)
                    go_wp2
                    go_meet
                    exact HM
                  · obtain rfl : k2 = 0 := by omega
                    go_wp2
                    go_meet
                    exact HM
        by_cases k3 : kk = 3
        · subst k3
          have HDK := Lib.hid (HD1.out.setK 3)
          have HSL := Lib.hid (mlen_any _ _ _ _ _ _ _ HDK.out.mo)
          have hRe : R = (⟨3, (sLen bs q1 d1).1, [], [], []⟩, (sLen bs q1 d1).2) := hRR.symm
          generalize sLen bs q1 d1 = r at *
          have HRE := Lib.hid hRe
          clear hRe hRR HR HD1 hkk hqq k1 k2
          go_wp2_with (go_at_call 30; (refine HSL.out.mono ?_; rintro e w3 ⟨rfl, hm, ho⟩; have HD2 := Lib.hid (HDK.out.call hm ho); clear y0 y1 y2 y3 y4 z0 z1; obtain ⟨y0, y1, y2, y3, y4⟩ := HD2.out.at; have z1 := HD2.out.frz 1; clear hm ho))
          go_meet
          exact Lib.hid ⟨_, by rw [HRE.out]; exact HD2.out.setN _, by rw [HRE.out]; rfl⟩
        · have e1 : ((kk : Int) == 1) = false := by simp; omega
          have e2 : ((kk : Int) == 2) = false := by simp; omega
          have e3 : ((kk : Int) == 3) = false := by simp; omega
          have hRe : R = (⟨0, 0, [], [], []⟩, q1, true) := by rw [← hRR]; unfold sOpK; rw [if_neg k1, if_neg k2, if_neg k3]
          have HRE := Lib.hid hRe
          have HD2 := Lib.hid (HD1.out.call HD1.out.mo.setB.1 HD1.out.mo.setB.2)
          obtain ⟨c0, c1, c2, c3, c4⟩ := HD1.out.mo.cells
          clear hRe hRR HR HD1 hkk hqq k1 k2 k3
          go_wp2
          go_meet
          exact Lib.hid ⟨_, by rw [HRE.out]; exact HD2.out, by rw [HRE.out]; rfl⟩
      case rest =>
        obtain ⟨z, hz, hzo⟩ := hcut.out
        have HZ := Lib.hid hz
        have HZO := Lib.hid hzo
        obtain ⟨y0, y1, y2, y3, y4⟩ := hz.at
        have HB := Lib.hid (hz.below (kbelow_one wc (.cells z.cs 56)))
        have HXR := Lib.hid (show (wc.alloc (.cells z.cs 56)).ownsRow 0 56 5 (.slice xa xl xc) xl (fl ozC xs) by have h := HB.out.x.row; rw [← HXL.out] at h; exact h)
        have HZR := Lib.hid (Row.built (C := ozC) wc 56 [z] (by simp [maxLen]))
        obtain ⟨i0, hi, hz0, hz1, hz2⟩ := info_op
        clear hcut hz hzo HD1 HR hkk hqq
        go_wp2_with (at_builtin; (refine wpList_append_rowL (C := ozC) rfl (.tmp 128) (.tmp 130) 23 rfl 0 56 i0 _ 88 Tryz.underlying23 hi hz0 hz1 hz2 rfl (.slice xa xl xc) xl (fl ozC xs) rfl HXR.out _ [z] rfl HZR.out (by simp) (by unfold maxLen; (try simp only [List.length_cons, List.length_nil]); omega) (by (try simp only [List.length_cons, List.length_nil]); omega) (Nat.zero_le _) ?_); intro g3 cap3 w3 hown hgrow hlies hlt; have HDX := Lib.hid (HB.out.push HXL.out hown hgrow hlies); clear hown hgrow hlies hlt)
        have HN := Lib.hid (show DLP w bm va c bs k' R.2.1 R.2.2 (some ⟨g3, 0, none⟩) (xl + 1) cap3 w3 from ⟨xs ++ [z], HDX.out, by rw [List.length_append, HXL.out]; rfl, by rw [List.map_append, List.map_singleton, HZO.out]; exact HGR.out.1, HGR.out.2, by omega⟩)
        go_wp2
        go_roundw
        case rel => exact ⟨k', R.2.1, R.2.2, _, _, _, by go_num, rfl, HN⟩
        case measure => simp [intOf]
    · have hE : k = 0 ∨ d = true := by
        by_cases h0 : k = 0
        · exact .inl h0
        · cases d
          · exact absurd ⟨by omega, rfl⟩ hgo
          · exact .inr rfl
      obtain ⟨hp, hst⟩ := ends hE HL.out.go HL.out.st
      have HDX := Lib.hid HL.out.x
      have HXL := Lib.hid HL.out.n
      clear HL hgo
      by_cases hbad : d = true ∨ q ≠ bs.length
      · have hd := dec_bad (ks := ks) HOK.out (by rw [← hst]; exact hbad)
        have HFIN := Lib.hid (show DecP w ks bs (.returned (.tuple #[.slice none 0 0, .int .i64 3])) wo from ⟨_, [], by rw [hd], by rw [hd]; rfl, Oown.nil _ _, HDX.out.bel⟩)
        clear hd hp hst HDX HXL
        by_cases hd2 : d = true
        · subst hd2
          clear hE hbad
          by_cases hk0 : 0 < k
          · obtain ⟨k', rfl⟩ : ∃ k', k = k' + 1 := ⟨k - 1, by omega⟩
            have dk : decide ((0 : Int) < ((k' + 1 : Nat) : Int)) = true := decide_eq_true (by omega)
            clear hk0
            go_wp2
            go_ret2
            exact HFIN.out
          · obtain rfl : k = 0 := by omega
            clear hk0
            go_wp2
            go_ret2
            exact HFIN.out
        · obtain rfl : d = false := by simpa using hd2
          obtain rfl : k = 0 := by rcases hE with h | h; · exact h
                                   · cases h
          have qn : ((q : Int) != (bs.length : Int)) = true := by
            rcases hbad with h | h
            · cases h
            · simp; omega
          clear hE hbad hd2
          go_wp2
          go_ret2
          exact HFIN.out
      · obtain ⟨rfl, rfl⟩ : d = false ∧ q = bs.length := by
          constructor
          · cases d
            · rfl
            · exact absurd (.inl rfl) hbad
          · by_cases h : q = bs.length
            · exact h
            · exact absurd (.inr h) hbad
        obtain rfl : k = 0 := by rcases hE with h | h; · exact h
                                 · cases h
        obtain ⟨⟨hxk, he⟩, hdec⟩ := dec_all (ks := ks) HOK.out (by rw [← hst]) (by rw [← hst])
        rw [← hp] at hxk he hdec
        obtain ⟨hw, htot⟩ := read_in hxk he hl
        have hlin := law_in hw htot
        have hms := may_same ks xs hlin.i.sm hlin.i.len
        have HM := Lib.hid (rmayE_any kv (.slice xa xl xc) ks xs wo (HKS.out.below HDX.out.bel (Nat.le_refl _)) HDX.out.x.orow hw hlin.i.sm hlin.a hlin.c)
        have HTM := Lib.hid (fun h => rm_tame (ks := ks) hlin.len h)
        rw [hms] at HM HTM
        have HLI := Lib.hid hlin
        have hway := mayX_ways ks (xs.map Oz.o)
        obtain ⟨m, hm⟩ : ∃ m, mayX ks (xs.map Oz.o) = m := ⟨_, rfl⟩
        rw [hm] at HM HTM hdec hway
        have HDEC := Lib.hid hdec
        clear hm hms hlin hw htot hxk he hdec hp hst hE hbad
        by_cases m3 : m = 3
        · have qm : (m == 3) = true := by simpa using m3
          have hd : decX 1073741824 ks bs = ([], 3) := by rw [HDEC.out, if_pos (.inl m3)]
          have HFIN := Lib.hid (fun W (hb : Below wo.heap.size wo W) => (show DecP w ks bs (.returned (.tuple #[.slice none 0 0, .int .i64 3])) W from ⟨_, [], by rw [hd], by rw [hd]; rfl, Oown.nil _ _, below_add HDX.out.bel hb HDX.out.bel.size⟩))
          clear hd HDEC HTM m3 hway
          go_wp2_with (go_at_call 22; (refine HM.out.mono ?_; rintro e w1 ⟨rfl, hb⟩; have HB1 := Lib.hid hb; clear hb))
          go_ret2
          exact HFIN.out _ HB1.out
        · have qm : (m == 3) = false := by simpa using m3
          have HIS := Lib.hid (fun W (hb : Below wo.heap.size wo W) => ris_any (.slice xa xl xc) xs W (HDX.out.x.orow.below hb) HLI.out (HTM.out m3))
          obtain ⟨b, hb⟩ : ∃ b, decide (formO (xs.map Oz.o) = xs.map Oz.o) = b := ⟨_, rfl⟩
          rw [hb] at HIS
          clear HTM
          cases b
          · have hd : decX 1073741824 ks bs = ([], 3) := by rw [HDEC.out, if_pos (.inr (of_decide_eq_false hb))]
            have HFIN := Lib.hid (fun W (hb : Below wo.heap.size wo W) => (show DecP w ks bs (.returned (.tuple #[.slice none 0 0, .int .i64 3])) W from ⟨_, [], by rw [hd], by rw [hd]; rfl, Oown.nil _ _, below_add HDX.out.bel hb HDX.out.bel.size⟩))
            clear hd HDEC m3 hway hb
            go_wp2_with (first
              | (go_at_call 22; (refine HM.out.mono ?_; rintro e w1 ⟨rfl, hb⟩; have HB1 := Lib.hid hb; clear hb))
              | (go_at_call 35; (refine (HIS.out _ HB1.out).mono ?_; rintro e w2 ⟨rfl, hb⟩; have HB2 := Lib.hid (below_add HB1.out hb HB1.out.size); clear hb)))
            go_ret2
            exact HFIN.out _ HB2.out
          · have hno : ¬ (m = 3 ∨ ¬ formO (xs.map Oz.o) = xs.map Oz.o) := fun h => by
              rcases h with h | h
              · exact m3 h
              · exact h (of_decide_eq_true hb)
            by_cases m0 : m = 0
            · subst m0
              have hd : decX 1073741824 ks bs = (xs.map Oz.o, 0) := by rw [HDEC.out, if_neg hno, if_neg (by omega)]
              have HFIN := Lib.hid (fun W (hb : Below wo.heap.size wo W) => (show DecP w ks bs (.returned (.tuple #[.slice xa xl xc, .int .i64 0])) W from ⟨_, xs, by rw [hd], by rw [hd], (HDX.out.x.below hb).mono (fun g hg => by have := HDX.out.hm; omega), below_add HDX.out.bel hb HDX.out.bel.size⟩))
              clear hd HDEC m3 hway hb hno
              go_wp2_with (first
                | (go_at_call 22; (refine HM.out.mono ?_; rintro e w1 ⟨rfl, hb⟩; have HB1 := Lib.hid hb; clear hb))
                | (go_at_call 35; (refine (HIS.out _ HB1.out).mono ?_; rintro e w2 ⟨rfl, hb⟩; have HB2 := Lib.hid (below_add HB1.out hb HB1.out.size); clear hb)))
              go_ret2
              exact HFIN.out _ HB2.out
            · obtain rfl : m = 4 := by omega
              have hd : decX 1073741824 ks bs = ([], 4) := by rw [HDEC.out, if_neg hno, if_pos rfl]
              have HFIN := Lib.hid (fun W (hb : Below wo.heap.size wo W) => (show DecP w ks bs (.returned (.tuple #[.slice none 0 0, .int .i64 4])) W from ⟨_, [], by rw [hd], by rw [hd]; rfl, Oown.nil _ _, below_add HDX.out.bel hb HDX.out.bel.size⟩))
              clear hd HDEC m3 m0 hway hb hno
              go_wp2_with (first
                | (go_at_call 22; (refine HM.out.mono ?_; rintro e w1 ⟨rfl, hb⟩; have HB1 := Lib.hid hb; clear hb))
                | (go_at_call 35; (refine (HIS.out _ HB1.out).mono ?_; rintro e w2 ⟨rfl, hb⟩; have HB2 := Lib.hid (below_add HB1.out hb HB1.out.size); clear hb)))
              go_ret2
              exact HFIN.out _ HB2.out
end Go.Proofs.YtohgopibimgjfaaGreat
