
import Derived.Test.YtjgfgpkaeddjhaaOG
/- OH: Join -/
namespace Go.Proofs.Ytjgfgpkaeddjhaa
open Go.RowKit
set_option linter.unusedVariables false

/-- Two chunks' own rows, and a result's row. -/
structure J3 (w : World) (xs ys zs : List Int) (W : World) : Prop where
  p : RowAt w.heap.size 58 xs W
  o : RowAt (w.heap.size + 1) 58 ys W
  r : RowAt (w.heap.size + 2) 58 zs W
  bel : Below w.heap.size w W
theorem j3_new (w : World) (xs ys : List Int) : J3 w xs ys zero32 (((w.alloc (.cells (row xs) 58)).alloc (.cells (row ys) 58)).alloc (.cells (row zero32) 58)) :=
  ⟨((rowAt_new w 58 xs).alloc _).alloc _, by have := (rowAt_new (w.alloc (.cells (row xs) 58)) 58 ys).alloc (.cells (row zero32) 58); simpa using this,
   by have := rowAt_new ((w.alloc (.cells (row xs) 58)).alloc (.cells (row ys) 58)) 58 zero32; simpa using this,
   (((Below.refl _ _).alloc (Nat.le_refl _) _).alloc (by simp) _).alloc (by simp; omega) _⟩
theorem J3.below {w W W' : World} {xs ys zs : List Int} (h : J3 w xs ys zs W) (hb : Below W.heap.size W W') : J3 w xs ys zs W' := ⟨h.p.below hb, h.o.below hb, h.r.below hb, below_add h.bel hb h.bel.size⟩
theorem J3.lt {w W : World} {xs ys zs : List Int} (h : J3 w xs ys zs W) : w.heap.size + 2 < W.heap.size := h.r.lt
theorem J3.setr {w W : World} {xs ys zs : List Int} (h : J3 w xs ys zs W) (zs' : List Int) : J3 w xs ys zs' (W.setRow (w.heap.size + 2) (row zs')) := ⟨h.p.setRow_other (by omega) _, h.o.setRow_other (by omega) _, h.r.setRow, below_setRow h.bel (by omega) _⟩
theorem J3.setv {w W : World} {xs ys zs : List Int} (h : J3 w xs ys zs W) {g : Nat} (hg : w.heap.size + 2 < g) (vs : Array Value) : J3 w xs ys zs (W.setRow g vs) := ⟨h.p.setRow_other (by omega) _, h.o.setRow_other (by omega) _, h.r.setRow_other (by omega) _, below_setRow h.bel (by omega) _⟩
theorem J3.alloc {w W : World} {xs ys zs : List Int} (h : J3 w xs ys zs W) (o : Obj) : J3 w xs ys zs (W.alloc o) := h.below ((Below.refl _ _).alloc (Nat.le_refl _) _)
theorem J3.drew {w W : World} {xs ys zs : List Int} (h : J3 w xs ys zs W) : J3 w xs ys zs W.drew := h.below (below_drew W)

theorem results_join {W w : World} {xs ys zs : List Int} (hz : zs.length = 32) (h : J3 w xs ys zs W) (tm : Array Value) (h4 : tm.getD 4 undef = .pointer (some ⟨w.heap.size + 2, 0, none⟩)) {e : Int} (h5 : tm.getD 5 undef = .int .i64 e) :
    (results Try.f68 tm).run Try.prog W = .ok (.tuple #[.agg (row zs), .int .i64 e]) W := by
  have r4 := run_loadVar_row (P := Try.prog) W (w.heap.size + 2) _ 58 (row zs) _ _ h.r Try.underlying58 rfl (info_chunk32 zs hz)
  have h4' : tm[4]?.getD undef = .pointer (some ⟨w.heap.size + 2, 0, none⟩) := by simpa using h4
  have h5' : tm[5]?.getD undef = .int .i64 e := by simpa using h5
  simp [results, Try.results68, h4', h5', asAddr, r4]

theorem slots_zero {l : List Int} (h : Chunky l) : (slots l == zero32) = decide (l.length = 0) := by
  rw [← slots_nil, slots_beq h chunky_nil]
  cases l <;> simp

theorem join_long (l m : List Int) (hl : Chunky l) (hm : Chunky m) (hlm : 32 < l.length + m.length) (w : World) : Calls Try.prog 68 #[cv l, cv m] w fun e w' => e = .returned (.tuple #[.agg (row zero32), .int .i64 8]) ∧ Below w.heap.size w w' := by
  have HZ := Lib.hid zero32_len
  have H := Lib.hid (j3_new w (slots l) (slots m))
  have HN := Lib.hid (fun w => len_any l hl w)
  have HI := Lib.hid (info_chunk32 _ (slots_len hl.1))
  have HS := Lib.hid (info_slots32 _ (slots_len hm.1))
  obtain ⟨N, hN⟩ : ∃ N : Nat, (32 : Int) - l.length = N := ⟨32 - l.length, by have := hl.1; omega⟩
  have hNm : N < m.length := by omega
  have hN32 : N ≤ 32 := by omega
  have e2 := slots_bhd m hm.1 hN32
  have HG := Lib.hid (fun w => behind_any (slots m) (slots_len hm.1) N hN32 w)
  rw [e2] at HG
  have LL := Lib.hid (slots_len (hm.drop N).1)
  have hne : (slots (m.drop N) == zero32) = false := by rw [slots_zero (hm.drop N)]; simp; omega
  have hq := fun w => slots_neq (slots (m.drop N)) zero32 LL.out HZ.out w
  rw [hne] at hq
  unfold cv at *
  obtain ⟨xs, hxs⟩ : ∃ xs, slots l = xs := ⟨_, rfl⟩
  obtain ⟨ys, hys⟩ : ∃ ys, slots m = ys := ⟨_, rfl⟩
  obtain ⟨ls, hls⟩ : ∃ ls, slots (m.drop N) = ls := ⟨_, rfl⟩
  rw [hxs] at H HN HI ⊢
  rw [hys] at H HS HG ⊢
  rw [hls] at HG LL hq
  obtain ⟨LR, hLR⟩ : ∃ LR, row ls = LR := ⟨_, rfl⟩
  rw [hLR] at hq
  simp only [row, zero32, List.replicate, List.map] at hq
  have HLI := Lib.hid (show (Try.prog.info? 56).map (·.size) = some LR.size by rw [← hLR]; exact info_slots32 _ LL.out)
  have HL1 := Lib.hid (show LR.all (·.oneCell') = true by rw [← hLR]; exact row_one _)
  have HLS := Lib.hid (show LR.size = 32 by rw [← hLR, row_size]; exact LL.out)
  have HLR := Lib.hid hLR
  clear hxs hys hls hl hm e2 hne hLR
  go_enter Try.func68, Try.ntmps68
  go_wp2_with (first
    | (refine wpList_load_roww 58 (.tmp 2) rfl w.heap.size rfl (by rfl) _ _ _ _ H.out.p Try.underlying58 rfl HI.out ?_)
    | (go_at_call 47; refine (HN.out _).mono ?_; rintro e w1 ⟨rfl, b1⟩; have K := Lib.hid (H.out.below b1); clear b1 H)
    | (refine wpList_load_roww 56 (.tmp 11) rfl (w.heap.size + 1) rfl (by rfl) _ _ _ _ K.out.o Try.underlying56 rfl HS.out ?_)
    | (go_at_call 90; refine (HG.out _).mono ?_; rintro e w2 ⟨rfl, b2⟩; have K2 := Lib.hid ((K.out.below b2).alloc (.cells (row zero32) 56)); have R2 := Lib.hid (rowAt_new w2 56 zero32); have hlt := Lib.hid (K.out.below b2).lt; rw [HLR.out]; have K3 := Lib.hid (K2.out.setv hlt.out LR); have R3 := Lib.hid (setRow_heap _ _ _ LR _ _ R2.out); have K4 := Lib.hid (K3.out.setr zero32); clear b2 K)
    | (refine wpList_store_row rfl 56 (.tmp 7) (.tmp 15) rfl w2.heap.size LR rfl rfl _ _ R2.out HLI.out (by rw [row_size, HLS.out]; rfl) HL1.out ?_)
    | (refine wpList_load_roww 56 (.tmp 7) rfl w2.heap.size rfl (by rfl) _ _ _ _ R3.out Try.underlying56 rfl HLI.out ?_)
    | (refine wpList_store_row rfl 58 (.tmp 4) (.tmp 19) rfl (w.heap.size + 2) (row zero32) rfl rfl _ _ K3.out.r (info_chunk32 _ HZ.out) rfl (row_one _) ?_))
  exact bodyPost_ret (results_join HZ.out K4.out _ rfl rfl) rfl ⟨rfl, K4.out.bel⟩
theorem join_splice (l m : List Int) (hl : l.length ≤ 32) (hm : m.length ≤ 32) {N : Nat} (hN : N = 32 - l.length) (hlm : l.length + m.length ≤ 32) :
    splice ((slots l).map (Value.int .i32)) l.length (((slots m).take N).map (Value.int .i32)) = (slots (l ++ m)).map (Value.int .i32) := by
  have h1 : ((slots m).take N).length = 32 - l.length := by rw [List.length_take, slots_len hm]; omega
  have h2 : (slots l).drop (l.length + (32 - l.length)) = [] := List.drop_eq_nil_of_le (by rw [slots_len hl]; omega)
  unfold splice
  rw [List.length_map, h1, ← List.map_take, ← List.map_drop, h2, List.map_nil, List.append_nil, ← List.map_append]
  congr 1
  subst hN
  unfold slots
  rw [List.take_append_of_le_length (by simp), List.take_of_length_le (by simp), List.take_append, List.length_map, List.take_of_length_le (by simp; omega), List.take_replicate, List.map_append, List.length_append, List.append_assoc]
  congr 3
  omega
theorem rowAt_next (w2 : World) (zs : List Int) (LR : Array Value) : RowAt (w2.heap.size + 1) 56 zs ((((w2.alloc (.cells (row zero32) 56))).setRow w2.heap.size LR).alloc (.cells (row zs) 56)) := by
  have := rowAt_new (((w2.alloc (.cells (row zero32) 56))).setRow w2.heap.size LR) 56 zs
  simpa using this

theorem join_fit (l m : List Int) (hl : Chunky l) (hm : Chunky m) (hlm : l.length + m.length ≤ 32) (w : World) : Calls Try.prog 68 #[cv l, cv m] w fun e w' => e = .returned (.tuple #[cv (l ++ m), .int .i64 0]) ∧ Below w.heap.size w w' := by
  have HZ := Lib.hid zero32_len
  have H := Lib.hid (j3_new w (slots l) (slots m))
  have HN := Lib.hid (fun w => len_any l hl w)
  have HI2 := Lib.hid (info_slots32 _ (slots_len hl.1))
  have HI := Lib.hid (info_chunk32 _ (slots_len hl.1))
  have HS := Lib.hid (info_slots32 _ (slots_len hm.1))
  obtain ⟨N, hN⟩ : ∃ N : Nat, (32 : Int) - l.length = N := ⟨32 - l.length, by have := hl.1; omega⟩
  have hNm : m.length ≤ N := by omega
  have hN32 : N ≤ 32 := by omega
  have e2 := slots_bhd m hm.1 hN32
  have HG := Lib.hid (fun w => behind_any (slots m) (slots_len hm.1) N hN32 w)
  rw [e2] at HG
  have LL := Lib.hid (slots_len (hm.drop N).1)
  have hne : (slots (m.drop N) == zero32) = true := by rw [slots_zero (hm.drop N)]; simp; omega
  have hq := fun w => slots_neq (slots (m.drop N)) zero32 LL.out HZ.out w
  rw [hne] at hq
  have LM := Lib.hid (slots_len (hl.app hm hlm).1)
  have HX := Lib.hid (slots_len hl.1)
  have HC := Lib.hid (show (((slots m).take N).map (Value.int .i32)).length = N by simp [slots_len hm.1]; omega)
  have HSP := Lib.hid (join_splice l m hl.1 hm.1 (show N = 32 - l.length by omega) hlm)
  have n0 : (0 : Int) ≤ (l.length : Int) := by omega
  have n1 : (l.length : Int) ≤ 32 := by omega
  unfold cv at *
  obtain ⟨xs, hxs⟩ : ∃ xs, slots l = xs := ⟨_, rfl⟩
  obtain ⟨ys, hys⟩ : ∃ ys, slots m = ys := ⟨_, rfl⟩
  obtain ⟨js, hjs⟩ : ∃ js, slots (l ++ m) = js := ⟨_, rfl⟩
  obtain ⟨ls, hls⟩ : ∃ ls, slots (m.drop N) = ls := ⟨_, rfl⟩
  rw [hxs] at H HN HI HI2 HX HSP ⊢
  rw [hys] at H HS HG HC HSP ⊢
  rw [hls] at HG LL hq
  rw [hjs] at LM HSP ⊢
  obtain ⟨LR, hLR⟩ : ∃ LR, row ls = LR := ⟨_, rfl⟩
  rw [hLR] at hq
  simp only [row, zero32, List.replicate, List.map] at hq
  have HLI := Lib.hid (show (Try.prog.info? 56).map (·.size) = some LR.size by rw [← hLR]; exact info_slots32 _ LL.out)
  have HL1 := Lib.hid (show LR.all (·.oneCell') = true by rw [← hLR]; exact row_one _)
  have HLS := Lib.hid (show LR.size = 32 by rw [← hLR, row_size]; exact LL.out)
  have HLR := Lib.hid hLR
  clear hxs hys hls hjs hl hm e2 hne hLR
  go_enter Try.func68, Try.ntmps68
  go_wp2_with (first
    | (refine wpList_load_roww 58 (.tmp 2) rfl w.heap.size rfl (by rfl) _ _ _ _ H.out.p Try.underlying58 rfl HI.out ?_)
    | (go_at_call 47; refine (HN.out _).mono ?_; rintro e w1 ⟨rfl, b1⟩; have K := Lib.hid (H.out.below b1); clear b1 H)
    | (refine wpList_load_roww 56 (.tmp 11) rfl (w.heap.size + 1) rfl (by rfl) _ _ _ _ K.out.o Try.underlying56 rfl HS.out ?_)
    | (go_at_call 90; refine (HG.out _).mono ?_; rintro e w2 ⟨rfl, b2⟩; have K2 := Lib.hid ((K.out.below b2).alloc (.cells (row zero32) 56)); have R2 := Lib.hid (rowAt_new w2 56 zero32); have hlt := Lib.hid (K.out.below b2).lt; rw [HLR.out]; have K3 := Lib.hid (K2.out.setv hlt.out LR); have R3 := Lib.hid (setRow_heap _ _ _ LR _ _ R2.out); have K5 := Lib.hid (K3.out.alloc (.cells (row zero32) 56)); have R5 := Lib.hid (rowAt_next w2 zero32 LR)
       have K6 := Lib.hid (K5.out.setv (show w.heap.size + 2 < w2.heap.size + 1 by have := hlt.out; omega) (row xs)); have R6 := Lib.hid (R5.out.setRow (ys := xs)); clear b2 K)
    | (refine wpList_store_row rfl 56 (.tmp 7) (.tmp 15) rfl w2.heap.size LR rfl rfl _ _ R2.out HLI.out (by rw [row_size, HLS.out]; rfl) HL1.out ?_)
    | (refine wpList_load_roww 56 (.tmp 7) rfl w2.heap.size rfl (by rfl) _ _ _ _ R3.out Try.underlying56 rfl HLI.out ?_)
    | (refine wpList_load_roww 56 (.tmp 20) rfl w.heap.size rfl (by rfl) _ _ _ _ K3.out.p Try.underlying56 rfl HI2.out ?_)
    | (refine wpList_store_row rfl 56 (.tmp 8) (.tmp 21) rfl (w2.heap.size + 1) (row xs) rfl rfl _ _ R5.out HI2.out (by rw [row_size, row_size, HX.out]; rfl) (row_one _) ?_))
  refine with_world (fun W => J3 w xs ys zero32 W ∧ RowAt (w2.heap.size + 1) 56 xs W) ⟨K6.out, R6.out⟩ fun W hW => ?_
  have H7 := Lib.hid hW
  clear hW
  obtain ⟨A, hA⟩ : ∃ A : Addr, (if 32 = l.length then (⟨w2.heap.size + 1, 0, none⟩ : Addr) else ⟨w2.heap.size + 1, l.length, none⟩) = A := ⟨_, rfl⟩
  have HA := Lib.hid (show l.length < 32 → A = ⟨w2.heap.size + 1, l.length, none⟩ from fun h => by rw [← hA, if_neg (by omega)])
  go_region_law
    (refine step_copy_splice rfl (.tmp 23) (.tmp 25) 22 22 rfl 21 Try.underlying22 size32 _ _ _ _ _ _ rfl rfl (w2.heap.size + 1) l.length (xs.map (Value.int .i32)) 56 H7.out.2 ((ys.take N).map (Value.int .i32)) (by rw [HC.out]; show N = min 32 (32 - l.length); omega) (fun hp => ⟨congrArg some (HA.out (by rw [HC.out] at hp; omega)), _, rfl, fun j v hv => row_cell (off := 0) (n := N) H7.out.1.o (by simpa using hv)⟩) (by rw [HC.out, List.length_map, HX.out]; omega) (ints_cells _) (w2.heap.size + 1) _ (Below.refl _ _) (Nat.le_refl _) ?_; intro w4 hg4 hb4'; have hb4 := (below_drew W).trans hb4'; clear hb4')
  have R8 : Hid (RowAt (w2.heap.size + 1) 56 js w4) := Lib.hid (by have := hg4.out; rw [HSP.out] at this; exact this)
  have hlt2 := hlt.out
  have K8 : Hid (J3 w xs ys zero32 w4) := Lib.hid ⟨H7.out.1.p.under hb4 (show w.heap.size < w2.heap.size + 1 by omega), H7.out.1.o.under hb4 (show w.heap.size + 1 < w2.heap.size + 1 by omega), H7.out.1.r.under hb4 (show w.heap.size + 2 < w2.heap.size + 1 by omega), H7.out.1.bel.trans (hb4.mono (by omega))⟩
  have K9 := Lib.hid (K8.out.setr js)
  have BJ := fold_row js LM.out
  have SJ := show (row js).size = 32 by rw [row_size, LM.out]
  have IJ := Lib.hid (info_slots32 _ LM.out)
  clear hg4 hb4 H7 HC HSP hq hA HA hN hlt2
  go_wp2_with (first
    | (refine wpList_load_roww 56 (.tmp 8) rfl (w2.heap.size + 1) rfl (by rfl) _ _ _ _ R8.out Try.underlying56 rfl IJ.out ?_)
    | (refine wpList_store_row rfl 58 (.tmp 4) (.tmp 28) rfl (w.heap.size + 2) (row js) rfl rfl _ _ K8.out.r (info_chunk32 _ LM.out) (by rw [row_size, row_size, LM.out]; rfl) (row_one _) ?_))
  exact bodyPost_ret (results_join LM.out K9.out _ rfl rfl) rfl ⟨rfl, K9.out.bel⟩
end Go.Proofs.Ytjgfgpkaeddjhaa
