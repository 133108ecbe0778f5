
import Derived.Test.YthcakinllcffoaaH2
/- H3: Complete -/
namespace Go.Proofs.Ythcakinllcffoaa
open Go.RowKit
set_option linter.unusedVariables false

/-- The first j keys' part of what is gone. -/
def gonej (G : List Int) (rs : List Key) (j : Nat) : List Chg := ((rs.take j).filter fun k => decide (k.grp ∈ G)).map fun k => goneC k.id
theorem gonej_yes {G : List Int} {rs : List Key} {j : Nat} (hj : j < rs.length) (h : rs[j].grp ∈ G) : gonej G rs (j + 1) = gonej G rs j ++ [goneC rs[j].id] := by
  unfold gonej; rw [gone_step hj, if_pos h]
theorem gonej_no {G : List Int} {rs : List Key} {j : Nat} (hj : j < rs.length) (h : rs[j].grp ∉ G) : gonej G rs (j + 1) = gonej G rs j := by
  unfold gonej; rw [gone_step hj, if_neg h, List.append_nil]
theorem gonej_len (G : List Int) (rs : List Key) (j : Nat) : (gonej G rs j).length ≤ rs.length := by
  unfold gonej
  rw [List.length_map]
  exact Nat.le_trans (List.length_filter_le _ _) (by rw [List.length_take]; omega)
theorem gonej_end (ks : List Key) (G : List Int) : gonej G (rising ks) (rising ks).length = goneL ks G := by
  unfold gonej goneL; rw [tend]
theorem own6_nil (w0 w : World) : Own6 w0 w (.slice none 0 0) [] := World.ownsRow_nil _ _ _ _

set_option maxRecDepth 100000 in
theorem complete_bad (v u : Value) (ks : List Key) (p : List Chg) (w : World) (hs : Sch w v ks) (hp : Crow w u p) (hW : ∀ c ∈ p, ChgW c) (hn : ¬ (setsG ks p).Nodup) :
    Calls Try.prog 13 #[v, u] w fun e w' => e = .returned (.tuple #[.slice none 0 0, .int .i64 3]) ∧ Below w.heap.size w w' := by
  have HG := groups_any v u ks p w hs hp hW
  unfold GPost at HG
  rw [(cE_no hn).1] at HG
  have HG := Lib.hid HG
  clear hs hp hW hn
  go_enter Try.func13, Try.ntmps13
  go_wp2_with (first
    | (go_at_call 29; refine HG.out.mono ?_; rintro e w1 ⟨hb1, x, rfl, -⟩; have HB := Lib.hid (below_setRow (hb1.alloc hb1.size (.cells (rowB (gB [])) 71)) (show w.heap.size ≤ w1.heap.size from hb1.size) (rowB (gB x))))
    | (refine wpList_store_row rfl 71 (.tmp 6) (.tmp 15) rfl w1.heap.size (rowB (gB x)) rfl rfl _ _ (fat_new w1 []) (info_flags _) rfl (rowB_one _) ?_))
  go_ret2
  exact ⟨rfl, HB.out⟩

set_option maxRecDepth 100000 in
set_option maxHeartbeats 2000000 in
theorem complete_good (v u : Value) (ks : List Key) (p : List Chg) (w : World) (hs : Sch w v ks) (hp : Crow w u p) (hW : ∀ c ∈ p, ChgW c) (hl : p.length ≤ 1000000) (hn : (setsG ks p).Nodup) :
    Calls Try.prog 13 #[v, u] w fun e w' => ∃ u', e = .returned (.tuple #[u', .int .i64 0]) ∧ Own6 w w' u' (compl ks p) ∧ Below w.heap.size w w' := by
  have HG := groups_any v u ks p w hs hp hW
  unfold GPost at HG
  rw [(cE_yes hn).1] at HG
  have HG := Lib.hid HG
  have hrl := rising_length hs.1
  have hk64 := hs.few
  have hrg := fun k (h : k ∈ rising ks) => mayK_grp (hs.1.1 k ((rising_mem hs.1 k).1 h))
  have hend := gonej_end ks (setsG ks p)
  have HS := Lib.hid hs
  have HP := Lib.hid hp
  have hcm : compl ks p = comp (goneL ks (setsG ks p)) p := rfl
  rw [← hend] at hcm
  have HCM := Lib.hid hcm
  obtain ⟨i0, hi, hz0, hz1, hz2⟩ := info_ch
  have HK := Lib.hid (fun W (h : Sch W v ks) => keys_any v ks W h)
  clear hs hp hW hn hend hcm
  unfold KeysPost at HK
  generalize setsG ks p = G at *
  generalize rising ks = rs at *
  have hr64 : rs.length ≤ 64 := by omega
  clear hrl hk64
  go_enter Try.func13, Try.ntmps13
  go_wp2_with (first
    | (go_at_call 29; refine HG.out.mono ?_; rintro e w1 ⟨hb1, x, rfl, hx⟩; obtain rfl := hx rfl; have hB1 := below_setRow (hb1.alloc hb1.size (.cells (rowB (gB [])) 71)) (show w.heap.size ≤ w1.heap.size from hb1.size) (rowB (gB x)); have HB1 := Lib.hid hB1; have HF1 := Lib.hid (FAt.setRow (y := x) (fat_new w1 [])); clear hb1 hx hB1)
    | (refine wpList_store_row rfl 71 (.tmp 6) (.tmp 15) rfl w1.heap.size (rowB (gB x)) rfl rfl _ _ (fat_new w1 []) (info_flags _) rfl (rowB_one _) ?_)
    | (go_at_call 30; refine (HK.out _ (HS.out.below HB1.out (Nat.le_refl _))).mono ?_; rintro e w2 ⟨lv, rfl, hown2, hb2⟩; have HB2 := Lib.hid (below_add HB1.out hb2 HB1.out.size); have HF2 := Lib.hid (HF1.out.below hb2 HF1.out.lt); have HR2 := Lib.hid (Krow.of_owns hown2).1; clear hb2 hown2; obtain ⟨la, lcap, rfl⟩ := HR2.out.shape))
  have hf2 := HF2.out.lt
  generalize w1.heap.size = fb at *
  clear HF1
  go_loopw [8, 23] (fun s8 s23 wr => ∃ j : Nat, j ≤ rs.length ∧ s23 = .int .i64 j ∧ Hid (Grows6 w2 (gonej x rs j) s8 wr)) (fun _ s23 _ => rs.length - (intOf s23).toNat)
  case atStart => exact ⟨0, Nat.zero_le _, rfl, Lib.hid (grows6_nil _ _ (Below.refl _ _))⟩
  case round =>
    obtain ⟨j, hj, rfl, HR⟩ := hrel
    by_cases hlt : j < rs.length
    · obtain ⟨b, off, rfl, -, -, -, hbl, hat⟩ := HR2.out.opened (by omega)
      obtain ⟨c0, c1, c2, c3, c4, c5⟩ := (hat j hlt).below HR.out.2 hbl
      clear hat
      have hg := hrg rs[j] (List.getElem_mem hlt)
      have hll := gonej_len x rs j
      have Hy := Lib.hid (fun h => gonej_yes (G := x) hlt h)
      have Hn := Lib.hid (fun h => gonej_no (G := x) hlt h)
      generalize rs[j] = y at *
      generalize gonej x rs j = ls at *
      obtain ⟨y1, y2, y3, y4, y5, y6⟩ := y
      simp only at c0 c1 c2 c3 c4 c5 hg Hy Hn
      obtain ⟨n, rfl⟩ : ∃ n : Nat, y6 = (n : Int) := ⟨y6.toNat, by omega⟩
      have n9 : n < 9 := by omega
      have i1 : (n : Int) < 9 := by omega
      have i0' : (0 : Int) ≤ (n : Int) := by omega
      have hE : Below wr.heap.size wr (wr.alloc (.cells #[.int .i64 y1, .bool y2, .int .u8 y3, .bool y4, .bool y5, .int .i64 (n : Int)] 59)) := (Below.refl _ _).alloc (Nat.le_refl _) _
      have hq := ((HF2.out.below HR.out.2 hf2).alloc (.cells #[.int .i64 y1, .bool y2, .int .u8 y3, .bool y4, .bool y5, .int .i64 (n : Int)] 59)).cell n9
      have hsz := HR.out.2.size
      by_cases q : (n : Int) ∈ x
      · rw [decide_eq_true q] at hq
        have HQ := Lib.hid q
        clear q
        go_wp2_with (at_builtin; go_loud (refine wpList_append_row (C := chC) rfl (.tmp 31) (.tmp 35) 23 rfl w2.heap.size 49 i0 (cv noChg) 56 Try.underlying23 hi hz0 hz1 hz2 rfl _ _ _ rfl (owns_below HR.out.1 (hE.alloc hE.size _)) _ [goneC y1] rfl (crow_new1 wr _ (goneC y1) 49) (by unfold maxLen; simp; omega) (by simp; omega) (by simp; omega) ?_); intro v3 w3 hown3 hgrow3)
        have HC := Lib.hid (grows6_more HR.out (hE.alloc hE.size _) hown3 hgrow3)
        go_roundw
        case rel => exact ⟨j + 1, by omega, by go_num, by rw [Hy.out HQ.out]; exact HC⟩
        case measure => simp [intOf]; omega
      · rw [decide_eq_false q] at hq
        have HQ := Lib.hid q
        clear q
        go_wp2
        go_roundw
        case rel => exact ⟨j + 1, by omega, by go_num, by rw [Hn.out HQ.out]; exact Lib.hid (grows6_stay HR.out hE)⟩
        case measure => simp [intOf]; omega
    · obtain rfl : j = rs.length := by omega
      have hgl := gonej_len x rs rs.length
      have HM := Lib.hid (fun u' w' (h : Crow w' u' (gonej x rs rs.length)) (h2 : Crow w' u p) => compose_any u' u (gonej x rs rs.length) p w' h h2 (by omega))
      have HPr := Lib.hid ((HP.out.below HB2.out (Nat.le_refl _)).below HR.out.2 (Nat.le_refl _))
      have HBr := Lib.hid (below_add HB2.out HR.out.2 HB2.out.size)
      go_wp2_with (go_at_call 31; refine (HM.out _ _ (own6_row HR.out.1) HPr.out).mono ?_; rintro e w5 ⟨u5, rfl, ho5, hb5⟩)
      go_ret2
      exact ⟨_, rfl, by rw [HCM.out]; exact owns_mono ho5 HBr.out.size, below_add HBr.out hb5 HBr.out.size⟩
/-- Complete, whatever the patch. -/
theorem complete_any (v u : Value) (ks : List Key) (p : List Chg) (w : World) (hs : Sch w v ks) (hp : Crow w u p) (hW : ∀ c ∈ p, ChgW c) (hl : p.length ≤ 1000000) :
    Calls Try.prog 13 #[v, u] w fun e w' => ∃ u', e = .returned (.tuple #[u', .int .i64 (cE ks p)]) ∧ Own6 w w' u' (cL ks p) ∧ Below w.heap.size w w' := by
  by_cases hn : (setsG ks p).Nodup
  · rw [(cE_yes hn).1, (cE_yes hn).2]
    exact complete_good v u ks p w hs hp hW hl hn
  · rw [(cE_no hn).1, (cE_no hn).2]
    exact (complete_bad v u ks p w hs hp hW hn).mono fun e w' ⟨he, hb⟩ => ⟨_, he, own6_nil _ _, hb⟩
end Go.Proofs.Ythcakinllcffoaa
