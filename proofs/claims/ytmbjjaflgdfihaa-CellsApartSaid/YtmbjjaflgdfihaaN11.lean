
import Derived.Test.YtmbjjaflgdfihaaN10
/- N11: an op made longer -/
namespace Go.Proofs.Ytmbjjaflgdfihaa
open Go.RowKit
set_option linter.unusedVariables false
set_option maxRecDepth 100000

/-- What is asked of the two. -/
structure Lg (y z : Oz) : Prop where
  k : y.k = z.k
  r : y.k = 2 → 0 < z.rs.length ∧ y.rs.length + z.rs.length ≤ 100663296
  n : y.k ≠ 2 → 1 ≤ y.n ∧ y.n ≤ 9223372036854775807 ∧ 1 ≤ z.n ∧ z.n ≤ 9223372036854775807
theorem grown_keep {w w' : World} {row : Option Nat} (hg : w.grownBy w' row) {g o : Nat} {u : Value} (hc : w.cell? ⟨g, o, none⟩ = some u) (hf : w.frozen? ⟨g, o, none⟩ = false) (hn : some g ≠ row) : w'.cell? ⟨g, o, none⟩ = some u ∧ w'.frozen? ⟨g, o, none⟩ = false := by
  have e := hg.block g (World.block_lt_of_cell? _ _ hc) hn
  simp only [World.cell?, World.frozen?, e] at *
  exact ⟨hc, hf⟩
set_option maxHeartbeats 2000000 in
theorem lengthen_any {F : Nat → Prop} (g n c j : Nat) (zs : List Oz) (z : Oz) (w : World) (h : Oown F w (.slice (some ⟨g, 0, none⟩) n c) zs) (hj : j < zs.length) (hz : OpOk w z) (hl : Lg zs[j] z) :
    Calls Try.prog 52 #[.pointer (some ⟨g, j * 5, none⟩), z.v] w fun e w' => e = .returned (.tuple #[]) ∧ ∃ y', y'.o = long zs[j].o z.o ∧ Oown (fun k => F k ∨ w.heap.size ≤ k) w' (.slice (some ⟨g, 0, none⟩) n c) (zs.set j y') ∧ Off F w w' := by
  have HH := Lib.hid h
  obtain ⟨bb, off, e, -, hcap, hm, hbl, hat⟩ := h.orow.row.ats (by omega)
  injection e with e
  injection e with e1 e2
  subst e1 e2
  have hat0 := hat j hj
  rw [Nat.zero_add] at hat0
  have hfz : w.frozen? ⟨g, j * 5 + 1, none⟩ = false ∧ w.frozen? ⟨g, j * 5 + 2, none⟩ = false := by
    obtain ⟨cur, hcur⟩ := own_tag h.row rfl
    have : Cb g 51 cur w := hcur
    exact ⟨this.frozen _, this.frozen _⟩
  have hown := h.own _ (List.getElem_mem hj)
  have HT1 := Lib.hid (fun q => fl_turn hj q)
  have HTR := Lib.hid (fun w3 hO z' hz' hr q u hfl => Oown.turn (F' := fun k => F k ∨ w.heap.size ≤ k) HH.out rfl hj (w3 := w3) hO z' hz' (fun k h => .inl h) hr q u hfl)
  clear hat
  generalize zs[j] = y at *
  obtain ⟨c0, c1, c2, c3, c4⟩ := hat0
  obtain ⟨i0, hi, hz0, hz1, hz2⟩ := info_i32
  by_cases hk : y.k = 2
  · obtain ⟨hzr, hsum⟩ := hl.r hk
    have q1 : (y.k == 2) = true := by simpa using hk
    obtain ⟨bz, oz, hra, -, -, -, hcz⟩ := hz.r.opened hzr
    obtain ⟨zk, zn, zra, zrc, zrs, zsa, zsc, zst, zpa, zpc, zpt⟩ := z
    simp only at hra hcz hzr hsum
    subst hra
    have HB := Lib.hid ((kbelow_one w (.cells (opcs zk zn (some ⟨bz, oz, none⟩) zrs.length zrc zsa zst.length zsc zpa zpt.length zpc) 51)).drew)
    have HOW := Lib.hid (owns_below hown.r HB.out)
    have HCZ := Lib.hid (show ∀ (i : Nat) u, (zrs.map (Value.int .i32))[i]? = some u → (w.alloc (.cells (opcs zk zn (some ⟨bz, oz, none⟩) zrs.length zrc zsa zst.length zsc zpa zpt.length zpc) 51)).drew.cell? ((⟨bz, oz, none⟩ : Addr).add i) = some u from fun i u hu => by
      have hil : i < zrs.length := by have := (List.getElem?_eq_some_iff.1 hu).1; simpa using this
      have hc := hcz i hil
      rw [Go.WideShapes.add_plain, HB.out.cell (World.block_lt_of_cell? _ _ hc), hc, ← hu]
      simp [List.getD, hil])
    have hc2 := (HB.out.cell (p := ⟨g, j * 5 + 2, none⟩) hbl).trans c2
    have hf2 := (HB.out.frozen (p := ⟨g, j * 5 + 2, none⟩) hbl).trans hfz.2
    have HO := Lib.hid (show ∀ w3, (w.alloc (.cells (opcs zk zn (some ⟨bz, oz, none⟩) zrs.length zrc zsa zst.length zsc zpa zpt.length zpc) 51)).drew.grownBy w3 y.rv.ownBlock → Off (fun k => y.rv.ownBlock = some k) w w3 from fun w3 hg => (Off.of_below HB.out).seq (Off.of_grown hg (fun g hg => hg)))
    have HNG := Lib.hid (show some g ≠ y.rv.ownBlock from fun e => tag_ne hown.r HH.out.row (by decide) e.symm rfl)
    have HYS := Lib.hid (And.intro hown.s (And.intro hown.p (And.intro hown.fs (And.intro hown.fp hown.fr))))
    clear hcz hown hz hl
    go_enter Try.func52, Try.ntmps52
    go_wp2
    go_region_law
      ((refine step_append_lies _ (by rfl) (.tmp 13) (.tmp 15) 36 (by rfl) 0 21 i0 (.int .i32 0) 1 4 Try.underlying36 hi hz0 hz1 hz2 (by rfl) (by decide) y.rv y.rs.length (y.rs.map (Value.int .i32)) (by rfl) HOW.out ⟨bz, oz, none⟩ zrs.length zrc (zrs.map (Value.int .i32)) (by rfl) (by simp) HCZ.out (ints_cells _) hzr (by unfold maxLen; omega) (by omega) (Nat.zero_le _) _ rfl ?_; intro g3 cap w3 hown3 hgrow3 hat3 hlt3; obtain ⟨hwc, hwf⟩ := grown_keep hgrow3 hc2 hf2 HNG.out))
    all_goals
      go_wp2
      (try simp only [Exit.inBlock, Exit.then])
      refine bodyPost_ret (results_none rfl _ _ _) rfl ?_
      have hs := HYS.out
      have hlen : (y.rs ++ zrs).length = y.rs.length + zrs.length := List.length_append
      refine ⟨rfl, ⟨y.k, y.n, some ⟨g3, 0, none⟩, cap, y.rs ++ zrs, y.sa, y.sc, y.st, y.pa, y.pc, y.pt⟩, ?_, ?_⟩
      · unfold long Oz.o
        rw [if_pos hk]
      · have hz' : OpOwn (fun k => F k ∨ w.heap.size ≤ k) w3 ⟨y.k, y.n, some ⟨g3, 0, none⟩, cap, y.rs ++ zrs, y.sa, y.sc, y.st, y.pa, y.pc, y.pt⟩ := by
          refine ⟨?_, own_far2 (owns_below hs.1 HB.out) HOW.out (by decide) hgrow3, own_far2 (owns_below hs.2.1 HB.out) HOW.out (by decide) hgrow3, fun k hk => ?_, fun k hk => .inl (hs.2.2.1 k hk), fun k hk => .inl (hs.2.2.2.1 k hk)⟩
          · simp only [Oz.rv, hlen, List.map_append]
            exact hown3
          · injection hk with hk
            subst hk
            rcases hat3 with hh | hh
            · exact .inl (hs.2.2.2.2 _ hh)
            · exact .inr (by rw [hh]; simp)
        have hr' : ∀ k, (Oz.rv ⟨y.k, y.n, some ⟨g3, 0, none⟩, cap, y.rs ++ zrs, y.sa, y.sc, y.st, y.pa, y.pc, y.pt⟩).ownBlock = some k → y.rv.ownBlock = some k ∨ w.heap.size ≤ k := fun k hk => by
          injection hk with hk
          subst hk
          rcases hat3 with hh | hh
          · exact .inl hh
          · exact .inr (by rw [hh]; simp)
        have hfin := HTR.out w3 (HO.out w3 hgrow3) _ hz' hr' 2 (.slice (some ⟨g3, 0, none⟩) (y.rs.length + zrs.length) cap) (HT1.out 2 (by decide) _ _ (by rw [← hlen]; rfl))
        exact hfin
  · obtain ⟨hy1, hy2, hz3, hz4⟩ := hl.n hk
    have q1 : (y.k == 2) = false := by simpa using hk
    obtain ⟨zk, zn, zra, zrc, zrs, zsa, zsc, zst, zpa, zpc, zpt⟩ := z
    simp only at hz3 hz4
    have HB := Lib.hid ((kbelow_one w (.cells (opcs zk zn zra zrs.length zrc zsa zst.length zsc zpa zpt.length zpc) 51)).drew)
    have hc2 := (HB.out.cell (p := ⟨g, j * 5 + 1, none⟩) hbl).trans c1
    have hf2 := (HB.out.frozen (p := ⟨g, j * 5 + 1, none⟩) hbl).trans hfz.1
    have w1 : IntKind.i64.wrap (9223372036854775807 - y.n) = 9223372036854775807 - y.n := by rw [IntKind.wrap_i64]; omega
    have hm1 : IntKind.i64.wrap (y.n + min zn (9223372036854775807 - y.n)) = y.n + min zn (9223372036854775807 - y.n) := by rw [IntKind.wrap_i64]; omega
    have HFIN := Lib.hid (fun m (hm : m = y.n + min zn (9223372036854775807 - y.n)) => (show ∃ y' : Oz, y'.o = long y.o ⟨zk, zn, zrs, zst, zpt⟩ ∧ Oown (fun k => F k ∨ w.heap.size ≤ k) ((w.setCell ⟨g, j * 5 + 1, none⟩ (.int .i64 m)).alloc (.cells (opcs zk zn zra zrs.length zrc zsa zst.length zsc zpa zpt.length zpc) 51)).drew (.slice (some ⟨g, 0, none⟩) n c) (zs.set j y') ∧ Off F w ((w.setCell ⟨g, j * 5 + 1, none⟩ (.int .i64 m)).alloc (.cells (opcs zk zn zra zrs.length zrc zsa zst.length zsc zpa zpt.length zpc) 51)).drew from by
      obtain ⟨q2, q3⟩ := HTR.out w (Off.refl _ _) ⟨y.k, m, y.ra, y.rc, y.rs, y.sa, y.sc, y.st, y.pa, y.pc, y.pt⟩ ⟨hown.r, hown.s, hown.p, fun k hk => .inl (hown.fr k hk), fun k hk => .inl (hown.fs k hk), fun k hk => .inl (hown.fp k hk)⟩ (fun k hk => .inl hk) 1 (.int .i64 m) (HT1.out 1 (by decide) _ _ rfl)
      have hb3 := (kbelow_one (w.setCell ⟨g, j * 5 + 1, none⟩ (.int .i64 m)) (.cells (opcs zk zn zra zrs.length zrc zsa zst.length zsc zpa zpt.length zpc) 51)).drew
      exact ⟨⟨y.k, m, y.ra, y.rc, y.rs, y.sa, y.sc, y.st, y.pa, y.pc, y.pt⟩, by unfold long Oz.o; rw [if_neg hk, hm], q2.below hb3, q3.below_r hb3⟩))
    clear hown hz hl hfz
    go_enter Try.func52, Try.ntmps52
    go_wp2
    go_region_law (fail)
    all_goals
      go_wp2
      go_end0
      exact ⟨rfl, HFIN.out _ (by first | exact hm1 | rfl)⟩
end Go.Proofs.Ytmbjjaflgdfihaa
