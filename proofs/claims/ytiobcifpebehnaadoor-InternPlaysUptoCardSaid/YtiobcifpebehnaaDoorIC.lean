
import Derived.Test.YtiobcifpebehnaaDoorIB
import Derived.Deep.RegionHeld3
import Derived.Test.YtiobcifpebehnaaDoorA16
/- I10 -/
/- I10: Hold; what goes -/
namespace Go.Proofs.YtiobcifpebehnaaDoor
open Go.RowKit
set_option linter.unusedVariables false

/-- A table of blocks of S, from B on, at block tb. -/
def Tb (B : Nat) (S : Nat → Prop) (tb : Nat) (T : TabS) (n : Nat) (w : World) : Prop := ∃ st mb m sv fv hs D, TbM B S tb st mb m sv fv hs D T n w
theorem TbM.num {B : Nat} {S : Nat → Prop} {tb st mb : Nat} {m : Option Nat} {sv fv : Value} {hs : List HV} {D : DataW Unit} {T : TabS} {n : Nat} {w : World} (h : TbM B S tb st mb m sv fv hs D T n w) {i : Nat} (hi : i < T.es.length) : ∃ x, hs[i]? = some x ∧ x.n = T.times i := by
  have hlt : i < hs.length := by rw [h.len]; exact hi
  have hx : hs[i]? = some hs[i] := List.getElem?_eq_getElem hlt
  exact ⟨_, hx, h.hn i _ hx⟩
/-- Another number at a live place. -/
theorem TbM.renum {B : Nat} {S : Nat → Prop} {tb st mb : Nat} {m : Option Nat} {fv : Value} {hs : List HV} {D : DataW Unit} {T : TabS} {n : Nat} {w : World} {g cap : Nat} (h : TbM B S tb st mb m (.slice (some ⟨g, 0, none⟩) T.es.length cap) fv hs D T n w) {i q : Nat} (hl : T.live i) (hq : i = 0 ∨ 0 < q) (hqn : q ≤ n + 1) :
    Tb B S tb (T.upd i ⟨T.set i, q⟩) (n + 1) (w.setCell ⟨g, i * 2 + 1, none⟩ (.int .i64 (q : Nat))) ∧ Off S w (w.setCell ⟨g, i * 2 + 1, none⟩ (.int .i64 (q : Nat))) := by
  obtain ⟨x, hx, -⟩ := h.num (live_lt hl h.ok.pos)
  exact ⟨⟨_, _, _, _, _, _, _, h.poke hx hl hq hqn (by omega)⟩, Off.of_grown (grown_set _) (fun g' hg' => by cases hg'; exact h.sSv _ rfl)⟩

section
variable {B : Nat} {S : Nat → Prop} {tb : Nat} {T : TabS} {n : Nat}
def HoldP (B : Nat) (S : Nat → Prop) (tb : Nat) (T : TabS) (n : Nat) (id : Int) (w : World) (e : Ending) (w' : World) : Prop :=
  (T.has id = true ∧ e = .returned (.int .i64 0) ∧ Tb B S tb (T.bump id.toNat) (n + 1) w' ∧ Off S w w') ∨ (T.has id = false ∧ e = .returned (.int .i64 5) ∧ w' = w)
theorem hold_any (id : Int) (w : World) (h : Tb B S tb T n w) (hn : n ≤ 1000000) :
    Calls Tryd.prog 18 #[.pointer (some ⟨tb, 0, none⟩), .int .i64 id] w (HoldP B S tb T n id w) := by
  obtain ⟨st, mb, m, sv, fv, hs, D, h⟩ := h
  obtain ⟨g, cap, rfl, hg, hcap⟩ := h.form
  have HF := Lib.hid (find7_any id w h hn)
  unfold HoldP
  unfold fndP at HF
  cases hh : T.has id with
  | true =>
    obtain ⟨j, rfl, hl⟩ := has_live hh
    have hj := live_lt hl h.ok.pos
    obtain ⟨x, hx, -, ct, -, ft, -⟩ := h.place hj
    rw [hh, if_pos rfl, Int.toNat_natCast] at HF
    rw [Int.toNat_natCast]
    have hq : T.times j ≤ 1000000 := Nat.le_trans (h.le.times j) hn
    have HP := Lib.hid (h.renum (q := T.times j + 1) hl (.inr (by omega)) (by have := h.le.times j; omega))
    have hbump : T.bump j = T.upd j ⟨T.set j, T.times j + 1⟩ := rfl
    rw [hbump]
    generalize T.times j = q at *
    clear h hh hl hx hbump
    go_enter Tryd.func18, Tryd.ntmps18
    go_wp2_with (go_at_call 36; refine HF.out.mono ?_; rintro e w1 ⟨rfl, rfl⟩)
    go_ret
    exact .inl ⟨trivial, rfl, HP.out⟩
  | false =>
    rw [hh] at HF
    simp only [Bool.false_eq_true, if_false] at HF
    clear h hh
    go_enter Tryd.func18, Tryd.ntmps18
    go_wp2_with (go_at_call 36; refine HF.out.mono ?_; rintro e w1 ⟨rfl, rfl⟩)
    go_ret
    exact .inr ⟨trivial, rfl, rfl⟩
end

theorem keyedStr : Maps.Keyed Tryd.prog 9 := Maps.string_keyed Tryd.underlying9
theorem strKey {s : List UInt8} (h : s.length ≤ maxLen) : keyOf Tryd.prog 9 (.string ⟨s.toArray⟩) = some (.string s) := by
  have := WideMaps.keyOf_string_mk (P := Tryd.prog) (k := 9) Tryd.underlying9 (s := ⟨s.toArray⟩) (by simpa [ByteArray.size] using h)
  simpa using this

@[reducible] def DrS (st mb g i L cap : Nat) (x : HV) (w : World) : Prop :=
  w.cell? ⟨st, 1, none⟩ = some (.map (some mb)) ∧ w.cell? ⟨st, 2, none⟩ = some (.slice (some ⟨g, 0, none⟩) L cap) ∧ w.cell? ⟨g, i * 2, none⟩ = some (.slice x.a x.l x.c)
theorem Mem.drs {B : Nat} {S : Nat → Prop} {tb st mb : Nat} {m : Option Nat} {fv : Value} {hs : List HV} {sets : Nat → List Att} {fr : List Nat} {ks : List Key} {k : Nat} {D : DataW Unit} {w : World} {g cap : Nat} (h : Mem B S tb st mb m (.slice (some ⟨g, 0, none⟩) hs.length cap) fv hs sets fr ks k D w) {i : Nat} {x : HV} (hx : hs[i]? = some x) : DrS st mb g i hs.length cap x w :=
  ⟨h.cells.2.2.1, h.cells.2.2.2.1, (h.place hx).1⟩

set_option maxRecDepth 100000 in
set_option maxHeartbeats 1000000 in
theorem drop_any {B : Nat} {S : Nat → Prop} {tb st mb : Nat} {m : Option Nat} {sv fv : Value} {hs : List HV} {sets : Nat → List Att} {fr : List Nat} {ks : List Key} {k : Nat} {D : DataW Unit} {w : World}
    (h : Mem B S tb st mb m sv fv hs sets fr ks k D w) {i : Nat} {x : HV} (hx : hs[i]? = some x) (hS : Small (sets i)) (ht : Tab B w) (hf : fr.length ≤ 1000000) (hl : hs.length ≤ 1000001) :
    Calls Tryd.prog 37 #[.pointer (some ⟨st, 0, none⟩), .int .i64 (i : Nat)] w fun e w' => e = .returned (.tuple #[]) ∧
      (∃ sv' fv', Mem B (fun k => S k ∨ w.heap.size ≤ k) tb st mb m sv' fv' (hs.set i ⟨none, 0, 0, x.n⟩) (fun j => if j = i then [] else sets j) (fr ++ [i]) ks k (D.del (.string (txt (sets i)))) w') ∧ Off S w w' := by
  obtain ⟨i0, hi, hz0, hz1, hz2⟩ : ∃ i, Tryd.prog.info? 3 = some i ∧ i.zero = some (.int .i64 0) ∧ i.size = 1 ∧ i.bytes = 8 := ⟨_, rfl, rfl, rfl, rfl⟩
  have hilt := (List.getElem?_eq_some_iff.1 hx).1
  obtain ⟨g, cap, rfl, hg, hcap⟩ := h.form (by omega)
  have hb0 : Below w.heap.size w w.drew := (Below.refl _ _).drew
  have HD := h.below hb0
  have hS0 := HD.drs hx
  have htl := txt_len (m := 1000) (x := sets i) (fun a ha => hS.2 a ha)
  have hkey := strKey (s := txt (sets i)) (by have := hS.1; unfold maxLen; omega)
  have HT := Lib.hid (text_any (.slice x.a x.l x.c) (sets i) w.drew (Row.of_owns (C := attC) (HD.hrow i x hx)).1 hS (fun w' hb => ht w' ((hb0.mono h.hB).trans (hb.mono h.hB))))
  have HK := Lib.hid (fun (w1 : World) (hb : Below w.drew.heap.size w.drew w1) => (HD.below hb))
  have HS1 := Lib.hid (fun (w1 : World) (hb : Below w.drew.heap.size w.drew w1) => (HD.below hb).drs hx)
  have HS2 := Lib.hid (fun (w1 w2 : World) (hb : Below w.drew.heap.size w.drew w1) (D' : DataW Unit) (ho : w2.ownsMap Tryd.prog 9 (plainElem Tryd.prog 3) mb k D') (hg : w1.grownBy w2 (some mb)) => ((HD.below hb).turn ho hg).drs hx)
  have HDL := Lib.hid (fun (w1 : World) (hb : Below w.drew.heap.size w.drew w1) => (HD.below hb).hmb.drop keyedStr Tryd.underlying80 hkey 0)
  have hidx : (0 : Int) ≤ (i : Int) := by omega
  have hidx2 : (i : Int) < (hs.length : Int) := by omega
  have H0 := Lib.hid h
  clear h HD ht hS htl
  go_enter Tryd.func37, Tryd.ntmps37
  go_wp2_with fail
  go_region_held3 (fun w' => DrS st mb g i hs.length cap x w') (first | assumption | trivial)
    ((go_at_call 29; refine HT.out.mono ?_; rintro e w1 ⟨rfl, hb1⟩; have hS1 := HS1.out w1 hb1; obtain ⟨w2, hdel, ho2, ht2⟩ := HDL.out w1 hb1; have hS2 := HS2.out w1 w2 hb1 _ ho2 ht2.grown))
  have hsB : ∀ k, S k ∨ w.heap.size ≤ k → B ≤ k := fun k hk => by rcases hk with hk | hk; exact H0.out.sB k hk; have := H0.out.hB; omega
  have M2 := Lib.hid (((HK.out w1 hb1).turn ho2 ht2.grown).mono (S' := fun k => S k ∨ w.heap.size ≤ k) (fun k hk => .inl hk) hsB)
  have O2 := Lib.hid ((Off.of_below (S := fun k => S k ∨ w.heap.size ≤ k) (hb0.trans hb1)).seq (Off.of_grown ht2.grown (fun g' hg' => by cases hg'; exact .inl H0.out.sMb)))
  obtain ⟨q1, q2, q3, q4, q5⟩ := M2.out.cells
  obtain ⟨p1, p2, p3⟩ := M2.out.place hx
  have p4 := p3 (i * 2)
  have M3 := Lib.hid (M2.out.puts hx (a := none) (l := 0) (c := 0) (X := []) ⟨rfl, .inl ⟨rfl, rfl⟩⟩ (fun g' hg' => by simp [Value.ownBlock] at hg'))
  have O3 := Lib.hid (O2.out.seq (Off.of_grown (grown_set (w := w2) (g := g) (o := i * 2) (.slice none 0 0)) (fun g' hg' => by cases hg'; exact M2.out.sSv _ rfl)))
  obtain ⟨r1, r2, r3, r4, r5⟩ := M3.out.cells
  have hbA := (Below.refl (w2.setCell ⟨g, i * 2, none⟩ (.slice none 0 0)).heap.size (w2.setCell ⟨g, i * 2, none⟩ (.slice none 0 0))).alloc (Nat.le_refl _) (.cells #[.int .i64 (i : Nat)] 3)
  have M4 := Lib.hid (M3.out.below hbA)
  have O4 := Lib.hid (O3.out.seq (Off.of_below hbA))
  have hz2' : w.heap.size ≤ (w2.setCell ⟨g, i * 2, none⟩ (.slice none 0 0)).heap.size := O3.out.size
  have HZ := Lib.hid hz2'
  have hnew : ((w2.setCell ⟨g, i * 2, none⟩ (.slice none 0 0)).alloc (.cells #[.int .i64 (i : Nat)] 3)).heap[w2.heap.size]? = some (.cells #[.int .i64 (i : Nat)] 3) := by
    have := heap_alloc_new (w2.setCell ⟨g, i * 2, none⟩ (.slice none 0 0)) (.cells #[.int .i64 (i : Nat)] 3)
    simpa using this
  have HN := Lib.hid hnew
  clear hnew
  clear hS0 hS1 hS2 hdel ho2 ht2 p3 HT HK HS1 HS2 HDL hbA hz2'
  go_wp2_with (at_builtin; refine wpList_append_lies _ rfl (.tmp 28) (.tmp 30) 34 rfl 0 3 i0 (.int .i64 0) 1 8 Tryd.underlying34 hi hz0 hz1 hz2 rfl (by decide) fv fr.length (fr.map fun i => Value.int .i64 (i : Nat)) rfl M4.out.hfv ⟨w2.heap.size, 0, none⟩ 1 1 [.int .i64 (i : Nat)] rfl rfl (World.news_of_block HN.out) (by simp [Value.oneCell']) (by decide) (by unfold maxLen; omega) (by omega) (Nat.zero_le _) _ rfl ?_; intro g4 cap4 w4 ho4 hg4 ha4 hl4; refine Hid.out ?_)
  refine Lib.hid ?_
  have hfar : ∀ g', fv.ownBlock = some g' → ∃ o', ((w2.setCell ⟨g, i * 2, none⟩ (.slice none 0 0)).alloc (.cells #[.int .i64 (i : Nat)] 3)).heap[g']? = some o' ∧ o' ≠ .cells #[.map m, .map (some mb), .slice (some ⟨g, 0, none⟩) (hs.set i ⟨none, 0, 0, x.n⟩).length cap, fv] 83 (0, 0) := fun g' hg' => by
    obtain ⟨cur, hc⟩ := own_tag M4.out.hfv hg'
    exact ⟨_, hc, by simp⟩
  have hst4 := far hg4 M4.out.hst hfar
  have c4 : w4.cell? ⟨st, 3, none⟩ = some fv := by rw [cell_of_row w4 st 3 _ _ _ hst4]; rfl
  have f4 : w4.frozen? ⟨st, 3, none⟩ = false := by simp [World.frozen?, hst4]
  have e4 : (fr ++ [i]).map (fun i => Value.int .i64 (i : Nat)) = fr.map (fun i => Value.int .i64 (i : Nat)) ++ [.int .i64 (i : Nat)] := by simp
  have l4 : (fr ++ [i]).length = fr.length + 1 := by simp
  have ho5 : w4.ownsRow 0 3 1 (.slice (some ⟨g4, 0, none⟩) (fr.length + 1) cap4) (fr ++ [i]).length ((fr ++ [i]).map fun i => Value.int .i64 (i : Nat)) := by rw [e4, l4]; exact ho4
  have M5 := Lib.hid (M4.out.refree hg4 ho5 (fun g' hg' => by
    cases hg'
    rcases ha4 with e | e
    · exact M4.out.sFv _ e
    · right; have := O4.out.size; show w.heap.size ≤ g4; omega))
  have O5 := Lib.hid ((O4.out.seq (Off.of_grown hg4 (fun g' hg' => M4.out.sFv g' hg'))).seq (Off.of_grown (grown_set (w := w4) (g := st) (o := 3) (.slice (some ⟨g4, 0, none⟩) (fr.length + 1) cap4)) (fun g' hg' => by cases hg'; exact M4.out.sSt)))
  clear hg4 ha4 ho4 ho5 hfar hst4 e4 l4
  go_wp2
  go_end0
  exact ⟨rfl, ⟨_, _, M5.out⟩, O5.out.cut⟩
end Go.Proofs.YtiobcifpebehnaaDoor

/- I11 -/
/- I11: Free -/
namespace Go.Proofs.YtiobcifpebehnaaDoor
open Go.RowKit
set_option linter.unusedVariables false

theorem Tb.mono {B : Nat} {S S' : Nat → Prop} {tb : Nat} {T : TabS} {n : Nat} {w : World} (h : Tb B S tb T n w) (hS : ∀ k, S k → S' k) (hB : ∀ k, S' k → B ≤ k) : Tb B S' tb T n w := by
  obtain ⟨st, mb, m, sv, fv, hs, D, h⟩ := h
  exact ⟨st, mb, m, sv, fv, hs, D, h.mono hS hB⟩
theorem Tb.sB {B : Nat} {S : Nat → Prop} {tb : Nat} {T : TabS} {n : Nat} {w : World} (h : Tb B S tb T n w) : ∀ k, S k → B ≤ k := by obtain ⟨st, mb, m, sv, fv, hs, D, h⟩ := h; exact h.sB
theorem Tb.hB {B : Nat} {S : Nat → Prop} {tb : Nat} {T : TabS} {n : Nat} {w : World} (h : Tb B S tb T n w) : B ≤ w.heap.size := by obtain ⟨st, mb, m, sv, fv, hs, D, h⟩ := h; exact h.hB
theorem Tb.ok {B : Nat} {S : Nat → Prop} {tb : Nat} {T : TabS} {n : Nat} {w : World} (h : Tb B S tb T n w) : T.Ok := by obtain ⟨st, mb, m, sv, fv, hs, D, h⟩ := h; exact h.ok
theorem Tb.grow {B : Nat} {S : Nat → Prop} {tb : Nat} {T : TabS} {n : Nat} {w w' : World} (h : Tb B S tb T n w) (hw : B ≤ w'.heap.size) : Tb B (fun k => S k ∨ w'.heap.size ≤ k) tb T n w :=
  h.mono (fun k hk => .inl hk) (fun k hk => by rcases hk with hk | hk; exact h.sB k hk; omega)

section
variable {B : Nat} {S : Nat → Prop} {tb : Nat} {T : TabS} {n : Nat}
def FreeP (B : Nat) (S : Nat → Prop) (tb : Nat) (T : TabS) (n : Nat) (id : Int) (w : World) (e : Ending) (w' : World) : Prop :=
  (T.has id = true ∧ e = .returned (.int .i64 0) ∧ Tb B (fun k => S k ∨ w.heap.size ≤ k) tb (T.less id.toNat) (n + 1) w' ∧ Off S w w') ∨ (T.has id = false ∧ e = .returned (.int .i64 5) ∧ w' = w)
theorem free_end {j : Nat} {w w' : World} (hh : T.has (j : Int) = true) (h : Tb B S tb (T.less j) (n + 1) w' ∧ Off S w w') (hB : B ≤ w.heap.size) : FreeP B S tb T n (j : Nat) w (.returned (.int .i64 0)) w' :=
  .inl ⟨hh, rfl, by rw [Int.toNat_natCast]; exact h.1.grow hB, h.2⟩

set_option maxHeartbeats 1000000 in
theorem free_any (id : Int) (w : World) (h : Tb B S tb T n w) (hn : n ≤ 1000000) (htab : Tab B w) :
    Calls Tryd.prog 16 #[.pointer (some ⟨tb, 0, none⟩), .int .i64 id] w (FreeP B S tb T n id w) := by
  obtain ⟨st, mb, m, sv, fv, hs, D, h⟩ := h
  obtain ⟨g, cap, rfl, hg, hcap⟩ := h.form
  have HF := Lib.hid (find7_any id w h hn)
  unfold fndP at HF
  cases hh : T.has id with
  | true =>
    obtain ⟨j, rfl, hl⟩ := has_live hh
    have hj := live_lt hl h.ok.pos
    obtain ⟨x, hx, -, ct, -, ft, -⟩ := h.place hj
    obtain ⟨y, hy, hyn⟩ := h.num hj
    obtain rfl : y = x := by rw [hx] at hy; exact (Option.some.inj hy).symm
    rw [hh, if_pos rfl, Int.toNat_natCast] at HF
    have hq : T.times j ≤ 1000000 := Nat.le_trans (h.le.times j) hn
    have hles := h.le.es
    have HB := Lib.hid h.hB
    by_cases hd : j ≠ 0 ∧ T.times j = 1
    · obtain ⟨hj0, hq1⟩ := hd
      have e0 : ((j : Int) != 0) = true := by simpa using hj0
      have hM := h.mem
      rw [← h.len] at hM
      have HX : ((y.a = y.a ∧ y.l = y.l) ∧ y.c = y.c) := ⟨⟨rfl, rfl⟩, rfl⟩
      have hM2 := hM.poke (q := 0) hx
      have ht2 : Tab B (w.setCell ⟨g, j * 2 + 1, none⟩ (.int .i64 ((0 : Nat) : Int))) := htab.on ((Below.refl B w).setCell (p := ⟨g, j * 2 + 1, none⟩) (h.sB _ (h.sSv _ rfl)) _)
      have hx2 : (hs.set j ⟨y.a, y.l, y.c, 0⟩)[j]? = some ⟨y.a, y.l, y.c, 0⟩ := by rw [List.getElem?_set, if_pos rfl, if_pos (by rw [h.len]; exact hj)]
      have HD := Lib.hid (drop_any hM2 hx2 (h.ok.small j hl) ht2 (by have := h.le.free; omega) (by rw [List.length_set, h.len]; omega))
      have HO := Lib.hid (Off.of_grown (S := S) (grown_set (w := w) (g := g) (o := j * 2 + 1) (.int .i64 ((0 : Nat) : Int))) (fun g' hg' => by cases hg'; exact h.sSv _ rfl))
      have HT := Lib.hid h
      have c2 : (w.setCell ⟨g, j * 2 + 1, none⟩ (.int .i64 ((0 : Nat) : Int))).cell? ⟨g, j * 2 + 1, none⟩ = some (.int .i64 ((0 : Nat) : Int)) := World.cell?_setCell_same _ _ _ ct
      obtain ⟨k0, -, -, -, -⟩ := hM2.cells
      obtain ⟨k1, -, -, -, -⟩ := hM.cells
      rw [hq1] at ct
      have E1 := Lib.hid (show (w.setCell ⟨g, j * 2 + 1, none⟩ (.int .i64 ((0 : Nat) : Int))).heap.size = w.heap.size by simp)
      have HH := Lib.hid hh
      have HL := Lib.hid hl
      clear h hM hM2 ht2 hx2 hh hl htab HX
      go_enter Tryd.func16, Tryd.ntmps16
      go_wp2_with (first
        | (go_at_call 36; refine HF.out.mono ?_; rintro e w1 ⟨rfl, rfl⟩)
        | (go_at_call 37; refine HD.out.mono ?_; rintro e w2 ⟨rfl, ⟨sv', fv', hM3⟩, hO3⟩))
      go_ret
      rw [E1.out] at hM3
      refine .inl ⟨HH.out, rfl, ?_, HO.out.seq hO3⟩
      rw [Int.toNat_natCast, less_out hj0 hq1]
      refine ⟨_, _, _, _, _, _, _, hM3.tbm (T := T.out j) (n := n + 1) ?_ (fun i _ => (set_out T j i).symm) rfl rfl (by omega) (fun i z hz => ?_) (HT.out.ids.out HT.out.ok hj0 HL.out) (ok_out HT.out.ok hj0 HL.out) (le_out HT.out.le j)⟩
      · simp [TabS.out, HT.out.len]
      · rw [times_out]
        rw [List.getElem?_set] at hz
        split at hz
        · rename_i hij
          subst hij
          split at hz
          · cases hz; rw [if_pos rfl]
          · cases hz
        · rename_i hij
          rw [List.getElem?_set, if_neg hij] at hz
          rw [if_neg (fun e => hij e.symm)]
          exact HT.out.hn i z hz
    · have HH := Lib.hid hh
      have hle : T.less j = T.upd j ⟨T.set j, T.times j - 1⟩ := less_upd hd
      by_cases h0 : T.times j = 0
      · have hj0 : j = 0 := by rcases hl with hl | hl; exact hl; omega
        subst hj0
        have HR := Lib.hid (h.renum (q := 0) hl (.inl rfl) (by omega))
        rw [h0] at ct hle
        have es := set_same ct
        rw [es] at HR
        rw [← hle] at HR
        clear h hh hl hx hy hles hle es
        go_enter Tryd.func16, Tryd.ntmps16
        go_wp2_with (go_at_call 36; refine HF.out.mono ?_; rintro e w1 ⟨rfl, rfl⟩)
        go_ret
        exact free_end HH.out HR.out HB.out
      · obtain ⟨p, hp⟩ : ∃ p, T.times j = p + 1 := ⟨T.times j - 1, by omega⟩
        rw [hp] at ct hle hd
        rw [show p + 1 - 1 = p from rfl] at hle
        have hpj : p = 0 → j = 0 := fun e => by
          rcases Nat.eq_zero_or_pos j with e2 | e2
          · exact e2
          · exact absurd ⟨by omega, by omega⟩ hd
        have HR := Lib.hid (h.renum (q := p) hl (by rcases Nat.eq_zero_or_pos p with e | e; exact .inl (hpj e); exact .inr e) (by have := h.le.times j; omega))
        rw [← hle] at HR
        have hp2 : (p : Int) ≤ 1000000 := by omega
        have c2 : (w.setCell ⟨g, j * 2 + 1, none⟩ (.int .i64 (p : Int))).cell? ⟨g, j * 2 + 1, none⟩ = some (.int .i64 (p : Int)) := World.cell?_setCell_same _ _ _ ct
        have ct' : w.cell? ⟨g, j * 2 + 1, none⟩ = some (.int .i64 ((p : Int) + 1)) := by rw [ct]; simp
        clear ct hq
        by_cases hp0 : p = 0
        · have hj0 := hpj hp0
          subst hp0
          subst hj0
          clear h hh hl hx hy hles hle hp hd hpj h0
          go_enter Tryd.func16, Tryd.ntmps16
          go_wp2_with (go_at_call 36; refine HF.out.mono ?_; rintro e w1 ⟨rfl, rfl⟩)
          go_ret
          exact free_end HH.out HR.out HB.out
        · have e2 : ((p : Int) == 0) = false := by simpa using hp0
          clear h hh hl hx hy hles hle hp hd hpj h0
          go_enter Tryd.func16, Tryd.ntmps16
          go_wp2_with (go_at_call 36; refine HF.out.mono ?_; rintro e w1 ⟨rfl, rfl⟩)
          go_ret
          exact free_end HH.out HR.out HB.out
  | false =>
    rw [hh] at HF
    simp only [Bool.false_eq_true, if_false] at HF
    have HH := Lib.hid hh
    clear h hh
    go_enter Tryd.func16, Tryd.ntmps16
    go_wp2_with (go_at_call 36; refine HF.out.mono ?_; rintro e w1 ⟨rfl, rfl⟩)
    go_ret
    exact .inr ⟨HH.out, rfl, rfl⟩
end
end Go.Proofs.YtiobcifpebehnaaDoor

/- I12 -/
/- I12: take -/
namespace Go.Proofs.YtiobcifpebehnaaDoor
open Go.RowKit
set_option linter.unusedVariables false

theorem vmay_size {k n f : Int} {s : ByteArray} (h : vmay k n f s = true) : s.size ≤ 64 := by
  unfold vmay at h
  rw [decide_eq_true_iff] at h
  rcases h with h | h | h | h
  · omega
  · omega
  · omega
  · obtain ⟨-, -, -, h⟩ := h
    unfold textB at h
    simp at h
    exact h.1
theorem may_small {ks : List Key} {xs : List Att} (h : may5 ks xs = 0) (hW : ∀ a ∈ xs, AttW a) : Small xs := by
  have hw : wf5 xs = true := by
    cases hb : wf5 xs with
    | true => rfl
    | false => rw [may_3 hb] at h; cases h
  obtain ⟨-, h2, h3⟩ := wf_parts hw
  refine ⟨h2, fun a ha => ⟨hW a ha, ?_⟩⟩
  unfold okV at h3
  have := vmay_size (List.all_eq_true.1 h3 a ha)
  omega

set_option maxRecDepth 100000 in
theorem info_held : ∃ i, Tryd.prog.info? 88 = some i ∧ i.zero = some (.agg #[.slice none 0 0, .int .i64 0]) ∧ i.size = 2 ∧ i.bytes = 32 := ⟨_, rfl, rfl, rfl, rfl⟩
theorem hs_snoc (hs : List HV) (i : Nat) (x : HV) (h : (hs ++ [noHV])[i]? = some x) : (hs[i]? = some x ∧ i < hs.length) ∨ (x = noHV ∧ i = hs.length) := by
  by_cases hi : i < hs.length
  · rw [List.getElem?_append_left hi] at h; exact .inl ⟨h, hi⟩
  · have hlt := (List.getElem?_eq_some_iff.1 h).1
    simp at hlt
    obtain rfl : i = hs.length := by omega
    simp at h
    exact .inr ⟨h.symm, rfl⟩

section
variable {B : Nat} {S : Nat → Prop} {tb st mb : Nat} {m : Option Nat} {sv fv : Value} {hs : List HV} {sets : Nat → List Att} {fr : List Nat} {ks : List Key} {k : Nat} {D : DataW Unit}
set_option maxHeartbeats 1000000 in
/-- take, where no id is free. -/
theorem take_new (w : World) (h : Mem B S tb st mb m sv fv hs sets [] ks k D w) (h0 : 0 < hs.length) (hl : hs.length ≤ 1000001) :
    Calls Tryd.prog 32 #[.pointer (some ⟨st, 0, none⟩)] w fun e w' => e = .returned (.int .i64 (hs.length : Nat)) ∧
      (∃ sv', Mem B (fun k => S k ∨ w.heap.size ≤ k) tb st mb m sv' fv (hs ++ [noHV]) (fun j => if j = hs.length then [] else sets j) [] ks k D w') ∧ Off S w w' := by
  obtain ⟨i0, hi, hz0, hz1, hz2⟩ := info_held
  obtain ⟨-, c0, c1, c2, c3⟩ := h.cells
  obtain ⟨fa, fc, rfl⟩ : ∃ a c, fv = .slice a 0 c := by
    rcases h.hfv.2 with ⟨e, _⟩ | ⟨g, cap, cur, e, _⟩
    · exact ⟨_, _, e⟩
    · exact ⟨_, _, e⟩
  have hsB : ∀ k, S k ∨ w.heap.size ≤ k → B ≤ k := fun k hk => by rcases hk with hk | hk; exact h.sB k hk; have := h.hB; omega
  have hbA := (Below.refl w.heap.size w).alloc (Nat.le_refl _) (.cells #[.slice none 0 0, .int .i64 0] 88)
  have M0 := Lib.hid ((h.below hbA).mono (S' := fun k => S k ∨ w.heap.size ≤ k) (fun k hk => .inl hk) hsB)
  have O0 := Lib.hid (Off.of_below (S := fun k => S k ∨ w.heap.size ≤ k) hbA)
  have HN := Lib.hid (heap_alloc_new w (.cells #[.slice none 0 0, .int .i64 0] 88))
  have HL := Lib.hid h0
  clear h hbA hsB h0
  obtain ⟨sa, sl, sc, rfl⟩ : ∃ a l c, sv = .slice a l c := by
    rcases M0.out.hsv.2 with ⟨e, _⟩ | ⟨g, cap, cur, e, _⟩
    · exact ⟨_, _, _, e⟩
    · exact ⟨_, _, _, e⟩
  go_enter Tryd.func32, Tryd.ntmps32
  go_wp2_with (at_builtin; refine wpList_append_lies _ rfl (.tmp 17) (.tmp 19) 81 rfl 0 88 i0 (.agg #[.slice none 0 0, .int .i64 0]) 2 32 Tryd.underlying81 hi hz0 hz1 hz2 rfl (by decide) (.slice sa sl sc) hs.length (fl heldC hs) rfl M0.out.hsv ⟨w.heap.size, 0, none⟩ 1 1 [.slice none 0 0, .int .i64 0] rfl rfl (World.news_of_block HN.out) (by simp [Value.oneCell']) (by decide) (by unfold maxLen; omega) (by omega) (Nat.zero_le _) _ rfl ?_; intro g4 cap4 w4 ho4 hg4 ha4 hl4; refine Hid.out ?_)
  refine Lib.hid ?_
  have hst4 := far hg4 M0.out.hst (fun g' hg' => by
    obtain ⟨cur, hc⟩ := own_tag M0.out.hsv hg'
    exact ⟨_, hc, by simp⟩)
  have c4 : w4.cell? ⟨st, 2, none⟩ = some (.slice sa sl sc) := by rw [cell_of_row w4 st 2 _ _ _ hst4]; rfl
  have f4 : w4.frozen? ⟨st, 2, none⟩ = false := by simp [World.frozen?, hst4]
  have c5 : (w4.setCell ⟨st, 2, none⟩ (.slice (some ⟨g4, 0, none⟩) (hs.length + 1) cap4)).cell? ⟨st, 2, none⟩ = some (.slice (some ⟨g4, 0, none⟩) (hs.length + 1) cap4) := World.cell?_setCell_same _ _ _ c4
  have e4 : fl heldC (hs ++ [noHV]) = fl heldC hs ++ [.slice none 0 0, .int .i64 0] := by rw [fl_app, fl_one]; rfl
  have l4 : (hs ++ [noHV]).length = hs.length + 1 := by simp
  have ho5 : w4.ownsRow 0 88 2 (.slice (some ⟨g4, 0, none⟩) (hs.length + 1) cap4) (hs ++ [noHV]).length (fl heldC (hs ++ [noHV])) := by rw [e4, l4]; exact ho4
  have M5 := Lib.hid (M0.out.resets (hs' := hs ++ [noHV]) (sets' := fun j => if j = hs.length then [] else sets j) hg4 ho5 (fun g' hg' => by
    cases hg'
    rcases ha4 with e | e
    · exact M0.out.sSv _ e
    · right; have := O0.out.size; show w.heap.size ≤ g4; omega) (fun i x hx => by
    rcases hs_snoc hs i x hx with ⟨q1, q2⟩ | ⟨q1, q2⟩
    · exact .inl ⟨q1, if_neg (by omega)⟩
    · exact .inr ⟨q1, if_pos q2⟩))
  have O5 := Lib.hid ((O0.out.seq (Off.of_grown hg4 (fun g' hg' => M0.out.sSv g' hg'))).seq (Off.of_grown (grown_set (w := w4) (g := st) (o := 2) (.slice (some ⟨g4, 0, none⟩) (hs.length + 1) cap4)) (fun g' hg' => by cases hg'; exact M0.out.sSt)))
  clear hg4 ha4 ho4 ho5 hst4 e4 l4 c0 c1 c2 c3 HL
  go_wp2
  go_ret
  exact ⟨rfl, ⟨_, M5.out⟩, O5.out.cut⟩

set_option maxHeartbeats 1000000 in
/-- take, where one is. -/
theorem take_old (w : World) {i : Nat} {fr0 : List Nat} (h : Mem B S tb st mb m sv fv hs sets (fr0 ++ [i]) ks k D w) (hl : fr0.length ≤ 1000000) :
    Calls Tryd.prog 32 #[.pointer (some ⟨st, 0, none⟩)] w fun e w' => e = .returned (.int .i64 (i : Nat)) ∧
      (∃ fv', Mem B (fun k => S k ∨ w.heap.size ≤ k) tb st mb m sv fv' hs sets fr0 ks k D w') ∧ Off S w w' := by
  obtain ⟨-, c0, c1, c2, c3⟩ := h.cells
  have l0 : (fr0 ++ [i]).length = fr0.length + 1 := by simp
  have hfv := h.hfv
  obtain ⟨g, cap, rfl, -, hg⟩ := h.hfv.form (by omega)
  have hcap : fr0.length + 1 ≤ cap := by
    rcases hfv.2 with ⟨hn, _⟩ | ⟨g', cap', cur, hv, _, _, hc, _⟩
    · cases hn
    · injection hv with _ _ e; subst e; omega
  have hsB : ∀ k, S k ∨ w.heap.size ≤ k → B ≤ k := fun k hk => by rcases hk with hk | hk; exact h.sB k hk; have := h.hB; omega
  have ci : w.cell? ⟨g, fr0.length, none⟩ = some (.int .i64 (i : Nat)) := by
    have := hfv.cells (g := g) rfl fr0.length (.int .i64 (i : Nat)) (by simp)
    rw [Go.WideShapes.add_plain] at this
    simpa using this
  have fi := h.nofreeze 3
  have ho5 : w.ownsRow 0 3 1 (.slice (some ⟨g, 0, none⟩) fr0.length cap) fr0.length (fr0.map fun i => Value.int .i64 (i : Nat)) := by
    refine ⟨by simp, ?_⟩
    rcases hfv.2 with ⟨hn, _⟩ | ⟨g', cap', cur, hv, hb, hh, hc, hm, hs, ht⟩
    · cases hn
    · injection hv with e1 e2 e3
      subst e3
      injection e1 with e1
      injection e1 with e1
      subst e1
      refine .inr ⟨g, cap, cur, rfl, hb, hh, by omega, hm, hs, ?_⟩
      rw [Nat.mul_one]
      rw [Nat.mul_one, l0] at ht
      have : (cur.toList.take (fr0.length + 1)).take fr0.length = ((fr0 ++ [i]).map fun i => Value.int .i64 (i : Nat)).take fr0.length := by rw [ht]
      rw [List.take_take, Nat.min_eq_left (by omega)] at this
      rw [this]
      simp
  have M5 := Lib.hid ((h.mono (S' := fun k => S k ∨ w.heap.size ≤ k) (fun k hk => .inl hk) hsB).refree (w1 := w) ⟨rfl, rfl, rfl, Nat.le_refl _, fun _ _ _ => rfl⟩ ho5 (fun g' hg' => .inl (h.sFv g' hg')))
  have O5 := Lib.hid (Off.of_grown (S := S) (grown_set (w := w) (g := st) (o := 3) (.slice (some ⟨g, 0, none⟩) fr0.length cap)) (fun g' hg' => by cases hg'; exact h.sSt))
  rw [l0] at c3
  clear h hfv hsB ho5 l0
  go_enter Tryd.func32, Tryd.ntmps32
  go_wp2
  go_ret
  exact ⟨rfl, ⟨_, M5.out⟩, O5.out⟩
end
end Go.Proofs.YtiobcifpebehnaaDoor

/- I13 -/
/- I13: Add of a set that may not be, of one that is there -/
namespace Go.Proofs.YtiobcifpebehnaaDoor
open Go.RowKit
set_option linter.unusedVariables false

theorem TbM.sch {B : Nat} {S : Nat → Prop} {tb st mb : Nat} {m : Option Nat} {sv fv : Value} {hs : List HV} {D : DataW Unit} {T : TabS} {n : Nat} {w : World} (h : TbM B S tb st mb m sv fv hs D T n w) : Sch w (.pointer (some ⟨st, 0, none⟩)) T.ks := by
  obtain ⟨-, c0, -⟩ := h.cells
  refine ⟨h.good, .inr ?_⟩
  rcases h.hm with ⟨rfl, h2⟩ | ⟨sb, rfl, -, h3⟩
  · exact .inl ⟨st, rfl, c0, h2⟩
  · exact .inr ⟨st, sb, rfl, c0, h3⟩
theorem zeroInt (w : World) : (zeroValue 3).run Tryd.prog w = .ok (.int .i64 0) w := by
  rw [Tryd.zeroValue3]
set_option maxRecDepth 100000 in
/-- 'id, there := ids[text]'. -/
theorem look_at {w : World} {mb k : Nat} {D : DataW Unit} (ho : w.ownsMap Tryd.prog 9 (plainElem Tryd.prog 3) mb k D) {s : List UInt8} (hs : s.length ≤ maxLen) {c : Int} (hc : D.atKey (.string s) (.lit (.int .i64 0)) = .lit (.int .i64 c)) :
    (Instr.lookup 80 (.map (some mb)) (.string ⟨s.toArray⟩) true).run Tryd.prog w = .ok (.tuple #[.int .i64 c, .bool (Maps.has D (.string s))]) w := by
  obtain ⟨v, ps, hrun, hv⟩ := ho.look_ok keyedStr Tryd.underlying80 (zeroInt w) (plainElem_int Tryd.underlying3 (by decide)) (strKey hs)
  rw [hc] at hv
  obtain ⟨c', rfl, hc', -⟩ := plainElem_int_inv Tryd.underlying3 hv
  have : (DataW.lit (.int .i64 c) : DataW Unit) = .lit (.int .i64 c') := congrArg Prod.fst hc'
  injection this with this
  injection this with _ this
  subst this
  exact hrun

section
variable {B : Nat} {S : Nat → Prop} {tb : Nat} {T : TabS} {n : Nat}
def AddP (B : Nat) (S : Nat → Prop) (tb : Nat) (T : TabS) (n : Nat) (x : List Att) (w : World) (e : Ending) (w' : World) : Prop :=
  (may5 T.ks x ≠ 0 ∧ e = .returned (.tuple #[.int .i64 0, .int .i64 (may5 T.ks x)]) ∧ Tb B S tb T n w' ∧ Below w.heap.size w w') ∨
  (may5 T.ks x = 0 ∧ e = .returned (.tuple #[.int .i64 (T.idOf x : Nat), .int .i64 0]) ∧ Tb B (fun k => S k ∨ w.heap.size ≤ k) tb (T.add x) (n + 1) w' ∧ Off S w w')
theorem add_bad (v : Value) (x : List Att) (w : World) (h : Tb B S tb T n w) (hv : Arow w v x) (hW : ∀ a ∈ x, AttW a) (hm : may5 T.ks x ≠ 0) :
    Calls Tryd.prog 14 #[.pointer (some ⟨tb, 0, none⟩), v] w (AddP B S tb T n x w) := by
  obtain ⟨st, mb, m, sv, fv, hs, D, h⟩ := h
  obtain ⟨c0, -⟩ := h.cells
  have HZ := Lib.hid (iszero_any w h)
  have HM := Lib.hid (may_any5 _ _ v x w h.sch hv hW)
  have HK := Lib.hid (fun (w' : World) (hb : Below w.heap.size w w') => h.below hb)
  have HN := Lib.hid hm
  obtain ⟨va, vc, rfl⟩ := hv.shape
  have hE : (may5 T.ks x != 0) = true := by simpa using hm
  unfold AddP
  generalize may5 T.ks x = e0 at *
  clear h hv hm
  go_enter Tryd.func14, Tryd.ntmps14
  go_wp2_with (first
    | (go_at_call 30; refine HZ.out.mono ?_; rintro e w0 ⟨rfl, hw⟩; subst hw)
    | (go_at_call 31; refine HM.out.mono ?_; rintro e w1 ⟨rfl, hb1⟩))
  refine bodyPost_ret (v := .tuple #[.int .i64 0, .int .i64 e0]) (by simp [results, Tryd.results14, go_sem]) rfl (.inl ⟨HN.out, rfl, ⟨_, _, _, _, _, _, _, HK.out _ hb1⟩, hb1⟩)

set_option maxHeartbeats 1000000 in
theorem add_there (v : Value) (x : List Att) (w : World) (h : Tb B S tb T n w) (hv : Arow w v x) (hW : ∀ a ∈ x, AttW a) (hm : may5 T.ks x = 0) (hn : n ≤ 1000000) (htab : Tab B w) {i : Nat} (hl : T.look x = some i) :
    Calls Tryd.prog 14 #[.pointer (some ⟨tb, 0, none⟩), v] w (AddP B S tb T n x w) := by
  obtain ⟨st, mb, m, sv, fv, hs, D, h⟩ := h
  obtain ⟨c0, -⟩ := h.cells
  obtain ⟨g, cap, rfl, hg, hcap⟩ := h.form
  obtain ⟨l1, l2, l3⟩ := look_some hl
  have hx := may_small hm hW
  have HZ := Lib.hid (iszero_any w h)
  have HM := Lib.hid (may_any5 _ _ v x w h.sch hv hW)
  rw [hm] at HM
  have HT := Lib.hid (fun (w' : World) (hb : Below w.heap.size w w') => text_any v x w' (hv.below hb (Nat.le_refl _)) hx (fun w2 hb2 => htab w2 ((hb.mono h.hB).trans (hb2.mono (Nat.le_trans h.hB hb.size)))))
  have HK := Lib.hid (fun (w' : World) (hb : Below w.heap.size w w') => h.below hb)
  have hlen : (txt x).length ≤ maxLen := by have := hx.len x.length; rw [List.take_of_length_le (Nat.le_refl _)] at this; unfold maxLen; omega
  have hat := h.ids.at_ i l1 (.lit (.int .i64 0))
  have hhas := h.ids.has_ i l1
  rw [l2] at hat hhas
  have HLK := Lib.hid (fun (w' : World) (hb : Below w.heap.size w w') => by
    have := look_at (h.below hb).hmb hlen hat
    rw [hhas] at this
    exact this)
  have hq : T.times i ≤ 1000000 := Nat.le_trans (h.le.times i) hn
  have HR := Lib.hid (fun (w' : World) (hb : Below w.heap.size w w') => (h.below hb).renum (q := T.times i + 1) l1 (.inr (by omega)) (by have := h.le.times i; omega))
  have HP := Lib.hid (fun (w' : World) (hb : Below w.heap.size w w') => (h.below hb).place l3)
  have HC := Lib.hid (fun (w' : World) (hb : Below w.heap.size w w') => (h.below hb).cells)
  have hle := h.le.es
  have HB := Lib.hid h.hB
  have e1 : T.idOf x = i := by unfold TabS.idOf; rw [hl]
  have e2 : T.add x = T.upd i ⟨T.set i, T.times i + 1⟩ := by unfold TabS.add; rw [hl]; rfl
  have HMM := Lib.hid hm
  obtain ⟨va, vc, rfl⟩ := hv.shape
  unfold AddP
  rw [e1, e2]
  generalize T.times i = q at *
  have hlt2 : (i : Int) < (T.es.length : Int) := by omega
  have hlt3 : (0 : Int) ≤ (i : Int) := by omega
  clear h hv hm hl l1 l2 htab hat hhas e1 e2 hx
  go_enter Tryd.func14, Tryd.ntmps14
  go_wp2_with (first
    | (go_at_call 30; refine HZ.out.mono ?_; rintro e w0 ⟨rfl, hw⟩; subst hw)
    | (go_at_call 31; refine HM.out.mono ?_; rintro e w1 ⟨rfl, hb1⟩)
    | (go_at_call 29; refine (HT.out w1 hb1).mono ?_; rintro e w2 ⟨rfl, hb2⟩; refine Hid.out ?_))
  have hb12 : Below w0.heap.size w0 w2 := below_add hb1 hb2 hb1.size
  have hlk := HLK.out w2 hb12
  obtain ⟨d0, -, d1, d2, -⟩ := HC.out w2 hb12
  obtain ⟨y, -, -, dt, -, df, -⟩ := HP.out w2 hb12
  have HE := Lib.hid (HR.out w2 hb12)
  refine Lib.hid ?_
  go_wp2
  refine bodyPost_ret (v := .tuple #[.int .i64 (i : Nat), .int .i64 0]) (by simp [results, Tryd.results14, go_sem]) rfl (.inr ⟨HMM.out, rfl, HE.out.1.grow HB.out, (Off.of_below hb12).seq HE.out.2⟩)
end
end Go.Proofs.YtiobcifpebehnaaDoor

/- I14 -/
/- I14: Add of a set that comes -/
namespace Go.Proofs.YtiobcifpebehnaaDoor
open Go.RowKit
set_option linter.unusedVariables false

section
variable {B : Nat} {S : Nat → Prop} {tb st mb : Nat} {m : Option Nat} {sv fv : Value} {hs : List HV} {D : DataW Unit} {T : TabS} {n : Nat}
/-- take, whether an id is free or none is: the places as they are then. -/
def TookP (B : Nat) (S : Nat → Prop) (tb st mb : Nat) (m : Option Nat) (D : DataW Unit) (T : TabS) (n : Nat) (x : List Att) (w : World) (e : Ending) (w' : World) : Prop :=
  e = .returned (.int .i64 (T.fresh : Nat)) ∧ Off S w w' ∧ ∃ sv' fv' hs' sets', Mem B (fun k => S k ∨ w.heap.size ≤ k) tb st mb m sv' fv' hs' sets' (T.ins x).free T.ks (n + 1) D w' ∧
    hs'.length = (T.ins x).es.length ∧ (∀ j, j ≠ T.fresh → sets' j = T.set j) ∧ (∀ (j : Nat) (y : HV), hs'[j]? = some y → y.n = if j = T.fresh then 0 else T.times j)
theorem took_any (x : List Att) (w : World) (h : TbM B S tb st mb m sv fv hs D T n w) (hn : n ≤ 1000000) :
    Calls Tryd.prog 32 #[.pointer (some ⟨st, 0, none⟩)] w (TookP B S tb st mb m D T n x w) := by
  have hM := h.mem
  have hlen := h.len
  have hle := h.le
  have hok := h.ok
  have hnn := h.hn
  unfold TookP
  cases hf : T.free.getLast? with
  | some i =>
    obtain ⟨f0, e⟩ := List.getLast?_eq_some_iff.1 hf
    obtain ⟨b1, b2, b3⟩ := hok.freeB i (List.mem_of_getLast? hf)
    have e2 : T.free.dropLast = f0 := by rw [e, List.dropLast_concat]
    have ef : T.fresh = i := by unfold TabS.fresh; rw [hf]
    have ei : T.ins x = ⟨T.ks, T.es.set i ⟨x, 1⟩, f0⟩ := by unfold TabS.ins; rw [hf, ← e2]
    rw [ef, ei]
    rw [e] at hM
    have hl := hle.free
    rw [e] at hl
    simp at hl
    refine (take_old w hM (by omega)).mono fun e1 w1 ⟨q1, ⟨fv', q2⟩, q3⟩ => ⟨q1, q3, sv, fv', hs, T.set, ?_, ?_, fun j _ => rfl, fun j y hy => ?_⟩
    · exact q2
    · simp [hlen]
    · have := hnn j y hy
      by_cases hj : j = i
      · rw [if_pos hj, this, hj, b3]
      · rw [if_neg hj]; exact this
  | none =>
    have e : T.free = [] := by simpa using hf
    have ef : T.fresh = hs.length := by unfold TabS.fresh; rw [hf, hlen]
    have ei : T.ins x = ⟨T.ks, T.es ++ [⟨x, 1⟩], []⟩ := by unfold TabS.ins; rw [hf, e]
    rw [ef, ei]
    rw [e] at hM
    refine (take_new w hM (by rw [hlen]; exact hok.pos) (by have := hle.es; omega)).mono fun e1 w1 ⟨q1, ⟨sv', q2⟩, q3⟩ => ⟨q1, q3, sv', fv, hs ++ [noHV], fun j => if j = hs.length then [] else T.set j, q2, ?_, fun j hj => if_neg hj, fun j y hy => ?_⟩
    · simp [hlen]
    · rcases hs_snoc hs j y hy with ⟨q1, q2⟩ | ⟨rfl, q2⟩
      · rw [if_neg (by omega)]; exact hnn j y q1
      · rw [if_pos q2]
end

theorem ks_ins (T : TabS) (x : List Att) : (T.ins x).ks = T.ks := by unfold TabS.ins; split <;> rfl
theorem wf_nat {i : Nat} (h : i ≤ 1000000000) : (Lit.int .i64 (i : Nat)).wf = true := by
  exact Go.WalkArith.wf_i64 (by omega)

/-- A slice that lies outside of S. -/
def Outs (S : Nat → Prop) (v : Value) : Prop := ∀ b o l c, v = .slice (some ⟨b, o, none⟩) l c → ¬ S b
theorem Row.off {α : Type} {C : Cel α} {S : Nat → Prop} {w w' : World} {v : Value} {xs : List α} (h : Row C w v xs) (hO : Off S w w') (hv : Outs S v) : Row C w' v xs := by
  rcases h with h | ⟨b, off, cap, rfl, h0, h1, h2, h3⟩
  · exact .inl h
  · refine .inr ⟨b, off, cap, rfl, h0, h1, h2, fun j u hu => ?_⟩
    have := h3 j u hu
    rw [← this]
    exact World.cell?_of_block (w := w) (hO.block b (World.block_lt_of_cell? w _ this) (hv _ _ _ _ rfl))
theorem Mem.own_put {B : Nat} {S : Nat → Prop} {tb st mb : Nat} {m : Option Nat} {fv : Value} {hs : List HV} {sets : Nat → List Att} {fr : List Nat} {ks : List Key} {k : Nat} {D : DataW Unit} {w w5 : World} {g cap : Nat} (h : Mem B S tb st mb m (.slice (some ⟨g, 0, none⟩) hs.length cap) fv hs sets fr ks k D w) {i : Nat} {y : HV} (hy : hs[i]? = some y) (hS : ∀ k, w.heap.size ≤ k → S k)
    (hb : Below w.heap.size w w5) {ua : Option Addr} {l uc : Nat} {X : List Att} (ho : Own5 w w5 (.slice ua l uc) X) :
    Mem B S tb st mb m (.slice (some ⟨g, 0, none⟩) (hs.set i ⟨ua, l, uc, y.n⟩).length cap) fv (hs.set i ⟨ua, l, uc, y.n⟩) (fun j => if j = i then X else sets j) fr ks k D (w5.setCell ⟨g, i * 2, none⟩ (.slice ua l uc)) :=
  (h.below hb).puts hy (owns_mono ho (Nat.zero_le _)) (fun g' hg' => hS g' (own_base ho hg'))
@[reducible] def NewS (tb st : Nat) (sv : Value) (w : World) : Prop := w.cell? ⟨tb, 0, none⟩ = some (.pointer (some ⟨st, 0, none⟩)) ∧ w.cell? ⟨st, 2, none⟩ = some sv

section
variable {B : Nat} {S : Nat → Prop} {tb : Nat} {T : TabS} {n : Nat}
set_option maxRecDepth 100000 in
set_option maxHeartbeats 2000000 in
theorem add_new (v : Value) (x : List Att) (w : World) (h : Tb B S tb T n w) (hv : Arow w v x) (hW : ∀ a ∈ x, AttW a) (hm : may5 T.ks x = 0) (hn : n ≤ 1000000) (htab : Tab B w) (hl : T.look x = none) (hvS : Outs S v) :
    Calls Tryd.prog 14 #[.pointer (some ⟨tb, 0, none⟩), v] w (AddP B S tb T n x w) := by
  obtain ⟨st, mb, m, sv, fv, hs, D, h⟩ := h
  obtain ⟨c0, -⟩ := h.cells
  have hx := may_small hm hW
  have HZ := Lib.hid (iszero_any w h)
  have HM := Lib.hid (may_any5 _ _ v x w h.sch hv hW)
  rw [hm] at HM
  have HT := Lib.hid (fun (w' : World) (hb : Below w.heap.size w w') => text_any v x w' (hv.below hb (Nat.le_refl _)) hx (fun w2 hb2 => htab w2 ((hb.mono h.hB).trans (hb2.mono (Nat.le_trans h.hB hb.size)))))
  have hlen : (txt x).length ≤ maxLen := by have := hx.len x.length; rw [List.take_of_length_le (Nat.le_refl _)] at this; unfold maxLen; omega
  have hkey := strKey hlen
  have hhas : Maps.has D (.string (txt x)) = false := by rw [h.ids.look h.ok hx, hl]; rfl
  have HLK := Lib.hid (fun (w' : World) (hb : Below w.heap.size w w') => by
    have := look_at (h.below hb).hmb hlen (Maps.atKey_of_not_has hhas _)
    rw [hhas] at this
    exact this)
  have HC := Lib.hid (fun (w' : World) (hb : Below w.heap.size w w') => (h.below hb).cells)
  have HTK := Lib.hid (fun (w' : World) (hb : Below w.heap.size w w') => took_any x w' (h.below hb) hn)
  have HOWN := Lib.hid (fun (w' : World) (hr : Arow w' v x) => own_any v x w' hr (by have := hx.1; omega) (fun a ha => by have := (hx.2 a ha).2; omega))
  have HV := Lib.hid (fun (w' : World) (hb : Below w.heap.size w w') => hv.below hb (Nat.le_refl _))
  have hle := h.le.es
  have e1 : T.idOf x = T.fresh := by unfold TabS.idOf; rw [hl]
  have e2 : T.add x = T.ins x := by unfold TabS.add; rw [hl]
  obtain ⟨i1, i2, i3, i4, i5⟩ := len_ins h.ok x
  have hwf := wf_nat (i := T.fresh) (by omega)
  have HMM := Lib.hid hm
  have H0 := Lib.hid h
  have HX := Lib.hid hx
  have HNL := Lib.hid hl
  obtain ⟨va, vc, rfl⟩ := hv.shape
  unfold AddP
  rw [e1, e2]
  clear h hv hm hl htab hhas e1 e2 hx hlen
  go_enter Tryd.func14, Tryd.ntmps14
  go_wp2_with (first
    | (go_at_call 30; refine HZ.out.mono ?_; rintro e w0 ⟨rfl, hw⟩; subst hw)
    | (go_at_call 31; refine HM.out.mono ?_; rintro e w1 ⟨rfl, hb1⟩)
    | (go_at_call 29; refine (HT.out w1 hb1).mono ?_; rintro e w2 ⟨rfl, hb2⟩; refine Hid.out ?_))
  have hb12 : Below w0.heap.size w0 w2 := below_add hb1 hb2 hb1.size
  have hlk := HLK.out w2 hb12
  obtain ⟨d0, -, d1, -, -⟩ := HC.out w2 hb12
  clear HZ HM HT HLK hb1 hb2 c0
  refine Lib.hid ?_
  go_wp2_with (go_at_call 32; refine (HTK.out w2 hb12).mono ?_; rintro e w3 ⟨rfl, hO3, sv3, fv3, hs3, sets3, hM3, hl3, hs3', hn3⟩; refine Hid.out ?_)
  obtain ⟨f0, -, f1, -, -⟩ := hM3.cells
  have hfl : T.fresh < hs3.length := by omega
  obtain ⟨y, hy⟩ : ∃ y, hs3[T.fresh]? = some y := ⟨_, List.getElem?_eq_getElem hfl⟩
  have hy0 : y.n = 0 := by have := hn3 _ _ hy; rwa [if_pos rfl] at this
  obtain ⟨g, cap, rfl, hg, hcap⟩ := hM3.form (by omega)
  have M3 := Lib.hid hM3
  have N3 := Lib.hid hn3
  have hmb3 := hM3.hmb
  clear hlk d0 d1 hM3 hn3 HTK
  refine Lib.hid ?_
  go_wp2_with (at_mapUpdate; refine wpList_mapUpdate_in _ rfl _ _ _ 80 rfl 9 3 keyedStr Tryd.underlying80 (plainElem Tryd.prog 3) mb (n + 1) D rfl hmb3 (by unfold maxLen; omega) (.string ⟨(txt x).toArray⟩) (.int .i64 (T.fresh : Nat)) (.string (txt x)) rfl rfl hkey (.lit (.int .i64 (T.fresh : Nat))) [] (plainElem_int Tryd.underlying3 hwf) ?_; intro w4 ho4 ht4; refine Hid.out ?_)
  have M4 := Lib.hid (M3.out.turn ho4 ht4.grown)
  have O4 := Lib.hid ((Off.of_below (S := fun k => S k ∨ w0.heap.size ≤ k) hb12).seq ((hO3.mono (fun k hk => .inl hk)).seq (Off.of_grown ht4.grown (fun g' hg' => by cases hg'; exact .inl H0.out.sMb))))
  clear ho4 ht4 hO3 f0 f1 hmb3
  have hsz4 : w0.heap.size ≤ w4.heap.size := O4.out.size
  have hsB : ∀ k, S k ∨ w0.heap.size ≤ k → B ≤ k := fun k hk => by rcases hk with hk | hk; exact H0.out.sB k hk; have := H0.out.hB; omega
  have hb4 : Below w4.heap.size w4 w4.drew := (Below.refl _ _).drew
  have M5 := Lib.hid ((M4.out.mono (S' := fun k => S k ∨ w0.heap.size ≤ k) (fun k hk => by rcases hk with hk | hk; exact .inl hk; right; have := hb12.size; omega) hsB).below hb4)
  have hv4 : Arow w4.drew (.slice va x.length vc) x := (Row.off (HV.out w0 (Below.refl _ _)) O4.out.cut hvS).below hb4 (Nat.le_refl _)
  have HO := Lib.hid (HOWN.out w4.drew hv4)
  have hS4 : NewS tb st (.slice (some ⟨g, 0, none⟩) hs3.length cap) w4.drew := ⟨M5.out.cells.1, M5.out.cells.2.2.2.1⟩
  have HS5 := Lib.hid (fun (w5 : World) (hb : Below w4.drew.heap.size w4.drew w5) => (show NewS tb st (.slice (some ⟨g, 0, none⟩) hs3.length cap) w5 from ⟨(M5.out.below hb).cells.1, (M5.out.below hb).cells.2.2.2.1⟩))
  have HP5 := Lib.hid (fun (w5 : World) (hb : Below w4.drew.heap.size w4.drew w5) => (show w5.cell? ⟨g, T.fresh * 2, none⟩ = some (.slice y.a y.l y.c) ∧ w5.frozen? ⟨g, T.fresh * 2, none⟩ = false from ⟨((M5.out.below hb).place hy).1, ((M5.out.below hb).place hy).2.2 _⟩))
  have HM6 := Lib.hid (fun (w5 : World) (hb : Below w4.drew.heap.size w4.drew w5) (ua : Option Addr) (uc : Nat) (ho : Own5 w4.drew w5 (.slice ua x.length uc) x) => M5.out.own_put hy (fun k hk => .inr (Nat.le_trans hsz4 hk)) hb ho)
  have HS6 := Lib.hid (fun (w5 : World) (hb : Below w4.drew.heap.size w4.drew w5) (ua : Option Addr) (uc : Nat) (ho : Own5 w4.drew w5 (.slice ua x.length uc) x) => (show NewS tb st (.slice (some ⟨g, 0, none⟩) hs3.length cap) (w5.setCell ⟨g, T.fresh * 2, none⟩ (.slice ua x.length uc)) from by
    have := (HM6.out w5 hb ua uc ho).cells
    rw [List.length_set] at this
    exact ⟨this.1, this.2.2.2.1⟩))
  have HL3 := Lib.hid hl3
  have HS3 := Lib.hid hs3'
  have HY := Lib.hid hy
  have hi0 : (0 : Int) ≤ (T.fresh : Int) := by omega
  have hi1 : (T.fresh : Int) < (hs3.length : Int) := by omega
  clear hv4 hy hs3' hl3 HV HOWN HC
  refine Lib.hid ?_
  go_wp2_with fail
  go_region_held3 (fun w' => NewS tb st (.slice (some ⟨g, 0, none⟩) hs3.length cap) w') (first | assumption | trivial)
    ((go_at_call 33; refine HO.out.mono ?_; rintro e w5 ⟨u, rfl, ho5, hb5⟩; obtain ⟨ua, uc, rfl⟩ := ((Row.of_owns (C := attC) ho5).1).shape; have hS5 := HS5.out w5 hb5; obtain ⟨p5, q5⟩ := HP5.out w5 hb5; have hS6 := HS6.out w5 hb5 ua uc ho5))
  have M6 := Lib.hid (HM6.out w5 hb5 ua uc ho5)
  have hx6 : (hs3.set T.fresh ⟨ua, x.length, uc, y.n⟩)[T.fresh]? = some ⟨ua, x.length, uc, y.n⟩ := by rw [List.getElem?_set, if_pos rfl, if_pos hfl]
  obtain ⟨t0, -, -, t2, -⟩ := M6.out.cells
  obtain ⟨-, t4, t5⟩ := M6.out.place hx6
  have t6 := t5 (T.fresh * 2 + 1)
  rw [List.length_set] at t2
  simp only [hy0] at t4
  have M7 := Lib.hid (M6.out.poke (q := 1) hx6)
  have O6 := Lib.hid (((O4.out.seq (Off.of_below hb4)).seq (Off.of_below hb5)).seq (Off.of_grown (grown_set (w := w5) (g := g) (o := T.fresh * 2) (.slice ua x.length uc)) (fun g' hg' => by cases hg'; exact M5.out.sSv _ rfl)))
  have O7 := Lib.hid (O6.out.seq (Off.of_grown (grown_set (w := w5.setCell ⟨g, T.fresh * 2, none⟩ (.slice ua x.length uc)) (g := g) (o := T.fresh * 2 + 1) (.int .i64 ((1 : Nat) : Int))) (fun g' hg' => by cases hg'; exact M5.out.sSv _ rfl)))
  clear hx6 hS4 hS5 hS6 p5 q5 hb5 ho5 t5
  go_wp2
  refine bodyPost_ret (v := .tuple #[.int .i64 (T.fresh : Nat), .int .i64 0]) (by simp [results, Tryd.results14, go_sem]) rfl (.inr ⟨HMM.out, rfl, ⟨_, _, _, _, _, _, _, M7.out.tbm (T := T.ins x) (n := n + 1) ?_ (fun j hj => ?_) rfl (ks_ins T x).symm (by omega) (fun j z hz => ?_) (H0.out.ids.ins H0.out.ok HX.out HNL.out) (ok_ins H0.out.ok HX.out HNL.out) (le_ins H0.out.ok H0.out.le x)⟩, O7.out.cut⟩)
  · rw [List.length_set, List.length_set]; exact HL3.out
  · rw [set_ins H0.out.ok]
    by_cases hjf : j = T.fresh
    · rw [if_pos hjf, if_pos hjf]
    · rw [if_neg hjf, if_neg hjf]; exact HS3.out j hjf
  · rw [times_ins H0.out.ok]
    rw [List.getElem?_set] at hz
    split at hz
    · rename_i hij
      rw [if_pos hij.symm]
      split at hz
      · cases hz; rfl
      · cases hz
    · rename_i hij
      rw [List.getElem?_set, if_neg hij] at hz
      have hjf : ¬ j = T.fresh := fun e => hij e.symm
      have := N3.out j z hz
      rw [if_neg hjf] at this
      rw [if_neg hjf]
      exact this
end
end Go.Proofs.YtiobcifpebehnaaDoor
