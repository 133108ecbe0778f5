
import Derived.Test.YtiobcifpebehnaaDoorI9
import Derived.Deep.RegionHeld3
/- I10: Hold; what goes -/
namespace Go.Proofs.YtiobcifpebehnaaDoor
open Go.RowKit
set_option linter.unusedVariables false

/-- A table of blocks of S, from B on, at block tb. -/
def Tb (B : Nat) (S : Nat → Prop) (tb : Nat) (T : TabS) (n : Nat) (w : World) : Prop := ∃ st mb m sv fv hs D, TbM B S tb st mb m sv fv hs D T n w
theorem TbM.num {B : Nat} {S : Nat → Prop} {tb st mb : Nat} {m : Option Nat} {sv fv : Value} {hs : List HV} {D : DataW Unit} {T : TabS} {n : Nat} {w : World} (h : TbM B S tb st mb m sv fv hs D T n w) {i : Nat} (hi : i < T.es.length) : ∃ x, hs[i]? = some x ∧ x.n = T.times i := by
  have hlt : i < hs.length := by rw [h.len]; exact hi
  have hx : hs[i]? = some hs[i] := List.getElem?_eq_getElem hlt
  exact ⟨_, hx, h.hn i _ hx⟩
/-- Another number at a live place. -/
theorem TbM.renum {B : Nat} {S : Nat → Prop} {tb st mb : Nat} {m : Option Nat} {fv : Value} {hs : List HV} {D : DataW Unit} {T : TabS} {n : Nat} {w : World} {g cap : Nat} (h : TbM B S tb st mb m (.slice (some ⟨g, 0, none⟩) T.es.length cap) fv hs D T n w) {i q : Nat} (hl : T.live i) (hq : i = 0 ∨ 0 < q) (hqn : q ≤ n + 1) :
    Tb B S tb (T.upd i ⟨T.set i, q⟩) (n + 1) (w.setCell ⟨g, i * 2 + 1, none⟩ (.int .i64 (q : Nat))) ∧ Off S w (w.setCell ⟨g, i * 2 + 1, none⟩ (.int .i64 (q : Nat))) := by
  obtain ⟨x, hx, -⟩ := h.num (live_lt hl h.ok.pos)
  exact ⟨⟨_, _, _, _, _, _, _, h.poke hx hl hq hqn (by omega)⟩, Off.of_grown (grown_set _) (fun g' hg' => by cases hg'; exact h.sSv _ rfl)⟩

section
variable {B : Nat} {S : Nat → Prop} {tb : Nat} {T : TabS} {n : Nat}
def HoldP (B : Nat) (S : Nat → Prop) (tb : Nat) (T : TabS) (n : Nat) (id : Int) (w : World) (e : Ending) (w' : World) : Prop :=
  (T.has id = true ∧ e = .returned (.int .i64 0) ∧ Tb B S tb (T.bump id.toNat) (n + 1) w' ∧ Off S w w') ∨ (T.has id = false ∧ e = .returned (.int .i64 5) ∧ w' = w)
theorem hold_any (id : Int) (w : World) (h : Tb B S tb T n w) (hn : n ≤ 1000000) :
    Calls Tryd.prog 18 #[.pointer (some ⟨tb, 0, none⟩), .int .i64 id] w (HoldP B S tb T n id w) := by
  obtain ⟨st, mb, m, sv, fv, hs, D, h⟩ := h
  obtain ⟨g, cap, rfl, hg, hcap⟩ := h.form
  have HF := Lib.hid (find7_any id w h hn)
  unfold HoldP
  unfold fndP at HF
  cases hh : T.has id with
  | true =>
    obtain ⟨j, rfl, hl⟩ := has_live hh
    have hj := live_lt hl h.ok.pos
    obtain ⟨x, hx, -, ct, -, ft, -⟩ := h.place hj
    rw [hh, if_pos rfl, Int.toNat_natCast] at HF
    rw [Int.toNat_natCast]
    have hq : T.times j ≤ 1000000 := Nat.le_trans (h.le.times j) hn
    have HP := Lib.hid (h.renum (q := T.times j + 1) hl (.inr (by omega)) (by have := h.le.times j; omega))
    have hbump : T.bump j = T.upd j ⟨T.set j, T.times j + 1⟩ := rfl
    rw [hbump]
    generalize T.times j = q at *
    clear h hh hl hx hbump
    go_enter Tryd.func18, Tryd.ntmps18
    go_wp2_with (go_at_call 36; refine HF.out.mono ?_; rintro e w1 ⟨rfl, rfl⟩)
    go_ret
    exact .inl ⟨trivial, rfl, HP.out⟩
  | false =>
    rw [hh] at HF
    simp only [Bool.false_eq_true, if_false] at HF
    clear h hh
    go_enter Tryd.func18, Tryd.ntmps18
    go_wp2_with (go_at_call 36; refine HF.out.mono ?_; rintro e w1 ⟨rfl, rfl⟩)
    go_ret
    exact .inr ⟨trivial, rfl, rfl⟩
end

theorem keyedStr : Maps.Keyed Tryd.prog 9 := Maps.string_keyed Tryd.underlying9
theorem strKey {s : List UInt8} (h : s.length ≤ maxLen) : keyOf Tryd.prog 9 (.string ⟨s.toArray⟩) = some (.string s) := by
  have := WideMaps.keyOf_string_mk (P := Tryd.prog) (k := 9) Tryd.underlying9 (s := ⟨s.toArray⟩) (by simpa [ByteArray.size] using h)
  simpa using this

@[reducible] def DrS (st mb g i L cap : Nat) (x : HV) (w : World) : Prop :=
  w.cell? ⟨st, 1, none⟩ = some (.map (some mb)) ∧ w.cell? ⟨st, 2, none⟩ = some (.slice (some ⟨g, 0, none⟩) L cap) ∧ w.cell? ⟨g, i * 2, none⟩ = some (.slice x.a x.l x.c)
theorem Mem.drs {B : Nat} {S : Nat → Prop} {tb st mb : Nat} {m : Option Nat} {fv : Value} {hs : List HV} {sets : Nat → List Att} {fr : List Nat} {ks : List Key} {k : Nat} {D : DataW Unit} {w : World} {g cap : Nat} (h : Mem B S tb st mb m (.slice (some ⟨g, 0, none⟩) hs.length cap) fv hs sets fr ks k D w) {i : Nat} {x : HV} (hx : hs[i]? = some x) : DrS st mb g i hs.length cap x w :=
  ⟨h.cells.2.2.1, h.cells.2.2.2.1, (h.place hx).1⟩

set_option maxRecDepth 100000 in
set_option maxHeartbeats 1000000 in
theorem drop_any {B : Nat} {S : Nat → Prop} {tb st mb : Nat} {m : Option Nat} {sv fv : Value} {hs : List HV} {sets : Nat → List Att} {fr : List Nat} {ks : List Key} {k : Nat} {D : DataW Unit} {w : World}
    (h : Mem B S tb st mb m sv fv hs sets fr ks k D w) {i : Nat} {x : HV} (hx : hs[i]? = some x) (hS : Small (sets i)) (ht : Tab B w) (hf : fr.length ≤ 1000000) (hl : hs.length ≤ 1000001) :
    Calls Tryd.prog 37 #[.pointer (some ⟨st, 0, none⟩), .int .i64 (i : Nat)] w fun e w' => e = .returned (.tuple #[]) ∧
      (∃ sv' fv', Mem B (fun k => S k ∨ w.heap.size ≤ k) tb st mb m sv' fv' (hs.set i ⟨none, 0, 0, x.n⟩) (fun j => if j = i then [] else sets j) (fr ++ [i]) ks k (D.del (.string (txt (sets i)))) w') ∧ Off S w w' := by
  obtain ⟨i0, hi, hz0, hz1, hz2⟩ : ∃ i, Tryd.prog.info? 3 = some i ∧ i.zero = some (.int .i64 0) ∧ i.size = 1 ∧ i.bytes = 8 := ⟨_, rfl, rfl, rfl, rfl⟩
  have hilt := (List.getElem?_eq_some_iff.1 hx).1
  obtain ⟨g, cap, rfl, hg, hcap⟩ := h.form (by omega)
  have hb0 : Below w.heap.size w w.drew := (Below.refl _ _).drew
  have HD := h.below hb0
  have hS0 := HD.drs hx
  have htl := txt_len (m := 1000) (x := sets i) (fun a ha => hS.2 a ha)
  have hkey := strKey (s := txt (sets i)) (by have := hS.1; unfold maxLen; omega)
  have HT := Lib.hid (text_any (.slice x.a x.l x.c) (sets i) w.drew (Row.of_owns (C := attC) (HD.hrow i x hx)).1 hS (fun w' hb => ht w' ((hb0.mono h.hB).trans (hb.mono h.hB))))
  have HK := Lib.hid (fun (w1 : World) (hb : Below w.drew.heap.size w.drew w1) => (HD.below hb))
  have HS1 := Lib.hid (fun (w1 : World) (hb : Below w.drew.heap.size w.drew w1) => (HD.below hb).drs hx)
  have HS2 := Lib.hid (fun (w1 w2 : World) (hb : Below w.drew.heap.size w.drew w1) (D' : DataW Unit) (ho : w2.ownsMap Tryd.prog 9 (plainElem Tryd.prog 3) mb k D') (hg : w1.grownBy w2 (some mb)) => ((HD.below hb).turn ho hg).drs hx)
  have HDL := Lib.hid (fun (w1 : World) (hb : Below w.drew.heap.size w.drew w1) => (HD.below hb).hmb.drop keyedStr Tryd.underlying80 hkey 0)
  have hidx : (0 : Int) ≤ (i : Int) := by omega
  have hidx2 : (i : Int) < (hs.length : Int) := by omega
  have H0 := Lib.hid h
  clear h HD ht hS htl
  go_enter Tryd.func37, Tryd.ntmps37
  go_wp2_with fail
  go_region_held3 (fun w' => DrS st mb g i hs.length cap x w') (first | assumption | trivial)
    ((go_at_call 29; refine HT.out.mono ?_; rintro e w1 ⟨rfl, hb1⟩; have hS1 := HS1.out w1 hb1; obtain ⟨w2, hdel, ho2, ht2⟩ := HDL.out w1 hb1; have hS2 := HS2.out w1 w2 hb1 _ ho2 ht2.grown))
  have hsB : ∀ k, S k ∨ w.heap.size ≤ k → B ≤ k := fun k hk => by rcases hk with hk | hk; exact H0.out.sB k hk; have := H0.out.hB; omega
  have M2 := Lib.hid (((HK.out w1 hb1).turn ho2 ht2.grown).mono (S' := fun k => S k ∨ w.heap.size ≤ k) (fun k hk => .inl hk) hsB)
  have O2 := Lib.hid ((Off.of_below (S := fun k => S k ∨ w.heap.size ≤ k) (hb0.trans hb1)).seq (Off.of_grown ht2.grown (fun g' hg' => by cases hg'; exact .inl H0.out.sMb)))
  obtain ⟨q1, q2, q3, q4, q5⟩ := M2.out.cells
  obtain ⟨p1, p2, p3⟩ := M2.out.place hx
  have p4 := p3 (i * 2)
  have M3 := Lib.hid (M2.out.puts hx (a := none) (l := 0) (c := 0) (X := []) ⟨rfl, .inl ⟨rfl, rfl⟩⟩ (fun g' hg' => by simp [Value.ownBlock] at hg'))
  have O3 := Lib.hid (O2.out.seq (Off.of_grown (grown_set (w := w2) (g := g) (o := i * 2) (.slice none 0 0)) (fun g' hg' => by cases hg'; exact M2.out.sSv _ rfl)))
  obtain ⟨r1, r2, r3, r4, r5⟩ := M3.out.cells
  have hbA := (Below.refl (w2.setCell ⟨g, i * 2, none⟩ (.slice none 0 0)).heap.size (w2.setCell ⟨g, i * 2, none⟩ (.slice none 0 0))).alloc (Nat.le_refl _) (.cells #[.int .i64 (i : Nat)] 3)
  have M4 := Lib.hid (M3.out.below hbA)
  have O4 := Lib.hid (O3.out.seq (Off.of_below hbA))
  have hz2' : w.heap.size ≤ (w2.setCell ⟨g, i * 2, none⟩ (.slice none 0 0)).heap.size := O3.out.size
  have HZ := Lib.hid hz2'
  have hnew : ((w2.setCell ⟨g, i * 2, none⟩ (.slice none 0 0)).alloc (.cells #[.int .i64 (i : Nat)] 3)).heap[w2.heap.size]? = some (.cells #[.int .i64 (i : Nat)] 3) := by
    have := heap_alloc_new (w2.setCell ⟨g, i * 2, none⟩ (.slice none 0 0)) (.cells #[.int .i64 (i : Nat)] 3)
    simpa using this
  have HN := Lib.hid hnew
  clear hnew
  clear hS0 hS1 hS2 hdel ho2 ht2 p3 HT HK HS1 HS2 HDL hbA hz2'
  go_wp2_with (at_builtin; refine wpList_append_lies _ rfl (.tmp 28) (.tmp 30) 34 rfl 0 3 i0 (.int .i64 0) 1 8 Tryd.underlying34 hi hz0 hz1 hz2 rfl (by decide) fv fr.length (fr.map fun i => Value.int .i64 (i : Nat)) rfl M4.out.hfv ⟨w2.heap.size, 0, none⟩ 1 1 [.int .i64 (i : Nat)] rfl rfl (World.news_of_block HN.out) (by simp [Value.oneCell']) (by decide) (by unfold maxLen; omega) (by omega) (Nat.zero_le _) _ rfl ?_; intro g4 cap4 w4 ho4 hg4 ha4 hl4; refine Hid.out ?_)
  refine Lib.hid ?_
  have hfar : ∀ g', fv.ownBlock = some g' → ∃ o', ((w2.setCell ⟨g, i * 2, none⟩ (.slice none 0 0)).alloc (.cells #[.int .i64 (i : Nat)] 3)).heap[g']? = some o' ∧ o' ≠ .cells #[.map m, .map (some mb), .slice (some ⟨g, 0, none⟩) (hs.set i ⟨none, 0, 0, x.n⟩).length cap, fv] 83 (0, 0) := fun g' hg' => by
    obtain ⟨cur, hc⟩ := own_tag M4.out.hfv hg'
    exact ⟨_, hc, by simp⟩
  have hst4 := far hg4 M4.out.hst hfar
  have c4 : w4.cell? ⟨st, 3, none⟩ = some fv := by rw [cell_of_row w4 st 3 _ _ _ hst4]; rfl
  have f4 : w4.frozen? ⟨st, 3, none⟩ = false := by simp [World.frozen?, hst4]
  have e4 : (fr ++ [i]).map (fun i => Value.int .i64 (i : Nat)) = fr.map (fun i => Value.int .i64 (i : Nat)) ++ [.int .i64 (i : Nat)] := by simp
  have l4 : (fr ++ [i]).length = fr.length + 1 := by simp
  have ho5 : w4.ownsRow 0 3 1 (.slice (some ⟨g4, 0, none⟩) (fr.length + 1) cap4) (fr ++ [i]).length ((fr ++ [i]).map fun i => Value.int .i64 (i : Nat)) := by rw [e4, l4]; exact ho4
  have M5 := Lib.hid (M4.out.refree hg4 ho5 (fun g' hg' => by
    cases hg'
    rcases ha4 with e | e
    · exact M4.out.sFv _ e
    · right; have := O4.out.size; show w.heap.size ≤ g4; omega))
  have O5 := Lib.hid ((O4.out.seq (Off.of_grown hg4 (fun g' hg' => M4.out.sFv g' hg'))).seq (Off.of_grown (grown_set (w := w4) (g := st) (o := 3) (.slice (some ⟨g4, 0, none⟩) (fr.length + 1) cap4)) (fun g' hg' => by cases hg'; exact M4.out.sSt)))
  clear hg4 ha4 ho4 ho5 hfar hst4 e4 l4
  go_wp2
  go_end0
  exact ⟨rfl, ⟨_, _, M5.out⟩, O5.out.cut⟩
end Go.Proofs.YtiobcifpebehnaaDoor
