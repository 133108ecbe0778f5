
import Derived.Test.YtiobcifpebehnaaDoorJB
import Derived.Deep.Cut
import Derived.Deep.RegionLaw
/- J8 -/
/- J8: the reference's Add, a new set at a place that is free, or at a new one -/
namespace Go.Proofs.YtiobcifpebehnaaDoor
open Go.RowKit
set_option linter.unusedVariables false

theorem own_fresh7 (w : World) (t : TypeId) (m : Nat) : (w.alloc (.cells #[] t)).ownsRow w.heap.size t m (.slice (some ⟨w.heap.size, 0, none⟩) 0 0) 0 [] :=
  ⟨by simp, .inr ⟨w.heap.size, 0, #[], rfl, Nat.le_refl _, heap_alloc_new w _, Nat.le_refl _, Nat.zero_le _, by simp, by simp⟩⟩
@[reducible] def L1 (rb lb : Nat) (lv : Value) (k i : Nat) (w : World) : Prop := w.cell? ⟨rb, 3, none⟩ = some lv ∧ w.cell? ⟨lb, k, none⟩ = some (.int .i64 (i : Nat))
@[reducible] def S1c (rb : Nat) (sv : Value) (w : World) : Prop := w.cell? ⟨rb, 1, none⟩ = some sv
/-- A row that a call made, in blocks of its own. -/
theorem fresh_grown {w w' : World} {t : TypeId} (hg : (w.alloc (.cells #[] t)).grownBy w' (Value.slice (some ⟨w.heap.size, 0, none⟩) 0 0).ownBlock) : Below w.heap.size w w' :=
  ((Below.refl _ w).alloc (Nat.le_refl _) _).grown hg (by simp) (fun k e => by cases e; exact Nat.le_refl _)

theorem RefMem.atH {B : Nat} {U : Nat → Prop} {rb : Nat} {kv sv lv : Value} {V : List SV} {H L : List Nat} {E : Nat} {sets : Nat → List Att} {P : Nat → Prop} {w : World} {g cap : Nat} (h : RefMem B U rb kv sv (.slice (some ⟨g, 0, none⟩) H.length cap) lv V H L E sets P w) {i : Nat} (hi : i < H.length) : w.cell? ⟨g, i, none⟩ = some (.int .i64 (H[i] : Nat)) ∧ w.frozen? ⟨g, i, none⟩ = false := by
  obtain ⟨g', cap', e, -, -, q3, q4⟩ := h.formH (by omega)
  injection e with e1 _ _
  injection e1 with e1
  injection e1 with e1
  subst e1
  exact ⟨q3 i hi, q4 i⟩
/-- Where the place of a new set is found. -/
structure NewQ (w : World) (B : Nat) (U : Nat → Prop) (rb : Nat) (kv : Value) (T : TabS) (x : List Att) (H : List Nat) (E i : Nat) (sv hv lv : Value) (V : List SV) (H0 L : List Nat) (wr : World) : Prop where
  mem : RefMem B (fun k => U k ∨ w.heap.size ≤ k) rb kv sv hv lv V H0 L E (fun i => T.set (i + 1)) (fun i => T.live (i + 1)) wr
  off : Off U w wr
  hv : V.length = H0.length
  hl : (T.ins x).es.length = H0.length + 1
  hi : i < H0.length
  hH : ∀ (k : Nat) (y : Nat), H0[k]? = some y → k ≠ i → H[k]? = some y
  hfr : (T.ins x).free = L.map (· + 1)

section
variable {B : Nat} {U : Nat → Prop} {rb : Nat} {kv : Value} {T : TabS} {n : Nat}
set_option maxRecDepth 100000 in
set_option maxHeartbeats 4000000 in
theorem radd_new (v : Value) (x : List Att) (w : World) (h : RefR B U rb kv T w) (hk : Krow w kv T.ks) (hv : Arow w v x) (hW : ∀ a ∈ x, AttW a) (hS : ∀ a ∈ x, a.s.size ≤ 1048576) (hok : T.Ok) (hle : T.Le n) (hn : n ≤ 1000000) (hm : may5 T.ks x = 0) (hX : x ≠ []) (hlX : x.length ≤ 1000000) (hl : T.look x = none) (hvU : Outs U v) :
    Calls Tryd.prog 15 #[.pointer (some ⟨rb, 0, none⟩), v] w (RAddP B U rb kv T x w) := by
  have e1 : T.idOf x = T.fresh := by unfold TabS.idOf; rw [hl]
  have e2 : T.add x = T.ins x := by unfold TabS.add; rw [hl]
  have HM := Lib.hid (rmay_any5 kv T.ks v x w hk hv hW hS)
  rw [hm] at HM
  have HFD := Lib.hid (fun (w1 : World) (hb : Below w.heap.size w w1) => rfind7 v x w1 (h.below hb) (hv.below hb (Nat.le_refl _)) hX hok hle hn)
  have hfi : rfndI (T.look x) = -1 := by rw [hl]
  rw [hfi] at HFD
  have c0 := h.cells
  have hB := h.hB
  obtain ⟨sv, hw, lv, V, H, L, E, h, hT⟩ := h
  have hes := hle.es
  have hhl := hT.hl
  have HVL := Lib.hid hT.vl
  have hvb : V.length ≤ 1000001 := by have := hT.vl; omega
  have hfl := hle.free
  rw [hT.fr, List.length_map] at hfl
  obtain ⟨i, hf⟩ : ∃ i, T.fresh = i + 1 := ⟨T.fresh - 1, by have := (fresh_facts hok).1; omega⟩
  obtain ⟨⟨sa, sc, rfl⟩, ⟨ha, hc, rfl⟩, ⟨la, lc, rfl⟩⟩ := h.shapes
  have HA := Lib.hid (fun (w1 : World) (hb : Below w.heap.size w w1) => (h.below hb))
  have HV := Lib.hid (fun (w1 : World) (ho : Off U w w1) => Row.off hv ho hvU)
  have HC := Lib.hid (fun (w1 : World) (hb : Below w.heap.size w w1) => (show w1.cell? ⟨rb, 3, none⟩ = some (.slice la L.length lc) ∧ w1.frozen? ⟨rb, 3, none⟩ = false from ⟨(h.below hb).cells.2.2.2.1, (h.below hb).nofreeze 3⟩))
  have HT := Lib.hid (⟨hT, hok, hf⟩ : RefT T V H L E ∧ T.Ok ∧ T.fresh = i + 1)
  have HX := Lib.hid (⟨hX, hm⟩ : x ≠ [] ∧ may5 T.ks x = 0)
  have hxl : 0 < x.length := List.length_pos_iff.2 hX
  have hvlen := hv.len
  have ex : ((x.length : Int) == 0) = false := by simp; omega
  have ei : ((i + 1 : Nat) : Int) = (i : Int) + 1 := by omega
  have hi0 : (0 : Int) ≤ (i : Int) := by omega
  obtain ⟨va, vc, rfl⟩ := hv.shape
  obtain ⟨ka, kc, rfl⟩ := hk.shape
  unfold RAddP
  rw [e1, e2, hm, hf, ei]
  clear h hT hv hk hl e1 e2 hm hfi hok hf hX hvU
  go_enter Tryd.func15, Tryd.ntmps15
  go_upto_if 37 with (first
    | (go_at_call 34; refine HM.out.mono ?_; rintro e w1 ⟨rfl, hb1⟩)
    | (go_at_call 35; refine (HFD.out w1 hb1).mono ?_; rintro e w2 ⟨rfl, hb2⟩; have hb3 := below_add hb1 hb2 hb1.size; obtain ⟨k3, k4⟩ := HC.out w2 hb3))
  clear HM HFD c0
  obtain ⟨m, hmL⟩ : ∃ m, L.length = m := ⟨_, rfl⟩
  rw [hmL]
  rw [hmL] at k3 hfl
  obtain ⟨d, hd⟩ : ∃ d, decide (0 < m) = d := ⟨_, rfl⟩
  rw [hd]
  have HML := Lib.hid hmL
  clear hmL
  go_cut [7] from 38 (fun s7 wr => ∃ (sv hv lv : Value) (V' : List SV) (H0 L' : List Nat), s7 = .int .i64 (i : Nat) ∧ NewQ w B U rb (.slice ka T.ks.length kc) T x H E i sv hv lv V' H0 L' wr)
  case first =>
    have M2 := HA.out w2 hb3
    obtain ⟨hT, hok, hf⟩ := HT.out
    have O2 := Lib.hid (Off.of_below (S := fun k => U k ∨ w.heap.size ≤ k) hb3)
    have hsB : ∀ k, U k ∨ w.heap.size ≤ k → B ≤ k := fun k hk => by rcases hk with hk | hk; exact M2.sB k hk; omega
    rcases List.eq_nil_or_concat L with hL | ⟨l0, i', hL⟩
    · have g0 : d = false := by rw [← hd, ← HML.out, hL]; rfl
      subst g0
      obtain ⟨n1, n2, n3⟩ := ins_new x hT hL
      have hiH : i = H.length := by omega
      obtain ⟨i0, ki, kz0, kz1, kz2⟩ := info_int7
      obtain ⟨i1, kj, ky0, ky1, ky2⟩ := info_slice7
      have hc1 := M2.cells.2.1
      have hbA := (Below.refl w2.heap.size w2).alloc (Nat.le_refl _) (.cells #[.slice none 0 0] 37)
      have M3 := Lib.hid ((M2.mono (U' := fun k => U k ∨ w.heap.size ≤ k) (fun k hk => .inl hk) hsB).below hbA)
      have O3 := Lib.hid (O2.out.seq (Off.of_below hbA))
      have HNW := Lib.hid (heap_alloc_new w2 (.cells #[.slice none 0 0] 37))
      have hb3s := hb3.size
      have HN := Lib.hid (⟨n1, n2, n3, HVL.out, hL⟩ : T.fresh = H.length + 1 ∧ (T.ins x).es.length = H.length + 1 + 1 ∧ (T.ins x).free = [] ∧ V.length = H.length ∧ L = [])
      clear M2 hbA HT hT hL n1 n2 n3 hd
      go_wp2_with (at_builtin; refine wpList_append_lies _ rfl (.tmp 75) (.tmp 76) 33 rfl 0 37 i1 (.slice none 0 0) 1 24 Tryd.underlying33 kj ky0 ky1 ky2 rfl (by decide) (.slice sa V.length sc) V.length (fl svC V) rfl M3.out.hsv ⟨w2.heap.size, 0, none⟩ 1 1 [.slice none 0 0] rfl rfl (World.news_of_block HNW.out) (by simp [Value.oneCell']) (by decide) (by unfold maxLen; omega) (by omega) (Nat.zero_le _) _ rfl ?_; intro g4 cap4 w4 ho4 hg4 ha4 hl4; refine Hid.out ?_)
      have hst4 := far_tagne hg4 (fun g hg => own_tag M3.out.hsv hg) M3.out.hst (by decide)
      have k5 : w4.cell? ⟨rb, 1, none⟩ = some (.slice sa V.length sc) := by rw [cell_of_row w4 rb 1 _ _ _ hst4]; rfl
      have k6 : w4.frozen? ⟨rb, 1, none⟩ = false := by simp [World.frozen?, hst4]
      have e5 : fl svC (V ++ [⟨none, 0, 0⟩]) = fl svC V ++ [.slice none 0 0] := by rw [fl_app, fl_one]; rfl
      have l5 : (V ++ [(⟨none, 0, 0⟩ : SV)]).length = V.length + 1 := by simp
      have hU4 : ∀ g', (Value.slice (some ⟨g4, 0, none⟩) (V.length + 1) cap4).ownBlock = some g' → U g' ∨ w.heap.size ≤ g' := fun g' hg' => by
        cases hg'
        rcases ha4 with e | e
        · exact M3.out.sSv _ e
        · right; have e' : g4 = w2.heap.size + 1 := by simpa using e
          show w.heap.size ≤ g4; omega
      have M5 := (M3.out.reS (V' := V ++ [⟨none, 0, 0⟩]) (P' := fun i => T.live (i + 1)) hg4 (by rw [e5, l5]; exact ho4) hU4 (fun k y hy hp => by
        have hkl := live_lt hp hok.pos
        have hvl := HVL.out
        rw [List.getElem?_append_left (by omega)] at hy
        exact ⟨hy, hp⟩))
      have O5 := O3.out.seq ((Off.of_grown hg4 (fun g hg => M3.out.sSv g hg)).seq (Off.of_grown (grown_set (w := w4) (g := rb) (o := 1) (.slice (some ⟨g4, 0, none⟩) (V.length + 1) cap4)) (fun g' hg' => by cases hg'; exact M3.out.sRb)))
      have hz5 := O5.size
      have k2 := M5.cells.2.2.1
      have hbA := (Below.refl (w4.setCell ⟨rb, 1, none⟩ (.slice (some ⟨g4, 0, none⟩) (V.length + 1) cap4)).heap.size (w4.setCell ⟨rb, 1, none⟩ (.slice (some ⟨g4, 0, none⟩) (V.length + 1) cap4))).alloc (Nat.le_refl _) (.cells #[.int .i64 0] 3)
      have M6 := Lib.hid (M5.below hbA)
      have O6 := Lib.hid (O5.seq (Off.of_below hbA))
      have HNX := Lib.hid (heap_alloc_new (w4.setCell ⟨rb, 1, none⟩ (.slice (some ⟨g4, 0, none⟩) (V.length + 1) cap4)) (.cells #[.int .i64 0] 3))
      clear M5 O5 hbA hst4 hg4 ha4 ho4 hU4 e5 l5
      refine Lib.hid ?_
      go_wp2_with (at_builtin; refine wpList_append_lies _ rfl (.tmp 84) (.tmp 85) 34 rfl 0 3 i0 (.int .i64 0) 1 8 Tryd.underlying34 ki kz0 kz1 kz2 rfl (by decide) (.slice ha H.length hc) H.length (fl natC H) rfl M6.out.hhv ⟨w4.heap.size, 0, none⟩ 1 1 [.int .i64 0] rfl rfl (by have := World.news_of_block HNX.out; simpa using this) (by simp [Value.oneCell']) (by decide) (by unfold maxLen; omega) (by omega) (Nat.zero_le _) _ rfl ?_; intro g7 cap7 w7 ho7 hg7 ha7 hl7; refine Hid.out ?_)
      have hst7 := far_tagne hg7 (fun g hg => own_tag M6.out.hhv hg) M6.out.hst (by decide)
      have k7 : w7.cell? ⟨rb, 2, none⟩ = some (.slice ha H.length hc) := by rw [cell_of_row w7 rb 2 _ _ _ hst7]; rfl
      have k8 : w7.frozen? ⟨rb, 2, none⟩ = false := by simp [World.frozen?, hst7]
      have e8 : fl natC (H ++ [0]) = fl natC H ++ [.int .i64 0] := by rw [fl_app, fl_one]; rfl
      have l8 : (H ++ [0]).length = H.length + 1 := by simp
      have M8 := Lib.hid (M6.out.reH (H' := H ++ [0]) (hv' := .slice (some ⟨g7, 0, none⟩) (H.length + 1) cap7) hg7 (by rw [e8, l8]; exact ho7) (fun g' hg' => by
        cases hg'
        rcases ha7 with e | e
        · exact M6.out.sHv _ e
        · right; have := O6.out.size; show w.heap.size ≤ g7; omega) (fun g' hg' => by
        cases hg'
        exact ha7.imp (fun h => h) (fun e => Nat.le_of_eq e.symm)))
      have O8 := Lib.hid (O6.out.seq ((Off.of_grown hg7 (fun g hg => M6.out.sHv g hg)).seq (Off.of_grown (grown_set (w := w7) (g := rb) (o := 2) (.slice (some ⟨g7, 0, none⟩) (H.length + 1) cap7)) (fun g' hg' => by cases hg'; exact M6.out.sRb))))
      clear hst7 hg7 ha7 ho7 e8 l8 k5 k6 k2
      refine Lib.hid ?_
      go_wp2
      go_meet
      obtain ⟨n1, n2, n3, n4, n5⟩ := HN.out
      refine ⟨_, _, _, _, _, _, by rw [hiH, ← n4], M8.out, O8.out.cut, by simp; omega, by rw [n2]; simp, by simp; omega, fun k y hy hne => ?_, by rw [n3, n5]; rfl⟩
      rw [List.getElem?_append] at hy
      split at hy
      · exact hy
      · rename_i hk
        have : k - H.length = 0 := by
          have := (List.getElem?_eq_some_iff.1 hy).1
          simp at this
          omega
        omega
    · have hL' : L = l0 ++ [i'] := by simpa using hL
      have hm1 : m = l0.length + 1 := by rw [← HML.out, hL']; simp
      obtain ⟨k, hk⟩ : ∃ k, l0.length = k := ⟨_, rfl⟩
      rw [hk] at hm1
      have g0 : d = true := by rw [← hd, decide_eq_true_iff]; omega
      subst g0
      subst hm1
      obtain ⟨n1, n2, n3, n4⟩ := ins_old hok x hT hL'
      have hii : i' = i := by omega
      subst hii
      obtain ⟨lb, lcap, hle2, p1, p2, p3⟩ := M2.formL (by rw [hL']; simp)
      have hla : la = some ⟨lb, 0, none⟩ ∧ lc = lcap := by injection hle2 with e1 e2 e3; exact ⟨e1, e3⟩
      obtain ⟨rfl, rfl⟩ := hla
      rw [HML.out] at p1
      have hck : w2.cell? ⟨lb, k, none⟩ = some (.int .i64 (i' : Nat)) := by
        have := p3 k (by rw [HML.out]; omega)
        rw [this]
        have e : L[k]? = some i' := by rw [hL', List.getElem?_append_right (by omega), hk]; simp
        rw [List.getElem?_eq_getElem (by rw [HML.out]; omega)] at e
        rw [Option.some.inj e]
      have hbd : Below w2.heap.size w2 w2.drew := (Below.refl _ _).drew
      have hbdd : Below w2.heap.size w2 w2.drew.drew := hbd.drew
      have hS0 : L1 rb lb (.slice (some ⟨lb, 0, none⟩) (k + 1) lc) k i' w2.drew := ⟨k3, hck⟩
      have hbal := hbdd.alloc (Nat.le_refl _) (.cells #[] 3)
      have hlv2 := M2.hlv
      have HNEWS := Lib.hid (show ∀ (j : Nat) (u : Value), (fl natC l0)[j]? = some u → (w2.alloc (.cells #[] 3)).drew.drew.cell? ((⟨lb, 0, none⟩ : Addr).add j) = some u from fun j u hu => by
        have hM := (M2.below hbal).hlv
        rw [HML.out] at hM
        refine World.ownsRow.cells hM rfl j u ?_
        rw [hL', fl_app, List.getElem?_append_left (List.getElem?_eq_some_iff.1 hu).1]
        exact hu)
      have HW4 := Lib.hid (fun (w4 : World) (hg : (w2.alloc (.cells #[] 3)).drew.drew.grownBy w4 (Value.slice (some ⟨w2.heap.size, 0, none⟩) 0 0).ownBlock) => (show Below w2.heap.size w2 w4 from below_add hbdd (fresh_grown (w := w2.drew.drew) hg) hbdd.size))
      have HC4 := Lib.hid (fun (w4 : World) (hb : Below w2.heap.size w2 w4) => (show w4.cell? ⟨rb, 3, none⟩ = some (.slice (some ⟨lb, 0, none⟩) (k + 1) lc) ∧ w4.frozen? ⟨rb, 3, none⟩ = false from ⟨by have := (M2.below hb).cells.2.2.2.1; rw [HML.out] at this; exact this, (M2.below hb).nofreeze 3⟩))
      have HOF := Lib.hid (show (w2.alloc (.cells #[] 3)).drew.drew.ownsRow w2.heap.size 3 1 (.slice (some ⟨w2.heap.size, 0, none⟩) 0 0) 0 [] from own_fresh7 w2.drew.drew 3 1)
      have HFL := Lib.hid (show (fl natC l0).length = k * 1 from by rw [fl_len, hk]; rfl)
      have hk0 : (0 : Int) ≤ (k : Int) := by omega
      have hk1 : (k : Int) < (k : Int) + 1 := by omega
      have hk2 : k ≤ 1000000 := by omega
      have hk3 : (k : Int) ≤ (lc : Int) := by omega
      have hwr : IntKind.i64.wrap (k : Int) = (k : Int) := by rw [IntKind.wrap_i64]; omega
      have hwr2 : IntKind.i64.wrap ((k : Int) + 1 - 1) = (k : Int) := by rw [IntKind.wrap_i64]; omega
      obtain ⟨i0, ki, kz0, kz1, kz2⟩ := info_int7
      have FIN := Lib.hid (fun (a4 : Option Addr) (c4 : Nat) (w4 : World) (hb4 : Below w2.heap.size w2 w4) (ho4 : w4.ownsRow w2.heap.size 3 1 (.slice a4 k c4) l0.length (fl natC l0)) => (show NewQ w B U rb (.slice ka T.ks.length kc) T x H E i' (.slice sa V.length sc) (.slice ha H.length hc) (.slice a4 k c4) V H l0 (w4.setCell ⟨rb, 3, none⟩ (.slice a4 k c4)) from
        ⟨((M2.mono (U' := fun k => U k ∨ w.heap.size ≤ k) (fun k hk => .inl hk) hsB).below hb4).reL (row := none) (.inr rfl) (grown_refl _ _) (owns_mono ho4 (Nat.zero_le _)) (fun g hg => .inr (by have := own_base ho4 hg; have := hb3.size; omega)) (fun g e1 e2 => by have := own_base ho4 e2; have := own_lt7 M2.hhv e1; omega),
          (O2.out.seq ((Off.of_below hb4).seq (Off.of_grown (grown_set _) (fun g hg => by cases hg; exact .inl M2.sRb)))).cut, hT.vl, n3, n2, fun k y hy _ => hy, n4⟩))
      have HSH := Lib.hid (fun (v4 : Value) (w4 : World) (ho : w4.ownsRow w2.heap.size 3 1 v4 (0 + k) ([] ++ fl natC l0)) => (show ∃ a c, v4 = .slice a k c ∧ w4.ownsRow w2.heap.size 3 1 (.slice a k c) l0.length (fl natC l0) from by
        rw [Nat.zero_add, List.nil_append, ← hk] at ho
        obtain ⟨a, c, e⟩ := (Row.of_owns (C := natC) ho).1.shape
        rw [e] at ho
        rw [hk] at e
        exact ⟨a, c, e, by rw [← hk]; rw [hk] at ho ⊢; exact ho⟩))
      clear hL hL' n1 n2 n3 n4 hck p3 hle2 M2 hT hok hbal hlv2 hk HT hd
      go_wp2_with fail
      go_region_held3 (fun w' => L1 rb lb (.slice (some ⟨lb, 0, none⟩) (k + 1) lc) k i' w') (first | assumption | trivial) (fail)
      go_wp2_with fail
      obtain ⟨hd3, hd4⟩ := HC4.out w2.drew.drew hbdd
      obtain ⟨hd5, hd6⟩ := HC4.out ((w2.alloc (.cells #[] 3)).drew.drew) (hbdd.alloc (Nat.le_refl _) _)
      go_region_law
        ((refine step_append_at7 (by rfl) (.tmp 51) (.tmp 62) 34 (by rfl) w2.heap.size 3 i0 (.int .i64 0) 1 8 Tryd.underlying34 ki kz0 kz1 kz2 (by rfl) (by decide) (.slice (some ⟨w2.heap.size, 0, none⟩) 0 0) 0 [] (by rfl) HOF.out ⟨lb, 0, none⟩ k lc (fl natC l0) (by rfl) HFL.out HNEWS.out (fl_ones natC l0) (by unfold maxLen; omega) (by omega) (by simp) ?_; intro v4 w4 ho4 hg4 ha4; obtain ⟨a4, c4, e4, ho5⟩ := HSH.out v4 w4 ho4; subst e4; have hb4 := HW4.out w4 hg4; obtain ⟨hS4, k4f⟩ := HC4.out w4 hb4))
      all_goals (go_wp2; go_meet; exact ⟨_, _, _, _, _, _, rfl, FIN.out a4 c4 w4 hb4 ho5⟩)
  case rest =>
    obtain ⟨sv, hw, lv, V', H0, L', rfl, hq⟩ := hcut
    obtain ⟨hT, hok, hf⟩ := HT.out
    obtain ⟨hx0, hmm⟩ := HX.out
    have hiH := hq.hi
    have hvv := hq.hv
    have hle3 := (le_ins hok hle x).es
    have hl3 := hq.hl
    have hbnd : H0.length ≤ 1000001 := by omega
    obtain ⟨sb, scap, rfl, s1, s2, s3, s4⟩ := hq.mem.formS (by omega)
    obtain ⟨hb, hcap, rfl, t1, t2, t3, t4⟩ := hq.mem.formH (by omega)
    have hv2 := HV.out wc hq.off
    have hiV : i < V'.length := by omega
    obtain ⟨xb, xo, xcap, e, x1, x2, x3, x4⟩ : ∃ xb xo xcap, (Value.slice va x.length vc) = .slice (some ⟨xb, xo, none⟩) x.length xcap ∧ x.length ≤ xcap ∧ xcap ≤ maxLen ∧ xb < wc.heap.size ∧ ∀ (j : Nat) (u : Value), (fl attC x)[j]? = some u → wc.cell? ⟨xb, xo + j, none⟩ = some u := by
      rcases hv2 with ⟨a, cap, e, h0, -⟩ | ⟨b, off, cap, e, h0, h1, h2, h3⟩
      · injection e with _ e2 _; omega
      · obtain ⟨u, hu⟩ : ∃ u, (fl attC x)[0]? = some u := by
          have : 0 < (fl attC x).length := by rw [fl_len]; exact Nat.mul_pos hxl attC.pos
          exact ⟨_, List.getElem?_eq_getElem this⟩
        exact ⟨b, off, cap, e, by omega, h2, World.block_lt_of_cell? _ _ (h3 0 u hu), h3⟩
    injection e with e1 _ e3
    subst e1 e3
    have hbd : Below wc.heap.size wc wc.drew := (Below.refl _ _).drew
    have hbal := hbd.alloc (Nat.le_refl _) (.cells #[] 47)
    have HNEWS := Lib.hid (show ∀ (j : Nat) (u : Value), (fl attC x)[j]? = some u → (wc.alloc (.cells #[] 47)).drew.cell? ((⟨xb, xo, none⟩ : Addr).add j) = some u from fun j u hu => by
      rw [Go.WideShapes.add_plain]
      exact (hbal.cell (p := ⟨xb, xo + j, none⟩) x3).trans (x4 j u hu))
    have HW6 := Lib.hid (fun (w6 : World) (hg : (wc.alloc (.cells #[] 47)).drew.grownBy w6 (Value.slice (some ⟨wc.heap.size, 0, none⟩) 0 0).ownBlock) => (show Below wc.heap.size wc w6 from below_add hbd (fresh_grown (w := wc.drew) hg) hbd.size))
    have HOF := Lib.hid (show (wc.alloc (.cells #[] 47)).drew.ownsRow wc.heap.size 47 5 (.slice (some ⟨wc.heap.size, 0, none⟩) 0 0) 0 [] from own_fresh7 wc.drew 47 5)
    have HFL := Lib.hid (show (fl attC x).length = x.length * 5 from by rw [fl_len]; rfl)
    have HSH := Lib.hid (fun (v4 : Value) (w4 : World) (ho : w4.ownsRow wc.heap.size 47 5 v4 (0 + x.length) ([] ++ fl attC x)) => (show ∃ a c, v4 = .slice a x.length c ∧ w4.ownsRow wc.heap.size 47 5 (.slice a x.length c) x.length (fl attC x) from by
      rw [Nat.zero_add, List.nil_append] at ho
      obtain ⟨a, c, e⟩ := (Row.of_owns (C := attC) ho).1.shape
      rw [e] at ho
      exact ⟨a, c, e, ho⟩))
    have hsz := hq.off.size
    have HM7 := Lib.hid (fun (a : Option Addr) (c : Nat) (w6 : World) (hb6 : Below wc.heap.size wc w6) (ho : w6.ownsRow wc.heap.size 47 5 (.slice a x.length c) x.length (fl attC x)) =>
      (hq.mem.below hb6).putsV i (x := ⟨a, x.length, c⟩) (X := x) (owns_mono ho (Nat.zero_le _)) (fun g hg => .inr (Nat.le_trans hsz (own_base ho hg))))
    have HC6 := Lib.hid (fun (w6 : World) (hb6 : Below wc.heap.size wc w6) => (show S1c rb (.slice (some ⟨sb, 0, none⟩) V'.length scap) w6 ∧ w6.cell? ⟨sb, i, none⟩ = some (V'[i]'hiV).v ∧ w6.frozen? ⟨sb, i, none⟩ = false from
      ⟨(hq.mem.below hb6).cells.2.1, (hb6.cell (World.block_lt_of_cell? _ _ (s3 i hiV))).trans (s3 i hiV), (hb6.frozen (p := ⟨sb, i, none⟩) (World.block_lt_of_cell? _ _ (s3 i hiV))).trans (s4 i)⟩))
    have hS0 := (HC6.out wc.drew hbd).1
    have hS1 := (HC6.out _ hbal).1
    have hi1 : (i : Int) < (V'.length : Int) := by omega
    have hi2 : (i : Int) < (H0.length : Int) := by omega
    obtain ⟨i0, ki, kz0, kz1, kz2⟩ := info_att5
    have HQ := Lib.hid hq
    clear hv2 hbd hbal s3 s4 t3 t4 x4 hq hT hvv hl3
    go_wp2_with fail
    go_region_held3 (fun w' => S1c rb (.slice (some ⟨sb, 0, none⟩) V'.length scap) w') (first | assumption | trivial)
      ((refine step_append_at7 (by rfl) (.tmp 94) (.tmp 95) 37 (by rfl) wc.heap.size 47 i0 (av noAtt) 5 48 Tryd.underlying37 ki kz0 kz1 kz2 (by rfl) (by decide) (.slice (some ⟨wc.heap.size, 0, none⟩) 0 0) 0 [] (by rfl) HOF.out ⟨xb, xo, none⟩ x.length vc (fl attC x) (by rfl) HFL.out HNEWS.out (fl_ones attC x) (by unfold maxLen; omega) (by omega) (by simp) ?_; intro v6 w6 ho6 hg6 ha6; obtain ⟨a6, c6, e6, ho7⟩ := HSH.out v6 w6 ho6; subst e6; have hb6 := HW6.out w6 hg6; obtain ⟨hS6, j1, j2⟩ := HC6.out w6 hb6; have hS7 : S1c rb (.slice (some ⟨sb, 0, none⟩) V'.length scap) (w6.setCell ⟨sb, i, none⟩ (.slice a6 x.length c6)) := (HM7.out a6 c6 w6 hb6 ho7).cells.2.1))
    have M7 := HM7.out a6 c6 w6 hb6 ho7
    have O7 := (HQ.out.off.mono (S' := fun k => U k ∨ w.heap.size ≤ k) (fun k hk => .inl hk)).seq ((Off.of_below hb6).seq (Off.of_grown (grown_set (w := w6) (g := sb) (o := i) (.slice a6 x.length c6)) (fun g hg => by cases hg; exact HQ.out.mem.sSv _ rfl)))
    obtain ⟨-, -, m2, -, -⟩ := M7.cells
    obtain ⟨m3, m4⟩ := M7.atH hiH
    have M8 : RefMem B (fun k => U k ∨ w.heap.size ≤ k) rb (.slice ka T.ks.length kc) (.slice (some ⟨sb, 0, none⟩) V'.length scap) (.slice (some ⟨hb, 0, none⟩) H0.length hcap) lv (V'.set i ⟨a6, x.length, c6⟩) (H0.set i 0) L' E (fun j => if j = i then x else T.set (j + 1)) (fun j => j = i ∨ T.live (j + 1)) ((w6.setCell ⟨sb, i, none⟩ (.slice a6 x.length c6)).setCell ⟨hb, i, none⟩ (.int .i64 0)) := M7.pokeH i 0
    have O8 := O7.seq (Off.of_grown (grown_set (w := w6.setCell ⟨sb, i, none⟩ (.slice a6 x.length c6)) (g := hb) (o := i) (.int .i64 0)) (fun g hg => by cases hg; exact HQ.out.mem.sHv _ rfl))
    have M8' : RefMem B (fun k => U k ∨ w.heap.size ≤ k) rb (.slice ka T.ks.length kc) (.slice (some ⟨sb, 0, none⟩) V'.length scap) (.slice (some ⟨hb, 0, none⟩) (H0.set i 0).length hcap) lv (V'.set i ⟨a6, x.length, c6⟩) (H0.set i 0) L' E (fun j => if j = i then x else T.set (j + 1)) (fun j => j = i ∨ T.live (j + 1)) ((w6.setCell ⟨sb, i, none⟩ (.slice a6 x.length c6)).setCell ⟨hb, i, none⟩ (.int .i64 0)) := by rw [List.length_set]; exact M8
    obtain ⟨-, -, p2, -, -⟩ := M8.cells
    obtain ⟨p3, p4⟩ := M8'.atH (i := i) (by rw [List.length_set]; exact hiH)
    have p5 : (H0.set i 0)[i]'(by rw [List.length_set]; exact hiH) = 0 := by simp
    rw [p5] at p3
    have e00 : ((0 : Nat) : Int) = 0 := rfl
    rw [e00] at p3
    have M9 := Lib.hid (show RefMem B (fun k => U k ∨ w.heap.size ≤ k) rb (.slice ka T.ks.length kc) _ _ lv _ _ L' E _ _ (((w6.setCell ⟨sb, i, none⟩ (.slice a6 x.length c6)).setCell ⟨hb, i, none⟩ (.int .i64 0)).setCell ⟨hb, i, none⟩ (.int .i64 1)) from (M8'.pokeH i 1).conv (fun k _ hk => ins_sets hok x hf k hk))
    have O9 := Lib.hid (O8.seq (Off.of_grown (grown_set (w := (w6.setCell ⟨sb, i, none⟩ (.slice a6 x.length c6)).setCell ⟨hb, i, none⟩ (.int .i64 0)) (g := hb) (o := i) (.int .i64 1)) (fun g hg => by cases hg; exact HQ.out.mem.sHv _ rfl)))
    have R9 := Lib.hid (ins_ref hok x HT.out.1 (V' := V'.set i ⟨a6, x.length, c6⟩) hf (by rw [List.length_set]; exact HQ.out.hv) HQ.out.hl hiH HQ.out.hH HQ.out.hfr)
    clear M7 M8 M8' O7 O8 p5 ho6 hg6 ha6 ho7 hS6 hS7 j1 j2 hS0 hS1 hok hf
    go_wp2
    exact bodyPost_ret (v := .tuple #[.int .i64 ((i : Int) + 1), .int .i64 0]) (by simp [results, Tryd.results15, go_sem]) rfl (.inr ⟨trivial, rfl, ⟨_, _, _, _, _, _, _, M9.out, R9.out⟩, O9.out.cut⟩)
end
end Go.Proofs.YtiobcifpebehnaaDoor

/- J9 -/
/- J9: the reference's Add; two tables side by side -/
namespace Go.Proofs.YtiobcifpebehnaaDoor
open Go.RowKit
set_option linter.unusedVariables false

section
variable {B : Nat} {U : Nat → Prop} {rb : Nat} {kv : Value} {T : TabS} {n : Nat}
theorem radd7 (v : Value) (x : List Att) (w : World) (h : RefR B U rb kv T w) (hk : Krow w kv T.ks) (hv : Arow w v x) (hW : ∀ a ∈ x, AttW a) (hS : ∀ a ∈ x, a.s.size ≤ 1048576) (hok : T.Ok) (hle : T.Le n) (hn : n ≤ 1000000) (hlX : x.length ≤ 1000000) (hvU : Outs U v) :
    Calls Tryd.prog 15 #[.pointer (some ⟨rb, 0, none⟩), v] w (RAddP B U rb kv T x w) := by
  by_cases hm : may5 T.ks x = 0
  · by_cases hX : x = []
    · subst hX
      exact radd_nil v w h hk hv hok hle hn hm
    · cases hl : T.look x with
      | some i => exact radd_there v x w h hk hv hW hS hok hle hn hm hX hl
      | none => exact radd_new v x w h hk hv hW hS hok hle hn hm hX hlX hl hvU
  · exact radd_bad v x w h hk hv hW hS hm
end

/-- The table and the reference's, apart from one another. -/
structure PlayR (w0 : World) (B tb rb : Nat) (kv : Value) (S U : Nat → Prop) (T : TabS) (n : Nat) (wr : World) : Prop where
  t : Tb B S tb T n wr
  r : RefR B U rb kv T wr
  tab : Tab B wr
  bel : Below w0.heap.size w0 wr
  ap : ∀ k, S k → U k → False

section
variable {w0 : World} {B tb rb : Nat} {kv : Value} {S U : Nat → Prop} {T : TabS} {n : Nat} {wr : World}
theorem PlayR.below (h : PlayR w0 B tb rb kv S U T n wr) {w' : World} (hb : Below wr.heap.size wr w') : PlayR w0 B tb rb kv S U T n w' :=
  ⟨h.t.below hb, h.r.below hb, h.tab.on (hb.mono h.t.hB), below_add h.bel hb h.bel.size, h.ap⟩
theorem PlayR.cut (h : PlayR w0 B tb rb kv S U T n wr) : PlayR w0 B tb rb kv (fun k => S k ∧ k < wr.heap.size) (fun k => U k ∧ k < wr.heap.size) T n wr :=
  ⟨h.t.cut, h.r.cut, h.tab, h.bel, fun k h1 h2 => h.ap k h1.1 h2.1⟩
theorem Tb.le {B : Nat} {S : Nat → Prop} {tb : Nat} {T : TabS} {n m : Nat} {w : World} (h : Tb B S tb T n w) (hm : n ≤ m) : Tb B S tb T m w := by
  obtain ⟨st, mb, mm, sv, fv, hs, D, t⟩ := h
  obtain ⟨es, clock, q1, q2, q3, q4⟩ := t.hmb
  exact ⟨st, mb, mm, sv, fv, hs, D, { t with hmb := ⟨es, clock, q1, q2, by omega, q4⟩, le := t.le.mono hm }⟩
theorem Tb.leT {B : Nat} {S : Nat → Prop} {tb : Nat} {T : TabS} {n : Nat} {w : World} (h : Tb B S tb T n w) : T.Le n := by obtain ⟨st, mb, mm, sv, fv, hs, D, t⟩ := h; exact t.le
theorem PlayR.le (h : PlayR w0 B tb rb kv S U T n wr) {m : Nat} (hm : n ≤ m) : PlayR w0 B tb rb kv S U T m wr := ⟨h.t.le hm, h.r, h.tab, h.bel, h.ap⟩
theorem RefR.kept {w w' : World} (h : RefR B U rb kv T w) (hz : w.heap.size ≤ w'.heap.size) (hk : ∀ k, k < w.heap.size → U k → w'.heap[k]? = w.heap[k]?) : RefR B U rb kv T w' := by
  obtain ⟨sv, hv, lv, V, H, L, E, h, hT⟩ := h
  exact ⟨sv, hv, lv, V, H, L, E, h.kept hz hk, hT⟩
theorem Tb.kept {w w' : World} (h : Tb B S tb T n w) (hz : w.heap.size ≤ w'.heap.size) (hk : ∀ k, k < w.heap.size → k < B ∨ S k → w'.heap[k]? = w.heap[k]?) : Tb B S tb T n w' := by
  obtain ⟨st, mb, mm, sv, fv, hs, D, t⟩ := h
  exact ⟨st, mb, mm, sv, fv, hs, D, t.kept hz hk⟩
/-- What neither table has may be written over. -/
theorem PlayR.off (h : PlayR w0 B tb rb kv S U T n wr) (hw : w0.heap.size ≤ B) {X : Nat → Prop} {w' : World} (ho : Off X wr w') (hX : ∀ k, X k → B ≤ k ∧ ¬ S k ∧ ¬ U k) : PlayR w0 B tb rb kv S U T n w' := by
  have hb := ho.below (fun k hk => (hX k hk).1) h.t.hB
  exact ⟨h.t.kept ho.size (fun k hk hS => ho.block k hk (fun hx => by
      rcases hS with e | e
      · have := (hX k hx).1; omega
      · exact (hX k hx).2.1 e)), h.r.kept ho.size (fun k hk hU => ho.block k hk (fun hx => (hX k hx).2.2 hU)), h.tab.on hb, h.bel.trans (hb.mono hw), h.ap⟩
/-- The two steps of one call: first the table's, then the reference's. -/
theorem PlayR.step (h : PlayR w0 B tb rb kv S U T n wr) (hw : w0.heap.size ≤ B) {T' : TabS} {n' : Nat} {w1 w2 : World} (ht : Tb B (fun k => (S k ∧ k < wr.heap.size) ∨ wr.heap.size ≤ k) tb T' n' w1) (ho : Off (fun k => S k ∧ k < wr.heap.size) wr w1)
    (hr : RefR B (fun k => (U k ∧ k < wr.heap.size) ∨ w1.heap.size ≤ k) rb kv T' w2) (ho2 : Off (fun k => U k ∧ k < wr.heap.size) w1 w2) :
    ∃ S' U', PlayR w0 B tb rb kv S' U' T' n' w2 := by
  have hB := h.t.hB
  have b1 := ho.below (fun k hk => h.t.sB k hk.1) hB
  have b2 : Below B w1 w2 := ho2.below (fun k hk => h.r.sB k hk.1) (Nat.le_trans hB ho.size)
  refine ⟨_, _, (ht.cut).kept ho2.size (fun k hk hS => ho2.block k hk (fun hx => ?_)), hr, (h.tab.on b1).on b2, (h.bel.trans (b1.mono hw)).trans (b2.mono hw), fun k h1 h2 => ?_⟩
  · rcases hS with e | ⟨e | e, -⟩
    · have := h.r.sB k hx.1; omega
    · exact h.ap k e.1 hx.1
    · omega
  · rcases h1 with ⟨e | e, e2⟩
    · rcases h2 with f | f
      · exact h.ap k e.1 f.1
      · omega
    · rcases h2 with f | f
      · omega
      · omega
/-- The reference's table as it is seen behind the table's step. -/
theorem PlayR.ref (h : PlayR w0 B tb rb kv S U T n wr) {w1 : World} (ho : Off (fun k => S k ∧ k < wr.heap.size) wr w1) : RefR B (fun k => U k ∧ k < wr.heap.size) rb kv T w1 :=
  h.cut.r.kept ho.size (fun k hk hU => ho.block k hk (fun hx => h.ap k hx.1 hU.1))
end
end Go.Proofs.YtiobcifpebehnaaDoor
