
import Derived.Test.YtiobcifpebehnaaDoorI13
/- I14: Add of a set that comes -/
namespace Go.Proofs.YtiobcifpebehnaaDoor
open Go.RowKit
set_option linter.unusedVariables false

section
variable {B : Nat} {S : Nat → Prop} {tb st mb : Nat} {m : Option Nat} {sv fv : Value} {hs : List HV} {D : DataW Unit} {T : TabS} {n : Nat}
/-- take, whether an id is free or none is: the places as they are then. -/
def TookP (B : Nat) (S : Nat → Prop) (tb st mb : Nat) (m : Option Nat) (D : DataW Unit) (T : TabS) (n : Nat) (x : List Att) (w : World) (e : Ending) (w' : World) : Prop :=
  e = .returned (.int .i64 (T.fresh : Nat)) ∧ Off S w w' ∧ ∃ sv' fv' hs' sets', Mem B (fun k => S k ∨ w.heap.size ≤ k) tb st mb m sv' fv' hs' sets' (T.ins x).free T.ks (n + 1) D w' ∧
    hs'.length = (T.ins x).es.length ∧ (∀ j, j ≠ T.fresh → sets' j = T.set j) ∧ (∀ (j : Nat) (y : HV), hs'[j]? = some y → y.n = if j = T.fresh then 0 else T.times j)
theorem took_any (x : List Att) (w : World) (h : TbM B S tb st mb m sv fv hs D T n w) (hn : n ≤ 1000000) :
    Calls Tryd.prog 32 #[.pointer (some ⟨st, 0, none⟩)] w (TookP B S tb st mb m D T n x w) := by
  have hM := h.mem
  have hlen := h.len
  have hle := h.le
  have hok := h.ok
  have hnn := h.hn
  unfold TookP
  cases hf : T.free.getLast? with
  | some i =>
    obtain ⟨f0, e⟩ := List.getLast?_eq_some_iff.1 hf
    obtain ⟨b1, b2, b3⟩ := hok.freeB i (List.mem_of_getLast? hf)
    have e2 : T.free.dropLast = f0 := by rw [e, List.dropLast_concat]
    have ef : T.fresh = i := by unfold TabS.fresh; rw [hf]
    have ei : T.ins x = ⟨T.ks, T.es.set i ⟨x, 1⟩, f0⟩ := by unfold TabS.ins; rw [hf, ← e2]
    rw [ef, ei]
    rw [e] at hM
    have hl := hle.free
    rw [e] at hl
    simp at hl
    refine (take_old w hM (by omega)).mono fun e1 w1 ⟨q1, ⟨fv', q2⟩, q3⟩ => ⟨q1, q3, sv, fv', hs, T.set, ?_, ?_, fun j _ => rfl, fun j y hy => ?_⟩
    · exact q2
    · simp [hlen]
    · have := hnn j y hy
      by_cases hj : j = i
      · rw [if_pos hj, this, hj, b3]
      · rw [if_neg hj]; exact this
  | none =>
    have e : T.free = [] := by simpa using hf
    have ef : T.fresh = hs.length := by unfold TabS.fresh; rw [hf, hlen]
    have ei : T.ins x = ⟨T.ks, T.es ++ [⟨x, 1⟩], []⟩ := by unfold TabS.ins; rw [hf, e]
    rw [ef, ei]
    rw [e] at hM
    refine (take_new w hM (by rw [hlen]; exact hok.pos) (by have := hle.es; omega)).mono fun e1 w1 ⟨q1, ⟨sv', q2⟩, q3⟩ => ⟨q1, q3, sv', fv, hs ++ [noHV], fun j => if j = hs.length then [] else T.set j, q2, ?_, fun j hj => if_neg hj, fun j y hy => ?_⟩
    · simp [hlen]
    · rcases hs_snoc hs j y hy with ⟨q1, q2⟩ | ⟨rfl, q2⟩
      · rw [if_neg (by omega)]; exact hnn j y q1
      · rw [if_pos q2]
end

theorem ks_ins (T : TabS) (x : List Att) : (T.ins x).ks = T.ks := by unfold TabS.ins; split <;> rfl
theorem wf_nat {i : Nat} (h : i ≤ 1000000000) : (Lit.int .i64 (i : Nat)).wf = true := by
  exact Go.WalkArith.wf_i64 (by omega)

/-- A slice that lies outside of S. -/
def Outs (S : Nat → Prop) (v : Value) : Prop := ∀ b o l c, v = .slice (some ⟨b, o, none⟩) l c → ¬ S b
theorem Row.off {α : Type} {C : Cel α} {S : Nat → Prop} {w w' : World} {v : Value} {xs : List α} (h : Row C w v xs) (hO : Off S w w') (hv : Outs S v) : Row C w' v xs := by
  rcases h with h | ⟨b, off, cap, rfl, h0, h1, h2, h3⟩
  · exact .inl h
  · refine .inr ⟨b, off, cap, rfl, h0, h1, h2, fun j u hu => ?_⟩
    have := h3 j u hu
    rw [← this]
    exact World.cell?_of_block (w := w) (hO.block b (World.block_lt_of_cell? w _ this) (hv _ _ _ _ rfl))
theorem Mem.own_put {B : Nat} {S : Nat → Prop} {tb st mb : Nat} {m : Option Nat} {fv : Value} {hs : List HV} {sets : Nat → List Att} {fr : List Nat} {ks : List Key} {k : Nat} {D : DataW Unit} {w w5 : World} {g cap : Nat} (h : Mem B S tb st mb m (.slice (some ⟨g, 0, none⟩) hs.length cap) fv hs sets fr ks k D w) {i : Nat} {y : HV} (hy : hs[i]? = some y) (hS : ∀ k, w.heap.size ≤ k → S k)
    (hb : Below w.heap.size w w5) {ua : Option Addr} {l uc : Nat} {X : List Att} (ho : Own5 w w5 (.slice ua l uc) X) :
    Mem B S tb st mb m (.slice (some ⟨g, 0, none⟩) (hs.set i ⟨ua, l, uc, y.n⟩).length cap) fv (hs.set i ⟨ua, l, uc, y.n⟩) (fun j => if j = i then X else sets j) fr ks k D (w5.setCell ⟨g, i * 2, none⟩ (.slice ua l uc)) :=
  (h.below hb).puts hy (owns_mono ho (Nat.zero_le _)) (fun g' hg' => hS g' (own_base ho hg'))
@[reducible] def NewS (tb st : Nat) (sv : Value) (w : World) : Prop := w.cell? ⟨tb, 0, none⟩ = some (.pointer (some ⟨st, 0, none⟩)) ∧ w.cell? ⟨st, 2, none⟩ = some sv

section
variable {B : Nat} {S : Nat → Prop} {tb : Nat} {T : TabS} {n : Nat}
set_option maxRecDepth 100000 in
set_option maxHeartbeats 2000000 in
theorem add_new (v : Value) (x : List Att) (w : World) (h : Tb B S tb T n w) (hv : Arow w v x) (hW : ∀ a ∈ x, AttW a) (hm : may5 T.ks x = 0) (hn : n ≤ 1000000) (htab : Tab B w) (hl : T.look x = none) (hvS : Outs S v) :
    Calls Tryd.prog 14 #[.pointer (some ⟨tb, 0, none⟩), v] w (AddP B S tb T n x w) := by
  obtain ⟨st, mb, m, sv, fv, hs, D, h⟩ := h
  obtain ⟨c0, -⟩ := h.cells
  have hx := may_small hm hW
  have HZ := Lib.hid (iszero_any w h)
  have HM := Lib.hid (may_any5 _ _ v x w h.sch hv hW)
  rw [hm] at HM
  have HT := Lib.hid (fun (w' : World) (hb : Below w.heap.size w w') => text_any v x w' (hv.below hb (Nat.le_refl _)) hx (fun w2 hb2 => htab w2 ((hb.mono h.hB).trans (hb2.mono (Nat.le_trans h.hB hb.size)))))
  have hlen : (txt x).length ≤ maxLen := by have := hx.len x.length; rw [List.take_of_length_le (Nat.le_refl _)] at this; unfold maxLen; omega
  have hkey := strKey hlen
  have hhas : Maps.has D (.string (txt x)) = false := by rw [h.ids.look h.ok hx, hl]; rfl
  have HLK := Lib.hid (fun (w' : World) (hb : Below w.heap.size w w') => by
    have := look_at (h.below hb).hmb hlen (Maps.atKey_of_not_has hhas _)
    rw [hhas] at this
    exact this)
  have HC := Lib.hid (fun (w' : World) (hb : Below w.heap.size w w') => (h.below hb).cells)
  have HTK := Lib.hid (fun (w' : World) (hb : Below w.heap.size w w') => took_any x w' (h.below hb) hn)
  have HOWN := Lib.hid (fun (w' : World) (hr : Arow w' v x) => own_any v x w' hr (by have := hx.1; omega) (fun a ha => by have := (hx.2 a ha).2; omega))
  have HV := Lib.hid (fun (w' : World) (hb : Below w.heap.size w w') => hv.below hb (Nat.le_refl _))
  have hle := h.le.es
  have e1 : T.idOf x = T.fresh := by unfold TabS.idOf; rw [hl]
  have e2 : T.add x = T.ins x := by unfold TabS.add; rw [hl]
  obtain ⟨i1, i2, i3, i4, i5⟩ := len_ins h.ok x
  have hwf := wf_nat (i := T.fresh) (by omega)
  have HMM := Lib.hid hm
  have H0 := Lib.hid h
  have HX := Lib.hid hx
  have HNL := Lib.hid hl
  obtain ⟨va, vc, rfl⟩ := hv.shape
  unfold AddP
  rw [e1, e2]
  clear h hv hm hl htab hhas e1 e2 hx hlen
  go_enter Tryd.func14, Tryd.ntmps14
  go_wp2_with (first
    | (go_at_call 30; refine HZ.out.mono ?_; rintro e w0 ⟨rfl, hw⟩; subst hw)
    | (go_at_call 31; refine HM.out.mono ?_; rintro e w1 ⟨rfl, hb1⟩)
    | (go_at_call 29; refine (HT.out w1 hb1).mono ?_; rintro e w2 ⟨rfl, hb2⟩; refine Hid.out ?_))
  have hb12 : Below w0.heap.size w0 w2 := below_add hb1 hb2 hb1.size
  have hlk := HLK.out w2 hb12
  obtain ⟨d0, -, d1, -, -⟩ := HC.out w2 hb12
  clear HZ HM HT HLK hb1 hb2 c0
  refine Lib.hid ?_
  go_wp2_with (go_at_call 32; refine (HTK.out w2 hb12).mono ?_; rintro e w3 ⟨rfl, hO3, sv3, fv3, hs3, sets3, hM3, hl3, hs3', hn3⟩; refine Hid.out ?_)
  obtain ⟨f0, -, f1, -, -⟩ := hM3.cells
  have hfl : T.fresh < hs3.length := by omega
  obtain ⟨y, hy⟩ : ∃ y, hs3[T.fresh]? = some y := ⟨_, List.getElem?_eq_getElem hfl⟩
  have hy0 : y.n = 0 := by have := hn3 _ _ hy; rwa [if_pos rfl] at this
  obtain ⟨g, cap, rfl, hg, hcap⟩ := hM3.form (by omega)
  have M3 := Lib.hid hM3
  have N3 := Lib.hid hn3
  have hmb3 := hM3.hmb
  clear hlk d0 d1 hM3 hn3 HTK
  refine Lib.hid ?_
  go_wp2_with (at_mapUpdate; refine wpList_mapUpdate_in _ rfl _ _ _ 80 rfl 9 3 keyedStr Tryd.underlying80 (plainElem Tryd.prog 3) mb (n + 1) D rfl hmb3 (by unfold maxLen; omega) (.string ⟨(txt x).toArray⟩) (.int .i64 (T.fresh : Nat)) (.string (txt x)) rfl rfl hkey (.lit (.int .i64 (T.fresh : Nat))) [] (plainElem_int Tryd.underlying3 hwf) ?_; intro w4 ho4 ht4; refine Hid.out ?_)
  have M4 := Lib.hid (M3.out.turn ho4 ht4.grown)
  have O4 := Lib.hid ((Off.of_below (S := fun k => S k ∨ w0.heap.size ≤ k) hb12).seq ((hO3.mono (fun k hk => .inl hk)).seq (Off.of_grown ht4.grown (fun g' hg' => by cases hg'; exact .inl H0.out.sMb))))
  clear ho4 ht4 hO3 f0 f1 hmb3
  have hsz4 : w0.heap.size ≤ w4.heap.size := O4.out.size
  have hsB : ∀ k, S k ∨ w0.heap.size ≤ k → B ≤ k := fun k hk => by rcases hk with hk | hk; exact H0.out.sB k hk; have := H0.out.hB; omega
  have hb4 : Below w4.heap.size w4 w4.drew := (Below.refl _ _).drew
  have M5 := Lib.hid ((M4.out.mono (S' := fun k => S k ∨ w0.heap.size ≤ k) (fun k hk => by rcases hk with hk | hk; exact .inl hk; right; have := hb12.size; omega) hsB).below hb4)
  have hv4 : Arow w4.drew (.slice va x.length vc) x := (Row.off (HV.out w0 (Below.refl _ _)) O4.out.cut hvS).below hb4 (Nat.le_refl _)
  have HO := Lib.hid (HOWN.out w4.drew hv4)
  have hS4 : NewS tb st (.slice (some ⟨g, 0, none⟩) hs3.length cap) w4.drew := ⟨M5.out.cells.1, M5.out.cells.2.2.2.1⟩
  have HS5 := Lib.hid (fun (w5 : World) (hb : Below w4.drew.heap.size w4.drew w5) => (show NewS tb st (.slice (some ⟨g, 0, none⟩) hs3.length cap) w5 from ⟨(M5.out.below hb).cells.1, (M5.out.below hb).cells.2.2.2.1⟩))
  have HP5 := Lib.hid (fun (w5 : World) (hb : Below w4.drew.heap.size w4.drew w5) => (show w5.cell? ⟨g, T.fresh * 2, none⟩ = some (.slice y.a y.l y.c) ∧ w5.frozen? ⟨g, T.fresh * 2, none⟩ = false from ⟨((M5.out.below hb).place hy).1, ((M5.out.below hb).place hy).2.2 _⟩))
  have HM6 := Lib.hid (fun (w5 : World) (hb : Below w4.drew.heap.size w4.drew w5) (ua : Option Addr) (uc : Nat) (ho : Own5 w4.drew w5 (.slice ua x.length uc) x) => M5.out.own_put hy (fun k hk => .inr (Nat.le_trans hsz4 hk)) hb ho)
  have HS6 := Lib.hid (fun (w5 : World) (hb : Below w4.drew.heap.size w4.drew w5) (ua : Option Addr) (uc : Nat) (ho : Own5 w4.drew w5 (.slice ua x.length uc) x) => (show NewS tb st (.slice (some ⟨g, 0, none⟩) hs3.length cap) (w5.setCell ⟨g, T.fresh * 2, none⟩ (.slice ua x.length uc)) from by
    have := (HM6.out w5 hb ua uc ho).cells
    rw [List.length_set] at this
    exact ⟨this.1, this.2.2.2.1⟩))
  have HL3 := Lib.hid hl3
  have HS3 := Lib.hid hs3'
  have HY := Lib.hid hy
  have hi0 : (0 : Int) ≤ (T.fresh : Int) := by omega
  have hi1 : (T.fresh : Int) < (hs3.length : Int) := by omega
  clear hv4 hy hs3' hl3 HV HOWN HC
  refine Lib.hid ?_
  go_wp2_with fail
  go_region_held3 (fun w' => NewS tb st (.slice (some ⟨g, 0, none⟩) hs3.length cap) w') (first | assumption | trivial)
    ((go_at_call 33; refine HO.out.mono ?_; rintro e w5 ⟨u, rfl, ho5, hb5⟩; obtain ⟨ua, uc, rfl⟩ := ((Row.of_owns (C := attC) ho5).1).shape; have hS5 := HS5.out w5 hb5; obtain ⟨p5, q5⟩ := HP5.out w5 hb5; have hS6 := HS6.out w5 hb5 ua uc ho5))
  have M6 := Lib.hid (HM6.out w5 hb5 ua uc ho5)
  have hx6 : (hs3.set T.fresh ⟨ua, x.length, uc, y.n⟩)[T.fresh]? = some ⟨ua, x.length, uc, y.n⟩ := by rw [List.getElem?_set, if_pos rfl, if_pos hfl]
  obtain ⟨t0, -, -, t2, -⟩ := M6.out.cells
  obtain ⟨-, t4, t5⟩ := M6.out.place hx6
  have t6 := t5 (T.fresh * 2 + 1)
  rw [List.length_set] at t2
  simp only [hy0] at t4
  have M7 := Lib.hid (M6.out.poke (q := 1) hx6)
  have O6 := Lib.hid (((O4.out.seq (Off.of_below hb4)).seq (Off.of_below hb5)).seq (Off.of_grown (grown_set (w := w5) (g := g) (o := T.fresh * 2) (.slice ua x.length uc)) (fun g' hg' => by cases hg'; exact M5.out.sSv _ rfl)))
  have O7 := Lib.hid (O6.out.seq (Off.of_grown (grown_set (w := w5.setCell ⟨g, T.fresh * 2, none⟩ (.slice ua x.length uc)) (g := g) (o := T.fresh * 2 + 1) (.int .i64 ((1 : Nat) : Int))) (fun g' hg' => by cases hg'; exact M5.out.sSv _ rfl)))
  clear hx6 hS4 hS5 hS6 p5 q5 hb5 ho5 t5
  go_wp2
  refine bodyPost_ret (v := .tuple #[.int .i64 (T.fresh : Nat), .int .i64 0]) (by simp [results, Tryd.results14, go_sem]) rfl (.inr ⟨HMM.out, rfl, ⟨_, _, _, _, _, _, _, M7.out.tbm (T := T.ins x) (n := n + 1) ?_ (fun j hj => ?_) rfl (ks_ins T x).symm (by omega) (fun j z hz => ?_) (H0.out.ids.ins H0.out.ok HX.out HNL.out) (ok_ins H0.out.ok HX.out HNL.out) (le_ins H0.out.ok H0.out.le x)⟩, O7.out.cut⟩)
  · rw [List.length_set, List.length_set]; exact HL3.out
  · rw [set_ins H0.out.ok]
    by_cases hjf : j = T.fresh
    · rw [if_pos hjf, if_pos hjf]
    · rw [if_neg hjf, if_neg hjf]; exact HS3.out j hjf
  · rw [times_ins H0.out.ok]
    rw [List.getElem?_set] at hz
    split at hz
    · rename_i hij
      rw [if_pos hij.symm]
      split at hz
      · cases hz; rfl
      · cases hz
    · rename_i hij
      rw [List.getElem?_set, if_neg hij] at hz
      have hjf : ¬ j = T.fresh := fun e => hij e.symm
      have := N3.out j z hz
      rw [if_neg hjf] at this
      rw [if_neg hjf]
      exact this
end
end Go.Proofs.YtiobcifpebehnaaDoor
