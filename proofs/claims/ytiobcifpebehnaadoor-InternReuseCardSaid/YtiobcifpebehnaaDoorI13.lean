
import Derived.Test.YtiobcifpebehnaaDoorI12
/- I13: Add of a set that may not be, of one that is there -/
namespace Go.Proofs.YtiobcifpebehnaaDoor
open Go.RowKit
set_option linter.unusedVariables false

theorem TbM.sch {B : Nat} {S : Nat → Prop} {tb st mb : Nat} {m : Option Nat} {sv fv : Value} {hs : List HV} {D : DataW Unit} {T : TabS} {n : Nat} {w : World} (h : TbM B S tb st mb m sv fv hs D T n w) : Sch w (.pointer (some ⟨st, 0, none⟩)) T.ks := by
  obtain ⟨-, c0, -⟩ := h.cells
  refine ⟨h.good, .inr ?_⟩
  rcases h.hm with ⟨rfl, h2⟩ | ⟨sb, rfl, -, h3⟩
  · exact .inl ⟨st, rfl, c0, h2⟩
  · exact .inr ⟨st, sb, rfl, c0, h3⟩
theorem zeroInt (w : World) : (zeroValue 3).run Tryd.prog w = .ok (.int .i64 0) w := by
  rw [Tryd.zeroValue3]
set_option maxRecDepth 100000 in
/-- 'id, there := ids[text]'. -/
theorem look_at {w : World} {mb k : Nat} {D : DataW Unit} (ho : w.ownsMap Tryd.prog 9 (plainElem Tryd.prog 3) mb k D) {s : List UInt8} (hs : s.length ≤ maxLen) {c : Int} (hc : D.atKey (.string s) (.lit (.int .i64 0)) = .lit (.int .i64 c)) :
    (Instr.lookup 80 (.map (some mb)) (.string ⟨s.toArray⟩) true).run Tryd.prog w = .ok (.tuple #[.int .i64 c, .bool (Maps.has D (.string s))]) w := by
  obtain ⟨v, ps, hrun, hv⟩ := ho.look_ok keyedStr Tryd.underlying80 (zeroInt w) (plainElem_int Tryd.underlying3 (by decide)) (strKey hs)
  rw [hc] at hv
  obtain ⟨c', rfl, hc', -⟩ := plainElem_int_inv Tryd.underlying3 hv
  have : (DataW.lit (.int .i64 c) : DataW Unit) = .lit (.int .i64 c') := congrArg Prod.fst hc'
  injection this with this
  injection this with _ this
  subst this
  exact hrun

section
variable {B : Nat} {S : Nat → Prop} {tb : Nat} {T : TabS} {n : Nat}
def AddP (B : Nat) (S : Nat → Prop) (tb : Nat) (T : TabS) (n : Nat) (x : List Att) (w : World) (e : Ending) (w' : World) : Prop :=
  (may5 T.ks x ≠ 0 ∧ e = .returned (.tuple #[.int .i64 0, .int .i64 (may5 T.ks x)]) ∧ Tb B S tb T n w' ∧ Below w.heap.size w w') ∨
  (may5 T.ks x = 0 ∧ e = .returned (.tuple #[.int .i64 (T.idOf x : Nat), .int .i64 0]) ∧ Tb B (fun k => S k ∨ w.heap.size ≤ k) tb (T.add x) (n + 1) w' ∧ Off S w w')
theorem add_bad (v : Value) (x : List Att) (w : World) (h : Tb B S tb T n w) (hv : Arow w v x) (hW : ∀ a ∈ x, AttW a) (hm : may5 T.ks x ≠ 0) :
    Calls Tryd.prog 14 #[.pointer (some ⟨tb, 0, none⟩), v] w (AddP B S tb T n x w) := by
  obtain ⟨st, mb, m, sv, fv, hs, D, h⟩ := h
  obtain ⟨c0, -⟩ := h.cells
  have HZ := Lib.hid (iszero_any w h)
  have HM := Lib.hid (may_any5 _ _ v x w h.sch hv hW)
  have HK := Lib.hid (fun (w' : World) (hb : Below w.heap.size w w') => h.below hb)
  have HN := Lib.hid hm
  obtain ⟨va, vc, rfl⟩ := hv.shape
  have hE : (may5 T.ks x != 0) = true := by simpa using hm
  unfold AddP
  generalize may5 T.ks x = e0 at *
  clear h hv hm
  go_enter Tryd.func14, Tryd.ntmps14
  go_wp2_with (first
    | (go_at_call 30; refine HZ.out.mono ?_; rintro e w0 ⟨rfl, hw⟩; subst hw)
    | (go_at_call 31; refine HM.out.mono ?_; rintro e w1 ⟨rfl, hb1⟩))
  refine bodyPost_ret (v := .tuple #[.int .i64 0, .int .i64 e0]) (by simp [results, Tryd.results14, go_sem]) rfl (.inl ⟨HN.out, rfl, ⟨_, _, _, _, _, _, _, HK.out _ hb1⟩, hb1⟩)

set_option maxHeartbeats 1000000 in
theorem add_there (v : Value) (x : List Att) (w : World) (h : Tb B S tb T n w) (hv : Arow w v x) (hW : ∀ a ∈ x, AttW a) (hm : may5 T.ks x = 0) (hn : n ≤ 1000000) (htab : Tab B w) {i : Nat} (hl : T.look x = some i) :
    Calls Tryd.prog 14 #[.pointer (some ⟨tb, 0, none⟩), v] w (AddP B S tb T n x w) := by
  obtain ⟨st, mb, m, sv, fv, hs, D, h⟩ := h
  obtain ⟨c0, -⟩ := h.cells
  obtain ⟨g, cap, rfl, hg, hcap⟩ := h.form
  obtain ⟨l1, l2, l3⟩ := look_some hl
  have hx := may_small hm hW
  have HZ := Lib.hid (iszero_any w h)
  have HM := Lib.hid (may_any5 _ _ v x w h.sch hv hW)
  rw [hm] at HM
  have HT := Lib.hid (fun (w' : World) (hb : Below w.heap.size w w') => text_any v x w' (hv.below hb (Nat.le_refl _)) hx (fun w2 hb2 => htab w2 ((hb.mono h.hB).trans (hb2.mono (Nat.le_trans h.hB hb.size)))))
  have HK := Lib.hid (fun (w' : World) (hb : Below w.heap.size w w') => h.below hb)
  have hlen : (txt x).length ≤ maxLen := by have := hx.len x.length; rw [List.take_of_length_le (Nat.le_refl _)] at this; unfold maxLen; omega
  have hat := h.ids.at_ i l1 (.lit (.int .i64 0))
  have hhas := h.ids.has_ i l1
  rw [l2] at hat hhas
  have HLK := Lib.hid (fun (w' : World) (hb : Below w.heap.size w w') => by
    have := look_at (h.below hb).hmb hlen hat
    rw [hhas] at this
    exact this)
  have hq : T.times i ≤ 1000000 := Nat.le_trans (h.le.times i) hn
  have HR := Lib.hid (fun (w' : World) (hb : Below w.heap.size w w') => (h.below hb).renum (q := T.times i + 1) l1 (.inr (by omega)) (by have := h.le.times i; omega))
  have HP := Lib.hid (fun (w' : World) (hb : Below w.heap.size w w') => (h.below hb).place l3)
  have HC := Lib.hid (fun (w' : World) (hb : Below w.heap.size w w') => (h.below hb).cells)
  have hle := h.le.es
  have HB := Lib.hid h.hB
  have e1 : T.idOf x = i := by unfold TabS.idOf; rw [hl]
  have e2 : T.add x = T.upd i ⟨T.set i, T.times i + 1⟩ := by unfold TabS.add; rw [hl]; rfl
  have HMM := Lib.hid hm
  obtain ⟨va, vc, rfl⟩ := hv.shape
  unfold AddP
  rw [e1, e2]
  generalize T.times i = q at *
  have hlt2 : (i : Int) < (T.es.length : Int) := by omega
  have hlt3 : (0 : Int) ≤ (i : Int) := by omega
  clear h hv hm hl l1 l2 htab hat hhas e1 e2 hx
  go_enter Tryd.func14, Tryd.ntmps14
  go_wp2_with (first
    | (go_at_call 30; refine HZ.out.mono ?_; rintro e w0 ⟨rfl, hw⟩; subst hw)
    | (go_at_call 31; refine HM.out.mono ?_; rintro e w1 ⟨rfl, hb1⟩)
    | (go_at_call 29; refine (HT.out w1 hb1).mono ?_; rintro e w2 ⟨rfl, hb2⟩; refine Hid.out ?_))
  have hb12 : Below w0.heap.size w0 w2 := below_add hb1 hb2 hb1.size
  have hlk := HLK.out w2 hb12
  obtain ⟨d0, -, d1, d2, -⟩ := HC.out w2 hb12
  obtain ⟨y, -, -, dt, -, df, -⟩ := HP.out w2 hb12
  have HE := Lib.hid (HR.out w2 hb12)
  refine Lib.hid ?_
  go_wp2
  refine bodyPost_ret (v := .tuple #[.int .i64 (i : Nat), .int .i64 0]) (by simp [results, Tryd.results14, go_sem]) rfl (.inr ⟨HMM.out, rfl, HE.out.1.grow HB.out, (Off.of_below hb12).seq HE.out.2⟩)
end
end Go.Proofs.YtiobcifpebehnaaDoor
