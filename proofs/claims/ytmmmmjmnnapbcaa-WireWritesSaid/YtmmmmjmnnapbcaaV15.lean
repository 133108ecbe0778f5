import Derived.Test.YtmmmmjmnnapbcaaV14
import Derived.Deep.DeepAppendRoom
namespace Go.Proofs.Ytmmmmjmnnapbcaa
open Go.RowKit
set_option linter.unusedVariables false

theorem grown_trans {a b c : World} {r : Option Nat} (h1 : a.grownBy b r) (h2 : b.grownBy c r) : a.grownBy c r :=
  ⟨h2.os.trans h1.os, h2.tape.trans h1.tape, h2.output.trans h1.output, Nat.le_trans h1.size h2.size, fun k hk hne => (h2.block k (Nat.lt_of_lt_of_le hk h1.size) hne).trans (h1.block k hk hne)⟩
theorem owns_prefix {w : World} {B g n m cap : Nat} {e : TypeId} {zs : List Value} (h : w.ownsRow B e 1 (.slice (some ⟨g, 0, none⟩) n cap) n zs) (hm : m ≤ n) : w.ownsRow B e 1 (.slice (some ⟨g, 0, none⟩) m cap) m (zs.take m) := by
  have hl := h.1
  rcases h.2 with ⟨h', _⟩ | ⟨g', cap', cur, h', hb, hg, hnc, hcm, hcs, htake⟩
  · simp at h'
  · simp only [Value.slice.injEq, Option.some.injEq, Addr.mk.injEq, and_true, true_and] at h'
    obtain ⟨rfl, rfl⟩ := h'
    refine ⟨by rw [List.length_take]; omega, .inr ⟨g, cap, cur, rfl, hb, hg, by omega, hcm, hcs, ?_⟩⟩
    rw [← htake, List.take_take]
    congr 1
    omega

def OwnPost (B0 g L cap : Nat) (w : World) (e : Ending) (w' : World) : Prop :=
  e = .returned (.bool true) ∧ (∃ ys : List Int, w'.ownsRow B0 5 1 (.slice (some ⟨g, 0, none⟩) L cap) L (ys.map (Value.int .u8))) ∧ w.grownBy w' (some g)

set_option maxHeartbeats 4000000 in
set_option maxRecDepth 100000 in
theorem own_any (B0 B1 g L cap : Nat) (xs ms : List Int) (vm : Value) (w : World) (h0 : w.ownsRow B0 5 1 (.slice (some ⟨g, 0, none⟩) L cap) L (xs.map (Value.int .u8))) (hroom : L < cap) (hcap : cap ≤ 1000000)
    (hm : w.ownsRow B1 5 1 vm ms.length (ms.map (Value.int .u8))) (hg : g < B1) :
    Calls Try.prog 15 #[.slice (some ⟨g, 0, none⟩) L cap, vm] w (OwnPost B0 g L cap w) := by
  obtain ⟨i0, hi, hz0, hz1, hz2⟩ := info_parts info8
  have hne : vm.ownBlock = none ∨ vm.ownBlock ≠ some g := by
    rcases hm.2 with ⟨rfl, _⟩ | ⟨g', cap', cur, rfl, hb, _⟩
    · exact .inl rfl
    · refine .inr ?_
      simp [Value.ownBlock]
      omega
  have hgw : g < w.heap.size := (h0.lt g rfl).2
  have HM := Lib.hid (fun w' (h : w.grownBy w' (some g)) => conv_str (P := Try.prog) 22 9 5 Try.underlying22 Try.underlying5 Try.underlying9 _ _ _ (Ints.of_owns (hm.kept h hne)).1)
  have hc0 := HM.out w (World.grownBy.refl _ _)
  obtain ⟨am, cm, rfl⟩ := (Ints.of_owns hm).1.shape
  clear hm hne
  generalize strOfNums ms = sm at *
  generalize ms.length = lm at *
  go_enter Try.func15, Try.ntmps15
  go_wp2
  go_loopw [11] (fun i wr => ∃ (k : Nat) (ys : List Int), i = .int .i64 k ∧ k ≤ L ∧ wr.ownsRow B0 5 1 (.slice (some ⟨g, 0, none⟩) L cap) L (ys.map (Value.int .u8)) ∧ w.grownBy wr (some g)) (fun i _ => L - (intOf i).toNat)
  case atStart => exact ⟨0, xs, rfl, by omega, h0, World.grownBy.refl _ _⟩
  case round =>
    obtain ⟨k, ys, rfl, hk, hown, hgr⟩ := hrel
    by_cases hlt : k < L
    · obtain ⟨hcell, hfz⟩ := owns_cell hown k hlt
      have HP := Lib.hid (owns_put hown k)
      have HS := Lib.hid (fun u => grown_trans hgr (hown.stored k u).2)
      clear hown hgr h0 hc0
      generalize ys.getD k 0 = y at hcell
      go_wp2
      go_roundw
      case rel => exact ⟨k + 1, _, by go_num, by omega, HP.out _, HS.out _⟩
      case measure => simp [intOf]; omega
    · clear h0
      have hsz := hgr.size
      go_wp2_with (at_builtin; refine wpList_append_own_spare _ rfl (.tmp 21) (.tmp 22) 22 rfl B0 5 i0 1 Try.underlying22 hi hz1 g L cap _ rfl (hown.alloc _) ⟨wr.heap.size, 0, none⟩ 1 1 [.int .u8 99] rfl rfl (by intro j u hj; match j, hj with | 0, hj => (simp at hj; subst hj; simp [Addr.add])) (by intro u hu; simp at hu; subst hu; rfl) (by omega) ?_)
      intro w1 hown1 hgr1
      have hln : ys.length = L := by have := hown.1; simp at this; omega
      have hg1 : w.grownBy w1 (some g) := grown_trans (grown_trans hgr (World.grownBy_alloc wr _ (some g))) hgr1
      have hcell : w1.cell? ⟨g, L, none⟩ = some (.int .u8 99) := by
        rw [hown1.cellAt L (by omega)]
        have hl2 : L = (ys.map (Value.int .u8)).length := by simp [hln]
        rw [hl2]
        simp
      have hfz : w1.frozen? ⟨g, L, none⟩ = false := hown1.frozenAt L
      have HO : Hid (∀ u, ∃ ys : List Int, (w1.setCell ⟨g, L, none⟩ u).ownsRow B0 5 1 (.slice (some ⟨g, 0, none⟩) L cap) L (ys.map (Value.int .u8))) := fun u => by
        refine ⟨ys, ?_⟩
        have h1 := owns_prefix (hown1.stored L u).1 (Nat.le_succ L)
        have e : ((ys.map (Value.int .u8) ++ [Value.int .u8 99]).set L u).take L = ys.map (Value.int .u8) := by
          rw [List.take_set_of_le (Nat.le_refl _), List.take_left' (by simp [hln])]
        rwa [e] at h1
      have HG := Lib.hid (fun u => grown_trans hg1 (hown1.stored L u).2)
      have hc2 := HM.out _ (HG.out (.int .u8 100))
      clear hown hown1 hgr hgr1 hg1 hln hc0 HM
      go_wp2
      go_ret
      exact ⟨rfl, HO.out _, HG.out _⟩
end Go.Proofs.Ytmmmmjmnnapbcaa
