
import Derived.Test.YteilhjkkgdgbkaaNN
import Derived.Test.YteilhjkkgdgbkaaNO
import Derived.Deep.CutRange
import Derived.Deep.DeepCutAuto
import Derived.Carry
/- NP: ArenaPlays' walk -/
namespace Go.Proofs.Yteilhjkkgdgbkaa
open Go.RowKit Go.Shelf
set_option linter.unusedVariables false

@[reducible] def resO : Obj := .cells #[.bool false] 4
@[reducible] def ptrO (rb : Nat) : Obj := .cells #[.pointer (some ⟨rb, 0, none⟩)] 25
/-- Both arenas, just made. -/
theorem PlayR.first {w w2 : World} {ab : Nat} (hT : Ar_6 (w.alloc resO).heap.size (fun k => (w.alloc resO).heap.size ≤ k) ab newA 0 w2) (hb : Below (w.alloc resO).heap.size (w.alloc resO) w2) :
    ∃ S U, PlayR (w.alloc resO) ab w2.heap.size (addC (fun _ => none) (w2.heap.size + 1) (ptrO w2.heap.size)) S U newA 0 ((w2.alloc (.cells #[.slice none 0 0, .slice none 0 0, .slice none 0 0] 30)).alloc (.cells #[.pointer (some ⟨w2.heap.size, 0, none⟩)] 25)) ∧
      ∀ k, S k ∨ U k → k < ((w2.alloc (.cells #[.slice none 0 0, .slice none 0 0, .slice none 0 0] 30)).alloc (.cells #[.pointer (some ⟨w2.heap.size, 0, none⟩)] 25)).heap.size := by
  have hBs := hb.size
  have hb1 := (Below.refl w2.heap.size w2).alloc (Nat.le_refl _) (.cells #[.slice none 0 0, .slice none 0 0, .slice none 0 0] 30)
  have hb3 := hb1.alloc (by simp) (.cells #[.pointer (some ⟨w2.heap.size, 0, none⟩)] 25)
  have q3 : ((w2.alloc (.cells #[.slice none 0 0, .slice none 0 0, .slice none 0 0] 30)).alloc (.cells #[.pointer (some ⟨w2.heap.size, 0, none⟩)] 25)).heap[w2.heap.size]? = some (.cells #[.slice none 0 0, .slice none 0 0, .slice none 0 0] 30) := by
    rw [Below.heap_alloc _ _ _ (by simp)]; exact heap_alloc_new w2 _
  have q4 : ((w2.alloc (.cells #[.slice none 0 0, .slice none 0 0, .slice none 0 0] 30)).alloc (.cells #[.pointer (some ⟨w2.heap.size, 0, none⟩)] 25)).heap[w2.heap.size + 1]? = some (ptrO w2.heap.size) := by
    have := heap_alloc_new (w2.alloc (.cells #[.slice none 0 0, .slice none 0 0, .slice none 0 0] 30)) (ptrO w2.heap.size)
    simpa using this
  have hz := hb3.size
  have hsz : ((w2.alloc (.cells #[.slice none 0 0, .slice none 0 0, .slice none 0 0] 30)).alloc (.cells #[.pointer (some ⟨w2.heap.size, 0, none⟩)] 25)).heap.size = w2.heap.size + 2 := by simp
  refine ⟨fun k => (w.alloc resO).heap.size ≤ k ∧ k < w2.heap.size, fun k => k = w2.heap.size, ⟨hT.cutS.below hb3, ⟨.slice none 0 0, .slice none 0 0, .slice none 0 0, ⟨q3, own_nil _ _ _ _, own_nil _ _ _ _, own_nil _ _ _ _, rfl, fun g hg => by simp [Value.ownBlock] at hg, fun g hg => by simp [Value.ownBlock] at hg, fun g hg => by simp [Value.ownBlock] at hg, fun k hk => by have e : k = w2.heap.size := hk; omega, by omega⟩⟩, fun k h1 h2 => ?_, fun k o hk => ?_, below_add hb hb3 hBs⟩, fun k hk => ?_⟩
  · have e : k = w2.heap.size := h2
    omega
  · unfold addC at hk
    by_cases e : k = w2.heap.size + 1
    · rw [if_pos e] at hk
      cases hk
      subst e
      exact ⟨q4, fun hc => by omega, fun hc => by omega, by omega⟩
    · rw [if_neg e] at hk; cases hk
  · rw [hsz]
    rcases hk with e | e
    · omega
    · have e' : k = w2.heap.size := e
      omega
set_option maxRecDepth 100000 in
theorem plays_long (v : Value) (ls : List OpL) (w : World) (h : Orow w v ls) (hl : 200 < ls.length) :
    Calls Try.prog 3 #[v] w fun e w' => e = .returned (.bool true) ∧ Below w.heap.size w w' := by
  have hlen := h.len
  obtain ⟨la, lc, rfl⟩ := h.shape
  have g1 : decide (200 < (ls.length : Int)) = true := by rw [decide_eq_true_iff]; omega
  have HN := Lib.hid (new_6 (w.alloc resO))
  have hbr := (Below.refl w.heap.size w).alloc (Nat.le_refl _) resO
  have HBR := Lib.hid hbr
  have HRS := Lib.hid (heap_alloc_new w resO)
  clear h hbr
  go_enter Try.func3, Try.ntmps3
  go_wp2_with (go_at_call 7; refine HN.out.mono ?_; rintro e w2 ⟨ab, rfl, hT, hb, -⟩; refine Hid.out ?_)
  obtain ⟨S, U, hP, -⟩ := PlayR.first hT hb
  have B3 := Lib.hid hP.bel
  clear hT hb hP HN
  have HK := Lib.hid (known8_any ((w2.alloc (.cells #[.slice none 0 0, .slice none 0 0, .slice none 0 0] 30)).alloc (.cells #[.pointer (some ⟨w2.heap.size, 0, none⟩)] 25)))
  have HC := Lib.hid (fun (w4 : World) (hb : Below ((w2.alloc (.cells #[.slice none 0 0, .slice none 0 0, .slice none 0 0] 30)).alloc (.cells #[.pointer (some ⟨w2.heap.size, 0, none⟩)] 25)).heap.size ((w2.alloc (.cells #[.slice none 0 0, .slice none 0 0, .slice none 0 0] 30)).alloc (.cells #[.pointer (some ⟨w2.heap.size, 0, none⟩)] 25)) w4) => (show w4.heap[w.heap.size]? = some resO from ((B3.out.trans (hb.mono B3.out.size)).block _ (by simp)).trans HRS.out))
  refine Lib.hid ?_
  go_wp2_with (go_at_call 8; refine HK.out.mono ?_; rintro e w4 ⟨rfl, hb4⟩; have k0 := HC.out w4 hb4; have k1 : w4.cell? ⟨w.heap.size, 0, none⟩ = some (.bool false) := (by rw [cell_of_row w4 _ 0 _ _ _ k0]; rfl); have k2 : w4.frozen? ⟨w.heap.size, 0, none⟩ = false := (by simp [World.frozen?, k0]))
  have k3 := World.cell?_setCell_same' w4 ⟨w.heap.size, 0, none⟩ (.bool true) (by rw [k1]; rfl)
  refine bodyPost_ret (v := .bool true) (by simp [results, Try.f3, go_sem, k3]) rfl ⟨rfl, ?_⟩
  exact ((below_add HBR.out B3.out HBR.out.size).trans (hb4.mono (Nat.le_trans HBR.out.size B3.out.size))).setCell (p := ⟨w.heap.size, 0, none⟩) (Nat.le_refl _) _
end Go.Proofs.Yteilhjkkgdgbkaa
