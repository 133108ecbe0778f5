
import Derived.Test.YtmbjjaflgdfihaaR3
import Derived.Test.YtmbjjaflgdfihaaR4
/- R5: a maker that is told a document's inserts; cells.Delta -/
namespace Go.Proofs.Ytmbjjaflgdfihaa
open Go.RowKit
set_option linter.unusedVariables false
set_option maxRecDepth 100000

/-- A maker at block bm, all of whose blocks came after w; it was told R, of at most L runes and ops. -/
structure MkI (w : World) (bm : Nat) (R : List Opn) (L : Nat) (W : World) : Prop where
  m : MS (fun k => bm < k ∧ k < W.heap.size) bm R W
  ri : RI R L L
  b : Below bm w W
  e : bm = w.heap.size
section
variable {w W W1 W2 : World} {bm L : Nat} {R : List Opn}
theorem MkI.below (h : MkI w bm R L W) (hb : Below W.heap.size W W1) : MkI w bm R L W1 :=
  ⟨by
    obtain ⟨va, n, vc, zs, h1, h2, h3, h4⟩ := (h.m.below hb).ex
    exact ⟨⟨va, n, vc, zs, h1, h2.mono fun k hk => ⟨hk.1, Nat.lt_of_lt_of_le hk.2 hb.size⟩, h3, h4⟩, fun hh => by omega⟩, h.ri, below_add h.b hb (by have := h.b.size; have := h.e; omega), h.e⟩
theorem MkI.start (w : World) : MkI w w.heap.size [] 0 (w.alloc (.cells #[.slice none 0 0] 90)) :=
  ⟨⟨⟨none, 0, 0, [], cb_new _ _ _, Oown.nil _ _, rfl, rfl⟩, fun hh => by omega⟩, ri_nil, kbelow_one w _, rfl⟩
/-- One more op was told, in a world that is W but for what is new. -/
theorem MkI.told {p : Opn} (h : MkI w bm R L W) (hb : Below W.heap.size W W1) (hm : MS (fun k => (bm < k ∧ k < W.heap.size) ∨ W1.heap.size ≤ k) bm (rtell p R) W2) (ho : Off (fun k => k = bm ∨ (bm < k ∧ k < W.heap.size)) W1 W2)
    (hn : p.n ≤ 9223372036854775807) (hr : p.rs.length ≤ 1) : MkI w bm (rtell p R) (L + 1) W2 := by
  have hs := ho.size
  have h1 := h.m.lt
  have h2 := hb.size
  refine ⟨?_, (ri_rtell h.ri hn).mono (Nat.le_refl _) (by omega), (below_add h.b hb (by omega)).trans (ho.below (fun k hk => by omega) (by omega)), h.e⟩
  obtain ⟨va, n, vc, zs, g1, g2, g3, g4⟩ := hm.ex
  exact ⟨⟨va, n, vc, zs, g1, (Oown.tight g2).mono fun k hk => ⟨by omega, hk.2⟩, g3, g4⟩, fun hh => by omega⟩
end
theorem insR_take {zs : List Cz} {k : Nat} (h : k < zs.length) : insR ((zs.take (k + 1)).map Cz.o) = rtell (insC zs[k].o) (insR ((zs.take k).map Cz.o)) := by
  rw [tsnoc h, List.map_append, List.map_singleton, insR_snoc]
theorem arow_na {w : World} {a : Option Addr} {c : Nat} {s : List Att} (h : Arow w (.slice a s.length c) s) {S : Nat → Prop} (hS : ∀ k, k < w.heap.size → ¬ S k) : Na S a s.length := fun h0 x hx hh => by
  subst hx
  obtain ⟨b, o, e, -, -, -, hb, -⟩ := Arow.opn h h0
  injection e with e
  subst e
  exact hS _ hb hh

set_option maxHeartbeats 2000000 in
theorem inserting_any (u : Value) (zs : List Cz) (w : World) (hu : Drow w u zs) (hl : zs.length ≤ 50000000) (hs : ∀ z ∈ zs, z.s.length ≤ 50331648) :
    Calls Try.prog 27 #[u] w fun e w' => e = .returned (.pointer (some ⟨w.heap.size, 0, none⟩)) ∧ MkI w w.heap.size (insR (zs.map Cz.o)) zs.length w' := by
  obtain ⟨a1, cap1, rfl⟩ := hu.shape
  have HN := Lib.hid (fun W => mnew_any W)
  have HI0 := Lib.hid (MkI.start w)
  have hl2 := hu.len
  by_cases h0 : 0 < zs.length
  · obtain ⟨b1, o1, rfl, -, -, -, hbl, hat⟩ := hu.ats h0
    have HA := Lib.hid hat
    have HK := Lib.hid hu.ok
    have HS := Lib.hid hs
    have HLM := Lib.hid hl
    clear hat hu hs hl
    go_enter Try.func27, Try.ntmps27
    go_wp2_with (first
      | (go_at_call 40; (with_reducible refine (HN.out _).mono ?_); rintro e w1 ⟨rfl, rfl⟩))
    go_loopw [9] (fun i wr => ∃ k : Nat, k ≤ zs.length ∧ i = .int .i64 k ∧ Hid (MkI w w.heap.size (insR ((zs.take k).map Cz.o)) k wr)) (fun i _ => zs.length - (intOf i).toNat)
    case atStart => exact ⟨0, Nat.zero_le _, rfl, HI0⟩
    case round =>
      obtain ⟨k, hk, rfl, HP⟩ := hrel
      by_cases hlt : k < zs.length
      · have HB := Lib.hid (HP.out.b)
        have c := (HA.out k hlt).below HB.out
        have hk1 := kbelow_one wr (.cells zs[k].cs 41)
        have HBX := Lib.hid (below_add hk1 (kbelow_one _ (.cells #[.int .i32 zs[k].r] 21)) hk1.size)
        have hwr := HB.out.size
        have HCA := Lib.hid (HK.out _ (List.getElem_mem hlt))
        have hbz : w.heap.size = w.heap.size := rfl
        have hL : k < 50000000 := by have := HLM.out; omega
        have HC := Lib.hid (insertM_any _ w.heap.size _ k k (some ⟨wr.heap.size + 1, 0, none⟩) 1 [zs[k].r] zs[k].a zs[k].c zs[k].s _ (HP.out.m.below HBX.out) HP.out.ri
          ⟨by have := ints_single .i32 (wr.alloc (.cells zs[k].cs 41)) 21 zs[k].r; rw [World.size_alloc] at this; exact this, HCA.out.below (below_add HB.out HBX.out HB.out.size) (Nat.le_refl _), Row.nil _⟩
          ⟨fun _ x hx hh => by injection hx with hx; subst hx; simp only at hh; omega, arow_na HCA.out (fun g hg hh => by omega), fun h => by cases h⟩
          ⟨by simp, HS.out _ (List.getElem_mem hlt), by simp⟩ (show (0 : Int) ≤ 9223372036854775807 by decide) (by omega) (by simp; omega))
        have HT := Lib.hid (fun W2 (h1 : MS _ _ _ W2) (h2 : Off _ _ W2) => (show MkI w w.heap.size (insR ((zs.take (k + 1)).map Cz.o)) (k + 1) W2 by rw [insR_take hlt]; exact MkI.told (p := insC zs[k].o) HP.out HBX.out h1 h2 (by simp [insC]) (by simp [insC])))
        have HLT := Lib.hid hlt
        clear HP hk1 hL
        generalize zs[k] = z at *
        obtain ⟨zr, za, zc, zz⟩ := z
        obtain ⟨c0, c1⟩ := c
        simp only at *
        go_wp2_with (first
          | (go_at_call 41; go_loud ((refine (HC.out).mono ?_); rintro e w1 ⟨rfl, hm, ho⟩; have HT1 := Lib.hid (HT.out _ hm ho); clear hm ho)))
        go_roundw
        case rel => exact ⟨k + 1, HLT.out, by go_num, HT1⟩
        case measure => have := HLT.out; simp [intOf]; omega
      · obtain rfl : k = zs.length := by omega
        have HE := Lib.hid (show MkI w w.heap.size (insR (zs.map Cz.o)) zs.length wr by have := HP.out; rwa [List.take_of_length_le (Nat.le_refl _)] at this)
        clear HP
        go_wp2
        go_ret
        exact ⟨rfl, HE.out⟩
  · obtain rfl : zs = [] := List.length_eq_zero_iff.1 (by omega)
    clear hu hs hl
    go_enter Try.func27, Try.ntmps27
    go_wp2_with (first
      | (go_at_call 40; (with_reducible refine (HN.out _).mono ?_); rintro e w1 ⟨rfl, rfl⟩))
    refine wp_loop_rounds 1 ?_
    rw [rounds_succ]
    go_wp2
    go_ret
    exact ⟨rfl, HI0.out⟩
end Go.Proofs.Ytmbjjaflgdfihaa
