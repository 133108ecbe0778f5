
import Derived.Test.YtoiomijchchlnaaF2
/- F3: an op's length; sets of one kind alone; in place -/
namespace Go.Proofs.Ytoiomijchchlnaa
open Go.RowKit
set_option linter.unusedVariables false

set_option maxRecDepth 100000 in
theorem length_any (k n : Int) (m : Nat) (ra : Option Addr) (rc : Nat) (sa : Option Addr) (sl sc : Nat) (pa : Option Addr) (pl pc : Nat) (w : World) :
    Calls Try.prog 24 #[.agg (opcs k n ra m rc sa sl sc pa pl pc)] w fun e w' => e = .returned (.int .i64 (if k = 2 then (m : Int) else if 0 ≤ n then n else 0)) ∧ Below w.heap.size w w' := by
  have HB := Lib.hid (kbelow_one w (.cells (opcs k n ra m rc sa sl sc pa pl pc) 41))
  by_cases hk : k = 2
  · subst hk
    rw [if_pos rfl]
    go_enter Try.func24, Try.ntmps24
    go_wp2
    go_ret
    exact ⟨rfl, HB.out⟩
  · rw [if_neg hk]
    have e2 : (k == 2) = false := by simpa using hk
    by_cases h0 : 0 ≤ n
    · rw [if_pos h0]
      clear hk
      go_enter Try.func24, Try.ntmps24
      go_wp2
      go_ret
      refine ⟨ret_int ?_, HB.out⟩
      first | omega | (split <;> omega)
    · rw [if_neg h0]
      clear hk
      go_enter Try.func24, Try.ntmps24
      go_wp2
      go_ret
      refine ⟨ret_int ?_, HB.out⟩
      first | omega | (split <;> omega)

set_option maxRecDepth 100000 in
set_option maxHeartbeats 2000000 in
theorem alone_any (v u : Value) (b : Bool) (ks : List Key) (xs : List Att) (w : World) (hs : Sch w v ks) (hv : Arow w u xs) (hW : ∀ a ∈ xs, AttW a) :
    Calls Try.prog 28 #[v, u, .bool b] w fun e w' => e = .returned (.bool (alone ks xs b)) ∧ Below w.heap.size w w' := by
  have hl : xs.length ≤ 9223372036854775807 := hv.len
  obtain ⟨a1, cap1, rfl⟩ := hv.shape
  have HS := Lib.hid hs
  clear hs
  by_cases h0 : 0 < xs.length
  · obtain ⟨b1, o1, rfl, -, -, -, hbl, hat⟩ := Arow.opn hv h0
    have HAT := Lib.hid hat
    clear hv hat
    go_enter Try.func28, Try.ntmps28
    go_wp2
    go_loopw [13] (fun s13 wr => ∃ k : Nat, k ≤ xs.length ∧ s13 = .int .i64 k ∧ Hid ((xs.take k).all (aloneB ks b) = true ∧ Below w.heap.size w wr)) (fun s13 _ => xs.length - (intOf s13).toNat)
    case atStart => exact ⟨0, Nat.zero_le _, rfl, Lib.hid ⟨rfl, Below.refl _ _⟩⟩
    case round =>
      obtain ⟨k, hk, rfl, HR⟩ := hrel
      by_cases hlt : k < xs.length
      · obtain ⟨c0, c1, c2, c3, c4⟩ := (HAT.out k hlt).below HR.out.2 hbl
        have hwf := (hW xs[k] (List.getElem_mem hlt)).key
        have HQ := Lib.hid (fun W (hb : Below wr.heap.size wr W) => find_any v ks xs[k].key W ((HS.out.below HR.out.2 (Nat.le_refl _)).below hb (Nat.le_refl _)) hwf)
        have hY := Lib.hid (fun h => all_step (q := aloneB ks b) hlt HR.out.1 h)
        have hN := Lib.hid (fun h => all_bad (q := aloneB ks b) hlt h)
        rw [aloneB_eq] at hY hN
        unfold fndV at HQ
        clear hwf
        generalize xs[k] = x at *
        generalize (fnd ks x.key).getD noKey = kk at HQ hY hN
        generalize (fnd ks x.key).isSome = bb at HQ hY hN
        obtain ⟨x1, x2, x3, x4, x5⟩ := x
        obtain ⟨y1, y2, y3, y4, y5, y6⟩ := kk
        simp only at c0 c1 c2 c3 c4 HQ hY hN
        have HB0 := Lib.hid (kbelow_one wr (.cells #[.int .i64 x1, .int .u8 x2, .int .i64 x3, .int .u64 x4, .string x5] 58))
        have HBR := Lib.hid HR.out.2
        have HLT := Lib.hid hlt
        have HE := Lib.hid (fun (w1 : World) (hb1 : Below w.heap.size w w1) => below_add hb1 (kbelow_one w1 (.cells #[.int .i64 y1, .bool y2, .int .u8 y3, .bool y4, .bool y5, .int .i64 y6] 44)) hb1.size)
        clear HR
        cases bb
        · go_wp2_with (go_at_call 32; ((with_reducible refine (HQ.out _ HB0.out).mono ?_); rintro e w1 ⟨rfl, hb1⟩; have HB1 := Lib.hid (HE.out _ (below_add HBR.out (below_add HB0.out hb1 (by simp)) HBR.out.size)); clear hb1))
          go_ret
          exact ⟨by rw [show alone ks xs b = false from hN.out rfl]; rfl, HB1.out⟩
        · by_cases hyb : y2 = b
          · subst hyb
            go_wp2_with (go_at_call 32; ((with_reducible refine (HQ.out _ HB0.out).mono ?_); rintro e w1 ⟨rfl, hb1⟩; have HB1 := Lib.hid (HE.out _ (below_add HBR.out (below_add HB0.out hb1 (by simp)) HBR.out.size)); clear hb1))
            go_roundw
            case rel => exact ⟨k + 1, HLT.out, by go_num, Lib.hid ⟨hY.out (by simp), HB1.out⟩⟩
            case measure => have := HLT.out; simp [intOf]; omega
          · have e1 : (y2 == b) = false := by simpa using hyb
            have e2 : (y2 != b) = true := by simpa using hyb
            have HNN := Lib.hid (hN.out (by rw [e1]; rfl))
            clear hyb hY hN
            go_wp2_with (go_at_call 32; ((with_reducible refine (HQ.out _ HB0.out).mono ?_); rintro e w1 ⟨rfl, hb1⟩; have HB1 := Lib.hid (HE.out _ (below_add HBR.out (below_add HB0.out hb1 (by simp)) HBR.out.size)); clear hb1))
            go_ret
            exact ⟨by rw [show alone ks xs b = false from HNN.out]; rfl, HB1.out⟩
      · obtain rfl : k = xs.length := by omega
        have HE := Lib.hid (show alone ks xs b = true from all_end HR.out.1)
        have HBR := Lib.hid HR.out.2
        go_wp2
        go_ret
        exact ⟨by rw [HE.out]; rfl, HBR.out⟩
  · obtain rfl : xs = [] := List.eq_nil_of_length_eq_zero (by omega)
    clear hv h0
    go_enter Try.func28, Try.ntmps28
    go_wp2
    refine wp_loop_rounds 1 ?_
    rw [rounds_succ]
    go_wp2
    go_ret
    exact ⟨rfl, Below.refl _ _⟩
end Go.Proofs.Ytoiomijchchlnaa
