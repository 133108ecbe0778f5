
import Derived.Test.YtgckofoaiojocaaA9
import Derived.Test.YtgckofoaiojocaaM2
namespace Go.Proofs.Ytgckofoaiojocaa
open Go.RowKit
set_option linter.unusedVariables false

def NextPost (bs : List Int) (w : World) (e : Ending) (w' : World) : Prop :=
  Below w.heap.size w w' ∧ ∃ a b, nextGives bs = (a, b) ∧ e = .returned (.tuple #[.int .i32 a, .int .i64 b])

theorem mayB_iff (r : Int) : mayB r = true ↔ mayP r := by unfold mayB; rw [decide_eq_true_iff]; rfl

set_option maxHeartbeats 4000000 in
theorem next_any (v : Value) (bs : List Int) (w : World) (hv : Ints .u8 w v bs) (hbb : ∀ b ∈ bs, 0 ≤ b ∧ b < 256) (hpos : 0 < bs.length) (hlen : bs.length ≤ 1000000) :
    Calls Try.prog 33 #[v] w (NextPost bs w) := by
  rcases hv with ⟨a, cap, rfl, rfl, hm, ha⟩ | ⟨b, off, cap, rfl, _, h1, hm, hc⟩
  · simp at hpos
  · unfold maxLen at hm
    have hget : ∀ j, j < bs.length → 0 ≤ bs.getD j 0 ∧ bs.getD j 0 < 256 := fun j hj => by
      have := hbb bs[j] (List.getElem_mem hj)
      simpa [List.getD, hj] using this
    have hx0 := hget 0 hpos
    have hc0 : w.cell? ⟨b, off, none⟩ = some (.int .u8 (bs.getD 0 0)) := hc 0 hpos
    have HBAD := Lib.hid (next_bad bs hbb hpos)
    have HGOOD := Lib.hid (next_good bs hbb hpos)
    have HALONE := Lib.hid (next_alone bs hbb)
    generalize bs.getD 0 0 = x0 at hc0 hx0 HBAD HGOOD HALONE
    have hcases : (128 ≤ x0 ∧ x0 < 192) ∨ (∃ n h, lead x0 n h ∧ 0 ≤ h ∧ h ≤ 127 ∧ 1 ≤ n ∧ n ≤ 4) := by
      by_cases q : 128 ≤ x0 ∧ x0 < 192
      · exact .inl q
      · right
        unfold lead
        by_cases q1 : x0 < 128
        · exact ⟨1, x0, by omega, by omega, by omega, by omega, by omega⟩
        by_cases q2 : x0 < 224
        · exact ⟨2, x0 - 192, by omega, by omega, by omega, by omega, by omega⟩
        by_cases q3 : x0 < 240
        · exact ⟨3, x0 - 224, by omega, by omega, by omega, by omega, by omega⟩
        · exact ⟨4, x0 - 240, by omega, by omega, by omega, by omega, by omega⟩
    rcases hcases with ⟨q1, q2⟩ | ⟨n, h, hl, hh0, hh1, hn1, hn4⟩
    · have HA := Lib.hid (HALONE.out q1 q2)
      clear HALONE HBAD HGOOD hc
      go_enter Try.func33, Try.ntmps33
      go_wp2
      go_ret2
      exact ⟨Below.refl _ _, _, _, HA.out, rfl⟩
    · have HBAD2 := Lib.hid (HBAD.out n h hl)
      have HGOOD2 := Lib.hid (HGOOD.out n h hl)
      clear HBAD HGOOD HALONE
      unfold lead at hl
      rcases hl with ⟨l1, rfl, l2⟩ | ⟨l1, l3, rfl, l2⟩ | ⟨l1, l3, rfl, l2⟩ | ⟨l1, rfl, l2⟩
      · have HL := Lib.hid l2
        subst l2
        have hsh : ¬ bs.length < 1 := by omega
        · go_enter Try.func33, Try.ntmps33
          go_wp2
          go_loop [5, 6] (fun r i => ∃ k : Nat, 1 ≤ k ∧ k ≤ 1 ∧ i = .int .i64 k ∧ r = .int .i32 (rOf (h) bs k) ∧ Hid (contTo bs k)) (fun _ i => 1 - (intOf i).toNat)
          case atStart => exact ⟨1, by omega, by omega, rfl, by rw [rOf_one], fun j h1 h2 => by omega⟩
          case round =>
            obtain ⟨k, hk1, hk, rfl, rfl, hct⟩ := hrel
            by_cases hlt : k < 1
            · exact absurd hlt (by omega)
            · obtain rfl : k = 1 := by omega
              clear hc hget hc0 HL
              cases hmx : mayB (rOf (h) bs 1) with
              | false =>
                have HA := Lib.hid (HBAD2.out (.inr (.inr ⟨hct.out, .inl (fun hm => by rw [(mayB_iff _).2 hm] at hmx; cases hmx)⟩)))
                clear HBAD2 HGOOD2
                go_wp2_with (go_at_call 36; refine (rmay_any _ _).mono ?_; rintro e w' ⟨rfl, rfl⟩)
                go_ret2
                exact ⟨Below.refl _ _, _, _, HA.out, rfl⟩
              | true =>
                have HG := Lib.hid (HGOOD2.out (by omega) hct.out ((mayB_iff _).1 hmx))
                have HB := Lib.hid (fun q => HBAD2.out (.inr (.inr ⟨hct.out, .inr q⟩)))
                clear HBAD2 HGOOD2
                go_wp2_with (first
                  | (go_at_call 36; refine (rmay_any _ _).mono ?_; rintro e w' ⟨rfl, rfl⟩)
                  | (go_at_call 37; refine (one_any _ _ hmx).mono ?_))
                rintro e w0 ⟨hb0, g, m, rfl, hm4, hone⟩
                clear hone
                by_cases hmn : m = 1
                · have HA := Lib.hid (HG.out (by rw [← hm4]; exact hmn))
                  clear HG HB hm4
                  subst hmn
                  go_wp2
                  go_ret2
                  exact ⟨hb0, _, _, HA.out, rfl⟩
                · have HA := Lib.hid (HB.out (by rw [← hm4]; exact hmn))
                  have hq1 : ((m : Int) != 1) = true := by rw [bne_iff_ne]; omega
                  have hq2 : ((m : Int) == 1) = false := by rw [beq_eq_false_iff_ne]; omega
                  clear HG HB hm4
                  go_wp2
                  go_ret2
                  exact ⟨hb0, _, _, HA.out, rfl⟩
      · have HL := Lib.hid l2
        subst l2
        by_cases hsh : bs.length < 2
        · have HA := Lib.hid (HBAD2.out (.inl hsh))
          clear HBAD2 HGOOD2 hc HL
          go_enter Try.func33, Try.ntmps33
          go_wp2
          go_ret2
          exact ⟨Below.refl _ _, _, _, HA.out, rfl⟩
        · go_enter Try.func33, Try.ntmps33
          go_wp2
          go_loop [5, 6] (fun r i => ∃ k : Nat, 1 ≤ k ∧ k ≤ 2 ∧ i = .int .i64 k ∧ r = .int .i32 (rOf (x0 - 192) bs k) ∧ Hid (contTo bs k)) (fun _ i => 2 - (intOf i).toNat)
          case atStart => exact ⟨1, by omega, by omega, rfl, by rw [rOf_one], fun j h1 h2 => by omega⟩
          case round =>
            obtain ⟨k, hk1, hk, rfl, rfl, hct⟩ := hrel
            by_cases hlt : k < 2
            · have hcx := hc k (by omega)
              have hgx := hget k (by omega)
              have hsucc := Lib.hid (rOf_succ (x0 - 192) bs k hk1)
              have hrb := rOf_bound3 (x0 - 192) bs hh0 hh1 k hk1 (by omega) hct.out
              have HC := Lib.hid (contTo_succ bs k hct.out)
              have HB := Lib.hid (fun q => HBAD2.out (.inr (.inl ⟨k, hk1, hlt, q⟩)))
              generalize bs.getD k 0 = y at hcx hgx hsucc HC HB
              clear hc hget HBAD2 HGOOD2 hc0 HL
              by_cases y1 : y < 128
              · have HA := Lib.hid (HB.out (.inl y1))
                clear HB HC hsucc
                go_wp2
                go_ret2
                exact ⟨Below.refl _ _, _, _, HA.out, rfl⟩
              by_cases y2 : 191 < y
              · have HA := Lib.hid (HB.out (.inr y2))
                clear HB HC hsucc
                go_wp2
                go_ret2
                exact ⟨Below.refl _ _, _, _, HA.out, rfl⟩
              · have HC2 := Lib.hid (HC.out (by omega) (by omega))
                clear HB HC
                go_wp2
                go_round
                case rel => exact ⟨k + 1, by omega, by omega, by go_num, by rw [hsucc.out], HC2.out⟩
                case measure => simp [intOf]; omega
            · obtain rfl : k = 2 := by omega
              clear hc hget hc0 HL
              cases hmx : mayB (rOf (x0 - 192) bs 2) with
              | false =>
                have HA := Lib.hid (HBAD2.out (.inr (.inr ⟨hct.out, .inl (fun hm => by rw [(mayB_iff _).2 hm] at hmx; cases hmx)⟩)))
                clear HBAD2 HGOOD2
                go_wp2_with (go_at_call 36; refine (rmay_any _ _).mono ?_; rintro e w' ⟨rfl, rfl⟩)
                go_ret2
                exact ⟨Below.refl _ _, _, _, HA.out, rfl⟩
              | true =>
                have HG := Lib.hid (HGOOD2.out (by omega) hct.out ((mayB_iff _).1 hmx))
                have HB := Lib.hid (fun q => HBAD2.out (.inr (.inr ⟨hct.out, .inr q⟩)))
                clear HBAD2 HGOOD2
                go_wp2_with (first
                  | (go_at_call 36; refine (rmay_any _ _).mono ?_; rintro e w' ⟨rfl, rfl⟩)
                  | (go_at_call 37; refine (one_any _ _ hmx).mono ?_))
                rintro e w0 ⟨hb0, g, m, rfl, hm4, hone⟩
                clear hone
                by_cases hmn : m = 2
                · have HA := Lib.hid (HG.out (by rw [← hm4]; exact hmn))
                  clear HG HB hm4
                  subst hmn
                  go_wp2
                  go_ret2
                  exact ⟨hb0, _, _, HA.out, rfl⟩
                · have HA := Lib.hid (HB.out (by rw [← hm4]; exact hmn))
                  have hq1 : ((m : Int) != 2) = true := by rw [bne_iff_ne]; omega
                  have hq2 : ((m : Int) == 2) = false := by rw [beq_eq_false_iff_ne]; omega
                  clear HG HB hm4
                  go_wp2
                  go_ret2
                  exact ⟨hb0, _, _, HA.out, rfl⟩
      · have HL := Lib.hid l2
        subst l2
        by_cases hsh : bs.length < 3
        · have HA := Lib.hid (HBAD2.out (.inl hsh))
          clear HBAD2 HGOOD2 hc HL
          go_enter Try.func33, Try.ntmps33
          go_wp2
          go_ret2
          exact ⟨Below.refl _ _, _, _, HA.out, rfl⟩
        · go_enter Try.func33, Try.ntmps33
          go_wp2
          go_loop [5, 6] (fun r i => ∃ k : Nat, 1 ≤ k ∧ k ≤ 3 ∧ i = .int .i64 k ∧ r = .int .i32 (rOf (x0 - 224) bs k) ∧ Hid (contTo bs k)) (fun _ i => 3 - (intOf i).toNat)
          case atStart => exact ⟨1, by omega, by omega, rfl, by rw [rOf_one], fun j h1 h2 => by omega⟩
          case round =>
            obtain ⟨k, hk1, hk, rfl, rfl, hct⟩ := hrel
            by_cases hlt : k < 3
            · have hcx := hc k (by omega)
              have hgx := hget k (by omega)
              have hsucc := Lib.hid (rOf_succ (x0 - 224) bs k hk1)
              have hrb := rOf_bound3 (x0 - 224) bs hh0 hh1 k hk1 (by omega) hct.out
              have HC := Lib.hid (contTo_succ bs k hct.out)
              have HB := Lib.hid (fun q => HBAD2.out (.inr (.inl ⟨k, hk1, hlt, q⟩)))
              generalize bs.getD k 0 = y at hcx hgx hsucc HC HB
              clear hc hget HBAD2 HGOOD2 hc0 HL
              by_cases y1 : y < 128
              · have HA := Lib.hid (HB.out (.inl y1))
                clear HB HC hsucc
                go_wp2
                go_ret2
                exact ⟨Below.refl _ _, _, _, HA.out, rfl⟩
              by_cases y2 : 191 < y
              · have HA := Lib.hid (HB.out (.inr y2))
                clear HB HC hsucc
                go_wp2
                go_ret2
                exact ⟨Below.refl _ _, _, _, HA.out, rfl⟩
              · have HC2 := Lib.hid (HC.out (by omega) (by omega))
                clear HB HC
                go_wp2
                go_round
                case rel => exact ⟨k + 1, by omega, by omega, by go_num, by rw [hsucc.out], HC2.out⟩
                case measure => simp [intOf]; omega
            · obtain rfl : k = 3 := by omega
              clear hc hget hc0 HL
              cases hmx : mayB (rOf (x0 - 224) bs 3) with
              | false =>
                have HA := Lib.hid (HBAD2.out (.inr (.inr ⟨hct.out, .inl (fun hm => by rw [(mayB_iff _).2 hm] at hmx; cases hmx)⟩)))
                clear HBAD2 HGOOD2
                go_wp2_with (go_at_call 36; refine (rmay_any _ _).mono ?_; rintro e w' ⟨rfl, rfl⟩)
                go_ret2
                exact ⟨Below.refl _ _, _, _, HA.out, rfl⟩
              | true =>
                have HG := Lib.hid (HGOOD2.out (by omega) hct.out ((mayB_iff _).1 hmx))
                have HB := Lib.hid (fun q => HBAD2.out (.inr (.inr ⟨hct.out, .inr q⟩)))
                clear HBAD2 HGOOD2
                go_wp2_with (first
                  | (go_at_call 36; refine (rmay_any _ _).mono ?_; rintro e w' ⟨rfl, rfl⟩)
                  | (go_at_call 37; refine (one_any _ _ hmx).mono ?_))
                rintro e w0 ⟨hb0, g, m, rfl, hm4, hone⟩
                clear hone
                by_cases hmn : m = 3
                · have HA := Lib.hid (HG.out (by rw [← hm4]; exact hmn))
                  clear HG HB hm4
                  subst hmn
                  go_wp2
                  go_ret2
                  exact ⟨hb0, _, _, HA.out, rfl⟩
                · have HA := Lib.hid (HB.out (by rw [← hm4]; exact hmn))
                  have hq1 : ((m : Int) != 3) = true := by rw [bne_iff_ne]; omega
                  have hq2 : ((m : Int) == 3) = false := by rw [beq_eq_false_iff_ne]; omega
                  clear HG HB hm4
                  go_wp2
                  go_ret2
                  exact ⟨hb0, _, _, HA.out, rfl⟩
      · have HL := Lib.hid l2
        subst l2
        by_cases hsh : bs.length < 4
        · have HA := Lib.hid (HBAD2.out (.inl hsh))
          clear HBAD2 HGOOD2 hc HL
          go_enter Try.func33, Try.ntmps33
          go_wp2
          go_ret2
          exact ⟨Below.refl _ _, _, _, HA.out, rfl⟩
        · go_enter Try.func33, Try.ntmps33
          go_wp2
          go_loop [5, 6] (fun r i => ∃ k : Nat, 1 ≤ k ∧ k ≤ 4 ∧ i = .int .i64 k ∧ r = .int .i32 (rOf (x0 - 240) bs k) ∧ Hid (contTo bs k)) (fun _ i => 4 - (intOf i).toNat)
          case atStart => exact ⟨1, by omega, by omega, rfl, by rw [rOf_one], fun j h1 h2 => by omega⟩
          case round =>
            obtain ⟨k, hk1, hk, rfl, rfl, hct⟩ := hrel
            by_cases hlt : k < 4
            · have hcx := hc k (by omega)
              have hgx := hget k (by omega)
              have hsucc := Lib.hid (rOf_succ (x0 - 240) bs k hk1)
              have hrb := rOf_bound3 (x0 - 240) bs hh0 hh1 k hk1 (by omega) hct.out
              have HC := Lib.hid (contTo_succ bs k hct.out)
              have HB := Lib.hid (fun q => HBAD2.out (.inr (.inl ⟨k, hk1, hlt, q⟩)))
              generalize bs.getD k 0 = y at hcx hgx hsucc HC HB
              clear hc hget HBAD2 HGOOD2 hc0 HL
              by_cases y1 : y < 128
              · have HA := Lib.hid (HB.out (.inl y1))
                clear HB HC hsucc
                go_wp2
                go_ret2
                exact ⟨Below.refl _ _, _, _, HA.out, rfl⟩
              by_cases y2 : 191 < y
              · have HA := Lib.hid (HB.out (.inr y2))
                clear HB HC hsucc
                go_wp2
                go_ret2
                exact ⟨Below.refl _ _, _, _, HA.out, rfl⟩
              · have HC2 := Lib.hid (HC.out (by omega) (by omega))
                clear HB HC
                go_wp2
                go_round
                case rel => exact ⟨k + 1, by omega, by omega, by go_num, by rw [hsucc.out], HC2.out⟩
                case measure => simp [intOf]; omega
            · obtain rfl : k = 4 := by omega
              clear hc hget hc0 HL
              cases hmx : mayB (rOf (x0 - 240) bs 4) with
              | false =>
                have HA := Lib.hid (HBAD2.out (.inr (.inr ⟨hct.out, .inl (fun hm => by rw [(mayB_iff _).2 hm] at hmx; cases hmx)⟩)))
                clear HBAD2 HGOOD2
                go_wp2_with (go_at_call 36; refine (rmay_any _ _).mono ?_; rintro e w' ⟨rfl, rfl⟩)
                go_ret2
                exact ⟨Below.refl _ _, _, _, HA.out, rfl⟩
              | true =>
                have HG := Lib.hid (HGOOD2.out (by omega) hct.out ((mayB_iff _).1 hmx))
                have HB := Lib.hid (fun q => HBAD2.out (.inr (.inr ⟨hct.out, .inr q⟩)))
                clear HBAD2 HGOOD2
                go_wp2_with (first
                  | (go_at_call 36; refine (rmay_any _ _).mono ?_; rintro e w' ⟨rfl, rfl⟩)
                  | (go_at_call 37; refine (one_any _ _ hmx).mono ?_))
                rintro e w0 ⟨hb0, g, m, rfl, hm4, hone⟩
                clear hone
                by_cases hmn : m = 4
                · have HA := Lib.hid (HG.out (by rw [← hm4]; exact hmn))
                  clear HG HB hm4
                  subst hmn
                  go_wp2
                  go_ret2
                  exact ⟨hb0, _, _, HA.out, rfl⟩
                · have HA := Lib.hid (HB.out (by rw [← hm4]; exact hmn))
                  have hq1 : ((m : Int) != 4) = true := by rw [bne_iff_ne]; omega
                  have hq2 : ((m : Int) == 4) = false := by rw [beq_eq_false_iff_ne]; omega
                  clear HG HB hm4
                  go_wp2
                  go_ret2
                  exact ⟨hb0, _, _, HA.out, rfl⟩
end Go.Proofs.Ytgckofoaiojocaa
