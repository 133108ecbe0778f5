import Derived.Test.YtmmmmjmnnapbcaaV7
import Derived.Deep.QuietTactic
import Derived.BigQuiet
import Derived.IntWalk
namespace Go.Proofs.Ytmmmmjmnnapbcaa
open Go.RowKit
set_option linter.unusedVariables false

def RUintIs (bs : List Int) (p : Int) (w : World) (e : Ending) (w' : World) : Prop := e = .returned (.tuple #[.int .u64 (uNum bs p), .int .i64 (uNxt bs p), .int .i64 (uErr bs p)]) ∧ Below w.heap.size w w'
theorem ruintIs {bs : List Int} {p : Int} {w w' : World} {n x : Nat} {e : Int} (h : uErr bs p = e ∧ uNum bs p = n ∧ uNxt bs p = x) (hb : Below w.heap.size w w') : RUintIs bs p w (.returned (.tuple #[.int .u64 n, .int .i64 x, .int .i64 e])) w' := by
  unfold RUintIs
  rw [h.1, h.2.1, h.2.2]
  exact ⟨rfl, hb⟩

set_option maxHeartbeats 2000000 in
set_option maxRecDepth 100000 in
theorem ruint_any (v : Value) (bs : List Int) (p : Int) (w : World) (hv : Ints .u8 w v bs) (hbb : ∀ b ∈ bs, 0 ≤ b ∧ b < 256) (hl : bs.length ≤ 3000000) :
    Calls Try.prog 17 #[v, .int .i64 p] w (RUintIs bs p w) := by
  have HV := Lib.hid hv
  obtain ⟨a, cap, rfl⟩ := hv.shape
  clear hv
  by_cases h0 : p < 0
  · have HU := Lib.hid (ruintIs (w := w) (u_out (bs := bs) (.inl h0)) (Below.refl _ _))
    go_enter Try.func17, Try.ntmps17
    go_wp2
    go_ret3
    exact HU.out
  by_cases h1 : (bs.length : Int) < p
  · have HU := Lib.hid (ruintIs (w := w) (u_out (bs := bs) (.inr h1)) (Below.refl _ _))
    go_enter Try.func17, Try.ntmps17
    go_wp2
    go_ret3
    exact HU.out
  obtain ⟨q, rfl⟩ : ∃ q : Nat, p = q := ⟨p.toNat, by omega⟩
  have hq : q ≤ bs.length := by omega
  have HT := Lib.hid (bytes_drop q hbb)
  have hTl : (bs.drop q).length = bs.length - q := List.length_drop
  have HTG : Hid (∀ j, (bs.drop q).getD j 0 = bs.getD (q + j) 0) := fun j => by simp [List.getD]
  have HTT : Hid (∀ j, (bs.take (q + j)).drop q = (bs.drop q).take j) := fun j => by rw [List.drop_take]; congr 1; omega
  have HUN : Hid (∀ w', Below w.heap.size w w' → dec64 (bs.drop q) = none → RUintIs bs q w (.returned (.tuple #[.int .u64 0, .int .i64 0, .int .i64 3])) w') := fun w' hb hd => ruintIs (u_none hq hd) hb
  have HUS : Hid (∀ w' n s, Below w.heap.size w w' → dec64 (bs.drop q) = some (n, s) → RUintIs bs q w (.returned (.tuple #[.int .u64 n, .int .i64 (q + s : Nat), .int .i64 0])) w') := fun w' n s hb hd => ruintIs (u_some hq hd) hb
  have hcl : (bs.length : Int) ≤ cap := by
    rcases HV.out with ⟨a', cap', hv', hx, hm, hn⟩ | ⟨b, off, cap', hv', _, hc, hm, _⟩
    · subst hx; simp
    · injection hv' with e1 e2 e3; omega
  generalize bs.drop q = T at HT hTl HTG HTT HUN HUS
  have HTL := Lib.hid hTl
  have z1 : decide ((q : Int) < 0) = false := by rw [decide_eq_false_iff_not]; omega
  have z2 : decide (bs.length < q) = false := by rw [decide_eq_false_iff_not]; omega
  clear h0 h1 hbb hTl
  go_enter Try.func17, Try.ntmps17
  go_wp2
  go_loop [7, 8, 9] (fun n s i => ∃ (k acc n' s' : Nat), i = .int .i64 k ∧ n = .int .u64 n' ∧ s = .int .u64 s' ∧ Hid (n' = acc % 18446744073709551616) ∧ Hid (s' = 128 ^ k % 18446744073709551616) ∧ k ≤ 10 ∧ q + k ≤ bs.length ∧ Hid (dec T = lift k acc (dec (T.drop k)))) (fun _ _ i => 10 - (intOf i).toNat)
  case atStart => exact ⟨0, 0, 0, 1, rfl, rfl, rfl, rfl, rfl, by omega, by omega, by simp [Hid, lift_start]⟩
  case round =>
    obtain ⟨k, acc, n', s', rfl, rfl, rfl, hn, hs, hk, hkl, hdec⟩ := hrel
    by_cases hlt : q + k < bs.length ∧ k < 10
    · obtain ⟨hlt, hlt10⟩ := hlt
      obtain ⟨b, off, ha, -, -, hm, hc⟩ := HV.out.opened (by omega)
      subst ha
      have hcx := hc (q + k) hlt
      clear hc
      have hkT : k < T.length := by have := HTL.out; omega
      have hxr := HT.out _ (List.getElem_mem hkT)
      have hxe : T[k] = bs.getD (q + k) 0 := by rw [← HTG.out k]; simp [List.getD, hkT]
      have hdl := drop_cons T k hkT
      rw [hxe] at hxr
      have hxg := HTG.out k
      rw [hxg] at hdl
      generalize bs.getD (q + k) 0 = x at hcx hxr hdl hxg
      obtain ⟨R1, R2, R3⟩ := ref_next k acc (x.toNat % 128) n' s' hn.out hs.out (by omega)
      have hD : x % 128 = ((x.toNat % 128 : Nat) : Int) := by omega
      have hw7 : x.tmod 128 = x % 128 := Int.tmod_eq_emod_of_nonneg hxr.1
      by_cases hlow : x < 128
      · have HL := Lib.hid (ref_last T k acc x HT.out hkT hxg hlow hdec.out)
        have hfm : Fits ((acc + x.toNat % 128 * 128 ^ k) % 18446744073709551616) := Nat.mod_lt _ (by omega)
        generalize (acc + x.toNat % 128 * 128 ^ k) % 18446744073709551616 = m at *
        generalize x.toNat % 128 * 128 ^ k % 18446744073709551616 = u at *
        generalize 128 ^ (k + 1) % 18446744073709551616 = u3 at *
        generalize x.toNat % 128 = D at *
        have HD := Lib.hid hD
        have F := form_any m w hfm
        have hcq : ¬ cap = q := by omega
        have hM := (Ints.mid (lo := q) (hi := q + (k + 1)) HV.out (by omega) (by omega)).2 hcq
        rw [HTT.out (k + 1), Nat.add_sub_cancel_left, Option.map_some, Go.WideShapes.add_plain] at hM
        have HM := Lib.hid hM
        clear hM
        go_wp2_with (go_at_call 13; refine F.mono ?_)
        rintro e w1 ⟨v1, rfl, hown, hb⟩
        have hc1 := fun n => conv_str (P := Try.prog) 22 9 5 Try.underlying22 Try.underlying5 Try.underlying9 _ _ _ ((Ints.of_owns hown).1.below (blw_drewN (Below.refl _ _) n))
        have hc2 := fun n => conv_str (P := Try.prog) 22 9 5 Try.underlying22 Try.underlying5 Try.underlying9 _ _ _ ((HM.out.below hb).below (blw_drewN (Below.refl _ _) n))
        clear hown F
        generalize hsa : strOfNums (form m) = sa at *
        generalize hsb : strOfNums (T.take (k + 1)) = sb at *
        have e1 : IntKind.i64.wrap ((q : Int) + k) = (q : Int) + k := IntWalk.i64_in _ (by omega)
        have e2 : IntKind.i64.wrap ((q : Int) + k + 1) = (q : Int) + k + 1 := IntWalk.i64_in _ (by omega)
        have e3 : ((q : Int) + k + 1).toNat = q + (k + 1) := by omega
        have e4 : (q : Int) + k + 1 ≤ cap := by omega
        have e5 : (q : Int) ≤ (q : Int) + k + 1 := by omega
        have e6 : (0 : Int) ≤ (q : Int) + k + 1 := by omega
        have e7 : q + (k + 1) - q = k + 1 := by omega
        rcases HL.out with ⟨he, hd⟩ | ⟨hne, hd⟩
        · subst he
          clear HL
          have HE := Lib.hid (fun n => HUS.out (w1.drewN n) m (k + 1) (blw_drewN hb n) hd)
          clear hd hsa hsb
          go_wp2
          go_quiet (fail)
          go_wp2
          go_ret3
          have := HE.out nq
          simpa [Int.natCast_add, Int.add_assoc] using this
        · have q1 := str_ne hne
          clear HL
          have HE := Lib.hid (fun n => HUN.out (w1.drewN n) (blw_drewN hb n) hd)
          clear hd hne hsa hsb
          go_wp2
          go_quiet (fail)
          go_wp2
          go_ret3
          exact HE.out nq
      · have e : (x - 128).toNat = x.toNat % 128 := by omega
        have HDN : Hid (dec T = lift (k + 1) (acc + x.toNat % 128 * 128 ^ k) (dec (T.drop (k + 1)))) := by
          show _ = _
          rw [hdec.out, hdl, lift_on _ _ _ _ (by omega), e]
        have HM : Hid ((acc + x.toNat % 128 * 128 ^ k) % 18446744073709551616 = (acc + x.toNat % 128 * 128 ^ k) % 18446744073709551616) := rfl
        have HS : Hid (128 ^ (k + 1) % 18446744073709551616 = 128 ^ (k + 1) % 18446744073709551616) := rfl
        clear e hdl hxg hxe
        obtain ⟨acc2, h2⟩ : ∃ acc2, acc + x.toNat % 128 * 128 ^ k = acc2 := ⟨_, rfl⟩
        rw [h2] at HDN HM R2
        clear h2
        have HM2 : ∃ m, acc2 % 18446744073709551616 = m ∧ Hid (m = acc2 % 18446744073709551616) := ⟨_, rfl, rfl⟩
        obtain ⟨m, hm2, HM2⟩ := HM2
        have HS2 : ∃ u, 128 ^ (k + 1) % 18446744073709551616 = u ∧ Hid (u = 128 ^ (k + 1) % 18446744073709551616) := ⟨_, rfl, rfl⟩
        obtain ⟨u3, hu2, HS2⟩ := HS2
        rw [hm2] at R2
        rw [hu2] at R3
        clear hm2 hu2 HM HS
        generalize x.toNat % 128 * 128 ^ k % 18446744073709551616 = u at *
        generalize x.toNat % 128 = D at *
        have HD := Lib.hid hD
        go_wp2
        go_round
        case rel => exact ⟨k + 1, acc2, m, u3, by go_num, rfl, rfl, HM2, HS2, by omega, by omega, HDN⟩
        case measure => simp [intOf]; omega
    · have HN := Lib.hid (HUN.out w (Below.refl _ _) (first_end T k acc hk (by have := HTL.out; omega) (by have := HTL.out; omega) hdec.out))
      by_cases h10 : k < 10
      · have hlt2 : ¬ (q : Int) + k < bs.length := by omega
        clear hlt
        go_wp2
        go_ret3
        exact HN.out
      · clear hlt
        go_wp2
        go_ret3
        exact HN.out
end Go.Proofs.Ytmmmmjmnnapbcaa
