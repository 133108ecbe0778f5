
import Derived.Test.YtgckofoaiojocaaY16
namespace Go.Proofs.Ytgckofoaiojocaa
open Go.RowKit
set_option linter.unusedVariables false

set_option maxHeartbeats 8000000 in
theorem order_same (k n f : Int) (s : ByteArray) (k' n' f' : Int) (s' : ByteArray) (k2 n2 f2 : Int) (s2 : ByteArray) (w : World) (X Y : Nat) (oa ob : Bool)
    (HMa : ∀ w, Calls Try.prog 13 #[val k n f s] w fun e w' => e = .returned (.bool true) ∧ Below w.heap.size w w')
    (HMb : ∀ w, Calls Try.prog 13 #[val k' n' f' s'] w fun e w' => e = .returned (.bool true) ∧ Below w.heap.size w w')
    (HMc : ∀ w, Calls Try.prog 13 #[val k2 n2 f2 s2] w fun e w' => e = .returned (.bool true) ∧ Below w.heap.size w w')
    (HP : ∀ w, Calls Try.prog 19 #[val k n f s, val k' n' f' s'] w fun e w' => e = .returned (.bool false) ∧ Below w.heap.size w w')
    (HQ : ∀ w, Calls Try.prog 19 #[val k' n' f' s', val k n f s] w fun e w' => e = .returned (.bool false) ∧ Below w.heap.size w w')
    (HNa : ∀ w, Calls Try.prog 10 #[val k n f s] w fun e w' => e = .returned (.tuple #[.float .f64 X, .bool oa]) ∧ Below w.heap.size w w')
    (HNb : ∀ w, Calls Try.prog 10 #[val k' n' f' s'] w fun e w' => e = .returned (.tuple #[.float .f64 Y, .bool ob]) ∧ Below w.heap.size w w')
    (hE : ((k == k') && (n == n') && (f == f') && (s.toList == s'.toList)) = true) (hl : s.size + s'.size + s2.size ≤ 3000) (hnum : oa = true → ob = true → (k == k') = true → (FloatKind.f64.format.order X Y == some .lt) = true → False) :
    Calls Try.prog 5 #[val k n f s, val k' n' f' s', val k2 n2 f2 s2] w fun e w' => e = .returned (.bool true) ∧ Below w.heap.size w w' := by
  have hq : ∀ w, (binOp .eql 24 (val k n f s) (val k' n' f' s')).run Try.prog w = .ok (.bool true) w := fun w => by rw [val_eql, hE]
  have T0 := three_start k n f s k' n' f' s' k2 n2 f2 s2 w 24
  have HMa := Lib.hid HMa
  have HMb := Lib.hid HMb
  have HMc := Lib.hid HMc
  have HP := Lib.hid HP
  have HQ := Lib.hid HQ
  have HNa := Lib.hid HNa
  have HNb := Lib.hid HNb
  have HK := Lib.hid known_any
  have HX := Lib.hid hnum
  clear hE hnum
  have KP : ∀ w1, Three w.heap.size k n f s k' n' f' s' k2 n2 f2 s2 w w1 → Calls Try.prog 19 #[val k n f s, val k' n' f' s'] w1 fun e w' => e = .returned (.bool false) ∧ Three w.heap.size k n f s k' n' f' s' k2 n2 f2 s2 w w' := fun w1 hS => (HP.out w1).mono fun e w' h => ⟨h.1, hS.below h.2⟩
  have KP := Lib.hid KP
  have KQ : ∀ w1, Three w.heap.size k n f s k' n' f' s' k2 n2 f2 s2 w w1 → Calls Try.prog 19 #[val k' n' f' s', val k n f s] w1 fun e w' => e = .returned (.bool false) ∧ Three w.heap.size k n f s k' n' f' s' k2 n2 f2 s2 w w' := fun w1 hS => (HQ.out w1).mono fun e w' h => ⟨h.1, hS.below h.2⟩
  have KQ := Lib.hid KQ
  go_enter Try.func5, Try.ntmps5
  go_wp2_with fail
  refine (HMa.out _).mono ?_
  rintro e w1 ⟨rfl, hb⟩
  have T1 := T0.below hb
  obtain ⟨A1, -, -⟩ := id T1
  clear hb T0
  go_wp2_with fail
  refine (HMb.out _).mono ?_
  rintro e w2 ⟨rfl, hb⟩
  have T2 := T1.below hb
  obtain ⟨A2, -, -⟩ := id T2
  clear hb T1 A1
  go_wp2_with fail
  refine (HMc.out _).mono ?_
  rintro e w3 ⟨rfl, hb⟩
  have T3 := T2.below hb
  obtain ⟨A3, -, -⟩ := id T3
  clear hb T2 A2
  go_wp2_with fail
  refine region_class (C := Three w.heap.size k n f s k' n' f' s' k2 n2 f2 s2 w) (by kernel_rfl) (by kernel_rfl) (T3.below (Below.refl _ _).drew) ?_
  repeat (first
    | (refine q_skip (by rfl) ?_
       simp only [Act.put, List.setIfInBounds_toArray, List.set_cons_zero, List.set_cons_succ])
    | (refine q_val (v := ?_) (by rfl) (fun w hS => ?_) ?_
       rotate_left
       · obtain ⟨⟨h1, h2, h3⟩, -, -⟩ := hS
         go_simp
         try with_reducible rfl
       simp only [Act.put, List.setIfInBounds_toArray, List.set_cons_zero, List.set_cons_succ])
    | (refine q_call (by rfl) (fun w hS => ?_) KP.out ?_
       · obtain ⟨⟨h1, h2, h3⟩, -, -⟩ := hS
         go_simp
       simp only [Act.put, List.setIfInBounds_toArray, List.set_cons_zero, List.set_cons_succ])
    | (refine q_call (by rfl) (fun w hS => ?_) KQ.out ?_
       · obtain ⟨⟨h1, h2, h3⟩, -, -⟩ := hS
         go_simp
       simp only [Act.put, List.setIfInBounds_toArray, List.set_cons_zero, List.set_cons_succ]))
  refine q_end ?_
  intro w4 T4
  obtain ⟨A4, -, -⟩ := id T4
  clear T3 A3
  go_wp2_with fail
  refine (HNa.out _).mono ?_
  rintro e w5 ⟨rfl, hb⟩
  have T5 := T4.below hb
  obtain ⟨A5, -, -⟩ := id T5
  clear hb T4 A4
  go_wp2_with fail
  refine (HNb.out _).mono ?_
  rintro e w6 ⟨rfl, hb⟩
  have T6 := T5.below hb
  obtain ⟨A6, -, -⟩ := id T6
  clear hb T5 A5
  cases oa
  · go_wp2_with (first
      | (go_at_call 7; refine (HK.out _).mono ?_; rintro e w7 ⟨rfl, hb⟩; have T7 := T6.below hb; clear hb))
    go_ret
    exact ⟨rfl, T7.2.1⟩
  cases ob
  · go_wp2_with (first
      | (go_at_call 7; refine (HK.out _).mono ?_; rintro e w7 ⟨rfl, hb⟩; have T7 := T6.below hb; clear hb))
    go_ret
    exact ⟨rfl, T7.2.1⟩
  cases hk : (k == k')
  · go_wp2_with (first
      | (go_at_call 7; refine (HK.out _).mono ?_; rintro e w7 ⟨rfl, hb⟩; have T7 := T6.below hb; clear hb))
    go_ret
    exact ⟨rfl, T7.2.1⟩
  cases hx : (FloatKind.f64.format.order X Y == some .lt)
  · go_wp2_with (first
      | (go_at_call 7; refine (HK.out _).mono ?_; rintro e w7 ⟨rfl, hb⟩; have T7 := T6.below hb; clear hb))
    go_ret
    exact ⟨rfl, T7.2.1⟩
  · exact (HX.out rfl rfl hk hx).elim

set_option maxHeartbeats 8000000 in
theorem order_back (k n f : Int) (s : ByteArray) (k' n' f' : Int) (s' : ByteArray) (k2 n2 f2 : Int) (s2 : ByteArray) (w : World) (X Y : Nat) (oa ob : Bool)
    (HMa : ∀ w, Calls Try.prog 13 #[val k n f s] w fun e w' => e = .returned (.bool true) ∧ Below w.heap.size w w')
    (HMb : ∀ w, Calls Try.prog 13 #[val k' n' f' s'] w fun e w' => e = .returned (.bool true) ∧ Below w.heap.size w w')
    (HMc : ∀ w, Calls Try.prog 13 #[val k2 n2 f2 s2] w fun e w' => e = .returned (.bool true) ∧ Below w.heap.size w w')
    (HP : ∀ w, Calls Try.prog 19 #[val k n f s, val k' n' f' s'] w fun e w' => e = .returned (.bool false) ∧ Below w.heap.size w w')
    (HQ : ∀ w, Calls Try.prog 19 #[val k' n' f' s', val k n f s] w fun e w' => e = .returned (.bool true) ∧ Below w.heap.size w w')
    (HNa : ∀ w, Calls Try.prog 10 #[val k n f s] w fun e w' => e = .returned (.tuple #[.float .f64 X, .bool oa]) ∧ Below w.heap.size w w')
    (HNb : ∀ w, Calls Try.prog 10 #[val k' n' f' s'] w fun e w' => e = .returned (.tuple #[.float .f64 Y, .bool ob]) ∧ Below w.heap.size w w')
    (hE : ((k == k') && (n == n') && (f == f') && (s.toList == s'.toList)) = false) (hl : s.size + s'.size + s2.size ≤ 3000) (hnum : oa = true → ob = true → (k == k') = true → (FloatKind.f64.format.order X Y == some .lt) = true → False) :
    Calls Try.prog 5 #[val k n f s, val k' n' f' s', val k2 n2 f2 s2] w fun e w' => e = .returned (.bool true) ∧ Below w.heap.size w w' := by
  have hq : ∀ w, (binOp .eql 24 (val k n f s) (val k' n' f' s')).run Try.prog w = .ok (.bool false) w := fun w => by rw [val_eql, hE]
  have T0 := three_start k n f s k' n' f' s' k2 n2 f2 s2 w 24
  have HMa := Lib.hid HMa
  have HMb := Lib.hid HMb
  have HMc := Lib.hid HMc
  have HP := Lib.hid HP
  have HQ := Lib.hid HQ
  have HNa := Lib.hid HNa
  have HNb := Lib.hid HNb
  have HK := Lib.hid known_any
  have HX := Lib.hid hnum
  clear hE hnum
  have KP : ∀ w1, Three w.heap.size k n f s k' n' f' s' k2 n2 f2 s2 w w1 → Calls Try.prog 19 #[val k n f s, val k' n' f' s'] w1 fun e w' => e = .returned (.bool false) ∧ Three w.heap.size k n f s k' n' f' s' k2 n2 f2 s2 w w' := fun w1 hS => (HP.out w1).mono fun e w' h => ⟨h.1, hS.below h.2⟩
  have KP := Lib.hid KP
  have KQ : ∀ w1, Three w.heap.size k n f s k' n' f' s' k2 n2 f2 s2 w w1 → Calls Try.prog 19 #[val k' n' f' s', val k n f s] w1 fun e w' => e = .returned (.bool true) ∧ Three w.heap.size k n f s k' n' f' s' k2 n2 f2 s2 w w' := fun w1 hS => (HQ.out w1).mono fun e w' h => ⟨h.1, hS.below h.2⟩
  have KQ := Lib.hid KQ
  go_enter Try.func5, Try.ntmps5
  go_wp2_with fail
  refine (HMa.out _).mono ?_
  rintro e w1 ⟨rfl, hb⟩
  have T1 := T0.below hb
  obtain ⟨A1, -, -⟩ := id T1
  clear hb T0
  go_wp2_with fail
  refine (HMb.out _).mono ?_
  rintro e w2 ⟨rfl, hb⟩
  have T2 := T1.below hb
  obtain ⟨A2, -, -⟩ := id T2
  clear hb T1 A1
  go_wp2_with fail
  refine (HMc.out _).mono ?_
  rintro e w3 ⟨rfl, hb⟩
  have T3 := T2.below hb
  obtain ⟨A3, -, -⟩ := id T3
  clear hb T2 A2
  go_wp2_with fail
  refine region_class (C := Three w.heap.size k n f s k' n' f' s' k2 n2 f2 s2 w) (by kernel_rfl) (by kernel_rfl) (T3.below (Below.refl _ _).drew) ?_
  repeat (first
    | (refine q_skip (by rfl) ?_
       simp only [Act.put, List.setIfInBounds_toArray, List.set_cons_zero, List.set_cons_succ])
    | (refine q_val (v := ?_) (by rfl) (fun w hS => ?_) ?_
       rotate_left
       · obtain ⟨⟨h1, h2, h3⟩, -, -⟩ := hS
         go_simp
         try with_reducible rfl
       simp only [Act.put, List.setIfInBounds_toArray, List.set_cons_zero, List.set_cons_succ])
    | (refine q_call (by rfl) (fun w hS => ?_) KP.out ?_
       · obtain ⟨⟨h1, h2, h3⟩, -, -⟩ := hS
         go_simp
       simp only [Act.put, List.setIfInBounds_toArray, List.set_cons_zero, List.set_cons_succ])
    | (refine q_call (by rfl) (fun w hS => ?_) KQ.out ?_
       · obtain ⟨⟨h1, h2, h3⟩, -, -⟩ := hS
         go_simp
       simp only [Act.put, List.setIfInBounds_toArray, List.set_cons_zero, List.set_cons_succ]))
  refine q_end ?_
  intro w4 T4
  obtain ⟨A4, -, -⟩ := id T4
  clear T3 A3
  go_wp2_with fail
  refine (HNa.out _).mono ?_
  rintro e w5 ⟨rfl, hb⟩
  have T5 := T4.below hb
  obtain ⟨A5, -, -⟩ := id T5
  clear hb T4 A4
  go_wp2_with fail
  refine (HNb.out _).mono ?_
  rintro e w6 ⟨rfl, hb⟩
  have T6 := T5.below hb
  obtain ⟨A6, -, -⟩ := id T6
  clear hb T5 A5
  cases oa
  · go_wp2_with (first
      | (go_at_call 7; refine (HK.out _).mono ?_; rintro e w7 ⟨rfl, hb⟩; have T7 := T6.below hb; clear hb))
    go_ret
    exact ⟨rfl, T7.2.1⟩
  cases ob
  · go_wp2_with (first
      | (go_at_call 7; refine (HK.out _).mono ?_; rintro e w7 ⟨rfl, hb⟩; have T7 := T6.below hb; clear hb))
    go_ret
    exact ⟨rfl, T7.2.1⟩
  cases hk : (k == k')
  · go_wp2_with (first
      | (go_at_call 7; refine (HK.out _).mono ?_; rintro e w7 ⟨rfl, hb⟩; have T7 := T6.below hb; clear hb))
    go_ret
    exact ⟨rfl, T7.2.1⟩
  cases hx : (FloatKind.f64.format.order X Y == some .lt)
  · go_wp2_with (first
      | (go_at_call 7; refine (HK.out _).mono ?_; rintro e w7 ⟨rfl, hb⟩; have T7 := T6.below hb; clear hb))
    go_ret
    exact ⟨rfl, T7.2.1⟩
  · exact (HX.out rfl rfl hk hx).elim
end Go.Proofs.Ytgckofoaiojocaa
