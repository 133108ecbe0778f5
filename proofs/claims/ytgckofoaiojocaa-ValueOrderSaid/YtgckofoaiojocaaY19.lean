
import Derived.Test.YtgckofoaiojocaaY16
namespace Go.Proofs.Ytgckofoaiojocaa
open Go.RowKit
set_option linter.unusedVariables false

set_option maxHeartbeats 2000000 in
theorem order_no_a (k n f : Int) (s : ByteArray) (k' n' f' : Int) (s' : ByteArray) (k2 n2 f2 : Int) (s2 : ByteArray) (w : World)
    (HMa : ∀ w, Calls Try.prog 13 #[val k n f s] w fun e w' => e = .returned (.bool false) ∧ Below w.heap.size w w')
    (HP : ∀ w, Calls Try.prog 19 #[val k n f s, val k' n' f' s'] w fun e w' => e = .returned (.bool false) ∧ Below w.heap.size w w')
    (hl : s.size + s'.size + s2.size ≤ 3000) :
    Calls Try.prog 5 #[val k n f s, val k' n' f' s', val k2 n2 f2 s2] w fun e w' => e = .returned (.bool true) ∧ Below w.heap.size w w' := by
  have T0 := three_start k n f s k' n' f' s' k2 n2 f2 s2 w 24
  have HMa := Lib.hid HMa
  have HP := Lib.hid HP
  have HK := Lib.hid known_any
  go_enter Try.func5, Try.ntmps5
  go_wp2_with fail
  refine (HMa.out _).mono ?_
  rintro e w1 ⟨rfl, hb⟩
  have T1 := T0.below hb
  obtain ⟨A1, -, -⟩ := id T1
  clear hb T0
  go_wp2_with fail
  refine (HMa.out _).mono ?_
  rintro e w2 ⟨rfl, hb⟩
  have T2 := T1.below hb
  obtain ⟨A2, -, -⟩ := id T2
  clear hb T1 A1
  go_wp2_with fail
  refine (HP.out _).mono ?_
  rintro e w3 ⟨rfl, hb⟩
  have T3 := T2.below hb
  obtain ⟨A3, -, -⟩ := id T3
  clear hb T2 A2
  go_wp2_with fail
  refine (HK.out _).mono ?_
  rintro e w4 ⟨rfl, hb⟩
  have T4 := T3.below hb
  obtain ⟨A4, -, -⟩ := id T4
  clear hb T3 A3
  go_wp2
  go_ret
  exact ⟨rfl, T4.2.1⟩

set_option maxHeartbeats 2000000 in
theorem order_no_b (k n f : Int) (s : ByteArray) (k' n' f' : Int) (s' : ByteArray) (k2 n2 f2 : Int) (s2 : ByteArray) (w : World)
    (HMa : ∀ w, Calls Try.prog 13 #[val k n f s] w fun e w' => e = .returned (.bool true) ∧ Below w.heap.size w w')
    (HMb : ∀ w, Calls Try.prog 13 #[val k' n' f' s'] w fun e w' => e = .returned (.bool false) ∧ Below w.heap.size w w')
    (HP : ∀ w, Calls Try.prog 19 #[val k n f s, val k' n' f' s'] w fun e w' => e = .returned (.bool false) ∧ Below w.heap.size w w')
    (hl : s.size + s'.size + s2.size ≤ 3000) :
    Calls Try.prog 5 #[val k n f s, val k' n' f' s', val k2 n2 f2 s2] w fun e w' => e = .returned (.bool true) ∧ Below w.heap.size w w' := by
  have T0 := three_start k n f s k' n' f' s' k2 n2 f2 s2 w 24
  have HMa := Lib.hid HMa
  have HMb := Lib.hid HMb
  have HP := Lib.hid HP
  have HK := Lib.hid known_any
  go_enter Try.func5, Try.ntmps5
  go_wp2_with fail
  refine (HMa.out _).mono ?_
  rintro e w1 ⟨rfl, hb⟩
  have T1 := T0.below hb
  obtain ⟨A1, -, -⟩ := id T1
  clear hb T0
  go_wp2_with fail
  refine (HMb.out _).mono ?_
  rintro e w2 ⟨rfl, hb⟩
  have T2 := T1.below hb
  obtain ⟨A2, -, -⟩ := id T2
  clear hb T1 A1
  go_wp2_with fail
  refine (HMa.out _).mono ?_
  rintro e w3 ⟨rfl, hb⟩
  have T3 := T2.below hb
  obtain ⟨A3, -, -⟩ := id T3
  clear hb T2 A2
  go_wp2_with fail
  refine (HMb.out _).mono ?_
  rintro e w4 ⟨rfl, hb⟩
  have T4 := T3.below hb
  obtain ⟨A4, -, -⟩ := id T4
  clear hb T3 A3
  go_wp2_with fail
  refine (HP.out _).mono ?_
  rintro e w5 ⟨rfl, hb⟩
  have T5 := T4.below hb
  obtain ⟨A5, -, -⟩ := id T5
  clear hb T4 A4
  go_wp2_with fail
  refine (HK.out _).mono ?_
  rintro e w6 ⟨rfl, hb⟩
  have T6 := T5.below hb
  obtain ⟨A6, -, -⟩ := id T6
  clear hb T5 A5
  go_wp2
  go_ret
  exact ⟨rfl, T6.2.1⟩

set_option maxHeartbeats 2000000 in
theorem order_no_c (k n f : Int) (s : ByteArray) (k' n' f' : Int) (s' : ByteArray) (k2 n2 f2 : Int) (s2 : ByteArray) (w : World)
    (HMa : ∀ w, Calls Try.prog 13 #[val k n f s] w fun e w' => e = .returned (.bool true) ∧ Below w.heap.size w w')
    (HMb : ∀ w, Calls Try.prog 13 #[val k' n' f' s'] w fun e w' => e = .returned (.bool true) ∧ Below w.heap.size w w')
    (HMc : ∀ w, Calls Try.prog 13 #[val k2 n2 f2 s2] w fun e w' => e = .returned (.bool false) ∧ Below w.heap.size w w')
    (hl : s.size + s'.size + s2.size ≤ 3000) :
    Calls Try.prog 5 #[val k n f s, val k' n' f' s', val k2 n2 f2 s2] w fun e w' => e = .returned (.bool true) ∧ Below w.heap.size w w' := by
  have T0 := three_start k n f s k' n' f' s' k2 n2 f2 s2 w 24
  have HMa := Lib.hid HMa
  have HMb := Lib.hid HMb
  have HMc := Lib.hid HMc
  have HK := Lib.hid known_any
  go_enter Try.func5, Try.ntmps5
  go_wp2_with fail
  refine (HMa.out _).mono ?_
  rintro e w1 ⟨rfl, hb⟩
  have T1 := T0.below hb
  obtain ⟨A1, -, -⟩ := id T1
  clear hb T0
  go_wp2_with fail
  refine (HMb.out _).mono ?_
  rintro e w2 ⟨rfl, hb⟩
  have T2 := T1.below hb
  obtain ⟨A2, -, -⟩ := id T2
  clear hb T1 A1
  go_wp2_with fail
  refine (HMc.out _).mono ?_
  rintro e w3 ⟨rfl, hb⟩
  have T3 := T2.below hb
  obtain ⟨A3, -, -⟩ := id T3
  clear hb T2 A2
  go_wp2_with fail
  refine (HMa.out _).mono ?_
  rintro e w4 ⟨rfl, hb⟩
  have T4 := T3.below hb
  obtain ⟨A4, -, -⟩ := id T4
  clear hb T3 A3
  go_wp2_with fail
  refine (HMb.out _).mono ?_
  rintro e w5 ⟨rfl, hb⟩
  have T5 := T4.below hb
  obtain ⟨A5, -, -⟩ := id T5
  clear hb T4 A4
  go_wp2_with fail
  refine (HK.out _).mono ?_
  rintro e w6 ⟨rfl, hb⟩
  have T6 := T5.below hb
  obtain ⟨A6, -, -⟩ := id T6
  clear hb T5 A5
  go_wp2
  go_ret
  exact ⟨rfl, T6.2.1⟩

theorem order_long (k n f : Int) (s : ByteArray) (k' n' f' : Int) (s' : ByteArray) (k2 n2 f2 : Int) (s2 : ByteArray) (w : World) (hl : ¬ s.size + s'.size + s2.size ≤ 3000) (w0 : s.size ≤ 140737488355328) (w1 : s'.size ≤ 140737488355328) (w2 : s2.size ≤ 140737488355328) :
    Calls Try.prog 5 #[val k n f s, val k' n' f' s', val k2 n2 f2 s2] w fun e w' => e = .returned (.bool true) ∧ Below w.heap.size w w' := by
  have T0 := three_start k n f s k' n' f' s' k2 n2 f2 s2 w 24
  have HK := Lib.hid known_any
  go_enter Try.func5, Try.ntmps5
  go_wp2_with fail
  refine (HK.out _).mono ?_
  rintro e w1 ⟨rfl, hb⟩
  have T1 := T0.below hb
  clear hb T0
  go_wp2
  go_ret
  exact ⟨rfl, T1.2.1⟩
end Go.Proofs.Ytgckofoaiojocaa
