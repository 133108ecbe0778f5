
import Derived.Test.YtnggnfhaokkcmaaN19
/- N20: the reference's May; tame -/
namespace Go.Proofs.Ytnggnfhaokkcmaa
open Go.RowKit
set_option linter.unusedVariables false
set_option maxRecDepth 100000

def MyP (xs : List Oz) (e : Ending) : Prop := ∃ n : Int, e = .returned (.int .i64 n) ∧ (n = 0 → ∀ x ∈ xs, FP x)
theorem MyP.no (xs : List Oz) {n : Int} (h : n ≠ 0) : MyP xs (.returned (.int .i64 n)) := ⟨n, rfl, fun h2 => absurd h2 h⟩
theorem fp_step {xs : List Oz} {k : Nat} (hk : k < xs.length) (h : ∀ x ∈ xs.take k, FP x) (hx : FP xs[k]) : ∀ x ∈ xs.take (k + 1), FP x := by
  intro x hm
  rw [List.take_succ_eq_append_getElem hk] at hm
  rcases List.mem_append.1 hm with hm | hm
  · exact h x hm
  · obtain rfl := List.mem_singleton.1 hm; exact hx
set_option maxHeartbeats 4000000 in
theorem rmayO_any (v u : Value) (ks : List Key) (xs : List Oz) (w : World) (hs : Krow w v ks) (hx : Orow w u xs) (hW : ∀ z ∈ xs, OpW z) (hsm : ∀ z ∈ xs, Sm z) (hA : ∀ z ∈ xs, ∀ a ∈ z.st, a.s.size ≤ 1048576) (hC : ∀ z ∈ xs, ∀ a ∈ z.pt, a.s.size ≤ 1048576) :
    Calls Try.prog 25 #[v, u] w fun e w' => MyP xs e ∧ Below w.heap.size w w' := by
  have hl := hx.len
  obtain ⟨a1, cap1, rfl⟩ := hx.shape
  have HTK := Lib.hid (fun W (hb : Below w.heap.size w W) => takes_any _ xs W (hx.below hb))
  have HMK := Lib.hid (fun W (hb : Below w.heap.size w W) => makes_any _ xs W (hx.below hb))
  have HAT := Lib.hid (fun (h0 : 0 < xs.length) => hx.row.ats h0)
  have HFM := Lib.hid (fun z (hz : z ∈ xs) W (hb : Below w.heap.size w W) => form_any z W ((hx.ok z hz).below hb) (hsm z hz))
  have HM5 := Lib.hid (fun z (hz : z ∈ xs) W (hb : Below w.heap.size w W) => rmay_any5 v ks z.sv z.st W (hs.below hb (Nat.le_refl _)) ((hx.ok z hz).below hb).s (hW z hz).s (hA z hz))
  have HM6 := Lib.hid (fun z (hz : z ∈ xs) W (hb : Below w.heap.size w W) => rmay_any6 v ks z.pv z.pt W (hs.below hb (Nat.le_refl _)) ((hx.ok z hz).below hb).p (hW z hz).p (fun _ => hC z hz))
  clear hs hx hW hsm hA hC
  go_enter Try.func25, Try.ntmps25
  go_wp2
  go_loopw [5] (fun i wr => ∃ k : Nat, k ≤ xs.length ∧ i = .int .i64 k ∧ Hid ((∀ x ∈ xs.take k, FP x) ∧ Below w.heap.size w wr)) (fun i _ => xs.length - (intOf i).toNat)
  case atStart => exact ⟨0, Nat.zero_le _, rfl, Lib.hid ⟨by simp, Below.refl _ _⟩⟩
  case round =>
    obtain ⟨k, hk, rfl, HP⟩ := hrel
    by_cases hlt : k < xs.length
    · obtain ⟨b1, o1, rfl, -, -, -, hbl, hat⟩ := HAT.out (by omega)
      have HCC := Lib.hid (fun W (hb : Below w.heap.size w W) => (hat k hlt).below hb)
      have HF := Lib.hid (HFM.out _ (List.getElem_mem hlt))
      have H5 := Lib.hid (HM5.out _ (List.getElem_mem hlt))
      have H6 := Lib.hid (HM6.out _ (List.getElem_mem hlt))
      have HST := Lib.hid (fp_step hlt HP.out.1)
      have HB := Lib.hid HP.out.2
      have HLT := Lib.hid hlt
      clear hat HP HAT HFM HM5 HM6
      generalize xs[k] = z at *
      obtain ⟨fb, hfb⟩ : ∃ b, decide (FB z) = b := ⟨_, rfl⟩
      have KF := Lib.hid (fun w9 (hS : Below w.heap.size w w9) => (HF.out w9 hS).mono fun e w' (h : _ ∧ _) => (⟨(show e = .returned (.bool (decide (FB z))) from h.1).trans (by rw [hfb]), below_add hS h.2 hS.size⟩ : e = .returned (.bool fb) ∧ Below w.heap.size w w'))
      generalize may5 ks z.st = e5 at *
      generalize may6 ks z.pt = e6 at *
      have K5 := Lib.hid (fun w9 (hS : Below w.heap.size w w9) => (H5.out w9 hS).mono fun e w' (h : _ ∧ _) => (⟨h.1, below_add hS h.2 hS.size⟩ : _ ∧ Below w.heap.size w w'))
      have K6 := Lib.hid (fun w9 (hS : Below w.heap.size w w9) => (H6.out w9 hS).mono fun e w' (h : _ ∧ _) => (⟨h.1, below_add hS h.2 hS.size⟩ : _ ∧ Below w.heap.size w w'))
      clear HF H5 H6
      cases fb
      · obtain ⟨c0, c1, c2, c3, c4⟩ := HCC.out wr HB.out
        go_wp2_with (first
          | (go_at_call 36; (with_reducible refine (KF.out _ HB.out).mono ?_); rintro e w1 ⟨rfl, hb⟩; have G1 := Lib.hid hb; clear hb ; obtain ⟨c0, c1, c2, c3, c4⟩ := HCC.out w1 G1.out))
        go_ret
        exact ⟨MyP.no xs (by decide), G1.out⟩
      by_cases h5 : e5 = 3
      · have q5 : (e5 == 3) = true := by simpa using h5
        clear h5
        obtain ⟨c0, c1, c2, c3, c4⟩ := HCC.out wr HB.out
        go_wp2_with (first
          | (go_at_call 36; (with_reducible refine (KF.out _ HB.out).mono ?_); rintro e w1 ⟨rfl, hb⟩; have G1 := Lib.hid hb; clear hb ; obtain ⟨c0, c1, c2, c3, c4⟩ := HCC.out w1 G1.out)
          | (go_at_call 37; (with_reducible refine (K5.out _ G1.out).mono ?_); rintro e w2 ⟨rfl, hb⟩; have G2 := Lib.hid hb; clear hb ; obtain ⟨c0, c1, c2, c3, c4⟩ := HCC.out w2 G2.out))
        go_ret
        exact ⟨MyP.no xs (by decide), G2.out⟩
      have q5 : (e5 == 3) = false := by simpa using h5
      clear h5
      by_cases h6 : e6 = 3
      · have q6 : (e6 == 3) = true := by simpa using h6
        clear h6
        obtain ⟨c0, c1, c2, c3, c4⟩ := HCC.out wr HB.out
        go_wp2_with (first
          | (go_at_call 36; (with_reducible refine (KF.out _ HB.out).mono ?_); rintro e w1 ⟨rfl, hb⟩; have G1 := Lib.hid hb; clear hb ; obtain ⟨c0, c1, c2, c3, c4⟩ := HCC.out w1 G1.out)
          | (go_at_call 37; (with_reducible refine (K5.out _ G1.out).mono ?_); rintro e w2 ⟨rfl, hb⟩; have G2 := Lib.hid hb; clear hb ; obtain ⟨c0, c1, c2, c3, c4⟩ := HCC.out w2 G2.out)
          | (go_at_call 38; (with_reducible refine (K6.out _ G2.out).mono ?_); rintro e w3 ⟨rfl, hb⟩; have G3 := Lib.hid hb; clear hb ; obtain ⟨c0, c1, c2, c3, c4⟩ := HCC.out w3 G3.out))
        go_ret
        exact ⟨MyP.no xs (by decide), G3.out⟩
      have q6 : (e6 == 3) = false := by simpa using h6
      clear h6
      obtain ⟨c0, c1, c2, c3, c4⟩ := HCC.out wr HB.out
      go_wp2_with (first
        | (go_at_call 36; (with_reducible refine (KF.out _ HB.out).mono ?_); rintro e w1 ⟨rfl, hb⟩; have G1 := Lib.hid hb; clear hb ; obtain ⟨c0, c1, c2, c3, c4⟩ := HCC.out w1 G1.out)
        | (go_at_call 37; (with_reducible refine (K5.out _ G1.out).mono ?_); rintro e w2 ⟨rfl, hb⟩; have G2 := Lib.hid hb; clear hb ; obtain ⟨c0, c1, c2, c3, c4⟩ := HCC.out w2 G2.out)
        | (go_at_call 38; (with_reducible refine (K6.out _ G2.out).mono ?_); rintro e w3 ⟨rfl, hb⟩; have G3 := Lib.hid hb; clear hb ; obtain ⟨c0, c1, c2, c3, c4⟩ := HCC.out w3 G3.out))
      have HN := Lib.hid (HST.out (of_decide_eq_true hfb).fp)
      go_roundw
      case rel => exact ⟨k + 1, HLT.out, by go_num, Lib.hid ⟨HN.out, G3.out⟩⟩
      case measure => have := HLT.out; simp [intOf]; omega
    · obtain rfl : k = xs.length := by omega
      have HALL := Lib.hid (show ∀ x ∈ xs, FP x by have := HP.out.1; rwa [List.take_length] at this)
      have HB := Lib.hid HP.out.2
      have KT := Lib.hid (fun w9 (hS : Below w.heap.size w w9) => (HTK.out w9 hS).mono fun e w' (h : _ ∧ _) => (⟨h.1, below_add hS h.2 hS.size⟩ : _ ∧ Below w.heap.size w w'))
      have KM := Lib.hid (fun w9 (hS : Below w.heap.size w w9) => (HMK.out w9 hS).mono fun e w' (h : _ ∧ _) => (⟨h.1, below_add hS h.2 hS.size⟩ : _ ∧ Below w.heap.size w w'))
      clear HP HFM HTK HMK
      generalize xs.foldl takeZ 0 = nt at *
      generalize xs.foldl makeZ 0 = nm at *
      by_cases ht : 536870912 < nt
      · have qt : decide (536870912 < nt) = true := decide_eq_true ht
        clear ht
        go_wp2_with (first
          | (go_at_call 39; (with_reducible refine (KT.out _ HB.out).mono ?_); rintro e w1 ⟨rfl, hb⟩; have G1 := Lib.hid hb; clear hb))
        go_ret
        exact ⟨MyP.no xs (by decide), G1.out⟩
      have qt : decide (536870912 < nt) = false := decide_eq_false ht
      clear ht
      by_cases hm : 536870912 < nm
      · have qm : decide (536870912 < nm) = true := decide_eq_true hm
        clear hm
        go_wp2_with (first
          | (go_at_call 39; (with_reducible refine (KT.out _ HB.out).mono ?_); rintro e w1 ⟨rfl, hb⟩; have G1 := Lib.hid hb; clear hb)
          | (go_at_call 40; (with_reducible refine (KM.out _ G1.out).mono ?_); rintro e w2 ⟨rfl, hb⟩; have G2 := Lib.hid hb; clear hb))
        go_ret
        exact ⟨MyP.no xs (by decide), G2.out⟩
      have qm : decide (536870912 < nm) = false := decide_eq_false hm
      clear hm
      go_wp2_with (first
        | (go_at_call 39; (with_reducible refine (KT.out _ HB.out).mono ?_); rintro e w1 ⟨rfl, hb⟩; have G1 := Lib.hid hb; clear hb)
        | (go_at_call 40; (with_reducible refine (KM.out _ G1.out).mono ?_); rintro e w2 ⟨rfl, hb⟩; have G2 := Lib.hid hb; clear hb))
      go_loopw [6] (fun i wr => ∃ k : Nat, k ≤ xs.length ∧ i = .int .i64 k ∧ Hid (Below w.heap.size w wr)) (fun i _ => xs.length - (intOf i).toNat)
      case atStart => exact ⟨0, Nat.zero_le _, rfl, G2⟩
      case round =>
        clear HB G1 G2
        obtain ⟨k, hk, rfl, HB⟩ := hrel
        by_cases hlt : k < xs.length
        · obtain ⟨b1, o1, rfl, -, -, -, hbl, hat⟩ := HAT.out (by omega)
          have HCC := Lib.hid (fun W (hb : Below w.heap.size w W) => (hat k hlt).below hb)
          have H5 := Lib.hid (HM5.out _ (List.getElem_mem hlt))
          have H6 := Lib.hid (HM6.out _ (List.getElem_mem hlt))
          have HLT := Lib.hid hlt
          clear hat HAT HM5 HM6
          generalize xs[k] = z at *
          generalize may5 ks z.st = e5 at *
          generalize may6 ks z.pt = e6 at *
          have K5 := Lib.hid (fun w9 (hS : Below w.heap.size w w9) => (H5.out w9 hS).mono fun e w' (h : _ ∧ _) => (⟨h.1, below_add hS h.2 hS.size⟩ : _ ∧ Below w.heap.size w w'))
          have K6 := Lib.hid (fun w9 (hS : Below w.heap.size w w9) => (H6.out w9 hS).mono fun e w' (h : _ ∧ _) => (⟨h.1, below_add hS h.2 hS.size⟩ : _ ∧ Below w.heap.size w w'))
          clear H5 H6
          by_cases h5 : e5 = 0
          rotate_left
          · have q5 : (e5 != 0) = true := by simpa using h5
            clear h5
            obtain ⟨c0, c1, c2, c3, c4⟩ := HCC.out wr HB.out
            go_wp2_with (first
              | (go_at_call 37; (with_reducible refine (K5.out _ HB.out).mono ?_); rintro e w1 ⟨rfl, hb⟩; have G1 := Lib.hid hb; clear hb ; obtain ⟨c0, c1, c2, c3, c4⟩ := HCC.out w1 G1.out))
            go_ret
            exact ⟨MyP.no xs (by decide), G1.out⟩
          have q5 : (e5 != 0) = false := by simpa using h5
          clear h5
          by_cases h6 : e6 = 0
          rotate_left
          · have q6 : (e6 != 0) = true := by simpa using h6
            clear h6
            obtain ⟨c0, c1, c2, c3, c4⟩ := HCC.out wr HB.out
            go_wp2_with (first
              | (go_at_call 37; (with_reducible refine (K5.out _ HB.out).mono ?_); rintro e w1 ⟨rfl, hb⟩; have G1 := Lib.hid hb; clear hb ; obtain ⟨c0, c1, c2, c3, c4⟩ := HCC.out w1 G1.out)
              | (go_at_call 38; (with_reducible refine (K6.out _ G1.out).mono ?_); rintro e w2 ⟨rfl, hb⟩; have G2 := Lib.hid hb; clear hb ; obtain ⟨c0, c1, c2, c3, c4⟩ := HCC.out w2 G2.out))
            go_ret
            exact ⟨MyP.no xs (by decide), G2.out⟩
          have q6 : (e6 != 0) = false := by simpa using h6
          clear h6
          obtain ⟨c0, c1, c2, c3, c4⟩ := HCC.out wr HB.out
          go_wp2_with (first
            | (go_at_call 37; (with_reducible refine (K5.out _ HB.out).mono ?_); rintro e w1 ⟨rfl, hb⟩; have G1 := Lib.hid hb; clear hb ; obtain ⟨c0, c1, c2, c3, c4⟩ := HCC.out w1 G1.out)
            | (go_at_call 38; (with_reducible refine (K6.out _ G1.out).mono ?_); rintro e w2 ⟨rfl, hb⟩; have G2 := Lib.hid hb; clear hb ; obtain ⟨c0, c1, c2, c3, c4⟩ := HCC.out w2 G2.out))
          go_roundw
          case rel => exact ⟨k + 1, HLT.out, by go_num, G2⟩
          case measure => have := HLT.out; simp [intOf]; omega
        · obtain rfl : k = xs.length := by omega
          go_wp2
          go_ret
          exact ⟨⟨0, rfl, fun _ => HALL.out⟩, HB.out⟩
end Go.Proofs.Ytnggnfhaokkcmaa
