
import Derived.Test.YtoienmcgcefdiaaS9
import Derived.BigQuiet
import Derived.Deep.QuietTactic
/- S14: the reference's Keys -/
namespace Go.Proofs.Ytoienmcgcefdiaa
open Go.RowKit
set_option linter.unusedVariables false

theorem rto_step (ks : List Key) {k : Nat} (h : 1 ≤ k) : risingTo ks k = risingTo ks (k - 1) ++ (fnd ks (k : Int)).toList := by
  obtain ⟨n, rfl⟩ : ∃ n, k = n + 1 := ⟨k - 1, by omega⟩
  rw [risingTo_succ]
  rfl
theorem rto_len (ks : List Key) (n : Nat) : (risingTo ks n).length ≤ n := by
  unfold risingTo
  have := List.length_filterMap_le (fun i : Nat => fnd ks ((i : Int) + 1)) (List.range n)
  simpa using this
def RKeysRel (w : World) (ks : List Key) (k : Nat) (v : Value) (wr : World) : Prop :=
  wr.ownsRow w.heap.size 32 6 v (risingTo ks (k - 1)).length (flat (risingTo ks (k - 1))) ∧ Below w.heap.size w wr
theorem rkeys_init (w : World) (ks : List Key) : RKeysRel w ks 1 (.slice none 0 0) w := ⟨⟨by simp [risingTo_zero, flat_nil], .inl ⟨rfl, rfl⟩⟩, Below.refl _ _⟩
theorem rkeys_skip {w wr wx : World} {ks : List Key} {k : Nat} {v : Value} (h : RKeysRel w ks k v wr) (h1 : 1 ≤ k) (hf : fnd ks (k : Int) = none) (hb : Below wr.heap.size wr wx) : RKeysRel w ks (k + 1) v wx := by
  obtain ⟨h2, h3⟩ := h
  unfold RKeysRel
  rw [Nat.add_sub_cancel, rto_step ks h1, hf]
  simp only [Option.toList_none, List.append_nil]
  exact ⟨owns_below h2 hb, below_add h3 hb h3.size⟩
theorem rkeys_take {w wr wx w3 : World} {ks : List Key} {k : Nat} {v v3 : Value} {c : Key} (h : RKeysRel w ks k v wr) (h1 : 1 ≤ k) (hf : fnd ks (k : Int) = some c) (hb : Below wr.heap.size wr wx)
    (hown : w3.ownsRow w.heap.size 32 6 v3 ((risingTo ks (k - 1)).length + 1) (flat (risingTo ks (k - 1)) ++ kc c)) (hg : wx.grownBy w3 v.ownBlock) : RKeysRel w ks (k + 1) v3 w3 := by
  obtain ⟨h2, h3⟩ := h
  unfold RKeysRel
  rw [Nat.add_sub_cancel, rto_step ks h1, hf]
  simp only [Option.toList_some, List.length_append, List.length_singleton, flat_app, flat_one]
  exact ⟨hown, (below_add h3 hb h3.size).grown hg (Nat.le_trans h3.size hb.size) (fun j hj => (h2.lt j hj).1)⟩
theorem rkeys_end {w wr : World} {ks : List Key} {v : Value} (h : RKeysRel w ks 1001 v wr) : KeysPost ks w (.returned v) wr := ⟨v, rfl, h.1, h.2⟩

set_option maxRecDepth 100000 in
set_option maxHeartbeats 1000000 in
theorem rkeys_any (v : Value) (ks : List Key) (w : World) (hv : Krow w v ks) :
    Calls Try.prog 11 #[v] w (KeysPost ks w) := by
  obtain ⟨i0, hi, hz0, hz1, hz2⟩ := info_parts infoKey
  have HV := Lib.hid hv
  clear hv
  go_enter Try.func11, Try.ntmps11
  go_wp2
  go_loopw [3, 4] (fun o i wr => ∃ k : Nat, 1 ≤ k ∧ k ≤ 1001 ∧ i = .int .i64 k ∧ RKeysRel w ks k o wr) (fun _ i _ => 1001 - (intOf i).toNat)
  case atStart => exact ⟨1, by omega, by omega, rfl, rkeys_init w ks⟩
  case round =>
    obtain ⟨k, hk1, hk, rfl, hR⟩ := hrel
    by_cases hlt : k ≤ 1000
    · have HF := rfind_any v ks k wr (HV.out.below hR.2 (Nat.le_refl _))
      have hown := hR.1
      have hbs := hR.2.size
      have hrl := rto_len ks (k - 1)
      have hsk := fun wx hf hb => rkeys_skip (wx := wx) hR hk1 hf hb
      have htk := fun wx w3 v3 c hf hb h1 h2 => rkeys_take (wx := wx) (w3 := w3) (v3 := v3) (c := c) hR hk1 hf hb h1 h2
      clear hR
      generalize risingTo ks (k - 1) = rs at *
      cases hf : fnd ks (k : Int) with
      | none =>
        rw [fndV_none hf] at HF
        have HF := Lib.hid HF
        have HSK := Lib.hid (fun wx hb => hsk wx hf hb)
        clear hsk htk hf
        go_wp2_with (go_at_call 14; ((with_reducible refine HF.out.mono ?_); rintro e w1 ⟨rfl, hb1⟩))
        go_roundw
        case rel => exact ⟨k + 1, by omega, by omega, by go_num, HSK.out _ (hb1.alloc hb1.size _)⟩
        case measure => simp [intOf]; omega
      | some c =>
        rw [fndV_some hf] at HF
        have HF := Lib.hid HF
        have HTK := Lib.hid (fun wx w3 v3 hb h1 h2 => htk wx w3 v3 c hf hb h1 h2)
        clear hsk htk hf
        obtain ⟨c1, c2, c3, c4, c5, c6⟩ := c
        go_wp2_with (first
          | (go_at_call 14; ((with_reducible refine HF.out.mono ?_); rintro e w1 ⟨rfl, hb1⟩; have hown1 := owns_below hown hb1; have hbs1 := hb1.size))
          | (at_builtin; refine wpList_append_own _ rfl (.tmp 18) (.tmp 20) 22 rfl w.heap.size 32 i0 (kv noKey) 6 24 Try.underlying22 hi hz0 hz1 hz2 rfl (by decide) u3 rs.length (flat rs) rfl ((hown1.alloc _).alloc _) ⟨w1.heap.size + 1, 0, none⟩ 1 1 (kc ⟨c1, c2, c3, c4, c5, c6⟩) rfl rfl (kcell_new1 w1 _ ⟨c1, c2, c3, c4, c5, c6⟩ 32) (kc_one _) (by unfold maxLen; omega) (by omega) (by simp; omega) ?_; intro v3 w3 hown3 hgrow3 hnil3))
        go_roundw
        case rel => exact ⟨k + 1, by omega, by omega, by go_num, HTK.out _ w3 v3 (hb1.trans ((kbelow_two w1 _ _).mono hbs1)) hown3 hgrow3⟩
        case measure => simp [intOf]; omega
    · obtain rfl : k = 1001 := by omega
      have HR := Lib.hid hR
      clear hR
      go_wp2
      go_ret
      exact rkeys_end HR.out
end Go.Proofs.Ytoienmcgcefdiaa
