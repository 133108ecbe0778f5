
import Derived.Test.YtnggnfhaokkcmaaN24
/- N25: NormalShort -/
namespace Go.Proofs.Ytnggnfhaokkcmaa
open Go.RowKit
set_option linter.unusedVariables false
set_option maxRecDepth 100000

theorem sr_step {zs : List Oz} {k : Nat} (hk : k < zs.length) {t : Int} (h : t = (sumR ((zs.take k).map Oz.o) : Nat)) (hb : sumR (zs.map Oz.o) ≤ 1048576) : wrap64 (t + (zs[k].rs.length : Int)) = (sumR ((zs.take (k + 1)).map Oz.o) : Nat) := by
  have e : sumR ((zs.take (k + 1)).map Oz.o) = sumR ((zs.take k).map Oz.o) + zs[k].rs.length := by
    rw [List.take_succ_eq_append_getElem hk, List.map_append, sumR_app]; simp [sumR, Oz.o]
  have e2 : sumR (zs.map Oz.o) = sumR ((zs.take (k + 1)).map Oz.o) + sumR ((zs.drop (k + 1)).map Oz.o) := by
    rw [← sumR_app, ← List.map_append, List.take_append_drop]
  rw [show wrap64 (t + (zs[k].rs.length : Int)) = IntKind.i64.wrap (t + (zs[k].rs.length : Int)) from (Go.IntWalk.i64_left _).symm, IntKind.wrap_i64, e]
  omega
theorem gone_nn2 {l : List Oz} (h : ∀ o ∈ l.map Oz.o, Tm o) : 0 ≤ goneO (l.map Oz.o) := gone_nn h
theorem gone_step {zs : List Oz} {k : Nat} (hk : k < zs.length) {t : Int} (h : t = goneO ((zs.take k).map Oz.o)) (ht : ∀ o ∈ zs.map Oz.o, Tm o) (hb : goneO (zs.map Oz.o) ≤ 1125899906842624) : (zs[k].k = 3 → wrap64 (t + zs[k].n) = goneO ((zs.take (k + 1)).map Oz.o)) ∧ (¬ zs[k].k = 3 → t = goneO ((zs.take (k + 1)).map Oz.o)) := by
  have e : goneO ((zs.take (k + 1)).map Oz.o) = goneO ((zs.take k).map Oz.o) + if zs[k].k = 3 then zs[k].n else 0 := by
    rw [List.take_succ_eq_append_getElem hk, List.map_append, goneO_app, List.map_singleton, goneO_one]; rfl
  have e2 : goneO (zs.map Oz.o) = goneO ((zs.take (k + 1)).map Oz.o) + goneO ((zs.drop (k + 1)).map Oz.o) := by
    rw [← goneO_app, ← List.map_append, List.take_append_drop]
  have n1 : 0 ≤ goneO ((zs.drop (k + 1)).map Oz.o) := gone_nn2 (fun o ho => ht o (by obtain ⟨x, hx, rfl⟩ := List.mem_map.1 ho; exact List.mem_map_of_mem (List.mem_of_mem_drop hx)))
  have n2 : 0 ≤ goneO ((zs.take k).map Oz.o) := gone_nn2 (fun o ho => ht o (by obtain ⟨x, hx, rfl⟩ := List.mem_map.1 ho; exact List.mem_map_of_mem (List.mem_of_mem_take hx)))
  have n3 : 0 ≤ goneO ((zs.take (k + 1)).map Oz.o) := gone_nn2 (fun o ho => ht o (by obtain ⟨x, hx, rfl⟩ := List.mem_map.1 ho; exact List.mem_map_of_mem (List.mem_of_mem_take hx)))
  refine ⟨fun h3 => ?_, fun h3 => ?_⟩
  · rw [if_pos h3] at e
    rw [show wrap64 (t + zs[k].n) = IntKind.i64.wrap (t + zs[k].n) from (Go.IntWalk.i64_left _).symm, IntKind.wrap_i64]
    omega
  · rw [if_neg h3] at e
    omega
theorem gone_sumN : ∀ {l : List Opn}, (∀ o ∈ l, Tm o) → goneO l ≤ sumN l
  | [], _ => by simp [goneO, sumN]
  | x :: r, h => by
    have h1 := gone_sumN (fun o ho => h o (List.mem_cons_of_mem _ ho))
    have h2 := (h x (List.mem_cons_self ..)).nn
    rw [goneO_cons, sumN_cons]
    split <;> omega

theorem is_h {u : Value} {zs ys : List Oz} {w : World} (hx : Orow w u zs) (ht : Tame zs) (he : ys.map Oz.o = formO (zs.map Oz.o)) :
    Calls Try.prog 12 #[u] w fun e w' => e = .returned (.bool (decide (ys.map Oz.o = zs.map Oz.o))) ∧ Below w.heap.size w w' := by
  refine (is_any u zs w hx).mono fun e w' ⟨⟨b, h1, h2⟩, hB⟩ => ⟨?_, hB⟩
  have : b = decide (ys.map Oz.o = zs.map Oz.o) := by
    rw [normal_iff ht.tm, ← he] at h2
    by_cases h : ys.map Oz.o = zs.map Oz.o
    · rw [decide_eq_true h]; exact h2.2 h
    · rw [decide_eq_false h]; cases b
      · rfl
      · exact absurd (h2.1 rfl) h
  rw [h1, this]

set_option maxHeartbeats 4000000 in
theorem short_walk (b0 : Option Addr) (len0 cap0 : Nat) (ks : List Key) (b1 : Option Addr) (len1 cap1 : Nat) (zs : List Oz) (w : World) (hk : Krow w (.slice b0 len0 cap0) ks) (hx : Orow w (.slice b1 len1 cap1) zs) (hW : ∀ z ∈ zs, OpW z) (hz : totO zs ≤ 1048576) :
    Calls Try.prog 7 #[.slice b0 len0 cap0, .slice b1 len1 cap1] w fun e w' => e = .returned (.bool true) ∧ Below w.heap.size w w' := by
  have HT := Lib.hid (tame_h hk hx hW hz)
  have HL := Lib.hid (law_in hW hz)
  have HO := Lib.hid (fun (ht : Tame zs) W (hb : Below w.heap.size w W) => of_h (hx.below hb) HL.out.i ht)
  have HK := Lib.hid (fun W => known16_any W)
  have HX := Lib.hid (fun W (hb : Below w.heap.size w W) => hx.below hb)
  obtain ⟨b1', cap1', e1⟩ := hx.shape
  injection e1 with e1 e2 e3
  subst e1 e2 e3
  clear hk hx hW hz
  go_enter Try.func7, Try.ntmps7
  go_wp2_with fail
  go_at_call 8
  refine HT.out.mono ?_
  rintro e w1 ⟨⟨b, rfl, hb⟩, hB⟩
  have HB1 := Lib.hid hB
  cases b
  · clear hb hB HT HO
    go_wp2_with (go_at_call 13; (with_reducible refine (HK.out _).mono ?_); rintro e w99 ⟨rfl, hb⟩; have HB99 := Lib.hid (below_add HB1.out hb HB1.out.size); clear hb)
    go_ret
    exact ⟨rfl, HB99.out⟩
  have ht := tame_yes (hb rfl) HL.out.len
  have HTM := Lib.hid ht
  have HO1 := Lib.hid (HO.out ht w1 hB)
  clear hb hB HT HO ht
  go_wp2_with (go_at_call 10; (with_reducible refine HO1.out.mono ?_); rintro e w2 ⟨a, c, ys, rfl, ht, ho, hb⟩; have HB2 := Lib.hid (below_add HB1.out hb HB1.out.size); have HTD := Lib.hid ht; have HOW := Lib.hid ho; clear ht ho hb)
  have HKP := Lib.hid (show Kept (zs.map Oz.o) (ys.map Oz.o) by have := HTM.out.n; rw [HTD.out.e]; exact form_kept HTM.out.tm (by omega))
  have LA := Lib.hid (show sumR (zs.map Oz.o) ≤ 1048576 ∧ (∀ o ∈ zs.map Oz.o, Tm o) ∧ goneO (zs.map Oz.o) ≤ 1125899906842624 from ⟨HL.out.rs, HTM.out.tm, by have := HTM.out.n; have := gone_sumN HTM.out.tm; omega⟩)
  have LB := Lib.hid (show sumR (ys.map Oz.o) ≤ 1048576 ∧ (∀ o ∈ ys.map Oz.o, Tm o) ∧ goneO (ys.map Oz.o) ≤ 1125899906842624 from ⟨by rw [HKP.out.rs]; exact LA.out.1, fun o ho => by (obtain ⟨y, hy, rfl⟩ := List.mem_map.1 ho; exact HTD.out.tm y hy), by rw [HKP.out.gone]; exact LA.out.2.2⟩)
  have HAT1 := Lib.hid (fun (h0 : 0 < zs.length) => (HX.out _ HB2.out).row.ats h0)
  have hl1 := HL.out.len
  have hl2 := HTD.out.i.len
  go_loopw [6, 7, 21] (fun s1 s2 i wr => ∃ (k : Nat) (t g : Int), k ≤ zs.length ∧ s1 = .int .i64 t ∧ s2 = .int .i64 g ∧ i = .int .i64 k ∧ Hid (Below w2.heap.size w2 wr ∧ t = (sumR ((zs.take k).map Oz.o) : Nat) ∧ g = goneO ((zs.take k).map Oz.o))) (fun _ _ i _ => zs.length - (intOf i).toNat)
  case atStart => exact ⟨0, 0, 0, Nat.zero_le _, rfl, rfl, rfl, Lib.hid ⟨Below.refl _ _, rfl, rfl⟩⟩
  case round =>
    obtain ⟨k, t, g, hk, rfl, rfl, rfl, HP⟩ := hrel
    have HR := Lib.hid HP.out.1
    by_cases hlt : k < zs.length
    · obtain ⟨g1, o1, rfl, -, -, -, hbl, hat⟩ := HAT1.out (by omega)
      have HLT := Lib.hid hlt
      have HS := Lib.hid (sr_step hlt HP.out.2.1 LA.out.1)
      have HG := Lib.hid (gone_step hlt HP.out.2.2 LA.out.2.1 LA.out.2.2)
      obtain ⟨c0, c1, c2, c3, c4⟩ := (hat k hlt).below HR.out
      clear hat HP HAT1
      generalize zs[k] = z at *
      by_cases h3 : z.k = 3
      · have q1 : (z.k == 3) = true := by simpa using h3
        have HG1 := Lib.hid (HG.out.1 h3)
        clear h3 HG
        go_wp2
        go_roundw
        case rel => exact ⟨k + 1, _, _, HLT.out, rfl, rfl, by go_num, Lib.hid ⟨HR.out, HS.out, HG1.out⟩⟩
        case measure => have := HLT.out; simp [intOf]; omega
      · have q1 : (z.k == 3) = false := by simpa using h3
        have HG1 := Lib.hid (HG.out.2 h3)
        clear h3 HG
        go_wp2
        go_roundw
        case rel => exact ⟨k + 1, _, _, HLT.out, rfl, rfl, by go_num, Lib.hid ⟨HR.out, HS.out, HG1.out⟩⟩
        case measure => have := HLT.out; simp [intOf]; omega
    · obtain rfl : k = zs.length := by omega
      have HE := Lib.hid (And.intro HP.out.2.1 HP.out.2.2)
      rw [List.take_length] at HE
      obtain ⟨rfl, rfl⟩ := HE.out
      clear HE HP hk hlt
      have hW2 : ∃ x : World, x = wr := ⟨_, rfl⟩
      obtain ⟨W2, hW2⟩ := hW2
      subst hW2
      have HR1 := HR
      have HAT2 := Lib.hid (fun (h0 : 0 < ys.length) => (HOW.out.orow.below HR1.out).row.ats h0)
      clear HR
      go_wp2
      go_loopw [8, 9, 48] (fun s1 s2 i wr => ∃ (k : Nat) (t g : Int), k ≤ ys.length ∧ s1 = .int .i64 t ∧ s2 = .int .i64 g ∧ i = .int .i64 k ∧ Hid (Below W2.heap.size W2 wr ∧ t = (sumR ((ys.take k).map Oz.o) : Nat) ∧ g = goneO ((ys.take k).map Oz.o))) (fun _ _ i _ => ys.length - (intOf i).toNat)
      case atStart => exact ⟨0, 0, 0, Nat.zero_le _, rfl, rfl, rfl, Lib.hid ⟨Below.refl _ _, rfl, rfl⟩⟩
      case round =>
        obtain ⟨k, t, g, hk, rfl, rfl, rfl, HP⟩ := hrel
        have HR := Lib.hid HP.out.1
        by_cases hlt : k < ys.length
        · obtain ⟨g1, o1, rfl, -, -, -, hbl, hat⟩ := HAT2.out (by omega)
          have HLT := Lib.hid hlt
          have HS := Lib.hid (sr_step hlt HP.out.2.1 LB.out.1)
          have HG := Lib.hid (gone_step hlt HP.out.2.2 LB.out.2.1 LB.out.2.2)
          obtain ⟨c0, c1, c2, c3, c4⟩ := (hat k hlt).below HR.out
          clear hat HP HAT2
          generalize ys[k] = z at *
          by_cases h3 : z.k = 3
          · have q1 : (z.k == 3) = true := by simpa using h3
            have HG1 := Lib.hid (HG.out.1 h3)
            clear h3 HG
            go_wp2
            go_roundw
            case rel => exact ⟨k + 1, _, _, HLT.out, rfl, rfl, by go_num, Lib.hid ⟨HR.out, HS.out, HG1.out⟩⟩
            case measure => have := HLT.out; simp [intOf]; omega
          · have q1 : (z.k == 3) = false := by simpa using h3
            have HG1 := Lib.hid (HG.out.2 h3)
            clear h3 HG
            go_wp2
            go_roundw
            case rel => exact ⟨k + 1, _, _, HLT.out, rfl, rfl, by go_num, Lib.hid ⟨HR.out, HS.out, HG1.out⟩⟩
            case measure => have := HLT.out; simp [intOf]; omega
        · obtain rfl : k = ys.length := by omega
          have HE := Lib.hid (And.intro HP.out.2.1 HP.out.2.2)
          rw [List.take_length] at HE
          obtain ⟨rfl, rfl⟩ := HE.out
          clear HE HP hk hlt
          have HB3 := Lib.hid (below_add (below_add HB2.out HR1.out HB2.out.size) HR.out (below_add HB2.out HR1.out HB2.out.size).size)
          have HSR := Lib.hid HKP.out.rs
          have q1 : ((sumR (zs.map Oz.o) : Nat) : Int) = (sumR (ys.map Oz.o) : Nat) := by rw [HKP.out.rs]
          have q2 : goneO (zs.map Oz.o) = goneO (ys.map Oz.o) := HKP.out.gone.symm
          rw [q1, q2]
          have hle : ys.length ≤ zs.length := by have := HKP.out.len; simpa using this
          have HIS := Lib.hid (is_h (HX.out _ HB3.out) HTM.out HTD.out.e)
          have HSM := Lib.hid (fun W (hb : Below wr.heap.size wr W) => osame_any _ _ ys zs W (HOW.out.orow.below (below_add (below_add HR1.out HR.out HR1.out.size) hb (below_add HR1.out HR.out HR1.out.size).size)) (HX.out _ (below_add HB3.out hb HB3.out.size)))
          generalize decide (ys.map Oz.o = zs.map Oz.o) = bb at *
          clear HKP LA LB HSR HAT2
          go_wp2_with (first
            | (go_at_call 12; (with_reducible refine HIS.out.mono ?_); rintro e w3 ⟨rfl, hb⟩; have HB4 := Lib.hid (below_add HB3.out hb HB3.out.size); have HS := Lib.hid (HSM.out _ hb); clear hb)
            | (go_at_call 22; (with_reducible refine HS.out.mono ?_); rintro e w4 ⟨rfl, hb⟩; have HB5 := Lib.hid (below_add HB4.out hb HB4.out.size); clear hb)
            | (go_at_call 13; (with_reducible refine (HK.out _).mono ?_); rintro e w99 ⟨rfl, hb⟩; have HB99 := Lib.hid (below_add HB5.out hb HB5.out.size); clear hb))
          go_ret
          exact ⟨rfl, HB99.out⟩
end Go.Proofs.Ytnggnfhaokkcmaa
