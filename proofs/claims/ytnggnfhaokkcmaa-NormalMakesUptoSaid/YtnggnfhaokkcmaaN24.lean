
import Derived.Test.YtnggnfhaokkcmaaN23
/- N24: NormalTwice -/
namespace Go.Proofs.Ytnggnfhaokkcmaa
open Go.RowKit
set_option linter.unusedVariables false
set_option maxRecDepth 100000

theorem norm_mid {L : List Opn} (h : normal L) (ht : ∀ o ∈ L, Tm o) {k : Nat} (hk : k + 1 < L.length) (h3 : L[k].k = 3) : L[k + 1].k = 1 := by
  have hb : ¬ Bad L[k] L[k + 1] := fun hb => nr_bad hk hb h.1
  have t1 := ht _ (List.getElem_mem (show k < L.length by omega))
  have t2 := ht _ (List.getElem_mem hk)
  rcases t2.kind with h1 | h1 | h1
  · exact h1
  · exact absurd (.inr ⟨h3, h1⟩) hb
  · exact absurd (.inl (two_del t1 t2 h3 h1)) hb
/-- What Of told, as a law looks at it. -/
structure Told (zs ys : List Oz) : Prop where
  e : ys.map Oz.o = formO (zs.map Oz.o)
  tm : ∀ y ∈ ys, Tm y.o
  norm : normal (ys.map Oz.o)
  i : In ys
theorem told_of {zs ys : List Oz} (hi : In zs) (ht : Tame zs) (he : ys.map Oz.o = formO (zs.map Oz.o)) : Told zs ys := by
  refine ⟨he, fun y hy => ?_, by rw [he]; exact form_normal ht.tm, in_form hi he⟩
  have : y.o ∈ formO (zs.map Oz.o) := by rw [← he]; exact List.mem_map_of_mem hy
  exact form_tm ht.tm _ this
theorem Told.mid {zs ys : List Oz} (h : Told zs ys) {k : Nat} (hk : k + 1 < ys.length) (h3 : ys[k].k = 3) : ys[k + 1].k = 1 := by
  have := norm_mid h.norm (fun o ho => by obtain ⟨y, hy, rfl⟩ := List.mem_map.1 ho; exact h.tm y hy) (k := k) (by simpa using hk) (by simpa [Oz.o] using h3)
  simpa [Oz.o] using this
theorem Told.last {zs ys : List Oz} (h : Told zs ys) (h0 : 0 < ys.length) : ¬ (ys[ys.length - 1].k = 1 ∧ ys[ys.length - 1].pt.length = 0) := fun hh => by
  have : lastI ys = true := by
    have e : ys.getLast? = some ys[ys.length - 1] := by rw [List.getLast?_eq_getElem?]; exact List.getElem?_eq_getElem _
    simp [lastI, e, hh.1, hh.2]
  exact (lastI_ends ys).1 this h.norm.2
theorem of_h {u : Value} {zs : List Oz} {w : World} (hx : Orow w u zs) (hi : In zs) (ht : Tame zs) :
    Calls Try.prog 10 #[u] w fun e w' => ∃ a c ys, e = .returned (.slice a ys.length c) ∧ Told zs ys ∧ Oown (fun g => w.heap.size ≤ g) w' (.slice a ys.length c) ys ∧ Below w.heap.size w w' := by
  refine (of_any u zs w hx hi).mono fun e w' ⟨v, ys, he, hy, ho, hb⟩ => ?_
  obtain ⟨a, c, rfl, -, -⟩ := ho.shape
  exact ⟨a, c, ys, he, told_of hi ht hy, ho, hb⟩

theorem again_h {u : Value} {zs ys : List Oz} {w : World} (hx : Orow w u ys) (h : Told zs ys) :
    Calls Try.prog 10 #[u] w fun e w' => ∃ a c xs, e = .returned (.slice a xs.length c) ∧ xs.map Oz.o = ys.map Oz.o ∧ Orow w' (.slice a xs.length c) xs ∧ Below w.heap.size w w' := by
  refine (of_any u ys w hx h.i).mono fun e w' ⟨v, xs, he, hy, ho, hb⟩ => ?_
  obtain ⟨a, c, rfl, -, -⟩ := ho.shape
  refine ⟨a, c, xs, he, ?_, ho.orow, hb⟩
  rw [hy]
  exact form_id h.norm (fun o ho => by obtain ⟨y, hy, rfl⟩ := List.mem_map.1 ho; exact h.tm y hy)
theorem same_yes {u v : Value} {ys zs : List Oz} {w : World} (hu : Orow w u ys) (hv : Orow w v zs) (h : ys.map Oz.o = zs.map Oz.o) :
    Calls Try.prog 22 #[u, v] w fun e w' => e = .returned (.bool true) ∧ Below w.heap.size w w' := by
  have := osame_any u v ys zs w hu hv
  rwa [decide_eq_true h] at this

set_option maxHeartbeats 4000000 in
theorem twice_walk (b0 : Option Addr) (len0 cap0 : Nat) (ks : List Key) (b1 : Option Addr) (len1 cap1 : Nat) (zs : List Oz) (w : World) (hk : Krow w (.slice b0 len0 cap0) ks) (hx : Orow w (.slice b1 len1 cap1) zs) (hW : ∀ z ∈ zs, OpW z) (hz : totO zs ≤ 1048576) :
    Calls Try.prog 5 #[.slice b0 len0 cap0, .slice b1 len1 cap1] w fun e w' => e = .returned (.bool true) ∧ Below w.heap.size w w' := by
  have HT := Lib.hid (tame_h hk hx hW hz)
  have HL := Lib.hid (law_in hW hz)
  have HO := Lib.hid (fun (ht : Tame zs) W (hb : Below w.heap.size w W) => of_h (hx.below hb) HL.out.i ht)
  have HK := Lib.hid (fun W => known16_any W)
  clear hk hx hW hz
  go_enter Try.func5, Try.ntmps5
  go_wp2_with fail
  go_at_call 8
  refine HT.out.mono ?_
  rintro e w1 ⟨⟨b, rfl, hb⟩, hB⟩
  have HB1 := Lib.hid hB
  cases b
  · clear hb hB HT HO
    go_wp2_with (go_at_call 13; (with_reducible refine (HK.out _).mono ?_); rintro e w99 ⟨rfl, hb⟩; have HB99 := Lib.hid (below_add HB1.out hb HB1.out.size); clear hb)
    go_ret
    exact ⟨rfl, HB99.out⟩
  have ht := tame_yes (hb rfl) HL.out.len
  have HO1 := Lib.hid (HO.out ht w1 hB)
  clear hb hB HT HO ht
  go_wp2_with (go_at_call 10; (with_reducible refine HO1.out.mono ?_); rintro e w2 ⟨a, c, ys, rfl, ht, ho, hb⟩; have HB2 := Lib.hid (below_add HB1.out hb HB1.out.size); have HTD := Lib.hid ht; have HOW := Lib.hid ho; clear ht ho hb)
  have HAT := Lib.hid (fun (h0 : 0 < ys.length) => HOW.out.orow.row.ats h0)
  have hl := HTD.out.i.len
  have HW := Lib.hid (Below.refl w2.heap.size w2)
  go_loopw [17] (fun i wr => ∃ k : Nat, k ≤ ys.length ∧ i = .int .i64 k ∧ Hid (Below w2.heap.size w2 wr)) (fun i _ => ys.length - (intOf i).toNat)
  case atStart => exact ⟨0, Nat.zero_le _, rfl, HW⟩
  case round =>
    obtain ⟨k, hk, rfl, HR⟩ := hrel
    by_cases hlt : k < ys.length
    · obtain ⟨g1, o1, rfl, -, -, -, hbl, hat⟩ := HAT.out (by omega)
      have HLT := Lib.hid hlt
      cases k with
      | zero =>
        clear hat
        go_wp2
        go_roundw
        case rel => exact ⟨1, HLT.out, by go_num, HR⟩
        case measure => have := HLT.out; simp [intOf]; omega
      | succ j =>
        have HMD := Lib.hid (HTD.out.mid hlt)
        obtain ⟨c0, c1, c2, c3, c4⟩ := (hat j (by omega)).below HR.out
        obtain ⟨d0, d1, d2, d3, d4⟩ := (hat (j + 1) hlt).below HR.out
        clear hat
        generalize ys[j] = y at *
        generalize ys[j + 1] = z at *
        by_cases h3 : y.k = 3
        · have q1 : (y.k == 3) = true := by simpa using h3
          have h1 := HMD.out h3
          have q2 : (z.k != 1) = false := by simpa using h1
          have q3 : (z.k == 3) = false := by simp [h1]
          have q4 : (z.k == 1) = true := by simpa using h1
          clear h3 h1
          go_wp2
          go_roundw
          case rel => exact ⟨j + 1 + 1, HLT.out, by go_num, HR⟩
          case measure => have := HLT.out; simp [intOf]; omega
        · have q1 : (y.k == 3) = false := by simpa using h3
          clear h3
          go_wp2
          go_roundw
          case rel => exact ⟨j + 1 + 1, HLT.out, by go_num, HR⟩
          case measure => have := HLT.out; simp [intOf]; omega
    · obtain rfl : k = ys.length := by omega
      have HBR := Lib.hid (below_add HB2.out HR.out HB2.out.size)
      have HYS := Lib.hid (fun W (hb : Below w2.heap.size w2 W) => HOW.out.orow.below hb)
      have HAG := Lib.hid (fun W (hb : Below w2.heap.size w2 W) => again_h (HOW.out.orow.below hb) HTD.out)
      have HLS := Lib.hid (fun h0 => HTD.out.last h0)
      clear hk hlt
      by_cases h0 : 0 < ys.length
      · obtain ⟨g1, o1, rfl, -, -, -, hbl, hat⟩ := HAT.out h0
        have c := (hat (ys.length - 1) (by omega)).below HR.out
        have hls := HLS.out h0
        generalize ys[ys.length - 1] = z at *
        clear hat HLS HAT
        obtain ⟨n, hn⟩ : ∃ n, ys.length = n + 1 := ⟨ys.length - 1, by omega⟩
        rw [hn] at c HYS HAG hl
        rw [Nat.add_sub_cancel] at c
        rw [hn]
        clear hn h0
        obtain ⟨c0, c1, c2, c3, c4⟩ := c
        by_cases h1 : z.k = 1
        · have q1 : (z.k == 1) = true := by simpa using h1
          have q2 : ((z.pt.length : Int) == 0) = false := by simp; intro h; exact hls ⟨h1, by rw [h]; rfl⟩
          clear h1 hls
          go_wp2_with (first
            | (go_at_call 10; (with_reducible refine (HAG.out _ HR.out).mono ?_); rintro e w3 ⟨a3, c3, xs3, rfl, he3, ho3, hb⟩; have HB3 := Lib.hid (below_add HBR.out hb HBR.out.size); have HS := Lib.hid (same_yes ho3 (HYS.out _ (below_add HR.out hb HR.out.size)) he3); clear he3 ho3 hb)
            | (go_at_call 22; (with_reducible refine HS.out.mono ?_); rintro e w4 ⟨rfl, hb⟩; have HB4 := Lib.hid (below_add HB3.out hb HB3.out.size); clear hb)
            | (go_at_call 13; (with_reducible refine (HK.out _).mono ?_); rintro e w99 ⟨rfl, hb⟩; have HB99 := Lib.hid (below_add HB4.out hb HB4.out.size); clear hb))
          go_ret
          exact ⟨rfl, HB99.out⟩
        · have q1 : (z.k == 1) = false := by simpa using h1
          clear h1 hls
          go_wp2_with (first
            | (go_at_call 10; (with_reducible refine (HAG.out _ HR.out).mono ?_); rintro e w3 ⟨a3, c3, xs3, rfl, he3, ho3, hb⟩; have HB3 := Lib.hid (below_add HBR.out hb HBR.out.size); have HS := Lib.hid (same_yes ho3 (HYS.out _ (below_add HR.out hb HR.out.size)) he3); clear he3 ho3 hb)
            | (go_at_call 22; (with_reducible refine HS.out.mono ?_); rintro e w4 ⟨rfl, hb⟩; have HB4 := Lib.hid (below_add HB3.out hb HB3.out.size); clear hb)
            | (go_at_call 13; (with_reducible refine (HK.out _).mono ?_); rintro e w99 ⟨rfl, hb⟩; have HB99 := Lib.hid (below_add HB4.out hb HB4.out.size); clear hb))
          go_ret
          exact ⟨rfl, HB99.out⟩
      · obtain h0 : ys.length = 0 := by omega
        rw [h0] at HYS HAG
        rw [h0]
        clear h0 HLS HAT
        go_wp2_with (first
          | (go_at_call 10; (with_reducible refine (HAG.out _ HR.out).mono ?_); rintro e w3 ⟨a3, c3, xs3, rfl, he3, ho3, hb⟩; have HB3 := Lib.hid (below_add HBR.out hb HBR.out.size); have HS := Lib.hid (same_yes ho3 (HYS.out _ (below_add HR.out hb HR.out.size)) he3); clear he3 ho3 hb)
          | (go_at_call 22; (with_reducible refine HS.out.mono ?_); rintro e w4 ⟨rfl, hb⟩; have HB4 := Lib.hid (below_add HB3.out hb HB3.out.size); clear hb)
          | (go_at_call 13; (with_reducible refine (HK.out _).mono ?_); rintro e w99 ⟨rfl, hb⟩; have HB99 := Lib.hid (below_add HB4.out hb HB4.out.size); clear hb))
        go_ret
        exact ⟨rfl, HB99.out⟩
end Go.Proofs.Ytnggnfhaokkcmaa
