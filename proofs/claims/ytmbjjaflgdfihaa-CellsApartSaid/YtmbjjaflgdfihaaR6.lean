
import Derived.Test.YtmbjjaflgdfihaaR5
/- R6: cells.Delta -/
namespace Go.Proofs.Ytmbjjaflgdfihaa
open Go.RowKit
set_option linter.unusedVariables false
set_option maxRecDepth 100000

theorem map_last {zs : List Cz} {n : Nat} (h : zs.length = n + 1) : zs.map Cz.o = (zs.take n).map Cz.o ++ [zs[n].o] := by
  have := tsnoc (xs := zs) (k := n) (by omega)
  rw [← h, List.take_of_length_le (Nat.le_refl _)] at this
  conv => lhs; rw [this]
  rw [List.map_append, List.map_singleton]
theorem own_na6 {w w' : World} {a : Option Addr} {n c : Nat} {ls : List Chg} (h : Own6 w w' (.slice a n c) ls) {S : Nat → Prop} (hS : ∀ k, w.heap.size ≤ k → ¬ S k) : Na S a n := fun h0 x hx hh => by
  subst hx
  rcases h.2 with hn | ⟨g, cap, cur, hv, hb, -⟩
  · have := hn.1
    cases this
  · injection hv with h1
    injection h1 with h1
    subst h1
    exact hS _ hb hh
theorem told_small {ls : List Opn} (h : ∀ p ∈ ls, p.st.length ≤ 50331648 ∧ p.pt.length ≤ 50331648) {L : Nat} (hri : RI (tellR ls) L L) (hL : L ≤ 50331648) :
    ∀ o ∈ tellR ls, o.rs.length ≤ 50331648 ∧ o.st.length ≤ 50331648 ∧ o.pt.length ≤ 50331648 := fun o ho => by
  obtain ⟨p, hp, e1, e2⟩ := tell_like ls o ho
  have h1 := sumR_mem ho
  have h2 := hri.rs
  rw [e1, e2]
  exact ⟨by omega, h p hp⟩
set_option maxHeartbeats 2000000 in
theorem cdelta_any (u : Value) (zs : List Cz) (w : World) (hu : Drow w u zs) (hl : zs.length ≤ 50000000) (hs : ∀ z ∈ zs, z.s.length ≤ 50331648) :
    Calls Try.prog 10 #[u] w fun e w' => ∃ v ys, e = .returned v ∧ ys.map Oz.o = deltaC (zs.map Cz.o) ∧ Oown (fun g => w.heap.size ≤ g) w' v ys ∧ Below w.heap.size w w' := by
  obtain ⟨a1, cap1, rfl⟩ := hu.shape
  have hl2 := hu.len
  by_cases h0 : 0 < zs.length
  rotate_left
  · obtain rfl : zs = [] := List.length_eq_zero_iff.1 (by omega)
    clear hu hs hl
    go_enter Try.func10, Try.ntmps10
    go_wp2
    go_ret
    exact ⟨_, [], rfl, rfl, Oown.nil _ _, Below.refl _ _⟩
  obtain ⟨n, hn⟩ : ∃ n, zs.length = n + 1 := ⟨zs.length - 1, by omega⟩
  have hne : n < zs.length := by omega
  have HML := Lib.hid (map_last hn)
  obtain ⟨b1, o1, rfl, -, hcap, hm, hbl, hat⟩ := hu.ats h0
  have HAT := Lib.hid (hat n hne)
  have HAR := Lib.hid (hu.ok _ (List.getElem_mem hne))
  have HSL := Lib.hid (hs _ (List.getElem_mem hne))
  have hhd := hu.head (hi := n) (by omega)
  have hlt : (zs.take n).length = n := by rw [List.length_take]; omega
  have HIN := Lib.hid (inserting_any _ (zs.take n) w hhd (by omega) (fun z hz => hs z (List.mem_of_mem_take hz)))
  rw [hlt] at HIN
  have HSM := Lib.hid (show ∀ p ∈ (zs.take n).map Cz.o, p.s.length ≤ 50331648 from fun p hp => by
    obtain ⟨z, hz, rfl⟩ := List.mem_map.1 hp
    exact hs z (List.mem_of_mem_take hz))
  unfold maxLen at hm
  have e2 : IntKind.i64.wrap ((zs.length : Int) - 1) = (n : Int) := by rw [IntKind.wrap_i64]; omega
  have e5 : decide ((n : Int) < 0) = false := by simp
  have e6 : n ≤ cap1 := by omega
  have e4 : (n : Int) < (zs.length : Int) := by omega
  have HNL := Lib.hid (show n < 50000000 by omega)
  rw [HML.out]
  clear hat hu hs hhd hlt h0 HML
  generalize zs[n] = zl at *
  clear hn
  generalize (zs.take n).map Cz.o = ls at *
  obtain ⟨zr, za, zc, zz⟩ := zl
  simp only [CzAt] at *
  obtain ⟨c0, c1⟩ := HAT.out
  have HGO := Lib.hid (fun W1 (hI : MkI w w.heap.size (insR ls) n W1) => (⟨(hI.b.cell hbl).trans c0, (hI.b.cell hbl).trans c1⟩ : _ ∧ _))
  have HDF := Lib.hid (fun W1 (hI : MkI w w.heap.size (insR ls) n W1) => diff_any (.slice none 0 0) (.slice za zz.length zc) [] zz W1 (Row.nil _) (HAR.out.below hI.b (Nat.le_refl _)) (by have := HSL.out; simp; omega))
  have HRT := Lib.hid (fun W1 (hI : MkI w w.heap.size (insR ls) n W1) W2 (hb : Below W1.heap.size W1 W2) pa pc (hv : Own6 W1 W2 (.slice pa (diff6 [] zz).length pc) (diff6 [] zz)) =>
    retain_any _ w.heap.size _ n n 1 pa pc (diff6 [] zz) W2 (hI.m.below hb) hI.ri ⟨ints_nil _ _, Row.nil _, own6_row hv⟩
      ⟨fun h => (by cases h), fun h => (by cases h), own_na6 hv (fun g hg hh => by have := hI.b.size; have := hI.m.lt; omega)⟩
      ⟨by simp, by simp, by rw [diff_nil, chs_len]; exact HSL.out⟩ (show (1 : Int) ≤ 9223372036854775807 by decide) (by have := HNL.out; omega) (by have := HNL.out; simp; omega))
  have HTD := Lib.hid (fun W1 (hI : MkI w w.heap.size (insR ls) n W1) W2 (hb : Below W1.heap.size W1 W2) W3 h1 h2 => MkI.told (W2 := W3) (p := lastC zz) hI hb h1 h2 (by simp [lastC]) (by simp [lastC]))
  have HOP := Lib.hid (fun W3 (hI : MkI w w.heap.size (rtell (lastC zz) (insR ls)) (n + 1) W3) => mops_any _ w.heap.size _ W3 hI.m
    (by
      have e : tellR (ls.map insC ++ [lastC zz]) = rtell (lastC zz) (insR ls) := tellR_snoc _ _
      have h := told_small (ls := ls.map insC ++ [lastC zz]) (fun p hp => by
        rcases List.mem_append.1 hp with hp | hp
        · obtain ⟨c, hc, rfl⟩ := List.mem_map.1 hp
          exact ⟨HSM.out c hc, by simp [insC]⟩
        · obtain rfl := List.mem_singleton.1 hp
          exact ⟨by simp [lastC], by simp only [lastC]; rw [diff_nil, chs_len]; exact HSL.out⟩) (L := n + 1) (by rw [e]; exact hI.ri) (by have := HNL.out; omega)
      rw [e] at h; exact h) (by have := hI.ri.len; have := HNL.out; omega))
  clear HAR
  go_enter Try.func10, Try.ntmps10
  go_wp2_with (first
    | (go_at_call 27; (with_reducible refine (HIN.out).mono ?_); rintro e w1 ⟨rfl, hI⟩; have HI := Lib.hid hI; obtain ⟨f0, f1⟩ := HGO.out _ hI; have HD1 := Lib.hid (HDF.out _ hI); clear hI)
    | (go_at_call 29; (with_reducible refine (HD1.out).mono ?_); rintro e w2 ⟨u2, rfl, ho, hb⟩; obtain ⟨pa, pc, rfl⟩ := (own6_row ho).shape; have HR2 := Lib.hid (HRT.out _ HI.out _ hb _ _ ho); have HT2 := Lib.hid (HTD.out _ HI.out _ hb); clear hb ho)
    | (go_at_call 28; go_loud (refine (HR2.out).mono ?_; rintro e w3 ⟨rfl, hm, ho⟩; have HI3 := Lib.hid (HT2.out _ hm ho); have HO3 := Lib.hid (HOP.out _ HI3.out); clear hm ho))
    | (go_at_call 30; go_loud (refine (HO3.out).mono ?_; rintro e w4 ⟨v, ys, rfl, he, ho, hb⟩; obtain ⟨va, vn, vc, hvn, rfl⟩ := own_sh ho; have HE := Lib.hid (And.intro he (And.intro ho hb)); clear he ho hb)))
  go_ret
  obtain ⟨he, ho, hb⟩ := HE.out
  have hz := HI3.out.b.size
  have hz2 := HI3.out.m.lt
  exact ⟨_, ys, rfl, by rw [he, deltaC_snoc]; rfl, ho.mono (fun g hg => by omega), below_add HI3.out.b hb (by omega)⟩
end Go.Proofs.Ytmbjjaflgdfihaa
