
import Derived.Test.YtmbjjaflgdfihaaR2
/- R3: when cells may be a document (cells.May) -/
namespace Go.Proofs.Ytmbjjaflgdfihaa
open Go.RowKit
set_option linter.unusedVariables false
set_option maxRecDepth 100000

def malC (ks : List Key) (c : Cl) : Bool := !mayB c.r || (may5 ks c.s == 3)
def wkeyC (ks : List Key) (c : Cl) : Bool := may5 ks c.s == 4
def oopC (ks : List Key) (c : Cl) : Bool := decide (0 < (part5 ks (c.r != 10) c.s).length)
def lastR (ls : List Cl) : Int := (ls.getLast?.map Cl.r).getD 0
/-- May's answer: 3 malformed, 4 a key, 6 the last one, 7 a scope. -/
def mayC (ks : List Key) (ls : List Cl) : Int :=
  if ls.length < 1 ∨ 536870912 < ls.length ∨ ls.any (malC ks) = true then 3
  else if ls.any (wkeyC ks) = true then 4
  else if lastR ls ≠ 10 then 6
  else if ls.any (oopC ks) = true then 7 else 0

theorem any_map (p : Cl → Bool) (zs : List Cz) : (zs.map Cz.o).any p = zs.any fun z => p z.o := by rw [List.any_map]; rfl
theorem any_step {zs : List Cz} {p : Cz → Bool} {k : Nat} (h : k < zs.length) (h1 : (zs.take k).any p = false) (h2 : p zs[k] = false) : (zs.take (k + 1)).any p = false := by
  rw [tsnoc h, List.any_append, h1]; simp [h2]
theorem any_hit {zs : List Cz} {p : Cz → Bool} {k : Nat} (h : k < zs.length) (h2 : p zs[k] = true) : zs.any p = true := List.any_eq_true.2 ⟨_, List.getElem_mem h, h2⟩
theorem any_end {zs : List Cz} {p : Cz → Bool} (h1 : (zs.take zs.length).any p = false) : zs.any p = false := by rwa [List.take_of_length_le (Nat.le_refl _)] at h1

/-! ### a closure is asked of each cell -/
set_option maxHeartbeats 2000000 in
theorem indexC_any (g : Nat) (caps : Array Value) (p : Cz → Bool) (v : Value) (zs : List Cz) (w : World) (hv : Drow w v zs) (eg : ∀ args w, (callFunc g args).run Try.prog w = .ok (.enter g args) w)
    (hT : ∀ z ∈ zs, ∀ W, Below w.heap.size w W → Calls Try.prog g (#[z.v] ++ caps) W fun e W' => e = .returned (.bool (p z)) ∧ Below W.heap.size W W') :
    Calls Try.prog 36 #[v, .func (.func g) #[] caps] w fun e w' => ∃ k : Int, e = .returned (.int .i64 k) ∧ decide (0 ≤ k) = zs.any p ∧ Below w.heap.size w w' := by
  have hl := hv.len
  obtain ⟨a1, cap1, rfl⟩ := hv.shape
  by_cases h0 : 0 < zs.length
  · obtain ⟨b1, o1, rfl, -, -, -, hbl, hat⟩ := hv.ats h0
    have HA := Lib.hid hat
    have HT := Lib.hid hT
    clear hv hat hT
    go_enter Try.func36, Try.ntmps36
    go_wp2
    go_loopw [8] (fun s8 wr => ∃ k : Nat, k ≤ zs.length ∧ s8 = .int .i64 k ∧ Hid ((zs.take k).any p = false) ∧ Below w.heap.size w wr) (fun s8 _ => zs.length - (intOf s8).toNat)
    case atStart => exact ⟨0, Nat.zero_le _, rfl, Lib.hid rfl, Below.refl _ _⟩
    case round =>
      obtain ⟨k, hk, rfl, HP, hb⟩ := hrel
      rename_i wr
      by_cases hlt : k < zs.length
      · have c := (HA.out k hlt).below hb
        have HQ := Lib.hid (HT.out zs[k] (List.getElem_mem hlt) wr hb)
        have HST := Lib.hid (fun h => any_step hlt HP.out h)
        have HHI := Lib.hid (fun h => any_hit (p := p) hlt h)
        have hsz := hb.size
        have HB := Lib.hid hb
        have HLT := Lib.hid hlt
        generalize zs[k] = z at *
        obtain ⟨bb, hbb⟩ : ∃ bb, p z = bb := ⟨_, rfl⟩
        rw [hbb] at HQ HST HHI
        clear hb hbb
        obtain ⟨c0, c1⟩ := c
        cases bb
        · have HS1 := Lib.hid (HST.out rfl)
          clear HST HHI
          go_wp2_with (go_at_fn g; (with_reducible refine HQ.out.mono ?_); rintro e w1 ⟨rfl, b1⟩; have B1 := Lib.hid b1; clear b1)
          go_roundw
          case rel => exact ⟨k + 1, HLT.out, by simp, HS1, below_add HB.out B1.out HB.out.size⟩
          case measure => have := HLT.out; simp only [intOf]; omega
        · have HS1 := Lib.hid (HHI.out rfl)
          clear HST HHI
          go_wp2_with (go_at_fn g; (with_reducible refine HQ.out.mono ?_); rintro e w1 ⟨rfl, b1⟩; have B1 := Lib.hid b1; clear b1)
          go_ret
          exact ⟨k, rfl, by rw [HS1.out]; exact decide_eq_true (by omega), below_add HB.out B1.out HB.out.size⟩
      · obtain rfl : k = zs.length := by omega
        have HE := Lib.hid (any_end HP.out)
        go_wp2
        go_ret
        exact ⟨-1, rfl, by rw [HE.out]; rfl, hb⟩
  · obtain rfl : zs = [] := List.length_eq_zero_iff.1 (by omega)
    clear hv hT
    go_enter Try.func36, Try.ntmps36
    go_wp2
    refine wp_loop_rounds 1 ?_
    rw [rounds_succ]
    go_wp2
    go_ret
    exact ⟨-1, rfl, rfl, Below.refl _ _⟩
theorem containsC_any (b : Bool) (g : Nat) (caps : Array Value) (p : Cz → Bool) (v : Value) (zs : List Cz) (w : World) (hv : Drow w v zs) (eg : ∀ args w, (callFunc g args).run Try.prog w = .ok (.enter g args) w)
    (hT : ∀ z ∈ zs, ∀ W, Below w.heap.size w W → Calls Try.prog g (#[z.v] ++ caps) W fun e W' => e = .returned (.bool (p z)) ∧ Below W.heap.size W W') (hbb : zs.any p = b) :
    Calls Try.prog 21 #[v, .func (.func g) #[] caps] w fun e w' => e = .returned (.bool b) ∧ Below w.heap.size w w' := by
  have HI := Lib.hid (indexC_any g caps p v zs w hv eg hT)
  rw [hbb] at HI
  clear hv hT hbb eg
  cases b <;>
  (go_enter Try.func21, Try.ntmps21
   go_wp2_with (go_at_call 36; (with_reducible refine HI.out.mono ?_); rintro e w1 ⟨k, rfl, hk, b1⟩; have B1 := Lib.hid b1; clear b1)
   go_ret
   exact ⟨rfl, B1.out⟩)

/-! ### the three closures -/
theorem enters15 : ∀ args w, (callFunc 15 args).run Try.prog w = .ok (.enter 15 args) w := enters_of Try.func15 (by kernel_rfl) rfl
theorem enters18 : ∀ args w, (callFunc 18 args).run Try.prog w = .ok (.enter 18 args) w := enters_of Try.func18 (by kernel_rfl) rfl
theorem enters19 : ∀ args w, (callFunc 19 args).run Try.prog w = .ok (.enter 19 args) w := enters_of Try.func19 (by kernel_rfl) rfl
theorem malc_any (ks : List Key) (z : Cz) (b0 : Nat) (p : Value) (w : World) (hc : w.cell? ⟨b0, 0, none⟩ = some p) (hs : Sch w p ks) (hv : Arow w z.sv z.s) (hW : CzW z) :
    Calls Try.prog 15 #[z.v, .pointer (some ⟨b0, 0, none⟩)] w fun e w' => e = .returned (.bool (malC ks z.o)) ∧ Below w.heap.size w w' := by
  have hk := kbelow_one w (.cells z.cs 41)
  have hc2 := (hk.cell (World.block_lt_of_cell? _ _ hc)).trans hc
  obtain ⟨c0, c1⟩ := CzAt.new w z 41
  have HB := Lib.hid hk
  have HM := Lib.hid (may_any5 p ks z.sv z.s _ (hs.below hk (Nat.le_refl _)) (hv.below hk (Nat.le_refl _)) hW.s)
  have HR := Lib.hid (fun W => may_any z.r W)
  have e : malC ks z.o = (!mayB z.r || (may5 ks z.s == 3)) := rfl
  rw [e]
  clear hc hs hv hW e hk
  obtain ⟨zr, za, zc, zs⟩ := z
  simp only [Cz.sv, Cz.cs, Cz.v, clcs] at *
  generalize may5 ks zs = m at *
  generalize mayB zr = bm at *
  cases bm
  · go_enter Try.func15, Try.ntmps15
    go_wp2_with (first
      | (go_at_call 16; (with_reducible refine (HR.out _).mono ?_); rintro e w1 ⟨rfl, rfl⟩))
    go_ret
    exact ⟨rfl, HB.out⟩
  · go_enter Try.func15, Try.ntmps15
    go_wp2_with (first
      | (go_at_call 16; (with_reducible refine (HR.out _).mono ?_); rintro e w1 ⟨rfl, rfl⟩)
      | (go_at_call 17; (with_reducible refine (HM.out).mono ?_); rintro e w2 ⟨rfl, hb⟩; have HB2 := Lib.hid (below_add HB.out hb HB.out.size); clear hb))
    go_ret
    exact ⟨rfl, HB2.out⟩
theorem wkeyc_any (ks : List Key) (z : Cz) (b0 : Nat) (p : Value) (w : World) (hc : w.cell? ⟨b0, 0, none⟩ = some p) (hs : Sch w p ks) (hv : Arow w z.sv z.s) (hW : CzW z) :
    Calls Try.prog 18 #[z.v, .pointer (some ⟨b0, 0, none⟩)] w fun e w' => e = .returned (.bool (wkeyC ks z.o)) ∧ Below w.heap.size w w' := by
  have hk := kbelow_one w (.cells z.cs 41)
  have hc2 := (hk.cell (World.block_lt_of_cell? _ _ hc)).trans hc
  obtain ⟨c0, c1⟩ := CzAt.new w z 41
  have HB := Lib.hid hk
  have HM := Lib.hid (may_any5 p ks z.sv z.s _ (hs.below hk (Nat.le_refl _)) (hv.below hk (Nat.le_refl _)) hW.s)
  have e : wkeyC ks z.o = (may5 ks z.s == 4) := rfl
  rw [e]
  clear hc hs hv hW e hk
  obtain ⟨zr, za, zc, zs⟩ := z
  simp only [Cz.sv, Cz.cs, Cz.v, clcs] at *
  generalize may5 ks zs = m at *
  go_enter Try.func18, Try.ntmps18
  go_wp2_with (first
    | (go_at_call 17; (with_reducible refine (HM.out).mono ?_); rintro e w2 ⟨rfl, hb⟩; have HB2 := Lib.hid (below_add HB.out hb HB.out.size); clear hb))
  go_ret
  exact ⟨rfl, HB2.out⟩
theorem oopc_any (ks : List Key) (z : Cz) (b0 : Nat) (p : Value) (w : World) (hc : w.cell? ⟨b0, 0, none⟩ = some p) (hs : Sch w p ks) (hv : Arow w z.sv z.s) (hW : CzW z) (hl : z.s.length ≤ 1000) :
    Calls Try.prog 19 #[z.v, .pointer (some ⟨b0, 0, none⟩)] w fun e w' => e = .returned (.bool (oopC ks z.o)) ∧ Below w.heap.size w w' := by
  have hk := kbelow_one w (.cells z.cs 41)
  have hc2 := (hk.cell (World.block_lt_of_cell? _ _ hc)).trans hc
  obtain ⟨c0, c1⟩ := CzAt.new w z 41
  have HB := Lib.hid hk
  have HM := Lib.hid (part_any p ks z.sv z.s (z.r != 10) _ (hs.below hk (Nat.le_refl _)) (hv.below hk (Nat.le_refl _)) hW.s hl)
  have e : oopC ks z.o = decide (0 < (part5 ks (z.r != 10) z.s).length) := rfl
  have hpl := part_le ks (z.r != 10) z.s
  rw [e]
  clear hc hs hv hW e hk
  obtain ⟨zr, za, zc, zs⟩ := z
  simp only [Cz.sv, Cz.cs, Cz.v, clcs] at *
  generalize hbl : (zr != 10) = bl at *
  generalize part5 ks bl zs = ps at *
  go_enter Try.func19, Try.ntmps19
  go_wp2_with (first
    | (go_at_call 20; (with_reducible refine (HM.out).mono ?_); rintro e w2 ⟨u, rfl, ho, hb⟩; obtain ⟨ua, uc, rfl⟩ := ho.row.shape; have HB2 := Lib.hid (below_add HB.out hb HB.out.size); clear hb ho))
  go_ret
  exact ⟨by congr 2, HB2.out⟩

/-! ### cells.May -/
theorem Sch.ptr {w : World} {v : Value} {ks : List Key} (h : Sch w v ks) : ∃ a, v = .pointer a := by
  rcases h.2 with ⟨h, -⟩ | ⟨s, h, -⟩ | ⟨s, b, h, -⟩ <;> exact ⟨_, h⟩
theorem wf_small {ks : List Key} {c : Cl} (h : malC ks c = false) : c.s.length ≤ 64 := by
  have h1 : ¬ may5 ks c.s = 3 := by
    intro e
    simp [malC, e] at h
  unfold may5 at h1
  by_cases h2 : wf5 c.s = true
  · unfold wf5 at h2
    simp only [Bool.and_eq_true, decide_eq_true_eq] at h2
    exact h2.1.2
  · rw [if_neg h2] at h1
    exact absurd rfl h1
theorem lastR_get {zs : List Cz} (h : 0 < zs.length) : lastR (zs.map Cz.o) = zs[zs.length - 1].r := by
  unfold lastR
  rw [List.getLast?_eq_getElem?, List.getElem?_map, List.length_map, List.getElem?_eq_getElem (by omega)]
  rfl
theorem mayc_3a {ks : List Key} {ls : List Cl} (h : ls.length < 1) : mayC ks ls = 3 := if_pos (.inl h)
theorem mayc_3b {ks : List Key} {ls : List Cl} (h : 536870912 < ls.length) : mayC ks ls = 3 := if_pos (.inr (.inl h))
theorem mayc_3c {ks : List Key} {ls : List Cl} (h : ls.any (malC ks) = true) : mayC ks ls = 3 := if_pos (.inr (.inr h))
theorem mayc_go {ks : List Key} {ls : List Cl} (h1 : ¬ ls.length < 1) (h2 : ¬ 536870912 < ls.length) (h3 : ls.any (malC ks) = false) :
    mayC ks ls = if ls.any (wkeyC ks) = true then 4 else if lastR ls ≠ 10 then 6 else if ls.any (oopC ks) = true then 7 else 0 := if_neg (fun h => by
  rcases h with h | h | h
  · exact h1 h
  · exact h2 h
  · rw [h3] at h; cases h)
set_option maxHeartbeats 2000000 in
theorem cmay_any (p u : Value) (ks : List Key) (zs : List Cz) (w : World) (hs : Sch w p ks) (hu : Drow w u zs) (hW : ∀ z ∈ zs, CzW z) :
    Calls Try.prog 7 #[p, u] w fun e w' => e = .returned (.int .i64 (mayC ks (zs.map Cz.o))) ∧ Below w.heap.size w w' := by
  have hl := hu.len
  have hlm : (zs.map Cz.o).length = zs.length := List.length_map ..
  have hk := kbelow_one w (.cells #[p] 26)
  have hsz : (w.alloc (.cells #[p] 26)).heap.size = w.heap.size + 1 := by simp
  have hc : (w.alloc (.cells #[p] 26)).cell? ⟨w.heap.size, 0, none⟩ = some p := by rw [cell_of_row _ w.heap.size _ _ 26 (0, 0) (heap_alloc_new w _)]; rfl
  have HB := Lib.hid hk
  have hall : ∀ W, Below (w.heap.size + 1) (w.alloc (.cells #[p] 26)) W → Below w.heap.size w W := fun W hb => below_add hk (by rw [← hsz] at hb; exact hb) hk.size
  have hws : ∀ W, Below (w.heap.size + 1) (w.alloc (.cells #[p] 26)) W → w.heap.size + 1 ≤ W.heap.size := fun W hb => by have := hb.size; omega
  have hcell : ∀ W, Below (w.heap.size + 1) (w.alloc (.cells #[p] 26)) W → W.cell? ⟨w.heap.size, 0, none⟩ = some p := fun W hb => (hb.cell (by simp)).trans hc
  have H1 := Lib.hid (fun b hb W (hW0 : Below (w.heap.size + 1) (w.alloc (.cells #[p] 26)) W) => containsC_any b 15 #[.pointer (some ⟨w.heap.size, 0, none⟩)] (fun z => malC ks z.o) u zs W (hu.below (hall W hW0)) enters15
    (fun z hz W2 hb2 => malc_any ks z _ p W2 (hcell W2 (below_add hW0 hb2 (hws W hW0))) (hs.below (hall W2 (below_add hW0 hb2 (hws W hW0))) (Nat.le_refl _)) ((hu.ok z hz).below (hall W2 (below_add hW0 hb2 (hws W hW0))) (Nat.le_refl _)) (hW z hz)) hb)
  have H2 := Lib.hid (fun b hb W (hW0 : Below (w.heap.size + 1) (w.alloc (.cells #[p] 26)) W) => containsC_any b 18 #[.pointer (some ⟨w.heap.size, 0, none⟩)] (fun z => wkeyC ks z.o) u zs W (hu.below (hall W hW0)) enters18
    (fun z hz W2 hb2 => wkeyc_any ks z _ p W2 (hcell W2 (below_add hW0 hb2 (hws W hW0))) (hs.below (hall W2 (below_add hW0 hb2 (hws W hW0))) (Nat.le_refl _)) ((hu.ok z hz).below (hall W2 (below_add hW0 hb2 (hws W hW0))) (Nat.le_refl _)) (hW z hz)) hb)
  have H3 := Lib.hid (fun b (hm : (zs.map Cz.o).any (malC ks) = false) hb W (hW0 : Below (w.heap.size + 1) (w.alloc (.cells #[p] 26)) W) => containsC_any b 19 #[.pointer (some ⟨w.heap.size, 0, none⟩)] (fun z => oopC ks z.o) u zs W (hu.below (hall W hW0)) enters19
    (fun z hz W2 hb2 => oopc_any ks z _ p W2 (hcell W2 (below_add hW0 hb2 (hws W hW0))) (hs.below (hall W2 (below_add hW0 hb2 (hws W hW0))) (Nat.le_refl _)) ((hu.ok z hz).below (hall W2 (below_add hW0 hb2 (hws W hW0))) (Nat.le_refl _)) (hW z hz)
      (Nat.le_trans (wf_small (ks := ks) (c := z.o) (by have := List.any_eq_false.1 hm z.o (List.mem_map_of_mem hz); simpa using this)) (by decide))) hb)
  have HU := Lib.hid (fun W (hb : Below (w.heap.size + 1) (w.alloc (.cells #[p] 26)) W) => hu.below (hall W hb))
  have HA := Lib.hid hall
  have HB0 := Lib.hid (show Below (w.heap.size + 1) (w.alloc (.cells #[p] 26)) (w.alloc (.cells #[p] 26)) from Below.refl _ _)
  obtain ⟨a1, cap1, rfl⟩ := hu.shape
  obtain ⟨pa, rfl⟩ := hs.ptr
  clear hall hcell hc hk hs hu hW
  by_cases h1 : zs.length < 1
  · rw [mayc_3a (by rw [hlm]; exact h1)]
    have q1 : decide ((zs.length : Int) < 1) = true := by simp; omega
    clear h1 H1 H2 H3 hlm
    go_enter Try.func7, Try.ntmps7
    go_wp2
    go_ret
    exact ⟨rfl, HB.out⟩
  have q1 : decide ((zs.length : Int) < 1) = false := by simp; omega
  by_cases h2 : 536870912 < zs.length
  · rw [mayc_3b (by rw [hlm]; exact h2)]
    have q2 : decide ((536870912 : Int) < (zs.length : Int)) = true := by simp; omega
    clear h1 h2 H1 H2 H3 hlm
    go_enter Try.func7, Try.ntmps7
    go_wp2
    go_ret
    exact ⟨rfl, HB.out⟩
  have q2 : decide ((536870912 : Int) < (zs.length : Int)) = false := by simp; omega
  have HG := Lib.hid (mayc_go (ks := ks) (by rw [hlm]; exact h1) (by rw [hlm]; exact h2))
  have h0 : 0 < zs.length := by omega
  have HLR := Lib.hid (lastR_get h0)
  obtain ⟨b1, o1, rfl, -, hcap, hm, hbl, hat⟩ := (HU.out _ HB0.out).ats h0
  have HAT := Lib.hid (hat (zs.length - 1) (by omega))
  clear hat
  generalize zs[zs.length - 1] = zl at *
  obtain ⟨n, hn⟩ : ∃ n, zs.length = n + 1 := ⟨zs.length - 1, by omega⟩
  have HAT := Lib.hid (fun W (hb : Below (w.heap.size + 1) (w.alloc (.cells #[.pointer pa] 26)) W) => (show CzAt b1 (o1 + n * 2) zl _ by have := HAT.out; rwa [show zs.length - 1 = n by omega] at this).below (by rw [hsz]; exact hb))
  unfold maxLen at hm
  have e2 : IntKind.i64.wrap ((zs.length : Int) - 1) = (n : Int) := by rw [IntKind.wrap_i64]; omega
  have e3 : n < zs.length := by omega
  have e4 : (n : Int) < (zs.length : Int) := by omega
  clear h1 h2 hlm h0 hn
  obtain ⟨x1, hx1⟩ : ∃ b, (zs.map Cz.o).any (malC ks) = b := ⟨_, rfl⟩
  have HQ1 := Lib.hid (H1.out x1 (by rw [← hx1, any_map]))
  cases x1
  rotate_left
  · have HF := Lib.hid (mayc_3c hx1)
    clear hx1 H1 H2 H3 HG
    rw [HF.out]
    go_enter Try.func7, Try.ntmps7
    go_wp2_with (first
      | (go_at_call 21; (with_reducible refine (HQ1.out _ HB0.out).mono ?_); rintro e w1 ⟨rfl, hb⟩; have HB1 := Lib.hid (below_add HB0.out hb (by simp)); clear hb))
    go_ret
    exact ⟨rfl, HA.out _ HB1.out⟩
  have HQ2 := Lib.hid (fun b (hb : (zs.map Cz.o).any (wkeyC ks) = b) => H2.out b (by rw [← hb, any_map]))
  have HQ3 := Lib.hid (fun b (hb : (zs.map Cz.o).any (oopC ks) = b) => H3.out b hx1 (by rw [← hb, any_map]))
  have HM := Lib.hid (HG.out hx1)
  clear hx1 H1 H2 H3 HG
  obtain ⟨x2, hx2⟩ : ∃ b, (zs.map Cz.o).any (wkeyC ks) = b := ⟨_, rfl⟩
  have HQ2 := Lib.hid (HQ2.out x2 hx2)
  cases x2
  rotate_left
  · have HF := Lib.hid (show mayC ks (zs.map Cz.o) = 4 by rw [HM.out, if_pos hx2])
    clear hx2 HQ3 HM
    rw [HF.out]
    go_enter Try.func7, Try.ntmps7
    go_wp2_with (first
      | (go_at_call 21; (with_reducible refine (HQ2.out _ HB1.out).mono ?_); rintro e w2 ⟨rfl, hb⟩; have HB2 := Lib.hid (below_add HB1.out hb (hws _ HB1.out)); clear hb)
      | (go_at_call 21; (with_reducible refine (HQ1.out _ HB0.out).mono ?_); rintro e w1 ⟨rfl, hb⟩; have HB1 := Lib.hid (below_add HB0.out hb (by simp)); clear hb))
    go_ret
    exact ⟨rfl, HA.out _ HB2.out⟩
  have HM := Lib.hid (show mayC ks (zs.map Cz.o) = _ by rw [HM.out, if_neg (by rw [hx2]; exact Bool.false_ne_true), HLR.out])
  clear hx2 HLR
  obtain ⟨zr, za, zc, zz⟩ := zl
  simp only [CzAt] at *
  by_cases hr : zr = 10
  rotate_left
  · have HF := Lib.hid (show mayC ks (zs.map Cz.o) = 6 by rw [HM.out, if_pos hr])
    have q3 : (zr != 10) = true := by simpa using hr
    clear hr HQ3 HM
    rw [HF.out]
    go_enter Try.func7, Try.ntmps7
    go_wp2_with (first
      | (go_at_call 21; (with_reducible refine (HQ2.out _ HB1.out).mono ?_); rintro e w2 ⟨rfl, hb⟩; have HB2 := Lib.hid (below_add HB1.out hb (hws _ HB1.out)); clear hb; obtain ⟨c0, c1⟩ := HAT.out _ HB2.out)
      | (go_at_call 21; (with_reducible refine (HQ1.out _ HB0.out).mono ?_); rintro e w1 ⟨rfl, hb⟩; have HB1 := Lib.hid (below_add HB0.out hb (by simp)); clear hb))
    go_ret
    exact ⟨rfl, HA.out _ HB2.out⟩
  subst hr
  have HM := Lib.hid (show mayC ks (zs.map Cz.o) = _ by rw [HM.out, if_neg (by simp)])
  obtain ⟨x3, hx3⟩ : ∃ b, (zs.map Cz.o).any (oopC ks) = b := ⟨_, rfl⟩
  have HQ3 := Lib.hid (HQ3.out x3 hx3)
  have HF := Lib.hid (show mayC ks (zs.map Cz.o) = if x3 = true then 7 else 0 by rw [HM.out, hx3])
  clear hx3 HM
  rw [HF.out]
  cases x3 <;>
  (go_enter Try.func7, Try.ntmps7
   go_wp2_with (first
      | (go_at_call 21; (with_reducible refine (HQ3.out _ HB2.out).mono ?_); rintro e w3 ⟨rfl, hb⟩; have HB3 := Lib.hid (below_add HB2.out hb (hws _ HB2.out)); clear hb)
      | (go_at_call 21; (with_reducible refine (HQ2.out _ HB1.out).mono ?_); rintro e w2 ⟨rfl, hb⟩; have HB2 := Lib.hid (below_add HB1.out hb (hws _ HB1.out)); clear hb; obtain ⟨c0, c1⟩ := HAT.out _ HB2.out)
      | (go_at_call 21; (with_reducible refine (HQ1.out _ HB0.out).mono ?_); rintro e w1 ⟨rfl, hb⟩; have HB1 := Lib.hid (below_add HB0.out hb (by simp)); clear hb))
   go_ret
   exact ⟨rfl, HA.out _ HB3.out⟩)
end Go.Proofs.Ytmbjjaflgdfihaa
