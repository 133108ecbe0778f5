
import Derived.Test.YtmbjjaflgdfihaaN7
/- N8: ops copied -/
namespace Go.Proofs.Ytmbjjaflgdfihaa
open Go.RowKit
set_option linter.unusedVariables false
set_option maxRecDepth 100000

/-- How much an op may have. -/
structure Sm (z : Oz) : Prop where
  r : z.rs.length ≤ 50331648
  s : z.st.length ≤ 50331648
  p : z.pt.length ≤ 50331648
theorem sm_tot {zs : List Oz} (h : totO zs ≤ 50000000) : zs.length ≤ 50000000 ∧ (∀ z ∈ zs, Sm z) ∧ sumR (zs.map Oz.o) ≤ 50000000 := by
  have : ∀ l : List Oz, l.length ≤ totO l ∧ sumR (l.map Oz.o) ≤ totO l ∧ ∀ z ∈ l, szO z ≤ totO l := fun l => by
    induction l with
    | nil => simp [totO, sumR]
    | cons x r ih =>
      obtain ⟨h1, h2, h3⟩ := ih
      have e : totO (x :: r) = szO x + totO r := by simp [totO]
      have e2 : sumR ((x :: r).map Oz.o) = x.rs.length + sumR (r.map Oz.o) := by simp [sumR, Oz.o]
      have e3 : szO x = 1 + x.rs.length + totA x.st + totC x.pt := rfl
      refine ⟨by rw [List.length_cons, e]; omega, by rw [e, e2]; omega, fun z hz => ?_⟩
      rcases List.mem_cons.1 hz with rfl | hz
      · omega
      · have := h3 z hz; omega
  obtain ⟨h1, h2, h3⟩ := this zs
  refine ⟨by omega, fun z hz => ?_, by omega⟩
  have e3 : szO z = 1 + z.rs.length + totA z.st + totC z.pt := rfl
  have := h3 z hz
  have a1 : z.st.length ≤ totA z.st := by unfold totA; omega
  have a2 : z.pt.length ≤ totC z.pt := by unfold totC; omega
  exact ⟨by omega, by omega, by omega⟩

theorem aclone_any (v : Value) (xs : List Att) (w : World) (hv : Arow w v xs) (hl : xs.length * 48 ≤ 140737488355328) :
    Calls Try.prog 55 #[v] w fun e w' => ∃ u, e = .returned u ∧ w'.ownsRow w.heap.size 46 5 u xs.length (fl attC xs) ∧ Below w.heap.size w w' := by
  obtain ⟨i0, hi, hz0, hz1, hz2⟩ := info_at
  have HV := Lib.hid hv
  have hnil := fun a l c w => nil_eql a l c w
  obtain ⟨a, cap, rfl⟩ := hv.shape
  cases a with
  | none =>
    obtain ⟨rfl, rfl⟩ : xs = [] ∧ cap = 0 := by
      rcases hv with ⟨_, _, h, hx, _, h0⟩ | ⟨_, _, _, h, _⟩
      · injection h with h1 _ h3; subst hx; exact ⟨rfl, by rw [h3]; exact h0 h1.symm⟩
      · injection h with h1; cases h1
    clear hv HV
    go_enter Try.func55, Try.ntmps55
    go_wp2
    go_ret
    exact ⟨_, rfl, World.ownsRow_nil _ _ _ _, Below.refl _ _⟩
  | some a =>
    clear hv
    have hB := (Below.refl w.heap.size w).alloc (Nat.le_refl _) (.cells #[] 46)
    go_enter Try.func55, Try.ntmps55
    go_wp2_with (at_builtin; refine wpList_append_row (C := attC) rfl (.tmp 5) (.tmp 6) 39 rfl w.heap.size 46 i0 (av noAtt) 48 Try.underlying39 hi hz0 hz1 hz2 rfl _ 0 [] rfl (owns_none w 46 5) _ xs rfl (HV.out.below hB (Nat.le_refl _)) (by unfold maxLen; omega) (by omega) (by simp) ?_; intro v3 w3 hown3 hgrow3)
    go_ret
    refine ⟨_, rfl, ?_, hB.grown hgrow3 (by simp) (fun j hj => own_base (owns_none w 46 5) hj)⟩
    have h : w3.ownsRow w.heap.size 46 attC.m v3 (0 + xs.length) ([] ++ fl attC xs) := hown3
    rw [Nat.zero_add, List.nil_append] at h
    exact h

/-- A field of an op's variable turned. -/
theorem box_set {w W : World} {b B j : Nat} {t : TypeId} {cs : Array Value} (hc : Cb b t cs W) (hb : Below B w W) (hb0 : w.heap.size = B) (hB : B ≤ b) (v : Value) :
    Cb b t (cs.setIfInBounds j v) (W.setCell ⟨b, j, none⟩ v) ∧ Below B w (W.setCell ⟨b, j, none⟩ v) ∧ Off (fun k => k = b) W (W.setCell ⟨b, j, none⟩ v) := by
  have hG := grown_set (w := W) (g := b) (o := j) v
  exact ⟨heap_set v hc, hb.grown hG (hb0 ▸ hb.size) (fun k e => by cases e; exact hB), Off.of_grown hG (fun g hg => by cases hg; rfl)⟩
theorem own_set {w w' : World} {B : Nat} {e : TypeId} {size n b : Nat} {v : Value} {xs : List Value} (h : w.ownsRow B e size v n xs) (ho : Off (fun k => k = b) w w') (hb : b < B) : w'.ownsRow B e size v n xs :=
  owns_kept h fun g hg => ho.block g (own_lt7 h hg) (fun hh => by have := own_base h hg; omega)

theorem ap_new' {F : Nat → Prop} {w : World} {zs : List Oz} {z : Oz} (h : ∀ y ∈ zs, OpOwn F w y) (hz : ∀ g, z.rv.ownBlock = some g → w.heap.size ≤ g) : ∀ y ∈ zs, Ap y z := ap_new h hz
theorem op_new {w w' : World} {B B1 B2 B3 : Nat} {k n : Int} {ra sa pa : Option Addr} {rc sc pc : Nat} {rs : List Int} {st : List Att} {pt : List Chg} {b : Nat} (hr : w.ownsRow B1 21 1 (.slice ra rs.length rc) rs.length (rs.map (Value.int .i32))) (hs : w.ownsRow B2 46 5 (.slice sa st.length sc) st.length (fl attC st)) (hp : w.ownsRow B3 86 6 (.slice pa pt.length pc) pt.length (fl chC pt))
    (hB : B ≤ b) (hb : Below w.heap.size w w') (h1 : b ≤ B1) (h2 : b ≤ B2) (h3 : b ≤ B3) : OpOwn (fun g => B ≤ g) w' ⟨k, n, ra, rc, rs, sa, sc, st, pa, pc, pt⟩ :=
  ⟨owns_mono (owns_below hr hb) (Nat.zero_le _), owns_mono (owns_below hs hb) (Nat.zero_le _), owns_mono (owns_below hp hb) (Nat.zero_le _), fun g hg => by have := own_base hr hg; omega, fun g hg => by have := own_base hs hg; omega, fun g hg => by have := own_base hp hg; omega⟩
/-- The loop's state. -/
structure CpR (B : Nat) (w : World) (zs : List Oz) (k : Nat) (v : Value) (wr : World) (ys : List Oz) : Prop where
  own : Oown (fun g => B ≤ g) wr v ys
  eq : ys.map Oz.o = (zs.take k).map Oz.o
  bel : Below w.heap.size w wr
  hi : B ≤ wr.heap.size

theorem CpR.next {B : Nat} {w wr W w4 : World} {zs ys : List Oz} {k g cap : Nat} {v : Value} {z : Oz} (h : CpR B w zs k v wr ys) (hB0 : B = w.heap.size) (hb : Below wr.heap.size wr W) (hz : OpOwn (fun g => B ≤ g) W z) (hn : ∀ q, z.rv.ownBlock = some q → wr.heap.size ≤ q)
    (hg : W.grownBy w4 v.ownBlock) (ho : w4.ownsRow 0 51 5 (.slice (some ⟨g, 0, none⟩) (k + 1) cap) (k + 1) (fl ozC ys ++ ozC.c z)) (hat : v.ownBlock = some g ∨ g = W.heap.size) (hk : ys.length = k) (he : (ys ++ [z]).map Oz.o = (zs.take (k + 1)).map Oz.o) :
    CpR B w zs (k + 1) (.slice (some ⟨g, 0, none⟩) (k + 1) cap) w4 (ys ++ [z]) := by
  have hbw := below_add h.bel hb h.bel.size
  have hsz := hb.size
  have hhi := h.hi
  have hgB : B ≤ g := by
    rcases hat with hh | hh
    · exact h.own.f g hh
    · rw [hh]; omega
  refine ⟨(h.own.below hb).more (fun g hg => hg) hg hz (ap_new' (fun y hy => h.own.own y hy) hn) (by rw [hk]; exact ho) (fun q hq => ?_), he, hbw.grown hg hbw.size (fun q hq => ?_), Nat.le_trans (by omega) hg.size⟩
  · injection hq with hq; subst hq; exact hgB
  · rw [← hB0]; exact h.own.f q hq

set_option maxHeartbeats 4000000 in
theorem ocopy_any (u : Value) (zs : List Oz) (w : World) (hu : Orow w u zs) (hl : zs.length ≤ 50331648) (hz : ∀ z ∈ zs, Sm z) :
    Calls Try.prog 46 #[u] w fun e w' => ∃ v ys, e = .returned v ∧ ys.map Oz.o = zs.map Oz.o ∧ Oown (fun g => w.heap.size ≤ g) w' v ys ∧ Below w.heap.size w w' := by
  obtain ⟨i0, hi, hz0, hz1, hz2⟩ := info_op
  have HU := Lib.hid hu
  obtain ⟨a1, cap1, rfl⟩ := hu.shape
  go_enter Try.func46, Try.ntmps46
  go_wp2_with (at_make; refine wpList_make_own _ rfl (.const (.int .i64 0)) (.tmp 7) 33 rfl w.heap.size 51 i0 _ 5 Try.underlying33 hi hz0 hz1 .i64 .i64 _ zs.length rfl rfl rfl (by rw [hz2]; omega) (by unfold maxLen; omega) (Nat.le_refl _) ?_; intro w0 hown0 hgrow0)
  have HB0 := Lib.hid (show Below w.heap.size w w0 from (Below.refl _ _).grown hgrow0 (Nat.le_refl _) (fun k e => by cases e))
  have HS := Lib.hid (show CpR w.heap.size w zs 0 (.slice (some ⟨w.heap.size, 0, none⟩) 0 zs.length) w0 [] from ⟨⟨owns_mono hown0 (Nat.zero_le _), fun g hg => own_base hown0 hg, by simp, List.Pairwise.nil⟩, rfl, HB0.out, HB0.out.size⟩)
  clear hown0 hgrow0 HB0
  go_loopw [3, 11] (fun s3 s11 wr => ∃ (k : Nat) (a : Option Addr) (c : Nat) (ys : List Oz), k ≤ zs.length ∧ ys.length = k ∧ s3 = .slice a k c ∧ s11 = .int .i64 k ∧ Hid (CpR w.heap.size w zs k (.slice a k c) wr ys)) (fun _ s11 _ => zs.length - (intOf s11).toNat)
  case atStart => exact ⟨0, _, _, [], Nat.zero_le _, rfl, rfl, rfl, HS⟩
  case round =>
    clear HS
    obtain ⟨k, va, vc, ys, hk, hyl, rfl, rfl, HR⟩ := hrel
    by_cases hlt : k < zs.length
    · have hlt1 : 0 < zs.length := by omega
      obtain ⟨b1, o1, rfl, -, -, -, -, hat⟩ := HU.out.row.ats hlt1
      have hoat := (hat k hlt).below HR.out.bel
      have hok := (HU.out.ok _ (List.getElem_mem hlt)).below HR.out.bel
      have hsm := hz _ (List.getElem_mem hlt)
      have HEQ := Lib.hid (show ∀ y : Oz, y.o = zs[k].o → (ys ++ [y]).map Oz.o = (zs.take (k + 1)).map Oz.o from fun y he => by rw [tsnoc hlt, List.map_append, List.map_append, HR.out.eq, List.map_singleton, List.map_singleton, he])
      clear hat hu
      generalize zs[k] = z at *
      have HLT := Lib.hid hlt
      have HW0 := Lib.hid (kbelow_one wr (.cells z.cs 51))
      have HCB := Lib.hid (cb_new wr 51 z.cs)
      have hwb : w.heap.size ≤ wr.heap.size := HR.out.hi
      have HF1 := Lib.hid (fun W (hb : Below wr.heap.size wr W) => iclone_any z.rv z.rs W (hok.r.below hb) (by have := hsm.r; omega))
      have HF2 := Lib.hid (fun W (hb : Below wr.heap.size wr W) => aclone_any z.sv z.st W (hok.s.below hb (Nat.le_refl _)) (by have := hsm.s; omega))
      have HF3 := Lib.hid (fun W (hb : Below wr.heap.size wr W) => clone_any6 z.pv z.pt W (hok.p.below hb (Nat.le_refl _)) (by have := hsm.p; omega))
      obtain ⟨zk, zn, zra, zrc, zrs, zsa, zsc, zst, zpa, zpc, zpt⟩ := z
      obtain ⟨c0, c1, c2, c3, c4⟩ := hoat
      simp only [Oz.rv, Oz.sv, Oz.pv, Oz.cs] at HF1 HF2 HF3 HW0 HCB c0 c1 c2 c3 c4
      have HYL := Lib.hid hyl
      have HROW := Lib.hid (fun W (hb : Below wr.heap.size wr W) => (show W.ownsRow 0 51 5 (.slice va k vc) k (fl ozC ys) from by have := (HR.out.own.below hb).row; rwa [hyl] at this))
      have HWB := Lib.hid hwb
      clear hok hsm hyl hwb hz hlt1
      go_wp2_with (first
        | (go_at_call 54; (with_reducible refine (HF1.out _ HW0.out).mono ?_); rintro e w1 ⟨u1, rfl, ho1, hb1⟩; obtain ⟨ra, rc, rfl, -, -⟩ := own_shape ho1; have C1 := HCB.out.below hb1; have f0 : w1.cell? ⟨wr.heap.size, 2, none⟩ = some (.slice zra zrs.length zrc) := C1.cell 2; have f1 : w1.frozen? ⟨wr.heap.size, 2, none⟩ = false := C1.frozen 2; obtain ⟨D1, E1, O1⟩ := box_set (j := 2) C1 (below_add HW0.out hb1 HW0.out.size) rfl (Nat.le_refl _) (.slice ra zrs.length rc); have R1 := own_set ho1 O1 (by simp); have g0 : (w1.setCell ⟨wr.heap.size, 2, none⟩ (.slice ra zrs.length rc)).cell? ⟨wr.heap.size, 3, none⟩ = some (.slice zsa zst.length zsc) := D1.cell 3; have HD1 := Lib.hid D1; have HE1 := Lib.hid E1; have HR1 := Lib.hid R1; clear hb1 ho1 C1 D1 E1 O1 R1)
        | (go_at_call 55; (with_reducible refine (HF2.out _ HE1.out).mono ?_); rintro e w2 ⟨u2, rfl, ho2, hb2⟩; obtain ⟨sa, sc, rfl, -, -⟩ := own_shape ho2; have C2 := HD1.out.below hb2; have f2 : w2.cell? ⟨wr.heap.size, 3, none⟩ = some (.slice zsa zst.length zsc) := C2.cell 3; have f3 : w2.frozen? ⟨wr.heap.size, 3, none⟩ = false := C2.frozen 3; obtain ⟨D2, E2, O2⟩ := box_set (j := 3) C2 (below_add HE1.out hb2 HE1.out.size) rfl (Nat.le_refl _) (.slice sa zst.length sc); have R2 := own_set (owns_below HR1.out hb2) O2 (by simp); have S2 := own_set ho2 O2 HD1.out.lt; have g1 : (w2.setCell ⟨wr.heap.size, 3, none⟩ (.slice sa zst.length sc)).cell? ⟨wr.heap.size, 4, none⟩ = some (.slice zpa zpt.length zpc) := D2.cell 4; have HD2 := Lib.hid D2; have HE2 := Lib.hid E2; have HR2 := Lib.hid R2; have HS2 := Lib.hid S2; clear hb2 ho2 C2 D2 E2 O2 R2 S2)
        | (go_at_call 56; (with_reducible refine (HF3.out _ HE2.out).mono ?_); rintro e w3 ⟨u3, rfl, ho3, hb3⟩; obtain ⟨pa, pc, rfl, -, -⟩ := own_shape ho3; have C3 := HD2.out.below hb3; have f4 : w3.cell? ⟨wr.heap.size, 4, none⟩ = some (.slice zpa zpt.length zpc) := C3.cell 4; have f5 : w3.frozen? ⟨wr.heap.size, 4, none⟩ = false := C3.frozen 4; obtain ⟨D3, E3, O3⟩ := box_set (j := 4) C3 (below_add HE2.out hb3 HE2.out.size) rfl (Nat.le_refl _) (.slice pa zpt.length pc); have R3 := own_set (owns_below HR2.out hb3) O3 (by simp); have S3 := own_set (owns_below HS2.out hb3) O3 HD1.out.lt; have P3 := own_set ho3 O3 HD2.out.lt; have HD3 := Lib.hid D3; have HE3 := Lib.hid E3; have HR3 := Lib.hid R3; have HS3 := Lib.hid S3; have HP3 := Lib.hid P3; obtain ⟨W3, hW3⟩ : ∃ W, w3.setCell ⟨wr.heap.size, 4, none⟩ (.slice pa zpt.length pc) = W := ⟨_, rfl⟩; rw [hW3] at HD3 HE3 HR3 HS3 HP3; have k0 : W3.cell? ⟨wr.heap.size, 0, none⟩ = some (.int .u8 zk) := HD3.out.cell 0; have k1 : W3.cell? ⟨wr.heap.size, 1, none⟩ = some (.int .i64 zn) := HD3.out.cell 1; have k2 : W3.cell? ⟨wr.heap.size, 2, none⟩ = some (.slice ra zrs.length rc) := HD3.out.cell 2; have k3 : W3.cell? ⟨wr.heap.size, 3, none⟩ = some (.slice sa zst.length sc) := HD3.out.cell 3; have k4 : W3.cell? ⟨wr.heap.size, 4, none⟩ = some (.slice pa zpt.length pc) := HD3.out.cell 4; have HOW := Lib.hid (HROW.out _ (below_add HE3.out (kbelow_one W3 (.cells (opcs zk zn ra zrs.length rc sa zst.length sc pa zpt.length pc) 51)) HE3.out.size)); have HBW := Lib.hid (below_add HE3.out (kbelow_one W3 (.cells (opcs zk zn ra zrs.length rc sa zst.length sc pa zpt.length pc) 51)) HE3.out.size); have HZO := Lib.hid (op_new (k := zk) (n := zn) HR3.out HS3.out HP3.out HWB.out (kbelow_one W3 (.cells (opcs zk zn ra zrs.length rc sa zst.length sc pa zpt.length pc) 51)) (by simp) (Nat.le_of_lt HD1.out.lt) (Nat.le_of_lt HD2.out.lt)); have HZN := Lib.hid (fun q (hq : (Value.slice ra zrs.length rc).ownBlock = some q) => (by have h9 := own_base HR3.out hq; rw [World.size_alloc] at h9; omega : wr.heap.size ≤ q)); clear hb3 ho3 C3 D3 E3 O3 R3 S3 P3)
        | (at_builtin; refine wpList_append_lies _ rfl (.tmp 27) (.tmp 29) 33 rfl 0 51 i0 _ 5 88 Try.underlying33 hi hz0 hz1 hz2 rfl (by decide) _ k (fl ozC ys) rfl HOW.out ⟨W3.heap.size, 0, none⟩ 1 1 (ozC.c ⟨zk, zn, ra, rc, zrs, sa, sc, zst, pa, pc, zpt⟩) rfl rfl (World.news_of_block (heap_alloc_new _ _)) (ozC.one _) (by decide) (by unfold maxLen; omega) (by omega) (Nat.zero_le _) _ rfl ?_; intro g cap w4 hown4 hgrow4 hat4 hlt4))
      go_roundw
      case rel => exact ⟨k + 1, _, _, _, HLT.out, by rw [List.length_append, HYL.out]; rfl, rfl, by go_num, Lib.hid (HR.out.next rfl HBW.out HZO.out HZN.out hgrow4 hown4 hat4 HYL.out (HEQ.out _ rfl))⟩
      case measure => have := HLT.out; simp [intOf]; omega
    · obtain rfl : k = zs.length := by omega
      go_wp2
      go_ret
      have hq := HR.out.eq
      rw [List.take_length] at hq
      exact ⟨_, ys, rfl, hq, HR.out.own, HR.out.bel⟩
end Go.Proofs.Ytmbjjaflgdfihaa
