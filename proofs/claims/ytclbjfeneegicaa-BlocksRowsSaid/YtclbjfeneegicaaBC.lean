
import Derived.Test.YtclbjfeneegicaaBB
/- BC: the reference's Join, Len, Cut -/
namespace Go.Proofs.Ytclbjfeneegicaa
open Go.RowKit
set_option linter.unusedVariables false
set_option maxRecDepth 100000

theorem ex_take {zs : List Bz} {k : Nat} (h : k < zs.length) : ex ((zs.take (k + 1)).map Bz.b) = ex ((zs.take k).map Bz.b) ++ List.replicate zs[k].n.toNat zs[k].s := by
  rw [bk_take h, ex_snoc]; rfl
theorem len_take {zs : List Bz} (hn : ∀ z ∈ zs, z.n ≤ 1125899906842624) (hl : zs.length ≤ 1000) (k : Nat) : (ex ((zs.take k).map Bz.b)).length ≤ 1125899906842624000 := by
  have := lenB_le (l := (zs.take k).map Bz.b) (m := 1000) (N := 1125899906842624) (fun b hb => by
    obtain ⟨x, hx, rfl⟩ := List.mem_map.1 hb
    exact hn _ (List.mem_of_mem_take hx)) (by decide) (by rw [List.length_map, List.length_take]; omega)
  unfold lenB at this
  omega
/-- Two cells of a row of blocks, at whatever world. -/
@[reducible] def Z2 (b o : Nat) (n : Int) (a : Option Addr) (l c : Nat) (w : World) : Prop := w.cell? ⟨b, o, none⟩ = some (.int .i64 n) ∧ w.cell? ⟨b, o + 1, none⟩ = some (.slice a l c)
theorem Z2.below {b o l c : Nat} {n : Int} {a : Option Addr} {w w' : World} (h : Z2 b o n a l c w) (hb : Below w.heap.size w w') : Z2 b o n a l c w' := ⟨cell_below hb h.1, cell_below hb h.2⟩
theorem Z2.off {S : Nat → Prop} {b o l c : Nat} {n : Int} {a : Option Addr} {w w' : World} (h : Z2 b o n a l c w) (ho : Off S w w') (hS : ¬ S b) : Z2 b o n a l c w' :=
  have hlt := World.block_lt_of_cell? w _ h.1
  have e : ∀ q, w'.cell? ⟨b, q, none⟩ = w.cell? ⟨b, q, none⟩ := fun q => World.cell?_of_block (w := w) (ho.block b hlt hS)
  ⟨(e _).trans h.1, (e _).trans h.2⟩
set_option maxHeartbeats 4000000 in
theorem rjoin_any (v : Value) (zs : List Bz) (w : World) (hv : Zrow w v zs) (hl : zs.length ≤ 1000) (hn : ∀ z ∈ zs, z.n ≤ 1125899906842624) (hs : ∀ z ∈ zs, z.s.length ≤ 1000) :
    Calls Try.prog 16 #[v] w fun e w' => ∃ a c zs', e = .returned (.slice a zs'.length c) ∧ OfK w (ex (zs.map Bz.b)) zs.length (.slice a zs'.length c) zs' w' := by
  obtain ⟨va, vc, rfl⟩ := hv.shape
  have HV := Lib.hid hv
  have HS := Lib.hid hs
  have HN := Lib.hid hn
  have HL := Lib.hid hl
  clear hv hs hn
  go_enter Try.func16, Try.ntmps16
  go_wp2
  go_loopw [3, 4] (fun s3 s4 wr => ∃ (k : Nat) (a : Option Addr) (c : Nat) (zs' : List Bz), k ≤ zs.length ∧ s4 = .int .i64 k ∧ s3 = .slice a zs'.length c ∧ Hid (OfK w (ex ((zs.take k).map Bz.b)) k (.slice a zs'.length c) zs' wr)) (fun s3 s4 _ => zs.length - (intOf s4).toNat)
  case atStart => exact ⟨0, none, 0, [], Nat.zero_le _, rfl, rfl, Lib.hid (OfK.start w)⟩
  case round =>
    obtain ⟨k, ua, uc, zs', hk, rfl, rfl, HK⟩ := hrel
    rename_i wr
    by_cases hlt : k < zs.length
    · obtain ⟨b, off, rfl, -, -, -, hbl, hat⟩ := HV.out.opn (by omega)
      obtain ⟨c0, c1, hs⟩ := hat k hlt
      have HBL := Lib.hid hbl
      have HZ := Lib.hid (show Z2 b (off + k * 2) zs[k].n zs[k].a zs[k].s.length zs[k].c wr.drew from ⟨cell_below (HK.out.bel.trans ((Below.refl wr.heap.size wr).drew.mono HK.out.bel.size)) c0, cell_below (HK.out.bel.trans ((Below.refl wr.heap.size wr).drew.mono HK.out.bel.size)) c1⟩)
      have HR := Lib.hid (show Arow wr.drew (.slice zs[k].a zs[k].s.length zs[k].c) zs[k].s from hs.below (HK.out.bel.trans ((Below.refl wr.heap.size wr).drew.mono HK.out.bel.size)) (Nat.le_refl _))
      have HK1 := Lib.hid (HK.out.below (Below.refl wr.heap.size wr).drew)
      have HT := Lib.hid (ex_take hlt)
      have HSL := Lib.hid (HS.out _ (List.getElem_mem hlt))
      have HNL := Lib.hid (HN.out _ (List.getElem_mem hlt))
      have HLT := Lib.hid (len_take HN.out HL.out k)
      obtain ⟨z, hz⟩ : ∃ z, zs[k] = z := ⟨_, rfl⟩
      rw [hz] at c0 c1 hs HZ HR HT HSL HNL
      clear hat hz hs c0 c1
      have HP := Lib.hid (radd_any w.heap.size zs' (.slice ua zs'.length uc) z.n z.a z.c z.s wr.drew HK1.out.own HK1.out.z0 HR.out HK1.out.bel.size HSL.out (by have := HK1.out.ln; omega) HK1.out.rep (by have := HLT.out; have := HNL.out; omega))
      have HU := Lib.hid (show ∀ q, (Value.slice ua zs'.length uc).ownBlock = some q → w.heap.size ≤ q from fun q hq => own_base HK1.out.own.row hq)
      go_wp2_with fail
      have hz0 := HZ.out
      go_region_held3 (fun w' => Z2 b (off + k * 2) z.n z.a z.s.length z.c w') (first | assumption | trivial)
        (first | (go_at_call 29; (with_reducible refine HP.out.mono ?_); rintro e w1 ⟨ra, rc, zs2, rfl, q1, q2, q3, q4, q5⟩; have HQ := Lib.hid (HK1.out.next q1 q2 q3 q4 q5); have hS1 := hz0.off q5 (fun hh => absurd (HU.out _ hh) (Nat.not_le.2 HBL.out)); clear q1 q2 q3 q4 q5))
      go_wp2_with fail
      go_roundw
      case rel => exact ⟨k + 1, ra, rc, zs2, by omega, by go_num, rfl, Lib.hid (by rw [HT.out]; exact HQ.out)⟩
      case measure => simp [intOf]; omega
    · obtain rfl : k = zs.length := by omega
      have HE := Lib.hid (show OfK w (ex (zs.map Bz.b)) zs.length (.slice ua zs'.length uc) zs' wr from by have := HK.out; rwa [List.take_of_length_le (Nat.le_refl _)] at this)
      clear HK
      go_wp2
      go_ret
      exact ⟨ua, uc, zs', rfl, HE.out⟩
theorem lenB_take {zs : List Bz} {k : Nat} (h : k < zs.length) (h0 : 0 ≤ zs[k].n) : lenB ((zs.take (k + 1)).map Bz.b) = lenB ((zs.take k).map Bz.b) + zs[k].n := by
  unfold lenB
  rw [ex_take h, List.length_append, List.length_replicate]
  omega
theorem rlen_any (v : Value) (zs : List Bz) (w : World) (hv : Zrow w v zs) (hl : zs.length ≤ 1000) (hn : ∀ z ∈ zs, 0 ≤ z.n ∧ z.n ≤ 1125899906842624) :
    Calls Try.prog 20 #[v] w fun e w' => e = .returned (.int .i64 (lenB (zs.map Bz.b))) ∧ w' = w := by
  obtain ⟨va, vc, rfl⟩ := hv.shape
  have HV := Lib.hid hv
  have HN := Lib.hid hn
  have HL := Lib.hid hl
  clear hv hn
  go_enter Try.func20, Try.ntmps20
  go_wp2
  go_loop [3, 4] (fun s3 s4 => ∃ (k : Nat), k ≤ zs.length ∧ s4 = .int .i64 k ∧ s3 = .int .i64 (lenB ((zs.take k).map Bz.b))) (fun s3 s4 => zs.length - (intOf s4).toNat)
  case atStart => exact ⟨0, Nat.zero_le _, rfl, rfl⟩
  case round =>
    obtain ⟨k, hk, rfl, rfl⟩ := hrel
    by_cases hlt : k < zs.length
    · obtain ⟨b, off, rfl, -, -, -, hbl, hat⟩ := HV.out.opn (by omega)
      obtain ⟨c0, -, -⟩ := hat k hlt
      have HNL := Lib.hid (HN.out _ (List.getElem_mem hlt))
      have HT := Lib.hid (lenB_take hlt HNL.out.1)
      have HLT := Lib.hid (len_take (fun z hz => (HN.out z hz).2) HL.out k)
      have HLP := Lib.hid (show 0 ≤ lenB ((zs.take k).map Bz.b) ∧ lenB ((zs.take k).map Bz.b) ≤ 1125899906842624000 from by have := HLT.out; unfold lenB; omega)
      obtain ⟨L, hL⟩ : ∃ L, lenB ((zs.take k).map Bz.b) = L := ⟨_, rfl⟩
      rw [hL] at HT HLP ⊢
      obtain ⟨z, hz⟩ : ∃ z, zs[k] = z := ⟨_, rfl⟩
      rw [hz] at c0 HT HNL
      clear hat hz hL
      have e1 : IntKind.i64.wrap (L + z.n) = L + z.n := by have := HLP.out; have := HNL.out; rw [IntKind.wrap_i64]; omega
      have e2 : L + z.n ≤ 9223372036854775807 := by have := HLP.out; have := HNL.out; omega
      have e3 : -9223372036854775808 ≤ L + z.n := by have := HLP.out; have := HNL.out; omega
      go_wp2
      go_round
      case rel => exact ⟨k + 1, by omega, by go_num, by rw [HT.out]⟩
      case measure => simp [intOf]; omega
    · obtain rfl : k = zs.length := by omega
      have HE := Lib.hid (show lenB ((zs.take zs.length).map Bz.b) = lenB (zs.map Bz.b) from by rw [List.take_of_length_le (Nat.le_refl _)])
      go_wp2
      go_ret
      exact ⟨by rw [← HE.out]; rfl, rfl⟩
end Go.Proofs.Ytclbjfeneegicaa
