
import Derived.Test.YtgckofoaiojocaaA10
namespace Go.Proofs.Ytgckofoaiojocaa
open Go.RowKit
set_option linter.unusedVariables false

theorem bl_drop (bs : List Int) (k : Nat) : bl (bs.drop k) = (bl bs).drop k := by
  show (bs.drop k).map (fun n => UInt8.ofNat n.toNat) = (bs.map fun n => UInt8.ofNat n.toNat).drop k
  rw [List.map_drop]

theorem next_facts {bs : List Int} {pos : Nat} {acc : List Int} {a c : Int} (hp : pos < bs.length) (hacc : (readL ((bl bs).drop pos)).map (fun t => acc ++ t) = readL (bl bs)) (h : nextGives (bs.drop pos) = (a, c)) :
    (c = 0 ∧ readL (bl bs) = none) ∨ (∃ wd : Nat, c = (wd : Int) ∧ 1 ≤ wd ∧ pos + wd ≤ bs.length ∧ 0 ≤ a ∧ a ≤ 1114111 ∧ (readL ((bl bs).drop (pos + wd))).map (fun t => (acc ++ [a]) ++ t) = readL (bl bs)) := by
  unfold nextGives at h
  rw [bl_drop] at h
  have hpl : pos < (bl bs).length := by rw [bl_len]; exact hp
  have hne : (bl bs).drop pos ≠ [] := by
    intro h0
    have := congrArg List.length h0
    rw [List.length_drop, List.length_nil] at this
    omega
  have hw := Lib.decodeL_width ((bl bs).drop pos)
  have hwl := Lib.decodeL_le _ hne
  have hr := Lib.decodeL_rune ((bl bs).drop pos)
  rw [List.length_drop, bl_len] at hwl
  split at h
  · rename_i hv
    obtain ⟨rfl, rfl⟩ := Prod.mk.inj h
    exact .inl ⟨rfl, read_off _ _ _ hpl hv hacc⟩
  · rename_i hv
    obtain ⟨rfl, rfl⟩ := Prod.mk.inj h
    exact .inr ⟨_, rfl, hw, by omega, by omega, by omega, read_on _ _ _ hpl hv hacc⟩

set_option maxHeartbeats 4000000 in
theorem rread_any (v : Value) (bs : List Int) (w : World) (hv : Ints .u8 w v bs) (hbb : ∀ b ∈ bs, 0 ≤ b ∧ b < 256) (hlen : bs.length ≤ 1000000) :
    Calls Try.prog 27 #[v] w (ReadPost w.heap.size bs w) := by
  obtain ⟨i0, hi, hz0, hz1, hz2⟩ := info_parts info21
  rcases hv with ⟨a, cap, rfl, rfl, hm, ha⟩ | ⟨b, off, cap, rfl, h0, h1, hm, hc⟩
  · go_enter Try.func27, Try.ntmps27
    go_wp2
    refine wp_loop_rounds 1 ?_
    rw [rounds_succ]
    go_wp2
    go_ret2
    exact ⟨Below.refl _ _, .inl ⟨[], _, _, rfl, rfl, World.ownsRow_nil _ _ _ _⟩⟩
  · have hmm := hm
    unfold maxLen at hm
    obtain ⟨B, hB⟩ : ∃ B, w.heap.size = B := ⟨_, rfl⟩
    have hbB : b < B := hB ▸ World.block_lt_of_cell? w _ (hc 0 h0)
    have HB := Lib.hid hB
    rw [hB]
    have hBle : B ≤ w.heap.size := by omega
    clear hB
    go_enter Try.func27, Try.ntmps27
    go_wp2
    go_loopw [4, 5] (fun v i wr => ∃ (pos : Nat) (acc : List Int) (n : Nat), i = .int .i64 pos ∧ wr.ownsRow B 21 1 v n (acc.map (Value.int .i32)) ∧ Below B w wr ∧ Hid ((readL ((bl bs).drop pos)).map (fun t => acc ++ t) = readL (bl bs)) ∧ acc.length ≤ pos ∧ pos ≤ bs.length) (fun _ i _ => bs.length - (intOf i).toNat)
    case atStart => exact ⟨0, [], 0, rfl, World.ownsRow_nil _ _ _ _, Below.refl _ _, by simp [Hid], by simp, by omega⟩
    case round =>
      obtain ⟨pos, acc, n, rfl, hown, hb, hacc, hal, hps⟩ := hrel
      have hsz := hb.size
      have hn : n ≤ 1000000 := by have e := hown.1; simp at e; omega
      by_cases hlt : pos < bs.length
      · have hc' : ∀ j, j < bs.length → wr.cell? ⟨b, off + j, none⟩ = some (.int .u8 (bs.getD j 0)) := fun j hj => (hb.cell (p := ⟨b, off + j, none⟩) hbB).trans (hc j hj)
        have hcut := Ints.cut hlt h1 hmm hc'
        have hbd : ∀ x ∈ bs.drop pos, 0 ≤ x ∧ x < 256 := fun x hx => hbb x (List.mem_of_mem_drop hx)
        have hnext := next_any _ (bs.drop pos) wr hcut hbd (by rw [List.length_drop]; omega) (by rw [List.length_drop]; omega)
        have hcp : pos < cap := by omega
        have hcp2 : ¬ cap = pos := by omega
        have HF := Lib.hid (fun a c => @next_facts bs pos acc a c hlt hacc.out)
        clear hc hc' hcut hbd hbb
        have HN := Lib.hid hnext
        clear hnext
        go_wp2_with (go_at_call 33; refine HN.out.mono ?_)
        rintro e w0 ⟨hb0, a, c, hg, rfl⟩
        have hb2 : Below B w w0 := hb.trans (hb0.mono (by omega))
        have hown0 := owns_below hown hb0
        have hsz0 := hb0.size
        rcases HF.out a c hg with ⟨rfl, hno⟩ | ⟨wd, rfl, hwd, hwl, ha0, ha1, hrel2⟩
        · have HNO := Lib.hid hno
          clear hno hg HF hown hown0
          go_wp2
          go_ret2
          exact ⟨HB.out.symm ▸ hb2, .inr ⟨HNO.out, rfl⟩⟩
        · have HR := Lib.hid hrel2
          have hq1 : ((wd : Int) == 0) = false := by rw [beq_eq_false_iff_ne]; omega
          clear hrel2 hg HF hown
          go_wp2_with (at_builtin; refine wpList_append_own _ rfl _ _ 51 rfl B 21 i0 (.int .i32 0) 1 4 Try.underlying51 hi hz0 hz1 hz2 rfl (by decide) _ _ _ rfl (hown0.alloc _) ⟨w0.heap.size, 0, none⟩ 1 1 [.int .i32 a] rfl rfl (cell_new _ _ _) (by intro u hu; simp at hu; subst hu; rfl) (by unfold maxLen; omega) (by omega) (by simp; omega) ?_; intro v' w1 hown1 hgrow1 _)
          have hb3 : Below B w w1 := (hb2.alloc (by omega) _).grown hgrow1 (by simp; omega) (fun j hj => (hown0.lt j hj).1)
          clear hgrow1 hown0 hb0
          go_wp2
          go_roundw
          case rel => exact ⟨pos + wd, acc ++ [a], n + 1, by go_num, by simpa using hown1, hb3, HR, by simp; omega, hwl⟩
          case measure => simp [intOf]; omega
      · have HR := Lib.hid (read_end (bl bs) pos acc (by rw [bl_len]; exact hlt) hacc.out)
        go_wp2
        go_ret2
        exact ⟨HB.out.symm ▸ hb, .inl ⟨acc, _, _, HR.out, rfl, hown⟩⟩
end Go.Proofs.Ytgckofoaiojocaa
