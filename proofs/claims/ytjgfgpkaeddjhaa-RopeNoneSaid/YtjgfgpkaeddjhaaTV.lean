
import Derived.Test.YtjgfgpkaeddjhaaTU
/- TV: a new tree; what stands behind a place as a tree of its own; one tree's things behind another one's -/
namespace Go.Proofs.Ytjgfgpkaeddjhaa
open Go.RowKit
set_option linter.unusedVariables false
set_option maxRecDepth 100000

theorem wp_box_row {P : Program} {op : Oper} {a : Act} {w : World} {K : Act → World → Prop} {Q : Exit → Act → World → Prop} (ty : TypeId) (x : Operand) (ho : op.op = .box ty x) (cells : Array Value) (hx : a.eval x = .agg cells)
    (h : K (a.put op.dst (.pointer (some ⟨w.heap.size, 0, none⟩))) (w.alloc (.cells cells ty))) : op.wp P a w K Q := by
  have hrun : (execOp a.eval op).run P w = .ok (.value (.pointer (some ⟨w.heap.size, 0, none⟩))) (w.alloc (.cells cells ty)) := by
    simp [execOp, ho, hx, Instr.box, newVar, newRow, Value.cells]
  unfold Oper.wp
  rw [hrun]
  exact h
section
variable {Q : Nat} {S : Nat → Prop} {tb : Nat} {root : Int} {F : List TC} {w w' W : World}
theorem treenew_any (w : World) : Calls Try.prog 54 #[.agg #[.func (.func 63) #[] #[], .func (.func 65) #[] #[], .func (.func 67) #[] #[]]] w fun e w' => ∃ tb : Nat, e = .returned (.pointer (some ⟨tb, 0, none⟩)) ∧ Sq 0 (fun k => w.heap.size ≤ k) tb (-1) [] w' ∧ Below w.heap.size w w' := by
  go_enter Try.func54, Try.ntmps54
  go_wp2_with fail
  refine with_worldT (fun W => Cb w.heap.size 91 #[.func (.func 63) #[] #[], .func (.func 65) #[] #[], .func (.func 67) #[] #[]] W ∧ Below w.heap.size w W) ⟨cb_new w _ _, (Below.refl _ w).alloc (Nat.le_refl _) _⟩ fun W0 hW0 => ?_
  have B_0 := Lib.hid hW0.2.drew
  have K_0 := Lib.hid (show Cb w.heap.size 91 #[.func (.func 63) #[] #[], .func (.func 65) #[] #[], .func (.func 67) #[] #[]] W0.drew from hW0.1.below (below_drew _))
  clear hW0
  refine h_start (S := fun W => Cb w.heap.size 91 #[.func (.func 63) #[] #[], .func (.func 65) #[] #[], .func (.func 67) #[] #[]] W) (by kernel_rfl) ?_
  refine h_val (i := 0) (v := .agg #[.func (.func 63) #[] #[], .func (.func 65) #[] #[], .func (.func 67) #[] #[]]) rfl (by kernel_rfl) (by kernel_rfl) (by kernel_rfl) (fun _ _ _ h => h) (by rfl) (fun wz hS => ?_) K_0.out ?_
  · skip
    exact x_load 91 (.tmp 1) rfl _ rfl _ _ _ _ hS Try.underlying91 rfl (by show _ = some 3; kernel_rfl)
  go_frame
  refine h_all1 (i := 1) (by kernel_rfl) ?_
  refine o_call (f := 75) (args := #[]) rfl (by rfl) (by go_simp) ?_
  refine (new_N W0.drew).mono ?_
  rintro e w1 ⟨an, rfl, ha, b1, z1⟩
  have HA1 := Lib.hid ha
  have K_1 := Lib.hid (K_0.out.below b1)
  have B_1 := Lib.hid (below_add B_0.out b1 B_0.out.size)
  clear ha b1 z1
  refine ⟨_, rfl, K_1.out, ?_⟩
  go_frame
  refine h_all1 (i := 2) (by kernel_rfl) ?_
  refine o_call (f := 76) (args := #[]) rfl (by rfl) (by go_simp) ?_
  refine (new_X w1).mono ?_
  rintro e w2 ⟨cn, rfl, hc, b2, z2⟩
  have HC2 := Lib.hid hc
  have HA2 := Lib.hid (HA1.out.below b2)
  have K_2 := Lib.hid (K_1.out.below b2)
  have B_2 := Lib.hid (below_add B_1.out b2 B_1.out.size)
  have Z2 := Lib.hid b2.size
  clear hc b2 z2
  refine ⟨_, rfl, K_2.out, ?_⟩
  go_frame
  refine h_val (i := 3) (v := .agg #[.func (.func 63) #[] #[], .func (.func 65) #[] #[], .func (.func 67) #[] #[], .pointer (some ⟨an, 0, none⟩), .pointer (some ⟨cn, 0, none⟩), .int .i64 (-1)]) rfl (by kernel_rfl) (by kernel_rfl) (by kernel_rfl) (fun _ _ _ h => h) (by rfl) (fun wz hS => ?_) K_2.out ?_
  · skip
    go_simp
  go_frame
  refine h_all1 (i := 4) (by kernel_rfl) ?_
  refine o_step rfl (by rfl) ?_
  refine wp_box_row 95 (.tmp 6) rfl #[.func (.func 63) #[] #[], .func (.func 65) #[] #[], .func (.func 67) #[] #[], .pointer (some ⟨an, 0, none⟩), .pointer (some ⟨cn, 0, none⟩), .int .i64 (-1)] rfl ?_
  have K_3 := Lib.hid (K_2.out.alloc (.cells #[.func (.func 63) #[] #[], .func (.func 65) #[] #[], .func (.func 67) #[] #[], .pointer (some ⟨an, 0, none⟩), .pointer (some ⟨cn, 0, none⟩), .int .i64 (-1)] 95))
  have B_3 := Lib.hid (B_2.out.alloc B_2.out.size (.cells #[.func (.func 63) #[] #[], .func (.func 65) #[] #[], .func (.func 67) #[] #[], .pointer (some ⟨an, 0, none⟩), .pointer (some ⟨cn, 0, none⟩), .int .i64 (-1)] 95))
  have V3 := Lib.hid (cb_new w2 95 #[.func (.func 63) #[] #[], .func (.func 65) #[] #[], .func (.func 67) #[] #[], .pointer (some ⟨an, 0, none⟩), .pointer (some ⟨cn, 0, none⟩), .int .i64 (-1)])
  have HA3 := Lib.hid (HA2.out.below (below_alloc1 w2 (.cells #[.func (.func 63) #[] #[], .func (.func 65) #[] #[], .func (.func 67) #[] #[], .pointer (some ⟨an, 0, none⟩), .pointer (some ⟨cn, 0, none⟩), .int .i64 (-1)] 95)))
  have HC3 := Lib.hid (HC2.out.below (below_alloc1 w2 (.cells #[.func (.func 63) #[] #[], .func (.func 65) #[] #[], .func (.func 67) #[] #[], .pointer (some ⟨an, 0, none⟩), .pointer (some ⟨cn, 0, none⟩), .int .i64 (-1)] 95)))
  refine ⟨K_3.out, ?_⟩
  go_frame
  refine h_val (i := 5) (v := .pointer (some ⟨w2.heap.size, 0, none⟩)) rfl (by kernel_rfl) (by kernel_rfl) (by kernel_rfl) (fun _ _ _ h => h) (by rfl) (fun wz hS => ?_) K_3.out ?_
  · skip
    go_simp
  go_frame
  refine h_done (by kernel_rfl) ?_
  go_wp2
  go_ret
  refine ⟨w2.heap.size, rfl, ⟨⟨an, cn, _, _, newA, newA, ⟨V3.out, HA3.out, HC3.out, fun k hk => ?_, fun k hk => ?_, ?_, fun k hk hv => ?_, fun hk => ?_, fun hk => ?_, fun k hk => ?_, fun k hk => ?_⟩, has_new⟩, Nat.le_refl _⟩, B_3.out⟩
  · have := B_0.out.size; have := hk.1; show w.heap.size ≤ k; omega
  · have := B_1.out.size; have := hk.1; show w.heap.size ≤ k; omega
  · exact B_2.out.size
  · have := hk.2; have := hv.1; omega
  · have := hk.2; have := Z2.out; omega
  · have := hk.2; omega
  · have h2 := hk.2; have := Z2.out; rw [World.size_alloc]; omega
  · have h2 := hk.2; rw [World.size_alloc]; omega
theorem blank_any (w : World) : Calls Try.prog 44 #[] w fun e w' => ∃ tb : Nat, e = .returned (.pointer (some ⟨tb, 0, none⟩)) ∧ Sq 0 (fun k => w.heap.size ≤ k) tb (Tr.nil : TC).id [.nil] w' ∧ Below w.heap.size w w' := by
  have HN := Lib.hid (treenew_any w)
  go_enter Try.func44, Try.ntmps44
  go_wp2_with (go_at_call 54; refine HN.out.mono ?_; rintro e w1 ⟨tb, rfl, ss, bb⟩; have SS := Lib.hid ss; have BB := Lib.hid bb; clear ss bb)
  go_ret
  exact ⟨tb, rfl, ⟨SS.out.1.nil, by simp [tot, Tr.el]⟩, BB.out⟩
theorem Sq.cut (h : Sq Q S tb root F w) : Sq Q (fun k => S k ∧ k < w.heap.size) tb root F w := ⟨h.1.cut, h.2⟩
theorem Sq.off {X : Nat → Prop} (h : Sq Q S tb root F w) (ho : Off X w w') (hd : ∀ k, S k → ¬ X k) : Sq Q S tb root F w' := ⟨h.1.off ho hd, h.2⟩
theorem Sq.ways (h : Sq Q S tb root F w) : w.cell? ⟨tb, 0, none⟩ = some (.func (.func 63) #[] #[]) ∧ w.cell? ⟨tb, 1, none⟩ = some (.func (.func 65) #[] #[]) ∧ w.cell? ⟨tb, 2, none⟩ = some (.func (.func 67) #[] #[]) := by
  obtain ⟨⟨an, cn, U, V, A, C, h1, h2⟩, h3⟩ := h
  exact ⟨h1.cells.1, h1.cells.2.1, h1.cells.2.2.1⟩
theorem Sq.tS (h : Sq Q S tb root F w) : S tb ∧ tb < w.heap.size := by
  obtain ⟨⟨an, cn, U, V, A, C, h1, h2⟩, h3⟩ := h
  exact ⟨h1.tS, h1.lt⟩
/-- S, and what is made from now on. -/
def UpS (S : Nat → Prop) (w : World) : Nat → Prop := fun k => S k ∨ w.heap.size ≤ k
theorem ups_up (S : Nat → Prop) (w : World) : Up (UpS S w) w := fun k hk => .inr hk
theorem Off.unup (h : Off (UpS S w) w w') : Off S w w' := Off.cut h
theorem ZZ5 {z : Nat} {a b : World} (h : Below z a b) : a.heap.size ≤ b.heap.size := h.size
theorem heap_alloc_map (w : World) : (w.alloc (.map #[] 0)).heap[w.heap.size]? = some (.map #[] 0) := heap_alloc_new w _
set_option maxHeartbeats 2000000 in
theorem tsplit_any (R : TC) (i : Nat) (hi : i ≤ (R.el Wc).length) (h : Sq Q S tb R.id [R] w) (hlt : ∀ k, S k → k < w.heap.size) (hQ : Q + 32 ≤ 200000) :
    Calls Try.prog 36 #[.pointer (some ⟨tb, 0, none⟩), .int .i64 (i : Nat)] w fun e w' => ∃ (ob : Nat) (a b : TC) (S1 S2 : Nat → Prop), e = .returned (.pointer (some ⟨ob, 0, none⟩)) ∧ a.el Wc = (R.el Wc).take i ∧ b.el Wc = (R.el Wc).drop i ∧
      Sq Q S1 tb a.id [a] w' ∧ Sq Q S2 ob b.id [b] w' ∧ (∀ k, S1 k → UpS S w k ∧ k < w'.heap.size) ∧ (∀ k, S2 k → w.heap.size ≤ k ∧ k < w'.heap.size) ∧ (∀ k, S1 k → ¬ S2 k) ∧ Off S w w' := by
  have hu := h.mono (S' := UpS S w) (fun k hk => .inl hk)
  have HS := Lib.hid (split_any R i hu (ups_up S w) (by omega))
  obtain ⟨c5, -⟩ := h.root5
  have HQ := Lib.hid hQ
  have HLT := Lib.hid hlt
  have HT := Lib.hid h.tS
  have HTOT : Hid ((R.el Wc).length ≤ Q) := Lib.hid (by have := h.2; rw [tot_cons] at this; omega)
  have hmm := @run_makeMap Try.prog
  clear h hu hlt hQ
  go_enter Try.func36, Try.ntmps36
  go_wp2_with (first
    | (go_at_call 53; refine HS.out.mono ?_; clear HS c5; rintro e w3 ⟨a, b, rfl, ea, eb, ss, oo⟩; have EA := Lib.hid ea; have EB := Lib.hid eb; have S3 := Lib.hid ss; have O3 := Lib.hid oo; obtain ⟨c5, f5⟩ := ss.root5; have S4 := Lib.hid (ss.setRoot a.id).1; have O4 := Lib.hid (oo.seq (ss.setRoot a.id).2); obtain ⟨x0, x1, x2⟩ := (ss.setRoot a.id).1.ways; clear ss oo ea eb)
    | (go_at_call 54; refine (treenew_any _).mono ?_; clear c5 f5 x0 x1 x2; rintro e w5 ⟨ob, rfl, sn, bn⟩; have S5 := Lib.hid (S4.out.below bn); have O5 := Lib.hid (O4.out.below_r bn); have N5 := Lib.hid sn; have B5 := Lib.hid bn; clear sn bn; have Z4 := Lib.hid (show w.heap.size ≤ (w3.setCell ⟨tb, 5, none⟩ (.int .i64 a.id)).heap.size from O4.out.size); have A6 := Lib.hid (((S4.out.cut).below B5.out).below (below_alloc1 w5 (.map #[] 0))); have Z5 := Lib.hid (ZZ5 B5.out); clear B5; generalize (w3.setCell ⟨tb, 5, none⟩ (.int .i64 a.id)).heap.size = z4 at *; have N6 := Lib.hid ((N5.out.cut.below (below_alloc1 w5 (.map #[] 0))).mono (S' := fun k => (z4 ≤ k ∧ k < w5.heap.size) ∨ w5.heap.size + 1 ≤ k) (fun k hk => .inl hk)); obtain ⟨⟨an, cn, U, V, A, C, ht, hh⟩, -⟩ := A6.out; have HB := Lib.hid (hh.inn b (by simp)); have T6 := Lib.hid ht; clear ht hh)
    | (go_at_call 55; refine (adopt_any b 0 (fun k => (z4 ≤ k ∧ k < w5.heap.size) ∨ w5.heap.size + 1 ≤ k) [] _ _ an cn U V _ A C N6.out (fun k hk => .inr (by simpa using hk)) T6.out HB.out (fun k hk hl => by have := hk.2; have := Z5.out; rcases hl with hl | hl <;> omega) (fun k hk => by have := hk.2; have := Z5.out; rw [World.size_alloc]; omega) (heap_alloc_map w5) (fun hl => by rcases hl with hl | hl <;> omega) (by have := HQ.out; have := HTOT.out; rw [EB.out, List.length_drop]; omega)).mono ?_; rintro e w7 ⟨T', rfl, -, eT, ss, oo⟩; have ET := Lib.hid eT; have N7 := Lib.hid ss; have O7 := Lib.hid oo; have A7 := Lib.hid (A6.out.off oo (fun k hk hl => by have := hk.2; have := Z5.out; rcases hl with hl | hl <;> omega)); obtain ⟨c5, f5⟩ := ss.root5; have N8 := Lib.hid (ss.setRoot T'.id).1; have O8 := Lib.hid (ss.setRoot T'.id).2; have A8 := Lib.hid (A7.out.off (ss.setRoot T'.id).2 (fun k hk hl => by have := hk.2; have := Z5.out; rcases hl with hl | hl <;> omega)); clear eT ss oo)
    | (go_at_call 56; refine (drop_q b (A8.out.swap.mono (S' := UpS (fun k => UpS S w k ∧ k < z4) _) (fun k hk => .inl hk)) (ups_up _ _)).mono ?_; clear c5 f5; rintro e w9 ⟨rfl, ss, oo⟩; have A9 := Lib.hid ss; have O9 := Lib.hid oo; clear ss oo))
  go_ret
  have hz8 := O8.out.size
  have hz7 := O7.out.size
  rw [World.size_alloc] at hz7
  have hz9 := O9.out.size
  have hz5 := Z5.out
  have hz4 := Z4.out
  refine ⟨ob, a, T', _, _, rfl, EA.out, ET.out.trans EB.out, A9.out.cut, (N8.out.cut.off O9.out (fun k hk hl => ?_)).weak ?_, fun k hk => ⟨?_, hk.2⟩, fun k hk => ⟨?_, ?_⟩, fun k hk hl => ?_, ?_⟩
  · have h8 := hk.2
    rcases hl with hl | hl
    · have := hl.2
      rcases hk.1 with hk | hk <;> omega
    · omega
  · rw [EB.out, List.length_drop]; have := HTOT.out; omega
  · rcases hk.1 with h | h
    · exact h.1
    · exact .inr (by omega)
  · rcases hk.1 with h | h <;> omega
  · have := hk.2; omega
  · have h8 := hl.2
    rcases hk.1 with h | h
    · have := h.2
      rcases hl.1 with hl | hl <;> omega
    · omega
  · have a1 : Off (UpS S w) w w5 := O5.out
    have a2 : Off (UpS S w) w (w5.alloc (.map #[] 0)) := a1.below_r (below_alloc1 w5 _)
    have a3 := a2.seq (O7.out.mono (S' := UpS S w) (fun k hk => .inr (by rcases hk with h | h <;> omega)))
    have a4 := a3.seq (O8.out.mono (S' := UpS S w) (fun k hk => .inr (by rcases hk with h | h <;> omega)))
    have a5 := a4.seq (O9.out.mono (S' := UpS S w) (fun k hk => by
      rcases hk with h | h
      · exact h.1
      · exact .inr (by omega)))
    exact a5.unup
end
end Go.Proofs.Ytjgfgpkaeddjhaa
