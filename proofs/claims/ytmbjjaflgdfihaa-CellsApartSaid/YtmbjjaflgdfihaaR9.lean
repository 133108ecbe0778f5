
import Derived.Test.YtmbjjaflgdfihaaR6
import Derived.Test.YtmbjjaflgdfihaaR8
/- R9: known -/
namespace Go.Proofs.Ytmbjjaflgdfihaa
open Go.RowKit
set_option linter.unusedVariables false
set_option maxRecDepth 100000

def kE : List Key := [⟨1, false, 1, false, false, 0⟩, ⟨11, true, 2, false, false, 0⟩]
theorem kE_W : ∀ k ∈ kE, KeyW k := by
  intro k hk
  simp [kE] at hk
  rcases hk with rfl | rfl <;> exact ⟨by decide, by decide, by decide⟩
theorem kE_may : mayKs kE := by
  refine ⟨by decide, ?_, ?_⟩
  · intro k hk
    simp [kE] at hk
    rcases hk with rfl | rfl <;> decide
  · simp [Apart, kE]
theorem flat_kE : (flat kE).toArray = #[.int .i64 1, .bool false, .int .u8 1, .bool false, .bool false, .int .i64 0, .int .i64 11, .bool true, .int .u8 2, .bool false, .bool false, .int .i64 0] := rfl
theorem new_kE (w : World) :
    Calls Try.prog 6 #[.slice (some ⟨w.heap.size, 0, none⟩) 2 2] (w.alloc (.cells (flat kE).toArray 48)) fun e w' => ∃ s, e = .returned (.tuple #[.pointer (some s), .int .i64 0]) ∧ Sch w' (.pointer (some s)) kE ∧ Below w.heap.size w w' :=
  (new_yes (krow_built w _ kE (by decide)) kE_W kE_may).mono fun e w' ⟨s, h1, h2, h3⟩ => ⟨s, h1, h2, below_add (kbelow_one w _) h3 (by simp)⟩
def a11 : Att := ⟨11, 2, 2, 0, ⟨#[]⟩⟩
/-- The three cells, of which the last one has its set at a block. -/
def d3 (b : Nat) : List Cz := [⟨97, none, 0, []⟩, ⟨98, none, 0, []⟩, ⟨10, some ⟨b, 0, none⟩, 1, [a11]⟩]
theorem d3_o (b : Nat) : (d3 b).map Cz.o = [⟨97, []⟩, ⟨98, []⟩, ⟨10, [a11]⟩] := rfl
theorem a11_W : AttW a11 := ⟨by decide, by decide, by decide, by decide, by decide⟩
theorem d3_W (b : Nat) : ∀ z ∈ d3 b, CzW z := by
  intro z hz
  simp [d3] at hz
  rcases hz with rfl | rfl | rfl
  · exact ⟨by decide, by simp⟩
  · exact ⟨by decide, by simp⟩
  · exact ⟨show (Lit.int .i32 10).wf = true by decide, fun a ha => by obtain rfl := List.mem_singleton.1 ha; exact a11_W⟩
theorem d3_may : mayC kE [⟨97, []⟩, ⟨98, []⟩, ⟨10, [a11]⟩] = 0 := by decide
theorem d2_may : mayC kE [⟨97, []⟩, ⟨98, []⟩] = 6 := by decide
theorem d3_delta : deltaC [⟨97, []⟩, ⟨98, []⟩, ⟨10, [a11]⟩] = [⟨2, 0, [97, 98], [], []⟩, ⟨1, 1, [], [], [toC a11]⟩] := by
  have : deltaC ([⟨97, []⟩, ⟨98, []⟩] ++ [⟨10, [a11]⟩]) = _ := deltaC_snoc _ _
  rw [List.cons_append, List.cons_append, List.nil_append] at this
  rw [this]
  unfold lastC
  rw [diff_nil]
  decide
theorem two_ops {ys : List Oz} {p q : Opn} (h : ys.map Oz.o = [p, q]) : ∃ y z, ys = [y, z] ∧ y.o = p ∧ z.o = q := by
  match ys, h with
  | [y, z], h => exact ⟨y, z, rfl, by simpa using h⟩
/-- What Delta told of the three cells: two ops at a block. -/
theorem two_at {w : World} {F : Nat → Prop} {v : Value} {ys : List Oz} (ho : Oown F w v ys) (h : ys.map Oz.o = [⟨2, 0, [97, 98], [], []⟩, ⟨1, 1, [], [], [toC a11]⟩]) :
    ∃ b o c, v = .slice (some ⟨b, o, none⟩) 2 c ∧ 2 ≤ c ∧ c ≤ maxLen ∧ ∃ ra rc, ∀ W, Below w.heap.size w W → W.cell? ⟨b, o + 2, none⟩ = some (.slice ra 2 rc) ∧ W.cell? ⟨b, o + 5 + 1, none⟩ = some (.int .i64 1) := by
  obtain ⟨y, z, rfl, h1, h2⟩ := two_ops h
  obtain ⟨a, c, rfl⟩ := ho.orow.shape
  obtain ⟨b, o, rfl, -, hc, hm, hb, hat⟩ := ho.orow.row.ats (by simp)
  have g0 := hat 0 (by simp)
  have g1 := hat 1 (by simp)
  simp only [Nat.zero_mul, Nat.add_zero, Nat.one_mul, List.getElem_cons_zero, List.getElem_cons_succ] at g0 g1
  have e1 : y.rs.length = 2 := by have := congrArg Opn.rs h1; have e : y.rs = [97, 98] := this; rw [e]; rfl
  have e2 : z.n = 1 := congrArg Opn.n h2
  refine ⟨b, o, c, rfl, by simpa using hc, hm, y.ra, y.rc, fun W hW => ?_⟩
  obtain ⟨-, -, k2, -, -⟩ := g0.below hW
  obtain ⟨-, l1, -, -, -⟩ := g1.below hW
  rw [e1] at k2
  rw [e2] at l1
  exact ⟨k2, l1⟩
set_option maxHeartbeats 4000000 in
theorem known18_any (w : World) : Calls Try.prog 5 #[] w fun e w' => e = .returned (.bool true) ∧ Below w.heap.size w w' := by
  have HN := new_kE w
  rw [flat_kE] at HN
  have HN := Lib.hid HN
  have hrW : ∀ W : World, Drow ((W.alloc (.cells (aca a11) 46)).alloc (.cells #[.int .i32 97, .slice none 0 0, .int .i32 98, .slice none 0 0, .int .i32 10, .slice (some ⟨W.heap.size, 0, none⟩) 1 1] 41)) (.slice (some ⟨W.heap.size + 1, 0, none⟩) 3 3) (d3 W.heap.size) := fun W => by
    have := drow_built (W.alloc (.cells (aca a11) 46)) (d3 W.heap.size) 41 (show 3 ≤ maxLen by decide) (fun z hz => by
      simp [d3] at hz
      rcases hz with rfl | rfl | rfl
      · exact Row.nil _
      · exact Row.nil _
      · exact row_new0 W a11 46)
    rw [World.size_alloc] at this
    exact this
  have HR := Lib.hid hrW
  clear hrW
  go_enter Try.func5, Try.ntmps5
  go_wp2_with fail
  go_at_call 6
  refine HN.out.mono ?_
  rintro e w1 ⟨s, rfl, hs1, hb1⟩
  have hr1 := HR.out w1
  have hb2 := kbelow_two w1 (.cells (aca a11) 46) (.cells #[.int .i32 97, .slice none 0 0, .int .i32 98, .slice none 0 0, .int .i32 10, .slice (some ⟨w1.heap.size, 0, none⟩) 1 1] 41)
  have hd := cdelta_any _ _ _ hr1 (by simp [d3]) (fun z hz => by
    simp [d3] at hz
    rcases hz with rfl | rfl | rfl <;> simp)
  rw [d3_o, d3_delta] at hd
  simp only [World.size_alloc] at hd
  have HD := Lib.hid hd
  have HR1 := Lib.hid hr1
  have HS1 := Lib.hid (hs1.below hb2 (Nat.le_refl _))
  have HB1 := Lib.hid (below_add hb1 hb2 hb1.size)
  clear hs1 hb1 hb2 hr1 hd HN HR
  go_wp2_with fail
  go_at_call 10
  refine HD.out.mono ?_
  rintro e w3 ⟨v, ys, rfl, he, ho, hb3⟩
  obtain ⟨b3, o3, c3, rfl, hc3, hm3, ra, rc, hx⟩ := two_at ho he
  have HX := Lib.hid hx
  have hsz2 := HB1.out.size
  have HB3 := Lib.hid (below_add HB1.out (show Below _ _ w3 by simp only [World.size_alloc]; exact hb3) hsz2)
  have hb23 : Below (w1.heap.size + 1 + 1) ((w1.alloc (.cells (aca a11) 46)).alloc (.cells #[.int .i32 97, .slice none 0 0, .int .i32 98, .slice none 0 0, .int .i32 10, .slice (some ⟨w1.heap.size, 0, none⟩) 1 1] 41)) w3 := hb3
  have hs3 := HS1.out.below hb23 (by simp)
  have hr3 := HR1.out.below (by simp only [World.size_alloc]; exact hb23)
  have HM3 := Lib.hid (fun W (hb : Below w3.heap.size w3 W) => (cmay_any _ _ kE _ W (hs3.below hb (Nat.le_refl _)) (hr3.below hb) (d3_W _)).mono fun e w' h => (⟨by rw [h.1, d3_o, d3_may], below_add hb h.2 hb.size⟩ : e = .returned (.int .i64 0) ∧ Below w3.heap.size w3 w'))
  have HM2 := Lib.hid (fun W (hb : Below w3.heap.size w3 W) => (cmay_any _ _ kE _ W (hs3.below hb (Nat.le_refl _)) ((hr3.head (hi := 2) (by simp [d3])).below hb) (fun z hz => d3_W _ z (List.mem_of_mem_take hz))).mono fun e w' h => (⟨by rw [h.1]; exact congrArg (fun k => Ending.returned (.int .i64 k)) d2_may, below_add hb h.2 hb.size⟩ : e = .returned (.int .i64 6) ∧ Below w3.heap.size w3 w'))
  have HBL := Lib.hid (fun W (hb : Below w3.heap.size w3 W) => (blank_any W).mono fun e w' h => (⟨h.1, h.2.1.ats (by simp), below_add hb h.2.2 hb.size⟩ : _ ∧ _ ∧ Below w3.heap.size w3 w'))
  have HR0 := Lib.hid (Below.refl w3.heap.size w3)
  clear hs3 hr3 hb23 hsz2 hb3 ho he hx HS1 HR1 HB1 HD
  unfold maxLen at hm3
  go_wp2_with (first
    | (go_at_call 7; (with_reducible refine (HM2.out _ HA.out).mono ?_); rintro e w5 ⟨rfl, hb⟩; have HA2 := Lib.hid hb; obtain ⟨f0, f1⟩ := HX.out _ hb; clear hb)
    | (go_at_call 7; (with_reducible refine (HM3.out _ HR0.out).mono ?_); rintro e w4 ⟨rfl, hb⟩; have HA := Lib.hid hb; clear hb)
    | (go_at_call 13; (with_reducible refine (HBL.out _ HA6.out).mono ?_); rintro e w7 ⟨rfl, ⟨b7, o7, e7, -, -, -, -, hat7⟩, hb⟩; have HA7 := Lib.hid hb; injection e7 with e7; injection e7 with e7 e8; subst e7 e8; obtain ⟨g0, g1⟩ := hat7 0 (by simp); clear hb hat7)
    | (go_at_call 13; (with_reducible refine (HBL.out _ HA2.out).mono ?_); rintro e w6 ⟨rfl, -, hb⟩; have HA6 := Lib.hid hb; clear hb))
  go_ret
  exact ⟨rfl, below_add HB3.out HA7.out HB3.out.size⟩
end Go.Proofs.Ytmbjjaflgdfihaa
