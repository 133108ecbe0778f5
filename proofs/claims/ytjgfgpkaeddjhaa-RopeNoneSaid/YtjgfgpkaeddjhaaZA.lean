
import Derived.Test.YtjgfgpkaeddjhaaUQ
import Derived.Test.YtjgfgpkaeddjhaaUW
/- ZA: what the reference says of an insertion into a rope without runes -/
namespace Go.Proofs.Ytjgfgpkaeddjhaa
open Go.RowKit
set_option linter.unusedVariables false
set_option maxRecDepth 100000
/-- append's second type, of a slice like the first, does nothing. -/
theorem run_append_types {P : Program} {w : World} {t tx ty e e2 : TypeId} (ht : P.underlying t = some (.slice e)) (hx : P.underlying tx = some (.slice e2)) (v u : Value) :
    (Builtin.append_ #[t, tx] ty #[v, u]).run P w = (Builtin.append_ #[t, t] ty #[v, u]).run P w := by
  unfold Builtin.append_
  cases v <;> simp [run_underlying ht, run_underlying hx]
theorem wpList_append_intsT {P : Program} {w : World} {ops : Array Oper} {rest : List Oper} {o : Oper} {a : Act} {Q : Exit → Act → World → Prop} (hgd : o.guard = none) (s x : Operand) (t tx e2 : TypeId)
    (ho : o.op = .call { callee := .builtin .append, args := #[s, x], argTypes := #[t, tx] })
    (base : Nat) (e : TypeId) (i : TypeInfo) (z : Value) (bytes : Nat) (ht : P.underlying t = some (.slice e)) (htx : P.underlying tx = some (.slice e2)) (hi : P.info? e = some i) (hz : i.zero = some z)
    (hsize : i.size = 1) (hby : i.bytes = bytes) (hzs : z.cells.size = 1)
    (v : Value) (n : Nat) (cs : List Value) (hs : a.eval s = v) (hown : w.ownsRow base e 1 v n cs)
    (u : Value) (k : IntKind) (ys : List Int) (hx : a.eval x = u) (hu : Ints k w u ys)
    (h63 : n + ys.length ≤ maxLen) (hbytes : (n + ys.length) * bytes ≤ 140737488355328) (hbase : base ≤ w.heap.size)
    (h : ∀ v' w', w'.ownsRow base e 1 v' (n + ys.length) (cs ++ ys.map (Value.int k)) → w.grownBy w' v.ownBlock → wpList P ops Q rest (a.put o.dst v') w') : wpList P ops Q (o :: rest) a w := by
  obtain ⟨v', w', hr, q1, q2⟩ : ∃ v' w', (Builtin.append_ #[t, t] o.type #[v, u]).run P w = .ok v' w' ∧ w'.ownsRow base e 1 v' (n + ys.length) (cs ++ ys.map (Value.int k)) ∧ w.grownBy w' v.ownBlock := by
    rcases hu with ⟨ad, cap, rfl, rfl, hm, hc0⟩ | ⟨b, off, cap, rfl, h0, h1, hm, hc⟩
    · cases ad with
      | none =>
        obtain rfl := hc0 rfl
        exact ⟨v, w, run_append_owned_none (P := P) (w := w) base t o.type e i 1 ht hi v n cs hown, by simpa using hown, grown_refl _ _⟩
      | some ad =>
        obtain ⟨v', w', hr, q1, q2, -⟩ := run_append_own (P := P) w base t o.type e i z 1 bytes ht hi hz hsize hby hzs (by decide) v n cs hown ad 0 cap [] rfl (by intro j u hj; simp at hj) (by intro u hu; cases hu) h63 hbytes hbase
        exact ⟨v', w', hr, by simpa using q1, q2⟩
    · obtain ⟨v', w', hr, q1, q2, -⟩ := run_append_own (P := P) w base t o.type e i z 1 bytes ht hi hz hsize hby hzs (by decide) v n cs hown ⟨b, off, none⟩ ys.length cap (ys.map (Value.int k)) (by simp) (by
        intro j u hj
        have hjl : j < ys.length := by
          have := (List.getElem?_eq_some_iff.1 hj).1
          simpa using this
        rw [Go.WideShapes.add_plain, hc j hjl]
        simp [List.getD, hjl] at hj ⊢
        exact hj) (ints_cells _) h63 hbytes hbase
      exact ⟨v', w', hr, q1, q2⟩
  refine wpList_plain hgd fun K hK => ?_
  have hr2 := (run_append_types (P := P) (w := w) (ty := o.type) ht htx v u).trans hr
  unfold Oper.wp
  simp [execOp, ho, resolve, invoke, builtin, hs, hx, hr2, Result.andThen]
  exact hK _ _ (h v' w' q1 q2)
theorem owns_built0 (w : World) (e : TypeId) : (w.alloc (.cells #[] e)).ownsRow w.heap.size e 1 (.slice (some ⟨w.heap.size, 0, none⟩) 0 0) 0 [] :=
  ⟨rfl, .inr ⟨w.heap.size, 0, #[], rfl, Nat.le_refl _, heap_alloc_new w _, Nat.le_refl _, Nat.zero_le _, rfl, rfl⟩⟩
theorem ints_zero (w : World) (a : Addr) (k : IntKind) : Ints k w (.slice (some a) 0 0) [] := .inl ⟨some a, 0, rfl, rfl, by simp, fun h => by cases h⟩
theorem all_bad {m : List Int} {k : Nat} (hlt : k < m.length) (h : code (m.getD k 0) = false) : m.all code = false := by
  rw [List.all_eq_false]
  refine ⟨_, List.getElem_mem hlt, ?_⟩
  simp [List.getD, hlt] at h
  simp [h]
theorem insL0_len (m : List Int) (i : Int) : (insL [] m i).length = if insE [] m i = 0 then m.length else 0 := by
  unfold insL
  split <;> simp
theorem info32z : (Try.prog.info? 21).map (fun i => (i.zero, i.size, i.bytes)) = some (some (.int .i32 0), 1, 4) := by kernel_rfl
set_option maxHeartbeats 4000000 in
theorem rins_any (b0 : Nat) (i : Int) (v : Value) (m : List Int) (w : World) (hm : Ints .i32 w v m) (hl : m.length ≤ 100) {E : Int} (hE : insE [] m i = E) {n : Nat} (hn : (insL [] m i).length = n) :
    Calls Try.prog 15 #[.slice (some ⟨b0, 0, none⟩) 0 0, .int .i64 i, v] w fun e w' => ∃ a c, e = .returned (.tuple #[.slice a n c, .int .i64 E]) ∧ Below w.heap.size w w' := by
  subst hE
  rw [insL0_len] at hn
  obtain ⟨i0, hi, hz0, hz1, hz2⟩ := info_parts info32z
  obtain ⟨a, cap, rfl⟩ := hm.shape
  have HM := Lib.hid hm
  have hlen := hm.len
  clear hm
  go_enter Try.func15, Try.ntmps15
  go_wp2
  go_loop [8] (fun s => ∃ k : Nat, k ≤ m.length ∧ s = .int .i64 k ∧ Hid ((m.take k).all code = true)) (fun s => m.length - (intOf s).toNat)
  case atStart => exact ⟨0, Nat.zero_le _, rfl, Lib.hid (by simp)⟩
  case round =>
    obtain ⟨k, hk, rfl, HA⟩ := hrel
    have p0 : (0 : Int) ≤ (k : Int) := by omega
    by_cases hlt : k < m.length
    · obtain ⟨b, off, rfl, -, hxc, hcm, hc⟩ := HM.out.opened (by omega)
      have hck := hc k hlt
      have p1 : (k : Int) < m.length := by omega
      have ST := Lib.hid (fun h2 => all_take_succ hlt HA.out h2)
      have BD := Lib.hid (fun h2 => all_bad hlt h2)
      obtain ⟨r, hr⟩ : ∃ r, m.getD k 0 = r := ⟨_, rfl⟩
      rw [hr] at hck ST BD
      obtain ⟨c, hcc⟩ : ∃ c, code r = c := ⟨_, rfl⟩
      have HC := Lib.hid (fun w => rcode_any r w)
      rw [hcc] at HC ST BD
      clear hc hr hcc
      cases c
      · have BD2 := Lib.hid (insE_bad (l := []) (i := i) (BD.out rfl))
        clear BD ST
        go_wp2_with (go_at_call 37; refine (HC.out _).mono ?_; rintro e w1 ⟨rfl, rfl⟩)
        go_ret2
        rw [BD2.out, if_neg (by decide)] at hn
        subst hn
        exact ⟨_, _, by rw [BD2.out]; rfl, Below.refl _ _⟩
      · have ST2 := Lib.hid (ST.out rfl)
        clear BD ST
        go_wp2_with (go_at_call 37; refine (HC.out _).mono ?_; rintro e w1 ⟨rfl, rfl⟩)
        go_round
        case rel => exact ⟨k + 1, by omega, by go_num, ST2⟩
        case measure => simp [intOf]; omega
    · obtain rfl : k = m.length := by omega
      have hall : m.all code = true := by have := HA.out; rwa [List.take_of_length_le (Nat.le_refl _)] at this
      clear HA hlt
      by_cases h0 : i < 0
      · have g1 : decide (i < 0) = true := decide_eq_true h0
        have EE := Lib.hid (insE_no (l := []) (i := i) hall (by simp; omega))
        rw [EE.out, if_neg (by decide)] at hn
        subst hn
        clear h0 hall
        go_wp2
        go_ret2
        exact ⟨⟨_, _, by rw [EE.out]; rfl⟩, Below.refl _ _⟩
      · have g1 : decide (i < 0) = false := decide_eq_false h0
        by_cases h1 : 0 < i
        · have g2 : decide (0 < i) = true := decide_eq_true h1
          have EE := Lib.hid (insE_no (l := []) (i := i) hall (by simp; omega))
          rw [EE.out, if_neg (by decide)] at hn
          subst hn
          clear h0 h1 hall
          go_wp2
          go_ret2
          exact ⟨⟨_, _, by rw [EE.out]; rfl⟩, Below.refl _ _⟩
        · obtain rfl : i = 0 := by omega
          have EE := Lib.hid (insE_ok (l := []) (i := 0) hall (by omega) (by simp))
          rw [EE.out, if_pos rfl] at hn
          subst hn
          clear h0 h1 g1 hall
          have O1 := Lib.hid (owns_built0 w 21)
          have M1 := Lib.hid (HM.out.below (below_alloc1 w (.cells #[] 21)))
          have B1 := Lib.hid (below_alloc1 w (.cells #[] 21))
          go_wp2_with (first
            | (at_builtin; refine wpList_append_intsT rfl (.tmp 32) (.tmp 35) 39 39 21 rfl w.heap.size 21 i0 (.int .i32 0) 4 Try.underlying39 Try.underlying39 hi hz0 hz1 hz2 rfl _ 0 [] rfl O1.out _ .i32 [] rfl (ints_zero _ _ _) (by simp [maxLen]) (by simp) (by rw [World.size_alloc]; omega) ?_; intro v1 w1 own1 gr1; have O2 := Lib.hid (show w1.ownsRow w.heap.size 21 1 v1 0 [] from own1); have B2 := Lib.hid (B1.out.grown gr1 B1.out.size (fun j hj => (O1.out.lt j hj).1)); have M2 := Lib.hid (HM.out.below B2.out); clear own1 gr1)
            | (at_builtin; refine wpList_append_intsT rfl (.tmp 37) (.tmp 38) 39 22 21 rfl w.heap.size 21 i0 (.int .i32 0) 4 Try.underlying39 Try.underlying22 hi hz0 hz1 hz2 rfl _ 0 [] rfl O2.out _ .i32 m rfl M2.out (by unfold maxLen; omega) (by omega) B2.out.size ?_; intro v2 w2 own2 gr2; have B3 := Lib.hid (B2.out.grown gr2 B2.out.size (fun j hj => (O2.out.lt j hj).1)); have O3 := Lib.hid own2; clear own2 gr2)
            | (at_builtin; refine wpList_append_intsT rfl (.tmp 40) (.tmp 43) 39 39 21 rfl w.heap.size 21 i0 (.int .i32 0) 4 Try.underlying39 Try.underlying39 hi hz0 hz1 hz2 rfl _ _ _ rfl O3.out _ .i32 [] rfl (ints_zero _ _ _) (by simp [maxLen]; omega) (by simp; omega) B3.out.size ?_; intro v3 w3 own3 gr3; obtain ⟨a3, c3, rfl, -⟩ := own_shape own3; have B4 := Lib.hid (B3.out.grown gr3 B3.out.size (fun j hj => (O3.out.lt j hj).1)); clear own3 gr3))
          go_ret2
          exact ⟨⟨_, _, by rw [EE.out]; rfl⟩, B4.out⟩
end Go.Proofs.Ytjgfgpkaeddjhaa
