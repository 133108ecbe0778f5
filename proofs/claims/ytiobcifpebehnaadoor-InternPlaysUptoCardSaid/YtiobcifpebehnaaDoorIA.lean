
import Derived.Test.YtiobcifpebehnaaDoorA2
import Derived.Lib.ItoaNum
import Derived.Lib.ItoaMem
import Derived.Lib.ItoaLen
import Derived.Test.YtiobcifpebehnaaDoorShelf
import Derived.Lib.OthersKept
import Derived.Lib.BufferKept
import Derived.Lib.AppendStr
import Derived.Test.YtiobcifpebehnaaDoorA11
/- I1 -/
/- I1: the text by which a set is found: no other set has it -/
namespace Go.Proofs.YtiobcifpebehnaaDoor
open Go.RowKit
set_option linter.unusedVariables false

/-! ### numerals -/
def dval (l : List UInt8) : Nat := l.foldl (fun a b => a * 10 + (b.toNat - 48)) 0
theorem dval_snoc (l : List UInt8) (b : UInt8) : dval (l ++ [b]) = dval l * 10 + (b.toNat - 48) := by simp [dval]
theorem dig_val {i : Nat} (h : i < 10) : (UInt8.ofNat (48 + i)).toNat = 48 + i := by
  rw [UInt8.toNat_ofNat']; omega
theorem dval_dec (u : Nat) : dval (Lib.decDigits u) = u := by
  induction u using Nat.strongRecOn with
  | _ u ih =>
    by_cases h : u < 10
    · rw [Lib.decDigits, dif_pos h]
      show 0 * 10 + ((UInt8.ofNat (48 + u)).toNat - 48) = u
      rw [dig_val h]; omega
    · rw [Lib.decDigits, dif_neg h, dval_snoc, ih (u / 10) (by omega), dig_val (Nat.mod_lt _ (by decide))]; omega
theorem dec_digit (u : Nat) : ∀ b ∈ Lib.decDigits u, 48 ≤ b.toNat ∧ b.toNat ≤ 57 := by
  induction u using Nat.strongRecOn with
  | _ u ih =>
    intro b hb
    by_cases h : u < 10
    · rw [Lib.decDigits, dif_pos h] at hb
      obtain rfl := List.mem_singleton.1 hb
      rw [dig_val h]; omega
    · rw [Lib.decDigits, dif_neg h] at hb
      rcases List.mem_append.1 hb with hb | hb
      · exact ih (u / 10) (by omega) b hb
      · obtain rfl := List.mem_singleton.1 hb
        rw [dig_val (Nat.mod_lt _ (by decide))]
        have := Nat.mod_lt u (show 0 < 10 by decide)
        omega
theorem dec_inj {u v : Nat} (h : Lib.decDigits u = Lib.decDigits v) : u = v := by
  rw [← dval_dec u, ← dval_dec v, h]
theorem dec_ne_nil (u : Nat) : Lib.decDigits u ≠ [] := by
  intro h
  have := Lib.decDigits_length u
  have := Lib.nDigits_pos u
  rw [h] at *
  simp at *
  omega
theorem itoa_inj {a b : Int} (h : Lib.itoa a = Lib.itoa b) : a = b := by
  unfold Lib.itoa at h
  have key : ∀ (u v : Nat), (45 : UInt8) :: Lib.decDigits u ≠ Lib.decDigits v := fun u v e => by
    have := dec_digit v 45 (by rw [← e]; simp)
    simp at this
  by_cases ha : a < 0 <;> by_cases hb : b < 0
  · rw [if_pos ha, if_pos hb] at h
    have := dec_inj (List.cons.inj h).2
    omega
  · rw [if_pos ha, if_neg hb] at h
    exact absurd h (key _ _)
  · rw [if_neg ha, if_pos hb] at h
    exact absurd h.symm (key _ _)
  · rw [if_neg ha, if_neg hb] at h
    have := dec_inj h
    omega
theorem dec_noblank (u : Nat) : (32 : UInt8) ∉ Lib.decDigits u := fun h => by
  have := dec_digit u 32 h
  simp at this
theorem itoa_noblank (a : Int) : (32 : UInt8) ∉ Lib.itoa a := fun h => by
  unfold Lib.itoa at h
  split at h
  · rcases List.mem_cons.1 h with e | h
    · cases e
    · exact dec_noblank _ h
  · exact dec_noblank _ h

/-- Cut at the first blank. -/
theorem cut_blank : ∀ {a b r s : List UInt8}, (32 : UInt8) ∉ a → (32 : UInt8) ∉ b → a ++ 32 :: r = b ++ 32 :: s → a = b ∧ r = s
  | [], [], r, s, _, _, h => ⟨rfl, (List.cons.inj h).2⟩
  | [], y :: b, r, s, _, hb, h => absurd (List.cons.inj h).1 (fun e => hb (by simp [← e]))
  | x :: a, [], r, s, ha, _, h => absurd (List.cons.inj h).1 (fun e => ha (by simp [e]))
  | x :: a, y :: b, r, s, ha, hb, h => by
    obtain ⟨h1, h2⟩ := List.cons.inj h
    obtain ⟨h3, h4⟩ := cut_blank (fun e => ha (List.mem_cons_of_mem _ e)) (fun e => hb (List.mem_cons_of_mem _ e)) h2
    exact ⟨by rw [h1, h3], h4⟩

/-- An attribute's part of the text, with what comes behind. -/
def attT (a : Att) (r : List UInt8) : List UInt8 :=
  Lib.itoa a.key ++ 32 :: (Lib.decDigits a.k.toNat ++ 32 :: (Lib.itoa a.n ++ 32 :: (Lib.decDigits a.f.toNat ++ 32 :: (Lib.itoa (a.s.size : Int) ++ 32 :: (a.s.data.toList ++ r)))))
def txt : List Att → List UInt8
  | [] => []
  | a :: r => attT a (txt r)
theorem attT_ne (a : Att) (r : List UInt8) : attT a r ≠ [] := by
  unfold attT
  simp
theorem attT_app (a : Att) (r s : List UInt8) : attT a r ++ s = attT a (r ++ s) := by
  unfold attT
  simp only [List.append_assoc, List.cons_append]
theorem txt_app (x y : List Att) : txt (x ++ y) = txt x ++ txt y := by
  induction x with
  | nil => rfl
  | cons a r ih => rw [List.cons_append]; show attT a (txt (r ++ y)) = attT a (txt r) ++ txt y; rw [ih, attT_app]
theorem bytes_eq {a b : ByteArray} (h : a.data.toList = b.data.toList) : a = b := ByteArray.ext (by cases a; cases b; simp_all)
theorem attT_inj {a b : Att} {r s : List UInt8} (ha : AttW a) (hb : AttW b) (h : attT a r = attT b s) : a = b ∧ r = s := by
  unfold attT at h
  obtain ⟨h1, h⟩ := cut_blank (itoa_noblank _) (itoa_noblank _) h
  obtain ⟨h2, h⟩ := cut_blank (dec_noblank _) (dec_noblank _) h
  obtain ⟨h3, h⟩ := cut_blank (itoa_noblank _) (itoa_noblank _) h
  obtain ⟨h4, h⟩ := cut_blank (dec_noblank _) (dec_noblank _) h
  obtain ⟨h5, h⟩ := cut_blank (itoa_noblank _) (itoa_noblank _) h
  have h5 := itoa_inj h5
  have hl : a.s.data.toList.length = b.s.data.toList.length := by
    have : a.s.size = b.s.size := by clear h h1 h2 h3 h4; omega
    exact this
  obtain ⟨h6, h7⟩ := List.append_inj h hl
  refine ⟨?_, h7⟩
  have k1 := itoa_inj h1
  have k2 := dec_inj h2
  have k3 := itoa_inj h3
  have k4 := dec_inj h4
  have k6 := bytes_eq h6
  have ka := Go.bounds_u8 ha.k
  have kb := Go.bounds_u8 hb.k
  have fa := ha.f0
  have fb := hb.f0
  obtain ⟨a1, a2, a3, a4, a5⟩ := a
  obtain ⟨b1, b2, b3, b4, b5⟩ := b
  simp only at ka kb fa fb k1 k2 k3 k4 k6
  rw [Att.mk.injEq]
  exact ⟨k1, by omega, k3, by omega, k6⟩
/-- One text, one set. -/
theorem txt_inj : ∀ {x y : List Att}, (∀ a ∈ x, AttW a) → (∀ a ∈ y, AttW a) → txt x = txt y → x = y
  | [], [], _, _, _ => rfl
  | [], b :: s, _, _, h => absurd h.symm (attT_ne _ _)
  | a :: r, [], _, _, h => absurd h (attT_ne _ _)
  | a :: r, b :: s, hx, hy, h => by
    obtain ⟨h1, h2⟩ := attT_inj (hx a (by simp)) (hy b (by simp)) h
    rw [h1, txt_inj (fun c hc => hx c (by simp [hc])) (fun c hc => hy c (by simp [hc])) h2]
theorem att_len {a : Att} (h : AttW a) : (attT a []).length ≤ 108 + a.s.size := by
  have h1 := Lib.itoa_length_le a.key (by have := Go.bounds_i64 h.key; omega) (by have := Go.bounds_i64 h.key; omega)
  have h3 := Lib.itoa_length_le a.n (by have := Go.bounds_i64 h.n; omega) (by have := Go.bounds_i64 h.n; omega)
  have h5 := Lib.itoa_length_le (a.s.size : Int) (by omega) (by have := h.s; unfold maxLen at this; omega)
  have h2 := Lib.nDigits_le20 a.k.toNat (by have := Go.bounds_u8 h.k; omega)
  have h4 := Lib.nDigits_le20 a.f.toNat (by have := h.f1; omega)
  rw [← Lib.decDigits_length] at h2 h4
  unfold attT
  simp only [List.length_append, List.length_cons, List.length_nil, Array.length_toList]
  have : a.s.data.size = a.s.size := rfl
  omega
/-- How long a set's text is, of texts of at most m bytes. -/
theorem txt_len {m : Nat} : ∀ {x : List Att}, (∀ a ∈ x, AttW a ∧ a.s.size ≤ m) → (txt x).length ≤ x.length * (108 + m)
  | [], _ => by simp [txt]
  | a :: r, h => by
    have h1 := att_len (h a (by simp)).1
    have h2 := (h a (by simp)).2
    have h3 := txt_len (x := r) (fun c hc => h c (by simp [hc]))
    have : (txt (a :: r)).length = (attT a []).length + (txt r).length := by
      show (attT a (txt r)).length = _
      have e := attT_app a [] (txt r)
      rw [List.nil_append] at e
      rw [← e, List.length_append]
    rw [this, List.length_cons, Nat.add_mul]
    omega
end Go.Proofs.YtiobcifpebehnaaDoor

/- I2 -/
/- I2: textOf -/
namespace Go.Proofs.YtiobcifpebehnaaDoor
open Go.RowKit
set_option linter.unusedVariables false

/-- The library's table of powers of ten. -/
@[reducible] def Tab (B : Nat) (w : World) : Prop := Lib.TabBelow Tryd.prog B w "internal/strconv.uint64pow10" .u64 Lib.pow10Tab

set_option maxRecDepth 100000 in
theorem info_u8 : ∃ i, Tryd.prog.info? 5 = some i ∧ i.zero = some (.int .u8 0) ∧ i.size = 1 ∧ i.bytes = 1 := ⟨_, rfl, rfl, rfl, rfl⟩
@[reducible] def vca (a : Att) : Array Value := #[.int .u8 a.k, .int .i64 a.n, .int .u64 a.f, .string a.s]
/-- The text so far, and the round's two blocks. -/
structure TxS (B : Nat) (w W : World) (ba bv : Nat) (a : Att) (v : Value) (l : List UInt8) : Prop where
  own : W.ownsRow B 5 1 v l.length (Lib.byteCells l)
  bel : Below B w W
  tab : Tab B W
  ha : W.heap[ba]? = some (.cells (aca a) 47 (0, 0))
  hv : W.heap[bv]? = some (.cells (vca a) 45 (0, 0))
  hB : B ≤ W.heap.size
theorem TxS.num {B : Nat} {w W W' : World} {ba bv : Nat} {a : Att} {v v' : Value} {l m : List UInt8} (h : TxS B w W ba bv a v l)
    (ho : W'.ownsRow B 5 1 v' (l.length + m.length) (Lib.byteCells l ++ Lib.byteCells m)) (hb : Below B W W') (hk : Lib.OthersKept 5 none W W') : TxS B w W' ba bv a v' (l ++ m) := by
  refine ⟨?_, h.bel.trans hb, h.tab.on hb, hk ba _ h.ha (by simp) (by intro c fz e; simp at e), hk bv _ h.hv (by simp) (by intro c fz e; simp at e), Nat.le_trans h.hB hb.size⟩
  rw [List.length_append, Lib.byteCells_append]; exact ho
theorem TxS.alloc {B : Nat} {w W : World} {ba bv : Nat} {a : Att} {v : Value} {l : List UInt8} (h : TxS B w W ba bv a v l) (o : Obj) : TxS B w (W.alloc o) ba bv a v l := by
  have hb := (Below.refl B W).alloc h.hB o
  have hb2 := (Below.refl W.heap.size W).alloc (Nat.le_refl _) o
  have ha := (Array.getElem?_eq_some_iff.1 h.ha).1
  have hv := (Array.getElem?_eq_some_iff.1 h.hv).1
  exact ⟨owns_below h.own hb2, h.bel.trans hb, h.tab.on hb, (hb2.block _ ha).trans h.ha, (hb2.block _ hv).trans h.hv, Nat.le_trans h.hB hb.size⟩
theorem TxS.grown {B : Nat} {w W W' : World} {ba bv : Nat} {a : Att} {v v' : Value} {l m : List UInt8} (h : TxS B w W ba bv a v l)
    (ho : W'.ownsRow B 5 1 v' (l.length + m.length) (Lib.byteCells l ++ Lib.byteCells m)) (hg : W.grownBy W' v.ownBlock) : TxS B w W' ba bv a v' (l ++ m) :=
  h.num ho ((Below.refl B W).grown hg h.hB (fun j hj => own_base h.own hj)) ((Lib.OthersKept.refl _ _ _).grown hg (Lib.ownsRow_kind h.own))
theorem TxS.cells {B : Nat} {w W : World} {ba bv : Nat} {a : Att} {v : Value} {l : List UInt8} (h : TxS B w W ba bv a v l) :
    W.cell? ⟨ba, 0, none⟩ = some (.int .i64 a.key) ∧ W.cell? ⟨bv, 0, none⟩ = some (.int .u8 a.k) ∧ W.cell? ⟨bv, 1, none⟩ = some (.int .i64 a.n) ∧ W.cell? ⟨bv, 2, none⟩ = some (.int .u64 a.f) ∧ W.cell? ⟨bv, 3, none⟩ = some (.string a.s) := by
  refine ⟨?_, ?_, ?_, ?_, ?_⟩
  · rw [cell_of_row W ba 0 _ _ _ h.ha]; rfl
  · rw [cell_of_row W bv 0 _ _ _ h.hv]; rfl
  · rw [cell_of_row W bv 1 _ _ _ h.hv]; rfl
  · rw [cell_of_row W bv 2 _ _ _ h.hv]; rfl
  · rw [cell_of_row W bv 3 _ _ _ h.hv]; rfl

theorem attT_snoc (a : Att) : attT a [] = Lib.itoa a.key ++ [32] ++ Lib.decDigits a.k.toNat ++ [32] ++ Lib.itoa a.n ++ [32] ++ Lib.decDigits a.f.toNat ++ [32] ++ Lib.itoa (a.s.size : Int) ++ [32] ++ a.s.data.toList := by
  unfold attT
  simp
theorem txt_snoc {x : List Att} {k : Nat} (h : k < x.length) : txt (x.take (k + 1)) = txt (x.take k) ++ attT x[k] [] := by
  rw [List.take_succ_eq_append_getElem h, txt_app]; rfl

/-- The loop's relation. -/
def TxRel (w : World) (xs : List Att) (k : Nat) (v : Value) (wr : World) : Prop :=
  wr.ownsRow w.heap.size 5 1 v (txt (xs.take k)).length (Lib.byteCells (txt (xs.take k))) ∧ Below w.heap.size w wr
theorem txt_init (w : World) (xs : List Att) : TxRel w xs 0 (.slice none 0 0) w := ⟨⟨rfl, .inl ⟨rfl, rfl⟩⟩, Below.refl _ _⟩
theorem TxRel.start {w wr : World} {xs : List Att} {k : Nat} {v : Value} (h : TxRel w xs k v wr) (ht : Tab w.heap.size w) (a : Att) :
    TxS w.heap.size w ((wr.alloc (.cells (aca a) 47)).alloc (.cells (vca a) 45)) wr.heap.size (wr.heap.size + 1) a v (txt (xs.take k)) := by
  have hz := h.2.size
  have hb1 := (Below.refl wr.heap.size wr).alloc (Nat.le_refl _) (.cells (aca a) 47)
  have hb2 := hb1.alloc (by simp) (.cells (vca a) 45)
  have hb := below_add h.2 hb2 hz
  refine ⟨owns_below h.1 hb2, hb, ht.on hb, ?_, ?_, ?_⟩
  · rw [Below.heap_alloc _ _ _ (by simp)]; exact heap_alloc_new wr _
  · have := heap_alloc_new (wr.alloc (.cells (aca a) 47)) (.cells (vca a) 45)
    simpa using this
  · simp; omega
end Go.Proofs.YtiobcifpebehnaaDoor

/- I3 -/
/- I3: textOf's walk -/
namespace Go.Proofs.YtiobcifpebehnaaDoor
open Go.RowKit
set_option linter.unusedVariables false

/-- What a set's texts are within, wherever it comes to its own text. -/
def Small (xs : List Att) : Prop := xs.length ≤ 64 ∧ ∀ a ∈ xs, AttW a ∧ a.s.size ≤ 1000
theorem Small.len {xs : List Att} (h : Small xs) (k : Nat) : (txt (xs.take k)).length ≤ 71000 := by
  have h1 := txt_len (m := 1000) (x := xs.take k) (fun a ha => h.2 a (List.mem_of_mem_take ha))
  have h2 : (xs.take k).length ≤ 64 := by rw [List.length_take]; have := h.1; omega
  omega
theorem byteCells_ints (l : List UInt8) : Lib.byteCells l = (l.map fun b => (b.toNat : Int)).map (Value.int .u8) := by simp [Lib.byteCells]
theorem str_back (l : List UInt8) : strOfNums (l.map fun b => (b.toNat : Int)) = ⟨l.toArray⟩ := by
  unfold strOfNums
  rw [List.map_map]
  have : ∀ m : List UInt8, List.map ((fun n : Int => UInt8.ofNat n.toNat) ∘ fun b : UInt8 => (b.toNat : Int)) m = m := fun m => by
    induction m with
    | nil => rfl
    | cons b r ih => rw [List.map_cons, ih]; simp
  rw [this]
theorem wi64 {x : Int} (h : (Lit.int .i64 x).wf = true) : -9223372036854775808 ≤ x ∧ x ≤ 9223372036854775807 := by have := Go.bounds_i64 h; omega
theorem wu8 {x : Int} (h : (Lit.int .u8 x).wf = true) : 0 ≤ x ∧ x < 256 := by have := Go.bounds_u8 h; omega
theorem wu64 {x : Int} (h : (Lit.int .u64 x).wf = true) : 0 ≤ x ∧ x < 18446744073709551616 := by have := Go.bounds_u64 h; omega
theorem txt_conv {w W : World} {xs : List Att} {v : Value} (h : TxRel w xs xs.length v W) : (convert 71 9 v).run Tryd.prog W = .ok (.string ⟨(txt xs).toArray⟩) W := by
  have h1 := h.1
  rw [List.take_of_length_le (Nat.le_refl _), byteCells_ints] at h1
  rw [conv_str 71 9 5 Tryd.underlying71 Tryd.underlying5 Tryd.underlying9 v _ W (Ints.of_owns h1).1, str_back]
theorem uint_any (B n : Nat) (u : Int) (h0 : 0 ≤ u) (h1 : u < 18446744073709551616) (sv : Value) (xs : List Value) (w : World) (hown : w.ownsRow B 5 1 sv n xs) (hBw : B ≤ w.heap.size) (hlim : n + 20 ≤ 140737488355328) (ht : Tab B w) :
    Calls Tryd.prog 43 #[sv, .int .u64 u, .int .i64 10] w fun e w' => ∃ v', e = .returned v' ∧ w'.ownsRow B 5 1 v' (n + (Lib.decDigits u.toNat).length) (xs ++ Lib.byteCells (Lib.decDigits u.toNat)) ∧ Below B w w' ∧ Lib.OthersKept 5 none w w' := by
  obtain ⟨m, rfl⟩ : ∃ m : Nat, u = m := ⟨u.toNat, by omega⟩
  rw [Int.toNat_natCast]
  go_enter Tryd.func43, Tryd.ntmps43
  go_wp2_with (go_at_call 52; refine (Tryd.internal_strconv_AppendUint_10 B n m (by omega) sv xs w hown hBw hlim ht.here).mono ?_; rintro e w2 ⟨v2, rfl, hown2, hnx2, hok2⟩)
  go_ret
  exact ⟨v2, rfl, hown2, hnx2, hok2⟩
theorem TxS.done {w wr W : World} {xs : List Att} {k ba bv : Nat} {v : Value} (hk : k < xs.length)
    (h : TxS w.heap.size w W ba bv xs[k] v (txt (xs.take k) ++ Lib.itoa xs[k].key ++ [32] ++ Lib.decDigits xs[k].k.toNat ++ [32] ++ Lib.itoa xs[k].n ++ [32] ++ Lib.decDigits xs[k].f.toNat ++ [32] ++ Lib.itoa (xs[k].s.size : Int) ++ [32] ++ xs[k].s.data.toList)) : TxRel w xs (k + 1) v W := by
  have e : txt (xs.take (k + 1)) = txt (xs.take k) ++ Lib.itoa xs[k].key ++ [32] ++ Lib.decDigits xs[k].k.toNat ++ [32] ++ Lib.itoa xs[k].n ++ [32] ++ Lib.decDigits xs[k].f.toNat ++ [32] ++ Lib.itoa (xs[k].s.size : Int) ++ [32] ++ xs[k].s.data.toList := by
    rw [txt_snoc hk, attT_snoc]; simp
  rw [← e] at h
  exact ⟨h.own, h.bel⟩

set_option maxRecDepth 100000 in
set_option maxHeartbeats 2000000 in
theorem text_any (v : Value) (xs : List Att) (w : World) (hv : Arow w v xs) (hS : Small xs) (ht : Tab w.heap.size w) :
    Calls Tryd.prog 29 #[v] w fun e w' => e = .returned (.string ⟨(txt xs).toArray⟩) ∧ Below w.heap.size w w' := by
  obtain ⟨i0, hi, hz0, hz1, hz2⟩ := info_u8
  obtain ⟨a1, cap1, rfl⟩ := hv.shape
  have hlen := hv.len
  by_cases h0 : 0 < xs.length
  · obtain ⟨b1, o1, rfl, -, -, -, hbl, hat⟩ := Arow.opn hv h0
    have HAT := Lib.hid hat
    have HS := Lib.hid hS
    have HT := Lib.hid ht
    clear hv hat hS ht
    go_enter Tryd.func29, Tryd.ntmps29
    go_wp2
    go_loopw [3, 9] (fun s3 s9 wr => ∃ k : Nat, k ≤ xs.length ∧ s9 = .int .i64 k ∧ TxRel w xs k s3 wr) (fun _ s9 _ => xs.length - (intOf s9).toNat)
    case atStart => exact ⟨0, Nat.zero_le _, rfl, txt_init w xs⟩
    case round =>
      obtain ⟨k, hk, rfl, hR⟩ := hrel
      by_cases hlt : k < xs.length
      · obtain ⟨c0, c1, c2, c3, c4⟩ := (HAT.out k hlt).below hR.2 hbl
        have hl := HS.out.len k
        have hw := HS.out.2 xs[k] (List.getElem_mem hlt)
        have hD := fun W ba bv v' => TxS.done (w := w) (wr := wr) (W := W) (ba := ba) (bv := bv) (v := v') hlt
        have S0 := Lib.hid (hR.start HT.out xs[k])
        generalize hxk : xs[k] = x at *
        have HD := Lib.hid hD
        have hsz := hR.2.size
        generalize htk : txt (xs.take k) = T at *
        clear hR hD hxk
        have W0 := Lib.hid hw
        obtain ⟨x1, x2, x3, x4, x5⟩ := x
        simp only at c0 c1 c2 c3 c4
        clear hw htk
        have W1 : Hid (-9223372036854775808 ≤ x1 ∧ x1 ≤ 9223372036854775807) := wi64 W0.out.1.key
        have W2 : Hid (0 ≤ x2 ∧ x2 < 256) := wu8 W0.out.1.k
        have W3 : Hid (-9223372036854775808 ≤ x3 ∧ x3 ≤ 9223372036854775807) := wi64 W0.out.1.n
        have W4 : Hid (0 ≤ x4 ∧ x4 < 18446744073709551616) := wu64 W0.out.1.f
        have W5 : Hid (x5.size ≤ 1000) := W0.out.2
        have L1 := Lib.hid (Lib.itoa_length_le x1 W1.out.1 W1.out.2)
        have L3 := Lib.hid (Lib.itoa_length_le x3 W3.out.1 W3.out.2)
        obtain ⟨c5, c6, c7, c8, c9⟩ := S0.out.cells
        have L2 := Lib.hid (Lib.nDigits_le20 x2.toNat (by have := W2.out; omega))
        have L4 := Lib.hid (Lib.nDigits_le20 x4.toNat (by have := W4.out; omega))
        have L5 := Lib.hid (Lib.itoa_length_le (x5.size : Int) (by omega) (by have := W5.out; omega))
        have hl1 := L1.out
        have hl2 := L2.out
        have hl3 := L3.out
        have hl4 := L4.out
        have hl5 := L5.out
        rw [← Lib.decDigits_length] at hl2 hl4
        have hu2 : IntKind.u64.wrap x2 = x2 := by have := W2.out; exact IntWalk.u64_in _ (by omega)
        go_wp2_with (go_at_call 42; (refine (Tryd.strconv_AppendInt_10 w.heap.size _ x1 W1.out.1 W1.out.2 _ _ _ S0.out.own S0.out.hB (by omega) S0.out.tab).mono ?_); rintro e w1 ⟨v1, rfl, ho, hb, hk2⟩; refine Hid.out ?_)
        refine Lib.hid ?_
        have S1 := S0.out.num ho hb hk2
        clear ho hb hk2
        obtain ⟨T1, hT1⟩ : ∃ T1, T1 = T ++ Lib.itoa x1 := ⟨_, rfl⟩
        have hn1 : T1.length ≤ 71000 + 21 := by rw [hT1]; rw [List.length_append]; omega
        rw [← hT1] at S1
        have HT1 := Lib.hid hT1
        clear hT1
        have S1 := Lib.hid S1
        go_wp2_with (at_builtin; refine wpList_append_ints rfl (.tmp 18) (.tmp 19) 71 rfl w.heap.size 5 i0 (.int .u8 0) 1 Tryd.underlying71 hi hz0 hz1 hz2 rfl _ _ _ rfl (S1.out.alloc _).own _ .u8 [32] rfl (ints_single .u8 w1 5 32) (by unfold maxLen; simp; omega) (by simp; omega) (S1.out.alloc _).hB ?_; intro v2 w2 ho hg; refine Hid.out ?_)
        refine Lib.hid ?_
        have S2 := (S1.out.alloc _).grown (m := [32]) ho hg
        clear ho hg
        obtain ⟨T2, hT2⟩ : ∃ T2, T2 = T1 ++ [32] := ⟨_, rfl⟩
        have hn2 : T2.length ≤ 71000 + 22 := by rw [hT2]; rw [List.length_append, List.length_singleton]; omega
        rw [← hT2] at S2
        have HT2 := Lib.hid hT2
        clear hT2
        have S2 := Lib.hid S2
        obtain ⟨c5, c6, c7, c8, c9⟩ := S2.out.cells
        go_wp2_with (go_at_call 43; (refine (uint_any w.heap.size _ x2 W2.out.1 (by have := W2.out; omega) _ _ _ S2.out.own S2.out.hB (by omega) S2.out.tab).mono ?_); rintro e w3 ⟨v3, rfl, ho, hb, hk2⟩; refine Hid.out ?_)
        refine Lib.hid ?_
        have S3 := S2.out.num ho hb hk2
        clear ho hb hk2
        obtain ⟨T3, hT3⟩ : ∃ T3, T3 = T2 ++ Lib.decDigits x2.toNat := ⟨_, rfl⟩
        have hn3 : T3.length ≤ 71000 + 42 := by rw [hT3]; rw [List.length_append]; omega
        rw [← hT3] at S3
        have HT3 := Lib.hid hT3
        clear hT3
        have S3 := Lib.hid S3
        go_wp2_with (at_builtin; refine wpList_append_ints rfl (.tmp 25) (.tmp 26) 71 rfl w.heap.size 5 i0 (.int .u8 0) 1 Tryd.underlying71 hi hz0 hz1 hz2 rfl _ _ _ rfl (S3.out.alloc _).own _ .u8 [32] rfl (ints_single .u8 w3 5 32) (by unfold maxLen; simp; omega) (by simp; omega) (S3.out.alloc _).hB ?_; intro v4 w4 ho hg; refine Hid.out ?_)
        refine Lib.hid ?_
        have S4 := (S3.out.alloc _).grown (m := [32]) ho hg
        clear ho hg
        obtain ⟨T4, hT4⟩ : ∃ T4, T4 = T3 ++ [32] := ⟨_, rfl⟩
        have hn4 : T4.length ≤ 71000 + 43 := by rw [hT4]; rw [List.length_append, List.length_singleton]; omega
        rw [← hT4] at S4
        have HT4 := Lib.hid hT4
        clear hT4
        have S4 := Lib.hid S4
        obtain ⟨c5, c6, c7, c8, c9⟩ := S4.out.cells
        go_wp2_with (go_at_call 42; (refine (Tryd.strconv_AppendInt_10 w.heap.size _ x3 W3.out.1 W3.out.2 _ _ _ S4.out.own S4.out.hB (by omega) S4.out.tab).mono ?_); rintro e w5 ⟨v5, rfl, ho, hb, hk2⟩; refine Hid.out ?_)
        refine Lib.hid ?_
        have S5 := S4.out.num ho hb hk2
        clear ho hb hk2
        obtain ⟨T5, hT5⟩ : ∃ T5, T5 = T4 ++ Lib.itoa x3 := ⟨_, rfl⟩
        have hn5 : T5.length ≤ 71000 + 64 := by rw [hT5]; rw [List.length_append]; omega
        rw [← hT5] at S5
        have HT5 := Lib.hid hT5
        clear hT5
        have S5 := Lib.hid S5
        go_wp2_with (at_builtin; refine wpList_append_ints rfl (.tmp 31) (.tmp 32) 71 rfl w.heap.size 5 i0 (.int .u8 0) 1 Tryd.underlying71 hi hz0 hz1 hz2 rfl _ _ _ rfl (S5.out.alloc _).own _ .u8 [32] rfl (ints_single .u8 w5 5 32) (by unfold maxLen; simp; omega) (by simp; omega) (S5.out.alloc _).hB ?_; intro v6 w6 ho hg; refine Hid.out ?_)
        refine Lib.hid ?_
        have S6 := (S5.out.alloc _).grown (m := [32]) ho hg
        clear ho hg
        obtain ⟨T6, hT6⟩ : ∃ T6, T6 = T5 ++ [32] := ⟨_, rfl⟩
        have hn6 : T6.length ≤ 71000 + 65 := by rw [hT6]; rw [List.length_append, List.length_singleton]; omega
        rw [← hT6] at S6
        have HT6 := Lib.hid hT6
        clear hT6
        have S6 := Lib.hid S6
        obtain ⟨c5, c6, c7, c8, c9⟩ := S6.out.cells
        go_wp2_with (go_at_call 43; (refine (uint_any w.heap.size _ x4 W4.out.1 W4.out.2 _ _ _ S6.out.own S6.out.hB (by omega) S6.out.tab).mono ?_); rintro e w7 ⟨v7, rfl, ho, hb, hk2⟩; refine Hid.out ?_)
        refine Lib.hid ?_
        have S7 := S6.out.num ho hb hk2
        clear ho hb hk2
        obtain ⟨T7, hT7⟩ : ∃ T7, T7 = T6 ++ Lib.decDigits x4.toNat := ⟨_, rfl⟩
        have hn7 : T7.length ≤ 71000 + 85 := by rw [hT7]; rw [List.length_append]; omega
        rw [← hT7] at S7
        have HT7 := Lib.hid hT7
        clear hT7
        have S7 := Lib.hid S7
        go_wp2_with (at_builtin; refine wpList_append_ints rfl (.tmp 37) (.tmp 38) 71 rfl w.heap.size 5 i0 (.int .u8 0) 1 Tryd.underlying71 hi hz0 hz1 hz2 rfl _ _ _ rfl (S7.out.alloc _).own _ .u8 [32] rfl (ints_single .u8 w7 5 32) (by unfold maxLen; simp; omega) (by simp; omega) (S7.out.alloc _).hB ?_; intro v8 w8 ho hg; refine Hid.out ?_)
        refine Lib.hid ?_
        have S8 := (S7.out.alloc _).grown (m := [32]) ho hg
        clear ho hg
        obtain ⟨T8, hT8⟩ : ∃ T8, T8 = T7 ++ [32] := ⟨_, rfl⟩
        have hn8 : T8.length ≤ 71000 + 86 := by rw [hT8]; rw [List.length_append, List.length_singleton]; omega
        rw [← hT8] at S8
        have HT8 := Lib.hid hT8
        clear hT8
        have S8 := Lib.hid S8
        obtain ⟨c5, c6, c7, c8, c9⟩ := S8.out.cells
        go_wp2_with (go_at_call 42; (refine (Tryd.strconv_AppendInt_10 w.heap.size _ (x5.size : Int) (by omega) (by have := W5.out; omega) _ _ _ S8.out.own S8.out.hB (by omega) S8.out.tab).mono ?_); rintro e w9 ⟨v9, rfl, ho, hb, hk2⟩; refine Hid.out ?_)
        refine Lib.hid ?_
        have S9 := S8.out.num ho hb hk2
        clear ho hb hk2
        obtain ⟨T9, hT9⟩ : ∃ T9, T9 = T8 ++ Lib.itoa (x5.size : Int) := ⟨_, rfl⟩
        have hn9 : T9.length ≤ 71000 + 107 := by rw [hT9]; rw [List.length_append]; omega
        rw [← hT9] at S9
        have HT9 := Lib.hid hT9
        clear hT9
        have S9 := Lib.hid S9
        go_wp2_with (at_builtin; refine wpList_append_ints rfl (.tmp 44) (.tmp 45) 71 rfl w.heap.size 5 i0 (.int .u8 0) 1 Tryd.underlying71 hi hz0 hz1 hz2 rfl _ _ _ rfl (S9.out.alloc _).own _ .u8 [32] rfl (ints_single .u8 w9 5 32) (by unfold maxLen; simp; omega) (by simp; omega) (S9.out.alloc _).hB ?_; intro v10 w10 ho hg; refine Hid.out ?_)
        refine Lib.hid ?_
        have S10 := (S9.out.alloc _).grown (m := [32]) ho hg
        clear ho hg
        obtain ⟨T10, hT10⟩ : ∃ T10, T10 = T9 ++ [32] := ⟨_, rfl⟩
        have hn10 : T10.length ≤ 71000 + 108 := by rw [hT10]; rw [List.length_append, List.length_singleton]; omega
        rw [← hT10] at S10
        have HT10 := Lib.hid hT10
        clear hT10
        have S10 := Lib.hid S10
        obtain ⟨c5, c6, c7, c8, c9⟩ := S10.out.cells
        go_wp2_with (at_builtin; (refine Lib.wpList_append_own_string _ rfl (.tmp 47) (.tmp 49) 71 9 rfl w.heap.size 5 i0 Tryd.underlying71 Tryd.underlying9 hi hz0 hz1 hz2 _ _ _ rfl S10.out.own x5 rfl (by have := W5.out; unfold maxLen; omega) (by have := W5.out; omega) S10.out.hB ?_); intro v11 w11 ho hg _; refine Hid.out ?_)
        refine Lib.hid ?_
        have HR0 := S10.out.grown (m := x5.data.toList) ho hg
        rw [HT10.out, HT9.out, HT8.out, HT7.out, HT6.out, HT5.out, HT4.out, HT3.out, HT2.out, HT1.out] at HR0
        have HR := Lib.hid (HD.out _ _ _ _ HR0)
        clear ho hg HR0
        go_wp2
        go_roundw
        case rel => exact ⟨k + 1, by omega, by go_num, HR.out⟩
        case measure => simp [intOf]; omega
      · obtain rfl : k = xs.length := by omega
        have hcv := txt_conv hR
        have HR := Lib.hid hR
        clear hR
        go_wp2
        go_ret
        exact ⟨rfl, HR.out.2⟩
  · obtain rfl : xs = [] := List.eq_nil_of_length_eq_zero (by omega)
    have hcv := txt_conv (txt_init w [])
    clear hv hlen h0
    go_enter Tryd.func29, Tryd.ntmps29
    go_wp2
    refine wp_loop_rounds 1 ?_
    rw [rounds_succ]
    go_wp2
    go_ret
    exact ⟨rfl, Below.refl _ _⟩
end Go.Proofs.YtiobcifpebehnaaDoor

/- I4 -/
/- I4: own -/
namespace Go.Proofs.YtiobcifpebehnaaDoor
open Go.RowKit
set_option linter.unusedVariables false

/-- A store of what lies there already. -/
theorem set_same {w : World} {b o : Nat} {v : Value} (h : w.cell? ⟨b, o, none⟩ = some v) : w.setCell ⟨b, o, none⟩ v = w := by
  unfold World.cell? at h
  unfold World.setCell
  have key : w.heap.modify b (fun x => match x with
      | .cells c elem frozen => .cells (if (none : Option Nat).isSome then c else c.setIfInBounds o v) elem frozen
      | o => o) = w.heap := by
    apply Array.ext_getElem?
    intro i
    rw [Array.getElem?_modify]
    split
    · rename_i hi
      subst hi
      cases hb : w.heap[b]? with
      | none => rfl
      | some x =>
        rw [hb] at h
        cases x with
        | cells c e fz =>
          have h2 : c[o]? = some v := by simpa using h
          have hlt := (Array.getElem?_eq_some_iff.1 h2).1
          have : c.setIfInBounds o v = c := by
            apply Array.ext_getElem?
            intro j
            rw [Array.getElem?_setIfInBounds]
            split
            · rename_i hj; subst hj; simp [hlt] at h2 ⊢; exact h2.symm
            · rfl
          simp [this]
        | _ => rfl
    · rfl
  exact congrArg (fun hp => { w with heap := hp }) key

theorem clone_str (s : ByteArray) (w : World) (h : s.size ≤ 281474976710656) : Calls Tryd.prog 47 #[.string s] w fun e w' => e = .returned (.string s) ∧ Below w.heap.size w w' := by
  go_enter Tryd.func47, Tryd.ntmps47
  go_wp2_with (go_at_call 56; refine (Tryd.stringslite_Clone s w h).mono ?_; rintro e w2 ⟨rfl, hb⟩)
  go_ret
  exact ⟨rfl, hb⟩

theorem own_cells {w0 W : World} {g cap : Nat} {xs : List Att} {k : Nat} (h : Own5 w0 W (.slice (some ⟨g, 0, none⟩) xs.length cap) xs) (hk : k < xs.length) : AAt g (k * 5) xs[k] W ∧ W.frozen? ⟨g, k * 5 + 4, none⟩ = false := by
  have h2 := (Row.of_owns (C := attC) h).1
  obtain ⟨b, off, ha, -, -, -, -, hat⟩ := Arow.opn h2 (by omega)
  obtain ⟨rfl, rfl⟩ : b = g ∧ off = 0 := by injection ha with e; injection e with e1 e2; exact ⟨e1.symm, e2.symm⟩
  have h3 := hat k hk
  rw [Nat.zero_add] at h3
  refine ⟨h3, ?_⟩
  rcases h.2 with ⟨hn, _⟩ | ⟨g', cap', cur, hv, _, hh, _⟩
  · cases hn
  · injection hv with e; injection e with e; injection e with e1
    subst e1
    simp [World.frozen?, hh]

set_option maxRecDepth 100000 in
set_option maxHeartbeats 1000000 in
/-- own: the same set, in memory of the call's own. -/
theorem own_any (v : Value) (xs : List Att) (w : World) (hv : Arow w v xs) (hl : xs.length ≤ 100000) (hs : ∀ a ∈ xs, a.s.size ≤ 281474976710656) :
    Calls Tryd.prog 33 #[v] w fun e w' => ∃ u, e = .returned u ∧ Own5 w w' u xs ∧ Below w.heap.size w w' := by
  have HC := Lib.hid (copy_any5 v xs w hv hl)
  have HS := Lib.hid hs
  clear hv hs
  go_enter Tryd.func33, Tryd.ntmps33
  go_wp2_with (go_at_call 46; refine HC.out.mono ?_; rintro e w1 ⟨u, rfl, HR⟩; refine Hid.out ?_)
  obtain ⟨ho, hb⟩ := HR
  by_cases h0 : 0 < xs.length
  · obtain ⟨g, cap, rfl, -, hgl⟩ := ho.form h0
    refine Lib.hid ?_
    have HO := Lib.hid ho
    clear ho HC
    go_wp2
    go_loopw [9] (fun s9 wr => ∃ k : Nat, k ≤ xs.length ∧ s9 = .int .i64 k ∧ Own5 w wr (.slice (some ⟨g, 0, none⟩) xs.length cap) xs ∧ Below w.heap.size w wr ∧ g < wr.heap.size) (fun s9 _ => xs.length - (intOf s9).toNat)
    case atStart => exact ⟨0, Nat.zero_le _, rfl, HO.out, hb, hgl⟩
    case round =>
      obtain ⟨k, hk, rfl, ho, hbr, hgr⟩ := hrel
      by_cases hlt : k < xs.length
      · obtain ⟨⟨c0, c1, c2, c3, c4⟩, f4⟩ := own_cells ho hlt
        have hx := HS.out xs[k] (List.getElem_mem hlt)
        have hb1 := (Below.refl wr.heap.size wr).alloc (Nat.le_refl _) (.cells (aca xs[k]) 47)
        have ho1 := owns_below ho hb1
        have hbb1 := below_add hbr hb1 hbr.size
        have HO1 := Lib.hid (And.intro ho1 hbb1)
        have hbx := Lib.hid (hb1.cell (p := ⟨g, k * 5 + 4, none⟩) hgr)
        have fbx := Lib.hid (hb1.frozen (p := ⟨g, k * 5 + 4, none⟩) hgr)
        clear ho hb1 ho1 hbr hbb1
        generalize xs[k] = x at *
        obtain ⟨x1, x2, x3, x4, x5⟩ := x
        simp only at c0 c1 c2 c3 c4 hx
        go_wp2_with (go_at_call 47; refine (clone_str x5 _ (by simpa using hx)).mono ?_; rintro e w2 ⟨rfl, hb2⟩; refine Hid.out ?_)
        have c5 : w2.cell? ⟨g, k * 5 + 4, none⟩ = some (.string x5) := (hb2.cell (p := ⟨g, k * 5 + 4, none⟩) (by simp; omega)).trans (hbx.out.trans c4)
        have f5 : w2.frozen? ⟨g, k * 5 + 4, none⟩ = false := (hb2.frozen (p := ⟨g, k * 5 + 4, none⟩) (by simp; omega)).trans (fbx.out.trans f4)
        have e5 := Lib.hid (set_same c5)
        have H2 := Lib.hid (And.intro (owns_below HO1.out.1 hb2) (And.intro (below_add HO1.out.2 hb2 HO1.out.2.size) (show g < w2.heap.size by have := hb2.size; simp at this; omega)))
        clear hb2
        refine Lib.hid ?_
        go_wp2
        go_roundw
        case rel =>
          refine ⟨k + 1, by omega, by go_num, ?_⟩
          rw [e5.out]
          exact H2.out
        case measure => simp [intOf]; omega
      · obtain rfl : k = xs.length := by omega
        have HR := Lib.hid (And.intro ho hbr)
        clear ho hbr
        go_wp2
        go_ret
        exact ⟨_, rfl, HR.out⟩
  · obtain rfl : xs = [] := List.eq_nil_of_length_eq_zero (by omega)
    obtain ⟨a, cap, rfl⟩ := ((Row.of_owns (C := attC) ho).1).shape
    refine Lib.hid ?_
    have HO := Lib.hid ho
    clear ho HC
    go_wp2
    refine wp_loop_rounds 1 ?_
    rw [rounds_succ]
    go_wp2
    go_ret
    exact ⟨_, rfl, HO.out, hb⟩
end Go.Proofs.YtiobcifpebehnaaDoor
