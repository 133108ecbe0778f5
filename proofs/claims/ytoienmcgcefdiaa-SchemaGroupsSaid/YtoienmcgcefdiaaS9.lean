
import Derived.Test.YtoienmcgcefdiaaS8
/- S11: Group -/
namespace Go.Proofs.Ytoienmcgcefdiaa
open Go.RowKit
set_option linter.unusedVariables false

def grpP (g id : Int) (o : Key) : Bool := o.grp == g && o.id != id
def sel (g id : Int) (l : List Key) : List Int := (l.filter (grpP g id)).map (·.id)
theorem sel_step {g id : Int} {l : List Key} {j : Nat} (hj : j < l.length) : sel g id (l.take (j + 1)) = sel g id (l.take j) ++ (if grpP g id l[j] then [l[j].id] else []) := by
  rw [ktake_snoc l j hj]
  unfold sel
  rw [List.filter_append, List.map_append]
  congr 1
  by_cases h : grpP g id l[j] = true
  · simp [h]
  · simp [h]
theorem sel_len (g id : Int) (l : List Key) : (sel g id l).length ≤ l.length := by
  unfold sel; rw [List.length_map]; exact List.length_filter_le _ _
theorem grpOf_none {ks : List Key} {id : Int} (h : fnd ks id = none) : grpOf ks id = [] := by unfold grpOf; rw [h]
theorem grpOf_zero {ks : List Key} {id : Int} {k : Key} (h : fnd ks id = some k) (h0 : k.grp = 0) : grpOf ks id = [] := by unfold grpOf; rw [h]; simp [h0]
theorem grpOf_sel {ks : List Key} {id : Int} {k : Key} (h : fnd ks id = some k) (h0 : k.grp ≠ 0) : grpOf ks id = sel k.grp id (rising ks) := by unfold grpOf; rw [h]; simp [h0, sel]; rfl
theorem grpOf_len {ks : List Key} (hl : ks.length ≤ 64) (hg : Good ks) (id : Int) : (grpOf ks id).length ≤ 64 := by
  cases h : fnd ks id with
  | none => rw [grpOf_none h]; simp
  | some k =>
    by_cases h0 : k.grp = 0
    · rw [grpOf_zero h h0]; simp
    · rw [grpOf_sel h h0]
      have := sel_len k.grp id (rising ks)
      rw [rising_length hg] at this
      omega

/-- What Group answers: a row of the call's own. -/
def GroupPost (xs : List Int) (w : World) (e : Ending) (w' : World) : Prop :=
  ∃ v, e = .returned v ∧ w'.ownsRow w.heap.size 3 1 v xs.length (xs.map (Value.int .i64)) ∧ Below w.heap.size w w'
theorem group_nil (w w' : World) (xs : List Int) (hx : xs = []) (hb : Below w.heap.size w w') : GroupPost xs w (.returned (.slice none 0 0)) w' := by
  subst hx
  exact ⟨_, rfl, ⟨by simp, .inl ⟨rfl, rfl⟩⟩, hb⟩
theorem cell_new1 (w : World) (o : Obj) (u : Value) (t : TypeId) : ∀ j v, [u][j]? = some v → ((w.alloc o).alloc (.cells #[u] t)).cell? ((⟨w.heap.size + 1, 0, none⟩ : Addr).add j) = some v := by
  intro j v hv
  have h := heap_alloc_new (w.alloc o) (.cells #[u] t)
  simp only [World.size_alloc] at h
  rw [Go.WideShapes.add_plain, Nat.zero_add, cell_of_row ((w.alloc o).alloc (.cells #[u] t)) (w.heap.size + 1) j _ t (0, 0) h, ← hv]
  simp
theorem infoInt : (Try.prog.info? 3).map (fun i => (i.zero, i.size, i.bytes)) = some (some (.int .i64 0), 1, 8) := by kernel_rfl

/-- The loop over the rows: j are behind. -/
def GrpRel (w2 : World) (g id : Int) (l : List Key) (j : Nat) (v : Value) (wr : World) : Prop :=
  wr.ownsRow w2.heap.size 3 1 v (sel g id (l.take j)).length ((sel g id (l.take j)).map (Value.int .i64)) ∧ Below w2.heap.size w2 wr
theorem grp_init (w2 : World) (g id : Int) (l : List Key) : GrpRel w2 g id l 0 (.slice none 0 0) w2 := ⟨⟨by simp [sel], .inl ⟨rfl, by simp [sel]⟩⟩, Below.refl _ _⟩
theorem grp_skip {w2 wr : World} {g id : Int} {l : List Key} {j : Nat} {v : Value} (h : GrpRel w2 g id l j v wr) (hj : j < l.length) (hp : grpP g id l[j] = false) (o : Obj) : GrpRel w2 g id l (j + 1) v (wr.alloc o) := by
  obtain ⟨h1, h2⟩ := h
  have e : sel g id (l.take (j + 1)) = sel g id (l.take j) := by rw [sel_step hj, hp]; simp
  unfold GrpRel
  rw [e]
  exact ⟨h1.alloc o, h2.alloc h2.size o⟩
theorem grp_skip0 {w2 wr : World} {g id : Int} {l : List Key} {j : Nat} {v : Value} (h : GrpRel w2 g id l j v wr) (hj : j < l.length) (hp : grpP g id l[j] = false) (wx : World) (hx : ∃ q, wx = wr.drewN q) : GrpRel w2 g id l (j + 1) v wx := by
  obtain ⟨h1, h2⟩ := h
  obtain ⟨q, rfl⟩ := hx
  have e : sel g id (l.take (j + 1)) = sel g id (l.take j) := by rw [sel_step hj, hp]; simp
  unfold GrpRel
  rw [e]
  exact ⟨h1, blw_drewN h2 q⟩
theorem grp_take {w2 wr w3 : World} {g id x : Int} {l : List Key} {j : Nat} {v v3 : Value} (h : GrpRel w2 g id l j v wr) (hj : j < l.length) (hp : grpP g id l[j] = true) (hx : l[j].id = x) (wx : World) (hwx : Below wr.heap.size wr wx)
    (hown : w3.ownsRow w2.heap.size 3 1 v3 ((sel g id (l.take j)).length + 1) ((sel g id (l.take j)).map (Value.int .i64) ++ [.int .i64 x])) (hg : wx.grownBy w3 v.ownBlock) : GrpRel w2 g id l (j + 1) v3 w3 := by
  obtain ⟨h1, h2⟩ := h
  have e : sel g id (l.take (j + 1)) = sel g id (l.take j) ++ [x] := by rw [sel_step hj, hp, hx]; simp
  unfold GrpRel
  rw [e, List.length_append, List.map_append]
  exact ⟨by simpa using hown, (below_add h2 hwx h2.size).grown hg (Nat.le_trans h2.size hwx.size) (fun k hk => (h1.lt k hk).1)⟩
theorem grp_end {w w2 wr : World} {g id : Int} {l : List Key} {v : Value} (h : GrpRel w2 g id l l.length v wr) (hb : Below w.heap.size w w2) : GroupPost (sel g id l) w (.returned v) wr := by
  obtain ⟨h1, h2⟩ := h
  rw [List.take_of_length_le (Nat.le_refl _)] at h1
  exact ⟨_, rfl, owns_mono h1 hb.size, below_add hb h2 hb.size⟩

set_option maxRecDepth 100000 in
set_option maxHeartbeats 1000000 in
theorem group_any (v : Value) (ks : List Key) (id : Int) (w : World) (hs : Sch w v ks) (hw : (Lit.int .i64 id).wf = true) :
    Calls Try.prog 15 #[v, .int .i64 id] w (GroupPost (grpOf ks id) w) := by
  have HF := find_any v ks id w hs hw
  cases hf : fnd ks id with
  | none =>
    rw [fndV_none hf] at HF
    have HE := Lib.hid (grpOf_none hf)
    have HF := Lib.hid HF
    clear hf hs
    go_enter Try.func15, Try.ntmps15
    go_wp2_with (go_at_call 13; ((with_reducible refine HF.out.mono ?_); rintro e w1 ⟨rfl, hb1⟩))
    go_ret
    exact group_nil _ _ _ HE.out (hb1.alloc hb1.size _)
  | some k =>
    rw [fndV_some hf] at HF
    have HF := Lib.hid HF
    by_cases h0 : k.grp = 0
    · have HE := Lib.hid (grpOf_zero hf h0)
      clear hf hs
      obtain ⟨k1, k2, k3, k4, k5, k6⟩ := k
      simp only at h0
      subst h0
      go_enter Try.func15, Try.ntmps15
      go_wp2_with (go_at_call 13; ((with_reducible refine HF.out.mono ?_); rintro e w1 ⟨rfl, hb1⟩))
      go_ret
      exact group_nil _ _ _ HE.out (hb1.alloc hb1.size _)
    · have HE := Lib.hid (grpOf_sel hf h0)
      have hl := hs.few
      have hrl := rising_length hs.1
      have hpos : 0 < ks.length := List.length_pos_iff.2 (fun e => by rw [e] at hf; cases hf)
      obtain ⟨i0, hi, hz0, hz1, hz2⟩ := info_parts infoInt
      generalize hrs : rising ks = rs at HE hrl
      have HRS := Lib.hid hrs
      clear hrs hf
      obtain ⟨k1, k2, k3, k4, k5, k6⟩ := k
      have e6 : (k6 == 0) = false := by simpa using h0
      have HS := Lib.hid hs
      clear h0 hs
      have hrl2 : rs.length ≤ 64 := by omega
      have hrl0 : 0 < rs.length := by omega
      clear hrl
      go_enter Try.func15, Try.ntmps15
      go_wp2_with (first
        | (go_at_call 13; ((with_reducible refine HF.out.mono ?_); rintro e w1 ⟨rfl, hb1⟩))
        | (go_at_call 12; refine (keys_any v ks _ (HS.out.below (hb1.alloc hb1.size _) (Nat.le_refl _))).mono ?_; rintro e w2 ⟨lv, he, hown2, hb2⟩; rw [HRS.out] at hown2; obtain ⟨la, lcap, rfl⟩ := (Krow.of_owns hown2).1.shape; obtain ⟨b, off, rfl, -, -, -, hbl, hat⟩ := (Krow.of_owns hown2).1.opened hrl0; subst he))
      have hkb := (KBox.box ⟨k1, k2, k3, k4, k5, k6⟩ w1 32).below hb2 (by simp)
      have hB := below_add (hb1.alloc hb1.size _) hb2 (hb1.alloc hb1.size _).size
      have hat := Lib.hid hat
      have hkl := World.block_lt_of_cell? _ _ hkb.1
      have hkg := hkb.2.2.2.2.2
      simp only at hkl hkg
      clear hown2 hb2 hkb
      generalize w1.heap.size = B5 at hkl hkg
      go_loopw [7, 22] (fun v i wr => ∃ j : Nat, j ≤ rs.length ∧ i = .int .i64 j ∧ GrpRel w2 k6 id rs j v wr) (fun _ i _ => rs.length - (intOf i).toNat)
      case atStart => exact ⟨0, Nat.zero_le _, rfl, grp_init w2 k6 id rs⟩
      case round =>
        obtain ⟨j, hj, rfl, hR⟩ := hrel
        by_cases hlt : j < rs.length
        · obtain ⟨c0, c1, c2, c3, c4, c5⟩ := (hat.out j hlt).below hR.2 hbl
          have hk5 := (hR.2.cell (p := ⟨B5, 5, none⟩) hkl).trans hkg
          have hbs := hR.2.size
          have hown := hR.1
          have hsl : (sel k6 id (rs.take j)).length ≤ 64 := by
            have := sel_len k6 id (rs.take j)
            rw [List.length_take] at this
            omega
          have hsk := fun hp => grp_skip hR hlt hp
          have htk := fun hp w3 v3 wx => grp_take (w3 := w3) (v3 := v3) (x := rs[j].id) hR hlt hp rfl wx
          have hP : grpP k6 id rs[j] = (rs[j].grp == k6 && rs[j].id != id) := rfl
          rw [hP] at hsk htk
          clear hP hR
          generalize rs[j] = o at *
          obtain ⟨x1, x2, x3, x4, x5, x6⟩ := o
          simp only at c0 c1 c2 c3 c4 c5 hsk htk
          generalize hsx : sel k6 id (rs.take j) = sx at *
          clear hsx
          have hk6 := (((Below.refl wr.heap.size wr).alloc (Nat.le_refl _) (.cells #[.int .i64 x1, .bool x2, .int .u8 x3, .bool x4, .bool x5, .int .i64 x6] 32)).cell (p := ⟨B5, 5, none⟩) (World.block_lt_of_cell? _ _ hk5)).trans hk5
          have HSK := Lib.hid hsk
          have HTK := Lib.hid htk
          clear hsk htk
          by_cases q1 : x6 = k6
          · subst q1
            by_cases q2 : x1 = id
            · subst q2
              have d2 : (x1 != x1) = false := by simp
              go_wp2
              go_roundw
              case rel => exact ⟨j + 1, by omega, by go_num, HSK.out (by simp) _⟩
              case measure => simp [intOf]; omega
            · have d2 : (x1 != id) = true := by simpa using q2
              have HH := Lib.hid (HTK.out (by simp [q2]))
              clear q2
              go_wp2_with (at_builtin; refine wpList_append_own _ rfl (.tmp 37) (.tmp 40) 40 rfl w2.heap.size 3 i0 (.int .i64 0) 1 8 Try.underlying40 hi hz0 hz1 hz2 rfl (by decide) u7 sx.length (sx.map (Value.int .i64)) rfl ((hown.alloc _).alloc _) ⟨wr.heap.size + 1, 0, none⟩ 1 1 [.int .i64 x1] rfl rfl (cell_new1 _ _ _ _) (by simp; rfl) (by unfold maxLen; omega) (by omega) (by simp; omega) ?_; intro v3 w3 hown3 hgrow3 hnil3)
              go_roundw
              case rel => exact ⟨j + 1, by omega, by go_num, HH.out w3 v3 _ (kbelow_two wr _ _) hown3 hgrow3⟩
              case measure => simp [intOf]; omega
          · have d1 : (x6 == k6) = false := by simpa using q1
            go_wp2
            go_roundw
            case rel => exact ⟨j + 1, by omega, by go_num, HSK.out (by simp [q1]) _⟩
            case measure => simp [intOf]; omega
        · obtain rfl : j = rs.length := by omega
          have HR := Lib.hid hR
          go_wp2
          go_ret
          rw [HE.out]
          exact grp_end HR.out hB
end Go.Proofs.Ytoienmcgcefdiaa
