
import Derived.Test.YteodfbkfpboehaaEN
/- EO: calls that came in: a row of them, and one by value; which are looked at -/
namespace Go.Proofs.Yteodfbkfpboehaa
open Go.RowKit Go.ChangeShapes Go.WideShapes Go.Deep
set_option linter.unusedVariables false

/-- A call as it is laid; a call as plain data. -/
structure OpV where
  k : Int
  i : Int
  m : Int
  la : Option Addr
  ll : Nat
  lc : Nat
  xa : Option Addr
  xl : Nat
  xc : Nat
structure OpL where
  k : Int
  i : Int
  m : Int
  L : List (List Att)
  x : List Chg
def OpV.sL (o : OpV) : Value := .slice o.la o.ll o.lc
def OpV.sX (o : OpV) : Value := .slice o.xa o.xl o.xc
def opC : Cel OpV := ⟨fun o => [.int .i64 o.k, .int .i64 o.i, .int .i64 o.m, .slice o.la o.ll o.lc, .slice o.xa o.xl o.xc], 5, fun _ => rfl, fun o u hu => by
  simp only [List.mem_cons, List.not_mem_nil, or_false] at hu
  rcases hu with rfl | rfl | rfl | rfl | rfl <;> rfl, by decide⟩
/-- A call as one value. -/
def opA (o : OpV) : Value := .agg (opC.c o).toArray
/-- A call that reads so. -/
structure OpR (w : World) (o : OpV) (p : OpL) : Prop where
  k : o.k = p.k
  i : o.i = p.i
  m : o.m = p.m
  L : Nrow w o.sL p.L
  x : Crow w o.sX p.x
theorem OpR.below {w w' : World} {o : OpV} {p : OpL} (h : OpR w o p) (hb : Below w.heap.size w w') : OpR w' o p := ⟨h.k, h.i, h.m, h.L.below hb (Nat.le_refl _), h.x.below hb (Nat.le_refl _)⟩
theorem OpR.ll {w : World} {o : OpV} {p : OpL} (h : OpR w o p) : o.ll = p.L.length ∧ o.xl = p.x.length := by
  obtain ⟨a, c, e⟩ := h.L.shape
  obtain ⟨a2, c2, e2⟩ := h.x.shape
  unfold OpV.sL at e
  unfold OpV.sX at e2
  injection e with _ e _
  injection e2 with _ e2 _
  exact ⟨e, e2⟩
/-- A slice of calls that reads as ls. -/
def Orow (w : World) (v : Value) (ls : List OpL) : Prop := ∃ (ss : List OpV) (f : OpV → OpL), Row opC w v ss ∧ ls = ss.map f ∧ ∀ o ∈ ss, OpR w o (f o)
theorem Orow.shape {w : World} {v : Value} {ls : List OpL} (h : Orow w v ls) : ∃ a cap, v = .slice a ls.length cap := by
  obtain ⟨ss, f, h1, rfl, -⟩ := h
  obtain ⟨a, cap, rfl⟩ := h1.shape
  exact ⟨a, cap, by simp⟩
theorem Orow.len {w : World} {v : Value} {ls : List OpL} (h : Orow w v ls) : ls.length ≤ 9223372036854775807 := by
  obtain ⟨ss, f, h1, rfl, -⟩ := h
  have := h1.len
  simpa using this
theorem Orow.below {w w' : World} {v : Value} {ls : List OpL} (h : Orow w v ls) (hb : Below w.heap.size w w') : Orow w' v ls := by
  obtain ⟨ss, f, h1, h2, h3⟩ := h
  exact ⟨ss, f, h1.below hb (Nat.le_refl _), h2, fun o ho => (h3 o ho).below hb⟩
theorem Orow.opn {w : World} {a : Option Addr} {n cap : Nat} {ls : List OpL} (h : Orow w (.slice a n cap) ls) (h0 : 0 < ls.length) :
    ∃ b off, a = some ⟨b, off, none⟩ ∧ n = ls.length ∧ ls.length ≤ cap ∧ cap ≤ maxLen ∧ b < w.heap.size ∧ (∀ j (hj : j < ls.length), ∃ la lc xa xc,
      w.cell? ⟨b, off + j * 5, none⟩ = some (.int .i64 ls[j].k) ∧ w.cell? ⟨b, off + j * 5 + 1, none⟩ = some (.int .i64 ls[j].i) ∧ w.cell? ⟨b, off + j * 5 + 2, none⟩ = some (.int .i64 ls[j].m) ∧ w.cell? ⟨b, off + j * 5 + 3, none⟩ = some (.slice la ls[j].L.length lc) ∧ w.cell? ⟨b, off + j * 5 + 4, none⟩ = some (.slice xa ls[j].x.length xc) ∧ Nrow w (.slice la ls[j].L.length lc) ls[j].L ∧ Crow w (.slice xa ls[j].x.length xc) ls[j].x) := by
  obtain ⟨ss, f, h1, rfl, h3⟩ := h
  rw [List.length_map] at h0
  obtain ⟨b, off, ha, hn, hc, hm, hb, hat, -⟩ := Row.opened h1 h0
  refine ⟨b, off, ha, by rw [List.length_map]; exact hn, by rw [List.length_map]; exact hc, hm, hb, fun j hj => ?_⟩
  have hj' : j < ss.length := by simpa using hj
  have hr := h3 ss[j] (List.getElem_mem hj')
  have hl := hr.ll
  have c0 := hat j hj' 0 _ rfl
  have c1 := hat j hj' 1 _ rfl
  have c2 := hat j hj' 2 _ rfl
  have c3 := hat j hj' 3 _ rfl
  have c4 := hat j hj' 4 _ rfl
  rw [List.getElem_map]
  have hL := hr.L
  have hX := hr.x
  unfold OpV.sL at hL
  unfold OpV.sX at hX
  rw [hl.1] at hL c3
  rw [hl.2] at hX c4
  rw [hr.k] at c0
  rw [hr.i] at c1
  rw [hr.m] at c2
  exact ⟨_, _, _, _, c0, c1, c2, c3, c4, hL, hX⟩
section
variable {H : Type} {enc : TypeId × Value → H} {w : World} {base : Nat} {spare : Nat → Bool} {held : Bool}
/-- What a slice that came in is of, as data: so many. -/
def InN (d : DataW H) (n : Nat) : Prop := d = .nil ∧ n = 0 ∨ ∃ ds sp, d = .slice ds sp ∧ ds.length = n
/-- A slice that came in, whatever its elements are. -/
theorem open_rowN {α : Type} (C : Cel α) (P : α → Prop) {t e : TypeId} (ht : Try.prog.underlying t = some (.slice e)) (hce : Try.prog.cellsOf e = C.m)
    (hel : ∀ (n : Nat) (cs : List Value) (y : DataW H × List MemPlace), DataW.trod enc Try.prog w base spare held n e cs = some y → ∃ x, P x ∧ cs = C.c x)
    {n : Nat} {v : Value} {x : DataW H × List MemPlace} (h : DataW.trod enc Try.prog w base spare held n t [v] = some x) : ∃ xs, Row C w v xs ∧ (∀ a ∈ xs, P a) ∧ InN x.1 xs.length := by
  obtain ⟨xs, h1, h2⟩ := open_rowC C P ht hce hel h
  refine ⟨xs, h1, h2, ?_⟩
  obtain ⟨a9, c9, hv9⟩ := h1.shape
  rcases open_slice ht h with ⟨hcs, hx⟩ | ⟨a, len, cap, m, n', D, Pl, hcs, -, hl, hm, hmm, hx, hi⟩
  · injection hcs with hv _
    rw [hv] at hv9
    injection hv9 with _ e _
    exact .inl ⟨by rw [hx], e.symm⟩
  · injection hcs with hv _
    rw [hv] at hv9
    injection hv9 with _ e _
    exact .inr ⟨_, _, by rw [hx], by simp [e]⟩
theorem op_fields : Try.prog.underlying 25 = some (.struct (Try.prog.fieldsOf 25)) := by kernel_rfl
theorem op_one : oneCellFields Try.prog (Try.prog.fieldsOf 25) = true := by kernel_rfl
theorem op_cells : Try.prog.cellsOf 25 = 5 := by kernel_rfl
theorem op_types : (Try.prog.fieldsOf 25).map (·.type) = #[3, 3, 3, 22, 23] := by kernel_rfl
theorem op_size : (Try.prog.fieldsOf 25).size = 5 := by kernel_rfl
theorem op_bytes : Try.prog.bytesOf 25 = 72 := by kernel_rfl
set_option maxRecDepth 100000 in
theorem open_op {n : Nat} {cs : List Value} {y : DataW H × List MemPlace} (h : DataW.trod enc Try.prog w base spare held n 25 cs = some y) : ∃ o : OpV, (∃ p, OpR w o p) ∧ cs = opC.c o := by
  obtain ⟨ys, m, -, hy, hlen, hys, hf⟩ := DataW.trod_struct op_fields h
  rw [op_cells] at hlen
  rw [op_size] at hys
  have hj : ∀ (j : Nat) (t : TypeId), (#[3, 3, 3, 22, 23] : Array TypeId)[j]? = some t → DataW.trod enc Try.prog w base spare held m t ((cs.drop j).take 1) = ys[j]? := by
    intro j t hjt
    rw [← op_types, Array.getElem?_map, Option.map_eq_some_iff] at hjt
    obtain ⟨f, hfj, rfl⟩ := hjt
    obtain ⟨ho, hk⟩ := hone_of op_one j f hfj
    have := hf j f hfj
    rwa [ho, hk] at this
  clear hf h
  match cs, hlen with
  | [c0, c1, c2, c3, c4], _ =>
    match ys, hys with
    | [y0, y1, y2, y3, y4], _ =>
      have h0 : DataW.trod enc Try.prog w base spare held m 3 [c0] = some y0 := hj 0 _ rfl
      have h1 : DataW.trod enc Try.prog w base spare held m 3 [c1] = some y1 := hj 1 _ rfl
      have h2 : DataW.trod enc Try.prog w base spare held m 3 [c2] = some y2 := hj 2 _ rfl
      have h3 : DataW.trod enc Try.prog w base spare held m 22 [c3] = some y3 := hj 3 _ rfl
      have h4 : DataW.trod enc Try.prog w base spare held m 23 [c4] = some y4 := hj 4 _ rfl
      obtain ⟨a0, e0, rfl, w0⟩ := DataW.trod_int Try.underlying3 h0
      obtain ⟨a1, e1, rfl, w1⟩ := DataW.trod_int Try.underlying3 h1
      obtain ⟨a2, e2, rfl, w2⟩ := DataW.trod_int Try.underlying3 h2
      obtain ⟨L, q1, -⟩ := open_nest h3
      obtain ⟨xs, q2, -, -⟩ := open_chs h4
      simp only [List.cons.injEq, and_true] at e0 e1 e2
      subst e0 e1 e2
      obtain ⟨a, cap, rfl⟩ := q1.shape
      obtain ⟨a', cap', rfl⟩ := q2.shape
      exact ⟨⟨a0, a1, a2, a, L.length, cap, a', xs.length, cap'⟩, ⟨⟨a0, a1, a2, L, xs⟩, rfl, rfl, rfl, q1, q2⟩, rfl⟩
/-- A slice of calls that came in. -/
theorem open_ops {n : Nat} {v : Value} {x : DataW H × List MemPlace} (h : DataW.trod enc Try.prog w base spare held n 27 [v] = some x) : ∃ ls : List OpL, Orow w v ls ∧ InN x.1 ls.length := by
  obtain ⟨ss, h1, h2, h3⟩ := open_rowN opC (fun o => ∃ p, OpR w o p) Try.underlying27 op_cells (fun n cs y hy => open_op hy) h
  have hch : ∀ o : OpV, ∃ p : OpL, o ∈ ss → OpR w o p := fun o => by
    by_cases ho : o ∈ ss
    · obtain ⟨p, q⟩ := h2 o ho
      exact ⟨p, fun _ => q⟩
    · exact ⟨⟨0, 0, 0, [], []⟩, fun hc => absurd hc ho⟩
  obtain ⟨f, hf⟩ := Classical.axiomOfChoice hch
  exact ⟨_, ⟨ss, f, h1, rfl, hf⟩, by rw [List.length_map]; exact h3⟩
set_option maxRecDepth 100000 in
/-- What they weigh. -/
theorem sized_O {ts : List TypeId} {ds : List (DataW H)} (h : (DataW.weightsEach Try.prog ts ds).all (· ≤ reachBytes) = true) {j : Nat} {d : DataW H} {n : Nat} (hd : InN d n) (ht : ts[j]? = some 27) (hj : ds[j]? = some d) : n * 72 ≤ 140737488351232 := by
  have h2 : reachBytes = 140737488351232 := by decide
  rcases hd with ⟨-, rfl⟩ | ⟨es, sp, rfl, rfl⟩
  · simp
  · have := sized_slice h ht hj Try.underlying27
    rw [op_bytes, h2] at this
    have h3 : es.length * 72 ≤ (es.length + sp.length) * 72 := Nat.mul_le_mul_right _ (by omega)
    omega
end

/-! ### which calls are looked at -/
def smallO (o : OpL) : Prop := o.L.length ≤ 60 ∧ o.x.length ≤ 70 ∧ RiseC o.x ∧ ∀ s ∈ o.L, s.length ≤ 70 ∧ Rise s
instance (o : OpL) : Decidable (smallO o) := by unfold smallO; infer_instance
def smallL (ls : List OpL) : Prop := ls.length ≤ 60 ∧ ∀ o ∈ ls, smallO o
instance (ls : List OpL) : Decidable (smallL ls) := by unfold smallL; infer_instance
theorem small_no {ls : List OpL} {o : OpL} (h : o ∈ ls) (hs : ¬ smallO o) : decide (smallL ls) = false := decide_eq_false (fun hl => hs (hl.2 o h))
theorem take_step {α : Type} {p : α → Prop} {xs : List α} {k : Nat} (h : k < xs.length) (hp : ∀ a ∈ xs.take k, p a) (hs : p xs[k]) : ∀ a ∈ xs.take (k + 1), p a := by
  intro a ha
  rw [List.take_succ_eq_append_getElem h] at ha
  rcases List.mem_append.1 ha with ha | ha
  · exact hp a ha
  · obtain rfl := List.mem_singleton.1 ha; exact hs
@[reducible] def opcs (k i m : Int) (la : Option Addr) (ll lc : Nat) (xa : Option Addr) (xl xc : Nat) : Array Value := #[.int .i64 k, .int .i64 i, .int .i64 m, .slice la ll lc, .slice xa xl xc]
set_option maxRecDepth 100000 in
set_option maxHeartbeats 2000000 in
theorem small_any (v : Value) (ls : List OpL) (w : World) (h : Orow w v ls) : Calls Try.prog 7 #[v] w fun e w' => e = .returned (.bool (decide (smallL ls))) ∧ Below w.heap.size w w' := by
  obtain ⟨a, cap, rfl⟩ := h.shape
  have hll := h.len
  by_cases hl : ls.length ≤ 60
  · have d0 : decide ((60 : Int) < ((ls.length : Nat) : Int)) = false := decide_eq_false (by omega)
    have d9 : decide (60 < ls.length) = false := decide_eq_false (by omega)
    have HL := Lib.hid hl
    have HV := Lib.hid h
    clear h hl
    go_enter Try.func7, Try.ntmps7
    go_wp2
    go_loopw [12] (fun s12 wr => ∃ k : Nat, k ≤ ls.length ∧ s12 = .int .i64 k ∧ Hid ((∀ o ∈ ls.take k, smallO o) ∧ Below w.heap.size w wr)) (fun s12 _ => ls.length - (intOf s12).toNat)
    case atStart => exact ⟨0, Nat.zero_le _, rfl, Lib.hid ⟨by simp, Below.refl _ _⟩⟩
    case round =>
      obtain ⟨k, hk, rfl, HR⟩ := hrel
      obtain ⟨wo, hwo⟩ : ∃ x : World, x = wr := ⟨_, rfl⟩
      subst hwo
      by_cases hlt : k < ls.length
      · obtain ⟨b, off, ha, -, -, -, hbl, hat⟩ := HV.out.opn (by omega)
        subst ha
        obtain ⟨la, lc, xa, xc, c0, c1, c2, c3, c4, hN, hC⟩ := hat k hlt
        have hbw := HR.out.2
        have HSM := Lib.hid (fun hs => small_no (List.getElem_mem hlt) hs)
        have HTS := Lib.hid (fun hs => take_step (p := smallO) hlt HR.out.1 hs)
        obtain ⟨o, ho⟩ : ∃ o, ls[k] = o := ⟨_, rfl⟩
        rw [ho] at c0 c1 c2 c3 c4 hN hC HSM HTS
        obtain ⟨ok, oi, om, oL, ox⟩ := o
        have c0 : wo.cell? ⟨b, off + k * 5, none⟩ = some (.int .i64 ok) := (hbw.cell hbl).trans c0
        have c1 : wo.cell? ⟨b, off + k * 5 + 1, none⟩ = some (.int .i64 oi) := (hbw.cell hbl).trans c1
        have c2 : wo.cell? ⟨b, off + k * 5 + 2, none⟩ = some (.int .i64 om) := (hbw.cell hbl).trans c2
        have c3 : wo.cell? ⟨b, off + k * 5 + 3, none⟩ = some (.slice la oL.length lc) := (hbw.cell hbl).trans c3
        have c4 : wo.cell? ⟨b, off + k * 5 + 4, none⟩ = some (.slice xa ox.length xc) := (hbw.cell hbl).trans c4
        have hN : Nrow w (.slice la oL.length lc) oL := hN
        have hC : Crow w (.slice xa ox.length xc) ox := hC
        have HN := Lib.hid (fun W (hb : Below wo.heap.size wo W) => hN.below (below_add hbw hb hbw.size) (Nat.le_refl _))
        have HC := Lib.hid (fun W (hb : Below wo.heap.size wo W) => hC.below (below_add hbw hb hbw.size) (Nat.le_refl _))
        obtain ⟨Ln, hLn⟩ : ∃ n, oL.length = n := ⟨_, rfl⟩
        obtain ⟨xn, hxn⟩ : ∃ n, ox.length = n := ⟨_, rfl⟩
        have HLn := Lib.hid hLn
        have HXn := Lib.hid hxn
        rw [hLn] at c3 HN
        rw [hxn] at c4 HC
        have HBW := Lib.hid hbw
        have HAL := Lib.hid (below_alloc1 wo (.cells (opcs ok oi om la Ln lc xa xn xc) 25))
        have hnl := hN.len
        have hcl := hC.len
        rw [hLn] at hnl
        rw [hxn] at hcl
        clear hat ho hLn hxn hN hC hbw
        by_cases hL : Ln ≤ 60
        · have d1 : decide ((60 : Int) < ((Ln : Nat) : Int)) = false := decide_eq_false (by omega)
          have d2 : decide (60 < Ln) = false := decide_eq_false (by omega)
          by_cases hX : xn ≤ 70
          · have d3 : decide ((70 : Int) < ((xn : Nat) : Int)) = false := decide_eq_false (by omega)
            have d4 : decide (70 < xn) = false := decide_eq_false (by omega)
            have HRS := Lib.hid (fun W (hb : Below wo.heap.size wo W) => rising_any6 (.slice xa xn xc) ox W (HC.out W hb))
            by_cases hR : RiseC ox
            · rw [decide_eq_true hR] at HRS
              have HO := Lib.hid (And.intro hL (And.intro hX hR))
              clear hL hX hR
              go_wp2_with (go_at_call 20; refine (HRS.out _ HAL.out).mono ?_; rintro e w2 ⟨rfl, q, rfl⟩)
              clear c0 c1 c2 c3 c4
              go_loopw [35] (fun s35 wi => ∃ j : Nat, j ≤ Ln ∧ s35 = .int .i64 j ∧ Hid ((∀ s ∈ oL.take j, s.length ≤ 70 ∧ Rise s) ∧ Below wo.heap.size wo wi)) (fun s35 _ => Ln - (intOf s35).toNat)
              case atStart => exact ⟨0, Nat.zero_le _, rfl, Lib.hid ⟨by simp, blw_drewN HAL.out q⟩⟩
              case round =>
                obtain ⟨j, hj, rfl, HI⟩ := hrel
                obtain ⟨wi, hwi⟩ : ∃ x : World, x = wr := ⟨_, rfl⟩
                subst hwi
                by_cases hlj : j < Ln
                · have hlo : j < oL.length := by rw [HLn.out]; exact hlj
                  obtain ⟨b2, o2, ha2, -, -, -, -, hat2⟩ := (HN.out wi HI.out.2).opn (by omega)
                  subst ha2
                  obtain ⟨sa, sc, e0, hS⟩ := hat2 j hlo
                  have HSN := Lib.hid (fun (hq : ¬ (oL[j].length ≤ 70 ∧ Rise oL[j])) => HSM.out (fun q => hq (q.2.2.2 _ (List.getElem_mem hlo))))
                  have HSY := Lib.hid (fun (hq : oL[j].length ≤ 70 ∧ Rise oL[j]) => take_step (p := fun s => s.length ≤ 70 ∧ Rise s) hlo HI.out.1 hq)
                  obtain ⟨s, hs⟩ : ∃ s, oL[j] = s := ⟨_, rfl⟩
                  rw [hs] at e0 hS HSN HSY
                  have hsl := hS.len
                  obtain ⟨sn, hsn⟩ : ∃ n, s.length = n := ⟨_, rfl⟩
                  rw [hsn] at e0 hsl HSN HSY
                  have HRA := Lib.hid (rising_any5 _ s wi hS)
                  rw [hsn] at HRA
                  have HBI := Lib.hid HI.out.2
                  clear hs hsn hS hat2
                  by_cases hs7 : sn ≤ 70
                  · have d5 : decide ((70 : Int) < ((sn : Nat) : Int)) = false := decide_eq_false (by omega)
                    have d6 : decide (70 < sn) = false := decide_eq_false (by omega)
                    by_cases hR : Rise s
                    · rw [decide_eq_true hR] at HRA
                      have HTK := Lib.hid (HSY.out ⟨hs7, hR⟩)
                      clear hR hs7
                      go_wp2_with (go_at_call 21; refine HRA.out.mono ?_; rintro e w3 ⟨rfl, q3, rfl⟩)
                      go_roundw
                      case rel => exact ⟨j + 1, hlj, by simp, Lib.hid ⟨HTK.out, blw_drewN HBI.out q3⟩⟩
                      case measure => simp only [intOf]; omega
                    · rw [decide_eq_false hR] at HRA
                      have HE := Lib.hid (HSN.out (fun q => hR q.2))
                      clear hR hs7
                      go_wp2_with (go_at_call 21; refine HRA.out.mono ?_; rintro e w3 ⟨rfl, q3, rfl⟩)
                      go_ret
                      exact ⟨by rw [HE.out]; rfl, below_add HBW.out (blw_drewN HBI.out q3) HBW.out.size⟩
                  · have d5 : decide ((70 : Int) < ((sn : Nat) : Int)) = true := decide_eq_true (by omega)
                    have d6 : decide (70 < sn) = true := decide_eq_true (by omega)
                    have HE := Lib.hid (HSN.out (fun q => hs7 q.1))
                    clear hs7
                    go_wp2
                    go_ret
                    exact ⟨by rw [HE.out]; rfl, below_add HBW.out HBI.out HBW.out.size⟩
                · obtain rfl : j = Ln := by omega
                  have HTK := Lib.hid (HTS.out ⟨by rw [HLn.out]; exact HO.out.1, by rw [HXn.out]; exact HO.out.2.1, HO.out.2.2, by have := HI.out.1; rwa [List.take_of_length_le (by rw [HLn.out]; exact Nat.le_refl _)] at this⟩)
                  have HBI := Lib.hid (below_add HBW.out HI.out.2 HBW.out.size)
                  go_wp2
                  go_roundw
                  case rel => exact ⟨k + 1, hlt, by go_num, Lib.hid ⟨HTK.out, HBI.out⟩⟩
                  case measure => simp only [intOf]; omega
            · rw [decide_eq_false hR] at HRS
              have HE := Lib.hid (HSM.out (fun q => hR q.2.2.1))
              clear hR hX hL
              go_wp2_with (go_at_call 20; refine (HRS.out _ HAL.out).mono ?_; rintro e w2 ⟨rfl, q, rfl⟩)
              go_ret
              exact ⟨by rw [HE.out]; rfl, below_add HBW.out (blw_drewN HAL.out q) HBW.out.size⟩
          · have d3 : decide ((70 : Int) < ((xn : Nat) : Int)) = true := decide_eq_true (by omega)
            have d4 : decide (70 < xn) = true := decide_eq_true (by omega)
            have HE := Lib.hid (HSM.out (fun q => hX (by rw [← HXn.out]; exact q.2.1)))
            clear hX hL
            go_wp2
            go_ret
            exact ⟨by rw [HE.out]; rfl, below_add HBW.out HAL.out HBW.out.size⟩
        · have d1 : decide ((60 : Int) < ((Ln : Nat) : Int)) = true := decide_eq_true (by omega)
          have d2 : decide (60 < Ln) = true := decide_eq_true (by omega)
          have HE := Lib.hid (HSM.out (fun q => hL (by rw [← HLn.out]; exact q.1)))
          clear hL
          go_wp2
          go_ret
          exact ⟨by rw [HE.out]; rfl, below_add HBW.out HAL.out HBW.out.size⟩
      · obtain rfl : k = ls.length := by omega
        have HE := Lib.hid (show decide (smallL ls) = true from decide_eq_true ⟨HL.out, by have := HR.out.1; rwa [List.take_of_length_le (Nat.le_refl _)] at this⟩)
        go_wp2
        go_ret
        exact ⟨by rw [HE.out]; rfl, HR.out.2⟩
  · have d0 : decide ((60 : Int) < ((ls.length : Nat) : Int)) = true := decide_eq_true (by omega)
    have d9 : decide (60 < ls.length) = true := decide_eq_true (by omega)
    have HE := Lib.hid (show decide (smallL ls) = false from decide_eq_false (fun q => hl q.1))
    clear h
    go_enter Try.func7, Try.ntmps7
    go_wp2
    go_ret
    exact ⟨by rw [HE.out]; rfl, Below.refl _ _⟩
end Go.Proofs.Yteodfbkfpboehaa
