
import Derived.Test.YtclbjfeneegicaaBA
/- BB: Of; the reference's Add -/
namespace Go.Proofs.Ytclbjfeneegicaa
open Go.RowKit
set_option linter.unusedVariables false
set_option maxRecDepth 100000

/-- What is joined so far, in a slot. -/
structure OfK (w0 : World) (p : List (List Att)) (m : Nat) (u : Value) (zs : List Bz) (W : World) : Prop where
  rep : Rep (zs.map Bz.b) p
  ln : zs.length ≤ m
  z0 : zs = [] → u = .slice none 0 0
  own : Zown w0.heap.size W u zs
  bel : Below w0.heap.size w0 W
theorem OfK.start (w : World) : OfK w [] 0 (.slice none 0 0) [] w := ⟨Rep.nil, Nat.le_refl _, fun _ => rfl, Zown.nil _ _, Below.refl _ _⟩
theorem OfK.below {w0 W W' : World} {p : List (List Att)} {m : Nat} {u : Value} {zs : List Bz} (h : OfK w0 p m u zs W) (hb : Below W.heap.size W W') : OfK w0 p m u zs W' :=
  ⟨h.rep, h.ln, h.z0, h.own.below hb, below_add h.bel hb h.bel.size⟩
theorem OfK.next {w0 W W' : World} {p p' : List (List Att)} {m : Nat} {u : Value} {zs zs' : List Bz} {a : Option Addr} {c : Nat} (h : OfK w0 p m u zs W) (ho : Zown w0.heap.size W' (.slice a zs'.length c) zs') (hr : Rep (zs'.map Bz.b) p') (hl : zs' = [] → Value.slice a zs'.length c = .slice none 0 0) (hl2 : zs'.length ≤ zs.length + 1) (hO : Off (fun k => u.ownBlock = some k) W W') :
    OfK w0 p' (m + 1) (.slice a zs'.length c) zs' W' :=
  ⟨hr, by have := h.ln; omega, hl, ho, h.bel.trans (hO.below (fun k hk => own_base h.own.row hk) h.bel.size)⟩
theorem cells_take {cs : List Cz} {k : Nat} (h : k < cs.length) : (cs.take (k + 1)).map Cz.inl = (cs.take k).map Cz.inl ++ List.replicate (1 : Int).toNat cs[k].inl := by
  rw [List.take_succ_eq_append_getElem h, List.map_append]; rfl
theorem inl_len (z : Cz) : z.inl.length ≤ z.s.length := by unfold Cz.inl; split <;> simp
set_option maxHeartbeats 4000000 in
theorem of_any (v : Value) (cs : List Cz) (w : World) (hv : Crow w v cs) (hl : cs.length ≤ 1000) (hs : ∀ z ∈ cs, z.s.length ≤ 1000) :
    Calls Try.prog 22 #[v] w fun e w' => ∃ a c zs, e = .returned (.slice a zs.length c) ∧ OfK w (cs.map Cz.inl) cs.length (.slice a zs.length c) zs w' := by
  obtain ⟨va, vc, rfl⟩ := hv.shape
  have HV := Lib.hid hv
  have HS := Lib.hid hs
  clear hv hs
  go_enter Try.func22, Try.ntmps22
  go_wp2
  go_loopw [3, 8] (fun s3 s8 wr => ∃ (k : Nat) (a : Option Addr) (c : Nat) (zs : List Bz), k ≤ cs.length ∧ s8 = .int .i64 k ∧ s3 = .slice a zs.length c ∧ Hid (OfK w ((cs.take k).map Cz.inl) k (.slice a zs.length c) zs wr)) (fun s3 s8 _ => cs.length - (intOf s8).toNat)
  case atStart => exact ⟨0, none, 0, [], Nat.zero_le _, rfl, rfl, Lib.hid (OfK.start w)⟩
  case round =>
    obtain ⟨k, ua, uc, zs, hk, rfl, rfl, HK⟩ := hrel
    rename_i wr
    have HZ := Lib.hid (HV.out.below HK.out.bel)
    by_cases hlt : k < cs.length
    · obtain ⟨b, off, rfl, -, -, -, hbl, hat⟩ := HZ.out.opn (by omega)
      obtain ⟨c0, c1, hs⟩ := hat k hlt
      have hb1 : Below wr.heap.size wr (wr.alloc (.cells #[.int .i32 cs[k].r, .slice cs[k].a cs[k].s.length cs[k].c] 44)) := (Below.refl _ _).alloc (Nat.le_refl _) _
      have HIN := Lib.hid (inline_any cs[k] _ (hs.below hb1 (Nat.le_refl _)))
      have HK1 := Lib.hid (HK.out.below hb1)
      have HSL := Lib.hid (Nat.le_trans (inl_len cs[k]) (HS.out _ (List.getElem_mem hlt)))
      have HTK := Lib.hid (cells_take hlt)
      obtain ⟨z, hz⟩ : ∃ z, cs[k] = z := ⟨_, rfl⟩
      rw [hz] at c0 c1 hs HIN HK1 HSL HTK
      clear hat hz hs hb1
      obtain ⟨zi, hzi⟩ : ∃ x, z.inl = x := ⟨_, rfl⟩
      rw [hzi] at HIN HSL HTK
      clear hzi
      go_wp2_with (first
        | (go_at_call 30; refine HIN.out.mono ?_; rintro e w1 ⟨xa, xc, rfl, hx, hb⟩; have HK2 := Lib.hid (HK1.out.below hb); have HP := Lib.hid (put_any w.heap.size zs (.slice ua zs.length uc) 1 xa xc zi w1 HK2.out.own HK2.out.z0 hx HK2.out.bel.size HSL.out (by have := HK2.out.ln; omega) HK2.out.rep (by decide) (by rw [List.length_map, List.length_take]; omega)); clear hx hb)
        | (go_at_call 28; refine HP.out.mono ?_; rintro e w2 ⟨ra, rc, zs2, rfl, q1, q2, q3, q4, q5, q6⟩; have HQ := Lib.hid (HK2.out.next q1 q2 (fun e => by subst e; simp at q3) q4 q5); clear q1 q2 q3 q4 q5 q6))
      go_roundw
      case rel => exact ⟨k + 1, ra, rc, zs2, by omega, by go_num, rfl, Lib.hid (by rw [HTK.out]; exact HQ.out)⟩
      case measure => simp [intOf]; omega
    · obtain rfl : k = cs.length := by omega
      have HE := Lib.hid (show OfK w (cs.map Cz.inl) cs.length (.slice ua zs.length uc) zs wr from by have := HK.out; rwa [List.take_of_length_le (Nat.le_refl _)] at this)
      clear HK
      go_wp2
      go_ret
      exact ⟨ua, uc, zs, rfl, HE.out⟩

theorem rsame_anyB (v1 v2 : Value) (xs ys : List Att) (w : World) (h1 : Arow w v1 xs) (h2 : Arow w v2 ys) :
    Calls Try.prog 21 #[v1, v2] w fun e w' => e = .returned (.bool (decide (xs = ys))) ∧ Below w.heap.size w w' :=
  (rsame_any5 v1 v2 xs ys w h1 h2).mono fun e w' ⟨he, q, hq⟩ => ⟨he, by subst hq; exact blw_drewN (Below.refl _ _) q⟩
/-- append(E{}, src...): src in memory of the call's own. -/
theorem wpList_copy_new {α : Type} {C : Cel α} {P : Program} {w0 : World} {ops : Array Oper} {rest : List Oper} {o : Oper} {a : Act} {Q : Exit → Act → World → Prop} (hgd : o.guard = none) (s x : Operand) (t : TypeId)
    (ho : o.op = .call { callee := .builtin .append, args := #[s, x], argTypes := #[t, t] })
    (e : TypeId) (i : TypeInfo) (z : Value) (bytes : Nat) (ht : P.underlying t = some (.slice e)) (hi : P.info? e = some i) (hz : i.zero = some z)
    (hsize : i.size = C.m) (hby : i.bytes = bytes) (hzs : z.cells.size = C.m)
    (hs : a.eval s = .slice (some ⟨w0.heap.size, 0, none⟩) 0 0) (u : Value) (ys : List α) (hx : a.eval x = u) (hu : Row C (w0.alloc (.cells #[] e)) u ys)
    (h63 : ys.length ≤ maxLen) (hbytes : ys.length * bytes ≤ 140737488355328)
    (h : ∀ b c w', w'.ownsRow w0.heap.size e C.m (.slice b ys.length c) ys.length (fl C ys) → Below w0.heap.size w0 w' → wpList P ops Q rest (a.put o.dst (.slice b ys.length c)) w') : wpList P ops Q (o :: rest) a (w0.alloc (.cells #[] e)) := by
  refine wpList_append_row (C := C) hgd s x t ho w0.heap.size e i z bytes ht hi hz hsize hby hzs _ 0 [] hs (owns_none w0 e C.m) u ys hx hu (by rw [Nat.zero_add]; exact h63) (by rw [Nat.zero_add]; exact hbytes) (by simp) fun v' w' q1 q2 => ?_
  rw [Nat.zero_add, List.nil_append] at q1
  obtain ⟨b, c, rfl, -, -⟩ := own_shape q1
  have hB := (Below.refl w0.heap.size w0).alloc (Nat.le_refl _) (.cells #[] e)
  exact h b c w' q1 (hB.grown q2 (by simp) (fun j hj => own_base (owns_none w0 e C.m) hj))
/-- What Add answers: so many places more. -/
def AddP (B : Nat) (v : Value) (zs : List Bz) (n : Int) (s : List Att) (p : List (List Att)) (w : World) (e : Ending) (w' : World) : Prop :=
  ∃ a c zs', e = .returned (.slice a zs'.length c) ∧ Zown B w' (.slice a zs'.length c) zs' ∧ Rep (zs'.map Bz.b) (p ++ List.replicate n.toNat s) ∧ (zs' = [] → Value.slice a zs'.length c = .slice none 0 0) ∧ zs'.length ≤ zs.length + 1 ∧ Off (fun k => v.ownBlock = some k) w w'
theorem radd_none (B : Nat) (zs : List Bz) (v : Value) (n : Int) (sv : Value) (s : List Att) (w : World) {p : List (List Att)} (h : Zown B w v zs) (h0 : zs = [] → v = .slice none 0 0) (hp : Rep (zs.map Bz.b) p) (hn : n ≤ 0) :
    Calls Try.prog 29 #[v, .int .i64 n, sv] w (AddP B v zs n s p w) := by
  obtain ⟨a, c, rfl⟩ := h.shape
  have g0 : decide (n ≤ 0) = true := decide_eq_true hn
  have HE := Lib.hid (show AddP B (.slice a zs.length c) zs n s p w (.returned (.slice a zs.length c)) w from ⟨a, c, zs, rfl, h, by rw [show n.toNat = 0 by omega, List.replicate_zero, List.append_nil]; exact hp, h0, by omega, Off.refl _ _⟩)
  clear h h0 hp hn
  go_enter Try.func29, Try.ntmps29
  go_wp2
  go_ret
  exact HE.out
set_option maxHeartbeats 2000000 in
theorem radd_nil (B : Nat) (n : Int) (xa : Option Addr) (xc : Nat) (s : List Att) (w : World) (hx : Arow w (.slice xa s.length xc) s) (hB : B ≤ w.heap.size) (hs : s.length ≤ 1000) (hn : 0 < n) :
    Calls Try.prog 29 #[.slice none 0 0, .int .i64 n, .slice xa s.length xc] w (AddP B (.slice none 0 0) [] n s [] w) := by
  obtain ⟨i0, hi, hz0, hz1, hz2⟩ := info_bk
  obtain ⟨i5, hi5, hz50, hz51, hz52⟩ := info_att5
  have g0 : decide (n ≤ 0) = false := decide_eq_false (by omega)
  have HX := Lib.hid hx
  have HBW := Lib.hid hB
  have HN := Lib.hid hn
  clear hx hn
  go_enter Try.func29, Try.ntmps29
  go_wp2_with (first
    | (at_builtin; refine wpList_copy_new (C := attC) (w0 := w) rfl (.tmp 39) (.tmp 40) 24 rfl 39 i5 (av noAtt) 48 Try.underlying24 hi5 hz50 hz51 hz52 rfl rfl _ s rfl (HX.out.below ((Below.refl _ _).alloc (Nat.le_refl _) _) (Nat.le_refl _)) (by unfold maxLen; omega) (by omega) ?_; intro ca cc w3 hown3 hb3; have hbe : Below w.heap.size w (w3.alloc (.cells (bcs n ca s.length cc) 34)) := hb3.alloc hb3.size _; have OW4 := Zown.nil B (w3.alloc (.cells (bcs n ca s.length cc) 34)); have HSZ4 : B ≤ (w3.alloc (.cells (bcs n ca s.length cc) 34)).heap.size := Nat.le_trans HBW.out hbe.size)
    | (at_builtin; refine wpList_append_row (C := bzC) rfl (.tmp 37) (.tmp 43) 22 rfl B 34 i0 (bv 0 none 0 0) 32 Try.underlying22 hi hz0 hz1 hz2 rfl (.slice none 0 0) 0 [] rfl (World.ownsRow_nil _ _ _ _) _ [⟨n, ca, cc, s⟩] rfl (Row.one_bk w3 ⟨n, ca, cc, s⟩ 34) (by unfold maxLen; simp) (by simp) HSZ4 ?_; intro v4 w4 hown4 hgrow4))
  go_ret
  have hz := Zown.more OW4 hgrow4 ⟨n, ca, cc, s⟩ (owns_mono (owns_below hown3 ((Below.refl _ _).alloc (Nat.le_refl _) _)) hB) (by have := hown4; rwa [fl_one] at this)
  obtain ⟨ra, rc, rfl⟩ := hz.shape
  exact ⟨ra, rc, _, rfl, hz, Rep.nil.next HN.out (by simp), by simp, by simp, (Off.of_below hbe).seq (Off.of_grown hgrow4 (fun g hg => hg))⟩
set_option maxHeartbeats 4000000 in
theorem radd_other (B : Nat) (l0 : List Bz) (y : Bz) (g k cap : Nat) (n : Int) (xa : Option Addr) (xc : Nat) (s : List Att) (w : World) {p : List (List Att)} (h : Zown B w (.slice (some ⟨g, 0, none⟩) (k + 1) cap) (l0 ++ [y])) (hx : Arow w (.slice xa s.length xc) s) (hB : B ≤ w.heap.size) (hs : s.length ≤ 1000) (hk : l0.length = k) (hkb : k ≤ 100000) (hn : 0 < n) (hp : Rep ((l0 ++ [y]).map Bz.b) p) (hns : ¬ y.s = s) :
    Calls Try.prog 29 #[.slice (some ⟨g, 0, none⟩) (k + 1) cap, .int .i64 n, .slice xa s.length xc] w (AddP B (.slice (some ⟨g, 0, none⟩) (k + 1) cap) (l0 ++ [y]) n s p w) := by
  obtain ⟨i0, hi, hz0, hz1, hz2⟩ := info_bk
  obtain ⟨i5, hi5, hz50, hz51, hz52⟩ := info_att5
  have HNS := Lib.hid hns
  have HLN := Lib.hid (show (l0 ++ [y]).length = k + 1 by rw [List.length_append, hk]; rfl)
  have HY := Lib.hid (show w.cell? ⟨g, l0.length * 2, none⟩ = some (.int .i64 y.n) ∧ w.cell? ⟨g, l0.length * 2 + 1, none⟩ = some (.slice y.a y.s.length y.c) ∧ Arow w (.slice y.a y.s.length y.c) y.s from by
    obtain ⟨b, off, e, -, -, -, -, hat⟩ := h.zrow.opn (by simp)
    rcases h.row.2 with ⟨hn, h1⟩ | ⟨g', cap', cur, hv, -⟩
    · simp at h1
    · injection hv with e1
      rw [e] at e1
      injection e1 with e1
      injection e1 with e1 e2
      injection e with e
      injection e with e3 e4
      subst e3 e4
      have := hat l0.length (by simp)
      simpa using this)
  rw [hk] at HY
  have i1 : (k : Int) ≤ 100000 := by omega
  have i0' : (0 : Int) ≤ (k : Int) := by omega
  have e1 : (((k + 1 : Nat) : Int)) = (k : Int) + 1 := by omega
  have e2 : IntKind.i64.wrap (k : Int) = (k : Int) := by rw [IntKind.wrap_i64]; omega
  have hi1 : (k : Int) < (k : Int) + 1 := by omega
  have hge : decide ((0 : Int) ≤ (k : Int)) = true := decide_eq_true i0'
  have c3 := HY.out.2.1
  have HZ := Lib.hid h
  have g0 : decide (n ≤ 0) = false := decide_eq_false (by omega)
  have HX := Lib.hid hx
  have HBW := Lib.hid hB
  have HN := Lib.hid hn
  have HP := Lib.hid hp
  have HSM := Lib.hid ((rsame_anyB _ _ y.s s w HY.out.2.2 hx).mono fun e w' hh => (show e = .returned (.bool false) ∧ Below w.heap.size w w' from ⟨by rw [hh.1, decide_eq_false HNS.out], hh.2⟩))
  clear h hx hn hp hns
  go_enter Try.func29, Try.ntmps29
  go_upto_region 7 with (go_at_call 21; refine HSM.out.mono ?_; rintro e w5 ⟨rfl, hb5⟩)
  have HBO := HBW
  have HXO := HX
  clear HX HBW
  have HX := Lib.hid (HXO.out.below hb5 (Nat.le_refl _))
  have HBW := Lib.hid (Nat.le_trans HBO.out hb5.size)
  have HZ5 := Lib.hid (HZ.out.below hb5)
  have HB5 := Lib.hid hb5
  clear hb5 c3
  go_wp2_with (first
    | (at_builtin; refine wpList_copy_new (C := attC) (w0 := w5) rfl (.tmp 39) (.tmp 40) 24 rfl 39 i5 (av noAtt) 48 Try.underlying24 hi5 hz50 hz51 hz52 rfl rfl _ s rfl (HX.out.below ((Below.refl _ _).alloc (Nat.le_refl _) _) (Nat.le_refl _)) (by unfold maxLen; omega) (by omega) ?_; intro ca cc w3 hown3 hb3; have hbe : Below w5.heap.size w5 (w3.alloc (.cells (bcs n ca s.length cc) 34)) := hb3.alloc hb3.size _; have OW4 := HZ5.out.below hbe; have HSZ4 : B ≤ (w3.alloc (.cells (bcs n ca s.length cc) 34)).heap.size := Nat.le_trans HBW.out hbe.size)
    | (at_builtin; refine wpList_append_row (C := bzC) rfl (.tmp 37) (.tmp 43) 22 rfl B 34 i0 (bv 0 none 0 0) 32 Try.underlying22 hi hz0 hz1 hz2 rfl (.slice (some ⟨g, 0, none⟩) (k + 1) cap) (k + 1) (fl bzC (l0 ++ [y])) rfl (by have := OW4.row; rw [HLN.out] at this; exact this) _ [⟨n, ca, cc, s⟩] rfl (Row.one_bk w3 ⟨n, ca, cc, s⟩ 34) (by unfold maxLen; simp; omega) (by simp; omega) HSZ4 ?_; intro v4 w4 hown4 hgrow4))
  go_ret
  have hz := Zown.more OW4 hgrow4 ⟨n, ca, cc, s⟩ (owns_mono (owns_below hown3 ((Below.refl _ _).alloc (Nat.le_refl _) _)) HBW.out) (by have := hown4; rw [fl_one] at this; rw [HLN.out]; exact this)
  obtain ⟨ra, rc, rfl⟩ := hz.shape
  exact ⟨ra, rc, _, rfl, hz, by rw [List.map_append]; exact HP.out.next HN.out (fun z hz => by rw [bks_last] at hz; cases hz; exact HNS.out), by simp, by simp, (Off.of_below (HB5.out.trans (hbe.mono HB5.out.size))).seq (Off.of_grown hgrow4 (fun g hg => hg))⟩
set_option maxHeartbeats 4000000 in
theorem radd_same (B : Nat) (l0 : List Bz) (y : Bz) (g k cap : Nat) (n : Int) (xa : Option Addr) (xc : Nat) (s : List Att) (w : World) {p : List (List Att)} (h : Zown B w (.slice (some ⟨g, 0, none⟩) (k + 1) cap) (l0 ++ [y])) (hx : Arow w (.slice xa s.length xc) s) (hB : B ≤ w.heap.size) (hs : s.length ≤ 1000) (hk : l0.length = k) (hkb : k ≤ 100000) (hn : 0 < n) (hp : Rep ((l0 ++ [y]).map Bz.b) p) (hns : y.s = s) (hb : p.length + n ≤ 9223372036854775807) :
    Calls Try.prog 29 #[.slice (some ⟨g, 0, none⟩) (k + 1) cap, .int .i64 n, .slice xa s.length xc] w (AddP B (.slice (some ⟨g, 0, none⟩) (k + 1) cap) (l0 ++ [y]) n s p w) := by
  have HNS := Lib.hid hns
  have HLN := Lib.hid (show (l0 ++ [y]).length = k + 1 by rw [List.length_append, hk]; rfl)
  have HY := Lib.hid (show w.cell? ⟨g, l0.length * 2, none⟩ = some (.int .i64 y.n) ∧ w.cell? ⟨g, l0.length * 2 + 1, none⟩ = some (.slice y.a y.s.length y.c) ∧ Arow w (.slice y.a y.s.length y.c) y.s from by
    obtain ⟨b, off, e, -, -, -, -, hat⟩ := h.zrow.opn (by simp)
    rcases h.row.2 with ⟨hn, h1⟩ | ⟨g', cap', cur, hv, -⟩
    · simp at h1
    · injection hv with e1
      rw [e] at e1
      injection e1 with e1
      injection e1 with e1 e2
      injection e with e
      injection e with e3 e4
      subst e3 e4
      have := hat l0.length (by simp)
      simpa using this)
  rw [hk] at HY
  have i1 : (k : Int) ≤ 100000 := by omega
  have i0' : (0 : Int) ≤ (k : Int) := by omega
  have e1 : (((k + 1 : Nat) : Int)) = (k : Int) + 1 := by omega
  have e2 : IntKind.i64.wrap (k : Int) = (k : Int) := by rw [IntKind.wrap_i64]; omega
  have hi1 : (k : Int) < (k : Int) + 1 := by omega
  have hge : decide ((0 : Int) ≤ (k : Int)) = true := decide_eq_true i0'
  have c3 := HY.out.2.1
  have HZ := Lib.hid h
  have g0 : decide (n ≤ 0) = false := decide_eq_false (by omega)
  have HX := Lib.hid hx
  have HBW := Lib.hid hB
  have HN := Lib.hid hn
  have HP := Lib.hid hp
  have HSM := Lib.hid ((rsame_anyB _ _ y.s s w HY.out.2.2 hx).mono fun e w' hh => (show e = .returned (.bool true) ∧ Below w.heap.size w w' from ⟨by rw [hh.1, decide_eq_true HNS.out], hh.2⟩))
  have hy0 : 0 < y.n := prp_pos _ hp.prp y.b (by simp)
  have hy1 : y.n ≤ p.length := by have := hp; rw [List.map_append] at this; exact this.mem_le (y := y.b)
  have e9 : IntKind.i64.wrap (y.n + n) = y.n + n := by rw [IntKind.wrap_i64]; omega
  have hyb : y.n + n ≤ 9223372036854775807 := by omega
  clear h hx hp hns
  go_enter Try.func29, Try.ntmps29
  go_upto_region 5 with (go_at_call 21; refine HSM.out.mono ?_; rintro e w5 ⟨rfl, hb5⟩)
  have c5 : w5.cell? ⟨g, k * 2, none⟩ = some (.int .i64 y.n) := cell_below hb5 HY.out.1
  have f5 : w5.frozen? ⟨g, k * 2, none⟩ = false := by
    have := (HZ.out.below hb5).row
    rw [HLN.out] at this
    exact this.frozenAt _
  have HZ5 := Lib.hid (HZ.out.below hb5)
  have HB5 := Lib.hid hb5
  clear hb5 c3
  go_wp2
  go_ret
  have hO := Off.of_grown (S := fun k => ((Value.slice (some ⟨g, 0, none⟩) (l0.length + 1) cap)).ownBlock = some k) (grown_set (w := w5) (g := g) (o := l0.length * 2) (.int .i64 (y.n + n))) (fun q hq => by cases hq; rfl)
  subst hk
  have hz := Zown.set HZ5.out (y.n + n)
  have e2 : (l0 ++ [(⟨y.n + n, y.a, y.c, y.s⟩ : Bz)]).length = l0.length + 1 := by simp
  refine ⟨some ⟨g, 0, none⟩, cap, l0 ++ [⟨y.n + n, y.a, y.c, y.s⟩], by rw [e2]; rfl, by rw [e2]; exact hz, ?_, by simp, by simp, (Off.of_below HB5.out).seq hO⟩
  have := HP.out
  rw [List.map_append] at this ⊢
  have h2 := this.same HN.out
  rw [← HNS.out]
  exact h2
/-- Add: so many places more behind proper blocks. -/
theorem radd_any (B : Nat) (zs : List Bz) (v : Value) (n : Int) (xa : Option Addr) (xc : Nat) (s : List Att) (w : World) {p : List (List Att)} (h : Zown B w v zs) (h0 : zs = [] → v = .slice none 0 0) (hx : Arow w (.slice xa s.length xc) s) (hB : B ≤ w.heap.size) (hs : s.length ≤ 1000) (hz : zs.length ≤ 100000)
    (hp : Rep (zs.map Bz.b) p) (hb : p.length + n ≤ 9223372036854775807) :
    Calls Try.prog 29 #[v, .int .i64 n, .slice xa s.length xc] w (AddP B v zs n s p w) := by
  by_cases hn : n ≤ 0
  · exact radd_none B zs v n _ s w h h0 hp hn
  · rcases nil_or_snoc zs with rfl | ⟨l0, y, rfl⟩
    · rw [h0 rfl]
      have : p = [] := by rw [← hp.ex]; rfl
      subst this
      exact radd_nil B n xa xc s w hx hB hs (by omega)
    · obtain ⟨a, c, rfl⟩ := h.shape
      obtain ⟨-, g, rfl, -⟩ := h.at (by simp)
      have e1 : (l0 ++ [y]).length = l0.length + 1 := by simp
      rw [e1] at h hz ⊢
      by_cases hys : y.s = s
      · exact radd_same B l0 y g l0.length c n xa xc s w h hx hB hs rfl (by omega) (by omega) hp hys hb
      · exact radd_other B l0 y g l0.length c n xa xc s w h hx hB hs rfl (by omega) (by omega) hp hys
end Go.Proofs.Ytclbjfeneegicaa
