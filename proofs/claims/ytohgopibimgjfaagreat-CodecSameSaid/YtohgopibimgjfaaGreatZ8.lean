import Derived.Test.YtohgopibimgjfaaGreatZ7
/- P22: what the laws of codec say, as plain data -/
namespace Go.Proofs.YtohgopibimgjfaaGreat
open Go.RowKit
set_option linter.unusedVariables false
set_option maxRecDepth 100000

/-- Both calls, of one delta. -/
theorem decX_form {ks : List Key} {zs : List Oz} (hd : Din ks zs) (h : mayX ks (zs.map Oz.o) = 0) : decX 1073741824 ks (encX (formO (zs.map Oz.o))) = (formO (zs.map Oz.o), 0) := by
  have h1 := wws_form (zs.map Oz.o)
  have h2 := wws_tot zs
  have h3 := (wws_len (formO (zs.map Oz.o))).1
  have := hd.t
  exact dec_enc (by omega) (by omega) hd.g (by omega) (may_form h) (form_sw h hd.sw) (form_twice (may_tm h))
theorem form_xk {ks : List Key} {zs : List Oz} (hd : Din ks zs) (h : mayX ks (zs.map Oz.o) = 0) : XK 1073741824 (formO (zs.map Oz.o)) := by
  have h1 := wws_form (zs.map Oz.o)
  have h2 := wws_tot zs
  have h3 := (wws_len (formO (zs.map Oz.o))).1
  have := hd.t
  exact may_xk (by omega) hd.g (by omega) (may_form h) (form_sw h hd.sw)
theorem form_okb {ks : List Key} {zs : List Oz} (hd : Din ks zs) (h : mayX ks (zs.map Oz.o) = 0) : Okb (encX (formO (zs.map Oz.o))) := (cod_ops (M := 1073741824) (by omega)).okb _ (form_xk hd h)
theorem form_len {ks : List Key} {zs : List Oz} (hd : Din ks zs) (h : mayX ks (zs.map Oz.o) = 0) : (encX (formO (zs.map Oz.o))).length ≤ 10 + 40 * totO zs := by
  have h1 := wws_form (zs.map Oz.o)
  have h2 := wws_tot zs
  have h3 := encX_len (M := 1073741824) (by omega) (form_xk hd h)
  omega
/-- What is decoded is encoded to the same bytes. -/
theorem dec_only {ks : List Key} {bs : List Int} {xs : List Opn} (ho : Okb bs) (h : decX 1073741824 ks bs = (xs, 0)) : encX (formO xs) = bs ∧ mayX ks xs = 0 ∧ formO xs = xs ∧ XK 1073741824 xs ∧ 0 < bs.length := by
  obtain ⟨h1, h2, h3⟩ := dec_0 h
  obtain ⟨h4, h5⟩ := (cAll_some (by omega) ho).1 h1
  refine ⟨by rw [h3]; exact h5.symm, h2, h3, h4, ?_⟩
  rw [h5]; exact encX_pos xs
theorem dec_more {ks ks2 : List Key} {bs : List Int} {xs : List Opn} {b : Int} (ho : Okb bs) (hb : 0 ≤ b ∧ b < 256) (h : decX 1073741824 ks bs = (xs, 0)) : decX 1073741824 ks2 (bs ++ [b]) = ([], 3) :=
  dec_none (encX_more (by omega) ho hb (dec_0 h).1)
theorem dec_less {ks ks2 : List Key} {bs : List Int} {xs : List Opn} (ho : Okb bs) (h : decX 1073741824 ks bs = (xs, 0)) : decX 1073741824 ks2 (bs.take (bs.length - 1)) = ([], 3) := by
  have hp := (dec_only ho h).2.2.2.2
  have e : bs = bs.take (bs.length - 1) ++ [bs[bs.length - 1]] := by
    conv => lhs; rw [← List.take_append_drop (bs.length - 1) bs]
    congr 1
    rw [List.drop_eq_getElem_cons (by omega)]
    congr 1
    exact List.drop_of_length_le (by omega)
  refine dec_none ?_
  have h1 := (dec_0 h).1
  rw [e] at h1 ho
  exact encX_less (by omega) ho h1
/-- The bytes tell the form. -/
theorem enc_same {ks : List Key} {xs ys : List Oz} (hx : Din ks xs) (hy : Din ks ys) (h1 : mayX ks (xs.map Oz.o) = 0) (h2 : mayX ks (ys.map Oz.o) = 0) : encX (formO (xs.map Oz.o)) = encX (formO (ys.map Oz.o)) ↔ formO (xs.map Oz.o) = formO (ys.map Oz.o) :=
  ⟨fun h => encX_inj (M := 1073741824) (by omega) (form_xk hx h1) (form_xk hy h2) h, fun h => by rw [h]⟩
/-- A schema with more keys. -/
theorem fnd_more {ks more : List Key} {id : Int} {k : Key} (h : fnd ks id = some k) : fnd (ks ++ more) id = some k := by
  unfold fnd at *
  rw [List.find?_append, h]; rfl
theorem fits_more {ks more : List Key} {id k n f : Int} {s : ByteArray} (h : fitsB ks id k n f s = true) : fitsB (ks ++ more) id k n f s = true := by
  cases hk : fnd ks id with
  | none => rw [fitsB_none hk] at h; cases h
  | some key => rw [fitsB_some (fnd_more hk)]; rw [fitsB_some hk] at h; exact h
theorem okF_more {ks more : List Key} {st : List Att} (h : okF5 ks st = true) : okF5 (ks ++ more) st = true := by
  unfold okF5 at *
  rw [List.all_eq_true] at *
  exact fun a ha => fits_more (h a ha)
theorem may5_more {ks more : List Key} {st : List Att} (h : may5 ks st = 0) : may5 (ks ++ more) st = 0 := by
  unfold may5 at *
  by_cases hw : wf5 st = true
  · rw [if_pos hw] at h ⊢
    by_cases hf : okF5 ks st = true
    · rw [if_pos (okF_more hf)]
    · rw [if_neg hf] at h; omega
  · rw [if_neg hw] at h; omega
theorem may6_more {ks more : List Key} {pt : List Chg} (h : may6 ks pt = 0) : may6 (ks ++ more) pt = 0 := by
  unfold may6 at *
  by_cases hw : (wf6 pt && okV (ats pt)) = true
  · rw [if_pos hw] at h ⊢
    by_cases hf : (okF5 ks (ats pt) && pt.all (isIn ks)) = true
    · rw [if_pos]
      rw [Bool.and_eq_true] at hf ⊢
      refine ⟨okF_more hf.1, ?_⟩
      rw [List.all_eq_true]
      intro c hc
      have h1 := List.all_eq_true.1 hf.2 c hc
      unfold isIn at *
      cases hk : fnd ks c.key with
      | none => rw [hk] at h1; cases h1
      | some key => rw [fnd_more hk]; rfl
    · rw [if_neg hf] at h; omega
  · rw [if_neg hw] at h; omega
theorem may_more {ks more : List Key} {xs : List Opn} (h : mayX ks xs = 0) : mayX (ks ++ more) xs = 0 := by
  obtain ⟨h1, h2, h3⟩ := mayX_0.1 h
  refine mayX_0.2 ⟨h1, h2, fun p hp => fine_fo.2 ?_⟩
  have hf := fine_fo.1 (h3 p hp)
  exact ⟨hf.kind, fun k => ⟨(hf.r k).1, (hf.r k).2.1, (hf.r k).2.2.1, may6_more (hf.r k).2.2.2⟩, fun k => ⟨(hf.i k).1, (hf.i k).2.1, (hf.i k).2.2.1, (hf.i k).2.2.2.1, may5_more (hf.i k).2.2.2.2⟩, hf.d⟩
end Go.Proofs.YtohgopibimgjfaaGreat

/- P23: three deltas, as plain data -/
namespace Go.Proofs.YtohgopibimgjfaaGreat
open Go.RowKit
set_option linter.unusedVariables false
set_option maxRecDepth 100000

def kyF : Key := ⟨5, false, 2, false, false, 0⟩
def lA : List Opn := [⟨1, 2, [], [], []⟩, ⟨2, 0, [97], [], []⟩, ⟨2, 0, [98], [], []⟩]
def lB : List Opn := [⟨1, 1, [], [], [⟨5, false, 2, 3, 0, ⟨#[]⟩⟩]⟩]
theorem form_lA : formO lA = [⟨1, 2, [], [], []⟩, ⟨2, 0, [97, 98], [], []⟩] := by decide
theorem form_lB : formO lB = lB := by decide
theorem may_nil (ks : List Key) : mayX ks [] = 0 := by rfl
theorem may_lA (ks : List Key) : mayX ks lA = 0 := by rfl
theorem may_lB : mayX [kyF] lB = 0 := by rfl
theorem enc_nil : encX [] = [0] := by
  unfold encX
  rw [List.flatMap_nil, form_small _ (by simp)]; rfl
theorem enc_lA : encX (formO lA) = [2, 1, 2, 0, 2, 2, 97, 98, 0] := by
  rw [form_lA]
  unfold encX
  simp only [List.flatMap_cons, List.flatMap_nil, List.length_cons, List.length_nil]
  rw [eOp_1 rfl, eOp_2 rfl]
  have e : utfZ [97, 98] = [97, 98] := by rfl
  simp only [e, List.length_cons, List.length_nil, List.flatMap_nil, Nat.zero_add]
  rw [form_small (0 + 1 + 1) (by omega), form_small (Int.toNat 1) (by decide), form_small (Int.toNat 2) (by decide), form_small 0 (by omega)]
  rfl
theorem enc_lB : encX (formO lB) = [1, 1, 1, 1, 5, 2, 6] := by
  rw [form_lB]
  unfold encX lB
  simp only [List.flatMap_cons, List.flatMap_nil, List.length_cons, List.length_nil]
  rw [eOp_1 rfl]
  simp only [List.flatMap_cons, List.flatMap_nil, List.length_cons, List.length_nil]
  rw [eChg_v (by decide)]
  unfold eVl eVal vlC
  simp only
  have z : zig 3 = 6 := by decide
  rw [if_pos (.inr (by rfl)), z]
  rw [form_small _ (by decide), form_small _ (by decide), form_small 6 (by omega), form_small (Int.toNat 5) (by decide), form_small (Int.toNat 2) (by decide)]
  rfl
end Go.Proofs.YtohgopibimgjfaaGreat

/- P24: what is asked of the program's Encode and Decode; known -/
namespace Go.Proofs.YtohgopibimgjfaaGreat
open Go.RowKit
set_option linter.unusedVariables false
set_option maxRecDepth 100000

/-- What is asked of the program's two calls. -/
def PEnc : Prop := ∀ (sv u : Value) (ks : List Key) (zs : List Oz) (w : World), Sch w sv ks → Orow w u zs → Din ks zs → Calls Tryz.prog 12 #[sv, u] w (EncP w ks (zs.map Oz.o))
def PDec : Prop := ∀ (sv : Value) (ks : List Key) (va : Option Addr) (c : Nat) (bs : List Int) (w : World), Sch w sv ks → mayKs ks → Ints .u8 w (.slice va bs.length c) bs → Okb bs → bs.length ≤ 50000000 → Calls Tryz.prog 15 #[sv, .slice va bs.length c] w (DecP w ks bs)
theorem penc_yes (h : PEnc) {sv u : Value} {ks : List Key} {zs : List Oz} {w : World} (hs : Sch w sv ks) (hx : Orow w u zs) (hd : Din ks zs) (hm : mayX ks (zs.map Oz.o) = 0) {L : List Int} (hL : encX (formO (zs.map Oz.o)) = L) :
    Calls Tryz.prog 12 #[sv, u] w fun e w' => ∃ a c, e = .returned (.tuple #[.slice a L.length c, .int .i64 0]) ∧ Ints .u8 w' (.slice a L.length c) L ∧ (∀ x, a = some x → w.heap.size ≤ x.block) ∧ Below w.heap.size w w' := by
  refine (h sv u ks zs w hs hx hd).mono fun e w' ⟨hb, hc⟩ => ?_
  rcases hc with ⟨-, v, he, ho⟩ | ⟨hn, -⟩
  · rw [hL] at ho
    obtain ⟨a, c, rfl, -, -⟩ := own_shape ho
    exact ⟨a, c, he, (Ints.of_owns ho).1, fun x e => by subst e; exact (ho.lt x.block (by simp [Value.ownBlock])).1, hb⟩
  · exact absurd hm hn
theorem pdec_yes (h : PDec) {sv : Value} {ks : List Key} {va : Option Addr} {c : Nat} {bs : List Int} {w : World} {X : List Opn} (hs : Sch w sv ks) (hk : mayKs ks) (hv : Ints .u8 w (.slice va bs.length c) bs) (ho : Okb bs) (hl : bs.length ≤ 50000000) (hX : decX 1073741824 ks bs = (X, 0)) :
    Calls Tryz.prog 15 #[sv, .slice va bs.length c] w fun e w' => ∃ a n d ys, e = .returned (.tuple #[.slice a n d, .int .i64 0]) ∧ ys.length = n ∧ ys.map Oz.o = X ∧ Oown (fun g => w.heap.size ≤ g) w' (.slice a n d) ys ∧ Below w.heap.size w w' := by
  refine (h sv ks va c bs w hs hk hv ho hl).mono fun e w' ⟨v, ys, he, hy, hw, hb⟩ => ?_
  rw [hX] at he hy
  obtain ⟨a, d, rfl, -, -⟩ := hw.shape
  exact ⟨a, _, d, ys, he, rfl, hy, hw, hb⟩
theorem kyF_may : mayKs [kyF] := ⟨by simp, fun k hk => by obtain rfl := List.mem_singleton.1 hk; decide, List.pairwise_singleton _ _⟩
theorem kyF_w : ∀ k ∈ [kyF], KeyW k := fun k hk => by obtain rfl := List.mem_singleton.1 hk; exact ⟨wf64 (by decide), wfu8 (by decide), wf64 (by decide)⟩
theorem kyF_g : Good [kyF] := kyF_may.2

theorem din_lits {zs : List Oz} (h : ∀ z ∈ zs, OpW z) (ht : totO zs ≤ 1048576) : Din [kyF] zs := ⟨kyF_g, h, ht⟩
theorem opw_I {a : Option Addr} {x : Int} (h : 0 ≤ x ∧ x ≤ 1114111) : OpW (zI a [x]) := ⟨wfu8 (by simp), wf64 (by simp), fun y hy => by obtain rfl := List.mem_singleton.1 hy; exact wf32 h, by simp, by simp⟩
theorem opw_R {n : Int} (h : 0 ≤ n ∧ n ≤ 1114111) : OpW (zR n) := ⟨wfu8 (by simp), wf64 (by simp only; omega), by simp, by simp, by simp⟩
theorem k17_b (hE : PEnc) (w : World) (sv : Value) (t : TypeId) (hs : Sch w sv [kyF]) :
    Calls Tryz.prog 12 #[sv, .slice (some ⟨w.heap.size + 1 + 1, 0, none⟩) 3 3] (((w.alloc (.cells #[.int .i32 97] t)).alloc (.cells #[.int .i32 98] t)).alloc (.cells (fl ozC [zR 2, zI (some ⟨w.heap.size, 0, none⟩) [97], zI (some ⟨w.heap.size + 1, 0, none⟩) [98]]).toArray 56)) fun e w' => ∃ a c, e = .returned (.tuple #[.slice a 9 c, .int .i64 0]) ∧ Ints .u8 w' (.slice a 9 c) [2, 1, 2, 0, 2, 2, 97, 98, 0] ∧ Below w.heap.size w w' := by
  have b1 := kbelow_one w (.cells #[.int .i32 97] t)
  have r1 := ints_single .i32 w t 97
  have r2 := ints_single .i32 (w.alloc (.cells #[.int .i32 97] t)) t 98
  have hz : (w.alloc (.cells #[.int .i32 97] t)).heap.size = w.heap.size + 1 := by simp
  have b2 := kbelow_one (w.alloc (.cells #[.int .i32 97] t)) (.cells #[.int .i32 98] t)
  have r1' := r1.below b2
  have hz2 : ((w.alloc (.cells #[.int .i32 97] t)).alloc (.cells #[.int .i32 98] t)).heap.size = w.heap.size + 1 + 1 := by simp
  rw [hz] at r2
  have B2 := below_add b1 b2 b1.size
  generalize (w.alloc (.cells #[.int .i32 97] t)).alloc (.cells #[.int .i32 98] t) = w2 at *
  have hr := orow_lits w2 [zR 2, zI (some ⟨w.heap.size, 0, none⟩) [97], zI (some ⟨w.heap.size + 1, 0, none⟩) [98]] 56 (by simp [maxLen]) (by
    intro z hz
    simp only [List.mem_cons, List.not_mem_nil, or_false] at hz
    rcases hz with rfl | rfl | rfl
    · exact okR _ _
    · exact okI r1'
    · exact okI r2)
  rw [hz2] at hr
  have b3 := kbelow_one w2 (.cells (fl ozC [zR 2, zI (some ⟨w.heap.size, 0, none⟩) [97], zI (some ⟨w.heap.size + 1, 0, none⟩) [98]]).toArray 56)
  have B3 := below_add B2 b3 B2.size
  have hd : Din [kyF] [zR 2, zI (some ⟨w.heap.size, 0, none⟩) [97], zI (some ⟨w.heap.size + 1, 0, none⟩) [98]] := din_lits (by
    intro z hz
    simp only [List.mem_cons, List.not_mem_nil, or_false] at hz
    rcases hz with rfl | rfl | rfl
    · exact opw_R (by decide)
    · exact opw_I (by decide)
    · exact opw_I (by decide)) (by simp [totO, szO, totA, totC, sizeA, sizeC])
  refine (penc_yes hE (hs.below B3 (Nat.le_refl _)) hr hd (may_lA _) enc_lA).mono fun e w' ⟨a, c, he, hi, _, hb⟩ => ?_
  exact ⟨a, c, he, hi, below_add B3 hb B3.size⟩
/-- The third delta. -/
@[reducible] def cF : Chg := ⟨5, false, 2, 3, 0, ⟨#[]⟩⟩
@[reducible] def zP (p : Option Addr) : Oz := ⟨1, 1, none, 0, [], none, 0, [], p, 1, [cF]⟩
theorem k17_x (w : World) : Orow ((w.alloc (.cells (cca cF) 63)).alloc (.cells (Oz.cs (zP (some ⟨w.heap.size, 0, none⟩))) 56)) (.slice (some ⟨w.heap.size + 1, 0, none⟩) 1 1) [zP (some ⟨w.heap.size, 0, none⟩)] ∧ Below w.heap.size w ((w.alloc (.cells (cca cF) 63)).alloc (.cells (Oz.cs (zP (some ⟨w.heap.size, 0, none⟩))) 56)) := by
  have b1 := kbelow_one w (.cells (cca cF) 63)
  have hc := crow_one w cF 63
  have hz : (w.alloc (.cells (cca cF) 63)).heap.size = w.heap.size + 1 := by simp
  generalize w.alloc (.cells (cca cF) 63) = w2 at *
  have h := orow_one w2 (zP (some ⟨w.heap.size, 0, none⟩)) 56 ⟨ints_nil _ _, Row.nil _, hc⟩
  rw [hz] at h
  exact ⟨h, below_add b1 (kbelow_one _ _) b1.size⟩
theorem zP_din (p : Option Addr) : Din [kyF] [zP p] := din_lits (fun z hz => by
  obtain rfl := List.mem_singleton.1 hz
  exact ⟨wfu8 (by simp), wf64 (by simp), by simp, by simp, fun c hc => by obtain rfl := List.mem_singleton.1 hc; exact ⟨wf64 (by decide), wfu8 (by decide), wf64 (by decide), wfu64 (by decide), by show (0 : Nat) ≤ maxLen; simp [maxLen]⟩⟩) (by simp [totO, szO, totA, totC, sizeA, sizeC]; show 1 + (1 + 0) ≤ 1048576; omega)
theorem dec_lB : decX 1073741824 [kyF] [1, 1, 1, 1, 5, 2, 6] = (lB, 0) := by
  have h := decX_form (zP_din none) may_lB
  have e : [zP none].map Oz.o = lB := rfl
  rw [e, enc_lB, form_lB] at h
  exact h
theorem rsame_yes2 {u v : Value} {ys zs : List Oz} {w : World} (hu : Orow w u ys) (hv : Orow w v zs) (h : ys.map Oz.o = zs.map Oz.o) :
    Calls Tryz.prog 14 #[u, v] w fun e w' => e = .returned (.bool true) ∧ Below w.heap.size w w' := by
  have := rosame_any u v ys zs w hu hv
  rwa [decide_eq_true h] at this
theorem s0 : strOfNums [0] = ⟨#[0]⟩ := rfl
theorem s9 : strOfNums [2, 1, 2, 0, 2, 2, 97, 98, 0] = ⟨#[2, 1, 2, 0, 2, 2, 97, 98, 0]⟩ := rfl
theorem s7 : strOfNums [1, 1, 1, 1, 5, 2, 6] = ⟨#[1, 1, 1, 1, 5, 2, 6]⟩ := rfl
set_option maxHeartbeats 8000000 in
theorem known17_any (hE : PEnc) (hD : PDec) (w : World) : Calls Tryz.prog 10 #[] w fun e w' => e = .returned (.bool true) ∧ Below w.heap.size w w' := by
  have hkr := krow_built w 49 [kyF] (by simp [maxLen])
  have HB0 := Lib.hid (kbelow_one w (.cells (flat [kyF]).toArray 49))
  have HNEW := Lib.hid (new_yes hkr kyF_w kyF_may)
  have HPE := Lib.hid hE
  have HPD := Lib.hid hD
  clear hkr hE hD
  go_enter Tryz.func10, Tryz.ntmps10
  go_wp2_with fail
  refine HNEW.out.mono ?_
  rintro e w1 ⟨s, rfl, hs, hb⟩
  have HB1 := Lib.hid (below_add HB0.out hb HB0.out.size)
  have HS1 := Lib.hid hs
  have HE0 := Lib.hid (penc_yes HPE.out hs (Orow.nil w1) (din_lits (by simp) (by simp [totO])) (may_nil _) (L := [0]) enc_nil)
  clear hs hb HNEW
  go_wp2_with fail
  refine HE0.out.mono ?_
  rintro e w2 ⟨a3, c3, rfl, hi3, -, hb⟩
  have HB2 := Lib.hid (below_add HB1.out hb HB1.out.size)
  have HS2 := Lib.hid (HS1.out.below hb (Nat.le_refl _))
  have HI3 := Lib.hid hi3
  have HEB := Lib.hid (k17_b HPE.out w2 _ 21 HS2.out)
  clear hi3 hb HE0
  go_wp2_with fail
  refine HEB.out.mono ?_
  rintro e w3 ⟨a5, c5, rfl, hi5, hb⟩
  have HB3 := Lib.hid (below_add HB2.out hb HB2.out.size)
  have HS3 := Lib.hid (HS2.out.below hb (Nat.le_refl _))
  have HJ3 := Lib.hid (HI3.out.below hb)
  have HI5 := Lib.hid hi5
  obtain ⟨hx, hbx⟩ := k17_x w3
  have HX := Lib.hid hx
  have HBX := Lib.hid hbx
  have HEC := Lib.hid (penc_yes HPE.out (HS3.out.below hbx (Nat.le_refl _)) hx (zP_din _) may_lB (L := [1, 1, 1, 1, 5, 2, 6]) enc_lB)
  clear hi5 hb hx hbx HEB
  go_wp2_with fail
  refine HEC.out.mono ?_
  rintro e w4 ⟨a8, c8, rfl, hi8, -, hb⟩
  have hb34 := below_add HBX.out hb HBX.out.size
  have HB4 := Lib.hid (below_add HB3.out hb34 HB3.out.size)
  have HS4 := Lib.hid (HS3.out.below hb34 (Nat.le_refl _))
  have HK3 := Lib.hid (HJ3.out.below hb34)
  have HK5 := Lib.hid (HI5.out.below hb34)
  have HX4 := Lib.hid (HX.out.below hb)
  have HI8 := Lib.hid hi8
  have HDC := Lib.hid (pdec_yes HPD.out HS4.out kyF_may hi8 (by intro b hb; simp only [List.mem_cons, List.not_mem_nil, or_false] at hb; omega) (by simp) dec_lB)
  clear hi8 hb hb34 HEC
  go_wp2_with fail
  refine HDC.out.mono ?_
  rintro e w5 ⟨a10, n10, c10, ys, rfl, -, hy, ho, hb⟩
  have HB5 := Lib.hid (below_add HB4.out hb HB4.out.size)
  have hc3 := conv_ints _ _ w5 (HK3.out.below hb)
  have hc5 := conv_ints _ _ w5 (HK5.out.below hb)
  have hc8 := conv_ints _ _ w5 (HI8.out.below hb)
  rw [s0] at hc3
  rw [s9] at hc5
  rw [s7] at hc8
  simp only [List.length_cons, List.length_nil, Nat.zero_add, Nat.reduceAdd] at hc3 hc5 hc8
  have HSM := Lib.hid (rsame_yes2 ho.orow (HX4.out.below hb) (by rw [hy]; rfl))
  clear hb hy ho HDC
  go_wp2_with (go_at_call 14; go_loud (refine HSM.out.mono ?_; rintro e w6 ⟨rfl, hb⟩; have HB6 := Lib.hid (below_add HB5.out hb HB5.out.size); clear hb))
  go_ret
  exact ⟨rfl, HB6.out⟩
end Go.Proofs.YtohgopibimgjfaaGreat

/- P25: CodecReads' walk out of PEnc and PDec -/
namespace Go.Proofs.YtohgopibimgjfaaGreat
open Go.RowKit
set_option linter.unusedVariables false
set_option maxRecDepth 100000

/-- A decoding that failed has no ops. -/
theorem dec_empty {ks : List Key} {bs : List Int} (h : (decX 1073741824 ks bs).2 ≠ 0) : (decX 1073741824 ks bs).1 = [] := by
  revert h
  unfold decX
  split
  · exact fun _ => rfl
  · split
    · exact fun _ => rfl
    · split
      · exact fun _ => rfl
      · exact fun h => absurd rfl h
theorem NumAt.of {b off : Nat} {K : IntKind} {W : World} {v : Int} (h : W.cell? ⟨b, off, none⟩ = some (.int K v)) (hf : W.frozen? ⟨b, off, none⟩ = false) : NumAt K W ⟨b, off, none⟩ := ⟨⟨v, h⟩, hf⟩
/-- A list of bytes of the law's own, written over from one end to the other. -/
structure WrI (W0 : World) (a : Option Addr) (n : Nat) (W : World) : Prop where
  off : Off (fun k => ∃ o, a = some ⟨k, o, none⟩) W0 W
  num : ∀ j, j < n → ∃ g, a = some ⟨g, 0, none⟩ ∧ NumAt .u8 W ⟨g, j, none⟩
theorem WrI.set {W0 W : World} {g n j : Nat} (h : WrI W0 (some ⟨g, 0, none⟩) n W) (hj : j < n) (u : Int) : WrI W0 (some ⟨g, 0, none⟩) n (W.setCell ⟨g, j, none⟩ (.int .u8 u)) := by
  refine ⟨h.off.seq (Off.of_grown (grown_set _) (fun k hk => by cases hk; exact ⟨0, rfl⟩)), fun i hi => ?_⟩
  obtain ⟨g1, e1, h1⟩ := h.num i hi
  obtain ⟨g2, e2, h2⟩ := h.num j hj
  injection e1 with e1
  injection e1 with e1 _
  injection e2 with e2
  injection e2 with e2 _
  subst e1
  subst e2
  exact ⟨_, rfl, num_set h2 h1⟩
theorem WrI.start {W : World} {B : Nat} {a : Option Addr} {n c : Nat} {bs : List Int} (h : W.ownsRow B 5 1 (.slice a n c) n (bs.map (Value.int .u8))) : WrI W a n W := by
  refine ⟨Off.refl _ _, fun j hj => ?_⟩
  obtain ⟨g, rfl, -, hf⟩ := own_cells h (by omega)
  obtain ⟨hr, hl⟩ := Ints.of_owns h
  obtain ⟨b, off, e, -, -, -, hat⟩ := hr.opened (by omega)
  injection e with e
  injection e with e1 e2
  subst e1 e2
  have := hat j (by omega)
  rw [Nat.zero_add] at this
  exact ⟨_, rfl, ⟨_, this⟩, hf _⟩
theorem pdec_x (h : PDec) {sv : Value} {ks : List Key} {va : Option Addr} {c bl : Nat} {bs : List Int} {w : World} {X : List Opn} {E : Int} (hs : Sch w sv ks) (hk : mayKs ks) (hv : Ints .u8 w (.slice va bl c) bs) (hn : bs.length = bl) (ho : Okb bs) (hl : bl ≤ 50000000) (hX : decX 1073741824 ks bs = (X, E)) :
    Calls Tryz.prog 15 #[sv, .slice va bl c] w fun e w' => ∃ a n d ys, e = .returned (.tuple #[.slice a n d, .int .i64 E]) ∧ ys.length = n ∧ ys.map Oz.o = X ∧ Oown (fun g => w.heap.size ≤ g) w' (.slice a n d) ys ∧ Below w.heap.size w w' := by
  subst hn
  refine (h sv ks va c bs w hs hk hv ho hl).mono fun e w' ⟨v, ys, he, hy, hw, hb⟩ => ?_
  rw [hX] at he hy
  obtain ⟨a, d, rfl, -, -⟩ := hw.shape
  exact ⟨a, _, d, ys, he, rfl, hy, hw, hb⟩
theorem rdec_x {kv : Value} {ks : List Key} {va : Option Addr} {c bl : Nat} {bs : List Int} {w : World} {X : List Opn} {E : Int} (hs : Krow w kv ks) (hv : Ints .u8 w (.slice va bl c) bs) (hn : bs.length = bl) (ho : Okb bs) (hl : bl ≤ 50000000) (hX : decX 1073741824 ks bs = (X, E)) :
    Calls Tryz.prog 16 #[kv, .slice va bl c] w fun e w' => ∃ a n d ys, e = .returned (.tuple #[.slice a n d, .int .i64 E]) ∧ ys.length = n ∧ ys.map Oz.o = X ∧ Oown (fun g => w.heap.size ≤ g) w' (.slice a n d) ys ∧ Below w.heap.size w w' := by
  subst hn
  refine (rdec_any kv ks va c bs w hs hv ho hl).mono fun e w' ⟨v, ys, he, hy, hw, hb⟩ => ?_
  rw [hX] at he hy
  obtain ⟨a, d, rfl, -, -⟩ := hw.shape
  exact ⟨a, _, d, ys, he, rfl, hy, hw, hb⟩
theorem own_lts {W : World} {B k o n c m : Nat} {e : TypeId} {xs : List Value} (h : W.ownsRow B e 1 (.slice (some ⟨k, o, none⟩) m c) n xs) : B ≤ k ∧ k < W.heap.size := by
  obtain ⟨a, c2, e, h1, -⟩ := own_shape h
  injection e with e1 e2 e3
  subst e1
  rcases h1 with h1 | ⟨g, h1⟩
  · cases h1
  · injection h1 with h1
    injection h1 with h1 h2
    subst h1 h2
    exact h.lt _ (by simp [Value.ownBlock])
theorem ne_self {E : Int} : (E != E) = false := by simp
set_option maxHeartbeats 8000000 in
theorem reads_walk (hE : PEnc) (hD : PDec) (ka : Option Addr) (kn kc : Nat) (ks : List Key) (ba : Option Addr) (bl bc : Nat) (bs : List Int) (w : World) (hk : Krow w (.slice ka kn kc) ks) (hW : ∀ k ∈ ks, KeyW k) (hi : Ints .u8 w (.slice ba bl bc) bs) (hl : bs.length = bl) (ho : Okb bs) :
    Calls Tryz.prog 4 #[.slice ka kn kc, .slice ba bl bc] w fun e w' => e = .returned (.bool true) ∧ Below w.heap.size w w' := by
  have hlm := hi.len
  have HN := Lib.hid (fun W => known17_any hE hD W)
  have HPD := Lib.hid hD
  have HK := Lib.hid hk
  have HKW := Lib.hid hW
  have HI := Lib.hid hi
  have HO := Lib.hid ho
  obtain ⟨i0, hi0, hz0, hz1, hz2⟩ : ∃ i, Tryz.prog.info? 5 = some i ∧ i.zero = some (.int .u8 0) ∧ i.size = 1 ∧ i.bytes = 1 := ⟨_, rfl, rfl, rfl, rfl⟩
  clear hE hD hk hW hi ho
  by_cases hm : mayKs ks
  · have HNEW := Lib.hid (new_yes HK.out HKW.out hm)
    have HM := Lib.hid hm
    clear hm
    go_enter Tryz.func4, Tryz.ntmps4
    go_wp2_with (go_at_call 8; (with_reducible refine HNEW.out.mono ?_))
    rintro e w1 ⟨s, rfl, hs, hb⟩
    have HB1 := Lib.hid hb
    have HS1 := Lib.hid hs
    clear hb hs
    by_cases hb : bl ≤ 600
    · have hc : decide ((600 : Int) < (bl : Int)) = false := decide_eq_false (by omega)
      have HBL := Lib.hid hb
      clear HNEW hb
      have o1 := owns_empty w1 5
      have ha : Below w1.heap.size w1 (w1.alloc (.cells #[] 5)) := (Below.refl _ _).alloc (Nat.le_refl _) _
      have iv := (HI.out.below HB1.out).below ha
      go_wp2_with (at_builtin; refine wpList_append_ints rfl (.tmp 26) (.tmp 27) 31 rfl w1.heap.size 5 i0 (.int .u8 0) 1 Tryz.underlying31 hi0 hz0 hz1 hz2 rfl _ 0 [] rfl o1 _ .u8 bs rfl iv (by unfold maxLen; have := HBL.out; omega) (by have := HBL.out; omega) (by simp) ?_)
      intro v3 w3 hown3 hg3
      have hown : w3.ownsRow w1.heap.size 5 1 v3 bl (bs.map (Value.int .u8)) := by simpa [hl] using hown3
      have hb3 : Below w1.heap.size w1 w3 := ((Below.refl _ _).alloc (Nat.le_refl _) _).grown hg3 (by simp) (fun k hk => by simp [Value.ownBlock] at hk; omega)
      clear hown3 hg3 iv o1 ha
      obtain ⟨a3, c3, rfl, -, -⟩ := own_shape hown
      have HB3 := Lib.hid (below_add HB1.out hb3 HB1.out.size)
      have HS3 := Lib.hid (HS1.out.below hb3 (Nat.le_refl _))
      have HI3 := Lib.hid (Ints.of_owns hown).1
      have HW3 := Lib.hid hown
      have HG3 := Lib.hid (show ∀ k o, a3 = some ⟨k, o, none⟩ → w.heap.size ≤ k ∧ k < w3.heap.size from fun k o e => by
        subst e
        have h := own_lts hown
        have h2 := HB1.out.size
        omega)
      have HBLN := Lib.hid hl
      clear HB1 hb3 hown hc
      obtain ⟨X, E, hX⟩ : ∃ X E, decX 1073741824 ks bs = (X, E) := ⟨_, _, rfl⟩
      have hE0 : E ≠ 0 → X = [] := by
        intro h
        have := dec_empty (ks := ks) (bs := bs) (by rw [hX]; exact h)
        rwa [hX] at this
      have HXX := Lib.hid hX
      have HE0 := Lib.hid hE0
      clear hX hE0
      have HDC := Lib.hid (pdec_x HPD.out HS3.out HM.out HI3.out HBLN.out HO.out (by have := HBL.out; omega) HXX.out)
      clear hl
      go_wp2_with (go_at_call 15; (with_reducible refine HDC.out.mono ?_))
      rintro e w4 ⟨a4, n4, c4, xs, rfl, hn, hx, hw, hb⟩
      have HB4 := Lib.hid (below_add HB3.out hb HB3.out.size)
      have HW4 := Lib.hid (show w3.heap.size ≤ w4.heap.size from hb.size)
      have HX4 := Lib.hid hw
      have HXM := Lib.hid hx
      have HXN := Lib.hid hn
      have HI4 := Lib.hid (HI3.out.below hb)
      have HWI4 := Lib.hid (owns_below HW3.out hb)
      have HDR := Lib.hid (rdec_x (HK.out.below HB4.out (Nat.le_refl _)) (HI.out.below HB4.out) HBLN.out HO.out (by have := HBL.out; omega) HXX.out)
      clear hn hx hw hb HDC HI3 HW3
      go_wp2_with (go_at_call 16; (with_reducible refine HDR.out.mono ?_))
      rintro e w5 ⟨a5, n5, c5, ys, rfl, hn, hy, hw, hb⟩
      have HB5 := Lib.hid (below_add HB4.out hb HB4.out.size)
      have HW5 := Lib.hid (show w4.heap.size ≤ w5.heap.size from hb.size)
      have HX5 := Lib.hid (HX4.out.below hb)
      have HY5 := Lib.hid hw
      have HYM := Lib.hid hy
      have HI5 := Lib.hid (HI4.out.below hb)
      have HWI5 := Lib.hid (owns_below HWI4.out hb)
      have HSM := Lib.hid (rsame_yes2 hw.orow HX5.out.orow (by rw [hy, HXM.out]))
      have HSN := Lib.hid (rsame_yes2 HX5.out.orow hw.orow (by rw [hy, HXM.out]))
      clear hn hy hw hb HDR HI4 HX4 HWI4 HSM
      go_wp2_with (go_at_call 14; (with_reducible refine HSN.out.mono ?_))
      rintro e w6 ⟨rfl, hb⟩
      have HB6 := Lib.hid (below_add HB5.out hb HB5.out.size)
      have HX6 := Lib.hid (HX5.out.below hb)
      have HY6 := Lib.hid (HY5.out.below hb)
      have HI6 := Lib.hid (HI5.out.below hb)
      have HWI6 := Lib.hid (owns_below HWI5.out hb)
      have HW6 := Lib.hid (show w5.heap.size ≤ w6.heap.size from hb.size)
      clear hb HI5 HX5 HWI5 HY5 HSN
      have hcv1 := conv_ints _ _ w6 HI6.out
      have hcv2 := conv_ints _ _ w6 (HI.out.below HB6.out)
      have hee := ne_self (E := E)
      obtain ⟨en, hen⟩ : ∃ b, (E != 0) = b := ⟨_, rfl⟩
      have hnn : en = true → n4 = 0 := fun h => by
        subst h
        have h1 := HE0.out (by simpa using hen)
        rw [← HXN.out]
        have := congrArg List.length HXM.out
        rw [h1] at this
        simpa using this
      have HEN := Lib.hid hen
      have HWS := Lib.hid (WrI.start HWI6.out)
      have HOF := Lib.hid (show ∀ W, WrI w6 a3 bl W → Below w.heap.size w W ∧ Calls Tryz.prog 14 #[.slice a4 n4 c4, .slice a5 n5 c5] W fun e w' => e = .returned (.bool true) ∧ Below W.heap.size W w' from fun W h => by
        have h5 := HW5.out
        have h4 := HW4.out
        have h6 := HW6.out
        have h3 := HG3.out
        have g1 : Below w.heap.size w W := HB6.out.trans (h.off.below (fun k ⟨o, e⟩ => (h3 k o e).1) HB6.out.size)
        have g2 := HX6.out.off h.off (fun k hk _ ⟨o, e⟩ => by have := (h3 k o e).2; omega)
        have g3 := HY6.out.off h.off (fun k hk _ ⟨o, e⟩ => by have := (h3 k o e).2; omega)
        exact ⟨g1, rsame_yes2 g2.orow g3.orow (by rw [HYM.out, HXM.out])⟩)
      clear HX6 HY6 HI6 HWI6 HB6 HB5 HB4 HB3 HPD
      cases en
      · clear hnn
        go_wp2_with fail
        go_loopw [68] (fun i wr => ∃ j : Nat, j ≤ bl ∧ i = .int .i64 j ∧ Hid (WrI w6 a3 bl wr)) (fun i _ => bl - (intOf i).toNat)
        case atStart => exact ⟨0, Nat.zero_le _, rfl, HWS⟩
        case round =>
          clear HWS
          obtain ⟨j, hj, rfl, HP⟩ := hrel
          by_cases hjl : j < bl
          · obtain ⟨g, rfl, hnum⟩ := HP.out.num j hjl
            have HJL := Lib.hid hjl
            have HNX := Lib.hid (HP.out.set hjl 255)
            obtain ⟨⟨vz, hvz⟩, hfz⟩ := hnum
            have hb600 := HBL.out
            go_wp2
            go_roundw
            case rel => exact ⟨j + 1, HJL.out, by go_num, HNX⟩
            case measure => have := HJL.out; simp [intOf]; omega
          · obtain rfl : j = bl := by omega
            have HFB := Lib.hid (HOF.out _ HP.out).1
            have HFS := Lib.hid (HOF.out _ HP.out).2
            clear hj hjl HOF HP
            go_wp2_with (first
              | (go_at_call 14; (with_reducible refine HFS.out.mono ?_); rintro e w7 ⟨rfl, hb⟩; have HB7 := Lib.hid (below_add HFB.out hb HFB.out.size); clear hb)
              | (go_at_call 10; (with_reducible refine (HN.out _).mono ?_); rintro e w8 ⟨rfl, hb⟩; have HB8 := Lib.hid (below_add HB7.out hb HB7.out.size); clear hb))
            go_ret
            exact ⟨rfl, HB8.out⟩
      · obtain rfl := hnn rfl
        go_wp2_with fail
        go_loopw [68] (fun i wr => ∃ j : Nat, j ≤ bl ∧ i = .int .i64 j ∧ Hid (WrI w6 a3 bl wr)) (fun i _ => bl - (intOf i).toNat)
        case atStart => exact ⟨0, Nat.zero_le _, rfl, HWS⟩
        case round =>
          clear HWS
          obtain ⟨j, hj, rfl, HP⟩ := hrel
          by_cases hjl : j < bl
          · obtain ⟨g, rfl, hnum⟩ := HP.out.num j hjl
            have HJL := Lib.hid hjl
            have HNX := Lib.hid (HP.out.set hjl 255)
            obtain ⟨⟨vz, hvz⟩, hfz⟩ := hnum
            have hb600 := HBL.out
            go_wp2
            go_roundw
            case rel => exact ⟨j + 1, HJL.out, by go_num, HNX⟩
            case measure => have := HJL.out; simp [intOf]; omega
          · obtain rfl : j = bl := by omega
            have HFB := Lib.hid (HOF.out _ HP.out).1
            have HFS := Lib.hid (HOF.out _ HP.out).2
            clear hj hjl HOF HP
            go_wp2_with (first
              | (go_at_call 14; (with_reducible refine HFS.out.mono ?_); rintro e w7 ⟨rfl, hb⟩; have HB7 := Lib.hid (below_add HFB.out hb HFB.out.size); clear hb)
              | (go_at_call 10; (with_reducible refine (HN.out _).mono ?_); rintro e w8 ⟨rfl, hb⟩; have HB8 := Lib.hid (below_add HB7.out hb HB7.out.size); clear hb))
            go_ret
            exact ⟨rfl, HB8.out⟩
    · have hc : decide ((600 : Int) < (bl : Int)) = true := decide_eq_true (by omega)
      clear hb HPD HM
      go_wp2_with (go_at_call 10; (with_reducible refine (HN.out _).mono ?_); rintro e w2 ⟨rfl, hb⟩; have HB2 := Lib.hid (below_add HB1.out hb HB1.out.size); clear hb)
      go_ret
      exact ⟨rfl, HB2.out⟩
  · have HNEW := Lib.hid (new_no HK.out HKW.out hm)
    clear hm HPD
    go_enter Tryz.func4, Tryz.ntmps4
    go_wp2_with (first
      | (go_at_call 8; (with_reducible refine HNEW.out.mono ?_); rintro e w1 ⟨rfl, hb⟩; have HB1 := Lib.hid hb; clear hb)
      | (go_at_call 10; (with_reducible refine (HN.out _).mono ?_); rintro e w2 ⟨rfl, hb⟩; have HB2 := Lib.hid (below_add HB1.out hb HB1.out.size); clear hb))
    go_ret
    exact ⟨rfl, HB2.out⟩
end Go.Proofs.YtohgopibimgjfaaGreat

/- P26: CodecOnly's walk out of PEnc and PDec -/
namespace Go.Proofs.YtohgopibimgjfaaGreat
open Go.RowKit
set_option linter.unusedVariables false
set_option maxRecDepth 100000

theorem read_tot {zs : List Oz} {bs : List Int} (h : XK 1073741824 (zs.map Oz.o)) (he : bs = encX (zs.map Oz.o)) : totO zs ≤ bs.length := by
  have h1 := wws_enc h
  rw [← he] at h1
  have h2 := tot_wws zs
  omega
theorem is_told {ks : List Key} {u : Value} {xs : List Oz} {w : World} (hx : Orow w u xs) (hm : mayX ks (xs.map Oz.o) = 0) (hf : formO (xs.map Oz.o) = xs.map Oz.o) :
    Calls Tryz.prog 17 #[u] w fun e w' => e = .returned (.bool true) ∧ Below w.heap.size w w' := by
  refine (is_any u xs w hx).mono fun e w' ⟨⟨b, h1, h2⟩, hB⟩ => ⟨?_, hB⟩
  rw [h1, h2.2 ((normal_iff (fun p hp => may_tm hm p hp)).2 hf)]
set_option maxHeartbeats 8000000 in
theorem only_walk (hE : PEnc) (hD : PDec) (ka : Option Addr) (kn kc : Nat) (ks : List Key) (ba : Option Addr) (bl bc : Nat) (bs : List Int) (m : Int) (w : World) (hk : Krow w (.slice ka kn kc) ks) (hW : ∀ k ∈ ks, KeyW k) (hi : Ints .u8 w (.slice ba bl bc) bs) (hl : bs.length = bl) (ho : Okb bs) (hmo : 0 ≤ m ∧ m < 256) :
    Calls Tryz.prog 5 #[.slice ka kn kc, .slice ba bl bc, .int .u8 m] w fun e w' => e = .returned (.bool true) ∧ Below w.heap.size w w' := by
  have hlm := hi.len
  have HN := Lib.hid (fun W => known17_any hE hD W)
  have HPE := Lib.hid hE
  have HPD := Lib.hid hD
  have HK := Lib.hid hk
  have HKW := Lib.hid hW
  have HI := Lib.hid hi
  have HO := Lib.hid ho
  have HMO := Lib.hid hmo
  obtain ⟨i0, hi0, hz0, hz1, hz2⟩ : ∃ i, Tryz.prog.info? 5 = some i ∧ i.zero = some (.int .u8 0) ∧ i.size = 1 ∧ i.bytes = 1 := ⟨_, rfl, rfl, rfl, rfl⟩
  clear hE hD hk hW hi ho hmo
  by_cases hm : mayKs ks
  · have HNEW := Lib.hid (new_yes HK.out HKW.out hm)
    have HM := Lib.hid hm
    clear hm
    go_enter Tryz.func5, Tryz.ntmps5
    go_wp2_with (go_at_call 8; (with_reducible refine HNEW.out.mono ?_))
    rintro e w1 ⟨s, rfl, hs, hb⟩
    have HB1 := Lib.hid hb
    have HS1 := Lib.hid hs
    clear hb hs
    by_cases hb : bl ≤ 600
    · have hc : decide ((600 : Int) < (bl : Int)) = false := decide_eq_false (by omega)
      have HBL := Lib.hid hb
      have HBLN := Lib.hid hl
      clear HNEW hb hl
      obtain ⟨X, E, hX⟩ : ∃ X E, decX 1073741824 ks bs = (X, E) := ⟨_, _, rfl⟩
      have HXX := Lib.hid hX
      have HDC := Lib.hid (pdec_x HPD.out HS1.out HM.out (HI.out.below HB1.out) HBLN.out HO.out (by have := HBL.out; omega) hX)
      clear hX
      go_wp2_with (go_at_call 15; (with_reducible refine HDC.out.mono ?_))
      rintro e w2 ⟨a2, n2, c2, xs, rfl, hn, hx, hw, hb⟩
      have HB2 := Lib.hid (below_add HB1.out hb HB1.out.size)
      have HS2 := Lib.hid (HS1.out.below hb (Nat.le_refl _))
      have HX2 := Lib.hid hw
      have HXM := Lib.hid hx
      have HXN := Lib.hid hn
      clear hn hx hw hb HDC HB1 HS1
      by_cases hE : E = 0
      · subst hE
        have hdo := dec_only HO.out HXX.out
        rw [← HXM.out] at hdo
        obtain ⟨d1, d2, d3, d4, d5⟩ := hdo
        rw [HBLN.out] at d5
        have d6 := d1
        rw [d3] at d6
        have hri := read_in d4 d6.symm (by have := HBL.out; have := HBLN.out; omega)
        have HEN := Lib.hid (penc_yes HPE.out HS2.out HX2.out.orow ⟨HM.out.2, hri.1, (by have := read_tot d4 d6.symm; have := HBL.out; have := HBLN.out; omega)⟩ d2 d1)
        have HD2 := Lib.hid d2
        have HD3 := Lib.hid d3
        have HD5 := Lib.hid d5
        clear d1 d2 d3 d4 hri
        go_wp2_with (go_at_call 12; (with_reducible refine HEN.out.mono ?_))
        rintro e w3 ⟨a3, c3, rfl, hi3, -, hb⟩
        have HB3 := Lib.hid (below_add HB2.out hb HB2.out.size)
        have HS3 := Lib.hid (HS2.out.below hb (Nat.le_refl _))
        have HX3 := Lib.hid (HX2.out.below hb)
        have hcv1 := conv_ints _ _ w3 hi3
        have hcv2 := conv_ints _ _ w3 (HI.out.below HB3.out)
        have hbe : ((bl : Int) == 0) = false := by rw [beq_eq_false_iff_ne]; omega
        have HIS := Lib.hid (is_told HX3.out.orow HD2.out HD3.out)
        clear hb HEN HB2 HS2 HX2 HX3 hi3 hc d5
        go_wp2_with (go_at_call 17; (with_reducible refine HIS.out.mono ?_))
        rintro e w4 ⟨rfl, hb⟩
        have HB4 := Lib.hid (below_add HB3.out hb HB3.out.size)
        have HS4 := Lib.hid (HS3.out.below hb (Nat.le_refl _))
        clear hb HIS HB3 HS3 hcv1 hcv2
        have o1 := owns_empty w4 5
        have ha : Below w4.heap.size w4 (w4.alloc (.cells #[] 5)) := (Below.refl _ _).alloc (Nat.le_refl _) _
        have iv := (HI.out.below HB4.out).below ha
        have hl := HBLN.out
        go_wp2_with (at_builtin; refine wpList_append_ints rfl (.tmp 66) (.tmp 67) 31 rfl w4.heap.size 5 i0 (.int .u8 0) 1 Tryz.underlying31 hi0 hz0 hz1 hz2 rfl _ 0 [] rfl o1 _ .u8 bs rfl iv (by unfold maxLen; have := HBL.out; omega) (by have := HBL.out; omega) (by simp) ?_)
        intro v5 w5 hown5 hg5
        have hown : w5.ownsRow w4.heap.size 5 1 v5 bl (bs.map (Value.int .u8)) := by simpa [hl] using hown5
        have hb5 : Below w4.heap.size w4 w5 := ((Below.refl _ _).alloc (Nat.le_refl _) _).grown hg5 (by simp) (fun k hk => by simp [Value.ownBlock] at hk; omega)
        clear hown5 hg5 iv o1 ha
        have HB5 := Lib.hid (below_add HB4.out hb5 HB4.out.size)
        have HS5 := Lib.hid (HS4.out.below hb5 (Nat.le_refl _))
        have o5 := hown.alloc (.cells #[.int .u8 m] 5)
        go_wp2_with (at_builtin; refine wpList_append_ints rfl (.tmp 68) (.tmp 70) 31 rfl w4.heap.size 5 i0 (.int .u8 0) 1 Tryz.underlying31 hi0 hz0 hz1 hz2 rfl _ bl _ rfl o5 _ .u8 [m] rfl (ints_single .u8 w5 5 m) (by unfold maxLen; have := HBL.out; simp; omega) (by have := HBL.out; simp; omega) (by have := hb5.size; simp; omega) ?_)
        intro v6 w6 hown6 hg6
        have hown7 : w6.ownsRow w4.heap.size 5 1 v6 (bl + 1) ((bs ++ [m]).map (Value.int .u8)) := by simpa using hown6
        have hb6 : Below w4.heap.size w4 w6 := (hb5.alloc hb5.size _).grown hg6 (by have := hb5.size; simp; omega) (fun k hk => (hown.lt k hk).1)
        clear hown6 hg6 o5 hown hb5 HB5 HS5
        obtain ⟨a6, c6, rfl, -, -⟩ := own_shape hown7
        have HB6 := Lib.hid (below_add HB4.out hb6 HB4.out.size)
        have HS6 := Lib.hid (HS4.out.below hb6 (Nat.le_refl _))
        have hmr := dec_more (ks2 := ks) HO.out HMO.out HXX.out
        have hle := dec_less (ks2 := ks) HO.out HXX.out
        have HLE := Lib.hid hle
        have HDM := Lib.hid (pdec_x HPD.out HS6.out HM.out (Ints.of_owns hown7).1 (by simp [hl]) (fun b hb => (List.mem_append.1 hb).elim (HO.out b) (fun h => by rw [List.mem_singleton.1 h]; exact HMO.out)) (by have := HBL.out; omega) hmr)
        clear hmr hle hown7 hb6 hl HB4 HS4
        go_wp2_with (go_at_call 15; (with_reducible refine HDM.out.mono ?_))
        rintro e w7 ⟨a7, n7, c7, zs, rfl, -, -, -, hb⟩
        have HB7 := Lib.hid (below_add HB6.out hb HB6.out.size)
        have HS7 := Lib.hid (HS6.out.below hb (Nat.le_refl _))
        clear HB6 HS6 HDM hb
        have hd5 := HD5.out
        have hb600 := HBL.out
        have hcl : bl ≤ bc := by
          rcases HI.out with ⟨a', cap', hv', hx, hm, hn⟩ | ⟨b, off, cap', hv', _, hc, hm, _⟩
          · injection hv' with e1 e2 e3; omega
          · injection hv' with e1 e2 e3; omega
        have hq0 : ¬ ((bl : Int) - 1 < 0) := by omega
        have hq1 : ¬ ((bc : Int) < (bl : Int) - 1) := by omega
        have hq2 : ((bl : Int) - 1).toNat = bl - 1 := by omega
        have hq3 : (0 : Int) ≤ (bl : Int) - 1 := by omega
        have hq4 : (bl : Int) - 1 ≤ (bc : Int) := by omega
        have hq5 : ¬ bc = 0 := by omega
        have hmid := (Ints.mid (HI.out.below HB7.out) (Nat.zero_le (bl - 1)) (by have := HBLN.out; omega)).2 (by omega)
        rw [List.drop_zero, Nat.sub_zero, Nat.sub_zero] at hmid
        obtain ⟨b0, o0, hba, -⟩ := HI.out.opened (by have := HBLN.out; omega)
        have hmp : ba.map (fun x => x.add 0) = ba := by rw [hba, Option.map_some, Go.WideShapes.add_plain, Nat.add_zero]
        rw [hmp] at hmid
        clear hmp hba
        have hle2 := HLE.out
        rw [HBLN.out] at hle2
        have HDL := Lib.hid (pdec_x HPD.out HS7.out HM.out hmid (by have := HBLN.out; have := List.length_take (i := bl - 1) (l := bs); omega) (fun b hb => HO.out b (List.mem_of_mem_take hb)) (show bl - 1 ≤ 50000000 by omega) hle2)
        clear hmid hle2
        go_wp2_with (first
          | (go_at_call 15; (with_reducible refine HDL.out.mono ?_); rintro e w8 ⟨a8, n8, c8, zs8, rfl, -, -, -, hb⟩; have HB8 := Lib.hid (below_add HB7.out hb HB7.out.size); clear hb)
          | (go_at_call 10; (with_reducible refine (HN.out _).mono ?_); rintro e w9 ⟨rfl, hb⟩; have HB9 := Lib.hid (below_add HB8.out hb HB8.out.size); clear hb))
        go_ret
        exact ⟨rfl, HB9.out⟩
      · have hee : (E != 0) = true := by simpa using hE
        go_wp2_with (go_at_call 10; (with_reducible refine (HN.out _).mono ?_); rintro e w3 ⟨rfl, hb⟩; have HB3 := Lib.hid (below_add HB2.out hb HB2.out.size); clear hb)
        go_ret
        exact ⟨rfl, HB3.out⟩
    · have hc : decide ((600 : Int) < (bl : Int)) = true := decide_eq_true (by omega)
      clear hb HPD HPE HM
      go_wp2_with (go_at_call 10; (with_reducible refine (HN.out _).mono ?_); rintro e w2 ⟨rfl, hb⟩; have HB2 := Lib.hid (below_add HB1.out hb HB1.out.size); clear hb)
      go_ret
      exact ⟨rfl, HB2.out⟩
  · have HNEW := Lib.hid (new_no HK.out HKW.out hm)
    clear hm HPD HPE
    go_enter Tryz.func5, Tryz.ntmps5
    go_wp2_with (first
      | (go_at_call 8; (with_reducible refine HNEW.out.mono ?_); rintro e w1 ⟨rfl, hb⟩; have HB1 := Lib.hid hb; clear hb)
      | (go_at_call 10; (with_reducible refine (HN.out _).mono ?_); rintro e w2 ⟨rfl, hb⟩; have HB2 := Lib.hid (below_add HB1.out hb HB1.out.size); clear hb))
    go_ret
    exact ⟨rfl, HB2.out⟩
end Go.Proofs.YtohgopibimgjfaaGreat

/- P27: what the three other laws need: a told delta handed in again, Encode and Of restated -/
namespace Go.Proofs.YtohgopibimgjfaaGreat
open Go.RowKit
set_option linter.unusedVariables false
set_option maxRecDepth 100000

theorem xk_opw {zs : List Oz} (h : XK 1073741824 (zs.map Oz.o)) (ht : totO zs ≤ 1048576) : ∀ z ∈ zs, OpW z := by
  have h1 := wws_tot zs
  intro z hz
  have hm : z.o ∈ zs.map Oz.o := List.mem_map_of_mem hz
  have ho := h.2 _ hm
  have hw := (wws_len (zs.map Oz.o)).2 _ hm
  unfold ww at hw
  have hA : ∀ a ∈ z.st, a.s.size ≤ 1048576 := fun a ha => by
    have : 1 + a.s.size ≤ wwA z.o.st := wwA_mem ha
    omega
  have hC : ∀ c ∈ z.pt, c.s.size ≤ 1048576 := fun c hc => by
    have : 1 + c.s.size ≤ wwC z.o.pt := wwC_mem hc
    omega
  have hk := ho.k
  unfold OK KK at ho
  have ek : z.o.k = z.k := rfl
  have en : z.o.n = z.n := rfl
  have er : z.o.rs = z.rs := rfl
  have es : z.o.st = z.st := rfl
  have ep : z.o.pt = z.pt := rfl
  rcases (show z.o.k = 1 ∨ z.o.k = 2 ∨ z.o.k = 3 by omega) with k | k | k
  · rw [k, if_pos (by rfl)] at ho
    obtain ⟨-, ⟨n1, n2⟩, r0, s0, h5, h6⟩ := ho
    refine ⟨wfu8 (by omega), wf64 (by omega), fun x hx => ?_, fun a ha => ?_, fun c hc => chgw_of (h6 c hc) (Nat.le_trans (hC c hc) (by omega))⟩
    · rw [← er, r0] at hx; cases hx
    · rw [← es, s0] at ha; cases ha
  · rw [k, if_neg (by decide), if_pos (by rfl)] at ho
    obtain ⟨-, n0, hr, p0, h5, h6⟩ := ho
    refine ⟨wfu8 (by omega), wf64 (by omega), fun x hx => ?_, fun a ha => attw_of (h6 a ha) (Nat.le_trans (hA a ha) (by omega)), fun c hc => ?_⟩
    · have := (allMay_iff z.o.rs).1 hr.1 x hx
      exact wf32 ⟨this.1, this.2.1⟩
    · rw [← ep, p0] at hc; cases hc
  · rw [k, if_neg (by decide), if_neg (by decide), if_pos (by rfl)] at ho
    obtain ⟨-, ⟨n1, n2⟩, r0, s0, p0⟩ := ho
    refine ⟨wfu8 (by omega), wf64 (by omega), fun x hx => ?_, fun a ha => ?_, fun c hc => ?_⟩
    · rw [← er, r0] at hx; cases hx
    · rw [← es, s0] at ha; cases ha
    · rw [← ep, p0] at hc; cases hc
/-- What Of tells of what may be is handed in again. -/
theorem told_din {ks : List Key} {zs ys : List Oz} (hd : Din ks zs) (hm : mayX ks (zs.map Oz.o) = 0) (he : ys.map Oz.o = formO (zs.map Oz.o)) : Din ks ys := by
  have h1 := wws_form (zs.map Oz.o)
  have h2 := wws_tot zs
  have h3 := tot_wws ys
  have h4 := hd.t
  rw [he] at h3
  have ht : totO ys ≤ 1048576 := by omega
  exact ⟨hd.g, xk_opw (by rw [he]; exact form_xk hd hm) ht, ht⟩
theorem told_may {ks : List Key} {zs ys : List Oz} (hd : Din ks zs) (hm : mayX ks (zs.map Oz.o) = 0) (he : ys.map Oz.o = formO (zs.map Oz.o)) : mayX ks (ys.map Oz.o) = 0 ∧ encX (formO (ys.map Oz.o)) = encX (formO (zs.map Oz.o)) := by
  have h := dec_0 (decX_form hd hm)
  rw [he]
  exact ⟨h.2.1, by rw [h.2.2]⟩
theorem penc_x (h : PEnc) {sv u : Value} {ks : List Key} {zs : List Oz} {w : World} {f : Int} {L : List Int} (hs : Sch w sv ks) (hx : Orow w u zs) (hd : Din ks zs) (hm : mayX ks (zs.map Oz.o) = f) (hL : encX (formO (zs.map Oz.o)) = L) :
    Calls Tryz.prog 12 #[sv, u] w fun e w' => ∃ a n c, e = .returned (.tuple #[.slice a n c, .int .i64 f]) ∧ (f = 0 → Ints .u8 w' (.slice a n c) L) ∧ Below w.heap.size w w' := by
  refine (h sv u ks zs w hs hx hd).mono fun e w' ⟨hb, hc⟩ => ?_
  rw [hm] at hc
  rcases hc with ⟨h0, v, he, ho⟩ | ⟨hn, he⟩
  · rw [hL] at ho
    obtain ⟨a, c, rfl, -, -⟩ := own_shape ho
    exact ⟨a, _, c, by rw [he, h0], fun _ => (Ints.of_owns ho).1, hb⟩
  · exact ⟨none, 0, 0, he, fun h => absurd h hn, hb⟩
theorem of_din {u : Value} {ks : List Key} {zs : List Oz} {w : World} (hx : Orow w u zs) (hd : Din ks zs) :
    Calls Tryz.prog 18 #[u] w fun e w' => ∃ a n c ys, e = .returned (.slice a n c) ∧ ys.map Oz.o = formO (zs.map Oz.o) ∧ Oown (fun g => w.heap.size ≤ g) w' (.slice a n c) ys ∧ Below w.heap.size w w' := by
  refine (of_any u zs w hx hd.l.i).mono fun e w' ⟨v, ys, he, hy, ho, hb⟩ => ?_
  obtain ⟨a, c, rfl, -, -⟩ := ho.shape
  exact ⟨a, _, c, ys, he, hy, ho, hb⟩
end Go.Proofs.YtohgopibimgjfaaGreat
