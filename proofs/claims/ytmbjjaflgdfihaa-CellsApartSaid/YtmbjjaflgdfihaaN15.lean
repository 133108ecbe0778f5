
import Derived.Test.YtmbjjaflgdfihaaN14
/- N15: a maker's state -/
namespace Go.Proofs.Ytmbjjaflgdfihaa
open Go.RowKit
set_option linter.unusedVariables false
set_option maxRecDepth 100000

/-- What is true of a row that was told. -/
structure RI (R : List Opn) (L S : Nat) : Prop where
  ok : ∀ o ∈ R, 1 ≤ lenN o ∧ o.n ≤ 9223372036854775807
  len : R.length ≤ L
  rs : sumR R ≤ S
theorem lenN_2 {p : Opn} (h : p.k = 2) : lenN p = p.rs.length := if_pos h
theorem lenN_n {p : Opn} (h : p.k ≠ 2) (h1 : 1 ≤ lenN p) : 1 ≤ p.n := by
  unfold lenN at h1
  rw [if_neg h] at h1
  split at h1 <;> omega
theorem lenN_long {l p : Opn} (h : Alike l p) (hl : 1 ≤ lenN l ∧ l.n ≤ 9223372036854775807) (hp : 1 ≤ lenN p) : 1 ≤ lenN (long l p) ∧ (long l p).n ≤ 9223372036854775807 := by
  obtain ⟨e1, -, -⟩ := long_k l p
  by_cases h2 : l.k = 2
  · rw [lenN_2 (by rw [e1]; exact h2)]
    rw [lenN_2 h2] at hl
    unfold long
    rw [if_pos h2]
    simp only [List.length_append]
    omega
  · have hk : l.k = 1 ∨ l.k = 3 := by
      have := hl.1
      unfold lenN at this
      rw [if_neg h2] at this
      by_cases hh : l.k = 1 ∨ l.k = 3
      · exact hh
      · rw [if_neg hh] at this; omega
    have hn := lenN_n h2 hl.1
    have hp2 := lenN_n (p := p) (by rw [← h.1]; exact h2) hp
    have e : lenN (long l p) = (long l p).n := by
      unfold lenN
      rw [e1, if_neg h2, if_pos hk]
    rw [e]
    unfold long
    rw [if_neg h2]
    simp only
    omega
theorem ri_rpush {p : Opn} {r : List Opn} {L S : Nat} (h : RI r L S) (hp : 1 ≤ lenN p) (hn : p.n ≤ 9223372036854775807) : RI (rpush p r) (L + 1) (S + p.rs.length) := by
  obtain ⟨h1, h2, h3⟩ := h
  cases r with
  | nil =>
    rw [rpush_nil]
    exact ⟨fun o ho => by obtain rfl := List.mem_singleton.1 ho; exact ⟨hp, hn⟩, by simp, by simp [sumR]⟩
  | cons l r =>
    rw [sumR_cons] at h3
    rw [List.length_cons] at h2
    by_cases ha : Alike l p
    · rw [rpush_yes r ha]
      refine ⟨fun o ho => ?_, by rw [List.length_cons]; omega, ?_⟩
      · rcases List.mem_cons.1 ho with rfl | ho
        · exact lenN_long ha (h1 l (by simp)) hp
        · exact h1 o (by simp [ho])
      · rw [sumR_cons]
        have : (long l p).rs.length ≤ l.rs.length + p.rs.length := by
          unfold long
          split
          · simp
          · simp only; omega
        omega
    · rw [rpush_no r ha]
      refine ⟨fun o ho => ?_, by rw [List.length_cons, List.length_cons]; omega, by rw [sumR_cons, sumR_cons]; omega⟩
      rcases List.mem_cons.1 ho with rfl | ho
      · exact ⟨hp, hn⟩
      · exact h1 o ho
theorem ri_rtell {p : Opn} {R : List Opn} {L S : Nat} (h : RI R L S) (hn : p.n ≤ 9223372036854775807) : RI (rtell p R) (L + 1) (S + p.rs.length) := by
  by_cases hz : lenN p < 1
  · rw [rtell_zero hz]; exact ⟨h.ok, by have := h.len; omega, by have := h.rs; omega⟩
  have hp : 1 ≤ lenN p := by omega
  cases R with
  | nil => rw [rtell_nil hp]; exact ri_rpush (r := []) h hp hn
  | cons d r =>
    by_cases hc : p.k = 2 ∧ d.k = 3
    · rw [rtell_del r hp hc.1 hc.2]
      have hs := h.rs
      have hl := h.len
      rw [sumR_cons] at hs
      rw [List.length_cons] at hl
      have := ri_rpush (r := r) (L := L - 1) (S := S - d.rs.length) ⟨fun o ho => h.ok o (by simp [ho]), by omega, by omega⟩ hp hn
      refine ⟨fun o ho => ?_, by have := this.len; rw [List.length_cons]; omega, by have := this.rs; rw [sumR_cons]; omega⟩
      rcases List.mem_cons.1 ho with rfl | ho
      · exact h.ok _ (by simp)
      · exact this.ok o ho
    · rw [rtell_else r hp hc]; exact ri_rpush h hp hn
theorem ri_nil : RI [] 0 0 := ⟨by simp, by simp, by simp [sumR]⟩
theorem RI.mono {R : List Opn} {L S L' S' : Nat} (h : RI R L S) (h1 : L ≤ L') (h2 : S ≤ S') : RI R L' S' := ⟨h.ok, Nat.le_trans h.len h1, Nat.le_trans h.rs h2⟩
theorem sumR_mem {R : List Opn} {o : Opn} (h : o ∈ R) : o.rs.length ≤ sumR R := by
  induction R with
  | nil => cases h
  | cons d r ih =>
    rw [sumR_cons]
    rcases List.mem_cons.1 h with rfl | h
    · omega
    · have := ih h; omega
/-- What lengthen asks. -/
theorem lg_of {R : List Opn} {L S : Nat} {l p : Oz} (h : RI R L S) (hl : l.o ∈ R) (ha : Alike l.o p.o) (hp : 1 ≤ lenN p.o) (hn : p.n ≤ 9223372036854775807) (hs : S + p.rs.length ≤ 100663296) : Lg l p := by
  have hk : l.k = p.k := ha.1
  obtain ⟨h1, h2⟩ := h.ok _ hl
  refine ⟨hk, fun h2' => ⟨?_, ?_⟩, fun hne => ?_⟩
  · rw [lenN_2 (show p.o.k = 2 from by rw [← ha.1]; exact h2')] at hp
    have : p.o.rs.length = p.rs.length := rfl
    omega
  · have h3 := sumR_mem hl
    have h4 := h.rs
    have h5 : l.o.rs.length = l.rs.length := rfl
    omega
  · exact ⟨lenN_n (p := l.o) hne h1, h2, lenN_n (p := p.o) (by show p.k ≠ 2; rw [← hk]; exact hne) hp, hn⟩

/-- A maker at bm, whose row lies in blocks of G, or in such as were made since w. -/
structure TS (G : Nat → Prop) (bm : Nat) (w : World) (R : List Opn) (va : Option Addr) (n vc : Nat) (zs : List Oz) (wr : World) : Prop where
  m : Cb bm 90 #[.slice va n vc] wr
  o : Oown (fun k => G k ∨ w.heap.size ≤ k) wr (.slice va n vc) zs
  n : zs.length = n
  r : (zs.map Oz.o).reverse = R
  off : Off (fun k => k = bm ∨ G k) w wr
/-- The blocks of the row that there are. -/
def Ft (G : Nat → Prop) (w wr : World) : Nat → Prop := fun k => (G k ∨ w.heap.size ≤ k) ∧ k < wr.heap.size
section
variable {G F F' S : Nat → Prop} {bm n vc : Nat} {w wr W w' : World} {R R' : List Opn} {va : Option Addr} {zs : List Oz}
theorem Oown.tight {v : Value} (h : Oown F w v zs) : Oown (fun k => F k ∧ k < w.heap.size) w v zs :=
  ⟨h.row, fun g hg => ⟨h.f g hg, own_lt7 h.row hg⟩, fun z hz => ⟨(h.own z hz).r, (h.own z hz).s, (h.own z hz).p, fun g hg => ⟨(h.own z hz).fr g hg, own_lt7 (h.own z hz).r hg⟩, fun g hg => ⟨(h.own z hz).fs g hg, own_lt7 (h.own z hz).s hg⟩, fun g hg => ⟨(h.own z hz).fp g hg, own_lt7 (h.own z hz).p hg⟩⟩, h.ap⟩
theorem TS.tight (h : TS G bm w R va n vc zs wr) (hb : Below wr.heap.size wr W) : Oown (Ft G w wr) W (.slice va n vc) zs := (Oown.tight h.o).below hb
theorem ft_bm (hG : ¬ G bm) (hbm : bm < w.heap.size) : ¬ Ft G w wr bm := fun h => by
  rcases h.1 with h | h
  · exact hG h
  · omega
theorem TS.cell (h : TS G bm w R va n vc zs wr) (hb : Below wr.heap.size wr W) : W.cell? ⟨bm, 0, none⟩ = some (.slice va n vc) := (h.m.below hb).cell 0
/-- An op of its row made longer. -/
theorem TS.longer (h : TS G bm w R va n vc zs wr) (hG : ¬ G bm) (hbm : bm < w.heap.size) (hb : Below wr.heap.size wr W) {ys : List Oz} (ho : Oown (fun k => Ft G w wr k ∨ W.heap.size ≤ k) w' (.slice va n vc) ys) (hoff : Off (Ft G w wr) W w') (hl : ys.length = n) (hr : (ys.map Oz.o).reverse = R') :
    TS G bm w R' va n vc ys w' := by
  have hO : Off (Ft G w wr) wr w' := Off.below_l hb hoff
  have hsz := h.off.size
  have hsz2 := hb.size
  refine ⟨h.m.off hO (ft_bm hG hbm), ho.mono fun k hk => ?_, hl, hr, h.off.trans (hO.mono fun k hk => ?_)⟩
  · rcases hk with hk | hk
    · exact hk.1
    · exact .inr (by omega)
  · rcases hk.1 with hk | hk
    · exact .inl (.inr hk)
    · exact .inr hk
/-- Another row stored. -/
theorem TS.laid {va' : Option Addr} {n' vc' : Nat} (h : TS G bm w R va n vc zs wr) (hG : ¬ G bm) (hbm : bm < w.heap.size) (hb : Below wr.heap.size wr W) {ys : List Oz} (ho : Oown (fun k => (Ft G w wr k ∨ wr.heap.size ≤ k) ∨ W.heap.size ≤ k) w' (.slice va' n' vc') ys) (hoff : Off (fun k => Ft G w wr k ∨ wr.heap.size ≤ k) W w') (hl : ys.length = n') (hr : (ys.map Oz.o).reverse = R') :
    TS G bm w R' va' n' vc' ys (w'.setCell ⟨bm, 0, none⟩ (.slice va' n' vc')) := by
  have hO : Off (Ft G w wr) wr w' := (Off.below_l hb (hoff.mono (S' := fun k => Ft G w wr k ∨ wr.heap.size ≤ k) fun k hk => hk)).cut
  have hsz := h.off.size
  have hsz2 := hb.size
  have hm' : Cb bm 90 #[.slice va n vc] w' := h.m.off hO (ft_bm hG hbm)
  have hset := grown_set (w := w') (g := bm) (o := 0) (.slice va' n' vc')
  have hOs : Off (fun k => k = bm) w' (w'.setCell ⟨bm, 0, none⟩ (.slice va' n' vc')) := Off.of_grown hset (fun g hg => by cases hg; rfl)
  refine ⟨heap_set _ hm', ?_, hl, hr, ?_⟩
  · have h1 : Oown (fun k => Ft G w wr k ∨ wr.heap.size ≤ k) w' (.slice va' n' vc') ys := ho.mono fun k hk => by
      rcases hk with hk | hk
      · exact hk
      · exact .inr (by omega)
    refine (h1.off hOs fun k hk _ e => ?_).mono fun k hk => ?_
    · subst e
      rcases hk with hk | hk
      · exact ft_bm hG hbm hk
      · omega
    · rcases hk with hk | hk
      · exact hk.1
      · exact .inr (by omega)
  · refine (h.off.trans (hO.mono fun k hk => ?_)).seq (hOs.mono fun k hk => .inl hk)
    rcases hk.1 with hk | hk
    · exact .inl (.inr hk)
    · exact .inr hk
end
/-! ### what each way comes to -/
theorem way_nil {p z : Oz} (hz : z.o = p.o) (hp : 1 ≤ lenN p.o) : ((([] : List Oz) ++ [z]).map Oz.o).reverse = rtell p.o ((([] : List Oz)).map Oz.o).reverse := by
  rw [show ((([] : List Oz)).map Oz.o).reverse = [] from rfl, rtell_nil hp]
  simp [hz]
theorem way_behind {zs : List Oz} {d p z : Oz} (hz : z.o = p.o) (hp : 1 ≤ lenN p.o) (hc : ¬ (p.k = 2 ∧ d.k = 3)) (ha : ¬ Alike d.o p.o) : (((zs ++ [d]) ++ [z]).map Oz.o).reverse = rtell p.o ((zs ++ [d]).map Oz.o).reverse := by
  have e : ((zs ++ [d]).map Oz.o).reverse = d.o :: (zs.map Oz.o).reverse := by simp
  rw [e, rtell_else (d := d.o) _ hp hc, rpush_no _ ha]
  simp [hz]
theorem way_long {zs : List Oz} {d p y : Oz} (hy : y.o = long d.o p.o) (hp : 1 ≤ lenN p.o) (hc : ¬ (p.k = 2 ∧ d.k = 3)) (ha : Alike d.o p.o) : (((zs ++ [d]).set zs.length y).map Oz.o).reverse = rtell p.o ((zs ++ [d]).map Oz.o).reverse := by
  have e : ((zs ++ [d]).map Oz.o).reverse = d.o :: (zs.map Oz.o).reverse := by simp
  rw [e, rtell_else (d := d.o) _ hp hc, rpush_yes _ ha, List.set_append_right _ _ (Nat.le_refl _), Nat.sub_self]
  simp [hy]
theorem way_ahead1 {d p z : Oz} (hz : z.o = p.o) (hp : 1 ≤ lenN p.o) (h2 : p.k = 2) (h3 : d.k = 3) : ((([] : List Oz) ++ [z, d]).map Oz.o).reverse = rtell p.o ((([] : List Oz) ++ [d]).map Oz.o).reverse := by
  have e : ((([] : List Oz) ++ [d]).map Oz.o).reverse = [d.o] := by simp
  rw [e, rtell_del _ hp h2 h3, rpush_nil]
  simp [hz]
theorem way_ahead {zs : List Oz} {l d p z : Oz} (hz : z.o = p.o) (hp : 1 ≤ lenN p.o) (h2 : p.k = 2) (h3 : d.k = 3) (ha : ¬ Alike l.o p.o) : (((zs ++ [l]) ++ [z, d]).map Oz.o).reverse = rtell p.o (((zs ++ [l]) ++ [d]).map Oz.o).reverse := by
  have e : (((zs ++ [l]) ++ [d]).map Oz.o).reverse = d.o :: l.o :: (zs.map Oz.o).reverse := by simp
  rw [e, rtell_del _ hp h2 h3, rpush_no _ ha]
  simp [hz]
theorem way_aheadL {zs : List Oz} {l d p y : Oz} (hy : y.o = long l.o p.o) (hp : 1 ≤ lenN p.o) (h2 : p.k = 2) (h3 : d.k = 3) (ha : Alike l.o p.o) : ((((zs ++ [l]) ++ [d]).set zs.length y).map Oz.o).reverse = rtell p.o (((zs ++ [l]) ++ [d]).map Oz.o).reverse := by
  have e : (((zs ++ [l]) ++ [d]).map Oz.o).reverse = d.o :: l.o :: (zs.map Oz.o).reverse := by simp
  rw [e, rtell_del _ hp h2 h3, rpush_yes _ ha, List.append_assoc, List.set_append_right _ _ (Nat.le_refl _), Nat.sub_self]
  simp [hy]
end Go.Proofs.Ytmbjjaflgdfihaa
