
import Derived.Test.YtoppgdhidnpibaaTBN
/- WE: trees of things in arenas, as plain data: what a forest has, and how it turns -/
namespace Go.Proofs.Ytoppgdhidnpibaa
open Go.RowKit
set_option linter.unusedVariables false

/-- What a thing has, one behind the other; how many marks these have. -/
structure Way (α β : Type) where
  fl : α → List β
  ln : List β → Nat
  lnA : ∀ a b, ln (a ++ b) = ln a + ln b
  mks : List β → Nat
  mkA : ∀ a b, mks (a ++ b) = mks a + mks b
/-- A list's weight: how long it is, and much for each of its things. -/
def Way.wt {α β : Type} (W : Way α β) (l : List β) : Nat := W.ln l + 10000 * l.length
theorem Way.ln_nil {α β : Type} (W : Way α β) : W.ln [] = 0 := by have := W.lnA [] []; simp at this; exact this
theorem Way.wt_nil {α β : Type} (W : Way α β) : W.wt [] = 0 := by simp [Way.wt, W.ln_nil]
theorem Way.wt_app {α β : Type} (W : Way α β) (a b : List β) : W.wt (a ++ b) = W.wt a + W.wt b := by
  unfold Way.wt
  rw [W.lnA, List.length_append]; omega
theorem Way.wt_ln {α β : Type} (W : Way α β) (l : List β) : W.ln l ≤ W.wt l := Nat.le_add_right _ _
theorem Way.wt_len {α β : Type} (W : Way α β) (l : List β) : 10000 * l.length ≤ W.wt l := Nat.le_add_left _ _
inductive Tr (α : Type) where
  | nil
  | leaf (n t : Nat) (x : α)
  | fork (n : Nat) (l r : Tr α)
section
variable {α β : Type}
def Tr.id : Tr α → Int
  | .nil => -1
  | .leaf n _ _ => (n : Nat)
  | .fork n _ _ => (n : Nat)
def Tr.ht : Tr α → Nat
  | .nil => 0
  | .leaf _ _ _ => 1
  | .fork _ l r => max l.ht r.ht + 1
def Tr.el (W : Way α β) : Tr α → List β
  | .nil => []
  | .leaf _ _ x => W.fl x
  | .fork _ l r => l.el W ++ r.el W
def Tr.ns : Tr α → List Nat
  | .nil => []
  | .leaf n _ _ => [n]
  | .fork n l r => n :: (l.ns ++ r.ns)
def Tr.ts : Tr α → List Nat
  | .nil => []
  | .leaf _ t _ => [t]
  | .fork _ l r => l.ts ++ r.ts
def Tr.nd (W : Way α β) : Tr α → Nd
  | .nil => nd0
  | .leaf _ t x => ⟨1, 1, W.ln (W.fl x), W.mks (W.fl x), -1, -1, (t : Nat)⟩
  | .fork n l r => ⟨1, (Tr.ht (.fork n l r) : Nat), W.ln (Tr.el W (.fork n l r)), W.mks (Tr.el W (.fork n l r)), l.id, r.id, -1⟩
/-- The tree lies in both arenas. -/
def Tr.In (W : Way α β) (A : ArS Nd) (C : ArS α) : Tr α → Prop
  | .nil => True
  | .leaf n t x => A.at_ n = some (Tr.nd W (.leaf n t x)) ∧ C.at_ t = some x ∧ 0 < (W.fl x).length
  | .fork n l r => A.at_ n = some (Tr.nd W (.fork n l r)) ∧ l ≠ .nil ∧ r ≠ .nil ∧ l.In W A C ∧ r.In W A C
variable {W : Way α β} {A A' : ArS Nd} {C C' : ArS α} {F F' : List (Tr α)} {T : Tr α}
theorem Tr.nd_height (T : Tr α) : (T.nd W).height = (T.ht : Nat) := by cases T <;> rfl
theorem Way.mk_nil (W : Way α β) : W.mks [] = 0 := by have := W.mkA [] []; simp at this; exact this
theorem Tr.nd_marks (T : Tr α) : (T.nd W).marks = (W.mks (T.el W) : Nat) := by
  cases T with
  | nil => show (0 : Int) = _; rw [Tr.el, W.mk_nil]; rfl
  | leaf => rfl
  | fork => rfl
theorem Tr.nd_len (T : Tr α) : (T.nd W).len = (W.ln (T.el W) : Nat) := by
  cases T with
  | nil => show (0 : Int) = _; rw [Tr.el, W.ln_nil]; rfl
  | leaf => rfl
  | fork => rfl
theorem Tr.id_nil : (Tr.nil : Tr α).id = -1 := rfl
theorem Tr.id_pos {T : Tr α} (h : T ≠ .nil) : 0 ≤ T.id ∧ ∃ n : Nat, T.id = n ∧ n ∈ T.ns := by
  cases T with
  | nil => exact absurd rfl h
  | leaf n t x => exact ⟨by simp [Tr.id], n, rfl, by simp [Tr.ns]⟩
  | fork n l r => exact ⟨by simp [Tr.id], n, rfl, by simp [Tr.ns]⟩
theorem Tr.id_ne {T : Tr α} (h : T ≠ .nil) : (T.id == -1) = false := by
  have := (Tr.id_pos h).1
  rw [beq_eq_false_iff_ne]; omega
theorem Tr.In.some_n : ∀ {T : Tr α}, T.In W A C → ∀ i ∈ T.ns, (A.at_ i).isSome = true
  | .nil, _, i, hi => by simp [Tr.ns] at hi
  | .leaf n t x, h, i, hi => by
    obtain rfl : i = n := by simpa [Tr.ns] using hi
    rw [h.1]; rfl
  | .fork n l r, h, i, hi => by
    simp only [Tr.ns, List.mem_cons, List.mem_append] at hi
    rcases hi with rfl | hi | hi
    · rw [h.1]; rfl
    · exact h.2.2.2.1.some_n i hi
    · exact h.2.2.2.2.some_n i hi
theorem Tr.In.some_t : ∀ {T : Tr α}, T.In W A C → ∀ i ∈ T.ts, (C.at_ i).isSome = true
  | .nil, _, i, hi => by simp [Tr.ts] at hi
  | .leaf n t x, h, i, hi => by
    obtain rfl : i = t := by simpa [Tr.ts] using hi
    rw [h.2.1]; rfl
  | .fork n l r, h, i, hi => by
    simp only [Tr.ts, List.mem_append] at hi
    rcases hi with hi | hi
    · exact h.2.2.2.1.some_t i hi
    · exact h.2.2.2.2.some_t i hi
theorem Tr.In.congr : ∀ {T : Tr α}, T.In W A C → (∀ i ∈ T.ns, A'.at_ i = A.at_ i) → (∀ i ∈ T.ts, C'.at_ i = C.at_ i) → T.In W A' C'
  | .nil, _, _, _ => trivial
  | .leaf n t x, h, hn, ht => ⟨by rw [hn n (by simp [Tr.ns])]; exact h.1, by rw [ht t (by simp [Tr.ts])]; exact h.2.1, h.2.2⟩
  | .fork n l r, h, hn, ht => ⟨by rw [hn n (by simp [Tr.ns])]; exact h.1, h.2.1, h.2.2.1,
      h.2.2.2.1.congr (fun i hi => hn i (by simp [Tr.ns, hi])) (fun i hi => ht i (by simp [Tr.ts, hi])),
      h.2.2.2.2.congr (fun i hi => hn i (by simp [Tr.ns, hi])) (fun i hi => ht i (by simp [Tr.ts, hi]))⟩
theorem Tr.In.el_pos : ∀ {T : Tr α}, T.In W A C → T ≠ .nil → 0 < (T.el W).length
  | .nil, _, h => absurd rfl h
  | .leaf n t x, h, _ => h.2.2
  | .fork n l r, h, _ => by
    have := h.2.2.2.1.el_pos h.2.1
    simp only [Tr.el, List.length_append]; omega
theorem Tr.In.ht_pos : ∀ {T : Tr α}, T ≠ .nil → 0 < T.ht
  | .nil, h => absurd rfl h
  | .leaf n t x, _ => by simp [Tr.ht]
  | .fork n l r, _ => by simp [Tr.ht]
theorem Tr.In.ns_le : ∀ {T : Tr α}, T.In W A C → T.ns.length ≤ 2 * (T.el W).length ∧ T.ts.length ≤ (T.el W).length ∧ (T ≠ .nil → T.ns.length + 1 ≤ 2 * (T.el W).length)
  | .nil, _ => by simp [Tr.ns, Tr.ts]
  | .leaf n t x, h => by
    have := h.2.2
    simp only [Tr.ns, Tr.ts, Tr.el, List.length_singleton]
    exact ⟨by omega, by omega, fun _ => by omega⟩
  | .fork n l r, h => by
    obtain ⟨a1, a2, a3⟩ := h.2.2.2.1.ns_le
    obtain ⟨b1, b2, b3⟩ := h.2.2.2.2.ns_le
    have a3 := a3 h.2.1
    have b3 := b3 h.2.2.1
    simp only [Tr.ns, Tr.ts, Tr.el, List.length_cons, List.length_append]
    exact ⟨by omega, by omega, fun _ => by omega⟩
theorem Tr.In.fork_ht {n : Nat} {l r : Tr α} (h : (Tr.fork n l r).In W A C) : 2 ≤ (Tr.fork n l r).ht := by
  have := Tr.In.ht_pos h.2.1
  simp only [Tr.ht]; omega

/-! ### a forest -/
def Nsf (F : List (Tr α)) : List Nat := F.flatMap Tr.ns
def Tsf (F : List (Tr α)) : List Nat := F.flatMap Tr.ts
def tot (W : Way α β) (F : List (Tr α)) : Nat := (F.map fun T => W.wt (T.el W)).sum
structure Has (W : Way α β) (A : ArS Nd) (C : ArS α) (F : List (Tr α)) : Prop where
  inn : ∀ T ∈ F, T.In W A C
  nN : (Nsf F).Nodup
  nT : (Tsf F).Nodup
  cN : cnt A.ps = (Nsf F).length
  cT : cnt C.ps = (Tsf F).length
theorem nsf_cons (T : Tr α) (F : List (Tr α)) : Nsf (T :: F) = T.ns ++ Nsf F := by simp [Nsf]
theorem tsf_cons (T : Tr α) (F : List (Tr α)) : Tsf (T :: F) = T.ts ++ Tsf F := by simp [Tsf]
theorem tot_cons (T : Tr α) (F : List (Tr α)) : tot W (T :: F) = W.wt (T.el W) + tot W F := by simp [tot]
theorem tot_nil : tot W ([] : List (Tr α)) = 0 := rfl
theorem mem_nsf {T : Tr α} (h : T ∈ F) {i : Nat} (hi : i ∈ T.ns) : i ∈ Nsf F := List.mem_flatMap.2 ⟨T, h, hi⟩
theorem mem_tsf {T : Tr α} (h : T ∈ F) {i : Nat} (hi : i ∈ T.ts) : i ∈ Tsf F := List.mem_flatMap.2 ⟨T, h, hi⟩
theorem Has.perm (h : Has W A C F) (hp : F.Perm F') : Has W A C F' :=
  ⟨fun T hT => h.inn T (hp.mem_iff.2 hT), (hp.flatMap_right Tr.ns).nodup_iff.1 h.nN, (hp.flatMap_right Tr.ts).nodup_iff.1 h.nT, h.cN.trans (hp.flatMap_right Tr.ns).length_eq, h.cT.trans (hp.flatMap_right Tr.ts).length_eq⟩
theorem Has.swap {T U : Tr α} (h : Has W A C (T :: U :: F)) : Has W A C (U :: T :: F) := h.perm (List.Perm.swap _ _ _)
theorem has_nil : Has W A C (.nil :: F) ↔ Has W A C F := by
  constructor
  · intro h
    have e1 := nsf_cons .nil F
    have e2 := tsf_cons .nil F
    simp only [Tr.ns, Tr.ts, List.nil_append] at e1 e2
    exact ⟨fun T hT => h.inn T (List.mem_cons_of_mem _ hT), e1 ▸ h.nN, e2 ▸ h.nT, e1 ▸ h.cN, e2 ▸ h.cT⟩
  · intro h
    have e1 := nsf_cons .nil F
    have e2 := tsf_cons .nil F
    simp only [Tr.ns, Tr.ts, List.nil_append] at e1 e2
    refine ⟨fun T hT => ?_, e1 ▸ h.nN, e2 ▸ h.nT, e1 ▸ h.cN, e2 ▸ h.cT⟩
    rcases List.mem_cons.1 hT with rfl | hT
    · trivial
    · exact h.inn T hT
theorem Has.some_n (h : Has W A C F) {i : Nat} (hi : i ∈ Nsf F) : (A.at_ i).isSome = true := by
  obtain ⟨T, hT, hi⟩ := List.mem_flatMap.1 hi
  exact (h.inn T hT).some_n i hi
theorem Has.some_t (h : Has W A C F) {i : Nat} (hi : i ∈ Tsf F) : (C.at_ i).isSome = true := by
  obtain ⟨T, hT, hi⟩ := List.mem_flatMap.1 hi
  exact (h.inn T hT).some_t i hi
theorem Has.count : ∀ {F : List (Tr α)}, (∀ T ∈ F, T.In W A C) → 10000 * (Nsf F).length ≤ 2 * tot W F ∧ 10000 * (Tsf F).length ≤ tot W F
  | [], _ => by simp [Nsf, Tsf, tot]
  | T :: F, h => by
    obtain ⟨a1, a2⟩ := Has.count (F := F) (fun U hU => h U (List.mem_cons_of_mem _ hU))
    obtain ⟨b1, b2, -⟩ := (h T List.mem_cons_self).ns_le
    have hw := W.wt_len (T.el W)
    rw [nsf_cons, tsf_cons, tot_cons, List.length_append, List.length_append]
    exact ⟨by omega, by omega⟩
theorem Has.room (h : Has W A C F) : 10000 * cnt A.ps ≤ 2 * tot W F ∧ 10000 * cnt C.ps ≤ tot W F := by rw [h.cN, h.cT]; exact Has.count h.inn
theorem cnt_take {γ : Type} {B : ArS γ} (h : B.Ok) (x : γ) : cnt (B.take x).ps = cnt B.ps + 1 := by
  have hf := freshA h
  unfold ArS.fresh at hf
  unfold ArS.take
  cases hg : B.free.getLast? with
  | some i =>
    rw [hg] at hf
    obtain ⟨h1, h2⟩ := h.freeB i (List.mem_of_getLast? hg)
    have hc := cnt_set B.ps i (some x) h1
    have e : B.ps.getD i none = none := h2
    rw [e] at hc
    simpa using hc
  | none => exact cnt_snoc _ _
theorem cnt_out {γ : Type} {B : ArS γ} {i : Nat} {x : γ} (h : B.at_ i = some x) : cnt (B.out i).ps + 1 = cnt B.ps := by
  have hc := cnt_set B.ps i none (at_lt h)
  have e : B.ps.getD i none = some x := h
  rw [e] at hc
  show cnt (B.ps.set i none) + 1 = cnt B.ps
  simpa using hc
theorem out_other {γ : Type} {B : ArS γ} {i j : Nat} (h : j ≠ i) : (B.out i).at_ j = B.at_ j := by rw [at_out, if_neg h]
theorem take_other {γ : Type} {B : ArS γ} (h : B.Ok) (x : γ) {j : Nat} (hj : (B.at_ j).isSome = true) : (B.take x).at_ j = B.at_ j := by
  rw [at_take h, if_neg]
  rintro rfl
  rw [(freshA h).1] at hj
  cases hj
theorem take_fresh {γ : Type} {B : ArS γ} (h : B.Ok) (x : γ) : (B.take x).at_ B.fresh = some x := by rw [at_take h, if_pos rfl]

/-- A fork is opened: both stand in its place. -/
theorem Has.opened {n : Nat} {l r : Tr α} (h : Has W A C (.fork n l r :: F)) : Has W (A.out n) C (l :: r :: F) := by
  have h1 := h.inn _ List.mem_cons_self
  have e1 := nsf_cons (.fork n l r) F
  have e2 := tsf_cons (.fork n l r) F
  have e3 : Nsf (l :: r :: F) = (l.ns ++ r.ns) ++ Nsf F := by rw [nsf_cons, nsf_cons, List.append_assoc]
  have e4 : Tsf (l :: r :: F) = (l.ts ++ r.ts) ++ Tsf F := by rw [tsf_cons, tsf_cons, List.append_assoc]
  simp only [Tr.ns, Tr.ts, List.cons_append] at e1 e2
  rw [← e3] at e1
  rw [← e4] at e2
  have hN := h.nN
  have hT := h.nT
  have hc := h.cN
  have hd := h.cT
  rw [e1] at hN hc
  rw [e2] at hT hd
  have hk : ∀ i ∈ Nsf (l :: r :: F), (A.out n).at_ i = A.at_ i := fun i hi => out_other (fun e => (List.nodup_cons.1 hN).1 (e ▸ hi))
  have hi2 : ∀ U ∈ l :: r :: F, U.In W A C := fun U hU => by
    rcases List.mem_cons.1 hU with rfl | hU
    · exact h1.2.2.2.1
    rcases List.mem_cons.1 hU with rfl | hU
    · exact h1.2.2.2.2
    · exact h.inn U (List.mem_cons_of_mem _ hU)
  refine ⟨fun U hU => (hi2 U hU).congr (fun i hi => hk i (mem_nsf hU hi)) (fun _ _ => rfl), (List.nodup_cons.1 hN).2, hT, ?_, hd⟩
  have := cnt_out h1.1
  rw [List.length_cons] at hc
  omega
/-- A leaf is dropped. -/
theorem Has.dropped {n t : Nat} {x : α} (h : Has W A C (.leaf n t x :: F)) : Has W (A.out n) (C.out t) F := by
  have h1 := h.inn _ List.mem_cons_self
  have e1 := nsf_cons (.leaf n t x) F
  have e2 := tsf_cons (.leaf n t x) F
  simp only [Tr.ns, Tr.ts, List.singleton_append] at e1 e2
  have hN := h.nN
  have hT := h.nT
  have hc := h.cN
  have hd := h.cT
  rw [e1] at hN hc
  rw [e2] at hT hd
  refine ⟨fun U hU => (h.inn U (List.mem_cons_of_mem _ hU)).congr (fun i hi => out_other (fun e => (List.nodup_cons.1 hN).1 (e ▸ mem_nsf hU hi))) (fun i hi => out_other (fun e => (List.nodup_cons.1 hT).1 (e ▸ mem_tsf hU hi))), (List.nodup_cons.1 hN).2, (List.nodup_cons.1 hT).2, ?_, ?_⟩
  · have := cnt_out h1.1
    rw [List.length_cons] at hc
    omega
  · have := cnt_out h1.2.1
    rw [List.length_cons] at hd
    omega
/-- A fork of both stands in their place. -/
theorem Has.forked {l r : Tr α} (h : Has W A C (l :: r :: F)) (hA : A.Ok) (hl : l ≠ .nil) (hr : r ≠ .nil) : Has W (A.take (Tr.nd W (.fork A.fresh l r))) C (.fork A.fresh l r :: F) := by
  have e1 := nsf_cons (.fork A.fresh l r) F
  have e2 := tsf_cons (.fork A.fresh l r) F
  have e3 : Nsf (l :: r :: F) = (l.ns ++ r.ns) ++ Nsf F := by rw [nsf_cons, nsf_cons, List.append_assoc]
  have e4 : Tsf (l :: r :: F) = (l.ts ++ r.ts) ++ Tsf F := by rw [tsf_cons, tsf_cons, List.append_assoc]
  simp only [Tr.ns, Tr.ts, List.cons_append] at e1 e2
  rw [← e3] at e1
  rw [← e4] at e2
  have hk : ∀ U ∈ l :: r :: F, U.In W (A.take (Tr.nd W (.fork A.fresh l r))) C := fun U hU => (h.inn U hU).congr (fun i hi => take_other hA _ (h.some_n (mem_nsf hU hi))) (fun _ _ => rfl)
  refine ⟨fun U hU => ?_, ?_, by rw [e2]; exact h.nT, ?_, by rw [e2]; exact h.cT⟩
  · rcases List.mem_cons.1 hU with rfl | hU
    · exact ⟨take_fresh hA _, hl, hr, hk l List.mem_cons_self, hk r (by simp)⟩
    · exact hk U (by simp [hU])
  · rw [e1]
    refine List.nodup_cons.2 ⟨fun hm => ?_, h.nN⟩
    have := h.some_n hm
    rw [(freshA hA).1] at this
    cases this
  · rw [e1, cnt_take hA, h.cN, List.length_cons]
/-- A new leaf. -/
theorem Has.leafed (h : Has W A C F) (hA : A.Ok) (hC : C.Ok) {x : α} (hx : 0 < (W.fl x).length) : Has W (A.take (Tr.nd W (.leaf A.fresh C.fresh x))) (C.take x) (.leaf A.fresh C.fresh x :: F) := by
  have e1 := nsf_cons (.leaf A.fresh C.fresh x) F
  have e2 := tsf_cons (.leaf A.fresh C.fresh x) F
  simp only [Tr.ns, Tr.ts, List.singleton_append] at e1 e2
  refine ⟨fun U hU => ?_, ?_, ?_, ?_, ?_⟩
  · rcases List.mem_cons.1 hU with rfl | hU
    · exact ⟨take_fresh hA _, take_fresh hC _, hx⟩
    · exact (h.inn U hU).congr (fun i hi => take_other hA _ (h.some_n (mem_nsf hU hi))) (fun i hi => take_other hC _ (h.some_t (mem_tsf hU hi)))
  · rw [e1]
    refine List.nodup_cons.2 ⟨fun hm => ?_, h.nN⟩
    have := h.some_n hm
    rw [(freshA hA).1] at this
    cases this
  · rw [e2]
    refine List.nodup_cons.2 ⟨fun hm => ?_, h.nT⟩
    have := h.some_t hm
    rw [(freshA hC).1] at this
    cases this
  · rw [e1, cnt_take hA, h.cN, List.length_cons]
  · rw [e2, cnt_take hC, h.cT, List.length_cons]
theorem has_new : Has W (newA : ArS Nd) (newA : ArS α) [] := ⟨fun T hT => (by cases hT), by simp [Nsf], by simp [Tsf], by simp [newA, cnt, Nsf], by simp [newA, cnt, Tsf]⟩
end
end Go.Proofs.Ytoppgdhidnpibaa
