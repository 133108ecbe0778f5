
import Derived.Test.YtmbjjaflgdfihaaN11
import Derived.Laws.CopyRow
import Derived.Lib.AppendZerosOnto
import Derived.Lib.Overlaps
import Derived.Laws.NewBlocks
import Derived.Laws.IdiomCopy
/- N12: an op laid in: behind the last one, ahead of it -/
namespace Go.Proofs.Ytmbjjaflgdfihaa
open Go.RowKit
set_option linter.unusedVariables false
set_option maxRecDepth 100000

/-- What comes of it. -/
structure InsP (F : Nat → Prop) (w : World) (ys : List Oz) (e : Ending) (w' : World) : Prop where
  ex : ∃ v', e = .returned v' ∧ Oown (fun k => F k ∨ w.heap.size ≤ k) w' v' ys ∧ Off F w w'
theorem insert_end {F : Nat → Prop} (a : Option Addr) (c : Nat) (zs : List Oz) (gu uc : Nat) (z : Oz) (w : World) (h : Oown F w (.slice a zs.length c) zs) (hu : Oown F w (.slice (some ⟨gu, 0, none⟩) 1 uc) [z]) (hap : ∀ y ∈ zs, Ap y z) (hl : zs.length ≤ 100663296) :
    Calls Try.prog 53 #[.slice a zs.length c, .int .i64 zs.length, .slice (some ⟨gu, 0, none⟩) 1 uc] w (InsP F w (zs ++ [z])) := by
  obtain ⟨i0, hi, hz0, hz1, hz2⟩ := info_op
  obtain ⟨a', c', e, ha, hlc⟩ := h.shape
  injection e with e1 e2 e3
  subst e1 e3
  have hcm : c ≤ maxLen := by
    rcases h.row.2 with ⟨hv, hn⟩ | ⟨g, cap, cur, hv, hB, hg, hc, hm, hs, ht⟩
    · injection hv with _ _ e3; rw [e3]; simp [maxLen]
    · injection hv with _ _ e3; rw [e3]; exact hm
  have HH := Lib.hid h
  obtain ⟨bb, off, e, -, -, -, hbl, hat⟩ := hu.orow.row.ats (by simp)
  injection e with e
  injection e with e1 e2
  subst e1 e2
  have HN := Lib.hid (show ∀ j u, (ozC.c z)[j]? = some u → w.cell? ((⟨gu, 0, none⟩ : Addr).add j) = some u from fun j u hj => by
    have := (Row.opened (C := ozC) hu.orow.row (by simp))
    obtain ⟨b, off, e, -, -, -, -, -, hcc⟩ := this
    injection e with e
    injection e with e1 e2
    subst e1 e2
    rw [Go.WideShapes.add_plain]
    exact hcc j u (by rw [fl_one]; exact hj))
  have HZ := Lib.hid (And.intro (hu.own z (by simp)) hap)
  have HFIN := Lib.hid (show ∀ (g cap : Nat) (w4 : World), w4.ownsRow 0 51 5 (.slice (some ⟨g, 0, none⟩) (zs.length + 1) cap) (zs.length + 1) (fl ozC zs ++ ozC.c z) → w.grownBy w4 (Value.slice a zs.length c).ownBlock → ((Value.slice a zs.length c).ownBlock = some g ∨ g = w.heap.size) → InsP F w (zs ++ [z]) (.returned (.slice (some ⟨g, 0, none⟩) (zs.length + 1) cap)) w4 from fun g cap w4 ho hg hat => ⟨_, rfl, HH.out.more (fun k hk => .inl hk) hg (HZ.out.1.mono fun k hk => .inl hk) HZ.out.2 ho (fun q hq => by
      injection hq with hq
      subst hq
      rcases hat with hh | hh
      · exact .inl (HH.out.f _ hh)
      · exact .inr (by rw [hh]; exact Nat.le_refl _)), Off.of_grown hg (fun q hq => HH.out.f q hq)⟩)
  clear h hu hap hat
  unfold maxLen at hcm
  have hm1 : (1 : Nat) ≤ uc ∨ True := .inr trivial
  obtain ⟨n, hn⟩ : ∃ n, zs.length = n := ⟨_, rfl⟩
  rw [hn] at HH HFIN hl hlc ⊢
  rcases ha with rfl | ⟨g0, rfl⟩
  · obtain ⟨rfl, rfl⟩ : n = 0 ∧ c = 0 := by
      rcases HH.out.row.2 with ⟨hv, h0⟩ | ⟨g, cap, cur, hv, -⟩
      · injection hv with _ e2 e3; exact ⟨e2, e3⟩
      · injection hv with e1; cases e1
    go_enter Try.func53, Try.ntmps53
    go_wp2_with (at_builtin; refine wpList_append_lies _ rfl (.tmp 23) (.tmp 24) 33 rfl 0 51 i0 _ 5 88 Try.underlying33 hi hz0 hz1 hz2 rfl (by decide) _ 0 (fl ozC zs) rfl (by have := HH.out.row; rwa [hn] at this) ⟨gu, 0, none⟩ 1 uc (ozC.c z) rfl rfl HN.out (ozC.one _) (by decide) (by unfold maxLen; omega) (by omega) (Nat.zero_le _) _ rfl ?_; intro g cap w4 hown4 hgrow4 hat4 hlt4)
    go_ret
    exact HFIN.out g cap w4 hown4 hgrow4 hat4
  · have hcn : n ≤ c := hlc
    go_enter Try.func53, Try.ntmps53
    go_wp2_with (at_builtin; refine wpList_append_lies _ rfl (.tmp 23) (.tmp 24) 33 rfl 0 51 i0 _ 5 88 Try.underlying33 hi hz0 hz1 hz2 rfl (by decide) _ n (fl ozC zs) rfl (by have := HH.out.row; rwa [hn] at this) ⟨gu, 0, none⟩ 1 uc (ozC.c z) rfl rfl HN.out (ozC.one _) (by decide) (by unfold maxLen; omega) (by omega) (Nat.zero_le _) _ rfl ?_; intro g cap w4 hown4 hgrow4 hat4 hlt4)
    all_goals
      go_ret
      exact HFIN.out g cap w4 hown4 hgrow4 hat4

/-- copy of rows whose elements have m cells: all is read before anything is written. -/
theorem run_copy_rowN {P : Program} (w : World) (dT sT ty elem : TypeId) (g o dLen dCap : Nat) (a : Addr) (sLen sCap m : Nat) (cur : Array Value) (t : TypeId) (cs : List Value)
    (hu : P.underlying dT = some (.slice elem)) (hs : (P.info? elem).map (·.size) = some m)
    (hg : w.heap[g]? = some (.cells cur t (0, 0))) (hn : cs.length = Nat.min sLen dLen * m)
    (hsrc : ∀ j v, cs[j]? = some v → w.cell? (a.add j) = some v) (hfit : o + cs.length ≤ cur.size) (h1 : ∀ v ∈ cs, v.oneCell' = true) :
    (Builtin.copy_ #[dT, sT] ty #[.slice (some ⟨g, o, none⟩) dLen dCap, .slice (some a) sLen sCap]).run P w =
      .ok (goInt (Nat.min sLen dLen)) (w.setRow g (cur.toList.take o ++ cs ++ cur.toList.drop (o + cs.length)).toArray) := by
  have hl := run_loadCells_list (P := P) w a cs hsrc
  have hst := run_storeCells_at P g o t cs 0 cur w hg (by simpa using hfit) h1
  cases hq : P.info? elem with
  | none => simp [hq] at hs
  | some i =>
    have hi : i.size = m := by simpa [hq] using hs
    simp [Builtin.copy_, run_underlying hu, Builtin.lenOf, Builtin.firstCells, sizeOf, typeInfo, hq, hi, ← hn, hl, hst]
theorem op_size5 : (Try.prog.info? 51).map (·.size) = some 5 := by kernel_rfl
end Go.Proofs.Ytmbjjaflgdfihaa
