
import Derived.Test.YtmbjjaflgdfihaaN15
/- N16: tell -/
namespace Go.Proofs.Ytmbjjaflgdfihaa
open Go.RowKit
set_option linter.unusedVariables false
set_option maxRecDepth 100000

theorem tell_none (u : Value) (w : World) : Calls Try.prog 42 #[.pointer none, u] w fun e w' => e = .returned (.tuple #[]) ∧ w' = w := by
  go_enter Try.func42, Try.ntmps42
  go_wp2
  go_step3
  go_wp2
  try rw [Exit.noGoto_ret]
  (try simp only [Exit.inBlock, Exit.then])
  refine bodyPost_ret (results_none rfl _ _ _) rfl ?_
  exact ⟨rfl, rfl⟩
theorem insert_mid {F : Nat → Prop} (a : Option Addr) (n c : Nat) (zs : List Oz) (d : Oz) (gu uc : Nat) (z : Oz) (w : World) (h : Oown F w (.slice a (n + 1) c) (zs ++ [d])) (hn : zs.length = n) (hu : Oown F w (.slice (some ⟨gu, 0, none⟩) 1 uc) [z]) (hap : ∀ y ∈ zs ++ [d], Ap y z) (hne : ∀ g, a = some ⟨g, 0, none⟩ → gu ≠ g) (hl : n ≤ 100663296) :
    Calls Try.prog 53 #[.slice a (n + 1) c, .int .i64 n, .slice (some ⟨gu, 0, none⟩) 1 uc] w (InsP F w (zs ++ [z, d])) := by
  subst hn
  obtain ⟨a', c', e, ha, -⟩ := h.shape
  injection e with e1 e2 e3
  subst e1 e3
  rcases ha with rfl | ⟨g, rfl⟩
  · rcases h.row.2 with ⟨_, h0⟩ | ⟨g, cap, cur, hv, -⟩
    · simp at h0
    · injection hv with e1; cases e1
  · by_cases hc : zs.length + 2 ≤ c
    · exact insert_room g c zs d gu uc z w h hu hap (hne g rfl) hc
    · exact insert_grow g c zs d gu uc z w h hu hap (by omega) hl
theorem own_single {F : Nat → Prop} {w : World} {v : Value} {ys : List Oz} {p : Oz} (h : Oown F w v ys) (he : ys.map Oz.o = [p].map Oz.o) : ∃ z gu uc, ys = [z] ∧ z.o = p.o ∧ v = .slice (some ⟨gu, 0, none⟩) 1 uc := by
  cases ys with
  | nil => simp at he
  | cons z r =>
    cases r with
    | cons y r => simp at he
    | nil =>
      obtain ⟨a, c, rfl, ha, -⟩ := h.shape
      rcases ha with rfl | ⟨g, rfl⟩
      · rcases h.row.2 with ⟨_, h0⟩ | ⟨g, cap, cur, hv, -⟩
        · simp at h0
        · injection hv with e1; cases e1
      · exact ⟨z, g, c, rfl, by simpa using he, rfl⟩
theorem step_call {P : Program} {ops : Array Oper} {o : Oper} {a : Act} {w : World} {f : FuncId} {args : Array Value} {K : Act → World → Prop} {Q : Exit → Act → World → Prop} {E : Prop} (hg : o.guard = none) (hv : (execOp a.eval o).run P w = .ok (.enter f args) w)
    (hc : Calls P f args w fun e w' => ∃ v, e = .returned v ∧ K (a.put o.dst v) w') : if Region.wanted o (yielded ops a.tmps) = true then Oper.wp P o a w K Q else E := by
  have hw : Region.wanted o (yielded ops a.tmps) = true := by simp [Region.wanted, hg]
  rw [if_pos hw]
  unfold Oper.wp
  rw [hv]
  simp only [Oper.upon]
  refine hc.mono fun e w' ⟨v, he, h1⟩ => ?_
  subst he
  exact h1
theorem own_sh {F : Nat → Prop} {w : World} {v : Value} {zs : List Oz} (h : Oown F w v zs) : ∃ a n c, zs.length = n ∧ v = .slice a n c := by
  obtain ⟨a, c, e, -, -⟩ := h.shape
  exact ⟨a, _, c, rfl, e⟩
theorem TS.below {G : Nat → Prop} {bm n vc : Nat} {w wr W : World} {R : List Opn} {va : Option Addr} {zs : List Oz} (h : TS G bm w R va n vc zs wr) (hb : Below wr.heap.size wr W) : TS G bm w R va n vc zs W := ⟨h.m.below hb, h.o.below hb, h.n, h.r, h.off.below_r hb⟩
theorem CK.start0 (wr : World) (z : Oz) : CK wr z (wr.alloc (.cells z.cs 51)) := ⟨OAt.new wr z _, kbelow_one wr _, by simp⟩
/-- The row at its place, if it has an op. -/
theorem TS.at {G : Nat → Prop} {bm n vc : Nat} {w wr : World} {R : List Opn} {va : Option Addr} {zs : List Oz} (h : TS G bm w R va n vc zs wr) (h0 : 0 < zs.length) : ∃ g, va = some ⟨g, 0, none⟩ ∧ n ≤ vc ∧ vc ≤ maxLen ∧ ∀ W, Below wr.heap.size wr W → ∀ j (hj : j < zs.length), OAt g (j * 5) zs[j] W := by
  obtain ⟨a, c, e, ha, -⟩ := h.o.shape
  injection e with e1 e2 e3
  subst e1
  rcases ha with rfl | ⟨g, rfl⟩
  · rcases h.o.row.2 with ⟨_, hn⟩ | ⟨g, cap, cur, hv, -⟩
    · omega
    · injection hv with e1; cases e1
  · refine ⟨g, rfl, ?_, ?_, fun W hb j hj => ?_⟩
    · obtain ⟨cur, hc, h1, h2, -⟩ := own_list (by have := h.o.row; rw [h.n] at this; exact this); exact h1
    · obtain ⟨cur, hc, h1, h2, -⟩ := own_list (by have := h.o.row; rw [h.n] at this; exact this); exact h2
    · obtain ⟨b, off, e, -, -, -, -, hat⟩ := (h.o.below hb).orow.row.ats h0
      injection e with e
      injection e with e1 e2
      subst e1 e2
      have := hat j hj
      rwa [Nat.zero_add] at this
/-- What Insert asks of the copy. -/
theorem copy_apart {G : Nat → Prop} {bm n vc : Nat} {w wr W5 W6 : World} {R : List Opn} {va : Option Addr} {zs : List Oz} {gu uc : Nat} {z : Oz} (h : TS G bm w R va n vc zs wr) (hb5 : Below wr.heap.size wr W5) (hb6 : Below W5.heap.size W5 W6) (ho : Oown (fun g => W5.heap.size ≤ g) W6 (.slice (some ⟨gu, 0, none⟩) 1 uc) [z]) :
    Oown (fun k => Ft G w wr k ∨ wr.heap.size ≤ k) W6 (.slice (some ⟨gu, 0, none⟩) 1 uc) [z] ∧ (∀ y ∈ zs, Ap y z) ∧ (∀ g, va = some ⟨g, 0, none⟩ → gu ≠ g) ∧ Oown (fun k => Ft G w wr k ∨ wr.heap.size ≤ k) W6 (.slice va n vc) zs := by
  have hsz := hb5.size
  refine ⟨ho.mono fun k hk => .inr (by omega), fun y hy g hg hg2 => ?_, fun g hva e => ?_, (h.tight (below_add hb5 hb6 hb5.size)).mono fun k hk => .inl hk⟩
  · have h1 := own_lt7 (h.o.own y hy).r hg
    have h2 : W5.heap.size ≤ g := (ho.own z (by simp)).fr g hg2
    omega
  · subst hva e
    have h1 := own_lt7 h.o.row rfl
    have h2 : W5.heap.size ≤ gu := ho.f gu rfl
    have h3 : gu < wr.heap.size := h1
    omega
theorem insert_endN {F : Nat → Prop} (a : Option Addr) (n c : Nat) (zs : List Oz) (gu uc : Nat) (z : Oz) (w : World) (hn : zs.length = n) (h : Oown F w (.slice a n c) zs) (hu : Oown F w (.slice (some ⟨gu, 0, none⟩) 1 uc) [z]) (hap : ∀ y ∈ zs, Ap y z) (hl : n ≤ 100663296) :
    Calls Try.prog 53 #[.slice a n c, .int .i64 n, .slice (some ⟨gu, 0, none⟩) 1 uc] w (InsP F w (zs ++ [z])) := by
  subst hn
  exact insert_end a c zs gu uc z w h hu hap hl
theorem bm_kept {G : Nat → Prop} {bm n vc : Nat} {w wr w6 w7 : World} {R : List Opn} {va : Option Addr} {zs : List Oz} (h : TS G bm w R va n vc zs wr) (hG : ¬ G bm) (hbm : bm < w.heap.size) (hb : Below wr.heap.size wr w6) (ho : Off (fun k => Ft G w wr k ∨ wr.heap.size ≤ k) w6 w7) : w7.cell? ⟨bm, 0, none⟩ = some (.slice va n vc) ∧ w7.frozen? ⟨bm, 0, none⟩ = false := by
  have hsz := h.off.size
  have := (h.m.below hb).off ho (fun hh => by
    rcases hh with hh | hh
    · exact ft_bm hG hbm hh
    · omega)
  exact ⟨this.cell 0, this.frozen 0⟩

/-- The loop's state. -/
structure TL (G : Nat → Prop) (bm : Nat) (w : World) (R0 : List Opn) (L0 S0 : Nat) (xs : List Oz) (k : Nat) (va : Option Addr) (n vc : Nat) (zs : List Oz) (wr : World) : Prop where
  ts : TS G bm w (((xs.take k).map Oz.o).foldl (fun R p => rtell p R) R0) va n vc zs wr
  ri : RI (((xs.take k).map Oz.o).foldl (fun R p => rtell p R) R0) (L0 + k) (S0 + sumR ((xs.take k).map Oz.o))
theorem tl_next {G : Nat → Prop} {bm : Nat} {w : World} {R0 : List Opn} {L0 S0 : Nat} {xs : List Oz} {k : Nat} {R : List Opn} (hR : R = ((xs.take k).map Oz.o).foldl (fun R p => rtell p R) R0) (hk : k < xs.length) (hri : RI R (L0 + k) (S0 + sumR ((xs.take k).map Oz.o))) (hn : xs[k].n ≤ 9223372036854775807)
    {va : Option Addr} {n vc : Nat} {zs : List Oz} {wr : World} (h : TS G bm w (rtell xs[k].o R) va n vc zs wr) : TL G bm w R0 L0 S0 xs (k + 1) va n vc zs wr := by
  have e : ((xs.take (k + 1)).map Oz.o).foldl (fun R p => rtell p R) R0 = rtell xs[k].o R := by rw [tsnoc hk, List.map_append, List.foldl_append, hR]; rfl
  refine ⟨by rw [e]; exact h, ?_⟩
  rw [e]
  refine (ri_rtell hri hn).mono (by omega) ?_
  rw [tsnoc hk, List.map_append, sumR_app]
  simp [sumR, Oz.o]
  omega
theorem sumR_take (xs : List Oz) (k : Nat) (hk : k < xs.length) : sumR ((xs.take k).map Oz.o) + xs[k].rs.length ≤ sumR (xs.map Oz.o) := by
  have e : xs = xs.take k ++ xs[k] :: xs.drop (k + 1) := by rw [List.getElem_cons_drop, List.take_append_drop]
  have e2 : sumR (xs.map Oz.o) = sumR ((xs.take k).map Oz.o) + (xs[k].rs.length + sumR ((xs.drop (k + 1)).map Oz.o)) := by
    conv => lhs; rw [e]
    rw [List.map_append, sumR_app, List.map_cons, sumR_cons]; rfl
  omega

set_option maxHeartbeats 16000000 in
theorem tell_any (G : Nat → Prop) (bm : Nat) (u : Value) (R0 : List Opn) (L0 S0 : Nat) (va : Option Addr) (n vc : Nat) (zs xs : List Oz) (w : World) (hG : ¬ G bm) (hbm : bm < w.heap.size) (ht : TS G bm w R0 va n vc zs w) (hri : RI R0 L0 S0) (hx : Orow w u xs)
    (hav : ∀ a m c, u = .slice a m c → Na (fun k => k = bm ∨ G k) a m) (hnx : ∀ x ∈ xs, OpNa (fun k => k = bm ∨ G k) x) (hsm : ∀ x ∈ xs, Sm x) (hN : ∀ x ∈ xs, x.n ≤ 9223372036854775807) (hL : L0 + xs.length ≤ 100663296) (hS : S0 + sumR (xs.map Oz.o) ≤ 100663296) :
    Calls Try.prog 42 #[.pointer (some ⟨bm, 0, none⟩), u] w fun e w' => e = .returned (.tuple #[]) ∧ ∃ va n vc zs', TS G bm w ((xs.map Oz.o).foldl (fun R p => rtell p R) R0) va n vc zs' w' ∧ RI ((xs.map Oz.o).foldl (fun R p => rtell p R) R0) (L0 + xs.length) (S0 + sumR (xs.map Oz.o)) := by
  have hl := hx.len
  obtain ⟨a1, cap1, rfl⟩ := hx.shape
  have HX := Lib.hid (fun W (ho : Off (fun k => k = bm ∨ G k) w W) => hx.off ho (hav _ _ _ rfl) hnx)
  have HT0 := Lib.hid (show TL G bm w R0 L0 S0 xs 0 va n vc zs w from ⟨ht, hri.mono (Nat.le_refl _) (by omega)⟩)
  have HSM := Lib.hid hsm
  have HN := Lib.hid hN
  have HL := Lib.hid hL
  have HS := Lib.hid hS
  have HG := Lib.hid hG
  clear hx ht hav hnx hri hsm hN hL hS hG
  go_enter Try.func42, Try.ntmps42
  go_wp2
  go_step3
  go_wp2
  go_step3
  go_wp2
  go_loopw [11] (fun s11 wr => ∃ (k : Nat) (va : Option Addr) (n vc : Nat) (zs : List Oz), k ≤ xs.length ∧ s11 = .int .i64 k ∧ Hid (TL G bm w R0 L0 S0 xs k va n vc zs wr)) (fun s11 _ => xs.length - (intOf s11).toNat)
  case atStart => exact ⟨0, _, _, _, _, Nat.zero_le _, rfl, HT0⟩
  case round =>
    clear HT0
    obtain ⟨k, va, n, vc, zs, hk, rfl, HTL⟩ := hrel
    by_cases hlt : k < xs.length
    · have hxr := HX.out wr HTL.out.ts.off
      have hlt1 : 0 < xs.length := by omega
      obtain ⟨b1, o1, rfl, -, -, -, hbl, hat⟩ := hxr.row.ats hlt1
      have hoat := hat k hlt
      have hok := hxr.ok _ (List.getElem_mem hlt)
      have HSP := Lib.hid (HSM.out _ (List.getElem_mem hlt))
      have hnp := HN.out _ (List.getElem_mem hlt)
      have hst := sumR_take xs k hlt
      obtain ⟨R, hR⟩ : ∃ R, R = ((xs.take k).map Oz.o).foldl (fun R p => rtell p R) R0 := ⟨_, rfl⟩
      have hts := HTL.out.ts
      have hri := HTL.out.ri
      rw [← hR] at hts hri
      have HNX := Lib.hid (fun va n vc zs W (h : TS G bm w (rtell xs[k].o R) va n vc zs W) => tl_next hR hlt hri hnp h)
      have hs33 : (S0 + sumR ((xs.take k).map Oz.o)) + xs[k].rs.length ≤ 100663296 := by have := HS.out; omega
      have hl33 : zs.length ≤ 100663296 := by
        have h1 := hri.len
        have h2 := HL.out
        rw [← hts.r, List.length_reverse, List.length_map] at h1
        omega
      clear hat hxr hst hlt1 hR
      generalize (S0 + sumR ((xs.take k).map Oz.o)) = SS at *
      generalize xs[k] = p at *
      have HT := Lib.hid hts
      have HLG := Lib.hid (fun (l : Oz) (hl : l.o ∈ R) (ha : Alike l.o p.o) (hp : 1 ≤ lenN p.o) => lg_of hri hl ha hp hnp hs33)
      have HLT := Lib.hid hlt
      have HOK := Lib.hid (fun W (hb : Below wr.heap.size wr W) => hok.below hb)
      have HK := Lib.hid (CK.start0 wr p)
      have HW0 := Lib.hid (kbelow_one wr (.cells p.cs 51))
      have HLEN := Lib.hid (fun W => length_any _ p W rfl)
      have hwsz := hts.off.size
      have hbm2 : bm < wr.heap.size := Nat.lt_of_lt_of_le hbm hwsz
      have HBM0 := Lib.hid hbm
      have hts2 := hts.n
      clear hok hri hs33 HTL hts hwsz hbl HSM HN HL HS HX hnp
      obtain ⟨l, hlN⟩ : ∃ l, lenN p.o = l := ⟨_, rfl⟩
      rw [hlN] at HLEN
      have HLN := Lib.hid hlN
      clear hlN
      have HPK := Lib.hid (show p.o.k = p.k from rfl)
      obtain ⟨c0, c1, c2, c3, c4⟩ := hoat
      have HCP := Lib.hid (fun W (hb : Below wr.heap.size wr W) (v : Value) (hu : Orow W v [p]) => ocopy_any v [p] W hu (by simp) (fun z hz => by obtain rfl := List.mem_singleton.1 hz; exact HSP.out))
      have HAL := Lib.hid (fun (y : Oz) W (hy : OpOk W y) (hb : Below wr.heap.size wr W) b (h : decide (Alike y.o p.o) = b) => alike_any b y p W hy (HOK.out W hb) h)
      have cm0 := HT.out.cell (Below.refl _ _)
      by_cases hz : l < 1
      · have q0 : decide (l < 1) = true := decide_eq_true hz
        have HNR := Lib.hid (fun W (hb : Below wr.heap.size wr W) => HNX.out _ _ _ _ W (by rw [rtell_zero (by rw [HLN.out]; exact hz)]; exact HT.out.below hb))
        clear hz hts2
        go_wp2_with (go_at_call 50; refine (HLEN.out _).mono ?_; rintro e w1 ⟨rfl, hb⟩; have B1 := Lib.hid (below_add HW0.out hb HW0.out.size); clear hb)
        go_roundw
        case rel => exact ⟨k + 1, _, _, _, _, HLT.out, by go_num, HNR.out _ B1.out⟩
        case measure => have := HLT.out; simp [intOf]; omega
      have q0 : decide (l < 1) = false := decide_eq_false hz
      have HP := Lib.hid (show 1 ≤ lenN p.o by rw [HLN.out]; omega)
      clear hz
      by_cases hz0 : zs = []
      · subst hz0
        obtain rfl : n = 0 := by rw [← hts2]; rfl
        clear hts2
        by_cases hk2 : p.k = 2
        · have q1 : (p.k == 2) = true := by simpa using hk2
          clear hk2
          have cmz := HT.out.n
          have HBMK := Lib.hid (fun w6 w7 (hb : Below wr.heap.size wr w6) (ho : Off (fun k => Ft G w wr k ∨ wr.heap.size ≤ k) w6 w7) => (bm_kept HT.out HG.out HBM0.out hb ho))
          go_upto_region 8 with ((go_at_call 50; refine (HLEN.out _).mono ?_; rintro e w1 ⟨rfl, hb⟩; have B1 := Lib.hid (below_add HW0.out hb HW0.out.size); have K1 := Lib.hid (HK.out.below hb); have cm1 := HT.out.cell B1.out; obtain ⟨p0, p1, p2, p3, p4⟩ := K1.out.c; clear hb))
          refine region_classw (C := fun W => Below w1.heap.size w1 W) (by kernel_rfl) (by kernel_rfl) ((Below.refl _ _).drew) ?_
          repeat (first
            | (first
                 | refine w_skip (by rfl) (by rfl) ?_
                 | refine w_skipn (by rfl) (by rfl) ?_
               simp only [Act.put, List.setIfInBounds_toArray, List.set_cons_zero, List.set_cons_succ])
            | (first
                 | refine w_val (v := ?_) (by rfl) (fun w9 hS => ?_) ?_
                 | refine w_valg (v := ?_) (by rfl) (by rfl) (fun w9 hS => ?_) ?_
               rotate_left
               · skip
                 go_simp
                 try with_reducible rfl
               simp only [Act.put, List.setIfInBounds_toArray, List.set_cons_zero, List.set_cons_succ]))
          refine w_end ?_
          intro w3 hT
          have K3 := Lib.hid (K1.out.below hT)
          clear hT
          go_upto_region 10 with fail
          have cm3 := HT.out.cell K3.out.b
          obtain ⟨p0, p1, p2, p3, p4⟩ := K3.out.c
          have hbm3 : bm < w3.heap.size := Nat.lt_of_lt_of_le hbm2 K3.out.b.size
          have K5 := Lib.hid (K3.out.below (kbelow_one w3 (.cells p.cs 51)).drew)
          have HU5 := Lib.hid ((orow_one w3 p 51 (HOK.out _ K3.out.b)).below (Below.refl _ _).drew)
          go_region_law (first
            | (refine step_call (by rfl) (f := 46) (args := #[.slice (some ⟨w3.heap.size, 0, none⟩) 1 1]) (by go_simp) ?_; refine (HCP.out _ K5.out.b _ HU5.out).mono ?_; rintro e w6 ⟨u6, ys6, rfl, he6, ho6, hb6⟩; obtain ⟨z6, gu, uc, rfl, hz6, rfl⟩ := own_single ho6 he6; have cm6 := HT.out.cell (below_add K5.out.b hb6 K5.out.b.size); obtain ⟨p0, p1, p2, p3, p4⟩ := (K5.out.below hb6).c; have B6 := Lib.hid (below_add K5.out.b hb6 K5.out.b.size); have HAP := Lib.hid (copy_apart HT.out K5.out.b hb6 ho6); have HZ6 := Lib.hid hz6; clear hb6 ho6 hz6 he6; refine ⟨_, rfl, ?_⟩)
            | (refine step_call (by rfl) (f := 53) (args := #[.slice va 0 vc, .int .i64 (((0 : Nat)) : Int), .slice (some ⟨gu, 0, none⟩) 1 uc]) (by go_simp) ?_; refine (insert_end _ vc [] gu uc z6 w6 HAP.out.2.2.2 HAP.out.1 HAP.out.2.1 (by simp)).mono ?_; rintro e w7 ⟨v7, rfl, ho7, hoff7⟩; obtain ⟨va7, n7, vc7, hn7, rfl⟩ := own_sh ho7; obtain ⟨cm7, fm7⟩ := HBMK.out w6 w7 B6.out hoff7; refine ⟨_, rfl, ?_⟩))
          all_goals
            go_wp2
            go_roundw
            case rel => exact ⟨k + 1, _, _, _, _, HLT.out, by go_num, HNX.out _ _ _ _ _ (HT.out.laid HG.out HBM0.out B6.out ho7 hoff7 hn7 ((by rw [← HT.out.r]; exact way_nil HZ6.out HP.out)))⟩
            case measure => have := HLT.out; simp [intOf]; omega
        · have q1 : (p.k == 2) = false := by simpa using hk2
          clear hk2
          have cmz := HT.out.n
          have HBMK := Lib.hid (fun w6 w7 (hb : Below wr.heap.size wr w6) (ho : Off (fun k => Ft G w wr k ∨ wr.heap.size ≤ k) w6 w7) => (bm_kept HT.out HG.out HBM0.out hb ho))
          go_upto_region 8 with ((go_at_call 50; refine (HLEN.out _).mono ?_; rintro e w1 ⟨rfl, hb⟩; have B1 := Lib.hid (below_add HW0.out hb HW0.out.size); have K1 := Lib.hid (HK.out.below hb); have cm1 := HT.out.cell B1.out; obtain ⟨p0, p1, p2, p3, p4⟩ := K1.out.c; clear hb))
          refine region_classw (C := fun W => Below w1.heap.size w1 W) (by kernel_rfl) (by kernel_rfl) ((Below.refl _ _).drew) ?_
          repeat (first
            | (first
                 | refine w_skip (by rfl) (by rfl) ?_
                 | refine w_skipn (by rfl) (by rfl) ?_
               simp only [Act.put, List.setIfInBounds_toArray, List.set_cons_zero, List.set_cons_succ])
            | (first
                 | refine w_val (v := ?_) (by rfl) (fun w9 hS => ?_) ?_
                 | refine w_valg (v := ?_) (by rfl) (by rfl) (fun w9 hS => ?_) ?_
               rotate_left
               · skip
                 go_simp
                 try with_reducible rfl
               simp only [Act.put, List.setIfInBounds_toArray, List.set_cons_zero, List.set_cons_succ]))
          refine w_end ?_
          intro w3 hT
          have K3 := Lib.hid (K1.out.below hT)
          clear hT
          go_upto_region 10 with fail
          have cm3 := HT.out.cell K3.out.b
          obtain ⟨p0, p1, p2, p3, p4⟩ := K3.out.c
          have hbm3 : bm < w3.heap.size := Nat.lt_of_lt_of_le hbm2 K3.out.b.size
          have K5 := Lib.hid (K3.out.below (kbelow_one w3 (.cells p.cs 51)).drew)
          have HU5 := Lib.hid ((orow_one w3 p 51 (HOK.out _ K3.out.b)).below (Below.refl _ _).drew)
          go_region_law (first
            | (refine step_call (by rfl) (f := 46) (args := #[.slice (some ⟨w3.heap.size, 0, none⟩) 1 1]) (by go_simp) ?_; refine (HCP.out _ K5.out.b _ HU5.out).mono ?_; rintro e w6 ⟨u6, ys6, rfl, he6, ho6, hb6⟩; obtain ⟨z6, gu, uc, rfl, hz6, rfl⟩ := own_single ho6 he6; have cm6 := HT.out.cell (below_add K5.out.b hb6 K5.out.b.size); obtain ⟨p0, p1, p2, p3, p4⟩ := (K5.out.below hb6).c; have B6 := Lib.hid (below_add K5.out.b hb6 K5.out.b.size); have HAP := Lib.hid (copy_apart HT.out K5.out.b hb6 ho6); have HZ6 := Lib.hid hz6; clear hb6 ho6 hz6 he6; refine ⟨_, rfl, ?_⟩)
            | (refine step_call (by rfl) (f := 53) (args := #[.slice va 0 vc, .int .i64 (((0 : Nat)) : Int), .slice (some ⟨gu, 0, none⟩) 1 uc]) (by go_simp) ?_; refine (insert_end _ vc [] gu uc z6 w6 HAP.out.2.2.2 HAP.out.1 HAP.out.2.1 (by simp)).mono ?_; rintro e w7 ⟨v7, rfl, ho7, hoff7⟩; obtain ⟨va7, n7, vc7, hn7, rfl⟩ := own_sh ho7; obtain ⟨cm7, fm7⟩ := HBMK.out w6 w7 B6.out hoff7; refine ⟨_, rfl, ?_⟩))
          all_goals
            go_wp2
            go_roundw
            case rel => exact ⟨k + 1, _, _, _, _, HLT.out, by go_num, HNX.out _ _ _ _ _ (HT.out.laid HG.out HBM0.out B6.out ho7 hoff7 hn7 ((by rw [← HT.out.r]; exact way_nil HZ6.out HP.out)))⟩
            case measure => have := HLT.out; simp [intOf]; omega
      obtain ⟨zs0, d, rfl⟩ : ∃ zs0 d, zs = zs0 ++ [d] := ⟨zs.dropLast, zs.getLast hz0, (List.dropLast_concat_getLast hz0).symm⟩
      obtain ⟨m, hm⟩ : ∃ m, zs0.length = m := ⟨_, rfl⟩
      obtain rfl : n = m + 1 := by rw [← hts2, ← hm]; simp
      obtain ⟨g, rfl, hvc, hvm, hatd⟩ := HT.out.at (by simp)
      have HM := Lib.hid hm
      have HD := Lib.hid (fun W (hb : Below wr.heap.size wr W) => (show OAt g (m * 5) d W from by have := hatd W hb m (by simp [hm]); simpa [← hm] using this))
      have HDO := Lib.hid (fun W (hb : Below wr.heap.size wr W) => ((HT.out.o.own d (by simp)).below hb).ok)
      have hmx : m + 1 ≤ 100663296 := by rw [List.length_append, hm, List.length_singleton] at hl33; exact hl33
      have i1 : (m : Int) < (m : Int) + 1 := by omega
      have i0 : (0 : Int) ≤ (m : Int) := by omega
      have e2 : IntKind.i64.wrap ((m : Int)) = (m : Int) := by rw [IntKind.wrap_i64]; omega
      have e3 : (((m + 1 : Nat) : Int)) = (m : Int) + 1 := by omega
      have hdR : d.o ∈ R := by rw [← HT.out.r]; simp
      have HDR := Lib.hid hdR
      clear hz0 hts2 hm hdR hl33 hvm
      by_cases hk2 : p.k = 2
      rotate_left
      · have q1 : (p.k == 2) = false := by simpa using hk2
        have HC := Lib.hid (show ¬ (p.k = 2 ∧ d.k = 3) from fun h => hk2 h.1)
        clear hk2
        by_cases ha : Alike d.o p.o
        · have HA := Lib.hid (show decide (Alike d.o p.o) = true from decide_eq_true ha)
          have HAA := Lib.hid ha
          have HLGY := Lib.hid (HLG.out d HDR.out ha HP.out)
          have HLGY := Lib.hid (show Lg ((zs0 ++ [d])[m]'(by simp [HM.out])) p from by have e : ((zs0 ++ [d])[m]'(by simp [HM.out])) = d := (by simp [← HM.out]); rw [e]; exact HLGY.out)
          clear ha
          go_upto_region 8 with ((go_at_call 50; refine (HLEN.out _).mono ?_; rintro e w1 ⟨rfl, hb⟩; have B1 := Lib.hid (below_add HW0.out hb HW0.out.size); have K1 := Lib.hid (HK.out.below hb); have cm1 := HT.out.cell B1.out; obtain ⟨p0, p1, p2, p3, p4⟩ := K1.out.c; obtain ⟨d0, d1, d2, d3, d4⟩ := HD.out _ B1.out; clear hb))
          have y1 := HD.out _ B1.out
          obtain ⟨y10, y11, y12, y13, y14⟩ := y1
          go_region_held3 (fun w' => w'.cell? ⟨bm, 0, none⟩ = some (.slice (some ⟨g, 0, none⟩) (m + 1) vc) ∧ OAt g (m * 5) d w' ∧ OAt wr.heap.size 0 p w') (first | assumption | ((repeat' apply And.intro) <;> first | assumption | go_keep)) ((go_at_call 51; refine (HAL.out d _ (HDO.out _ B1.out.drew) B1.out.drew true HA.out).mono ?_; rintro e w3 ⟨rfl, hb⟩; have K3 := Lib.hid ((K1.out.below (Below.refl _ _).drew).below hb); have s1 := HT.out.cell K3.out.b; obtain ⟨s20, s21, s22, s23, s24⟩ := HD.out _ K3.out.b; obtain ⟨s30, s31, s32, s33, s34⟩ := K3.out.c; clear hb))
          go_upto_region 9 with fail
          have cm3 := HT.out.cell K3.out.b
          obtain ⟨p0, p1, p2, p3, p4⟩ := K3.out.c
          go_region_law ((refine step_call (by rfl) (f := 52) (args := #[.pointer (some ⟨g, m * 5, none⟩), p.v]) (by go_simp) ?_; refine (lengthen_any g (m + 1) vc (m) (zs0 ++ [d]) p _ (HT.out.tight (below_add K3.out.b (Below.refl _ _).drew K3.out.b.size)) (by simp [HM.out]) (HOK.out _ (below_add K3.out.b (Below.refl _ _).drew K3.out.b.size)) HLGY.out).mono ?_; rintro e w4 ⟨rfl, y4, hy4, ho4, hoff4⟩; refine ⟨_, rfl, ?_⟩))
          all_goals
            go_wp2
            go_roundw
            case rel => exact ⟨k + 1, _, _, _, _, HLT.out, by go_num, HNX.out _ _ _ _ _ (HT.out.longer HG.out HBM0.out (below_add K3.out.b (Below.refl _ _).drew K3.out.b.size) ho4 hoff4 (by simp [HM.out]) (by rw [← HT.out.r]; have e := HM.out; subst e; exact way_long (by simpa using hy4) HP.out HC.out HAA.out))⟩
            case measure => have := HLT.out; simp [intOf]; omega
        · have HA := Lib.hid (show decide (Alike d.o p.o) = false from decide_eq_false ha)
          have HAA := Lib.hid ha
          clear ha
          have HBMK := Lib.hid (fun w6 w7 (hb : Below wr.heap.size wr w6) (ho : Off (fun k => Ft G w wr k ∨ wr.heap.size ≤ k) w6 w7) => (bm_kept HT.out HG.out HBM0.out hb ho))
          go_upto_region 8 with ((go_at_call 50; refine (HLEN.out _).mono ?_; rintro e w1 ⟨rfl, hb⟩; have B1 := Lib.hid (below_add HW0.out hb HW0.out.size); have K1 := Lib.hid (HK.out.below hb); have cm1 := HT.out.cell B1.out; obtain ⟨p0, p1, p2, p3, p4⟩ := K1.out.c; obtain ⟨d0, d1, d2, d3, d4⟩ := HD.out _ B1.out; clear hb))
          have y1 := HD.out _ B1.out
          obtain ⟨y10, y11, y12, y13, y14⟩ := y1
          go_region_held3 (fun w' => w'.cell? ⟨bm, 0, none⟩ = some (.slice (some ⟨g, 0, none⟩) (m + 1) vc) ∧ OAt g (m * 5) d w' ∧ OAt wr.heap.size 0 p w') (first | assumption | ((repeat' apply And.intro) <;> first | assumption | go_keep)) ((go_at_call 51; refine (HAL.out d _ (HDO.out _ B1.out.drew) B1.out.drew false HA.out).mono ?_; rintro e w3 ⟨rfl, hb⟩; have K3 := Lib.hid ((K1.out.below (Below.refl _ _).drew).below hb); have s1 := HT.out.cell K3.out.b; obtain ⟨s20, s21, s22, s23, s24⟩ := HD.out _ K3.out.b; obtain ⟨s30, s31, s32, s33, s34⟩ := K3.out.c; clear hb))
          have HINS := Lib.hid (fun gu uc z6 w6 h hu hap => insert_endN (some ⟨g, 0, none⟩) (m + 1) vc (zs0 ++ [d]) gu uc z6 w6 (F := fun k => Ft G w wr k ∨ wr.heap.size ≤ k) (by simp [HM.out]) h hu hap (by omega))
          go_upto_region 10 with fail
          have cm3 := HT.out.cell K3.out.b
          obtain ⟨p0, p1, p2, p3, p4⟩ := K3.out.c
          have hbm3 : bm < w3.heap.size := Nat.lt_of_lt_of_le hbm2 K3.out.b.size
          have K5 := Lib.hid (K3.out.below (kbelow_one w3 (.cells p.cs 51)).drew)
          have HU5 := Lib.hid ((orow_one w3 p 51 (HOK.out _ K3.out.b)).below (Below.refl _ _).drew)
          go_region_law (first
            | (refine step_call (by rfl) (f := 46) (args := #[.slice (some ⟨w3.heap.size, 0, none⟩) 1 1]) (by go_simp) ?_; refine (HCP.out _ K5.out.b _ HU5.out).mono ?_; rintro e w6 ⟨u6, ys6, rfl, he6, ho6, hb6⟩; obtain ⟨z6, gu, uc, rfl, hz6, rfl⟩ := own_single ho6 he6; have cm6 := HT.out.cell (below_add K5.out.b hb6 K5.out.b.size); obtain ⟨p0, p1, p2, p3, p4⟩ := (K5.out.below hb6).c; have B6 := Lib.hid (below_add K5.out.b hb6 K5.out.b.size); have HAP := Lib.hid (copy_apart HT.out K5.out.b hb6 ho6); have HZ6 := Lib.hid hz6; clear hb6 ho6 hz6 he6; refine ⟨_, rfl, ?_⟩)
            | (refine step_call (by rfl) (f := 53) (args := #[.slice (some ⟨g, 0, none⟩) (m + 1) vc, .int .i64 (((m + 1 : Nat)) : Int), .slice (some ⟨gu, 0, none⟩) 1 uc]) (by go_simp) ?_; refine (HINS.out gu uc z6 w6 HAP.out.2.2.2 HAP.out.1 HAP.out.2.1).mono ?_; rintro e w7 ⟨v7, rfl, ho7, hoff7⟩; obtain ⟨va7, n7, vc7, hn7, rfl⟩ := own_sh ho7; obtain ⟨cm7, fm7⟩ := HBMK.out w6 w7 B6.out hoff7; refine ⟨_, rfl, ?_⟩))
          all_goals
            go_wp2
            go_roundw
            case rel => exact ⟨k + 1, _, _, _, _, HLT.out, by go_num, HNX.out _ _ _ _ _ (HT.out.laid HG.out HBM0.out B6.out ho7 hoff7 hn7 (by rw [← HT.out.r]; exact way_behind HZ6.out HP.out HC.out HAA.out))⟩
            case measure => have := HLT.out; simp [intOf]; omega
      have q1 : (p.k == 2) = true := by simpa using hk2
      by_cases hd3 : d.k = 3
      rotate_left
      · have q2 : (d.k == 3) = false := by simpa using hd3
        have HC := Lib.hid (show ¬ (p.k = 2 ∧ d.k = 3) from fun h => hd3 h.2)
        clear hk2 hd3
        by_cases ha : Alike d.o p.o
        · have HA := Lib.hid (show decide (Alike d.o p.o) = true from decide_eq_true ha)
          have HAA := Lib.hid ha
          have HLGY := Lib.hid (HLG.out d HDR.out ha HP.out)
          have HLGY := Lib.hid (show Lg ((zs0 ++ [d])[m]'(by simp [HM.out])) p from by have e : ((zs0 ++ [d])[m]'(by simp [HM.out])) = d := (by simp [← HM.out]); rw [e]; exact HLGY.out)
          clear ha
          go_upto_region 8 with ((go_at_call 50; refine (HLEN.out _).mono ?_; rintro e w1 ⟨rfl, hb⟩; have B1 := Lib.hid (below_add HW0.out hb HW0.out.size); have K1 := Lib.hid (HK.out.below hb); have cm1 := HT.out.cell B1.out; obtain ⟨p0, p1, p2, p3, p4⟩ := K1.out.c; obtain ⟨d0, d1, d2, d3, d4⟩ := HD.out _ B1.out; clear hb))
          have y1 := HD.out _ B1.out
          obtain ⟨y10, y11, y12, y13, y14⟩ := y1
          go_region_held3 (fun w' => w'.cell? ⟨bm, 0, none⟩ = some (.slice (some ⟨g, 0, none⟩) (m + 1) vc) ∧ OAt g (m * 5) d w' ∧ OAt wr.heap.size 0 p w') (first | assumption | ((repeat' apply And.intro) <;> first | assumption | go_keep)) ((go_at_call 51; refine (HAL.out d _ (HDO.out _ B1.out.drew) B1.out.drew true HA.out).mono ?_; rintro e w3 ⟨rfl, hb⟩; have K3 := Lib.hid ((K1.out.below (Below.refl _ _).drew).below hb); have s1 := HT.out.cell K3.out.b; obtain ⟨s20, s21, s22, s23, s24⟩ := HD.out _ K3.out.b; obtain ⟨s30, s31, s32, s33, s34⟩ := K3.out.c; clear hb))
          go_upto_region 9 with fail
          have cm3 := HT.out.cell K3.out.b
          obtain ⟨p0, p1, p2, p3, p4⟩ := K3.out.c
          go_region_law ((refine step_call (by rfl) (f := 52) (args := #[.pointer (some ⟨g, m * 5, none⟩), p.v]) (by go_simp) ?_; refine (lengthen_any g (m + 1) vc (m) (zs0 ++ [d]) p _ (HT.out.tight (below_add K3.out.b (Below.refl _ _).drew K3.out.b.size)) (by simp [HM.out]) (HOK.out _ (below_add K3.out.b (Below.refl _ _).drew K3.out.b.size)) HLGY.out).mono ?_; rintro e w4 ⟨rfl, y4, hy4, ho4, hoff4⟩; refine ⟨_, rfl, ?_⟩))
          all_goals
            go_wp2
            go_roundw
            case rel => exact ⟨k + 1, _, _, _, _, HLT.out, by go_num, HNX.out _ _ _ _ _ (HT.out.longer HG.out HBM0.out (below_add K3.out.b (Below.refl _ _).drew K3.out.b.size) ho4 hoff4 (by simp [HM.out]) (by rw [← HT.out.r]; have e := HM.out; subst e; exact way_long (by simpa using hy4) HP.out HC.out HAA.out))⟩
            case measure => have := HLT.out; simp [intOf]; omega
        · have HA := Lib.hid (show decide (Alike d.o p.o) = false from decide_eq_false ha)
          have HAA := Lib.hid ha
          clear ha
          have HBMK := Lib.hid (fun w6 w7 (hb : Below wr.heap.size wr w6) (ho : Off (fun k => Ft G w wr k ∨ wr.heap.size ≤ k) w6 w7) => (bm_kept HT.out HG.out HBM0.out hb ho))
          go_upto_region 8 with ((go_at_call 50; refine (HLEN.out _).mono ?_; rintro e w1 ⟨rfl, hb⟩; have B1 := Lib.hid (below_add HW0.out hb HW0.out.size); have K1 := Lib.hid (HK.out.below hb); have cm1 := HT.out.cell B1.out; obtain ⟨p0, p1, p2, p3, p4⟩ := K1.out.c; obtain ⟨d0, d1, d2, d3, d4⟩ := HD.out _ B1.out; clear hb))
          have y1 := HD.out _ B1.out
          obtain ⟨y10, y11, y12, y13, y14⟩ := y1
          go_region_held3 (fun w' => w'.cell? ⟨bm, 0, none⟩ = some (.slice (some ⟨g, 0, none⟩) (m + 1) vc) ∧ OAt g (m * 5) d w' ∧ OAt wr.heap.size 0 p w') (first | assumption | ((repeat' apply And.intro) <;> first | assumption | go_keep)) ((go_at_call 51; refine (HAL.out d _ (HDO.out _ B1.out.drew) B1.out.drew false HA.out).mono ?_; rintro e w3 ⟨rfl, hb⟩; have K3 := Lib.hid ((K1.out.below (Below.refl _ _).drew).below hb); have s1 := HT.out.cell K3.out.b; obtain ⟨s20, s21, s22, s23, s24⟩ := HD.out _ K3.out.b; obtain ⟨s30, s31, s32, s33, s34⟩ := K3.out.c; clear hb))
          have HINS := Lib.hid (fun gu uc z6 w6 h hu hap => insert_endN (some ⟨g, 0, none⟩) (m + 1) vc (zs0 ++ [d]) gu uc z6 w6 (F := fun k => Ft G w wr k ∨ wr.heap.size ≤ k) (by simp [HM.out]) h hu hap (by omega))
          go_upto_region 10 with fail
          have cm3 := HT.out.cell K3.out.b
          obtain ⟨p0, p1, p2, p3, p4⟩ := K3.out.c
          have hbm3 : bm < w3.heap.size := Nat.lt_of_lt_of_le hbm2 K3.out.b.size
          have K5 := Lib.hid (K3.out.below (kbelow_one w3 (.cells p.cs 51)).drew)
          have HU5 := Lib.hid ((orow_one w3 p 51 (HOK.out _ K3.out.b)).below (Below.refl _ _).drew)
          go_region_law (first
            | (refine step_call (by rfl) (f := 46) (args := #[.slice (some ⟨w3.heap.size, 0, none⟩) 1 1]) (by go_simp) ?_; refine (HCP.out _ K5.out.b _ HU5.out).mono ?_; rintro e w6 ⟨u6, ys6, rfl, he6, ho6, hb6⟩; obtain ⟨z6, gu, uc, rfl, hz6, rfl⟩ := own_single ho6 he6; have cm6 := HT.out.cell (below_add K5.out.b hb6 K5.out.b.size); obtain ⟨p0, p1, p2, p3, p4⟩ := (K5.out.below hb6).c; have B6 := Lib.hid (below_add K5.out.b hb6 K5.out.b.size); have HAP := Lib.hid (copy_apart HT.out K5.out.b hb6 ho6); have HZ6 := Lib.hid hz6; clear hb6 ho6 hz6 he6; refine ⟨_, rfl, ?_⟩)
            | (refine step_call (by rfl) (f := 53) (args := #[.slice (some ⟨g, 0, none⟩) (m + 1) vc, .int .i64 (((m + 1 : Nat)) : Int), .slice (some ⟨gu, 0, none⟩) 1 uc]) (by go_simp) ?_; refine (HINS.out gu uc z6 w6 HAP.out.2.2.2 HAP.out.1 HAP.out.2.1).mono ?_; rintro e w7 ⟨v7, rfl, ho7, hoff7⟩; obtain ⟨va7, n7, vc7, hn7, rfl⟩ := own_sh ho7; obtain ⟨cm7, fm7⟩ := HBMK.out w6 w7 B6.out hoff7; refine ⟨_, rfl, ?_⟩))
          all_goals
            go_wp2
            go_roundw
            case rel => exact ⟨k + 1, _, _, _, _, HLT.out, by go_num, HNX.out _ _ _ _ _ (HT.out.laid HG.out HBM0.out B6.out ho7 hoff7 hn7 (by rw [← HT.out.r]; exact way_behind HZ6.out HP.out HC.out HAA.out))⟩
            case measure => have := HLT.out; simp [intOf]; omega
      have q2 : (d.k == 3) = true := by simpa using hd3
      have HK2 := Lib.hid hk2
      have HD3 := Lib.hid hd3
      clear hk2 hd3
      by_cases hz0 : zs0 = []
      · subst hz0
        obtain rfl : m = 0 := HM.out.symm
        have HBMK := Lib.hid (fun w6 w7 (hb : Below wr.heap.size wr w6) (ho : Off (fun k => Ft G w wr k ∨ wr.heap.size ≤ k) w6 w7) => (bm_kept HT.out HG.out HBM0.out hb ho))
        go_upto_region 8 with ((go_at_call 50; refine (HLEN.out _).mono ?_; rintro e w1 ⟨rfl, hb⟩; have B1 := Lib.hid (below_add HW0.out hb HW0.out.size); have K1 := Lib.hid (HK.out.below hb); have cm1 := HT.out.cell B1.out; obtain ⟨p0, p1, p2, p3, p4⟩ := K1.out.c; obtain ⟨d0, d1, d2, d3, d4⟩ := HD.out _ B1.out; clear hb))
        refine region_classw (C := fun W => Below w1.heap.size w1 W) (by kernel_rfl) (by kernel_rfl) ((Below.refl _ _).drew) ?_
        repeat (first
          | (first
               | refine w_skip (by rfl) (by rfl) ?_
               | refine w_skipn (by rfl) (by rfl) ?_
             simp only [Act.put, List.setIfInBounds_toArray, List.set_cons_zero, List.set_cons_succ])
          | (first
               | refine w_val (v := ?_) (by rfl) (fun w9 hS => ?_) ?_
               | refine w_valg (v := ?_) (by rfl) (by rfl) (fun w9 hS => ?_) ?_
             rotate_left
             · skip
               go_simp
               try with_reducible rfl
             simp only [Act.put, List.setIfInBounds_toArray, List.set_cons_zero, List.set_cons_succ]))
        refine w_end ?_
        intro w3 hT
        have K3 := Lib.hid (K1.out.below hT)
        clear hT
        go_upto_region 10 with fail
        have cm3 := HT.out.cell K3.out.b
        obtain ⟨p0, p1, p2, p3, p4⟩ := K3.out.c
        have hbm3 : bm < w3.heap.size := Nat.lt_of_lt_of_le hbm2 K3.out.b.size
        have K5 := Lib.hid (K3.out.below (kbelow_one w3 (.cells p.cs 51)).drew)
        have HU5 := Lib.hid ((orow_one w3 p 51 (HOK.out _ K3.out.b)).below (Below.refl _ _).drew)
        go_region_law (first
          | (refine step_call (by rfl) (f := 46) (args := #[.slice (some ⟨w3.heap.size, 0, none⟩) 1 1]) (by go_simp) ?_; refine (HCP.out _ K5.out.b _ HU5.out).mono ?_; rintro e w6 ⟨u6, ys6, rfl, he6, ho6, hb6⟩; obtain ⟨z6, gu, uc, rfl, hz6, rfl⟩ := own_single ho6 he6; have cm6 := HT.out.cell (below_add K5.out.b hb6 K5.out.b.size); obtain ⟨p0, p1, p2, p3, p4⟩ := (K5.out.below hb6).c; have B6 := Lib.hid (below_add K5.out.b hb6 K5.out.b.size); have HAP := Lib.hid (copy_apart HT.out K5.out.b hb6 ho6); have HZ6 := Lib.hid hz6; clear hb6 ho6 hz6 he6; refine ⟨_, rfl, ?_⟩)
          | (refine step_call (by rfl) (f := 53) (args := #[.slice (some ⟨g, 0, none⟩) (0 + 1) vc, .int .i64 (((0 : Nat)) : Int), .slice (some ⟨gu, 0, none⟩) 1 uc]) (by go_simp) ?_; refine (insert_mid _ 0 vc [] d gu uc z6 w6 HAP.out.2.2.2 rfl HAP.out.1 HAP.out.2.1 HAP.out.2.2.1 (by omega)).mono ?_; rintro e w7 ⟨v7, rfl, ho7, hoff7⟩; obtain ⟨va7, n7, vc7, hn7, rfl⟩ := own_sh ho7; obtain ⟨cm7, fm7⟩ := HBMK.out w6 w7 B6.out hoff7; refine ⟨_, rfl, ?_⟩))
        all_goals
          go_wp2
          go_roundw
          case rel => exact ⟨k + 1, _, _, _, _, HLT.out, by go_num, HNX.out _ _ _ _ _ (HT.out.laid HG.out HBM0.out B6.out ho7 hoff7 hn7 (by rw [← HT.out.r]; exact way_ahead1 HZ6.out HP.out HK2.out HD3.out))⟩
          case measure => have := HLT.out; simp [intOf]; omega
      obtain ⟨zs1, l2, rfl⟩ : ∃ zs1 l2, zs0 = zs1 ++ [l2] := ⟨zs0.dropLast, zs0.getLast hz0, (List.dropLast_concat_getLast hz0).symm⟩
      obtain ⟨q, hq⟩ : ∃ q, zs1.length = q := ⟨_, rfl⟩
      obtain rfl : m = q + 1 := by rw [← HM.out, ← hq]; simp
      have HM := Lib.hid hq
      have hlR : l2.o ∈ R := by rw [← HT.out.r]; simp
      have HL2 := Lib.hid (fun W (hb : Below wr.heap.size wr W) => (show OAt g (q * 5) l2 W from by have := hatd W hb q (by simp [hq]); simpa [← hq] using this))
      have HLO := Lib.hid (fun W (hb : Below wr.heap.size wr W) => ((HT.out.o.own l2 (by simp)).below hb).ok)
      have e4 : IntKind.i64.wrap ((q : Int) + 1) = (q : Int) + 1 := by rw [IntKind.wrap_i64]; omega
      have e5 : IntKind.i64.wrap (q : Int) = (q : Int) := by rw [IntKind.wrap_i64]; omega
      have e6 : (((q + 1 : Nat) : Int)) = (q : Int) + 1 := by omega
      have e7 : (((q + 1 + 1 : Nat) : Int)) = (q : Int) + 1 + 1 := by omega
      have b1 : (0 : Int) < (q : Int) + 1 := by omega
      have i2 : (q : Int) < (q : Int) + 1 + 1 := by omega
      have i3 : (0 : Int) ≤ (q : Int) := by omega
      have i4 : (q : Int) + 1 < (q : Int) + 1 + 1 := by omega
      have i5 : (0 : Int) ≤ (q : Int) + 1 := by omega
      have b2 : (0 : Int) < (q : Int) + 1 + 1 := by omega
      clear hz0 hq
      by_cases ha : Alike l2.o p.o
      · have HA := Lib.hid (show decide (Alike l2.o p.o) = true from decide_eq_true ha)
        have HAA := Lib.hid ha
        have HLGY := Lib.hid (HLG.out l2 hlR ha HP.out)
        have HLGY := Lib.hid (show Lg (((zs1 ++ [l2]) ++ [d])[q]'(by simp [HM.out])) p from by have e : (((zs1 ++ [l2]) ++ [d])[q]'(by simp [HM.out])) = l2 := (by simp [← HM.out]); rw [e]; exact HLGY.out)
        clear ha hlR
        go_upto_region 8 with ((go_at_call 50; refine (HLEN.out _).mono ?_; rintro e w1 ⟨rfl, hb⟩; have B1 := Lib.hid (below_add HW0.out hb HW0.out.size); have K1 := Lib.hid (HK.out.below hb); have cm1 := HT.out.cell B1.out; obtain ⟨p0, p1, p2, p3, p4⟩ := K1.out.c; obtain ⟨d0, d1, d2, d3, d4⟩ := HD.out _ B1.out; clear hb))
        have y1 := HL2.out _ B1.out
        obtain ⟨y10, y11, y12, y13, y14⟩ := y1
        go_region_held3 (fun w' => w'.cell? ⟨bm, 0, none⟩ = some (.slice (some ⟨g, 0, none⟩) (q + 1 + 1) vc) ∧ OAt g (q * 5) l2 w' ∧ OAt wr.heap.size 0 p w') (first | assumption | ((repeat' apply And.intro) <;> first | assumption | go_keep)) ((go_at_call 51; refine (HAL.out l2 _ (HLO.out _ B1.out.drew) B1.out.drew true HA.out).mono ?_; rintro e w3 ⟨rfl, hb⟩; have K3 := Lib.hid ((K1.out.below (Below.refl _ _).drew).below hb); have s1 := HT.out.cell K3.out.b; obtain ⟨s20, s21, s22, s23, s24⟩ := HL2.out _ K3.out.b; obtain ⟨s30, s31, s32, s33, s34⟩ := K3.out.c; clear hb))
        go_upto_region 9 with fail
        have cm3 := HT.out.cell K3.out.b
        obtain ⟨p0, p1, p2, p3, p4⟩ := K3.out.c
        go_region_law ((refine step_call (by rfl) (f := 52) (args := #[.pointer (some ⟨g, q * 5, none⟩), p.v]) (by go_simp) ?_; refine (lengthen_any g (q + 1 + 1) vc (q) ((zs1 ++ [l2]) ++ [d]) p _ (HT.out.tight (below_add K3.out.b (Below.refl _ _).drew K3.out.b.size)) (by simp [HM.out]) (HOK.out _ (below_add K3.out.b (Below.refl _ _).drew K3.out.b.size)) HLGY.out).mono ?_; rintro e w4 ⟨rfl, y4, hy4, ho4, hoff4⟩; refine ⟨_, rfl, ?_⟩))
        all_goals
          go_wp2
          go_roundw
          case rel => exact ⟨k + 1, _, _, _, _, HLT.out, by go_num, HNX.out _ _ _ _ _ (HT.out.longer HG.out HBM0.out (below_add K3.out.b (Below.refl _ _).drew K3.out.b.size) ho4 hoff4 (by simp [HM.out]) (by rw [← HT.out.r]; have e := HM.out; subst e; exact way_aheadL (by simpa using hy4) HP.out HK2.out HD3.out HAA.out))⟩
          case measure => have := HLT.out; simp [intOf]; omega
      · have HA := Lib.hid (show decide (Alike l2.o p.o) = false from decide_eq_false ha)
        have HAA := Lib.hid ha
        clear ha hlR
        have HBMK := Lib.hid (fun w6 w7 (hb : Below wr.heap.size wr w6) (ho : Off (fun k => Ft G w wr k ∨ wr.heap.size ≤ k) w6 w7) => (bm_kept HT.out HG.out HBM0.out hb ho))
        go_upto_region 8 with ((go_at_call 50; refine (HLEN.out _).mono ?_; rintro e w1 ⟨rfl, hb⟩; have B1 := Lib.hid (below_add HW0.out hb HW0.out.size); have K1 := Lib.hid (HK.out.below hb); have cm1 := HT.out.cell B1.out; obtain ⟨p0, p1, p2, p3, p4⟩ := K1.out.c; obtain ⟨d0, d1, d2, d3, d4⟩ := HD.out _ B1.out; clear hb))
        have y1 := HL2.out _ B1.out
        obtain ⟨y10, y11, y12, y13, y14⟩ := y1
        go_region_held3 (fun w' => w'.cell? ⟨bm, 0, none⟩ = some (.slice (some ⟨g, 0, none⟩) (q + 1 + 1) vc) ∧ OAt g (q * 5) l2 w' ∧ OAt wr.heap.size 0 p w') (first | assumption | ((repeat' apply And.intro) <;> first | assumption | go_keep)) ((go_at_call 51; refine (HAL.out l2 _ (HLO.out _ B1.out.drew) B1.out.drew false HA.out).mono ?_; rintro e w3 ⟨rfl, hb⟩; have K3 := Lib.hid ((K1.out.below (Below.refl _ _).drew).below hb); have s1 := HT.out.cell K3.out.b; obtain ⟨s20, s21, s22, s23, s24⟩ := HL2.out _ K3.out.b; obtain ⟨s30, s31, s32, s33, s34⟩ := K3.out.c; clear hb))
        go_upto_region 10 with fail
        have cm3 := HT.out.cell K3.out.b
        obtain ⟨p0, p1, p2, p3, p4⟩ := K3.out.c
        have hbm3 : bm < w3.heap.size := Nat.lt_of_lt_of_le hbm2 K3.out.b.size
        have K5 := Lib.hid (K3.out.below (kbelow_one w3 (.cells p.cs 51)).drew)
        have HU5 := Lib.hid ((orow_one w3 p 51 (HOK.out _ K3.out.b)).below (Below.refl _ _).drew)
        go_region_law (first
          | (refine step_call (by rfl) (f := 46) (args := #[.slice (some ⟨w3.heap.size, 0, none⟩) 1 1]) (by go_simp) ?_; refine (HCP.out _ K5.out.b _ HU5.out).mono ?_; rintro e w6 ⟨u6, ys6, rfl, he6, ho6, hb6⟩; obtain ⟨z6, gu, uc, rfl, hz6, rfl⟩ := own_single ho6 he6; have cm6 := HT.out.cell (below_add K5.out.b hb6 K5.out.b.size); obtain ⟨p0, p1, p2, p3, p4⟩ := (K5.out.below hb6).c; have B6 := Lib.hid (below_add K5.out.b hb6 K5.out.b.size); have HAP := Lib.hid (copy_apart HT.out K5.out.b hb6 ho6); have HZ6 := Lib.hid hz6; clear hb6 ho6 hz6 he6; refine ⟨_, rfl, ?_⟩)
          | (refine step_call (by rfl) (f := 53) (args := #[.slice (some ⟨g, 0, none⟩) (q + 1 + 1) vc, .int .i64 (((q + 1 : Nat)) : Int), .slice (some ⟨gu, 0, none⟩) 1 uc]) (by go_simp) ?_; refine (insert_mid _ (q + 1) vc (zs1 ++ [l2]) d gu uc z6 w6 HAP.out.2.2.2 (by simp [HM.out]) HAP.out.1 HAP.out.2.1 HAP.out.2.2.1 (by omega)).mono ?_; rintro e w7 ⟨v7, rfl, ho7, hoff7⟩; obtain ⟨va7, n7, vc7, hn7, rfl⟩ := own_sh ho7; obtain ⟨cm7, fm7⟩ := HBMK.out w6 w7 B6.out hoff7; refine ⟨_, rfl, ?_⟩))
        all_goals
          go_wp2
          go_roundw
          case rel => exact ⟨k + 1, _, _, _, _, HLT.out, by go_num, HNX.out _ _ _ _ _ (HT.out.laid HG.out HBM0.out B6.out ho7 hoff7 hn7 (by rw [← HT.out.r]; exact way_ahead HZ6.out HP.out HK2.out HD3.out HAA.out))⟩
          case measure => have := HLT.out; simp [intOf]; omega
    · obtain rfl : k = xs.length := by omega
      have h1 := HTL.out.ts
      have h2 := HTL.out.ri
      rw [List.take_length] at h1 h2
      have HE := Lib.hid (And.intro h1 h2)
      clear h1 h2 HTL
      go_wp2
      try rw [Exit.noGoto_normal]
      go_end0
      exact ⟨rfl, _, _, _, _, HE.out.1, HE.out.2⟩
end Go.Proofs.Ytmbjjaflgdfihaa
