
import Derived.Test.YtkejebjppnhidaaC1
import Derived.WalkMore
import Derived.Deep.RegionHeld3
/- C2: two rows side by side, as plain data -/
namespace Go.Proofs.Ytkejebjppnhidaa
open Go.RowKit
set_option linter.unusedVariables false

/-- Of each key that one of two rows has, what each has of it. -/
def sbsIn (x : Chg) (f : List Chg → List (Option Chg × Option Chg)) : List Chg → List (Option Chg × Option Chg)
  | [] => (some x, none) :: f []
  | y :: r => if x.key < y.key then (some x, none) :: f (y :: r) else if y.key < x.key then (none, some y) :: sbsIn x f r else (some x, some y) :: f r
def sbs : List Chg → List Chg → List (Option Chg × Option Chg)
  | [], r => r.map fun y => (none, some y)
  | x :: l, r => sbsIn x (fun s => sbs l s) r
theorem sbs_nn : sbs [] [] = [] := rfl
theorem sbs_cn (x : Chg) (l : List Chg) : sbs (x :: l) [] = (some x, none) :: sbs l [] := rfl
theorem sbs_nc (y : Chg) (r : List Chg) : sbs [] (y :: r) = (none, some y) :: sbs [] r := rfl
theorem sbs_lt {x y : Chg} {l r : List Chg} (h : x.key < y.key) : sbs (x :: l) (y :: r) = (some x, none) :: sbs l (y :: r) := by
  show sbsIn x (fun s => sbs l s) (y :: r) = _
  rw [sbsIn, if_pos h]
theorem sbs_gt {x y : Chg} {l r : List Chg} (h : y.key < x.key) : sbs (x :: l) (y :: r) = (none, some y) :: sbs (x :: l) r := by
  show sbsIn x (fun s => sbs l s) (y :: r) = _
  rw [sbsIn, if_neg (by omega), if_pos h]
  rfl
theorem sbs_eq {x y : Chg} {l r : List Chg} (h1 : ¬ x.key < y.key) (h2 : ¬ y.key < x.key) : sbs (x :: l) (y :: r) = (some x, some y) :: sbs l r := by
  show sbsIn x (fun s => sbs l s) (y :: r) = _
  rw [sbsIn, if_neg h1, if_neg h2]

/-- A pointer to a change, or to none. -/
def Ptr (W : World) (p : Value) : Option Chg → Prop
  | none => p = .pointer none
  | some x => ∃ b o, p = .pointer (some ⟨b, o, none⟩) ∧ CAt b o x W
theorem ptr_none (W : World) : Ptr W (.pointer none) none := rfl
theorem ptr_some {W : World} {b o : Nat} {x : Chg} (h : CAt b o x W) : Ptr W (.pointer (some ⟨b, o, none⟩)) (some x) := ⟨b, o, rfl, h⟩

@[reducible] def Told : Type := List (Option Chg × Option Chg)
/-- One of both, at least. -/
def One : Option Chg → Option Chg → Prop
  | none, none => False
  | _, _ => True
/-- What is asked of the function that is told each key. -/
structure Pays (g : Nat) (caps : Array Value) (I : Told → World → Prop) (v1 v2 : Value) (xs ys : List Chg) : Prop where
  enters : ∀ args w, (callFunc g args).run Try.prog w = .ok (.enter g args) w
  row1 : ∀ T W, I T W → Crow W v1 xs
  row2 : ∀ T W, I T W → Crow W v2 ys
  drew : ∀ T W n, I T W → I T (W.drewN n)
  pay : ∀ T x y p q W, I T W → One x y → T.length < xs.length + ys.length → Ptr W p x → Ptr W q y → Calls Try.prog g (#[p, q] ++ caps) W fun e W' => e = .returned (.tuple #[]) ∧ I (T ++ [(x, y)]) W'

/-- The loop's state. -/
structure SRel (I : Told → World → Prop) (v1 v2 : Value) (xs ys : List Chg) (a1 : Option Addr) (n1 c1 : Nat) (a2 : Option Addr) (n2 c2 : Nat) (l r : List Chg) (T : Told) (wr : World) : Prop where
  t1 : ∀ W, Crow W v1 xs → Crow W (.slice a1 n1 c1) l
  t2 : ∀ W, Crow W v2 ys → Crow W (.slice a2 n2 c2) r
  m1 : n1 = l.length
  m2 : n2 = r.length
  inv : I T wr
  eq : T ++ sbs l r = sbs xs ys
  len : T.length + (l.length + r.length) ≤ xs.length + ys.length

theorem crow_next {x : Chg} {l : List Chg} {a : Option Addr} {n c : Nat} {W : World} (h : Crow W (.slice a (n + 1) c) (x :: l)) :
    (c = 1 → Crow W (.slice a n 0) l) ∧ (¬ c = 1 → Crow W (.slice (a.map fun y => y.add 6) n (c - 1)) l) := by
  have hn : n = l.length := by
    obtain ⟨_, _, e⟩ := h.shape
    injection e with _ e _
    simpa using e
  subst hn
  have := Row.tail (lo := 1) h (by simp)
  simpa [chC_m] using this
theorem crow_len {W : World} {a : Option Addr} {n c : Nat} {l : List Chg} (h : Crow W (.slice a n c) l) : n = l.length := by
  obtain ⟨_, _, e⟩ := h.shape
  injection e
theorem SRel.left {I : Told → World → Prop} {v1 v2 : Value} {xs ys : List Chg} {b o n c : Nat} {a2 : Option Addr} {n2 c2 : Nat} {x : Chg} {l r : List Chg} {T : Told} {wr w' : World}
    (h : SRel I v1 v2 xs ys (some ⟨b, o, none⟩) (n + 1) c a2 n2 c2 (x :: l) r T wr) (hs : sbs (x :: l) r = (some x, none) :: sbs l r) (hI : I (T ++ [(some x, none)]) w') :
    (c = 1 → SRel I v1 v2 xs ys (some ⟨b, o, none⟩) n 0 a2 n2 c2 l r (T ++ [(some x, none)]) w') ∧ (¬ c = 1 → SRel I v1 v2 xs ys (some ⟨b, o + 6, none⟩) n (c - 1) a2 n2 c2 l r (T ++ [(some x, none)]) w') := by
  have hn : n = l.length := by have := h.m1; simpa using this
  have he : T ++ [(some x, none)] ++ sbs l r = sbs xs ys := by rw [← h.eq, hs]; simp
  have hl : (T ++ [(some x, (none : Option Chg))]).length + (l.length + r.length) ≤ xs.length + ys.length := by have := h.len; simp at this ⊢; omega
  exact ⟨fun hc => ⟨fun W hW => (crow_next (h.t1 W hW)).1 hc, h.t2, hn, h.m2, hI, he, hl⟩, fun hc => ⟨fun W hW => (crow_next (h.t1 W hW)).2 hc, h.t2, hn, h.m2, hI, he, hl⟩⟩
theorem SRel.right {I : Told → World → Prop} {v1 v2 : Value} {xs ys : List Chg} {b o n c : Nat} {a1 : Option Addr} {n1 c1 : Nat} {y : Chg} {l r : List Chg} {T : Told} {wr w' : World}
    (h : SRel I v1 v2 xs ys a1 n1 c1 (some ⟨b, o, none⟩) (n + 1) c l (y :: r) T wr) (hs : sbs l (y :: r) = (none, some y) :: sbs l r) (hI : I (T ++ [(none, some y)]) w') :
    (c = 1 → SRel I v1 v2 xs ys a1 n1 c1 (some ⟨b, o, none⟩) n 0 l r (T ++ [(none, some y)]) w') ∧ (¬ c = 1 → SRel I v1 v2 xs ys a1 n1 c1 (some ⟨b, o + 6, none⟩) n (c - 1) l r (T ++ [(none, some y)]) w') := by
  have hn : n = r.length := by have := h.m2; simpa using this
  have he : T ++ [(none, some y)] ++ sbs l r = sbs xs ys := by rw [← h.eq, hs]; simp
  have hl : (T ++ [((none : Option Chg), some y)]).length + (l.length + r.length) ≤ xs.length + ys.length := by have := h.len; simp at this ⊢; omega
  exact ⟨fun hc => ⟨h.t1, fun W hW => (crow_next (h.t2 W hW)).1 hc, h.m1, hn, hI, he, hl⟩, fun hc => ⟨h.t1, fun W hW => (crow_next (h.t2 W hW)).2 hc, h.m1, hn, hI, he, hl⟩⟩
theorem SRel.both {I : Told → World → Prop} {v1 v2 : Value} {xs ys : List Chg} {b o n c b2 o2 n2 c2 : Nat} {x y : Chg} {l r : List Chg} {T : Told} {wr w' : World}
    (h : SRel I v1 v2 xs ys (some ⟨b, o, none⟩) (n + 1) c (some ⟨b2, o2, none⟩) (n2 + 1) c2 (x :: l) (y :: r) T wr) (hs : sbs (x :: l) (y :: r) = (some x, some y) :: sbs l r) (hI : I (T ++ [(some x, some y)]) w') :
    (c = 1 → c2 = 1 → SRel I v1 v2 xs ys (some ⟨b, o, none⟩) n 0 (some ⟨b2, o2, none⟩) n2 0 l r (T ++ [(some x, some y)]) w') ∧ (c = 1 → ¬ c2 = 1 → SRel I v1 v2 xs ys (some ⟨b, o, none⟩) n 0 (some ⟨b2, o2 + 6, none⟩) n2 (c2 - 1) l r (T ++ [(some x, some y)]) w') ∧
    (¬ c = 1 → c2 = 1 → SRel I v1 v2 xs ys (some ⟨b, o + 6, none⟩) n (c - 1) (some ⟨b2, o2, none⟩) n2 0 l r (T ++ [(some x, some y)]) w') ∧ (¬ c = 1 → ¬ c2 = 1 → SRel I v1 v2 xs ys (some ⟨b, o + 6, none⟩) n (c - 1) (some ⟨b2, o2 + 6, none⟩) n2 (c2 - 1) l r (T ++ [(some x, some y)]) w') := by
  have hn : n = l.length := by have := h.m1; simpa using this
  have hn2 : n2 = r.length := by have := h.m2; simpa using this
  have he : T ++ [(some x, some y)] ++ sbs l r = sbs xs ys := by rw [← h.eq, hs]; simp
  have hl : (T ++ [(some x, some y)]).length + (l.length + r.length) ≤ xs.length + ys.length := by have := h.len; simp at this ⊢; omega
  exact ⟨fun hc hd => ⟨fun W hW => (crow_next (h.t1 W hW)).1 hc, fun W hW => (crow_next (h.t2 W hW)).1 hd, hn, hn2, hI, he, hl⟩, fun hc hd => ⟨fun W hW => (crow_next (h.t1 W hW)).1 hc, fun W hW => (crow_next (h.t2 W hW)).2 hd, hn, hn2, hI, he, hl⟩,
    fun hc hd => ⟨fun W hW => (crow_next (h.t1 W hW)).2 hc, fun W hW => (crow_next (h.t2 W hW)).1 hd, hn, hn2, hI, he, hl⟩, fun hc hd => ⟨fun W hW => (crow_next (h.t1 W hW)).2 hc, fun W hW => (crow_next (h.t2 W hW)).2 hd, hn, hn2, hI, he, hl⟩⟩
/-- What a round has at hand of a row that is not at its end. -/
theorem head_at {W : World} {a : Option Addr} {n c : Nat} {x : Chg} {l : List Chg} (h : Crow W (.slice a n c) (x :: l)) : ∃ b o m, a = some ⟨b, o, none⟩ ∧ n = m + 1 ∧ m + 1 ≤ c ∧ c ≤ maxLen ∧ CAt b o x W := by
  obtain ⟨b, o, rfl, hn, hc, hm, -, hat⟩ := Crow.opn h (by simp)
  refine ⟨b, o, l.length, rfl, by simpa using hn, by simpa using hc, hm, ?_⟩
  have := hat 0 (by simp)
  simpa only [Nat.zero_mul, Nat.add_zero, List.getElem_cons_zero] using this
def slLen : Value → Nat
  | .slice _ n _ => n
  | _ => 0

set_option maxRecDepth 100000 in
set_option maxHeartbeats 2000000 in
theorem side_any (g : Nat) (caps : Array Value) (v1 v2 : Value) (xs ys : List Chg) (I : Told → World → Prop) (hp : Pays g caps I v1 v2 xs ys) (w : World) (hI : I [] w) :
    Calls Try.prog 43 #[v1, v2, .func (.func g) #[] caps] w fun e w' => e = .returned (.tuple #[]) ∧ I (sbs xs ys) w' := by
  have eg := hp.enters
  have HP := Lib.hid hp
  obtain ⟨a1, c1, e1⟩ := (hp.row1 _ _ hI).shape
  obtain ⟨a2, c2, e2⟩ := (hp.row2 _ _ hI).shape
  have hini : SRel I v1 v2 xs ys a1 xs.length c1 a2 ys.length c2 xs ys [] w := ⟨fun W h => by rw [← e1]; exact h, fun W h => by rw [← e2]; exact h, rfl, rfl, hI, rfl, by simp⟩
  generalize hn1 : xs.length = N1 at hini e1
  generalize hn2 : ys.length = N2 at hini e2
  have HI := Lib.hid hini
  have hgo : ∀ (w : World) (a1 : Option Addr) (N1 c1 : Nat) (a2 : Option Addr) (N2 c2 : Nat), Hid (SRel I v1 v2 xs ys a1 N1 c1 a2 N2 c2 xs ys [] w) → Calls Try.prog 43 #[.slice a1 N1 c1, .slice a2 N2 c2, .func (.func g) #[] caps] w fun e w' => e = .returned (.tuple #[]) ∧ I (sbs xs ys) w' := by
    clear hini hI e1 e2 HI hn1 hn2
    clear hp
    intro w a1 N1 c1 a2 N2 c2 HI
    go_enter Try.func43, Try.ntmps43
    go_wp2
    go_step3
    go_wp2
    go_step3
    go_wp2
    go_loopw [0, 1] (fun s0 s1 wr => ∃ a1 n1 c1 a2 n2 c2 l r T, s0 = .slice a1 n1 c1 ∧ s1 = .slice a2 n2 c2 ∧ Hid (SRel I v1 v2 xs ys a1 n1 c1 a2 n2 c2 l r T wr)) (fun s0 s1 _ => slLen s0 + slLen s1)
    case atStart => exact ⟨_, _, _, _, _, _, _, _, _, rfl, rfl, HI⟩
    case round =>
      clear HI
      obtain ⟨b1, n1, d1, b2, n2, d2, l, r, T, rfl, rfl, HR⟩ := hrel
      cases l with
      | nil =>
        obtain rfl : n1 = 0 := HR.out.m1
        cases r with
        | nil =>
          obtain rfl : n2 = 0 := HR.out.m2
          have hend : I (sbs xs ys) wr := by have := HR.out.eq; rw [sbs_nn, List.append_nil] at this; rw [← this]; exact HR.out.inv
          have HE := Lib.hid hend
          clear hend HR HP
          go_wp2
          rw [Exit.noGoto_normal]
          go_end0
          exact ⟨rfl, HE.out⟩
        | cons y r =>
          obtain ⟨b2, o2, m2, rfl, rfl, hmc2, hcm2, hat2⟩ := head_at (HR.out.t2 _ (HP.out.row2 _ _ HR.out.inv))
          have z2 : ((m2 : Int) + 1 == 0) = false := by simp; omega
          have hm632 : (m2 : Int) + 1 ≤ 9223372036854775807 := by unfold maxLen at hcm2; omega
          have h012 : (0 : Int) < (m2 : Int) + 1 := by omega
          have h112 : (1 : Int) ≤ (m2 : Int) + 1 := by omega
          have hmc21 : (m2 : Int) + 1 ≤ (d2 : Int) := by omega
          have hlen : T.length < xs.length + ys.length := by have := HR.out.len; simp at this; omega
          have HN := Lib.hid (fun W hI => HR.out.right (w' := W) (sbs_nc y r) hI)
          have HQ := Lib.hid (fun n => HP.out.pay T none (some y) (.pointer none) (.pointer (some ⟨b2, o2, none⟩)) (wr.drewN n) (HP.out.drew _ _ _ HR.out.inv) trivial hlen (ptr_none _) (ptr_some (hat2.below (blw_drewN (Below.refl _ _) n) hat2.lt)))
          clear hat2 HP HR
          go_wp2
          go_quiet (fail)
          go_wp2
          go_quiet (fail)
          by_cases hc1 : d2 = 1
          · have HN1 := Lib.hid (fun W hI => (HN.out W hI).1 hc1)
            subst hc1
            obtain rfl : m2 = 0 := by omega
            go_wp2_with (go_at_fn g; refine (HQ.out _).mono ?_; rintro e w1 ⟨rfl, hI1⟩)
            have HN2 := Lib.hid (HN1.out _ hI1)
            go_roundw
            case rel => exact ⟨_, _, _, _, _, _, _, _, _, rfl, rfl, HN2⟩
            case measure => simp [slLen]; try omega
          · have HN1 := Lib.hid (fun W hI => (HN.out W hI).2 hc1)
            go_wp2_with (go_at_fn g; refine (HQ.out _).mono ?_; rintro e w1 ⟨rfl, hI1⟩)
            have HN2 := Lib.hid (HN1.out _ hI1)
            go_roundw
            case rel => exact ⟨_, _, _, _, _, _, _, _, _, rfl, rfl, HN2⟩
            case measure => simp [slLen]; try omega
      | cons x l =>
        cases r with
        | nil =>
          obtain rfl : n2 = 0 := HR.out.m2
          obtain ⟨b, o, m, rfl, rfl, hmc, hcm, hat⟩ := head_at (HR.out.t1 _ (HP.out.row1 _ _ HR.out.inv))
          have z1 : ((m : Int) + 1 == 0) = false := by simp; omega
          have hm63 : (m : Int) + 1 ≤ 9223372036854775807 := by unfold maxLen at hcm; omega
          have h01 : (0 : Int) < (m : Int) + 1 := by omega
          have h11 : (1 : Int) ≤ (m : Int) + 1 := by omega
          have hmc1 : (m : Int) + 1 ≤ (d1 : Int) := by omega
          have hlen : T.length < xs.length + ys.length := by have := HR.out.len; simp at this; omega
          have HN := Lib.hid (fun W hI => HR.out.left (w' := W) (sbs_cn x l) hI)
          have HQ := Lib.hid (fun n => HP.out.pay T (some x) none (.pointer (some ⟨b, o, none⟩)) (.pointer none) (wr.drewN n) (HP.out.drew _ _ _ HR.out.inv) trivial hlen (ptr_some (hat.below (blw_drewN (Below.refl _ _) n) hat.lt)) (ptr_none _))
          clear hat HP HR
          go_wp2
          go_quiet (fail)
          by_cases hc1 : d1 = 1
          · have HN1 := Lib.hid (fun W hI => (HN.out W hI).1 hc1)
            subst hc1
            obtain rfl : m = 0 := by omega
            go_wp2_with (go_at_fn g; refine (HQ.out _).mono ?_; rintro e w1 ⟨rfl, hI1⟩)
            have HN2 := Lib.hid (HN1.out _ hI1)
            go_roundw
            case rel => exact ⟨_, _, _, _, _, _, _, _, _, rfl, rfl, HN2⟩
            case measure => simp [slLen]; try omega
          · have HN1 := Lib.hid (fun W hI => (HN.out W hI).2 hc1)
            go_wp2_with (go_at_fn g; refine (HQ.out _).mono ?_; rintro e w1 ⟨rfl, hI1⟩)
            have HN2 := Lib.hid (HN1.out _ hI1)
            go_roundw
            case rel => exact ⟨_, _, _, _, _, _, _, _, _, rfl, rfl, HN2⟩
            case measure => simp [slLen]; try omega
        | cons y r =>
          by_cases hk : x.key < y.key
          · skip
            obtain ⟨b, o, m, rfl, rfl, hmc, hcm, hat⟩ := head_at (HR.out.t1 _ (HP.out.row1 _ _ HR.out.inv))
            have z1 : ((m : Int) + 1 == 0) = false := by simp; omega
            have hm63 : (m : Int) + 1 ≤ 9223372036854775807 := by unfold maxLen at hcm; omega
            have h01 : (0 : Int) < (m : Int) + 1 := by omega
            have h11 : (1 : Int) ≤ (m : Int) + 1 := by omega
            have hmc1 : (m : Int) + 1 ≤ (d1 : Int) := by omega
            obtain ⟨b2, o2, m2, rfl, rfl, hmc2, hcm2, hat2⟩ := head_at (HR.out.t2 _ (HP.out.row2 _ _ HR.out.inv))
            have z2 : ((m2 : Int) + 1 == 0) = false := by simp; omega
            have hm632 : (m2 : Int) + 1 ≤ 9223372036854775807 := by unfold maxLen at hcm2; omega
            have h012 : (0 : Int) < (m2 : Int) + 1 := by omega
            have h112 : (1 : Int) ≤ (m2 : Int) + 1 := by omega
            have hmc21 : (m2 : Int) + 1 ≤ (d2 : Int) := by omega
            have hlen : T.length < xs.length + ys.length := by have := HR.out.len; simp at this; omega
            have HN := Lib.hid (fun W hI => HR.out.left (w' := W) (sbs_lt hk) hI)
            have HQ := Lib.hid (fun n => HP.out.pay T (some x) none (.pointer (some ⟨b, o, none⟩)) (.pointer none) (wr.drewN n) (HP.out.drew _ _ _ HR.out.inv) trivial hlen (ptr_some (hat.below (blw_drewN (Below.refl _ _) n) hat.lt)) (ptr_none _))
            obtain ⟨c0, c1, c2, c3, c4, c5⟩ := hat
            obtain ⟨f0, f1, f2, f3, f4, f5⟩ := hat2
            have e1 : decide (x.key < y.key) = true := by simpa using hk
            clear HP HR hk
            go_wp2
            go_quiet (fail)
            by_cases hc1 : d1 = 1
            · have HN1 := Lib.hid (fun W hI => (HN.out W hI).1 hc1)
              subst hc1
              obtain rfl : m = 0 := by omega
              go_wp2_with (go_at_fn g; refine (HQ.out _).mono ?_; rintro e w1 ⟨rfl, hI1⟩)
              have HN2 := Lib.hid (HN1.out _ hI1)
              go_roundw
              case rel => exact ⟨_, _, _, _, _, _, _, _, _, rfl, rfl, HN2⟩
              case measure => simp [slLen]; try omega
            · have HN1 := Lib.hid (fun W hI => (HN.out W hI).2 hc1)
              go_wp2_with (go_at_fn g; refine (HQ.out _).mono ?_; rintro e w1 ⟨rfl, hI1⟩)
              have HN2 := Lib.hid (HN1.out _ hI1)
              go_roundw
              case rel => exact ⟨_, _, _, _, _, _, _, _, _, rfl, rfl, HN2⟩
              case measure => simp [slLen]; try omega
          · by_cases hk2 : y.key < x.key
            · skip
              obtain ⟨b, o, m, rfl, rfl, hmc, hcm, hat⟩ := head_at (HR.out.t1 _ (HP.out.row1 _ _ HR.out.inv))
              have z1 : ((m : Int) + 1 == 0) = false := by simp; omega
              have hm63 : (m : Int) + 1 ≤ 9223372036854775807 := by unfold maxLen at hcm; omega
              have h01 : (0 : Int) < (m : Int) + 1 := by omega
              have h11 : (1 : Int) ≤ (m : Int) + 1 := by omega
              have hmc1 : (m : Int) + 1 ≤ (d1 : Int) := by omega
              obtain ⟨b2, o2, m2, rfl, rfl, hmc2, hcm2, hat2⟩ := head_at (HR.out.t2 _ (HP.out.row2 _ _ HR.out.inv))
              have z2 : ((m2 : Int) + 1 == 0) = false := by simp; omega
              have hm632 : (m2 : Int) + 1 ≤ 9223372036854775807 := by unfold maxLen at hcm2; omega
              have h012 : (0 : Int) < (m2 : Int) + 1 := by omega
              have h112 : (1 : Int) ≤ (m2 : Int) + 1 := by omega
              have hmc21 : (m2 : Int) + 1 ≤ (d2 : Int) := by omega
              have hlen : T.length < xs.length + ys.length := by have := HR.out.len; simp at this; omega
              have HN := Lib.hid (fun W hI => HR.out.right (w' := W) (sbs_gt hk2) hI)
              have HQ := Lib.hid (fun n => HP.out.pay T none (some y) (.pointer none) (.pointer (some ⟨b2, o2, none⟩)) (wr.drewN n) (HP.out.drew _ _ _ HR.out.inv) trivial hlen (ptr_none _) (ptr_some (hat2.below (blw_drewN (Below.refl _ _) n) hat2.lt)))
              obtain ⟨c0, c1, c2, c3, c4, c5⟩ := hat
              obtain ⟨f0, f1, f2, f3, f4, f5⟩ := hat2
              have e1 : decide (x.key < y.key) = false := by simpa using hk
              have e2 : decide (y.key < x.key) = true := by simpa using hk2
              clear HP HR hk hk2
              go_wp2
              go_quiet (fail)
              go_wp2
              go_quiet (fail)
              by_cases hc1 : d2 = 1
              · have HN1 := Lib.hid (fun W hI => (HN.out W hI).1 hc1)
                subst hc1
                obtain rfl : m2 = 0 := by omega
                go_wp2_with (go_at_fn g; refine (HQ.out _).mono ?_; rintro e w1 ⟨rfl, hI1⟩)
                have HN2 := Lib.hid (HN1.out _ hI1)
                go_roundw
                case rel => exact ⟨_, _, _, _, _, _, _, _, _, rfl, rfl, HN2⟩
                case measure => simp [slLen]; try omega
              · have HN1 := Lib.hid (fun W hI => (HN.out W hI).2 hc1)
                go_wp2_with (go_at_fn g; refine (HQ.out _).mono ?_; rintro e w1 ⟨rfl, hI1⟩)
                have HN2 := Lib.hid (HN1.out _ hI1)
                go_roundw
                case rel => exact ⟨_, _, _, _, _, _, _, _, _, rfl, rfl, HN2⟩
                case measure => simp [slLen]; try omega
            · skip
              obtain ⟨b, o, m, rfl, rfl, hmc, hcm, hat⟩ := head_at (HR.out.t1 _ (HP.out.row1 _ _ HR.out.inv))
              have z1 : ((m : Int) + 1 == 0) = false := by simp; omega
              have hm63 : (m : Int) + 1 ≤ 9223372036854775807 := by unfold maxLen at hcm; omega
              have h01 : (0 : Int) < (m : Int) + 1 := by omega
              have h11 : (1 : Int) ≤ (m : Int) + 1 := by omega
              have hmc1 : (m : Int) + 1 ≤ (d1 : Int) := by omega
              obtain ⟨b2, o2, m2, rfl, rfl, hmc2, hcm2, hat2⟩ := head_at (HR.out.t2 _ (HP.out.row2 _ _ HR.out.inv))
              have z2 : ((m2 : Int) + 1 == 0) = false := by simp; omega
              have hm632 : (m2 : Int) + 1 ≤ 9223372036854775807 := by unfold maxLen at hcm2; omega
              have h012 : (0 : Int) < (m2 : Int) + 1 := by omega
              have h112 : (1 : Int) ≤ (m2 : Int) + 1 := by omega
              have hmc21 : (m2 : Int) + 1 ≤ (d2 : Int) := by omega
              have hlen : T.length < xs.length + ys.length := by have := HR.out.len; simp at this; omega
              have HN := Lib.hid (fun W hI => HR.out.both (w' := W) (sbs_eq hk hk2) hI)
              have HQ := Lib.hid (fun n => HP.out.pay T (some x) (some y) (.pointer (some ⟨b, o, none⟩)) (.pointer (some ⟨b2, o2, none⟩)) (wr.drewN n) (HP.out.drew _ _ _ HR.out.inv) trivial hlen (ptr_some (hat.below (blw_drewN (Below.refl _ _) n) hat.lt)) (ptr_some (hat2.below (blw_drewN (Below.refl _ _) n) hat2.lt)))
              have HD := Lib.hid HP.out.drew
              obtain ⟨c0, c1, c2, c3, c4, c5⟩ := hat
              obtain ⟨f0, f1, f2, f3, f4, f5⟩ := hat2
              have e1 : decide (x.key < y.key) = false := by simpa using hk
              have e2 : decide (y.key < x.key) = false := by simpa using hk2
              clear HP HR hk hk2
              go_wp2
              go_quiet (fail)
              go_wp2
              go_quiet (fail)
              go_wp2
              go_region_held3 (fun w' => True) (trivial) ((go_at_fn g; refine (HQ.out _).mono ?_; rintro e w1 ⟨rfl, hI1⟩))
              have HN2 := Lib.hid (fun n => HN.out _ (HD.out _ _ n hI1))
              by_cases hc1 : d1 = 1 <;> by_cases hc2 : d2 = 1
              · have HN3 := Lib.hid (fun n => (HN2.out n).1 hc1 hc2)
                subst hc1 hc2
                obtain rfl : m = 0 := by omega
                obtain rfl : m2 = 0 := by omega
                clear HN HN2 HD HQ hI1
                go_wp2
                go_quiet (fail)
                go_roundw
                case rel => first | exact ⟨_, _, _, _, _, _, _, _, _, rfl, rfl, Lib.hid (HN3.out _)⟩ | exact ⟨_, _, _, _, _, _, _, _, _, _, _, _, _, _, _, _, _, _, _, _, _, _, _, _, _, _, _, _, _, _, _, _, _, _, _, _, _, _, _, _, _, _, _, _, _, _, _, _, _, _, _, _, _, _, _, _, _, _, _, _, _, _, _, _, _, _, _, _, ⟨_, _, _, _, _, _, _, _, _, rfl, rfl, Lib.hid (HN3.out _)⟩, rfl⟩
                case measure => simp [slLen]; try omega
              · have HN3 := Lib.hid (fun n => (HN2.out n).2.1 hc1 hc2)
                subst hc1
                obtain rfl : m = 0 := by omega
                clear HN HN2 HD HQ hI1
                go_wp2
                go_quiet (fail)
                go_roundw
                case rel => first | exact ⟨_, _, _, _, _, _, _, _, _, rfl, rfl, Lib.hid (HN3.out _)⟩ | exact ⟨_, _, _, _, _, _, _, _, _, _, _, _, _, _, _, _, _, _, _, _, _, _, _, _, _, _, _, _, _, _, _, _, _, _, _, _, _, _, _, _, _, _, _, _, _, _, _, _, _, _, _, _, _, _, _, _, _, _, _, _, _, _, _, _, _, _, _, _, ⟨_, _, _, _, _, _, _, _, _, rfl, rfl, Lib.hid (HN3.out _)⟩, rfl⟩
                case measure => simp [slLen]; try omega
              · have HN3 := Lib.hid (fun n => (HN2.out n).2.2.1 hc1 hc2)
                subst hc2
                obtain rfl : m2 = 0 := by omega
                clear HN HN2 HD HQ hI1
                go_wp2
                go_quiet (fail)
                go_roundw
                case rel => first | exact ⟨_, _, _, _, _, _, _, _, _, rfl, rfl, Lib.hid (HN3.out _)⟩ | exact ⟨_, _, _, _, _, _, _, _, _, _, _, _, _, _, _, _, _, _, _, _, _, _, _, _, _, _, _, _, _, _, _, _, _, _, _, _, _, _, _, _, _, _, _, _, _, _, _, _, _, _, _, _, _, _, _, _, _, _, _, _, _, _, _, _, _, _, _, _, ⟨_, _, _, _, _, _, _, _, _, rfl, rfl, Lib.hid (HN3.out _)⟩, rfl⟩
                case measure => simp [slLen]; try omega
              · have HN3 := Lib.hid (fun n => (HN2.out n).2.2.2 hc1 hc2)
                clear HN HN2 HD HQ hI1
                go_wp2
                go_quiet (fail)
                go_roundw
                case rel => first | exact ⟨_, _, _, _, _, _, _, _, _, rfl, rfl, Lib.hid (HN3.out _)⟩ | exact ⟨_, _, _, _, _, _, _, _, _, _, _, _, _, _, _, _, _, _, _, _, _, _, _, _, _, _, _, _, _, _, _, _, _, _, _, _, _, _, _, _, _, _, _, _, _, _, _, _, _, _, _, _, _, _, _, _, _, _, _, _, _, _, _, _, _, _, _, _, ⟨_, _, _, _, _, _, _, _, _, rfl, rfl, Lib.hid (HN3.out _)⟩, rfl⟩
                case measure => simp [slLen]; try omega
  subst e1 e2
  exact hgo _ _ _ _ _ _ _ HI
end Go.Proofs.Ytkejebjppnhidaa
