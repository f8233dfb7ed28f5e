/- Layer 36: one schedule is told. -/
import Derived.Test.YtminbfingjbbbaaXplL
namespace Go.Proofs.Ytminbfingjbbbaa
open Go.RowKit
set_option linter.unusedVariables false
set_option linter.unusedSimpArgs false
structure EK (B : Nat) (S : List Nat) (W : World) where
  w : World
  h : Kb B S W w
instance (B : Nat) (S : List Nat) (W : World) : Nonempty (EK B S W) := ⟨⟨W, Kb.refl _ _ _⟩⟩
/-- What the closures read, and nobody changes. -/
structure Con (w : World) (lb fb ib kb yb tb mb sb ab nb g n c t m k : Nat) (till : Int) : Prop where
  k : w.cell? ⟨kb, 0, none⟩ = some (.int .i64 k)
  y : w.cell? ⟨yb, 0, none⟩ = some (.func (.func 9) #[] #[.pointer (some ⟨fb, 0, none⟩), .pointer (some ⟨ib, 0, none⟩), .pointer (some ⟨ab, 0, none⟩), .pointer (some ⟨nb, 0, none⟩)])
  t : w.cell? ⟨tb, 0, none⟩ = some (.int .i64 t)
  m : w.cell? ⟨mb, 0, none⟩ = some (.int .i64 m)
  s : w.cell? ⟨sb, 0, none⟩ = some (.func (.func 15) #[] #[.pointer (some ⟨lb, 0, none⟩), .pointer (some ⟨kb, 0, none⟩), .pointer (some ⟨yb, 0, none⟩), .pointer (some ⟨tb, 0, none⟩), .pointer (some ⟨mb, 0, none⟩), .pointer (some ⟨sb, 0, none⟩)])
  a : 0 < n → w.cell? ⟨ab, 0, none⟩ = some (.slice (some ⟨g, 0, none⟩) n c)
  n : w.cell? ⟨nb, 0, none⟩ = some (.int .i64 till)
structure Env (W : World) (B lb fb ib kb yb tb mb sb ab nb g n c t m k : Nat) (till : Int) (A : List PL) : Prop where
  lt : lb < B ∧ fb < B ∧ ib < B
  ne : lb ≠ fb ∧ lb ≠ ib ∧ fb ≠ ib ∧ nb ≠ fb ∧ nb ≠ ib
  con : ∀ w', Kb B [lb, fb, ib] W w' → Con w' lb fb ib kb yb tb mb sb ab nb g n c t m k till
  row : ∀ w', Kb B [lb, fb, ib] W w' → ∀ (j : Nat) (q : PL), A[j]? = some q → ∃ rv, w'.cell? ⟨g, j, none⟩ = some rv ∧ PR w' rv q
  nA : n = A.length ∧ n ≤ 6000
  tm : (1 ≤ t ∧ t ≤ 6) ∧ (1 ≤ m ∧ m ≤ 1000) ∧ k ≤ 4
/-- Where the telling stands. -/
structure TS (W : World) (B lb fb ib : Nat) (w : World) (p : PL) (i : Int) (v : Value) : Prop where
  l : w.heap[lb]? = some (.cells #[v] 30 (0, 0))
  f : w.heap[fb]? = some (.cells #[.bool true] 4 (0, 0))
  i : w.heap[ib]? = some (.cells #[.int .i64 i] 3 (0, 0))
  own : OwnP w B v p
  k : Kb B [lb, fb, ib] W w
  s : B ≤ w.heap.size
theorem TS.on {W : World} {B lb fb ib : Nat} {w w' : World} {p : PL} {i : Int} {v : Value} (h : TS W B lb fb ib w p i v) (k : Below w.heap.size w w') : TS W B lb fb ib w' p i v :=
  ⟨upk k h.l, upk k h.f, upk k h.i, World.ownsRow.kept h.own (grown_of_below k) (by cases v.ownBlock <;> simp), h.k.trans (Kb.of k h.s), Nat.le_trans h.s k.size⟩
theorem TS.cell {W : World} {B lb fb ib : Nat} {w : World} {p : PL} {i : Int} {v : Value} (h : TS W B lb fb ib w p i v) : w.cell? ⟨lb, 0, none⟩ = some v := by
  rw [cell_of_row _ lb _ _ _ (0, 0) h.l]; rfl
/-- Nobody wants more, on the way from a by n. -/
def Stp (till : Int) (a n : Nat) : Prop := (a : Int) < till ∧ till ≤ ((a + n : Nat) : Int)
/-- All schedules that begin so are told. -/
def Tell (W : World) (B lb fb ib kb yb tb mb sb t m k : Nat) (till : Int) (A : List PL) (d : Nat) : Prop :=
  ∀ (p : PL) (pre post : List PL) (v : Value) (w : World), A = pre ++ (leavesL t m d p ++ post) → p.length + d = k → (p = [] ∨ ∃ (x : Nat) (y : Int) (q : PL), x < t ∧ p = q ++ [((x : Int), y)]) → TS W B lb fb ib w p (pre.length : Nat) v →
    Calls Try.prog 15 #[.pointer (some ⟨lb, 0, none⟩), .pointer (some ⟨kb, 0, none⟩), .pointer (some ⟨yb, 0, none⟩), .pointer (some ⟨tb, 0, none⟩), .pointer (some ⟨mb, 0, none⟩), .pointer (some ⟨sb, 0, none⟩)] w fun e w' =>
      ∃ (b : Bool) (v' : Value) (p' : PL) (i' : Int), e = .returned (.bool b) ∧ TS W B lb fb ib w' p' i' v' ∧ (b = true → p' = p ∧ i' = ((pre.length + (leavesL t m d p).length : Nat) : Int) ∧ ¬ Stp till pre.length (leavesL t m d p).length) ∧ (b = false → i' = till ∧ Stp till pre.length (leavesL t m d p).length)
theorem ne_stp {i : Nat} {till : Int} (h : ((i : Int) + 1 != till) = true) : ¬ Stp till i 1 := by
  intro ⟨h1, h2⟩
  have : (i : Int) + 1 ≠ till := by simpa using h
  omega
theorem eq_stp {i : Nat} {till : Int} (h : ((i : Int) + 1 != till) = false) : (i : Int) + 1 = till ∧ Stp till i 1 := by
  have : (i : Int) + 1 = till := by simpa using h
  exact ⟨this, by unfold Stp; omega⟩
set_option maxHeartbeats 1000000 in
theorem tell0 (W : World) (B lb fb ib kb yb tb mb sb ab nb g n c t m k : Nat) (till : Int) (A : List PL) (HEnv : Env W B lb fb ib kb yb tb mb sb ab nb g n c t m k till A) : Tell W B lb fb ib kb yb tb mb sb t m k till A 0 := by
  intro p pre post v w hA hpk _ hs
  refine Calls.veil fun Q HQ => ?_
  have HS := Lib.hid hs
  obtain ⟨lp, lc, rfl⟩ := ownP_slice hs.own
  have c0 := hs.cell
  have c1 := (HEnv.con w hs.k).k
  have hb : ((p.length : Int) == (k : Int)) = true := by
    have : p.length = k := by omega
    simp [this]
  have HE := Lib.hid HEnv
  have HPL := Lib.hid (show p.length ≤ 1000 by have := HEnv.tm.2.2; omega)
  have HAI := Lib.hid (show A[pre.length]? = some p by rw [hA]; simp [leavesL])
  have HIN := Lib.hid (show pre.length < n by rw [HEnv.nA.1, hA]; simp [leavesL])
  obtain ⟨i, hi⟩ : ∃ i, i = pre.length := ⟨_, rfl⟩
  rw [← hi] at HS HAI HIN HQ
  obtain ⟨len, hlen⟩ : ∃ len, len = p.length := ⟨_, rfl⟩
  have HLEN := Lib.hid hlen
  rw [← hlen] at HS c0 hb
  have y0 : ∀ y : EK w.heap.size [fb, ib] w, y.w.cell? ⟨lb, 0, none⟩ = some (.slice lp len lc) := fun y => y.h.cell c0 (Nat.lt_of_lt_of_le HE.out.lt.1 HS.out.s) (by simp; exact ⟨HE.out.ne.1, HE.out.ne.2.1⟩)
  have HKW := Lib.hid (show ∀ y : EK w.heap.size [fb, ib] w, Kb B [lb, fb, ib] W y.w from fun y => HS.out.k.trans (y.h.weak HS.out.s (by simp)))
  have y1 := fun y : EK w.heap.size [fb, ib] w => (HE.out.con _ (HKW.out y)).y
  clear hA hpk hs HEnv hi hlen
  go_enter Try.func15, Try.ntmps15
  go_upto_region 2 with fail
  clear c0 c1
  (with_reducible refine wp_region_mix (fun w' => ∃ y : EK w.heap.size [fb, ib] w, w' = y.w) ?_ ?_ ?_ ?_; kernel_rfl; kernel_rfl; exact ⟨⟨w.drew, (Kb.refl _ _ _).drew⟩, rfl⟩)
  repeat (first | ((with_reducible refine mix_plain (by kernel_rfl) ?_); (first | go_big_quiet_skip | (go_big_quiet_want; go_big_quiet_op; go_big_quiet_on)); (with_reducible refine mix_on ?_)) | ((with_reducible refine mix_skip (by kernel_rfl) ?_); go_big_quiet_skip; (with_reducible refine mix_on ?_)))
  ((with_reducible refine wpMix_chain (by kernel_rfl) (by kernel_rfl) (fun K HK => ?_)); go_step)
  refine (xclone p _ B _ (HS.out.on (Below.refl _ _).drew).own HPL.out).mono ?_; rintro _ w2 ⟨v2, rfl, hp2, hb2⟩
  have HB2 := Lib.hid (show Below w.heap.size w w2 from below_on (Below.refl w.heap.size w).drew hb2)
  have HP2 := Lib.hid hp2
  refine HK.out _ _ ⟨⟨w2, Kb.of HB2.out (Nat.le_refl _)⟩, rfl⟩ ?_
  clear HK K hb2 hp2
  repeat (first | ((with_reducible refine mix_plain (by kernel_rfl) ?_); (first | go_big_quiet_skip | (go_big_quiet_want; go_big_quiet_op; go_big_quiet_on)); (with_reducible refine mix_on ?_)) | ((with_reducible refine mix_skip (by kernel_rfl) ?_); go_big_quiet_skip; (with_reducible refine mix_on ?_)))
  have HS2 := Lib.hid (HS.out.on HB2.out)
  have HC2 := Lib.hid (HE.out.con _ HS2.out.k)
  obtain ⟨rv, hr1, hr2⟩ := HE.out.row _ HS2.out.k i p HAI.out
  have HR := Lib.hid (And.intro hr1 hr2)
  clear hr1 hr2
  ((with_reducible refine wpMix_chain (by kernel_rfl) (by kernel_rfl) (fun K HK => ?_)); go_step)
  refine (xyield p v2 rv i fb ib ab nb g n c till w2 HS2.out.f HS2.out.i (HC2.out.a (Nat.lt_of_le_of_lt (Nat.zero_le _) HIN.out)) HC2.out.n HR.out.1 HP2.out HR.out.2 HPL.out HIN.out HE.out.nA.2 HE.out.ne.2.2.1 HE.out.ne.2.2.2.1 HE.out.ne.2.2.2.2).mono ?_; rintro _ w3 ⟨rfl, hf3, hi3, hk3⟩
  have H3 := Lib.hid (And.intro hf3 (And.intro hi3 hk3))
  refine HK.out _ _ ⟨⟨w3, (Kb.of HB2.out (Nat.le_refl _)).trans (hk3.weak HB2.out.size (fun _ h => h))⟩, rfl⟩ ?_
  clear HK K hf3 hi3 hk3
  repeat (first | ((with_reducible refine mix_plain (by kernel_rfl) ?_); (first | go_big_quiet_skip | (go_big_quiet_want; go_big_quiet_op; go_big_quiet_on)); (with_reducible refine mix_on ?_)) | ((with_reducible refine mix_skip (by kernel_rfl) ?_); go_big_quiet_skip; (with_reducible refine mix_on ?_)))
  refine wpMix_nil ?_
  go_wp2_with fail
  (try go_ret)
  rw [HQ.out]
  have HT := Lib.hid (show TS W B lb fb ib w3 p ((i : Int) + 1) (.slice lp len lc) from ⟨H3.out.2.2.upk HS2.out.l (by simp; exact ⟨HE.out.ne.1, HE.out.ne.2.1⟩), H3.out.1, H3.out.2.1, H3.out.2.2.own HS2.out.own (by simp; exact ⟨HE.out.lt.2.1, HE.out.lt.2.2⟩), HS2.out.k.trans (H3.out.2.2.weak HS2.out.s (by simp)), Nat.le_trans HS2.out.s H3.out.2.2.size⟩)
  refine ⟨_, _, p, _, rfl, HT.out, fun h => ⟨rfl, (by simp [leavesL]), ne_stp h⟩, fun h => ⟨(eq_stp h).1, (eq_stp h).2⟩⟩
end Go.Proofs.Ytminbfingjbbbaa
