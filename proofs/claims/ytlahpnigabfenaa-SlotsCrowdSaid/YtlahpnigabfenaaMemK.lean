/- MemK: several texts in one. -/
import Derived.Test.YtlahpnigabfenaaMemB
import Derived.WalkSpells
import Derived.Deep.RegionWith
/- Layer 6: an access, of both. -/
namespace Go.Proofs.Ytlahpnigabfenaa.Mm
open Go.RowKit
set_option linter.unusedVariables false
set_option linter.unusedSimpArgs false

def okD (n : Nat) (k a c : Int) : Bool := if 0 ≤ k ∧ k ≤ 4 then okA n a else okA n c && okA n a
def toldD (n : Nat) (f : Nat → Int) (k a : Int) : Int := if k = 0 ∨ k = 3 ∨ k = 4 then ldI n f a else 0
def doneD (n : Nat) (f : Nat → Int) (k a c is old : Int) : Bool := if 0 ≤ k ∧ k ≤ 4 then (if k = 2 then okA n a && f a.toNat == old else false) else okA n c && okA n a && f c.toNat == is && f a.toNat == old
def nextD (n : Nat) (f : Nat → Int) (k a c is old x : Int) : Nat → Int :=
  if okD n k a c = true then
    (if k = 0 then f else if k = 1 then upd f a.toNat x else if k = 3 then upd f a.toNat (orI (f a.toNat) x) else if k = 4 then upd f a.toNat (addI (f a.toNat) x) else if doneD n f k a c is old = true then upd f a.toNat x else f)
  else f

end Go.Proofs.Ytlahpnigabfenaa.Mm

/- Layer 6: made anew, copied, compared; what isn't there. -/
namespace Go.Proofs.Ytlahpnigabfenaa.Mm
open Go.RowKit
set_option linter.unusedVariables false
set_option linter.unusedSimpArgs false

theorem maccs0 (w : World) : Calls Try.prog 48 #[.pointer none] w fun e w' => e = .returned (.int .i64 0) ∧ w = w' := by
  go_enter Try.func48, Try.ntmps48
  go_wp2
  go_ret
  exact ⟨rfl, rfl⟩
theorem mfault0 (w : World) : Calls Try.prog 45 #[.pointer none] w fun e w' => e = .returned (.bool false) ∧ w = w' := by
  go_enter Try.func45, Try.ntmps45
  go_wp2
  go_ret
  exact ⟨rfl, rfl⟩
theorem mwords0 (w : World) : Calls Try.prog 43 #[.pointer none] w fun e w' => e = .returned (.slice none 0 0) ∧ w = w' := by
  go_enter Try.func43, Try.ntmps43
  go_wp2
  go_ret
  exact ⟨rfl, rfl⟩

theorem made_words (n : Nat) : (madeCells #[.int .u64 0] n).toList = wordsL n (fun _ => 0) := by
  apply List.ext_getElem?
  intro i
  by_cases h : i < n
  · rw [wordsL_get n _ i h]
    simp [madeCells, h, Nat.mod_one]
  · rw [List.getElem?_eq_none (by simp [madeCells]; omega), List.getElem?_eq_none (by rw [wordsL_len]; omega)]
theorem memAt_new {w : World} {g n C : Nat} {f : Nat → Int} {T : TypeId} (h : RowAt w g n f) (acc : Int) (flt : Bool) (nC : n ≤ C) (n1 : 1 ≤ n) (n2 : n ≤ 4096) (cC : C ≤ 9223372036854775807) (rng : ∀ i, i < n → 0 ≤ f i ∧ f i < 18446744073709551616) :
    MemAt (w.alloc (.cells #[.slice (some ⟨g, 0, none⟩) n C, .int .i64 acc, .bool flt] T)) w.heap.size g n C f acc flt where
  h0 := Ext.made_in rfl (Below.refl _ _) 0 _ rfl
  h1 := Ext.made_in rfl (Below.refl _ _) 1 _ rfl
  h2 := Ext.made_in rfl (Below.refl _ _) 2 _ rfl
  hb i := Ext.made_fr rfl (Below.refl _ _) i
  row i hi := Ext.on (h.row i hi) _
  hg i := (World.frozen?_of_block (w := w) (a := ⟨g, i, none⟩) (Below.heap_alloc _ _ _ h.lt)).trans (h.fr i)
  ne := by have := h.lt; omega
  bl := by simp
  gl := by have := h.lt; simp; omega
  nC := nC
  n1 := n1
  n2 := n2
  cC := cC
  rng := rng

theorem mnew_no (a : Int) (w : World) (h : a < 1 ∨ 4096 < a) : Calls Try.prog 54 #[.int .i64 a] w fun e w' => e = .returned (.pointer none) ∧ w = w' := by
  rcases h with h | h
  all_goals
    have hh : a < 1 ∨ 1 ≤ a := by omega
    rcases hh with hh | hh
    all_goals
      go_enter Try.func54, Try.ntmps54
      go_wp2
      go_ret
      exact ⟨rfl, rfl⟩
theorem mnew (n : Nat) (w : World) (n1 : 1 ≤ n) (n2 : n ≤ 4096) : Calls Try.prog 54 #[.int .i64 n] w fun e w' => ∃ b g, e = .returned (.pointer (some ⟨b, 0, none⟩)) ∧ w.heap.size ≤ b ∧ w.heap.size ≤ g ∧ MemAt w' b g n n (fun _ => 0) 0 false ∧ Below w.heap.size w w' := by
  obtain ⟨i0, hi, hz0, hz1, hz2⟩ := info_parts info64
  refine Calls.veil fun Q HQ => ?_
  have m1 : ¬ (n : Int) < 1 := by omega
  have m2 : ¬ (4096 : Int) < n := by omega
  go_enter Try.func54, Try.ntmps54
  go_wp2_with (refine wpList_make_full _ rfl (.tmp 9) (.tmp 9) 32 rfl w.heap.size 22 i0 _ 1 u64s hi hz0 hz1 .i64 .i64 _ _ n rfl rfl rfl rfl (by rw [hz2]; omega) (by unfold maxLen; omega) (Nat.le_refl _) ?_)
  intro w1 hown hgrow
  rw [made_words] at hown
  obtain ⟨g, C, e, e1, e2, e3, e4⟩ := own_words hown n1
  obtain ⟨eg, ec⟩ : w.heap.size = g ∧ n = C := by simpa using e
  have hb : Below w.heap.size w w1 := (Below.refl _ _).grown hgrow (Nat.le_refl _) (by intro k hk; cases hk)
  have H := Lib.hid (And.intro eg ec)
  clear eg ec e e1 e2 e3 hown hgrow
  go_wp2_with fail
  (try go_ret)
  rw [HQ.out]
  obtain ⟨eg, ec⟩ := H.out
  subst eg; subst ec
  refine ⟨w1.heap.size, w.heap.size, rfl, hb.size, Nat.le_refl _, memAt_new e4 0 false (Nat.le_refl _) n1 n2 (by omega) (fun i _ => ⟨by simp, by simp⟩), below_new hb _⟩

end Go.Proofs.Ytlahpnigabfenaa.Mm

/- Layer 6: same; the reference's. -/
namespace Go.Proofs.Ytlahpnigabfenaa.Mm
open Go.RowKit
set_option linter.unusedVariables false
set_option linter.unusedSimpArgs false



end Go.Proofs.Ytlahpnigabfenaa.Mm
