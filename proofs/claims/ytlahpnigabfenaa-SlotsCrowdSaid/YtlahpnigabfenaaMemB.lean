/- Layer 6's contracts, the rest. -/
import Derived.Test.YtlahpnigabfenaaMemA
import Derived.Laws.Bits64b
import Derived.Laws.AppendOwn
import Derived.OwnWalk
import Derived.Lib.LazyBuf
namespace Go.Proofs.Ytlahpnigabfenaa.Mm
open Go.RowKit
set_option linter.unusedVariables false
set_option linter.unusedSimpArgs false
def orI (x y : Int) : Int := bits .or .u64 x y
def addI (x y : Int) : Int := IntKind.u64.wrap (x + y)
theorem orI_range (x y : Int) (x0 : 0 ≤ x) (x1 : x < 18446744073709551616) (y0 : 0 ≤ y) (y1 : y < 18446744073709551616) : 0 ≤ orI x y ∧ orI x y < 18446744073709551616 := by
  obtain ⟨a, rfl⟩ := Int.eq_ofNat_of_zero_le x0
  obtain ⟨b, rfl⟩ := Int.eq_ofNat_of_zero_le y0
  unfold orI
  rw [bits_or_u64_nat a b (by omega) (by omega)]
  have : a ||| b < 2 ^ 64 := Nat.or_lt_two_pow (by omega) (by omega)
  omega
theorem addI_range (x y : Int) : 0 ≤ addI x y ∧ addI x y < 18446744073709551616 := by
  unfold addI; rw [IntKind.wrap_u64]; omega

/-- A row of words, read, and that may be written. -/
structure RowAt (w : World) (g n : Nat) (f : Nat → Int) : Prop where
  row : ∀ i, i < n → w.cell? ⟨g, i, none⟩ = some (.int .u64 (f i))
  fr : ∀ i, w.frozen? ⟨g, i, none⟩ = false
  lt : g < w.heap.size
theorem RowAt.keep {w w' : World} {g n : Nat} {f : Nat → Int} (h : RowAt w g n f) (hs : w.heap.size ≤ w'.heap.size) (k : w'.heap[g]? = w.heap[g]?) : RowAt w' g n f :=
  ⟨fun i hi => (World.cell?_of_block (w := w) (a := ⟨g, i, none⟩) k).trans (h.row i hi), fun i => (World.frozen?_of_block (w := w) (a := ⟨g, i, none⟩) k).trans (h.fr i), by have := h.lt; omega⟩
theorem RowAt.below {w w' : World} {g n : Nat} {f : Nat → Int} (h : RowAt w g n f) (k : Below w.heap.size w w') : RowAt w' g n f := h.keep k.size (k.block _ h.lt)
theorem RowAt.only {w w' : World} {b b' g n : Nat} {f : Nat → Int} (h : RowAt w g n f) (k : Only b b' w w') (h1 : g ≠ b) (h2 : g ≠ b') : RowAt w' g n f := h.keep k.size (k.block _ h.lt h1 h2)
theorem MemAt.rowAt {w : World} {b g n C : Nat} {f : Nat → Int} {acc : Int} {flt : Bool} (h : MemAt w b g n C f acc flt) : RowAt w g n f := ⟨h.row, h.hg, h.gl⟩

theorem u64s : Try.prog.underlying 32 = some (.slice 22) := by kernel_rfl
theorem info64 : (Try.prog.info? 22).map (fun i => (i.zero, i.size, i.bytes)) = some (some (.int .u64 0), 1, 8) := by kernel_rfl

def wordsL (n : Nat) (f : Nat → Int) : List Value := (List.range n).map fun i => .int .u64 (f i)
theorem wordsL_len (n : Nat) (f : Nat → Int) : (wordsL n f).length = n := by simp [wordsL]
theorem wordsL_get (n : Nat) (f : Nat → Int) (i : Nat) (h : i < n) : (wordsL n f)[i]? = some (.int .u64 (f i)) := by simp [wordsL, h]
theorem own_words {w : World} {B : Nat} {v : Value} {n : Nat} {f : Nat → Int} (h : w.ownsRow B 22 1 v n (wordsL n f)) (hn : 0 < n) :
    ∃ g cap, v = .slice (some ⟨g, 0, none⟩) n cap ∧ B ≤ g ∧ n ≤ cap ∧ cap ≤ 9223372036854775807 ∧ RowAt w g n f := by
  rcases h.2 with ⟨_, h0⟩ | ⟨g, cap, cur, hv, hg, hh, hc, hm, hs, ht⟩
  · omega
  · refine ⟨g, cap, hv, hg, hc, hm, ⟨fun i hi => ?_, fun i => frozen_of_row _ g i _ _ hh, (Array.getElem?_eq_some_iff.1 hh).1⟩⟩
    have h1 := wordsL_get n f i hi
    rw [cell_of_row _ g i _ _ (0, 0) hh]
    rw [← ht, List.getElem?_take_of_lt (by omega)] at h1
    simpa using h1
theorem add_off (g j : Nat) : ((⟨g, 0, none⟩ : Addr).add j) = ⟨g, j, none⟩ := by simp [Addr.add]; rintro rfl; rfl
theorem news_words {w : World} {g n : Nat} {f : Nat → Int} (h : ∀ i, i < n → w.cell? ⟨g, i, none⟩ = some (.int .u64 (f i))) (j : Nat) (u : Value) (hu : (wordsL n f)[j]? = some u) : w.cell? ((⟨g, 0, none⟩ : Addr).add j) = some u := by
  have hj : j < n := by
    have := (List.getElem?_eq_some_iff.1 hu).1; rw [wordsL_len] at this; exact this
  rw [wordsL_get n f j hj] at hu
  rw [add_off, h j hj]; exact hu
theorem one_words (n : Nat) (f : Nat → Int) : ∀ u ∈ wordsL n f, u.oneCell' = true := by
  intro u hu
  obtain ⟨i, _, rfl⟩ := List.mem_map.1 hu
  rfl
/-- A row without elements that was made last. -/
theorem own_none (w : World) : (w.alloc (.cells #[] 22)).ownsRow w.heap.size 22 1 (.slice (some ⟨w.heap.size, 0, none⟩) 0 0) 0 [] :=
  ⟨rfl, .inr ⟨_, 0, _, rfl, Nat.le_refl _, heap_alloc_new w _, Nat.le_refl _, by decide, rfl, rfl⟩⟩
theorem grow0 {w w1 : World} {o : Obj} (hg : (w.alloc o).grownBy w1 (Value.ownBlock (.slice (some ⟨w.heap.size, 0, none⟩) 0 0))) : Below w.heap.size w w1 :=
  ((Below.refl _ _).alloc (Nat.le_refl _) o).grown hg (by simp) (by intro k hk; simp only [Value.ownBlock, Option.some.injEq] at hk; omega)

theorem sclone (g n C : Nat) (f : Nat → Int) (w : World) (h : ∀ i, i < n → w.cell? ⟨g, i, none⟩ = some (.int .u64 (f i))) (n1 : 1 ≤ n) (n2 : n ≤ 4096) :
    Calls Try.prog 74 #[.slice (some ⟨g, 0, none⟩) n C] w fun e w' => ∃ g' C', e = .returned (.slice (some ⟨g', 0, none⟩) n C') ∧ w.heap.size ≤ g' ∧ n ≤ C' ∧ C' ≤ 9223372036854775807 ∧ RowAt w' g' n f ∧ Below w.heap.size w w' := by
  obtain ⟨i0, hi, hz0, hz1, hz2⟩ := info_parts info64
  have hg : g < w.heap.size := World.block_lt_of_cell? w ⟨g, 0, none⟩ (h 0 (by omega))
  have h' : ∀ i, i < n → (w.alloc (.cells #[] 22)).cell? ⟨g, i, none⟩ = some (.int .u64 (f i)) := fun i hi => Ext.on (h i hi) _
  have H' := Lib.hid h'; clear h' h
  have qT : ∀ (w : World) (a : Addr) (n c : Nat), (binOp .eql 32 (.slice (some a) n c) (.slice none 0 0)).run Try.prog w = .ok (.bool false) w := fun w a n c => Go.run_eql_slice_nil w _ _ (some a) n c u64s
  refine Calls.veil fun Q HQ => ?_
  go_enter Try.func74, Try.ntmps74
  go_wp2_with (at_builtin; refine wpList_append_own _ rfl (.tmp 5) (.tmp 6) 32 rfl w.heap.size 22 i0 _ 1 8 u64s hi hz0 hz1 hz2 rfl (by decide) _ _ _ rfl (own_none w) ⟨g, 0, none⟩ n C (wordsL n f) rfl (by rw [wordsL_len]; omega) (news_words H'.out) (one_words n f) (by unfold maxLen; omega) (by omega) (by simp) ?_)
  intro v1 w1 hown hgrow _
  try simp only [Nat.zero_add, List.nil_append] at hown
  have hb := grow0 hgrow
  obtain ⟨g', C', rfl, e1, e2, e3, e4⟩ := own_words hown n1
  have H4 := Lib.hid e4
  clear e4 hown hgrow
  go_wp2_with fail
  (try go_ret)
  rw [HQ.out]
  exact ⟨g', C', rfl, e1, e2, e3, H4.out, hb⟩
theorem mwords (b g n C : Nat) (f : Nat → Int) (acc : Int) (flt : Bool) (w : World) (h : MemAt w b g n C f acc flt) :
    Calls Try.prog 43 #[.pointer (some ⟨b, 0, none⟩)] w fun e w' => ∃ g' C', e = .returned (.slice (some ⟨g', 0, none⟩) n C') ∧ w.heap.size ≤ g' ∧ n ≤ C' ∧ C' ≤ 9223372036854775807 ∧ RowAt w' g' n f ∧ Below w.heap.size w w' := by
  have e0 := h.h0
  refine Calls.veil fun Q HQ => ?_
  go_enter Try.func43, Try.ntmps43
  go_wp2_with fail
  refine (sclone g n C f w h.row h.n1 h.n2).mono ?_; rintro _ w1 ⟨g', C', rfl, e1, e2, e3, e4, hb⟩
  have H4 := Lib.hid e4
  clear e4
  go_wp2_with fail
  (try go_ret)
  rw [HQ.out]
  exact ⟨g', C', rfl, e1, e2, e3, H4.out, hb⟩
theorem maccs (b g n C : Nat) (f : Nat → Int) (acc : Int) (flt : Bool) (w : World) (h : MemAt w b g n C f acc flt) :
    Calls Try.prog 48 #[.pointer (some ⟨b, 0, none⟩)] w fun e w' => e = .returned (.int .i64 acc) ∧ w = w' := by
  have e0 := h.h1
  clear h
  go_enter Try.func48, Try.ntmps48
  go_wp2_with fail
  go_ret
  exact ⟨rfl, rfl⟩
theorem mfault (b g n C : Nat) (f : Nat → Int) (acc : Int) (flt : Bool) (w : World) (h : MemAt w b g n C f acc flt) :
    Calls Try.prog 45 #[.pointer (some ⟨b, 0, none⟩)] w fun e w' => e = .returned (.bool flt) ∧ w = w' := by
  have e0 := h.h2
  clear h
  go_enter Try.func45, Try.ntmps45
  go_wp2_with fail
  go_ret
  exact ⟨rfl, rfl⟩
theorem mcas (b g n C : Nat) (f : Nat → Int) (acc a old x : Int) (flt : Bool) (w : World) (h : MemAt w b g n C f acc flt) (c0 : 0 ≤ acc) (c1 : acc < 4611686018427387904) (x0 : 0 ≤ x) (x1 : x < 18446744073709551616) :
    Calls Try.prog 80 #[.pointer (some ⟨b, 0, none⟩), .int .i64 a, .int .u64 old, .int .u64 x] w fun e w' => e = .returned (.bool (okA n a && f a.toNat == old)) ∧ MemAt w' b g n C (if (okA n a && f a.toNat == old) = true then upd f a.toNat x else f) (acc + 1) (flt || !okA n a) ∧ Only b g w w' := by
  refine Calls.veil fun Q HQ => ?_
  go_enter Try.func80, Try.ntmps80
  go_wp2_with fail
  generalize hW : World.alloc w _ = W
  have hO : Only b g w W := by rw [← hW]; exact (Only.refl _ _ _).alloc _
  have hM : MemAt W b g n C f acc flt := by rw [← hW]; exact h.alloc _
  have hp : W.cell? ⟨w.heap.size, 0, none⟩ = some (.int .i64 a) := Ext.made_in hW (Below.refl _ _) 0 _ rfl
  clear hW
  have hbl := h.bl
  clear h
  refine (mreach1 b g n C _ _ f acc a flt W hM c0 c1 hp (by omega)).mono ?_; rintro _ w1 ⟨rfl, hM1, hO1⟩
  have hO := hO.trans hO1.wide
  clear hM hp hO1
  cases ha : okA n a
  · rw [ha] at hM1
    go_wp2_with fail
    (try go_ret)
    rw [HQ.out]
    exact ⟨by simp [ha, ldI], by simpa [ha] using hM1, hO⟩
  · obtain ⟨k, k'⟩ := okA_true ha
    rw [ha] at hM1
    obtain ⟨a, rfl⟩ := Int.eq_ofNat_of_zero_le k
    have k2 : a < n := by omega
    have hM := Lib.hid hM1; clear hM1
    go_wp2_with fail
    refine (mswap b g n C f _ a old x _ w1 hM.out k2 x0 x1).mono ?_; rintro _ w2 ⟨rfl, hM2, hO2⟩
    have hM := Lib.hid hM2; clear hM2
    go_wp2_with fail
    (try go_ret)
    rw [HQ.out]
    exact ⟨by simp [ha], by simpa [ha] using hM.out, hO.trans hO2⟩
theorem mcas0 (a old x : Int) (w : World) : Calls Try.prog 80 #[.pointer none, .int .i64 a, .int .u64 old, .int .u64 x] w fun e w' => e = .returned (.bool false) ∧ Below w.heap.size w w' := by
  go_enter Try.func80, Try.ntmps80
  go_wp2_with fail
  generalize hW : World.alloc w _ = W
  have hB : Below w.heap.size w W := by rw [← hW]; (repeat (first | exact Below.refl _ _ | assumption | refine below_new ?_ _ | refine Below.drew ?_ | refine below_drewN ?_ _ | refine below_on ?_ (by assumption)))
  clear hW
  refine (mreach0 _ _).mono ?_; rintro _ w1 ⟨rfl, hb⟩
  go_wp2_with fail
  go_ret
  exact ⟨rfl, below_on hB hb⟩
end Go.Proofs.Ytlahpnigabfenaa.Mm
