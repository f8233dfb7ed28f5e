/- MemQ: several texts in one. -/
import Derived.Test.YtlahpnigabfenaaMemK
import Derived.Test.YtlahpnigabfenaaFrame
import Derived.Laws.CopyOwn
/- Layer 6's laws: MemNone. -/
namespace Go.Proofs.Ytlahpnigabfenaa.Mm
open Go.RowKit
set_option linter.unusedVariables false
set_option linter.unusedSimpArgs false

theorem wf64m {n : Int} (h : (Lit.int .i64 n).wf = true) : -9223372036854775808 ≤ n ∧ n < 9223372036854775808 := by
  simp [Lit.wf, IntKind.min, IntKind.max, IntKind.signed, IntKind.bits] at h; omega
theorem wfu64m {n : Int} (h : (Lit.int .u64 n).wf = true) : 0 ≤ n ∧ n < 18446744073709551616 := by
  simp [Lit.wf, IntKind.min, IntKind.max, IntKind.signed, IntKind.bits] at h; omega

/-- The cells of an access. -/
def OpCells (w : World) (g off : Nat) (k a c is old x : Int) : Prop :=
  w.cell? ⟨g, off, none⟩ = some (.int .i64 k) ∧ w.cell? ⟨g, off + 1, none⟩ = some (.int .i64 a) ∧ w.cell? ⟨g, off + 2, none⟩ = some (.int .i64 c) ∧ w.cell? ⟨g, off + 3, none⟩ = some (.int .u64 is) ∧ w.cell? ⟨g, off + 4, none⟩ = some (.int .u64 old) ∧ w.cell? ⟨g, off + 5, none⟩ = some (.int .u64 x) ∧
    (0 ≤ is ∧ is < 18446744073709551616) ∧ (0 ≤ old ∧ old < 18446744073709551616) ∧ (0 ≤ x ∧ x < 18446744073709551616)
theorem OpCells.below {w w' : World} {g off : Nat} {k a c is old x : Int} (h : OpCells w g off k a c is old x) (hb : Below w.heap.size w w') : OpCells w' g off k a c is old x := by
  obtain ⟨h0, h1, h2, h3, h4, h5, r⟩ := h
  exact ⟨Ext.use (Ext.cells h0) hb, Ext.use (Ext.cells h1) hb, Ext.use (Ext.cells h2) hb, Ext.use (Ext.cells h3) hb, Ext.use (Ext.cells h4) hb, Ext.use (Ext.cells h5) hb, r⟩
def opSh : List Fr.Sh := [.int .i64, .int .i64, .int .i64, .int .u64, .int .u64, .int .u64]
theorem op_cells {w : World} {cs : List Value} (h : Fr.Sh.oks w opSh cs) : ∃ k a c is old x : Int, cs = [.int .i64 k, .int .i64 a, .int .i64 c, .int .u64 is, .int .u64 old, .int .u64 x] ∧ (0 ≤ is ∧ is < 18446744073709551616) ∧ (0 ≤ old ∧ old < 18446744073709551616) ∧ (0 ≤ x ∧ x < 18446744073709551616) := by
  obtain ⟨_, _, rfl, k0, h⟩ := Fr.get_cons h
  obtain ⟨_, _, rfl, k1, h⟩ := Fr.get_cons h
  obtain ⟨_, _, rfl, k2, h⟩ := Fr.get_cons h
  obtain ⟨_, _, rfl, k3, h⟩ := Fr.get_cons h
  obtain ⟨_, _, rfl, k4, h⟩ := Fr.get_cons h
  obtain ⟨_, _, rfl, k5, h⟩ := Fr.get_cons h
  obtain rfl := Fr.get_nil h
  obtain ⟨k, rfl, _⟩ := Fr.get_int k0
  obtain ⟨a, rfl, _⟩ := Fr.get_int k1
  obtain ⟨c, rfl, _⟩ := Fr.get_int k2
  obtain ⟨is, rfl, w1⟩ := Fr.get_int k3
  obtain ⟨old, rfl, w2⟩ := Fr.get_int k4
  obtain ⟨x, rfl, w3⟩ := Fr.get_int k5
  exact ⟨k, a, c, is, old, x, rfl, wfu64m w1, wfu64m w2, wfu64m w3⟩
theorem ops_open {w : World} {v : Value} (h : Fr.ok1 w (.slice opSh) v) : ∃ ao len cap, v = .slice ao len cap ∧ len ≤ cap ∧ cap ≤ 9223372036854775807 ∧ ∀ i, i < len → ∃ g off, ao = some ⟨g, off, none⟩ ∧ ∃ k a c is old x, OpCells w g (off + i * 6) k a c is old x := by
  rcases Fr.get_slice h with rfl | ⟨a, len, cap, rfl, h1, h2, h3⟩
  · exact ⟨none, 0, 0, rfl, Nat.le_refl _, by decide, fun i hi => by omega⟩
  · refine ⟨some a, len, cap, rfl, h1, h2, fun i hi => ?_⟩
    obtain ⟨cs0, h5, h6⟩ := h3 0 (by omega)
    obtain ⟨k, a1, c, is, old, x, rfl, _⟩ := op_cells h6
    have hs : a.spot = none := by
      have h7 := (World.cells?_some h5).2.2 0 (by decide)
      exact World.cell?_spot (by simpa [Addr.add] using h7)
    obtain ⟨g, off, spot⟩ := a
    simp only at hs
    subst hs
    obtain ⟨cs, h5, h6⟩ := h3 i (by omega)
    obtain ⟨k, a1, c, is, old, x, rfl, r⟩ := op_cells h6
    obtain ⟨_, _, h7⟩ := World.cells?_some h5
    have e : ((⟨g, off, none⟩ : Addr).add (i * opSh.length)) = ⟨g, off + i * 6, none⟩ := by
      simp [Addr.add, opSh] <;> (intro hh; subst hh; rfl)
    rw [e] at h7
    refine ⟨g, off, rfl, k, a1, c, is, old, x, ?_, ?_, ?_, ?_, ?_, ?_, r⟩
    · simpa [Addr.add] using h7 0 (by decide)
    · simpa [Addr.add] using h7 1 (by decide)
    · simpa [Addr.add] using h7 2 (by decide)
    · simpa [Addr.add] using h7 3 (by decide)
    · simpa [Addr.add] using h7 4 (by decide)
    · simpa [Addr.add] using h7 5 (by decide)
end Go.Proofs.Ytlahpnigabfenaa.Mm

/- Layer 6: Of; the walk of MemOf. -/
namespace Go.Proofs.Ytlahpnigabfenaa.Mm
open Go.RowKit
set_option linter.unusedVariables false
set_option linter.unusedSimpArgs false

theorem add_at (g off j : Nat) : ((⟨g, off, none⟩ : Addr).add j) = ⟨g, off + j, none⟩ := by
  unfold Addr.add; split <;> simp_all
theorem memAt_heap {w : World} {b g n : Nat} {f : Nat → Int} {T U : TypeId} {acc : Int} {flt : Bool} (hb : w.heap[b]? = some (.cells #[.slice (some ⟨g, 0, none⟩) n n, .int .i64 acc, .bool flt] T (0, 0))) (hg : w.heap[g]? = some (.cells (wordsL n f).toArray U (0, 0))) (ne : b ≠ g)
    (n1 : 1 ≤ n) (n2 : n ≤ 4096) (rng : ∀ i, i < n → 0 ≤ f i ∧ f i < 18446744073709551616) : MemAt w b g n n f acc flt where
  h0 := by rw [cell_of_row _ b 0 _ _ _ hb]; rfl
  h1 := by rw [cell_of_row _ b 1 _ _ _ hb]; rfl
  h2 := by rw [cell_of_row _ b 2 _ _ _ hb]; rfl
  hb i := frozen_of_row _ b i _ _ hb
  row i hi := by rw [cell_of_row _ g i _ _ _ hg]; simpa using wordsL_get n f i hi
  hg i := frozen_of_row _ g i _ _ hg
  ne := ne
  bl := (Array.getElem?_eq_some_iff.1 hb).1
  gl := (Array.getElem?_eq_some_iff.1 hg).1
  nC := Nat.le_refl _
  n1 := n1
  n2 := n2
  cC := by omega
  rng := rng
theorem own_full {w : World} {B g : Nat} {e : TypeId} {n : Nat} {L : List Value} (h : w.ownsRow B e 1 (.slice (some ⟨g, 0, none⟩) n n) n L) (hn : 0 < n) : w.heap[g]? = some (.cells L.toArray e (0, 0)) := by
  rcases h.2 with ⟨hv, h0⟩ | ⟨g', cap, cur, hv, hg, hh, hc, hm, hs, ht⟩
  · omega
  · simp only [Value.slice.injEq, Option.some.injEq, Addr.mk.injEq] at hv
    obtain ⟨⟨rfl, _⟩, _, rfl⟩ := hv
    rw [List.take_of_length_le (by simp; omega)] at ht
    rw [hh, ← ht]
theorem mnew_row (n : Nat) (w : World) (n1 : 1 ≤ n) (n2 : n ≤ 4096) : Calls Try.prog 54 #[.int .i64 n] w fun e w' => ∃ b g T, e = .returned (.pointer (some ⟨b, 0, none⟩)) ∧ w.heap.size ≤ b ∧ w.heap.size ≤ g ∧ b ≠ g ∧
    w'.heap[b]? = some (.cells #[.slice (some ⟨g, 0, none⟩) n n, .int .i64 0, .bool false] T (0, 0)) ∧ w'.heap[g]? = some (.cells (wordsL n fun _ => 0).toArray 22 (0, 0)) ∧ Below w.heap.size w w' := by
  obtain ⟨i0, hi, hz0, hz1, hz2⟩ := info_parts info64
  refine Calls.veil fun Q HQ => ?_
  have m1 : ¬ (n : Int) < 1 := by omega
  have m2 : ¬ (4096 : Int) < n := by omega
  go_enter Try.func54, Try.ntmps54
  go_wp2_with (refine wpList_make_full _ rfl (.tmp 9) (.tmp 9) 32 rfl w.heap.size 22 i0 _ 1 u64s hi hz0 hz1 .i64 .i64 _ _ n rfl rfl rfl rfl (by rw [hz2]; omega) (by unfold maxLen; omega) (Nat.le_refl _) ?_)
  intro w1 hown hgrow
  rw [made_words] at hown
  have hh := own_full hown n1
  have hb : Below w.heap.size w w1 := (Below.refl _ _).grown hgrow (Nat.le_refl _) (by intro k hk; cases hk)
  have H := Lib.hid hh
  clear hh hown hgrow
  go_wp2_with fail
  (try go_ret)
  rw [HQ.out]
  have hlt := (Array.getElem?_eq_some_iff.1 H.out).1
  exact ⟨w1.heap.size, w.heap.size, _, rfl, hb.size, Nat.le_refl _, by omega, heap_alloc_new _ _, (Below.heap_alloc _ _ _ hlt).trans H.out, below_new hb _⟩
theorem size64 : (Try.prog.info? 22).map (·.size) = some 1 := by kernel_rfl
theorem mof_no (ao : Option Addr) (len cap : Nat) (w : World) (h : len < 1 ∨ 4096 < len) (hl : len ≤ 9223372036854775807) : Calls Try.prog 29 #[.slice ao len cap] w fun e w' => e = .returned (.pointer none) ∧ Below w.heap.size w w' := by
  go_enter Try.func29, Try.ntmps29
  go_wp2_with fail
  refine (mnew_no len w (by omega)).mono ?_; rintro _ w2 ⟨rfl, rfl⟩
  go_wp2_with fail
  go_ret
  exact ⟨rfl, Below.refl _ _⟩
set_option maxHeartbeats 1000000 in
theorem mof (g0 off n cap : Nat) (f : Nat → Int) (w : World) (n1 : 1 ≤ n) (n2 : n ≤ 4096) (nc : n ≤ cap) (hc : cap ≤ 9223372036854775807) (h : ∀ i, i < n → w.cell? ⟨g0, off + i, none⟩ = some (.int .u64 (f i))) (rng : ∀ i, i < n → 0 ≤ f i ∧ f i < 18446744073709551616) :
    Calls Try.prog 29 #[.slice (some ⟨g0, off, none⟩) n cap] w fun e w' => ∃ b g, e = .returned (.pointer (some ⟨b, 0, none⟩)) ∧ w.heap.size ≤ b ∧ w.heap.size ≤ g ∧ MemAt w' b g n n f 0 false ∧ Below w.heap.size w w' := by
  have H := Lib.hid h; have HR := Lib.hid rng
  clear h rng
  refine Calls.veil fun Q HQ => ?_
  go_enter Try.func29, Try.ntmps29
  go_wp2_with fail
  refine (mnew_row n w n1 n2).mono ?_; rintro _ w2 ⟨b, g, T, rfl, hb, hg, hne, hhb, hhg, hB⟩
  have h0 : w2.cell? ⟨b, 0, none⟩ = some (.slice (some ⟨g, 0, none⟩) n n) := by rw [cell_of_row _ b 0 _ _ _ hhb]; rfl
  have hsrc : ∀ j v, (wordsL n f)[j]? = some v → w2.cell? ((⟨g0, off, none⟩ : Addr).add j) = some v := by
    intro j v hj
    have hjn : j < n := by
      have := (List.getElem?_eq_some_iff.1 hj).1; rw [wordsL_len] at this; exact this
    rw [wordsL_get n f j hjn] at hj
    rw [← hj]
    rw [add_at]
    exact Ext.use (Ext.cells (H.out j hjn)) hB
  have HB := Lib.hid hhb; have HG := Lib.hid hhg; have HS := Lib.hid hsrc
  clear hhb hhg hsrc
  go_wp2_with (refine wpList_copy_own rfl (.tmp 12) (.tmp 13) 32 32 rfl 22 u64s size64 g 0 n n ⟨g0, off, none⟩ n cap rfl rfl _ _ HG.out (wordsL n f) (by rw [wordsL_len]; simp) HS.out (by simp [wordsL_len]) (one_words n f) ?_)
  generalize hV : World.setRow w2 g _ = V
  have e1 : V.heap[b]? = w2.heap[b]? := by rw [← hV]; exact setRow_other w2 g b _ hne
  have e2 : V.heap[g]? = some (.cells (wordsL n f).toArray 22 (0, 0)) := by
    rw [← hV]
    rw [setRow_heap w2 g _ _ _ (0, 0) HG.out]
    rw [List.drop_of_length_le (by simp [wordsL_len])]; simp
  have e3 : Below w.heap.size w V := by rw [← hV]; exact below_setRow hB hg _
  have HM := Lib.hid (memAt_heap (e1.trans HB.out) e2 hne n1 n2 HR.out)
  clear hV e1 e2
  go_wp2_with fail
  (try go_ret)
  rw [HQ.out]
  exact ⟨b, g, rfl, hb, hg, HM.out, e3⟩
theorem words_open {w : World} {v : Value} (h : Fr.ok1 w (.slice [.int .u64]) v) : ∃ ao len cap, v = .slice ao len cap ∧ len ≤ cap ∧ cap ≤ 9223372036854775807 ∧ (0 < len → ∃ g off, ao = some ⟨g, off, none⟩ ∧ ∃ f : Nat → Int, ∀ i, i < len → w.cell? ⟨g, off + i, none⟩ = some (.int .u64 (f i)) ∧ 0 ≤ f i ∧ f i < 18446744073709551616) := by
  rcases Fr.get_slice h with rfl | ⟨a, len, cap, rfl, h1, h2, h3⟩
  · exact ⟨none, 0, 0, rfl, Nat.le_refl _, by decide, fun hi => by omega⟩
  · refine ⟨some a, len, cap, rfl, h1, h2, fun hi => ?_⟩
    have key : ∀ i, i < len → ∃ n : Int, w.cell? (a.add i) = some (.int .u64 n) ∧ 0 ≤ n ∧ n < 18446744073709551616 := by
      intro i hi
      obtain ⟨cs, h5, h6⟩ := h3 i (by omega)
      obtain ⟨_, _, rfl, k0, h6⟩ := Fr.get_cons h6
      obtain rfl := Fr.get_nil h6
      obtain ⟨n, rfl, wn⟩ := Fr.get_int k0
      obtain ⟨_, _, h7⟩ := World.cells?_some h5
      have h8 := h7 0 (by simp)
      refine ⟨n, ?_, wfu64m wn⟩
      have e : (a.add (i * [Fr.Sh.int IntKind.u64].length)).add 0 = a.add i := by simp [Addr.add]
      rw [e] at h8; simpa using h8
    obtain ⟨n0, k0, _⟩ := key 0 hi
    have hs : a.spot = none := World.cell?_spot (by simpa [Addr.add] using k0)
    obtain ⟨g, off, spot⟩ := a
    simp only at hs
    subst hs
    have key2 : ∀ i, i < len → ∃ n : Int, w.cell? ⟨g, off + i, none⟩ = some (.int .u64 n) ∧ 0 ≤ n ∧ n < 18446744073709551616 := by
      intro i hi
      have := key i hi
      rw [add_at] at this; exact this
    refine ⟨g, off, rfl, fun i => if hi : i < len then Classical.choose (key2 i hi) else 0, fun i hi => ?_⟩
    simp only [dif_pos hi]
    exact Classical.choose_spec (key2 i hi)

end Go.Proofs.Ytlahpnigabfenaa.Mm
