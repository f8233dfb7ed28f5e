/- Layer 12: the law's great; Legal; the places of an order of one, and its May. -/
import Derived.Test.YtopjnoglbncnhaaLegD
import Derived.Maps.OwnSet
namespace Go.Proofs.Ytopjnoglbncnhaa
open Go.RowKit Go.Maps
set_option linter.unusedVariables false
set_option linter.unusedSimpArgs false
theorem ord_open {w : World} {v : Value} (h : Fr.ok1 w (.slice [.int .i64]) v) : ∃ m ord, OrdR w v m ord := by
  rcases Fr.get_slice h with rfl | ⟨a, len, cap, rfl, h1, h2, h3⟩
  · exact ⟨0, fun _ => 0, none, 0, rfl, Nat.le_refl _, by decide, fun i hi => by omega⟩
  · have key : ∀ i, i < len → ∃ (x : Int) (g off : Nat), a = ⟨g, off, none⟩ ∧ w.cell? ⟨g, off + i, none⟩ = some (.int .i64 x) := by
      intro i hi
      have hs : a.spot = none := by
        obtain ⟨cs0, h5, h6⟩ := h3 0 (by omega)
        obtain ⟨_, _, rfl, k0, h6⟩ := Fr.get_cons h6
        have h7 := (World.cells?_some h5).2.2 0 (by show 0 < 1; omega)
        exact World.cell?_spot (by simpa [Addr.add] using h7)
      obtain ⟨g, off, spot⟩ := a
      simp only at hs
      subst hs
      obtain ⟨cs, h5, h6⟩ := h3 i (by omega)
      obtain ⟨_, _, rfl, k0, h6⟩ := Fr.get_cons h6
      obtain rfl := Fr.get_nil h6
      obtain ⟨x, rfl, _⟩ := Fr.get_int k0
      have h7 := (World.cells?_some h5).2.2 0 (by show 0 < 1; omega)
      have e1 : ((⟨g, off, none⟩ : Addr).add (i * 1)) = ⟨g, off + i, none⟩ := by
        simp [Addr.add] <;> (intro hh; subst hh; rfl)
      have e2 : ([.int .i64] : List Fr.Sh).length = 1 := rfl
      rw [e2, e1] at h7
      exact ⟨x, g, off, rfl, by simpa [Addr.add] using h7⟩
    have key2 : ∀ i, ∃ x : Int, i < len → ∃ g off, a = ⟨g, off, none⟩ ∧ w.cell? ⟨g, off + i, none⟩ = some (.int .i64 x) := by
      intro i
      by_cases hi : i < len
      · obtain ⟨x, h⟩ := key i hi; exact ⟨x, fun _ => h⟩
      · exact ⟨0, fun h => absurd h hi⟩
    refine ⟨len, fun i => (key2 i).choose, some a, cap, rfl, h1, h2, fun i hi => ?_⟩
    obtain ⟨g, off, e, h⟩ := (key2 i).choose_spec hi
    exact ⟨g, off, by rw [e], h⟩
set_option maxRecDepth 8000 in
theorem lgreat {w : World} {ov rv : Value} {n m : Nat} {O : Nat → Op13} {fv : Nat → Value} {ord : Nat → Int} (hO : OpR w ov n O fv) (hr : OrdR w rv m ord) :
    Calls Try.prog 4 #[ov, rv] w fun e w' => ∃ b, e = .returned (.bool b) ∧ Below w.heap.size w w' ∧ (b = false → n ≤ 50 ∧ m ≤ 60 ∧ ∀ i, i < n → (O i).a.ps.length ≤ 1500) := by
  refine Calls.veil fun Q HQ => ?_
  obtain ⟨oa, ocap, rfl, oc1, oc2, hO⟩ := hO
  obtain ⟨ra, rcap, rfl, rc1, rc2, hr⟩ := hr
  have HO := Lib.hid hO
  clear hO hr
  go_enter Try.func4, Try.ntmps4
  go_wp2_with fail
  go_loopw [5] (fun iv wr => ∃ i : Nat, i ≤ n ∧ i ≤ 60 ∧ iv = .int .i64 i ∧ Hid (∀ k, k < i → (O k).a.ps.length ≤ 1500) ∧ Hid (Below w.heap.size w wr))
    (fun iv _ => 60 - (intOf iv).toNat)
  case atStart => exact ⟨0, Nat.zero_le _, by omega, rfl, Lib.hid fun k hk => by omega, Lib.hid (Below.refl _ _)⟩
  case round =>
    obtain ⟨i, hi, hi6, rfl, HL, HB⟩ := hrel
    rcases (by omega : (i < n ∧ i < 60) ∨ (i < n ∧ i = 60) ∨ i = n) with ⟨h1, h2⟩ | ⟨h1, h2⟩ | h1
    · obtain ⟨g, off, rfl, hc⟩ := HO.out i h1
      have hc := hc.below HB.out
      obtain ⟨⟨_, _, _, _, _, o10, hpr⟩, _, _⟩ := hc
      obtain ⟨r, rc, hrv, q1, q2⟩ := hpr.slice
      rw [hrv] at o10
      obtain ⟨k, hk⟩ : ∃ k, k = (O i).a.ps.length := ⟨_, rfl⟩
      rw [← hk] at o10 q1
      have HK := Lib.hid hk
      have hii : (i : Int) < n := by omega
      have hi60 : (i : Int) < 60 := by omega
      clear hpr hrv hk
      rcases (by omega : 1500 < k ∨ k ≤ 1500) with hh | hh
      · have hh' : (1500 : Int) < k := by omega
        go_wp2_with fail
        (try go_ret)
        rw [HQ.out]
        exact ⟨true, rfl, HB.out, fun h => by cases h⟩
      · have hh' : ¬ (1500 : Int) < k := by omega
        have HH := Lib.hid hh
        clear hh
        go_wp2_with fail
        go_roundw
        case rel => exact ⟨i + 1, by omega, by omega, by go_num, Lib.hid fun j hj => (by rcases (by omega : j < i ∨ j = i) with h | h; exact HL.out j h; subst h; rw [← HK.out]; exact HH.out), HB⟩
        case measure => simp [intOf]; omega
    · have hii : (i : Int) < n := by omega
      have h50 : (50 : Int) < n := by omega
      subst h2
      go_wp2_with fail
      (try go_ret)
      rw [HQ.out]
      exact ⟨true, rfl, HB.out, fun h => by cases h⟩
    · subst h1
      rcases (by omega : 50 < i ∨ (i ≤ 50 ∧ 60 < m) ∨ (i ≤ 50 ∧ m ≤ 60)) with h5 | ⟨h5, h6⟩ | ⟨h5, h6⟩
      · have h5' : (50 : Int) < i := by omega
        go_wp2_with fail
        (try go_ret)
        rw [HQ.out]
        exact ⟨true, rfl, HB.out, fun h => by cases h⟩
      · have h5' : ¬ (50 : Int) < i := by omega
        have h6' : (60 : Int) < m := by omega
        go_wp2_with fail
        (try go_ret)
        rw [HQ.out]
        exact ⟨true, rfl, HB.out, fun h => by cases h⟩
      · have h5' : ¬ (50 : Int) < i := by omega
        have h6' : ¬ (60 : Int) < m := by omega
        have H5 := Lib.hid h5; have H6 := Lib.hid h6
        clear h5 h6
        go_wp2_with fail
        (try go_ret)
        rw [HQ.out]
        exact ⟨false, rfl, HB.out, fun _ => ⟨H5.out, H6.out, HL.out⟩⟩
set_option maxRecDepth 8000 in
theorem llegal {w : World} {ov rv : Value} {n m : Nat} {O : Nat → Op13} {fv : Nat → Value} {ord : Nat → Int} (hO : OpR w ov n O fv) (hr : OrdR w rv m ord) (hk : ∀ i, i < n → (-9223372036854775808 ≤ (O i).c.key ∧ (O i).c.key ≤ 9223372036854775807) ∧ (O i).a.ps.length ≤ 1500) (hn : n ≤ 50) (hm : m ≤ 60) (t : Int) :
    Calls Try.prog 8 #[ov, rv, .int .i64 t] w fun e w' => e = .returned (.bool (behT (behN O n ord (clampN t) m)).2) ∧ Below w.heap.size w w' := by
  refine Calls.veil fun Q HQ => ?_
  have LB := lbehind hO hr hk hn hm t
  unfold BehP at LB
  obtain ⟨oa, ocap, rfl, _, _, _⟩ := hO
  obtain ⟨ra, rcap, rfl, _, _, _⟩ := hr
  obtain ⟨xx, hxx⟩ : ∃ x, x = behT (behN O n ord (clampN t) m) := ⟨_, rfl⟩
  rw [← hxx] at LB HQ
  obtain ⟨s, b⟩ := xx
  clear hxx hk
  simp only [ToP] at LB
  have LB := Lib.hid LB
  go_enter Try.func8, Try.ntmps8
  go_wp2_with fail
  refine LB.out.mono ?_; rintro _ w1 ⟨mv, tv, rfl, hp, ht, hb⟩
  obtain ⟨p, pc, rfl, _, _⟩ := hp.1.slice
  obtain ⟨q, qc, rfl, _, _, _⟩ := ht.slice
  have HB := Lib.hid hb
  clear hp ht hb LB
  simp only
  go_wp2_with fail
  (try go_ret)
  rw [HQ.out]
  exact ⟨rfl, below_on HB.out (by (repeat (first | exact Below.refl _ _ | assumption | refine below_new ?_ _ | refine Below.drew ?_ | refine below_drewN ?_ _ | refine below_on ?_ (by assumption))))⟩
theorem gLaw12 : Keyed Try.prog 3 := int_keyed (q := .i64) (by kernel_rfl)
theorem uMap12 : Try.prog.underlying 55 = some (.map 3 58) := by kernel_rfl
theorem uInt12 : Try.prog.underlying 3 = some (.int .i64) := by kernel_rfl
theorem zUnit12 (w : World) : (zeroValue 58).run Try.prog w = .ok (.agg #[]) w := by kernel_rfl
def keyL (i : Nat) : Lit := .int .i64 (i : Int)
theorem keyL_key {i : Nat} (hi : i < 250) : keyOf Try.prog 3 (.int .i64 (i : Int)) = some (keyL i) := keyOf_int_mk uInt12 (WalkArith.wf_i64 (by omega))
theorem keyL_ne {i j : Nat} (h : j ≠ i) : keyL j ≠ keyL i := by
  intro e; unfold keyL at e; injection e; omega
/-- A set of one place. -/
def Set1 (w : World) (b j : Nat) : Prop := ∃ D : DataW Unit, w.ownsMap Try.prog 3 (unitElem (H := Unit)) b 1 D ∧ (∀ i, Maps.has D (keyL i) = decide (i = j)) ∧ Maps.size D = 1
set_option maxRecDepth 8000 in
theorem lplaces {w : World} {ov rv : Value} {n : Nat} {O : Nat → Op13} {fv : Nat → Value} {j : Nat} (hO : OpR w ov n O fv) (hr : OrdR w rv 1 (fun _ => (j : Int))) (hj : j < n) (hn : n ≤ 50) :
    Calls Try.prog 17 #[ov, rv] w fun e w' => ∃ b, e = .returned (.tuple #[.map (some b), .bool true]) ∧ Set1 w' b j ∧ Below w.heap.size w w' := by
  refine Calls.veil fun Q HQ => ?_
  obtain ⟨oa, ocap, rfl, oc1, oc2, _⟩ := hO
  obtain ⟨ra, rcap, rfl, rc1, rc2, hr⟩ := hr
  obtain ⟨g, off, rfl, hc⟩ := hr 0 (by omega)
  have hc := Ext.on hc
  have hc0 := hc (.map #[] 0)
  have hji : (j : Int) < n := by omega
  have hmm := @run_makeMap Try.prog
  clear hr hc
  simp only [Nat.add_zero] at hc0
  have hown := World.ownsMap_made w Try.prog 3 (unitElem (H := Unit))
  obtain ⟨w', hrun, hw, hg⟩ := hown.update gLaw12 uMap12 (by unfold maxLen; omega) (keyL_key (i := j) (by omega)) unitElem_mk
  have hb : Below w.heap.size w w' := ⟨hg.os, hg.tape, hg.output, by have := hg.size; simp at this; omega, fun k hk => by
    rw [hg.block k (by simp; omega) (by simp; omega)]
    exact (below_new (Below.refl w.heap.size w) _).block k hk⟩
  have HB := Lib.hid hb
  have HS := Lib.hid (show Set1 w' w.heap.size j from by
    refine ⟨_, hw, fun i => ?_, ?_⟩
    · by_cases e : i = j
      · subst e
        rw [has_put_same hown.isMap (show WideAt.IsKeyLit (keyL i) from trivial)]; simp
      · rw [has_put_other (keyL_ne e), decide_eq_false e]; rfl
    · rw [size_put (hown.tidy gLaw12)]; rfl)
  clear hw hg hown hb
  go_enter Try.func17, Try.ntmps17
  go_wp2_with fail
  go_loopw [12] (fun iv wr => ∃ i : Nat, i ≤ 1 ∧ iv = .int .i64 i ∧ (i = 0 → wr = w.alloc (.map #[] 0)) ∧ (i = 1 → wr = w'))
    (fun iv _ => 1 - (intOf iv).toNat)
  case atStart => exact ⟨0, by omega, rfl, fun _ => rfl, fun h => by omega⟩
  case round =>
    obtain ⟨i, hi, rfl, h0, h1⟩ := hrel
    rcases (by omega : i = 0 ∨ i = 1) with rfl | rfl
    · obtain rfl := h0 rfl
      clear h1
      go_wp2_with fail
      go_roundw
      case rel => exact ⟨1, by omega, by go_num, fun h => by omega, fun _ => (by first | rfl | trivial)⟩
      case measure => simp [intOf] <;> omega
    · obtain rfl := h1 rfl
      clear h0 hrun hc0
      go_wp2_with fail
      (try go_ret2)
      rw [HQ.out]
      exact ⟨_, by simp, HS.out, HB.out⟩
end Go.Proofs.Ytopjnoglbncnhaa
