/- Layer 10: bad. -/
import Derived.Test.YtkgfhomoipbjoaaDoorModH
namespace Go.Proofs.YtkgfhomoipbjoaaDoor
open Go.RowKit
set_option linter.unusedVariables false
set_option linter.unusedSimpArgs false
/-- Of a session that is there, and a call that may be. -/
def badS (s : Se) (op : Int) : Bool := (s.j == (op == 13)) || (if op = 14 ∨ op = 9 then s.o else if op = 10 ∨ op = 11 ∨ op = 12 then !s.o else false)
def badB (n : Nat) (th : Nat → Se) (t : Int) (c : Ca) : Bool := !(decide (0 ≤ t ∧ t < n) && mayB c.op c.key c.hi c.lim) || badS (th t.toNat) c.op
set_option maxRecDepth 8000 in
set_option maxHeartbeats 2000000 in
theorem mbad_off {w : World} {S n cc : Nat} {p : Option Addr} (hS : w.cell? ⟨S, 1, none⟩ = some (.slice p n cc)) (t op key val hi lim : Int) (ht : ¬ (0 ≤ t ∧ t < n)) :
    Calls Tryd.prog 30 #[.pointer (some ⟨S, 0, none⟩), .int .i64 t, .agg #[.int .i64 op, .int .i64 key, .int .i64 val, .int .i64 hi, .int .i64 lim]] w fun e w' => e = .returned (.bool true) ∧ Below w.heap.size w w' := by
  refine Calls.veil fun Q HQ => ?_
  have HS := Lib.hid hS
  clear hS
  rcases (by omega : t < 0 ∨ (0 ≤ t ∧ n ≤ t)) with q | ⟨q, q2⟩
  all_goals
    clear ht
    go_enter Tryd.func30, Tryd.ntmps30
    go_upto_region 1 with fail
    generalize hU : World.alloc _ _ = U
    have HBU := Lib.hid (show Below w.heap.size w U by rw [← hU]; (repeat (first | exact Below.refl _ _ | assumption | refine below_new ?_ _ | refine Below.drew ?_ | refine below_drewN ?_ _ | refine below_on ?_ (by assumption))))
    have s1 := Ext.use (Ext.cells HS.out) HBU.out
    clear hU
    go_wp2_with fail
    (try go_ret)
    rw [HQ.out]
    exact ⟨rfl, HBU.out⟩
set_option maxRecDepth 8000 in
set_option maxHeartbeats 4000000 in
theorem mbad_on {w : World} {S g i n cc : Nat} {s : Se} {fv : Value} (hS : w.cell? ⟨S, 1, none⟩ = some (.slice (some ⟨g, 0, none⟩) n cc)) (hs : SeC w g (i * 4) s fv) (hi : i < n) (op key val hi' lim : Int) :
    Calls Tryd.prog 30 #[.pointer (some ⟨S, 0, none⟩), .int .i64 i, .agg #[.int .i64 op, .int .i64 key, .int .i64 val, .int .i64 hi', .int .i64 lim]] w fun e w' => e = .returned (.bool (!mayB op key hi' lim || badS s op)) ∧ Below w.heap.size w w' := by
  refine Calls.veil fun Q HQ => ?_
  have HS := Lib.hid hS
  have HSE := Lib.hid hs
  obtain ⟨p9, c9, e9, _, _⟩ := hs.p.1.slice
  have HE9 := Lib.hid e9
  have hii : (i : Int) < n := by omega
  have hi0 : ¬ (i : Int) < 0 := by omega
  clear hS hs e9
  go_enter Tryd.func30, Tryd.ntmps30
  go_upto_region 1 with fail
  generalize hU : World.alloc _ _ = U
  have hBU : Below w.heap.size w U := by rw [← hU]; (repeat (first | exact Below.refl _ _ | assumption | refine below_new ?_ _ | refine Below.drew ?_ | refine below_drewN ?_ _ | refine below_on ?_ (by assumption)))
  obtain ⟨B, hB⟩ : ∃ B, B = w.heap.size := ⟨_, rfl⟩
  have z0 : U.cell? ⟨B, 0, none⟩ = some (.int .i64 op) := by rw [hB]; exact Ext.made_in hU (Below.refl _ _) 0 _ rfl
  have z1 : U.cell? ⟨B, 1, none⟩ = some (.int .i64 key) := by rw [hB]; exact Ext.made_in hU (Below.refl _ _) 1 _ rfl
  have z2 : U.cell? ⟨B, 2, none⟩ = some (.int .i64 val) := by rw [hB]; exact Ext.made_in hU (Below.refl _ _) 2 _ rfl
  have z3 : U.cell? ⟨B, 3, none⟩ = some (.int .i64 hi') := by rw [hB]; exact Ext.made_in hU (Below.refl _ _) 3 _ rfl
  have z4 : U.cell? ⟨B, 4, none⟩ = some (.int .i64 lim) := by rw [hB]; exact Ext.made_in hU (Below.refl _ _) 4 _ rfl
  have s1 := Ext.use (Ext.cells HS.out) hBU
  have HBU := Lib.hid hBU
  rw [← hB]
  clear hU hBU hB
  go_wp2_with fail
  refine (cmay op key val hi' lim U).mono ?_; rintro _ w1 ⟨rfl, hb1⟩
  have z0 := Ext.use (Ext.cells z0) hb1
  have s1 := Ext.use (Ext.cells s1) hb1
  have HB1 := Lib.hid (HBU.out.trans (hb1.mono HBU.out.size))
  obtain ⟨t0, t1, t2, t3, _⟩ := HSE.out.below HB1.out
  rw [HE9.out] at t2
  clear hb1 z1 z2 z3 z4
  cases hm : mayB op key hi' lim with
  | false =>
    rw [hm] at HQ
    clear hm
    go_wp2_with fail
    (try go_ret)
    rw [HQ.out]
    exact ⟨by first | rfl | simp, HB1.out⟩
  | true =>
    rw [hm] at HQ
    clear hm
    go_upto_region 4 with fail
    generalize hV : World.alloc w1 _ = V
    obtain ⟨Y, hY⟩ : ∃ Y, Y = w1.heap.size := ⟨_, rfl⟩
    have hbV : Below w1.heap.size w1 V := by rw [← hV]; (repeat (first | exact Below.refl _ _ | assumption | refine below_new ?_ _ | refine Below.drew ?_ | refine below_drewN ?_ _ | refine below_on ?_ (by assumption)))
    obtain ⟨sj, so, sf, sp⟩ := s
    simp only at t0 t1 t2 t3 HE9 hV
    have y0 : V.cell? ⟨Y, 0, none⟩ = some (.bool sj) := by rw [hY]; exact Ext.made_in hV (Below.refl _ _) 0 _ rfl
    have y1 : V.cell? ⟨Y, 1, none⟩ = some (.bool so) := by rw [hY]; exact Ext.made_in hV (Below.refl _ _) 1 _ rfl
    have z0 := Ext.use (Ext.cells z0) hbV
    have HBV := Lib.hid (HB1.out.trans (hbV.mono HB1.out.size))
    rw [← hY]
    unfold badS at HQ
    clear hV hbV hY t0 t1 t2 t3 s1 HE9 HSE
    rcases (by omega : op = 13 ∨ op = 14 ∨ op = 9 ∨ op = 10 ∨ op = 11 ∨ op = 12 ∨ (op ≠ 13 ∧ op ≠ 14 ∧ op ≠ 9 ∧ op ≠ 10 ∧ op ≠ 11 ∧ op ≠ 12)) with rfl | rfl | rfl | rfl | rfl | rfl | ⟨o13, o14, o9, o10, o11, o12⟩
    iterate 6
      case _ =>
        cases sj <;> cases so
        all_goals
          go_wp2_with fail
          (try go_ret)
          rw [HQ.out]
          exact ⟨rfl, HBV.out⟩
    have HF := Lib.hid (And.intro o13 (And.intro o14 (And.intro o9 (And.intro o10 (And.intro o11 o12)))))
    have o13 := neq_b o13
    have o14 := neq_b o14
    have o9 := neq_b o9
    have o10 := neq_b o10
    have o11 := neq_b o11
    have o12 := neq_b o12
    cases sj <;> cases so
    all_goals
      go_wp2_with fail
      (try go_ret)
      rw [HQ.out]
      obtain ⟨f1, f2, f3, f4, f5, f6⟩ := HF.out
      exact ⟨by simp [f1, f2, f3, f4, f5, f6, neq_b f1], HBV.out⟩
theorem mbad {w : World} {S : Nat} {tv : Value} {n : Nat} {th : Nat → Se} (hS : w.cell? ⟨S, 1, none⟩ = some tv) (h : TR w tv n th) (t : Int) (c : Ca) :
    Calls Tryd.prog 30 #[.pointer (some ⟨S, 0, none⟩), .int .i64 t, caV c] w fun e w' => e = .returned (.bool (badB n th t c)) ∧ Below w.heap.size w w' := by
  obtain ⟨op, key, val, hi, lim⟩ := c
  unfold badB caV
  simp only
  by_cases ht : 0 ≤ t ∧ t < n
  · obtain ⟨i, rfl⟩ : ∃ i : Nat, t = i := ⟨t.toNat, by omega⟩
    obtain ⟨p, cc, rfl, _, _, h3⟩ := h.slice
    obtain ⟨T, fv, rfl, hse⟩ := h3.out i (by omega)
    have := mbad_on hS hse (by omega) op key val hi lim
    rw [decide_eq_true ht, Int.toNat_natCast, Bool.true_and]
    exact this
  · obtain ⟨p, cc, rfl, _, _, h3⟩ := h.slice
    rw [decide_eq_false ht]
    exact mbad_off hS t op key val hi lim ht
end Go.Proofs.YtkgfhomoipbjoaaDoor
