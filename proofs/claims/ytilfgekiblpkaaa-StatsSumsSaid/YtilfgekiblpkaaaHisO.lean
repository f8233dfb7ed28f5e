/- Layer 11: opers of no history; the reference's Same, of opers that are the same. -/
import Derived.Test.YtilfgekiblpkaaaHisM
namespace Go.Proofs.Ytilfgekiblpkaaa
open Go.RowKit
set_option linter.unusedVariables false
set_option linter.unusedSimpArgs false
theorem hopers0 (n : Nat) (L : Nat → Ev) (v : Value) (w : World) (h : VR w v n L) (hn : n ≤ 1000) (hm : mayH L n = false) : Calls Try.prog 15 #[v] w fun e w' => e = .returned (.slice none 0 0) ∧ Below w.heap.size w w' := by
  refine Calls.veil fun Q HQ => ?_
  have HM := Lib.hid (hmay n L v w h hn)
  rw [hm] at HM
  obtain ⟨p, c, rfl, a1, a2, A3⟩ := h.parts
  clear h hm
  go_enter Try.func15, Try.ntmps15
  go_wp2_with fail
  refine HM.out.mono ?_; rintro _ w1 ⟨rfl, hb1⟩
  have HB := Lib.hid hb1
  clear hb1
  go_wp2_with fail
  (try go_ret)
  rw [HQ.out]
  exact ⟨rfl, HB.out⟩
theorem ropers0 (n : Nat) (L : Nat → Ev) (v : Value) (w : World) (h : VR w v n L) (hn : n ≤ 1000) (hm : mayH L n = false) : Calls Try.prog 9 #[v] w fun e w' => e = .returned (.slice none 0 0) ∧ Below w.heap.size w w' := by
  refine Calls.veil fun Q HQ => ?_
  have HM := Lib.hid (rmay11 n L v w h hn)
  rw [hm] at HM
  obtain ⟨p, c, rfl, a1, a2, A3⟩ := h.parts
  clear h hm
  go_enter Try.func9, Try.ntmps9
  go_wp2_with fail
  refine HM.out.mono ?_; rintro _ w1 ⟨rfl, hb1⟩
  have HB := Lib.hid hb1
  clear hb1
  go_wp2_with fail
  (try go_ret)
  rw [HQ.out]
  exact ⟨rfl, HB.out⟩
theorem sameB_self (l : PL) : sameB l l = true := by simp [sameB]
set_option maxHeartbeats 1000000 in
theorem rsame9e (a : An) (v v' : Value) (w : World) (h : PR w v a.ps) (h' : PR w v' a.ps) (hn : a.ps.length ≤ 100000) : Calls Try.prog 23 #[.agg #[.int .i64 a.kind, .int .i64 a.key, .int .i64 a.val, .int .i64 a.n, v], .agg #[.int .i64 a.kind, .int .i64 a.key, .int .i64 a.val, .int .i64 a.n, v']] w fun e w' => e = .returned (.bool true) ∧ Below w.heap.size w w' := by
  obtain ⟨k, key, val, n, l⟩ := a
  simp only at *
  have HP := Lib.hid h; have HP' := Lib.hid h'
  obtain ⟨p, c, rfl, _, _⟩ := h.slice
  obtain ⟨p', c', rfl, _, _⟩ := h'.slice
  clear h h'
  refine Calls.veil fun Q HQ => ?_
  have RS := fun W (hb : Below w.heap.size w W) => rsame l l _ _ W (HP.out.below hb) (HP'.out.below hb) hn
  rw [sameB_self] at RS
  have RS := Lib.hid RS
  go_enter Try.func23, Try.ntmps23
  go_wp2_with fail
  refine (RS.out _ (by (repeat (first | exact Below.refl _ _ | assumption | refine below_new ?_ _ | refine Below.drew ?_ | refine below_drewN ?_ _ | refine below_on ?_ (by assumption))))).mono ?_; rintro _ w1 ⟨rfl, hb⟩
  have HB := Lib.hid (below_on (below_new (below_new (Below.refl w.heap.size w) _) _) hb)
  clear hb
  go_wp2_with fail
  (try go_ret)
  rw [HQ.out]
  exact ⟨rfl, HB.out⟩
end Go.Proofs.Ytilfgekiblpkaaa
