/- Layer 42: lives. -/
import Derived.Test.YtaammkmnhhipgaaShrK
namespace Go.Proofs.Ytaammkmnhhipgaa
open Go.RowKit
set_option linter.unusedVariables false
set_option linter.unusedSimpArgs false
theorem cf18 : ∀ (args : Array Value) (w : World), (callFunc 18 args).run Try.prog w = .ok (.enter 18 args) w := by
  intro args w
  go_simp
def two (l : List Ent) : Bool := decide (2 ≤ l.length)
theorem says18 (T S C : Int) : Says 18 #[] T S C two (fun _ => True) := by
  intro l u w _ h hn
  obtain ⟨p, c, rfl, a1, a2⟩ := h.slice
  show Calls _ _ #[.agg #[.int .i64 T, .int .i64 S, .int .u64 C, .slice p l.length c]] _ _
  refine Calls.veil fun Q HQ => ?_
  clear h
  rcases (by omega : 2 ≤ l.length ∨ l.length < 2) with h2 | h2
  all_goals
    go_enter Try.func18, Try.ntmps18
    go_wp2_with fail
    (try go_ret)
    rw [HQ.out]
    refine ⟨?_, by (repeat (first | exact Below.refl _ _ | assumption | refine below_new ?_ _ | refine Below.drew ?_ | refine below_drewN ?_ _ | refine below_on ?_ (by assumption)))⟩
    unfold two
    first | rfl | (simp; done) | (simp; omega) | (congr 2; simp; omega)
def en (t : Int) : Ent := ⟨t, false, 0, 0, 0, 0, 0⟩
theorem least3 : leastF two [en 1, en 2, en 3] = ([en 2, en 3], 6) := by rfl
set_option maxHeartbeats 2000000 in
theorem lives42_calls (w : World) : Calls Try.prog 6 #[] w fun e w' => e = .returned (.bool true) ∧ Below w.heap.size w w' := by
  refine Calls.veil fun Q HQ => ?_
  go_enter Try.func6, Try.ntmps6
  go_wp2_with fail
  generalize hV : World.alloc w _ = V
  have HB := Lib.hid (show Below w.heap.size w V by rw [← hV]; (repeat (first | exact Below.refl _ _ | assumption | refine below_new ?_ _ | refine Below.drew ?_ | refine below_drewN ?_ _ | refine below_on ?_ (by assumption))))
  have HO := Lib.hid (show EL V (.slice (some ⟨w.heap.size, 0, none⟩) 3 3) [en 1, en 2, en 3] by
    rw [← hV]
    exact own_EL (show OwnL _ w.heap.size _ [en 1, en 2, en 3] from ⟨rfl, .inr ⟨_, 3, _, rfl, Nat.le_refl _, heap_alloc_new w _, Nat.le_refl _, by decide, rfl, rfl⟩⟩))
  clear hV
  refine (sleast 0 0 0 (.slice (some ⟨w.heap.size, 0, none⟩) 3 3) 18 #[] [en 1, en 2, en 3] V two (fun _ => True) HO.out (by decide) (says18 0 0 0) (fun _ _ _ _ _ _ => trivial) trivial cf18).mono ?_
  rw [least3]
  rintro _ w2 ⟨v2, rfl, he2, hb2⟩
  have HB2 := Lib.hid (below_on HB.out hb2)
  obtain ⟨p2, c2, rfl, d1, d2, D3⟩ := ER.parts he2
  obtain ⟨g, o, rfl, hA⟩ := D3.out (by decide)
  have hA0 := (hA.cells 0 (by decide)).1
  have hA1 := (hA.cells 1 (by decide)).1
  have e0 : (fn [en 2, en 3] 0).th = 2 := rfl
  have e1 : (fn [en 2, en 3] 1).th = 3 := rfl
  rw [e0] at hA0
  rw [e1] at hA1
  simp only [Nat.zero_mul, Nat.add_zero, Nat.one_mul] at hA0 hA1
  simp only [List.length_cons, List.length_nil] at d1
  have HL : ([en 2, en 3] : List Ent).length = 2 := rfl
  rw [HL]
  clear he2 hb2 D3 hA
  clear HL e0 e1
  go_upto_region 2 with fail
  generalize hU : World.alloc w2 _ = U
  have s3 : U.cell? ⟨w2.heap.size, 3, none⟩ = some (.slice (some ⟨g, o, none⟩) 2 c2) := Ext.made hU 3 _ rfl ⟨U, Below.refl _ _⟩
  have hA0 : U.cell? ⟨g, o, none⟩ = some (.int .i64 2) := by rw [← hU]; exact Ext.on hA0 _
  have hA1 : U.cell? ⟨g, o + 7, none⟩ = some (.int .i64 3) := by rw [← hU]; exact Ext.on hA1 _
  have HF := Lib.hid (show Below w.heap.size w U by rw [← hU]; exact HB2.out.alloc HB2.out.size _)
  clear hU
  go_wp2_with fail
  (try go_ret)
  rw [HQ.out]
  exact ⟨rfl, HF.out⟩
end Go.Proofs.Ytaammkmnhhipgaa
