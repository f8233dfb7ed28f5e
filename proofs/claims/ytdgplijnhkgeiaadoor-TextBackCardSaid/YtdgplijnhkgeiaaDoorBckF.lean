/- Layer 35: the walk of TextBack, VAR=W. (By gen_bckc.py.) -/
import Derived.Test.YtdgplijnhkgeiaaDoorBckD
import Derived.Test.YtdgplijnhkgeiaaDoorBckE
namespace Go.Proofs.YtdgplijnhkgeiaaDoor
open Go.RowKit
open Go.Lib (itoa)
set_option linter.unusedVariables false
set_option linter.unusedSimpArgs false
set_option maxRecDepth 16000 in
set_option maxHeartbeats 4000000 in
theorem textBack_walk (v0 v1 : Value) (w : World) (s0 : Fr.ok1 w (.slice [.int .i64, .bool, .int .i64, .int .i64, .int .i64, .int .i64, .int .i64, .int .i64, .int .i64, .int .i64, .int .i64, .slice [.int .i64, .int .i64]]) v0) (s1 : Fr.ok1 w (.str) v1) (hT : VB w.heap.size w) :
    Calls Tryd.prog 5 #[v0, v1] w fun e w' => e = .returned (.bool true) ∧ Below w.heap.size w w' := by
  obtain ⟨n, L, hv, he⟩ := events_open s0
  obtain ⟨s, rfl, hz⟩ := Fr.get_str s1
  obtain ⟨l, hl⟩ : ∃ l : List UInt8, s = ⟨l.toArray⟩ := ⟨s.data.toList, by simp⟩
  subst hl
  have HT := Lib.hid hT
  have hsz : (⟨l.toArray⟩ : ByteArray).size = l.length := by show l.toArray.size = _; simp
  by_cases j : 60 < n
  · refine Calls.veil fun Q HQ => ?_
    obtain ⟨p, c, rfl, hc1, hc2, HA⟩ := hv.parts
    have h1 : (60 : Int) < (n : Int) := by omega
    clear j s0 s1 hz hT hv he
    go_enter Tryd.func5, Tryd.ntmps5
    go_wp2_with fail
    refine (lives35_calls (HT.out.pw (Below.refl _ _))).mono ?_; rintro _ z9 ⟨rfl, hb⟩
    go_wp2_with fail
    (try go_ret)
    rw [HQ.out]
    exact ⟨rfl, below_on (Below.refl _ _) hb⟩
  by_cases j2 : 4000 < l.length
  · refine Calls.veil fun Q HQ => ?_
    obtain ⟨p, c, rfl, hc1, hc2, HA⟩ := hv.parts
    have h0 : ¬ (60 : Int) < (n : Int) := by omega
    have h1 : (4000 : Int) < (l.length : Int) := by omega
    clear j j2 s0 s1 hz hT hv he
    go_enter Tryd.func5, Tryd.ntmps5
    go_wp2_with fail
    refine (lives35_calls (HT.out.pw (Below.refl _ _))).mono ?_; rintro _ z9 ⟨rfl, hb⟩
    go_wp2_with fail
    (try go_ret)
    rw [HQ.out]
    exact ⟨rfl, below_on (Below.refl _ _) hb⟩
  cases hh : histL (splitL 10 l) with
  | error y => exact textBack_E n L v0 l w hv he (by omega) (by omega) hT y hh
  | ok m => exact textBack_O n L v0 l w hv he (by omega) (by omega) hT m hh
end Go.Proofs.YtdgplijnhkgeiaaDoor
