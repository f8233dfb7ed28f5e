/- Layer 35: the walk of TextHistories. -/
import Derived.Test.YtdgplijnhkgeiaaDoorRvtD
import Derived.Test.YtdgplijnhkgeiaaDoorRvtE
import Derived.Test.YtdgplijnhkgeiaaDoorRvtF
import Derived.Test.YtdgplijnhkgeiaaDoorFrame
import Derived.Test.YtdgplijnhkgeiaaDoorTxwE
namespace Go.Proofs.YtdgplijnhkgeiaaDoor
open Go.RowKit
set_option linter.unusedVariables false
set_option linter.unusedSimpArgs false
theorem VB.pw {w W : World} (h : VB w.heap.size w) (k : Below w.heap.size w W) : Pow W.heap.size W := ((h.below k).up k.size).pow
theorem hisP_bounds (s : List UInt8) (hs : s.length ≤ 4000) : (hisP (histL (splitL 10 s))).1.length ≤ 5000 ∧ ∀ i, i < (hisP (histL (splitL 10 s))).1.length → ((hisP (histL (splitL 10 s))).1.getD i zeroE).an.ps.length ≤ 100000 := by
  cases h : histL (splitL 10 s) with
  | error y => exact ⟨Nat.zero_le _, fun i hi => absurd hi (Nat.not_lt_zero i)⟩
  | ok l =>
    obtain ⟨h1, h2⟩ := hist_mem _ _ h
    refine ⟨?_, fun i hi => ?_⟩
    · have := splitL_len 10 s
      show l.length ≤ 5000
      omega
    · have hi : i < l.length := hi
      have e : l.getD i zeroE = l[i] := by simp [List.getD_eq_getElem?_getD, List.getElem?_eq_getElem hi]
      show (l.getD i zeroE).an.ps.length ≤ 100000
      rw [e]
      obtain ⟨x, h3, h4⟩ := h2 l[i] (List.getElem_mem hi)
      have h5 := eventW_len h4
      have h6 := splitL_len 32 x
      have h7 := splitL_word 10 s x h3
      omega
set_option maxRecDepth 16000 in
set_option maxHeartbeats 4000000 in
theorem textHistories_walk (v0 : Value) (w : World) (s0 : Fr.ok1 w (.str) v0) (hT : VB w.heap.size w) :
    Calls Tryd.prog 4 #[v0] w fun e w' => e = .returned (.bool true) ∧ Below w.heap.size w w' := by
  obtain ⟨s, rfl, hz⟩ := Fr.get_str s0
  obtain ⟨l, hl⟩ : ∃ l : List UInt8, s = ⟨l.toArray⟩ := ⟨s.data.toList, by simp⟩
  subst hl
  refine Calls.veil fun Q HQ => ?_
  have HV := Lib.hid hT
  have hsz : (⟨l.toArray⟩ : ByteArray).size = l.length := by show l.toArray.size = _; simp
  clear s0 hz hT
  rcases (by omega : 4000 < l.length ∨ l.length ≤ 4000) with j | j
  · have h1 : (4000 : Int) < (l.length : Int) := by omega
    clear j
    go_enter Tryd.func4, Tryd.ntmps4
    go_wp2_with fail
    refine (lives35_calls (HV.out.pw (Below.refl _ _))).mono ?_; rintro _ w1 ⟨rfl, hb⟩
    go_wp2_with fail
    (try go_ret)
    rw [HQ.out]
    exact ⟨rfl, hb⟩
  · have h1 : ¬ (4000 : Int) < (l.length : Int) := by omega
    have HTH := Lib.hid (treadhist l w j HV.out)
    have HRH := Lib.hid (fun W => rreadhist l W j)
    have HBD := Lib.hid (hisP_bounds l j)
    clear j
    obtain ⟨⟨m, y⟩, hm⟩ : ∃ x, x = hisP (histL (splitL 10 l)) := ⟨_, rfl⟩
    rw [← hm] at HTH HRH HBD
    simp only at HTH HRH HBD
    clear hm
    go_enter Tryd.func4, Tryd.ntmps4
    go_wp2_with fail
    refine HTH.out.mono ?_; rintro _ w1 ⟨v, rfl, hvl, hb⟩
    have HB1 := Lib.hid hb
    have HV1 := Lib.hid hvl
    clear hb hvl
    go_wp2_with fail
    refine (HRH.out w1).mono ?_; rintro _ w2 ⟨v', rfl, hvl, hb⟩
    have HB2 := Lib.hid (below_on HB1.out hb)
    have HV2 := Lib.hid (HV1.out.below hb)
    have HV3 := Lib.hid hvl
    clear hb hvl
    go_wp2_with fail
    refine (rsameV m.length (fun i => m.getD i zeroE) v v' w2 HV2.out HV3.out HBD.out.1 HBD.out.2).mono ?_; rintro _ w3 ⟨rfl, hb⟩
    have HB3 := Lib.hid (below_on HB2.out hb)
    clear hb
    go_wp2_with fail
    refine (lives35_calls (HV.out.pw HB3.out)).mono ?_; rintro _ w4 ⟨rfl, hb⟩
    have HB4 := Lib.hid (below_on HB3.out hb)
    clear hb
    go_wp2_with fail
    (try go_ret)
    rw [HQ.out]
    exact ⟨rfl, HB4.out⟩
end Go.Proofs.YtdgplijnhkgeiaaDoor
