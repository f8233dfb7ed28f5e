/- Layer 35: the walk of TextBack. (By gen_bckc.py.) -/
import Derived.Test.YtdgplijnhkgeiaaDoorBckB
import Derived.Test.YtdgplijnhkgeiaaDoorRvtD
import Derived.Test.YtdgplijnhkgeiaaDoorRvtH
import Derived.Test.YtdgplijnhkgeiaaDoorFrame
namespace Go.Proofs.YtdgplijnhkgeiaaDoor
open Go.RowKit
open Go.Lib (itoa)
set_option linter.unusedVariables false
set_option linter.unusedSimpArgs false
theorem VB.pw {w W : World} (h : VB w.heap.size w) (k : Below w.heap.size w W) : Pow W.heap.size W := ((h.below k).up k.size).pow
theorem VB.on {w W : World} (h : VB w.heap.size w) (k : Below w.heap.size w W) : VB W.heap.size W := (h.below k).up k.size
theorem answerT_200 (a : An) (h : AnI a) (hl : a.ps.length ≤ 200) : (answerT a).length ≤ 9000 := by
  have k1 := kS_len a.kind
  have k2 := prsT_len a.ps h.ps
  have k3 := Lib.itoa_length_le a.key h.ak.1 h.ak.2
  have k4 := Lib.itoa_length_le a.val h.av.1 h.av.2
  have k5 := Lib.itoa_length_le a.n h.an.1 h.an.2
  rw [answerT_eq, List.length_append]
  unfold restT
  split
  · simp; omega
  split
  · simp; omega
  split
  · omega
  · simp; omega
/-- The history's texts: bounds, and what it is written as. -/
theorem back_bounds {s : List UInt8} {l : List Ev} (hs : s.length ≤ 4000) (h : histL (splitL 10 s) = .ok l) : l.length ≤ 4001 ∧ (∀ i, i < l.length → EvI (l.getD i zeroE)) ∧ (∀ i, i < l.length → (l.getD i zeroE).an.ps.length ≤ 4001) ∧ histT (fun i => l.getD i zeroE) l.length = s := by
  obtain ⟨h1, h2⟩ := hist_mems _ _ h
  obtain ⟨h3, h4⟩ := hist_text h
  have h5 := splitL_len 10 s
  have hg : ∀ i, (hi : i < l.length) → l.getD i zeroE = l[i] := fun i hi => by simp [List.getD_eq_getElem?_getD, List.getElem?_eq_getElem hi]
  refine ⟨by omega, fun i hi => ?_, fun i hi => ?_, h3⟩
  · rw [hg i hi]; exact h4 _ (List.getElem_mem hi)
  · rw [hg i hi]
    obtain ⟨x, h6, h7⟩ := h2 l[i] (List.getElem_mem hi)
    have h8 := eventW_lens h7
    have h9 := splitL_len 32 x
    have h10 := splitL_word 10 s x h6
    omega
theorem evc_below {w w' : World} {g o : Nat} {e : Ev} {v : Value} (h : EvC w g o e v) (k : Below w.heap.size w w') : EvC w' g o e v := EvC.below h k
end Go.Proofs.YtdgplijnhkgeiaaDoor
