/- Layer 9's contracts: the reference's Fits, a part. (gen_calld.py) -/
import Derived.Test.YtdgkgfapajlidaaCallDa
import Derived.Test.YtdgkgfapajlidaaCallDb
import Derived.Test.YtdgkgfapajlidaaCallDc
import Derived.Test.YtdgkgfapajlidaaCallDd
namespace Go.Proofs.Ytdgkgfapajlidaa
open Go.RowKit
set_option linter.unusedVariables false
set_option linter.unusedSimpArgs false
theorem rfits (op key val hi limit k ak av n : Int) (v : Value) (l : PL) (w : World) (h : PR w v l) (hn : l.length ≤ 100000) :
    Calls Try.prog 16 #[callV op key val hi limit, ansV k ak av n v] w fun e w' => e = .returned (.bool (fitsB op key hi limit k ak av n l)) ∧ Below w.heap.size w w' := by
  have HP := Lib.hid h
  obtain ⟨p, c, rfl, _, _⟩ := h.slice
  clear h
  obtain ⟨nn, hnn⟩ : ∃ nn, nn = l.length := ⟨_, rfl⟩
  rw [← hnn] at hn ⊢
  have HNN := Lib.hid hnn
  have HN := Lib.hid hn
  clear hn hnn
  by_cases n1 : k = 1
  · subst n1
    by_cases nn0 : n = 0
    · subst nn0
      by_cases hz : nn = 0
      · exact rfits_t1 op key val hi limit _ _ p c nn l w HP HN HNN hz
      · exact rfits_b4 op key val hi limit _ _ p c nn l w HP HN HNN (by omega)
    · exact rfits_b2 op key val hi limit _ _ _ p c nn l w HP HN HNN nn0
  · by_cases na : ak = 0
    · subst na
      by_cases nv : av = 0
      · subst nv
        by_cases n2 : k = 2
        · subst n2
          by_cases hz : nn = 0
          · exact rfits_t2 op key val hi limit _ p c nn l w HP HN HNN hz
          · exact rfits_b5 op key val hi limit _ p c nn l w HP HN HNN (by omega)
        · by_cases nn0 : n = 0
          · subst nn0
            by_cases n3 : k = 3
            · subst n3; exact rfits_t3 op key val hi limit p c nn l w HP HN HNN
            · by_cases hz : nn = 0
              · exact rfits_t4 op key val hi limit _ p c nn l w HP HN HNN n1 n2 n3 hz
              · exact rfits_b6 op key val hi limit _ p c nn l w HP HN HNN n1 n2 n3 (by omega)
          · exact rfits_b3 op key val hi limit _ _ p c nn l w HP HN HNN n1 n2 nn0
      · exact rfits_b1 op key val hi limit _ _ _ p c nn l w HP HN HNN n1 nv
    · exact rfits_b0 op key val hi limit _ _ _ _ p c nn l w HP HN HNN n1 na
end Go.Proofs.Ytdgkgfapajlidaa
