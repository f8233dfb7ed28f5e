/- Layer 15: the reference's Do, of any kind. -/
import Derived.Test.YtdnjconfmaiegaaFrmF
import Derived.Test.YtdnjconfmaiegaaFrmG
import Derived.Test.YtdnjconfmaiegaaFrmL
import Derived.Test.YtdnjconfmaiegaaFrmM
import Derived.Test.YtdnjconfmaiegaaFrmN
import Derived.Test.YtdnjconfmaiegaaFrmI
namespace Go.Proofs.Ytdnjconfmaiegaa
open Go.RowKit
set_option linter.unusedVariables false
set_option linter.unusedSimpArgs false
theorem rdo15 {w : World} {T : Td} {fv rv sv lv : Value} (hx : XR w T fv rv sv) (o : Op15) (hu : UR w lv o.n o.L) (h1 : T.nf ≤ 1000) (h2 : T.ns ≤ 1000) (h3 : T.row.length ≤ 80000) :
    Calls Try.prog 10 #[xV T fv rv sv, opV o lv] w (DoX w (doT T o) (doW T o) (doB T o) sv) := by
  obtain ⟨kind, fn, n, L, pk, pv⟩ := o
  rcases (by omega : kind = 0 ∨ kind = 1 ∨ kind = 2 ∨ kind = 3 ∨ kind = 4 ∨ kind = 5 ∨ kind = 6 ∨ (kind < 0 ∨ 6 < kind)) with rfl | rfl | rfl | rfl | rfl | rfl | rfl | hk
  · exact rdo_0 hx fn pk pv hu h1 h2 h3
  · rcases zero_or T.nf with hn | ⟨m, hn⟩
    · exact rdo_10 hx fn pk pv hu h1 h2 h3 hn
    · exact rdo_11 hx fn pk pv hu h1 h2 h3 hn
  · exact rdo_2 hx fn pk pv hu h1 h2 h3
  · exact rdo_3 hx fn pk pv hu h1 h2 h3
  · rcases zero_or T.ns with hn | ⟨m, hn⟩
    · have := rdo_40 hx fn pk pv hu h1 h2 h3 hn
      have e : doT T ⟨4, fn, n, L, pk, pv⟩ = T ∧ doW T ⟨4, fn, n, L, pk, pv⟩ = 0 ∧ doB T ⟨4, fn, n, L, pk, pv⟩ = false := by
        unfold doT doW doB; simp [hn]
      rw [e.1, e.2.1, e.2.2]; exact this
    · have := rdo_41 hx fn pk pv hu h1 h2 h3 hn
      have e : doT T ⟨4, fn, n, L, pk, pv⟩ = { T with ns := m } ∧ doW T ⟨4, fn, n, L, pk, pv⟩ = T.st m ∧ doB T ⟨4, fn, n, L, pk, pv⟩ = true := by
        unfold doT doW doB; simp [hn]
      rw [e.1, e.2.1, e.2.2]; exact this
  · exact rdo_5 hx fn pk pv hu h1 h2 h3
  · rcases zero_or T.nf with hn | ⟨m, hn⟩
    · have := rdo_60 hx fn pk pv hu h1 h2 h3 hn
      have e : doT T ⟨6, fn, n, L, pk, pv⟩ = T := by unfold doT; simp [hn]
      rw [e]; exact this
    · have e : doT T ⟨6, fn, n, L, pk, pv⟩ = touchT T fn := by unfold doT; simp [hn]
      rw [e]
      rcases (by omega : fn < 0 ∨ 0 ≤ fn) with hf | hf
      · exact rdo_61n hx fn pk pv hu h1 h2 h3 hn hf
      · exact rdo_61p hx fn pk pv hu h1 h2 h3 hn hf
  · have := rdo_no hx hk fn pk pv hu h1 h2 h3
    have e : doT T ⟨kind, fn, n, L, pk, pv⟩ = T ∧ doW T ⟨kind, fn, n, L, pk, pv⟩ = 0 ∧ doB T ⟨kind, fn, n, L, pk, pv⟩ = false := by
      unfold doT doW doB
      simp only []
      rw [if_neg (by omega), if_neg (by omega), if_neg (by omega), if_neg (by omega), if_neg (by omega), if_neg (by omega), if_neg (by omega), if_neg (by omega), if_neg (by omega), if_neg (by omega)]
      exact ⟨rfl, rfl, rfl⟩
    rw [e.1, e.2.1, e.2.2]; exact this
end Go.Proofs.Ytdnjconfmaiegaa
