/- Layer 5's contracts: which word of memory is what. A plan lies behind a pointer: its cells are the configuration. -/
import Derived.Test.YtnikggdnlijkkaaWordM
import Derived.Test.YtnikggdnlijkkaaExt
import Derived.Test.YtnikggdnlijkkaaRows
import Derived.ProofKit
import Derived.Outline
import Derived.Lib.Hide
namespace Go.Proofs.Ytnikggdnlijkkaa
open Go.RowKit
set_option linter.unusedVariables false

def mayC (T S K : Int) : Bool := decide (1 ≤ T ∧ T ≤ 6 ∧ 7 ≤ S ∧ S ≤ 250 ∧ 1 ≤ K ∧ K ≤ 1099511627776)
theorem mayC_true {T S K : Int} (h : mayC T S K = true) : 1 ≤ T ∧ T ≤ 6 ∧ 7 ≤ S ∧ S ≤ 250 ∧ 1 ≤ K ∧ K ≤ 1099511627776 := of_decide_eq_true h

theorem pmay_calls (T S K : Int) (w : World) : Calls Try.prog 24 #[.agg #[.int .i64 T, .int .i64 S, .int .u64 K]] w fun e w' => e = .returned (.bool (mayC T S K)) ∧ Below w.heap.size w w' := by
  rcases (by omega : T < 1 ∨ (1 ≤ T ∧ 6 < T) ∨ (1 ≤ T ∧ T ≤ 6 ∧ S < 7) ∨ (1 ≤ T ∧ T ≤ 6 ∧ 7 ≤ S ∧ 250 < S) ∨ (1 ≤ T ∧ T ≤ 6 ∧ 7 ≤ S ∧ S ≤ 250 ∧ K < 1) ∨ (1 ≤ T ∧ T ≤ 6 ∧ 7 ≤ S ∧ S ≤ 250 ∧ 1 ≤ K ∧ 1099511627776 < K) ∨ (1 ≤ T ∧ T ≤ 6 ∧ 7 ≤ S ∧ S ≤ 250 ∧ 1 ≤ K ∧ K ≤ 1099511627776)) with h1 | ⟨h1, h2⟩ | ⟨h1, h2, h3⟩ | ⟨h1, h2, h3, h4⟩ | ⟨h1, h2, h3, h4, h5⟩ | ⟨h1, h2, h3, h4, h5, h6⟩ | ⟨h1, h2, h3, h4, h5, h6⟩
  all_goals
    first
      | have HM := Lib.hid (show mayC T S K = true from decide_eq_true ⟨h1, h2, h3, h4, h5, h6⟩)
      | have HM := Lib.hid (show mayC T S K = false from decide_eq_false (by omega))
    go_enter Try.func24, Try.ntmps24
    go_wp2
    go_ret
    exact ⟨by rw [HM.out]; first | rfl | (simp; done) | (simp; omega), by (repeat (first | exact Below.refl _ _ | assumption | refine below_new ?_ _ | refine Below.drew ?_ | refine below_drewN ?_ _ | refine below_on ?_ (by assumption)))⟩

def slotsI (T : Int) : Int := 3 + T * 8
def wordsI (T S : Int) : Int := 3 + T * 8 + S * 7
def threadI (T t a : Int) : Int := if 0 ≤ t ∧ t < T then 3 + t * 8 + a else -1
def ofBagI (T t a b : Int) : Int := if 0 ≤ b ∧ b < 3 then threadI T t (a + b) else -1
def nodeI (T S s f : Int) : Int := if 1 ≤ s ∧ s ≤ S ∧ 0 ≤ f ∧ f < 7 then 3 + T * 8 + (s - 1) * 7 + f else -1



/-- What a word is: kind, and two numbers. -/
def wk (T a : Int) : Int := if a < 3 then 0 else if 3 + T * 8 ≤ a then 5 else if (a - 3) % 8 = 0 then 1 else if (a - 3) % 8 = 1 then 2 else if (a - 3) % 8 < 5 then 3 else 4
def wi (T a : Int) : Int := if a < 3 then a else if 3 + T * 8 ≤ a then (a - (3 + T * 8)) / 7 + 1 else (a - 3) / 8
def wj (T a : Int) : Int := if a < 3 then 0 else if 3 + T * 8 ≤ a then (a - (3 + T * 8)) % 7 else if (a - 3) % 8 = 0 then 0 else if (a - 3) % 8 = 1 then 0 else if (a - 3) % 8 < 5 then (a - 3) % 8 - 2 else (a - 3) % 8 - 5
def isW (T S a : Int) : Bool := decide (0 ≤ a ∧ a < wordsI T S)


end Go.Proofs.Ytnikggdnlijkkaa
