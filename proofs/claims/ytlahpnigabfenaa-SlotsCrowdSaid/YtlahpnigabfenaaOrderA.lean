/- Layer 2's contracts: keys. -/
import Derived.Test.YtlahpnigabfenaaWordA
import Derived.Test.YtlahpnigabfenaaEdgeM
import Derived.Test.YtlahpnigabfenaaExt
import Derived.Laws.StructEq
namespace Go.Proofs.Ytlahpnigabfenaa
open Go.RowKit WordM EdgeM

def rightB (c n : Int) : Bool := decide (c = 0 ∨ (0 < c ∧ c ≤ 3 ∧ n = 0))
def cmp3 (a b : Int) : Int := if a < b then -1 else if b < a then 1 else 0
def cmpI (c n d m : Int) : Int := if c = d then cmp3 n m else cmp3 c d




theorem cmpI_range (c n d m : Int) : cmpI c n d m = -1 ∨ cmpI c n d m = 0 ∨ cmpI c n d m = 1 := by unfold cmpI cmp3; split <;> split <;> (try split) <;> simp
def lessB (c n d m : Int) : Bool := decide (cmpI c n d m < 0)


/-- The greater key. -/





def infoI (leaf : Bool) (k : Int) : Int := if 0 ≤ k ∧ k ≤ 3 then 2 * k + (if leaf then 1 else 0) else 0
theorem oinfo_calls (leaf : Bool) (k : Int) (w : World) : Calls Try.prog 58 #[.bool leaf, .int .i64 k] w fun e w' => e = .returned (.int .u64 (infoI leaf k)) ∧ w = w' := by
  rcases (by omega : k < 0 ∨ (0 ≤ k ∧ 3 < k) ∨ (0 ≤ k ∧ k ≤ 3)) with h | ⟨h, h'⟩ | ⟨h, h'⟩
  iterate 2
    case _ =>
      have HI := Lib.hid (show infoI leaf k = 0 by unfold infoI; rw [if_neg (by omega)])
      go_enter Try.func58, Try.ntmps58
      go_wp2
      go_ret
      exact ⟨ret_int (by rw [HI.out]), rfl⟩
  have HU := Lib.hid (show IntKind.u64.wrap k = k by rw [IntKind.wrap_u64]; omega)
  cases leaf
  · have H1 := Lib.hid (show withI 0 0 1 0 = 0 by decide)
    have HI := Lib.hid (show withI 0 1 2 k = infoI false k by
      rw [with_eq (by decide) (by omega) h]; unfold infoI; rw [if_pos ⟨h, h'⟩]; show 8 * (0 / 8) + (2 * (k % 4) + 0 % 2) = _; simp; omega)
    go_enter Try.func58, Try.ntmps58
    go_wp2_with fail
    refine (turned_calls _ _ _ _ (by omega) (by omega)).mono ?_; rintro e w' ⟨rfl, rfl⟩
    rw [if_neg Bool.false_ne_true, H1.out]
    go_wp2_with fail
    refine (with_calls _ _ _ _ _ (by omega) (by omega) h).mono ?_; rintro e w' ⟨rfl, rfl⟩
    rw [HI.out]
    go_wp2_with fail
    go_ret
    exact ⟨rfl, rfl⟩
  · have H1 := Lib.hid (show withI 0 0 1 1 = 1 by decide)
    have HI := Lib.hid (show withI 1 1 2 k = infoI true k by
      rw [with_eq (by decide) (by omega) h]; unfold infoI; rw [if_pos ⟨h, h'⟩]; show 8 * (1 / 8) + (2 * (k % 4) + 1 % 2) = _; simp; omega)
    go_enter Try.func58, Try.ntmps58
    go_wp2_with fail
    refine (turned_calls _ _ _ _ (by omega) (by omega)).mono ?_; rintro e w' ⟨rfl, rfl⟩
    rw [if_pos rfl, H1.out]
    go_wp2_with fail
    refine (with_calls _ _ _ _ _ (by omega) (by omega) h).mono ?_; rintro e w' ⟨rfl, rfl⟩
    rw [HI.out]
    go_wp2_with fail
    go_ret
    exact ⟨rfl, rfl⟩

end Go.Proofs.Ytlahpnigabfenaa
