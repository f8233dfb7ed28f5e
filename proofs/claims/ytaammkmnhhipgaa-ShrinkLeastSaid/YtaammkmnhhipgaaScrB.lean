/- Layer 14: contracts of Clone, Clean, Same (of like scripts). -/
import Derived.Test.YtaammkmnhhipgaaScrA
import Derived.Deep.Cut
namespace Go.Proofs.Ytaammkmnhhipgaa
open Go.RowKit
set_option linter.unusedVariables false
set_option linter.unusedSimpArgs false

theorem eclone (n : Nat) (L : Nat → Ent) (v : Value) (w : World) (h : ER w v n L) (hn : n ≤ 2513169434843) :
    Calls Try.prog 20 #[v] w fun e w' => ∃ v', e = .returned v' ∧ OwnE w' w.heap.size v' n L ∧ Below w.heap.size w w' := by
  have qT : ∀ (w : World) (a : Addr) (n c : Nat), (binOp .eql 25 (.slice (some a) n c) (.slice none 0 0)).run Try.prog w = .ok (.bool false) w := fun w a n c => Go.run_eql_slice_nil w _ _ (some a) n c uEL
  have qN : ∀ (w : World), (binOp .eql 25 (.slice none 0 0) (.slice none 0 0)).run Try.prog w = .ok (.bool true) w := fun w => Go.run_eql_slice_nil w _ _ none 0 0 uEL
  refine Calls.veil fun Q HQ => ?_
  have H := Lib.hid h
  cases h with
  | nil =>
    go_enter Try.func20, Try.ntmps20
    go_wp2_with fail
    (try go_ret)
    rw [HQ.out]
    exact ⟨_, rfl, ⟨rfl, .inl ⟨rfl, rfl⟩⟩, Below.refl _ _⟩
  | odd ad c _ hc0 =>
    go_enter Try.func20, Try.ntmps20
    go_wp2_with (at_builtin; refine wpList_append_er rfl (.tmp 5) (.tmp 6) rfl w.heap.size _ L rfl (own_noneE w L) _ 0 rfl (H.out.alloc _) (by simp) (by simp) ?_)
    intro v1 w1 hown hg
    have hb := grow_stepE (W := w) (own_noneE w L) (by (repeat (first | exact Below.refl _ _ | assumption | refine below_new ?_ _ | refine Below.drew ?_ | refine below_drewN ?_ _ | refine below_on ?_ (by assumption)))) (Nat.le_refl _) hg
    have HP := Lib.hid hown
    clear hown hg
    go_wp2_with fail
    (try go_ret)
    rw [HQ.out]
    exact ⟨_, rfl, HP.out, hb⟩
  | row g o _ c _ h1 h2 h3 =>
    clear h3
    go_enter Try.func20, Try.ntmps20
    go_wp2_with (at_builtin; refine wpList_append_er rfl (.tmp 5) (.tmp 6) rfl w.heap.size _ L rfl (own_noneE w L) _ n rfl (H.out.alloc _) (by omega) (by simp) ?_)
    intro v1 w1 hown hg
    have hb := grow_stepE (W := w) (own_noneE w L) (by (repeat (first | exact Below.refl _ _ | assumption | refine below_new ?_ _ | refine Below.drew ?_ | refine below_drewN ?_ _ | refine below_on ?_ (by assumption)))) (Nat.le_refl _) hg
    have HP := Lib.hid hown
    clear hown hg
    go_wp2_with fail
    (try go_ret)
    rw [HQ.out]
    exact ⟨_, rfl, HP.out, hb⟩

def cl (lo hi x : Int) : Int := min (max x lo) hi
end Go.Proofs.Ytaammkmnhhipgaa
