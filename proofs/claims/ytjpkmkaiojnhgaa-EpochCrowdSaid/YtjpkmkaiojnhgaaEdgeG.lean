/- (without Flag, Plain) Contracts of layer 3's functions. -/
import Derived.Test.YtjpkmkaiojnhgaaWordA
import Derived.Test.YtjpkmkaiojnhgaaEdgeM
namespace Go.Proofs.Ytjpkmkaiojnhgaa
open Go.RowKit WordM EdgeM

theorem emake_calls (s g : Int) (w : World) (g1 : 0 ≤ g) :
    Calls Try.prog 63 #[.int .i64 s, .int .u64 g] w fun e w' => e = .returned (.int .u64 (makeI s g)) ∧ w = w' := by
  have hb := slotI_bd s
  rcases (by omega : s < 0 ∨ (0 ≤ s ∧ 4095 < s) ∨ (0 ≤ s ∧ s ≤ 4095)) with h | ⟨h, h'⟩ | ⟨h, h'⟩
  iterate 2
    case _ =>
      have HS := Lib.hid (show withI 0 12 50 g = makeI s g by rw [make_eq (by omega) (by omega) g1]; unfold makeI; rw [slotI_not (by omega)])
      go_enter Try.func63, Try.ntmps63
      go_wp2_with fail
      refine (with_calls _ _ _ _ _ (by omega) (by omega) g1).mono ?_; rintro e w' ⟨rfl, rfl⟩
      rw [HS.out]
      go_wp2_with fail
      go_ret
      exact ⟨rfl, rfl⟩
  have HS := Lib.hid (show withI s 12 50 g = makeI s g by rw [make_eq (by omega) (by omega) g1]; unfold makeI; rw [slotI_of h h'])
  have HU := Lib.hid (show IntKind.u64.wrap s = s by rw [IntKind.wrap_u64]; omega)
  go_enter Try.func63, Try.ntmps63
  go_wp2_with fail
  refine (with_calls _ _ _ _ _ (by omega) (by omega) g1).mono ?_; rintro e w' ⟨rfl, rfl⟩
  rw [HS.out]
  go_wp2_with fail
  go_ret
  exact ⟨rfl, rfl⟩

theorem eslot_calls (e : Int) (w : World) (e1 : 0 ≤ e) (e2 : e < 18446744073709551616) :
    Calls Try.prog 73 #[.int .u64 e] w fun x w' => x = .returned (.int .i64 (e % 4096)) ∧ w = w' := by
  have HS := Lib.hid (slot_eq e1)
  go_enter Try.func73, Try.ntmps73
  go_wp2_with fail
  refine (field_calls _ _ _ _ e1 e2).mono ?_; rintro x w' ⟨rfl, rfl⟩
  rw [HS.out]
  go_wp2_with fail
  go_ret
  exact ⟨rfl, rfl⟩

theorem egen_calls (e : Int) (w : World) (e1 : 0 ≤ e) (e2 : e < 18446744073709551616) :
    Calls Try.prog 74 #[.int .u64 e] w fun x w' => x = .returned (.int .u64 (e / 4096 % 1125899906842624)) ∧ w = w' := by
  have HS := Lib.hid (gen_eq e1)
  go_enter Try.func74, Try.ntmps74
  go_wp2_with fail
  refine (field_calls _ _ _ _ e1 e2).mono ?_; rintro x w' ⟨rfl, rfl⟩
  rw [HS.out]
  go_wp2_with fail
  go_ret
  exact ⟨rfl, rfl⟩




theorem enode_calls (e : Int) (w : World) (e1 : 0 ≤ e) (e2 : e < 18446744073709551616) :
    Calls Try.prog 86 #[.int .u64 e] w fun x w' => x = .returned (.int .u64 (e % 4611686018427387904)) ∧ w = w' := by
  have HS := Lib.hid (node_eq e1)
  go_enter Try.func86, Try.ntmps86
  go_wp2_with fail
  refine (eslot_calls _ _ e1 e2).mono ?_; rintro x w' ⟨rfl, rfl⟩
  go_wp2_with fail
  refine (egen_calls _ _ e1 e2).mono ?_; rintro x w' ⟨rfl, rfl⟩
  go_wp2_with fail
  refine (emake_calls _ _ _ (by omega)).mono ?_; rintro x w' ⟨rfl, rfl⟩
  rw [HS.out]
  go_wp2_with fail
  go_ret
  exact ⟨rfl, rfl⟩

/-- An edge with its flag, as numbers go. -/
def flaggedI (e : Int) : Int := e % 4611686018427387904 + 4611686018427387904 + (if 9223372036854775808 ≤ e then 9223372036854775808 else 0)
def taggedI (e : Int) : Int := e % 9223372036854775808 + 9223372036854775808
theorem flaggedI_bd {e : Int} (_h : 0 ≤ e) : 0 ≤ flaggedI e ∧ flaggedI e < 18446744073709551616 := by unfold flaggedI; split <;> omega
theorem taggedI_bd {e : Int} (_h : 0 ≤ e) : 0 ≤ taggedI e ∧ taggedI e < 18446744073709551616 := by unfold taggedI; omega




theorem eto_calls (e o : Int) (w : World) (e1 : 0 ≤ e) (e2 : e < 18446744073709551616) (o1 : 0 ≤ o) (o2 : o < 18446744073709551616) :
    Calls Try.prog 85 #[.int .u64 e, .int .u64 o] w fun x w' => x = .returned (.bool (e % 4611686018427387904 == o % 4611686018427387904)) ∧ w = w' := by
  go_enter Try.func85, Try.ntmps85
  go_wp2_with fail
  refine (enode_calls _ _ e1 e2).mono ?_; rintro x w' ⟨rfl, rfl⟩
  go_wp2_with fail
  refine (enode_calls _ _ o1 o2).mono ?_; rintro x w' ⟨rfl, rfl⟩
  go_wp2_with fail
  go_ret
  exact ⟨rfl, rfl⟩
end Go.Proofs.Ytjpkmkaiojnhgaa
