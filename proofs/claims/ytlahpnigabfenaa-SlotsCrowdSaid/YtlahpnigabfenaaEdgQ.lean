/- EdgQ: several texts in one. -/
import Derived.Test.YtlahpnigabfenaaWordA
import Derived.Test.YtlahpnigabfenaaEdgeM
/- (without Flag, Plain) Contracts of layer 3's functions. -/
namespace Go.Proofs.Ytlahpnigabfenaa
open Go.RowKit WordM EdgeM

theorem emake_calls (s g : Int) (w : World) (g1 : 0 ≤ g) :
    Calls Try.prog 12 #[.int .i64 s, .int .u64 g] w fun e w' => e = .returned (.int .u64 (makeI s g)) ∧ w = w' := by
  have hb := slotI_bd s
  rcases (by omega : s < 0 ∨ (0 ≤ s ∧ 4095 < s) ∨ (0 ≤ s ∧ s ≤ 4095)) with h | ⟨h, h'⟩ | ⟨h, h'⟩
  iterate 2
    case _ =>
      have HS := Lib.hid (show withI 0 12 50 g = makeI s g by rw [make_eq (by omega) (by omega) g1]; unfold makeI; rw [slotI_not (by omega)])
      go_enter Try.func12, Try.ntmps12
      go_wp2_with fail
      refine (with_calls _ _ _ _ _ (by omega) (by omega) g1).mono ?_; rintro e w' ⟨rfl, rfl⟩
      rw [HS.out]
      go_wp2_with fail
      go_ret
      exact ⟨rfl, rfl⟩
  have HS := Lib.hid (show withI s 12 50 g = makeI s g by rw [make_eq (by omega) (by omega) g1]; unfold makeI; rw [slotI_of h h'])
  have HU := Lib.hid (show IntKind.u64.wrap s = s by rw [IntKind.wrap_u64]; omega)
  go_enter Try.func12, Try.ntmps12
  go_wp2_with fail
  refine (with_calls _ _ _ _ _ (by omega) (by omega) g1).mono ?_; rintro e w' ⟨rfl, rfl⟩
  rw [HS.out]
  go_wp2_with fail
  go_ret
  exact ⟨rfl, rfl⟩

theorem eslot_calls (e : Int) (w : World) (e1 : 0 ≤ e) (e2 : e < 18446744073709551616) :
    Calls Try.prog 15 #[.int .u64 e] w fun x w' => x = .returned (.int .i64 (e % 4096)) ∧ w = w' := by
  have HS := Lib.hid (slot_eq e1)
  go_enter Try.func15, Try.ntmps15
  go_wp2_with fail
  refine (field_calls _ _ _ _ e1 e2).mono ?_; rintro x w' ⟨rfl, rfl⟩
  rw [HS.out]
  go_wp2_with fail
  go_ret
  exact ⟨rfl, rfl⟩

theorem egen_calls (e : Int) (w : World) (e1 : 0 ≤ e) (e2 : e < 18446744073709551616) :
    Calls Try.prog 67 #[.int .u64 e] w fun x w' => x = .returned (.int .u64 (e / 4096 % 1125899906842624)) ∧ w = w' := by
  have HS := Lib.hid (gen_eq e1)
  go_enter Try.func67, Try.ntmps67
  go_wp2_with fail
  refine (field_calls _ _ _ _ e1 e2).mono ?_; rintro x w' ⟨rfl, rfl⟩
  rw [HS.out]
  go_wp2_with fail
  go_ret
  exact ⟨rfl, rfl⟩


theorem etag_calls (e : Int) (w : World) (e1 : 0 ≤ e) (e2 : e < 18446744073709551616) :
    Calls Try.prog 52 #[.int .u64 e] w fun x w' => x = .returned (.bool (tagB e)) ∧ w = w' := by
  have HS := Lib.hid (show (fieldI e 63 1 == 1) = tagB e from tag_test e1 e2)
  go_enter Try.func52, Try.ntmps52
  go_wp2_with fail
  refine (bit_calls _ _ _ e1 e2).mono ?_; rintro x w' ⟨rfl, rfl⟩
  rw [HS.out]
  go_wp2_with fail
  go_ret
  exact ⟨rfl, rfl⟩


theorem enode_calls (e : Int) (w : World) (e1 : 0 ≤ e) (e2 : e < 18446744073709551616) :
    Calls Try.prog 75 #[.int .u64 e] w fun x w' => x = .returned (.int .u64 (e % 4611686018427387904)) ∧ w = w' := by
  have HS := Lib.hid (node_eq e1)
  go_enter Try.func75, Try.ntmps75
  go_wp2_with fail
  refine (eslot_calls _ _ e1 e2).mono ?_; rintro x w' ⟨rfl, rfl⟩
  go_wp2_with fail
  refine (egen_calls _ _ e1 e2).mono ?_; rintro x w' ⟨rfl, rfl⟩
  go_wp2_with fail
  refine (emake_calls _ _ _ (by omega)).mono ?_; rintro x w' ⟨rfl, rfl⟩
  rw [HS.out]
  go_wp2_with fail
  go_ret
  exact ⟨rfl, rfl⟩

/-- An edge with its flag, as numbers go. -/
def flaggedI (e : Int) : Int := e % 4611686018427387904 + 4611686018427387904 + (if 9223372036854775808 ≤ e then 9223372036854775808 else 0)
def taggedI (e : Int) : Int := e % 9223372036854775808 + 9223372036854775808
theorem flaggedI_bd {e : Int} (_h : 0 ≤ e) : 0 ≤ flaggedI e ∧ flaggedI e < 18446744073709551616 := by unfold flaggedI; split <;> omega
theorem taggedI_bd {e : Int} (_h : 0 ≤ e) : 0 ≤ taggedI e ∧ taggedI e < 18446744073709551616 := by unfold taggedI; omega




theorem eto_calls (e o : Int) (w : World) (e1 : 0 ≤ e) (e2 : e < 18446744073709551616) (o1 : 0 ≤ o) (o2 : o < 18446744073709551616) :
    Calls Try.prog 50 #[.int .u64 e, .int .u64 o] w fun x w' => x = .returned (.bool (e % 4611686018427387904 == o % 4611686018427387904)) ∧ w = w' := by
  go_enter Try.func50, Try.ntmps50
  go_wp2_with fail
  refine (enode_calls _ _ e1 e2).mono ?_; rintro x w' ⟨rfl, rfl⟩
  go_wp2_with fail
  refine (enode_calls _ _ o1 o2).mono ?_; rintro x w' ⟨rfl, rfl⟩
  go_wp2_with fail
  go_ret
  exact ⟨rfl, rfl⟩
end Go.Proofs.Ytlahpnigabfenaa

/- Whether an edge is plain. -/
namespace Go.Proofs.Ytlahpnigabfenaa
open Go.RowKit WordM EdgeM
theorem eflag_calls (e : Int) (w : World) (e1 : 0 ≤ e) (e2 : e < 18446744073709551616) :
    Calls Try.prog 51 #[.int .u64 e] w fun x w' => x = .returned (.bool (flagB e)) ∧ w = w' := by
  have HS := Lib.hid (show (fieldI e 62 1 == 1) = flagB e by rw [flag_eq e1]; rfl)
  go_enter Try.func51, Try.ntmps51
  go_wp2_with fail
  refine (bit_calls _ _ _ e1 e2).mono ?_; rintro x w' ⟨rfl, rfl⟩
  rw [HS.out]
  go_wp2_with fail
  go_ret
  exact ⟨rfl, rfl⟩


theorem eplain_calls (e : Int) (w : World) (e1 : 0 ≤ e) (e2 : e < 18446744073709551616) :
    Calls Try.prog 26 #[.int .u64 e] w fun x w' => x = .returned (.bool (!flagB e && !tagB e)) ∧ w = w' := by
  have H1 := Lib.hid (eflag_calls e w e1 e2)
  have H2 := Lib.hid (etag_calls e w e1 e2)
  generalize tagB e = t at *
  generalize flagB e = f at *
  cases f <;> cases t
  all_goals
    go_enter Try.func26, Try.ntmps26
    go_wp2_with fail
    refine H1.out.mono ?_; rintro x w' ⟨rfl, rfl⟩
    go_wp2_with fail
    try (refine H2.out.mono ?_; rintro x w' ⟨rfl, rfl⟩)
    try go_wp2_with fail
    go_ret
    exact ⟨rfl, rfl⟩

theorem eplain_yes (e : Int) (w : World) (e1 : 0 ≤ e) (e2 : e < 4611686018427387904) : Calls Try.prog 26 #[.int .u64 e] w fun x w' => x = .returned (.bool true) ∧ w = w' := by
  have h := eplain_calls e w e1 (by omega)
  have h1 : flagB e = false := by unfold flagB; simp; omega
  have h2 : tagB e = false := by unfold tagB; simp; omega
  rw [h1, h2] at h
  exact h
end Go.Proofs.Ytlahpnigabfenaa
