/- (without Flag, Plain) Contracts of layer 3's functions. -/
import Derived.Test.YtmokniemmiomfaaGreatWordA
import Derived.Test.YtmokniemmiomfaaGreatEdgeM
namespace Go.Proofs.YtmokniemmiomfaaGreat
open Go.RowKit WordM EdgeM

theorem emake_calls (s g : Int) (w : World) (g1 : 0 ≤ g) :
    Calls Tryz.prog 53 #[.int .i64 s, .int .u64 g] w fun e w' => e = .returned (.int .u64 (makeI s g)) ∧ w = w' := by
  have hb := slotI_bd s
  rcases (by omega : s < 0 ∨ (0 ≤ s ∧ 4095 < s) ∨ (0 ≤ s ∧ s ≤ 4095)) with h | ⟨h, h'⟩ | ⟨h, h'⟩
  iterate 2
    case _ =>
      have HS := Lib.hid (show withI 0 12 50 g = makeI s g by rw [make_eq (by omega) (by omega) g1]; unfold makeI; rw [slotI_not (by omega)])
      go_enter Tryz.func53, Tryz.ntmps53
      go_wp2_with fail
      refine (with_calls _ _ _ _ _ (by omega) (by omega) g1).mono ?_; rintro e w' ⟨rfl, rfl⟩
      rw [HS.out]
      go_wp2_with fail
      go_ret
      exact ⟨rfl, rfl⟩
  have HS := Lib.hid (show withI s 12 50 g = makeI s g by rw [make_eq (by omega) (by omega) g1]; unfold makeI; rw [slotI_of h h'])
  have HU := Lib.hid (show IntKind.u64.wrap s = s by rw [IntKind.wrap_u64]; omega)
  go_enter Tryz.func53, Tryz.ntmps53
  go_wp2_with fail
  refine (with_calls _ _ _ _ _ (by omega) (by omega) g1).mono ?_; rintro e w' ⟨rfl, rfl⟩
  rw [HS.out]
  go_wp2_with fail
  go_ret
  exact ⟨rfl, rfl⟩

theorem eslot_calls (e : Int) (w : World) (e1 : 0 ≤ e) (e2 : e < 18446744073709551616) :
    Calls Tryz.prog 77 #[.int .u64 e] w fun x w' => x = .returned (.int .i64 (e % 4096)) ∧ w = w' := by
  have HS := Lib.hid (slot_eq e1)
  go_enter Tryz.func77, Tryz.ntmps77
  go_wp2_with fail
  refine (field_calls _ _ _ _ e1 e2).mono ?_; rintro x w' ⟨rfl, rfl⟩
  rw [HS.out]
  go_wp2_with fail
  go_ret
  exact ⟨rfl, rfl⟩

theorem egen_calls (e : Int) (w : World) (e1 : 0 ≤ e) (e2 : e < 18446744073709551616) :
    Calls Tryz.prog 109 #[.int .u64 e] w fun x w' => x = .returned (.int .u64 (e / 4096 % 1125899906842624)) ∧ w = w' := by
  have HS := Lib.hid (gen_eq e1)
  go_enter Tryz.func109, Tryz.ntmps109
  go_wp2_with fail
  refine (field_calls _ _ _ _ e1 e2).mono ?_; rintro x w' ⟨rfl, rfl⟩
  rw [HS.out]
  go_wp2_with fail
  go_ret
  exact ⟨rfl, rfl⟩


theorem etag_calls (e : Int) (w : World) (e1 : 0 ≤ e) (e2 : e < 18446744073709551616) :
    Calls Tryz.prog 116 #[.int .u64 e] w fun x w' => x = .returned (.bool (tagB e)) ∧ w = w' := by
  have HS := Lib.hid (show (fieldI e 63 1 == 1) = tagB e from tag_test e1 e2)
  go_enter Tryz.func116, Tryz.ntmps116
  go_wp2_with fail
  refine (bit_calls _ _ _ e1 e2).mono ?_; rintro x w' ⟨rfl, rfl⟩
  rw [HS.out]
  go_wp2_with fail
  go_ret
  exact ⟨rfl, rfl⟩


theorem enode_calls (e : Int) (w : World) (e1 : 0 ≤ e) (e2 : e < 18446744073709551616) :
    Calls Tryz.prog 92 #[.int .u64 e] w fun x w' => x = .returned (.int .u64 (e % 4611686018427387904)) ∧ w = w' := by
  have HS := Lib.hid (node_eq e1)
  go_enter Tryz.func92, Tryz.ntmps92
  go_wp2_with fail
  refine (eslot_calls _ _ e1 e2).mono ?_; rintro x w' ⟨rfl, rfl⟩
  go_wp2_with fail
  refine (egen_calls _ _ e1 e2).mono ?_; rintro x w' ⟨rfl, rfl⟩
  go_wp2_with fail
  refine (emake_calls _ _ _ (by omega)).mono ?_; rintro x w' ⟨rfl, rfl⟩
  rw [HS.out]
  go_wp2_with fail
  go_ret
  exact ⟨rfl, rfl⟩

/-- An edge with its flag, as numbers go. -/
def flaggedI (e : Int) : Int := e % 4611686018427387904 + 4611686018427387904 + (if 9223372036854775808 ≤ e then 9223372036854775808 else 0)
def taggedI (e : Int) : Int := e % 9223372036854775808 + 9223372036854775808
theorem flaggedI_bd {e : Int} (_h : 0 ≤ e) : 0 ≤ flaggedI e ∧ flaggedI e < 18446744073709551616 := by unfold flaggedI; split <;> omega
theorem taggedI_bd {e : Int} (_h : 0 ≤ e) : 0 ≤ taggedI e ∧ taggedI e < 18446744073709551616 := by unfold taggedI; omega

theorem eflagged_calls (e : Int) (w : World) (e1 : 0 ≤ e) (e2 : e < 18446744073709551616) :
    Calls Tryz.prog 104 #[.int .u64 e] w fun x w' => x = .returned (.int .u64 (flaggedI e)) ∧ w = w' := by
  have HS := Lib.hid (show withI e 62 1 1 = flaggedI e from flagged_eq e1 e2)
  go_enter Tryz.func104, Tryz.ntmps104
  go_wp2_with fail
  refine (turned_calls _ _ _ _ e1 e2).mono ?_; rintro x w' ⟨rfl, rfl⟩
  rw [if_pos rfl, HS.out]
  go_wp2_with fail
  go_ret
  exact ⟨rfl, rfl⟩

theorem ekeep_calls (e : Int) (w : World) (e1 : 0 ≤ e) (e2 : e < 18446744073709551616) :
    Calls Tryz.prog 99 #[.int .u64 e] w fun x w' => x = .returned (.int .u64 (e % 9223372036854775808)) ∧ w = w' := by
  have HS := Lib.hid (keep_eq e1 e2)
  go_enter Tryz.func99, Tryz.ntmps99
  go_wp2_with fail
  refine (turned_calls _ _ _ _ e1 e2).mono ?_; rintro x w' ⟨rfl, rfl⟩
  rw [if_neg Bool.false_ne_true, HS.out]
  go_wp2_with fail
  go_ret
  exact ⟨rfl, rfl⟩


theorem eto_calls (e o : Int) (w : World) (e1 : 0 ≤ e) (e2 : e < 18446744073709551616) (o1 : 0 ≤ o) (o2 : o < 18446744073709551616) :
    Calls Tryz.prog 75 #[.int .u64 e, .int .u64 o] w fun x w' => x = .returned (.bool (e % 4611686018427387904 == o % 4611686018427387904)) ∧ w = w' := by
  go_enter Tryz.func75, Tryz.ntmps75
  go_wp2_with fail
  refine (enode_calls _ _ e1 e2).mono ?_; rintro x w' ⟨rfl, rfl⟩
  go_wp2_with fail
  refine (enode_calls _ _ o1 o2).mono ?_; rintro x w' ⟨rfl, rfl⟩
  go_wp2_with fail
  go_ret
  exact ⟨rfl, rfl⟩
end Go.Proofs.YtmokniemmiomfaaGreat
