/- Layer 4's contracts: heads, announcements, stamps. -/
import Derived.Test.YtlahpnigabfenaaWordA
import Derived.Test.YtlahpnigabfenaaEdgeM
namespace Go.Proofs.Ytlahpnigabfenaa
open Go.RowKit WordM EdgeM

theorem bhead_eq {s g : Int} (h : 0 ≤ s) (h2 : s ≤ 4095) (hg : 0 ≤ g) : withI s 12 52 g = s + 4096 * (g % 4503599627370496) := by
  rw [with_eq (by decide) h hg]
  show 18446744073709551616 * (s / 18446744073709551616) + (4096 * (g % 4503599627370496) + s % 4096) = _
  omega
theorem bchg_eq {h : Int} (h1 : 0 ≤ h) (h2 : h < 18446744073709551616) : fieldI h 12 52 = h / 4096 := by
  rw [field_eq (by decide) h1]; show h / 4096 % 4503599627370496 = _; omega
theorem bact_eq {g : Int} (h1 : 0 ≤ g) : withI 1 1 63 g = 1 + 2 * (g % 9223372036854775808) := by
  rw [with_eq (by decide) (by omega) h1]
  show 18446744073709551616 * (1 / 18446744073709551616) + (2 * (g % 9223372036854775808) + 1 % 2) = _
  omega
theorem bep_eq {h : Int} (h1 : 0 ≤ h) (h2 : h < 18446744073709551616) : fieldI h 1 63 = h / 2 := by
  rw [field_eq (by decide) h1]; show h / 2 % 9223372036854775808 = _; omega
theorem bbit_eq {h : Int} (h1 : 0 ≤ h) : fieldI h 0 1 = h % 2 := by
  rw [field_eq (by decide) h1]; show h / 1 % 2 = _; omega
def headI (s g : Int) : Int := slotI s + 4096 * (g % 4503599627370496)
theorem headI_bd (s : Int) {g : Int} (_h : 0 ≤ g) : 0 ≤ headI s g ∧ headI s g < 18446744073709551616 := by have := slotI_bd s; unfold headI; omega
def oddB (w : Int) : Bool := w % 2 == 1
theorem oddB_true {w : Int} (h : oddB w = true) : w % 2 = 1 := by simpa [oddB] using h
theorem oddB_false {w : Int} (h : oddB w = false) : w % 2 = 0 := by
  have : ¬ w % 2 = 1 := by simpa [oddB] using h
  omega

theorem bhead_calls (s g : Int) (w : World) (g1 : 0 ≤ g) :
    Calls Try.prog 56 #[.int .i64 s, .int .u64 g] w fun e w' => e = .returned (.int .u64 (headI s g)) ∧ w = w' := by
  have hb := slotI_bd s
  rcases (by omega : s < 0 ∨ (0 ≤ s ∧ 4095 < s) ∨ (0 ≤ s ∧ s ≤ 4095)) with h | ⟨h, h'⟩ | ⟨h, h'⟩
  iterate 2
    case _ =>
      have HS := Lib.hid (show withI 0 12 52 g = headI s g by rw [bhead_eq (by omega) (by omega) g1]; unfold headI; rw [slotI_not (by omega)])
      go_enter Try.func56, Try.ntmps56
      go_wp2_with fail
      refine (with_calls _ _ _ _ _ (by omega) (by omega) g1).mono ?_; rintro e w' ⟨rfl, rfl⟩
      rw [HS.out]
      go_wp2_with fail
      go_ret
      exact ⟨rfl, rfl⟩
  have HS := Lib.hid (show withI s 12 52 g = headI s g by rw [bhead_eq (by omega) (by omega) g1]; unfold headI; rw [slotI_of h h'])
  have HU := Lib.hid (show IntKind.u64.wrap s = s by rw [IntKind.wrap_u64]; omega)
  go_enter Try.func56, Try.ntmps56
  go_wp2_with fail
  refine (with_calls _ _ _ _ _ (by omega) (by omega) g1).mono ?_; rintro e w' ⟨rfl, rfl⟩
  rw [HS.out]
  go_wp2_with fail
  go_ret
  exact ⟨rfl, rfl⟩

theorem bslot_calls (h : Int) (w : World) (h1 : 0 ≤ h) (h2 : h < 18446744073709551616) :
    Calls Try.prog 61 #[.int .u64 h] w fun e w' => e = .returned (.int .i64 (h % 4096)) ∧ w = w' := by
  have HS := Lib.hid (slot_eq h1)
  go_enter Try.func61, Try.ntmps61
  go_wp2_with fail
  refine (field_calls _ _ _ _ h1 h2).mono ?_; rintro e w' ⟨rfl, rfl⟩
  rw [HS.out]
  go_wp2_with fail
  go_ret
  exact ⟨rfl, rfl⟩

theorem bchanged_calls (h s : Int) (w : World) (h1 : 0 ≤ h) (h2 : h < 18446744073709551616) :
    Calls Try.prog 81 #[.int .u64 h, .int .i64 s] w fun e w' => e = .returned (.int .u64 (headI s (h / 4096 + 1))) ∧ w = w' := by
  have HS := Lib.hid (bchg_eq h1 h2)
  go_enter Try.func81, Try.ntmps81
  go_wp2_with fail
  refine (field_calls _ _ _ _ h1 h2).mono ?_; rintro e w' ⟨rfl, rfl⟩
  rw [HS.out]
  go_wp2_with fail
  refine (bhead_calls _ _ _ (by omega)).mono ?_; rintro e w' ⟨rfl, rfl⟩
  go_wp2_with fail
  go_ret
  exact ⟨rfl, rfl⟩





end Go.Proofs.Ytlahpnigabfenaa
