/- Layer 8's contracts: the reference's At; floor and ceiling. -/
import Derived.Test.YtdnjconfmaiegaaPairB
namespace Go.Proofs.Ytdnjconfmaiegaa
open Go.RowKit
set_option linter.unusedVariables false
set_option linter.unusedSimpArgs false

set_option maxHeartbeats 2000000 in
theorem rat (l : PL) (v : Value) (key : Int) (w : World) (h : PR w v l) (hn : l.length ≤ 100000) :
    Calls Try.prog 31 #[v, .int .i64 key] w fun e w' => e = .returned (.tuple #[.int .i64 (lbN l key), .bool (hereB l key)]) ∧ Below w.heap.size w w' := by
  refine Calls.veil fun Q HQ => ?_
  rcases (by omega : l.length = 0 ∨ 0 < l.length) with h0 | h0
  · have e : l = [] := List.eq_nil_of_length_eq_zero h0
    subst e
    obtain ⟨p, c, rfl, _, _⟩ := h.slice
    clear h h0
    show Calls _ _ #[.slice _ 0 _, _] _ _
    go_enter Try.func31, Try.ntmps31
    go_wp2_with fail
    refine wp_loop_rounds 1 ?_
    rw [rounds_succ]
    go_wp2_with fail
    (try go_ret2)
    rw [HQ.out]
    exact ⟨rfl, Below.refl _ _⟩
  · obtain ⟨g, o, c, rfl, h1, h2, H3⟩ := h.opened h0
    clear h
    go_enter Try.func31, Try.ntmps31
    go_wp2_with fail
    go_loopw [6, 7, 8] (fun nv tv iv wr => ∃ (i x : Nat) (t : Bool), i ≤ l.length ∧ x ≤ i ∧ nv = .int .i64 x ∧ tv = .bool t ∧ iv = .int .i64 i ∧ Hid (x = lbN (l.take i) key ∧ t = hereB (l.take i) key) ∧ Below w.heap.size w wr)
      (fun _ _ iv _ => l.length - (intOf iv).toNat)
    case atStart => exact ⟨0, 0, false, by omega, by omega, rfl, rfl, rfl, Lib.hid ⟨rfl, rfl⟩, Below.refl _ _⟩
    case round =>
      obtain ⟨i, x, t, hi, hx, rfl, rfl, rfl, HX, hbel⟩ := hrel
      rcases (by omega : i < l.length ∨ i = l.length) with hlt | heq
      · have c0 := Ext.cell ⟨wr, hbel⟩ (H3.out i hlt).1
        simp only at c0
        have HN : Hid (lbN (l.take (i + 1)) key = x + (if ky l i < key then 1 else 0) ∧ hereB (l.take (i + 1)) key = (t || ky l i == key)) := by
          rw [take_one hlt, lbN_snoc, hereB_snoc, ← HX.out.1, ← HX.out.2]; exact Lib.hid ⟨rfl, rfl⟩
        rcases (by omega : ky l i < key ∨ key ≤ ky l i) with hc | hc
        all_goals
          cases t
          · cases hE : (ky l i == key)
            all_goals
              have HE := Lib.hid hE
              have HC := Lib.hid hc
              go_wp2_with fail
              go_roundw
              case rel =>
                have h1 := HN.out.1; have h2 := HN.out.2
                rw [HE.out] at h2
                first | rw [if_pos HC.out] at h1 | rw [if_neg (by have := HC.out; omega)] at h1
                exact ⟨i + 1, _, _, by omega, by omega, by first | rfl | go_num, rfl, by go_num, Lib.hid ⟨h1.symm, h2.symm⟩, hbel⟩
              case measure => simp [intOf]; omega
          · have HC := Lib.hid hc
            go_wp2_with fail
            go_roundw
            case rel =>
              have h1 := HN.out.1; have h2 := HN.out.2
              first | rw [if_pos HC.out] at h1 | rw [if_neg (by have := HC.out; omega)] at h1
              exact ⟨i + 1, _, true, by omega, by omega, by first | rfl | go_num, rfl, by go_num, Lib.hid ⟨h1.symm, h2.symm⟩, hbel⟩
            case measure => simp [intOf]; omega
      · have HE := Lib.hid heq
        have hge : l.length ≤ i := by omega
        clear heq
        go_wp2_with fail
        (try go_ret2)
        rw [HQ.out]
        have h1 := HX.out.1; have h2 := HX.out.2
        rw [HE.out, List.take_length] at h1 h2
        exact ⟨by rw [← h1, ← h2]; rfl, hbel⟩
end Go.Proofs.Ytdnjconfmaiegaa
