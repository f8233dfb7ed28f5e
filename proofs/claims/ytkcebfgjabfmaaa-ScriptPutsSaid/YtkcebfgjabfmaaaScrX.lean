/- Layer 14: the reference's bytes of a number, and of an entry. -/
import Derived.Test.YtkcebfgjabfmaaaScrW
namespace Go.Proofs.Ytkcebfgjabfmaaa
open Go.RowKit WordM
set_option linter.unusedVariables false
set_option linter.unusedSimpArgs false
theorem rbits (n : Int) (w : World) : Calls Try.prog 27 #[.int .i64 n] w fun e w' => e = .returned (.int .u64 (uw n)) ∧ w = w' := by
  rcases (by omega : 0 ≤ n ∨ n < 0) with h | h
  · go_enter Try.func27, Try.ntmps27
    go_wp2
    go_ret
    exact ⟨ret_int (by first | rfl | (unfold uw; rw [IntKind.wrap_u64]; omega)), rfl⟩
  · go_enter Try.func27, Try.ntmps27
    go_wp2
    go_ret
    exact ⟨ret_int (by unfold uw; simp only [IntKind.wrap_u64]; (try unfold wrap64); omega), rfl⟩
theorem byte_step (X k : Nat) : ((X / 256 ^ k : Nat) : Int) / 256 = ((X / 256 ^ (k + 1) : Nat) : Int) := by
  rw [Nat.pow_succ, ← Nat.div_div_eq_div_mul]; omega
theorem byte_at (X k : Nat) (hk : k < 8) : fieldI (X : Int) ((k : Int) * 8) 8 = ((X / 256 ^ k : Nat) : Int) % 256 := by
  rw [field_eq (may_mk (by omega)) (by omega)]
  have e : ((k : Int) * 8).toNat = 8 * k := by omega
  rw [e]
  have e2 : (2 : Int) ^ (8 * k) = ((256 ^ k : Nat) : Int) := by
    rw [show (2 : Int) = ((2 : Nat) : Int) from rfl, ← Int.natCast_pow, Nat.pow_mul]
  rw [e2]
  rfl
theorem byte_id (y : Int) (h0 : 0 ≤ y) (h1 : y ≤ 255) : IntKind.u8.wrap y = y := by
  simp only [IntKind.wrap_u8]; omega
set_option maxHeartbeats 2000000 in
theorem rnumber (X m : Nat) (w : World) (hm : m ≤ 8) (hX : X < 18446744073709551616) :
    Calls Try.prog 26 #[.int .u64 (X : Int), .int .i64 m] w fun e w' => ∃ v', e = .returned v' ∧ OwnB w' w.heap.size v' (byL (X : Int) m) ∧ Below w.heap.size w w' := by
  refine Calls.veil fun Q HQ => ?_
  go_enter Try.func26, Try.ntmps26
  go_wp2_with fail
  go_loopw [0, 5, 6] (fun u ov iv wr => ∃ i : Nat, i ≤ m ∧ iv = .int .i64 i ∧ u = .int .u64 ((X / 256 ^ i : Nat) : Int) ∧ Hid (OwnB wr w.heap.size ov (byL (X : Int) i)) ∧ Below w.heap.size w wr)
    (fun _ _ iv _ => m - (intOf iv).toNat)
  case atStart => exact ⟨0, by omega, rfl, by simp, Lib.hid ⟨rfl, .inl ⟨rfl, rfl⟩⟩, Below.refl _ _⟩
  case round =>
    obtain ⟨i, hi', rfl, rfl, HJ, hbx⟩ := hrel
    have HX := Lib.hid hbx
    clear hbx
    rcases (by omega : i < m ∨ i = m) with hlt | heq
    · have HS := Lib.hid (byte_step X i)
      have HY := Lib.hid (show byL (X : Int) (i + 1) = byL (X : Int) i ++ [((X / 256 ^ i : Nat) : Int) % 256] by rw [byL_succ, byte_at X i (by omega)])
      have HL := Lib.hid (byL_len (X : Int) i)
      have hd : X / 256 ^ i ≤ X := Nat.div_le_self _ _
      generalize X / 256 ^ i = y at *
      have hw := byte_id ((y : Int) % 256) (by omega) (by omega)
      go_wp2_with (at_builtin; refine wpList_append_bc rfl _ _ rfl w.heap.size _ _ [((y : Nat) : Int) % 256] rfl (World.ownsRow.alloc HJ.out _) ⟨wr.heap.size, 0, none⟩ 1 1 rfl rfl (fun q u hq => by
        have : q = 0 := by have := (List.getElem?_eq_some_iff.1 hq).1; simpa [bcells] using this
        subst this
        simp [bcells] at hq; subst hq
        exact Ext.made_in rfl (Below.refl _ _) 0 _ rfl) (by have := HL.out; simp only [List.length_cons, List.length_nil]; omega) (by have := HX.out.size; simp; omega) ?_)
      intro v1 w1 hown hg
      have hb := grow_stepE (W := w) (World.ownsRow.alloc HJ.out _) (HX.out.alloc (by have := HX.out.size; omega) _) (Nat.le_refl _) hg
      have HJ1 : Hid (OwnB w1 w.heap.size v1 (byL (X : Int) (i + 1))) := by rw [HY.out]; exact Lib.hid hown
      clear hown hg hw
      go_wp2_with fail
      go_roundw
      case rel => exact ⟨i + 1, by omega, by go_num, by rw [← HS.out], HJ1, hb⟩
      case measure => simp [intOf]; omega
    · have HFIN := HJ.out
      rw [heq] at HFIN
      have HFIN := Lib.hid HFIN
      have hge : m ≤ i := by omega
      clear heq
      go_wp2_with fail
      (try go_ret)
      rw [HQ.out]
      exact ⟨_, rfl, HFIN.out, HX.out⟩
theorem rnum (x : Int) (m : Nat) (w : World) (hm : m ≤ 8) (x0 : 0 ≤ x) (x1 : x < 18446744073709551616) :
    Calls Try.prog 26 #[.int .u64 x, .int .i64 m] w fun e w' => ∃ v', e = .returned v' ∧ OwnB w' w.heap.size v' (byL x m) ∧ Below w.heap.size w w' := by
  obtain ⟨X, rfl⟩ := Int.eq_ofNat_of_zero_le x0
  exact rnumber X m w hm (by omega)
theorem bit7 : ∀ t : Fin 64, fieldI (withI ((t.val : Nat) : Int) 7 1 0) 0 8 = ((t.val : Nat) : Int) ∧ fieldI (withI ((t.val : Nat) : Int) 7 1 1) 0 8 = ((t.val : Nat) : Int) + 128 := by decide
theorem by_th (t : Int) (h0 : 0 ≤ t) (h1 : t ≤ 63) : byL (withI t 7 1 0) 1 = [t] ∧ byL (withI t 7 1 1) 1 = [t + 128] := by
  obtain ⟨X, rfl⟩ := Int.eq_ofNat_of_zero_le h0
  have h := bit7 ⟨X, by omega⟩
  simp only at h
  exact ⟨by rw [byL_succ]; simp [byL, h.1], by rw [byL_succ]; simp [byL, h.2]⟩
theorem by_one (x : Int) (h0 : 0 ≤ x) (h1 : x ≤ 255) : byL x 1 = [x] := by
  obtain ⟨X, rfl⟩ := Int.eq_ofNat_of_zero_le h0
  rw [byL_succ, byte_at X 0 (by omega)]
  simp [byL]
  omega
end Go.Proofs.Ytkcebfgjabfmaaa
