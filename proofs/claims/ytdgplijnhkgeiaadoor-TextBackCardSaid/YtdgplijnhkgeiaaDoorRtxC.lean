/- Layer 35, reading: the reference's Parse. -/
import Derived.Test.YtdgplijnhkgeiaaDoorRtxB
import Derived.Test.YtdgplijnhkgeiaaDoorNumA
import Derived.Laws.Strings
namespace Go.Proofs.YtdgplijnhkgeiaaDoor
open Go.RowKit
open Go.Lib (itoa decDigits nDigits parseIntB cut index indexByte)
set_option linter.unusedVariables false
set_option linter.unusedSimpArgs false
theorem uStr9 : Tryd.prog.underlying 9 = some .string := by kernel_rfl
theorem idx_tx (l : List UInt8) (i : Nat) (b : UInt8) (hb : l[i]? = some b) (w : World) :
    (Instr.index 9 (tx l) (.int .i64 i)).run Tryd.prog w = .ok (.int .u8 (b.toNat : Int)) w := by
  have hi : i < l.length := (List.getElem?_eq_some_iff.1 hb).1
  have hsz : (⟨l.toArray⟩ : ByteArray).size = l.length := by show l.toArray.size = _; simp
  rw [run_index_string (P := Tryd.prog) (w := w) 9 ⟨l.toArray⟩ .i64 _ uStr9, dif_pos ⟨by omega, by rw [hsz]; omega⟩]
  have e : ((i : Int)).toNat = i := by omega
  simp only [e]
  rw [Go.Lib.getD_at _ _ (by rw [hsz]; exact hi)]
  have : (⟨l.toArray⟩ : ByteArray).data.toList = l := by show l.toArray.toList = _; simp
  rw [this, List.getD_eq_getElem?_getD, hb]
  rfl
theorem u8_sub (d : Nat) (h : d < 10) : IntKind.u8.wrap (((48 + d : Nat) : Int) - 48) = (d : Int) := by simp only [IntKind.wrap_u8]; omega
theorem wrap_I (x : Int) : I64 (wrap64 x) := by unfold I64 wrap64; omega
theorem wrap_id {x : Int} (h : I64 x) : wrap64 x = x := by unfold I64 at h; unfold wrap64; omega
theorem wrapi_id {x : Int} (h : I64 x) : IntKind.i64.wrap x = x := by unfold I64 at h; simp only [IntKind.wrap_i64]; (try unfold wrap64); omega
theorem nd19 (u : Nat) (h : u ≤ 9223372036854775808) : nDigits u ≤ 19 := by
  rcases (by omega : nDigits u ≤ 19 ∨ 20 ≤ nDigits u) with h1 | h1
  · exact h1
  · have h2 : u < 10 ^ 19 := by omega
    have h3 : 10 ^ (nDigits u - 1) ≤ u := by
      by_cases h10 : u < 10
      · rw [Go.Lib.nDigits_small h10] at h1; omega
      · have : ∀ k v : Nat, nDigits v = k + 1 → v ≠ 0 → 10 ^ k ≤ v := by
          intro k
          induction k with
          | zero => intro v _ h0; simp; omega
          | succ k ih =>
            intro v hv h0
            by_cases hv10 : v < 10
            · rw [Go.Lib.nDigits_small hv10] at hv; omega
            · rw [Go.Lib.nDigits_big hv10] at hv
              have := ih (v / 10) (by omega) (by omega)
              rw [Nat.pow_succ]; omega
        exact this _ u (by omega) (by omega)
    have h4 : 10 ^ 19 ≤ 10 ^ (nDigits u - 1) := Nat.pow_le_pow_right (by decide) (by omega)
    omega
/-- What the first t digits spell. -/
def pre10 (u t : Nat) : Nat := u / 10 ^ (nDigits u - t)
theorem pre0 (u : Nat) : pre10 u 0 = 0 := by unfold pre10; exact Nat.div_eq_of_lt (by simpa using Go.Lib.lt_pow_nDigits u)
theorem preL (u : Nat) : pre10 u (nDigits u) = u := by unfold pre10; simp
theorem pre_le (u t : Nat) : pre10 u t ≤ u := Nat.div_le_self _ _
theorem pre_at (u t : Nat) (h : t < nDigits u) : ∃ d, d < 10 ∧ (decDigits u)[t]? = some (UInt8.ofNat (48 + d)) ∧ pre10 u (t + 1) = 10 * pre10 u t + d := dec_at u t h
theorem dec_step (q d u : Nat) (h : 10 * q + d ≤ u) (hu : (u : Int) ≤ 9223372036854775807) :
    wrap64 (10 * (q : Int)) = 10 * (q : Int) ∧ wrap64 (10 * (q : Int) + (d : Int)) = 10 * (q : Int) + (d : Int) ∧ IntKind.i64.wrap (10 * (q : Int)) = 10 * (q : Int) ∧ IntKind.i64.wrap (10 * (q : Int) + (d : Int)) = 10 * (q : Int) + (d : Int) := by
  have h1 : I64 (10 * (q : Int)) := by unfold I64; omega
  have h2 : I64 (10 * (q : Int) + (d : Int)) := by unfold I64; omega
  exact ⟨wrap_id h1, wrap_id h2, wrapi_id h1, wrapi_id h2⟩
set_option maxRecDepth 16000 in
set_option maxHeartbeats 4000000 in
theorem rparse_pos (n : Int) (w : World) (hn : I64 n) (h0 : 0 ≤ n) :
    Calls Tryd.prog 24 #[tx (itoa n)] w fun e w' => e = .returned (.tuple #[.int .i64 n, .bool true]) ∧ Below w.heap.size w w' := by
  refine Calls.veil fun Q HQ => ?_
  have RN := Lib.hid (fun w1 => rnum n hn w1)
  have hl : itoa n = decDigits n.toNat := by unfold itoa; rw [if_neg (by omega)]
  obtain ⟨u, rfl⟩ := Int.eq_ofNat_of_zero_le h0
  have hu : ((u : Int)).toNat = u := by omega
  rw [hu] at hl
  rw [hl] at RN ⊢
  have hL := Go.Lib.decDigits_length u
  have hL19 := nd19 u (by have := hn.2; omega)
  have HU := Lib.hid hn.2
  obtain ⟨d0, g1, g2, _⟩ := pre_at u 0 (Go.Lib.nDigits_pos u)
  have HI0 := Lib.hid (fun w1 => idx_tx _ 0 _ g2 w1)
  rw [dig_nat d0 g1] at HI0
  have HPA := Lib.hid (fun t (h : t < nDigits u) => pre_at u t h)
  generalize hls : decDigits u = l at *
  have HLS := Lib.hid hls
  have h45 : (((48 + d0 : Nat) : Int) == 45) = false := beq_eq_false_iff_ne.2 (by omega)
  clear hls hl hu h0 hn g2
  have hsz : (⟨l.toArray⟩ : ByteArray).size = nDigits u := by show l.toArray.size = _; simp [hL]
  have HPL := Lib.hid (preL u)
  have HP0 := Lib.hid (pre0 u)
  have HPLE := Lib.hid (pre_le u)
  generalize nDigits u = L at *
  generalize hb0 : ((48 + d0 : Nat) : Int) = b0 at *
  clear hb0 g1 hL
  go_enter Tryd.func24, Tryd.ntmps24
  go_wp2_with fail
  go_loopw [4, 5] (fun zv iv wr => ∃ i : Nat, i ≤ L ∧ iv = .int .i64 i ∧ zv = .int .i64 ((pre10 u i : Nat) : Int) ∧ wr = w)
    (fun _ iv _ => L - (intOf iv).toNat)
  case atStart => exact ⟨0, by omega, rfl, by rw [HP0.out]; rfl, rfl⟩
  case round =>
    obtain ⟨i, hi, rfl, rfl, rfl⟩ := hrel
    rcases (by omega : i < L ∨ i = L) with hlt | heq
    · obtain ⟨d, e1, e2, e3⟩ := HPA.out i hlt
      have hix := fun w1 => idx_tx _ i _ e2 w1
      rw [dig_nat d e1] at hix
      have hix0 : ∀ w1, (Instr.index 9 (tx l) (.int .i64 0)).run Tryd.prog w1 = .ok (.int .u8 b0) w1 := HI0.out
      have hple := HPLE.out (i + 1)
      have hun := HU.out
      have c1 := u8_sub d e1
      generalize hb : ((48 + d : Nat) : Int) = b at *
      have b45 : (b == 45) = false := beq_eq_false_iff_ne.2 (by omega)
      have b48 : ¬ b < 48 := by omega
      have b57 : ¬ 57 < b := by omega
      have c2 : IntKind.i64.wrap (d : Int) = (d : Int) := wrapi_id ⟨by omega, by omega⟩
      have c2' : wrap64 (d : Int) = (d : Int) := wrap_id ⟨by omega, by omega⟩
      have E3 := Lib.hid e3
      rw [e3] at hple
      generalize pre10 u i = q at *
      obtain ⟨c3, c4, c3', c4'⟩ := dec_step q d u hple hun
      have i20 : (i : Int) < 20 := by omega
      clear hb e1 e2 e3 hple hun
      go_wp2_with fail
      go_roundw
      case rel => exact ⟨i + 1, by omega, by go_num, by rw [E3.out]; go_num, by first | rfl | trivial⟩
      case measure => simp [intOf]; omega
    · have HF := Lib.hid (show ((pre10 u i : Nat) : Int) = (u : Int) by rw [heq, HPL.out])
      have hge : ¬ (i : Int) < (L : Int) := by omega
      generalize ((pre10 u i : Nat) : Int) = z at *
      clear heq
      go_wp2_with fail
      rw [HF.out]
      refine (RN.out _).mono ?_; rintro _ w2 ⟨rfl, hb2⟩
      have HB := Lib.hid hb2
      clear hb2
      go_wp2_with fail
      (try go_ret2)
      rw [HQ.out]
      exact ⟨by first | rfl | rw [HF.out], HB.out⟩
end Go.Proofs.YtdgplijnhkgeiaaDoor
