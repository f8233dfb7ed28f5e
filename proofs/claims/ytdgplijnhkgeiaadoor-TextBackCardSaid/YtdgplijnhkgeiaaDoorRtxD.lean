/- Layer 35, reading: the reference's Parse of a negative number, and of what is none. -/
import Derived.Test.YtdgplijnhkgeiaaDoorRtxC
namespace Go.Proofs.YtdgplijnhkgeiaaDoor
open Go.RowKit
open Go.Lib (itoa decDigits nDigits parseIntB cut index indexByte)
set_option linter.unusedVariables false
set_option linter.unusedSimpArgs false
theorem dec_stepN (q d u : Nat) (h : 10 * q + d ≤ u) (hu : (u : Int) ≤ 9223372036854775808) :
    wrap64 (10 * -(q : Int)) = 10 * -(q : Int) ∧ wrap64 (10 * -(q : Int) - (d : Int)) = 10 * -(q : Int) - (d : Int) ∧ IntKind.i64.wrap (10 * -(q : Int)) = 10 * -(q : Int) ∧ IntKind.i64.wrap (10 * -(q : Int) - (d : Int)) = 10 * -(q : Int) - (d : Int) := by
  have h1 : I64 (10 * -(q : Int)) := by unfold I64; omega
  have h2 : I64 (10 * -(q : Int) - (d : Int)) := by unfold I64; omega
  exact ⟨wrap_id h1, wrap_id h2, wrapi_id h1, wrapi_id h2⟩
set_option maxRecDepth 16000 in
set_option maxHeartbeats 4000000 in
theorem rparse_neg (n : Int) (w : World) (hn : I64 n) (h0 : n < 0) :
    Calls Tryd.prog 24 #[tx (itoa n)] w fun e w' => e = .returned (.tuple #[.int .i64 n, .bool true]) ∧ Below w.heap.size w w' := by
  refine Calls.veil fun Q HQ => ?_
  have RN := Lib.hid (fun w1 => rnum n hn w1)
  have hl : itoa n = 45 :: decDigits n.natAbs := by unfold itoa; rw [if_pos h0]
  have hlen : (itoa n).length = nDigits n.natAbs + 1 := by rw [hl, List.length_cons, Go.Lib.decDigits_length]
  have hbig : n.natAbs ≤ 9223372036854775808 := by have := hn.1; omega
  have hL19 := nd19 n.natAbs hbig
  have HPA := Lib.hid (fun t (h : t < nDigits n.natAbs) => pre_at n.natAbs t h)
  have HAT : Hid (∀ t, (itoa n)[t + 1]? = (decDigits n.natAbs)[t]?) := Lib.hid fun t => by rw [hl]; rfl
  have HI0 : Hid (∀ w1, (Instr.index 9 (tx (itoa n)) (.int .i64 0)).run Tryd.prog w1 = .ok (.int .u8 45) w1) := Lib.hid fun w1 => idx_tx _ 0 45 (by rw [hl]; rfl) w1
  have HU := Lib.hid (show (n.natAbs : Int) ≤ 9223372036854775808 by omega)
  have HUN := Lib.hid (show -((n.natAbs : Nat) : Int) = n by omega)
  have HPL := Lib.hid (preL n.natAbs)
  have HP0 := Lib.hid (pre0 n.natAbs)
  have HPLE := Lib.hid (pre_le n.natAbs)
  have hsz : (⟨(itoa n).toArray⟩ : ByteArray).size = nDigits n.natAbs + 1 := by show (itoa n).toArray.size = _; simp [hlen]
  clear hl hlen hbig h0 hn
  generalize n.natAbs = u at *
  generalize itoa n = l at *
  generalize nDigits u = L at *
  go_enter Tryd.func24, Tryd.ntmps24
  go_wp2_with fail
  go_loopw [4, 5] (fun zv iv wr => ∃ i : Nat, i ≤ L + 1 ∧ iv = .int .i64 i ∧ zv = .int .i64 (-((pre10 u (i - 1) : Nat) : Int)) ∧ wr = w)
    (fun _ iv _ => L + 1 - (intOf iv).toNat)
  case atStart => exact ⟨0, by omega, rfl, by rw [Nat.zero_sub, HP0.out]; rfl, rfl⟩
  case round =>
    obtain ⟨i, hi, rfl, rfl, rfl⟩ := hrel
    rcases (by omega : i = 0 ∨ (0 < i ∧ i < L + 1) ∨ i = L + 1) with h0 | ⟨h0, hlt⟩ | heq
    · subst h0
      have hix : ∀ w1, (Instr.index 9 (tx l) (.int .i64 0)).run Tryd.prog w1 = .ok (.int .u8 45) w1 := HI0.out
      obtain ⟨z, hz⟩ : ∃ z : Int, z = -((pre10 u (0 - 1) : Nat) : Int) := ⟨_, rfl⟩
      rw [← hz]
      have HZ := Lib.hid (show z = 0 by rw [hz, Nat.zero_sub, HP0.out]; rfl)
      have hl1 : (0 : Int) < (L : Int) + 1 := by omega
      have hl2 : 0 < L + 1 := by omega
      clear hz
      go_wp2_with fail
      go_roundw
      case rel => exact ⟨1, by omega, by go_num, by rw [HZ.out, show pre10 u (1 - 1) = 0 from HP0.out]; rfl, by first | rfl | trivial⟩
      case measure => simp [intOf]
    · obtain ⟨j, rfl⟩ : ∃ j, i = j + 1 := ⟨i - 1, by omega⟩
      obtain ⟨d, e1, e2, e3⟩ := HPA.out j (by omega)
      rw [← HAT.out j] at e2
      have hix := fun w1 => idx_tx _ (j + 1) _ e2 w1
      rw [dig_nat d e1] at hix
      have hix0 := HI0.out
      have hple := HPLE.out (j + 1)
      have hun := HU.out
      have c1 := u8_sub d e1
      generalize hb : ((48 + d : Nat) : Int) = b at *
      have b45 : (b == 45) = false := beq_eq_false_iff_ne.2 (by omega)
      have b48 : ¬ b < 48 := by omega
      have b57 : ¬ 57 < b := by omega
      have c2 : IntKind.i64.wrap (d : Int) = (d : Int) := wrapi_id ⟨by omega, by omega⟩
      have c2' : wrap64 (d : Int) = (d : Int) := wrap_id ⟨by omega, by omega⟩
      have E3 := Lib.hid e3
      rw [e3] at hple
      have HJ := Lib.hid (show pre10 u (j + 1 - 1) = pre10 u j from rfl)
      rw [HJ.out]
      have HJ2 := Lib.hid (show j + 1 + 1 - 1 = j + 1 from rfl)
      generalize pre10 u j = q at *
      obtain ⟨c3, c4, c3', c4'⟩ := dec_stepN q d u hple hun
      have i20 : ((j + 1 : Nat) : Int) < 20 := by omega
      generalize hi2 : j + 1 = i at *
      have HI2 := Lib.hid hi2
      have hlt2 : (i : Int) < (L : Int) + 1 := by omega
      clear hb e1 e2 e3 hple hun h0 hi2
      go_wp2_with fail
      go_roundw
      case rel => exact ⟨i + 1, by omega, by go_num, by rw [show i + 1 - 1 = i from rfl, E3.out]; congr 1; push_cast; omega, by first | rfl | trivial⟩
      case measure => simp [intOf]; omega
    · have HF := Lib.hid (show -((pre10 u (i - 1) : Nat) : Int) = n by rw [heq, Nat.add_sub_cancel, HPL.out, HUN.out])
      have hge : ¬ (i : Int) < (L : Int) + 1 := by omega
      rw [HF.out]
      clear heq
      go_wp2_with fail
      refine (RN.out _).mono ?_; rintro _ w2 ⟨rfl, hb2⟩
      have HB := Lib.hid hb2
      clear hb2
      go_wp2_with fail
      (try go_ret2)
      rw [HQ.out]
      exact ⟨rfl, HB.out⟩
set_option maxRecDepth 16000 in
set_option maxHeartbeats 4000000 in
theorem rparse_no (l : List UInt8) (w : World) (h : ∀ n, ¬ IsNum l n) (hl : l.length ≤ 100000) :
    Calls Tryd.prog 24 #[tx l] w fun e w' => e = .returned (.tuple #[.int .i64 0, .bool false]) ∧ Below w.heap.size w w' := by
  refine Calls.veil fun Q HQ => ?_
  have HN := Lib.hid h
  have hsz : (⟨l.toArray⟩ : ByteArray).size = l.length := by show l.toArray.size = _; simp
  have HLL := Lib.hid hl
  have HIX : Hid (∀ i, i < l.length → ∃ b : UInt8, ∀ w1, (Instr.index 9 (tx l) (.int .i64 (i : Nat))).run Tryd.prog w1 = .ok (.int .u8 (b.toNat : Int)) w1) := Lib.hid fun i hi => ⟨l[i], idx_tx _ i _ (List.getElem?_eq_getElem hi)⟩
  have HI0 : Hid (0 < l.length → ∃ b : UInt8, ∀ w1, (Instr.index 9 (tx l) (.int .i64 0)).run Tryd.prog w1 = .ok (.int .u8 (b.toNat : Int)) w1) := Lib.hid fun hi => HIX.out 0 hi
  clear h hl
  go_enter Tryd.func24, Tryd.ntmps24
  go_wp2_with fail
  go_loopw [4, 5] (fun zv iv wr => ∃ (i : Nat) (z : Int), i ≤ l.length ∧ i ≤ 20 ∧ iv = .int .i64 i ∧ Hid (I64 z) ∧ zv = .int .i64 z ∧ wr = w)
    (fun _ iv _ => 20 - (intOf iv).toNat)
  case atStart => exact ⟨0, 0, by omega, by omega, rfl, Lib.hid ⟨by decide, by decide⟩, rfl, rfl⟩
  case round =>
    obtain ⟨i, z, hi, hi20, rfl, HZ, rfl, rfl⟩ := hrel
    rcases (by omega : (i < l.length ∧ i < 20) ∨ ¬ (i < l.length ∧ i < 20)) with ⟨hlt, h20⟩ | hge
    · obtain ⟨b, hix⟩ := HIX.out i hlt
      obtain ⟨b0, hix0⟩ := HI0.out (by omega)
      generalize ((b.toNat : Nat) : Int) = x at *
      generalize ((b0.toNat : Nat) : Int) = x0 at *
      have i20 : (i : Int) < 20 := by omega
      have il : (i : Int) < (l.length : Int) := by omega
      have HR : Hid (∀ z', I64 z' → ∃ (i_1 : Nat) (z1 : Int), i_1 ≤ l.length ∧ i_1 ≤ 20 ∧ Value.int .i64 ((i : Int) + 1) = .int .i64 i_1 ∧ Hid (I64 z1) ∧ Value.int .i64 z' = .int .i64 z1 ∧ True) := Lib.hid fun z' hz => ⟨i + 1, z', by omega, by omega, by go_num, Lib.hid hz, rfl, trivial⟩
      cases q1 : (x == 45)
      · rcases (by omega : x < 48 ∨ (¬ x < 48 ∧ 57 < x) ∨ (¬ x < 48 ∧ ¬ 57 < x)) with q2 | ⟨q2, q3⟩ | ⟨q2, q3⟩
        · go_wp2_with fail
          (try go_ret2)
          rw [HQ.out]
          exact ⟨rfl, Below.refl _ _⟩
        · go_wp2_with fail
          (try go_ret2)
          rw [HQ.out]
          exact ⟨rfl, Below.refl _ _⟩
        · cases q4 : (x0 == 45)
          · go_wp2_with fail
            go_roundw
            case rel => exact ⟨i + 1, _, by omega, by omega, by go_num, Lib.hid (wrap_I _), rfl, by first | rfl | trivial⟩
            case measure => simp [intOf]; omega
          · go_wp2_with fail
            go_roundw
            case rel => exact ⟨i + 1, _, by omega, by omega, by go_num, Lib.hid (wrap_I _), rfl, by first | rfl | trivial⟩
            case measure => simp [intOf]; omega
      · cases q0 : ((i : Int) == 0)
        · have q2 : x < 48 := by have := beq_iff_eq.1 q1; omega
          go_wp2_with fail
          (try go_ret2)
          rw [HQ.out]
          exact ⟨rfl, Below.refl _ _⟩
        · go_wp2_with fail
          go_roundw
          case rel => exact ⟨i + 1, z, by omega, by omega, by go_num, HZ, rfl, by first | rfl | trivial⟩
          case measure => simp [intOf]; omega
    · have RN := Lib.hid (rnum z HZ.out wr)
      have hne : (itoa z == l) = false := beq_eq_false_iff_ne.2 (fun e => HN.out z ⟨HZ.out, e⟩)
      generalize itoa z = lz at *
      rcases (by omega : ¬ i < l.length ∨ (i < l.length ∧ ¬ i < 20)) with g1 | ⟨g1, g2⟩
      · have g1' : ¬ (i : Int) < (l.length : Int) := by omega
        clear hge
        go_wp2_with fail
        refine RN.out.mono ?_; rintro _ w2 ⟨rfl, hb2⟩
        have HB := Lib.hid hb2
        clear hb2
        go_wp2_with fail
        (try go_ret2)
        rw [HQ.out]
        exact ⟨rfl, HB.out⟩
      · have g1' : (i : Int) < (l.length : Int) := by omega
        have g2' : ¬ (i : Int) < 20 := by omega
        clear hge
        go_wp2_with fail
        refine RN.out.mono ?_; rintro _ w2 ⟨rfl, hb2⟩
        have HB := Lib.hid hb2
        clear hb2
        go_wp2_with fail
        (try go_ret2)
        rw [HQ.out]
        exact ⟨rfl, HB.out⟩
/-- Parse, whatever the text is. -/
theorem rparse (l : List UInt8) (n : Int) (w : World) (h : IsNum l n) :
    Calls Tryd.prog 24 #[tx l] w fun e w' => e = .returned (.tuple #[.int .i64 n, .bool true]) ∧ Below w.heap.size w w' := by
  obtain ⟨hn, rfl⟩ := h
  rcases (by omega : 0 ≤ n ∨ n < 0) with h | h
  · exact rparse_pos n w hn h
  · exact rparse_neg n w hn h
end Go.Proofs.YtdgplijnhkgeiaaDoor
