/- Contracts of the document's functions of layer 1: bits one by one. -/
import Derived.Test.YtijmcaakdinfpaaWordA
import Derived.Below
import Derived.WalkSmall
import Derived.Maps.AppendAt
namespace Go.Proofs.Ytijmcaakdinfpaa
open Go.RowKit WordM

theorem infoInt : (Try.prog.info? 3).map (fun i => (i.zero, i.size, i.bytes)) = some (some (.int .i64 0), 1, 8) := by kernel_rfl

/-- The bits of a word, the lowest one first, as cells. -/
def bitCells (x k : Nat) : List Value := (List.range k).map fun j => .int .i64 ((x / 2 ^ j % 2 : Nat) : Int)
theorem bitCells_len (x k : Nat) : (bitCells x k).length = k := by simp [bitCells]
theorem bitCells_succ (x k : Nat) : bitCells x (k + 1) = bitCells x k ++ [.int .i64 (((x / 2 ^ k : Nat) : Int) % 2)] := by
  simp only [bitCells, List.range_succ, List.map_append, List.map_cons, List.map_nil]
  congr 3

theorem half (x k : Nat) : ((x / 2 ^ k : Nat) : Int) / 2 = ((x / 2 ^ (k + 1) : Nat) : Int) := by
  rw [Nat.pow_succ, ← Nat.div_div_eq_div_mul]; omega

set_option maxHeartbeats 1000000 in
theorem row_calls (x : Nat) (w : World) (hx : x < 18446744073709551616) :
    Calls Try.prog 25 #[.int .u64 (x : Int)] w fun e w' => ∃ v, e = .returned v ∧ w'.ownsRow w.heap.size 3 1 v 64 (bitCells x 64) ∧ Below w.heap.size w w' := by
  obtain ⟨i0, hi, hz0, hz1, hz2⟩ := info_parts infoInt
  go_enter Try.func25, Try.ntmps25
  go_wp2
  go_loopw [0, 3, 4] (fun u v i wr => ∃ k : Nat, k ≤ 64 ∧ i = .int .i64 k ∧ u = .int .u64 ((x / 2 ^ k : Nat) : Int) ∧ wr.ownsRow w.heap.size 3 1 v k (bitCells x k) ∧ Below w.heap.size w wr) (fun _ _ i _ => 64 - (intOf i).toNat)
  case atStart => exact ⟨0, by omega, rfl, by simp, World.ownsRow_nil _ _ _ _, Below.refl _ _⟩
  case round =>
    obtain ⟨k, hk, rfl, rfl, hown, hb⟩ := hrel
    have hd : (x / 2 ^ k) ≤ x := Nat.div_le_self _ _
    have hsz := hb.size
    rcases (by omega : k < 64 ∨ 64 ≤ k) with hlt | hge
    · have HS := Lib.hid (bitCells_succ x k)
      have HH := Lib.hid (half x k)
      generalize x / 2 ^ k = y at *
      go_wp2_with (first
        | (at_builtin; refine wpList_append_own _ rfl _ _ 41 rfl w.heap.size 3 i0 (.int .i64 0) 1 8 Try.underlying41 hi hz0 hz1 hz2 rfl (by decide) _ _ _ rfl (hown.alloc _) ⟨wr.heap.size, 0, none⟩ 1 1 [.int .i64 ((y : Int) % 2)] rfl rfl ?c1 ?c2 ?c3 ?c4 ?c5 ?_)
        | go_in)
      case c1 => exact cell_one_new _ _ _
      case c2 => intro u hu; simp at hu; subst hu; rfl
      case c3 => unfold maxLen; omega
      case c4 => omega
      case c5 => simp; omega
      intro v' w1 hown' hgrow _
      have hb1 : Below w.heap.size w w1 := (hb.alloc hsz _).grown hgrow (by simp; omega) (fun j hj => (hown.lt j hj).1)
      clear hown hb hgrow
      go_wp2
      go_roundw
      case rel => exact ⟨k + 1, by omega, by go_num, by rw [← HH.out], by rw [HS.out]; exact hown', hb1⟩
      case measure => simp [intOf]; omega
    · obtain rfl : k = 64 := by omega
      go_wp2
      go_ret
      exact ⟨_, rfl, hown, hb⟩

theorem num_step (y n k : Nat) (hk : k < n) : 2 * ((y % 2 ^ n) / 2 ^ (k + 1)) + y / 2 ^ k % 2 = (y % 2 ^ n) / 2 ^ k := by
  have h1 : y / 2 ^ k % 2 = (y % 2 ^ n) / 2 ^ k % 2 := by
    have e : ∀ a b : Nat, a.testBit 0 = b.testBit 0 → a % 2 = b % 2 := by
      intro a b h
      simp only [Nat.testBit_zero] at h
      by_cases h1 : a % 2 = 1 <;> by_cases h2 : b % 2 = 1 <;> simp_all <;> omega
    apply e
    rw [Nat.testBit_div_two_pow, Nat.testBit_div_two_pow, Nat.testBit_mod_two_pow]
    simp [hk]
  rw [h1, Nat.pow_succ, ← Nat.div_div_eq_div_mul]
  omega

set_option maxHeartbeats 1000000 in
theorem number_calls (y n g off cap : Nat) (w : World) (hn : n ≤ 64) (hc : ∀ j, j < n → w.cell? ⟨g, off + j, none⟩ = some (.int .i64 ((y / 2 ^ j % 2 : Nat) : Int))) :
    Calls Try.prog 24 #[.slice (some ⟨g, off, none⟩) n cap] w fun e w' => e = .returned (.int .u64 ((y % 2 ^ n : Nat) : Int)) ∧ w = w' := by
  have hlt : y % 2 ^ n < 18446744073709551616 := by
    have h1 : y % 2 ^ n < 2 ^ n := Nat.mod_lt _ (Nat.two_pow_pos n)
    have h2 : 2 ^ n ≤ 2 ^ 64 := Nat.pow_le_pow_right (by omega) hn
    omega
  have HZ := Lib.hid (show y % 2 ^ n / 2 ^ n = 0 from Nat.div_eq_of_lt (Nat.mod_lt _ (Nat.two_pow_pos n)))
  have HN := Lib.hid (num_step y n)
  have HC := Lib.hid hc; clear hc
  obtain ⟨z, hz⟩ : ∃ z, z = y % 2 ^ n := ⟨_, rfl⟩
  rw [← hz] at hlt HZ HN ⊢
  have Hz := Lib.hid hz; clear hz
  go_enter Try.func24, Try.ntmps24
  go_wp2
  go_loop [3, 4] (fun u i => ∃ k : Nat, k ≤ n ∧ i = .int .i64 ((k : Int) - 1) ∧ u = .int .u64 ((z / 2 ^ k : Nat) : Int)) (fun _ i => (intOf i + 1).toNat)
  case atStart => exact ⟨n, Nat.le_refl _, rfl, by rw [HZ.out]; rfl⟩
  case round =>
    obtain ⟨k, hk, rfl, rfl⟩ := hrel
    rcases (by omega : k = 0 ∨ 0 < k) with h0 | hpos
    · subst h0
      go_wp2
      go_ret
      exact ⟨by simp, rfl⟩
    · obtain ⟨m, rfl⟩ : ∃ m, k = m + 1 := ⟨k - 1, by omega⟩
      have hcell := HC.out m (by omega)
      have hs := Lib.hid (HN.out m (by omega))
      have hd1 : z / 2 ^ (m + 1) ≤ z := Nat.div_le_self _ _
      have hd2 : z / 2 ^ m ≤ z := Nat.div_le_self _ _
      have hb2 : y / 2 ^ m % 2 < 2 := Nat.mod_lt _ (by omega)
      have hbound : 2 * (z / 2 ^ (m + 1)) + y / 2 ^ m % 2 < 18446744073709551616 := by rw [hs.out]; omega
      have HA := Lib.hid (show z / 2 ^ (m + 1) = z / 2 ^ (m + 1) from rfl)
      generalize hq : z / 2 ^ (m + 1) = q at *
      generalize hb : y / 2 ^ m % 2 = b at *
      have e1 : ((m + 1 : Nat) : Int) - 1 = m := by omega
      rw [e1]
      clear e1 hq hb HA
      go_wp2
      go_round
      case rel => exact ⟨m, by omega, rfl, by rw [← hs.out]; go_num⟩
      case measure => simp [intOf]

theorem refmay_calls (a b : Int) (w : World) (a1 : -9223372036854775808 ≤ a) (a2 : a < 9223372036854775808) (b1 : -9223372036854775808 ≤ b) (b2 : b < 9223372036854775808) :
    Calls Try.prog 23 #[.int .i64 a, .int .i64 b] w fun e w' => e = .returned (.bool (mayB a b)) ∧ w = w' := by
  by_cases h : mayB a b = true
  · obtain ⟨h1, h2, h3, h4, h5⟩ := may_true h
    rw [h]; clear h
    have h6 : b + a < 65 := by omega
    have h7 : a < 64 := by omega
    have h8 : 0 < b := by omega
    have h9 : b < 65 := by omega
    go_enter Try.func23, Try.ntmps23
    go_wp2
    go_ret
    exact ⟨rfl, rfl⟩
  · have hf : mayB a b = false := by simpa using h
    have h' := may_false hf
    rw [hf]; clear h hf
    by_cases h1 : 0 ≤ a
    all_goals by_cases h2 : a < 64
    all_goals by_cases h3 : 0 < b
    all_goals by_cases h4 : b < 65
    all_goals try (have h5 : ¬ b + a < 65 := by omega)
    all_goals try clear h'
    all_goals
      go_enter Try.func23, Try.ntmps23
      go_wp2
      go_ret
      exact ⟨rfl, rfl⟩

theorem bitCells_get (x n j : Nat) (h : j < n) : (bitCells x n)[j]? = some (.int .i64 ((x / 2 ^ j % 2 : Nat) : Int)) := by
  simp [bitCells, h]

theorem own_some {w : World} {base : Nat} {e : TypeId} {size : Nat} {v : Value} {n : Nat} {xs : List Value} (h : w.ownsRow base e size v n xs) (hn : 0 < n) : ∃ g cap, v = .slice (some ⟨g, 0, none⟩) n cap ∧ base ≤ g ∧ n ≤ cap ∧ cap ≤ maxLen := by
  rcases h.2 with ⟨_, h0⟩ | ⟨g, cap, cur, rfl, hb, _, h1, h2, _⟩
  · omega
  · exact ⟨g, cap, rfl, hb, h1, h2⟩

set_option maxHeartbeats 1000000 in
theorem reffield_calls (x a b : Int) (w : World) (x1 : 0 ≤ x) (x2 : x < 18446744073709551616) (a1 : -9223372036854775808 ≤ a) (a2 : a < 9223372036854775808) (b1 : -9223372036854775808 ≤ b) (b2 : b < 9223372036854775808) :
    Calls Try.prog 9 #[.int .u64 x, .int .i64 a, .int .i64 b] w fun e w' => e = .returned (.int .u64 (fieldI x a b)) ∧ Below w.heap.size w w' := by
  by_cases h : mayB a b = true
  · obtain ⟨h1, h2, h3, h4, h5⟩ := may_true h
    have HF := Lib.hid (show fieldI x a b = ((x.toNat / 2 ^ a.toNat % 2 ^ b.toNat : Nat) : Int) by unfold fieldI; rw [if_pos h]; rfl)
    have HM := Lib.hid h; clear h
    obtain ⟨X, rfl⟩ := Int.eq_ofNat_of_zero_le x1
    obtain ⟨A, rfl⟩ := Int.eq_ofNat_of_zero_le h1
    obtain ⟨B, rfl⟩ := Int.eq_ofNat_of_zero_le (show 0 ≤ b by omega)
    rw [Int.toNat_natCast, Int.toNat_natCast, Int.toNat_natCast] at HF
    go_enter Try.func9, Try.ntmps9
    go_wp2_with fail
    refine (refmay_calls _ _ _ (by omega) (by omega) (by omega) (by omega)).mono ?_; rintro e w' ⟨rfl, rfl⟩
    rw [HM.out]
    go_wp2_with fail
    refine (row_calls _ _ (by omega)).mono ?_; rintro e w1 ⟨v, rfl, hown, hb⟩
    obtain ⟨g, cap, rfl, hg, hcap, hcap2⟩ := own_some hown (by omega)
    unfold maxLen at hcap2
    have hcell : ∀ j, j < B → w1.cell? ⟨g, A + j, none⟩ = some (.int .i64 ((X / 2 ^ A / 2 ^ j % 2 : Nat) : Int)) := by
      intro j hj
      rw [hown.cellAt (A + j) (by omega), bitCells_get _ _ _ (by omega), Nat.pow_add, Nat.div_div_eq_div_mul]
    have HC := Lib.hid hcell
    have HB := Lib.hid hb
    clear hown hb hcell
    go_wp2_with fail
    refine (number_calls (X / 2 ^ A) _ _ _ _ _ (by omega) HC.out).mono ?_; rintro e w2 ⟨rfl, rfl⟩
    rw [← HF.out]
    go_wp2_with fail
    go_ret
    exact ⟨rfl, HB.out⟩
  · have hf : mayB a b = false := by simpa using h
    have hm : fieldI x a b = 0 := by unfold fieldI; rw [if_neg h]
    rw [hm]; clear h hm
    go_enter Try.func9, Try.ntmps9
    go_wp2_with fail
    refine (refmay_calls _ _ _ (by omega) (by omega) (by omega) (by omega)).mono ?_; rintro e w' ⟨rfl, rfl⟩
    go_wp2_with fail
    go_ret
    exact ⟨rfl, Below.refl _ _⟩

theorem bit_of (y j : Nat) : y / 2 ^ j % 2 = (if y.testBit j then 1 else 0) := by
  rw [Nat.testBit_eq_decide_div_mod_eq]
  have := Nat.mod_lt (y / 2 ^ j) (show 0 < 2 by omega)
  by_cases h : y / 2 ^ j % 2 = 1 <;> simp [h]
  omega
theorem wth_succ_bit (x n a k i : Nat) : (wth x a (k + 1) n).testBit i = if i = a + k then n.testBit k else (wth x a k n).testBit i := by
  rw [wth_bit, wth_bit]
  by_cases h1 : i < a
  · rw [if_pos h1, if_neg (by omega), if_pos h1]
  · rw [if_neg h1, if_neg h1]
    by_cases h2 : i = a + k
    · subst h2
      rw [if_pos (by omega), if_pos rfl, show a + k - a = k by omega]
    · rw [if_neg h2]
      by_cases h3 : i < a + k
      · rw [if_pos h3, if_pos (by omega)]
      · rw [if_neg h3, if_neg (by omega)]
/-- The cells of a word of which the field's first k bits were changed. -/
theorem bits_set (x n a k : Nat) (hk : a + k < 64) : (bitCells (wth x a k n) 64).set (a + k) (.int .i64 ((n / 2 ^ k % 2 : Nat) : Int)) = bitCells (wth x a (k + 1) n) 64 := by
  apply List.ext_getElem?
  intro i
  rw [List.getElem?_set]
  by_cases hi : i < 64
  · rw [bitCells_get _ _ _ hi, bitCells_get _ _ _ hi, bit_of (wth x a (k + 1) n), wth_succ_bit, bit_of n, bit_of (wth x a k n)]
    by_cases h : a + k = i
    · subst h
      simp [bitCells, hk]
    · rw [if_neg h, if_neg (show ¬ i = a + k by omega)]
  · have h1 : ¬ a + k = i := by omega
    rw [if_neg h1]
    have e : ∀ y, (bitCells y 64)[i]? = none := fun y => List.getElem?_eq_none (by simp [bitCells]; omega)
    rw [e, e]
theorem wth_zero (x n a : Nat) : wth x a 0 n = x := by
  unfold wth
  simp [Nat.mod_one]
  have := Nat.div_add_mod x (2 ^ a)
  omega
theorem wth_mod (x a b n : Nat) (h : a + b ≤ 64) (hx : x < 18446744073709551616) : wth x a b n % 2 ^ 64 = wth x a b n :=
  Nat.mod_eq_of_lt (by have := wth_lt x a b n h hx; omega)

set_option maxHeartbeats 1600000 in
theorem refwith_calls (x a b n : Int) (w : World) (x1 : 0 ≤ x) (x2 : x < 18446744073709551616) (n1 : 0 ≤ n) (n2 : n < 18446744073709551616) (a1 : -9223372036854775808 ≤ a) (a2 : a < 9223372036854775808) (b1 : -9223372036854775808 ≤ b) (b2 : b < 9223372036854775808) :
    Calls Try.prog 11 #[.int .u64 x, .int .i64 a, .int .i64 b, .int .u64 n] w fun e w' => e = .returned (.int .u64 (withI x a b n)) ∧ Below w.heap.size w w' := by
  by_cases h : mayB a b = true
  · obtain ⟨h1, h2, h3, h4, h5⟩ := may_true h
    have HF := Lib.hid (show withI x a b n = ((wth x.toNat a.toNat b.toNat n.toNat : Nat) : Int) by unfold withI; rw [if_pos h])
    have HM := Lib.hid h; clear h
    obtain ⟨X, rfl⟩ := Int.eq_ofNat_of_zero_le x1
    obtain ⟨N, rfl⟩ := Int.eq_ofNat_of_zero_le n1
    obtain ⟨A, rfl⟩ := Int.eq_ofNat_of_zero_le h1
    obtain ⟨B, rfl⟩ := Int.eq_ofNat_of_zero_le (show 0 ≤ b by omega)
    rw [Int.toNat_natCast, Int.toNat_natCast, Int.toNat_natCast, Int.toNat_natCast] at HF
    have hX : X < 18446744073709551616 := by omega
    have hN : N < 18446744073709551616 := by omega
    go_enter Try.func11, Try.ntmps11
    go_wp2_with fail
    refine (refmay_calls _ _ _ (by omega) (by omega) (by omega) (by omega)).mono ?_; rintro e w' ⟨rfl, rfl⟩
    rw [HM.out]
    go_wp2_with fail
    refine (row_calls _ _ hX).mono ?_; rintro e w1 ⟨v, rfl, hown, hb⟩
    obtain ⟨g, cap, rfl, hg, hcap, hcap2⟩ := own_some hown (by omega)
    unfold maxLen at hcap2
    have HO := Lib.hid hown; have HB := Lib.hid hb
    clear hown hb
    go_wp2_with fail
    refine (row_calls _ _ hN).mono ?_; rintro e w2 ⟨v, rfl, hown2, hb2⟩
    obtain ⟨g2, cap2, rfl, hg2, hcap', hcap2'⟩ := own_some hown2 (by omega)
    unfold maxLen at hcap2'
    have HO2 := Lib.hid hown2; have HB2 := Lib.hid hb2
    clear hown2 hb2
    have hgg : g < w1.heap.size := (HO.out.lt g rfl).2
    have HW := Lib.hid (show w2.ownsRow w.heap.size 3 1 (.slice (some ⟨g, 0, none⟩) 64 cap) 64 (bitCells (wth X A 0 N) 64) by
      rw [wth_zero]
      refine HO.out.kept (row := none) ⟨HB2.out.os, HB2.out.tape, HB2.out.output, HB2.out.size, fun k hk _ => HB2.out.block k hk⟩ (Or.inr (by simp [Value.ownBlock])))
    have HBB := Lib.hid (HB.out.trans (HB2.out.mono HB.out.size))
    clear HO HB HB2
    go_wp2_with fail
    go_loopw [11] (fun i wr => ∃ k : Nat, k ≤ B ∧ i = .int .i64 k ∧ Hid (wr.ownsRow w.heap.size 3 1 (.slice (some ⟨g, 0, none⟩) 64 cap) 64 (bitCells (wth X A k N) 64)) ∧ Hid (wr.ownsRow w1.heap.size 3 1 (.slice (some ⟨g2, 0, none⟩) 64 cap2) 64 (bitCells N 64)) ∧ Hid (Below w.heap.size w wr)) (fun i _ => B - (intOf i).toNat)
    case atStart => exact ⟨0, by omega, rfl, HW, HO2, HBB⟩
    case round =>
      obtain ⟨k, hk, rfl, hown, hown2, hb⟩ := hrel
      rcases (by omega : k < B ∨ B ≤ k) with hlt | hge
      · have hc2 : wr.cell? ⟨g2, k, none⟩ = some (.int .i64 ((N / 2 ^ k % 2 : Nat) : Int)) := by rw [hown2.out.cellAt k (by omega), bitCells_get _ _ _ (by omega)]
        have hc1 : wr.cell? ⟨g, A + k, none⟩ = some (.int .i64 ((wth X A k N / 2 ^ (A + k) % 2 : Nat) : Int)) := by rw [hown.out.cellAt (A + k) (by omega), bitCells_get _ _ _ (by omega)]
        have hf1 := hown.out.frozenAt (A + k)
        have HS := Lib.hid (bits_set X N A k (by omega))
        have hst := hown.out.stored (A + k) (.int .i64 ((N / 2 ^ k % 2 : Nat) : Int))
        rw [HS.out] at hst
        have H1 := Lib.hid hst.1
        have H2 := Lib.hid (hown2.out.kept hst.2 (Or.inr (by simp [Value.ownBlock]; omega)))
        have H3 := Lib.hid (hb.out.setCell (p := ⟨g, A + k, none⟩) hg (.int .i64 ((N / 2 ^ k % 2 : Nat) : Int)))
        clear hst HS
        generalize N / 2 ^ k % 2 = bit at *
        generalize wth X A k N / 2 ^ (A + k) % 2 = bit2 at *
        go_wp2_with fail
        go_roundw
        case rel => exact ⟨k + 1, by omega, by go_num, H1, H2, H3⟩
        case measure => simp [intOf]; omega
      · obtain rfl : k = B := by omega
        have HN := Lib.hid (show ∀ j, j < 64 → wr.cell? ⟨g, 0 + j, none⟩ = some (.int .i64 ((wth X A k N / 2 ^ j % 2 : Nat) : Int)) from fun j hj => by
          rw [Nat.zero_add, hown.out.cellAt j (by omega), bitCells_get _ _ _ hj])
        go_wp2_with fail
        refine (number_calls (wth X A k N) _ _ _ _ _ (by omega) HN.out).mono ?_; rintro e w3 ⟨rfl, rfl⟩
        rw [wth_mod _ _ _ _ (by omega) hX, ← HF.out]
        go_wp2_with fail
        go_ret
        exact ⟨rfl, hb.out⟩
  · have hf : mayB a b = false := by simpa using h
    have hm : withI x a b n = x := by unfold withI; rw [if_neg h]
    rw [hm]; clear h hm
    go_enter Try.func11, Try.ntmps11
    go_wp2_with fail
    refine (refmay_calls _ _ _ (by omega) (by omega) (by omega) (by omega)).mono ?_; rintro e w' ⟨rfl, rfl⟩
    go_wp2_with fail
    go_ret
    exact ⟨rfl, Below.refl _ _⟩
end Go.Proofs.Ytijmcaakdinfpaa
