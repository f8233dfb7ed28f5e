/- Layer 2's contracts: keys. -/
import Derived.Test.YtmokniemmiomfaaGreatWordA
import Derived.Test.YtmokniemmiomfaaGreatEdgeM
import Derived.Test.YtmokniemmiomfaaGreatExt
import Derived.Laws.StructEq
namespace Go.Proofs.YtmokniemmiomfaaGreat
open Go.RowKit WordM EdgeM

def rightB (c n : Int) : Bool := decide (c = 0 ∨ (0 < c ∧ c ≤ 3 ∧ n = 0))
def cmp3 (a b : Int) : Int := if a < b then -1 else if b < a then 1 else 0
def cmpI (c n d m : Int) : Int := if c = d then cmp3 n m else cmp3 c d

theorem comparei_calls (a b : Int) (w : World) : Calls Tryz.prog 141 #[.int .i64 a, .int .i64 b] w fun e w' => e = .returned (.int .i64 (cmp3 a b)) ∧ w = w' := by
  rcases (by omega : a < b ∨ (b < a ∧ ¬ a < b) ∨ a = b) with h | ⟨h, h'⟩ | h
  · have HS := Lib.hid (show cmp3 a b = -1 by unfold cmp3; rw [if_pos h])
    go_enter Tryz.func141, Tryz.ntmps141
    go_wp2
    go_ret
    exact ⟨ret_int (by rw [HS.out]), rfl⟩
  · have HS := Lib.hid (show cmp3 a b = 1 by unfold cmp3; rw [if_neg h', if_pos h])
    go_enter Tryz.func141, Tryz.ntmps141
    go_wp2
    go_ret
    exact ⟨ret_int (by rw [HS.out]), rfl⟩
  · subst h
    have HS := Lib.hid (show cmp3 a a = 0 by unfold cmp3; simp)
    go_enter Tryz.func141, Tryz.ntmps141
    go_wp2
    go_ret
    exact ⟨ret_int (by rw [HS.out]), rfl⟩
theorem compareu_calls (a b : Int) (w : World) : Calls Tryz.prog 142 #[.int .u64 a, .int .u64 b] w fun e w' => e = .returned (.int .i64 (cmp3 a b)) ∧ w = w' := by
  rcases (by omega : a < b ∨ (b < a ∧ ¬ a < b) ∨ a = b) with h | ⟨h, h'⟩ | h
  · have HS := Lib.hid (show cmp3 a b = -1 by unfold cmp3; rw [if_pos h])
    go_enter Tryz.func142, Tryz.ntmps142
    go_wp2
    go_ret
    exact ⟨ret_int (by rw [HS.out]), rfl⟩
  · have HS := Lib.hid (show cmp3 a b = 1 by unfold cmp3; rw [if_neg h', if_pos h])
    go_enter Tryz.func142, Tryz.ntmps142
    go_wp2
    go_ret
    exact ⟨ret_int (by rw [HS.out]), rfl⟩
  · subst h
    have HS := Lib.hid (show cmp3 a a = 0 by unfold cmp3; simp)
    go_enter Tryz.func142, Tryz.ntmps142
    go_wp2
    go_ret
    exact ⟨ret_int (by rw [HS.out]), rfl⟩


theorem ocmp_calls (c n d m : Int) (w : World) (n1 : -9223372036854775808 ≤ n) (n2 : n < 9223372036854775808) (m1 : -9223372036854775808 ≤ m) (m2 : m < 9223372036854775808) :
    Calls Tryz.prog 134 #[.agg #[.int .i64 c, .int .i64 n], .agg #[.int .i64 d, .int .i64 m]] w fun e w' => e = .returned (.int .i64 (cmpI c n d m)) ∧ Below w.heap.size w w' := by
  have hbel : ∀ o o' : Obj, Below w.heap.size w ((w.alloc o).alloc o') := fun o o' => ((Below.refl _ _).alloc (Nat.le_refl _) _).alloc (by simp) _
  have HB := Lib.hid hbel; clear hbel
  cases hc : (c == d)
  · have HS := Lib.hid (show cmp3 c d = cmpI c n d m by unfold cmpI; rw [if_neg (by simpa using hc)])
    go_enter Tryz.func134, Tryz.ntmps134
    go_wp2_with fail
    refine (comparei_calls _ _ _).mono ?_; rintro _ _ ⟨rfl, rfl⟩
    rw [HS.out]
    go_wp2_with fail
    go_ret
    exact ⟨rfl, HB.out _ _⟩
  · obtain rfl : c = d := by simpa using hc
    clear hc
    cases hn : (n == m)
    · have HS := Lib.hid (show cmp3 (n + 9223372036854775808) (m + 9223372036854775808) = cmpI c n c m by
        have : n ≠ m := by simpa using hn
        unfold cmpI cmp3; rw [if_pos rfl]; split <;> split <;> simp_all <;> omega)
      go_enter Tryz.func134, Tryz.ntmps134
      go_wp2_with fail
      generalize hW : World.alloc (World.alloc _ _) _ = W at *
      have hBW : Below w.heap.size w W := by rw [← hW]; exact HB.out _ _
      have x0 := Ext.made1 hW 1 _ rfl; have y0 := Ext.made hW 1 _ rfl
      simp only [World.size_alloc] at y0
      clear hW
      refine wp_region_ext W (by kernel_rfl) (by kernel_rfl) ?_
      repeat (go_big_quiet_step (first | (go_at_call 94; refine Ext.same (field_calls _ _ _ _ ?_ ?_) <;> omega) | (go_at_call 52; refine Ext.same (with_calls _ _ _ _ _ ?_ ?_ ?_) <;> omega) | (go_at_call 64; refine Ext.same (mask_calls _ _ _) <;> omega) | (go_at_call 110; refine Ext.same (bit_calls _ _ _ ?_ ?_) <;> omega) | (go_at_call 54; refine Ext.same (turned_calls _ _ _ _ ?_ ?_) <;> omega) | (go_at_call 143; refine Ext.same (rank_calls _ _ ?_ ?_) <;> omega) | (go_at_call 124; refine Ext.same (bits_calls _ _) <;> omega) | (go_at_call 57; refine Ext.same (signed_calls _ _) <;> omega) | (go_at_call 141; refine Ext.same (comparei_calls _ _ _) <;> omega) | (go_at_call 142; refine Ext.same (compareu_calls _ _ _) <;> omega) | (go_at_call 134; refine Ext.call (ocmp_calls _ _ _ _ _ ?_ ?_ ?_ ?_) <;> omega) | (go_at_call 125; refine Ext.call (oless_calls _ _ _ _ _ ?_ ?_ ?_ ?_) <;> omega) | (go_at_call 123; refine Ext.call (omax_calls _ _ _ _ _ ?_ ?_ ?_ ?_) <;> omega) | (go_at_call 115; refine Ext.call (oside_calls _ _ _ _ _ ?_ ?_ ?_ ?_) <;> omega) | (go_at_call 58; refine Ext.call (ouser_calls _ _) <;> omega) | (go_at_call 40; refine Ext.same (oinfo_calls _ _ _) <;> omega) | (go_at_call 114; refine Ext.same (oread_calls _ _ ?_ ?_) <;> omega)))
      refine wpQuiet_nil ?_
      intro _ hw'
      obtain ⟨⟨W2, hb2⟩, rfl⟩ := hw'
      rw [HS.out]
      go_wp2_with fail
      go_ret
      exact ⟨rfl, hBW.trans (hb2.mono hBW.size)⟩
    · obtain rfl : n = m := by simpa using hn
      clear hn
      have HS := Lib.hid (show (0 : Int) = cmpI c n c n by unfold cmpI cmp3; simp)
      go_enter Tryz.func134, Tryz.ntmps134
      go_wp2
      go_ret
      exact ⟨ret_int HS.out, HB.out _ _⟩

theorem cmpI_range (c n d m : Int) : cmpI c n d m = -1 ∨ cmpI c n d m = 0 ∨ cmpI c n d m = 1 := by unfold cmpI cmp3; split <;> split <;> (try split) <;> simp
def lessB (c n d m : Int) : Bool := decide (cmpI c n d m < 0)

theorem oless_calls (c n d m : Int) (w : World) (n1 : -9223372036854775808 ≤ n) (n2 : n < 9223372036854775808) (m1 : -9223372036854775808 ≤ m) (m2 : m < 9223372036854775808) :
    Calls Tryz.prog 125 #[.agg #[.int .i64 c, .int .i64 n], .agg #[.int .i64 d, .int .i64 m]] w fun e w' => e = .returned (.bool (lessB c n d m)) ∧ Below w.heap.size w w' := by
  have HL := Lib.hid (show lessB c n d m = decide (cmpI c n d m < 0) from rfl)
  go_enter Tryz.func125, Tryz.ntmps125
  go_wp2_with fail
  have hb0 := below_new (below_new (Below.refl w.heap.size w) (.cells #[.int .i64 c, .int .i64 n] 100)) (.cells #[.int .i64 d, .int .i64 m] 100)
  refine (ocmp_calls _ _ _ _ _ n1 n2 m1 m2).mono ?_; rintro _ w1 ⟨rfl, hb⟩
  have HB := Lib.hid (below_on hb0 hb); clear hb hb0
  go_wp2_with fail
  go_ret
  exact ⟨by rw [HL.out]; rfl, HB.out⟩

/-- The greater key. -/
theorem omax_calls (c n d m : Int) (w : World) (n1 : -9223372036854775808 ≤ n) (n2 : n < 9223372036854775808) (m1 : -9223372036854775808 ≤ m) (m2 : m < 9223372036854775808) :
    Calls Tryz.prog 123 #[.agg #[.int .i64 c, .int .i64 n], .agg #[.int .i64 d, .int .i64 m]] w fun e w' => e = .returned (if lessB c n d m then .agg #[.int .i64 d, .int .i64 m] else .agg #[.int .i64 c, .int .i64 n]) ∧ Below w.heap.size w w' := by
  cases hl : lessB c n d m
  all_goals
    have HL := Lib.hid hl; clear hl
    go_enter Tryz.func123, Tryz.ntmps123
    go_wp2_with fail
    generalize hV : World.alloc (World.alloc w _) _ = V at *
    have hbV : Below w.heap.size w V := by rw [← hV]; exact below_new (below_new (Below.refl w.heap.size w) _) _
    generalize hW : World.alloc V _ = W at *
    have hbW : Below w.heap.size w W := by rw [← hW]; exact below_new hbV _
    have hVs : V.heap.size = w.heap.size + 1 + 1 := by rw [← hV]; simp
    refine (oless_calls _ _ _ _ _ n1 n2 m1 m2).mono ?_; rintro _ w1 ⟨rfl, hb⟩
    rw [HL.out]
    have hVb : Below V.heap.size V w1 := below_on (by rw [← hW]; exact below_new (Below.refl _ _) _) hb
    have x0 := Ext.made1_in hV hVb 0 _ rfl; have x1 := Ext.made1_in hV hVb 1 _ rfl
    have y0 := Ext.made_in hV hVb 0 _ rfl; have y1 := Ext.made_in hV hVb 1 _ rfl
    simp only [World.size_alloc] at y0 y1
    have z0 := Ext.made_in hW hb 0 _ rfl; have z1 := Ext.made_in hW hb 1 _ rfl
    have f0 := Ext.made_fr hW hb 0; have f1 := Ext.made_fr hW hb 1
    rw [hVs] at z0 z1 f0 f1
    have HB := Lib.hid (below_on hbW hb)
    clear hb hVb hbW hbV hV hW hVs
    go_wp2_with fail
    first
      | exact bodyPost_ret (v := .agg #[.int .i64 c, .int .i64 n]) (by simp [results, Tryz.results123, go_sem, z0, z1, World.cell?_setCell_same, World.cell?_setCell_other]) rfl ⟨rfl, below_set (below_set HB.out (by omega) _) (by omega) _⟩
      | exact bodyPost_ret (v := .agg #[.int .i64 d, .int .i64 m]) (by simp [results, Tryz.results123, go_sem, z0, z1, World.cell?_setCell_same, World.cell?_setCell_other]) rfl ⟨rfl, below_set (below_set HB.out (by omega) _) (by omega) _⟩

theorem oside_calls (c n d m : Int) (w : World) (n1 : -9223372036854775808 ≤ n) (n2 : n < 9223372036854775808) (m1 : -9223372036854775808 ≤ m) (m2 : m < 9223372036854775808) :
    Calls Tryz.prog 115 #[.agg #[.int .i64 c, .int .i64 n], .agg #[.int .i64 d, .int .i64 m]] w fun e w' => e = .returned (.int .i64 (if lessB c n d m then 0 else 1)) ∧ Below w.heap.size w w' := by
  cases hl : lessB c n d m
  all_goals
    have HL := Lib.hid hl; clear hl
    go_enter Tryz.func115, Tryz.ntmps115
    go_wp2_with fail
    have hb0 := below_new (below_new (Below.refl w.heap.size w) (.cells #[.int .i64 c, .int .i64 n] 100)) (.cells #[.int .i64 d, .int .i64 m] 100)
    refine (oless_calls _ _ _ _ _ n1 n2 m1 m2).mono ?_; rintro _ w1 ⟨rfl, hb⟩
    rw [HL.out]
    have HB := Lib.hid (below_on hb0 hb); clear hb hb0
    go_wp2_with fail
    go_ret
    exact ⟨rfl, HB.out⟩

theorem ouser_calls (n : Int) (w : World) : Calls Tryz.prog 58 #[.int .i64 n] w fun e w' => e = .returned (.agg #[.int .i64 0, .int .i64 n]) ∧ Below w.heap.size w w' := by
  go_enter Tryz.func58, Tryz.ntmps58
  go_wp2_with fail
  exact bodyPost_ret (v := .agg #[.int .i64 0, .int .i64 n]) (by simp [results, Tryz.results58, go_sem]) rfl ⟨rfl, (Below.refl _ _).alloc (Nat.le_refl _) _⟩



def infoI (leaf : Bool) (k : Int) : Int := if 0 ≤ k ∧ k ≤ 3 then 2 * k + (if leaf then 1 else 0) else 0
theorem oinfo_calls (leaf : Bool) (k : Int) (w : World) : Calls Tryz.prog 40 #[.bool leaf, .int .i64 k] w fun e w' => e = .returned (.int .u64 (infoI leaf k)) ∧ w = w' := by
  rcases (by omega : k < 0 ∨ (0 ≤ k ∧ 3 < k) ∨ (0 ≤ k ∧ k ≤ 3)) with h | ⟨h, h'⟩ | ⟨h, h'⟩
  iterate 2
    case _ =>
      have HI := Lib.hid (show infoI leaf k = 0 by unfold infoI; rw [if_neg (by omega)])
      go_enter Tryz.func40, Tryz.ntmps40
      go_wp2
      go_ret
      exact ⟨ret_int (by rw [HI.out]), rfl⟩
  have HU := Lib.hid (show IntKind.u64.wrap k = k by rw [IntKind.wrap_u64]; omega)
  cases leaf
  · have H1 := Lib.hid (show withI 0 0 1 0 = 0 by decide)
    have HI := Lib.hid (show withI 0 1 2 k = infoI false k by
      rw [with_eq (by decide) (by omega) h]; unfold infoI; rw [if_pos ⟨h, h'⟩]; show 8 * (0 / 8) + (2 * (k % 4) + 0 % 2) = _; simp; omega)
    go_enter Tryz.func40, Tryz.ntmps40
    go_wp2_with fail
    refine (turned_calls _ _ _ _ (by omega) (by omega)).mono ?_; rintro e w' ⟨rfl, rfl⟩
    rw [if_neg Bool.false_ne_true, H1.out]
    go_wp2_with fail
    refine (with_calls _ _ _ _ _ (by omega) (by omega) h).mono ?_; rintro e w' ⟨rfl, rfl⟩
    rw [HI.out]
    go_wp2_with fail
    go_ret
    exact ⟨rfl, rfl⟩
  · have H1 := Lib.hid (show withI 0 0 1 1 = 1 by decide)
    have HI := Lib.hid (show withI 1 1 2 k = infoI true k by
      rw [with_eq (by decide) (by omega) h]; unfold infoI; rw [if_pos ⟨h, h'⟩]; show 8 * (1 / 8) + (2 * (k % 4) + 1 % 2) = _; simp; omega)
    go_enter Tryz.func40, Tryz.ntmps40
    go_wp2_with fail
    refine (turned_calls _ _ _ _ (by omega) (by omega)).mono ?_; rintro e w' ⟨rfl, rfl⟩
    rw [if_pos rfl, H1.out]
    go_wp2_with fail
    refine (with_calls _ _ _ _ _ (by omega) (by omega) h).mono ?_; rintro e w' ⟨rfl, rfl⟩
    rw [HI.out]
    go_wp2_with fail
    go_ret
    exact ⟨rfl, rfl⟩

theorem oread_calls (x : Int) (w : World) (x1 : 0 ≤ x) (x2 : x < 18446744073709551616) : Calls Tryz.prog 114 #[.int .u64 x] w fun e w' =>
    e = .returned (.tuple #[.bool (decide (x ≤ 7) && (x % 2 == 1)), .int .i64 (if x ≤ 7 then x / 2 else 0), .bool (decide (x ≤ 7))]) ∧ w = w' := by
  have hb : bits .andNot .u64 x 7 = 8 * (x / 8) := by
    rw [u64_andNot _ _ x1 x2 (by omega) (by omega)]
    obtain ⟨X, rfl⟩ := Int.eq_ofNat_of_zero_le x1
    have : X &&& (18446744073709551615 - 7) = 8 * (X / 8) := by
      have e : 18446744073709551615 - 7 = 2 ^ 3 * (2 ^ 61 - 1) := by decide
      apply Nat.eq_of_testBit_eq; intro i
      rw [e, Nat.testBit_and, Nat.testBit_two_pow_mul, Nat.testBit_two_pow_sub_one, show 8 * (X / 8) = 2 ^ 3 * (X / 2 ^ 3) from rfl, Nat.testBit_two_pow_mul, Nat.testBit_div_two_pow]
      by_cases h1 : 3 ≤ i
      · rw [show i - 3 + 3 = i by omega]
        by_cases h2 : i - 3 < 61
        · simp [h1, h2]
        · have : X.testBit i = false := Nat.testBit_lt_two_pow (Nat.lt_of_lt_of_le (by omega : X < 2 ^ 64) (Nat.pow_le_pow_right (by omega) (by omega)))
          simp [this]
      · simp [h1]
    simp only [Int.toNat_natCast, show (7 : Int).toNat = 7 from rfl]
    rw [this]; omega
  have HM := Lib.hid (show maskI 0 3 = 7 by decide)
  rcases (by omega : x ≤ 7 ∨ ¬ x ≤ 7) with h | h
  · have hz : bits .andNot .u64 x 7 = 0 := by rw [hb]; omega
    clear hb
    have H1 := Lib.hid (show (fieldI x 0 1 == 1) = (x % 2 == 1) by rw [field_eq (by decide) x1]; show (x / 1 % 2 == 1) = _; rw [Int.ediv_one])
    have H2 := Lib.hid (show fieldI x 1 2 = x / 2 by rw [field_eq (by decide) x1]; show x / 2 % 4 = _; omega)
    have HW := Lib.hid (show wrap64 (x / 2) = x / 2 by unfold wrap64; omega)
    have hd : decide (x ≤ 7) = true := decide_eq_true h
    rw [if_pos h, hd]; clear hd
    go_enter Tryz.func114, Tryz.ntmps114
    go_wp2_with fail
    refine (mask_calls _ _ _).mono ?_; rintro e w' ⟨rfl, rfl⟩
    rw [HM.out]
    go_wp2_with fail
    refine (bit_calls _ _ _ x1 x2).mono ?_; rintro e w' ⟨rfl, rfl⟩
    rw [H1.out]
    go_wp2_with fail
    refine (field_calls _ _ _ _ x1 x2).mono ?_; rintro e w' ⟨rfl, rfl⟩
    rw [H2.out]
    go_wp2_with fail
    go_ret3
    exact ⟨rfl, rfl⟩
  · have hz : (bits .andNot .u64 x 7 == 0) = false := by rw [hb, beq_eq_false_iff_ne]; omega
    clear hb
    have hd : decide (x ≤ 7) = false := decide_eq_false h
    rw [if_neg h, hd]; clear hd
    go_enter Tryz.func114, Tryz.ntmps114
    go_wp2_with fail
    refine (mask_calls _ _ _).mono ?_; rintro e w' ⟨rfl, rfl⟩
    rw [HM.out]
    go_wp2_with fail
    go_ret3
    exact ⟨rfl, rfl⟩
end Go.Proofs.YtmokniemmiomfaaGreat
