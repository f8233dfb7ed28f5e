/- Layer 42: whether a list has as many entries of each thread as are needed. -/
import Derived.Test.YtaammkmnhhipgaaShrK
namespace Go.Proofs.Ytaammkmnhhipgaa
open Go.RowKit
set_option linter.unusedVariables false
set_option linter.unusedSimpArgs false
def cnt (t : Int) (l : List Ent) : Nat := (l.filter fun e => decide (e.th = t)).length
theorem cnt_len (t : Int) (l : List Ent) : cnt t l ≤ l.length := List.length_filter_le _ _
theorem cnt_succ (t : Int) (l : List Ent) (i : Nat) (h : i < l.length) : cnt t (l.take (i + 1)) = cnt t (l.take i) + (if (fn l i).th = t then 1 else 0) := by
  unfold cnt
  rw [take_snoc l i h, List.filter_append, List.length_append]
  congr 1
  by_cases h2 : (fn l i).th = t <;> simp [h2]
def badN (n0 n1 n2 : Int) (l : List Ent) : Bool := decide (n0 ≤ cnt 0 l) && decide (n1 ≤ cnt 1 l) && decide (n2 ≤ cnt 2 l)
set_option maxHeartbeats 4000000 in
theorem rbad (n0 n1 n2 : Int) (l : List Ent) (v : Value) (w : World) (h : EL w v l) (hn : l.length ≤ 1000) :
    Calls Try.prog 8 #[v, .agg #[.int .i64 n0, .int .i64 n1, .int .i64 n2]] w fun e w' => e = .returned (.bool (badN n0 n1 n2 l)) ∧ Below w.heap.size w w' := by
  refine Calls.veil fun Q HQ => ?_
  obtain ⟨p, c, rfl, a1, a2, A3⟩ := h.parts
  clear h
  have HBN := Lib.hid (show badN n0 n1 n2 l = (decide (n0 ≤ cnt 0 l) && decide (n1 ≤ cnt 1 l) && decide (n2 ≤ cnt 2 l)) from rfl)
  generalize badN n0 n1 n2 l = r at HBN HQ
  go_enter Try.func8, Try.ntmps8
  go_wp2_with fail
  refine wp_loop_rounds 4 ?_
  rw [rounds_succ]
  go_wp2_with fail
  generalize hV : World.alloc w _ = V
  have NC : Hid (∀ x : Ext V, x.w.cell? ⟨w.heap.size, 0, none⟩ = some (.int .i64 n0) ∧ x.w.cell? ⟨w.heap.size, 1, none⟩ = some (.int .i64 n1) ∧ x.w.cell? ⟨w.heap.size, 2, none⟩ = some (.int .i64 n2)) :=
    Lib.hid fun x => ⟨Ext.made hV 0 _ rfl x, Ext.made hV 1 _ rfl x, Ext.made hV 2 _ rfl x⟩
  have HBV := Lib.hid (show Below w.heap.size w V by rw [← hV]; (repeat (first | exact Below.refl _ _ | assumption | refine below_new ?_ _ | refine Below.drew ?_ | refine below_drewN ?_ _ | refine below_on ?_ (by assumption))))
  clear hV
  have HW0 := Lib.hid (Below.refl V.heap.size V)
  go_loopw [6, 7] (fun kv iv wr => ∃ i : Nat, i ≤ l.length ∧ iv = .int .i64 i ∧ kv = .int .i64 (cnt 0 (l.take i) : Nat) ∧ Below V.heap.size V wr)
    (fun _ iv _ => l.length - (intOf iv).toNat)
  case atStart => exact ⟨0, by omega, rfl, by simp [cnt], HW0.out⟩
  case round =>
    obtain ⟨i, hi, rfl, rfl, hbx⟩ := hrel
    have HX0 := Lib.hid hbx
    rcases (by omega : i < l.length ∨ i = l.length) with hlt | heq
    · obtain ⟨g, o, rfl, hA⟩ := A3.out (by omega)
      have hA := (((hA.below HBV.out).below hbx).cells i hlt).1
      have HC := Lib.hid (cnt_succ 0 l i hlt)
      have hk := Nat.le_trans (cnt_len 0 (l.take i)) (by rw [List.length_take]; omega : (l.take i).length ≤ 1000)
      clear hbx
      obtain ⟨k2, hk2⟩ : ∃ k2, k2 = cnt 0 (l.take (i + 1)) := ⟨_, rfl⟩
      have HK2 := Lib.hid hk2
      rw [← hk2] at HC
      generalize cnt 0 (l.take i) = k1 at *
      clear hk2
      by_cases ht : (fn l i).th = 0
      · have HE := Lib.hid (show k2 = k1 + 1 by rw [HC.out, if_pos ht])
        rw [ht] at hA
        clear HC ht
        go_wp2_with fail
        go_roundw
        case rel => exact ⟨i + 1, by omega, by go_num, by rw [← HK2.out, HE.out]; go_num, HX0.out⟩
        case measure => simp [intOf]; omega
      · have HE := Lib.hid (show k2 = k1 by rw [HC.out, if_neg ht]; rfl)
        clear HC
        generalize (fn l i).th = th at *
        go_wp2_with fail
        go_roundw
        case rel => exact ⟨i + 1, by omega, by go_num, by rw [← HK2.out, HE.out], HX0.out⟩
        case measure => simp [intOf]; omega
    · subst heq
      rw [List.take_length] at *
      clear hbx
      obtain ⟨kk, hkk⟩ : ∃ kk, kk = cnt 0 l := ⟨_, rfl⟩
      have hkk2 : kk ≤ 1000 := by rw [hkk]; exact Nat.le_trans (cnt_len 0 l) hn
      have HKK := Lib.hid hkk
      rw [← hkk]
      have N0 := (NC.out ⟨_, HX0.out⟩).1
      simp only at N0
      clear hkk
      by_cases hc0 : n0 ≤ (kk : Int)
      · have HBN0 := Lib.hid (show r = (true && decide (n1 ≤ cnt 1 l) && decide (n2 ≤ cnt 2 l)) by rw [HBN.out, ← HKK.out]; simp [hc0])
        go_wp2_with fail
        rw [rounds_succ]
        go_wp2_with fail
        go_loopw [6, 7] (fun kv iv wr => ∃ i : Nat, i ≤ l.length ∧ iv = .int .i64 i ∧ kv = .int .i64 (cnt 1 (l.take i) : Nat) ∧ Below V.heap.size V wr)
          (fun _ iv _ => l.length - (intOf iv).toNat)
        case atStart => exact ⟨0, by omega, rfl, by simp [cnt], HX0.out⟩
        case round =>
          obtain ⟨i, hi, rfl, rfl, hbx⟩ := hrel
          have HX1 := Lib.hid hbx
          rcases (by omega : i < l.length ∨ i = l.length) with hlt | heq
          · obtain ⟨g, o, rfl, hA⟩ := A3.out (by omega)
            have hA := (((hA.below HBV.out).below hbx).cells i hlt).1
            have HC := Lib.hid (cnt_succ 1 l i hlt)
            have hk := Nat.le_trans (cnt_len 1 (l.take i)) (by rw [List.length_take]; omega : (l.take i).length ≤ 1000)
            clear hbx
            obtain ⟨k2, hk2⟩ : ∃ k2, k2 = cnt 1 (l.take (i + 1)) := ⟨_, rfl⟩
            have HK2 := Lib.hid hk2
            rw [← hk2] at HC
            generalize cnt 1 (l.take i) = k1 at *
            clear hk2
            by_cases ht : (fn l i).th = 1
            · have HE := Lib.hid (show k2 = k1 + 1 by rw [HC.out, if_pos ht])
              rw [ht] at hA
              clear HC ht
              go_wp2_with fail
              go_roundw
              case rel => exact ⟨i + 1, by omega, by go_num, by rw [← HK2.out, HE.out]; go_num, HX1.out⟩
              case measure => simp [intOf]; omega
            · have HE := Lib.hid (show k2 = k1 by rw [HC.out, if_neg ht]; rfl)
              clear HC
              generalize (fn l i).th = th at *
              go_wp2_with fail
              go_roundw
              case rel => exact ⟨i + 1, by omega, by go_num, by rw [← HK2.out, HE.out], HX1.out⟩
              case measure => simp [intOf]; omega
          · subst heq
            rw [List.take_length] at *
            clear hbx
            obtain ⟨kk, hkk⟩ : ∃ kk, kk = cnt 1 l := ⟨_, rfl⟩
            have hkk2 : kk ≤ 1000 := by rw [hkk]; exact Nat.le_trans (cnt_len 1 l) hn
            have HKK := Lib.hid hkk
            rw [← hkk]
            have N1 := (NC.out ⟨_, HX1.out⟩).2.1
            simp only at N1
            clear hkk
            by_cases hc1 : n1 ≤ (kk : Int)
            · have HBN1 := Lib.hid (show r = (true && decide (n2 ≤ cnt 2 l)) by rw [HBN0.out, ← HKK.out]; simp [hc1])
              go_wp2_with fail
              rw [rounds_succ]
              go_wp2_with fail
              go_loopw [6, 7] (fun kv iv wr => ∃ i : Nat, i ≤ l.length ∧ iv = .int .i64 i ∧ kv = .int .i64 (cnt 2 (l.take i) : Nat) ∧ Below V.heap.size V wr)
                (fun _ iv _ => l.length - (intOf iv).toNat)
              case atStart => exact ⟨0, by omega, rfl, by simp [cnt], HX1.out⟩
              case round =>
                obtain ⟨i, hi, rfl, rfl, hbx⟩ := hrel
                have HX2 := Lib.hid hbx
                rcases (by omega : i < l.length ∨ i = l.length) with hlt | heq
                · obtain ⟨g, o, rfl, hA⟩ := A3.out (by omega)
                  have hA := (((hA.below HBV.out).below hbx).cells i hlt).1
                  have HC := Lib.hid (cnt_succ 2 l i hlt)
                  have hk := Nat.le_trans (cnt_len 2 (l.take i)) (by rw [List.length_take]; omega : (l.take i).length ≤ 1000)
                  clear hbx
                  obtain ⟨k2, hk2⟩ : ∃ k2, k2 = cnt 2 (l.take (i + 1)) := ⟨_, rfl⟩
                  have HK2 := Lib.hid hk2
                  rw [← hk2] at HC
                  generalize cnt 2 (l.take i) = k1 at *
                  clear hk2
                  by_cases ht : (fn l i).th = 2
                  · have HE := Lib.hid (show k2 = k1 + 1 by rw [HC.out, if_pos ht])
                    rw [ht] at hA
                    clear HC ht
                    go_wp2_with fail
                    go_roundw
                    case rel => exact ⟨i + 1, by omega, by go_num, by rw [← HK2.out, HE.out]; go_num, HX2.out⟩
                    case measure => simp [intOf]; omega
                  · have HE := Lib.hid (show k2 = k1 by rw [HC.out, if_neg ht]; rfl)
                    clear HC
                    generalize (fn l i).th = th at *
                    go_wp2_with fail
                    go_roundw
                    case rel => exact ⟨i + 1, by omega, by go_num, by rw [← HK2.out, HE.out], HX2.out⟩
                    case measure => simp [intOf]; omega
                · subst heq
                  rw [List.take_length] at *
                  clear hbx
                  obtain ⟨kk, hkk⟩ : ∃ kk, kk = cnt 2 l := ⟨_, rfl⟩
                  have hkk2 : kk ≤ 1000 := by rw [hkk]; exact Nat.le_trans (cnt_len 2 l) hn
                  have HKK := Lib.hid hkk
                  rw [← hkk]
                  have N2 := (NC.out ⟨_, HX2.out⟩).2.2
                  simp only at N2
                  clear hkk
                  by_cases hc2 : n2 ≤ (kk : Int)
                  · have HBN2 := Lib.hid (show r = (true) by rw [HBN1.out, ← HKK.out]; simp [hc2])
                    go_wp2_with fail
                    rw [rounds_succ]
                    go_wp2_with fail
                    (try go_ret)
                    rw [HQ.out, HBN2.out]
                    exact ⟨rfl, below_on HBV.out HX2.out⟩
                  · have HBN2 := Lib.hid (show r = false by rw [HBN1.out, ← HKK.out]; simp [hc2])
                    have hc' : (kk : Int) < n2 := by omega
                    go_wp2_with fail
                    (try go_ret)
                    rw [HQ.out, HBN2.out]
                    exact ⟨rfl, below_on HBV.out HX2.out⟩
            · have HBN1 := Lib.hid (show r = false by rw [HBN0.out, ← HKK.out]; simp [hc1])
              have hc' : (kk : Int) < n1 := by omega
              go_wp2_with fail
              (try go_ret)
              rw [HQ.out, HBN1.out]
              exact ⟨rfl, below_on HBV.out HX1.out⟩
      · have HBN0 := Lib.hid (show r = false by rw [HBN.out, ← HKK.out]; simp [hc0])
        have hc' : (kk : Int) < n0 := by omega
        go_wp2_with fail
        (try go_ret)
        rw [HQ.out, HBN0.out]
        exact ⟨rfl, below_on HBV.out HX0.out⟩
end Go.Proofs.Ytaammkmnhhipgaa
