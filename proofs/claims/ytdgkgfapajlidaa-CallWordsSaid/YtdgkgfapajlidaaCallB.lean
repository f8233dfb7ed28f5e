/- Layer 9's contracts: answers. -/
import Derived.Test.YtdgkgfapajlidaaCallA
import Derived.RegionTactic
namespace Go.Proofs.Ytdgkgfapajlidaa
open Go.RowKit
set_option linter.unusedVariables false
set_option linter.unusedSimpArgs false

abbrev ansV (k key val n : Int) (v : Value) : Value := .agg #[.int .i64 k, .int .i64 key, .int .i64 val, .int .i64 n, v]
abbrev callV (op key val hi limit : Int) : Value := .agg #[.int .i64 op, .int .i64 key, .int .i64 val, .int .i64 hi, .int .i64 limit]
def sameAB (k key val n : Int) (l : PL) (k' key' val' n' : Int) (l' : PL) : Bool := k == k' && key == key' && val == val' && n == n' && sameB l l'

set_option maxHeartbeats 1000000 in
theorem csame (k key val n : Int) (v : Value) (l : PL) (k' key' val' n' : Int) (v' : Value) (l' : PL) (w : World) (h : PR w v l) (h' : PR w v' l') (hn : l.length ≤ 100000) :
    Calls Try.prog 17 #[ansV k key val n v, ansV k' key' val' n' v'] w fun e w' => e = .returned (.bool (sameAB k key val n l k' key' val' n' l')) ∧ Below w.heap.size w w' := by
  have HP := Lib.hid h; have HP' := Lib.hid h'
  obtain ⟨p, c, rfl, _, _⟩ := h.slice
  obtain ⟨p', c', rfl, _, _⟩ := h'.slice
  clear h h'
  refine Calls.veil fun Q HQ => ?_
  cases h1 : (k == k')
  · have HS := Lib.hid (show sameAB k key val n l k' key' val' n' l' = false by unfold sameAB; rw [h1]; rfl)
    go_enter Try.func17, Try.ntmps17
    go_wp2_with fail
    (try go_ret)
    rw [HQ.out, HS.out]
    exact ⟨ret_bool rfl, by (repeat (first | exact Below.refl _ _ | assumption | refine below_new ?_ _ | refine Below.drew ?_ | refine below_drewN ?_ _ | refine below_on ?_ (by assumption)))⟩
  · cases h2 : (key == key')
    · have HS := Lib.hid (show sameAB k key val n l k' key' val' n' l' = false by unfold sameAB; rw [h1, h2]; rfl)
      go_enter Try.func17, Try.ntmps17
      go_wp2_with fail
      (try go_ret)
      rw [HQ.out, HS.out]
      exact ⟨ret_bool rfl, by (repeat (first | exact Below.refl _ _ | assumption | refine below_new ?_ _ | refine Below.drew ?_ | refine below_drewN ?_ _ | refine below_on ?_ (by assumption)))⟩
    · cases h3 : (val == val')
      · have HS := Lib.hid (show sameAB k key val n l k' key' val' n' l' = false by unfold sameAB; rw [h1, h2, h3]; rfl)
        go_enter Try.func17, Try.ntmps17
        go_wp2_with fail
        (try go_ret)
        rw [HQ.out, HS.out]
        exact ⟨ret_bool rfl, by (repeat (first | exact Below.refl _ _ | assumption | refine below_new ?_ _ | refine Below.drew ?_ | refine below_drewN ?_ _ | refine below_on ?_ (by assumption)))⟩
      · cases h4 : (n == n')
        · have HS := Lib.hid (show sameAB k key val n l k' key' val' n' l' = false by unfold sameAB; rw [h1, h2, h3, h4]; rfl)
          go_enter Try.func17, Try.ntmps17
          go_wp2_with fail
          (try go_ret)
          rw [HQ.out, HS.out]
          exact ⟨ret_bool rfl, by (repeat (first | exact Below.refl _ _ | assumption | refine below_new ?_ _ | refine Below.drew ?_ | refine below_drewN ?_ _ | refine below_on ?_ (by assumption)))⟩
        · have HS := Lib.hid (show sameAB k key val n l k' key' val' n' l' = sameB l l' by unfold sameAB; rw [h1, h2, h3, h4]; rfl)
          go_enter Try.func17, Try.ntmps17
          go_wp2_with fail
          refine (psame l l' _ _ _ ((HP.out.alloc _).alloc _) ((HP'.out.alloc _).alloc _) hn).mono ?_; rintro _ w1 ⟨rfl, hb⟩
          have hb := below_on (below_new (below_new (Below.refl w.heap.size w) _) _) hb
          go_wp2_with fail
          (try go_ret)
          rw [HQ.out, HS.out]
          exact ⟨ret_bool rfl, hb⟩
set_option maxHeartbeats 1000000 in
theorem rsame9 (k key val n : Int) (v : Value) (l : PL) (k' key' val' n' : Int) (v' : Value) (l' : PL) (w : World) (h : PR w v l) (h' : PR w v' l') (hn : l.length ≤ 100000) :
    Calls Try.prog 18 #[ansV k key val n v, ansV k' key' val' n' v'] w fun e w' => e = .returned (.bool (sameAB k key val n l k' key' val' n' l')) ∧ Below w.heap.size w w' := by
  have HP := Lib.hid h; have HP' := Lib.hid h'
  obtain ⟨p, c, rfl, _, _⟩ := h.slice
  obtain ⟨p', c', rfl, _, _⟩ := h'.slice
  clear h h'
  refine Calls.veil fun Q HQ => ?_
  cases h1 : (k == k')
  · have HS := Lib.hid (show sameAB k key val n l k' key' val' n' l' = false by unfold sameAB; rw [h1]; rfl)
    go_enter Try.func18, Try.ntmps18
    go_wp2_with fail
    (try go_ret)
    rw [HQ.out, HS.out]
    exact ⟨ret_bool rfl, by (repeat (first | exact Below.refl _ _ | assumption | refine below_new ?_ _ | refine Below.drew ?_ | refine below_drewN ?_ _ | refine below_on ?_ (by assumption)))⟩
  · cases h2 : (key == key')
    · have HS := Lib.hid (show sameAB k key val n l k' key' val' n' l' = false by unfold sameAB; rw [h1, h2]; rfl)
      go_enter Try.func18, Try.ntmps18
      go_wp2_with fail
      (try go_ret)
      rw [HQ.out, HS.out]
      exact ⟨ret_bool rfl, by (repeat (first | exact Below.refl _ _ | assumption | refine below_new ?_ _ | refine Below.drew ?_ | refine below_drewN ?_ _ | refine below_on ?_ (by assumption)))⟩
    · cases h3 : (val == val')
      · have HS := Lib.hid (show sameAB k key val n l k' key' val' n' l' = false by unfold sameAB; rw [h1, h2, h3]; rfl)
        go_enter Try.func18, Try.ntmps18
        go_wp2_with fail
        (try go_ret)
        rw [HQ.out, HS.out]
        exact ⟨ret_bool rfl, by (repeat (first | exact Below.refl _ _ | assumption | refine below_new ?_ _ | refine Below.drew ?_ | refine below_drewN ?_ _ | refine below_on ?_ (by assumption)))⟩
      · cases h4 : (n == n')
        · have HS := Lib.hid (show sameAB k key val n l k' key' val' n' l' = false by unfold sameAB; rw [h1, h2, h3, h4]; rfl)
          go_enter Try.func18, Try.ntmps18
          go_wp2_with fail
          (try go_ret)
          rw [HQ.out, HS.out]
          exact ⟨ret_bool rfl, by (repeat (first | exact Below.refl _ _ | assumption | refine below_new ?_ _ | refine Below.drew ?_ | refine below_drewN ?_ _ | refine below_on ?_ (by assumption)))⟩
        · have HS := Lib.hid (show sameAB k key val n l k' key' val' n' l' = sameB l l' by unfold sameAB; rw [h1, h2, h3, h4]; rfl)
          go_enter Try.func18, Try.ntmps18
          go_wp2_with fail
          refine (rsame l l' _ _ _ ((HP.out.alloc _).alloc _) ((HP'.out.alloc _).alloc _) hn).mono ?_; rintro _ w1 ⟨rfl, hb⟩
          have hb := below_on (below_new (below_new (Below.refl w.heap.size w) _) _) hb
          go_wp2_with fail
          (try go_ret)
          rw [HQ.out, HS.out]
          exact ⟨ret_bool rfl, hb⟩
def toldB (k key val n : Int) (l : PL) : Bool := decide ((k = 1 ∨ (key = 0 ∧ val = 0)) ∧ (k = 2 ∨ n = 0) ∧ (k = 3 ∨ l = []))
theorem told_eq (k key val n : Int) (l : PL) : sameAB k key val n l k (if k = 1 then key else 0) (if k = 1 then val else 0) (if k = 2 then n else 0) (if k = 3 then l else []) = toldB k key val n l := by
  unfold sameAB toldB sameB
  rw [Bool.eq_iff_iff]
  simp only [Bool.and_eq_true, beq_iff_eq, decide_eq_true_eq]
  by_cases h1 : k = 1
  · subst h1; simp
  · by_cases h2 : k = 2
    · subst h2; simp
    · by_cases h3 : k = 3
      · subst h3; simp [and_assoc]
      · simp [h1, h2, h3, and_assoc]

set_option maxHeartbeats 1000000 in
theorem conly (k key val n : Int) (v : Value) (l : PL) (w : World) (h : PR w v l) (hn : l.length ≤ 100000) :
    Calls Try.prog 20 #[ansV k key val n v] w fun e w' => e = .returned (.bool (toldB k key val n l)) ∧ Below w.heap.size w w' := by
  have HP := Lib.hid h
  have HT := Lib.hid (told_eq k key val n l)
  obtain ⟨p, c, rfl, _, _⟩ := h.slice
  clear h
  refine Calls.veil fun Q HQ => ?_
  rcases (by omega : k = 1 ∨ k = 2 ∨ k = 3 ∨ (k ≠ 1 ∧ k ≠ 2 ∧ k ≠ 3)) with rfl | rfl | rfl | ⟨n1, n2, n3⟩
  · go_enter Try.func20, Try.ntmps20
    go_wp2_with fail
    go_region
    go_wp2_with fail
    refine (csame 1 key val n _ l 1 key val 0 _ [] _ (HP.out.below (by (repeat (first | exact Below.refl _ _ | assumption | refine below_new ?_ _ | refine Below.drew ?_ | refine below_drewN ?_ _ | refine below_on ?_ (by assumption))))) .nil hn).mono ?_; rintro _ w1 ⟨rfl, hb⟩
    have hb := below_on (show Below w.heap.size w _ by (repeat (first | exact Below.refl _ _ | assumption | refine below_new ?_ _ | refine Below.drew ?_ | refine below_drewN ?_ _ | refine below_on ?_ (by assumption)))) hb
    rw [show sameAB 1 key val n l 1 key val 0 [] = toldB 1 key val n l by simpa using HT.out]
    go_wp2_with fail
    (try go_ret)
    rw [HQ.out]
    exact ⟨ret_bool rfl, hb⟩
  · go_enter Try.func20, Try.ntmps20
    go_wp2_with fail
    refine (csame 2 key val n _ l 2 0 0 n _ [] _ (HP.out.below (by (repeat (first | exact Below.refl _ _ | assumption | refine below_new ?_ _ | refine Below.drew ?_ | refine below_drewN ?_ _ | refine below_on ?_ (by assumption))))) .nil hn).mono ?_; rintro _ w1 ⟨rfl, hb⟩
    have hb := below_on (show Below w.heap.size w _ by (repeat (first | exact Below.refl _ _ | assumption | refine below_new ?_ _ | refine Below.drew ?_ | refine below_drewN ?_ _ | refine below_on ?_ (by assumption)))) hb
    rw [show sameAB 2 key val n l 2 0 0 n [] = toldB 2 key val n l by simpa using HT.out]
    go_wp2_with fail
    (try go_ret)
    rw [HQ.out]
    exact ⟨ret_bool rfl, hb⟩
  · go_enter Try.func20, Try.ntmps20
    go_wp2_with fail
    refine (csame 3 key val n _ l 3 0 0 0 _ l _ (HP.out.below (by (repeat (first | exact Below.refl _ _ | assumption | refine below_new ?_ _ | refine Below.drew ?_ | refine below_drewN ?_ _ | refine below_on ?_ (by assumption))))) (HP.out.below (by (repeat (first | exact Below.refl _ _ | assumption | refine below_new ?_ _ | refine Below.drew ?_ | refine below_drewN ?_ _ | refine below_on ?_ (by assumption))))) hn).mono ?_; rintro _ w1 ⟨rfl, hb⟩
    have hb := below_on (show Below w.heap.size w _ by (repeat (first | exact Below.refl _ _ | assumption | refine below_new ?_ _ | refine Below.drew ?_ | refine below_drewN ?_ _ | refine below_on ?_ (by assumption)))) hb
    rw [show sameAB 3 key val n l 3 0 0 0 l = toldB 3 key val n l by simpa using HT.out]
    go_wp2_with fail
    (try go_ret)
    rw [HQ.out]
    exact ⟨ret_bool rfl, hb⟩
  · have z1 := neq_b n1; have z2 := neq_b n2; have z3 := neq_b n3
    have N := Lib.hid (And.intro n1 (And.intro n2 n3))
    clear n1 n2 n3
    go_enter Try.func20, Try.ntmps20
    go_wp2_with fail
    refine (csame k key val n _ l k 0 0 0 _ [] _ (HP.out.below (by (repeat (first | exact Below.refl _ _ | assumption | refine below_new ?_ _ | refine Below.drew ?_ | refine below_drewN ?_ _ | refine below_on ?_ (by assumption))))) .nil hn).mono ?_; rintro _ w1 ⟨rfl, hb⟩
    have hb := below_on (show Below w.heap.size w _ by (repeat (first | exact Below.refl _ _ | assumption | refine below_new ?_ _ | refine Below.drew ?_ | refine below_drewN ?_ _ | refine below_on ?_ (by assumption)))) hb
    rw [show sameAB k key val n l k 0 0 0 [] = toldB k key val n l by have := HT.out; rw [if_neg N.out.1, if_neg N.out.1, if_neg N.out.2.1, if_neg N.out.2.2] at this; exact this]
    go_wp2_with fail
    (try go_ret)
    rw [HQ.out]
    exact ⟨ret_bool rfl, hb⟩
/-! ### Which Kinds are an Op's -/
def kindB (op k : Int) : Bool := decide ((k = 0 ∧ (op = 0 ∨ op = 9 ∨ op = 11 ∨ op = 12 ∨ op = 13 ∨ op = 14)) ∨ ((k = 5 ∨ k = 6) ∧ op = 0) ∨ (k = 7 ∧ 3 ≤ op ∧ op ≤ 9) ∨ ((k = 1 ∨ k = 4) ∧ (op = 1 ∨ op = 2 ∨ op = 5 ∨ op = 6 ∨ op = 10 ∨ op = 7 ∨ op = 8)) ∨ (k = 2 ∧ op = 4) ∨ (k = 3 ∧ op = 3))
set_option maxHeartbeats 1000000 in
theorem sindex (xs : List Int) (x : Int) (g c : Nat) (w : World) (hc : ∀ i, i < xs.length → w.cell? ⟨g, i, none⟩ = some (.int .i64 (xs.getD i 0))) (hn : xs.length ≤ 1000) (hcc : xs.length ≤ c) (hc2 : c ≤ 1000) :
    Calls Try.prog 32 #[.slice (some ⟨g, 0, none⟩) xs.length c, .int .i64 x] w fun e w' => ∃ r : Int, e = .returned (.int .i64 r) ∧ decide (0 ≤ r) = decide (x ∈ xs) ∧ Below w.heap.size w w' := by
  have HC := Lib.hid hc
  clear hc
  refine Calls.veil fun Q HQ => ?_
  go_enter Try.func32, Try.ntmps32
  go_wp2_with fail
  go_loopw [8] (fun iv wr => ∃ i : Nat, i ≤ xs.length ∧ iv = .int .i64 i ∧ Hid (∀ j, j < i → xs.getD j 0 ≠ x) ∧ Below w.heap.size w wr)
    (fun iv _ => xs.length - (intOf iv).toNat)
  case atStart => exact ⟨0, by omega, rfl, Lib.hid (by omega), Below.refl _ _⟩
  case round =>
    obtain ⟨i, hi, rfl, HJ, hbel⟩ := hrel
    rcases (by omega : i < xs.length ∨ i = xs.length) with hlt | heq
    · have c0 := Ext.cell ⟨wr, hbel⟩ (HC.out i hlt)
      simp only at c0
      generalize hy : xs.getD i 0 = y at *
      have HY := Lib.hid hy
      clear hy
      cases he : (x == y)
      · have HE := Lib.hid he
        go_wp2_with fail
        go_roundw
        case rel => exact ⟨i + 1, by omega, by go_num, Lib.hid (fun j hj => by rcases (by omega : j < i ∨ j = i) with h | rfl; exact HJ.out j h; (rw [HY.out]; have := HE.out; intro e; rw [e] at this; simp at this)), hbel⟩
        case measure => simp [intOf]; omega
      · have HE := Lib.hid he
        go_wp2_with fail
        (try go_ret)
        rw [HQ.out]
        refine ⟨(i : Int), rfl, ?_, hbel⟩
        have hx : x = y := by simpa using HE.out
        rw [decide_eq_true (by omega)]
        symm
        refine decide_eq_true ?_
        rw [hx, ← HY.out]
        rw [List.getD_eq_getElem?_getD, List.getElem?_eq_getElem hlt]
        exact List.getElem_mem hlt
    · have HE := Lib.hid heq
      have hge : xs.length ≤ i := by omega
      clear heq
      go_wp2_with fail
      (try go_ret)
      rw [HQ.out]
      refine ⟨-1, rfl, ?_, hbel⟩
      rw [decide_eq_false (by omega)]
      symm
      refine decide_eq_false fun hm => ?_
      obtain ⟨j, hj, he⟩ := List.getElem_of_mem hm
      refine HJ.out j (by rw [HE.out]; exact hj) ?_
      rw [List.getD_eq_getElem?_getD, List.getElem?_eq_getElem hj]
      exact he
theorem scontains (xs : List Int) (x : Int) (g c : Nat) (w : World) (hc : ∀ i, i < xs.length → w.cell? ⟨g, i, none⟩ = some (.int .i64 (xs.getD i 0))) (hn : xs.length ≤ 1000) (hcc : xs.length ≤ c) (hc2 : c ≤ 1000) :
    Calls Try.prog 27 #[.slice (some ⟨g, 0, none⟩) xs.length c, .int .i64 x] w fun e w' => e = .returned (.bool (decide (x ∈ xs))) ∧ Below w.heap.size w w' := by
  have HC := Lib.hid hc
  clear hc
  refine Calls.veil fun Q HQ => ?_
  go_enter Try.func27, Try.ntmps27
  go_wp2_with fail
  refine (sindex xs x g c w HC.out hn hcc hc2).mono ?_; rintro _ w1 ⟨r, rfl, hr, hb⟩
  have HR := Lib.hid hr
  clear hr
  go_wp2_with fail
  (try go_ret)
  rw [HQ.out]
  exact ⟨ret_bool HR.out, hb⟩
set_option maxHeartbeats 2000000 in
theorem ckind (op k : Int) (w : World) : Calls Try.prog 21 #[.int .i64 op, .int .i64 k] w fun e w' => e = .returned (.bool (kindB op k)) ∧ Below w.heap.size w w' := by
  refine Calls.veil fun Q HQ => ?_
  rcases (by omega : k = 0 ∨ k = 1 ∨ k = 4 ∨ k = 2 ∨ k = 3 ∨ k = 5 ∨ k = 6 ∨ k = 7 ∨ (k ≠ 0 ∧ k ≠ 1 ∧ k ≠ 2 ∧ k ≠ 3 ∧ k ≠ 4 ∧ k ≠ 5 ∧ k ≠ 6 ∧ k ≠ 7)) with rfl | rfl | rfl | rfl | rfl | rfl | rfl | rfl | ⟨m0, m1, m2, m3, m4, m5, m6, m7⟩
  · go_enter Try.func21, Try.ntmps21
    go_wp2_with fail
    generalize hW : World.alloc w _ = W
    have hBW : Below w.heap.size w W := by rw [← hW]; (repeat (first | exact Below.refl _ _ | assumption | refine below_new ?_ _ | refine Below.drew ?_ | refine below_drewN ?_ _ | refine below_on ?_ (by assumption)))
    refine (scontains [0, 9, 11, 12, 13, 14] op w.heap.size 6 W (fun i hi => by
      rcases (by simp at hi; omega : i = 0 ∨ i = 1 ∨ i = 2 ∨ i = 3 ∨ i = 4 ∨ i = 5) with rfl | rfl | rfl | rfl | rfl | rfl
      · exact Ext.made_in hW (Below.refl _ _) 0 _ rfl
      · exact Ext.made_in hW (Below.refl _ _) 1 _ rfl
      · exact Ext.made_in hW (Below.refl _ _) 2 _ rfl
      · exact Ext.made_in hW (Below.refl _ _) 3 _ rfl
      · exact Ext.made_in hW (Below.refl _ _) 4 _ rfl
      · exact Ext.made_in hW (Below.refl _ _) 5 _ rfl) (by decide) (by decide) (by decide)).mono ?_
    rintro _ w1 ⟨rfl, hb⟩
    have hb := below_on hBW hb
    clear hW hBW
    have HK : Hid (decide (op ∈ ([0, 9, 11, 12, 13, 14] : List Int)) = kindB op 0) := by unfold kindB; exact Lib.hid (decide_eq_decide.2 (by simp))
    rw [HK.out]
    go_wp2_with fail
    (try go_ret)
    rw [HQ.out]
    exact ⟨rfl, hb⟩
  · go_enter Try.func21, Try.ntmps21
    go_wp2_with fail
    generalize hW : World.alloc w _ = W
    have hBW : Below w.heap.size w W := by rw [← hW]; (repeat (first | exact Below.refl _ _ | assumption | refine below_new ?_ _ | refine Below.drew ?_ | refine below_drewN ?_ _ | refine below_on ?_ (by assumption)))
    refine (scontains [1, 2, 5, 6, 10, 7, 8] op w.heap.size 7 W (fun i hi => by
      rcases (by simp at hi; omega : i = 0 ∨ i = 1 ∨ i = 2 ∨ i = 3 ∨ i = 4 ∨ i = 5 ∨ i = 6) with rfl | rfl | rfl | rfl | rfl | rfl | rfl
      · exact Ext.made_in hW (Below.refl _ _) 0 _ rfl
      · exact Ext.made_in hW (Below.refl _ _) 1 _ rfl
      · exact Ext.made_in hW (Below.refl _ _) 2 _ rfl
      · exact Ext.made_in hW (Below.refl _ _) 3 _ rfl
      · exact Ext.made_in hW (Below.refl _ _) 4 _ rfl
      · exact Ext.made_in hW (Below.refl _ _) 5 _ rfl
      · exact Ext.made_in hW (Below.refl _ _) 6 _ rfl) (by decide) (by decide) (by decide)).mono ?_
    rintro _ w1 ⟨rfl, hb⟩
    have hb := below_on hBW hb
    clear hW hBW
    have HK : Hid (decide (op ∈ ([1, 2, 5, 6, 10, 7, 8] : List Int)) = kindB op 1) := by unfold kindB; exact Lib.hid (decide_eq_decide.2 (by simp))
    rw [HK.out]
    go_wp2_with fail
    (try go_ret)
    rw [HQ.out]
    exact ⟨rfl, hb⟩
  · go_enter Try.func21, Try.ntmps21
    go_wp2_with fail
    generalize hW : World.alloc w _ = W
    have hBW : Below w.heap.size w W := by rw [← hW]; (repeat (first | exact Below.refl _ _ | assumption | refine below_new ?_ _ | refine Below.drew ?_ | refine below_drewN ?_ _ | refine below_on ?_ (by assumption)))
    refine (scontains [1, 2, 5, 6, 10, 7, 8] op w.heap.size 7 W (fun i hi => by
      rcases (by simp at hi; omega : i = 0 ∨ i = 1 ∨ i = 2 ∨ i = 3 ∨ i = 4 ∨ i = 5 ∨ i = 6) with rfl | rfl | rfl | rfl | rfl | rfl | rfl
      · exact Ext.made_in hW (Below.refl _ _) 0 _ rfl
      · exact Ext.made_in hW (Below.refl _ _) 1 _ rfl
      · exact Ext.made_in hW (Below.refl _ _) 2 _ rfl
      · exact Ext.made_in hW (Below.refl _ _) 3 _ rfl
      · exact Ext.made_in hW (Below.refl _ _) 4 _ rfl
      · exact Ext.made_in hW (Below.refl _ _) 5 _ rfl
      · exact Ext.made_in hW (Below.refl _ _) 6 _ rfl) (by decide) (by decide) (by decide)).mono ?_
    rintro _ w1 ⟨rfl, hb⟩
    have hb := below_on hBW hb
    clear hW hBW
    have HK : Hid (decide (op ∈ ([1, 2, 5, 6, 10, 7, 8] : List Int)) = kindB op 4) := by unfold kindB; exact Lib.hid (decide_eq_decide.2 (by simp))
    rw [HK.out]
    go_wp2_with fail
    (try go_ret)
    rw [HQ.out]
    exact ⟨rfl, hb⟩
  all_goals
    first
      | (have z0 := neq_b m0; have z1 := neq_b m1; have z2 := neq_b m2; have z3 := neq_b m3; have z4 := neq_b m4; have z5 := neq_b m5; have z6 := neq_b m6; have z7 := neq_b m7
         have HK : Hid (kindB op k = false) := Lib.hid (decide_eq_false (by omega))
         clear m0 m1 m2 m3 m4 m5 m6 m7
         go_enter Try.func21, Try.ntmps21
         go_wp2_with fail
         (try go_ret)
         rw [HQ.out, HK.out]
         exact ⟨ret_bool rfl, by (repeat (first | exact Below.refl _ _ | assumption | refine below_new ?_ _ | refine Below.drew ?_ | refine below_drewN ?_ _ | refine below_on ?_ (by assumption)))⟩)
      | (go_enter Try.func21, Try.ntmps21
         go_wp2_with fail
         refine (creads op _).mono ?_; rintro _ w1 ⟨rfl, hb⟩
         have HK : Hid (readsB op = kindB op 7) := by unfold kindB readsB; exact Lib.hid (decide_eq_decide.2 (by omega))
         rw [HK.out]
         go_wp2_with fail
         (try go_ret)
         rw [HQ.out]
         exact ⟨rfl, hb⟩)
      | (cases hz : (op == 4) <;> cases hy : (op == 3) <;> cases hx : (op == 0)
         all_goals
           have HZ := Lib.hid hz; have HY := Lib.hid hy; have HX := Lib.hid hx
           go_enter Try.func21, Try.ntmps21
           go_wp2_with fail
           (try go_ret)
           rw [HQ.out]
           have h1 := HZ.out; have h2 := HY.out; have h3 := HX.out
           simp only [beq_iff_eq, beq_eq_false_iff_ne] at h1 h2 h3
           exact ⟨ret_bool (by first | exact (decide_eq_true (by omega)).symm | exact (decide_eq_false (by omega)).symm), by (repeat (first | exact Below.refl _ _ | assumption | refine below_new ?_ _ | refine Below.drew ?_ | refine below_drewN ?_ _ | refine below_on ?_ (by assumption)))⟩)
end Go.Proofs.Ytdgkgfapajlidaa
