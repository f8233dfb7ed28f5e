/- Layer 14: an entry's bytes; putEntry. -/
import Derived.Test.YtnikggdnlijkkaaScrU
import Derived.Test.YtnikggdnlijkkaaScrH
namespace Go.Proofs.Ytnikggdnlijkkaa
open Go.RowKit WordM
set_option linter.unusedVariables false
set_option linter.unusedSimpArgs false
def uw (n : Int) : Int := IntKind.u64.wrap n
theorem uw_bd (n : Int) : 0 ≤ uw n ∧ uw n < 18446744073709551616 := by unfold uw; rw [IntKind.wrap_u64]; omega
theorem uw_id (n : Int) (h0 : 0 ≤ n) (h1 : n < 18446744073709551616) : IntKind.u64.wrap n = n := by rw [IntKind.wrap_u64]; omega
def callB (op key val hi lim : Int) : List Int := byL op 1 ++ (byL (uw key) 8 ++ (byL (uw val) 8 ++ (byL (uw hi) 8 ++ byL lim 2)))
def entB (e : Ent) : List Int := byL (withI e.th 7 1 (if e.bg then 1 else 0)) 1 ++ (if e.bg then callB e.op e.key e.val e.hi e.lim else [])
theorem callB_len (op key val hi lim : Int) : (callB op key val hi lim).length = 27 := by simp [callB, byL_len]
theorem entB_len (e : Ent) : (entB e).length ≤ 28 := by
  unfold entB
  rw [List.length_append, byL_len]
  split
  · rw [callB_len]; omega
  · simp
theorem right_bd {th : Int} {bg : Bool} {op key val hi lim : Int} (h : rightE ⟨th, bg, op, key, val, hi, lim⟩ = true) : 0 ≤ th ∧ th ≤ 63 := by
  unfold rightE at h
  rw [Bool.and_eq_true] at h
  exact of_decide_eq_true h.1
theorem right_call {th op key val hi lim : Int} (h : rightE ⟨th, true, op, key, val, hi, lim⟩ = true) : 0 ≤ op ∧ op ≤ 255 ∧ 0 ≤ lim ∧ lim ≤ 65535 := by
  unfold rightE at h
  rw [Bool.and_eq_true] at h
  exact of_decide_eq_true h.2
theorem made_nb {w w' : World} {arr : Array Value} {T : TypeId} (hT : T ≠ 5) (h : NB (w.alloc (.cells arr T)) w') (i : Nat) (v : Value) (hv : arr[i]? = some v) : w'.cell? ⟨w.heap.size, i, none⟩ = some v := by
  rw [cell_of_row _ w.heap.size i arr T (0, 0) (h.cells (heap_alloc_new w _) hT)]
  exact hv
set_option maxHeartbeats 4000000 in
theorem sputE0 (xs : List Int) (th op key val hi lim : Int) (hr : rightE ⟨th, false, op, key, val, hi, lim⟩ = true) (v : Value) (w : World) (B : Nat) (hown : OwnB w B v xs) (hB : B ≤ w.heap.size) (hxs : xs.length ≤ 1900000) :
    Calls Try.prog 20 #[v, .agg #[.int .i64 th, .bool false, .int .i64 op, .int .i64 key, .int .i64 val, .int .i64 hi, .int .i64 lim]] w fun e w' => ∃ v', e = .returned v' ∧ OwnB w' B v' (xs ++ entB ⟨th, false, op, key, val, hi, lim⟩) ∧ Below B w w' ∧ NB w w' := by
  refine Calls.veil fun Q HQ => ?_
  obtain ⟨t1, t2⟩ := right_bd hr
  have HI := uw_id th t1 (by omega)
  have HW := with_bd th 7 1 0 t1 (by omega)
  have HT := Lib.hid (turned_calls th 7 false · t1 (by omega))
  have HP := Lib.hid (fun w' B (h : OwnB w' B v xs) (k : B ≤ w'.heap.size) => sputN xs 1 (withI th 7 1 0) v w' B h k (by decide) HW.1 HW.2 (by omega))
  have HE := Lib.hid (show entB ⟨th, false, op, key, val, hi, lim⟩ = byL (withI th 7 1 0) 1 by simp [entB])
  have HO := Lib.hid (And.intro hown hB)
  clear hown hr hB hxs
  go_enter Try.func20, Try.ntmps20
  go_wp2_with fail
  generalize hV : World.alloc w _ = V
  have z1 : ∀ w', NB V w' → w'.cell? ⟨w.heap.size, 1, none⟩ = some (.bool false) := by
    intro w' k
    rw [← hV] at k
    exact made_nb (by decide) k 1 _ rfl
  have z0 := z1 V (NB.refl _)
  have HV := Lib.hid (show OwnB V B v xs ∧ B ≤ V.heap.size ∧ Below B w V ∧ NB w V by
    rw [← hV]
    exact ⟨World.ownsRow.alloc HO.out.1 _, by have := HO.out.2; simp; omega, (Below.refl _ _).alloc HO.out.2 _, (NB.refl _).alloc _⟩)
  clear hV
  refine (HT.out V).mono ?_; rintro _ _ ⟨rfl, rfl⟩
  go_wp2_with fail
  refine (HP.out V B HV.out.1 HV.out.2.1).mono ?_; rintro _ w1 ⟨v1, rfl, o1, b1, n1⟩
  have z1 := z1 w1 n1
  have HF := Lib.hid (And.intro o1 (And.intro (HV.out.2.2.1.trans b1) (HV.out.2.2.2.trans n1)))
  clear o1 b1 n1
  go_wp2_with fail
  (try go_ret)
  rw [HQ.out, HE.out]
  exact ⟨_, rfl, HF.out⟩
set_option maxHeartbeats 4000000 in
theorem sputE1 (xs : List Int) (th op key val hi lim : Int) (hr : rightE ⟨th, true, op, key, val, hi, lim⟩ = true) (v : Value) (w : World) (B : Nat) (hown : OwnB w B v xs) (hB : B ≤ w.heap.size) (hxs : xs.length ≤ 1900000) :
    Calls Try.prog 20 #[v, .agg #[.int .i64 th, .bool true, .int .i64 op, .int .i64 key, .int .i64 val, .int .i64 hi, .int .i64 lim]] w fun e w' => ∃ v', e = .returned v' ∧ OwnB w' B v' (xs ++ entB ⟨th, true, op, key, val, hi, lim⟩) ∧ Below B w w' ∧ NB w w' := by
  refine Calls.veil fun Q HQ => ?_
  obtain ⟨t1, t2⟩ := right_bd hr
  obtain ⟨o1, o2, l1, l2⟩ := right_call hr
  have HI := uw_id th t1 (by omega)
  have HI2 := uw_id op o1 (by omega)
  have HI3 := uw_id lim l1 (by omega)
  have HW := with_bd th 7 1 1 t1 (by omega)
  have HX := Lib.hid hxs
  have HT := Lib.hid (turned_calls th 7 true · t1 (by omega))
  have HP := Lib.hid (fun w' B (h : OwnB w' B v xs) (k : B ≤ w'.heap.size) => sputN xs 1 (withI th 7 1 1) v w' B h k (by decide) HW.1 HW.2 (by omega))
  have HE := Lib.hid (show xs ++ entB ⟨th, true, op, key, val, hi, lim⟩ = (((((xs ++ byL (withI th 7 1 1) 1) ++ byL op 1) ++ byL (uw key) 8) ++ byL (uw val) 8) ++ byL (uw hi) 8) ++ byL lim 2 by simp [entB, callB])
  have HO := Lib.hid (And.intro hown hB)
  clear hown hr hxs hB
  go_enter Try.func20, Try.ntmps20
  go_wp2_with fail
  generalize hV : World.alloc w _ = V
  have Z : Hid (∀ w', NB V w' → w'.cell? ⟨w.heap.size, 1, none⟩ = some (.bool true) ∧ w'.cell? ⟨w.heap.size, 2, none⟩ = some (.int .i64 op) ∧ w'.cell? ⟨w.heap.size, 3, none⟩ = some (.int .i64 key) ∧ w'.cell? ⟨w.heap.size, 4, none⟩ = some (.int .i64 val) ∧ w'.cell? ⟨w.heap.size, 5, none⟩ = some (.int .i64 hi) ∧ w'.cell? ⟨w.heap.size, 6, none⟩ = some (.int .i64 lim)) := by
    refine Lib.hid fun w' k => ?_
    rw [← hV] at k
    exact ⟨made_nb (by decide) k 1 _ rfl, made_nb (by decide) k 2 _ rfl, made_nb (by decide) k 3 _ rfl, made_nb (by decide) k 4 _ rfl, made_nb (by decide) k 5 _ rfl, made_nb (by decide) k 6 _ rfl⟩
  have HV := Lib.hid (show OwnB V B v xs ∧ B ≤ V.heap.size ∧ Below B w V ∧ NB w V by
    rw [← hV]
    exact ⟨World.ownsRow.alloc HO.out.1 _, by have := HO.out.2; simp; omega, (Below.refl _ _).alloc HO.out.2 _, (NB.refl _).alloc _⟩)
  clear hV
  generalize w.heap.size = b at *
  have z1 := (Z.out V (NB.refl _)).1
  refine (HT.out V).mono ?_; rintro _ _ ⟨rfl, rfl⟩
  go_wp2_with fail
  refine (HP.out V B HV.out.1 HV.out.2.1).mono ?_; rintro _ w1 ⟨v1, rfl, p1, b1, n1⟩
  have z1 := (Z.out w1 n1).1
  have z2 := (Z.out w1 n1).2.1
  have S1 := Lib.hid (And.intro p1 (And.intro b1 n1))
  clear p1 b1 n1 HP HT
  go_wp2_with fail
  refine (sputN _ 1 op v1 w1 B S1.out.1 (by have := S1.out.2.1.size; have := HV.out.2.1; omega) (by decide) o1 (by omega) (by have := HX.out; simp [byL_len]; omega)).mono ?_; rintro _ w2 ⟨v2, rfl, p1, b1, n1⟩
  have S2 := Lib.hid (And.intro p1 (And.intro (S1.out.2.1.trans b1) (S1.out.2.2.trans n1)))
  clear p1 b1 n1 S1 z1 z2
  have z3 := (Z.out w2 S2.out.2.2).2.2.1
  have z4 := (Z.out w2 S2.out.2.2).2.2.2.1
  have z5 := (Z.out w2 S2.out.2.2).2.2.2.2.1
  go_wp2_with fail
  generalize hU : World.alloc w2 _ = U
  have ZU : Hid (∀ w', NB U w' → w'.cell? ⟨w2.heap.size, 0, none⟩ = some (.int .i64 key) ∧ w'.cell? ⟨w2.heap.size, 1, none⟩ = some (.int .i64 val) ∧ w'.cell? ⟨w2.heap.size, 2, none⟩ = some (.int .i64 hi)) := by
    refine Lib.hid fun w' k => ?_
    rw [← hU] at k
    exact ⟨made_nb (by decide) k 0 _ rfl, made_nb (by decide) k 1 _ rfl, made_nb (by decide) k 2 _ rfl⟩
  have HU := Lib.hid (show OwnB U B v2 ((xs ++ byL (withI th 7 1 1) 1) ++ byL op 1) ∧ B ≤ U.heap.size ∧ Below B V U ∧ NB V U by
    rw [← hU]
    have hs := Nat.le_trans HV.out.2.1 S2.out.2.1.size
    exact ⟨World.ownsRow.alloc S2.out.1 _, by simp; omega, S2.out.2.1.trans ((Below.refl _ _).alloc hs _), S2.out.2.2.alloc _⟩)
  clear hU z3 z4 z5
  generalize w2.heap.size = b2 at *
  refine wp_loop_rounds 4 ?_
  rw [rounds_succ]
  have y0 := (ZU.out U (NB.refl _)).1
  go_wp2_with fail
  refine (bits_calls key U).mono ?_; rintro _ _ ⟨rfl, rfl⟩
  go_wp2_with fail
  refine (sputN _ 8 (uw key) v2 U B HU.out.1 HU.out.2.1 (by decide) (uw_bd _).1 (uw_bd _).2 (by have := HX.out; simp [byL_len]; omega)).mono ?_; rintro _ w3 ⟨v3, rfl, p1, b1, n1⟩
  have S3 := Lib.hid (And.intro p1 (And.intro b1 n1))
  have y1 := (ZU.out w3 n1).2.1
  clear p1 b1 n1 y0
  go_wp2_with fail
  rw [rounds_succ]
  go_wp2_with fail
  refine (bits_calls val w3).mono ?_; rintro _ _ ⟨rfl, rfl⟩
  go_wp2_with fail
  refine (sputN _ 8 (uw val) v3 w3 B S3.out.1 (Nat.le_trans HU.out.2.1 S3.out.2.1.size) (by decide) (uw_bd _).1 (uw_bd _).2 (by have := HX.out; simp [byL_len]; omega)).mono ?_; rintro _ w4 ⟨v4, rfl, p1, b1, n1⟩
  have S4 := Lib.hid (And.intro p1 (And.intro (S3.out.2.1.trans b1) (S3.out.2.2.trans n1)))
  have y2 := (ZU.out w4 S4.out.2.2).2.2
  clear p1 b1 n1 y1 S3
  go_wp2_with fail
  rw [rounds_succ]
  go_wp2_with fail
  refine (bits_calls hi w4).mono ?_; rintro _ _ ⟨rfl, rfl⟩
  go_wp2_with fail
  refine (sputN _ 8 (uw hi) v4 w4 B S4.out.1 (Nat.le_trans HU.out.2.1 S4.out.2.1.size) (by decide) (uw_bd _).1 (uw_bd _).2 (by have := HX.out; simp [byL_len]; omega)).mono ?_; rintro _ w5 ⟨v5, rfl, p1, b1, n1⟩
  have S5 := Lib.hid (And.intro p1 (And.intro (HU.out.2.2.1.trans (S4.out.2.1.trans b1)) (HU.out.2.2.2.trans (S4.out.2.2.trans n1))))
  have z6 := (Z.out w5 S5.out.2.2).2.2.2.2.2
  clear p1 b1 n1 y2 S4
  go_wp2_with fail
  rw [rounds_succ]
  go_wp2_with fail
  refine (sputN _ 2 lim v5 w5 B S5.out.1 (Nat.le_trans HV.out.2.1 S5.out.2.1.size) (by decide) l1 (by omega) (by have := HX.out; simp [byL_len]; omega)).mono ?_; rintro _ w6 ⟨v6, rfl, p1, b1, n1⟩
  have S6 := Lib.hid (And.intro p1 (And.intro (HV.out.2.2.1.trans (S5.out.2.1.trans b1)) (HV.out.2.2.2.trans (S5.out.2.2.trans n1))))
  clear p1 b1 n1 S5 z6
  go_wp2_with fail
  (try go_ret)
  rw [HQ.out, HE.out]
  exact ⟨_, rfl, S6.out⟩
end Go.Proofs.Ytnikggdnlijkkaa
