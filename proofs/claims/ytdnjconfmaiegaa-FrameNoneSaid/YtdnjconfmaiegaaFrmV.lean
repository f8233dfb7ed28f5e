/- Layer 15: a thread that is not there. -/
import Derived.Test.YtdnjconfmaiegaaFrmH
namespace Go.Proofs.Ytdnjconfmaiegaa
open Go.RowKit
set_option linter.unusedVariables false
set_option linter.unusedSimpArgs false
theorem fz_depth (w : World) : Calls Try.prog 13 #[.pointer none] w fun e w' => e = .returned (.int .i64 0) ∧ Below w.heap.size w w' := by
  refine Calls.veil fun Q HQ => ?_
  go_enter Try.func13, Try.ntmps13
  go_wp2_with fail
  (try go_ret)
  (try go_ret2)
  rw [HQ.out]
  exact ⟨rfl, by (repeat (first | exact Below.refl _ _ | assumption | refine below_new ?_ _ | refine Below.drew ?_ | refine below_drewN ?_ _ | refine below_on ?_ (by assumption)))⟩
theorem fz_top (w : World) : Calls Try.prog 12 #[.pointer none] w fun e w' => e = .returned (.pointer none) ∧ Below w.heap.size w w' := by
  refine Calls.veil fun Q HQ => ?_
  go_enter Try.func12, Try.ntmps12
  go_wp2_with fail
  refine (fz_depth w).mono ?_; rintro _ w1 ⟨rfl, hb⟩
  have HB := Lib.hid hb
  clear hb
  go_wp2_with fail
  (try go_ret)
  rw [HQ.out]
  exact ⟨rfl, HB.out⟩
theorem fz_row (w : World) : Calls Try.prog 14 #[.pointer none] w fun e w' => e = .returned (.slice none 0 0) ∧ Below w.heap.size w w' := by
  refine Calls.veil fun Q HQ => ?_
  go_enter Try.func14, Try.ntmps14
  go_wp2_with fail
  (try go_ret)
  (try go_ret2)
  rw [HQ.out]
  exact ⟨rfl, by (repeat (first | exact Below.refl _ _ | assumption | refine below_new ?_ _ | refine Below.drew ?_ | refine below_drewN ?_ _ | refine below_on ?_ (by assumption)))⟩
theorem fz_clone (w : World) : Calls Try.prog 15 #[.pointer none] w fun e w' => e = .returned (.pointer none) ∧ Below w.heap.size w w' := by
  refine Calls.veil fun Q HQ => ?_
  go_enter Try.func15, Try.ntmps15
  go_wp2_with fail
  (try go_ret)
  (try go_ret2)
  rw [HQ.out]
  exact ⟨rfl, by (repeat (first | exact Below.refl _ _ | assumption | refine below_new ?_ _ | refine Below.drew ?_ | refine below_drewN ?_ _ | refine below_on ?_ (by assumption)))⟩
theorem fz_call (w : World) (fn : Int) (v : Value) : Calls Try.prog 16 #[.pointer none, .int .i64 fn, v] w fun e w' => e = .returned (.tuple #[]) ∧ Below w.heap.size w w' := by
  refine Calls.veil fun Q HQ => ?_
  go_enter Try.func16, Try.ntmps16
  go_wp2_with fail
  first | (refine bodyPost_end (v := .tuple #[]) (by simp [results, Try.results16, go_sem]) rfl ?_) | (refine bodyPost_ret (v := .tuple #[]) (by simp [results, Try.results16, go_sem]) rfl ?_)
  rw [HQ.out]
  exact ⟨rfl, by (repeat (first | exact Below.refl _ _ | assumption | refine below_new ?_ _ | refine Below.drew ?_ | refine below_drewN ?_ _ | refine below_on ?_ (by assumption)))⟩
theorem fz_back (w : World) (v : Value) : Calls Try.prog 19 #[.pointer none, v] w fun e w' => e = .returned (.tuple #[]) ∧ Below w.heap.size w w' := by
  refine Calls.veil fun Q HQ => ?_
  go_enter Try.func19, Try.ntmps19
  go_wp2_with fail
  first | (refine bodyPost_end (v := .tuple #[]) (by simp [results, Try.results19, go_sem]) rfl ?_) | (refine bodyPost_ret (v := .tuple #[]) (by simp [results, Try.results19, go_sem]) rfl ?_)
  rw [HQ.out]
  exact ⟨rfl, by (repeat (first | exact Below.refl _ _ | assumption | refine below_new ?_ _ | refine Below.drew ?_ | refine below_drewN ?_ _ | refine below_on ?_ (by assumption)))⟩
theorem fz_gather (w : World) (k x : Int) : Calls Try.prog 21 #[.pointer none, .agg #[.int .i64 k, .int .i64 x]] w fun e w' => e = .returned (.bool false) ∧ Below w.heap.size w w' := by
  refine Calls.veil fun Q HQ => ?_
  go_enter Try.func21, Try.ntmps21
  go_wp2_with fail
  (try go_ret)
  (try go_ret2)
  rw [HQ.out]
  exact ⟨rfl, by (repeat (first | exact Below.refl _ _ | assumption | refine below_new ?_ _ | refine Below.drew ?_ | refine below_drewN ?_ _ | refine below_on ?_ (by assumption)))⟩
theorem fz_push (w : World) (x : Int) : Calls Try.prog 17 #[.pointer none, .int .u64 x] w fun e w' => e = .returned (.tuple #[]) ∧ Below w.heap.size w w' := by
  refine Calls.veil fun Q HQ => ?_
  go_enter Try.func17, Try.ntmps17
  go_wp2_with fail
  first | (refine bodyPost_end (v := .tuple #[]) (by simp [results, Try.results17, go_sem]) rfl ?_) | (refine bodyPost_ret (v := .tuple #[]) (by simp [results, Try.results17, go_sem]) rfl ?_)
  rw [HQ.out]
  exact ⟨rfl, by (repeat (first | exact Below.refl _ _ | assumption | refine below_new ?_ _ | refine Below.drew ?_ | refine below_drewN ?_ _ | refine below_on ?_ (by assumption)))⟩
theorem fz_pop (w : World) : Calls Try.prog 18 #[.pointer none] w fun e w' => e = .returned (.tuple #[.int .u64 0, .bool false]) ∧ Below w.heap.size w w' := by
  refine Calls.veil fun Q HQ => ?_
  go_enter Try.func18, Try.ntmps18
  go_wp2_with fail
  (try go_ret)
  (try go_ret2)
  rw [HQ.out]
  exact ⟨rfl, by (repeat (first | exact Below.refl _ _ | assumption | refine below_new ?_ _ | refine Below.drew ?_ | refine below_drewN ?_ _ | refine below_on ?_ (by assumption)))⟩
theorem fz_fresh (w : World) : Calls Try.prog 23 #[.pointer none] w fun e w' => e = .returned (.tuple #[]) ∧ Below w.heap.size w w' := by
  refine Calls.veil fun Q HQ => ?_
  go_enter Try.func23, Try.ntmps23
  go_wp2_with fail
  first | (refine bodyPost_end (v := .tuple #[]) (by simp [results, Try.results23, go_sem]) rfl ?_) | (refine bodyPost_ret (v := .tuple #[]) (by simp [results, Try.results23, go_sem]) rfl ?_)
  rw [HQ.out]
  exact ⟨rfl, by (repeat (first | exact Below.refl _ _ | assumption | refine below_new ?_ _ | refine Below.drew ?_ | refine below_drewN ?_ _ | refine below_on ?_ (by assumption)))⟩
set_option maxRecDepth 8000 in
set_option maxHeartbeats 1000000 in
theorem ldoz_0 {w : World} {lv : Value} (fn : Int) {n : Nat} {L : Nat → Int} (pk pv : Int) (hu : UR w lv n L) :
    Calls Try.prog 9 #[.pointer none, opV ⟨0, fn, n, L, pk, pv⟩ lv] w (fun e w' => e = .returned (.tuple #[.int .u64 0, .bool false]) ∧ Below w.heap.size w w') := by
  refine Calls.veil fun Q HQ => ?_
  obtain ⟨la, lc, rfl, lc1, lc2⟩ := hu.slice
  unfold opV
  simp only
  clear hu
  go_enter Try.func9, Try.ntmps9
  go_upto_region 1 with fail
  generalize hV : World.alloc _ _ = U
  obtain ⟨u0, hbu⟩ := heapnewE hV
  obtain ⟨X, hX⟩ : ∃ X, X = w.heap.size := ⟨_, rfl⟩
  rw [← hX] at u0 ⊢
  have o0 := newcell u0 0 _ rfl; have o1 := newcell u0 1 _ rfl; have o2 := newcell u0 2 _ rfl; have o3 := newcell u0 3 _ rfl; have o4 := newcell u0 4 _ rfl
  have HBU := Lib.hid hbu
  clear hV u0 hbu hX
  go_wp2_with fail
  refine (fz_call _ _ _).mono ?_; rintro _ w2 ⟨rfl, hb2⟩
  have HB2 := Lib.hid hb2
  clear hb2 o0 o1 o2 o3 o4
  go_wp2_with fail
  (try go_ret2)
  rw [HQ.out]
  exact ⟨rfl, below_on HBU.out HB2.out⟩
set_option maxRecDepth 8000 in
set_option maxHeartbeats 1000000 in
theorem ldoz_1 {w : World} {lv : Value} (fn : Int) {n : Nat} {L : Nat → Int} (pk pv : Int) (hu : UR w lv n L) :
    Calls Try.prog 9 #[.pointer none, opV ⟨1, fn, n, L, pk, pv⟩ lv] w (fun e w' => e = .returned (.tuple #[.int .u64 0, .bool false]) ∧ Below w.heap.size w w') := by
  refine Calls.veil fun Q HQ => ?_
  obtain ⟨la, lc, rfl, lc1, lc2⟩ := hu.slice
  unfold opV
  simp only
  clear hu
  go_enter Try.func9, Try.ntmps9
  go_upto_region 1 with fail
  generalize hV : World.alloc _ _ = U
  obtain ⟨u0, hbu⟩ := heapnewE hV
  obtain ⟨X, hX⟩ : ∃ X, X = w.heap.size := ⟨_, rfl⟩
  rw [← hX] at u0 ⊢
  have o0 := newcell u0 0 _ rfl; have o1 := newcell u0 1 _ rfl; have o2 := newcell u0 2 _ rfl; have o3 := newcell u0 3 _ rfl; have o4 := newcell u0 4 _ rfl
  have HBU := Lib.hid hbu
  clear hV u0 hbu hX
  go_wp2_with fail
  refine (fz_back _ _).mono ?_; rintro _ w2 ⟨rfl, hb2⟩
  have HB2 := Lib.hid hb2
  clear hb2 o0 o1 o2 o3 o4
  go_wp2_with fail
  (try go_ret2)
  rw [HQ.out]
  exact ⟨rfl, below_on HBU.out HB2.out⟩
set_option maxRecDepth 8000 in
set_option maxHeartbeats 1000000 in
theorem ldoz_2 {w : World} {lv : Value} (fn : Int) {n : Nat} {L : Nat → Int} (pk pv : Int) (hu : UR w lv n L) :
    Calls Try.prog 9 #[.pointer none, opV ⟨2, fn, n, L, pk, pv⟩ lv] w (fun e w' => e = .returned (.tuple #[.int .u64 0, .bool false]) ∧ Below w.heap.size w w') := by
  refine Calls.veil fun Q HQ => ?_
  obtain ⟨la, lc, rfl, lc1, lc2⟩ := hu.slice
  unfold opV
  simp only
  clear hu
  go_enter Try.func9, Try.ntmps9
  go_upto_region 1 with fail
  generalize hV : World.alloc _ _ = U
  obtain ⟨u0, hbu⟩ := heapnewE hV
  obtain ⟨X, hX⟩ : ∃ X, X = w.heap.size := ⟨_, rfl⟩
  rw [← hX] at u0 ⊢
  have o0 := newcell u0 0 _ rfl; have o1 := newcell u0 1 _ rfl; have o2 := newcell u0 2 _ rfl; have o3 := newcell u0 3 _ rfl; have o4 := newcell u0 4 _ rfl
  have HBU := Lib.hid hbu
  clear hV u0 hbu hX
  go_wp2_with fail
  refine (fz_gather _ _ _).mono ?_; rintro _ w2 ⟨rfl, hb2⟩
  have HB2 := Lib.hid hb2
  clear hb2 o0 o1 o2 o3 o4
  go_wp2_with fail
  (try go_ret2)
  rw [HQ.out]
  exact ⟨rfl, below_on HBU.out HB2.out⟩
set_option maxRecDepth 8000 in
set_option maxHeartbeats 1000000 in
theorem ldoz_3 {w : World} {lv : Value} (fn : Int) {n : Nat} {L : Nat → Int} (pk pv : Int) (hu : UR w lv n L) :
    Calls Try.prog 9 #[.pointer none, opV ⟨3, fn, n, L, pk, pv⟩ lv] w (fun e w' => e = .returned (.tuple #[.int .u64 0, .bool false]) ∧ Below w.heap.size w w') := by
  refine Calls.veil fun Q HQ => ?_
  obtain ⟨la, lc, rfl, lc1, lc2⟩ := hu.slice
  unfold opV
  simp only
  clear hu
  go_enter Try.func9, Try.ntmps9
  go_upto_region 1 with fail
  generalize hV : World.alloc _ _ = U
  obtain ⟨u0, hbu⟩ := heapnewE hV
  obtain ⟨X, hX⟩ : ∃ X, X = w.heap.size := ⟨_, rfl⟩
  rw [← hX] at u0 ⊢
  have o0 := newcell u0 0 _ rfl; have o1 := newcell u0 1 _ rfl; have o2 := newcell u0 2 _ rfl; have o3 := newcell u0 3 _ rfl; have o4 := newcell u0 4 _ rfl
  have HBU := Lib.hid hbu
  clear hV u0 hbu hX
  go_wp2_with fail
  refine (fz_push _ _).mono ?_; rintro _ w2 ⟨rfl, hb2⟩
  have HB2 := Lib.hid hb2
  clear hb2 o0 o1 o2 o3 o4
  go_wp2_with fail
  (try go_ret2)
  rw [HQ.out]
  exact ⟨rfl, below_on HBU.out HB2.out⟩
set_option maxRecDepth 8000 in
set_option maxHeartbeats 1000000 in
theorem ldoz_4 {w : World} {lv : Value} (fn : Int) {n : Nat} {L : Nat → Int} (pk pv : Int) (hu : UR w lv n L) :
    Calls Try.prog 9 #[.pointer none, opV ⟨4, fn, n, L, pk, pv⟩ lv] w (fun e w' => e = .returned (.tuple #[.int .u64 0, .bool false]) ∧ Below w.heap.size w w') := by
  refine Calls.veil fun Q HQ => ?_
  obtain ⟨la, lc, rfl, lc1, lc2⟩ := hu.slice
  unfold opV
  simp only
  clear hu
  go_enter Try.func9, Try.ntmps9
  go_upto_region 1 with fail
  generalize hV : World.alloc _ _ = U
  obtain ⟨u0, hbu⟩ := heapnewE hV
  obtain ⟨X, hX⟩ : ∃ X, X = w.heap.size := ⟨_, rfl⟩
  rw [← hX] at u0 ⊢
  have o0 := newcell u0 0 _ rfl; have o1 := newcell u0 1 _ rfl; have o2 := newcell u0 2 _ rfl; have o3 := newcell u0 3 _ rfl; have o4 := newcell u0 4 _ rfl
  have HBU := Lib.hid hbu
  clear hV u0 hbu hX
  go_wp2_with fail
  refine (fz_pop _).mono ?_; rintro _ w2 ⟨rfl, hb2⟩
  have HB2 := Lib.hid hb2
  clear hb2 o0 o1 o2 o3 o4
  go_wp2_with fail
  (try go_ret2)
  rw [HQ.out]
  exact ⟨rfl, below_on HBU.out HB2.out⟩
set_option maxRecDepth 8000 in
set_option maxHeartbeats 1000000 in
theorem ldoz_5 {w : World} {lv : Value} (fn : Int) {n : Nat} {L : Nat → Int} (pk pv : Int) (hu : UR w lv n L) :
    Calls Try.prog 9 #[.pointer none, opV ⟨5, fn, n, L, pk, pv⟩ lv] w (fun e w' => e = .returned (.tuple #[.int .u64 0, .bool false]) ∧ Below w.heap.size w w') := by
  refine Calls.veil fun Q HQ => ?_
  obtain ⟨la, lc, rfl, lc1, lc2⟩ := hu.slice
  unfold opV
  simp only
  clear hu
  go_enter Try.func9, Try.ntmps9
  go_upto_region 1 with fail
  generalize hV : World.alloc _ _ = U
  obtain ⟨u0, hbu⟩ := heapnewE hV
  obtain ⟨X, hX⟩ : ∃ X, X = w.heap.size := ⟨_, rfl⟩
  rw [← hX] at u0 ⊢
  have o0 := newcell u0 0 _ rfl; have o1 := newcell u0 1 _ rfl; have o2 := newcell u0 2 _ rfl; have o3 := newcell u0 3 _ rfl; have o4 := newcell u0 4 _ rfl
  have HBU := Lib.hid hbu
  clear hV u0 hbu hX
  go_wp2_with fail
  refine (fz_fresh _).mono ?_; rintro _ w2 ⟨rfl, hb2⟩
  have HB2 := Lib.hid hb2
  clear hb2 o0 o1 o2 o3 o4
  go_wp2_with fail
  (try go_ret2)
  rw [HQ.out]
  exact ⟨rfl, below_on HBU.out HB2.out⟩
set_option maxRecDepth 8000 in
set_option maxHeartbeats 1000000 in
theorem ldoz_6 {w : World} {lv : Value} (fn : Int) {n : Nat} {L : Nat → Int} (pk pv : Int) (hu : UR w lv n L) :
    Calls Try.prog 9 #[.pointer none, opV ⟨6, fn, n, L, pk, pv⟩ lv] w (fun e w' => e = .returned (.tuple #[.int .u64 0, .bool false]) ∧ Below w.heap.size w w') := by
  refine Calls.veil fun Q HQ => ?_
  obtain ⟨la, lc, rfl, lc1, lc2⟩ := hu.slice
  unfold opV
  simp only
  clear hu
  go_enter Try.func9, Try.ntmps9
  go_upto_region 1 with fail
  generalize hV : World.alloc _ _ = U
  obtain ⟨u0, hbu⟩ := heapnewE hV
  obtain ⟨X, hX⟩ : ∃ X, X = w.heap.size := ⟨_, rfl⟩
  rw [← hX] at u0 ⊢
  have o0 := newcell u0 0 _ rfl; have o1 := newcell u0 1 _ rfl; have o2 := newcell u0 2 _ rfl; have o3 := newcell u0 3 _ rfl; have o4 := newcell u0 4 _ rfl
  have HBU := Lib.hid hbu
  clear hV u0 hbu hX
  go_wp2_with fail
  refine (fz_top _).mono ?_; rintro _ w2 ⟨rfl, hb2⟩
  have HB2 := Lib.hid hb2
  clear hb2 o0 o1 o2 o3 o4
  go_wp2_with fail
  (try go_ret2)
  rw [HQ.out]
  exact ⟨rfl, below_on HBU.out HB2.out⟩
set_option maxRecDepth 8000 in
set_option maxHeartbeats 1000000 in
theorem ldoz_no {w : World} {lv : Value} {kk : Int} (hk : kk < 0 ∨ 6 < kk) (fn : Int) {n : Nat} {L : Nat → Int} (pk pv : Int) (hu : UR w lv n L) :
    Calls Try.prog 9 #[.pointer none, opV ⟨kk, fn, n, L, pk, pv⟩ lv] w (fun e w' => e = .returned (.tuple #[.int .u64 0, .bool false]) ∧ Below w.heap.size w w') := by
  refine Calls.veil fun Q HQ => ?_
  obtain ⟨la, lc, rfl, lc1, lc2⟩ := hu.slice
  unfold opV
  simp only
  clear hu
  have e0 : ¬ (kk = 0) := by omega
  have e1 : ¬ (kk = 1) := by omega
  have e2 : ¬ (kk = 2) := by omega
  have e3 : ¬ (kk = 3) := by omega
  have e4 : ¬ (kk = 4) := by omega
  have e5 : ¬ (kk = 5) := by omega
  have e6 : ¬ (kk = 6) := by omega
  clear hk
  go_enter Try.func9, Try.ntmps9
  go_upto_region 1 with fail
  generalize hV : World.alloc _ _ = U
  obtain ⟨u0, hbu⟩ := heapnewE hV
  obtain ⟨X, hX⟩ : ∃ X, X = w.heap.size := ⟨_, rfl⟩
  rw [← hX] at u0 ⊢
  have o0 := newcell u0 0 _ rfl; have o1 := newcell u0 1 _ rfl; have o2 := newcell u0 2 _ rfl; have o3 := newcell u0 3 _ rfl; have o4 := newcell u0 4 _ rfl
  have HBU := Lib.hid hbu
  clear hV u0 hbu hX
  go_wp2_with fail
  (try go_ret2)
  rw [HQ.out]
  exact ⟨rfl, HBU.out⟩
/-- What a thread that is not there tells. -/
theorem ldoz {w : World} {lv : Value} (o : Op15) (hu : UR w lv o.n o.L) :
    Calls Try.prog 9 #[.pointer none, opV o lv] w (fun e w' => e = .returned (.tuple #[.int .u64 0, .bool false]) ∧ Below w.heap.size w w') := by
  obtain ⟨kind, fn, n, L, pk, pv⟩ := o
  rcases (by omega : kind = 0 ∨ kind = 1 ∨ kind = 2 ∨ kind = 3 ∨ kind = 4 ∨ kind = 5 ∨ kind = 6 ∨ (kind < 0 ∨ 6 < kind)) with rfl | rfl | rfl | rfl | rfl | rfl | rfl | hk
  · exact ldoz_0 fn pk pv hu
  · exact ldoz_1 fn pk pv hu
  · exact ldoz_2 fn pk pv hu
  · exact ldoz_3 fn pk pv hu
  · exact ldoz_4 fn pk pv hu
  · exact ldoz_5 fn pk pv hu
  · exact ldoz_6 fn pk pv hu
  · exact ldoz_no hk fn pk pv hu
end Go.Proofs.Ytdnjconfmaiegaa
