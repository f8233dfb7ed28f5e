/- Layer 9's contracts: the reference's Fits, a part. (gen_calld.py) -/
import Derived.Test.YtdgkgfapajlidaaCallD
namespace Go.Proofs.Ytdgkgfapajlidaa
open Go.RowKit
set_option linter.unusedVariables false
set_option linter.unusedSimpArgs false
set_option maxHeartbeats 2000000 in
set_option maxRecDepth 100000 in
theorem rfits_b0 (op key val hi limit : Int) (k ak av n : Int) (p : Option Addr) (c nn : Nat) (l : PL) (w : World) (HP : Hid (PR w (.slice p l.length c) l)) (HN : Hid (nn ≤ 100000)) (HNN : Hid (nn = l.length)) (n1 : k ≠ 1) (na : ak ≠ 0) :
    Calls Try.prog 16 #[callV op key val hi limit, ansV k ak av n (.slice p nn c)] w fun e w' => e = .returned (.bool (fitsB op key hi limit k ak av n l)) ∧ Below w.heap.size w w' := by
  have HTI := Lib.hid (told_iff k ak av n l)
  rw [← HNN.out] at HTI
  refine Calls.veil fun Q HQ => ?_
  have HT : Hid (toldB k ak av n l = false) := by rw [HTI.out]; exact Lib.hid (decide_eq_false (by omega))
  have y1 : (k != 1) = true := by rw [bne_iff_ne]; exact n1
  have y2 : (ak != 0) = true := by rw [bne_iff_ne]; exact na
  clear n1 na
  go_enter Try.func16, Try.ntmps16
  go_wp2_with fail
  (try go_ret)
  rw [HQ.out, fits_bad HT.out]
  exact ⟨ret_bool rfl, by (repeat (first | exact Below.refl _ _ | assumption | refine below_new ?_ _ | refine Below.drew ?_ | refine below_drewN ?_ _ | refine below_on ?_ (by assumption)))⟩
set_option maxHeartbeats 2000000 in
set_option maxRecDepth 100000 in
theorem rfits_b1 (op key val hi limit : Int) (k av n : Int) (p : Option Addr) (c nn : Nat) (l : PL) (w : World) (HP : Hid (PR w (.slice p l.length c) l)) (HN : Hid (nn ≤ 100000)) (HNN : Hid (nn = l.length)) (n1 : k ≠ 1) (nv : av ≠ 0) :
    Calls Try.prog 16 #[callV op key val hi limit, ansV k 0 av n (.slice p nn c)] w fun e w' => e = .returned (.bool (fitsB op key hi limit k 0 av n l)) ∧ Below w.heap.size w w' := by
  have HTI := Lib.hid (told_iff k 0 av n l)
  rw [← HNN.out] at HTI
  refine Calls.veil fun Q HQ => ?_
  have HT : Hid (toldB k 0 av n l = false) := by rw [HTI.out]; exact Lib.hid (decide_eq_false (by omega))
  have y1 : (k != 1) = true := by rw [bne_iff_ne]; exact n1
  have y2 : (av != 0) = true := by rw [bne_iff_ne]; exact nv
  clear n1 nv
  go_enter Try.func16, Try.ntmps16
  go_wp2_with fail
  (try go_ret)
  rw [HQ.out, fits_bad HT.out]
  exact ⟨ret_bool rfl, by (repeat (first | exact Below.refl _ _ | assumption | refine below_new ?_ _ | refine Below.drew ?_ | refine below_drewN ?_ _ | refine below_on ?_ (by assumption)))⟩
set_option maxHeartbeats 2000000 in
set_option maxRecDepth 100000 in
theorem rfits_b2 (op key val hi limit : Int) (ak av n : Int) (p : Option Addr) (c nn : Nat) (l : PL) (w : World) (HP : Hid (PR w (.slice p l.length c) l)) (HN : Hid (nn ≤ 100000)) (HNN : Hid (nn = l.length)) (nn0 : n ≠ 0) :
    Calls Try.prog 16 #[callV op key val hi limit, ansV 1 ak av n (.slice p nn c)] w fun e w' => e = .returned (.bool (fitsB op key hi limit 1 ak av n l)) ∧ Below w.heap.size w w' := by
  have HTI := Lib.hid (told_iff 1 ak av n l)
  rw [← HNN.out] at HTI
  refine Calls.veil fun Q HQ => ?_
  have HT : Hid (toldB 1 ak av n l = false) := by rw [HTI.out]; exact Lib.hid (decide_eq_false (by omega))
  have y2 : (n != 0) = true := by rw [bne_iff_ne]; exact nn0
  clear nn0
  go_enter Try.func16, Try.ntmps16
  go_wp2_with fail
  (try go_ret)
  rw [HQ.out, fits_bad HT.out]
  exact ⟨ret_bool rfl, by (repeat (first | exact Below.refl _ _ | assumption | refine below_new ?_ _ | refine Below.drew ?_ | refine below_drewN ?_ _ | refine below_on ?_ (by assumption)))⟩
set_option maxHeartbeats 2000000 in
set_option maxRecDepth 100000 in
theorem rfits_b3 (op key val hi limit : Int) (k n : Int) (p : Option Addr) (c nn : Nat) (l : PL) (w : World) (HP : Hid (PR w (.slice p l.length c) l)) (HN : Hid (nn ≤ 100000)) (HNN : Hid (nn = l.length)) (n1 : k ≠ 1) (n2 : k ≠ 2) (nn0 : n ≠ 0) :
    Calls Try.prog 16 #[callV op key val hi limit, ansV k 0 0 n (.slice p nn c)] w fun e w' => e = .returned (.bool (fitsB op key hi limit k 0 0 n l)) ∧ Below w.heap.size w w' := by
  have HTI := Lib.hid (told_iff k 0 0 n l)
  rw [← HNN.out] at HTI
  refine Calls.veil fun Q HQ => ?_
  have HT : Hid (toldB k 0 0 n l = false) := by rw [HTI.out]; exact Lib.hid (decide_eq_false (by omega))
  have y1 : (k != 1) = true := by rw [bne_iff_ne]; exact n1
  have y3 : (k != 2) = true := by rw [bne_iff_ne]; exact n2
  have y2 : (n != 0) = true := by rw [bne_iff_ne]; exact nn0
  clear n1 n2 nn0
  go_enter Try.func16, Try.ntmps16
  go_wp2_with fail
  (try go_ret)
  rw [HQ.out, fits_bad HT.out]
  exact ⟨ret_bool rfl, by (repeat (first | exact Below.refl _ _ | assumption | refine below_new ?_ _ | refine Below.drew ?_ | refine below_drewN ?_ _ | refine below_on ?_ (by assumption)))⟩
set_option maxHeartbeats 2000000 in
set_option maxRecDepth 100000 in
theorem rfits_b4 (op key val hi limit : Int) (ak av : Int) (p : Option Addr) (c nn : Nat) (l : PL) (w : World) (HP : Hid (PR w (.slice p l.length c) l)) (HN : Hid (nn ≤ 100000)) (HNN : Hid (nn = l.length)) (hp0 : 0 < nn) :
    Calls Try.prog 16 #[callV op key val hi limit, ansV 1 ak av 0 (.slice p nn c)] w fun e w' => e = .returned (.bool (fitsB op key hi limit 1 ak av 0 l)) ∧ Below w.heap.size w w' := by
  have HTI := Lib.hid (told_iff 1 ak av 0 l)
  rw [← HNN.out] at HTI
  refine Calls.veil fun Q HQ => ?_
  have HT : Hid (toldB 1 ak av 0 l = false) := by rw [HTI.out]; exact Lib.hid (decide_eq_false (by omega))
  go_enter Try.func16, Try.ntmps16
  go_wp2_with fail
  (try go_ret)
  rw [HQ.out, fits_bad HT.out]
  exact ⟨ret_bool rfl, by (repeat (first | exact Below.refl _ _ | assumption | refine below_new ?_ _ | refine Below.drew ?_ | refine below_drewN ?_ _ | refine below_on ?_ (by assumption)))⟩
set_option maxHeartbeats 2000000 in
set_option maxRecDepth 100000 in
theorem rfits_b5 (op key val hi limit : Int) (n : Int) (p : Option Addr) (c nn : Nat) (l : PL) (w : World) (HP : Hid (PR w (.slice p l.length c) l)) (HN : Hid (nn ≤ 100000)) (HNN : Hid (nn = l.length)) (hp0 : 0 < nn) :
    Calls Try.prog 16 #[callV op key val hi limit, ansV 2 0 0 n (.slice p nn c)] w fun e w' => e = .returned (.bool (fitsB op key hi limit 2 0 0 n l)) ∧ Below w.heap.size w w' := by
  have HTI := Lib.hid (told_iff 2 0 0 n l)
  rw [← HNN.out] at HTI
  refine Calls.veil fun Q HQ => ?_
  have HT : Hid (toldB 2 0 0 n l = false) := by rw [HTI.out]; exact Lib.hid (decide_eq_false (by omega))
  go_enter Try.func16, Try.ntmps16
  go_wp2_with fail
  (try go_ret)
  rw [HQ.out, fits_bad HT.out]
  exact ⟨ret_bool rfl, by (repeat (first | exact Below.refl _ _ | assumption | refine below_new ?_ _ | refine Below.drew ?_ | refine below_drewN ?_ _ | refine below_on ?_ (by assumption)))⟩
set_option maxHeartbeats 2000000 in
set_option maxRecDepth 100000 in
theorem rfits_b6 (op key val hi limit : Int) (k : Int) (p : Option Addr) (c nn : Nat) (l : PL) (w : World) (HP : Hid (PR w (.slice p l.length c) l)) (HN : Hid (nn ≤ 100000)) (HNN : Hid (nn = l.length)) (n1 : k ≠ 1) (n2 : k ≠ 2) (n3 : k ≠ 3) (hp0 : 0 < nn) :
    Calls Try.prog 16 #[callV op key val hi limit, ansV k 0 0 0 (.slice p nn c)] w fun e w' => e = .returned (.bool (fitsB op key hi limit k 0 0 0 l)) ∧ Below w.heap.size w w' := by
  have HTI := Lib.hid (told_iff k 0 0 0 l)
  rw [← HNN.out] at HTI
  refine Calls.veil fun Q HQ => ?_
  have HT : Hid (toldB k 0 0 0 l = false) := by rw [HTI.out]; exact Lib.hid (decide_eq_false (by omega))
  have y1 : (k != 1) = true := by rw [bne_iff_ne]; exact n1
  have y2 : (k != 2) = true := by rw [bne_iff_ne]; exact n2
  have y3 : (k != 3) = true := by rw [bne_iff_ne]; exact n3
  clear n1 n2 n3
  go_enter Try.func16, Try.ntmps16
  go_wp2_with fail
  (try go_ret)
  rw [HQ.out, fits_bad HT.out]
  exact ⟨ret_bool rfl, by (repeat (first | exact Below.refl _ _ | assumption | refine below_new ?_ _ | refine Below.drew ?_ | refine below_drewN ?_ _ | refine below_on ?_ (by assumption)))⟩
end Go.Proofs.Ytdgkgfapajlidaa
