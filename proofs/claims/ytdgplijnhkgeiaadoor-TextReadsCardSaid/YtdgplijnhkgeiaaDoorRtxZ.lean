/- Layer 35: the walk of TextReads. -/
import Derived.Test.YtdgplijnhkgeiaaDoorRtxX
import Derived.Test.YtdgplijnhkgeiaaDoorFrame
import Derived.Test.YtdgplijnhkgeiaaDoorTxwE
namespace Go.Proofs.YtdgplijnhkgeiaaDoor
open Go.RowKit
set_option linter.unusedVariables false
set_option linter.unusedSimpArgs false
theorem VB.pw {w W : World} (h : VB w.heap.size w) (k : Below w.heap.size w W) : Pow W.heap.size W := ((h.below k).up k.size).pow
theorem VB.on {w W : World} (h : VB w.heap.size w) (k : Below w.heap.size w W) : VB W.heap.size W := (h.below k).up k.size
set_option maxRecDepth 16000 in
set_option maxHeartbeats 4000000 in
theorem textReads_walk (v0 : Value) (w : World) (s0 : Fr.ok1 w (.str) v0) (hT : VB w.heap.size w) :
    Calls Tryd.prog 3 #[v0] w fun e w' => e = .returned (.bool true) ∧ Below w.heap.size w w' := by
  obtain ⟨s, rfl, hz⟩ := Fr.get_str s0
  obtain ⟨l, hl⟩ : ∃ l : List UInt8, s = ⟨l.toArray⟩ := ⟨s.data.toList, by simp⟩
  subst hl
  refine Calls.veil fun Q HQ => ?_
  have HV := Lib.hid hT
  have hsz : (⟨l.toArray⟩ : ByteArray).size = l.length := by show l.toArray.size = _; simp
  clear s0 hz hT
  rcases (by omega : 2000 < l.length ∨ l.length ≤ 2000) with j | j
  · have h1 : (2000 : Int) < (l.length : Int) := by omega
    clear j
    go_enter Tryd.func3, Tryd.ntmps3
    go_wp2_with fail
    refine (lives35_calls (HV.out.pw (Below.refl _ _))).mono ?_; rintro _ w1 ⟨rfl, hb⟩
    go_wp2_with fail
    (try go_ret)
    rw [HQ.out]
    exact ⟨rfl, hb⟩
  · have h1 : ¬ (2000 : Int) < (l.length : Int) := by omega
    have HL := Lib.hid j
    clear j
    obtain ⟨hd, tl, hws⟩ := List.exists_cons_of_ne_nil (splitL_ne 32 l)
    have HRC := Lib.hid (fun W => rcut l 32 W (by have := HL.out; omega))
    have HTC := Lib.hid (fun (W : World) (k : Below w.heap.size w W) => treadcall l W (by have := HL.out; omega) (HV.out.on k))
    have HTA := Lib.hid (fun (W : World) (k : Below w.heap.size w W) => treadanswer l W (by have := HL.out; omega) (HV.out.on k))
    have hln : tl.length ≤ 2000 := by have h := splitL_len 32 l; rw [hws] at h; simp at h; have := HL.out; omega
    have hwl : ∀ x ∈ tl, x.length ≤ 2000 := fun x hx => Nat.le_trans (splitL_word 32 l x (by rw [hws]; exact List.mem_cons_of_mem _ hx)) HL.out
    have HR1 := Lib.hid (fun (v : Value) (W : World) (h : SR W v (hd :: tl)) => rreadcall v hd tl W h (Nat.le_trans hln (by decide)) (fun x hx => Nat.le_trans (hwl x hx) (by decide)))
    have HR2 := Lib.hid (fun (v : Value) (W : World) (h : SR W v (hd :: tl)) => rreadanswer v hd tl W h (Nat.le_trans hln (by decide)) (fun x hx => Nat.le_trans (hwl x hx) (by decide)))
    have HAL := Lib.hid (show (ansP (answerR (hd :: tl))).1.ps.length ≤ 100000 from Nat.le_trans (answerR_len _) (by simp; omega))
    rw [hws] at HRC HTC HTA
    obtain ⟨⟨⟨cop, ckey, cval, chi, clim⟩, cy⟩, hcp⟩ : ∃ x, x = callP (callR (hd :: tl)) := ⟨_, rfl⟩
    obtain ⟨⟨⟨ak, akey, aval, an, aps⟩, ay⟩, hap⟩ : ∃ x, x = ansP (answerR (hd :: tl)) := ⟨_, rfl⟩
    rw [← hcp] at HTC HR1
    rw [← hap] at HTA HR2 HAL
    simp only at HTC HR1 HTA HR2 HAL
    simp only [ancells] at HTA HR2
    clear hcp hap hws hln hwl hsz
    have RC : Hid (∀ W, Calls Tryd.prog 7 #[tx l, .int .u8 32] W fun e w' => ∃ v, e = .returned v ∧ SR w' v (hd :: tl) ∧ Below W.heap.size W w') := HRC
    clear HRC
    go_enter Tryd.func3, Tryd.ntmps3
    go_wp2_with fail
    refine (RC.out w).mono ?_; rintro _ w1 ⟨wv, rfl, hsr, hb⟩
    have HS := Lib.hid hsr
    have HB1 := Lib.hid hb
    clear hsr hb RC
    go_wp2_with fail
    refine (HTC.out w1 HB1.out).mono ?_; rintro _ w2 ⟨rfl, hb⟩
    have HS := Lib.hid (HS.out.below hb)
    have HB2 := Lib.hid (below_on HB1.out hb)
    clear hb HB1 HTC
    go_upto_region 5 with fail
    generalize hV1 : World.alloc w2 _ = V1
    have F1 := Lib.hid (show Below w.heap.size w V1 ∧ SR V1 wv (hd :: tl) ∧ V1.heap[w2.heap.size]? = some (.cells (cacells ⟨cop, ckey, cval, chi, clim⟩).toArray 26 (0, 0)) ∧ w2.heap.size < V1.heap.size by
      rw [← hV1]
      exact ⟨below_new HB2.out _, HS.out.below (below_new (Below.refl _ _) _), heap_alloc_new w2 _, by simp⟩)
    obtain ⟨p1, hp1⟩ : ∃ x, x = w2.heap.size := ⟨_, rfl⟩
    rw [← hp1] at F1 ⊢
    clear hV1 HS HB2 hp1
    go_wp2_with fail
    refine (HR1.out wv V1 F1.out.2.1).mono ?_; rintro _ w3 ⟨rfl, hb⟩
    have F2 := Lib.hid (show Below w.heap.size w w3 ∧ SR w3 wv (hd :: tl) ∧ w3.heap[p1]? = some (.cells (cacells ⟨cop, ckey, cval, chi, clim⟩).toArray 26 (0, 0)) from ⟨below_on F1.out.1 hb, F1.out.2.1.below hb, upk hb F1.out.2.2.1⟩)
    clear hb F1 HR1
    go_upto_region 6 with fail
    generalize hV1 : World.alloc w3 _ = V2
    have F3 := Lib.hid (show Below w.heap.size w V2 ∧ SR V2 wv (hd :: tl) ∧ V2.heap[p1]? = some (.cells (cacells ⟨cop, ckey, cval, chi, clim⟩).toArray 26 (0, 0)) ∧ V2.heap[w3.heap.size]? = some (.cells (cacells ⟨cop, ckey, cval, chi, clim⟩).toArray 26 (0, 0)) by
      rw [← hV1]
      exact ⟨below_new F2.out.1 _, F2.out.2.1.below (below_new (Below.refl _ _) _), upk (below_new (Below.refl _ _) _) F2.out.2.2, heap_alloc_new w3 _⟩)
    obtain ⟨p2, hp2⟩ : ∃ x, x = w3.heap.size := ⟨_, rfl⟩
    rw [← hp2] at F3 ⊢
    clear hV1 F2 hp2
    go_wp2_with fail
    refine (HTA.out V2 F3.out.1).mono ?_; rintro _ w4 ⟨v, rfl, hpr, hb⟩
    have F4 := Lib.hid (show Below w.heap.size w w4 ∧ SR w4 wv (hd :: tl) ∧ w4.heap[p1]? = some (.cells (cacells ⟨cop, ckey, cval, chi, clim⟩).toArray 26 (0, 0)) ∧ w4.heap[p2]? = some (.cells (cacells ⟨cop, ckey, cval, chi, clim⟩).toArray 26 (0, 0)) from ⟨below_on F3.out.1 hb, F3.out.2.1.below hb, upk hb F3.out.2.2.1, upk hb F3.out.2.2.2⟩)
    have HP := Lib.hid hpr
    obtain ⟨q1, c1, rfl, _, _⟩ := hpr.slice
    clear hb F3 HTA hpr
    go_upto_region 7 with fail
    generalize hV1 : World.alloc w4 _ = V3
    have F5 := Lib.hid (show Below w.heap.size w V3 ∧ SR V3 wv (hd :: tl) ∧ V3.heap[p1]? = some (.cells (cacells ⟨cop, ckey, cval, chi, clim⟩).toArray 26 (0, 0)) ∧ V3.heap[p2]? = some (.cells (cacells ⟨cop, ckey, cval, chi, clim⟩).toArray 26 (0, 0)) ∧ V3.heap[w4.heap.size]? = some (.cells (ancells ⟨ak, akey, aval, an, aps⟩ (.slice q1 aps.length c1)).toArray 33 (0, 0)) ∧ PR V3 (.slice q1 aps.length c1) aps by
      rw [← hV1]
      have hk : Below w4.heap.size w4 (w4.alloc (.cells #[.int .i64 ak, .int .i64 akey, .int .i64 aval, .int .i64 an, .slice q1 aps.length c1] 33)) := below_new (Below.refl _ _) _
      exact ⟨below_new F4.out.1 _, F4.out.2.1.below hk, upk hk F4.out.2.2.1, upk hk F4.out.2.2.2, heap_alloc_new w4 _, HP.out.below hk⟩)
    obtain ⟨p3, hp3⟩ : ∃ x, x = w4.heap.size := ⟨_, rfl⟩
    rw [← hp3] at F5 ⊢
    clear hV1 F4 hp3 HP
    go_wp2_with fail
    refine (HR2.out wv V3 F5.out.2.1).mono ?_; rintro _ w5 ⟨v, rfl, hpr, hb⟩
    have hpr := ownQ_PR hpr
    have F6 := Lib.hid (show Below w.heap.size w w5 ∧ w5.heap[p1]? = some (.cells (cacells ⟨cop, ckey, cval, chi, clim⟩).toArray 26 (0, 0)) ∧ w5.heap[p2]? = some (.cells (cacells ⟨cop, ckey, cval, chi, clim⟩).toArray 26 (0, 0)) ∧ w5.heap[p3]? = some (.cells (ancells ⟨ak, akey, aval, an, aps⟩ (.slice q1 aps.length c1)).toArray 33 (0, 0)) ∧ PR w5 (.slice q1 aps.length c1) aps from ⟨below_on F5.out.1 hb, upk hb F5.out.2.2.1, upk hb F5.out.2.2.2.1, upk hb F5.out.2.2.2.2.1, F5.out.2.2.2.2.2.below hb⟩)
    have HP := Lib.hid hpr
    obtain ⟨q2, c2, rfl, _, _⟩ := hpr.slice
    clear hb F5 HR2 hpr
    go_upto_region 8 with fail
    generalize hV1 : World.alloc w5 _ = V4
    have F7 := Lib.hid (show Below w.heap.size w V4 ∧ V4.heap[p1]? = some (.cells (cacells ⟨cop, ckey, cval, chi, clim⟩).toArray 26 (0, 0)) ∧ V4.heap[p2]? = some (.cells (cacells ⟨cop, ckey, cval, chi, clim⟩).toArray 26 (0, 0)) ∧ V4.heap[p3]? = some (.cells (ancells ⟨ak, akey, aval, an, aps⟩ (.slice q1 aps.length c1)).toArray 33 (0, 0)) ∧ V4.heap[w5.heap.size]? = some (.cells (ancells ⟨ak, akey, aval, an, aps⟩ (.slice q2 aps.length c2)).toArray 33 (0, 0)) ∧ PR V4 (.slice q1 aps.length c1) aps ∧ PR V4 (.slice q2 aps.length c2) aps by
      rw [← hV1]
      have hk : Below w5.heap.size w5 (w5.alloc (.cells #[.int .i64 ak, .int .i64 akey, .int .i64 aval, .int .i64 an, .slice q2 aps.length c2] 33)) := below_new (Below.refl _ _) _
      exact ⟨below_new F6.out.1 _, upk hk F6.out.2.1, upk hk F6.out.2.2.1, upk hk F6.out.2.2.2.1, heap_alloc_new w5 _, F6.out.2.2.2.2.below hk, HP.out.below hk⟩)
    obtain ⟨p4, hp4⟩ : ∃ x, x = w5.heap.size := ⟨_, rfl⟩
    rw [← hp4] at F7 ⊢
    clear hV1 F6 hp4 HP
    have p1_0 : V4.cell? ⟨p1, 0, none⟩ = some (.int .i64 cop) := rowc (F7.out.2.1) _ rfl
    have p1_1 : V4.cell? ⟨p1, 1, none⟩ = some (.int .i64 ckey) := rowc (F7.out.2.1) _ rfl
    have p1_2 : V4.cell? ⟨p1, 2, none⟩ = some (.int .i64 cval) := rowc (F7.out.2.1) _ rfl
    have p1_3 : V4.cell? ⟨p1, 3, none⟩ = some (.int .i64 chi) := rowc (F7.out.2.1) _ rfl
    have p1_4 : V4.cell? ⟨p1, 4, none⟩ = some (.int .i64 clim) := rowc (F7.out.2.1) _ rfl
    have p2_0 : V4.cell? ⟨p2, 0, none⟩ = some (.int .i64 cop) := rowc (F7.out.2.2.1) _ rfl
    have p2_1 : V4.cell? ⟨p2, 1, none⟩ = some (.int .i64 ckey) := rowc (F7.out.2.2.1) _ rfl
    have p2_2 : V4.cell? ⟨p2, 2, none⟩ = some (.int .i64 cval) := rowc (F7.out.2.2.1) _ rfl
    have p2_3 : V4.cell? ⟨p2, 3, none⟩ = some (.int .i64 chi) := rowc (F7.out.2.2.1) _ rfl
    have p2_4 : V4.cell? ⟨p2, 4, none⟩ = some (.int .i64 clim) := rowc (F7.out.2.2.1) _ rfl
    have p3_0 : V4.cell? ⟨p3, 0, none⟩ = some (.int .i64 ak) := rowc (F7.out.2.2.2.1) _ rfl
    have p3_1 : V4.cell? ⟨p3, 1, none⟩ = some (.int .i64 akey) := rowc (F7.out.2.2.2.1) _ rfl
    have p3_2 : V4.cell? ⟨p3, 2, none⟩ = some (.int .i64 aval) := rowc (F7.out.2.2.2.1) _ rfl
    have p3_3 : V4.cell? ⟨p3, 3, none⟩ = some (.int .i64 an) := rowc (F7.out.2.2.2.1) _ rfl
    have p3_4 : V4.cell? ⟨p3, 4, none⟩ = some (.slice q1 aps.length c1) := rowc (F7.out.2.2.2.1) _ rfl
    have p4_0 : V4.cell? ⟨p4, 0, none⟩ = some (.int .i64 ak) := rowc (F7.out.2.2.2.2.1) _ rfl
    have p4_1 : V4.cell? ⟨p4, 1, none⟩ = some (.int .i64 akey) := rowc (F7.out.2.2.2.2.1) _ rfl
    have p4_2 : V4.cell? ⟨p4, 2, none⟩ = some (.int .i64 aval) := rowc (F7.out.2.2.2.2.1) _ rfl
    have p4_3 : V4.cell? ⟨p4, 3, none⟩ = some (.int .i64 an) := rowc (F7.out.2.2.2.2.1) _ rfl
    have p4_4 : V4.cell? ⟨p4, 4, none⟩ = some (.slice q2 aps.length c2) := rowc (F7.out.2.2.2.2.1) _ rfl
    go_wp2_with fail
    refine (rsame9e ⟨ak, akey, aval, an, aps⟩ _ _ V4 F7.out.2.2.2.2.2.1 F7.out.2.2.2.2.2.2 HAL.out).mono ?_; rintro _ w6 ⟨rfl, hb⟩
    have HB6 := Lib.hid (below_on F7.out.1 hb)
    clear hb
    go_wp2_with fail
    refine (lives35_calls (HV.out.pw HB6.out)).mono ?_; rintro _ w7 ⟨rfl, hb⟩
    have HB7 := Lib.hid (below_on HB6.out hb)
    clear hb
    go_wp2_with fail
    (try go_ret)
    rw [HQ.out]
    exact ⟨rfl, HB7.out⟩
end Go.Proofs.YtdgplijnhkgeiaaDoor
