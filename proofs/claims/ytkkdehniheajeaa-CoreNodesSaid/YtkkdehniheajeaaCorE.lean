/- Layer 16: the reference's word. -/
import Derived.Test.YtkkdehniheajeaaCorD
namespace Go.Proofs.Ytkkdehniheajeaa
open Go.RowKit WordM EdgeM
set_option linter.unusedVariables false
set_option linter.unusedSimpArgs false
theorem rinfo (leaf : Bool) (k : Int) (w : World) (h : 0 ≤ k) (h' : k ≤ 3) : Calls Try.prog 88 #[.bool leaf, .int .i64 k] w fun e w' => e = .returned (.int .u64 (infoI leaf k)) ∧ w = w' := by
  cases leaf
  · have HI := Lib.hid (show infoI false k = 2 * k by unfold infoI; rw [if_pos ⟨h, h'⟩]; simp)
    go_enter Try.func88, Try.ntmps88
    go_wp2
    go_ret
    exact ⟨by rw [HI.out]; rfl, rfl⟩
  · have HI := Lib.hid (show infoI true k = 2 * k + 1 by unfold infoI; rw [if_pos ⟨h, h'⟩]; simp)
    go_enter Try.func88, Try.ntmps88
    go_wp2
    go_ret
    exact ⟨by rw [HI.out]; rfl, rfl⟩
theorem heap3c {w V : World} {a b c : Obj} (h : ((w.alloc a).alloc b).alloc c = V) : V.heap[w.heap.size]? = some a ∧ V.heap[w.heap.size + 1]? = some b ∧ V.heap[w.heap.size + 1 + 1]? = some c ∧ Below w.heap.size w V := by
  subst h
  refine ⟨?_, ?_, ?_, by (repeat (first | exact Below.refl _ _ | assumption | refine below_new ?_ _ | refine Below.drew ?_ | refine below_drewN ?_ _ | refine below_on ?_ (by assumption)))⟩
  · rw [Below.heap_alloc _ _ _ (by simp; omega), Below.heap_alloc _ _ _ (by simp)]; exact heap_alloc_new w a
  · rw [Below.heap_alloc _ _ _ (by simp)]; have := heap_alloc_new (w.alloc a) b; simpa using this
  · have := heap_alloc_new ((w.alloc a).alloc b) c; simpa using this
set_option maxRecDepth 8000 in
set_option maxHeartbeats 1000000 in
theorem rword_z (t s : Nat) (K : Int) (w : World) {k I J : Int} (h0 : ¬ k = 0) (h5 : ¬ k = 5) :
    Calls Try.prog 56 #[.agg #[.int .i64 t, .int .i64 s, .int .u64 K], .agg #[.int .i64 k, .int .i64 I, .int .i64 J]] w fun e w' => e = .returned (.int .u64 (0)) ∧ Below w.heap.size w w' := by
  refine Calls.veil fun Q HQ => ?_
  go_enter Try.func56, Try.ntmps56
  go_upto_region 1 with fail
  generalize hV : World.alloc _ _ = U
  obtain ⟨a, b, hab, u0, u1, us, hbu⟩ : ∃ a b, (a = w.heap.size ∧ b = w.heap.size + 1) ∧ U.heap[a]? = some (.cells #[.int .i64 t, .int .i64 s, .int .u64 K] 24 (0, 0)) ∧ U.heap[b]? = some (.cells #[.int .i64 k, .int .i64 I, .int .i64 J] 108 (0, 0)) ∧ U.heap.size = w.heap.size + 2 ∧ Below w.heap.size w U :=
    ⟨_, _, ⟨rfl, rfl⟩, by rw [← hV, Below.heap_alloc _ _ _ (by simp)]; exact heap_alloc_new w _, by rw [← hV]; have := heap_alloc_new (w.alloc (.cells #[.int .i64 t, .int .i64 s, .int .u64 K] 24)) (.cells #[.int .i64 k, .int .i64 I, .int .i64 J] 108); simpa using this, by rw [← hV]; simp, by rw [← hV]; (repeat (first | exact Below.refl _ _ | assumption | refine below_new ?_ _ | refine Below.drew ?_ | refine below_drewN ?_ _ | refine below_on ?_ (by assumption)))⟩
  obtain ⟨h1, h2⟩ := hab
  rw [← h1] at *
  rw [← h2] at *
  have HB := Lib.hid hbu
  have s1 := Th.newcell u0 1 _ rfl
  have k0 := Th.newcell u1 0 _ rfl; have k1 := Th.newcell u1 1 _ rfl; have k2 := Th.newcell u1 2 _ rfl
  clear hV u0 u1 us hbu h1 h2
  go_wp2_with fail
  (try go_ret)
  rw [HQ.out]
  exact ⟨rfl, HB.out⟩
set_option maxRecDepth 8000 in
set_option maxHeartbeats 1000000 in
theorem rword_hi0 (t s : Nat) (K : Int) (w : World) {I : Int} (hi : 5 < I) (hb : I ≤ 250) (hs : I < s) :
    Calls Try.prog 56 #[.agg #[.int .i64 t, .int .i64 s, .int .u64 K], .agg #[.int .i64 5, .int .i64 I, .int .i64 0]] w fun e w' => e = .returned (.int .u64 (I + 1)) ∧ Below w.heap.size w w' := by
  refine Calls.veil fun Q HQ => ?_
  go_enter Try.func56, Try.ntmps56
  go_upto_region 1 with fail
  generalize hV : World.alloc _ _ = U
  obtain ⟨a, b, hab, u0, u1, us, hbu⟩ : ∃ a b, (a = w.heap.size ∧ b = w.heap.size + 1) ∧ U.heap[a]? = some (.cells #[.int .i64 t, .int .i64 s, .int .u64 K] 24 (0, 0)) ∧ U.heap[b]? = some (.cells #[.int .i64 5, .int .i64 I, .int .i64 0] 108 (0, 0)) ∧ U.heap.size = w.heap.size + 2 ∧ Below w.heap.size w U :=
    ⟨_, _, ⟨rfl, rfl⟩, by rw [← hV, Below.heap_alloc _ _ _ (by simp)]; exact heap_alloc_new w _, by rw [← hV]; have := heap_alloc_new (w.alloc (.cells #[.int .i64 t, .int .i64 s, .int .u64 K] 24)) (.cells #[.int .i64 5, .int .i64 I, .int .i64 0] 108); simpa using this, by rw [← hV]; simp, by rw [← hV]; (repeat (first | exact Below.refl _ _ | assumption | refine below_new ?_ _ | refine Below.drew ?_ | refine below_drewN ?_ _ | refine below_on ?_ (by assumption)))⟩
  obtain ⟨h1, h2⟩ := hab
  rw [← h1] at *
  rw [← h2] at *
  have HB := Lib.hid hbu
  have s1 := Th.newcell u0 1 _ rfl
  have k0 := Th.newcell u1 0 _ rfl; have k1 := Th.newcell u1 1 _ rfl; have k2 := Th.newcell u1 2 _ rfl
  clear hV u0 u1 us hbu h1 h2
  go_wp2_with fail
  (try go_ret)
  rw [HQ.out]
  exact ⟨rfl, HB.out⟩
set_option maxRecDepth 8000 in
set_option maxHeartbeats 1000000 in
theorem rword_hi1 (t s : Nat) (K : Int) (w : World) {I : Int} (hi : 5 < I) (hb : I ≤ 250) (hs : ¬ I < s) :
    Calls Try.prog 56 #[.agg #[.int .i64 t, .int .i64 s, .int .u64 K], .agg #[.int .i64 5, .int .i64 I, .int .i64 0]] w fun e w' => e = .returned (.int .u64 (0)) ∧ Below w.heap.size w w' := by
  refine Calls.veil fun Q HQ => ?_
  go_enter Try.func56, Try.ntmps56
  go_upto_region 1 with fail
  generalize hV : World.alloc _ _ = U
  obtain ⟨a, b, hab, u0, u1, us, hbu⟩ : ∃ a b, (a = w.heap.size ∧ b = w.heap.size + 1) ∧ U.heap[a]? = some (.cells #[.int .i64 t, .int .i64 s, .int .u64 K] 24 (0, 0)) ∧ U.heap[b]? = some (.cells #[.int .i64 5, .int .i64 I, .int .i64 0] 108 (0, 0)) ∧ U.heap.size = w.heap.size + 2 ∧ Below w.heap.size w U :=
    ⟨_, _, ⟨rfl, rfl⟩, by rw [← hV, Below.heap_alloc _ _ _ (by simp)]; exact heap_alloc_new w _, by rw [← hV]; have := heap_alloc_new (w.alloc (.cells #[.int .i64 t, .int .i64 s, .int .u64 K] 24)) (.cells #[.int .i64 5, .int .i64 I, .int .i64 0] 108); simpa using this, by rw [← hV]; simp, by rw [← hV]; (repeat (first | exact Below.refl _ _ | assumption | refine below_new ?_ _ | refine Below.drew ?_ | refine below_drewN ?_ _ | refine below_on ?_ (by assumption)))⟩
  obtain ⟨h1, h2⟩ := hab
  rw [← h1] at *
  rw [← h2] at *
  have HB := Lib.hid hbu
  have s1 := Th.newcell u0 1 _ rfl
  have k0 := Th.newcell u1 0 _ rfl; have k1 := Th.newcell u1 1 _ rfl; have k2 := Th.newcell u1 2 _ rfl
  clear hV u0 u1 us hbu h1 h2
  go_wp2_with fail
  (try go_ret)
  rw [HQ.out]
  exact ⟨rfl, HB.out⟩
set_option maxRecDepth 8000 in
set_option maxHeartbeats 1000000 in
theorem rword_hi2 (t s : Nat) (K : Int) (w : World) {I J : Int} (hi : 5 < I) (hb : I ≤ 250) (hj : ¬ J = 0) :
    Calls Try.prog 56 #[.agg #[.int .i64 t, .int .i64 s, .int .u64 K], .agg #[.int .i64 5, .int .i64 I, .int .i64 J]] w fun e w' => e = .returned (.int .u64 (0)) ∧ Below w.heap.size w w' := by
  refine Calls.veil fun Q HQ => ?_
  go_enter Try.func56, Try.ntmps56
  go_upto_region 1 with fail
  generalize hV : World.alloc _ _ = U
  obtain ⟨a, b, hab, u0, u1, us, hbu⟩ : ∃ a b, (a = w.heap.size ∧ b = w.heap.size + 1) ∧ U.heap[a]? = some (.cells #[.int .i64 t, .int .i64 s, .int .u64 K] 24 (0, 0)) ∧ U.heap[b]? = some (.cells #[.int .i64 5, .int .i64 I, .int .i64 J] 108 (0, 0)) ∧ U.heap.size = w.heap.size + 2 ∧ Below w.heap.size w U :=
    ⟨_, _, ⟨rfl, rfl⟩, by rw [← hV, Below.heap_alloc _ _ _ (by simp)]; exact heap_alloc_new w _, by rw [← hV]; have := heap_alloc_new (w.alloc (.cells #[.int .i64 t, .int .i64 s, .int .u64 K] 24)) (.cells #[.int .i64 5, .int .i64 I, .int .i64 J] 108); simpa using this, by rw [← hV]; simp, by rw [← hV]; (repeat (first | exact Below.refl _ _ | assumption | refine below_new ?_ _ | refine Below.drew ?_ | refine below_drewN ?_ _ | refine below_on ?_ (by assumption)))⟩
  obtain ⟨h1, h2⟩ := hab
  rw [← h1] at *
  rw [← h2] at *
  have HB := Lib.hid hbu
  have s1 := Th.newcell u0 1 _ rfl
  have k0 := Th.newcell u1 0 _ rfl; have k1 := Th.newcell u1 1 _ rfl; have k2 := Th.newcell u1 2 _ rfl
  clear hV u0 u1 us hbu h1 h2
  go_wp2_with fail
  (try go_ret)
  rw [HQ.out]
  exact ⟨rfl, HB.out⟩
set_option maxRecDepth 8000 in
set_option maxHeartbeats 1000000 in
theorem rword_00 (t s : Nat) (K : Int) (w : World) :
    Calls Try.prog 56 #[.agg #[.int .i64 t, .int .i64 s, .int .u64 K], .agg #[.int .i64 0, .int .i64 0, .int .i64 0]] w fun e w' => e = .returned (.int .u64 (1)) ∧ Below w.heap.size w w' := by
  refine Calls.veil fun Q HQ => ?_
  go_enter Try.func56, Try.ntmps56
  go_upto_region 1 with fail
  generalize hV : World.alloc _ _ = U
  obtain ⟨a, b, hab, u0, u1, us, hbu⟩ : ∃ a b, (a = w.heap.size ∧ b = w.heap.size + 1) ∧ U.heap[a]? = some (.cells #[.int .i64 t, .int .i64 s, .int .u64 K] 24 (0, 0)) ∧ U.heap[b]? = some (.cells #[.int .i64 0, .int .i64 0, .int .i64 0] 108 (0, 0)) ∧ U.heap.size = w.heap.size + 2 ∧ Below w.heap.size w U :=
    ⟨_, _, ⟨rfl, rfl⟩, by rw [← hV, Below.heap_alloc _ _ _ (by simp)]; exact heap_alloc_new w _, by rw [← hV]; have := heap_alloc_new (w.alloc (.cells #[.int .i64 t, .int .i64 s, .int .u64 K] 24)) (.cells #[.int .i64 0, .int .i64 0, .int .i64 0] 108); simpa using this, by rw [← hV]; simp, by rw [← hV]; (repeat (first | exact Below.refl _ _ | assumption | refine below_new ?_ _ | refine Below.drew ?_ | refine below_drewN ?_ _ | refine below_on ?_ (by assumption)))⟩
  obtain ⟨h1, h2⟩ := hab
  rw [← h1] at *
  rw [← h2] at *
  have HB := Lib.hid hbu
  have s1 := Th.newcell u0 1 _ rfl
  have k0 := Th.newcell u1 0 _ rfl; have k1 := Th.newcell u1 1 _ rfl; have k2 := Th.newcell u1 2 _ rfl
  clear hV u0 u1 us hbu h1 h2
  go_upto_region 3 with fail
  generalize hW : World.alloc _ _ = W
  obtain ⟨hh, hbw⟩ := Th.heapnewE hW
  have l := Th.newcell hh 0 _ rfl
  have k1 := Ext.use (Ext.cells k1) hbw
  have HBW := Lib.hid (below_on HB.out hbw)
  clear hW hh hbw k0 k2 s1
  go_wp2_with fail
  (try go_ret)
  rw [HQ.out]
  exact ⟨rfl, HBW.out⟩
set_option maxRecDepth 8000 in
set_option maxHeartbeats 1000000 in
theorem rword_01 (t s : Nat) (K : Int) (w : World) :
    Calls Try.prog 56 #[.agg #[.int .i64 t, .int .i64 s, .int .u64 K], .agg #[.int .i64 0, .int .i64 1, .int .i64 0]] w fun e w' => e = .returned (.int .u64 (3)) ∧ Below w.heap.size w w' := by
  refine Calls.veil fun Q HQ => ?_
  go_enter Try.func56, Try.ntmps56
  go_upto_region 1 with fail
  generalize hV : World.alloc _ _ = U
  obtain ⟨a, b, hab, u0, u1, us, hbu⟩ : ∃ a b, (a = w.heap.size ∧ b = w.heap.size + 1) ∧ U.heap[a]? = some (.cells #[.int .i64 t, .int .i64 s, .int .u64 K] 24 (0, 0)) ∧ U.heap[b]? = some (.cells #[.int .i64 0, .int .i64 1, .int .i64 0] 108 (0, 0)) ∧ U.heap.size = w.heap.size + 2 ∧ Below w.heap.size w U :=
    ⟨_, _, ⟨rfl, rfl⟩, by rw [← hV, Below.heap_alloc _ _ _ (by simp)]; exact heap_alloc_new w _, by rw [← hV]; have := heap_alloc_new (w.alloc (.cells #[.int .i64 t, .int .i64 s, .int .u64 K] 24)) (.cells #[.int .i64 0, .int .i64 1, .int .i64 0] 108); simpa using this, by rw [← hV]; simp, by rw [← hV]; (repeat (first | exact Below.refl _ _ | assumption | refine below_new ?_ _ | refine Below.drew ?_ | refine below_drewN ?_ _ | refine below_on ?_ (by assumption)))⟩
  obtain ⟨h1, h2⟩ := hab
  rw [← h1] at *
  rw [← h2] at *
  have HB := Lib.hid hbu
  have s1 := Th.newcell u0 1 _ rfl
  have k0 := Th.newcell u1 0 _ rfl; have k1 := Th.newcell u1 1 _ rfl; have k2 := Th.newcell u1 2 _ rfl
  clear hV u0 u1 us hbu h1 h2
  go_upto_region 3 with fail
  generalize hW : World.alloc _ _ = W
  obtain ⟨hh, hbw⟩ := Th.heapnewE hW
  have l := Th.newcell hh 1 _ rfl
  have k1 := Ext.use (Ext.cells k1) hbw
  have HBW := Lib.hid (below_on HB.out hbw)
  clear hW hh hbw k0 k2 s1
  go_wp2_with fail
  (try go_ret)
  rw [HQ.out]
  exact ⟨rfl, HBW.out⟩
set_option maxRecDepth 8000 in
set_option maxHeartbeats 1000000 in
theorem rword_02 (t s : Nat) (K : Int) (w : World) :
    Calls Try.prog 56 #[.agg #[.int .i64 t, .int .i64 s, .int .u64 K], .agg #[.int .i64 0, .int .i64 2, .int .i64 0]] w fun e w' => e = .returned (.int .u64 (6)) ∧ Below w.heap.size w w' := by
  refine Calls.veil fun Q HQ => ?_
  go_enter Try.func56, Try.ntmps56
  go_upto_region 1 with fail
  generalize hV : World.alloc _ _ = U
  obtain ⟨a, b, hab, u0, u1, us, hbu⟩ : ∃ a b, (a = w.heap.size ∧ b = w.heap.size + 1) ∧ U.heap[a]? = some (.cells #[.int .i64 t, .int .i64 s, .int .u64 K] 24 (0, 0)) ∧ U.heap[b]? = some (.cells #[.int .i64 0, .int .i64 2, .int .i64 0] 108 (0, 0)) ∧ U.heap.size = w.heap.size + 2 ∧ Below w.heap.size w U :=
    ⟨_, _, ⟨rfl, rfl⟩, by rw [← hV, Below.heap_alloc _ _ _ (by simp)]; exact heap_alloc_new w _, by rw [← hV]; have := heap_alloc_new (w.alloc (.cells #[.int .i64 t, .int .i64 s, .int .u64 K] 24)) (.cells #[.int .i64 0, .int .i64 2, .int .i64 0] 108); simpa using this, by rw [← hV]; simp, by rw [← hV]; (repeat (first | exact Below.refl _ _ | assumption | refine below_new ?_ _ | refine Below.drew ?_ | refine below_drewN ?_ _ | refine below_on ?_ (by assumption)))⟩
  obtain ⟨h1, h2⟩ := hab
  rw [← h1] at *
  rw [← h2] at *
  have HB := Lib.hid hbu
  have s1 := Th.newcell u0 1 _ rfl
  have k0 := Th.newcell u1 0 _ rfl; have k1 := Th.newcell u1 1 _ rfl; have k2 := Th.newcell u1 2 _ rfl
  clear hV u0 u1 us hbu h1 h2
  go_upto_region 3 with fail
  generalize hW : World.alloc _ _ = W
  obtain ⟨hh, hbw⟩ := Th.heapnewE hW
  have l := Th.newcell hh 2 _ rfl
  have k1 := Ext.use (Ext.cells k1) hbw
  have HBW := Lib.hid (below_on HB.out hbw)
  clear hW hh hbw k0 k2 s1
  go_wp2_with fail
  (try go_ret)
  rw [HQ.out]
  exact ⟨rfl, HBW.out⟩
set_option maxRecDepth 8000 in
set_option maxHeartbeats 1000000 in
theorem rword_lo (t s : Nat) (K : Int) (w : World) {I J : Int} (hi : ¬ 5 < I) (h2 : ¬ J = 2) (h4 : ¬ J = 4) (h5 : ¬ J = 5) :
    Calls Try.prog 56 #[.agg #[.int .i64 t, .int .i64 s, .int .u64 K], .agg #[.int .i64 5, .int .i64 I, .int .i64 J]] w fun e w' => e = .returned (.int .u64 (0)) ∧ Below w.heap.size w w' := by
  refine Calls.veil fun Q HQ => ?_
  go_enter Try.func56, Try.ntmps56
  go_upto_region 1 with fail
  generalize hV : World.alloc _ _ = U
  obtain ⟨a, b, hab, u0, u1, us, hbu⟩ : ∃ a b, (a = w.heap.size ∧ b = w.heap.size + 1) ∧ U.heap[a]? = some (.cells #[.int .i64 t, .int .i64 s, .int .u64 K] 24 (0, 0)) ∧ U.heap[b]? = some (.cells #[.int .i64 5, .int .i64 I, .int .i64 J] 108 (0, 0)) ∧ U.heap.size = w.heap.size + 2 ∧ Below w.heap.size w U :=
    ⟨_, _, ⟨rfl, rfl⟩, by rw [← hV, Below.heap_alloc _ _ _ (by simp)]; exact heap_alloc_new w _, by rw [← hV]; have := heap_alloc_new (w.alloc (.cells #[.int .i64 t, .int .i64 s, .int .u64 K] 24)) (.cells #[.int .i64 5, .int .i64 I, .int .i64 J] 108); simpa using this, by rw [← hV]; simp, by rw [← hV]; (repeat (first | exact Below.refl _ _ | assumption | refine below_new ?_ _ | refine Below.drew ?_ | refine below_drewN ?_ _ | refine below_on ?_ (by assumption)))⟩
  obtain ⟨h1, h2⟩ := hab
  rw [← h1] at *
  rw [← h2] at *
  have HB := Lib.hid hbu
  have s1 := Th.newcell u0 1 _ rfl
  have k0 := Th.newcell u1 0 _ rfl; have k1 := Th.newcell u1 1 _ rfl; have k2 := Th.newcell u1 2 _ rfl
  clear hV u0 u1 us hbu h1 h2
  go_upto_region 13 with fail
  generalize hW : World.alloc _ _ = W
  obtain ⟨q0, q1, q2, hbw⟩ := heap3c hW
  have k1 := Ext.use (Ext.cells k1) hbw; have k2 := Ext.use (Ext.cells k2) hbw
  have HBW := Lib.hid (below_on HB.out hbw)
  clear hW q0 q1 q2 hbw k0 s1
  go_wp2_with fail
  (try go_ret)
  rw [HQ.out]
  exact ⟨rfl, HBW.out⟩
set_option maxRecDepth 8000 in
set_option maxHeartbeats 1000000 in
theorem rword_41 (t s : Nat) (K : Int) (w : World) :
    Calls Try.prog 56 #[.agg #[.int .i64 t, .int .i64 s, .int .u64 K], .agg #[.int .i64 5, .int .i64 1, .int .i64 4]] w fun e w' => e = .returned (.int .u64 (2)) ∧ Below w.heap.size w w' := by
  refine Calls.veil fun Q HQ => ?_
  go_enter Try.func56, Try.ntmps56
  go_upto_region 1 with fail
  generalize hV : World.alloc _ _ = U
  obtain ⟨a, b, hab, u0, u1, us, hbu⟩ : ∃ a b, (a = w.heap.size ∧ b = w.heap.size + 1) ∧ U.heap[a]? = some (.cells #[.int .i64 t, .int .i64 s, .int .u64 K] 24 (0, 0)) ∧ U.heap[b]? = some (.cells #[.int .i64 5, .int .i64 1, .int .i64 4] 108 (0, 0)) ∧ U.heap.size = w.heap.size + 2 ∧ Below w.heap.size w U :=
    ⟨_, _, ⟨rfl, rfl⟩, by rw [← hV, Below.heap_alloc _ _ _ (by simp)]; exact heap_alloc_new w _, by rw [← hV]; have := heap_alloc_new (w.alloc (.cells #[.int .i64 t, .int .i64 s, .int .u64 K] 24)) (.cells #[.int .i64 5, .int .i64 1, .int .i64 4] 108); simpa using this, by rw [← hV]; simp, by rw [← hV]; (repeat (first | exact Below.refl _ _ | assumption | refine below_new ?_ _ | refine Below.drew ?_ | refine below_drewN ?_ _ | refine below_on ?_ (by assumption)))⟩
  obtain ⟨h1, h2⟩ := hab
  rw [← h1] at *
  rw [← h2] at *
  have HB := Lib.hid hbu
  have s1 := Th.newcell u0 1 _ rfl
  have k0 := Th.newcell u1 0 _ rfl; have k1 := Th.newcell u1 1 _ rfl; have k2 := Th.newcell u1 2 _ rfl
  clear hV u0 u1 us hbu h1 h2
  go_upto_region 13 with fail
  generalize hW : World.alloc _ _ = W
  obtain ⟨q0, q1, q2, hbw⟩ := heap3c hW
  have k1 := Ext.use (Ext.cells k1) hbw; have k2 := Ext.use (Ext.cells k2) hbw
  have HBW := Lib.hid (below_on HB.out hbw)
  have l := Th.newcell q1 0 _ rfl
  clear hW q0 q1 q2 hbw k0 s1
  go_wp2_with fail
  (try go_ret)
  rw [HQ.out]
  exact ⟨rfl, HBW.out⟩
set_option maxRecDepth 8000 in
set_option maxHeartbeats 1000000 in
theorem rword_51 (t s : Nat) (K : Int) (w : World) :
    Calls Try.prog 56 #[.agg #[.int .i64 t, .int .i64 s, .int .u64 K], .agg #[.int .i64 5, .int .i64 1, .int .i64 5]] w fun e w' => e = .returned (.int .u64 (5)) ∧ Below w.heap.size w w' := by
  refine Calls.veil fun Q HQ => ?_
  go_enter Try.func56, Try.ntmps56
  go_upto_region 1 with fail
  generalize hV : World.alloc _ _ = U
  obtain ⟨a, b, hab, u0, u1, us, hbu⟩ : ∃ a b, (a = w.heap.size ∧ b = w.heap.size + 1) ∧ U.heap[a]? = some (.cells #[.int .i64 t, .int .i64 s, .int .u64 K] 24 (0, 0)) ∧ U.heap[b]? = some (.cells #[.int .i64 5, .int .i64 1, .int .i64 5] 108 (0, 0)) ∧ U.heap.size = w.heap.size + 2 ∧ Below w.heap.size w U :=
    ⟨_, _, ⟨rfl, rfl⟩, by rw [← hV, Below.heap_alloc _ _ _ (by simp)]; exact heap_alloc_new w _, by rw [← hV]; have := heap_alloc_new (w.alloc (.cells #[.int .i64 t, .int .i64 s, .int .u64 K] 24)) (.cells #[.int .i64 5, .int .i64 1, .int .i64 5] 108); simpa using this, by rw [← hV]; simp, by rw [← hV]; (repeat (first | exact Below.refl _ _ | assumption | refine below_new ?_ _ | refine Below.drew ?_ | refine below_drewN ?_ _ | refine below_on ?_ (by assumption)))⟩
  obtain ⟨h1, h2⟩ := hab
  rw [← h1] at *
  rw [← h2] at *
  have HB := Lib.hid hbu
  have s1 := Th.newcell u0 1 _ rfl
  have k0 := Th.newcell u1 0 _ rfl; have k1 := Th.newcell u1 1 _ rfl; have k2 := Th.newcell u1 2 _ rfl
  clear hV u0 u1 us hbu h1 h2
  go_upto_region 13 with fail
  generalize hW : World.alloc _ _ = W
  obtain ⟨q0, q1, q2, hbw⟩ := heap3c hW
  have k1 := Ext.use (Ext.cells k1) hbw; have k2 := Ext.use (Ext.cells k2) hbw
  have HBW := Lib.hid (below_on HB.out hbw)
  have l := Th.newcell q2 0 _ rfl
  clear hW q0 q1 q2 hbw k0 s1
  go_wp2_with fail
  (try go_ret)
  rw [HQ.out]
  exact ⟨rfl, HBW.out⟩
set_option maxRecDepth 8000 in
set_option maxHeartbeats 1000000 in
theorem rword_42 (t s : Nat) (K : Int) (w : World) :
    Calls Try.prog 56 #[.agg #[.int .i64 t, .int .i64 s, .int .u64 K], .agg #[.int .i64 5, .int .i64 2, .int .i64 4]] w fun e w' => e = .returned (.int .u64 (3)) ∧ Below w.heap.size w w' := by
  refine Calls.veil fun Q HQ => ?_
  go_enter Try.func56, Try.ntmps56
  go_upto_region 1 with fail
  generalize hV : World.alloc _ _ = U
  obtain ⟨a, b, hab, u0, u1, us, hbu⟩ : ∃ a b, (a = w.heap.size ∧ b = w.heap.size + 1) ∧ U.heap[a]? = some (.cells #[.int .i64 t, .int .i64 s, .int .u64 K] 24 (0, 0)) ∧ U.heap[b]? = some (.cells #[.int .i64 5, .int .i64 2, .int .i64 4] 108 (0, 0)) ∧ U.heap.size = w.heap.size + 2 ∧ Below w.heap.size w U :=
    ⟨_, _, ⟨rfl, rfl⟩, by rw [← hV, Below.heap_alloc _ _ _ (by simp)]; exact heap_alloc_new w _, by rw [← hV]; have := heap_alloc_new (w.alloc (.cells #[.int .i64 t, .int .i64 s, .int .u64 K] 24)) (.cells #[.int .i64 5, .int .i64 2, .int .i64 4] 108); simpa using this, by rw [← hV]; simp, by rw [← hV]; (repeat (first | exact Below.refl _ _ | assumption | refine below_new ?_ _ | refine Below.drew ?_ | refine below_drewN ?_ _ | refine below_on ?_ (by assumption)))⟩
  obtain ⟨h1, h2⟩ := hab
  rw [← h1] at *
  rw [← h2] at *
  have HB := Lib.hid hbu
  have s1 := Th.newcell u0 1 _ rfl
  have k0 := Th.newcell u1 0 _ rfl; have k1 := Th.newcell u1 1 _ rfl; have k2 := Th.newcell u1 2 _ rfl
  clear hV u0 u1 us hbu h1 h2
  go_upto_region 13 with fail
  generalize hW : World.alloc _ _ = W
  obtain ⟨q0, q1, q2, hbw⟩ := heap3c hW
  have k1 := Ext.use (Ext.cells k1) hbw; have k2 := Ext.use (Ext.cells k2) hbw
  have HBW := Lib.hid (below_on HB.out hbw)
  have l := Th.newcell q1 1 _ rfl
  clear hW q0 q1 q2 hbw k0 s1
  go_wp2_with fail
  (try go_ret)
  rw [HQ.out]
  exact ⟨rfl, HBW.out⟩
set_option maxRecDepth 8000 in
set_option maxHeartbeats 1000000 in
theorem rword_52 (t s : Nat) (K : Int) (w : World) :
    Calls Try.prog 56 #[.agg #[.int .i64 t, .int .i64 s, .int .u64 K], .agg #[.int .i64 5, .int .i64 2, .int .i64 5]] w fun e w' => e = .returned (.int .u64 (4)) ∧ Below w.heap.size w w' := by
  refine Calls.veil fun Q HQ => ?_
  go_enter Try.func56, Try.ntmps56
  go_upto_region 1 with fail
  generalize hV : World.alloc _ _ = U
  obtain ⟨a, b, hab, u0, u1, us, hbu⟩ : ∃ a b, (a = w.heap.size ∧ b = w.heap.size + 1) ∧ U.heap[a]? = some (.cells #[.int .i64 t, .int .i64 s, .int .u64 K] 24 (0, 0)) ∧ U.heap[b]? = some (.cells #[.int .i64 5, .int .i64 2, .int .i64 5] 108 (0, 0)) ∧ U.heap.size = w.heap.size + 2 ∧ Below w.heap.size w U :=
    ⟨_, _, ⟨rfl, rfl⟩, by rw [← hV, Below.heap_alloc _ _ _ (by simp)]; exact heap_alloc_new w _, by rw [← hV]; have := heap_alloc_new (w.alloc (.cells #[.int .i64 t, .int .i64 s, .int .u64 K] 24)) (.cells #[.int .i64 5, .int .i64 2, .int .i64 5] 108); simpa using this, by rw [← hV]; simp, by rw [← hV]; (repeat (first | exact Below.refl _ _ | assumption | refine below_new ?_ _ | refine Below.drew ?_ | refine below_drewN ?_ _ | refine below_on ?_ (by assumption)))⟩
  obtain ⟨h1, h2⟩ := hab
  rw [← h1] at *
  rw [← h2] at *
  have HB := Lib.hid hbu
  have s1 := Th.newcell u0 1 _ rfl
  have k0 := Th.newcell u1 0 _ rfl; have k1 := Th.newcell u1 1 _ rfl; have k2 := Th.newcell u1 2 _ rfl
  clear hV u0 u1 us hbu h1 h2
  go_upto_region 13 with fail
  generalize hW : World.alloc _ _ = W
  obtain ⟨q0, q1, q2, hbw⟩ := heap3c hW
  have k1 := Ext.use (Ext.cells k1) hbw; have k2 := Ext.use (Ext.cells k2) hbw
  have HBW := Lib.hid (below_on HB.out hbw)
  have l := Th.newcell q2 1 _ rfl
  clear hW q0 q1 q2 hbw k0 s1
  go_wp2_with fail
  (try go_ret)
  rw [HQ.out]
  exact ⟨rfl, HBW.out⟩
set_option maxRecDepth 8000 in
set_option maxHeartbeats 1000000 in
theorem rword_43 (t s : Nat) (K : Int) (w : World) :
    Calls Try.prog 56 #[.agg #[.int .i64 t, .int .i64 s, .int .u64 K], .agg #[.int .i64 5, .int .i64 3, .int .i64 4]] w fun e w' => e = .returned (.int .u64 (0)) ∧ Below w.heap.size w w' := by
  refine Calls.veil fun Q HQ => ?_
  go_enter Try.func56, Try.ntmps56
  go_upto_region 1 with fail
  generalize hV : World.alloc _ _ = U
  obtain ⟨a, b, hab, u0, u1, us, hbu⟩ : ∃ a b, (a = w.heap.size ∧ b = w.heap.size + 1) ∧ U.heap[a]? = some (.cells #[.int .i64 t, .int .i64 s, .int .u64 K] 24 (0, 0)) ∧ U.heap[b]? = some (.cells #[.int .i64 5, .int .i64 3, .int .i64 4] 108 (0, 0)) ∧ U.heap.size = w.heap.size + 2 ∧ Below w.heap.size w U :=
    ⟨_, _, ⟨rfl, rfl⟩, by rw [← hV, Below.heap_alloc _ _ _ (by simp)]; exact heap_alloc_new w _, by rw [← hV]; have := heap_alloc_new (w.alloc (.cells #[.int .i64 t, .int .i64 s, .int .u64 K] 24)) (.cells #[.int .i64 5, .int .i64 3, .int .i64 4] 108); simpa using this, by rw [← hV]; simp, by rw [← hV]; (repeat (first | exact Below.refl _ _ | assumption | refine below_new ?_ _ | refine Below.drew ?_ | refine below_drewN ?_ _ | refine below_on ?_ (by assumption)))⟩
  obtain ⟨h1, h2⟩ := hab
  rw [← h1] at *
  rw [← h2] at *
  have HB := Lib.hid hbu
  have s1 := Th.newcell u0 1 _ rfl
  have k0 := Th.newcell u1 0 _ rfl; have k1 := Th.newcell u1 1 _ rfl; have k2 := Th.newcell u1 2 _ rfl
  clear hV u0 u1 us hbu h1 h2
  go_upto_region 13 with fail
  generalize hW : World.alloc _ _ = W
  obtain ⟨q0, q1, q2, hbw⟩ := heap3c hW
  have k1 := Ext.use (Ext.cells k1) hbw; have k2 := Ext.use (Ext.cells k2) hbw
  have HBW := Lib.hid (below_on HB.out hbw)
  have l := Th.newcell q1 2 _ rfl
  clear hW q0 q1 q2 hbw k0 s1
  go_wp2_with fail
  (try go_ret)
  rw [HQ.out]
  exact ⟨rfl, HBW.out⟩
set_option maxRecDepth 8000 in
set_option maxHeartbeats 1000000 in
theorem rword_53 (t s : Nat) (K : Int) (w : World) :
    Calls Try.prog 56 #[.agg #[.int .i64 t, .int .i64 s, .int .u64 K], .agg #[.int .i64 5, .int .i64 3, .int .i64 5]] w fun e w' => e = .returned (.int .u64 (0)) ∧ Below w.heap.size w w' := by
  refine Calls.veil fun Q HQ => ?_
  go_enter Try.func56, Try.ntmps56
  go_upto_region 1 with fail
  generalize hV : World.alloc _ _ = U
  obtain ⟨a, b, hab, u0, u1, us, hbu⟩ : ∃ a b, (a = w.heap.size ∧ b = w.heap.size + 1) ∧ U.heap[a]? = some (.cells #[.int .i64 t, .int .i64 s, .int .u64 K] 24 (0, 0)) ∧ U.heap[b]? = some (.cells #[.int .i64 5, .int .i64 3, .int .i64 5] 108 (0, 0)) ∧ U.heap.size = w.heap.size + 2 ∧ Below w.heap.size w U :=
    ⟨_, _, ⟨rfl, rfl⟩, by rw [← hV, Below.heap_alloc _ _ _ (by simp)]; exact heap_alloc_new w _, by rw [← hV]; have := heap_alloc_new (w.alloc (.cells #[.int .i64 t, .int .i64 s, .int .u64 K] 24)) (.cells #[.int .i64 5, .int .i64 3, .int .i64 5] 108); simpa using this, by rw [← hV]; simp, by rw [← hV]; (repeat (first | exact Below.refl _ _ | assumption | refine below_new ?_ _ | refine Below.drew ?_ | refine below_drewN ?_ _ | refine below_on ?_ (by assumption)))⟩
  obtain ⟨h1, h2⟩ := hab
  rw [← h1] at *
  rw [← h2] at *
  have HB := Lib.hid hbu
  have s1 := Th.newcell u0 1 _ rfl
  have k0 := Th.newcell u1 0 _ rfl; have k1 := Th.newcell u1 1 _ rfl; have k2 := Th.newcell u1 2 _ rfl
  clear hV u0 u1 us hbu h1 h2
  go_upto_region 13 with fail
  generalize hW : World.alloc _ _ = W
  obtain ⟨q0, q1, q2, hbw⟩ := heap3c hW
  have k1 := Ext.use (Ext.cells k1) hbw; have k2 := Ext.use (Ext.cells k2) hbw
  have HBW := Lib.hid (below_on HB.out hbw)
  have l := Th.newcell q2 2 _ rfl
  clear hW q0 q1 q2 hbw k0 s1
  go_wp2_with fail
  (try go_ret)
  rw [HQ.out]
  exact ⟨rfl, HBW.out⟩
set_option maxRecDepth 8000 in
set_option maxHeartbeats 1000000 in
theorem rword_44 (t s : Nat) (K : Int) (w : World) :
    Calls Try.prog 56 #[.agg #[.int .i64 t, .int .i64 s, .int .u64 K], .agg #[.int .i64 5, .int .i64 4, .int .i64 4]] w fun e w' => e = .returned (.int .u64 (0)) ∧ Below w.heap.size w w' := by
  refine Calls.veil fun Q HQ => ?_
  go_enter Try.func56, Try.ntmps56
  go_upto_region 1 with fail
  generalize hV : World.alloc _ _ = U
  obtain ⟨a, b, hab, u0, u1, us, hbu⟩ : ∃ a b, (a = w.heap.size ∧ b = w.heap.size + 1) ∧ U.heap[a]? = some (.cells #[.int .i64 t, .int .i64 s, .int .u64 K] 24 (0, 0)) ∧ U.heap[b]? = some (.cells #[.int .i64 5, .int .i64 4, .int .i64 4] 108 (0, 0)) ∧ U.heap.size = w.heap.size + 2 ∧ Below w.heap.size w U :=
    ⟨_, _, ⟨rfl, rfl⟩, by rw [← hV, Below.heap_alloc _ _ _ (by simp)]; exact heap_alloc_new w _, by rw [← hV]; have := heap_alloc_new (w.alloc (.cells #[.int .i64 t, .int .i64 s, .int .u64 K] 24)) (.cells #[.int .i64 5, .int .i64 4, .int .i64 4] 108); simpa using this, by rw [← hV]; simp, by rw [← hV]; (repeat (first | exact Below.refl _ _ | assumption | refine below_new ?_ _ | refine Below.drew ?_ | refine below_drewN ?_ _ | refine below_on ?_ (by assumption)))⟩
  obtain ⟨h1, h2⟩ := hab
  rw [← h1] at *
  rw [← h2] at *
  have HB := Lib.hid hbu
  have s1 := Th.newcell u0 1 _ rfl
  have k0 := Th.newcell u1 0 _ rfl; have k1 := Th.newcell u1 1 _ rfl; have k2 := Th.newcell u1 2 _ rfl
  clear hV u0 u1 us hbu h1 h2
  go_upto_region 13 with fail
  generalize hW : World.alloc _ _ = W
  obtain ⟨q0, q1, q2, hbw⟩ := heap3c hW
  have k1 := Ext.use (Ext.cells k1) hbw; have k2 := Ext.use (Ext.cells k2) hbw
  have HBW := Lib.hid (below_on HB.out hbw)
  have l := Th.newcell q1 3 _ rfl
  clear hW q0 q1 q2 hbw k0 s1
  go_wp2_with fail
  (try go_ret)
  rw [HQ.out]
  exact ⟨rfl, HBW.out⟩
set_option maxRecDepth 8000 in
set_option maxHeartbeats 1000000 in
theorem rword_54 (t s : Nat) (K : Int) (w : World) :
    Calls Try.prog 56 #[.agg #[.int .i64 t, .int .i64 s, .int .u64 K], .agg #[.int .i64 5, .int .i64 4, .int .i64 5]] w fun e w' => e = .returned (.int .u64 (0)) ∧ Below w.heap.size w w' := by
  refine Calls.veil fun Q HQ => ?_
  go_enter Try.func56, Try.ntmps56
  go_upto_region 1 with fail
  generalize hV : World.alloc _ _ = U
  obtain ⟨a, b, hab, u0, u1, us, hbu⟩ : ∃ a b, (a = w.heap.size ∧ b = w.heap.size + 1) ∧ U.heap[a]? = some (.cells #[.int .i64 t, .int .i64 s, .int .u64 K] 24 (0, 0)) ∧ U.heap[b]? = some (.cells #[.int .i64 5, .int .i64 4, .int .i64 5] 108 (0, 0)) ∧ U.heap.size = w.heap.size + 2 ∧ Below w.heap.size w U :=
    ⟨_, _, ⟨rfl, rfl⟩, by rw [← hV, Below.heap_alloc _ _ _ (by simp)]; exact heap_alloc_new w _, by rw [← hV]; have := heap_alloc_new (w.alloc (.cells #[.int .i64 t, .int .i64 s, .int .u64 K] 24)) (.cells #[.int .i64 5, .int .i64 4, .int .i64 5] 108); simpa using this, by rw [← hV]; simp, by rw [← hV]; (repeat (first | exact Below.refl _ _ | assumption | refine below_new ?_ _ | refine Below.drew ?_ | refine below_drewN ?_ _ | refine below_on ?_ (by assumption)))⟩
  obtain ⟨h1, h2⟩ := hab
  rw [← h1] at *
  rw [← h2] at *
  have HB := Lib.hid hbu
  have s1 := Th.newcell u0 1 _ rfl
  have k0 := Th.newcell u1 0 _ rfl; have k1 := Th.newcell u1 1 _ rfl; have k2 := Th.newcell u1 2 _ rfl
  clear hV u0 u1 us hbu h1 h2
  go_upto_region 13 with fail
  generalize hW : World.alloc _ _ = W
  obtain ⟨q0, q1, q2, hbw⟩ := heap3c hW
  have k1 := Ext.use (Ext.cells k1) hbw; have k2 := Ext.use (Ext.cells k2) hbw
  have HBW := Lib.hid (below_on HB.out hbw)
  have l := Th.newcell q2 3 _ rfl
  clear hW q0 q1 q2 hbw k0 s1
  go_wp2_with fail
  (try go_ret)
  rw [HQ.out]
  exact ⟨rfl, HBW.out⟩
set_option maxRecDepth 8000 in
set_option maxHeartbeats 1000000 in
theorem rword_45 (t s : Nat) (K : Int) (w : World) :
    Calls Try.prog 56 #[.agg #[.int .i64 t, .int .i64 s, .int .u64 K], .agg #[.int .i64 5, .int .i64 5, .int .i64 4]] w fun e w' => e = .returned (.int .u64 (0)) ∧ Below w.heap.size w w' := by
  refine Calls.veil fun Q HQ => ?_
  go_enter Try.func56, Try.ntmps56
  go_upto_region 1 with fail
  generalize hV : World.alloc _ _ = U
  obtain ⟨a, b, hab, u0, u1, us, hbu⟩ : ∃ a b, (a = w.heap.size ∧ b = w.heap.size + 1) ∧ U.heap[a]? = some (.cells #[.int .i64 t, .int .i64 s, .int .u64 K] 24 (0, 0)) ∧ U.heap[b]? = some (.cells #[.int .i64 5, .int .i64 5, .int .i64 4] 108 (0, 0)) ∧ U.heap.size = w.heap.size + 2 ∧ Below w.heap.size w U :=
    ⟨_, _, ⟨rfl, rfl⟩, by rw [← hV, Below.heap_alloc _ _ _ (by simp)]; exact heap_alloc_new w _, by rw [← hV]; have := heap_alloc_new (w.alloc (.cells #[.int .i64 t, .int .i64 s, .int .u64 K] 24)) (.cells #[.int .i64 5, .int .i64 5, .int .i64 4] 108); simpa using this, by rw [← hV]; simp, by rw [← hV]; (repeat (first | exact Below.refl _ _ | assumption | refine below_new ?_ _ | refine Below.drew ?_ | refine below_drewN ?_ _ | refine below_on ?_ (by assumption)))⟩
  obtain ⟨h1, h2⟩ := hab
  rw [← h1] at *
  rw [← h2] at *
  have HB := Lib.hid hbu
  have s1 := Th.newcell u0 1 _ rfl
  have k0 := Th.newcell u1 0 _ rfl; have k1 := Th.newcell u1 1 _ rfl; have k2 := Th.newcell u1 2 _ rfl
  clear hV u0 u1 us hbu h1 h2
  go_upto_region 13 with fail
  generalize hW : World.alloc _ _ = W
  obtain ⟨q0, q1, q2, hbw⟩ := heap3c hW
  have k1 := Ext.use (Ext.cells k1) hbw; have k2 := Ext.use (Ext.cells k2) hbw
  have HBW := Lib.hid (below_on HB.out hbw)
  have l := Th.newcell q1 4 _ rfl
  clear hW q0 q1 q2 hbw k0 s1
  go_wp2_with fail
  (try go_ret)
  rw [HQ.out]
  exact ⟨rfl, HBW.out⟩
set_option maxRecDepth 8000 in
set_option maxHeartbeats 1000000 in
theorem rword_55 (t s : Nat) (K : Int) (w : World) :
    Calls Try.prog 56 #[.agg #[.int .i64 t, .int .i64 s, .int .u64 K], .agg #[.int .i64 5, .int .i64 5, .int .i64 5]] w fun e w' => e = .returned (.int .u64 (0)) ∧ Below w.heap.size w w' := by
  refine Calls.veil fun Q HQ => ?_
  go_enter Try.func56, Try.ntmps56
  go_upto_region 1 with fail
  generalize hV : World.alloc _ _ = U
  obtain ⟨a, b, hab, u0, u1, us, hbu⟩ : ∃ a b, (a = w.heap.size ∧ b = w.heap.size + 1) ∧ U.heap[a]? = some (.cells #[.int .i64 t, .int .i64 s, .int .u64 K] 24 (0, 0)) ∧ U.heap[b]? = some (.cells #[.int .i64 5, .int .i64 5, .int .i64 5] 108 (0, 0)) ∧ U.heap.size = w.heap.size + 2 ∧ Below w.heap.size w U :=
    ⟨_, _, ⟨rfl, rfl⟩, by rw [← hV, Below.heap_alloc _ _ _ (by simp)]; exact heap_alloc_new w _, by rw [← hV]; have := heap_alloc_new (w.alloc (.cells #[.int .i64 t, .int .i64 s, .int .u64 K] 24)) (.cells #[.int .i64 5, .int .i64 5, .int .i64 5] 108); simpa using this, by rw [← hV]; simp, by rw [← hV]; (repeat (first | exact Below.refl _ _ | assumption | refine below_new ?_ _ | refine Below.drew ?_ | refine below_drewN ?_ _ | refine below_on ?_ (by assumption)))⟩
  obtain ⟨h1, h2⟩ := hab
  rw [← h1] at *
  rw [← h2] at *
  have HB := Lib.hid hbu
  have s1 := Th.newcell u0 1 _ rfl
  have k0 := Th.newcell u1 0 _ rfl; have k1 := Th.newcell u1 1 _ rfl; have k2 := Th.newcell u1 2 _ rfl
  clear hV u0 u1 us hbu h1 h2
  go_upto_region 13 with fail
  generalize hW : World.alloc _ _ = W
  obtain ⟨q0, q1, q2, hbw⟩ := heap3c hW
  have k1 := Ext.use (Ext.cells k1) hbw; have k2 := Ext.use (Ext.cells k2) hbw
  have HBW := Lib.hid (below_on HB.out hbw)
  have l := Th.newcell q2 4 _ rfl
  clear hW q0 q1 q2 hbw k0 s1
  go_wp2_with fail
  (try go_ret)
  rw [HQ.out]
  exact ⟨rfl, HBW.out⟩
set_option maxRecDepth 8000 in
set_option maxHeartbeats 1000000 in
theorem rword_21 (t s : Nat) (K : Int) (w : World) :
    Calls Try.prog 56 #[.agg #[.int .i64 t, .int .i64 s, .int .u64 K], .agg #[.int .i64 5, .int .i64 1, .int .i64 2]] w fun e w' => e = .returned (.int .u64 (infoI false 3)) ∧ Below w.heap.size w w' := by
  refine Calls.veil fun Q HQ => ?_
  go_enter Try.func56, Try.ntmps56
  go_upto_region 1 with fail
  generalize hV : World.alloc _ _ = U
  obtain ⟨a, b, hab, u0, u1, us, hbu⟩ : ∃ a b, (a = w.heap.size ∧ b = w.heap.size + 1) ∧ U.heap[a]? = some (.cells #[.int .i64 t, .int .i64 s, .int .u64 K] 24 (0, 0)) ∧ U.heap[b]? = some (.cells #[.int .i64 5, .int .i64 1, .int .i64 2] 108 (0, 0)) ∧ U.heap.size = w.heap.size + 2 ∧ Below w.heap.size w U :=
    ⟨_, _, ⟨rfl, rfl⟩, by rw [← hV, Below.heap_alloc _ _ _ (by simp)]; exact heap_alloc_new w _, by rw [← hV]; have := heap_alloc_new (w.alloc (.cells #[.int .i64 t, .int .i64 s, .int .u64 K] 24)) (.cells #[.int .i64 5, .int .i64 1, .int .i64 2] 108); simpa using this, by rw [← hV]; simp, by rw [← hV]; (repeat (first | exact Below.refl _ _ | assumption | refine below_new ?_ _ | refine Below.drew ?_ | refine below_drewN ?_ _ | refine below_on ?_ (by assumption)))⟩
  obtain ⟨h1, h2⟩ := hab
  rw [← h1] at *
  rw [← h2] at *
  have HB := Lib.hid hbu
  have s1 := Th.newcell u0 1 _ rfl
  have k0 := Th.newcell u1 0 _ rfl; have k1 := Th.newcell u1 1 _ rfl; have k2 := Th.newcell u1 2 _ rfl
  clear hV u0 u1 us hbu h1 h2
  go_upto_region 13 with fail
  generalize hW : World.alloc _ _ = W
  obtain ⟨q0, q1, q2, hbw⟩ := heap3c hW
  have k1 := Ext.use (Ext.cells k1) hbw; have k2 := Ext.use (Ext.cells k2) hbw
  have HBW := Lib.hid (below_on HB.out hbw)
  have l := Th.newcell q0 0 _ rfl
  clear hW q0 q1 q2 hbw k0 s1
  go_upto_region 15 with fail
  have l := Ext.cells l; have k1 := Ext.cells k1
  (with_reducible refine wp_region_mix (fun w' => ∃ y : Ext W, w' = y.w) ?_ ?_ ?_ ?_; kernel_rfl; kernel_rfl; exact ⟨⟨W.drew, (Below.refl _ _).drew⟩, rfl⟩)
  obtain ⟨y0, hy0⟩ : ∃ y : Ext W, y.w = W.drew := ⟨⟨W.drew, (Below.refl _ _).drew⟩, rfl⟩
  rw [← hy0]
  clear hy0
  repeat (first | ((with_reducible refine mix_plain (by kernel_rfl) ?_); (first | go_big_quiet_skip | (go_big_quiet_want; go_big_quiet_op; go_big_quiet_on)); (with_reducible refine mix_on ?_)) | ((with_reducible refine mix_skip (by kernel_rfl) ?_); go_big_quiet_skip; (with_reducible refine mix_on ?_)))
  ((with_reducible refine wpMix_chain (by kernel_rfl) (by kernel_rfl) (fun K HK => ?_)); go_step)
  refine (rinfo _ _ _ (by omega) (by omega)).mono ?_; rintro _ w2 ⟨rfl, hw2⟩
  rw [← hw2]
  refine HK.out _ _ ⟨y0, rfl⟩ ?_
  clear HK K hw2
  repeat (first | ((with_reducible refine mix_plain (by kernel_rfl) ?_); (first | go_big_quiet_skip | (go_big_quiet_want; go_big_quiet_op; go_big_quiet_on)); (with_reducible refine mix_on ?_)) | ((with_reducible refine mix_skip (by kernel_rfl) ?_); go_big_quiet_skip; (with_reducible refine mix_on ?_)))
  refine wpMix_nil ?_
  clear l k1
  have HBZ := Lib.hid (below_on HBW.out y0.h)
  go_wp2_with fail
  (try go_ret)
  rw [HQ.out]
  exact ⟨rfl, HBZ.out⟩
set_option maxRecDepth 8000 in
set_option maxHeartbeats 1000000 in
theorem rword_22 (t s : Nat) (K : Int) (w : World) :
    Calls Try.prog 56 #[.agg #[.int .i64 t, .int .i64 s, .int .u64 K], .agg #[.int .i64 5, .int .i64 2, .int .i64 2]] w fun e w' => e = .returned (.int .u64 (infoI false 2)) ∧ Below w.heap.size w w' := by
  refine Calls.veil fun Q HQ => ?_
  go_enter Try.func56, Try.ntmps56
  go_upto_region 1 with fail
  generalize hV : World.alloc _ _ = U
  obtain ⟨a, b, hab, u0, u1, us, hbu⟩ : ∃ a b, (a = w.heap.size ∧ b = w.heap.size + 1) ∧ U.heap[a]? = some (.cells #[.int .i64 t, .int .i64 s, .int .u64 K] 24 (0, 0)) ∧ U.heap[b]? = some (.cells #[.int .i64 5, .int .i64 2, .int .i64 2] 108 (0, 0)) ∧ U.heap.size = w.heap.size + 2 ∧ Below w.heap.size w U :=
    ⟨_, _, ⟨rfl, rfl⟩, by rw [← hV, Below.heap_alloc _ _ _ (by simp)]; exact heap_alloc_new w _, by rw [← hV]; have := heap_alloc_new (w.alloc (.cells #[.int .i64 t, .int .i64 s, .int .u64 K] 24)) (.cells #[.int .i64 5, .int .i64 2, .int .i64 2] 108); simpa using this, by rw [← hV]; simp, by rw [← hV]; (repeat (first | exact Below.refl _ _ | assumption | refine below_new ?_ _ | refine Below.drew ?_ | refine below_drewN ?_ _ | refine below_on ?_ (by assumption)))⟩
  obtain ⟨h1, h2⟩ := hab
  rw [← h1] at *
  rw [← h2] at *
  have HB := Lib.hid hbu
  have s1 := Th.newcell u0 1 _ rfl
  have k0 := Th.newcell u1 0 _ rfl; have k1 := Th.newcell u1 1 _ rfl; have k2 := Th.newcell u1 2 _ rfl
  clear hV u0 u1 us hbu h1 h2
  go_upto_region 13 with fail
  generalize hW : World.alloc _ _ = W
  obtain ⟨q0, q1, q2, hbw⟩ := heap3c hW
  have k1 := Ext.use (Ext.cells k1) hbw; have k2 := Ext.use (Ext.cells k2) hbw
  have HBW := Lib.hid (below_on HB.out hbw)
  have l := Th.newcell q0 1 _ rfl
  clear hW q0 q1 q2 hbw k0 s1
  go_upto_region 15 with fail
  have l := Ext.cells l; have k1 := Ext.cells k1
  (with_reducible refine wp_region_mix (fun w' => ∃ y : Ext W, w' = y.w) ?_ ?_ ?_ ?_; kernel_rfl; kernel_rfl; exact ⟨⟨W.drew, (Below.refl _ _).drew⟩, rfl⟩)
  obtain ⟨y0, hy0⟩ : ∃ y : Ext W, y.w = W.drew := ⟨⟨W.drew, (Below.refl _ _).drew⟩, rfl⟩
  rw [← hy0]
  clear hy0
  repeat (first | ((with_reducible refine mix_plain (by kernel_rfl) ?_); (first | go_big_quiet_skip | (go_big_quiet_want; go_big_quiet_op; go_big_quiet_on)); (with_reducible refine mix_on ?_)) | ((with_reducible refine mix_skip (by kernel_rfl) ?_); go_big_quiet_skip; (with_reducible refine mix_on ?_)))
  ((with_reducible refine wpMix_chain (by kernel_rfl) (by kernel_rfl) (fun K HK => ?_)); go_step)
  refine (rinfo _ _ _ (by omega) (by omega)).mono ?_; rintro _ w2 ⟨rfl, hw2⟩
  rw [← hw2]
  refine HK.out _ _ ⟨y0, rfl⟩ ?_
  clear HK K hw2
  repeat (first | ((with_reducible refine mix_plain (by kernel_rfl) ?_); (first | go_big_quiet_skip | (go_big_quiet_want; go_big_quiet_op; go_big_quiet_on)); (with_reducible refine mix_on ?_)) | ((with_reducible refine mix_skip (by kernel_rfl) ?_); go_big_quiet_skip; (with_reducible refine mix_on ?_)))
  refine wpMix_nil ?_
  clear l k1
  have HBZ := Lib.hid (below_on HBW.out y0.h)
  go_wp2_with fail
  (try go_ret)
  rw [HQ.out]
  exact ⟨rfl, HBZ.out⟩
set_option maxRecDepth 8000 in
set_option maxHeartbeats 1000000 in
theorem rword_23 (t s : Nat) (K : Int) (w : World) :
    Calls Try.prog 56 #[.agg #[.int .i64 t, .int .i64 s, .int .u64 K], .agg #[.int .i64 5, .int .i64 3, .int .i64 2]] w fun e w' => e = .returned (.int .u64 (infoI true 1)) ∧ Below w.heap.size w w' := by
  refine Calls.veil fun Q HQ => ?_
  go_enter Try.func56, Try.ntmps56
  go_upto_region 1 with fail
  generalize hV : World.alloc _ _ = U
  obtain ⟨a, b, hab, u0, u1, us, hbu⟩ : ∃ a b, (a = w.heap.size ∧ b = w.heap.size + 1) ∧ U.heap[a]? = some (.cells #[.int .i64 t, .int .i64 s, .int .u64 K] 24 (0, 0)) ∧ U.heap[b]? = some (.cells #[.int .i64 5, .int .i64 3, .int .i64 2] 108 (0, 0)) ∧ U.heap.size = w.heap.size + 2 ∧ Below w.heap.size w U :=
    ⟨_, _, ⟨rfl, rfl⟩, by rw [← hV, Below.heap_alloc _ _ _ (by simp)]; exact heap_alloc_new w _, by rw [← hV]; have := heap_alloc_new (w.alloc (.cells #[.int .i64 t, .int .i64 s, .int .u64 K] 24)) (.cells #[.int .i64 5, .int .i64 3, .int .i64 2] 108); simpa using this, by rw [← hV]; simp, by rw [← hV]; (repeat (first | exact Below.refl _ _ | assumption | refine below_new ?_ _ | refine Below.drew ?_ | refine below_drewN ?_ _ | refine below_on ?_ (by assumption)))⟩
  obtain ⟨h1, h2⟩ := hab
  rw [← h1] at *
  rw [← h2] at *
  have HB := Lib.hid hbu
  have s1 := Th.newcell u0 1 _ rfl
  have k0 := Th.newcell u1 0 _ rfl; have k1 := Th.newcell u1 1 _ rfl; have k2 := Th.newcell u1 2 _ rfl
  clear hV u0 u1 us hbu h1 h2
  go_upto_region 13 with fail
  generalize hW : World.alloc _ _ = W
  obtain ⟨q0, q1, q2, hbw⟩ := heap3c hW
  have k1 := Ext.use (Ext.cells k1) hbw; have k2 := Ext.use (Ext.cells k2) hbw
  have HBW := Lib.hid (below_on HB.out hbw)
  have l := Th.newcell q0 2 _ rfl
  clear hW q0 q1 q2 hbw k0 s1
  go_upto_region 15 with fail
  have l := Ext.cells l; have k1 := Ext.cells k1
  (with_reducible refine wp_region_mix (fun w' => ∃ y : Ext W, w' = y.w) ?_ ?_ ?_ ?_; kernel_rfl; kernel_rfl; exact ⟨⟨W.drew, (Below.refl _ _).drew⟩, rfl⟩)
  obtain ⟨y0, hy0⟩ : ∃ y : Ext W, y.w = W.drew := ⟨⟨W.drew, (Below.refl _ _).drew⟩, rfl⟩
  rw [← hy0]
  clear hy0
  repeat (first | ((with_reducible refine mix_plain (by kernel_rfl) ?_); (first | go_big_quiet_skip | (go_big_quiet_want; go_big_quiet_op; go_big_quiet_on)); (with_reducible refine mix_on ?_)) | ((with_reducible refine mix_skip (by kernel_rfl) ?_); go_big_quiet_skip; (with_reducible refine mix_on ?_)))
  ((with_reducible refine wpMix_chain (by kernel_rfl) (by kernel_rfl) (fun K HK => ?_)); go_step)
  refine (rinfo _ _ _ (by omega) (by omega)).mono ?_; rintro _ w2 ⟨rfl, hw2⟩
  rw [← hw2]
  refine HK.out _ _ ⟨y0, rfl⟩ ?_
  clear HK K hw2
  repeat (first | ((with_reducible refine mix_plain (by kernel_rfl) ?_); (first | go_big_quiet_skip | (go_big_quiet_want; go_big_quiet_op; go_big_quiet_on)); (with_reducible refine mix_on ?_)) | ((with_reducible refine mix_skip (by kernel_rfl) ?_); go_big_quiet_skip; (with_reducible refine mix_on ?_)))
  refine wpMix_nil ?_
  clear l k1
  have HBZ := Lib.hid (below_on HBW.out y0.h)
  go_wp2_with fail
  (try go_ret)
  rw [HQ.out]
  exact ⟨rfl, HBZ.out⟩
set_option maxRecDepth 8000 in
set_option maxHeartbeats 1000000 in
theorem rword_24 (t s : Nat) (K : Int) (w : World) :
    Calls Try.prog 56 #[.agg #[.int .i64 t, .int .i64 s, .int .u64 K], .agg #[.int .i64 5, .int .i64 4, .int .i64 2]] w fun e w' => e = .returned (.int .u64 (infoI true 2)) ∧ Below w.heap.size w w' := by
  refine Calls.veil fun Q HQ => ?_
  go_enter Try.func56, Try.ntmps56
  go_upto_region 1 with fail
  generalize hV : World.alloc _ _ = U
  obtain ⟨a, b, hab, u0, u1, us, hbu⟩ : ∃ a b, (a = w.heap.size ∧ b = w.heap.size + 1) ∧ U.heap[a]? = some (.cells #[.int .i64 t, .int .i64 s, .int .u64 K] 24 (0, 0)) ∧ U.heap[b]? = some (.cells #[.int .i64 5, .int .i64 4, .int .i64 2] 108 (0, 0)) ∧ U.heap.size = w.heap.size + 2 ∧ Below w.heap.size w U :=
    ⟨_, _, ⟨rfl, rfl⟩, by rw [← hV, Below.heap_alloc _ _ _ (by simp)]; exact heap_alloc_new w _, by rw [← hV]; have := heap_alloc_new (w.alloc (.cells #[.int .i64 t, .int .i64 s, .int .u64 K] 24)) (.cells #[.int .i64 5, .int .i64 4, .int .i64 2] 108); simpa using this, by rw [← hV]; simp, by rw [← hV]; (repeat (first | exact Below.refl _ _ | assumption | refine below_new ?_ _ | refine Below.drew ?_ | refine below_drewN ?_ _ | refine below_on ?_ (by assumption)))⟩
  obtain ⟨h1, h2⟩ := hab
  rw [← h1] at *
  rw [← h2] at *
  have HB := Lib.hid hbu
  have s1 := Th.newcell u0 1 _ rfl
  have k0 := Th.newcell u1 0 _ rfl; have k1 := Th.newcell u1 1 _ rfl; have k2 := Th.newcell u1 2 _ rfl
  clear hV u0 u1 us hbu h1 h2
  go_upto_region 13 with fail
  generalize hW : World.alloc _ _ = W
  obtain ⟨q0, q1, q2, hbw⟩ := heap3c hW
  have k1 := Ext.use (Ext.cells k1) hbw; have k2 := Ext.use (Ext.cells k2) hbw
  have HBW := Lib.hid (below_on HB.out hbw)
  have l := Th.newcell q0 3 _ rfl
  clear hW q0 q1 q2 hbw k0 s1
  go_upto_region 15 with fail
  have l := Ext.cells l; have k1 := Ext.cells k1
  (with_reducible refine wp_region_mix (fun w' => ∃ y : Ext W, w' = y.w) ?_ ?_ ?_ ?_; kernel_rfl; kernel_rfl; exact ⟨⟨W.drew, (Below.refl _ _).drew⟩, rfl⟩)
  obtain ⟨y0, hy0⟩ : ∃ y : Ext W, y.w = W.drew := ⟨⟨W.drew, (Below.refl _ _).drew⟩, rfl⟩
  rw [← hy0]
  clear hy0
  repeat (first | ((with_reducible refine mix_plain (by kernel_rfl) ?_); (first | go_big_quiet_skip | (go_big_quiet_want; go_big_quiet_op; go_big_quiet_on)); (with_reducible refine mix_on ?_)) | ((with_reducible refine mix_skip (by kernel_rfl) ?_); go_big_quiet_skip; (with_reducible refine mix_on ?_)))
  ((with_reducible refine wpMix_chain (by kernel_rfl) (by kernel_rfl) (fun K HK => ?_)); go_step)
  refine (rinfo _ _ _ (by omega) (by omega)).mono ?_; rintro _ w2 ⟨rfl, hw2⟩
  rw [← hw2]
  refine HK.out _ _ ⟨y0, rfl⟩ ?_
  clear HK K hw2
  repeat (first | ((with_reducible refine mix_plain (by kernel_rfl) ?_); (first | go_big_quiet_skip | (go_big_quiet_want; go_big_quiet_op; go_big_quiet_on)); (with_reducible refine mix_on ?_)) | ((with_reducible refine mix_skip (by kernel_rfl) ?_); go_big_quiet_skip; (with_reducible refine mix_on ?_)))
  refine wpMix_nil ?_
  clear l k1
  have HBZ := Lib.hid (below_on HBW.out y0.h)
  go_wp2_with fail
  (try go_ret)
  rw [HQ.out]
  exact ⟨rfl, HBZ.out⟩
set_option maxRecDepth 8000 in
set_option maxHeartbeats 1000000 in
theorem rword_25 (t s : Nat) (K : Int) (w : World) :
    Calls Try.prog 56 #[.agg #[.int .i64 t, .int .i64 s, .int .u64 K], .agg #[.int .i64 5, .int .i64 5, .int .i64 2]] w fun e w' => e = .returned (.int .u64 (infoI true 3)) ∧ Below w.heap.size w w' := by
  refine Calls.veil fun Q HQ => ?_
  go_enter Try.func56, Try.ntmps56
  go_upto_region 1 with fail
  generalize hV : World.alloc _ _ = U
  obtain ⟨a, b, hab, u0, u1, us, hbu⟩ : ∃ a b, (a = w.heap.size ∧ b = w.heap.size + 1) ∧ U.heap[a]? = some (.cells #[.int .i64 t, .int .i64 s, .int .u64 K] 24 (0, 0)) ∧ U.heap[b]? = some (.cells #[.int .i64 5, .int .i64 5, .int .i64 2] 108 (0, 0)) ∧ U.heap.size = w.heap.size + 2 ∧ Below w.heap.size w U :=
    ⟨_, _, ⟨rfl, rfl⟩, by rw [← hV, Below.heap_alloc _ _ _ (by simp)]; exact heap_alloc_new w _, by rw [← hV]; have := heap_alloc_new (w.alloc (.cells #[.int .i64 t, .int .i64 s, .int .u64 K] 24)) (.cells #[.int .i64 5, .int .i64 5, .int .i64 2] 108); simpa using this, by rw [← hV]; simp, by rw [← hV]; (repeat (first | exact Below.refl _ _ | assumption | refine below_new ?_ _ | refine Below.drew ?_ | refine below_drewN ?_ _ | refine below_on ?_ (by assumption)))⟩
  obtain ⟨h1, h2⟩ := hab
  rw [← h1] at *
  rw [← h2] at *
  have HB := Lib.hid hbu
  have s1 := Th.newcell u0 1 _ rfl
  have k0 := Th.newcell u1 0 _ rfl; have k1 := Th.newcell u1 1 _ rfl; have k2 := Th.newcell u1 2 _ rfl
  clear hV u0 u1 us hbu h1 h2
  go_upto_region 13 with fail
  generalize hW : World.alloc _ _ = W
  obtain ⟨q0, q1, q2, hbw⟩ := heap3c hW
  have k1 := Ext.use (Ext.cells k1) hbw; have k2 := Ext.use (Ext.cells k2) hbw
  have HBW := Lib.hid (below_on HB.out hbw)
  have l := Th.newcell q0 4 _ rfl
  clear hW q0 q1 q2 hbw k0 s1
  go_upto_region 15 with fail
  have l := Ext.cells l; have k1 := Ext.cells k1
  (with_reducible refine wp_region_mix (fun w' => ∃ y : Ext W, w' = y.w) ?_ ?_ ?_ ?_; kernel_rfl; kernel_rfl; exact ⟨⟨W.drew, (Below.refl _ _).drew⟩, rfl⟩)
  obtain ⟨y0, hy0⟩ : ∃ y : Ext W, y.w = W.drew := ⟨⟨W.drew, (Below.refl _ _).drew⟩, rfl⟩
  rw [← hy0]
  clear hy0
  repeat (first | ((with_reducible refine mix_plain (by kernel_rfl) ?_); (first | go_big_quiet_skip | (go_big_quiet_want; go_big_quiet_op; go_big_quiet_on)); (with_reducible refine mix_on ?_)) | ((with_reducible refine mix_skip (by kernel_rfl) ?_); go_big_quiet_skip; (with_reducible refine mix_on ?_)))
  ((with_reducible refine wpMix_chain (by kernel_rfl) (by kernel_rfl) (fun K HK => ?_)); go_step)
  refine (rinfo _ _ _ (by omega) (by omega)).mono ?_; rintro _ w2 ⟨rfl, hw2⟩
  rw [← hw2]
  refine HK.out _ _ ⟨y0, rfl⟩ ?_
  clear HK K hw2
  repeat (first | ((with_reducible refine mix_plain (by kernel_rfl) ?_); (first | go_big_quiet_skip | (go_big_quiet_want; go_big_quiet_op; go_big_quiet_on)); (with_reducible refine mix_on ?_)) | ((with_reducible refine mix_skip (by kernel_rfl) ?_); go_big_quiet_skip; (with_reducible refine mix_on ?_)))
  refine wpMix_nil ?_
  clear l k1
  have HBZ := Lib.hid (below_on HBW.out y0.h)
  go_wp2_with fail
  (try go_ret)
  rw [HQ.out]
  exact ⟨rfl, HBZ.out⟩
end Go.Proofs.Ytkkdehniheajeaa
