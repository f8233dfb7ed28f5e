/- Layer 14: a call that is read. (By gen_takb.py.) -/
import Derived.Test.YtnikggdnlijkkaaTakA
namespace Go.Proofs.Ytnikggdnlijkkaa
open Go.RowKit WordM
set_option linter.unusedVariables false
set_option linter.unusedSimpArgs false
/-- Of what stood in w only block e may have changed. -/
structure KE (e : Nat) (w w' : World) : Prop where
  os : w'.os = w.os
  tape : w'.tape = w.tape
  output : w'.output = w.output
  size : w.heap.size ≤ w'.heap.size
  block : ∀ k, k < w.heap.size → k ≠ e → w'.heap[k]? = w.heap[k]?
theorem KE.refl (e : Nat) (w : World) : KE e w w := ⟨rfl, rfl, rfl, Nat.le_refl _, fun _ _ _ => rfl⟩
theorem KE.trans {e : Nat} {a b c : World} (h : KE e a b) (k : KE e b c) : KE e a c :=
  ⟨k.os.trans h.os, k.tape.trans h.tape, k.output.trans h.output, Nat.le_trans h.size k.size, fun i hi hn => (k.block i (Nat.lt_of_lt_of_le hi h.size) hn).trans (h.block i hi hn)⟩
theorem KE.below {e : Nat} {a b : World} (h : KE e a b) (he : e ≤ a.heap.size) : Below e a b := ⟨h.os, h.tape, h.output, h.size, fun k hk => h.block k (by omega) (by omega)⟩
theorem KE.of_below {e : Nat} {a b : World} (h : Below a.heap.size a b) : KE e a b := ⟨h.os, h.tape, h.output, h.size, fun k hk _ => h.block k hk⟩
theorem KE.set {e i : Nat} {a b : World} (h : KE e a b) (v : Value) : KE e a (b.setCell ⟨e, i, none⟩ v) :=
  h.trans ⟨rfl, rfl, rfl, by simp [World.setCell], fun k _ hn => heap_setCell_other b ⟨e, i, none⟩ k v hn⟩
theorem KE.new {e b i : Nat} {a w : World} (h : KE e a w) (hb : a.heap.size ≤ b) (v : Value) : KE e a (w.setCell ⟨b, i, none⟩ v) :=
  ⟨h.os, h.tape, h.output, by have := h.size; simp [World.setCell]; exact this, fun k hk hn => (heap_setCell_other w ⟨b, i, none⟩ k v (by show k ≠ b; omega)).trans (h.block k hk hn)⟩
theorem KE.alloc {e : Nat} {a b : World} (h : KE e a b) (o : Obj) : KE e a (b.alloc o) := h.trans (.of_below ((Below.refl _ _).alloc (Nat.le_refl _) _))
/-- Two boxes beside a reader. -/
structure CW (T : TypeId) (W0 w : World) (e b0 b1 : Nat) (lv rv : Value) (A0 A1 : Array Value) (V : World) : Prop where
  eb : EB V e lv rv
  ke : KE e w V
  bl : Below W0.heap.size W0 V
  r0 : V.heap[b0]? = some (.cells A0 T (0, 0))
  r1 : V.heap[b1]? = some (.cells A1 T (0, 0))
  h0 : w.heap.size ≤ b0
  h1 : b0 < b1
  he : e < w.heap.size
  hW : W0.heap.size ≤ e
theorem CW.num {T : TypeId} {W0 w V : World} {e b0 b1 : Nat} {lv rv : Value} {A0 A1 : Array Value} (h : CW T W0 w e b0 b1 lv rv A0 A1 V) (v : Value) : CW T W0 w e b0 b1 v rv A0 A1 (V.setCell ⟨e, 0, none⟩ v) where
  eb := h.eb.set0 v
  ke := h.ke.set v
  bl := h.bl.setCell (p := ⟨e, 0, none⟩) h.hW v
  r0 := (heap_setCell_other V ⟨e, 0, none⟩ b0 v (by have := h.h0; have := h.he; show b0 ≠ e; omega)).trans h.r0
  r1 := (heap_setCell_other V ⟨e, 0, none⟩ b1 v (by have := h.h0; have := h.h1; have := h.he; show b1 ≠ e; omega)).trans h.r1
  h0 := h.h0
  h1 := h.h1
  he := h.he
  hW := h.hW
theorem CW.st {T : TypeId} {W0 w V : World} {e b0 b1 : Nat} {lv rv : Value} {A0 A1 : Array Value} (h : CW T W0 w e b0 b1 lv rv A0 A1 V) (i : Nat) (v : Value) : CW T W0 w e b0 b1 lv rv A0 (A1.setIfInBounds i v) (V.setCell ⟨b1, i, none⟩ v) where
  eb := (heap_setCell_other V ⟨b1, i, none⟩ e v (by have := h.h0; have := h.h1; have := h.he; show e ≠ b1; omega)).trans h.eb
  ke := h.ke.new (by have := h.h0; have := h.h1; omega) v
  bl := h.bl.setCell (p := ⟨b1, i, none⟩) (by have := h.h0; have := h.h1; have := h.he; have := h.hW; show _ ≤ b1; omega) v
  r0 := (heap_setCell_other V ⟨b1, i, none⟩ b0 v (by have := h.h1; show b0 ≠ b1; omega)).trans h.r0
  r1 := heap_setCell_same V b1 i _ _ v h.r1
  h0 := h.h0
  h1 := h.h1
  he := h.he
  hW := h.hW
theorem CW.st0 {T : TypeId} {W0 w V : World} {e b0 b1 : Nat} {lv rv : Value} {A0 A1 : Array Value} (h : CW T W0 w e b0 b1 lv rv A0 A1 V) (i : Nat) (v : Value) : CW T W0 w e b0 b1 lv rv (A0.setIfInBounds i v) A1 (V.setCell ⟨b0, i, none⟩ v) where
  eb := (heap_setCell_other V ⟨b0, i, none⟩ e v (by have := h.h0; have := h.he; show e ≠ b0; omega)).trans h.eb
  ke := h.ke.new h.h0 v
  bl := h.bl.setCell (p := ⟨b0, i, none⟩) (by have := h.h0; have := h.he; have := h.hW; show _ ≤ b0; omega) v
  r0 := heap_setCell_same V b0 i _ _ v h.r0
  r1 := (heap_setCell_other V ⟨b0, i, none⟩ b1 v (by have := h.h1; show b1 ≠ b0; omega)).trans h.r1
  h0 := h.h0
  h1 := h.h1
  he := h.he
  hW := h.hW
theorem CW.c1 {T : TypeId} {W0 w V : World} {e b0 b1 : Nat} {lv rv : Value} {A0 A1 : Array Value} (h : CW T W0 w e b0 b1 lv rv A0 A1 V) (i : Nat) (v : Value) (hv : A1[i]? = some v) : V.cell? ⟨b1, i, none⟩ = some v := by rw [cell_of_row _ _ _ _ _ (0, 0) h.r1]; exact hv
theorem CW.c0 {T : TypeId} {W0 w V : World} {e b0 b1 : Nat} {lv rv : Value} {A0 A1 : Array Value} (h : CW T W0 w e b0 b1 lv rv A0 A1 V) (i : Nat) (v : Value) (hv : A0[i]? = some v) : V.cell? ⟨b0, i, none⟩ = some v := by rw [cell_of_row _ _ _ _ _ (0, 0) h.r0]; exact hv
theorem CW.f1 {T : TypeId} {W0 w V : World} {e b0 b1 : Nat} {lv rv : Value} {A0 A1 : Array Value} (h : CW T W0 w e b0 b1 lv rv A0 A1 V) : ∀ i, V.frozen? ⟨b1, i, none⟩ = false := fun i => frozen_of_row _ _ _ _ _ h.r1
theorem CW.f0 {T : TypeId} {W0 w V : World} {e b0 b1 : Nat} {lv rv : Value} {A0 A1 : Array Value} (h : CW T W0 w e b0 b1 lv rv A0 A1 V) : ∀ i, V.frozen? ⟨b0, i, none⟩ = false := fun i => frozen_of_row _ _ _ _ _ h.r0
/-- The call that stands in 27 bytes. -/
def cOp (D : Nat → Int) : Int := numB D 1
def cKey (D : Nat → Int) : Int := wrap64 (numB (dropD D 1) 8)
def cVal (D : Nat → Int) : Int := wrap64 (numB (dropD D 9) 8)
def cHi (D : Nat → Int) : Int := wrap64 (numB (dropD D 17) 8)
def cLim (D : Nat → Int) : Int := numB (dropD D 25) 2
theorem wrap_sm (x : Int) (h0 : 0 ≤ x) (h1 : x < 9223372036854775808) : wrap64 x = x := by unfold wrap64; omega
theorem wrapi_sm (x : Int) (h0 : 0 ≤ x) (h1 : x < 9223372036854775808) : IntKind.i64.wrap x = x := by simp only [IntKind.wrap_i64]; (try unfold wrap64); omega
theorem BR.next {w : World} {v : Value} {n a b c : Nat} {D : Nat → Int} (h : BR w v (n - a - b) (dropD (dropD D a) b)) (hc : a + b = c) : BR w v (n - c) (dropD D c) := by
  subst hc
  rw [dropD_drop, Nat.sub_sub] at h
  exact h
theorem num_sm {D : Nat → Int} (h : BY D) {m : Nat} (hm : m ≤ 2) : 0 ≤ numB D m ∧ numB D m < 65536 := by
  obtain ⟨a, b⟩ := num_bd h m
  refine ⟨a, Int.lt_of_lt_of_le b ?_⟩
  have : 256 ^ m ≤ 256 ^ 2 := Nat.pow_le_pow_right (by decide) hm
  omega
set_option maxHeartbeats 4000000 in
theorem scall (W0 : World) (D : Nat → Int) (n : Nat) (lv rv : Value) (e : Nat) (w : World) (hL : BR W0 lv n D) (hb : Below W0.heap.size W0 w) (hW : W0.heap.size ≤ e) (he : EB w e lv rv) (hn : 27 ≤ n) (hD : BY D) :
    Calls Try.prog 27 #[.pointer (some ⟨e, 0, none⟩)] w fun E w' => E = .returned (.agg #[.int .i64 (cOp D), .int .i64 (cKey D), .int .i64 (cVal D), .int .i64 (cHi D), .int .i64 (cLim D)]) ∧ ∃ lv', BR W0 lv' (n - 27) (dropD D 27) ∧ EB w' e lv' rv ∧ KE e w w' := by
  refine Calls.veil fun Q HQ => ?_
  have HR := Lib.hid (And.intro (show numB D 1 = cOp D from rfl) (And.intro (show wrap64 (numB (dropD D 1) 8) = cKey D from rfl) (And.intro (show wrap64 (numB (dropD D 9) 8) = cVal D from rfl) (And.intro (show wrap64 (numB (dropD D 17) 8) = cHi D from rfl) (show numB (dropD D 25) 2 = cLim D from rfl)))))
  have HL0 := Lib.hid hL
  have HE0 := Lib.hid (And.intro he (And.intro hb hW))
  have hel := he.lt
  clear hL he hb hW
  go_enter Try.func27, Try.ntmps27
  go_wp2_with fail
  generalize hV0 : World.alloc w _ = V0
  have E0 := Lib.hid (show EB V0 e lv rv ∧ Below W0.heap.size W0 V0 ∧ KE e w V0 ∧ V0.heap[w.heap.size]? = some (.cells #[.int .i64 0, .int .i64 0, .int .i64 0, .int .i64 0, .int .i64 0] 52 (0, 0)) ∧ V0.heap.size = w.heap.size + 1 by
    rw [← hV0]
    exact ⟨(Below.heap_alloc _ _ _ hel).trans HE0.out.1, HE0.out.2.1.alloc (by have := HE0.out.2.1.size; omega) _, (KE.refl _ _).alloc _, heap_alloc_new w _, by simp⟩)
  clear hV0
  refine (snumber W0 D n 1 lv rv e V0 HL0.out E0.out.2.1 E0.out.1 (by omega) (by decide) hD).mono ?_; rintro _ w1 ⟨rfl, l1, hl1, hw1⟩
  have HL1 := Lib.hid hl1
  obtain ⟨x1, x2⟩ := num_sm hD (m := 1) (by decide)
  have xw := wrap_sm (numB D 1) x1 (by omega)
  have xi := wrapi_sm (numB D 1) x1 (by omega)
  generalize numB D 1 = x at *
  have E1 := Lib.hid (show EB w1 e l1 rv ∧ Below W0.heap.size W0 w1 ∧ KE e w w1 ∧ w1.heap[w.heap.size]? = some (.cells #[.int .i64 0, .int .i64 0, .int .i64 0, .int .i64 0, .int .i64 0] 52 (0, 0)) ∧ w1.heap.size = w.heap.size + 1 by
    rw [hw1]
    exact ⟨E0.out.1.set0 _, E0.out.2.1.setCell (p := ⟨e, 0, none⟩) HE0.out.2.2 _, E0.out.2.2.1.set _, (heap_setCell_other V0 ⟨e, 0, none⟩ w.heap.size l1 (by show w.heap.size ≠ e; omega)).trans E0.out.2.2.2.1, by rw [← E0.out.2.2.2.2]; simp [World.setCell]⟩)
  clear hw1 hl1
  have hw1s := E1.out.2.2.2.2
  go_wp2_with fail
  generalize hV1 : World.alloc w1 _ = V1
  have C := (show CW 52 W0 w e w.heap.size (w.heap.size + 1) l1 rv #[.int .i64 0, .int .i64 0, .int .i64 0, .int .i64 0, .int .i64 0] #[.int .i64 x, .int .i64 0, .int .i64 0, .int .i64 0, .int .i64 0] V1 by
    rw [← hV1]
    exact ⟨(Below.heap_alloc _ _ _ (by omega)).trans E1.out.1, E1.out.2.2.1.alloc _, E1.out.2.1.alloc (by have := E1.out.2.1.size; exact this) _, (Below.heap_alloc _ _ _ (by omega)).trans E1.out.2.2.2.1, by rw [← hw1s]; exact heap_alloc_new w1 _, Nat.le_refl _, by omega, hel, HE0.out.2.2⟩)
  clear hV1 E0 E1
  refine (snumber W0 (dropD D 1) (n - 1) 8 l1 rv e V1 HL1.out C.bl C.eb (by omega) (by decide) (hD.drop _)).mono ?_; rintro _ w2 ⟨rfl, l2, hl2, hw2⟩
  have HL2 : Hid (BR W0 l2 (n - 9) (dropD D 9)) := Lib.hid (hl2.next rfl)
  have C1 := C.num l2
  rw [← hw2] at C1
  clear hw2 hl2
  obtain ⟨z1, z2⟩ := num_max (hD.drop 1) (m := 8) (by decide)
  generalize numB (dropD D 1) 8 = y1 at *
  go_wp2_with fail
  refine (signed_calls y1 w2).mono ?_; rintro _ _ ⟨rfl, rfl⟩
  have d := C1.c1 1 _ rfl
  have f := C1.f1 1
  go_wp2_with fail
  generalize hU : World.setCell w2 _ _ = U2
  have C1' := C1.st 1 (.int .i64 (wrap64 y1))
  rw [hU] at C1'
  clear hU d f z1 z2 C
  refine (snumber W0 (dropD D 9) (n - 9) 8 l2 rv e U2 HL2.out C1'.bl C1'.eb (by omega) (by decide) (hD.drop _)).mono ?_; rintro _ w3 ⟨rfl, l3, hl3, hw3⟩
  have HL3 : Hid (BR W0 l3 (n - 17) (dropD D 17)) := Lib.hid (hl3.next rfl)
  have C2 := C1'.num l3
  rw [← hw3] at C2
  clear hw3 hl3
  obtain ⟨z1, z2⟩ := num_max (hD.drop 9) (m := 8) (by decide)
  generalize numB (dropD D 9) 8 = y2 at *
  go_wp2_with fail
  refine (signed_calls y2 w3).mono ?_; rintro _ _ ⟨rfl, rfl⟩
  have d := C2.c1 2 _ rfl
  have f := C2.f1 2
  go_wp2_with fail
  generalize hU : World.setCell w3 _ _ = U3
  have C2' := C2.st 2 (.int .i64 (wrap64 y2))
  rw [hU] at C2'
  clear hU d f z1 z2 C1'
  refine (snumber W0 (dropD D 17) (n - 17) 8 l3 rv e U3 HL3.out C2'.bl C2'.eb (by omega) (by decide) (hD.drop _)).mono ?_; rintro _ w4 ⟨rfl, l4, hl4, hw4⟩
  have HL4 : Hid (BR W0 l4 (n - 25) (dropD D 25)) := Lib.hid (hl4.next rfl)
  have C3 := C2'.num l4
  rw [← hw4] at C3
  clear hw4 hl4
  obtain ⟨z1, z2⟩ := num_max (hD.drop 17) (m := 8) (by decide)
  generalize numB (dropD D 17) 8 = y3 at *
  go_wp2_with fail
  refine (signed_calls y3 w4).mono ?_; rintro _ _ ⟨rfl, rfl⟩
  have d := C3.c1 3 _ rfl
  have f := C3.f1 3
  go_wp2_with fail
  generalize hU : World.setCell w4 _ _ = U4
  have C3' := C3.st 3 (.int .i64 (wrap64 y3))
  rw [hU] at C3'
  clear hU d f z1 z2 C2'
  refine (snumber W0 (dropD D 25) (n - 25) 2 l4 rv e U4 HL4.out C3'.bl C3'.eb (by omega) (by decide) (hD.drop _)).mono ?_; rintro _ w5 ⟨rfl, l5, hl5, hw5⟩
  have HL5 : Hid (BR W0 l5 (n - 27) (dropD D 27)) := Lib.hid (hl5.next rfl)
  have C4 := C3'.num l5
  rw [← hw5] at C4
  clear hw5 hl5
  obtain ⟨z1, z2⟩ := num_sm (hD.drop 25) (m := 2) (by decide)
  have zw := wrap_sm (numB (dropD D 25) 2) z1 (by omega)
  have zi := wrapi_sm (numB (dropD D 25) 2) z1 (by omega)
  generalize numB (dropD D 25) 2 = y4 at *
  have d0 := C4.c1 0 _ rfl
  have d1 := C4.c1 1 _ rfl
  have d2 := C4.c1 2 _ rfl
  have d3 := C4.c1 3 _ rfl
  have d4 := C4.c1 4 _ rfl
  have f := C4.f1
  have g0 := C4.c0 0 _ rfl
  have g1 := C4.c0 1 _ rfl
  have g2 := C4.c0 2 _ rfl
  have g3 := C4.c0 3 _ rfl
  have g4 := C4.c0 4 _ rfl
  have f0 := C4.f0
  have hne : ¬ e = w.heap.size + 1 := by omega
  go_wp2_with fail
  refine bodyPost_ret (v := .agg #[.int .i64 x, .int .i64 (wrap64 y1), .int .i64 (wrap64 y2), .int .i64 (wrap64 y3), .int .i64 y4]) (by simp [results, Try.results27, go_sem, d0, d1, d2, d3, d4, g0, g1, g2, g3, g4]) rfl ?_
  rw [HQ.out, ← HR.out.1, ← HR.out.2.1, ← HR.out.2.2.1, ← HR.out.2.2.2.1, ← HR.out.2.2.2.2]
  have CF := (((((C4.st 4 (.int .i64 y4)).st0 0 (.int .i64 x)).st0 1 (.int .i64 (wrap64 y1))).st0 2 (.int .i64 (wrap64 y2))).st0 3 (.int .i64 (wrap64 y3))).st0 4 (.int .i64 y4)
  exact ⟨rfl, _, HL5.out, CF.eb, CF.ke⟩
set_option maxHeartbeats 4000000 in
theorem scall_no0 (W0 : World) (D : Nat → Int) (n : Nat) (lv rv : Value) (e : Nat) (w : World) (hL : BR W0 lv n D) (hb : Below W0.heap.size W0 w) (hW : W0.heap.size ≤ e) (he : EB w e lv rv) (hn : 0 ≤ n) (hn2 : n < 1) (hD : BY D) :
    Calls Try.prog 27 #[.pointer (some ⟨e, 0, none⟩)] w fun E w' => E = .panicked [{ v := .iface 41 (.agg #[]), recovered := false }] ∧ KE e w w' := by
  refine Calls.veil fun Q HQ => ?_
  have HL0 := Lib.hid hL
  have HE0 := Lib.hid (And.intro he (And.intro hb hW))
  have hel := he.lt
  clear hL he hb hW
  go_enter Try.func27, Try.ntmps27
  go_wp2_with fail
  generalize hV0 : World.alloc w _ = V0
  have E0 := Lib.hid (show EB V0 e lv rv ∧ Below W0.heap.size W0 V0 ∧ KE e w V0 ∧ V0.heap[w.heap.size]? = some (.cells #[.int .i64 0, .int .i64 0, .int .i64 0, .int .i64 0, .int .i64 0] 52 (0, 0)) ∧ V0.heap.size = w.heap.size + 1 by
    rw [← hV0]
    exact ⟨(Below.heap_alloc _ _ _ hel).trans HE0.out.1, HE0.out.2.1.alloc (by have := HE0.out.2.1.size; omega) _, (KE.refl _ _).alloc _, heap_alloc_new w _, by simp⟩)
  clear hV0
  refine (snumber_no W0 D n 1 lv rv e V0 HL0.out E0.out.1 (by omega)).mono ?_; rintro _ _ ⟨rfl, rfl⟩
  go_wp2_with fail
  rw [HQ.out]
  exact ⟨rfl, rfl, E0.out.2.2.1⟩
set_option maxHeartbeats 4000000 in
theorem scall_no1 (W0 : World) (D : Nat → Int) (n : Nat) (lv rv : Value) (e : Nat) (w : World) (hL : BR W0 lv n D) (hb : Below W0.heap.size W0 w) (hW : W0.heap.size ≤ e) (he : EB w e lv rv) (hn : 1 ≤ n) (hn2 : n < 9) (hD : BY D) :
    Calls Try.prog 27 #[.pointer (some ⟨e, 0, none⟩)] w fun E w' => E = .panicked [{ v := .iface 41 (.agg #[]), recovered := false }] ∧ KE e w w' := by
  refine Calls.veil fun Q HQ => ?_
  have HL0 := Lib.hid hL
  have HE0 := Lib.hid (And.intro he (And.intro hb hW))
  have hel := he.lt
  clear hL he hb hW
  go_enter Try.func27, Try.ntmps27
  go_wp2_with fail
  generalize hV0 : World.alloc w _ = V0
  have E0 := Lib.hid (show EB V0 e lv rv ∧ Below W0.heap.size W0 V0 ∧ KE e w V0 ∧ V0.heap[w.heap.size]? = some (.cells #[.int .i64 0, .int .i64 0, .int .i64 0, .int .i64 0, .int .i64 0] 52 (0, 0)) ∧ V0.heap.size = w.heap.size + 1 by
    rw [← hV0]
    exact ⟨(Below.heap_alloc _ _ _ hel).trans HE0.out.1, HE0.out.2.1.alloc (by have := HE0.out.2.1.size; omega) _, (KE.refl _ _).alloc _, heap_alloc_new w _, by simp⟩)
  clear hV0
  refine (snumber W0 D n 1 lv rv e V0 HL0.out E0.out.2.1 E0.out.1 (by omega) (by decide) hD).mono ?_; rintro _ w1 ⟨rfl, l1, hl1, hw1⟩
  have HL1 := Lib.hid hl1
  obtain ⟨x1, x2⟩ := num_sm hD (m := 1) (by decide)
  have xw := wrap_sm (numB D 1) x1 (by omega)
  have xi := wrapi_sm (numB D 1) x1 (by omega)
  generalize numB D 1 = x at *
  have E1 := Lib.hid (show EB w1 e l1 rv ∧ Below W0.heap.size W0 w1 ∧ KE e w w1 ∧ w1.heap[w.heap.size]? = some (.cells #[.int .i64 0, .int .i64 0, .int .i64 0, .int .i64 0, .int .i64 0] 52 (0, 0)) ∧ w1.heap.size = w.heap.size + 1 by
    rw [hw1]
    exact ⟨E0.out.1.set0 _, E0.out.2.1.setCell (p := ⟨e, 0, none⟩) HE0.out.2.2 _, E0.out.2.2.1.set _, (heap_setCell_other V0 ⟨e, 0, none⟩ w.heap.size l1 (by show w.heap.size ≠ e; omega)).trans E0.out.2.2.2.1, by rw [← E0.out.2.2.2.2]; simp [World.setCell]⟩)
  clear hw1 hl1
  have hw1s := E1.out.2.2.2.2
  go_wp2_with fail
  generalize hV1 : World.alloc w1 _ = V1
  have C := (show CW 52 W0 w e w.heap.size (w.heap.size + 1) l1 rv #[.int .i64 0, .int .i64 0, .int .i64 0, .int .i64 0, .int .i64 0] #[.int .i64 x, .int .i64 0, .int .i64 0, .int .i64 0, .int .i64 0] V1 by
    rw [← hV1]
    exact ⟨(Below.heap_alloc _ _ _ (by omega)).trans E1.out.1, E1.out.2.2.1.alloc _, E1.out.2.1.alloc (by have := E1.out.2.1.size; exact this) _, (Below.heap_alloc _ _ _ (by omega)).trans E1.out.2.2.2.1, by rw [← hw1s]; exact heap_alloc_new w1 _, Nat.le_refl _, by omega, hel, HE0.out.2.2⟩)
  clear hV1 E0 E1
  refine (snumber_no W0 (dropD D 1) (n - 1) 8 l1 rv e V1 HL1.out C.eb (by omega)).mono ?_; rintro _ _ ⟨rfl, rfl⟩
  go_wp2_with fail
  rw [HQ.out]
  exact ⟨rfl, rfl, C.ke⟩
set_option maxHeartbeats 4000000 in
theorem scall_no2 (W0 : World) (D : Nat → Int) (n : Nat) (lv rv : Value) (e : Nat) (w : World) (hL : BR W0 lv n D) (hb : Below W0.heap.size W0 w) (hW : W0.heap.size ≤ e) (he : EB w e lv rv) (hn : 9 ≤ n) (hn2 : n < 17) (hD : BY D) :
    Calls Try.prog 27 #[.pointer (some ⟨e, 0, none⟩)] w fun E w' => E = .panicked [{ v := .iface 41 (.agg #[]), recovered := false }] ∧ KE e w w' := by
  refine Calls.veil fun Q HQ => ?_
  have HL0 := Lib.hid hL
  have HE0 := Lib.hid (And.intro he (And.intro hb hW))
  have hel := he.lt
  clear hL he hb hW
  go_enter Try.func27, Try.ntmps27
  go_wp2_with fail
  generalize hV0 : World.alloc w _ = V0
  have E0 := Lib.hid (show EB V0 e lv rv ∧ Below W0.heap.size W0 V0 ∧ KE e w V0 ∧ V0.heap[w.heap.size]? = some (.cells #[.int .i64 0, .int .i64 0, .int .i64 0, .int .i64 0, .int .i64 0] 52 (0, 0)) ∧ V0.heap.size = w.heap.size + 1 by
    rw [← hV0]
    exact ⟨(Below.heap_alloc _ _ _ hel).trans HE0.out.1, HE0.out.2.1.alloc (by have := HE0.out.2.1.size; omega) _, (KE.refl _ _).alloc _, heap_alloc_new w _, by simp⟩)
  clear hV0
  refine (snumber W0 D n 1 lv rv e V0 HL0.out E0.out.2.1 E0.out.1 (by omega) (by decide) hD).mono ?_; rintro _ w1 ⟨rfl, l1, hl1, hw1⟩
  have HL1 := Lib.hid hl1
  obtain ⟨x1, x2⟩ := num_sm hD (m := 1) (by decide)
  have xw := wrap_sm (numB D 1) x1 (by omega)
  have xi := wrapi_sm (numB D 1) x1 (by omega)
  generalize numB D 1 = x at *
  have E1 := Lib.hid (show EB w1 e l1 rv ∧ Below W0.heap.size W0 w1 ∧ KE e w w1 ∧ w1.heap[w.heap.size]? = some (.cells #[.int .i64 0, .int .i64 0, .int .i64 0, .int .i64 0, .int .i64 0] 52 (0, 0)) ∧ w1.heap.size = w.heap.size + 1 by
    rw [hw1]
    exact ⟨E0.out.1.set0 _, E0.out.2.1.setCell (p := ⟨e, 0, none⟩) HE0.out.2.2 _, E0.out.2.2.1.set _, (heap_setCell_other V0 ⟨e, 0, none⟩ w.heap.size l1 (by show w.heap.size ≠ e; omega)).trans E0.out.2.2.2.1, by rw [← E0.out.2.2.2.2]; simp [World.setCell]⟩)
  clear hw1 hl1
  have hw1s := E1.out.2.2.2.2
  go_wp2_with fail
  generalize hV1 : World.alloc w1 _ = V1
  have C := (show CW 52 W0 w e w.heap.size (w.heap.size + 1) l1 rv #[.int .i64 0, .int .i64 0, .int .i64 0, .int .i64 0, .int .i64 0] #[.int .i64 x, .int .i64 0, .int .i64 0, .int .i64 0, .int .i64 0] V1 by
    rw [← hV1]
    exact ⟨(Below.heap_alloc _ _ _ (by omega)).trans E1.out.1, E1.out.2.2.1.alloc _, E1.out.2.1.alloc (by have := E1.out.2.1.size; exact this) _, (Below.heap_alloc _ _ _ (by omega)).trans E1.out.2.2.2.1, by rw [← hw1s]; exact heap_alloc_new w1 _, Nat.le_refl _, by omega, hel, HE0.out.2.2⟩)
  clear hV1 E0 E1
  refine (snumber W0 (dropD D 1) (n - 1) 8 l1 rv e V1 HL1.out C.bl C.eb (by omega) (by decide) (hD.drop _)).mono ?_; rintro _ w2 ⟨rfl, l2, hl2, hw2⟩
  have HL2 : Hid (BR W0 l2 (n - 9) (dropD D 9)) := Lib.hid (hl2.next rfl)
  have C1 := C.num l2
  rw [← hw2] at C1
  clear hw2 hl2
  obtain ⟨z1, z2⟩ := num_max (hD.drop 1) (m := 8) (by decide)
  generalize numB (dropD D 1) 8 = y1 at *
  go_wp2_with fail
  refine (signed_calls y1 w2).mono ?_; rintro _ _ ⟨rfl, rfl⟩
  have d := C1.c1 1 _ rfl
  have f := C1.f1 1
  go_wp2_with fail
  generalize hU : World.setCell w2 _ _ = U2
  have C1' := C1.st 1 (.int .i64 (wrap64 y1))
  rw [hU] at C1'
  clear hU d f z1 z2 C
  refine (snumber_no W0 (dropD D 9) (n - 9) 8 l2 rv e U2 HL2.out C1'.eb (by omega)).mono ?_; rintro _ _ ⟨rfl, rfl⟩
  go_wp2_with fail
  rw [HQ.out]
  exact ⟨rfl, rfl, C1'.ke⟩
set_option maxHeartbeats 4000000 in
theorem scall_no3 (W0 : World) (D : Nat → Int) (n : Nat) (lv rv : Value) (e : Nat) (w : World) (hL : BR W0 lv n D) (hb : Below W0.heap.size W0 w) (hW : W0.heap.size ≤ e) (he : EB w e lv rv) (hn : 17 ≤ n) (hn2 : n < 25) (hD : BY D) :
    Calls Try.prog 27 #[.pointer (some ⟨e, 0, none⟩)] w fun E w' => E = .panicked [{ v := .iface 41 (.agg #[]), recovered := false }] ∧ KE e w w' := by
  refine Calls.veil fun Q HQ => ?_
  have HL0 := Lib.hid hL
  have HE0 := Lib.hid (And.intro he (And.intro hb hW))
  have hel := he.lt
  clear hL he hb hW
  go_enter Try.func27, Try.ntmps27
  go_wp2_with fail
  generalize hV0 : World.alloc w _ = V0
  have E0 := Lib.hid (show EB V0 e lv rv ∧ Below W0.heap.size W0 V0 ∧ KE e w V0 ∧ V0.heap[w.heap.size]? = some (.cells #[.int .i64 0, .int .i64 0, .int .i64 0, .int .i64 0, .int .i64 0] 52 (0, 0)) ∧ V0.heap.size = w.heap.size + 1 by
    rw [← hV0]
    exact ⟨(Below.heap_alloc _ _ _ hel).trans HE0.out.1, HE0.out.2.1.alloc (by have := HE0.out.2.1.size; omega) _, (KE.refl _ _).alloc _, heap_alloc_new w _, by simp⟩)
  clear hV0
  refine (snumber W0 D n 1 lv rv e V0 HL0.out E0.out.2.1 E0.out.1 (by omega) (by decide) hD).mono ?_; rintro _ w1 ⟨rfl, l1, hl1, hw1⟩
  have HL1 := Lib.hid hl1
  obtain ⟨x1, x2⟩ := num_sm hD (m := 1) (by decide)
  have xw := wrap_sm (numB D 1) x1 (by omega)
  have xi := wrapi_sm (numB D 1) x1 (by omega)
  generalize numB D 1 = x at *
  have E1 := Lib.hid (show EB w1 e l1 rv ∧ Below W0.heap.size W0 w1 ∧ KE e w w1 ∧ w1.heap[w.heap.size]? = some (.cells #[.int .i64 0, .int .i64 0, .int .i64 0, .int .i64 0, .int .i64 0] 52 (0, 0)) ∧ w1.heap.size = w.heap.size + 1 by
    rw [hw1]
    exact ⟨E0.out.1.set0 _, E0.out.2.1.setCell (p := ⟨e, 0, none⟩) HE0.out.2.2 _, E0.out.2.2.1.set _, (heap_setCell_other V0 ⟨e, 0, none⟩ w.heap.size l1 (by show w.heap.size ≠ e; omega)).trans E0.out.2.2.2.1, by rw [← E0.out.2.2.2.2]; simp [World.setCell]⟩)
  clear hw1 hl1
  have hw1s := E1.out.2.2.2.2
  go_wp2_with fail
  generalize hV1 : World.alloc w1 _ = V1
  have C := (show CW 52 W0 w e w.heap.size (w.heap.size + 1) l1 rv #[.int .i64 0, .int .i64 0, .int .i64 0, .int .i64 0, .int .i64 0] #[.int .i64 x, .int .i64 0, .int .i64 0, .int .i64 0, .int .i64 0] V1 by
    rw [← hV1]
    exact ⟨(Below.heap_alloc _ _ _ (by omega)).trans E1.out.1, E1.out.2.2.1.alloc _, E1.out.2.1.alloc (by have := E1.out.2.1.size; exact this) _, (Below.heap_alloc _ _ _ (by omega)).trans E1.out.2.2.2.1, by rw [← hw1s]; exact heap_alloc_new w1 _, Nat.le_refl _, by omega, hel, HE0.out.2.2⟩)
  clear hV1 E0 E1
  refine (snumber W0 (dropD D 1) (n - 1) 8 l1 rv e V1 HL1.out C.bl C.eb (by omega) (by decide) (hD.drop _)).mono ?_; rintro _ w2 ⟨rfl, l2, hl2, hw2⟩
  have HL2 : Hid (BR W0 l2 (n - 9) (dropD D 9)) := Lib.hid (hl2.next rfl)
  have C1 := C.num l2
  rw [← hw2] at C1
  clear hw2 hl2
  obtain ⟨z1, z2⟩ := num_max (hD.drop 1) (m := 8) (by decide)
  generalize numB (dropD D 1) 8 = y1 at *
  go_wp2_with fail
  refine (signed_calls y1 w2).mono ?_; rintro _ _ ⟨rfl, rfl⟩
  have d := C1.c1 1 _ rfl
  have f := C1.f1 1
  go_wp2_with fail
  generalize hU : World.setCell w2 _ _ = U2
  have C1' := C1.st 1 (.int .i64 (wrap64 y1))
  rw [hU] at C1'
  clear hU d f z1 z2 C
  refine (snumber W0 (dropD D 9) (n - 9) 8 l2 rv e U2 HL2.out C1'.bl C1'.eb (by omega) (by decide) (hD.drop _)).mono ?_; rintro _ w3 ⟨rfl, l3, hl3, hw3⟩
  have HL3 : Hid (BR W0 l3 (n - 17) (dropD D 17)) := Lib.hid (hl3.next rfl)
  have C2 := C1'.num l3
  rw [← hw3] at C2
  clear hw3 hl3
  obtain ⟨z1, z2⟩ := num_max (hD.drop 9) (m := 8) (by decide)
  generalize numB (dropD D 9) 8 = y2 at *
  go_wp2_with fail
  refine (signed_calls y2 w3).mono ?_; rintro _ _ ⟨rfl, rfl⟩
  have d := C2.c1 2 _ rfl
  have f := C2.f1 2
  go_wp2_with fail
  generalize hU : World.setCell w3 _ _ = U3
  have C2' := C2.st 2 (.int .i64 (wrap64 y2))
  rw [hU] at C2'
  clear hU d f z1 z2 C1'
  refine (snumber_no W0 (dropD D 17) (n - 17) 8 l3 rv e U3 HL3.out C2'.eb (by omega)).mono ?_; rintro _ _ ⟨rfl, rfl⟩
  go_wp2_with fail
  rw [HQ.out]
  exact ⟨rfl, rfl, C2'.ke⟩
set_option maxHeartbeats 4000000 in
theorem scall_no4 (W0 : World) (D : Nat → Int) (n : Nat) (lv rv : Value) (e : Nat) (w : World) (hL : BR W0 lv n D) (hb : Below W0.heap.size W0 w) (hW : W0.heap.size ≤ e) (he : EB w e lv rv) (hn : 25 ≤ n) (hn2 : n < 27) (hD : BY D) :
    Calls Try.prog 27 #[.pointer (some ⟨e, 0, none⟩)] w fun E w' => E = .panicked [{ v := .iface 41 (.agg #[]), recovered := false }] ∧ KE e w w' := by
  refine Calls.veil fun Q HQ => ?_
  have HL0 := Lib.hid hL
  have HE0 := Lib.hid (And.intro he (And.intro hb hW))
  have hel := he.lt
  clear hL he hb hW
  go_enter Try.func27, Try.ntmps27
  go_wp2_with fail
  generalize hV0 : World.alloc w _ = V0
  have E0 := Lib.hid (show EB V0 e lv rv ∧ Below W0.heap.size W0 V0 ∧ KE e w V0 ∧ V0.heap[w.heap.size]? = some (.cells #[.int .i64 0, .int .i64 0, .int .i64 0, .int .i64 0, .int .i64 0] 52 (0, 0)) ∧ V0.heap.size = w.heap.size + 1 by
    rw [← hV0]
    exact ⟨(Below.heap_alloc _ _ _ hel).trans HE0.out.1, HE0.out.2.1.alloc (by have := HE0.out.2.1.size; omega) _, (KE.refl _ _).alloc _, heap_alloc_new w _, by simp⟩)
  clear hV0
  refine (snumber W0 D n 1 lv rv e V0 HL0.out E0.out.2.1 E0.out.1 (by omega) (by decide) hD).mono ?_; rintro _ w1 ⟨rfl, l1, hl1, hw1⟩
  have HL1 := Lib.hid hl1
  obtain ⟨x1, x2⟩ := num_sm hD (m := 1) (by decide)
  have xw := wrap_sm (numB D 1) x1 (by omega)
  have xi := wrapi_sm (numB D 1) x1 (by omega)
  generalize numB D 1 = x at *
  have E1 := Lib.hid (show EB w1 e l1 rv ∧ Below W0.heap.size W0 w1 ∧ KE e w w1 ∧ w1.heap[w.heap.size]? = some (.cells #[.int .i64 0, .int .i64 0, .int .i64 0, .int .i64 0, .int .i64 0] 52 (0, 0)) ∧ w1.heap.size = w.heap.size + 1 by
    rw [hw1]
    exact ⟨E0.out.1.set0 _, E0.out.2.1.setCell (p := ⟨e, 0, none⟩) HE0.out.2.2 _, E0.out.2.2.1.set _, (heap_setCell_other V0 ⟨e, 0, none⟩ w.heap.size l1 (by show w.heap.size ≠ e; omega)).trans E0.out.2.2.2.1, by rw [← E0.out.2.2.2.2]; simp [World.setCell]⟩)
  clear hw1 hl1
  have hw1s := E1.out.2.2.2.2
  go_wp2_with fail
  generalize hV1 : World.alloc w1 _ = V1
  have C := (show CW 52 W0 w e w.heap.size (w.heap.size + 1) l1 rv #[.int .i64 0, .int .i64 0, .int .i64 0, .int .i64 0, .int .i64 0] #[.int .i64 x, .int .i64 0, .int .i64 0, .int .i64 0, .int .i64 0] V1 by
    rw [← hV1]
    exact ⟨(Below.heap_alloc _ _ _ (by omega)).trans E1.out.1, E1.out.2.2.1.alloc _, E1.out.2.1.alloc (by have := E1.out.2.1.size; exact this) _, (Below.heap_alloc _ _ _ (by omega)).trans E1.out.2.2.2.1, by rw [← hw1s]; exact heap_alloc_new w1 _, Nat.le_refl _, by omega, hel, HE0.out.2.2⟩)
  clear hV1 E0 E1
  refine (snumber W0 (dropD D 1) (n - 1) 8 l1 rv e V1 HL1.out C.bl C.eb (by omega) (by decide) (hD.drop _)).mono ?_; rintro _ w2 ⟨rfl, l2, hl2, hw2⟩
  have HL2 : Hid (BR W0 l2 (n - 9) (dropD D 9)) := Lib.hid (hl2.next rfl)
  have C1 := C.num l2
  rw [← hw2] at C1
  clear hw2 hl2
  obtain ⟨z1, z2⟩ := num_max (hD.drop 1) (m := 8) (by decide)
  generalize numB (dropD D 1) 8 = y1 at *
  go_wp2_with fail
  refine (signed_calls y1 w2).mono ?_; rintro _ _ ⟨rfl, rfl⟩
  have d := C1.c1 1 _ rfl
  have f := C1.f1 1
  go_wp2_with fail
  generalize hU : World.setCell w2 _ _ = U2
  have C1' := C1.st 1 (.int .i64 (wrap64 y1))
  rw [hU] at C1'
  clear hU d f z1 z2 C
  refine (snumber W0 (dropD D 9) (n - 9) 8 l2 rv e U2 HL2.out C1'.bl C1'.eb (by omega) (by decide) (hD.drop _)).mono ?_; rintro _ w3 ⟨rfl, l3, hl3, hw3⟩
  have HL3 : Hid (BR W0 l3 (n - 17) (dropD D 17)) := Lib.hid (hl3.next rfl)
  have C2 := C1'.num l3
  rw [← hw3] at C2
  clear hw3 hl3
  obtain ⟨z1, z2⟩ := num_max (hD.drop 9) (m := 8) (by decide)
  generalize numB (dropD D 9) 8 = y2 at *
  go_wp2_with fail
  refine (signed_calls y2 w3).mono ?_; rintro _ _ ⟨rfl, rfl⟩
  have d := C2.c1 2 _ rfl
  have f := C2.f1 2
  go_wp2_with fail
  generalize hU : World.setCell w3 _ _ = U3
  have C2' := C2.st 2 (.int .i64 (wrap64 y2))
  rw [hU] at C2'
  clear hU d f z1 z2 C1'
  refine (snumber W0 (dropD D 17) (n - 17) 8 l3 rv e U3 HL3.out C2'.bl C2'.eb (by omega) (by decide) (hD.drop _)).mono ?_; rintro _ w4 ⟨rfl, l4, hl4, hw4⟩
  have HL4 : Hid (BR W0 l4 (n - 25) (dropD D 25)) := Lib.hid (hl4.next rfl)
  have C3 := C2'.num l4
  rw [← hw4] at C3
  clear hw4 hl4
  obtain ⟨z1, z2⟩ := num_max (hD.drop 17) (m := 8) (by decide)
  generalize numB (dropD D 17) 8 = y3 at *
  go_wp2_with fail
  refine (signed_calls y3 w4).mono ?_; rintro _ _ ⟨rfl, rfl⟩
  have d := C3.c1 3 _ rfl
  have f := C3.f1 3
  go_wp2_with fail
  generalize hU : World.setCell w4 _ _ = U4
  have C3' := C3.st 3 (.int .i64 (wrap64 y3))
  rw [hU] at C3'
  clear hU d f z1 z2 C2'
  refine (snumber_no W0 (dropD D 25) (n - 25) 2 l4 rv e U4 HL4.out C3'.eb (by omega)).mono ?_; rintro _ _ ⟨rfl, rfl⟩
  go_wp2_with fail
  rw [HQ.out]
  exact ⟨rfl, rfl, C3'.ke⟩
end Go.Proofs.Ytnikggdnlijkkaa
