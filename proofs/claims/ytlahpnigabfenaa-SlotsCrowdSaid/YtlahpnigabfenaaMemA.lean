/- Layer 6's contracts: a memory lies behind a pointer; its words are a row of its own. -/
import Derived.Test.YtlahpnigabfenaaExt
import Derived.Test.YtlahpnigabfenaaRows
import Derived.ProofKit
import Derived.Outline
import Derived.Lib.Hide
import Derived.Deep.Cut
namespace Go.Proofs.Ytlahpnigabfenaa.Mm
open Go.RowKit
set_option linter.unusedVariables false
set_option linter.unusedSimpArgs false

theorem Calls.veil {P : Program} {f : FuncId} {args : Array Value} {w : World} {R : Ending → World → Prop} (h : ∀ Q : Ending → World → Prop, Hid (Q = R) → Calls P f args w Q) : Calls P f args w R := h R rfl

/-- But for two blocks a world is as it was; there may be new ones. -/
structure Only (b g : Nat) (w w' : World) : Prop where
  os : w'.os = w.os
  tape : w'.tape = w.tape
  output : w'.output = w.output
  size : w.heap.size ≤ w'.heap.size
  block : ∀ k, k < w.heap.size → k ≠ b → k ≠ g → w'.heap[k]? = w.heap[k]?
theorem Only.refl (b g : Nat) (w : World) : Only b g w w := ⟨rfl, rfl, rfl, Nat.le_refl _, fun _ _ _ _ => rfl⟩
theorem Only.trans {b g : Nat} {w w1 w2 : World} (h : Only b g w w1) (k : Only b g w1 w2) : Only b g w w2 :=
  ⟨k.os.trans h.os, k.tape.trans h.tape, k.output.trans h.output, Nat.le_trans h.size k.size, fun i hi h1 h2 => (k.block i (Nat.lt_of_lt_of_le hi h.size) h1 h2).trans (h.block i hi h1 h2)⟩
theorem Only.alloc {b g : Nat} {w w1 : World} (h : Only b g w w1) (o : Obj) : Only b g w (w1.alloc o) :=
  h.trans ⟨rfl, rfl, rfl, by simp, fun k hk _ _ => Below.heap_alloc _ _ _ hk⟩
theorem Only.set1 {b g : Nat} {w w1 : World} (h : Only b g w w1) (i : Nat) (v : Value) : Only b g w (w1.setCell ⟨b, i, none⟩ v) :=
  h.trans ⟨rfl, rfl, rfl, by simp [World.setCell], fun k _ h1 _ => Below.heap_setCell _ _ _ _ h1⟩
theorem Only.set2 {b g : Nat} {w w1 : World} (h : Only b g w w1) (i : Nat) (v : Value) : Only b g w (w1.setCell ⟨g, i, none⟩ v) :=
  h.trans ⟨rfl, rfl, rfl, by simp [World.setCell], fun k _ _ h2 => Below.heap_setCell _ _ _ _ h2⟩
theorem Only.drew {b g : Nat} {w w1 : World} (h : Only b g w w1) : Only b g w w1.drew := h.trans ⟨rfl, rfl, rfl, Nat.le_refl _, fun _ _ _ _ => rfl⟩
theorem Only.of_below {b g : Nat} {w w1 : World} (h : Below w.heap.size w w1) : Only b g w w1 := ⟨h.os, h.tape, h.output, h.size, fun k hk _ _ => h.block k hk⟩
theorem Only.below {b g B : Nat} {w w' : World} (h : Only b g w w') (h1 : B ≤ b) (h2 : B ≤ g) (h3 : B ≤ w.heap.size) : Below B w w' :=
  ⟨h.os, h.tape, h.output, h.size, fun k hk => h.block k (by omega) (by omega) (by omega)⟩
theorem Only.wide {b g : Nat} {w w' : World} (h : Only b b w w') : Only b g w w' := ⟨h.os, h.tape, h.output, h.size, fun k hk h1 _ => h.block k hk h1 h1⟩
theorem Only.cell {b g : Nat} {w w' : World} (h : Only b g w w') {c i : Nat} {v : Value} (hc : w.cell? ⟨c, i, none⟩ = some v) (h1 : c ≠ b) (h2 : c ≠ g) : w'.cell? ⟨c, i, none⟩ = some v :=
  (World.cell?_of_block (w := w) (a := ⟨c, i, none⟩) (h.block c (World.block_lt_of_cell? w ⟨c, i, none⟩ hc) h1 h2)).trans hc

theorem scO {w : World} {a b : Addr} {v u : Value} (k : w.cell? b = some u) (h : a ≠ b) : (w.setCell a v).cell? b = some u := (World.cell?_setCell_other w a b v h).trans k
theorem scS {w : World} {a : Addr} {v u : Value} (h : w.cell? a = some u) : (w.setCell a v).cell? a = some v := World.cell?_setCell_same w a v h
theorem scF {w : World} {a b : Addr} {v : Value} (h : w.frozen? b = false) : (w.setCell a v).frozen? b = false := (World.frozen?_setCell w a b v).trans h
/-- The words, with one of them changed. -/
def upd (f : Nat → Int) (a : Nat) (v : Int) : Nat → Int := fun i => if i = a then v else f i
def okA (n : Nat) (a : Int) : Bool := decide (0 ≤ a ∧ a < n)
theorem okA_true {n : Nat} {a : Int} (h : okA n a = true) : 0 ≤ a ∧ a < n := of_decide_eq_true h
theorem okA_false {n : Nat} {a : Int} (h : okA n a = false) : ¬ (0 ≤ a ∧ a < n) := of_decide_eq_false h

/-- What is loaded. -/
def ldI (n : Nat) (f : Nat → Int) (a : Int) : Int := if okA n a = true then f a.toNat else 0
/-- A memory: its fields in a block, its words in another one. -/
structure MemAt (w : World) (b g n C : Nat) (f : Nat → Int) (acc : Int) (flt : Bool) : Prop where
  h0 : w.cell? ⟨b, 0, none⟩ = some (.slice (some ⟨g, 0, none⟩) n C)
  h1 : w.cell? ⟨b, 1, none⟩ = some (.int .i64 acc)
  h2 : w.cell? ⟨b, 2, none⟩ = some (.bool flt)
  hb : ∀ i, w.frozen? ⟨b, i, none⟩ = false
  row : ∀ i, i < n → w.cell? ⟨g, i, none⟩ = some (.int .u64 (f i))
  hg : ∀ i, w.frozen? ⟨g, i, none⟩ = false
  ne : b ≠ g
  bl : b < w.heap.size
  gl : g < w.heap.size
  nC : n ≤ C
  n1 : 1 ≤ n
  n2 : n ≤ 4096
  cC : C ≤ 9223372036854775807
  rng : ∀ i, i < n → 0 ≤ f i ∧ f i < 18446744073709551616
theorem MemAt.keep {w w' : World} {b g n C : Nat} {f : Nat → Int} {acc : Int} {flt : Bool} (h : MemAt w b g n C f acc flt) (hs : w.heap.size ≤ w'.heap.size) (kb : w'.heap[b]? = w.heap[b]?) (kg : w'.heap[g]? = w.heap[g]?) : MemAt w' b g n C f acc flt where
  h0 := (World.cell?_of_block (w := w) (a := ⟨b, 0, none⟩) kb).trans h.h0
  h1 := (World.cell?_of_block (w := w) (a := ⟨b, 1, none⟩) kb).trans h.h1
  h2 := (World.cell?_of_block (w := w) (a := ⟨b, 2, none⟩) kb).trans h.h2
  hb i := (World.frozen?_of_block (w := w) (a := ⟨b, i, none⟩) kb).trans (h.hb i)
  row i hi := (World.cell?_of_block (w := w) (a := ⟨g, i, none⟩) kg).trans (h.row i hi)
  hg i := (World.frozen?_of_block (w := w) (a := ⟨g, i, none⟩) kg).trans (h.hg i)
  ne := h.ne
  bl := by have := h.bl; omega
  gl := by have := h.gl; omega
  nC := h.nC
  n1 := h.n1
  n2 := h.n2
  cC := h.cC
  rng := h.rng
theorem MemAt.below {w w' : World} {b g n C : Nat} {f : Nat → Int} {acc : Int} {flt : Bool} (h : MemAt w b g n C f acc flt) (k : Below w.heap.size w w') : MemAt w' b g n C f acc flt := h.keep k.size (k.block _ h.bl) (k.block _ h.gl)
theorem MemAt.alloc {w : World} {b g n C : Nat} {f : Nat → Int} {acc : Int} {flt : Bool} (h : MemAt w b g n C f acc flt) (o : Obj) : MemAt (w.alloc o) b g n C f acc flt := h.below (by (repeat (first | exact Below.refl _ _ | assumption | refine below_new ?_ _ | refine Below.drew ?_ | refine below_drewN ?_ _ | refine below_on ?_ (by assumption))))
theorem MemAt.only {w w' : World} {b g b' g' n C : Nat} {f : Nat → Int} {acc : Int} {flt : Bool} (h : MemAt w b g n C f acc flt) (k : Only b' g' w w') (h1 : b ≠ b') (h2 : b ≠ g') (h3 : g ≠ b') (h4 : g ≠ g') : MemAt w' b g n C f acc flt :=
  h.keep k.size (k.block _ h.bl h1 h2) (k.block _ h.gl h3 h4)
theorem MemAt.setAcc {w : World} {b g n C : Nat} {f : Nat → Int} {acc : Int} {flt : Bool} (h : MemAt w b g n C f acc flt) (x : Int) : MemAt (w.setCell ⟨b, 1, none⟩ (.int .i64 x)) b g n C f x flt where
  h0 := scO h.h0 (by simp)
  h1 := scS h.h1
  h2 := scO h.h2 (by simp)
  hb i := scF (h.hb i)
  row i hi := scO (h.row i hi) (by simp [h.ne])
  hg i := scF (h.hg i)
  ne := h.ne
  bl := by simpa [World.setCell] using h.bl
  gl := by simpa [World.setCell] using h.gl
  nC := h.nC
  n1 := h.n1
  n2 := h.n2
  cC := h.cC
  rng := h.rng
theorem MemAt.setFault {w : World} {b g n C : Nat} {f : Nat → Int} {acc : Int} {flt : Bool} (h : MemAt w b g n C f acc flt) : MemAt (w.setCell ⟨b, 2, none⟩ (.bool true)) b g n C f acc true where
  h0 := scO h.h0 (by simp)
  h1 := scO h.h1 (by simp)
  h2 := scS h.h2
  hb i := scF (h.hb i)
  row i hi := scO (h.row i hi) (by simp [h.ne])
  hg i := scF (h.hg i)
  ne := h.ne
  bl := by simpa [World.setCell] using h.bl
  gl := by simpa [World.setCell] using h.gl
  nC := h.nC
  n1 := h.n1
  n2 := h.n2
  cC := h.cC
  rng := h.rng
theorem MemAt.store {w : World} {b g n C : Nat} {f : Nat → Int} {acc : Int} {flt : Bool} (h : MemAt w b g n C f acc flt) {a : Nat} (ha : a < n) {x : Int} (x0 : 0 ≤ x) (x1 : x < 18446744073709551616) : MemAt (w.setCell ⟨g, a, none⟩ (.int .u64 x)) b g n C (upd f a x) acc flt where
  h0 := scO h.h0 (by simp [h.ne.symm])
  h1 := scO h.h1 (by simp [h.ne.symm])
  h2 := scO h.h2 (by simp [h.ne.symm])
  hb i := scF (h.hb i)
  row i hi := by
    unfold upd
    by_cases e : i = a
    · subst e; rw [if_pos rfl]; exact scS (h.row _ hi)
    · rw [if_neg e]; exact scO (h.row i hi) (by simp <;> omega)
  hg i := scF (h.hg i)
  ne := h.ne
  bl := by simpa [World.setCell] using h.bl
  gl := by simpa [World.setCell] using h.gl
  nC := h.nC
  n1 := h.n1
  n2 := h.n2
  cC := h.cC
  rng i hi := by
    unfold upd
    by_cases e : i = a
    · rw [if_pos e]; exact ⟨x0, x1⟩
    · rw [if_neg e]; exact h.rng i hi

set_option maxHeartbeats 1000000 in
theorem mreach1 (b g n C p cp : Nat) (f : Nat → Int) (acc a : Int) (flt : Bool) (w : World) (h : MemAt w b g n C f acc flt) (c0 : 0 ≤ acc) (c1 : acc < 4611686018427387904) (hp : w.cell? ⟨p, 0, none⟩ = some (.int .i64 a)) (hpb : p ≠ b) :
    Calls Try.prog 79 #[.pointer (some ⟨b, 0, none⟩), .slice (some ⟨p, 0, none⟩) 1 cp] w fun e w' => e = .returned (.bool (okA n a)) ∧ MemAt w' b g n C f (acc + 1) (flt || !okA n a) ∧ Only b b w w' := by
  have e0 := h.h0; have e1 := h.h1; have e2 := h.h2; have eb := h.hb
  have nC := h.nC; have cC := h.cC
  have hbp := hpb.symm
  have hM := Lib.hid h; clear h
  cases ha : okA n a
  · rcases (by have := okA_false ha; omega : a < 0 ∨ (0 ≤ a ∧ (n : Int) ≤ a)) with k | ⟨k, k'⟩
    all_goals
      refine Calls.veil fun Q HQ => ?_
      go_enter Try.func79, Try.ntmps79
      go_wp2
      refine wp_loop_rounds 1 ?_
      rw [rounds_succ]
      go_wp2
      (try go_ret)
      rw [HQ.out]
      exact ⟨rfl, by simpa using (hM.out.setAcc (acc + 1)).setFault, ((Only.refl b b w).set1 _ _).set1 _ _⟩
  · obtain ⟨k, k'⟩ := okA_true ha
    refine Calls.veil fun Q HQ => ?_
    go_enter Try.func79, Try.ntmps79
    go_wp2
    refine wp_loop_rounds 2 ?_
    rw [rounds_succ]
    go_wp2
    rw [rounds_succ]
    go_wp2
    (try go_ret)
    rw [HQ.out]
    exact ⟨rfl, by simpa using (hM.out.setAcc (acc + 1)), ((Only.refl b b w).set1 _ _)⟩
set_option maxHeartbeats 1000000 in
theorem mreach2 (b g n C p cp : Nat) (f : Nat → Int) (acc a c : Int) (flt : Bool) (w : World) (h : MemAt w b g n C f acc flt) (c0 : 0 ≤ acc) (c1 : acc < 4611686018427387904) (hp : w.cell? ⟨p, 0, none⟩ = some (.int .i64 a)) (hq : w.cell? ⟨p, 1, none⟩ = some (.int .i64 c)) (hpb : p ≠ b) :
    Calls Try.prog 79 #[.pointer (some ⟨b, 0, none⟩), .slice (some ⟨p, 0, none⟩) 2 cp] w fun e w' => e = .returned (.bool (okA n a && okA n c)) ∧ MemAt w' b g n C f (acc + 1) (flt || !(okA n a && okA n c)) ∧ Only b b w w' := by
  have e0 := h.h0; have e1 := h.h1; have e2 := h.h2; have eb := h.hb
  have nC := h.nC; have cC := h.cC
  have hbp := hpb.symm
  have hM := Lib.hid h; clear h
  cases ha : okA n a
  · rcases (by have := okA_false ha; omega : a < 0 ∨ (0 ≤ a ∧ (n : Int) ≤ a)) with k | ⟨k, k'⟩
    all_goals
      refine Calls.veil fun Q HQ => ?_
      go_enter Try.func79, Try.ntmps79
      go_wp2
      refine wp_loop_rounds 1 ?_
      rw [rounds_succ]
      go_wp2
      (try go_ret)
      rw [HQ.out]
      exact ⟨rfl, by simpa using (hM.out.setAcc (acc + 1)).setFault, ((Only.refl b b w).set1 _ _).set1 _ _⟩
  · obtain ⟨k, k'⟩ := okA_true ha
    cases hc : okA n c
    · rcases (by have := okA_false hc; omega : c < 0 ∨ (0 ≤ c ∧ (n : Int) ≤ c)) with j | ⟨j, j'⟩
      all_goals
        refine Calls.veil fun Q HQ => ?_
        go_enter Try.func79, Try.ntmps79
        go_wp2
        refine wp_loop_rounds 2 ?_
        rw [rounds_succ]
        go_wp2
        rw [rounds_succ]
        go_wp2
        (try go_ret)
        rw [HQ.out]
        exact ⟨rfl, by simpa using (hM.out.setAcc (acc + 1)).setFault, ((Only.refl b b w).set1 _ _).set1 _ _⟩
    · obtain ⟨j, j'⟩ := okA_true hc
      refine Calls.veil fun Q HQ => ?_
      go_enter Try.func79, Try.ntmps79
      go_wp2
      refine wp_loop_rounds 3 ?_
      rw [rounds_succ]
      go_wp2
      rw [rounds_succ]
      go_wp2
      rw [rounds_succ]
      go_wp2
      (try go_ret)
      rw [HQ.out]
      exact ⟨rfl, by simpa using (hM.out.setAcc (acc + 1)), ((Only.refl b b w).set1 _ _)⟩
theorem mreach0 (v : Value) (w : World) : Calls Try.prog 79 #[.pointer none, v] w fun e w' => e = .returned (.bool false) ∧ Below w.heap.size w w' := by
  refine Calls.veil fun Q HQ => ?_
  go_enter Try.func79, Try.ntmps79
  go_wp2
  (try go_ret)
  rw [HQ.out]
  exact ⟨rfl, by (repeat (first | exact Below.refl _ _ | assumption | refine below_new ?_ _ | refine Below.drew ?_ | refine below_drewN ?_ _ | refine below_on ?_ (by assumption)))⟩
theorem mswap (b g n C : Nat) (f : Nat → Int) (acc : Int) (a : Nat) (old x : Int) (flt : Bool) (w : World) (h : MemAt w b g n C f acc flt) (ha : a < n) (x0 : 0 ≤ x) (x1 : x < 18446744073709551616) :
    Calls Try.prog 84 #[.pointer (some ⟨b, 0, none⟩), .int .i64 a, .int .u64 old, .int .u64 x] w fun e w' => e = .returned (.bool (f a == old)) ∧ MemAt w' b g n C (if (f a == old) = true then upd f a x else f) acc flt ∧ Only b g w w' := by
  have e0 := h.h0; have e1 := h.row a ha; have eg := h.hg
  have nC := h.nC; have cC := h.cC; have n2 := h.n2
  have hM := Lib.hid h; clear h
  cases he : f a == old
  · refine Calls.veil fun Q HQ => ?_
    go_enter Try.func84, Try.ntmps84
    go_wp2
    (try go_ret)
    rw [HQ.out]
    exact ⟨rfl, by simpa using hM.out, Only.refl _ _ _⟩
  · refine Calls.veil fun Q HQ => ?_
    go_enter Try.func84, Try.ntmps84
    go_wp2
    (try go_ret)
    rw [HQ.out]
    exact ⟨rfl, by simpa using hM.out.store ha x0 x1, (Only.refl _ _ _).set2 _ _⟩
theorem mload (b g n C : Nat) (f : Nat → Int) (acc a : Int) (flt : Bool) (w : World) (h : MemAt w b g n C f acc flt) (c0 : 0 ≤ acc) (c1 : acc < 4611686018427387904) :
    Calls Try.prog 62 #[.pointer (some ⟨b, 0, none⟩), .int .i64 a] w fun e w' => e = .returned (.int .u64 (ldI n f a)) ∧ MemAt w' b g n C f (acc + 1) (flt || !okA n a) ∧ Only b g w w' := by
  refine Calls.veil fun Q HQ => ?_
  go_enter Try.func62, Try.ntmps62
  go_wp2_with fail
  generalize hW : World.alloc w _ = W
  have hO : Only b g w W := by rw [← hW]; exact (Only.refl _ _ _).alloc _
  have hM : MemAt W b g n C f acc flt := by rw [← hW]; exact h.alloc _
  have hp : W.cell? ⟨w.heap.size, 0, none⟩ = some (.int .i64 a) := Ext.made_in hW (Below.refl _ _) 0 _ rfl
  clear hW
  have hbl := h.bl
  clear h
  refine (mreach1 b g n C _ _ f acc a flt W hM c0 c1 hp (by omega)).mono ?_; rintro _ w1 ⟨rfl, hM1, hO1⟩
  have hO := hO.trans hO1.wide
  clear hM hp hO1
  cases ha : okA n a
  · rw [ha] at hM1
    go_wp2_with fail
    (try go_ret)
    rw [HQ.out]
    exact ⟨by simp [ha, ldI], by simpa [ha] using hM1, hO⟩
  · obtain ⟨k, k'⟩ := okA_true ha
    rw [ha] at hM1
    obtain ⟨a, rfl⟩ := Int.eq_ofNat_of_zero_le k
    have k2 : a < n := by omega
    have e0 := hM1.h0; have e1 := hM1.row a k2
    have nC := hM1.nC; have cC := hM1.cC; have n2 := hM1.n2
    have hM := Lib.hid hM1; clear hM1
    go_wp2_with fail
    (try go_ret)
    rw [HQ.out]
    exact ⟨by simp [ha, ldI], by simpa [ha] using hM.out, hO⟩
theorem mload0 (a : Int) (w : World) : Calls Try.prog 62 #[.pointer none, .int .i64 a] w fun e w' => e = .returned (.int .u64 0) ∧ Below w.heap.size w w' := by
  refine Calls.veil fun Q HQ => ?_
  go_enter Try.func62, Try.ntmps62
  go_wp2_with fail
  generalize hW : World.alloc w _ = W
  have hB : Below w.heap.size w W := by rw [← hW]; (repeat (first | exact Below.refl _ _ | assumption | refine below_new ?_ _ | refine Below.drew ?_ | refine below_drewN ?_ _ | refine below_on ?_ (by assumption)))
  clear hW
  refine (mreach0 _ _).mono ?_; rintro _ w1 ⟨rfl, hb⟩
  go_wp2_with fail
  (try go_ret)
  rw [HQ.out]
  exact ⟨rfl, below_on hB hb⟩
theorem mstore (b g n C : Nat) (f : Nat → Int) (acc a x : Int) (flt : Bool) (w : World) (h : MemAt w b g n C f acc flt) (c0 : 0 ≤ acc) (c1 : acc < 4611686018427387904) (x0 : 0 ≤ x) (x1 : x < 18446744073709551616) :
    Calls Try.prog 69 #[.pointer (some ⟨b, 0, none⟩), .int .i64 a, .int .u64 x] w fun e w' => e = .returned (.tuple #[]) ∧ MemAt w' b g n C (if okA n a = true then upd f a.toNat x else f) (acc + 1) (flt || !okA n a) ∧ Only b g w w' := by
  refine Calls.veil fun Q HQ => ?_
  go_enter Try.func69, Try.ntmps69
  go_wp2_with fail
  generalize hW : World.alloc w _ = W
  have hO : Only b g w W := by rw [← hW]; exact (Only.refl _ _ _).alloc _
  have hM : MemAt W b g n C f acc flt := by rw [← hW]; exact h.alloc _
  have hp : W.cell? ⟨w.heap.size, 0, none⟩ = some (.int .i64 a) := Ext.made_in hW (Below.refl _ _) 0 _ rfl
  clear hW
  have hbl := h.bl
  clear h
  refine (mreach1 b g n C _ _ f acc a flt W hM c0 c1 hp (by omega)).mono ?_; rintro _ w1 ⟨rfl, hM1, hO1⟩
  have hO := hO.trans hO1.wide
  clear hM hp hO1
  cases ha : okA n a
  · rw [ha] at hM1
    go_wp2_with fail
    refine bodyPost_end (v := .tuple #[]) (by simp [results, Try.results69, go_sem]) rfl ?_
    rw [HQ.out]
    exact ⟨rfl, by simpa [ha] using hM1, hO⟩
  · obtain ⟨k, k'⟩ := okA_true ha
    rw [ha] at hM1
    obtain ⟨a, rfl⟩ := Int.eq_ofNat_of_zero_le k
    have k2 : a < n := by omega
    have e0 := hM1.h0; have e1 := hM1.row a k2; have eg := hM1.hg
    have nC := hM1.nC; have cC := hM1.cC; have n2 := hM1.n2
    have hM := Lib.hid hM1; clear hM1
    go_wp2_with fail
    refine bodyPost_end (v := .tuple #[]) (by simp [results, Try.results69, go_sem]) rfl ?_
    rw [HQ.out]
    exact ⟨rfl, by simpa [ha] using hM.out.store k2 x0 x1, hO.set2 _ _⟩
theorem mstore0 (a x : Int) (w : World) : Calls Try.prog 69 #[.pointer none, .int .i64 a, .int .u64 x] w fun e w' => e = .returned (.tuple #[]) ∧ Below w.heap.size w w' := by
  refine Calls.veil fun Q HQ => ?_
  go_enter Try.func69, Try.ntmps69
  go_wp2_with fail
  generalize hW : World.alloc w _ = W
  have hB : Below w.heap.size w W := by rw [← hW]; (repeat (first | exact Below.refl _ _ | assumption | refine below_new ?_ _ | refine Below.drew ?_ | refine below_drewN ?_ _ | refine below_on ?_ (by assumption)))
  clear hW
  refine (mreach0 _ _).mono ?_; rintro _ w1 ⟨rfl, hb⟩
  go_wp2_with fail
  refine bodyPost_end (v := .tuple #[]) (by simp [results, Try.results69, go_sem]) rfl ?_
  rw [HQ.out]
  exact ⟨rfl, below_on hB hb⟩
end Go.Proofs.Ytlahpnigabfenaa.Mm
