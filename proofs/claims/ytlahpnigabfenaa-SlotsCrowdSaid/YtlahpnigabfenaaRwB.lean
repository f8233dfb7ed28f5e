/- RwB: several texts in one. -/
import Derived.Test.YtlahpnigabfenaaRwA
/- Layer 17 and on: a machine and its threads as one. -/
namespace Go.Proofs.Ytlahpnigabfenaa
open Go.RowKit WordM EdgeM
set_option linter.unusedVariables false
set_option linter.unusedSimpArgs false
/-- Where a machine lies. -/
structure Pc where
  B : Nat
  q : Nat
  pl : Nat
  mb : Nat
  mg : Nat
  C : Nat
  gq : Nat
  gg : Nat
  gm : Nat
  fv : Value
  tq : Nat → Nat
  t : Nat
  s : Nat
  K : Int
  N : Nat
/-- What a machine has. -/
structure Sg where
  f : Nat → Int
  acc : Int
  flt : Bool
  H : Nat → Bool
  G : Nat → Int
  sl : Int
  steps : Int
  odd : Bool
  Ts : Nat → Th.Td
structure MM (w : World) (P : Pc) (σ : Sg) : Prop where
  c : MC w P.B P.q P.pl P.mb P.mg P.C P.gq P.gg P.gm P.fv P.tq P.t P.s P.K σ.f σ.acc σ.flt σ.H σ.G σ.sl σ.steps σ.odd
  th : ∃ ps fvs, TF w P.q P.t P.tq σ.Ts ps fvs
  qN : P.q < P.N
  tN : ∀ i, i < P.t → P.tq i < P.N
  NS : P.N ≤ w.heap.size
/-- A block of frames. -/
def MT (w : World) (j : Nat) : Prop := ∃ cur, w.heap[j]? = some (.cells cur 69 (0, 0)) ∨ w.heap[j]? = some (.cells cur 65 (0, 0))
/-- What else there is stays as it is. -/
def KA (B N : Nat) (w w' : World) : Prop := Th.KS (fun j => B ≤ j ∧ (j < N ∨ MT w j)) w w'
theorem KA.trans {B N : Nat} {a b c : World} (h : KA B N a b) (k : KA B N b c) : KA B N a c := by
  refine ⟨k.os.trans h.os, k.tape.trans h.tape, k.output.trans h.output, Nat.le_trans h.size k.size, fun j hj hx => ?_⟩
  have e := h.block j hj hx
  refine (k.block j (Nat.lt_of_lt_of_le hj h.size) fun hy => hx ?_).trans e
  rcases hy with ⟨hb, hy | ⟨cur, hy⟩⟩
  · exact ⟨hb, .inl hy⟩
  · rw [e] at hy; exact ⟨hb, .inr ⟨cur, hy⟩⟩
theorem KA.of_below {B N : Nat} {w w' : World} (h : Below w.heap.size w w') : KA B N w w' := Th.KS.of_below h
theorem KA.below {N : Nat} {w0 w w' : World} (h : Below w0.heap.size w0 w) (k : KA w0.heap.size N w w') : Below w0.heap.size w0 w' :=
  ⟨k.os.trans h.os, k.tape.trans h.tape, k.output.trans h.output, Nat.le_trans h.size k.size, fun j hj => (k.block j (Nat.lt_of_lt_of_le hj h.size) (by omega)).trans (h.block j hj)⟩
theorem KA.refl (B N : Nat) (w : World) : KA B N w w := .of_below (Below.refl _ _)
theorem KA.ks {B N : Nat} {w w' : World} {X : Nat → Prop} (h : Th.KS X w w') (k : ∀ j, X j → B ≤ j ∧ (j < N ∨ MT w j)) : KA B N w w' := h.mono k
/-- A block of another type that stands outside stays. -/
theorem KA.keep {B N : Nat} {w w' : World} (h : KA B N w w') {j : Nat} {cur : Array Value} {T : TypeId} (hj : w.heap[j]? = some (.cells cur T (0, 0))) (ho : j < B ∨ N ≤ j) (h1 : 69 ≠ T) (h2 : 65 ≠ T) : w'.heap[j]? = w.heap[j]? := by
  refine h.block j (Th.blk_lt hj) ?_
  rintro ⟨hb, e | ⟨c, e | e⟩⟩
  · omega
  · exact h1 (by rw [hj] at e; simp only [Option.some.injEq, Obj.cells.injEq] at e; exact e.2.1.symm)
  · exact h2 (by rw [hj] at e; simp only [Option.some.injEq, Obj.cells.injEq] at e; exact e.2.1.symm)
section
variable {w w' : World} {P : Pc} {σ : Sg}
theorem MM.below (h : MM w P σ) (k : Below w.heap.size w w') : MM w' P σ := by
  obtain ⟨ps, fvs, tf⟩ := h.th
  exact ⟨h.c.below k, ⟨ps, fvs, tf.below k⟩, h.qN, h.tN, Nat.le_trans h.NS k.size⟩
theorem MM.bd (h : MM w P σ) : (1 ≤ P.t ∧ P.t ≤ 6) ∧ (7 ≤ P.s ∧ P.s ≤ 250) := h.c.bd
theorem MM.ord (h : MM w P σ) : (P.B ≤ P.mb ∧ P.mb < P.N) ∧ (P.B ≤ P.mg ∧ P.mg < P.N) ∧ (P.B ≤ P.gq ∧ P.gq < P.N) ∧ (P.B ≤ P.gg ∧ P.gg < P.N) ∧ (P.B ≤ P.gm ∧ P.gm < P.N) ∧ (P.B ≤ P.q ∧ P.q < P.N) ∧ (∀ i, i < P.t → P.B ≤ P.tq i ∧ P.tq i < P.N) := by
  have o1 := h.c.o1; have o2 := h.c.o2; have o3 := h.c.o3; have o4 := h.c.o4; have o5 := h.c.o5; have o6 := h.qN
  refine ⟨by omega, by omega, by omega, by omega, by omega, by omega, fun i hi => ?_⟩
  have := h.c.tlo i hi
  have := h.tN i hi
  omega
/-- What a step changes lies in the machine. -/
theorem MM.ka (h : MM w P σ) {ps : Nat → Nat → Nat} {fvs : Nat → Value} (tf : TF w P.q P.t P.tq σ.Ts ps fvs) {k m : Nat} (hk : k < P.t) {X : Nat → Prop} (ks : Th.KS X w w') (hx : ∀ j, X j → j = P.mb ∨ j = P.mg ∨ j = P.gq ∨ j = P.gg ∨ j = P.gm ∨ j = P.q ∨ j = P.tq k ∨ (fvs k).ownBlock = some j ∨ (m < (σ.Ts k).nf ∧ j = ps k m)) : KA P.B P.N w w' := by
  obtain ⟨o1, o2, o3, o4, o5, o6, o7⟩ := h.ord
  refine KA.ks ks fun j hj => ?_
  rcases hx j hj with rfl | rfl | rfl | rfl | rfl | rfl | rfl | e | ⟨hm, rfl⟩
  · exact ⟨o1.1, .inl o1.2⟩
  · exact ⟨o2.1, .inl o2.2⟩
  · exact ⟨o3.1, .inl o3.2⟩
  · exact ⟨o4.1, .inl o4.2⟩
  · exact ⟨o5.1, .inl o5.2⟩
  · exact ⟨o6.1, .inl o6.2⟩
  · exact ⟨(o7 k hk).1, .inl (o7 k hk).2⟩
  · obtain ⟨h1, _, c, hc⟩ := (tf.th k hk).own e
    exact ⟨by omega, .inr ⟨c, .inr hc⟩⟩
  · obtain ⟨h1, _, c, hc⟩ := (tf.th k hk).frm hm
    exact ⟨by omega, .inr ⟨c, .inl hc⟩⟩
theorem MM.kq (h : MM w P σ) {ps : Nat → Nat → Nat} {fvs : Nat → Value} (tf : TF w P.q P.t P.tq σ.Ts ps fvs) {k : Nat} (hk : k < P.t) (kq : Th.KQ w w' (P.tq k) (fvs k) (.slice none 0 0)) : KA P.B P.N w w' :=
  h.ka tf hk (m := 0) (X := fun j => j = P.tq k ∨ (fvs k).ownBlock = some j) ⟨kq.os, kq.tape, kq.output, kq.size, fun j hj hx => kq.block j hj (fun e => hx (.inl e)) (fun e => hx (.inr e)) (fun e => by cases e)⟩ fun j hj => by
    rcases hj with e | e
    · exact .inr (.inr (.inr (.inr (.inr (.inr (.inl e))))))
    · exact .inr (.inr (.inr (.inr (.inr (.inr (.inr (.inl e)))))))
end
/-- A machine at first. -/
def sgInit (t s : Nat) : Sg := ⟨partF t 3 s, 0, false, fun i => decide (i < 5), fun _ => 0, 0, 0, false, fun _ => Th.T0⟩
theorem MM.init {w w' : World} {q pl mb mg C gq gg gm : Nat} {fv : Value} {tq : Nat → Nat} {t s : Nat} {K : Int} (h : MI w' w.heap.size q pl mb mg C gq gg gm fv tq t s K (partF t 3 s) 0 false (fun i => decide (i < 5)) (fun _ => 0) 0 0 false) (hi : ∀ i j, i < t → j < t → tq i = tq j → i = j) :
    MM w' ⟨w.heap.size, q, pl, mb, mg, C, gq, gg, gm, fv, tq, t, s, K, w'.heap.size⟩ (sgInit t s) :=
  ⟨h.mc, ⟨_, _, TF.init h hi⟩, Th.blk_lt h.blk, fun i hi => Th.blk_lt (h.thr i hi).2, Nat.le_refl _⟩
/-! ### A thread is called, and one's frame is asked -/
def Sg.thr (σ : Sg) (k : Nat) (T : Th.Td) : Sg := { σ with Ts := fun i => if i = k then T else σ.Ts i }
theorem mcall {w : World} {P : Pc} {σ : Sg} (h : MM w P σ) {k : Nat} (hk : k < P.t) (fn : Int) {v : Value} {n : Nat} {L : Nat → Int} (hu : Th.UR w v n L) (hf : (σ.Ts k).nf ≤ 100000) :
    Calls Try.prog 20 #[.pointer (some ⟨P.tq k, 0, none⟩), .int .i64 fn, v] w fun e w' => e = .returned (.tuple #[]) ∧ MM w' P (σ.thr k (Th.callT (σ.Ts k) fn n L)) ∧ KA P.B P.N w w' := by
  obtain ⟨ps, fvs, tf⟩ := h.th
  have hth := tf.th k hk
  refine (Th.fcallX hth.a fn hu (by have := h.c.qlt; omega) (by omega)).mono ?_
  rintro _ w' ⟨rfl, ⟨b, fv', hb, ha, ho⟩, kq⟩
  refine ⟨rfl, ⟨h.c.kqF tf hk kq, ⟨_, _, tf.one (p' := fun i => if i = (σ.Ts k).nf then b else ps k i) hk ⟨ha, hth.r, hth.s⟩ kq ho fun a h1 => ?_⟩, h.qN, h.tN, Nat.le_trans h.NS kq.size⟩, h.kq tf hk kq⟩
  have h2 : a < (σ.Ts k).nf + 1 := h1
  by_cases e : a = (σ.Ts k).nf
  · right; simp only [if_pos e]; exact hb
  · left; simp only [if_neg e]; exact ⟨by omega, trivial⟩
theorem mdepth {w : World} {P : Pc} {σ : Sg} (h : MM w P σ) {k : Nat} (hk : k < P.t) : Calls Try.prog 19 #[.pointer (some ⟨P.tq k, 0, none⟩)] w fun e w' => e = .returned (.int .i64 (σ.Ts k).nf) ∧ w = w' := by
  obtain ⟨ps, fvs, tf⟩ := h.th
  exact Th.fdepth (tf.th k hk).a
end Go.Proofs.Ytlahpnigabfenaa

/- Layer 17 and on: Step, and a routine alone, whatever the routine. -/
namespace Go.Proofs.Ytlahpnigabfenaa
open Go.RowKit WordM EdgeM
set_option linter.unusedVariables false
set_option linter.unusedSimpArgs false
theorem qRN : ∀ w : World, (binOp BinOp.eql 89 .nilFunc .nilFunc).run Try.prog w = .ok (.bool true) w := fun _ => by kernel_rfl
theorem qRF (fid : FuncId) (caps : Array Value) : ∀ w : World, (binOp BinOp.eql 89 (.func (.func fid) #[] caps) .nilFunc).run Try.prog w = .ok (.bool false) w := fun _ => by kernel_rfl
def Sg.stp (σ : Sg) : Sg := { σ with steps := σ.steps + 1 }
def Sg.odds (σ : Sg) (a : Int) : Sg := { σ with odd := σ.odd || decide (1 < σ.acc - a) }
theorem MM.setq {w w' : World} {P : Pc} {σ : Sg} {steps' : Int} {odd' : Bool} (h : MM w P σ) (hq : w'.heap[P.q]? = some (.cells (machC P.pl P.mb P.gq P.fv steps' odd') 86 (0, 0))) (hs : w.heap.size ≤ w'.heap.size) (k : ∀ j, j ≠ P.q → w'.heap[j]? = w.heap[j]?) (ho : w'.os = w.os ∧ w'.tape = w.tape ∧ w'.output = w.output) :
    MM w' P { σ with steps := steps', odd := odd' } ∧ KA P.B P.N w w' := by
  obtain ⟨ps, fvs, tf⟩ := h.th
  refine ⟨⟨h.c.setq hq hs k, ⟨ps, fvs, tf.hi hs fun j _ hj => k j (by omega)⟩, h.qN, h.tN, Nat.le_trans h.NS hs⟩, ⟨ho.1, ho.2.1, ho.2.2, hs, fun j hj hx => k j fun e => hx (by rw [e]; exact ⟨h.ord.2.2.2.2.2.1.1, .inl h.ord.2.2.2.2.2.1.2⟩)⟩⟩
set_option maxRecDepth 8000 in
set_option maxHeartbeats 2000000 in
theorem mstep {w : World} {P : Pc} {σ σ' : Sg} {fid : FuncId} {caps : Array Value} (h : MM w P σ) {k : Nat} (hk : k < P.t) (hd : 0 < (σ.Ts k).nf) (hcf : ∀ (args : Array Value) (w : World), (callFunc fid args).run Try.prog w = .ok (.enter fid args) w)
    (hdo : ∀ w', MM w' P σ.stp → KA P.B P.N w w' → Calls Try.prog fid (#[.pointer (some ⟨P.q, 0, none⟩), .int .i64 k] ++ caps) w' fun x w'' => x = .returned (.tuple #[]) ∧ MM w'' P σ' ∧ KA P.B P.N w' w'')
    (s0 : 0 ≤ σ.steps) (s1 : σ.steps < 1000000) (hac : -1000000 ≤ σ'.acc - σ.acc ∧ σ'.acc - σ.acc < 1000000) (hn : (σ.Ts k).nf ≤ 1000000) (hn' : (σ'.Ts k).nf ≤ 1000000) :
    Calls Try.prog 23 #[.pointer (some ⟨P.q, 0, none⟩), .int .i64 k, .func (.func fid) #[] caps] w fun x w' => x = .returned (.bool (decide (0 < (σ'.Ts k).nf))) ∧ MM w' P (σ'.odds σ.acc) ∧ KA P.B P.N w w' := by
  refine Calls.veil fun Q HQ => ?_
  have HH := Lib.hid h
  have HDO := Lib.hid hdo; have HCF := Lib.hid hcf
  obtain ⟨nk, hnk⟩ : ∃ nk, (σ.Ts k).nf = nk := ⟨_, rfl⟩
  have HNK := Lib.hid hnk
  obtain ⟨nj, hnj⟩ : ∃ nj, (σ'.Ts k).nf = nj := ⟨_, rfl⟩
  have HNJ := Lib.hid hnj
  rw [hnk] at hd hn
  rw [hnj] at hn' HQ
  have he1 : ¬ (nk : Int) = 0 := by omega
  have qn := qRF fid caps
  have HAC := Lib.hid hac
  clear h hdo hd hcf hnk hnj hac
  go_enter Try.func23, Try.ntmps23
  go_wp2_with fail
  refine (cThread_yes HH.out.c k hk).mono ?_; rintro _ w1 ⟨rfl, hb1⟩
  have HM1 := Lib.hid (HH.out.below hb1); have HB1 := Lib.hid hb1
  clear hb1
  go_wp2_with fail
  refine (mdepth HM1.out hk).mono ?_; rintro _ _ ⟨rfl, rfl⟩
  rw [HNK.out]
  have c1 := HM1.out.c.c1
  go_wp2_with fail
  refine (Mm.maccs _ _ _ _ _ _ _ _ HM1.out.c.mem).mono ?_; rintro _ _ ⟨rfl, rfl⟩
  have c4 := HM1.out.c.c4
  have cf : ∀ i, w1.frozen? ⟨P.q, i, none⟩ = false := fun i => frozen_of_row _ _ _ _ _ HM1.out.c.blk
  go_upto_region 6 with fail
  generalize hV : World.setCell _ _ _ = V
  have hvq : V.heap[P.q]? = some (.cells (machC P.pl P.mb P.gq P.fv (σ.steps + 1) σ.odd) 86 (0, 0)) := by rw [← hV]; exact heap_setCell_same _ P.q 4 _ _ _ HM1.out.c.blk
  have hvo : ∀ j, j ≠ P.q → V.heap[j]? = w1.heap[j]? := fun j hj => by rw [← hV]; exact Below.heap_setCell _ _ _ _ hj
  have hvs : V.heap.size = w1.heap.size := by rw [← hV]; simp [World.setCell]
  have hos : V.os = w1.os ∧ V.tape = w1.tape ∧ V.output = w1.output := by rw [← hV]; exact ⟨rfl, rfl, rfl⟩
  obtain ⟨hmv, hkv⟩ := HM1.out.setq hvq (by omega) hvo hos
  have HMV := Lib.hid (show MM V P σ.stp from hmv); have HKV := Lib.hid ((KA.of_below HB1.out : KA P.B P.N w w1).trans hkv)
  clear hV hvq hvo hvs hos hmv hkv HM1 c1 c4 cf qn
  have hcf := HCF.out
  go_wp2_with fail
  clear hcf
  refine (HDO.out V HMV.out HKV.out).mono ?_; rintro _ w5 ⟨rfl, hm5, hk5⟩
  have HM5 := Lib.hid hm5; have HK5 := Lib.hid (HKV.out.trans hk5)
  clear hm5 hk5 HMV HKV
  have c1 := HM5.out.c.c1
  go_wp2_with fail
  refine (Mm.maccs _ _ _ _ _ _ _ _ HM5.out.c.mem).mono ?_; rintro _ _ ⟨rfl, rfl⟩
  have HW := Lib.hid (show IntKind.i64.wrap (σ'.acc - σ.acc) = σ'.acc - σ.acc by have := HAC.out; rw [IntKind.wrap_i64]; omega)
  have hwa := HW.out
  by_cases hn1 : 1 < σ'.acc - σ.acc
  · have c5 := HM5.out.c.c5
    have cf : ∀ i, w5.frozen? ⟨P.q, i, none⟩ = false := fun i => frozen_of_row _ _ _ _ _ HM5.out.c.blk
    go_upto_region 9 with fail
    generalize hV : World.setCell _ _ _ = V
    have hvq : V.heap[P.q]? = some (.cells (machC P.pl P.mb P.gq P.fv σ'.steps true) 86 (0, 0)) := by rw [← hV]; exact heap_setCell_same _ P.q 5 _ _ _ HM5.out.c.blk
    have hvo : ∀ j, j ≠ P.q → V.heap[j]? = w5.heap[j]? := fun j hj => by rw [← hV]; exact Below.heap_setCell _ _ _ _ hj
    have hvs : V.heap.size = w5.heap.size := by rw [← hV]; simp [World.setCell]
    have hos : V.os = w5.os ∧ V.tape = w5.tape ∧ V.output = w5.output := by rw [← hV]; exact ⟨rfl, rfl, rfl⟩
    obtain ⟨hmv, hkv⟩ := HM5.out.setq hvq (by omega) hvo hos
    have HM6 := Lib.hid (show MM V P (σ'.odds σ.acc) by unfold Sg.odds; rw [decide_eq_true hn1, Bool.or_true]; exact hmv)
    have HK6 := Lib.hid (HK5.out.trans hkv)
    clear hV hvq hvo hvs hos hmv hkv c1 c5 cf HM5 HK5 hn1 hwa
    go_wp2_with fail
    refine (mdepth HM6.out hk).mono ?_; rintro _ _ ⟨rfl, rfl⟩
    rw [show ((σ'.odds σ.acc).Ts k).nf = nj from HNJ.out]
    go_wp2_with fail
    (try go_ret)
    rw [HQ.out]
    exact ⟨by simp, HM6.out, HK6.out⟩
  · go_upto_region 9 with fail
    have HM6 := Lib.hid (show MM w5 P (σ'.odds σ.acc) by unfold Sg.odds; rw [decide_eq_false (by omega), Bool.or_false]; exact HM5.out)
    clear c1 hn1 hwa HM5
    go_wp2_with fail
    refine (mdepth HM6.out hk).mono ?_; rintro _ _ ⟨rfl, rfl⟩
    rw [show ((σ'.odds σ.acc).Ts k).nf = nj from HNJ.out]
    go_wp2_with fail
    (try go_ret)
    rw [HQ.out]
    exact ⟨by simp, HM6.out, HK5.out⟩
/-! ### A routine alone -/
set_option maxRecDepth 8000 in
set_option maxHeartbeats 2000000 in
theorem malone {w : World} {P : Pc} {σ : Sg} {fid : FuncId} {caps : Array Value} {τ ρ : Nat → Sg} {k L most n n0 : Nat} {fn : Int} {v : Value} {R : Nat → Int} (h : MM w P σ) (hk : k < P.t) (hcf : ∀ (args : Array Value) (w : World), (callFunc fid args).run Try.prog w = .ok (.enter fid args) w)
    (hu : Th.UR w v n R) (hn0 : (σ.Ts k).nf = n0) (hn1 : n0 ≤ 10000) (hL : 1 ≤ L ∧ L ≤ most) (hm : most ≤ 1000000) (h0 : τ 0 = σ.thr k (Th.callT (σ.Ts k) fn n R)) (hs : ∀ j, j < L → τ (j + 1) = (ρ j).odds (τ j).acc)
    (hdo : ∀ j, j < L → ∀ w', MM w' P (τ j).stp → KA P.B P.N w w' → Calls Try.prog fid (#[.pointer (some ⟨P.q, 0, none⟩), .int .i64 k] ++ caps) w' fun x w'' => x = .returned (.tuple #[]) ∧ MM w'' P (ρ j) ∧ KA P.B P.N w' w'')
    (hst : ∀ j, j < L → 0 ≤ (τ j).steps ∧ (τ j).steps < 1000000) (hac : ∀ j, j < L → -1000000 ≤ (ρ j).acc - (τ j).acc ∧ (ρ j).acc - (τ j).acc < 1000000) (hnf : ∀ j, j < L → n0 < ((τ j).Ts k).nf ∧ ((τ j).Ts k).nf ≤ 1000000) (hnl : ((τ L).Ts k).nf ≤ n0) :
    Calls Try.prog 9 #[.pointer (some ⟨P.q, 0, none⟩), .int .i64 k, .func (.func fid) #[] caps, .int .i64 most, .int .i64 fn, v] w fun x w' => x = .returned (.tuple #[.int .i64 L, .bool true]) ∧ MM w' P (τ L) ∧ KA P.B P.N w w' := by
  refine Calls.veil fun Q HQ => ?_
  have HH := Lib.hid h; have HU := Lib.hid hu
  have HALL := Lib.hid (And.intro hcf (And.intro h0 (And.intro hs (And.intro hdo (And.intro hst (And.intro hac (And.intro hnf hnl)))))))
  have HN0 := Lib.hid hn0
  obtain ⟨va, vc, rfl, _, _⟩ := hu.slice
  obtain ⟨hL1, hL2⟩ := hL
  clear h hu hcf h0 hs hdo hst hac hnf hnl hn0
  go_enter Try.func9, Try.ntmps9
  go_wp2_with fail
  refine (cThread_yes HH.out.c k hk).mono ?_; rintro _ w1 ⟨rfl, hb1⟩
  have HM1 := Lib.hid (HH.out.below hb1); have HB1 := Lib.hid hb1
  clear hb1
  go_wp2_with fail
  refine (mdepth HM1.out hk).mono ?_; rintro _ _ ⟨rfl, rfl⟩
  rw [HN0.out]
  go_wp2_with fail
  refine (mcall HM1.out hk fn (HU.out.below HB1.out) (by rw [HN0.out]; omega)).mono ?_; rintro _ w2 ⟨rfl, hm2, hk2⟩
  rw [← HALL.out.2.1] at hm2
  have HM2 := Lib.hid hm2; have HK2 := Lib.hid ((KA.of_below HB1.out : KA P.B P.N w w1).trans hk2)
  clear hm2 hk2 HM1
  go_wp2_with fail
  go_loopw [16] (fun iv wr => ∃ j : Nat, j < L ∧ iv = .int .i64 j ∧ Hid (MM wr P (τ j)) ∧ Hid (KA P.B P.N w wr)) (fun iv _ => L - (intOf iv).toNat)
  case atStart => exact ⟨0, by omega, rfl, HM2, HK2⟩
  case round =>
    clear HM2 HK2
    obtain ⟨j, hj, rfl, HM3, HK3⟩ := hrel
    have hji : (j : Int) < most := by omega
    go_wp2_with fail
    refine (mstep (σ' := ρ j) HM3.out hk (by have := (HALL.out.2.2.2.2.2.2.1 j hj).1; omega) HALL.out.1 (fun w' hm' hk' => HALL.out.2.2.2.1 j hj w' hm' (HK3.out.trans hk')) (HALL.out.2.2.2.2.1 j hj).1 (HALL.out.2.2.2.2.1 j hj).2 (HALL.out.2.2.2.2.2.1 j hj) (HALL.out.2.2.2.2.2.2.1 j hj).2 ?_).mono ?_
    · have e : ((ρ j).Ts k).nf = ((τ (j + 1)).Ts k).nf := by rw [HALL.out.2.2.1 j hj]; rfl
      rw [e]
      rcases (by omega : j + 1 < L ∨ j + 1 = L) with e2 | e2
      · exact (HALL.out.2.2.2.2.2.2.1 (j + 1) e2).2
      · rw [e2]; have := HALL.out.2.2.2.2.2.2.2; omega
    rintro _ w5 ⟨rfl, hm5, hk5⟩
    rw [← HALL.out.2.2.1 j hj] at hm5
    have HM5 := Lib.hid hm5; have HK5 := Lib.hid (HK3.out.trans hk5)
    clear hm5 hk5 HM3 HK3
    go_wp2_with fail
    refine (mdepth HM5.out hk).mono ?_; rintro _ _ ⟨rfl, rfl⟩
    rcases (by omega : j + 1 < L ∨ j + 1 = L) with e2 | e2
    · have hgt := (HALL.out.2.2.2.2.2.2.1 (j + 1) e2).1
      generalize ((τ (j + 1)).Ts k).nf = nj at hgt
      have hle : ¬ (nj : Int) ≤ n0 := by omega
      clear hgt
      go_wp2_with fail
      go_roundw
      case rel => exact ⟨j + 1, e2, by go_num, HM5, HK5⟩
      case measure => simp [intOf]; omega
    · subst e2
      have hgt := HALL.out.2.2.2.2.2.2.2
      generalize ((τ (j + 1)).Ts k).nf = nj at hgt
      have hle : (nj : Int) ≤ n0 := by omega
      clear hgt
      go_wp2_with fail
      (try go_ret2)
      rw [HQ.out]
      exact ⟨by go_num, HM5.out, HK5.out⟩
end Go.Proofs.Ytlahpnigabfenaa

/- Layer 17: Do, at Take. -/
namespace Go.Proofs.Ytlahpnigabfenaa
open Go.RowKit WordM EdgeM
set_option linter.unusedVariables false
set_option linter.unusedSimpArgs false
def setF (T : Th.Td) (m : Nat) (F : Th.Fm) : Th.Td := { T with fs := Th.upM T.fs m F }
def updr (r : Nat → Int) (a : Nat) (v : Int) : Nat → Int := fun i => if i = a then v else r i
def Pc.n (P : Pc) : Nat := 3 + 8 * P.t + 7 * P.s
def Pc.ld (P : Pc) (f : Nat → Int) (slot fi : Int) : Int := Mm.ldI P.n f (nodeI P.t P.s slot fi)
def Pc.ok (P : Pc) (slot fi : Int) : Bool := Mm.okA P.n (nodeI P.t P.s slot fi)
/-- A step of Take. -/
def rTake (P : Pc) (k m : Nat) (σ : Sg) : Sg :=
  if ((σ.Ts k).fs m).pc = 0 then
    if σ.f 2 % 4096 = 0 then { σ.thr k (Th.backT (setF (σ.Ts k) m ⟨((σ.Ts k).fs m).fn, 1, updr ((σ.Ts k).fs m).r 0 (σ.f 2)⟩) 1 (fun _ => 0)) with acc := σ.acc + 1 }
    else { σ.thr k (setF (σ.Ts k) m ⟨((σ.Ts k).fs m).fn, 1, updr ((σ.Ts k).fs m).r 0 (σ.f 2)⟩) with acc := σ.acc + 1 }
  else if ((σ.Ts k).fs m).pc = 1 then
    { σ.thr k (setF (σ.Ts k) m ⟨((σ.Ts k).fs m).fn, 2, updr ((σ.Ts k).fs m).r 1 (P.ld σ.f (((σ.Ts k).fs m).r 0 % 4096) 0)⟩) with acc := σ.acc + 1, flt := σ.flt || !P.ok (((σ.Ts k).fs m).r 0 % 4096) 0 }
  else if ((σ.Ts k).fs m).pc = 2 then
    if (σ.f 2 == ((σ.Ts k).fs m).r 0) = true then
      { σ.thr k (setF (σ.Ts k) m ⟨((σ.Ts k).fs m).fn, 3, ((σ.Ts k).fs m).r⟩) with
        acc := σ.acc + 1, f := Mm.upd σ.f 2 (chgI (((σ.Ts k).fs m).r 0) (((σ.Ts k).fs m).r 1)), H := Gd.takeH P.s σ.H (((σ.Ts k).fs m).r 0 % 4096),
        sl := if Gd.canT P.s σ.H (((σ.Ts k).fs m).r 0 % 4096) = true then σ.sl else σ.sl + 1 }
    else { σ.thr k (setF (σ.Ts k) m ⟨((σ.Ts k).fs m).fn, 0, ((σ.Ts k).fs m).r⟩) with acc := σ.acc + 1 }
  else
    { σ.thr k (Th.backT (σ.Ts k) 1 (fun _ => makeI (((σ.Ts k).fs m).r 0 % 4096) (P.ld σ.f (((σ.Ts k).fs m).r 0 % 4096) 1))) with
      acc := σ.acc + 1, flt := σ.flt || !P.ok (((σ.Ts k).fs m).r 0 % 4096) 1 }
theorem mtake {w : World} {P : Pc} {σ : Sg} (h : MM w P σ) {ps : Nat → Nat → Nat} {fvs : Nat → Value} (tf : TF w P.q P.t P.tq σ.Ts ps fvs) {k m : Nat} (hk : k < P.t) (hm : (σ.Ts k).nf = m + 1) (hpc : 0 ≤ ((σ.Ts k).fs m).pc ∧ ((σ.Ts k).fs m).pc ≤ 3)
    (hr : 0 ≤ ((σ.Ts k).fs m).r 0 ∧ ((σ.Ts k).fs m).r 0 < 18446744073709551616) (hr1 : ((σ.Ts k).fs m).pc = 2 → 0 ≤ ((σ.Ts k).fs m).r 1 ∧ ((σ.Ts k).fs m).r 1 < 9223372036854775808) (a0 : 0 ≤ σ.acc) (a1 : σ.acc < 1000000) (hsl : σ.sl < 1000000) (hN : m ≤ 1000) :
    Calls Try.prog 34 #[.agg #[.pointer (some ⟨P.q, 0, none⟩), .pointer (some ⟨P.tq k, 0, none⟩), .pointer (some ⟨ps k m, 0, none⟩)]] w fun x w' => x = .returned (.tuple #[]) ∧ MM w' P (rTake P k m σ) ∧ KA P.B P.N w w' := by
  have hmm : m < (σ.Ts k).nf := by omega
  rcases (by omega : ((σ.Ts k).fs m).pc = 0 ∨ ((σ.Ts k).fs m).pc = 1 ∨ ((σ.Ts k).fs m).pc = 2 ∨ ((σ.Ts k).fs m).pc = 3) with e | e | e | e
  · by_cases hz : σ.f 2 % 4096 = 0
    · refine (take0z h.c tf hk hm e hr hz hN a0 a1).mono ?_
      rintro _ w' ⟨rfl, hc, ⟨fv', ht, ho⟩, ks⟩
      have e1 : rTake P k m σ = { σ.thr k (Th.backT (setF (σ.Ts k) m ⟨((σ.Ts k).fs m).fn, 1, updr ((σ.Ts k).fs m).r 0 (σ.f 2)⟩) 1 (fun _ => 0)) with acc := σ.acc + 1 } := by unfold rTake; rw [if_pos e, if_pos hz]
      refine ⟨rfl, by rw [e1]; exact ⟨hc, ⟨_, _, ht⟩, h.qN, h.tN, Nat.le_trans h.NS ks.size⟩, h.ka tf hk (m := m) ks fun j hj => ?_⟩
      rcases hj with e | e | e | e | e
      · exact .inl e
      · exact .inr (.inl e)
      · exact .inr (.inr (.inr (.inr (.inr (.inr (.inr (.inr ⟨hmm, e⟩)))))))
      · exact .inr (.inr (.inr (.inr (.inr (.inr (.inl e))))))
      · exact .inr (.inr (.inr (.inr (.inr (.inr (.inr (.inl e)))))))
    · refine (take0n h.c tf hk hm e hr hz a0 a1).mono ?_
      rintro _ w' ⟨rfl, hc, ht, ks⟩
      have e1 : rTake P k m σ = { σ.thr k (setF (σ.Ts k) m ⟨((σ.Ts k).fs m).fn, 1, updr ((σ.Ts k).fs m).r 0 (σ.f 2)⟩) with acc := σ.acc + 1 } := by unfold rTake; rw [if_pos e, if_neg hz]
      refine ⟨rfl, by rw [e1]; exact ⟨hc, ⟨_, _, ht⟩, h.qN, h.tN, Nat.le_trans h.NS ks.size⟩, h.ka tf hk (m := m) ks fun j hj => ?_⟩
      rcases hj with e | e | e
      · exact .inl e
      · exact .inr (.inl e)
      · exact .inr (.inr (.inr (.inr (.inr (.inr (.inr (.inr ⟨hmm, e⟩)))))))
  · refine (take1 h.c tf hk hm e hr a0 a1).mono ?_
    rintro _ w' ⟨rfl, hc, ht, ks⟩
    refine ⟨rfl, by unfold rTake; rw [if_neg (by omega), if_pos e]; exact ⟨hc, ⟨_, _, ht⟩, h.qN, h.tN, Nat.le_trans h.NS ks.size⟩, h.ka tf hk (m := m) ks fun j hj => ?_⟩
    rcases hj with e | e | e
    · exact .inl e
    · exact .inr (.inl e)
    · exact .inr (.inr (.inr (.inr (.inr (.inr (.inr (.inr ⟨hmm, e⟩)))))))
  · cases hz : σ.f 2 == ((σ.Ts k).fs m).r 0 with
    | true =>
      refine (take2y h.c tf hk hm e hr (hr1 e) hz hsl a0 a1).mono ?_
      rintro _ w' ⟨rfl, hc, ht, ks⟩
      refine ⟨rfl, by unfold rTake; rw [if_neg (by omega), if_neg (by omega), if_pos e, if_pos hz]; exact ⟨hc, ⟨_, _, ht⟩, h.qN, h.tN, Nat.le_trans h.NS ks.size⟩, h.ka tf hk (m := m) ks fun j hj => ?_⟩
      rcases hj with e | e | e | e | e | e
      · exact .inl e
      · exact .inr (.inl e)
      · exact .inr (.inr (.inl e))
      · exact .inr (.inr (.inr (.inl e)))
      · exact .inr (.inr (.inr (.inr (.inl e))))
      · exact .inr (.inr (.inr (.inr (.inr (.inr (.inr (.inr ⟨hmm, e⟩)))))))
    | false =>
      refine (take2n h.c tf hk hm e hr (hr1 e) hz a0 a1).mono ?_
      rintro _ w' ⟨rfl, hc, ht, ks⟩
      refine ⟨rfl, by unfold rTake; rw [if_neg (by omega), if_neg (by omega), if_pos e, if_neg (by rw [hz]; decide)]; exact ⟨hc, ⟨_, _, ht⟩, h.qN, h.tN, Nat.le_trans h.NS ks.size⟩, h.ka tf hk (m := m) ks fun j hj => ?_⟩
      rcases hj with e | e | e
      · exact .inl e
      · exact .inr (.inl e)
      · exact .inr (.inr (.inr (.inr (.inr (.inr (.inr (.inr ⟨hmm, e⟩)))))))
  · refine (take3 h.c tf hk hm e hr hN a0 a1).mono ?_
    rintro _ w' ⟨rfl, hc, ⟨fv', ht, ho⟩, ks⟩
    refine ⟨rfl, by unfold rTake; rw [if_neg (by omega), if_neg (by omega), if_neg (by omega)]; exact ⟨hc, ⟨_, _, ht⟩, h.qN, h.tN, Nat.le_trans h.NS ks.size⟩, h.ka tf hk (m := m) ks fun j hj => ?_⟩
    rcases hj with e | e | e | e
    · exact .inl e
    · exact .inr (.inl e)
    · exact .inr (.inr (.inr (.inr (.inr (.inr (.inl e))))))
    · exact .inr (.inr (.inr (.inr (.inr (.inr (.inr (.inl e)))))))
/-! ### Do -/
set_option maxRecDepth 8000 in
set_option maxHeartbeats 2000000 in
theorem sdoT {w : World} {P : Pc} {σ σ' : Sg} (h : MM w P σ) {k m : Nat} (hk : k < P.t) (hm : (σ.Ts k).nf = m + 1) (hN : m ≤ 1000) (hfn : ((σ.Ts k).fs m).fn = 1)
    (hst : ∀ w' ps fvs, MM w' P σ → TF w' P.q P.t P.tq σ.Ts ps fvs → Calls Try.prog 34 #[.agg #[.pointer (some ⟨P.q, 0, none⟩), .pointer (some ⟨P.tq k, 0, none⟩), .pointer (some ⟨ps k m, 0, none⟩)]] w' fun x w'' => x = .returned (.tuple #[]) ∧ MM w'' P σ' ∧ KA P.B P.N w' w'') :
    Calls Try.prog 10 #[.pointer (some ⟨P.q, 0, none⟩), .int .i64 k] w fun x w' => x = .returned (.tuple #[]) ∧ MM w' P σ' ∧ KA P.B P.N w w' := by
  refine Calls.veil fun Q HQ => ?_
  obtain ⟨ps, fvs, tf⟩ := h.th
  have HH := Lib.hid h; have HT := Lib.hid tf; have HS := Lib.hid hst; have HM := Lib.hid hm; have HFN := Lib.hid hfn
  clear h tf hst hm hfn
  go_enter Try.func10, Try.ntmps10
  go_wp2_with fail
  refine (cThread_yes HH.out.c k hk).mono ?_; rintro _ w1 ⟨rfl, hb1⟩
  have HB1 := Lib.hid hb1
  clear hb1
  go_wp2_with fail
  refine (Th.ftop1 ((HT.out.below HB1.out).th k hk).a HM.out (by omega)).mono ?_; rintro _ w2 ⟨rfl, hb2⟩
  have HB2 := Lib.hid (below_on HB1.out hb2)
  clear hb2
  have hbk := (((HT.out.below HB2.out).th k hk).a.fb m (by have := HM.out; omega)).1
  obtain ⟨fb, hfb⟩ : ∃ fb, fb = ps k m := ⟨_, rfl⟩
  have HFB := Lib.hid hfb
  rw [← hfb] at hbk ⊢
  have HC := Lib.hid (show w2.cell? ⟨fb, 0, none⟩ = some (.int .i64 1) by rw [hbk.get (i := 0) (by omega)]; unfold Th.frF; rw [if_pos rfl, HFN.out])
  clear hfb hbk
  go_upto_region 4 with fail
  generalize hV : World.alloc _ _ = V
  obtain ⟨u0, hbv⟩ := Th.heapnewE hV
  obtain ⟨X, hX⟩ : ∃ X, X = w2.heap.size := ⟨_, rfl⟩
  rw [← hX] at u0 ⊢
  have x0 := Th.newcell u0 0 _ rfl; have x1 := Th.newcell u0 1 _ rfl; have x2 := Th.newcell u0 2 _ rfl
  have hbw := below_on HB2.out hbv
  have c0 : V.cell? ⟨fb, 0, none⟩ = some (.int .i64 1) := Ext.cell ⟨V, hbv⟩ HC.out
  have HBV := Lib.hid hbw
  clear hV u0 hbv hbw hX
  go_wp2_with fail
  rw [HFB.out]
  refine (HS.out V ps fvs (HH.out.below HBV.out) (HT.out.below HBV.out)).mono ?_; rintro _ w5 ⟨rfl, hm5, hk5⟩
  have HM5 := Lib.hid hm5; have HK5 := Lib.hid ((KA.of_below HBV.out : KA P.B P.N w V).trans hk5)
  clear hm5 hk5 x0 x1 x2 c0
  go_wp2_with fail
  refine bodyPost_end (v := .tuple #[]) (by simp [results, Try.results10, go_sem]) rfl ?_
  rw [HQ.out]
  exact ⟨rfl, HM5.out, HK5.out⟩
/-- A step of Take, by Do. -/
theorem sdo_take {w : World} {P : Pc} {σ : Sg} (h : MM w P σ) {k m : Nat} (hk : k < P.t) (hm : (σ.Ts k).nf = m + 1) (hfn : ((σ.Ts k).fs m).fn = 1) (hpc : 0 ≤ ((σ.Ts k).fs m).pc ∧ ((σ.Ts k).fs m).pc ≤ 3)
    (hr : 0 ≤ ((σ.Ts k).fs m).r 0 ∧ ((σ.Ts k).fs m).r 0 < 18446744073709551616) (hr1 : ((σ.Ts k).fs m).pc = 2 → 0 ≤ ((σ.Ts k).fs m).r 1 ∧ ((σ.Ts k).fs m).r 1 < 9223372036854775808) (a0 : 0 ≤ σ.acc) (a1 : σ.acc < 1000000) (hsl : σ.sl < 1000000) (hN : m ≤ 1000) :
    Calls Try.prog 10 #[.pointer (some ⟨P.q, 0, none⟩), .int .i64 k] w fun x w' => x = .returned (.tuple #[]) ∧ MM w' P (rTake P k m σ) ∧ KA P.B P.N w w' :=
  sdoT h hk hm hN hfn fun w' ps fvs hm' tf => mtake hm' tf hk hm hpc hr hr1 a0 a1 hsl hN
end Go.Proofs.Ytlahpnigabfenaa

/- Layer 17: Take, alone. -/
namespace Go.Proofs.Ytlahpnigabfenaa
open Go.RowKit WordM EdgeM
set_option linter.unusedVariables false
set_option linter.unusedSimpArgs false
theorem Sg.odds_one {σ : Sg} {a : Int} (h : σ.acc = a + 1) : σ.odds a = σ := by
  cases σ with | mk f acc flt H G sl steps odd Ts =>
  simp only at h
  have e : decide (1 < acc - a) = false := decide_eq_false (by omega)
  simp only [Sg.odds, e, Bool.or_false]
/-- What stands of a thread within a routine. -/
structure TkAt (σ0 σ : Sg) (k m : Nat) (F : Th.Fm) : Prop where
  nf : (σ.Ts k).nf = m + 1
  fs : (σ.Ts k).fs m = F
  oth : ∀ i, i ≠ k → σ.Ts i = σ0.Ts i
theorem thr_oth {σ0 σ : Sg} {k : Nat} (T : Th.Td) (h : ∀ i, i ≠ k → σ.Ts i = σ0.Ts i) (i : Nat) (hi : i ≠ k) : (fun i => if i = k then T else σ.Ts i) i = σ0.Ts i := by
  simp only [if_neg hi]; exact h i hi
theorem setF_fs (T : Th.Td) (m : Nat) (F : Th.Fm) : (setF T m F).fs m = F := by unfold setF Th.upM; simp
theorem TkAt.set {σ0 σ σ' : Sg} {k m : Nat} {F F' : Th.Fm} (h : TkAt σ0 σ k m F) (e : σ'.Ts = fun i => if i = k then setF (σ.Ts k) m F' else σ.Ts i) : TkAt σ0 σ' k m F' := by
  refine ⟨?_, ?_, fun i hi => ?_⟩
  · rw [e]; simp only [if_true]; exact h.nf
  · rw [e]; simp only [if_true]; exact setF_fs _ _ _
  · rw [e]; simp only [if_neg hi]; exact h.oth i hi
theorem TkAt.call {σ : Sg} {k m : Nat} (hm : (σ.Ts k).nf = m) (fn : Int) (n : Nat) (R : Nat → Int) : TkAt σ (σ.thr k (Th.callT (σ.Ts k) fn n R)) k m ⟨fn, 0, fun i => if i < n then R i else 0⟩ := by
  subst hm
  refine ⟨?_, ?_, fun i hi => ?_⟩
  · unfold Sg.thr Th.callT; simp
  · unfold Sg.thr Th.callT Th.upM; simp
  · unfold Sg.thr; simp only [if_neg hi]
def tkS (P : Pc) (k m : Nat) (σ : Sg) (R : Nat → Int) : Nat → Sg
  | 0 => σ.thr k (Th.callT (σ.Ts k) 1 0 R)
  | j + 1 => rTake P k m (tkS P k m σ R j).stp
theorem rTake_acc (P : Pc) (k m : Nat) (σ : Sg) : (rTake P k m σ).acc = σ.acc + 1 := by
  unfold rTake
  split
  · split <;> rfl
  · split
    · rfl
    · split
      · split <;> rfl
      · rfl
theorem rTake_steps (P : Pc) (k m : Nat) (σ : Sg) : (rTake P k m σ).steps = σ.steps := by
  unfold rTake
  split
  · split <;> rfl
  · split
    · rfl
    · split
      · split <;> rfl
      · rfl
theorem rTake_odd (P : Pc) (k m : Nat) (σ : Sg) : (rTake P k m σ).odd = σ.odd ∧ (rTake P k m σ).G = σ.G := by
  unfold rTake
  split
  · split <;> exact ⟨rfl, rfl⟩
  · split
    · exact ⟨rfl, rfl⟩
    · split
      · split <;> exact ⟨rfl, rfl⟩
      · exact ⟨rfl, rfl⟩
section
variable {P : Pc} {k m : Nat} {σ : Sg} {R : Nat → Int}
theorem tkS_acc : ∀ j : Nat, (tkS P k m σ R j).acc = σ.acc + j ∧ (tkS P k m σ R j).steps = σ.steps + j ∧ (tkS P k m σ R j).odd = σ.odd ∧ (tkS P k m σ R j).G = σ.G
  | 0 => ⟨by show σ.acc = _; omega, by show σ.steps = _; omega, rfl, rfl⟩
  | j + 1 => by
    obtain ⟨h1, h2, h3, h4⟩ := tkS_acc j
    refine ⟨?_, ?_, ?_, ?_⟩
    · show (rTake P k m _).acc = _
      rw [rTake_acc]; show (tkS P k m σ R j).acc + 1 = _; rw [h1]; omega
    · show (rTake P k m _).steps = _
      rw [rTake_steps]; show (tkS P k m σ R j).steps + 1 = _; rw [h2]; omega
    · show (rTake P k m _).odd = _
      rw [(rTake_odd _ _ _ _).1]; exact h3
    · show (rTake P k m _).G = _
      rw [(rTake_odd _ _ _ _).2]; exact h4
/-- The registers of Take. -/
def tkR (hd lk : Int) : Nat → Int := updr (updr (fun i => if i < 0 then 0 else 0) 0 hd) 1 lk
variable (hm : (σ.Ts k).nf = m)
include hm
theorem tk0 : TkAt σ (tkS P k m σ R 0) k m ⟨1, 0, fun i => if i < 0 then R i else 0⟩ := TkAt.call hm 1 0 R
/-- Nothing is free. -/
theorem tk1z (hz : σ.f 2 % 4096 = 0) : tkS P k m σ R 1 = { (tkS P k m σ R 0).stp.thr k (Th.backT (setF ((tkS P k m σ R 0).Ts k) m ⟨1, 1, updr (fun i => if i < 0 then R i else 0) 0 (σ.f 2)⟩) 1 (fun _ => 0)) with acc := σ.acc + 1 } := by
  have h0 := tk0 (P := P) (R := R) hm
  show rTake P k m (tkS P k m σ R 0).stp = _
  unfold rTake
  rw [show ((tkS P k m σ R 0).stp.Ts k).fs m = _ from h0.fs, if_pos rfl, if_pos (show (tkS P k m σ R 0).stp.f 2 % 4096 = 0 from hz)]
  rfl
variable (hz : ¬ σ.f 2 % 4096 = 0)
include hz
theorem tk1 : TkAt σ (tkS P k m σ R 1) k m ⟨1, 1, updr (fun i => if i < 0 then R i else 0) 0 (σ.f 2)⟩ ∧ (tkS P k m σ R 1).f = σ.f ∧ (tkS P k m σ R 1).flt = σ.flt ∧ (tkS P k m σ R 1).H = σ.H ∧ (tkS P k m σ R 1).sl = σ.sl := by
  have h0 := tk0 (P := P) (R := R) hm
  have e : tkS P k m σ R 1 = { (tkS P k m σ R 0).stp.thr k (setF ((tkS P k m σ R 0).Ts k) m ⟨1, 1, updr (fun i => if i < 0 then R i else 0) 0 (σ.f 2)⟩) with acc := σ.acc + 1 } := by
    show rTake P k m (tkS P k m σ R 0).stp = _
    unfold rTake
    rw [show ((tkS P k m σ R 0).stp.Ts k).fs m = _ from h0.fs, if_pos rfl, if_neg (show ¬ (tkS P k m σ R 0).stp.f 2 % 4096 = 0 from hz)]
    rfl
  rw [e]
  exact ⟨h0.set rfl, rfl, rfl, rfl, rfl⟩
theorem tk2 : TkAt σ (tkS P k m σ R 2) k m ⟨1, 2, updr (updr (fun i => if i < 0 then R i else 0) 0 (σ.f 2)) 1 (P.ld σ.f (σ.f 2 % 4096) 0)⟩ ∧ (tkS P k m σ R 2).f = σ.f ∧ (tkS P k m σ R 2).flt = (σ.flt || !P.ok (σ.f 2 % 4096) 0) ∧ (tkS P k m σ R 2).H = σ.H ∧ (tkS P k m σ R 2).sl = σ.sl := by
  obtain ⟨h1, e1, e2, e3, e4⟩ := tk1 (P := P) (R := R) hm hz
  have e : tkS P k m σ R 2 = { (tkS P k m σ R 1).stp.thr k (setF ((tkS P k m σ R 1).Ts k) m ⟨1, 2, updr (updr (fun i => if i < 0 then R i else 0) 0 (σ.f 2)) 1 (P.ld (tkS P k m σ R 1).f (σ.f 2 % 4096) 0)⟩) with acc := (tkS P k m σ R 1).acc + 1, flt := (tkS P k m σ R 1).flt || !P.ok (σ.f 2 % 4096) 0 } := by
    show rTake P k m (tkS P k m σ R 1).stp = _
    unfold rTake
    rw [show ((tkS P k m σ R 1).stp.Ts k).fs m = _ from h1.fs, if_neg (show ¬ (1 : Int) = 0 by omega), if_pos rfl]
    rfl
  rw [e]
  exact ⟨by rw [e1]; exact h1.set rfl, e1, by rw [e2], e3, e4⟩
theorem tk3 : TkAt σ (tkS P k m σ R 3) k m ⟨1, 3, updr (updr (fun i => if i < 0 then R i else 0) 0 (σ.f 2)) 1 (P.ld σ.f (σ.f 2 % 4096) 0)⟩ ∧ (tkS P k m σ R 3).f = Mm.upd σ.f 2 (chgI (σ.f 2) (P.ld σ.f (σ.f 2 % 4096) 0)) ∧ (tkS P k m σ R 3).flt = (σ.flt || !P.ok (σ.f 2 % 4096) 0) ∧
    (tkS P k m σ R 3).H = Gd.takeH P.s σ.H (σ.f 2 % 4096) ∧ (tkS P k m σ R 3).sl = if Gd.canT P.s σ.H (σ.f 2 % 4096) = true then σ.sl else σ.sl + 1 := by
  obtain ⟨h1, e1, e2, e3, e4⟩ := tk2 (P := P) (R := R) hm hz
  have e : tkS P k m σ R 3 = { (tkS P k m σ R 2).stp.thr k (setF ((tkS P k m σ R 2).Ts k) m ⟨1, 3, updr (updr (fun i => if i < 0 then R i else 0) 0 (σ.f 2)) 1 (P.ld σ.f (σ.f 2 % 4096) 0)⟩) with
      acc := (tkS P k m σ R 2).acc + 1, f := Mm.upd (tkS P k m σ R 2).f 2 (chgI (σ.f 2) (P.ld σ.f (σ.f 2 % 4096) 0)), H := Gd.takeH P.s (tkS P k m σ R 2).H (σ.f 2 % 4096), sl := if Gd.canT P.s (tkS P k m σ R 2).H (σ.f 2 % 4096) = true then (tkS P k m σ R 2).sl else (tkS P k m σ R 2).sl + 1 } := by
    show rTake P k m (tkS P k m σ R 2).stp = _
    unfold rTake
    rw [show ((tkS P k m σ R 2).stp.Ts k).fs m = _ from h1.fs, if_neg (show ¬ (2 : Int) = 0 by omega), if_neg (show ¬ (2 : Int) = 1 by omega), if_pos rfl, if_pos (show ((tkS P k m σ R 2).stp.f 2 == (Th.Fm.mk 1 2 (updr (updr (fun i => if i < 0 then R i else 0) 0 (σ.f 2)) 1 (P.ld σ.f (σ.f 2 % 4096) 0))).r 0) = true from by show ((tkS P k m σ R 2).f 2 == σ.f 2) = true; rw [e1]; exact beq_self_eq_true _)]
    rfl
  rw [e]
  exact ⟨h1.set rfl, by rw [← e1], e2, by rw [← e3], by rw [← e3, ← e4]⟩
theorem tk4 : (tkS P k m σ R 4).f = Mm.upd σ.f 2 (chgI (σ.f 2) (P.ld σ.f (σ.f 2 % 4096) 0)) ∧ (tkS P k m σ R 4).flt = ((σ.flt || !P.ok (σ.f 2 % 4096) 0) || !P.ok (σ.f 2 % 4096) 1) ∧
    (tkS P k m σ R 4).H = Gd.takeH P.s σ.H (σ.f 2 % 4096) ∧ (tkS P k m σ R 4).sl = (if Gd.canT P.s σ.H (σ.f 2 % 4096) = true then σ.sl else σ.sl + 1) ∧
    ((tkS P k m σ R 4).Ts k).nf = m ∧ ((tkS P k m σ R 4).Ts k).ret = (fun i => if i < 1 then makeI (σ.f 2 % 4096) (P.ld (Mm.upd σ.f 2 (chgI (σ.f 2) (P.ld σ.f (σ.f 2 % 4096) 0))) (σ.f 2 % 4096) 1) else 0) ∧ ∀ i, i ≠ k → (tkS P k m σ R 4).Ts i = σ.Ts i := by
  obtain ⟨h1, e1, e2, e3, e4⟩ := tk3 (P := P) (R := R) hm hz
  have e : tkS P k m σ R 4 = { (tkS P k m σ R 3).stp.thr k (Th.backT ((tkS P k m σ R 3).Ts k) 1 (fun _ => makeI (σ.f 2 % 4096) (P.ld (tkS P k m σ R 3).f (σ.f 2 % 4096) 1))) with
      acc := (tkS P k m σ R 3).acc + 1, flt := (tkS P k m σ R 3).flt || !P.ok (σ.f 2 % 4096) 1 } := by
    show rTake P k m (tkS P k m σ R 3).stp = _
    unfold rTake
    rw [show ((tkS P k m σ R 3).stp.Ts k).fs m = _ from h1.fs, if_neg (show ¬ (3 : Int) = 0 by omega), if_neg (show ¬ (3 : Int) = 1 by omega), if_neg (show ¬ (3 : Int) = 2 by omega)]
    rfl
  rw [e]
  refine ⟨e1, by rw [← e2], e3, e4, ?_, ?_, fun i hi => ?_⟩
  · unfold Sg.thr Th.backT; simp only [if_true]; rw [h1.nf]; omega
  · unfold Sg.thr Th.backT; simp only [if_true]; rw [e1]
  · unfold Sg.thr; simp only [if_neg hi]; exact h1.oth i hi
end
theorem cfT : ∀ (args : Array Value) (w : World), (callFunc 10 args).run Try.prog w = .ok (.enter 10 args) w := fun args w => by go_simp
/-- Take, alone, where something is free. -/
theorem alone_take {w : World} {P : Pc} {σ : Sg} (h : MM w P σ) {k m most : Nat} (hk : k < P.t) (hm : (σ.Ts k).nf = m) (hN : m ≤ 1000) (h4 : 4 ≤ most) (hmo : most ≤ 1000000) (hz : ¬ σ.f 2 % 4096 = 0)
    (hlk : P.ld σ.f (σ.f 2 % 4096) 0 < 9223372036854775808) (a0 : 0 ≤ σ.acc) (a1 : σ.acc < 900000) (s0 : 0 ≤ σ.steps) (s1 : σ.steps < 900000) (hsl : σ.sl < 900000) {v : Value} {R : Nat → Int} (hu : Th.UR w v 0 R) :
    Calls Try.prog 9 #[.pointer (some ⟨P.q, 0, none⟩), .int .i64 k, .func (.func 10) #[] #[], .int .i64 most, .int .i64 1, v] w fun x w' => x = .returned (.tuple #[.int .i64 4, .bool true]) ∧ MM w' P (tkS P k m σ R 4) ∧ KA P.B P.N w w' := by
  have hrg := h.c.mem.rng
  have hbd := h.bd
  have hln : 0 ≤ P.ld σ.f (σ.f 2 % 4096) 0 := by
    unfold Pc.ld Mm.ldI
    split
    · rename_i hoo
      exact (hrg _ (by unfold Mm.okA Pc.n at hoo; simp at hoo; omega)).1
    · omega
  have hf2 := hrg 2 (by omega)
  have t0 := tk0 (P := P) (R := R) hm
  obtain ⟨t1, f1, _, _, sl1⟩ := tk1 (P := P) (R := R) hm hz
  obtain ⟨t2, f2, _, _, sl2⟩ := tk2 (P := P) (R := R) hm hz
  obtain ⟨t3, f3, _, _, sl3⟩ := tk3 (P := P) (R := R) hm hz
  obtain ⟨_, _, _, _, n4, _, _⟩ := tk4 (P := P) (R := R) hm hz
  have ha := tkS_acc (P := P) (k := k) (m := m) (σ := σ) (R := R)
  have dc : ∀ j, j < 4 → ((tkS P k m σ R j).Ts k).nf = m + 1 := fun j hj => by
    rcases (by omega : j = 0 ∨ j = 1 ∨ j = 2 ∨ j = 3) with rfl | rfl | rfl | rfl
    · exact t0.nf
    · exact t1.nf
    · exact t2.nf
    · exact t3.nf
  refine malone (L := 4) (n0 := m) (τ := tkS P k m σ R) (ρ := fun j => rTake P k m (tkS P k m σ R j).stp) h hk cfT hu hm (by omega) (by omega) hmo rfl
    (fun j _ => (Sg.odds_one (rTake_acc _ _ _ _)).symm) (fun j hj w' hm' _ => ?_) (fun j hj => ?_) (fun j hj => ?_) (fun j hj => ⟨by rw [dc j hj]; omega, by rw [dc j hj]; omega⟩) (by rw [n4]; omega)
  · have hacc := ha j
    have key : ((tkS P k m σ R j).stp.Ts k).nf = m + 1 ∧ (((tkS P k m σ R j).stp.Ts k).fs m).fn = 1 ∧ (0 ≤ (((tkS P k m σ R j).stp.Ts k).fs m).pc ∧ (((tkS P k m σ R j).stp.Ts k).fs m).pc ≤ 3) ∧
        (0 ≤ (((tkS P k m σ R j).stp.Ts k).fs m).r 0 ∧ (((tkS P k m σ R j).stp.Ts k).fs m).r 0 < 18446744073709551616) ∧ ((((tkS P k m σ R j).stp.Ts k).fs m).pc = 2 → 0 ≤ (((tkS P k m σ R j).stp.Ts k).fs m).r 1 ∧ (((tkS P k m σ R j).stp.Ts k).fs m).r 1 < 9223372036854775808) ∧ (tkS P k m σ R j).sl ≤ σ.sl + 1 := by
      rcases (by omega : j = 0 ∨ j = 1 ∨ j = 2 ∨ j = 3) with rfl | rfl | rfl | rfl
      · refine ⟨t0.nf, ?_, ?_, ?_, ?_, ?_⟩
        · rw [show ((tkS P k m σ R 0).stp.Ts k).fs m = _ from t0.fs]
        · rw [show ((tkS P k m σ R 0).stp.Ts k).fs m = _ from t0.fs]; simp
        · rw [show ((tkS P k m σ R 0).stp.Ts k).fs m = _ from t0.fs]; simp
        · rw [show ((tkS P k m σ R 0).stp.Ts k).fs m = _ from t0.fs]; simp
        · show σ.sl ≤ _; omega
      · refine ⟨t1.nf, ?_, ?_, ?_, ?_, ?_⟩
        · rw [show ((tkS P k m σ R 1).stp.Ts k).fs m = _ from t1.fs]
        · rw [show ((tkS P k m σ R 1).stp.Ts k).fs m = _ from t1.fs]; simp
        · rw [show ((tkS P k m σ R 1).stp.Ts k).fs m = _ from t1.fs]; simpa [updr] using hf2
        · rw [show ((tkS P k m σ R 1).stp.Ts k).fs m = _ from t1.fs]; simp
        · rw [sl1]; omega
      · refine ⟨t2.nf, ?_, ?_, ?_, ?_, ?_⟩
        · rw [show ((tkS P k m σ R 2).stp.Ts k).fs m = _ from t2.fs]
        · rw [show ((tkS P k m σ R 2).stp.Ts k).fs m = _ from t2.fs]; simp
        · rw [show ((tkS P k m σ R 2).stp.Ts k).fs m = _ from t2.fs]; simpa [updr] using hf2
        · rw [show ((tkS P k m σ R 2).stp.Ts k).fs m = _ from t2.fs]; intro _; simpa [updr] using And.intro hln hlk
        · rw [sl2]; omega
      · refine ⟨t3.nf, ?_, ?_, ?_, ?_, ?_⟩
        · rw [show ((tkS P k m σ R 3).stp.Ts k).fs m = _ from t3.fs]
        · rw [show ((tkS P k m σ R 3).stp.Ts k).fs m = _ from t3.fs]; simp
        · rw [show ((tkS P k m σ R 3).stp.Ts k).fs m = _ from t3.fs]; simpa [updr] using hf2
        · rw [show ((tkS P k m σ R 3).stp.Ts k).fs m = _ from t3.fs]; simp
        · rw [sl3]; split <;> omega
    obtain ⟨k1, k2, k3, k4, k5, k6⟩ := key
    have h7 : (tkS P k m σ R j).stp.acc = σ.acc + j := hacc.1
    have h8 : (tkS P k m σ R j).stp.sl ≤ σ.sl + 1 := k6
    exact sdo_take hm' hk k1 k2 k3 k4 k5 (by omega) (by omega) (by omega) hN
  · have := (ha j).2.1; omega
  · have h1 : (rTake P k m (tkS P k m σ R j).stp).acc = (tkS P k m σ R j).acc + 1 := rTake_acc _ _ _ _
    (try dsimp only)
    omega
/-- Take, alone, where nothing is free. -/
theorem alone_none {w : World} {P : Pc} {σ : Sg} (h : MM w P σ) {k m most : Nat} (hk : k < P.t) (hm : (σ.Ts k).nf = m) (hN : m ≤ 1000) (h4 : 1 ≤ most) (hmo : most ≤ 1000000) (hz : σ.f 2 % 4096 = 0)
    (a0 : 0 ≤ σ.acc) (a1 : σ.acc < 900000) (s0 : 0 ≤ σ.steps) (s1 : σ.steps < 900000) (hsl : σ.sl < 900000) {v : Value} {R : Nat → Int} (hu : Th.UR w v 0 R) :
    Calls Try.prog 9 #[.pointer (some ⟨P.q, 0, none⟩), .int .i64 k, .func (.func 10) #[] #[], .int .i64 most, .int .i64 1, v] w fun x w' => x = .returned (.tuple #[.int .i64 1, .bool true]) ∧ MM w' P (tkS P k m σ R 1) ∧ KA P.B P.N w w' := by
  have t0 := tk0 (P := P) (R := R) hm
  have e1 := tk1z (P := P) (R := R) hm hz
  have n1 : ((tkS P k m σ R 1).Ts k).nf = m := by
    rw [e1]; unfold Sg.thr Th.backT setF; simp only [if_true]
    have := t0.nf
    show ((tkS P k m σ R 0).Ts k).nf - 1 = m
    omega
  have ha := tkS_acc (P := P) (k := k) (m := m) (σ := σ) (R := R)
  refine malone (L := 1) (n0 := m) (τ := tkS P k m σ R) (ρ := fun j => rTake P k m (tkS P k m σ R j).stp) h hk cfT hu hm (by omega) (by omega) hmo rfl
    (fun j _ => (Sg.odds_one (rTake_acc _ _ _ _)).symm) (fun j hj w' hm' _ => ?_) (fun j hj => ?_) (fun j hj => ?_) (fun j hj => ?_) (by rw [n1]; omega)
  · obtain rfl : j = 0 := by omega
    refine sdo_take hm' hk t0.nf ?_ ?_ ?_ ?_ ?_ ?_ ?_ hN
    · rw [show ((tkS P k m σ R 0).stp.Ts k).fs m = _ from t0.fs]
    · rw [show ((tkS P k m σ R 0).stp.Ts k).fs m = _ from t0.fs]; simp
    · rw [show ((tkS P k m σ R 0).stp.Ts k).fs m = _ from t0.fs]; simp
    · rw [show ((tkS P k m σ R 0).stp.Ts k).fs m = _ from t0.fs]; simp
    · show 0 ≤ σ.acc; omega
    · show σ.acc < _; omega
    · show σ.sl < _; omega
  · have := (ha j).2.1; omega
  · have h1 : (rTake P k m (tkS P k m σ R j).stp).acc = (tkS P k m σ R j).acc + 1 := rTake_acc _ _ _ _
    (try dsimp only)
    omega
  · obtain rfl : j = 0 := by omega
    exact ⟨by rw [t0.nf]; omega, by rw [t0.nf]; omega⟩
end Go.Proofs.Ytlahpnigabfenaa

/- Layer 17 and on: all threads go on alone, one behind the other, to their ends. -/
namespace Go.Proofs.Ytlahpnigabfenaa
open Go.RowKit WordM EdgeM
set_option linter.unusedVariables false
set_option linter.unusedSimpArgs false
set_option maxRecDepth 8000 in
set_option maxHeartbeats 2000000 in
theorem mends {w : World} {P : Pc} {σ : Sg} {fid : FuncId} {caps : Array Value} {J : Sg → Nat → Prop} {rk : Sg → Nat → Nat} {most n0 : Nat} (h : MM w P σ) (hj : J σ n0) (hm : most ≤ 1000000)
    (hr : ∀ σ n, J σ n → ∀ k, k < P.t → (0 < (σ.Ts k).nf → 1 ≤ rk σ k) ∧ rk σ k ≤ most)
    (hst : ∀ w' σ n k, MM w' P σ → J σ n → n ≤ n0 + P.t * most → k < P.t → 0 < (σ.Ts k).nf → Calls Try.prog 23 #[.pointer (some ⟨P.q, 0, none⟩), .int .i64 k, .func (.func fid) #[] caps] w' fun x w'' => ∃ σ', x = .returned (.bool (decide (0 < (σ'.Ts k).nf))) ∧ MM w'' P σ' ∧ KA P.B P.N w' w'' ∧ J σ' (n + 1) ∧ (∀ i, i ≠ k → σ'.Ts i = σ.Ts i) ∧ ((σ'.Ts k).nf = 0 ∨ rk σ' k < rk σ k)) :
    Calls Try.prog 27 #[.pointer (some ⟨P.q, 0, none⟩), .func (.func fid) #[] caps, .int .i64 most] w fun x w' => ∃ σ' n', x = .returned (.bool true) ∧ MM w' P σ' ∧ KA P.B P.N w w' ∧ J σ' n' ∧ n' ≤ n0 + P.t * most ∧ ∀ i, i < P.t → (σ'.Ts i).nf = 0 := by
  refine Calls.veil fun Q HQ => ?_
  have HH := Lib.hid h; have HJ := Lib.hid hj; have HR := Lib.hid hr; have HS := Lib.hid hst
  have ht6 : P.t ≤ 6 := h.bd.1.2
  clear h hj hr hst
  go_enter Try.func27, Try.ntmps27
  go_wp2_with fail
  go_loopw [7] (fun tv wr => ∃ k : Nat, k ≤ P.t ∧ tv = .int .i64 k ∧ ∃ (σ : Sg) (n : Nat), Hid (MM wr P σ) ∧ Hid (J σ n) ∧ Hid (n ≤ n0 + k * most) ∧ Hid (∀ i, i < k → (σ.Ts i).nf = 0) ∧ Hid (KA P.B P.N w wr)) (fun tv _ => P.t - (intOf tv).toNat)
  case atStart => exact ⟨0, Nat.zero_le _, rfl, σ, n0, HH, HJ, Lib.hid (by omega), Lib.hid (fun i hi => absurd hi (Nat.not_lt_zero i)), Lib.hid (KA.refl _ _ _)⟩
  case round =>
    clear HH HJ
    obtain ⟨k, hk, rfl, σ1, n1, HM1, HJ1, HN1, HZ1, HK1⟩ := hrel
    go_wp2_with fail
    refine (cThreads HM1.out.c).mono ?_; rintro _ _ ⟨rfl, rfl⟩
    rcases (by omega : k < P.t ∨ k = P.t) with hlt | heq
    · have hkt : (k : Int) < P.t := by omega
      have HK := Lib.hid hlt
      have HK2 := Lib.hid (show (k + 1) * most ≤ P.t * most from Nat.mul_le_mul_right _ hlt)
      go_wp2_with fail
      go_loopw [8] (fun iv wr => ∃ j : Nat, j ≤ most ∧ iv = .int .i64 j ∧ ∃ (σ : Sg) (n : Nat), Hid (MM wr P σ) ∧ Hid (J σ n) ∧ Hid (n ≤ n0 + k * most + j) ∧ Hid (∀ i, i < k → (σ.Ts i).nf = 0) ∧ Hid (KA P.B P.N w wr) ∧ Hid ((σ.Ts k).nf = 0 ∨ rk σ k + j ≤ most)) (fun iv _ => most - (intOf iv).toNat)
      case atStart => exact ⟨0, Nat.zero_le _, rfl, σ1, n1, HM1, HJ1, Lib.hid (by have := HN1.out; omega), HZ1, HK1, Lib.hid (.inr (by have := (HR.out _ _ HJ1.out k HK.out).2; omega))⟩
      case round =>
        clear HM1 HJ1 HN1 HZ1 HK1
        obtain ⟨j, hj, rfl, σ2, n2, HM2, HJ2, HN2, HZ2, HK2', HW2⟩ := hrel
        rcases (by omega : j < most ∨ j = most) with hjl | hje
        · have hji : (j : Int) < most := by omega
          go_wp2_with fail
          refine (cThread_yes HM2.out.c k HK.out).mono ?_; rintro _ wa ⟨rfl, hb⟩
          have HM3 := Lib.hid (HM2.out.below hb); have HK3 := Lib.hid (HK2'.out.trans (KA.of_below hb))
          clear hb HM2 HK2'
          go_wp2_with fail
          refine (mdepth HM3.out HK.out).mono ?_; rintro _ _ ⟨rfl, rfl⟩
          by_cases h0 : (σ2.Ts k).nf = 0
          · have HZ := Lib.hid h0
            rw [h0]
            clear h0
            go_wp2_with fail
            refine (cThread_yes HM3.out.c k HK.out).mono ?_; rintro _ we ⟨rfl, hb⟩
            have HM9 := Lib.hid (HM3.out.below hb); have HK9 := Lib.hid (HK3.out.trans (KA.of_below hb))
            clear hb
            go_wp2_with fail
            refine (mdepth HM9.out HK.out).mono ?_; rintro _ _ ⟨rfl, rfl⟩
            rw [HZ.out]
            go_wp2_with fail
            go_roundw
            case rel => exact ⟨k + 1, by omega, by go_num, σ2, n2, HM9, HJ2, Lib.hid (by have := HN2.out; rw [Nat.succ_mul]; omega), Lib.hid (fun i hi => by rcases (by omega : i < k ∨ i = k) with h | rfl; exact HZ2.out i h; exact HZ.out), HK9⟩
            case measure => simp [intOf]; omega
          · have HP := Lib.hid (show 0 < (σ2.Ts k).nf by omega)
            have hnn : (0 : Int) < ((σ2.Ts k).nf : Int) := by omega
            generalize ((σ2.Ts k).nf : Int) = nn at hnn
            clear h0
            go_wp2_with fail
            clear hnn
            refine (HS.out wa σ2 n2 k HM3.out HJ2.out (by have := HN2.out; have := HK2.out; rw [Nat.succ_mul] at this; omega) HK.out HP.out).mono ?_
            rintro _ wb ⟨σ3, rfl, hm4, hk4, hj4, ho4, hr4⟩
            have HM4 := Lib.hid hm4; have HK4 := Lib.hid (HK3.out.trans hk4); have HJ4 := Lib.hid hj4; have HO4 := Lib.hid ho4; have HR4 := Lib.hid hr4
            clear hm4 hk4 hj4 ho4 hr4
            generalize decide (0 < (σ3.Ts k).nf) = dn
            go_wp2_with fail
            go_roundw
            case rel =>
              refine ⟨j + 1, by omega, by go_num, σ3, n2 + 1, HM4, HJ4, Lib.hid (by have := HN2.out; omega), Lib.hid (fun i hi => by rw [HO4.out i (by omega)]; exact HZ2.out i hi), HK4, Lib.hid ?_⟩
              rcases HR4.out with e | e
              · exact .inl e
              · right
                have hp := HP.out
                rcases HW2.out with e2 | e2
                · omega
                · omega
            case measure => simp [intOf]; omega
        · have hji : ¬ (j : Int) < most := by omega
          have HM3 := HM2; have HK3 := HK2'
          have HZ := Lib.hid (show (σ2.Ts k).nf = 0 by
            have h1 := HR.out _ _ HJ2.out k HK.out
            rcases HW2.out with e | e
            · exact e
            · by_cases hz : 0 < (σ2.Ts k).nf
              · have := h1.1 hz; omega
              · omega)
          clear HM2 HK2'
          go_wp2_with fail
          refine (cThread_yes HM3.out.c k HK.out).mono ?_; rintro _ we ⟨rfl, hb⟩
          have HM9 := Lib.hid (HM3.out.below hb); have HK9 := Lib.hid (HK3.out.trans (KA.of_below hb))
          clear hb
          go_wp2_with fail
          refine (mdepth HM9.out HK.out).mono ?_; rintro _ _ ⟨rfl, rfl⟩
          rw [HZ.out]
          go_wp2_with fail
          go_roundw
          case rel => exact ⟨k + 1, by omega, by go_num, σ2, n2, HM9, HJ2, Lib.hid (by have := HN2.out; rw [Nat.succ_mul]; omega), Lib.hid (fun i hi => by rcases (by omega : i < k ∨ i = k) with h | rfl; exact HZ2.out i h; exact HZ.out), HK9⟩
          case measure => simp [intOf]; omega
    · have heq := heq.symm
      subst heq
      have hkt : ¬ (P.t : Int) < P.t := by omega
      go_wp2_with fail
      (try go_ret)
      rw [HQ.out]
      exact ⟨σ1, n1, rfl, HM1.out, HK1.out, HJ1.out, HN1.out, HZ1.out⟩
end Go.Proofs.Ytlahpnigabfenaa
