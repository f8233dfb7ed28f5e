/- RwA: several texts in one. -/
import Derived.Test.YtjpkmkaiojnhgaaRouB
/- Layer 17 and on: what a write, a call, a change of the guard leave of a machine. -/
namespace Go.Proofs.Ytjpkmkaiojnhgaa
open Go.RowKit WordM EdgeM
set_option linter.unusedVariables false
set_option linter.unusedSimpArgs false
theorem MC.ksT {w w' : World} {B q pl mb mg C gq gg gm : Nat} {fv : Value} {tq : Nat → Nat} {t s : Nat} {K : Int} {f : Nat → Int} {acc : Int} {flt : Bool} {H : Nat → Bool} {G : Nat → Int} {sl steps : Int} {odd : Bool} (h : MC w B q pl mb mg C gq gg gm fv tq t s K f acc flt H G sl steps odd)
    {X : Nat} {cur : Array Value} {T : TypeId} (hX : w.heap[X]? = some (.cells cur T (0, 0))) (hq : q < X) (hT : 43 ≠ T) (k : Th.KS (fun j => j = X) w w') : MC w' B q pl mb mg C gq gg gm fv tq t s K f acc flt H G sl steps odd := by
  have hl := h.qlt
  refine h.keep ((k.block q (by omega) (by omega)).trans h.blk) (h.mem.keep k.size (k.block mb (by omega) (by omega)) (k.block mg (by omega) (by omega))) fun j hj _ _ _ hc => k.block j hj ?_
  rcases hc with hc | hc
  · omega
  · obtain ⟨_, _, c2, h2⟩ := h.ths.blk hc
    exact ty_ne h2 hX hT
theorem MC.kqF {w w' : World} {B q pl mb mg C gq gg gm : Nat} {fv : Value} {tq : Nat → Nat} {t s : Nat} {K : Int} {f : Nat → Int} {acc : Int} {flt : Bool} {H : Nat → Bool} {G : Nat → Int} {sl steps : Int} {odd : Bool} (h : MC w B q pl mb mg C gq gg gm fv tq t s K f acc flt H G sl steps odd)
    {Ts : Nat → Th.Td} {ps : Nat → Nat → Nat} {fvs : Nat → Value} (tf : TF w q t tq Ts ps fvs) {k : Nat} (hk : k < t) (kq : Th.KQ w w' (tq k) (fvs k) (.slice none 0 0)) : MC w' B q pl mb mg C gq gg gm fv tq t s K f acc flt H G sl steps odd := by
  have hl := h.qlt
  obtain ⟨hB, ck, hck⟩ := (tf.th k hk).blk
  have lo : ∀ j, j < w.heap.size → j ≤ q → w'.heap[j]? = w.heap[j]? := fun j hj h1 => kq.block j hj (by omega) (fun e => by have := ((tf.th k hk).own e).1; omega) (fun e => by cases e)
  refine h.keep ((lo q (by omega) (Nat.le_refl _)).trans h.blk) (h.mem.keep kq.size (lo mb (by omega) (by omega)) (lo mg (by omega) (by omega))) fun j hj _ _ _ hc => ?_
  rcases hc with hc | hc
  · exact lo j hj (by omega)
  · obtain ⟨_, _, c2, h2⟩ := h.ths.blk hc
    refine kq.block j hj (ty_ne h2 hck (by decide)) (fun e => ?_) (fun e => by cases e)
    obtain ⟨_, _, c3, h3⟩ := (tf.th k hk).own e
    exact ty_ne h2 h3 (by decide) rfl
theorem MC.gd {w w' : World} {B q pl mb mg C gq gg gm : Nat} {fv : Value} {tq : Nat → Nat} {t s : Nat} {K : Int} {f : Nat → Int} {acc : Int} {flt : Bool} {H H' : Nat → Bool} {G G' : Nat → Int} {sl sl' steps : Int} {odd : Bool} (h : MC w B q pl mb mg C gq gg gm fv tq t s K f acc flt H G sl steps odd)
    (k : Gd.K3 w w' gq gg gm) (hg : Gd.GA w' gq gg gm s H' G' sl') : MC w' B q pl mb mg C gq gg gm fv tq t s K f acc flt H' G' sl' steps odd := by
  have o2 := h.o2; have o3 := h.o3; have o4 := h.o4; have o5 := h.o5
  have hl := h.qlt
  have kp : ∀ j, j < w.heap.size → j ≠ gq → j ≠ gg → j ≠ gm → w'.heap[j]? = w.heap[j]? := fun j h0 h1 h2 h3 => k.block j h0 h1 h2 h3
  exact ⟨(kp q (by omega) (by omega) (by omega) (by omega)).trans h.blk, (kp pl (by omega) (by omega) (by omega) (by omega)).trans h.pln,
    h.mem.keep k.size (kp mb (by omega) (by omega) (by omega) (by omega)) (kp mg (by omega) (by omega) (by omega) (by omega)), hg,
    h.ths.of fun b hb => kp b (h.ths.blk hb).2.1 (by have := (h.ths.blk hb).1; omega) (by have := (h.ths.blk hb).1; omega) (by have := (h.ths.blk hb).1; omega), h.tlo, h.o1, h.o2, h.o3, h.o4, h.o5, h.may⟩
end Go.Proofs.Ytjpkmkaiojnhgaa

/- Layer 17 and on: a machine and its threads as one. -/
namespace Go.Proofs.Ytjpkmkaiojnhgaa
open Go.RowKit WordM EdgeM
set_option linter.unusedVariables false
set_option linter.unusedSimpArgs false
/-- Where a machine lies. -/
structure Pc where
  B : Nat
  q : Nat
  pl : Nat
  mb : Nat
  mg : Nat
  C : Nat
  gq : Nat
  gg : Nat
  gm : Nat
  fv : Value
  tq : Nat → Nat
  t : Nat
  s : Nat
  K : Int
  N : Nat
/-- What a machine has. -/
structure Sg where
  f : Nat → Int
  acc : Int
  flt : Bool
  H : Nat → Bool
  G : Nat → Int
  sl : Int
  steps : Int
  odd : Bool
  Ts : Nat → Th.Td
structure MM (w : World) (P : Pc) (σ : Sg) : Prop where
  c : MC w P.B P.q P.pl P.mb P.mg P.C P.gq P.gg P.gm P.fv P.tq P.t P.s P.K σ.f σ.acc σ.flt σ.H σ.G σ.sl σ.steps σ.odd
  th : ∃ ps fvs, TF w P.q P.t P.tq σ.Ts ps fvs
  qN : P.q < P.N
  tN : ∀ i, i < P.t → P.tq i < P.N
  NS : P.N ≤ w.heap.size
/-- A block of frames. -/
def MT (w : World) (j : Nat) : Prop := ∃ cur, w.heap[j]? = some (.cells cur 61 (0, 0)) ∨ w.heap[j]? = some (.cells cur 62 (0, 0))
/-- What else there is stays as it is. -/
def KA (B N : Nat) (w w' : World) : Prop := Th.KS (fun j => B ≤ j ∧ (j < N ∨ MT w j)) w w'
theorem KA.trans {B N : Nat} {a b c : World} (h : KA B N a b) (k : KA B N b c) : KA B N a c := by
  refine ⟨k.os.trans h.os, k.tape.trans h.tape, k.output.trans h.output, Nat.le_trans h.size k.size, fun j hj hx => ?_⟩
  have e := h.block j hj hx
  refine (k.block j (Nat.lt_of_lt_of_le hj h.size) fun hy => hx ?_).trans e
  rcases hy with ⟨hb, hy | ⟨cur, hy⟩⟩
  · exact ⟨hb, .inl hy⟩
  · rw [e] at hy; exact ⟨hb, .inr ⟨cur, hy⟩⟩
theorem KA.of_below {B N : Nat} {w w' : World} (h : Below w.heap.size w w') : KA B N w w' := Th.KS.of_below h
theorem KA.below {N : Nat} {w0 w w' : World} (h : Below w0.heap.size w0 w) (k : KA w0.heap.size N w w') : Below w0.heap.size w0 w' :=
  ⟨k.os.trans h.os, k.tape.trans h.tape, k.output.trans h.output, Nat.le_trans h.size k.size, fun j hj => (k.block j (Nat.lt_of_lt_of_le hj h.size) (by omega)).trans (h.block j hj)⟩
theorem KA.refl (B N : Nat) (w : World) : KA B N w w := .of_below (Below.refl _ _)
theorem KA.ks {B N : Nat} {w w' : World} {X : Nat → Prop} (h : Th.KS X w w') (k : ∀ j, X j → B ≤ j ∧ (j < N ∨ MT w j)) : KA B N w w' := h.mono k
/-- A block of another type that stands outside stays. -/
theorem KA.keep {B N : Nat} {w w' : World} (h : KA B N w w') {j : Nat} {cur : Array Value} {T : TypeId} (hj : w.heap[j]? = some (.cells cur T (0, 0))) (ho : j < B ∨ N ≤ j) (h1 : 61 ≠ T) (h2 : 62 ≠ T) : w'.heap[j]? = w.heap[j]? := by
  refine h.block j (Th.blk_lt hj) ?_
  rintro ⟨hb, e | ⟨c, e | e⟩⟩
  · omega
  · exact h1 (by rw [hj] at e; simp only [Option.some.injEq, Obj.cells.injEq] at e; exact e.2.1.symm)
  · exact h2 (by rw [hj] at e; simp only [Option.some.injEq, Obj.cells.injEq] at e; exact e.2.1.symm)
section
variable {w w' : World} {P : Pc} {σ : Sg}
theorem MM.below (h : MM w P σ) (k : Below w.heap.size w w') : MM w' P σ := by
  obtain ⟨ps, fvs, tf⟩ := h.th
  exact ⟨h.c.below k, ⟨ps, fvs, tf.below k⟩, h.qN, h.tN, Nat.le_trans h.NS k.size⟩
theorem MM.bd (h : MM w P σ) : (1 ≤ P.t ∧ P.t ≤ 6) ∧ (7 ≤ P.s ∧ P.s ≤ 250) := h.c.bd
theorem MM.ord (h : MM w P σ) : (P.B ≤ P.mb ∧ P.mb < P.N) ∧ (P.B ≤ P.mg ∧ P.mg < P.N) ∧ (P.B ≤ P.gq ∧ P.gq < P.N) ∧ (P.B ≤ P.gg ∧ P.gg < P.N) ∧ (P.B ≤ P.gm ∧ P.gm < P.N) ∧ (P.B ≤ P.q ∧ P.q < P.N) ∧ (∀ i, i < P.t → P.B ≤ P.tq i ∧ P.tq i < P.N) := by
  have o1 := h.c.o1; have o2 := h.c.o2; have o3 := h.c.o3; have o4 := h.c.o4; have o5 := h.c.o5; have o6 := h.qN
  refine ⟨by omega, by omega, by omega, by omega, by omega, by omega, fun i hi => ?_⟩
  have := h.c.tlo i hi
  have := h.tN i hi
  omega
/-- What a step changes lies in the machine. -/
theorem MM.ka (h : MM w P σ) {ps : Nat → Nat → Nat} {fvs : Nat → Value} (tf : TF w P.q P.t P.tq σ.Ts ps fvs) {k m : Nat} (hk : k < P.t) {X : Nat → Prop} (ks : Th.KS X w w') (hx : ∀ j, X j → j = P.mb ∨ j = P.mg ∨ j = P.gq ∨ j = P.gg ∨ j = P.gm ∨ j = P.q ∨ j = P.tq k ∨ (fvs k).ownBlock = some j ∨ (m < (σ.Ts k).nf ∧ j = ps k m)) : KA P.B P.N w w' := by
  obtain ⟨o1, o2, o3, o4, o5, o6, o7⟩ := h.ord
  refine KA.ks ks fun j hj => ?_
  rcases hx j hj with rfl | rfl | rfl | rfl | rfl | rfl | rfl | e | ⟨hm, rfl⟩
  · exact ⟨o1.1, .inl o1.2⟩
  · exact ⟨o2.1, .inl o2.2⟩
  · exact ⟨o3.1, .inl o3.2⟩
  · exact ⟨o4.1, .inl o4.2⟩
  · exact ⟨o5.1, .inl o5.2⟩
  · exact ⟨o6.1, .inl o6.2⟩
  · exact ⟨(o7 k hk).1, .inl (o7 k hk).2⟩
  · obtain ⟨h1, _, c, hc⟩ := (tf.th k hk).own e
    exact ⟨by omega, .inr ⟨c, .inr hc⟩⟩
  · obtain ⟨h1, _, c, hc⟩ := (tf.th k hk).frm hm
    exact ⟨by omega, .inr ⟨c, .inl hc⟩⟩
theorem MM.kq (h : MM w P σ) {ps : Nat → Nat → Nat} {fvs : Nat → Value} (tf : TF w P.q P.t P.tq σ.Ts ps fvs) {k : Nat} (hk : k < P.t) (kq : Th.KQ w w' (P.tq k) (fvs k) (.slice none 0 0)) : KA P.B P.N w w' :=
  h.ka tf hk (m := 0) (X := fun j => j = P.tq k ∨ (fvs k).ownBlock = some j) ⟨kq.os, kq.tape, kq.output, kq.size, fun j hj hx => kq.block j hj (fun e => hx (.inl e)) (fun e => hx (.inr e)) (fun e => by cases e)⟩ fun j hj => by
    rcases hj with e | e
    · exact .inr (.inr (.inr (.inr (.inr (.inr (.inl e))))))
    · exact .inr (.inr (.inr (.inr (.inr (.inr (.inr (.inl e)))))))
end
/-- A machine at first. -/
def sgInit (t s : Nat) : Sg := ⟨partF t 3 s, 0, false, fun i => decide (i < 5), fun _ => 0, 0, 0, false, fun _ => Th.T0⟩
theorem MM.init {w w' : World} {q pl mb mg C gq gg gm : Nat} {fv : Value} {tq : Nat → Nat} {t s : Nat} {K : Int} (h : MI w' w.heap.size q pl mb mg C gq gg gm fv tq t s K (partF t 3 s) 0 false (fun i => decide (i < 5)) (fun _ => 0) 0 0 false) (hi : ∀ i j, i < t → j < t → tq i = tq j → i = j) :
    MM w' ⟨w.heap.size, q, pl, mb, mg, C, gq, gg, gm, fv, tq, t, s, K, w'.heap.size⟩ (sgInit t s) :=
  ⟨h.mc, ⟨_, _, TF.init h hi⟩, Th.blk_lt h.blk, fun i hi => Th.blk_lt (h.thr i hi).2, Nat.le_refl _⟩
/-! ### A thread is called, and one's frame is asked -/
def Sg.thr (σ : Sg) (k : Nat) (T : Th.Td) : Sg := { σ with Ts := fun i => if i = k then T else σ.Ts i }
theorem mcall {w : World} {P : Pc} {σ : Sg} (h : MM w P σ) {k : Nat} (hk : k < P.t) (fn : Int) {v : Value} {n : Nat} {L : Nat → Int} (hu : Th.UR w v n L) (hf : (σ.Ts k).nf ≤ 100000) :
    Calls Try.prog 17 #[.pointer (some ⟨P.tq k, 0, none⟩), .int .i64 fn, v] w fun e w' => e = .returned (.tuple #[]) ∧ MM w' P (σ.thr k (Th.callT (σ.Ts k) fn n L)) ∧ KA P.B P.N w w' := by
  obtain ⟨ps, fvs, tf⟩ := h.th
  have hth := tf.th k hk
  refine (Th.fcallX hth.a fn hu (by have := h.c.qlt; omega) (by omega)).mono ?_
  rintro _ w' ⟨rfl, ⟨b, fv', hb, ha, ho⟩, kq⟩
  refine ⟨rfl, ⟨h.c.kqF tf hk kq, ⟨_, _, tf.one (p' := fun i => if i = (σ.Ts k).nf then b else ps k i) hk ⟨ha, hth.r, hth.s⟩ kq ho fun a h1 => ?_⟩, h.qN, h.tN, Nat.le_trans h.NS kq.size⟩, h.kq tf hk kq⟩
  have h2 : a < (σ.Ts k).nf + 1 := h1
  by_cases e : a = (σ.Ts k).nf
  · right; simp only [if_pos e]; exact hb
  · left; simp only [if_neg e]; exact ⟨by omega, trivial⟩
theorem mdepth {w : World} {P : Pc} {σ : Sg} (h : MM w P σ) {k : Nat} (hk : k < P.t) : Calls Try.prog 16 #[.pointer (some ⟨P.tq k, 0, none⟩)] w fun e w' => e = .returned (.int .i64 (σ.Ts k).nf) ∧ w = w' := by
  obtain ⟨ps, fvs, tf⟩ := h.th
  exact Th.fdepth (tf.th k hk).a
end Go.Proofs.Ytjpkmkaiojnhgaa

/- Layer 17 and on: Step, and a routine alone, whatever the routine. -/
namespace Go.Proofs.Ytjpkmkaiojnhgaa
open Go.RowKit WordM EdgeM
set_option linter.unusedVariables false
set_option linter.unusedSimpArgs false
theorem qRN : ∀ w : World, (binOp BinOp.eql 85 .nilFunc .nilFunc).run Try.prog w = .ok (.bool true) w := fun _ => by kernel_rfl
theorem qRF (fid : FuncId) (caps : Array Value) : ∀ w : World, (binOp BinOp.eql 85 (.func (.func fid) #[] caps) .nilFunc).run Try.prog w = .ok (.bool false) w := fun _ => by kernel_rfl
def Sg.stp (σ : Sg) : Sg := { σ with steps := σ.steps + 1 }
def Sg.odds (σ : Sg) (a : Int) : Sg := { σ with odd := σ.odd || decide (1 < σ.acc - a) }
theorem MM.setq {w w' : World} {P : Pc} {σ : Sg} {steps' : Int} {odd' : Bool} (h : MM w P σ) (hq : w'.heap[P.q]? = some (.cells (machC P.pl P.mb P.gq P.fv steps' odd') 78 (0, 0))) (hs : w.heap.size ≤ w'.heap.size) (k : ∀ j, j ≠ P.q → w'.heap[j]? = w.heap[j]?) (ho : w'.os = w.os ∧ w'.tape = w.tape ∧ w'.output = w.output) :
    MM w' P { σ with steps := steps', odd := odd' } ∧ KA P.B P.N w w' := by
  obtain ⟨ps, fvs, tf⟩ := h.th
  refine ⟨⟨h.c.setq hq hs k, ⟨ps, fvs, tf.hi hs fun j _ hj => k j (by omega)⟩, h.qN, h.tN, Nat.le_trans h.NS hs⟩, ⟨ho.1, ho.2.1, ho.2.2, hs, fun j hj hx => k j fun e => hx (by rw [e]; exact ⟨h.ord.2.2.2.2.2.1.1, .inl h.ord.2.2.2.2.2.1.2⟩)⟩⟩
set_option maxRecDepth 8000 in
set_option maxHeartbeats 2000000 in
theorem mstep {w : World} {P : Pc} {σ σ' : Sg} {fid : FuncId} {caps : Array Value} (h : MM w P σ) {k : Nat} (hk : k < P.t) (hd : 0 < (σ.Ts k).nf) (hcf : ∀ (args : Array Value) (w : World), (callFunc fid args).run Try.prog w = .ok (.enter fid args) w)
    (hdo : ∀ w', MM w' P σ.stp → KA P.B P.N w w' → Calls Try.prog fid (#[.pointer (some ⟨P.q, 0, none⟩), .int .i64 k] ++ caps) w' fun x w'' => x = .returned (.tuple #[]) ∧ MM w'' P σ' ∧ KA P.B P.N w' w'')
    (s0 : 0 ≤ σ.steps) (s1 : σ.steps < 1000000) (hac : -1000000 ≤ σ'.acc - σ.acc ∧ σ'.acc - σ.acc < 1000000) (hn : (σ.Ts k).nf ≤ 1000000) (hn' : (σ'.Ts k).nf ≤ 1000000) :
    Calls Try.prog 19 #[.pointer (some ⟨P.q, 0, none⟩), .int .i64 k, .func (.func fid) #[] caps] w fun x w' => x = .returned (.bool (decide (0 < (σ'.Ts k).nf))) ∧ MM w' P (σ'.odds σ.acc) ∧ KA P.B P.N w w' := by
  refine Calls.veil fun Q HQ => ?_
  have HH := Lib.hid h
  have HDO := Lib.hid hdo; have HCF := Lib.hid hcf
  obtain ⟨nk, hnk⟩ : ∃ nk, (σ.Ts k).nf = nk := ⟨_, rfl⟩
  have HNK := Lib.hid hnk
  obtain ⟨nj, hnj⟩ : ∃ nj, (σ'.Ts k).nf = nj := ⟨_, rfl⟩
  have HNJ := Lib.hid hnj
  rw [hnk] at hd hn
  rw [hnj] at hn' HQ
  have he1 : ¬ (nk : Int) = 0 := by omega
  have qn := qRF fid caps
  have HAC := Lib.hid hac
  clear h hdo hd hcf hnk hnj hac
  go_enter Try.func19, Try.ntmps19
  go_wp2_with fail
  refine (cThread_yes HH.out.c k hk).mono ?_; rintro _ w1 ⟨rfl, hb1⟩
  have HM1 := Lib.hid (HH.out.below hb1); have HB1 := Lib.hid hb1
  clear hb1
  go_wp2_with fail
  refine (mdepth HM1.out hk).mono ?_; rintro _ _ ⟨rfl, rfl⟩
  rw [HNK.out]
  have c1 := HM1.out.c.c1
  go_wp2_with fail
  refine (Mm.maccs _ _ _ _ _ _ _ _ HM1.out.c.mem).mono ?_; rintro _ _ ⟨rfl, rfl⟩
  have c4 := HM1.out.c.c4
  have cf : ∀ i, w1.frozen? ⟨P.q, i, none⟩ = false := fun i => frozen_of_row _ _ _ _ _ HM1.out.c.blk
  go_upto_region 6 with fail
  generalize hV : World.setCell _ _ _ = V
  have hvq : V.heap[P.q]? = some (.cells (machC P.pl P.mb P.gq P.fv (σ.steps + 1) σ.odd) 78 (0, 0)) := by rw [← hV]; exact heap_setCell_same _ P.q 4 _ _ _ HM1.out.c.blk
  have hvo : ∀ j, j ≠ P.q → V.heap[j]? = w1.heap[j]? := fun j hj => by rw [← hV]; exact Below.heap_setCell _ _ _ _ hj
  have hvs : V.heap.size = w1.heap.size := by rw [← hV]; simp [World.setCell]
  have hos : V.os = w1.os ∧ V.tape = w1.tape ∧ V.output = w1.output := by rw [← hV]; exact ⟨rfl, rfl, rfl⟩
  obtain ⟨hmv, hkv⟩ := HM1.out.setq hvq (by omega) hvo hos
  have HMV := Lib.hid (show MM V P σ.stp from hmv); have HKV := Lib.hid ((KA.of_below HB1.out : KA P.B P.N w w1).trans hkv)
  clear hV hvq hvo hvs hos hmv hkv HM1 c1 c4 cf qn
  have hcf := HCF.out
  go_wp2_with fail
  clear hcf
  refine (HDO.out V HMV.out HKV.out).mono ?_; rintro _ w5 ⟨rfl, hm5, hk5⟩
  have HM5 := Lib.hid hm5; have HK5 := Lib.hid (HKV.out.trans hk5)
  clear hm5 hk5 HMV HKV
  have c1 := HM5.out.c.c1
  go_wp2_with fail
  refine (Mm.maccs _ _ _ _ _ _ _ _ HM5.out.c.mem).mono ?_; rintro _ _ ⟨rfl, rfl⟩
  have HW := Lib.hid (show IntKind.i64.wrap (σ'.acc - σ.acc) = σ'.acc - σ.acc by have := HAC.out; rw [IntKind.wrap_i64]; omega)
  have hwa := HW.out
  by_cases hn1 : 1 < σ'.acc - σ.acc
  · have c5 := HM5.out.c.c5
    have cf : ∀ i, w5.frozen? ⟨P.q, i, none⟩ = false := fun i => frozen_of_row _ _ _ _ _ HM5.out.c.blk
    go_upto_region 9 with fail
    generalize hV : World.setCell _ _ _ = V
    have hvq : V.heap[P.q]? = some (.cells (machC P.pl P.mb P.gq P.fv σ'.steps true) 78 (0, 0)) := by rw [← hV]; exact heap_setCell_same _ P.q 5 _ _ _ HM5.out.c.blk
    have hvo : ∀ j, j ≠ P.q → V.heap[j]? = w5.heap[j]? := fun j hj => by rw [← hV]; exact Below.heap_setCell _ _ _ _ hj
    have hvs : V.heap.size = w5.heap.size := by rw [← hV]; simp [World.setCell]
    have hos : V.os = w5.os ∧ V.tape = w5.tape ∧ V.output = w5.output := by rw [← hV]; exact ⟨rfl, rfl, rfl⟩
    obtain ⟨hmv, hkv⟩ := HM5.out.setq hvq (by omega) hvo hos
    have HM6 := Lib.hid (show MM V P (σ'.odds σ.acc) by unfold Sg.odds; rw [decide_eq_true hn1, Bool.or_true]; exact hmv)
    have HK6 := Lib.hid (HK5.out.trans hkv)
    clear hV hvq hvo hvs hos hmv hkv c1 c5 cf HM5 HK5 hn1 hwa
    go_wp2_with fail
    refine (mdepth HM6.out hk).mono ?_; rintro _ _ ⟨rfl, rfl⟩
    rw [show ((σ'.odds σ.acc).Ts k).nf = nj from HNJ.out]
    go_wp2_with fail
    (try go_ret)
    rw [HQ.out]
    exact ⟨by simp, HM6.out, HK6.out⟩
  · go_upto_region 9 with fail
    have HM6 := Lib.hid (show MM w5 P (σ'.odds σ.acc) by unfold Sg.odds; rw [decide_eq_false (by omega), Bool.or_false]; exact HM5.out)
    clear c1 hn1 hwa HM5
    go_wp2_with fail
    refine (mdepth HM6.out hk).mono ?_; rintro _ _ ⟨rfl, rfl⟩
    rw [show ((σ'.odds σ.acc).Ts k).nf = nj from HNJ.out]
    go_wp2_with fail
    (try go_ret)
    rw [HQ.out]
    exact ⟨by simp, HM6.out, HK5.out⟩
/-! ### A routine alone -/
set_option maxRecDepth 8000 in
set_option maxHeartbeats 2000000 in
theorem malone {w : World} {P : Pc} {σ : Sg} {fid : FuncId} {caps : Array Value} {τ ρ : Nat → Sg} {k L most n n0 : Nat} {fn : Int} {v : Value} {R : Nat → Int} (h : MM w P σ) (hk : k < P.t) (hcf : ∀ (args : Array Value) (w : World), (callFunc fid args).run Try.prog w = .ok (.enter fid args) w)
    (hu : Th.UR w v n R) (hn0 : (σ.Ts k).nf = n0) (hn1 : n0 ≤ 10000) (hL : 1 ≤ L ∧ L ≤ most) (hm : most ≤ 1000000) (h0 : τ 0 = σ.thr k (Th.callT (σ.Ts k) fn n R)) (hs : ∀ j, j < L → τ (j + 1) = (ρ j).odds (τ j).acc)
    (hdo : ∀ j, j < L → ∀ w', MM w' P (τ j).stp → KA P.B P.N w w' → Calls Try.prog fid (#[.pointer (some ⟨P.q, 0, none⟩), .int .i64 k] ++ caps) w' fun x w'' => x = .returned (.tuple #[]) ∧ MM w'' P (ρ j) ∧ KA P.B P.N w' w'')
    (hst : ∀ j, j < L → 0 ≤ (τ j).steps ∧ (τ j).steps < 1000000) (hac : ∀ j, j < L → -1000000 ≤ (ρ j).acc - (τ j).acc ∧ (ρ j).acc - (τ j).acc < 1000000) (hnf : ∀ j, j < L → n0 < ((τ j).Ts k).nf ∧ ((τ j).Ts k).nf ≤ 1000000) (hnl : ((τ L).Ts k).nf ≤ n0) :
    Calls Try.prog 11 #[.pointer (some ⟨P.q, 0, none⟩), .int .i64 k, .func (.func fid) #[] caps, .int .i64 most, .int .i64 fn, v] w fun x w' => x = .returned (.tuple #[.int .i64 L, .bool true]) ∧ MM w' P (τ L) ∧ KA P.B P.N w w' := by
  refine Calls.veil fun Q HQ => ?_
  have HH := Lib.hid h; have HU := Lib.hid hu
  have HALL := Lib.hid (And.intro hcf (And.intro h0 (And.intro hs (And.intro hdo (And.intro hst (And.intro hac (And.intro hnf hnl)))))))
  have HN0 := Lib.hid hn0
  obtain ⟨va, vc, rfl, _, _⟩ := hu.slice
  obtain ⟨hL1, hL2⟩ := hL
  clear h hu hcf h0 hs hdo hst hac hnf hnl hn0
  go_enter Try.func11, Try.ntmps11
  go_wp2_with fail
  refine (cThread_yes HH.out.c k hk).mono ?_; rintro _ w1 ⟨rfl, hb1⟩
  have HM1 := Lib.hid (HH.out.below hb1); have HB1 := Lib.hid hb1
  clear hb1
  go_wp2_with fail
  refine (mdepth HM1.out hk).mono ?_; rintro _ _ ⟨rfl, rfl⟩
  rw [HN0.out]
  go_wp2_with fail
  refine (mcall HM1.out hk fn (HU.out.below HB1.out) (by rw [HN0.out]; omega)).mono ?_; rintro _ w2 ⟨rfl, hm2, hk2⟩
  rw [← HALL.out.2.1] at hm2
  have HM2 := Lib.hid hm2; have HK2 := Lib.hid ((KA.of_below HB1.out : KA P.B P.N w w1).trans hk2)
  clear hm2 hk2 HM1
  go_wp2_with fail
  go_loopw [16] (fun iv wr => ∃ j : Nat, j < L ∧ iv = .int .i64 j ∧ Hid (MM wr P (τ j)) ∧ Hid (KA P.B P.N w wr)) (fun iv _ => L - (intOf iv).toNat)
  case atStart => exact ⟨0, by omega, rfl, HM2, HK2⟩
  case round =>
    clear HM2 HK2
    obtain ⟨j, hj, rfl, HM3, HK3⟩ := hrel
    have hji : (j : Int) < most := by omega
    go_wp2_with fail
    refine (mstep (σ' := ρ j) HM3.out hk (by have := (HALL.out.2.2.2.2.2.2.1 j hj).1; omega) HALL.out.1 (fun w' hm' hk' => HALL.out.2.2.2.1 j hj w' hm' (HK3.out.trans hk')) (HALL.out.2.2.2.2.1 j hj).1 (HALL.out.2.2.2.2.1 j hj).2 (HALL.out.2.2.2.2.2.1 j hj) (HALL.out.2.2.2.2.2.2.1 j hj).2 ?_).mono ?_
    · have e : ((ρ j).Ts k).nf = ((τ (j + 1)).Ts k).nf := by rw [HALL.out.2.2.1 j hj]; rfl
      rw [e]
      rcases (by omega : j + 1 < L ∨ j + 1 = L) with e2 | e2
      · exact (HALL.out.2.2.2.2.2.2.1 (j + 1) e2).2
      · rw [e2]; have := HALL.out.2.2.2.2.2.2.2; omega
    rintro _ w5 ⟨rfl, hm5, hk5⟩
    rw [← HALL.out.2.2.1 j hj] at hm5
    have HM5 := Lib.hid hm5; have HK5 := Lib.hid (HK3.out.trans hk5)
    clear hm5 hk5 HM3 HK3
    go_wp2_with fail
    refine (mdepth HM5.out hk).mono ?_; rintro _ _ ⟨rfl, rfl⟩
    rcases (by omega : j + 1 < L ∨ j + 1 = L) with e2 | e2
    · have hgt := (HALL.out.2.2.2.2.2.2.1 (j + 1) e2).1
      generalize ((τ (j + 1)).Ts k).nf = nj at hgt
      have hle : ¬ (nj : Int) ≤ n0 := by omega
      clear hgt
      go_wp2_with fail
      go_roundw
      case rel => exact ⟨j + 1, e2, by go_num, HM5, HK5⟩
      case measure => simp [intOf]; omega
    · subst e2
      have hgt := HALL.out.2.2.2.2.2.2.2
      generalize ((τ (j + 1)).Ts k).nf = nj at hgt
      have hle : (nj : Int) ≤ n0 := by omega
      clear hgt
      go_wp2_with fail
      (try go_ret2)
      rw [HQ.out]
      exact ⟨by go_num, HM5.out, HK5.out⟩
end Go.Proofs.Ytjpkmkaiojnhgaa

/- A machine with its threads' places: what may be done with it. -/
namespace Go.Proofs.Ytjpkmkaiojnhgaa
open Go.RowKit WordM EdgeM
set_option linter.unusedVariables false
set_option linter.unusedSimpArgs false
def setF (T : Th.Td) (m : Nat) (F : Th.Fm) : Th.Td := { T with fs := Th.upM T.fs m F }
def updr (r : Nat → Int) (a : Nat) (v : Int) : Nat → Int := fun i => if i = a then v else r i
def setS (T : Th.Td) (i : Nat) (v : Value) : Th.Td := { T with ss := fun j => if j = i then v else T.ss j }
def Pc.n (P : Pc) : Nat := 3 + 8 * P.t + 7 * P.s
structure MP (w : World) (P : Pc) (σ : Sg) (ps : Nat → Nat → Nat) (fvs : Nat → Value) : Prop where
  c : MC w P.B P.q P.pl P.mb P.mg P.C P.gq P.gg P.gm P.fv P.tq P.t P.s P.K σ.f σ.acc σ.flt σ.H σ.G σ.sl σ.steps σ.odd
  tf : TF w P.q P.t P.tq σ.Ts ps fvs
  qN : P.q < P.N
  tN : ∀ i, i < P.t → P.tq i < P.N
  NS : P.N ≤ w.heap.size
theorem MM.mp {w : World} {P : Pc} {σ : Sg} (h : MM w P σ) : ∃ ps fvs, MP w P σ ps fvs := by
  obtain ⟨ps, fvs, tf⟩ := h.th
  exact ⟨ps, fvs, h.c, tf, h.qN, h.tN, h.NS⟩
section
variable {w w' : World} {P : Pc} {σ : Sg} {ps : Nat → Nat → Nat} {fvs : Nat → Value}
theorem MP.mm (h : MP w P σ ps fvs) : MM w P σ := ⟨h.c, ⟨ps, fvs, h.tf⟩, h.qN, h.tN, h.NS⟩
theorem MP.below (h : MP w P σ ps fvs) (k : Below w.heap.size w w') : MP w' P σ ps fvs := ⟨h.c.below k, h.tf.below k, h.qN, h.tN, Nat.le_trans h.NS k.size⟩
theorem MP.only (h : MP w P σ ps fvs) {f' : Nat → Int} {acc' : Int} {flt' : Bool} (k : Mm.Only P.mb P.mg w w') (hm : Mm.MemAt w' P.mb P.mg (3 + 8 * P.t + 7 * P.s) P.C f' acc' flt') : MP w' P { σ with f := f', acc := acc', flt := flt' } ps fvs ∧ KA P.B P.N w w' := by
  have hl := h.c.qlt
  obtain ⟨o1, o2, _⟩ := h.mm.ord
  refine ⟨⟨h.c.only k hm, h.tf.hi k.size fun j hj hq => k.block j hj (by omega) (by omega), h.qN, h.tN, Nat.le_trans h.NS k.size⟩, ⟨k.os, k.tape, k.output, k.size, fun j hj hx => k.block j hj (fun e => hx ?_) (fun e => hx ?_)⟩⟩
  · rw [e]; exact ⟨o1.1, .inl o1.2⟩
  · rw [e]; exact ⟨o2.1, .inl o2.2⟩
theorem MP.gd (h : MP w P σ ps fvs) {H' : Nat → Bool} {G' : Nat → Int} {sl' : Int} (k : Gd.K3 w w' P.gq P.gg P.gm) (hg : Gd.GA w' P.gq P.gg P.gm P.s H' G' sl') : MP w' P { σ with H := H', G := G', sl := sl' } ps fvs ∧ KA P.B P.N w w' := by
  have o5 := h.c.o5
  obtain ⟨_, _, o1, o2, o3, _⟩ := h.mm.ord
  refine ⟨⟨h.c.gd k hg, h.tf.hi k.size fun j hj hq => k.block j hj (by omega) (by omega) (by omega), h.qN, h.tN, Nat.le_trans h.NS k.size⟩, ⟨k.os, k.tape, k.output, k.size, fun j hj hx => k.block j hj (fun e => hx ?_) (fun e => hx ?_) (fun e => hx ?_)⟩⟩
  · rw [e]; exact ⟨o1.1, .inl o1.2⟩
  · rw [e]; exact ⟨o2.1, .inl o2.2⟩
  · rw [e]; exact ⟨o3.1, .inl o3.2⟩
theorem MP.fblk (h : MP w P σ ps fvs) {k m : Nat} (hk : k < P.t) (hm : m < (σ.Ts k).nf) : Th.Blk 61 w (ps k m) 26 (Th.frF ((σ.Ts k).fs m)) := ((h.tf.th k hk).a.fb m hm).1
theorem MP.fn (h : MP w P σ ps fvs) {k m : Nat} (hk : k < P.t) (hm : m < (σ.Ts k).nf) : w.cell? ⟨ps k m, 0, none⟩ = some (.int .i64 ((σ.Ts k).fs m).fn) := by
  rw [(h.fblk hk hm).get (i := 0) (by omega)]; rfl
theorem MP.pc (h : MP w P σ ps fvs) {k m : Nat} (hk : k < P.t) (hm : m < (σ.Ts k).nf) : w.cell? ⟨ps k m, 1, none⟩ = some (.int .i64 ((σ.Ts k).fs m).pc) := by
  rw [(h.fblk hk hm).get (i := 1) (by omega)]; rfl
theorem MP.r (h : MP w P σ ps fvs) {k m : Nat} (hk : k < P.t) (hm : m < (σ.Ts k).nf) (a : Nat) (ha : a < 24) : w.cell? ⟨ps k m, 2 + a, none⟩ = some (.int .u64 (((σ.Ts k).fs m).r a)) := by
  rw [(h.fblk hk hm).get (i := 2 + a) (by omega)]
  unfold Th.frF; rw [if_neg (by omega), if_neg (by omega), show 2 + a - 2 = a by omega]
theorem MP.fr (h : MP w P σ ps fvs) {k m : Nat} (hk : k < P.t) (hm : m < (σ.Ts k).nf) : ∀ i, w.frozen? ⟨ps k m, i, none⟩ = false := fun i => (h.fblk hk hm).fr i
theorem MP.tfr (h : MP w P σ ps fvs) {k : Nat} (hk : k < P.t) : ∀ i, w.frozen? ⟨P.tq k, i, none⟩ = false := fun i => (h.tf.th k hk).a.blk.fr i
theorem MP.ss (h : MP w P σ ps fvs) {k : Nat} (hk : k < P.t) (i : Nat) (hi : i < 12) : w.cell? ⟨P.tq k, 12 + i, none⟩ = some ((σ.Ts k).ss i) := by
  rw [(h.tf.th k hk).a.blk.get (i := 12 + i) (by omega)]
  unfold Th.thF; rw [if_neg (by omega), if_pos (by omega), show 12 + i - 12 = i by omega]
/-- A frame was written. -/
theorem MP.frm (h : MP w P σ ps fvs) {k m : Nat} (hk : k < P.t) (hm : m < (σ.Ts k).nf) {F : Th.Fm} (ks : Th.KS (fun j => j = ps k m) w w') (hb : Th.Blk 61 w' (ps k m) 26 (Th.frF F)) : MP w' P (σ.thr k (setF (σ.Ts k) m F)) ps fvs ∧ KA P.B P.N w w' := by
  have hbk := h.fblk hk hm
  obtain ⟨hB, hlt, _⟩ := (h.tf.th k hk).frm hm
  refine ⟨⟨h.c.ksT hbk (by omega) (by decide) ks, h.tf.frm hk hm ks hb, h.qN, h.tN, Nat.le_trans h.NS ks.size⟩, h.mm.ka h.tf hk (m := m) ks fun j hj => ?_⟩
  exact .inr (.inr (.inr (.inr (.inr (.inr (.inr (.inr ⟨hm, hj⟩)))))))
theorem MP.setR (h : MP w P σ ps fvs) {k m : Nat} (hk : k < P.t) (hm : m < (σ.Ts k).nf) (a : Nat) (v : Int) : MP (w.setCell ⟨ps k m, 2 + a, none⟩ (.int .u64 v)) P (σ.thr k (setF (σ.Ts k) m ⟨((σ.Ts k).fs m).fn, ((σ.Ts k).fs m).pc, updr ((σ.Ts k).fs m).r a v⟩)) ps fvs ∧ KA P.B P.N w (w.setCell ⟨ps k m, 2 + a, none⟩ (.int .u64 v)) :=
  h.frm hk hm (Th.KS.set w _ _ _) (((h.fblk hk hm).set (2 + a) _).congr (Th.frF_r _ a v))
theorem MP.setPC (h : MP w P σ ps fvs) {k m : Nat} (hk : k < P.t) (hm : m < (σ.Ts k).nf) (v : Int) : MP (w.setCell ⟨ps k m, 1, none⟩ (.int .i64 v)) P (σ.thr k (setF (σ.Ts k) m ⟨((σ.Ts k).fs m).fn, v, ((σ.Ts k).fs m).r⟩)) ps fvs ∧ KA P.B P.N w (w.setCell ⟨ps k m, 1, none⟩ (.int .i64 v)) :=
  h.frm hk hm (Th.KS.set w _ _ _) (((h.fblk hk hm).set 1 _).congr (Th.frF_pc _ v))
theorem thF_ss (T : Th.Td) (fv rv sv : Value) (i : Nat) (hi : i < 12) (v : Value) (j : Nat) (hj : j < 27) : Th.upF (Th.thF T fv rv sv) (12 + i) v j = Th.thF (setS T i v) fv rv sv j := by
  unfold Th.upF Th.thF setS
  by_cases e : j = 12 + i
  · subst e; rw [if_pos rfl, if_neg (by omega), if_pos (by omega)]; simp
  · rw [if_neg e]
    by_cases e4 : j < 12
    · rw [if_pos e4, if_pos e4]
    · rw [if_neg e4, if_neg e4]
      by_cases e5 : j < 24
      · rw [if_pos e5, if_pos e5]; simp only []; rw [if_neg (by omega)]
      · rw [if_neg e5, if_neg e5]
/-- A thread's session was written. -/
theorem MP.setSS (h : MP w P σ ps fvs) {k : Nat} (hk : k < P.t) (i : Nat) (hi : i < 12) (v : Value) (hv : v.oneCell' = true) : MP (w.setCell ⟨P.tq k, 12 + i, none⟩ v) P (σ.thr k (setS (σ.Ts k) i v)) ps fvs ∧ KA P.B P.N w (w.setCell ⟨P.tq k, 12 + i, none⟩ v) := by
  have hth := h.tf.th k hk
  have hs1 : ∀ j, j < 12 → ((setS (σ.Ts k) i v).ss j).oneCell' = true := fun j hj => by
    unfold setS; simp only []
    by_cases e : j = i
    · rw [if_pos e]; exact hv
    · rw [if_neg e]; exact hth.a.s1 j hj
  obtain ⟨ha, kq⟩ := hth.a.put (T' := setS (σ.Ts k) i v) (fv' := fvs k) (rv' := .slice none 0 0) (sv' := .slice none 0 0) (Th.KS.set w (P.tq k) (12 + i) v) ((hth.a.blk.set (12 + i) v).congr fun j hj => thF_ss _ _ _ _ i hi v j hj) hth.a.fo (fun x hx => ⟨hx, rfl⟩) hth.a.rw hth.a.so hs1
  have ho := h.tf.one hk (p' := ps k) (fv' := fvs k) ⟨ha, hth.r, hth.s⟩ kq (fun j hj => .inl hj) fun a ha => .inl ⟨ha, rfl⟩
  have e1 : (fun i => if i = k then ps k else ps i) = ps := funext fun i => by
    by_cases e : i = k
    · rw [if_pos e, e]
    · rw [if_neg e]
  have e2 : (fun i => if i = k then fvs k else fvs i) = fvs := funext fun i => by
    by_cases e : i = k
    · rw [if_pos e, e]
    · rw [if_neg e]
  rw [e1, e2] at ho
  exact ⟨⟨h.c.kqF h.tf hk kq, ho, h.qN, h.tN, Nat.le_trans h.NS kq.size⟩, h.mm.kq h.tf hk kq⟩
end
theorem MP.back {w : World} {P : Pc} {σ : Sg} {ps : Nat → Nat → Nat} {fvs : Nat → Value} (h : MP w P σ ps fvs) {k : Nat} (hk : k < P.t) {v : Value} {n : Nat} {L : Nat → Int} (hu : Th.UR w v n L) (hf : (σ.Ts k).nf ≤ 1000000) :
    Calls Try.prog 52 #[.pointer (some ⟨P.tq k, 0, none⟩), v] w fun e w' => e = .returned (.tuple #[]) ∧ MM w' P (σ.thr k (Th.backT (σ.Ts k) n L)) ∧ KA P.B P.N w w' := by
  have hth := h.tf.th k hk
  refine (Th.fback hth.a hu hf).mono ?_
  rintro _ w' ⟨rfl, ⟨fv', ha, ho⟩, kq⟩
  refine ⟨rfl, ⟨h.c.kqF h.tf hk kq, ⟨_, _, h.tf.one (p' := ps k) hk ⟨ha, hth.r, hth.s⟩ kq (fun j hj => .inl (ho j hj)) fun a ha => .inl ⟨Nat.lt_of_lt_of_le ha (Nat.sub_le _ _), rfl⟩⟩, h.qN, h.tN, Nat.le_trans h.NS kq.size⟩, h.mm.kq h.tf hk kq⟩
theorem MP.top {w : World} {P : Pc} {σ : Sg} {ps : Nat → Nat → Nat} {fvs : Nat → Value} (h : MP w P σ ps fvs) {k m : Nat} (hk : k < P.t) (hm : (σ.Ts k).nf = m + 1) (hN : m ≤ 1000000) :
    Calls Try.prog 18 #[.pointer (some ⟨P.tq k, 0, none⟩)] w fun e w' => e = .returned (.pointer (some ⟨ps k m, 0, none⟩)) ∧ Below w.heap.size w w' := Th.ftop1 (h.tf.th k hk).a hm hN
/-- One word in a row of its own. -/
theorem ur_one {w : World} {sb : Nat} {x : Int} {T : TypeId} (hy : w.heap[sb]? = some (.cells #[.int .u64 x] T (0, 0))) : Th.UR w (.slice (some ⟨sb, 0, none⟩) 1 1) 1 (fun _ => x) := .row sb 0 1 1 _ (by omega) (by decide) fun i hi => by
  rw [show 0 + i = 0 by omega]; exact Th.newcell hy 0 _ rfl
theorem Sg.thr_thr (σ : Sg) (k : Nat) (T T' : Th.Td) : (σ.thr k T).thr k T' = σ.thr k T' := by
  unfold Sg.thr; simp only [Sg.mk.injEq, true_and, and_true]
  funext i
  by_cases e : i = k
  · rw [if_pos e, if_pos e]
  · rw [if_neg e, if_neg e, if_neg e]
theorem Sg.thr_at (σ : Sg) (k : Nat) (T : Th.Td) : (σ.thr k T).Ts k = T := by unfold Sg.thr; simp
theorem setF_fs (T : Th.Td) (m : Nat) (F : Th.Fm) : (setF T m F).fs m = F := by unfold setF Th.upM; simp
theorem setF_nf (T : Th.Td) (m : Nat) (F : Th.Fm) : (setF T m F).nf = T.nf := rfl
theorem setF_setF (T : Th.Td) (m : Nat) (F F' : Th.Fm) : setF (setF T m F) m F' = setF T m F' := by
  unfold setF; simp only [Th.Td.mk.injEq, true_and, and_true]
  funext i; unfold Th.upM
  by_cases e : i = m
  · rw [if_pos e, if_pos e]
  · rw [if_neg e, if_neg e, if_neg e]
end Go.Proofs.Ytjpkmkaiojnhgaa

/- Layer 17 and on: all threads go on alone, one behind the other, to their ends. -/
namespace Go.Proofs.Ytjpkmkaiojnhgaa
open Go.RowKit WordM EdgeM
set_option linter.unusedVariables false
set_option linter.unusedSimpArgs false
set_option maxRecDepth 8000 in
set_option maxHeartbeats 2000000 in
theorem mends {w : World} {P : Pc} {σ : Sg} {fid : FuncId} {caps : Array Value} {J : Sg → Nat → Prop} {rk : Sg → Nat → Nat} {most n0 : Nat} (h : MM w P σ) (hj : J σ n0) (hm : most ≤ 1000000)
    (hr : ∀ σ n, J σ n → ∀ k, k < P.t → (0 < (σ.Ts k).nf → 1 ≤ rk σ k) ∧ rk σ k ≤ most)
    (hst : ∀ w' σ n k, MM w' P σ → J σ n → n ≤ n0 + P.t * most → k < P.t → 0 < (σ.Ts k).nf → Calls Try.prog 19 #[.pointer (some ⟨P.q, 0, none⟩), .int .i64 k, .func (.func fid) #[] caps] w' fun x w'' => ∃ σ', x = .returned (.bool (decide (0 < (σ'.Ts k).nf))) ∧ MM w'' P σ' ∧ KA P.B P.N w' w'' ∧ J σ' (n + 1) ∧ (∀ i, i ≠ k → σ'.Ts i = σ.Ts i) ∧ ((σ'.Ts k).nf = 0 ∨ rk σ' k < rk σ k)) :
    Calls Try.prog 20 #[.pointer (some ⟨P.q, 0, none⟩), .func (.func fid) #[] caps, .int .i64 most] w fun x w' => ∃ σ' n', x = .returned (.bool true) ∧ MM w' P σ' ∧ KA P.B P.N w w' ∧ J σ' n' ∧ n' ≤ n0 + P.t * most ∧ ∀ i, i < P.t → (σ'.Ts i).nf = 0 := by
  refine Calls.veil fun Q HQ => ?_
  have HH := Lib.hid h; have HJ := Lib.hid hj; have HR := Lib.hid hr; have HS := Lib.hid hst
  have ht6 : P.t ≤ 6 := h.bd.1.2
  clear h hj hr hst
  go_enter Try.func20, Try.ntmps20
  go_wp2_with fail
  go_loopw [7] (fun tv wr => ∃ k : Nat, k ≤ P.t ∧ tv = .int .i64 k ∧ ∃ (σ : Sg) (n : Nat), Hid (MM wr P σ) ∧ Hid (J σ n) ∧ Hid (n ≤ n0 + k * most) ∧ Hid (∀ i, i < k → (σ.Ts i).nf = 0) ∧ Hid (KA P.B P.N w wr)) (fun tv _ => P.t - (intOf tv).toNat)
  case atStart => exact ⟨0, Nat.zero_le _, rfl, σ, n0, HH, HJ, Lib.hid (by omega), Lib.hid (fun i hi => absurd hi (Nat.not_lt_zero i)), Lib.hid (KA.refl _ _ _)⟩
  case round =>
    clear HH HJ
    obtain ⟨k, hk, rfl, σ1, n1, HM1, HJ1, HN1, HZ1, HK1⟩ := hrel
    go_wp2_with fail
    refine (cThreads HM1.out.c).mono ?_; rintro _ _ ⟨rfl, rfl⟩
    rcases (by omega : k < P.t ∨ k = P.t) with hlt | heq
    · have hkt : (k : Int) < P.t := by omega
      have HK := Lib.hid hlt
      have HK2 := Lib.hid (show (k + 1) * most ≤ P.t * most from Nat.mul_le_mul_right _ hlt)
      go_wp2_with fail
      go_loopw [8] (fun iv wr => ∃ j : Nat, j ≤ most ∧ iv = .int .i64 j ∧ ∃ (σ : Sg) (n : Nat), Hid (MM wr P σ) ∧ Hid (J σ n) ∧ Hid (n ≤ n0 + k * most + j) ∧ Hid (∀ i, i < k → (σ.Ts i).nf = 0) ∧ Hid (KA P.B P.N w wr) ∧ Hid ((σ.Ts k).nf = 0 ∨ rk σ k + j ≤ most)) (fun iv _ => most - (intOf iv).toNat)
      case atStart => exact ⟨0, Nat.zero_le _, rfl, σ1, n1, HM1, HJ1, Lib.hid (by have := HN1.out; omega), HZ1, HK1, Lib.hid (.inr (by have := (HR.out _ _ HJ1.out k HK.out).2; omega))⟩
      case round =>
        clear HM1 HJ1 HN1 HZ1 HK1
        obtain ⟨j, hj, rfl, σ2, n2, HM2, HJ2, HN2, HZ2, HK2', HW2⟩ := hrel
        rcases (by omega : j < most ∨ j = most) with hjl | hje
        · have hji : (j : Int) < most := by omega
          go_wp2_with fail
          refine (cThread_yes HM2.out.c k HK.out).mono ?_; rintro _ wa ⟨rfl, hb⟩
          have HM3 := Lib.hid (HM2.out.below hb); have HK3 := Lib.hid (HK2'.out.trans (KA.of_below hb))
          clear hb HM2 HK2'
          go_wp2_with fail
          refine (mdepth HM3.out HK.out).mono ?_; rintro _ _ ⟨rfl, rfl⟩
          by_cases h0 : (σ2.Ts k).nf = 0
          · have HZ := Lib.hid h0
            rw [h0]
            clear h0
            go_wp2_with fail
            refine (cThread_yes HM3.out.c k HK.out).mono ?_; rintro _ we ⟨rfl, hb⟩
            have HM9 := Lib.hid (HM3.out.below hb); have HK9 := Lib.hid (HK3.out.trans (KA.of_below hb))
            clear hb
            go_wp2_with fail
            refine (mdepth HM9.out HK.out).mono ?_; rintro _ _ ⟨rfl, rfl⟩
            rw [HZ.out]
            go_wp2_with fail
            go_roundw
            case rel => exact ⟨k + 1, by omega, by go_num, σ2, n2, HM9, HJ2, Lib.hid (by have := HN2.out; rw [Nat.succ_mul]; omega), Lib.hid (fun i hi => by rcases (by omega : i < k ∨ i = k) with h | rfl; exact HZ2.out i h; exact HZ.out), HK9⟩
            case measure => simp [intOf]; omega
          · have HP := Lib.hid (show 0 < (σ2.Ts k).nf by omega)
            have hnn : (0 : Int) < ((σ2.Ts k).nf : Int) := by omega
            generalize ((σ2.Ts k).nf : Int) = nn at hnn
            clear h0
            go_wp2_with fail
            clear hnn
            refine (HS.out wa σ2 n2 k HM3.out HJ2.out (by have := HN2.out; have := HK2.out; rw [Nat.succ_mul] at this; omega) HK.out HP.out).mono ?_
            rintro _ wb ⟨σ3, rfl, hm4, hk4, hj4, ho4, hr4⟩
            have HM4 := Lib.hid hm4; have HK4 := Lib.hid (HK3.out.trans hk4); have HJ4 := Lib.hid hj4; have HO4 := Lib.hid ho4; have HR4 := Lib.hid hr4
            clear hm4 hk4 hj4 ho4 hr4
            generalize decide (0 < (σ3.Ts k).nf) = dn
            go_wp2_with fail
            go_roundw
            case rel =>
              refine ⟨j + 1, by omega, by go_num, σ3, n2 + 1, HM4, HJ4, Lib.hid (by have := HN2.out; omega), Lib.hid (fun i hi => by rw [HO4.out i (by omega)]; exact HZ2.out i hi), HK4, Lib.hid ?_⟩
              rcases HR4.out with e | e
              · exact .inl e
              · right
                have hp := HP.out
                rcases HW2.out with e2 | e2
                · omega
                · omega
            case measure => simp [intOf]; omega
        · have hji : ¬ (j : Int) < most := by omega
          have HM3 := HM2; have HK3 := HK2'
          have HZ := Lib.hid (show (σ2.Ts k).nf = 0 by
            have h1 := HR.out _ _ HJ2.out k HK.out
            rcases HW2.out with e | e
            · exact e
            · by_cases hz : 0 < (σ2.Ts k).nf
              · have := h1.1 hz; omega
              · omega)
          clear HM2 HK2'
          go_wp2_with fail
          refine (cThread_yes HM3.out.c k HK.out).mono ?_; rintro _ we ⟨rfl, hb⟩
          have HM9 := Lib.hid (HM3.out.below hb); have HK9 := Lib.hid (HK3.out.trans (KA.of_below hb))
          clear hb
          go_wp2_with fail
          refine (mdepth HM9.out HK.out).mono ?_; rintro _ _ ⟨rfl, rfl⟩
          rw [HZ.out]
          go_wp2_with fail
          go_roundw
          case rel => exact ⟨k + 1, by omega, by go_num, σ2, n2, HM9, HJ2, Lib.hid (by have := HN2.out; rw [Nat.succ_mul]; omega), Lib.hid (fun i hi => by rcases (by omega : i < k ∨ i = k) with h | rfl; exact HZ2.out i h; exact HZ.out), HK9⟩
          case measure => simp [intOf]; omega
    · have heq := heq.symm
      subst heq
      have hkt : ¬ (P.t : Int) < P.t := by omega
      go_wp2_with fail
      (try go_ret)
      rw [HQ.out]
      exact ⟨σ1, n1, rfl, HM1.out, HK1.out, HJ1.out, HN1.out, HZ1.out⟩
end Go.Proofs.Ytjpkmkaiojnhgaa
