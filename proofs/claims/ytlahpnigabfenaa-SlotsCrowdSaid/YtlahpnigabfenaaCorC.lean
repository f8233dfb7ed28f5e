/- Layer 16: a machine in memory, at first: its threads are within nothing. -/
import Derived.Test.YtlahpnigabfenaaCorB
import Derived.Test.YtlahpnigabfenaaGrdN
import Derived.Test.YtlahpnigabfenaaFrmG
import Derived.Test.YtlahpnigabfenaaHldB
namespace Go.Proofs.Ytlahpnigabfenaa
open Go.RowKit WordM EdgeM
set_option linter.unusedVariables false
set_option linter.unusedSimpArgs false
/-- A thread within nothing. -/
def TB (w : World) (b : Nat) : Prop := Th.Blk 50 w b 27 (Th.thF Th.T0 (.slice none 0 0) (.slice none 0 0) (.slice none 0 0))
theorem TB.tha {w : World} {B b : Nat} (h : TB w b) (hB : B ≤ b) : Th.ThA w B b Th.T0 (fun _ => 0) (.slice none 0 0) (.slice none 0 0) (.slice none 0 0) :=
  ⟨hB, h, .nil _ _, fun i hi => absurd hi (by simp [Th.T0]), fun i j hi => absurd hi (by simp [Th.T0]), Th.PO.nil _, .nil _ _, Th.ss0_one⟩
def machC (pl mb gq : Nat) (fv : Value) (steps : Int) (odd : Bool) : Array Value := #[.pointer (some ⟨pl, 0, none⟩), .pointer (some ⟨mb, 0, none⟩), .pointer (some ⟨gq, 0, none⟩), fv, .int .i64 steps, .bool odd]
structure MI (w : World) (B q pl mb mg C gq gg gm : Nat) (fv : Value) (tq : Nat → Nat) (t s : Nat) (K : Int) (f : Nat → Int) (acc : Int) (flt : Bool) (H : Nat → Bool) (G : Nat → Int) (sl steps : Int) (odd : Bool) : Prop where
  blk : w.heap[q]? = some (.cells (machC pl mb gq fv steps odd) 86 (0, 0))
  pln : w.heap[pl]? = some (.cells #[.int .i64 t, .int .i64 s, .int .u64 K] 109 (0, 0))
  mem : Mm.MemAt w mb mg (3 + 8 * t + 7 * s) C f acc flt
  grd : Gd.GA w gq gg gm s H G sl
  ths : Th.OwnL 51 w (q + 1) fv t (Th.ptrs tq t)
  thr : ∀ i, i < t → q < tq i ∧ TB w (tq i)
  o1 : B ≤ pl
  o2 : pl < mb ∧ pl < mg
  o3 : mb < gq ∧ mb < gg ∧ mb < gm
  o4 : mg < gq ∧ mg < gg ∧ mg < gm
  o5 : gq < q ∧ gg < q ∧ gm < q
  may : mayC t s K = true
theorem MI.bd {w : World} {B q pl mb mg C gq gg gm : Nat} {fv : Value} {tq : Nat → Nat} {t s : Nat} {K : Int} {f : Nat → Int} {acc : Int} {flt : Bool} {H : Nat → Bool} {G : Nat → Int} {sl steps : Int} {odd : Bool} (h : MI w B q pl mb mg C gq gg gm fv tq t s K f acc flt H G sl steps odd) : (1 ≤ t ∧ t ≤ 6) ∧ (7 ≤ s ∧ s ≤ 250) := by
  have := mayC_true h.may
  omega
theorem MI.below {w w' : World} {B q pl mb mg C gq gg gm : Nat} {fv : Value} {tq : Nat → Nat} {t s : Nat} {K : Int} {f : Nat → Int} {acc : Int} {flt : Bool} {H : Nat → Bool} {G : Nat → Int} {sl steps : Int} {odd : Bool} (h : MI w B q pl mb mg C gq gg gm fv tq t s K f acc flt H G sl steps odd) (k : Below w.heap.size w w') : MI w' B q pl mb mg C gq gg gm fv tq t s K f acc flt H G sl steps odd :=
  ⟨Th.up k h.blk, Th.up k h.pln, h.mem.below k, h.grd.below k, h.ths.below k, fun i hi => ⟨(h.thr i hi).1, (h.thr i hi).2.below k⟩, h.o1, h.o2, h.o3, h.o4, h.o5, h.may⟩
/-! ### Its cells -/
section
variable {w : World} {B q pl mb mg C gq gg gm : Nat} {fv : Value} {tq : Nat → Nat} {t s : Nat} {K : Int} {f : Nat → Int} {acc : Int} {flt : Bool} {H : Nat → Bool} {G : Nat → Int} {sl steps : Int} {odd : Bool}
theorem MI.c0 (h : MI w B q pl mb mg C gq gg gm fv tq t s K f acc flt H G sl steps odd) : w.cell? ⟨q, 0, none⟩ = some (.pointer (some ⟨pl, 0, none⟩)) := Th.newcell h.blk 0 _ rfl
theorem MI.c1 (h : MI w B q pl mb mg C gq gg gm fv tq t s K f acc flt H G sl steps odd) : w.cell? ⟨q, 1, none⟩ = some (.pointer (some ⟨mb, 0, none⟩)) := Th.newcell h.blk 1 _ rfl
theorem MI.c2 (h : MI w B q pl mb mg C gq gg gm fv tq t s K f acc flt H G sl steps odd) : w.cell? ⟨q, 2, none⟩ = some (.pointer (some ⟨gq, 0, none⟩)) := Th.newcell h.blk 2 _ rfl
theorem MI.c3 (h : MI w B q pl mb mg C gq gg gm fv tq t s K f acc flt H G sl steps odd) : w.cell? ⟨q, 3, none⟩ = some fv := Th.newcell h.blk 3 _ rfl
theorem MI.c4 (h : MI w B q pl mb mg C gq gg gm fv tq t s K f acc flt H G sl steps odd) : w.cell? ⟨q, 4, none⟩ = some (.int .i64 steps) := Th.newcell h.blk 4 _ rfl
theorem MI.c5 (h : MI w B q pl mb mg C gq gg gm fv tq t s K f acc flt H G sl steps odd) : w.cell? ⟨q, 5, none⟩ = some (.bool odd) := Th.newcell h.blk 5 _ rfl
theorem MI.p0 (h : MI w B q pl mb mg C gq gg gm fv tq t s K f acc flt H G sl steps odd) : w.cell? ⟨pl, 0, none⟩ = some (.int .i64 t) := Th.newcell h.pln 0 _ rfl
theorem MI.p1 (h : MI w B q pl mb mg C gq gg gm fv tq t s K f acc flt H G sl steps odd) : w.cell? ⟨pl, 1, none⟩ = some (.int .i64 s) := Th.newcell h.pln 1 _ rfl
theorem MI.p2 (h : MI w B q pl mb mg C gq gg gm fv tq t s K f acc flt H G sl steps odd) : w.cell? ⟨pl, 2, none⟩ = some (.int .u64 K) := Th.newcell h.pln 2 _ rfl
end
/-! ### The guard's five slots -/
theorem take5 (s k : Nat) (hk : k < 5) (hs : 7 ≤ s) : Gd.canT s (fun i => decide (i < k)) ((k : Int) + 1) = true ∧ Gd.takeH s (fun i => decide (i < k)) ((k : Int) + 1) = fun i => decide (i < k + 1) := by
  have hc : Gd.canT s (fun i => decide (i < k)) ((k : Int) + 1) = true := by
    unfold Gd.canT
    rw [show ((k : Int) + 1).toNat - 1 = k by omega]
    simp; omega
  refine ⟨hc, ?_⟩
  unfold Gd.takeH
  rw [if_pos hc, show ((k : Int) + 1).toNat - 1 = k by omega]
  funext i
  unfold Gd.setB
  by_cases e : i = k
  · subst e; rw [if_pos rfl]; simp
  · rw [if_neg e]; exact decide_eq_decide.2 (by omega)
theorem Gd.GA.belowTo {w w' : World} {B q g m n : Nat} {H : Nat → Bool} {G : Nat → Int} {s : Int} (h : Gd.GA w q g m n H G s) (k : Below B w w') (h1 : q < B) (h2 : g < B) (h3 : m < B) : Gd.GA w' q g m n H G s := by
  obtain ⟨D, ⟨es, clock, he, hr⟩, hD, hz⟩ := h.held
  exact ⟨h.obj.of (k.block _ h1), h.gens.of (k.block _ h2), ⟨D, ⟨es, clock, (k.block _ h3).trans he, hr⟩, hD, hz⟩, h.g1, h.g2, h.g3, h.n0, h.n1, h.gb, h.sb⟩
/-! ### Lists of threads -/
theorem uThs : Try.prog.underlying 84 = some (.slice 51) := by kernel_rfl
theorem infoTh : (Try.prog.info? 51).map (fun i => (i.zero, i.size, i.bytes)) = some (some (.pointer none), 1, 8) := by kernel_rfl
theorem wp_append_run {w : World} {o : Oper} {a : Act} {K : Act → World → Prop} {Q : Exit → Act → World → Prop} (s x : Operand) (SL : TypeId)
    (ho : o.op = .call { callee := .builtin .append, args := #[s, x], argTypes := #[SL, SL] }) (hty : o.type = SL) {v u v' : Value} {w' : World} (hs : a.eval s = v) (hx : a.eval x = u)
    (hr : (Builtin.append_ #[SL, SL] SL #[v, u]).run Try.prog w = .ok v' w') (h : K (a.put o.dst v') w') : o.wp Try.prog a w K Q := by
  unfold Oper.wp execOp
  simp only [ho, hty, resolve, invoke, builtin, Sem.run_bind, Sem.run_pure, Result.andThen_ok, List.map_toArray, List.map_cons, List.map_nil, hs, hx, hr]
  exact h
theorem step_of {P : Program} {ops : Array Oper} {o : Oper} {a : Act} {w : World} {K : Act → World → Prop} {Q : Exit → Act → World → Prop} {E : Prop} (hgd : o.guard = none) (h : Oper.wp P o a w K Q) :
    if Region.wanted o (yielded ops a.tmps) = true then Oper.wp P o a w K Q else E := by
  rw [if_pos (by simp [Region.wanted, hgd])]; exact h
theorem ptrs_snoc {tq : Nat → Nat} {n b : Nat} : Th.ptrs (fun j => if j = n then b else tq j) (n + 1) = Th.ptrs tq n ++ [.pointer (some ⟨b, 0, none⟩)] := by
  unfold Th.ptrs
  rw [List.range_succ, List.map_append]
  congr 1
  · exact List.map_congr_left fun i hi => by simp only []; rw [if_neg (by have := List.mem_range.1 hi; omega)]
  · simp
end Go.Proofs.Ytlahpnigabfenaa
