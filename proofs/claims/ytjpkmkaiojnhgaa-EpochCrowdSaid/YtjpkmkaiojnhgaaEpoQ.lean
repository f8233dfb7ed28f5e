/- Layer 18: the walk of EpochAlone. -/
import Derived.Test.YtjpkmkaiojnhgaaEpoP
namespace Go.Proofs.Ytjpkmkaiojnhgaa
open Go.RowKit WordM EdgeM
set_option linter.unusedVariables false
set_option linter.unusedSimpArgs false
def De (w : World) (g off : Nat) (k a : Int) (e : Bool) : Prop :=
  w.cell? ⟨g, off, none⟩ = some (.int .i64 k) ∧ w.cell? ⟨g, off + 1, none⟩ = some (.int .i64 a) ∧ w.cell? ⟨g, off + 2, none⟩ = some (.bool e)
theorem De.below {w w' : World} {g off : Nat} {k a : Int} {e : Bool} (h : De w g off k a e) (hb : Below w.heap.size w w') : De w' g off k a e := by
  obtain ⟨h0, h1, h2⟩ := h
  exact ⟨Ext.use (Ext.cells h0) hb, Ext.use (Ext.cells h1) hb, Ext.use (Ext.cells h2) hb⟩
theorem De.lt {w : World} {g off : Nat} {k a : Int} {e : Bool} (h : De w g off k a e) : g < w.heap.size := World.block_lt_of_cell? w ⟨g, off, none⟩ h.1
def deSh : List Fr.Sh := [.int .i64, .int .i64, .bool]
theorem de_cells {w : World} {cs : List Value} (h : Fr.Sh.oks w deSh cs) : ∃ (k a : Int) (e : Bool), cs = [.int .i64 k, .int .i64 a, .bool e] := by
  obtain ⟨_, _, rfl, k0, h⟩ := Fr.get_cons h
  obtain ⟨_, _, rfl, k1, h⟩ := Fr.get_cons h
  obtain ⟨_, _, rfl, k2, h⟩ := Fr.get_cons h
  obtain rfl := Fr.get_nil h
  obtain ⟨k, rfl, _⟩ := Fr.get_int k0
  obtain ⟨a, rfl, _⟩ := Fr.get_int k1
  obtain ⟨e, rfl⟩ := Fr.get_bool k2
  exact ⟨k, a, e, rfl⟩
theorem des_open {w : World} {v : Value} (h : Fr.ok1 w (.slice deSh) v) : ∃ ao len cap, v = .slice ao len cap ∧ len ≤ cap ∧ cap ≤ 9223372036854775807 ∧ ∀ i, i < len → ∃ g off, ao = some ⟨g, off, none⟩ ∧ ∃ k a e, De w g (off + i * 3) k a e := by
  rcases Fr.get_slice h with rfl | ⟨a, len, cap, rfl, h1, h2, h3⟩
  · exact ⟨none, 0, 0, rfl, Nat.le_refl _, by decide, fun i hi => by omega⟩
  · refine ⟨some a, len, cap, rfl, h1, h2, fun i hi => ?_⟩
    obtain ⟨cs0, h5, h6⟩ := h3 0 (by omega)
    obtain ⟨k, a1, e, rfl⟩ := de_cells h6
    have hs : a.spot = none := by
      have h7 := (World.cells?_some h5).2.2 0 (by decide)
      exact World.cell?_spot (by simpa [Addr.add] using h7)
    obtain ⟨g, off, spot⟩ := a
    simp only at hs
    subst hs
    obtain ⟨cs, h5, h6⟩ := h3 i (by omega)
    obtain ⟨k, a1, e, rfl⟩ := de_cells h6
    obtain ⟨_, _, h7⟩ := World.cells?_some h5
    have e1 : ((⟨g, off, none⟩ : Addr).add (i * deSh.length)) = ⟨g, off + i * 3, none⟩ := by
      simp [Addr.add, deSh] <;> (intro hh; subst hh; rfl)
    rw [e1] at h7
    refine ⟨g, off, rfl, k, a1, e, ?_, ?_, ?_⟩
    · simpa [Addr.add] using h7 0 (by decide)
    · simpa [Addr.add] using h7 1 (by decide)
    · simpa [Addr.add] using h7 2 (by decide)
theorem nowL_upd (t : Nat) (f : Nat → Int) (k : Nat) (v : Int) : Th.ucells t (Mm.upd (fun j => f (aI j)) k v) = nowL t (Mm.upd f (aI k) v) := by
  unfold nowL Th.ucells
  refine List.map_congr_left fun j _ => ?_
  unfold Mm.upd
  dsimp only
  by_cases e : j = k
  · subst e; rw [if_pos rfl, if_pos rfl]
  · rw [if_neg e, if_neg (fun e2 => e (aI_inj e2))]
theorem nowL_1 (t : Nat) (f : Nat → Int) (v : Int) : nowL t (Mm.upd f 1 v) = nowL t f := by
  unfold nowL Th.ucells
  refine List.map_congr_left fun j _ => ?_
  unfold Mm.upd; dsimp only; rw [if_neg (aI_1 j)]
theorem actI_eq {e : Int} (h0 : 0 ≤ e) (h1 : e < 9223372036854775808) : actI e = 2 * e + 1 := by
  unfold actI; rw [Int.emod_eq_of_lt h0 h1]; omega
theorem TF.ksT {w w' : World} {q t : Nat} {tq : Nat → Nat} {Ts : Nat → Th.Td} {ps : Nat → Nat → Nat} {fvs : Nat → Value} (h : TF w q t tq Ts ps fvs) {X : Nat} {cur : Array Value} {T : TypeId} (hX : w.heap[X]? = some (.cells cur T (0, 0))) (h1 : 42 ≠ T) (h2 : 62 ≠ T) (h3 : 61 ≠ T) (ks : Th.KS (fun j => j = X) w w') : TF w' q t tq Ts ps fvs := by
  refine ⟨fun i hi => (h.th i hi).keep ks.size fun j hj _ hc => ks.block j hj ?_, h.inj, h.sep, h.fsep⟩
  obtain ⟨_, ci, hci⟩ := (h.th i hi).blk
  rcases hc with rfl | hc | ⟨a, ha, rfl⟩
  · exact ty_ne hci hX h1
  · obtain ⟨_, _, c2, e2⟩ := (h.th i hi).own hc
    exact ty_ne e2 hX h2
  · obtain ⟨_, _, c2, e2⟩ := (h.th i hi).frm ha
    exact ty_ne e2 hX h3
/-- A block outside was written. -/
theorem MM.other {w w' : World} {P : Pc} {σ : Sg} (h : MM w P σ) {X : Nat} {cur : Array Value} {T : TypeId} (hX : w.heap[X]? = some (.cells cur T (0, 0))) (hN : P.N ≤ X) (h0 : 43 ≠ T) (h1 : 42 ≠ T) (h2 : 62 ≠ T) (h3 : 61 ≠ T) (ks : Th.KS (fun j => j = X) w w') : MM w' P σ := by
  obtain ⟨ps, fvs, tf⟩ := h.th
  exact ⟨h.c.ksT hX (by have := h.qN; omega) h0 ks, ⟨ps, fvs, tf.ksT hX h1 h2 h3 ks⟩, h.qN, h.tN, Nat.le_trans h.NS ks.size⟩
/-- What the law has beside the machine. -/
structure LE (w0 : World) (P : Pc) (bx gp : Nat) (w : World) (e : Int) (f pv : Nat → Int) : Prop where
  sv : ∃ sv, w.heap[bx]? = some (.cells #[.int .u64 e, sv] 33 (0, 0)) ∧ Th.OwnL 27 w P.N sv P.t (nowL P.t f) ∧ sv.ownBlock ≠ some gp
  past : w.heap[gp]? = some (.cells (Th.ucells P.t pv).toArray 27 (0, 0))
  bN : P.N ≤ bx
  gN : P.N ≤ gp
  bl : Below w0.heap.size w0 w
  B0 : w0.heap.size ≤ P.B
  NS : P.N ≤ w.heap.size ∧ P.B ≤ P.N
section
variable {w0 w w' : World} {P : Pc} {bx gp : Nat} {e : Int} {f pv : Nat → Int}
theorem LE.below (h : LE w0 P bx gp w e f pv) (k : Below w.heap.size w w') : LE w0 P bx gp w' e f pv := by
  obtain ⟨sv, h1, h2, h3⟩ := h.sv
  exact ⟨⟨sv, Th.up k h1, Th.OwnL.below h2 k, h3⟩, Th.up k h.past, h.bN, h.gN, below_on h.bl k, h.B0, Nat.le_trans h.NS.1 k.size, h.NS.2⟩
theorem LE.ka (h : LE w0 P bx gp w e f pv) (k : KA P.B P.N w w') : LE w0 P bx gp w' e f pv := by
  obtain ⟨sv, h1, h2, h3⟩ := h.sv
  refine ⟨⟨sv, (k.keep h1 (.inr h.bN) (by decide) (by decide)).trans h1, h2.of fun b hb => ?_, h3⟩, (k.keep h.past (.inr h.gN) (by decide) (by decide)).trans h.past, h.bN, h.gN, ⟨k.os.trans h.bl.os, k.tape.trans h.bl.tape, k.output.trans h.bl.output, Nat.le_trans h.bl.size k.size, fun j hj => (k.block j (Nat.lt_of_lt_of_le hj h.bl.size) (by have := h.B0; omega)).trans (h.bl.block j hj)⟩, h.B0, Nat.le_trans h.NS.1 k.size, h.NS.2⟩
  obtain ⟨g1, g2, cur, hc⟩ := h2.blk hb
  exact k.keep hc (.inr g1) (by decide) (by decide)
theorem LE.ne (h : LE w0 P bx gp w e f pv) : bx ≠ gp := by
  obtain ⟨sv, h1, _⟩ := h.sv
  exact ty_ne h1 h.past (by decide)
theorem LE.x0 (h : LE w0 P bx gp w e f pv) : w.cell? ⟨bx, 0, none⟩ = some (.int .u64 e) := by
  obtain ⟨sv, h1, _⟩ := h.sv
  exact Th.newcell h1 0 _ rfl
theorem LE.xf (h : LE w0 P bx gp w e f pv) (i : Nat) : w.frozen? ⟨bx, i, none⟩ = false := by
  obtain ⟨sv, h1, _⟩ := h.sv
  exact frozen_of_row _ _ _ _ _ h1
theorem LE.pc (h : LE w0 P bx gp w e f pv) {k : Nat} (hk : k < P.t) : w.cell? ⟨gp, k, none⟩ = some (.int .u64 (pv k)) := by
  rw [cell_of_row _ _ _ _ _ (0, 0) h.past]; simpa using Th.ucells_get hk
/-- The reference's state becomes another one. -/
theorem LE.setx (h : LE w0 P bx gp w e f pv) {sv' : Value} {f' : Nat → Int} {e' : Int} (ho : Th.OwnL 27 w P.N sv' P.t (nowL P.t f')) (hn : sv'.ownBlock ≠ some gp) : LE w0 P bx gp ((w.setCell ⟨bx, 0, none⟩ (.int .u64 e')).setCell ⟨bx, 1, none⟩ sv') e' f' pv ∧ Th.KS (fun j => j = bx) w ((w.setCell ⟨bx, 0, none⟩ (.int .u64 e')).setCell ⟨bx, 1, none⟩ sv') := by
  obtain ⟨sv, h1, h2, h3⟩ := h.sv
  have ks : Th.KS (fun j => j = bx) w ((w.setCell ⟨bx, 0, none⟩ (.int .u64 e')).setCell ⟨bx, 1, none⟩ sv') := (Th.KS.set w bx 0 _).trans (Th.KS.set _ bx 1 _)
  have hx := heap_setCell_same _ bx 1 _ _ sv' (heap_setCell_same w bx 0 _ _ (.int .u64 e') h1)
  have hb := h.bN
  refine ⟨⟨⟨sv', hx, ho.of fun b hb => ks.block b (ho.blk hb).2.1 ?_, hn⟩, (ks.block gp (Th.blk_lt h.past) (Ne.symm h.ne)).trans h.past, h.bN, h.gN, belowC (belowC h.bl (by have := h.B0; have := h.NS; omega) _) (by have := h.B0; have := h.NS; omega) _, h.B0, Nat.le_trans h.NS.1 ks.size, h.NS.2⟩, ks⟩
  obtain ⟨_, _, cur, hc⟩ := ho.blk hb
  exact ty_ne hc h1 (by decide)
theorem LE.sete (h : LE w0 P bx gp w e f pv) (e' : Int) : LE w0 P bx gp (w.setCell ⟨bx, 0, none⟩ (.int .u64 e')) e' f pv ∧ Th.KS (fun j => j = bx) w (w.setCell ⟨bx, 0, none⟩ (.int .u64 e')) := by
  obtain ⟨sv, h1, h2, h3⟩ := h.sv
  have ks := Th.KS.set w bx 0 (.int .u64 e')
  have hx := heap_setCell_same w bx 0 _ _ (.int .u64 e') h1
  have hb := h.bN
  refine ⟨⟨⟨sv, hx, h2.of fun b hb => ks.block b (h2.blk hb).2.1 ?_, h3⟩, (ks.block gp (Th.blk_lt h.past) (Ne.symm h.ne)).trans h.past, h.bN, h.gN, belowC h.bl (by have := h.B0; have := h.NS; omega) _, h.B0, Nat.le_trans h.NS.1 ks.size, h.NS.2⟩, ks⟩
  obtain ⟨_, _, cur, hc⟩ := h2.blk hb
  exact ty_ne hc h1 (by decide)
theorem LE.setp (h : LE w0 P bx gp w e f pv) {k : Nat} (hk : k < P.t) (v : Int) : LE w0 P bx gp (w.setCell ⟨gp, k, none⟩ (.int .u64 v)) e f (Mm.upd pv k v) ∧ Th.KS (fun j => j = gp) w (w.setCell ⟨gp, k, none⟩ (.int .u64 v)) := by
  obtain ⟨sv, h1, h2, h3⟩ := h.sv
  have ks := Th.KS.set w gp k (.int .u64 v)
  have hx := heap_setCell_same w gp k _ _ (.int .u64 v) h.past
  have hb := h.gN
  refine ⟨⟨⟨sv, (ks.block bx (Th.blk_lt h1) h.ne).trans h1, h2.of fun b hb => ks.block b (h2.blk hb).2.1 (fun e => h3 (by rw [← e]; exact hb)), h3⟩, ?_, h.bN, h.gN, belowC h.bl (by have := h.B0; have := h.NS; omega) _, h.B0, Nat.le_trans h.NS.1 ks.size, h.NS.2⟩, ks⟩
  rw [hx]
  congr 2
  apply Array.ext'
  rw [Array.toList_setIfInBounds]
  simp only []
  apply List.ext_getElem?
  intro j
  rw [List.getElem?_set]
  by_cases hj : j < P.t
  · by_cases e : k = j
    · subst e; rw [if_pos rfl, if_pos (by rw [Th.ucells_len]; exact hj), Th.ucells_get hj]; unfold Mm.upd; rw [if_pos rfl]
    · rw [if_neg e, Th.ucells_get hj, Th.ucells_get hj]; unfold Mm.upd; rw [if_neg (Ne.symm e)]
  · rw [List.getElem?_eq_none (by rw [Th.ucells_len]; omega), List.getElem?_eq_none (by rw [Th.ucells_len]; omega), if_neg (by omega)]
end
structure AI (P : Pc) (σ : Sg) (e : Int) (pv : Nat → Int) (i : Nat) : Prop where
  f1 : σ.f 1 = e
  ei : 3 ≤ e ∧ e ≤ 3 + i
  idle : ∀ j, j < P.t → (σ.Ts j).nf = 0 ∧ (σ.Ts j).ss 3 = .int .u64 (pv j)
  ac : 0 ≤ σ.acc ∧ σ.acc ≤ 20 * i ∧ 0 ≤ σ.steps ∧ σ.steps ≤ 20 * i
  ok : σ.flt = false ∧ σ.sl = 0 ∧ σ.odd = false
theorem AI.le {P : Pc} {σ : Sg} {e : Int} {pv : Nat → Int} {i j : Nat} (h : AI P σ e pv i) (hj : i ≤ j) : AI P σ e pv j := ⟨h.f1, by have := h.ei; omega, h.idle, by have := h.ac; omega, h.ok⟩
/-- Its session was pinned, or not. -/
theorem AI.pin {P : Pc} {σ : Sg} {e : Int} {pv : Nat → Int} {i k : Nat} (h : AI P σ e pv i) (b : Bool) : AI P (σ.thr k (setS (σ.Ts k) 1 (.bool b))) e pv i := by
  refine ⟨h.f1, h.ei, fun j hj => ?_, h.ac, h.ok⟩
  by_cases e : j = k
  · subst e; rw [Sg.thr_at]; exact ⟨(h.idle j hj).1, (h.idle j hj).2⟩
  · unfold Sg.thr; simp only [if_neg e]; exact h.idle j hj
theorem AI.go {P : Pc} {σ σ1 : Sg} {e e1 r p : Int} {pv pv1 : Nat → Int} {i k L : Nat} {F : Nat → Int} (h : AI P σ e pv i) (hk : k < P.t) (ho : EOut σ σ1 k F L r (.int .u64 p)) (hL : L ≤ 8) (hF : F 1 = e1) (he : 3 ≤ e1 ∧ e1 ≤ 3 + i + 1) (hp : pv1 k = p ∧ ∀ j, j ≠ k → pv1 j = pv j) : AI P σ1 e1 pv1 (i + 1) := by
  have h1 := ho.ac; have h2 := h.ac
  refine ⟨by rw [ho.f]; exact hF, by omega, fun j hj => ?_, by omega, by rw [ho.ok.1, ho.ok.2.1, ho.ok.2.2]; exact h.ok⟩
  by_cases e : j = k
  · subst e; exact ⟨ho.nf, by rw [ho.s3, hp.1]⟩
  · rw [ho.oth j e, hp.2 j e]; exact h.idle j hj
theorem cThreadB {w : World} {P : Pc} {σ : Sg} (h : MM w P σ) {k : Nat} (hk : k < P.t) : Calls Try.prog 8 #[.pointer (some ⟨P.q, 0, none⟩), .int .i64 k] w fun e w' => e = .returned (.pointer (some ⟨P.tq k, 0, none⟩)) ∧ Below w.heap.size w w' := cThread_yes h.c k hk
set_option maxRecDepth 16000 in
set_option maxHeartbeats 16000000 in
theorem epochAlone_walk (v0 v1 : Value) (w : World) (s0 : Fr.ok1 w (.int .i64) v0) (s1 : Fr.ok1 w (.slice [.int .i64, .int .i64, .bool]) v1) :
    Calls Try.prog 3 #[v0, v1] w fun e w' => e = .returned (.bool true) ∧ Below w.heap.size w w' := by
  obtain ⟨T, rfl, _⟩ := Fr.get_int s0
  obtain ⟨pa, pn, pc, rfl, p1, p2, hp⟩ := des_open s1
  have HP := Lib.hid hp
  clear hp s1 s0
  refine Calls.veil fun Q HQ => ?_
  cases hmay : mayC T 7 5 with
  | false =>
    have HM := Lib.hid hmay
    rcases may75 hmay with h1 | h1
    · clear hmay
      go_enter Try.func3, Try.ntmps3
      go_wp2_with fail
      refine (cnew_no _ _ _ _ HM.out).mono ?_; rintro _ w1 ⟨rfl, hb⟩
      have HB1 := Lib.hid hb
      clear hb
      go_wp2_with fail
      refine (lives18_calls _).mono ?_; rintro _ w3 ⟨rfl, hb⟩
      have HB3 := Lib.hid (below_on HB1.out hb)
      clear hb
      go_wp2_with fail
      (try go_ret)
      rw [HQ.out]
      exact ⟨rfl, HB3.out⟩
    · have h0 : ¬ T < 1 := by omega
      clear hmay
      go_enter Try.func3, Try.ntmps3
      go_wp2_with fail
      refine (cnew_no _ _ _ _ HM.out).mono ?_; rintro _ w1 ⟨rfl, hb⟩
      have HB1 := Lib.hid hb
      clear hb
      go_wp2_with fail
      refine (lives18_calls _).mono ?_; rintro _ w3 ⟨rfl, hb⟩
      have HB3 := Lib.hid (below_on HB1.out hb)
      clear hb
      go_wp2_with fail
      (try go_ret)
      rw [HQ.out]
      exact ⟨rfl, HB3.out⟩
  | true =>
  have hm := mayC_true hmay
  obtain ⟨t, rfl⟩ : ∃ t : Nat, T = t := ⟨T.toNat, by omega⟩
  have HM := Lib.hid hmay
  have t1 : 1 ≤ t := by omega
  have t6 : t ≤ 6 := by omega
  clear hmay hm
  go_enter Try.func3, Try.ntmps3
  go_wp2_with fail
  refine (cnewI (t := t) (s := 7) _ HM.out).mono ?_; rintro _ w2 ⟨q, pl, mb, mg, C, gq, gg, gm, fv, tq, rfl, hmi, hb, hin⟩
  have hm0 := MM.init hmi hin
  obtain ⟨P, hP⟩ : ∃ P : Pc, P = ⟨w.heap.size, q, pl, mb, mg, C, gq, gg, gm, fv, tq, t, 7, 5, w2.heap.size⟩ := ⟨_, rfl⟩
  rw [← hP] at hm0
  have eq1 : q = P.q := by rw [hP]
  have HE := Lib.hid (show P.t = t ∧ P.B = w.heap.size ∧ P.N = w2.heap.size from by rw [hP]; exact ⟨rfl, rfl, rfl⟩)
  rw [eq1]
  obtain ⟨σ0, hσ⟩ : ∃ σ0, σ0 = sgInit t 7 := ⟨_, rfl⟩
  rw [← hσ] at hm0
  have HI2 := Lib.hid (show AI P σ0 3 (fun _ => 0) 0 from by
    rw [hσ]
    exact ⟨partF_1 t 3 7, ⟨Int.le_refl _, Int.le_refl _⟩, fun j hj => ⟨rfl, rfl⟩, ⟨Int.le_refl _, Int.le_refl _, Int.le_refl _, Int.le_refl _⟩, rfl, rfl, rfl⟩)
  have HNL := Lib.hid (show Th.ucells P.t (fun _ => 0) = nowL P.t σ0.f from by
    unfold nowL Th.ucells
    refine List.map_congr_left fun j hj => ?_
    rw [hσ]
    show Value.int .u64 0 = .int .u64 (partF t 3 7 (aI j))
    rw [partF_a (by have := List.mem_range.1 hj; rw [HE.out.1] at this; exact this)])
  have HM2 := Lib.hid hm0; have HB2 := Lib.hid hb
  clear hmi hb hin hP eq1 hm0 hσ
  by_cases hpn : 60 < pn
  · have hp2 : (60 : Int) < pn := by omega
    go_wp2_with fail
    refine (lives18_calls _).mono ?_; rintro _ w3 ⟨rfl, hb⟩
    have HB3 := Lib.hid (below_on HB2.out hb)
    clear hb
    go_wp2_with fail
    (try go_ret)
    rw [HQ.out]
    exact ⟨rfl, HB3.out⟩
  have hp2 : ¬ (60 : Int) < pn := by omega
  have hms := Gd.run_gens t (by omega)
  go_upto_region 8 with fail
  clear hms
  generalize hV : World.alloc _ _ = V
  obtain ⟨u0, u1, u2, hbv⟩ := heap3c hV
  obtain ⟨gp, hgp⟩ : ∃ z, z = w2.heap.size + 1 + 1 := ⟨_, rfl⟩
  rw [← hgp] at u2 ⊢
  obtain ⟨bx, hbx⟩ : ∃ z, z = w2.heap.size + 1 := ⟨_, rfl⟩
  rw [← hbx] at u1 ⊢
  have HL3 := Lib.hid (show LE w P bx gp V 3 σ0.f (fun _ => 0) from by
    refine ⟨⟨_, u1, ⟨by simp [nowL, Th.ucells], .inr ⟨w2.heap.size, t, _, ?_, by rw [HE.out.2.2]; exact Nat.le_refl _, u0, by rw [HE.out.1]; exact Nat.le_refl _, by unfold maxLen; omega, by simp [Gd.cG], ?_⟩⟩, by simp [Value.ownBlock]; omega⟩, ?_, by rw [HE.out.2.2]; omega, by rw [HE.out.2.2]; omega, below_on HB2.out hbv, by rw [HE.out.2.1]; exact Nat.le_refl _, by rw [HE.out.2.2]; exact hbv.size, by rw [HE.out.2.1, HE.out.2.2]; exact HB2.out.size⟩
    · rw [HE.out.1]
    · rw [← HNL.out, HE.out.1]; simp [Gd.cG, Th.ucells, List.take_of_length_le]
    · rw [HE.out.1]; exact u2)
  have HM3 := Lib.hid (HM2.out.below hbv)
  clear hV u0 u1 u2 hbv hgp hbx HM2 HB2 HNL
  go_wp2_with fail
  go_loopw [9] (fun iv wr => ∃ i : Nat, i ≤ pn ∧ iv = .int .i64 i ∧ ∃ (σ : Sg) (e : Int) (pv : Nat → Int), Hid (MM wr P σ) ∧ Hid (AI P σ e pv i) ∧ Hid (LE w P bx gp wr e σ.f pv)) (fun iv _ => pn - (intOf iv).toNat)
  case atStart => exact ⟨0, Nat.zero_le _, rfl, σ0, 3, _, HM3, HI2, HL3⟩
  case round =>
    clear HM3 HI2 HL3 σ0
    obtain ⟨i, hi, rfl, σ, e, pv, HM4, HI4, HL4⟩ := hrel
    rcases (by omega : i < pn ∨ i = pn) with hlt | heq
    · obtain ⟨pg, po, rfl, k, a, b, hk⟩ := HP.out i hlt
      have HPK := Lib.hid hk
      have d0 : wr.cell? ⟨pg, po + i * 3, none⟩ = some (.int .i64 k) := Ext.use (Ext.cells hk.1) HL4.out.bl
      have hii : (i : Int) < pn := by omega
      clear hk
      rcases (by omega : k < 0 ∨ (0 ≤ k ∧ (t : Int) ≤ k) ∨ (0 ≤ k ∧ k < t)) with h1 | ⟨h1, h2⟩ | ⟨h1, h2⟩
      · go_wp2_with fail
        clear d0
        go_roundw
        case rel => exact ⟨i + 1, by omega, by go_num, σ, e, pv, HM4, Lib.hid (HI4.out.le (by omega)), HL4⟩
        case measure => simp [intOf]; omega
      · have h3 : ¬ k < 0 := by omega
        go_wp2_with fail
        clear d0
        go_roundw
        case rel => exact ⟨i + 1, by omega, by go_num, σ, e, pv, HM4, Lib.hid (HI4.out.le (by omega)), HL4⟩
        case measure => simp [intOf]; omega
      · obtain ⟨k, rfl⟩ : ∃ j : Nat, k = j := ⟨k.toNat, by omega⟩
        have HK := Lib.hid (show k < P.t by rw [HE.out.1]; omega)
        have HT := Lib.hid (show P.t ≤ 6 by rw [HE.out.1]; exact t6)
        have h3 : ¬ (k : Int) < 0 := by omega
        have h4 : ¬ (t : Int) ≤ k := by omega
        go_upto_region 13 with fail
        clear d0 h1 h2 h3 h4
        have HL7 := Lib.hid (show ∀ y : Ext wr, (Instr.loadAt 4 (.pointer (some ⟨pg, po + i * 3 + 2, none⟩))).run Try.prog y.w = .ok (.bool b) y.w from fun y => by (have hc := Ext.use (Ext.cells (Ext.use (Ext.cells HPK.out.2.2) HL4.out.bl)) y.h; go_simp))
        refine Th.wp_region_K (fun w' => ∃ y : Ext wr, w' = y.w) 11 (by decide +kernel) ?_
        generalize hwd : World.drew wr = wd
        have hbd : Below wr.heap.size wr wd := by rw [← hwd]; exact (Below.refl _ _).drew
        clear hwd
        (refine Th.wpAnyK_takeY (i := 0) (v := ?_) rfl (by decide +kernel) (by decide +kernel) (by decide +kernel) (by decide) (fun _ _ _ h => h) (Or.inl ⟨by rfl, ?_⟩) (.inr ⟨⟨wd, hbd⟩, rfl⟩) ?_; rotate_left; (intro w; go_simp); (try with_reducible rfl))
        (try simp only [List.getElem_toArray, List.getElem_cons_succ, List.getElem_cons_zero, Act.put, List.setIfInBounds_toArray, List.set_cons_succ, List.set_cons_zero])
        (refine Th.wpAnyK_takeY (i := 1) (v := ?_) rfl (by decide +kernel) (by decide +kernel) (by decide +kernel) (by decide) (fun _ _ _ h => h) (Or.inl ⟨by rfl, ?_⟩) (.inr ⟨⟨wd, hbd⟩, rfl⟩) ?_; rotate_left; (intro w; go_simp); (try with_reducible rfl))
        (try simp only [List.getElem_toArray, List.getElem_cons_succ, List.getElem_cons_zero, Act.put, List.setIfInBounds_toArray, List.set_cons_succ, List.set_cons_zero])
        (refine Th.wpAnyK_takeY (i := 3) (v := ?_) rfl (by decide +kernel) (by decide +kernel) (by decide +kernel) (by decide) (fun _ _ _ h => h) (Or.inl ⟨by rfl, ?_⟩) (.inr ⟨⟨wd, hbd⟩, rfl⟩) ?_; rotate_left; (intro w; go_simp); (try with_reducible rfl))
        (try simp only [List.getElem_toArray, List.getElem_cons_succ, List.getElem_cons_zero, Act.put, List.setIfInBounds_toArray, List.set_cons_succ, List.set_cons_zero])
        (refine Th.wpAnyK_takeY (i := 4) (v := ?_) rfl (by decide +kernel) (by decide +kernel) (by decide +kernel) (by decide) (fun _ _ _ h => h) (Or.inl ⟨by rfl, ?_⟩) (.inr ⟨⟨wd, hbd⟩, rfl⟩) ?_; rotate_left; (intro w; go_simp); (try with_reducible rfl))
        (try simp only [List.getElem_toArray, List.getElem_cons_succ, List.getElem_cons_zero, Act.put, List.setIfInBounds_toArray, List.set_cons_succ, List.set_cons_zero])
        (refine Th.wpAnyK_takeY (i := 5) (v := ?_) rfl (by decide +kernel) (by decide +kernel) (by decide +kernel) (by decide) (fun _ _ _ h => h) (Or.inl ⟨by rfl, ?_⟩) (.inr ⟨⟨wd, hbd⟩, rfl⟩) ?_; rotate_left; (intro w; go_simp); (try with_reducible rfl))
        (try simp only [List.getElem_toArray, List.getElem_cons_succ, List.getElem_cons_zero, Act.put, List.setIfInBounds_toArray, List.set_cons_succ, List.set_cons_zero])
        (refine Th.wpAnyK_takeY (i := 6) (v := ?_) rfl (by decide +kernel) (by decide +kernel) (by decide +kernel) (by decide) (fun _ _ _ h => h) (Or.inl ⟨by rfl, ?_⟩) (.inr ⟨⟨wd, hbd⟩, rfl⟩) ?_; rotate_left; (intro w; go_simp); (try with_reducible rfl))
        (try simp only [List.getElem_toArray, List.getElem_cons_succ, List.getElem_cons_zero, Act.put, List.setIfInBounds_toArray, List.set_cons_succ, List.set_cons_zero])
        (refine Th.wpAnyK_take (i := 7) (v := .bool b) [11] rfl (by decide +kernel) (by decide +kernel) (by decide +kernel) (by decide +kernel) (fun _ _ _ h => h) (Th.yields_loadK rfl 4 (.tmp 70) rfl rfl (by rintro _ ⟨y, rfl⟩; exact HL7.out y)) ⟨⟨wd, hbd⟩, rfl⟩ ?_)
        (try simp only [List.getElem_toArray, List.getElem_cons_succ, List.getElem_cons_zero, Act.put, List.setIfInBounds_toArray, List.set_cons_succ, List.set_cons_zero])
        (refine Th.wpAnyK_ready (rs := [2]) (by decide +kernel) (by simp) ?_; refine (Th.AllReadyK.cons rfl (fun K hK => ?_) Th.AllReadyK.nil))
        refine step_of rfl ?_
        go_step
        refine (cThreadB (HM4.out.below hbd) HK.out).mono ?_; rintro _ w7 ⟨rfl, hb7⟩
        have hb7 := below_on hbd hb7
        have HM5 := Lib.hid (HM4.out.below hb7); have HL5 := Lib.hid (HL4.out.below hb7)
        refine hK _ _ (.inr ⟨⟨w7, hb7⟩, rfl⟩) ?_
        clear hK K HM4 HL4
        (try simp only [List.getElem_toArray, List.getElem_cons_succ, List.getElem_cons_zero, Act.put, List.setIfInBounds_toArray, List.set_cons_succ, List.set_cons_zero])
        (refine Th.wpAnyK_takeY (i := 8) (v := ?_) rfl (by decide +kernel) (by decide +kernel) (by decide +kernel) (by decide) (fun _ _ _ h => h) (Or.inl ⟨by rfl, ?_⟩) (.inr ⟨⟨w7, hb7⟩, rfl⟩) ?_; rotate_left; (intro w; go_simp); (try with_reducible rfl))
        (try simp only [List.getElem_toArray, List.getElem_cons_succ, List.getElem_cons_zero, Act.put, List.setIfInBounds_toArray, List.set_cons_succ, List.set_cons_zero])
        (refine Th.wpAnyK_takeY (i := 9) (v := ?_) rfl (by decide +kernel) (by decide +kernel) (by decide +kernel) (by decide) (fun _ _ _ h => h) (Or.inl ⟨by rfl, ?_⟩) (.inr ⟨⟨w7, hb7⟩, rfl⟩) ?_; rotate_left; (intro w; go_simp); (try with_reducible rfl))
        (try simp only [List.getElem_toArray, List.getElem_cons_succ, List.getElem_cons_zero, Act.put, List.setIfInBounds_toArray, List.set_cons_succ, List.set_cons_zero])
        (refine Th.wpAnyK_takeY (i := 10) (v := ?_) rfl (by decide +kernel) (by decide +kernel) (by decide +kernel) (by decide) (fun _ _ _ h => h) (Or.inl ⟨by rfl, ?_⟩) (.inr ⟨⟨w7, hb7⟩, rfl⟩) ?_; rotate_left; (intro w; go_simp); (try with_reducible rfl))
        (try simp only [List.getElem_toArray, List.getElem_cons_succ, List.getElem_cons_zero, Act.put, List.setIfInBounds_toArray, List.set_cons_succ, List.set_cons_zero])
        obtain ⟨ps, fvs, hp5⟩ := HM5.out.mp
        have s4 : w7.cell? ⟨P.tq k, 13, none⟩ = some ((σ.Ts k).ss 1) := hp5.ss HK.out 1 (by omega)
        have sf : ∀ i, w7.frozen? ⟨P.tq k, i, none⟩ = false := hp5.tfr HK.out
        have HP5 := Lib.hid hp5
        clear hp5
        (refine Th.wpAnyK_ready (rs := [11]) (by decide +kernel) (by simp) ?_; refine (Th.AllReadyK.cons rfl (fun K hK => ?_) Th.AllReadyK.nil))
        refine step_of rfl ?_
        go_step
        refine hK _ _ (.inl rfl) ?_
        clear hK K
        refine Th.wpAnyK_done (by decide +kernel) ?_ _
        clear s4 sf hbd hb7 HL7
        generalize hW : World.setCell _ _ _ = W
        obtain ⟨hp6, hk6⟩ : MP W P _ ps fvs ∧ KA P.B P.N w7 W := by rw [← hW]; exact HP5.out.setSS HK.out 1 (by omega) (.bool b) rfl
        obtain ⟨σ1, hσ1⟩ : ∃ σ1, σ1 = σ.thr k (setS (σ.Ts k) 1 (.bool b)) := ⟨_, rfl⟩
        rw [← hσ1] at hp6
        have HM6 := Lib.hid hp6.mm; have HL6 := Lib.hid (show LE w P bx gp W e σ1.f pv from by rw [hσ1]; exact HL5.out.ka hk6)
        have HI6 := Lib.hid (show AI P σ1 e pv i from by rw [hσ1]; exact HI4.out.pin b)
        have HPN := Lib.hid (show (σ1.Ts k).ss 1 = .bool b from by rw [hσ1, Sg.thr_at]; rfl)
        clear hW hp6 hk6 HP5 HM5 HL5 HI4 hσ1
        have d1 : W.cell? ⟨pg, po + i * 3 + 1, none⟩ = some (.int .i64 a) := Ext.use (Ext.cells HPK.out.2.1) HL6.out.bl
        have d2 : W.cell? ⟨pg, po + i * 3 + 2, none⟩ = some (.bool b) := Ext.use (Ext.cells HPK.out.2.2) HL6.out.bl
        have hac := HI6.out.ac; have hei := HI6.out.ei
        by_cases hw0 : a = 0
        · subst hw0
          cases b with
          | true =>
            go_wp2_with fail
            refine (aEnterP (most := 4) HM6.out HK.out (HI6.out.idle k HK.out).1 (by omega) (by omega) (by omega) (by omega) (by omega) (by omega) HPN.out).mono ?_
            rintro _ wq ⟨rfl, σ2, hm8, hk8, ho8⟩
            have ho9 := ho8
            rw [(HI6.out.idle k HK.out).2] at ho9
            have HO8 := Lib.hid ho8; have HM8 := Lib.hid hm8
            have hl8 := HL6.out.ka hk8
            rw [← ho8.f] at hl8
            have HI8 := Lib.hid (AI.go (e1 := e) (pv1 := pv) HI6.out HK.out ho9  (by omega) HI6.out.f1 (by omega) ⟨rfl, fun j _ => rfl⟩)
            have HL8 := Lib.hid hl8
            clear hm8 hk8 ho8 ho9 hl8
            have hnm : ¬ (4 : Int) < 1 := by omega
            go_upto_region 31 with fail
            have HQQ := Lib.hid (show (wq.cell? ⟨P.tq k, 0, none⟩ = some (.int .u64 0)) ∧ wq.cell? ⟨P.tq k, 15, none⟩ = some (.int .u64 (pv k)) from ⟨by have := HM8.out.ret HK.out (i := 0) (by omega); rw [HO8.out.ret] at this; exact this, by have := HM8.out.ss HK.out (i := 3) (by omega); rw [(HI8.out.idle k HK.out).2] at this; exact this⟩)
            obtain ⟨sv8, hx8, ho8, hn8⟩ := HL8.out.sv
            obtain ⟨sa8, sc8, rfl, _, _⟩ := ho8.slice
            have HS8 := Lib.hid ho8
            have c0 := Ext.cells HQQ.out.1; have c15 := Ext.cells HQQ.out.2
            have x0 := Ext.cells (Th.newcell hx8 0 _ rfl); have x1 := Ext.cells (Th.newcell hx8 1 _ rfl)
            have pk := Ext.cells (HL8.out.pc HK.out)
            have hkt : (k : Int) < t := by have := HK.out; rw [HE.out.1] at this; omega
            clear hx8 ho8 hn8
            (with_reducible refine wp_region_mix (fun w' => ∃ y : Ext wq, w' = y.w) ?_ ?_ ?_ ?_; kernel_rfl; kernel_rfl; exact ⟨⟨wq.drew, (Below.refl _ _).drew⟩, rfl⟩)
            have hb60 : Below wq.heap.size wq wq.drew := (Below.refl _ _).drew
            repeat (first | ((with_reducible refine mix_skip (by kernel_rfl) ?_); go_big_quiet_skip; (with_reducible refine mix_on ?_)) | ((with_reducible refine mix_plain (by kernel_rfl) ?_); (first | go_big_quiet_skip | (go_big_quiet_want; go_big_quiet_op; go_big_quiet_on)); (with_reducible refine mix_on ?_)))
            ((with_reducible refine wpMix_chain (by kernel_rfl) (by kernel_rfl) (fun K HKK => ?_)); go_step)
            refine (cThreadB (HM8.out.below hb60) HK.out).mono ?_; rintro _ w61 ⟨rfl, hb⟩
            have hb61 := below_on hb60 hb
            clear hb
            refine HKK.out _ _ ⟨⟨w61, hb61⟩, rfl⟩ ?_
            clear HKK K
            repeat (first | ((with_reducible refine mix_skip (by kernel_rfl) ?_); go_big_quiet_skip; (with_reducible refine mix_on ?_)) | ((with_reducible refine mix_plain (by kernel_rfl) ?_); (first | go_big_quiet_skip | (go_big_quiet_want; go_big_quiet_op; go_big_quiet_on)); (with_reducible refine mix_on ?_)))
            ((with_reducible refine wpMix_chain (by kernel_rfl) (by kernel_rfl) (fun K HKK => ?_)); go_step)
            refine (lnow (HM8.out.below hb61)).mono ?_; rintro _ w62 ⟨sv9, rfl, hsv9, hb⟩
            have hb62 := below_on hb61 hb
            clear hb
            rw [HI8.out.f1]
            obtain ⟨sa9, sc9, rfl, _, _⟩ := hsv9.slice
            refine HKK.out _ _ ⟨⟨w62, hb62⟩, rfl⟩ ?_
            clear HKK K
            repeat (first | ((with_reducible refine mix_skip (by kernel_rfl) ?_); go_big_quiet_skip; (with_reducible refine mix_on ?_)) | ((with_reducible refine mix_plain (by kernel_rfl) ?_); (first | go_big_quiet_skip | (go_big_quiet_want; go_big_quiet_op; go_big_quiet_on)); (with_reducible refine mix_on ?_)))
            ((with_reducible refine wpMix_chain (by kernel_rfl) (by kernel_rfl) (fun K HKK => ?_)); go_step)
            refine (lsameE hsv9 (Th.OwnL.below HS8.out hb62) (by have := HT.out; omega)).mono ?_; rintro _ w63 ⟨rfl, hb⟩
            have hb63 := below_on hb62 hb
            clear hb hsv9
            refine HKK.out _ _ ⟨⟨w63, hb63⟩, rfl⟩ ?_
            clear HKK K
            repeat (first | ((with_reducible refine mix_skip (by kernel_rfl) ?_); go_big_quiet_skip; (with_reducible refine mix_on ?_)) | ((with_reducible refine mix_plain (by kernel_rfl) ?_); (first | go_big_quiet_skip | (go_big_quiet_want; go_big_quiet_op; go_big_quiet_on)); (with_reducible refine mix_on ?_)))
            ((with_reducible refine wpMix_chain (by kernel_rfl) (by kernel_rfl) (fun K HKK => ?_)); go_step)
            refine (cThreadB (HM8.out.below hb63) HK.out).mono ?_; rintro _ w64 ⟨rfl, hb⟩
            have hb64 := below_on hb63 hb
            clear hb
            refine HKK.out _ _ ⟨⟨w64, hb64⟩, rfl⟩ ?_
            clear HKK K
            repeat (first | ((with_reducible refine mix_skip (by kernel_rfl) ?_); go_big_quiet_skip; (with_reducible refine mix_on ?_)) | ((with_reducible refine mix_plain (by kernel_rfl) ?_); (first | go_big_quiet_skip | (go_big_quiet_want; go_big_quiet_op; go_big_quiet_on)); (with_reducible refine mix_on ?_)))
            refine wpMix_nil ?_
            have HM9 := Lib.hid (HM8.out.below hb64); have HL9 := Lib.hid (HL8.out.below hb64)
            clear hnm c0 c15 x0 x1 pk hkt hb60 hb61 hb62 hb63 hb64 HM8
            (try clear d1)
            (try clear d2)
            go_wp2_with fail
            go_roundw
            case rel => exact ⟨i + 1, by omega, by go_num, σ2, _, _, HM9, HI8, HL9⟩
            case measure => simp [intOf]; omega
          | false =>
            obtain ⟨sv, hx, ho, hn⟩ := HL6.out.sv
            obtain ⟨sa, sc, rfl, _, _⟩ := ho.slice
            have HO := Lib.hid ho; have HNP := Lib.hid (Th.blk_lt HL6.out.past)
            have x0 := Th.newcell hx 0 _ rfl; have x1 := Th.newcell hx 1 _ rfl
            clear hx ho hn
            have hw1 : IntKind.u64.wrap (2 * e) = 2 * e := by rw [IntKind.wrap_u64]; omega
            have hw2 : IntKind.u64.wrap (2 * e + 1) = 2 * e + 1 := by rw [IntKind.wrap_u64]; omega
            go_wp2_with fail
            refine (rset HO.out (by have := HT.out; omega) HK.out (2 * e + 1)).mono ?_; rintro _ w9 ⟨sv', rfl, ho9, hb9⟩
            rw [nowL_upd] at ho9
            have HM7 := Lib.hid (HM6.out.below hb9); have HL7 := Lib.hid (HL6.out.below hb9)
            obtain ⟨sa', sc', rfl, _, _⟩ := ho9.slice
            have HO9 := Lib.hid (show Th.OwnL 27 w9 P.N (.slice sa' P.t sc') P.t (nowL P.t (Mm.upd σ1.f (aI k) (2 * e + 1))) ∧ (Value.slice sa' P.t sc').ownBlock ≠ some gp from by
              have hbk : ∀ z, (Value.slice sa' P.t sc').ownBlock = some z → W.heap.size ≤ z := fun z hz => (ho9.blk hz).1
              refine ⟨⟨ho9.1, ?_⟩, fun hz => by have := hbk gp hz; have := HNP.out; omega⟩
              rcases ho9.2 with h0 | ⟨g, cap, cur, h1, h2, h3⟩
              · exact .inl h0
              · exact .inr ⟨g, cap, cur, h1, by have := HL6.out.NS; omega, h3⟩)
            clear ho9 hb9 x0 x1 HM6 HL6
            have x0 := HL7.out.x0
            obtain ⟨sv, hx, _⟩ := HL7.out.sv
            have x1 := Th.newcell hx 1 _ rfl
            have xf : ∀ i, w9.frozen? ⟨bx, i, none⟩ = false := HL7.out.xf
            have HX7 := Lib.hid hx
            clear hx
            go_upto_region 24 with fail
            clear x0 x1 xf hw1 hw2
            generalize hW2 : World.setCell _ _ _ = W2
            obtain ⟨hl8, ks8⟩ : LE w P bx gp W2 e _ pv ∧ Th.KS (fun j => j = bx) w9 W2 := by rw [← hW2]; exact HL7.out.setx HO9.out.1 HO9.out.2
            have HM7 := Lib.hid (HM7.out.other HX7.out HL7.out.bN (by decide) (by decide) (by decide) (by decide) ks8)
            have HL8 := Lib.hid hl8
            clear hW2 hl8 ks8 HX7 HL7 HO9
            have x0 := HL8.out.x0
            have pk := HL8.out.pc HK.out
            have pf : ∀ i, W2.frozen? ⟨gp, i, none⟩ = false := fun i => frozen_of_row _ _ _ _ _ HL8.out.past
            have hw3 : IntKind.u64.wrap (e - 1) = e - 1 := by rw [IntKind.wrap_u64]; omega
            have hkt : (k : Int) < t := by have := HK.out; rw [HE.out.1] at this; omega
            go_wp2_with fail
            clear x0 pk pf hw3 hkt
            generalize hW3 : World.setCell _ _ _ = W3
            obtain ⟨hl9, ks9⟩ : LE w P bx gp W3 e _ (Mm.upd pv k (e - 1)) ∧ Th.KS (fun j => j = gp) W2 W3 := by rw [← hW3]; exact HL8.out.setp HK.out (e - 1)
            have HM9 := Lib.hid (HM7.out.other HL8.out.past HL8.out.gN (by decide) (by decide) (by decide) (by decide) ks9)
            have HLX := Lib.hid hl9
            have HFA := Lib.hid (show Mm.upd σ1.f (aI k) (2 * e + 1) = Mm.upd σ1.f (aI k) (actI (σ1.f 1)) from by rw [HI6.out.f1, actI_eq (by omega) (by omega)])
            rw [HFA.out] at HLX
            clear hW3 hl9 ks9 HL8 HM7
            refine (aEnter (most := 4) HM9.out HK.out (HI6.out.idle k HK.out).1 (by omega) (by omega) (by omega) (by omega) (by omega) (by omega) HPN.out (by rw [HI6.out.f1]; omega)).mono ?_
            rintro _ wq ⟨rfl, σ2, hm8, hk8, ho8⟩
            have ho9 := ho8
            (try rw [show (Value.int .u64 (σ1.f 1 - 1)) = .int .u64 (e - 1) from by rw [HI6.out.f1]] at ho9)
            have HO8 := Lib.hid ho8; have HM8 := Lib.hid hm8
            have hl8 := HLX.out.ka hk8
            rw [← ho8.f] at hl8
            have HI8 := Lib.hid (AI.go (e1 := e) (pv1 := (Mm.upd pv k (e - 1))) HI6.out HK.out ho9  (by omega) (by unfold Mm.upd; rw [if_neg (Ne.symm (aI_1 k))]; exact HI6.out.f1) (by omega) ⟨by unfold Mm.upd; rw [if_pos rfl], fun j hj => by unfold Mm.upd; rw [if_neg hj]⟩)
            have HL8 := Lib.hid hl8
            clear hm8 hk8 ho8 ho9 hl8
            have hnm : ¬ (4 : Int) < 3 := by omega
            go_upto_region 31 with fail
            have HQQ := Lib.hid (show (wq.cell? ⟨P.tq k, 0, none⟩ = some (.int .u64 0)) ∧ wq.cell? ⟨P.tq k, 15, none⟩ = some (.int .u64 ((Mm.upd pv k (e - 1)) k)) from ⟨by have := HM8.out.ret HK.out (i := 0) (by omega); rw [HO8.out.ret] at this; exact this, by have := HM8.out.ss HK.out (i := 3) (by omega); rw [(HI8.out.idle k HK.out).2] at this; exact this⟩)
            obtain ⟨sv8, hx8, ho8, hn8⟩ := HL8.out.sv
            obtain ⟨sa8, sc8, rfl, _, _⟩ := ho8.slice
            have HS8 := Lib.hid ho8
            have c0 := Ext.cells HQQ.out.1; have c15 := Ext.cells HQQ.out.2
            have x0 := Ext.cells (Th.newcell hx8 0 _ rfl); have x1 := Ext.cells (Th.newcell hx8 1 _ rfl)
            have pk := Ext.cells (HL8.out.pc HK.out)
            have hkt : (k : Int) < t := by have := HK.out; rw [HE.out.1] at this; omega
            clear hx8 ho8 hn8
            (with_reducible refine wp_region_mix (fun w' => ∃ y : Ext wq, w' = y.w) ?_ ?_ ?_ ?_; kernel_rfl; kernel_rfl; exact ⟨⟨wq.drew, (Below.refl _ _).drew⟩, rfl⟩)
            have hb60 : Below wq.heap.size wq wq.drew := (Below.refl _ _).drew
            repeat (first | ((with_reducible refine mix_skip (by kernel_rfl) ?_); go_big_quiet_skip; (with_reducible refine mix_on ?_)) | ((with_reducible refine mix_plain (by kernel_rfl) ?_); (first | go_big_quiet_skip | (go_big_quiet_want; go_big_quiet_op; go_big_quiet_on)); (with_reducible refine mix_on ?_)))
            ((with_reducible refine wpMix_chain (by kernel_rfl) (by kernel_rfl) (fun K HKK => ?_)); go_step)
            refine (cThreadB (HM8.out.below hb60) HK.out).mono ?_; rintro _ w61 ⟨rfl, hb⟩
            have hb61 := below_on hb60 hb
            clear hb
            refine HKK.out _ _ ⟨⟨w61, hb61⟩, rfl⟩ ?_
            clear HKK K
            repeat (first | ((with_reducible refine mix_skip (by kernel_rfl) ?_); go_big_quiet_skip; (with_reducible refine mix_on ?_)) | ((with_reducible refine mix_plain (by kernel_rfl) ?_); (first | go_big_quiet_skip | (go_big_quiet_want; go_big_quiet_op; go_big_quiet_on)); (with_reducible refine mix_on ?_)))
            ((with_reducible refine wpMix_chain (by kernel_rfl) (by kernel_rfl) (fun K HKK => ?_)); go_step)
            refine (lnow (HM8.out.below hb61)).mono ?_; rintro _ w62 ⟨sv9, rfl, hsv9, hb⟩
            have hb62 := below_on hb61 hb
            clear hb
            rw [HI8.out.f1]
            obtain ⟨sa9, sc9, rfl, _, _⟩ := hsv9.slice
            refine HKK.out _ _ ⟨⟨w62, hb62⟩, rfl⟩ ?_
            clear HKK K
            repeat (first | ((with_reducible refine mix_skip (by kernel_rfl) ?_); go_big_quiet_skip; (with_reducible refine mix_on ?_)) | ((with_reducible refine mix_plain (by kernel_rfl) ?_); (first | go_big_quiet_skip | (go_big_quiet_want; go_big_quiet_op; go_big_quiet_on)); (with_reducible refine mix_on ?_)))
            ((with_reducible refine wpMix_chain (by kernel_rfl) (by kernel_rfl) (fun K HKK => ?_)); go_step)
            refine (lsameE hsv9 (Th.OwnL.below HS8.out hb62) (by have := HT.out; omega)).mono ?_; rintro _ w63 ⟨rfl, hb⟩
            have hb63 := below_on hb62 hb
            clear hb hsv9
            refine HKK.out _ _ ⟨⟨w63, hb63⟩, rfl⟩ ?_
            clear HKK K
            repeat (first | ((with_reducible refine mix_skip (by kernel_rfl) ?_); go_big_quiet_skip; (with_reducible refine mix_on ?_)) | ((with_reducible refine mix_plain (by kernel_rfl) ?_); (first | go_big_quiet_skip | (go_big_quiet_want; go_big_quiet_op; go_big_quiet_on)); (with_reducible refine mix_on ?_)))
            ((with_reducible refine wpMix_chain (by kernel_rfl) (by kernel_rfl) (fun K HKK => ?_)); go_step)
            refine (cThreadB (HM8.out.below hb63) HK.out).mono ?_; rintro _ w64 ⟨rfl, hb⟩
            have hb64 := below_on hb63 hb
            clear hb
            refine HKK.out _ _ ⟨⟨w64, hb64⟩, rfl⟩ ?_
            clear HKK K
            repeat (first | ((with_reducible refine mix_skip (by kernel_rfl) ?_); go_big_quiet_skip; (with_reducible refine mix_on ?_)) | ((with_reducible refine mix_plain (by kernel_rfl) ?_); (first | go_big_quiet_skip | (go_big_quiet_want; go_big_quiet_op; go_big_quiet_on)); (with_reducible refine mix_on ?_)))
            refine wpMix_nil ?_
            have HM9 := Lib.hid (HM8.out.below hb64); have HL9 := Lib.hid (HL8.out.below hb64)
            clear hnm c0 c15 x0 x1 pk hkt hb60 hb61 hb62 hb63 hb64 HM8
            (try clear d1)
            (try clear d2)
            go_wp2_with fail
            go_roundw
            case rel => exact ⟨i + 1, by omega, by go_num, σ2, _, _, HM9, HI8, HL9⟩
            case measure => simp [intOf]; omega
        by_cases hw1 : a = 1
        · subst hw1
          cases b with
          | true =>
            go_wp2_with fail
            refine (aLeaveP (most := 2) HM6.out HK.out (HI6.out.idle k HK.out).1 (by omega) (by omega) (by omega) (by omega) (by omega) (by omega) HPN.out).mono ?_
            rintro _ wq ⟨rfl, σ2, hm8, hk8, ho8⟩
            have ho9 := ho8
            rw [(HI6.out.idle k HK.out).2] at ho9
            have HO8 := Lib.hid ho8; have HM8 := Lib.hid hm8
            have hl8 := HL6.out.ka hk8
            rw [← ho8.f] at hl8
            have HI8 := Lib.hid (AI.go (e1 := e) (pv1 := pv) HI6.out HK.out ho9  (by omega) HI6.out.f1 (by omega) ⟨rfl, fun j _ => rfl⟩)
            have HL8 := Lib.hid hl8
            clear hm8 hk8 ho8 ho9 hl8
            have hnm : ¬ (2 : Int) < 1 := by omega
            go_upto_region 31 with fail
            have HQQ := Lib.hid (show (wq.cell? ⟨P.tq k, 0, none⟩ = some (.int .u64 0)) ∧ wq.cell? ⟨P.tq k, 15, none⟩ = some (.int .u64 (pv k)) from ⟨by have := HM8.out.ret HK.out (i := 0) (by omega); rw [HO8.out.ret] at this; exact this, by have := HM8.out.ss HK.out (i := 3) (by omega); rw [(HI8.out.idle k HK.out).2] at this; exact this⟩)
            obtain ⟨sv8, hx8, ho8, hn8⟩ := HL8.out.sv
            obtain ⟨sa8, sc8, rfl, _, _⟩ := ho8.slice
            have HS8 := Lib.hid ho8
            have c0 := Ext.cells HQQ.out.1; have c15 := Ext.cells HQQ.out.2
            have x0 := Ext.cells (Th.newcell hx8 0 _ rfl); have x1 := Ext.cells (Th.newcell hx8 1 _ rfl)
            have pk := Ext.cells (HL8.out.pc HK.out)
            have hkt : (k : Int) < t := by have := HK.out; rw [HE.out.1] at this; omega
            clear hx8 ho8 hn8
            (with_reducible refine wp_region_mix (fun w' => ∃ y : Ext wq, w' = y.w) ?_ ?_ ?_ ?_; kernel_rfl; kernel_rfl; exact ⟨⟨wq.drew, (Below.refl _ _).drew⟩, rfl⟩)
            have hb60 : Below wq.heap.size wq wq.drew := (Below.refl _ _).drew
            repeat (first | ((with_reducible refine mix_skip (by kernel_rfl) ?_); go_big_quiet_skip; (with_reducible refine mix_on ?_)) | ((with_reducible refine mix_plain (by kernel_rfl) ?_); (first | go_big_quiet_skip | (go_big_quiet_want; go_big_quiet_op; go_big_quiet_on)); (with_reducible refine mix_on ?_)))
            ((with_reducible refine wpMix_chain (by kernel_rfl) (by kernel_rfl) (fun K HKK => ?_)); go_step)
            refine (cThreadB (HM8.out.below hb60) HK.out).mono ?_; rintro _ w61 ⟨rfl, hb⟩
            have hb61 := below_on hb60 hb
            clear hb
            refine HKK.out _ _ ⟨⟨w61, hb61⟩, rfl⟩ ?_
            clear HKK K
            repeat (first | ((with_reducible refine mix_skip (by kernel_rfl) ?_); go_big_quiet_skip; (with_reducible refine mix_on ?_)) | ((with_reducible refine mix_plain (by kernel_rfl) ?_); (first | go_big_quiet_skip | (go_big_quiet_want; go_big_quiet_op; go_big_quiet_on)); (with_reducible refine mix_on ?_)))
            ((with_reducible refine wpMix_chain (by kernel_rfl) (by kernel_rfl) (fun K HKK => ?_)); go_step)
            refine (lnow (HM8.out.below hb61)).mono ?_; rintro _ w62 ⟨sv9, rfl, hsv9, hb⟩
            have hb62 := below_on hb61 hb
            clear hb
            rw [HI8.out.f1]
            obtain ⟨sa9, sc9, rfl, _, _⟩ := hsv9.slice
            refine HKK.out _ _ ⟨⟨w62, hb62⟩, rfl⟩ ?_
            clear HKK K
            repeat (first | ((with_reducible refine mix_skip (by kernel_rfl) ?_); go_big_quiet_skip; (with_reducible refine mix_on ?_)) | ((with_reducible refine mix_plain (by kernel_rfl) ?_); (first | go_big_quiet_skip | (go_big_quiet_want; go_big_quiet_op; go_big_quiet_on)); (with_reducible refine mix_on ?_)))
            ((with_reducible refine wpMix_chain (by kernel_rfl) (by kernel_rfl) (fun K HKK => ?_)); go_step)
            refine (lsameE hsv9 (Th.OwnL.below HS8.out hb62) (by have := HT.out; omega)).mono ?_; rintro _ w63 ⟨rfl, hb⟩
            have hb63 := below_on hb62 hb
            clear hb hsv9
            refine HKK.out _ _ ⟨⟨w63, hb63⟩, rfl⟩ ?_
            clear HKK K
            repeat (first | ((with_reducible refine mix_skip (by kernel_rfl) ?_); go_big_quiet_skip; (with_reducible refine mix_on ?_)) | ((with_reducible refine mix_plain (by kernel_rfl) ?_); (first | go_big_quiet_skip | (go_big_quiet_want; go_big_quiet_op; go_big_quiet_on)); (with_reducible refine mix_on ?_)))
            ((with_reducible refine wpMix_chain (by kernel_rfl) (by kernel_rfl) (fun K HKK => ?_)); go_step)
            refine (cThreadB (HM8.out.below hb63) HK.out).mono ?_; rintro _ w64 ⟨rfl, hb⟩
            have hb64 := below_on hb63 hb
            clear hb
            refine HKK.out _ _ ⟨⟨w64, hb64⟩, rfl⟩ ?_
            clear HKK K
            repeat (first | ((with_reducible refine mix_skip (by kernel_rfl) ?_); go_big_quiet_skip; (with_reducible refine mix_on ?_)) | ((with_reducible refine mix_plain (by kernel_rfl) ?_); (first | go_big_quiet_skip | (go_big_quiet_want; go_big_quiet_op; go_big_quiet_on)); (with_reducible refine mix_on ?_)))
            refine wpMix_nil ?_
            have HM9 := Lib.hid (HM8.out.below hb64); have HL9 := Lib.hid (HL8.out.below hb64)
            clear hnm c0 c15 x0 x1 pk hkt hb60 hb61 hb62 hb63 hb64 HM8
            (try clear d1)
            (try clear d2)
            go_wp2_with fail
            go_roundw
            case rel => exact ⟨i + 1, by omega, by go_num, σ2, _, _, HM9, HI8, HL9⟩
            case measure => simp [intOf]; omega
          | false =>
            obtain ⟨sv, hx, ho, hn⟩ := HL6.out.sv
            obtain ⟨sa, sc, rfl, _, _⟩ := ho.slice
            have HO := Lib.hid ho; have HNP := Lib.hid (Th.blk_lt HL6.out.past)
            have x0 := Th.newcell hx 0 _ rfl; have x1 := Th.newcell hx 1 _ rfl
            clear hx ho hn
            go_wp2_with fail
            refine (rset HO.out (by have := HT.out; omega) HK.out (0)).mono ?_; rintro _ w9 ⟨sv', rfl, ho9, hb9⟩
            rw [nowL_upd] at ho9
            have HM7 := Lib.hid (HM6.out.below hb9); have HL7 := Lib.hid (HL6.out.below hb9)
            obtain ⟨sa', sc', rfl, _, _⟩ := ho9.slice
            have HO9 := Lib.hid (show Th.OwnL 27 w9 P.N (.slice sa' P.t sc') P.t (nowL P.t (Mm.upd σ1.f (aI k) (0))) ∧ (Value.slice sa' P.t sc').ownBlock ≠ some gp from by
              have hbk : ∀ z, (Value.slice sa' P.t sc').ownBlock = some z → W.heap.size ≤ z := fun z hz => (ho9.blk hz).1
              refine ⟨⟨ho9.1, ?_⟩, fun hz => by have := hbk gp hz; have := HNP.out; omega⟩
              rcases ho9.2 with h0 | ⟨g, cap, cur, h1, h2, h3⟩
              · exact .inl h0
              · exact .inr ⟨g, cap, cur, h1, by have := HL6.out.NS; omega, h3⟩)
            clear ho9 hb9 x0 x1 HM6 HL6
            have x0 := HL7.out.x0
            obtain ⟨sv, hx, _⟩ := HL7.out.sv
            have x1 := Th.newcell hx 1 _ rfl
            have xf : ∀ i, w9.frozen? ⟨bx, i, none⟩ = false := HL7.out.xf
            have HX7 := Lib.hid hx
            clear hx
            go_wp2_with fail
            clear x0 x1 xf
            generalize hW2 : World.setCell _ _ _ = W2
            obtain ⟨hl8, ks8⟩ : LE w P bx gp W2 e _ pv ∧ Th.KS (fun j => j = bx) w9 W2 := by rw [← hW2]; exact HL7.out.setx HO9.out.1 HO9.out.2
            have HM7 := Lib.hid (HM7.out.other HX7.out HL7.out.bN (by decide) (by decide) (by decide) (by decide) ks8)
            have HL8 := Lib.hid hl8
            clear hW2 hl8 ks8 HX7 HL7 HO9
            refine (aLeave (most := 2) HM7.out HK.out (HI6.out.idle k HK.out).1 (by omega) (by omega) (by omega) (by omega) (by omega) (by omega) HPN.out).mono ?_
            rintro _ wq ⟨rfl, σ2, hm8, hk8, ho8⟩
            have ho9 := ho8
            rw [(HI6.out.idle k HK.out).2] at ho9
            have HO8 := Lib.hid ho8; have HM8 := Lib.hid hm8
            have hl8 := HL8.out.ka hk8
            rw [← ho8.f] at hl8
            have HI8 := Lib.hid (AI.go (e1 := e) (pv1 := pv) HI6.out HK.out ho9  (by omega) (by unfold Mm.upd; rw [if_neg (Ne.symm (aI_1 k))]; exact HI6.out.f1) (by omega) ⟨rfl, fun j _ => rfl⟩)
            have HL8 := Lib.hid hl8
            clear hm8 hk8 ho8 ho9 hl8
            have hnm : ¬ (2 : Int) < 1 := by omega
            go_upto_region 31 with fail
            have HQQ := Lib.hid (show (wq.cell? ⟨P.tq k, 0, none⟩ = some (.int .u64 0)) ∧ wq.cell? ⟨P.tq k, 15, none⟩ = some (.int .u64 (pv k)) from ⟨by have := HM8.out.ret HK.out (i := 0) (by omega); rw [HO8.out.ret] at this; exact this, by have := HM8.out.ss HK.out (i := 3) (by omega); rw [(HI8.out.idle k HK.out).2] at this; exact this⟩)
            obtain ⟨sv8, hx8, ho8, hn8⟩ := HL8.out.sv
            obtain ⟨sa8, sc8, rfl, _, _⟩ := ho8.slice
            have HS8 := Lib.hid ho8
            have c0 := Ext.cells HQQ.out.1; have c15 := Ext.cells HQQ.out.2
            have x0 := Ext.cells (Th.newcell hx8 0 _ rfl); have x1 := Ext.cells (Th.newcell hx8 1 _ rfl)
            have pk := Ext.cells (HL8.out.pc HK.out)
            have hkt : (k : Int) < t := by have := HK.out; rw [HE.out.1] at this; omega
            clear hx8 ho8 hn8
            (with_reducible refine wp_region_mix (fun w' => ∃ y : Ext wq, w' = y.w) ?_ ?_ ?_ ?_; kernel_rfl; kernel_rfl; exact ⟨⟨wq.drew, (Below.refl _ _).drew⟩, rfl⟩)
            have hb60 : Below wq.heap.size wq wq.drew := (Below.refl _ _).drew
            repeat (first | ((with_reducible refine mix_skip (by kernel_rfl) ?_); go_big_quiet_skip; (with_reducible refine mix_on ?_)) | ((with_reducible refine mix_plain (by kernel_rfl) ?_); (first | go_big_quiet_skip | (go_big_quiet_want; go_big_quiet_op; go_big_quiet_on)); (with_reducible refine mix_on ?_)))
            ((with_reducible refine wpMix_chain (by kernel_rfl) (by kernel_rfl) (fun K HKK => ?_)); go_step)
            refine (cThreadB (HM8.out.below hb60) HK.out).mono ?_; rintro _ w61 ⟨rfl, hb⟩
            have hb61 := below_on hb60 hb
            clear hb
            refine HKK.out _ _ ⟨⟨w61, hb61⟩, rfl⟩ ?_
            clear HKK K
            repeat (first | ((with_reducible refine mix_skip (by kernel_rfl) ?_); go_big_quiet_skip; (with_reducible refine mix_on ?_)) | ((with_reducible refine mix_plain (by kernel_rfl) ?_); (first | go_big_quiet_skip | (go_big_quiet_want; go_big_quiet_op; go_big_quiet_on)); (with_reducible refine mix_on ?_)))
            ((with_reducible refine wpMix_chain (by kernel_rfl) (by kernel_rfl) (fun K HKK => ?_)); go_step)
            refine (lnow (HM8.out.below hb61)).mono ?_; rintro _ w62 ⟨sv9, rfl, hsv9, hb⟩
            have hb62 := below_on hb61 hb
            clear hb
            rw [HI8.out.f1]
            obtain ⟨sa9, sc9, rfl, _, _⟩ := hsv9.slice
            refine HKK.out _ _ ⟨⟨w62, hb62⟩, rfl⟩ ?_
            clear HKK K
            repeat (first | ((with_reducible refine mix_skip (by kernel_rfl) ?_); go_big_quiet_skip; (with_reducible refine mix_on ?_)) | ((with_reducible refine mix_plain (by kernel_rfl) ?_); (first | go_big_quiet_skip | (go_big_quiet_want; go_big_quiet_op; go_big_quiet_on)); (with_reducible refine mix_on ?_)))
            ((with_reducible refine wpMix_chain (by kernel_rfl) (by kernel_rfl) (fun K HKK => ?_)); go_step)
            refine (lsameE hsv9 (Th.OwnL.below HS8.out hb62) (by have := HT.out; omega)).mono ?_; rintro _ w63 ⟨rfl, hb⟩
            have hb63 := below_on hb62 hb
            clear hb hsv9
            refine HKK.out _ _ ⟨⟨w63, hb63⟩, rfl⟩ ?_
            clear HKK K
            repeat (first | ((with_reducible refine mix_skip (by kernel_rfl) ?_); go_big_quiet_skip; (with_reducible refine mix_on ?_)) | ((with_reducible refine mix_plain (by kernel_rfl) ?_); (first | go_big_quiet_skip | (go_big_quiet_want; go_big_quiet_op; go_big_quiet_on)); (with_reducible refine mix_on ?_)))
            ((with_reducible refine wpMix_chain (by kernel_rfl) (by kernel_rfl) (fun K HKK => ?_)); go_step)
            refine (cThreadB (HM8.out.below hb63) HK.out).mono ?_; rintro _ w64 ⟨rfl, hb⟩
            have hb64 := below_on hb63 hb
            clear hb
            refine HKK.out _ _ ⟨⟨w64, hb64⟩, rfl⟩ ?_
            clear HKK K
            repeat (first | ((with_reducible refine mix_skip (by kernel_rfl) ?_); go_big_quiet_skip; (with_reducible refine mix_on ?_)) | ((with_reducible refine mix_plain (by kernel_rfl) ?_); (first | go_big_quiet_skip | (go_big_quiet_want; go_big_quiet_op; go_big_quiet_on)); (with_reducible refine mix_on ?_)))
            refine wpMix_nil ?_
            have HM9 := Lib.hid (HM8.out.below hb64); have HL9 := Lib.hid (HL8.out.below hb64)
            clear hnm c0 c15 x0 x1 pk hkt hb60 hb61 hb62 hb63 hb64 HM8
            (try clear d1)
            (try clear d2)
            go_wp2_with fail
            go_roundw
            case rel => exact ⟨i + 1, by omega, by go_num, σ2, _, _, HM9, HI8, HL9⟩
            case measure => simp [intOf]; omega
        have ha0 : (a == 0) = false := by simpa using hw0
        have ha1 : (a == 1) = false := by simpa using hw1
        clear hw0 hw1
        have hrg : ∀ j, j < P.t → 0 ≤ σ1.f (aI j) ∧ σ1.f (aI j) < 18446744073709551616 := fun j hj => HM6.out.c.mem.rng (aI j) (by unfold aI; omega)
        have HRG := Lib.hid hrg
        clear hrg
        rcases first_lag (fun j => lagsB (σ1.f (aI j)) (σ1.f 1)) P.t with hno | ⟨l, hl1, hl2, hl3⟩
        · have HNO := Lib.hid hno
          clear hno
          obtain ⟨sv, hx, ho, hn⟩ := HL6.out.sv
          obtain ⟨sa, sc, rfl, _, _⟩ := ho.slice
          have HO := Lib.hid ho
          have x0 := Th.newcell hx 0 _ rfl; have x1 := Th.newcell hx 1 _ rfl
          clear hx ho hn
          go_wp2_with fail
          refine (rlags (l := P.t) (b := false) HO.out (by have := HT.out; omega) HRG.out (by exact Nat.le_refl _) (by rw [← HI6.out.f1]; exact HNO.out) (by rw [← HI6.out.f1]; exact .inl ⟨rfl, rfl⟩)).mono ?_; rintro _ w9 ⟨rfl, hb9⟩
          have HM7 := Lib.hid (HM6.out.below hb9); have HL7 := Lib.hid (HL6.out.below hb9)
          clear hb9 x0 x1 HM6 HL6
          have x0 := HL7.out.x0
          have xf : ∀ i, w9.frozen? ⟨bx, i, none⟩ = false := HL7.out.xf
          have hw1 : IntKind.u64.wrap (e + 1) = e + 1 := by rw [IntKind.wrap_u64]; omega
          go_upto_region 18 with fail
          clear x0 xf hw1
          generalize hW2 : World.setCell _ _ _ = W2
          obtain ⟨hl8, ks8⟩ : LE w P bx gp W2 (e + 1) σ1.f pv ∧ Th.KS (fun j => j = bx) w9 W2 := by rw [← hW2]; exact HL7.out.sete (e + 1)
          obtain ⟨sv, hx, ho, hn⟩ := HL7.out.sv
          have HM8 := Lib.hid (HM7.out.other hx HL7.out.bN (by decide) (by decide) (by decide) (by decide) ks8)
          have HLX := Lib.hid (show LE w P bx gp W2 (e + 1) (Mm.upd σ1.f 1 (σ1.f 1 + 1)) pv from by
            obtain ⟨sv, h1, h2, h3⟩ := hl8.sv
            exact ⟨⟨sv, h1, by rw [nowL_1]; exact h2, h3⟩, hl8.past, hl8.bN, hl8.gN, hl8.bl, hl8.B0, hl8.NS⟩)
          clear hW2 hl8 ks8 hx ho hn HL7 HM7
          go_wp2_with fail
          (try rw [show (t : Int) + 3 = ((t + 3 : Nat) : Int) from by omega])
          have HTT := Lib.hid HE.out.1
          refine (aAdv (most := t + 3) HM8.out HK.out (HI6.out.idle k HK.out).1 (by omega) (by omega) (by omega) (by omega) (by omega) (by rw [HTT.out]; omega) HNO.out (by rw [HI6.out.f1]; omega)).mono ?_
          rintro _ wq ⟨rfl, σ2, hm8, hk8, ho8⟩
          have ho9 := ho8
          rw [(HI6.out.idle k HK.out).2] at ho9
          have HO8 := Lib.hid ho8; have HM8 := Lib.hid hm8
          have hl8 := HLX.out.ka hk8
          rw [← ho8.f] at hl8
          have HI8 := Lib.hid (AI.go (e1 := (e + 1)) (pv1 := pv) HI6.out HK.out ho9  (by have := HT.out; omega) (by unfold Mm.upd; rw [if_pos rfl, HI6.out.f1]) (by omega) ⟨rfl, fun j _ => rfl⟩)
          have HL8 := Lib.hid hl8
          clear hm8 hk8 ho8 ho9 hl8
          (try rw [HTT.out])
          have hnm : ¬ (t : Int) + 3 < (t : Int) + 2 := by omega
          go_upto_region 31 with fail
          have HQQ := Lib.hid (show (wq.cell? ⟨P.tq k, 0, none⟩ = some (.int .u64 1)) ∧ wq.cell? ⟨P.tq k, 15, none⟩ = some (.int .u64 (pv k)) from ⟨by have := HM8.out.ret HK.out (i := 0) (by omega); rw [HO8.out.ret] at this; exact this, by have := HM8.out.ss HK.out (i := 3) (by omega); rw [(HI8.out.idle k HK.out).2] at this; exact this⟩)
          obtain ⟨sv8, hx8, ho8, hn8⟩ := HL8.out.sv
          obtain ⟨sa8, sc8, rfl, _, _⟩ := ho8.slice
          have HS8 := Lib.hid ho8
          have c0 := Ext.cells HQQ.out.1; have c15 := Ext.cells HQQ.out.2
          have x0 := Ext.cells (Th.newcell hx8 0 _ rfl); have x1 := Ext.cells (Th.newcell hx8 1 _ rfl)
          have pk := Ext.cells (HL8.out.pc HK.out)
          have hkt : (k : Int) < t := by have := HK.out; rw [HE.out.1] at this; omega
          clear hx8 ho8 hn8
          (with_reducible refine wp_region_mix (fun w' => ∃ y : Ext wq, w' = y.w) ?_ ?_ ?_ ?_; kernel_rfl; kernel_rfl; exact ⟨⟨wq.drew, (Below.refl _ _).drew⟩, rfl⟩)
          have hb60 : Below wq.heap.size wq wq.drew := (Below.refl _ _).drew
          repeat (first | ((with_reducible refine mix_skip (by kernel_rfl) ?_); go_big_quiet_skip; (with_reducible refine mix_on ?_)) | ((with_reducible refine mix_plain (by kernel_rfl) ?_); (first | go_big_quiet_skip | (go_big_quiet_want; go_big_quiet_op; go_big_quiet_on)); (with_reducible refine mix_on ?_)))
          ((with_reducible refine wpMix_chain (by kernel_rfl) (by kernel_rfl) (fun K HKK => ?_)); go_step)
          refine (cThreadB (HM8.out.below hb60) HK.out).mono ?_; rintro _ w61 ⟨rfl, hb⟩
          have hb61 := below_on hb60 hb
          clear hb
          refine HKK.out _ _ ⟨⟨w61, hb61⟩, rfl⟩ ?_
          clear HKK K
          repeat (first | ((with_reducible refine mix_skip (by kernel_rfl) ?_); go_big_quiet_skip; (with_reducible refine mix_on ?_)) | ((with_reducible refine mix_plain (by kernel_rfl) ?_); (first | go_big_quiet_skip | (go_big_quiet_want; go_big_quiet_op; go_big_quiet_on)); (with_reducible refine mix_on ?_)))
          ((with_reducible refine wpMix_chain (by kernel_rfl) (by kernel_rfl) (fun K HKK => ?_)); go_step)
          refine (lnow (HM8.out.below hb61)).mono ?_; rintro _ w62 ⟨sv9, rfl, hsv9, hb⟩
          have hb62 := below_on hb61 hb
          clear hb
          rw [HI8.out.f1]
          obtain ⟨sa9, sc9, rfl, _, _⟩ := hsv9.slice
          refine HKK.out _ _ ⟨⟨w62, hb62⟩, rfl⟩ ?_
          clear HKK K
          repeat (first | ((with_reducible refine mix_skip (by kernel_rfl) ?_); go_big_quiet_skip; (with_reducible refine mix_on ?_)) | ((with_reducible refine mix_plain (by kernel_rfl) ?_); (first | go_big_quiet_skip | (go_big_quiet_want; go_big_quiet_op; go_big_quiet_on)); (with_reducible refine mix_on ?_)))
          ((with_reducible refine wpMix_chain (by kernel_rfl) (by kernel_rfl) (fun K HKK => ?_)); go_step)
          refine (lsameE hsv9 (Th.OwnL.below HS8.out hb62) (by have := HT.out; omega)).mono ?_; rintro _ w63 ⟨rfl, hb⟩
          have hb63 := below_on hb62 hb
          clear hb hsv9
          refine HKK.out _ _ ⟨⟨w63, hb63⟩, rfl⟩ ?_
          clear HKK K
          repeat (first | ((with_reducible refine mix_skip (by kernel_rfl) ?_); go_big_quiet_skip; (with_reducible refine mix_on ?_)) | ((with_reducible refine mix_plain (by kernel_rfl) ?_); (first | go_big_quiet_skip | (go_big_quiet_want; go_big_quiet_op; go_big_quiet_on)); (with_reducible refine mix_on ?_)))
          ((with_reducible refine wpMix_chain (by kernel_rfl) (by kernel_rfl) (fun K HKK => ?_)); go_step)
          refine (cThreadB (HM8.out.below hb63) HK.out).mono ?_; rintro _ w64 ⟨rfl, hb⟩
          have hb64 := below_on hb63 hb
          clear hb
          refine HKK.out _ _ ⟨⟨w64, hb64⟩, rfl⟩ ?_
          clear HKK K
          repeat (first | ((with_reducible refine mix_skip (by kernel_rfl) ?_); go_big_quiet_skip; (with_reducible refine mix_on ?_)) | ((with_reducible refine mix_plain (by kernel_rfl) ?_); (first | go_big_quiet_skip | (go_big_quiet_want; go_big_quiet_op; go_big_quiet_on)); (with_reducible refine mix_on ?_)))
          refine wpMix_nil ?_
          have HM9 := Lib.hid (HM8.out.below hb64); have HL9 := Lib.hid (HL8.out.below hb64)
          clear hnm c0 c15 x0 x1 pk hkt hb60 hb61 hb62 hb63 hb64 HM8
          (try clear d1)
          (try clear d2)
          go_wp2_with fail
          go_roundw
          case rel => exact ⟨i + 1, by omega, by go_num, σ2, _, _, HM9, HI8, HL9⟩
          case measure => simp [intOf]; omega
        · have HLG := Lib.hid (And.intro hl1 (And.intro hl2 hl3))
          clear hl1 hl2 hl3
          obtain ⟨sv, hx, ho, hn⟩ := HL6.out.sv
          obtain ⟨sa, sc, rfl, _, _⟩ := ho.slice
          have HO := Lib.hid ho
          have x0 := Th.newcell hx 0 _ rfl; have x1 := Th.newcell hx 1 _ rfl
          clear hx ho hn
          go_wp2_with fail
          refine (rlags (l := l) (b := true) HO.out (by have := HT.out; omega) HRG.out (by have := HLG.out.1; omega) (by rw [← HI6.out.f1]; exact HLG.out.2.2) (by rw [← HI6.out.f1]; exact .inr ⟨rfl, HLG.out.1, HLG.out.2.1⟩)).mono ?_; rintro _ w9 ⟨rfl, hb9⟩
          have HM7 := Lib.hid (HM6.out.below hb9); have HL7 := Lib.hid (HL6.out.below hb9)
          clear hb9 x0 x1 HM6 HL6
          go_wp2_with fail
          (try rw [show (t : Int) + 3 = ((t + 3 : Nat) : Int) from by omega])
          have HTT := Lib.hid HE.out.1
          refine (aAdvL (most := t + 3) HM7.out HK.out (HI6.out.idle k HK.out).1 (by omega) (by omega) (by omega) (by omega) (by omega) HLG.out.1 (by have := HLG.out.1; rw [HTT.out] at this; omega) HLG.out.2.2 HLG.out.2.1).mono ?_
          rintro _ wq ⟨rfl, σ2, hm8, hk8, ho8⟩
          have ho9 := ho8
          rw [(HI6.out.idle k HK.out).2] at ho9
          have HO8 := Lib.hid ho8; have HM8 := Lib.hid hm8
          have hl8 := HL7.out.ka hk8
          rw [← ho8.f] at hl8
          have HI8 := Lib.hid (AI.go (e1 := e) (pv1 := pv) HI6.out HK.out ho9  (by have := HT.out; have := HLG.out.1; omega) HI6.out.f1 (by omega) ⟨rfl, fun j _ => rfl⟩)
          have HL8 := Lib.hid hl8
          clear hm8 hk8 ho8 ho9 hl8
          have hnm : ¬ (t : Int) + 3 < (l : Int) + 2 := by have := HLG.out.1; rw [HTT.out] at this; omega
          have HNM := Lib.hid (decide_eq_false hnm)
          go_upto_region 31 with fail
          have HQQ := Lib.hid (show (wq.cell? ⟨P.tq k, 0, none⟩ = some (.int .u64 0)) ∧ wq.cell? ⟨P.tq k, 15, none⟩ = some (.int .u64 (pv k)) from ⟨by have := HM8.out.ret HK.out (i := 0) (by omega); rw [HO8.out.ret] at this; exact this, by have := HM8.out.ss HK.out (i := 3) (by omega); rw [(HI8.out.idle k HK.out).2] at this; exact this⟩)
          obtain ⟨sv8, hx8, ho8, hn8⟩ := HL8.out.sv
          obtain ⟨sa8, sc8, rfl, _, _⟩ := ho8.slice
          have HS8 := Lib.hid ho8
          have c0 := Ext.cells HQQ.out.1; have c15 := Ext.cells HQQ.out.2
          have x0 := Ext.cells (Th.newcell hx8 0 _ rfl); have x1 := Ext.cells (Th.newcell hx8 1 _ rfl)
          have pk := Ext.cells (HL8.out.pc HK.out)
          have hkt : (k : Int) < t := by have := HK.out; rw [HE.out.1] at this; omega
          clear hx8 ho8 hn8
          have hnd := HNM.out
          (with_reducible refine wp_region_mix (fun w' => ∃ y : Ext wq, w' = y.w) ?_ ?_ ?_ ?_; kernel_rfl; kernel_rfl; exact ⟨⟨wq.drew, (Below.refl _ _).drew⟩, rfl⟩)
          have hb60 : Below wq.heap.size wq wq.drew := (Below.refl _ _).drew
          repeat (first | ((with_reducible refine mix_skip (by kernel_rfl) ?_); go_big_quiet_skip; (with_reducible refine mix_on ?_)) | ((with_reducible refine mix_plain (by kernel_rfl) ?_); (first | go_big_quiet_skip | (go_big_quiet_want; go_big_quiet_op; go_big_quiet_on)); (with_reducible refine mix_on ?_)))
          ((with_reducible refine wpMix_chain (by kernel_rfl) (by kernel_rfl) (fun K HKK => ?_)); go_step)
          refine (cThreadB (HM8.out.below hb60) HK.out).mono ?_; rintro _ w61 ⟨rfl, hb⟩
          have hb61 := below_on hb60 hb
          clear hb
          refine HKK.out _ _ ⟨⟨w61, hb61⟩, rfl⟩ ?_
          clear HKK K
          repeat (first | ((with_reducible refine mix_skip (by kernel_rfl) ?_); go_big_quiet_skip; (with_reducible refine mix_on ?_)) | ((with_reducible refine mix_plain (by kernel_rfl) ?_); (first | go_big_quiet_skip | (go_big_quiet_want; go_big_quiet_op; go_big_quiet_on)); (with_reducible refine mix_on ?_)))
          ((with_reducible refine wpMix_chain (by kernel_rfl) (by kernel_rfl) (fun K HKK => ?_)); go_step)
          refine (lnow (HM8.out.below hb61)).mono ?_; rintro _ w62 ⟨sv9, rfl, hsv9, hb⟩
          have hb62 := below_on hb61 hb
          clear hb
          rw [HI8.out.f1]
          obtain ⟨sa9, sc9, rfl, _, _⟩ := hsv9.slice
          refine HKK.out _ _ ⟨⟨w62, hb62⟩, rfl⟩ ?_
          clear HKK K
          repeat (first | ((with_reducible refine mix_skip (by kernel_rfl) ?_); go_big_quiet_skip; (with_reducible refine mix_on ?_)) | ((with_reducible refine mix_plain (by kernel_rfl) ?_); (first | go_big_quiet_skip | (go_big_quiet_want; go_big_quiet_op; go_big_quiet_on)); (with_reducible refine mix_on ?_)))
          ((with_reducible refine wpMix_chain (by kernel_rfl) (by kernel_rfl) (fun K HKK => ?_)); go_step)
          refine (lsameE hsv9 (Th.OwnL.below HS8.out hb62) (by have := HT.out; omega)).mono ?_; rintro _ w63 ⟨rfl, hb⟩
          have hb63 := below_on hb62 hb
          clear hb hsv9
          refine HKK.out _ _ ⟨⟨w63, hb63⟩, rfl⟩ ?_
          clear HKK K
          repeat (first | ((with_reducible refine mix_skip (by kernel_rfl) ?_); go_big_quiet_skip; (with_reducible refine mix_on ?_)) | ((with_reducible refine mix_plain (by kernel_rfl) ?_); (first | go_big_quiet_skip | (go_big_quiet_want; go_big_quiet_op; go_big_quiet_on)); (with_reducible refine mix_on ?_)))
          ((with_reducible refine wpMix_chain (by kernel_rfl) (by kernel_rfl) (fun K HKK => ?_)); go_step)
          refine (cThreadB (HM8.out.below hb63) HK.out).mono ?_; rintro _ w64 ⟨rfl, hb⟩
          have hb64 := below_on hb63 hb
          clear hb
          refine HKK.out _ _ ⟨⟨w64, hb64⟩, rfl⟩ ?_
          clear HKK K
          repeat (first | ((with_reducible refine mix_skip (by kernel_rfl) ?_); go_big_quiet_skip; (with_reducible refine mix_on ?_)) | ((with_reducible refine mix_plain (by kernel_rfl) ?_); (first | go_big_quiet_skip | (go_big_quiet_want; go_big_quiet_op; go_big_quiet_on)); (with_reducible refine mix_on ?_)))
          refine wpMix_nil ?_
          have HM9 := Lib.hid (HM8.out.below hb64); have HL9 := Lib.hid (HL8.out.below hb64)
          clear hnm hnd c0 c15 x0 x1 pk hkt hb60 hb61 hb62 hb63 hb64 HM8
          (try clear d1)
          (try clear d2)
          go_wp2_with fail
          go_roundw
          case rel => exact ⟨i + 1, by omega, by go_num, σ2, _, _, HM9, HI8, HL9⟩
          case measure => simp [intOf]; omega
    · have heq := heq.symm
      subst heq
      have hii : ¬ (pn : Int) < pn := by omega
      go_wp2_with fail
      have hcf := HM4.out.c
      rw [HI4.out.ok.1, HI4.out.ok.2.1, HI4.out.ok.2.2] at hcf
      refine (cFault hcf).mono ?_; rintro _ wc ⟨rfl, hb⟩
      have HB5 := Lib.hid (below_on HL4.out.bl hb)
      clear hb hcf
      go_wp2_with fail
      refine (lives18_calls _).mono ?_; rintro _ wd ⟨rfl, hb⟩
      have HB6 := Lib.hid (below_on HB5.out hb)
      clear hb
      go_wp2_with fail
      (try go_ret)
      rw [HQ.out]
      exact ⟨rfl, HB6.out⟩
end Go.Proofs.Ytjpkmkaiojnhgaa
