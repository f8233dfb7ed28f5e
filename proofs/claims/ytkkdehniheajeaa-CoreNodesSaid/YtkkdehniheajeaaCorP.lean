/- Layer 16: the walk of CoreNodes. -/
import Derived.Test.YtkkdehniheajeaaCorN
import Derived.Test.YtkkdehniheajeaaCorS
import Derived.Test.YtkkdehniheajeaaCorK
import Derived.Test.YtkkdehniheajeaaCorY
namespace Go.Proofs.Ytkkdehniheajeaa
open Go.RowKit WordM EdgeM
set_option linter.unusedVariables false
set_option linter.unusedSimpArgs false
/-- All blocks of a machine lie below N. -/
structure MIlt (N q pl mb mg gq gg gm : Nat) (fv : Value) (tq : Nat → Nat) (t : Nat) : Prop where
  a : q < N ∧ pl < N ∧ mb < N ∧ mg < N ∧ gq < N ∧ gg < N ∧ gm < N
  v : ∀ b, fv.ownBlock = some b → b < N
  i : ∀ i, i < t → tq i < N
theorem MI.lt {w : World} {B q pl mb mg C gq gg gm : Nat} {fv : Value} {tq : Nat → Nat} {t s : Nat} {K : Int} {f : Nat → Int} {acc : Int} {flt : Bool} {H : Nat → Bool} {G : Nat → Int} {sl steps : Int} {odd : Bool} (h : MI w B q pl mb mg C gq gg gm fv tq t s K f acc flt H G sl steps odd) : MIlt w.heap.size q pl mb mg gq gg gm fv tq t :=
  ⟨⟨Th.blk_lt h.blk, Th.blk_lt h.pln, h.mem.bl, h.mem.gl, by have := h.o5; have := Th.blk_lt h.blk; omega, by have := h.o5; have := Th.blk_lt h.blk; omega, by have := h.o5; have := Th.blk_lt h.blk; omega⟩, fun b hb => (h.ths.blk hb).2.1, fun i hi => Th.blk_lt (h.thr i hi).2⟩
theorem MI.belowN {w : World} {B q pl mb mg C gq gg gm : Nat} {fv : Value} {tq : Nat → Nat} {t s : Nat} {K : Int} {f : Nat → Int} {acc : Int} {flt : Bool} {H : Nat → Bool} {G : Nat → Int} {sl steps : Int} {odd : Bool} {N : Nat} {w' : World} (h : MI w B q pl mb mg C gq gg gm fv tq t s K f acc flt H G sl steps odd) (l : MIlt N q pl mb mg gq gg gm fv tq t) (k : Below N w w') : MI w' B q pl mb mg C gq gg gm fv tq t s K f acc flt H G sl steps odd := by
  obtain ⟨l1, l2, l3, l4, l5, l6, l7⟩ := l.a
  exact ⟨(k.block _ l1).trans h.blk, (k.block _ l2).trans h.pln, h.mem.keep k.size (k.block _ l3) (k.block _ l4), h.grd.belowTo k l5 l6 l7, h.ths.of fun b hb => k.block b (l.v b hb), fun i hi => ⟨(h.thr i hi).1, (k.block _ (l.i i hi)).trans (h.thr i hi).2⟩, h.o1, h.o2, h.o3, h.o4, h.o5, h.may⟩
theorem K3.belowN {w w' : World} {q g m N : Nat} (h : Gd.K3 w w' q g m) (h0 : N ≤ w.heap.size) (h1 : N ≤ q) (h2 : N ≤ g) (h3 : N ≤ m) : Below N w w' :=
  ⟨h.os, h.tape, h.output, h.size, fun j hj => h.block j (by omega) (by omega) (by omega) (by omega)⟩
theorem row_own {w : World} {B n : Nat} {wv : Value} {f : Nat → Int} (h : Th.OwnL 22 w B wv n (Th.ucells n f)) (n0 : 0 < n) : ∃ g C, wv = .slice (some ⟨g, 0, none⟩) n C ∧ n ≤ C ∧ C ≤ 9223372036854775807 ∧ B ≤ g ∧ Mm.RowAt w g n f := by
  rcases h.parts with ⟨_, h0⟩ | ⟨g, c, rfl, h1, h2, h3, h4, _, _, _, h5, h6⟩
  · omega
  · exact ⟨g, c, rfl, h1, h2, h3, fun i hi => h6 i _ hi (Th.ucells_get hi), h5, h4⟩
theorem setRow_below {w W : World} {N X : Nat} {cs : Array Value} (h : Below N w W) (hX : N ≤ X) : Below N w (W.setRow X cs) :=
  ⟨h.os, h.tape, h.output, by have := h.size; simpa [World.setRow] using this, fun j hj => (setRow_other _ _ _ _ (by omega)).trans (h.block j hj)⟩
set_option maxRecDepth 16000 in
theorem load9 {w : World} {X : Nat} {t s : Nat} {K : Int} {wv : Value} {acc : Int} {flt : Bool} {gb gc : Nat} {sl : Int} {odd : Bool} (h : w.heap[X]? = some (.cells (mV t s K wv acc flt gb gc sl odd) 51 (0, 0))) :
    (Instr.loadAt 51 (.pointer (some ⟨X, 0, none⟩))).run Try.prog w = .ok (.agg (mV t s K wv acc flt gb gc sl odd)) w := by
  obtain ⟨d, hdu, hdr⟩ := uM
  exact run_loadAt_mid (P := Try.prog) w X 0 51 _ d (mV_range h) hdu hdr infoM
set_option maxRecDepth 16000 in
theorem load6 {w : World} {g off : Nat} {o : O16} (h : OpC w g off o) : (Instr.loadAt 64 (.pointer (some ⟨g, off, none⟩))).run Try.prog w = .ok (o16V o) w := by
  obtain ⟨h0, h1, h2, h3, h4, h5, _⟩ := h
  unfold o16V op16
  go_simp
theorem SR.keepB {w w' : World} {b n : Nat} {H : Nat → Bool} {G : Nat → Int} (h : Gd.SR w b n H G) (k : w'.heap[b]? = w.heap[b]?) : Gd.SR w' b n H G := fun i hi =>
  ⟨(World.cell?_of_block (w := w) (a := ⟨b, i * 2, none⟩) k).trans (h i hi).1, (World.cell?_of_block (w := w) (a := ⟨b, i * 2 + 1, none⟩) k).trans (h i hi).2⟩
set_option maxRecDepth 16000 in
set_option maxHeartbeats 8000000 in
theorem coreNodes_walk (v0 v1 v2 : Value) (w : World) (s0 : Fr.okN w [.int .i64, .int .i64, .int .u64] v0) (s1 : Fr.ok1 w (.slice [.int .i64, .int .i64, .int .u64, .int .u64, .int .u64, .int .u64]) v1) (s2 : Fr.okN w [.int .i64, .int .i64, .int .u64, .int .u64, .int .u64, .int .u64] v2) :
    Calls Try.prog 4 #[v0, v1, v2] w fun e w' => e = .returned (.bool true) ∧ Below w.heap.size w w' := by
  obtain ⟨cs, rfl, h⟩ := s0
  obtain ⟨_, _, rfl, k0, h⟩ := Fr.get_cons h
  obtain ⟨_, _, rfl, k1, h⟩ := Fr.get_cons h
  obtain ⟨_, _, rfl, k2, h⟩ := Fr.get_cons h
  obtain rfl := Fr.get_nil h
  obtain ⟨T, rfl, _⟩ := Fr.get_int k0
  obtain ⟨S, rfl, _⟩ := Fr.get_int k1
  obtain ⟨Kc, rfl, _⟩ := Fr.get_int k2
  obtain ⟨ao, len, cap, rfl, hlc, hcap, hops⟩ := ops16_open s1
  obtain ⟨cs, rfl, h⟩ := s2
  obtain ⟨oz, rfl, hoz⟩ := op16_cells h
  have HOP := Lib.hid hops; have HOZ := Lib.hid hoz
  clear h k0 k1 k2 s1 hops hoz
  show Calls Try.prog _ #[.agg #[.int .i64 T, .int .i64 S, .int .u64 Kc], _, .agg #[.int .i64 oz.k, .int .i64 oz.fi, .int .u64 oz.e, .int .u64 oz.tm, .int .u64 oz.old, .int .u64 oz.x]] w _
  refine Calls.veil fun Q HQ => ?_
  go_enter Try.func4, Try.ntmps4
  go_upto_region 1 with fail
  generalize hV : World.alloc _ _ = U
  obtain ⟨u0, u1, hbu⟩ := heap2c hV
  obtain ⟨ob, hob⟩ : ∃ z, z = w.heap.size + 1 := ⟨_, rfl⟩
  obtain ⟨cb, hcb⟩ : ∃ z, z = w.heap.size := ⟨_, rfl⟩
  rw [← hob] at u1 ⊢
  rw [← hcb] at u0 ⊢
  have HOB := Lib.hid (show OpC U ob 0 oz from ⟨Th.newcell u1 0 _ rfl, Th.newcell u1 1 _ rfl, Th.newcell u1 2 _ rfl, Th.newcell u1 3 _ rfl, Th.newcell u1 4 _ rfl, Th.newcell u1 5 _ rfl, HOZ.out⟩)
  have HBU := Lib.hid hbu; have HCB := Lib.hid u0
  have o0 := Th.newcell u0 0 _ rfl; have o1 := Th.newcell u0 1 _ rfl; have o2 := Th.newcell u0 2 _ rfl
  clear hV u0 u1 hbu hob hcb
  cases hmay : mayC T S Kc with
  | false =>
    have HM := Lib.hid hmay
    clear hmay
    go_wp2_with fail
    refine (rmay_calls _ _ _ _).mono ?_; rintro _ w1 ⟨rfl, hb⟩
    rw [HM.out]
    have HB1 := Lib.hid (below_on HBU.out hb)
    clear hb o0 o1 o2
    go_wp2_with fail
    refine (lives16_calls _).mono ?_; rintro _ w2 ⟨rfl, hb⟩
    go_wp2_with fail
    (try go_ret)
    rw [HQ.out]
    exact ⟨rfl, below_on HB1.out hb⟩
  | true =>
  have hm := mayC_true hmay
  obtain ⟨t, rfl⟩ : ∃ t : Nat, T = t := ⟨T.toNat, by omega⟩
  obtain ⟨s, rfl⟩ : ∃ s : Nat, S = s := ⟨S.toNat, by omega⟩
  have HM := Lib.hid hmay
  have HBD := Lib.hid (show (1 ≤ t ∧ t ≤ 6) ∧ (7 ≤ s ∧ s ≤ 250) by omega)
  clear hmay hm
  go_upto_region 1 with fail
  by_cases hlen : 40 < len
  · go_wp2_with fail
    refine (rmay_calls _ _ _ _).mono ?_; rintro _ w1 ⟨rfl, hb⟩
    rw [HM.out]
    have HB1 := Lib.hid (below_on HBU.out hb)
    clear hb o0 o1 o2
    go_wp2_with fail
    refine (lives16_calls _).mono ?_; rintro _ w2 ⟨rfl, hb⟩
    go_wp2_with fail
    (try go_ret)
    rw [HQ.out]
    exact ⟨rfl, below_on HB1.out hb⟩
  have hlen2 : len ≤ 40 := by omega
  go_wp2_with fail
  refine (rmay_calls _ _ _ _).mono ?_; rintro _ w1 ⟨rfl, hb⟩
  rw [HM.out]
  have HB1 := Lib.hid hb
  have o0 := Ext.use (Ext.cells o0) hb; have o1 := Ext.use (Ext.cells o1) hb; have o2 := Ext.use (Ext.cells o2) hb
  clear hb
  go_wp2_with fail
  refine (cnew _ HM.out).mono ?_; rintro _ w2 ⟨q, pl, mb, mg, C, gq, gg, gm, fv, tq, rfl, hmi, hb⟩
  have HMI := Lib.hid hmi; have HB2 := Lib.hid (below_on HB1.out hb)
  have o0 := Ext.use (Ext.cells o0) hb; have o1 := Ext.use (Ext.cells o1) hb; have o2 := Ext.use (Ext.cells o2) hb
  have HNQ := Lib.hid (show U.heap.size ≤ q ∧ U.heap.size ≤ mb ∧ U.heap.size ≤ mg from by have := HB1.out.size; have h1 := hmi.o1; have h2 := hmi.o2; have h3 := hmi.o3; have h4 := hmi.o4; have h5 := hmi.o5; omega)
  obtain ⟨N, hN⟩ : ∃ N, N = w2.heap.size := ⟨_, rfl⟩
  have HLT := Lib.hid (show MIlt N q pl mb mg gq gg gm fv tq t from by rw [hN]; exact hmi.lt)
  clear hb hmi HB1
  go_wp2_with fail
  refine (crnew _ HM.out).mono ?_; rintro _ w3 ⟨wv, gb, gc, rfl, hwv, hsr, c1, c2, c3, hb⟩
  obtain ⟨n, hn⟩ : ∃ n, n = 3 + 8 * t + 7 * s := ⟨_, rfl⟩
  have HNN := Lib.hid hn
  rw [← hn] at hwv
  obtain ⟨wg, CX, rfl, d1, d2, d3, hrow⟩ := row_own hwv (by omega)
  have HMI3 := Lib.hid (HMI.out.below hb); have HB3 := Lib.hid (below_on HB2.out hb); have HROW := Lib.hid hrow; have HSR := Lib.hid hsr
  have HNG := Lib.hid (show N ≤ wg ∧ N ≤ gb ∧ U.heap.size ≤ N from by have := HB2.out.size; omega)
  have HGC := Lib.hid (And.intro c1 c2); have HDC := Lib.hid (And.intro d1 d2)
  have HWL := Lib.hid (show wg < w3.heap.size ∧ gb < w3.heap.size from ⟨hrow.lt, by have hh := (hsr 0 (by have := HBD.out; omega)).1; exact World.block_lt_of_cell? w3 ⟨gb, 0 * 2, none⟩ hh⟩)
  have o0 := Ext.use (Ext.cells o0) hb; have o1 := Ext.use (Ext.cells o1) hb; have o2 := Ext.use (Ext.cells o2) hb
  clear hb hwv hsr c1 c2 c3 d1 d2 d3 hrow HMI HB2 hN hn
  clear o0 o1 o2
  unfold mV
  go_upto_region 5 with fail
  generalize hV : World.alloc _ _ = V
  obtain ⟨hx, hbv⟩ := Th.heapnewE hV
  obtain ⟨X, hX⟩ : ∃ X, X = w3.heap.size := ⟨_, rfl⟩
  rw [← hX] at hx ⊢
  have HX := Lib.hid (show V.heap[X]? = some (.cells (mV t s Kc (.slice (some ⟨wg, 0, none⟩) n CX) 0 false gb gc 0 false) 51 (0, 0)) from hx)
  have HMV := Lib.hid (HMI3.out.below hbv); have HRV := Lib.hid (HROW.out.below hbv); have HSV := Lib.hid (HSR.out.below hbv); have HBV := Lib.hid (below_on HB3.out hbv)
  have HXN := Lib.hid (show N ≤ X ∧ gb ≠ X ∧ wg ≠ X from by have := HWL.out; have := HNG.out; omega)
  clear hV hx hbv hX HMI3 HROW HSR HB3 HWL
  go_wp2_with fail
  go_loopw [10] (fun iv wr => ∃ i : Nat, i ≤ len ∧ iv = .int .i64 i ∧ ∃ (S : S16) (wg CX : Nat), Hid (MI wr w1.heap.size q pl mb mg C gq gg gm fv tq t s Kc S.f S.acc S.flt H5 G5 0 0 S.odd) ∧ Hid (wr.heap[X]? = some (.cells (mV t s Kc (.slice (some ⟨wg, 0, none⟩) n CX) S.acc S.flt gb gc 0 S.odd) 51 (0, 0))) ∧ Hid (Mm.RowAt wr wg n S.f) ∧ Hid (Gd.SR wr gb s H5 G5) ∧ Hid (N ≤ wg ∧ wg ≠ X ∧ n ≤ CX ∧ CX ≤ 9223372036854775807) ∧ Hid (0 ≤ S.acc ∧ S.acc ≤ i) ∧ Hid (Below U.heap.size U wr))
    (fun iv _ => len - (intOf iv).toNat)
  case atStart => exact ⟨0, Nat.zero_le _, rfl, ⟨partF t 3 s, 0, false, false⟩, wg, CX, HMV, HX, HRV, HSV, Lib.hid ⟨HNG.out.1, HXN.out.2.2, HDC.out.1, HDC.out.2⟩, Lib.hid ⟨by show (0:Int) ≤ 0; omega, by show (0:Int) ≤ _; omega⟩, HBV⟩
  case round =>
    clear HMV HX HRV HSV HBV HDC
    obtain ⟨i, hi, rfl, S, wg, CX, HM1, HX1, HR1, HS1, HW1, HA1, HBR⟩ := hrel
    have HNG := Lib.hid HNG.out.2
    have HXN := Lib.hid (And.intro HXN.out.1 HXN.out.2.1)
    have HNX := Lib.hid (show X ≠ q ∧ X ≠ mb ∧ X ≠ mg ∧ wg ≠ q ∧ wg ≠ mb ∧ wg ≠ mg ∧ gb ≠ q ∧ gb ≠ mb ∧ gb ≠ mg from by have := HLT.out.a; have := HXN.out; have := HW1.out; have := HNG.out; omega)
    have HNR := Lib.hid (show N ≤ wr.heap.size ∧ X < wr.heap.size from by have := Th.blk_lt HX1.out; have := HXN.out; omega)
    rcases (by omega : i < len ∨ i = len) with hlt | heq
    · obtain ⟨g, off, rfl, o, hc0⟩ := HOP.out i hlt
      have HC0 := Lib.hid hc0
      have hc := hc0.below (below_on HBU.out HBR.out)
      have HOK := Lib.hid (show OkO o from hc.2.2.2.2.2.2)
      obtain ⟨p0, p1, p2, p3, p4, p5, _⟩ := hc
      have hii : (i : Int) < len := by omega
      clear hc0
      go_wp2_with fail
      refine (do16 HM1.out o HOK.out (by have := HA1.out; omega) (by have := HA1.out; omega)).mono ?_; rintro _ w4 ⟨rfl, hm4, k4⟩
      obtain ⟨ta, hta⟩ : ∃ ta, ta = td t s S o := ⟨_, rfl⟩
      obtain ⟨da, hda⟩ : ∃ da, da = dd t s S o := ⟨_, rfl⟩
      rw [← hta, ← hda]
      have HTD := Lib.hid (And.intro hta hda)
      have HM4 := Lib.hid hm4
      have HB4 := Lib.hid (HBR.out.trans (K3.belowN k4 HBR.out.size HNQ.out.1 HNQ.out.2.1 HNQ.out.2.2))
      have HX4 := Lib.hid ((k4.block X (Th.blk_lt HX1.out) HNX.out.1 HNX.out.2.1 HNX.out.2.2.1).trans HX1.out)
      have HR4 := Lib.hid (HR1.out.keep k4.size (k4.block wg HR1.out.lt HNX.out.2.2.2.1 HNX.out.2.2.2.2.1 HNX.out.2.2.2.2.2.1))
      have HS4 := Lib.hid (HS1.out.k3 k4 HNX.out.2.2.2.2.2.2.1 HNX.out.2.2.2.2.2.2.2.1 HNX.out.2.2.2.2.2.2.2.2)
      have HC4 := Lib.hid (HC0.out.below (below_on HBU.out HB4.out))
      have HRG := Lib.hid (show ∀ i, i < n → 0 ≤ S.f i ∧ S.f i < 18446744073709551616 from fun i hi => HM1.out.mem.rng i (by have := HNN.out; omega))
      have HN4 := Lib.hid (show N ≤ w4.heap.size ∧ X < w4.heap.size ∧ wg < w4.heap.size from by have := k4.size; have := HNR.out; have := HR1.out.lt; omega)
      clear p0 p1 p2 p3 p4 p5 hta hda hm4 k4 HM1 HX1 HR1 HS1 HBR HNR HC0
      go_upto_region 11 with fail
      have HLX := Lib.hid (show ∀ y : Ext w4, (Instr.loadAt 51 (.pointer (some ⟨X, 0, none⟩))).run Try.prog y.w = .ok (.agg (mV t s Kc (.slice (some ⟨wg, 0, none⟩) n CX) S.acc S.flt gb gc 0 S.odd)) y.w from fun y => load9 (Th.up y.h HX4.out))
      have HLO := Lib.hid (show ∀ y : Ext w4, (Instr.loadAt 64 (.pointer (some ⟨g, off + i * 6, none⟩))).run Try.prog y.w = .ok (o16V o) y.w from fun y => load6 (HC4.out.below y.h))
      refine Th.wp_region_K (fun w' => ∃ y : Ext w4, w' = y.w) 11 (by decide +kernel) ?_
      generalize hwd : World.drew w4 = wd
      have hbd : Below w4.heap.size w4 wd := by rw [← hwd]; exact (Below.refl _ _).drew
      clear hwd
      (refine Th.wpAnyK_take (i := 0) (v := .agg (mV t s Kc (.slice (some ⟨wg, 0, none⟩) n CX) S.acc S.flt gb gc 0 S.odd)) [5, 6, 7, 11] rfl (by decide +kernel) (by decide +kernel) (by decide +kernel) (by decide +kernel) (fun _ _ _ h => h) (Th.yields_loadK rfl 51 (.tmp 9) rfl rfl (by rintro _ ⟨y, rfl⟩; exact HLX.out y)) ⟨⟨wd, hbd⟩, rfl⟩ ?_)
      (try simp only [List.getElem_toArray, List.getElem_cons_succ, List.getElem_cons_zero, Act.put, List.setIfInBounds_toArray, List.set_cons_succ, List.set_cons_zero])
      (refine Th.wpAnyK_takeY (i := 1) (v := ?_) rfl (by decide +kernel) (by decide +kernel) (by decide +kernel) (by decide) (fun _ _ _ h => h) (Or.inl ⟨by rfl, ?_⟩) (.inr ⟨⟨wd, hbd⟩, rfl⟩) ?_; rotate_left; (intro w; go_simp); (try with_reducible rfl))
      (try simp only [List.getElem_toArray, List.getElem_cons_succ, List.getElem_cons_zero, Act.put, List.setIfInBounds_toArray, List.set_cons_succ, List.set_cons_zero])
      (refine Th.wpAnyK_takeY (i := 2) (v := ?_) rfl (by decide +kernel) (by decide +kernel) (by decide +kernel) (by decide) (fun _ _ _ h => h) (Or.inl ⟨by rfl, ?_⟩) (.inr ⟨⟨wd, hbd⟩, rfl⟩) ?_; rotate_left; (intro w; go_simp); (try with_reducible rfl))
      (try simp only [List.getElem_toArray, List.getElem_cons_succ, List.getElem_cons_zero, Act.put, List.setIfInBounds_toArray, List.set_cons_succ, List.set_cons_zero])
      (refine Th.wpAnyK_takeY (i := 3) (v := ?_) rfl (by decide +kernel) (by decide +kernel) (by decide +kernel) (by decide) (fun _ _ _ h => h) (Or.inl ⟨by rfl, ?_⟩) (.inr ⟨⟨wd, hbd⟩, rfl⟩) ?_; rotate_left; (intro w; go_simp); (try with_reducible rfl))
      (try simp only [List.getElem_toArray, List.getElem_cons_succ, List.getElem_cons_zero, Act.put, List.setIfInBounds_toArray, List.set_cons_succ, List.set_cons_zero])
      (refine Th.wpAnyK_take (i := 4) (v := o16V o) [5, 6, 7, 11] rfl (by decide +kernel) (by decide +kernel) (by decide +kernel) (by decide +kernel) (fun _ _ _ h => h) (Th.yields_loadK rfl 64 (.tmp 57) rfl rfl (by rintro _ ⟨y, rfl⟩; exact HLO.out y)) ⟨⟨wd, hbd⟩, rfl⟩ ?_)
      (try simp only [List.getElem_toArray, List.getElem_cons_succ, List.getElem_cons_zero, Act.put, List.setIfInBounds_toArray, List.set_cons_succ, List.set_cons_zero])
      (refine Th.wpAnyK_ready (rs := [5, 10]) (by decide +kernel) (by simp) ?_; refine (Th.AllReadyK.cons rfl (fun K hK => ?_) (Th.AllReadyK.cons rfl (fun K hK => ?_) Th.AllReadyK.nil)))
      · refine step_of rfl ?_
        go_step
        refine (rdo16 t s CX wg gb gc n Kc 0 S o HOK.out wd HNN.out (HR4.out.below hbd) (HS4.out.below hbd) (by have := HBD.out; omega) (by have := HBD.out; omega) HGC.out.1 HGC.out.2 HW1.out.2.2.1 HW1.out.2.2.2 (by have := HA1.out; omega) (by have := HA1.out; omega) HRG.out).mono ?_
        rintro _ v0 ⟨g', C', hg, rfl, hrow, hc1, hc2, hbv0⟩
        rw [← HTD.out.1, ← HTD.out.2]
        have hg : g' = wg ∨ w4.heap.size ≤ g' := by have := hbd.size; exact hg.imp id fun e => (by omega)
        have hbv0 := below_on hbd hbv0
        refine hK _ _ (.inr ⟨⟨v0, hbv0⟩, rfl⟩) ?_
        clear hK K
        (try simp only [List.getElem_toArray, List.getElem_cons_succ, List.getElem_cons_zero, Act.put, List.setIfInBounds_toArray, List.set_cons_succ, List.set_cons_zero])
        (refine Th.wpAnyK_takeY (i := 6) (v := ?_) rfl (by decide +kernel) (by decide +kernel) (by decide +kernel) (by decide) (fun _ _ _ h => h) (Or.inl ⟨by rfl, ?_⟩) (.inr ⟨⟨v0, hbv0⟩, rfl⟩) ?_; rotate_left; (intro w; go_simp); (try with_reducible rfl))
        (try simp only [List.getElem_toArray, List.getElem_cons_succ, List.getElem_cons_zero, Act.put, List.setIfInBounds_toArray, List.set_cons_succ, List.set_cons_zero])
        (refine Th.wpAnyK_takeY (i := 7) (v := ?_) rfl (by decide +kernel) (by decide +kernel) (by decide +kernel) (by decide) (fun _ _ _ h => h) (Or.inl ⟨by rfl, ?_⟩) (.inr ⟨⟨v0, hbv0⟩, rfl⟩) ?_; rotate_left; (intro w; go_simp); (try with_reducible rfl))
        (try simp only [List.getElem_toArray, List.getElem_cons_succ, List.getElem_cons_zero, Act.put, List.setIfInBounds_toArray, List.set_cons_succ, List.set_cons_zero])
        (refine Th.wpAnyK_takeY (i := 8) (v := ?_) rfl (by decide +kernel) (by decide +kernel) (by decide +kernel) (by decide) (fun _ _ _ h => h) (Or.inl ⟨by rfl, ?_⟩) (.inr ⟨⟨v0, hbv0⟩, rfl⟩) ?_; rotate_left; (intro w; go_simp); (try with_reducible rfl))
        (try simp only [List.getElem_toArray, List.getElem_cons_succ, List.getElem_cons_zero, Act.put, List.setIfInBounds_toArray, List.set_cons_succ, List.set_cons_zero])
        (refine Th.wpAnyK_takeY (i := 9) (v := ?_) rfl (by decide +kernel) (by decide +kernel) (by decide +kernel) (by decide) (fun _ _ _ h => h) (Or.inl ⟨by rfl, ?_⟩) (.inr ⟨⟨v0, hbv0⟩, rfl⟩) ?_; rotate_left; (intro w; go_simp); (try with_reducible rfl))
        (try simp only [List.getElem_toArray, List.getElem_cons_succ, List.getElem_cons_zero, Act.put, List.setIfInBounds_toArray, List.set_cons_succ, List.set_cons_zero])
        (refine Th.wpAnyK_ready (rs := [10]) (by decide +kernel) (by simp) ?_; refine (Th.AllReadyK.cons rfl (fun K hK => ?_) Th.AllReadyK.nil))
        refine step_of rfl ?_
        go_step
        generalize hwe : World.alloc v0 _ = v1
        obtain ⟨hXv1, hbv1⟩ := Th.heapnewE hwe
        obtain ⟨Z, hZ⟩ : ∃ Z, Z = v0.heap.size := ⟨_, rfl⟩
        rw [← hZ] at hXv1; simp only [← hZ]
        have hZ1 : w4.heap.size ≤ Z := by have := hbv0.size; omega
        have hZ2 : Z < v1.heap.size := Th.blk_lt hXv1
        have hne : g' ≠ Z := by have := hrow.lt; omega
        have hrow := hrow.below hbv1
        have HZ := Lib.hid hXv1; clear hwe
        have hbv1 := below_on hbv0 hbv1
        refine hK _ _ (.inr ⟨⟨v1, hbv1⟩, rfl⟩) ?_
        clear hK K
        (try simp only [List.getElem_toArray, List.getElem_cons_succ, List.getElem_cons_zero, Act.put, List.setIfInBounds_toArray, List.set_cons_succ, List.set_cons_zero])
        (try simp only [← hZ])
        (refine Th.wpAnyK_ready (rs := [11]) (by decide +kernel) (by simp) ?_; refine (Th.AllReadyK.cons rfl (fun K hK => ?_) Th.AllReadyK.nil))
        subst hZ
        refine step_of rfl ?_
        refine wp_store_row 51 (.tmp 13) (.tmp 60) rfl (v0.heap.size) (mV t s Kc (.slice (some ⟨g', 0, none⟩) n C') (nx t s S o).acc (nx t s S o).flt gb gc 0 (nx t s S o).odd) rfl rfl 51 _ HZ.out infoM rfl (mV_one _ _ _ _ _ _ _ _ _ _ _ _) ?_
        refine hK _ _ (.inl rfl) ?_
        clear hK K
        (try simp only [List.getElem_toArray, List.getElem_cons_succ, List.getElem_cons_zero, Act.put, List.setIfInBounds_toArray, List.set_cons_succ, List.set_cons_zero])
        (refine Th.wpAnyK_takeY (i := 12) (v := ?_) rfl (by decide +kernel) (by decide +kernel) (by decide +kernel) (by decide) (fun _ _ _ h => h) (Or.inl ⟨by rfl, ?_⟩) (.inl rfl) ?_; rotate_left; (intro w; go_simp); (try with_reducible rfl))
        (try simp only [List.getElem_toArray, List.getElem_cons_succ, List.getElem_cons_zero, Act.put, List.setIfInBounds_toArray, List.set_cons_succ, List.set_cons_zero])
        (refine Th.wpAnyK_takeY (i := 13) (v := ?_) rfl (by decide +kernel) (by decide +kernel) (by decide +kernel) (by decide) (fun _ _ _ h => h) (Or.inl ⟨by rfl, ?_⟩) (.inl rfl) ?_; rotate_left; (intro w; go_simp); (try with_reducible rfl))
        (try simp only [List.getElem_toArray, List.getElem_cons_succ, List.getElem_cons_zero, Act.put, List.setIfInBounds_toArray, List.set_cons_succ, List.set_cons_zero])
        refine Th.wpAnyK_done (by decide +kernel) ?_ _
        have hbW : Below w4.heap.size w4 (v1.setRow (v0.heap.size) (mV t s Kc (.slice (some ⟨g', 0, none⟩) n C') (nx t s S o).acc (nx t s S o).flt gb gc 0 (nx t s S o).odd)) := setRow_below hbv1 (by omega)
        have hrW : Mm.RowAt (v1.setRow (v0.heap.size) (mV t s Kc (.slice (some ⟨g', 0, none⟩) n C') (nx t s S o).acc (nx t s S o).flt gb gc 0 (nx t s S o).odd)) g' n (nx t s S o).f := hrow.keep (by simp [World.setRow]) (setRow_other _ _ _ _ hne)
        have hzz : (v1.setRow (v0.heap.size) (mV t s Kc (.slice (some ⟨g', 0, none⟩) n C') (nx t s S o).acc (nx t s S o).flt gb gc 0 (nx t s S o).odd)).heap[v0.heap.size]? = some (.cells (mV t s Kc (.slice (some ⟨g', 0, none⟩) n C') (nx t s S o).acc (nx t s S o).flt gb gc 0 (nx t s S o).odd) 51 (0, 0)) := setRow_heap _ _ _ _ _ _ HZ.out
        generalize hW : World.setRow _ _ _ = W
        rw [hW] at hbW hrW hzz
        have HBW := Lib.hid hbW; have HRW := Lib.hid hrW; have HXW := Lib.hid (Th.up hbW HX4.out); have Hv0 := Lib.hid hzz
        have HG := Lib.hid (show g' ≠ X ∧ N ≤ g' from by have := HN4.out; have := HW1.out; rcases hg with e | e <;> omega)
        have HC := Lib.hid (And.intro hc1 hc2)
        clear hW hbW hrW hzz hrow HZ hg hc1 hc2 hbd hbv0 hbv1 hne
        obtain ⟨d, hdu, hdr⟩ := uM
        have HRZ := Lib.hid (mV_range Hv0.out)
        have HDU := Lib.hid hdu; have HDR := Lib.hid hdr
        clear hdu hdr
        go_upto_region 13 with (first | (refine wpList_load_mid rfl 51 (.tmp 13) rfl (v0.heap.size) 0 rfl ((mV t s Kc (.slice (some ⟨g', 0, none⟩) n C') (nx t s S o).acc (nx t s S o).flt gb gc 0 (nx t s S o).odd)).toList d HRZ.out HDU.out HDR.out infoM ?_) | (refine wpList_store_row (by rfl) 51 (.tmp 9) (.tmp 63) (by rfl) X (mV t s Kc (.slice (some ⟨g', 0, none⟩) n C') (nx t s S o).acc (nx t s S o).flt gb gc 0 (nx t s S o).odd) (by rfl) (by rfl) 51 _ HXW.out infoM rfl (mV_one _ _ _ _ _ _ _ _ _ _ _ _) ?_))
        have hvx : (W.setRow X (mV t s Kc (.slice (some ⟨g', 0, none⟩) n C') (nx t s S o).acc (nx t s S o).flt gb gc 0 (nx t s S o).odd)).heap[X]? = some (.cells (mV t s Kc (.slice (some ⟨g', 0, none⟩) n C') (nx t s S o).acc (nx t s S o).flt gb gc 0 (nx t s S o).odd) 51 (0, 0)) := setRow_heap _ _ _ _ _ _ HXW.out
        have hvo : ∀ j, j ≠ X → (W.setRow X (mV t s Kc (.slice (some ⟨g', 0, none⟩) n C') (nx t s S o).acc (nx t s S o).flt gb gc 0 (nx t s S o).odd)).heap[j]? = W.heap[j]? := fun j hj => setRow_other _ _ _ _ hj
        have hvn : Below N w4 (W.setRow X (mV t s Kc (.slice (some ⟨g', 0, none⟩) n C') (nx t s S o).acc (nx t s S o).flt gb gc 0 (nx t s S o).odd)) := setRow_below (HBW.out.mono HN4.out.1) HXN.out.1
        have hvu : Below U.heap.size w4 (W.setRow X (mV t s Kc (.slice (some ⟨g', 0, none⟩) n C') (nx t s S o).acc (nx t s S o).flt gb gc 0 (nx t s S o).odd)) := setRow_below (HBW.out.mono (by have := HNG.out; have := HN4.out; omega)) (by have := HNG.out; have := HXN.out; omega)
        have hvs : (W.setRow X (mV t s Kc (.slice (some ⟨g', 0, none⟩) n C') (nx t s S o).acc (nx t s S o).flt gb gc 0 (nx t s S o).odd)).heap.size = W.heap.size := by simp [World.setRow]
        generalize hV : World.setRow _ _ _ = V
        rw [hV] at hvx hvo hvn hvu hvs
        have HMV := Lib.hid (HM4.out.belowN HLT.out hvn)
        have HRV := Lib.hid (HRW.out.keep (by omega) (hvo _ HG.out.1))
        have HSV := Lib.hid (SR.keepB (HS4.out.below HBW.out) (hvo gb HXN.out.2))
        have HBV := Lib.hid (HB4.out.trans hvu)
        have HXV := Lib.hid hvx
        clear hV hvx hvo hvn hvu hvs Hv0 HRZ HXW HRW HBW
        have x0 := (Th.newcell HXV.out 0 _ rfl)
        have x1 := (Th.newcell HXV.out 1 _ rfl)
        have x2 := (Th.newcell HXV.out 2 _ rfl)
        have x3 := (Th.newcell HXV.out 3 _ rfl)
        have x4 := (Th.newcell HXV.out 4 _ rfl)
        have x5 := (Th.newcell HXV.out 5 _ rfl)
        have x6 := (Th.newcell HXV.out 6 _ rfl)
        have x7 := (Th.newcell HXV.out 7 _ rfl)
        have x8 := (Th.newcell HXV.out 8 _ rfl)
        go_wp2_with fail
        refine (lsame HMV.out HNN.out HRV.out HC.out.1 HC.out.2 HSV.out HGC.out.1 HGC.out.2).mono ?_; rintro _ w5 ⟨rfl, hb5⟩
        clear x0 x1 x2 x3 x4 x5 x6 x7 x8
        have HB5 := Lib.hid hb5
        clear hb5
        go_wp2_with fail
        go_roundw
        case rel => exact ⟨i + 1, by omega, by go_num, nx t s S o, g', C', Lib.hid (HMV.out.below HB5.out), Lib.hid (Th.up HB5.out HXV.out), Lib.hid (HRV.out.below HB5.out), Lib.hid (HSV.out.below HB5.out), Lib.hid ⟨HG.out.2, HG.out.1, HC.out.1, HC.out.2⟩, Lib.hid (by have h1 := nx_acc t s S o; have h2 := HA1.out; omega), Lib.hid (below_on HBV.out HB5.out)⟩
        case measure => simp [intOf]; omega
      · refine step_of rfl ?_
        go_step
        generalize hwe : World.alloc wd _ = v0
        obtain ⟨hXv0, hbv0⟩ := Th.heapnewE hwe
        obtain ⟨Z, hZ⟩ : ∃ Z, Z = wd.heap.size := ⟨_, rfl⟩
        rw [← hZ] at hXv0; simp only [← hZ]
        have hZ1 : w4.heap.size ≤ Z := by have := hbd.size; omega
        have hZ2 : Z < v0.heap.size := Th.blk_lt hXv0
        have HZ := Lib.hid hXv0; clear hwe
        have hbv0 := below_on hbd hbv0
        refine hK _ _ (.inr ⟨⟨v0, hbv0⟩, rfl⟩) ?_
        clear hK K
        (try simp only [List.getElem_toArray, List.getElem_cons_succ, List.getElem_cons_zero, Act.put, List.setIfInBounds_toArray, List.set_cons_succ, List.set_cons_zero])
        (try simp only [← hZ])
        (refine Th.wpAnyK_ready (rs := [5]) (by decide +kernel) (by simp) ?_; refine (Th.AllReadyK.cons rfl (fun K hK => ?_) Th.AllReadyK.nil))
        refine step_of rfl ?_
        go_step
        refine (rdo16 t s CX wg gb gc n Kc 0 S o HOK.out v0 HNN.out (HR4.out.below hbv0) (HS4.out.below hbv0) (by have := HBD.out; omega) (by have := HBD.out; omega) HGC.out.1 HGC.out.2 HW1.out.2.2.1 HW1.out.2.2.2 (by have := HA1.out; omega) (by have := HA1.out; omega) HRG.out).mono ?_
        rintro _ v1 ⟨g', C', hg, rfl, hrow, hc1, hc2, hbv1⟩
        rw [← HTD.out.1, ← HTD.out.2]
        have HZ := Lib.hid (Th.up hbv1 HZ.out)
        have hne : g' ≠ Z := by have := HN4.out; rcases hg with e | e <;> omega
        have hg : g' = wg ∨ w4.heap.size ≤ g' := by have := hbv0.size; exact hg.imp id fun e => (by omega)
        have hbv1 := below_on hbv0 hbv1
        refine hK _ _ (.inr ⟨⟨v1, hbv1⟩, rfl⟩) ?_
        clear hK K
        (try simp only [List.getElem_toArray, List.getElem_cons_succ, List.getElem_cons_zero, Act.put, List.setIfInBounds_toArray, List.set_cons_succ, List.set_cons_zero])
        (refine Th.wpAnyK_takeY (i := 6) (v := ?_) rfl (by decide +kernel) (by decide +kernel) (by decide +kernel) (by decide) (fun _ _ _ h => h) (Or.inl ⟨by rfl, ?_⟩) (.inr ⟨⟨v1, hbv1⟩, rfl⟩) ?_; rotate_left; (intro w; go_simp); (try with_reducible rfl))
        (try simp only [List.getElem_toArray, List.getElem_cons_succ, List.getElem_cons_zero, Act.put, List.setIfInBounds_toArray, List.set_cons_succ, List.set_cons_zero])
        (refine Th.wpAnyK_takeY (i := 7) (v := ?_) rfl (by decide +kernel) (by decide +kernel) (by decide +kernel) (by decide) (fun _ _ _ h => h) (Or.inl ⟨by rfl, ?_⟩) (.inr ⟨⟨v1, hbv1⟩, rfl⟩) ?_; rotate_left; (intro w; go_simp); (try with_reducible rfl))
        (try simp only [List.getElem_toArray, List.getElem_cons_succ, List.getElem_cons_zero, Act.put, List.setIfInBounds_toArray, List.set_cons_succ, List.set_cons_zero])
        (refine Th.wpAnyK_takeY (i := 8) (v := ?_) rfl (by decide +kernel) (by decide +kernel) (by decide +kernel) (by decide) (fun _ _ _ h => h) (Or.inl ⟨by rfl, ?_⟩) (.inr ⟨⟨v1, hbv1⟩, rfl⟩) ?_; rotate_left; (intro w; go_simp); (try with_reducible rfl))
        (try simp only [List.getElem_toArray, List.getElem_cons_succ, List.getElem_cons_zero, Act.put, List.setIfInBounds_toArray, List.set_cons_succ, List.set_cons_zero])
        (refine Th.wpAnyK_takeY (i := 9) (v := ?_) rfl (by decide +kernel) (by decide +kernel) (by decide +kernel) (by decide) (fun _ _ _ h => h) (Or.inl ⟨by rfl, ?_⟩) (.inr ⟨⟨v1, hbv1⟩, rfl⟩) ?_; rotate_left; (intro w; go_simp); (try with_reducible rfl))
        (try simp only [List.getElem_toArray, List.getElem_cons_succ, List.getElem_cons_zero, Act.put, List.setIfInBounds_toArray, List.set_cons_succ, List.set_cons_zero])
        (refine Th.wpAnyK_ready (rs := [11]) (by decide +kernel) (by simp) ?_; refine (Th.AllReadyK.cons rfl (fun K hK => ?_) Th.AllReadyK.nil))
        subst hZ
        refine step_of rfl ?_
        refine wp_store_row 51 (.tmp 13) (.tmp 60) rfl (wd.heap.size) (mV t s Kc (.slice (some ⟨g', 0, none⟩) n C') (nx t s S o).acc (nx t s S o).flt gb gc 0 (nx t s S o).odd) rfl rfl 51 _ HZ.out infoM rfl (mV_one _ _ _ _ _ _ _ _ _ _ _ _) ?_
        refine hK _ _ (.inl rfl) ?_
        clear hK K
        (try simp only [List.getElem_toArray, List.getElem_cons_succ, List.getElem_cons_zero, Act.put, List.setIfInBounds_toArray, List.set_cons_succ, List.set_cons_zero])
        (refine Th.wpAnyK_takeY (i := 12) (v := ?_) rfl (by decide +kernel) (by decide +kernel) (by decide +kernel) (by decide) (fun _ _ _ h => h) (Or.inl ⟨by rfl, ?_⟩) (.inl rfl) ?_; rotate_left; (intro w; go_simp); (try with_reducible rfl))
        (try simp only [List.getElem_toArray, List.getElem_cons_succ, List.getElem_cons_zero, Act.put, List.setIfInBounds_toArray, List.set_cons_succ, List.set_cons_zero])
        (refine Th.wpAnyK_takeY (i := 13) (v := ?_) rfl (by decide +kernel) (by decide +kernel) (by decide +kernel) (by decide) (fun _ _ _ h => h) (Or.inl ⟨by rfl, ?_⟩) (.inl rfl) ?_; rotate_left; (intro w; go_simp); (try with_reducible rfl))
        (try simp only [List.getElem_toArray, List.getElem_cons_succ, List.getElem_cons_zero, Act.put, List.setIfInBounds_toArray, List.set_cons_succ, List.set_cons_zero])
        refine Th.wpAnyK_done (by decide +kernel) ?_ _
        have hbW : Below w4.heap.size w4 (v1.setRow (wd.heap.size) (mV t s Kc (.slice (some ⟨g', 0, none⟩) n C') (nx t s S o).acc (nx t s S o).flt gb gc 0 (nx t s S o).odd)) := setRow_below hbv1 (by omega)
        have hrW : Mm.RowAt (v1.setRow (wd.heap.size) (mV t s Kc (.slice (some ⟨g', 0, none⟩) n C') (nx t s S o).acc (nx t s S o).flt gb gc 0 (nx t s S o).odd)) g' n (nx t s S o).f := hrow.keep (by simp [World.setRow]) (setRow_other _ _ _ _ hne)
        have hzz : (v1.setRow (wd.heap.size) (mV t s Kc (.slice (some ⟨g', 0, none⟩) n C') (nx t s S o).acc (nx t s S o).flt gb gc 0 (nx t s S o).odd)).heap[wd.heap.size]? = some (.cells (mV t s Kc (.slice (some ⟨g', 0, none⟩) n C') (nx t s S o).acc (nx t s S o).flt gb gc 0 (nx t s S o).odd) 51 (0, 0)) := setRow_heap _ _ _ _ _ _ HZ.out
        generalize hW : World.setRow _ _ _ = W
        rw [hW] at hbW hrW hzz
        have HBW := Lib.hid hbW; have HRW := Lib.hid hrW; have HXW := Lib.hid (Th.up hbW HX4.out); have Hwd := Lib.hid hzz
        have HG := Lib.hid (show g' ≠ X ∧ N ≤ g' from by have := HN4.out; have := HW1.out; rcases hg with e | e <;> omega)
        have HC := Lib.hid (And.intro hc1 hc2)
        clear hW hbW hrW hzz hrow HZ hg hc1 hc2 hbd hbv0 hbv1 hne
        obtain ⟨d, hdu, hdr⟩ := uM
        have HRZ := Lib.hid (mV_range Hwd.out)
        have HDU := Lib.hid hdu; have HDR := Lib.hid hdr
        clear hdu hdr
        go_upto_region 13 with (first | (refine wpList_load_mid rfl 51 (.tmp 13) rfl (wd.heap.size) 0 rfl ((mV t s Kc (.slice (some ⟨g', 0, none⟩) n C') (nx t s S o).acc (nx t s S o).flt gb gc 0 (nx t s S o).odd)).toList d HRZ.out HDU.out HDR.out infoM ?_) | (refine wpList_store_row (by rfl) 51 (.tmp 9) (.tmp 63) (by rfl) X (mV t s Kc (.slice (some ⟨g', 0, none⟩) n C') (nx t s S o).acc (nx t s S o).flt gb gc 0 (nx t s S o).odd) (by rfl) (by rfl) 51 _ HXW.out infoM rfl (mV_one _ _ _ _ _ _ _ _ _ _ _ _) ?_))
        have hvx : (W.setRow X (mV t s Kc (.slice (some ⟨g', 0, none⟩) n C') (nx t s S o).acc (nx t s S o).flt gb gc 0 (nx t s S o).odd)).heap[X]? = some (.cells (mV t s Kc (.slice (some ⟨g', 0, none⟩) n C') (nx t s S o).acc (nx t s S o).flt gb gc 0 (nx t s S o).odd) 51 (0, 0)) := setRow_heap _ _ _ _ _ _ HXW.out
        have hvo : ∀ j, j ≠ X → (W.setRow X (mV t s Kc (.slice (some ⟨g', 0, none⟩) n C') (nx t s S o).acc (nx t s S o).flt gb gc 0 (nx t s S o).odd)).heap[j]? = W.heap[j]? := fun j hj => setRow_other _ _ _ _ hj
        have hvn : Below N w4 (W.setRow X (mV t s Kc (.slice (some ⟨g', 0, none⟩) n C') (nx t s S o).acc (nx t s S o).flt gb gc 0 (nx t s S o).odd)) := setRow_below (HBW.out.mono HN4.out.1) HXN.out.1
        have hvu : Below U.heap.size w4 (W.setRow X (mV t s Kc (.slice (some ⟨g', 0, none⟩) n C') (nx t s S o).acc (nx t s S o).flt gb gc 0 (nx t s S o).odd)) := setRow_below (HBW.out.mono (by have := HNG.out; have := HN4.out; omega)) (by have := HNG.out; have := HXN.out; omega)
        have hvs : (W.setRow X (mV t s Kc (.slice (some ⟨g', 0, none⟩) n C') (nx t s S o).acc (nx t s S o).flt gb gc 0 (nx t s S o).odd)).heap.size = W.heap.size := by simp [World.setRow]
        generalize hV : World.setRow _ _ _ = V
        rw [hV] at hvx hvo hvn hvu hvs
        have HMV := Lib.hid (HM4.out.belowN HLT.out hvn)
        have HRV := Lib.hid (HRW.out.keep (by omega) (hvo _ HG.out.1))
        have HSV := Lib.hid (SR.keepB (HS4.out.below HBW.out) (hvo gb HXN.out.2))
        have HBV := Lib.hid (HB4.out.trans hvu)
        have HXV := Lib.hid hvx
        clear hV hvx hvo hvn hvu hvs Hwd HRZ HXW HRW HBW
        have x0 := (Th.newcell HXV.out 0 _ rfl)
        have x1 := (Th.newcell HXV.out 1 _ rfl)
        have x2 := (Th.newcell HXV.out 2 _ rfl)
        have x3 := (Th.newcell HXV.out 3 _ rfl)
        have x4 := (Th.newcell HXV.out 4 _ rfl)
        have x5 := (Th.newcell HXV.out 5 _ rfl)
        have x6 := (Th.newcell HXV.out 6 _ rfl)
        have x7 := (Th.newcell HXV.out 7 _ rfl)
        have x8 := (Th.newcell HXV.out 8 _ rfl)
        go_wp2_with fail
        refine (lsame HMV.out HNN.out HRV.out HC.out.1 HC.out.2 HSV.out HGC.out.1 HGC.out.2).mono ?_; rintro _ w5 ⟨rfl, hb5⟩
        clear x0 x1 x2 x3 x4 x5 x6 x7 x8
        have HB5 := Lib.hid hb5
        clear hb5
        go_wp2_with fail
        go_roundw
        case rel => exact ⟨i + 1, by omega, by go_num, nx t s S o, g', C', Lib.hid (HMV.out.below HB5.out), Lib.hid (Th.up HB5.out HXV.out), Lib.hid (HRV.out.below HB5.out), Lib.hid (HSV.out.below HB5.out), Lib.hid ⟨HG.out.2, HG.out.1, HC.out.1, HC.out.2⟩, Lib.hid (by have h1 := nx_acc t s S o; have h2 := HA1.out; omega), Lib.hid (below_on HBV.out HB5.out)⟩
        case measure => simp [intOf]; omega
    · subst heq
      have hii : ¬ (i : Int) < i := by omega
      go_wp2_with fail
      refine (mclone16 HM1.out).mono ?_; rintro _ w4 ⟨q', mb', mg', C', gq', gg', gm', fv', tq', rfl, e1, e2, e3, hmn, hb4⟩
      have HE := Lib.hid (And.intro e1 (And.intro e2 e3))
      have HMN := Lib.hid hmn; have HR4 := Lib.hid (HR1.out.below hb4); have HS4 := Lib.hid (HS1.out.below hb4); have HX4 := Lib.hid (Th.up hb4 HX1.out); have HB4 := Lib.hid hb4
      have HC4 := Lib.hid (Th.up (below_on HBR.out hb4) HCB.out)
      clear e1 e2 e3 hmn hb4
      have k0 := Ext.cells (Th.newcell HC4.out 0 _ rfl)
      have x0 := Ext.cells (Th.newcell HX4.out 0 _ rfl)
      have x1 := Ext.cells (Th.newcell HX4.out 1 _ rfl)
      have x2 := Ext.cells (Th.newcell HX4.out 2 _ rfl)
      have x3 := Ext.cells (Th.newcell HX4.out 3 _ rfl)
      have x4 := Ext.cells (Th.newcell HX4.out 4 _ rfl)
      have x5 := Ext.cells (Th.newcell HX4.out 5 _ rfl)
      have x6 := Ext.cells (Th.newcell HX4.out 6 _ rfl)
      have x7 := Ext.cells (Th.newcell HX4.out 7 _ rfl)
      have x8 := Ext.cells (Th.newcell HX4.out 8 _ rfl)
      go_upto_region 16 with fail
      (with_reducible refine wp_region_mix (fun w' => ∃ y : Ext w4, w' = y.w) ?_ ?_ ?_ ?_; kernel_rfl; kernel_rfl; exact ⟨⟨w4.drew, (Below.refl _ _).drew⟩, rfl⟩)
      obtain ⟨y0, hy0⟩ : ∃ y : Ext w4, y.w = w4.drew := ⟨⟨w4.drew, (Below.refl _ _).drew⟩, rfl⟩
      rw [← hy0]
      clear hy0
      repeat (first | ((with_reducible refine mix_plain (by kernel_rfl) ?_); (first | go_big_quiet_skip | (go_big_quiet_want; go_big_quiet_op; go_big_quiet_on)); (with_reducible refine mix_on ?_)) | ((with_reducible refine mix_skip (by kernel_rfl) ?_); go_big_quiet_skip; (with_reducible refine mix_on ?_)))
      ((with_reducible refine wpMix_chain (by kernel_rfl) (by kernel_rfl) (fun K HK => ?_)); go_step)
      refine (lsame (HMN.out.below y0.h) HNN.out (HR4.out.below y0.h) HW1.out.2.2.1 HW1.out.2.2.2 (HS4.out.below y0.h) HGC.out.1 HGC.out.2).mono ?_; rintro _ w5 ⟨rfl, hb5⟩
      have hb5 := below_on y0.h hb5
      obtain ⟨y1, hy1⟩ : ∃ y : Ext w4, y.w = w5 := ⟨⟨w5, hb5⟩, rfl⟩
      rw [← hy1]
      refine HK.out _ _ ⟨y1, rfl⟩ ?_
      clear HK K hb5 hy1
      repeat (first | ((with_reducible refine mix_plain (by kernel_rfl) ?_); (first | go_big_quiet_skip | (go_big_quiet_want; go_big_quiet_op; go_big_quiet_on)); (with_reducible refine mix_on ?_)) | ((with_reducible refine mix_skip (by kernel_rfl) ?_); go_big_quiet_skip; (with_reducible refine mix_on ?_)))
      ((with_reducible refine wpMix_chain (by kernel_rfl) (by kernel_rfl) (fun K HK => ?_)); go_step)
      refine (gThreads (HMN.out.below y1.h)).mono ?_; rintro _ w6 ⟨rfl, hw6⟩
      rw [← hw6]
      refine HK.out _ _ ⟨y1, rfl⟩ ?_
      clear HK K hw6
      repeat (first | ((with_reducible refine mix_plain (by kernel_rfl) ?_); (first | go_big_quiet_skip | (go_big_quiet_want; go_big_quiet_op; go_big_quiet_on)); (with_reducible refine mix_on ?_)) | ((with_reducible refine mix_skip (by kernel_rfl) ?_); go_big_quiet_skip; (with_reducible refine mix_on ?_)))
      refine wpMix_nil ?_
      clear k0 x0 x1 x2 x3 x4 x5 x6 x7 x8
      obtain ⟨wz, hwz⟩ : ∃ wz, wz = y1.w := ⟨_, rfl⟩
      have HBZ := Lib.hid (show Below wr.heap.size wr wz from by rw [hwz]; exact below_on HB4.out y1.h)
      have HMZ := Lib.hid (show MI wz w1.heap.size q' pl mb' mg' C' gq' gg' gm' fv' tq' t s Kc S.f S.acc S.flt H5 G5 0 0 S.odd from by rw [hwz]; exact HMN.out.below y1.h)
      rw [← hwz]
      clear hwz HMN HR4 HS4 HX4 HB4 HC4
      obtain ⟨p0, p1, p2, p3, p4, p5, _⟩ := HOB.out.below (below_on HBR.out HBZ.out)
      go_wp2_with fail
      refine (do16 HMZ.out oz HOZ.out (by have := HA1.out; omega) (by have := HA1.out; omega)).mono ?_; rintro _ w7 ⟨rfl, hm7, k7⟩
      have HM7 := Lib.hid hm7
      have HB7 := Lib.hid (HBZ.out.trans (K3.belowN k7 HBZ.out.size HE.out.1 HE.out.2.1 HE.out.2.2))
      clear p0 p1 p2 p3 p4 p5 hm7 k7 HMZ HBZ
      have HX7 := Lib.hid (Th.up HB7.out HX1.out)
      obtain ⟨p0, p1, p2, p3, p4, p5, _⟩ := HOB.out.below (below_on HBR.out HB7.out)
      have x0 := (Th.newcell HX7.out 0 _ rfl)
      have x1 := (Th.newcell HX7.out 1 _ rfl)
      have x2 := (Th.newcell HX7.out 2 _ rfl)
      have x3 := (Th.newcell HX7.out 3 _ rfl)
      have x4 := (Th.newcell HX7.out 4 _ rfl)
      have x5 := (Th.newcell HX7.out 5 _ rfl)
      have x6 := (Th.newcell HX7.out 6 _ rfl)
      have x7 := (Th.newcell HX7.out 7 _ rfl)
      have x8 := (Th.newcell HX7.out 8 _ rfl)
      go_wp2_with fail
      refine (rdo16 t s CX wg gb gc n Kc 0 S oz HOZ.out w7 HNN.out (HR1.out.below HB7.out) (HS1.out.below HB7.out) (by have := HBD.out; omega) (by have := HBD.out; omega) HGC.out.1 HGC.out.2 HW1.out.2.2.1 HW1.out.2.2.2 (by have := HA1.out; omega) (by have := HA1.out; omega) (fun i hi => HM1.out.mem.rng i (by have := HNN.out; omega))).mono ?_
      rintro _ w8 ⟨g', C2, hg, rfl, hrow, hc1, hc2, hb8⟩
      have HB8 := Lib.hid (below_on HB7.out hb8); have HM8 := Lib.hid (HM7.out.below hb8); have HR8 := Lib.hid hrow; have HC8 := Lib.hid (And.intro hc1 hc2)
      clear p0 p1 p2 p3 p4 p5 x0 x1 x2 x3 x4 x5 x6 x7 x8 hg hrow hc1 hc2 hb8 HM7 HB7
      unfold mV
      go_upto_region 20 with fail
      generalize hV : World.alloc _ _ = V8
      obtain ⟨hy, hbv⟩ := Th.heapnewE hV
      obtain ⟨Y, hY⟩ : ∃ Y, Y = w8.heap.size := ⟨_, rfl⟩
      rw [← hY] at hy ⊢
      have HY := Lib.hid (show V8.heap[Y]? = some (.cells (mV t s Kc (.slice (some ⟨g', 0, none⟩) n C2) (nx t s S oz).acc (nx t s S oz).flt gb gc 0 (nx t s S oz).odd) 51 (0, 0)) from hy)
      have HBV := Lib.hid (below_on HB8.out hbv); have HMV := Lib.hid (HM8.out.below hbv); have HRV := Lib.hid (HR8.out.below hbv)
      clear hV hy hbv hY HB8 HM8 HR8
      have x0 := (Th.newcell (Th.up HBV.out HX1.out) 0 _ rfl)
      have x1 := (Th.newcell (Th.up HBV.out HX1.out) 1 _ rfl)
      have x2 := (Th.newcell (Th.up HBV.out HX1.out) 2 _ rfl)
      have x3 := (Th.newcell (Th.up HBV.out HX1.out) 3 _ rfl)
      have x4 := (Th.newcell (Th.up HBV.out HX1.out) 4 _ rfl)
      have x5 := (Th.newcell (Th.up HBV.out HX1.out) 5 _ rfl)
      have x6 := (Th.newcell (Th.up HBV.out HX1.out) 6 _ rfl)
      have x7 := (Th.newcell (Th.up HBV.out HX1.out) 7 _ rfl)
      have x8 := (Th.newcell (Th.up HBV.out HX1.out) 8 _ rfl)
      go_wp2_with fail
      refine (lsame (HM1.out.below HBV.out) HNN.out (HR1.out.below HBV.out) HW1.out.2.2.1 HW1.out.2.2.2 (HS1.out.below HBV.out) HGC.out.1 HGC.out.2).mono ?_; rintro _ w9 ⟨rfl, hb9⟩
      have HB9 := Lib.hid (below_on HBV.out hb9); have HY9 := Lib.hid (Th.up hb9 HY.out); have HM9 := Lib.hid (HMV.out.below hb9); have HR9 := Lib.hid (HRV.out.below hb9)
      clear x0 x1 x2 x3 x4 x5 x6 x7 x8 hb9 HBV HY HMV HRV
      have y0 := (Th.newcell HY9.out 0 _ rfl)
      have y1 := (Th.newcell HY9.out 1 _ rfl)
      have y2 := (Th.newcell HY9.out 2 _ rfl)
      have y3 := (Th.newcell HY9.out 3 _ rfl)
      have y4 := (Th.newcell HY9.out 4 _ rfl)
      have y5 := (Th.newcell HY9.out 5 _ rfl)
      have y6 := (Th.newcell HY9.out 6 _ rfl)
      have y7 := (Th.newcell HY9.out 7 _ rfl)
      have y8 := (Th.newcell HY9.out 8 _ rfl)
      go_wp2_with fail
      refine (lsame HM9.out HNN.out HR9.out HC8.out.1 HC8.out.2 (HS1.out.below HB9.out) HGC.out.1 HGC.out.2).mono ?_; rintro _ w10 ⟨rfl, hb10⟩
      have HB10 := Lib.hid (below_on HB9.out hb10)
      clear y0 y1 y2 y3 y4 y5 y6 y7 y8 hb10
      go_wp2_with fail
      refine (lives16_calls _).mono ?_; rintro _ w11 ⟨rfl, hb11⟩
      go_wp2_with fail
      (try go_ret)
      rw [HQ.out]
      exact ⟨rfl, below_on HBU.out (below_on HBR.out (below_on HB10.out hb11))⟩
end Go.Proofs.Ytkkdehniheajeaa
