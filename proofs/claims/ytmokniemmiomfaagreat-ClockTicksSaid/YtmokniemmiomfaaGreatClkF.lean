/- Layer 25: the walk of ClockTicks. -/
import Derived.Test.YtmokniemmiomfaaGreatClkE
import Derived.Deep.CutRange
namespace Go.Proofs.YtmokniemmiomfaaGreat
open Go.RowKit WordM EdgeM
set_option linter.unusedVariables false
set_option linter.unusedSimpArgs false
theorem int_cells {w : World} {cs : List Value} (h : Fr.Sh.oks w [.int .i64] cs) : ∃ x : Int, cs = [.int .i64 x] := by
  obtain ⟨_, _, rfl, k0, h⟩ := Fr.get_cons h
  obtain rfl := Fr.get_nil h
  obtain ⟨x, rfl, _⟩ := Fr.get_int k0
  exact ⟨x, rfl⟩
theorem il_open {w : World} {v : Value} (h : Fr.ok1 w (.slice [.int .i64]) v) : ∃ ao len cap, v = .slice ao len cap ∧ len ≤ cap ∧ cap ≤ 9223372036854775807 ∧ ∀ i, i < len → ∃ g off, ao = some ⟨g, off, none⟩ ∧ ∃ x : Int, w.cell? ⟨g, off + i, none⟩ = some (.int .i64 x) := by
  rcases Fr.get_slice h with rfl | ⟨a, len, cap, rfl, h1, h2, h3⟩
  · exact ⟨none, 0, 0, rfl, Nat.le_refl _, by decide, fun i hi => by omega⟩
  · refine ⟨some a, len, cap, rfl, h1, h2, fun i hi => ?_⟩
    obtain ⟨cs0, h5, h6⟩ := h3 0 (by omega)
    obtain ⟨x, rfl⟩ := int_cells h6
    have hs : a.spot = none := by
      have h7 := (World.cells?_some h5).2.2 0 (by decide)
      exact World.cell?_spot (by simpa [Addr.add] using h7)
    obtain ⟨g, off, spot⟩ := a
    simp only at hs
    subst hs
    obtain ⟨cs, h5, h6⟩ := h3 i (by omega)
    obtain ⟨x, rfl⟩ := int_cells h6
    obtain ⟨_, _, h7⟩ := World.cells?_some h5
    have e : ((⟨g, off, none⟩ : Addr).add (i * [Fr.Sh.int .i64].length)) = ⟨g, off + i, none⟩ := by
      simp [Addr.add] <;> (intro hh; subst hh; rfl)
    rw [e] at h7
    exact ⟨g, off, rfl, x, by simpa [Addr.add] using h7 0 (by decide)⟩
theorem run_told (w : World) : (Instr.makeSlice 33 (.int .i64 0) (.int .i64 600)).run Tryz.prog w = .ok (.slice (some ⟨w.heap.size, 0, none⟩) 0 600) (w.alloc (.cells (madeCells #[.int .u64 0] 600) 22)) := by
  obtain ⟨i, hi, hz, hs, hb⟩ := info_parts Th.infoU64
  have h := run_makeSlice w 33 22 i _ (by kernel_rfl) hi hz .i64 .i64 0 600 (by omega) (by omega) (by rw [hs]; omega) (by rw [hb]; omega) (by omega)
  rw [hs] at h
  exact h
/-- The times that were told. -/
def TO (w : World) (N : Nat) (v : Value) (n : Nat) : Prop := Th.OwnL 22 w N v n (Th.ucells n fun i => (i : Int) + 1)
theorem ucells_succ (n : Nat) (f : Nat → Int) : Th.ucells (n + 1) f = Th.ucells n f ++ [.int .u64 (f n)] := by
  unfold Th.ucells; rw [List.range_succ, List.map_append]; rfl
theorem TF.ksT {w w' : World} {q t : Nat} {tq : Nat → Nat} {Ts : Nat → Th.Td} {ps : Nat → Nat → Nat} {fvs : Nat → Value} (h : TF w q t tq Ts ps fvs) {X : Nat} {cur : Array Value} {T : TypeId} (hX : w.heap[X]? = some (.cells cur T (0, 0))) (h1 : 51 ≠ T) (h2 : 67 ≠ T) (h3 : 70 ≠ T) (ks : Th.KS (fun j => j = X) w w') : TF w' q t tq Ts ps fvs := by
  refine ⟨fun i hi => (h.th i hi).keep ks.size fun j hj _ hc => ks.block j hj ?_, h.inj, h.sep, h.fsep⟩
  obtain ⟨_, ci, hci⟩ := (h.th i hi).blk
  rcases hc with rfl | hc | ⟨a, ha, rfl⟩
  · exact ty_ne hci hX h1
  · obtain ⟨_, _, c2, e2⟩ := (h.th i hi).own hc
    exact ty_ne e2 hX h2
  · obtain ⟨_, _, c2, e2⟩ := (h.th i hi).frm ha
    exact ty_ne e2 hX h3
/-- A row of words outside was written. -/
theorem MM.told {w w' : World} {P : Pc} {σ : Sg} {v : Value} {n : Nat} {xs : List Value} (h : MM w P σ) (tto : Th.OwnL 22 w P.N v n xs) (hg : w.grownBy w' v.ownBlock) : MM w' P σ := by
  obtain ⟨ps, fvs, tf⟩ := h.th
  cases ho : v.ownBlock with
  | none =>
    rw [ho] at hg
    exact h.below ⟨hg.os, hg.tape, hg.output, hg.size, fun j hj => hg.block j hj (by simp)⟩
  | some g =>
    obtain ⟨h1, h2, cur, hc⟩ := tto.blk ho
    have ks : Th.KS (fun j => j = g) w w' := ⟨hg.os, hg.tape, hg.output, hg.size, fun j hj hx => hg.block j hj (by rw [ho]; simpa using hx)⟩
    exact ⟨h.c.ksT hc (by have := h.qN; omega) (by decide) ks, ⟨ps, fvs, tf.ksT hc (by decide) (by decide) (by decide) ks⟩, h.qN, h.tN, Nat.le_trans h.NS hg.size⟩
/-- What the law has beside the machine. -/
structure LS (w0 : World) (P : Pc) (cb : Nat) (cs : Array Value) (w : World) (tv : Value) (n : Nat) : Prop where
  tto : TO w P.N tv n
  box : w.heap[cb]? = some (.cells cs 26 (0, 0))
  cB : cb < P.B
  bl : Below w0.heap.size w0 w
  B0 : w0.heap.size ≤ P.B
  NS : P.N ≤ w.heap.size ∧ P.B ≤ P.N
section
variable {w0 w w' : World} {P : Pc} {cb : Nat} {cs : Array Value} {tv : Value} {n : Nat}
theorem LS.below (h : LS w0 P cb cs w tv n) (k : Below w.heap.size w w') : LS w0 P cb cs w' tv n := ⟨Th.OwnL.below h.tto k, Th.up k h.box, h.cB, below_on h.bl k, h.B0, Nat.le_trans h.NS.1 k.size, h.NS.2⟩
theorem LS.ka (h : LS w0 P cb cs w tv n) (k : KA P.B P.N w w') : LS w0 P cb cs w' tv n := by
  refine ⟨Th.OwnL.of h.tto fun b hb => ?_, (k.block cb (Th.blk_lt h.box) (by have := h.cB; omega)).trans h.box, h.cB, ⟨k.os.trans h.bl.os, k.tape.trans h.bl.tape, k.output.trans h.bl.output, Nat.le_trans h.bl.size k.size, fun j hj => (k.block j (Nat.lt_of_lt_of_le hj h.bl.size) (by have := h.B0; omega)).trans (h.bl.block j hj)⟩, h.B0, Nat.le_trans h.NS.1 k.size, h.NS.2⟩
  obtain ⟨h1, h2, cur, hc⟩ := Th.OwnL.blk h.tto hb
  exact k.keep hc (.inr h1) (by decide) (by decide)
/-- One more time was told. -/
theorem LS.push (h : LS w0 P cb cs w tv n) (hn : n ≤ 1000000) : ∃ p c w', (Builtin.append_ #[33, 33] 33 #[tv, .slice (some ⟨w.heap.size, 0, none⟩) 1 1]).run Tryz.prog (w.alloc (.cells #[.int .u64 ((n : Int) + 1)] 22)) = .ok (.slice p (n + 1) c) w' ∧ LS w0 P cb cs w' (.slice p (n + 1) c) (n + 1) ∧ w.grownBy w' tv.ownBlock := by
  obtain ⟨p, c, w', hrun, ho, hg, hloc⟩ := Th.push1 Th.uU64 Th.infoU64 (by rfl) h.tto (.int .u64 ((n : Int) + 1)) rfl hn h.NS.1
  have hne : ∀ j, j < P.N → j < w.heap.size → w'.heap[j]? = w.heap[j]? := fun j hj hs => hg.block j hs fun e => by
    have := (Th.OwnL.blk h.tto e.symm).1; omega
  refine ⟨p, c, w', hrun, ⟨?_, (hne cb (by have := h.cB; have := h.NS; omega) (Th.blk_lt h.box)).trans h.box, h.cB, ⟨hg.os.trans h.bl.os, hg.tape.trans h.bl.tape, hg.output.trans h.bl.output, Nat.le_trans h.bl.size hg.size, fun j hj => (hne j (by have := h.B0; have := h.NS; omega) (Nat.lt_of_lt_of_le hj h.bl.size)).trans (h.bl.block j hj)⟩, h.B0, Nat.le_trans h.NS.1 hg.size, h.NS.2⟩, hg⟩
  unfold TO; rw [ucells_succ]; exact ho
end
theorem mdepthB {w : World} {P : Pc} {σ : Sg} (h : MM w P σ) {k : Nat} (hk : k < P.t) : Calls Tryz.prog 11 #[.pointer (some ⟨P.tq k, 0, none⟩)] w fun e w' => e = .returned (.int .i64 (σ.Ts k).nf) ∧ Below w.heap.size w w' := (mdepth h hk).mono fun _ _ ⟨h1, h2⟩ => ⟨h1, h2 ▸ Below.refl _ _⟩
theorem cMemB {w : World} {P : Pc} {σ : Sg} (h : MM w P σ) : Calls Tryz.prog 14 #[.pointer (some ⟨P.q, 0, none⟩)] w fun e w' => e = .returned (.pointer (some ⟨P.mb, 0, none⟩)) ∧ Below w.heap.size w w' := (cMem h.c).mono fun _ _ ⟨h1, h2⟩ => ⟨h1, h2 ▸ Below.refl _ _⟩
theorem rclockB {w : World} {g n C : Nat} {f : Nat → Int} (h : Mm.RowAt w g n f) (hn : 3 ≤ n) : Calls Tryz.prog 13 #[.slice (some ⟨g, 0, none⟩) n C] w fun e w' => e = .returned (.int .u64 (f 0)) ∧ Below w.heap.size w w' := (rclock h hn).mono fun _ _ ⟨h1, h2⟩ => ⟨h1, h2 ▸ Below.refl _ _⟩
theorem fresh0B (v : Value) (now st : Int) (h : st ≤ now) (w : World) : Calls Tryz.prog 18 #[v, .int .u64 0, .int .u64 now, .int .u64 st] w fun e w' => e = .returned (.bool true) ∧ Below w.heap.size w w' := (fresh0 v now st h w).mono fun _ _ ⟨h1, h2⟩ => ⟨h1, h2 ▸ Below.refl _ _⟩
theorem freshYB {w : World} {N : Nat} {v : Value} {n : Nat} (hu : TO w N v n) (hn : n ≤ 100000) (c now st : Int) (hc : c = (n : Int) + 1) (h : c < now) : Calls Tryz.prog 18 #[v, .int .u64 c, .int .u64 now, .int .u64 st] w fun e w' => e = .returned (.bool true) ∧ Below w.heap.size w w' := by
  subst hc
  exact (freshY (Th.own_UR hu) hn now st h).mono fun _ _ ⟨h1, h2⟩ => ⟨h1, h2 ▸ Below.refl _ _⟩
set_option maxRecDepth 16000 in
set_option maxHeartbeats 16000000 in
theorem clockTicks_walk (v0 v1 : Value) (w : World) (s0 : Fr.okN w [.int .i64, .int .i64, .int .u64] v0) (s1 : Fr.ok1 w (.slice [.int .i64]) v1) :
    Calls Tryz.prog 4 #[v0, v1] w fun e w' => e = .returned (.bool true) ∧ Below w.heap.size w w' := by
  obtain ⟨cs, rfl, h⟩ := s0
  obtain ⟨_, _, rfl, k0, h⟩ := Fr.get_cons h
  obtain ⟨_, _, rfl, k1, h⟩ := Fr.get_cons h
  obtain ⟨_, _, rfl, k2, h⟩ := Fr.get_cons h
  obtain rfl := Fr.get_nil h
  obtain ⟨T, rfl, _⟩ := Fr.get_int k0
  obtain ⟨S, rfl, _⟩ := Fr.get_int k1
  obtain ⟨Kc, rfl, _⟩ := Fr.get_int k2
  clear k0 k1 k2 h
  obtain ⟨pa, pn, pc, rfl, p1, p2, hp⟩ := il_open s1
  have HP := Lib.hid hp
  clear hp s1
  show Calls Tryz.prog _ #[.agg #[.int .i64 T, .int .i64 S, .int .u64 Kc], _] w _
  refine Calls.veil fun Q HQ => ?_
  go_enter Tryz.func4, Tryz.ntmps4
  go_upto_region 1 with fail
  generalize hV : World.alloc _ _ = U
  obtain ⟨u0, hbu⟩ := Th.heapnewE hV
  obtain ⟨cb, hcb⟩ : ∃ cb, cb = w.heap.size := ⟨_, rfl⟩
  rw [← hcb] at u0 ⊢
  have HC := Lib.hid u0; have HBU := Lib.hid hbu
  clear hV hbu hcb
  have o0 := Th.newcell u0 0 _ rfl; have o1 := Th.newcell u0 1 _ rfl; have o2 := Th.newcell u0 2 _ rfl
  clear u0
  cases hmay : mayC T S Kc with
  | false =>
    have HM := Lib.hid hmay
    clear hmay
    go_wp2_with fail
    refine (rmay_calls _ _ _ _).mono ?_; rintro _ w1 ⟨rfl, hb⟩
    rw [HM.out]
    have HB1 := Lib.hid (below_on HBU.out hb)
    clear hb o0 o1 o2
    go_wp2_with fail
    refine (lives25_calls _).mono ?_; rintro _ w3 ⟨rfl, hb⟩
    have HB3 := Lib.hid (below_on HB1.out hb)
    clear hb
    go_wp2_with fail
    (try go_ret)
    rw [HQ.out]
    exact ⟨rfl, HB3.out⟩
  | true =>
  have hm := mayC_true hmay
  obtain ⟨t, rfl⟩ : ∃ t : Nat, T = t := ⟨T.toNat, by omega⟩
  obtain ⟨s, rfl⟩ : ∃ s : Nat, S = s := ⟨S.toNat, by omega⟩
  have HM := Lib.hid hmay
  have HMT := Lib.hid hm
  have t1 : 1 ≤ t := by omega
  have t6 : t ≤ 6 := by omega
  clear hmay hm
  go_wp2_with fail
  refine (rmay_calls _ _ _ _).mono ?_; rintro _ w1 ⟨rfl, hb⟩
  rw [HM.out]
  have HC1 := Lib.hid (Th.up hb HC.out); have HB1 := Lib.hid (below_on HBU.out hb)
  clear hb HC HBU o0 o1 o2
  by_cases hpn : 600 < pn
  · have hp2 : (600 : Int) < pn := by omega
    go_wp2_with fail
    refine (lives25_calls _).mono ?_; rintro _ w3 ⟨rfl, hb⟩
    have HB3 := Lib.hid (below_on HB1.out hb)
    clear hb
    go_wp2_with fail
    (try go_ret)
    rw [HQ.out]
    exact ⟨rfl, HB3.out⟩
  have hp2 : ¬ (600 : Int) < pn := by omega
  have o0 := Th.newcell HC1.out 0 _ rfl; have o1 := Th.newcell HC1.out 1 _ rfl; have o2 := Th.newcell HC1.out 2 _ rfl
  go_wp2_with fail
  clear o0 o1 o2
  refine (cnewI (t := t) (s := s) _ HM.out).mono ?_; rintro _ w2 ⟨q, pl, mb, mg, C, gq, gg, gm, fv, tq, rfl, hmi, hb, hin⟩
  have hm0 := MM.init hmi hin
  obtain ⟨P, hP⟩ : ∃ P : Pc, P = ⟨w1.heap.size, q, pl, mb, mg, C, gq, gg, gm, fv, tq, t, s, Kc, w2.heap.size⟩ := ⟨_, rfl⟩
  rw [← hP] at hm0
  have eq1 : q = P.q := by rw [hP]
  have HE := Lib.hid (show P.t = t ∧ P.K = Kc ∧ P.B = w1.heap.size ∧ P.N = w2.heap.size from by rw [hP]; exact ⟨rfl, rfl, rfl, rfl⟩)
  rw [eq1]
  obtain ⟨σ0, hσ⟩ : ∃ σ0, σ0 = sgInit t s := ⟨_, rfl⟩
  rw [← hσ] at hm0
  have HI2 := Lib.hid (show CI P σ0 1 0 1 from by
    have hm := HMT.out
    rw [hσ]
    exact ⟨rfl, ⟨Nat.le_refl _, by rw [HE.out.2.1]; exact hm.2.2.2.2.1, Nat.le_refl _⟩, fun k hk => .inl rfl, ⟨Int.le_refl _, Int.le_refl _, Int.le_refl _, Int.le_refl _⟩, rfl, rfl, rfl⟩)
  have HM2 := Lib.hid hm0
  have HC2 := Lib.hid (Th.up hb HC1.out); have HB2 := Lib.hid (below_on HB1.out hb)
  have HCB := Lib.hid (show cb < w1.heap.size ∧ w1.heap.size ≤ w2.heap.size from ⟨Th.blk_lt HC1.out, hb.size⟩)
  clear hmi hb hin hP eq1 hm0 HC1 hσ
  have hms := run_told
  go_upto_region 7 with fail
  clear hms
  generalize hV : World.alloc _ _ = V
  obtain ⟨hx, hbv⟩ := Th.heapnewE hV
  have hto : TO V P.N (.slice (some ⟨w2.heap.size, 0, none⟩) 0 600) 0 := by
    rw [← hV, HE.out.2.2.2]
    exact World.ownsRow_made w2 _ 600 (Nat.le_refl _) (by decide) (by simp [madeCells])
  have HL3 := Lib.hid (show LS w P cb #[.int .i64 t, .int .i64 s, .int .u64 Kc] V (.slice (some ⟨w2.heap.size, 0, none⟩) 0 600) 0 from ⟨hto, Th.up hbv HC2.out, by rw [HE.out.2.2.1]; exact HCB.out.1, below_on HB2.out hbv, by rw [HE.out.2.2.1]; exact HB1.out.size, by rw [HE.out.2.2.2]; exact hbv.size, by rw [HE.out.2.2.1, HE.out.2.2.2]; exact HCB.out.2⟩)
  have HM3 := Lib.hid (HM2.out.below hbv)
  have HTL := Lib.hid HM2.out.bd
  clear hV hx hbv hto HM2 HC2 HB2
  generalize w2.heap.size = tb0 at HL3 ⊢
  go_wp2_with fail
  go_loopw [7, 8] (fun tv iv wr => ∃ i : Nat, i ≤ pn ∧ iv = .int .i64 i ∧ ∃ (σ : Sg) (n : Nat), Hid (MM wr P σ) ∧ Hid (CI P σ (n + 1) i (i + 1)) ∧ Hid (LS w P cb #[.int .i64 t, .int .i64 s, .int .u64 Kc] wr tv n)) (fun _ iv _ => pn - (intOf iv).toNat)
  case atStart => exact ⟨0, Nat.zero_le _, rfl, σ0, 0, HM3, HI2, HL3⟩
  case round =>
    clear HM3 HI2 HL3 σ0
    obtain ⟨i, hi, rfl, σ, n, HM4, HI4, HL4⟩ := hrel
    have hnb : n ≤ 600 := by have := HI4.out.c1; omega
    obtain ⟨ta, tc, rfl, _, _⟩ := Th.OwnL.slice HL4.out.tto
    rcases (by omega : i < pn ∨ i = pn) with hlt | heq
    · obtain ⟨pg, po, rfl, k, hk⟩ := HP.out i hlt
      have HPK := Lib.hid hk
      have pcell : wr.cell? ⟨pg, po + i, none⟩ = some (.int .i64 k) := Ext.use (Ext.cells hk) HL4.out.bl
      have hii : (i : Int) < pn := by omega
      clear hk
      go_wp2_with fail
      clear pcell
      by_cases hkt : 0 ≤ k ∧ k < t
      · obtain ⟨k, rfl⟩ : ∃ j : Nat, k = j := ⟨k.toNat, by omega⟩
        have HK := Lib.hid (show k < P.t by rw [HE.out.1]; omega)
        clear hkt
        refine (cThread_yes HM4.out.c k HK.out).mono ?_; rintro _ wa ⟨rfl, hb⟩
        have HM5 := Lib.hid (HM4.out.below hb); have HL5 := Lib.hid (HL4.out.below hb)
        clear hb HM4 HL4
        go_wp2_with fail
        refine (mdepth HM5.out HK.out).mono ?_; rintro _ _ ⟨rfl, rfl⟩
        rcases (show (σ.Ts k).nf = 0 ∨ (σ.Ts k).nf = 1 from by rcases HI4.out.th k HK.out with e | e; exact .inl e; exact .inr e.1) with e0 | e0
        · rw [e0]
          have HE0 := Lib.hid e0
          clear e0
          go_wp2_with fail
          refine (mcall (n := 0) (L := fun _ => 0) HM5.out HK.out 60 (Th.UR.nil _) (by rw [HE0.out]; omega)).mono ?_; rintro _ wb ⟨rfl, hm6, hk6⟩
          obtain ⟨hi6, hn6⟩ := HI4.out.call HE0.out
          obtain ⟨σ1, hσ1⟩ : ∃ σ1, σ1 = σ.thr k (Th.callT (σ.Ts k) 60 0 fun _ => 0) := ⟨_, rfl⟩
          rw [← hσ1] at hm6 hi6 hn6
          have HM6 := Lib.hid hm6; have HL6 := Lib.hid (HL5.out.ka hk6); have HI6 := Lib.hid hi6; have HN6 := Lib.hid hn6
          clear hm6 hk6 hi6 hn6 hσ1 HM5 HL5 HI4 HE0
          go_wp2_with fail
          refine (cMem HM6.out.c).mono ?_; rintro _ _ ⟨rfl, rfl⟩
          go_wp2_with fail
          refine (Mm.mwords _ _ _ _ _ _ _ _ HM6.out.c.mem).mono ?_; rintro _ wc ⟨g1, C1, rfl, hg1, hC1, hC2, hr1, hb⟩
          have HM7 := Lib.hid (HM6.out.below hb); have HL7 := Lib.hid (HL6.out.below hb)
          clear hb hg1 HM6 HL6
          go_wp2_with fail
          refine (rclock hr1 (by omega)).mono ?_; rintro _ _ ⟨rfl, rfl⟩
          obtain ⟨c, hc⟩ : ∃ c : Int, c = ((n + 1 : Nat) : Int) := ⟨_, rfl⟩
          rw [HI6.out.f0, ← hc]
          have HCC := Lib.hid (show c = (n : Int) + 1 ∧ 1 ≤ c ∧ c ≤ Kc ∧ c ≤ 700 from by have := HI6.out.c1; rw [HE.out.2.1] at this; omega)
          have HFC := Lib.hid (show ∀ x : Int, x = ((n + 1 : Nat) : Int) → x = c from fun x hx => by omega)
          clear hc hr1
          have pcell : wc.cell? ⟨pg, po + i, none⟩ = some (.int .i64 k) := Ext.use (Ext.cells HPK.out) HL7.out.bl
          go_wp2_with fail
          clear pcell
          refine (tstep HM7.out HI6.out (by omega) (by omega) HK.out HN6.out).mono ?_; rintro _ wd ⟨σ2, rfl, hm8, hk8, ho8, hci8, _⟩
          have HM8 := Lib.hid hm8; have HL8 := Lib.hid (HL7.out.ka hk8); have HCI := Lib.hid hci8
          clear hm8 hk8 hci8 HM7 HL7
          rcases ho8 with ⟨n1, fe, _, _⟩ | ⟨n1, fe, re, kc⟩ | ⟨n1, fe, re, se, kc⟩
          · rw [n1, show decide (0 < 1) = true from rfl]
            have HI9 := Lib.hid (HCI.out (n + 1) fe)
            have fe2 := HFC.out _ fe
            clear n1 fe
            go_wp2_with fail
            refine (cMem HM8.out.c).mono ?_; rintro _ _ ⟨rfl, rfl⟩
            go_wp2_with fail
            refine (Mm.mwords _ _ _ _ _ _ _ _ HM8.out.c.mem).mono ?_; rintro _ we ⟨g2, C3, rfl, hg2, hC3, hC4, hr2, hb⟩
            have HM9 := Lib.hid (HM8.out.below hb); have HL9 := Lib.hid (HL8.out.below hb)
            clear hb hg2 HM8 HL8
            go_wp2_with fail
            refine (rclock hr2 (by omega)).mono ?_; rintro _ _ ⟨rfl, rfl⟩
            rw [fe2]
            clear hr2 fe2
            have hK1 : ¬ Kc < c := by have := HCC.out; omega
            have o2 := Th.newcell HL9.out.box 2 _ rfl
            go_wp2_with fail
            clear o2
            go_roundw
            case rel => exact ⟨i + 1, by omega, by go_num, σ2, n, HM9, Lib.hid (HI9.out.le (by omega) (by omega)), HL9⟩
            case measure => simp [intOf]; omega
          · rw [n1, show decide (0 < 0) = false from rfl]
            have HI9 := Lib.hid (HCI.out (n + 1) fe)
            have fe2 := HFC.out _ fe
            have kc2 : Kc ≤ c := by have := HCC.out; rw [HE.out.2.1] at kc; omega
            have HKC := Lib.hid kc2
            have HRE := Lib.hid re
            clear n1 fe kc kc2 re
            go_wp2_with fail
            refine (cMem HM8.out.c).mono ?_; rintro _ _ ⟨rfl, rfl⟩
            go_wp2_with fail
            refine (Mm.mwords _ _ _ _ _ _ _ _ HM8.out.c.mem).mono ?_; rintro _ we ⟨g2, C3, rfl, hg2, hC3, hC4, hr2, hb⟩
            have HM9 := Lib.hid (HM8.out.below hb); have HL9 := Lib.hid (HL8.out.below hb)
            clear hb hg2 HM8 HL8
            go_wp2_with fail
            refine (rclock hr2 (by omega)).mono ?_; rintro _ _ ⟨rfl, rfl⟩
            rw [fe2]
            clear hr2 fe2
            have hK1 : ¬ Kc < c := by have := HCC.out; omega
            have o2 := Th.newcell HL9.out.box 2 _ rfl
            go_upto_region 20 with fail
            clear hK1
            have x0 : ∀ y : Ext we, y.w.cell? ⟨P.tq k, 0, none⟩ = some (.int .u64 0) := fun y => by have := (HM9.out.below y.h).ret HK.out (i := 0) (by omega); rw [HRE.out] at this; exact this
            have xk : ∀ y : Ext we, y.w.cell? ⟨cb, 2, none⟩ = some (.int .u64 Kc) := Ext.cells o2
            clear o2
            (with_reducible refine wp_region_mix (fun w' => ∃ y : Ext we, w' = y.w) ?_ ?_ ?_ ?_; kernel_rfl; kernel_rfl; exact ⟨⟨we.drew, (Below.refl _ _).drew⟩, rfl⟩)
            have hd : Below we.heap.size we we.drew := (Below.refl _ _).drew
            repeat (first | ((with_reducible refine mix_skip (by kernel_rfl) ?_); go_big_quiet_skip; (with_reducible refine mix_on ?_)) | ((with_reducible refine mix_plain (by kernel_rfl) ?_); (first | go_big_quiet_skip | (go_big_quiet_want; go_big_quiet_op; go_big_quiet_on)); (with_reducible refine mix_on ?_)))
            ((with_reducible refine wpMix_chain (by kernel_rfl) (by kernel_rfl) (fun K HKK => ?_)); go_step)
            refine (fresh0B _ _ _ HKC.out _).mono ?_; rintro _ wf ⟨rfl, hb⟩
            have hb := below_on hd hb
            have HMf := Lib.hid (HM9.out.below hb); have HLf := Lib.hid (HL9.out.below hb)
            refine HKK.out _ _ ⟨⟨wf, hb⟩, rfl⟩ ?_
            clear HKK K hd hb
            repeat (first | ((with_reducible refine mix_skip (by kernel_rfl) ?_); go_big_quiet_skip; (with_reducible refine mix_on ?_)) | ((with_reducible refine mix_plain (by kernel_rfl) ?_); (first | go_big_quiet_skip | (go_big_quiet_want; go_big_quiet_op; go_big_quiet_on)); (with_reducible refine mix_on ?_)))
            refine wpMix_nil ?_
            clear x0 xk
            have HMg := HMf; have HLg := HLf
            clear HMf HLf HM9 HL9
            have x0 : wf.cell? ⟨P.tq k, 0, none⟩ = some (.int .u64 0) := by have := HMg.out.ret HK.out (i := 0) (by omega); rw [HRE.out] at this; exact this
            go_wp2_with fail
            clear x0
            go_roundw
            case rel => exact ⟨i + 1, by omega, by go_num, σ2, n, HMg, Lib.hid (HI9.out.le (by omega) (by omega)), HLg⟩
            case measure => simp [intOf]; omega
          · rw [n1, show decide (0 < 0) = false from rfl]
            have HI9 := Lib.hid (HCI.out (n + 1 + 1) fe)
            have fe2 : σ2.f 0 = c + 1 := by have := HCC.out; omega
            have re2 := HFC.out _ re
            have kc2 : c + 1 ≤ Kc := by have := HCC.out; rw [HE.out.2.1] at kc; omega
            have HKC := Lib.hid kc2
            have HRE := Lib.hid re2
            have HSE := Lib.hid (show (σ2.Ts k).ss 4 = .int .u64 c by rw [se]; exact congrArg _ (HFC.out _ rfl))
            clear n1 fe kc kc2 re re2 se
            go_wp2_with fail
            refine (cMem HM8.out.c).mono ?_; rintro _ _ ⟨rfl, rfl⟩
            go_wp2_with fail
            refine (Mm.mwords _ _ _ _ _ _ _ _ HM8.out.c.mem).mono ?_; rintro _ we ⟨g2, C3, rfl, hg2, hC3, hC4, hr2, hb⟩
            have HM9 := Lib.hid (HM8.out.below hb); have HL9 := Lib.hid (HL8.out.below hb)
            clear hb hg2 HM8 HL8
            go_wp2_with fail
            refine (rclock hr2 (by omega)).mono ?_; rintro _ _ ⟨rfl, rfl⟩
            rw [fe2]
            clear hr2 fe2
            have hK1 : ¬ Kc < c + 1 := by have := HKC.out; omega
            have hw1 : IntKind.u64.wrap (c + 1) = c + 1 := by have := HCC.out; rw [IntKind.wrap_u64]; omega
            have he1 : (c + 1 == c) = false := by simp; omega
            have o2 := Th.newcell HL9.out.box 2 _ rfl
            go_upto_region 20 with fail
            clear hK1 hw1 he1
            have hc0 : (c == 0) = false := by have := HCC.out; simp; omega
            have hc1 : (c != 0) = true := by have := HCC.out; simp; omega
            have hcc : (c != c) = false := by simp
            have x0 : ∀ y : Ext we, y.w.cell? ⟨P.tq k, 0, none⟩ = some (.int .u64 c) := fun y => by have := (HM9.out.below y.h).ret HK.out (i := 0) (by omega); rw [HRE.out] at this; exact this
            have x4 : ∀ y : Ext we, y.w.cell? ⟨P.tq k, 16, none⟩ = some (.int .u64 c) := fun y => by have := (HM9.out.below y.h).ss HK.out (i := 4) (by omega); rw [HSE.out] at this; exact this
            have xk : ∀ y : Ext we, y.w.cell? ⟨cb, 2, none⟩ = some (.int .u64 Kc) := Ext.cells o2
            clear o2
            (with_reducible refine wp_region_mix (fun w' => ∃ y : Ext we, w' = y.w) ?_ ?_ ?_ ?_; kernel_rfl; kernel_rfl; exact ⟨⟨we.drew, (Below.refl _ _).drew⟩, rfl⟩)
            have hd : Below we.heap.size we we.drew := (Below.refl _ _).drew
            repeat (first | ((with_reducible refine mix_skip (by kernel_rfl) ?_); go_big_quiet_skip; (with_reducible refine mix_on ?_)) | ((with_reducible refine mix_plain (by kernel_rfl) ?_); (first | go_big_quiet_skip | (go_big_quiet_want; go_big_quiet_op; go_big_quiet_on)); (with_reducible refine mix_on ?_)))
            ((with_reducible refine wpMix_chain (by kernel_rfl) (by kernel_rfl) (fun K HKK => ?_)); go_step)
            refine (freshYB (HL9.out.below hd).tto (by omega) c _ _ HCC.out.1 (by omega)).mono ?_; rintro _ wf ⟨rfl, hb⟩
            have hb := below_on hd hb
            have HMf := Lib.hid (HM9.out.below hb); have HLf := Lib.hid (HL9.out.below hb)
            refine HKK.out _ _ ⟨⟨wf, hb⟩, rfl⟩ ?_
            clear HKK K hd hb
            repeat (first | ((with_reducible refine mix_skip (by kernel_rfl) ?_); go_big_quiet_skip; (with_reducible refine mix_on ?_)) | ((with_reducible refine mix_plain (by kernel_rfl) ?_); (first | go_big_quiet_skip | (go_big_quiet_want; go_big_quiet_op; go_big_quiet_on)); (with_reducible refine mix_on ?_)))
            refine wpMix_nil ?_
            clear x0 x4 xk
            have HMg := HMf; have HLg := HLf
            clear HMf HLf HM9 HL9
            have x0 : wf.cell? ⟨P.tq k, 0, none⟩ = some (.int .u64 c) := by have := HMg.out.ret HK.out (i := 0) (by omega); rw [HRE.out] at this; exact this
            obtain ⟨pa2, pc2, W2, hrun, hl2, hg2⟩ := HLg.out.push (by omega)
            have HMW := Lib.hid (HMg.out.told HLg.out.tto hg2); have HLW := Lib.hid hl2
            rw [← HCC.out.1] at hrun
            clear hl2 hg2
            go_wp2_with (at_builtin; refine Th.wpList_append_run rfl (.tmp 120) (.tmp 126) 33 rfl rfl rfl rfl hrun ?_)
            clear x0 hrun hc0 hc1 hcc HMg HLg
            go_roundw
            case rel => exact ⟨i + 1, by omega, by go_num, σ2, n + 1, HMW, Lib.hid (HI9.out.le (by omega) (by omega)), HLW⟩
            case measure => simp [intOf]; omega
        · rw [e0]
          have HM6 := HM5; have HL6 := HL5; have HI6 := HI4; have HN6 := Lib.hid e0
          obtain ⟨σ1, hσ1⟩ : ∃ σ1, σ1 = σ := ⟨_, rfl⟩
          rw [← hσ1] at HM6 HI6 HN6
          clear e0 HM5 HL5 HI4 hσ1
          go_wp2_with fail
          refine (cMem HM6.out.c).mono ?_; rintro _ _ ⟨rfl, rfl⟩
          go_wp2_with fail
          refine (Mm.mwords _ _ _ _ _ _ _ _ HM6.out.c.mem).mono ?_; rintro _ wc ⟨g1, C1, rfl, hg1, hC1, hC2, hr1, hb⟩
          have HM7 := Lib.hid (HM6.out.below hb); have HL7 := Lib.hid (HL6.out.below hb)
          clear hb hg1 HM6 HL6
          go_wp2_with fail
          refine (rclock hr1 (by omega)).mono ?_; rintro _ _ ⟨rfl, rfl⟩
          obtain ⟨c, hc⟩ : ∃ c : Int, c = ((n + 1 : Nat) : Int) := ⟨_, rfl⟩
          rw [HI6.out.f0, ← hc]
          have HCC := Lib.hid (show c = (n : Int) + 1 ∧ 1 ≤ c ∧ c ≤ Kc ∧ c ≤ 700 from by have := HI6.out.c1; rw [HE.out.2.1] at this; omega)
          have HFC := Lib.hid (show ∀ x : Int, x = ((n + 1 : Nat) : Int) → x = c from fun x hx => by omega)
          clear hc hr1
          have pcell : wc.cell? ⟨pg, po + i, none⟩ = some (.int .i64 k) := Ext.use (Ext.cells HPK.out) HL7.out.bl
          go_wp2_with fail
          clear pcell
          refine (tstep HM7.out HI6.out (by omega) (by omega) HK.out HN6.out).mono ?_; rintro _ wd ⟨σ2, rfl, hm8, hk8, ho8, hci8, _⟩
          have HM8 := Lib.hid hm8; have HL8 := Lib.hid (HL7.out.ka hk8); have HCI := Lib.hid hci8
          clear hm8 hk8 hci8 HM7 HL7
          rcases ho8 with ⟨n1, fe, _, _⟩ | ⟨n1, fe, re, kc⟩ | ⟨n1, fe, re, se, kc⟩
          · rw [n1, show decide (0 < 1) = true from rfl]
            have HI9 := Lib.hid (HCI.out (n + 1) fe)
            have fe2 := HFC.out _ fe
            clear n1 fe
            go_wp2_with fail
            refine (cMem HM8.out.c).mono ?_; rintro _ _ ⟨rfl, rfl⟩
            go_wp2_with fail
            refine (Mm.mwords _ _ _ _ _ _ _ _ HM8.out.c.mem).mono ?_; rintro _ we ⟨g2, C3, rfl, hg2, hC3, hC4, hr2, hb⟩
            have HM9 := Lib.hid (HM8.out.below hb); have HL9 := Lib.hid (HL8.out.below hb)
            clear hb hg2 HM8 HL8
            go_wp2_with fail
            refine (rclock hr2 (by omega)).mono ?_; rintro _ _ ⟨rfl, rfl⟩
            rw [fe2]
            clear hr2 fe2
            have hK1 : ¬ Kc < c := by have := HCC.out; omega
            have o2 := Th.newcell HL9.out.box 2 _ rfl
            go_wp2_with fail
            clear o2
            go_roundw
            case rel => exact ⟨i + 1, by omega, by go_num, σ2, n, HM9, Lib.hid (HI9.out.le (by omega) (by omega)), HL9⟩
            case measure => simp [intOf]; omega
          · rw [n1, show decide (0 < 0) = false from rfl]
            have HI9 := Lib.hid (HCI.out (n + 1) fe)
            have fe2 := HFC.out _ fe
            have kc2 : Kc ≤ c := by have := HCC.out; rw [HE.out.2.1] at kc; omega
            have HKC := Lib.hid kc2
            have HRE := Lib.hid re
            clear n1 fe kc kc2 re
            go_wp2_with fail
            refine (cMem HM8.out.c).mono ?_; rintro _ _ ⟨rfl, rfl⟩
            go_wp2_with fail
            refine (Mm.mwords _ _ _ _ _ _ _ _ HM8.out.c.mem).mono ?_; rintro _ we ⟨g2, C3, rfl, hg2, hC3, hC4, hr2, hb⟩
            have HM9 := Lib.hid (HM8.out.below hb); have HL9 := Lib.hid (HL8.out.below hb)
            clear hb hg2 HM8 HL8
            go_wp2_with fail
            refine (rclock hr2 (by omega)).mono ?_; rintro _ _ ⟨rfl, rfl⟩
            rw [fe2]
            clear hr2 fe2
            have hK1 : ¬ Kc < c := by have := HCC.out; omega
            have o2 := Th.newcell HL9.out.box 2 _ rfl
            go_upto_region 20 with fail
            clear hK1
            have x0 : ∀ y : Ext we, y.w.cell? ⟨P.tq k, 0, none⟩ = some (.int .u64 0) := fun y => by have := (HM9.out.below y.h).ret HK.out (i := 0) (by omega); rw [HRE.out] at this; exact this
            have xk : ∀ y : Ext we, y.w.cell? ⟨cb, 2, none⟩ = some (.int .u64 Kc) := Ext.cells o2
            clear o2
            (with_reducible refine wp_region_mix (fun w' => ∃ y : Ext we, w' = y.w) ?_ ?_ ?_ ?_; kernel_rfl; kernel_rfl; exact ⟨⟨we.drew, (Below.refl _ _).drew⟩, rfl⟩)
            have hd : Below we.heap.size we we.drew := (Below.refl _ _).drew
            repeat (first | ((with_reducible refine mix_skip (by kernel_rfl) ?_); go_big_quiet_skip; (with_reducible refine mix_on ?_)) | ((with_reducible refine mix_plain (by kernel_rfl) ?_); (first | go_big_quiet_skip | (go_big_quiet_want; go_big_quiet_op; go_big_quiet_on)); (with_reducible refine mix_on ?_)))
            ((with_reducible refine wpMix_chain (by kernel_rfl) (by kernel_rfl) (fun K HKK => ?_)); go_step)
            refine (fresh0B _ _ _ HKC.out _).mono ?_; rintro _ wf ⟨rfl, hb⟩
            have hb := below_on hd hb
            have HMf := Lib.hid (HM9.out.below hb); have HLf := Lib.hid (HL9.out.below hb)
            refine HKK.out _ _ ⟨⟨wf, hb⟩, rfl⟩ ?_
            clear HKK K hd hb
            repeat (first | ((with_reducible refine mix_skip (by kernel_rfl) ?_); go_big_quiet_skip; (with_reducible refine mix_on ?_)) | ((with_reducible refine mix_plain (by kernel_rfl) ?_); (first | go_big_quiet_skip | (go_big_quiet_want; go_big_quiet_op; go_big_quiet_on)); (with_reducible refine mix_on ?_)))
            refine wpMix_nil ?_
            clear x0 xk
            have HMg := HMf; have HLg := HLf
            clear HMf HLf HM9 HL9
            have x0 : wf.cell? ⟨P.tq k, 0, none⟩ = some (.int .u64 0) := by have := HMg.out.ret HK.out (i := 0) (by omega); rw [HRE.out] at this; exact this
            go_wp2_with fail
            clear x0
            go_roundw
            case rel => exact ⟨i + 1, by omega, by go_num, σ2, n, HMg, Lib.hid (HI9.out.le (by omega) (by omega)), HLg⟩
            case measure => simp [intOf]; omega
          · rw [n1, show decide (0 < 0) = false from rfl]
            have HI9 := Lib.hid (HCI.out (n + 1 + 1) fe)
            have fe2 : σ2.f 0 = c + 1 := by have := HCC.out; omega
            have re2 := HFC.out _ re
            have kc2 : c + 1 ≤ Kc := by have := HCC.out; rw [HE.out.2.1] at kc; omega
            have HKC := Lib.hid kc2
            have HRE := Lib.hid re2
            have HSE := Lib.hid (show (σ2.Ts k).ss 4 = .int .u64 c by rw [se]; exact congrArg _ (HFC.out _ rfl))
            clear n1 fe kc kc2 re re2 se
            go_wp2_with fail
            refine (cMem HM8.out.c).mono ?_; rintro _ _ ⟨rfl, rfl⟩
            go_wp2_with fail
            refine (Mm.mwords _ _ _ _ _ _ _ _ HM8.out.c.mem).mono ?_; rintro _ we ⟨g2, C3, rfl, hg2, hC3, hC4, hr2, hb⟩
            have HM9 := Lib.hid (HM8.out.below hb); have HL9 := Lib.hid (HL8.out.below hb)
            clear hb hg2 HM8 HL8
            go_wp2_with fail
            refine (rclock hr2 (by omega)).mono ?_; rintro _ _ ⟨rfl, rfl⟩
            rw [fe2]
            clear hr2 fe2
            have hK1 : ¬ Kc < c + 1 := by have := HKC.out; omega
            have hw1 : IntKind.u64.wrap (c + 1) = c + 1 := by have := HCC.out; rw [IntKind.wrap_u64]; omega
            have he1 : (c + 1 == c) = false := by simp; omega
            have o2 := Th.newcell HL9.out.box 2 _ rfl
            go_upto_region 20 with fail
            clear hK1 hw1 he1
            have hc0 : (c == 0) = false := by have := HCC.out; simp; omega
            have hc1 : (c != 0) = true := by have := HCC.out; simp; omega
            have hcc : (c != c) = false := by simp
            have x0 : ∀ y : Ext we, y.w.cell? ⟨P.tq k, 0, none⟩ = some (.int .u64 c) := fun y => by have := (HM9.out.below y.h).ret HK.out (i := 0) (by omega); rw [HRE.out] at this; exact this
            have x4 : ∀ y : Ext we, y.w.cell? ⟨P.tq k, 16, none⟩ = some (.int .u64 c) := fun y => by have := (HM9.out.below y.h).ss HK.out (i := 4) (by omega); rw [HSE.out] at this; exact this
            have xk : ∀ y : Ext we, y.w.cell? ⟨cb, 2, none⟩ = some (.int .u64 Kc) := Ext.cells o2
            clear o2
            (with_reducible refine wp_region_mix (fun w' => ∃ y : Ext we, w' = y.w) ?_ ?_ ?_ ?_; kernel_rfl; kernel_rfl; exact ⟨⟨we.drew, (Below.refl _ _).drew⟩, rfl⟩)
            have hd : Below we.heap.size we we.drew := (Below.refl _ _).drew
            repeat (first | ((with_reducible refine mix_skip (by kernel_rfl) ?_); go_big_quiet_skip; (with_reducible refine mix_on ?_)) | ((with_reducible refine mix_plain (by kernel_rfl) ?_); (first | go_big_quiet_skip | (go_big_quiet_want; go_big_quiet_op; go_big_quiet_on)); (with_reducible refine mix_on ?_)))
            ((with_reducible refine wpMix_chain (by kernel_rfl) (by kernel_rfl) (fun K HKK => ?_)); go_step)
            refine (freshYB (HL9.out.below hd).tto (by omega) c _ _ HCC.out.1 (by omega)).mono ?_; rintro _ wf ⟨rfl, hb⟩
            have hb := below_on hd hb
            have HMf := Lib.hid (HM9.out.below hb); have HLf := Lib.hid (HL9.out.below hb)
            refine HKK.out _ _ ⟨⟨wf, hb⟩, rfl⟩ ?_
            clear HKK K hd hb
            repeat (first | ((with_reducible refine mix_skip (by kernel_rfl) ?_); go_big_quiet_skip; (with_reducible refine mix_on ?_)) | ((with_reducible refine mix_plain (by kernel_rfl) ?_); (first | go_big_quiet_skip | (go_big_quiet_want; go_big_quiet_op; go_big_quiet_on)); (with_reducible refine mix_on ?_)))
            refine wpMix_nil ?_
            clear x0 x4 xk
            have HMg := HMf; have HLg := HLf
            clear HMf HLf HM9 HL9
            have x0 : wf.cell? ⟨P.tq k, 0, none⟩ = some (.int .u64 c) := by have := HMg.out.ret HK.out (i := 0) (by omega); rw [HRE.out] at this; exact this
            obtain ⟨pa2, pc2, W2, hrun, hl2, hg2⟩ := HLg.out.push (by omega)
            have HMW := Lib.hid (HMg.out.told HLg.out.tto hg2); have HLW := Lib.hid hl2
            rw [← HCC.out.1] at hrun
            clear hl2 hg2
            go_wp2_with (at_builtin; refine Th.wpList_append_run rfl (.tmp 120) (.tmp 126) 33 rfl rfl rfl rfl hrun ?_)
            clear x0 hrun hc0 hc1 hcc HMg HLg
            go_roundw
            case rel => exact ⟨i + 1, by omega, by go_num, σ2, n + 1, HMW, Lib.hid (HI9.out.le (by omega) (by omega)), HLW⟩
            case measure => simp [intOf]; omega
      · refine (cThread_no HM4.out.c k (by rw [HE.out.1]; exact hkt)).mono ?_; rintro _ wa ⟨rfl, hb⟩
        have HM5 := Lib.hid (HM4.out.below hb); have HL5 := Lib.hid (HL4.out.below hb)
        clear hb HM4 HL4
        go_wp2_with fail
        go_roundw
        case rel => exact ⟨i + 1, by omega, by go_num, σ, n, HM5, Lib.hid (HI4.out.le (by omega) (by omega)), HL5⟩
        case measure => simp [intOf]; omega
    · have heq := heq.symm
      subst heq
      have hii : ¬ (pn : Int) < pn := by omega
      go_wp2_with fail
      go_loopw [7, 13] (fun tv kv wr => ∃ k : Nat, k ≤ t ∧ kv = .int .i64 k ∧ ∃ (σ : Sg) (n : Nat), Hid (MM wr P σ) ∧ Hid (CI P σ (n + 1) (600 + 20 * k) (601 + 20 * k)) ∧ Hid (LS w P cb #[.int .i64 t, .int .i64 s, .int .u64 Kc] wr tv n) ∧ Hid (∀ j, j < k → (σ.Ts j).nf = 0)) (fun _ kv _ => t - (intOf kv).toNat)
      case atStart => exact ⟨0, Nat.zero_le _, rfl, σ, n, HM4, Lib.hid (HI4.out.le (by omega) (by omega)), HL4, Lib.hid (fun j hj => absurd hj (Nat.not_lt_zero j))⟩
      case round =>
        clear HM4 HI4 HL4 hnb
        obtain ⟨k, hk, rfl, σ5, n5, HM5, HI5, HL5, HZ5⟩ := hrel
        have hnb : n5 ≤ 900 := by have := HI5.out.c1; omega
        obtain ⟨ta5, tc5, rfl, _, _⟩ := Th.OwnL.slice HL5.out.tto
        have o0 := Th.newcell HL5.out.box 0 _ rfl
        rcases (by omega : k < t ∨ k = t) with hlt | heq
        · have hkt : (k : Int) < t := by omega
          have HK := Lib.hid (show k < P.t by rw [HE.out.1]; exact hlt)
          go_wp2_with fail
          clear o0
          refine (cThread_yes HM5.out.c k HK.out).mono ?_; rintro _ wa ⟨rfl, hb⟩
          have HM6 := Lib.hid (HM5.out.below hb); have HL6 := Lib.hid (HL5.out.below hb)
          clear hb HM5 HL5
          go_wp2_with fail
          refine (mdepth HM6.out HK.out).mono ?_; rintro _ _ ⟨rfl, rfl⟩
          rcases (show (σ5.Ts k).nf = 0 ∨ (σ5.Ts k).nf = 1 from by rcases HI5.out.th k HK.out with e | e; exact .inl e; exact .inr e.1) with e0 | e0
          · rw [e0]
            have HE0 := Lib.hid e0
            clear e0
            go_wp2_with fail
            go_roundw
            case rel => exact ⟨k + 1, by omega, by go_num, σ5, n5, HM6, Lib.hid (HI5.out.le (by omega) (by omega)), HL6, Lib.hid (fun i hi => by rcases (by omega : i < k ∨ i = k) with h | rfl; exact HZ5.out i h; exact HE0.out)⟩
            case measure => simp [intOf]; omega
          · rw [e0]
            have HE0 := Lib.hid e0
            clear e0
            go_wp2_with fail
            go_loopw [15] (fun jv wr => ∃ j : Nat, j ≤ 3 ∧ jv = .int .i64 j ∧ ∃ (σ : Sg) (cl : Nat), Hid (MM wr P σ) ∧ Hid (CI P σ cl (600 + 20 * k + j) (601 + 20 * k + j)) ∧ Hid (LS w P cb #[.int .i64 t, .int .i64 s, .int .u64 Kc] wr (.slice ta5 n5 tc5) n5) ∧ Hid (∀ i, i < k → (σ.Ts i).nf = 0) ∧ Hid (((σ.Ts k).nf = 1 ∧ cl = n5 + 1 ∧ rkT (σ.Ts k) (n5 + 1) + j ≤ 3) ∨ ((σ.Ts k).nf = 0 ∧ cl = n5 + 1 ∧ (σ.Ts k).ret 0 = 0 ∧ P.K ≤ ((n5 + 1 : Nat) : Int)) ∨ ((σ.Ts k).nf = 0 ∧ cl = n5 + 2 ∧ (σ.Ts k).ret 0 = (n5 : Int) + 1))) (fun jv _ => 20 - (intOf jv).toNat)
            case atStart => exact ⟨0, by omega, rfl, σ5, n5 + 1, HM6, HI5, HL6, HZ5, Lib.hid (.inl ⟨HE0.out, rfl, by have := rkT_le (σ5.Ts k) (n5 + 1); omega⟩)⟩
            case round =>
              clear HM6 HL6 HI5 HZ5 HE0
              obtain ⟨j, hj, rfl, σ6, cl, HM7, HI7, HL7, HZ7, HO7⟩ := hrel
              have hj20 : (j : Int) < 20 := by omega
              go_wp2_with fail
              refine (mdepth HM7.out HK.out).mono ?_; rintro _ _ ⟨rfl, rfl⟩
              rcases HO7.out with ⟨f1, f2, f3⟩ | ⟨f1, f2, f3, f4⟩ | ⟨f1, f2, f3⟩
              · rw [f1]
                subst f2
                have HF1 := Lib.hid f1; have HF3 := Lib.hid f3
                clear f1 f3
                go_wp2_with fail
                refine (tstep HM7.out HI7.out (by omega) (by omega) HK.out HF1.out).mono ?_; rintro _ wd ⟨σ7, rfl, hm8, hk8, ho8, hci8, hot⟩
                have HM8 := Lib.hid hm8; have HL8 := Lib.hid (HL7.out.ka hk8); have HCI := Lib.hid hci8; have HOT := Lib.hid hot; have HO8 := Lib.hid ho8
                clear hm8 hk8 hci8 ho8 hot
                generalize decide (0 < (σ7.Ts k).nf) = dn
                go_wp2_with fail
                go_roundw
                case rel =>
                  have hz : ∀ i, i < k → (σ7.Ts i).nf = 0 := fun i hi => by rw [HOT.out i (by omega)]; exact HZ7.out i hi
                  rcases HO8.out with ⟨n1, fe, _, rk⟩ | ⟨n1, fe, re, kc⟩ | ⟨n1, fe, re, se, kc⟩
                  · exact ⟨j + 1, by have := rkT_le (σ7.Ts k) (n5 + 1); have := HF3.out; omega, by go_num, σ7, n5 + 1, HM8, Lib.hid (HCI.out (n5 + 1) fe), HL8, Lib.hid hz, Lib.hid (.inl ⟨n1, rfl, by have := HF3.out; omega⟩)⟩
                  · exact ⟨j + 1, by have := rkT_le (σ6.Ts k) (n5 + 1); have := HF3.out; omega, by go_num, σ7, n5 + 1, HM8, Lib.hid (HCI.out (n5 + 1) fe), HL8, Lib.hid hz, Lib.hid (.inr (.inl ⟨n1, rfl, re, kc⟩))⟩
                  · exact ⟨j + 1, by have := rkT_le (σ6.Ts k) (n5 + 1); have := HF3.out; omega, by go_num, σ7, n5 + 2, HM8, Lib.hid (HCI.out (n5 + 2) fe), HL8, Lib.hid hz, Lib.hid (.inr (.inr ⟨n1, rfl, by rw [re]; omega⟩))⟩
                case measure => simp [intOf]; omega
              · rw [f1]
                have h20 := hj20
                go_wp2_with fail
                have x0 : ∀ y : Ext wr, y.w.cell? ⟨P.tq k, 0, none⟩ = some (.int .u64 0) := fun y => by have := (HM7.out.below y.h).ret HK.out (i := 0) (by omega); rw [f3] at this; exact this
                have xk : ∀ y : Ext wr, y.w.cell? ⟨cb, 2, none⟩ = some (.int .u64 Kc) := Ext.cells (Th.newcell HL7.out.box 2 _ rfl)
                have HF1 := Lib.hid f1; have HF2 := Lib.hid f2; have HF3 := Lib.hid f3; have HF4 := Lib.hid (show Kc ≤ ((n5 + 1 : Nat) : Int) by rw [HE.out.2.1] at f4; exact f4)
                clear f1 f2 f3 f4 h20
                (with_reducible refine wp_region_mix (fun w' => ∃ y : Ext wr, w' = y.w) ?_ ?_ ?_ ?_; kernel_rfl; kernel_rfl; exact ⟨⟨wr.drew, (Below.refl _ _).drew⟩, rfl⟩)
                have hb60 : Below wr.heap.size wr wr.drew := (Below.refl _ _).drew
                repeat (first | ((with_reducible refine mix_skip (by kernel_rfl) ?_); go_big_quiet_skip; (with_reducible refine mix_on ?_)) | ((with_reducible refine mix_plain (by kernel_rfl) ?_); (first | go_big_quiet_skip | (go_big_quiet_want; go_big_quiet_op; go_big_quiet_on)); (with_reducible refine mix_on ?_)))
                ((with_reducible refine wpMix_chain (by kernel_rfl) (by kernel_rfl) (fun K HKK => ?_)); go_step)
                refine (mdepthB (HM7.out.below hb60) HK.out).mono ?_; rintro _ w61 ⟨rfl, hb⟩
                have hb61 := below_on hb60 hb
                clear hb
                rw [HF1.out]
                refine HKK.out _ _ ⟨⟨w61, hb61⟩, rfl⟩ ?_
                clear HKK K
                repeat (first | ((with_reducible refine mix_skip (by kernel_rfl) ?_); go_big_quiet_skip; (with_reducible refine mix_on ?_)) | ((with_reducible refine mix_plain (by kernel_rfl) ?_); (first | go_big_quiet_skip | (go_big_quiet_want; go_big_quiet_op; go_big_quiet_on)); (with_reducible refine mix_on ?_)))
                ((with_reducible refine wpMix_chain (by kernel_rfl) (by kernel_rfl) (fun K HKK => ?_)); go_step)
                refine (cMemB (HM7.out.below hb61)).mono ?_; rintro _ w62 ⟨rfl, hb⟩
                have hb62 := below_on hb61 hb
                clear hb
                refine HKK.out _ _ ⟨⟨w62, hb62⟩, rfl⟩ ?_
                clear HKK K
                repeat (first | ((with_reducible refine mix_skip (by kernel_rfl) ?_); go_big_quiet_skip; (with_reducible refine mix_on ?_)) | ((with_reducible refine mix_plain (by kernel_rfl) ?_); (first | go_big_quiet_skip | (go_big_quiet_want; go_big_quiet_op; go_big_quiet_on)); (with_reducible refine mix_on ?_)))
                ((with_reducible refine wpMix_chain (by kernel_rfl) (by kernel_rfl) (fun K HKK => ?_)); go_step)
                refine (Mm.mwords _ _ _ _ _ _ _ _ (HM7.out.below hb62).c.mem).mono ?_; rintro _ w63 ⟨g2, C3, rfl, hg2, hC3, hC4, hr2, hb⟩
                have hb63 := below_on hb62 hb
                clear hb
                refine HKK.out _ _ ⟨⟨w63, hb63⟩, rfl⟩ ?_
                clear HKK K
                repeat (first | ((with_reducible refine mix_skip (by kernel_rfl) ?_); go_big_quiet_skip; (with_reducible refine mix_on ?_)) | ((with_reducible refine mix_plain (by kernel_rfl) ?_); (first | go_big_quiet_skip | (go_big_quiet_want; go_big_quiet_op; go_big_quiet_on)); (with_reducible refine mix_on ?_)))
                ((with_reducible refine wpMix_chain (by kernel_rfl) (by kernel_rfl) (fun K HKK => ?_)); go_step)
                refine (rclockB hr2 (by omega)).mono ?_; rintro _ w64 ⟨rfl, hb⟩
                have hb64 := below_on hb63 hb
                clear hb
                rw [HI7.out.f0, HF2.out]
                refine HKK.out _ _ ⟨⟨w64, hb64⟩, rfl⟩ ?_
                clear HKK K
                repeat (first | ((with_reducible refine mix_skip (by kernel_rfl) ?_); go_big_quiet_skip; (with_reducible refine mix_on ?_)) | ((with_reducible refine mix_plain (by kernel_rfl) ?_); (first | go_big_quiet_skip | (go_big_quiet_want; go_big_quiet_op; go_big_quiet_on)); (with_reducible refine mix_on ?_)))
                ((with_reducible refine wpMix_chain (by kernel_rfl) (by kernel_rfl) (fun K HKK => ?_)); go_step)
                refine (fresh0B _ _ _ HF4.out _).mono ?_; rintro _ w65 ⟨rfl, hb⟩
                have hb65 := below_on hb64 hb
                clear hb
                refine HKK.out _ _ ⟨⟨w65, hb65⟩, rfl⟩ ?_
                clear HKK K
                repeat (first | ((with_reducible refine mix_skip (by kernel_rfl) ?_); go_big_quiet_skip; (with_reducible refine mix_on ?_)) | ((with_reducible refine mix_plain (by kernel_rfl) ?_); (first | go_big_quiet_skip | (go_big_quiet_want; go_big_quiet_op; go_big_quiet_on)); (with_reducible refine mix_on ?_)))
                refine wpMix_nil ?_
                have HM8 := Lib.hid (HM7.out.below hb65); have HL8 := Lib.hid (HL7.out.below hb65)
                clear x0 xk hb60 hb61 hb62 hb63 hb64 hb65 hr2 HM7 HL7
                have x0 : w65.cell? ⟨P.tq k, 0, none⟩ = some (.int .u64 0) := by have := HM8.out.ret HK.out (i := 0) (by omega); rw [HF3.out] at this; exact this
                go_wp2_with fail
                clear x0
                go_roundw
                case rel => exact ⟨k + 1, by omega, by go_num, σ6, n5, HM8, Lib.hid (by have h7 := HI7.out; rw [HF2.out] at h7; exact h7.le (by omega) (by omega)), HL8, Lib.hid (fun i hi => by rcases (by omega : i < k ∨ i = k) with h | rfl; exact HZ7.out i h; exact HF1.out)⟩
                case measure => simp [intOf]; omega
              · rw [f1]
                have h20 := hj20
                go_wp2_with fail
                have x0 : ∀ y : Ext wr, y.w.cell? ⟨P.tq k, 0, none⟩ = some (.int .u64 ((n5 : Int) + 1)) := fun y => by have := (HM7.out.below y.h).ret HK.out (i := 0) (by omega); rw [f3] at this; exact this
                have xk : ∀ y : Ext wr, y.w.cell? ⟨cb, 2, none⟩ = some (.int .u64 Kc) := Ext.cells (Th.newcell HL7.out.box 2 _ rfl)
                have HF1 := Lib.hid f1; have HF2 := Lib.hid f2; have HF3 := Lib.hid f3; 
                clear f1 f2 f3  h20
                (with_reducible refine wp_region_mix (fun w' => ∃ y : Ext wr, w' = y.w) ?_ ?_ ?_ ?_; kernel_rfl; kernel_rfl; exact ⟨⟨wr.drew, (Below.refl _ _).drew⟩, rfl⟩)
                have hb60 : Below wr.heap.size wr wr.drew := (Below.refl _ _).drew
                repeat (first | ((with_reducible refine mix_skip (by kernel_rfl) ?_); go_big_quiet_skip; (with_reducible refine mix_on ?_)) | ((with_reducible refine mix_plain (by kernel_rfl) ?_); (first | go_big_quiet_skip | (go_big_quiet_want; go_big_quiet_op; go_big_quiet_on)); (with_reducible refine mix_on ?_)))
                ((with_reducible refine wpMix_chain (by kernel_rfl) (by kernel_rfl) (fun K HKK => ?_)); go_step)
                refine (mdepthB (HM7.out.below hb60) HK.out).mono ?_; rintro _ w61 ⟨rfl, hb⟩
                have hb61 := below_on hb60 hb
                clear hb
                rw [HF1.out]
                refine HKK.out _ _ ⟨⟨w61, hb61⟩, rfl⟩ ?_
                clear HKK K
                repeat (first | ((with_reducible refine mix_skip (by kernel_rfl) ?_); go_big_quiet_skip; (with_reducible refine mix_on ?_)) | ((with_reducible refine mix_plain (by kernel_rfl) ?_); (first | go_big_quiet_skip | (go_big_quiet_want; go_big_quiet_op; go_big_quiet_on)); (with_reducible refine mix_on ?_)))
                ((with_reducible refine wpMix_chain (by kernel_rfl) (by kernel_rfl) (fun K HKK => ?_)); go_step)
                refine (cMemB (HM7.out.below hb61)).mono ?_; rintro _ w62 ⟨rfl, hb⟩
                have hb62 := below_on hb61 hb
                clear hb
                refine HKK.out _ _ ⟨⟨w62, hb62⟩, rfl⟩ ?_
                clear HKK K
                repeat (first | ((with_reducible refine mix_skip (by kernel_rfl) ?_); go_big_quiet_skip; (with_reducible refine mix_on ?_)) | ((with_reducible refine mix_plain (by kernel_rfl) ?_); (first | go_big_quiet_skip | (go_big_quiet_want; go_big_quiet_op; go_big_quiet_on)); (with_reducible refine mix_on ?_)))
                ((with_reducible refine wpMix_chain (by kernel_rfl) (by kernel_rfl) (fun K HKK => ?_)); go_step)
                refine (Mm.mwords _ _ _ _ _ _ _ _ (HM7.out.below hb62).c.mem).mono ?_; rintro _ w63 ⟨g2, C3, rfl, hg2, hC3, hC4, hr2, hb⟩
                have hb63 := below_on hb62 hb
                clear hb
                refine HKK.out _ _ ⟨⟨w63, hb63⟩, rfl⟩ ?_
                clear HKK K
                repeat (first | ((with_reducible refine mix_skip (by kernel_rfl) ?_); go_big_quiet_skip; (with_reducible refine mix_on ?_)) | ((with_reducible refine mix_plain (by kernel_rfl) ?_); (first | go_big_quiet_skip | (go_big_quiet_want; go_big_quiet_op; go_big_quiet_on)); (with_reducible refine mix_on ?_)))
                ((with_reducible refine wpMix_chain (by kernel_rfl) (by kernel_rfl) (fun K HKK => ?_)); go_step)
                refine (rclockB hr2 (by omega)).mono ?_; rintro _ w64 ⟨rfl, hb⟩
                have hb64 := below_on hb63 hb
                clear hb
                rw [HI7.out.f0, HF2.out]
                refine HKK.out _ _ ⟨⟨w64, hb64⟩, rfl⟩ ?_
                clear HKK K
                repeat (first | ((with_reducible refine mix_skip (by kernel_rfl) ?_); go_big_quiet_skip; (with_reducible refine mix_on ?_)) | ((with_reducible refine mix_plain (by kernel_rfl) ?_); (first | go_big_quiet_skip | (go_big_quiet_want; go_big_quiet_op; go_big_quiet_on)); (with_reducible refine mix_on ?_)))
                ((with_reducible refine wpMix_chain (by kernel_rfl) (by kernel_rfl) (fun K HKK => ?_)); go_step)
                refine (freshYB (HL7.out.below hb64).tto (by omega) _ _ _ (by omega) (by omega)).mono ?_; rintro _ w65 ⟨rfl, hb⟩
                have hb65 := below_on hb64 hb
                clear hb
                refine HKK.out _ _ ⟨⟨w65, hb65⟩, rfl⟩ ?_
                clear HKK K
                repeat (first | ((with_reducible refine mix_skip (by kernel_rfl) ?_); go_big_quiet_skip; (with_reducible refine mix_on ?_)) | ((with_reducible refine mix_plain (by kernel_rfl) ?_); (first | go_big_quiet_skip | (go_big_quiet_want; go_big_quiet_op; go_big_quiet_on)); (with_reducible refine mix_on ?_)))
                refine wpMix_nil ?_
                have HM8 := Lib.hid (HM7.out.below hb65); have HL8 := Lib.hid (HL7.out.below hb65)
                clear x0 xk hb60 hb61 hb62 hb63 hb64 hb65 hr2 HM7 HL7
                have x0 : w65.cell? ⟨P.tq k, 0, none⟩ = some (.int .u64 ((n5 : Int) + 1)) := by have := HM8.out.ret HK.out (i := 0) (by omega); rw [HF3.out] at this; exact this
                have hc0 : ((n5 : Int) + 1 == 0) = false := by simp; omega
                obtain ⟨pa2, pc2, W2, hrun, hl2, hg2⟩ := HL8.out.push (by omega)
                have HMW := Lib.hid (HM8.out.told HL8.out.tto hg2); have HLW := Lib.hid hl2
                clear hl2 hg2
                go_wp2_with (at_builtin; refine Th.wpList_append_run rfl (.tmp 177) (.tmp 183) 33 rfl rfl rfl rfl hrun ?_)
                clear x0 hrun hc0 HM8 HL8
                go_roundw
                case rel => exact ⟨k + 1, by omega, by go_num, σ6, n5 + 1, HMW, Lib.hid (by have h7 := HI7.out; rw [HF2.out] at h7; exact h7.le (by omega) (by omega)), HLW, Lib.hid (fun i hi => by rcases (by omega : i < k ∨ i = k) with h | rfl; exact HZ7.out i h; exact HF1.out)⟩
                case measure => simp [intOf]; omega
        · have heq := heq.symm
          subst heq
          have hkt : ¬ (t : Int) < t := by omega
          have hw1 : IntKind.u64.wrap (n5 : Int) = n5 := by rw [IntKind.wrap_u64]; omega
          have hw2 : IntKind.u64.wrap ((n5 : Int) + 1) = n5 + 1 := by rw [IntKind.wrap_u64]; omega
          go_wp2_with fail
          refine (cMem HM5.out.c).mono ?_; rintro _ _ ⟨rfl, rfl⟩
          go_wp2_with fail
          refine (Mm.mwords _ _ _ _ _ _ _ _ HM5.out.c.mem).mono ?_; rintro _ wb ⟨g2, C3, rfl, hg2, hC3, hC4, hr2, hb⟩
          have HM6 := Lib.hid (HM5.out.below hb); have HL6 := Lib.hid (HL5.out.below hb)
          clear hb hg2 HM5 HL5 o0
          go_wp2_with fail
          refine (rclock hr2 (by omega)).mono ?_; rintro _ _ ⟨rfl, rfl⟩
          rw [HI5.out.f0, show ((n5 + 1 : Nat) : Int) = (n5 : Int) + 1 from by omega]
          go_wp2_with fail
          have hcf := HM6.out.c
          rw [HI5.out.ok.1, HI5.out.ok.2.1, HI5.out.ok.2.2] at hcf
          refine (cFault hcf).mono ?_; rintro _ wc ⟨rfl, hb⟩
          have HL7 := Lib.hid (HL6.out.below hb)
          clear hb hcf HM6 HL6
          go_wp2_with fail
          refine (lives25_calls _).mono ?_; rintro _ wd ⟨rfl, hb⟩
          have HB8 := Lib.hid (below_on HL7.out.bl hb)
          clear hb
          go_wp2_with fail
          (try go_ret)
          rw [HQ.out]
          exact ⟨rfl, HB8.out⟩
end Go.Proofs.YtmokniemmiomfaaGreat
