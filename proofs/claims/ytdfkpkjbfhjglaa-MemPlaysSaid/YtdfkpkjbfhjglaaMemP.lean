/- Layer 6: the walk of MemPlays. -/
import Derived.Test.YtdfkpkjbfhjglaaMemG
import Derived.Test.YtdfkpkjbfhjglaaMemN
import Derived.Deep.RegionWith
import Derived.Deep.CutRange
import Derived.Test.YtdfkpkjbfhjglaaMix
namespace Go.Proofs.Ytdfkpkjbfhjglaa
open Go.RowKit
set_option linter.unusedVariables false
set_option linter.unusedSimpArgs false

/-- The two memories, alike. -/
structure Both (w : World) (b g X gx n C CX : Nat) (f : Nat → Int) (acc : Int) (flt : Bool) : Prop where
  m : MemAt w b g n C f acc flt
  x0 : w.cell? ⟨X, 0, none⟩ = some (.slice (some ⟨gx, 0, none⟩) n CX)
  x1 : w.cell? ⟨X, 1, none⟩ = some (.int .i64 acc)
  x2 : w.cell? ⟨X, 2, none⟩ = some (.bool flt)
  xf : ∀ i, w.frozen? ⟨X, i, none⟩ = false
  r : RowAt w gx n f
  nC : n ≤ CX
  cC : CX ≤ 9223372036854775807
  Xb : X ≠ b
  Xg : X ≠ g
  Xx : X ≠ gx
  gb : gx ≠ b
  gg : gx ≠ g
theorem Both.lt {w : World} {b g X gx n C CX : Nat} {f : Nat → Int} {acc : Int} {flt : Bool} (h : Both w b g X gx n C CX f acc flt) : X < w.heap.size := World.block_lt_of_cell? w ⟨X, 0, none⟩ h.x0
theorem Both.below {w w' : World} {b g X gx n C CX : Nat} {f : Nat → Int} {acc : Int} {flt : Bool} (h : Both w b g X gx n C CX f acc flt) (k : Below w.heap.size w w') : Both w' b g X gx n C CX f acc flt where
  m := h.m.below k
  x0 := Ext.use (Ext.cells h.x0) k
  x1 := Ext.use (Ext.cells h.x1) k
  x2 := Ext.use (Ext.cells h.x2) k
  xf i := (k.frozen (p := ⟨X, i, none⟩) h.lt).trans (h.xf i)
  r := h.r.below k
  nC := h.nC
  cC := h.cC
  Xb := h.Xb
  Xg := h.Xg
  Xx := h.Xx
  gb := h.gb
  gg := h.gg

theorem OpCells.below3 {w w' : World} {b g' g off : Nat} {k a c is old x : Int} (h : OpCells w g off k a c is old x) (hO : Only b g' w w') (hb : g ≠ b ∧ g ≠ g') : OpCells w' g off k a c is old x := by
  obtain ⟨h0, h1, h2, h3, h4, h5, r⟩ := h
  exact ⟨hO.cell h0 hb.1 hb.2, hO.cell h1 hb.1 hb.2, hO.cell h2 hb.1 hb.2, hO.cell h3 hb.1 hb.2, hO.cell h4 hb.1 hb.2, hO.cell h5 hb.1 hb.2, r⟩
theorem drew_made {w w4 : World} {o : Obj} (hb : Below ((w.alloc o).drew).heap.size (w.alloc o).drew w4) : Below (w.alloc o).heap.size (w.alloc o) w4 := ((Below.refl _ _).drew).trans hb
/-- What region 13 leaves. -/
def Cut13 (w3 : World) (gx n : Nat) (nf : Nat → Int) (acc : Int) (flt : Bool) (tv : Int) (dv : Bool) (p10 v11 v12 : Value) (wc : World) : Prop :=
  ∃ Y g4 C4, p10 = .pointer (some ⟨Y, 0, none⟩) ∧ v11 = .int .u64 tv ∧ v12 = .bool dv ∧ wc.cell? ⟨Y, 0, none⟩ = some (.slice (some ⟨g4, 0, none⟩) n C4) ∧ wc.cell? ⟨Y, 1, none⟩ = some (.int .i64 acc) ∧ wc.cell? ⟨Y, 2, none⟩ = some (.bool flt) ∧
    RowAt wc g4 n nf ∧ n ≤ C4 ∧ C4 ≤ 9223372036854775807 ∧ (g4 = gx ∨ w3.heap.size ≤ g4) ∧ w3.heap.size ≤ Y ∧ Y ≠ g4 ∧ Below w3.heap.size w3 wc

theorem cut13_a {w3 w4 : World} {gx n g4 C4 : Nat} {nf : Nat → Int} {acc tv : Int} {flt dv : Bool} {T : TypeId} (r : RowAt w4 g4 n nf) (hb : Below w3.drew.heap.size w3.drew w4) (q : g4 = gx ∨ w3.drew.heap.size ≤ g4) (c : n ≤ C4) (d : C4 ≤ 9223372036854775807) :
    Cut13 w3 gx n nf acc flt tv dv (.pointer (some ⟨w4.heap.size, 0, none⟩)) (.int .u64 tv) (.bool dv) (w4.alloc (.cells #[.slice (some ⟨g4, 0, none⟩) n C4, .int .i64 acc, .bool flt] T)) := by
  have hb' : Below w3.heap.size w3 w4 := ((Below.refl _ _).drew).trans hb
  have hg := r.lt
  exact ⟨_, g4, C4, rfl, rfl, rfl, Ext.made_in rfl (Below.refl _ _) 0 _ rfl, Ext.made_in rfl (Below.refl _ _) 1 _ rfl, Ext.made_in rfl (Below.refl _ _) 2 _ rfl, r.below (below_new (Below.refl _ _) _), c, d, q, hb'.size, by omega, below_new hb' _⟩
theorem cut13_b {w3 w4 : World} {gx n g4 C4 : Nat} {nf : Nat → Int} {acc tv : Int} {flt dv : Bool} {o : Obj} {v0 v1 v2 : Value} (r : RowAt w4 g4 n nf) (hb : Below (w3.alloc o).drew.heap.size (w3.alloc o).drew w4) (q : g4 = gx ∨ (w3.alloc o).drew.heap.size ≤ g4) (hgx : gx < w3.heap.size) (c : n ≤ C4) (d : C4 ≤ 9223372036854775807)
    (y0 : w4.cell? ⟨w3.heap.size, 0, none⟩ = some v0) (y1 : w4.cell? ⟨w3.heap.size, 1, none⟩ = some v1) (y2 : w4.cell? ⟨w3.heap.size, 2, none⟩ = some v2) :
    Cut13 w3 gx n nf acc flt tv dv (.pointer (some ⟨w3.heap.size, 0, none⟩)) (.int .u64 tv) (.bool dv) (((w4.setCell ⟨w3.heap.size, 0, none⟩ (.slice (some ⟨g4, 0, none⟩) n C4)).setCell ⟨w3.heap.size, 1, none⟩ (.int .i64 acc)).setCell ⟨w3.heap.size, 2, none⟩ (.bool flt)) := by
  have hb' : Below w3.heap.size w3 w4 := ((((Below.refl _ _).alloc (Nat.le_refl _) o).drew).trans (hb.mono (by show w3.heap.size ≤ (w3.alloc o).heap.size; simp)))
  have hs : (w3.alloc o).drew.heap.size = w3.heap.size + 1 := by show (w3.alloc o).heap.size = _; simp
  have hne : g4 ≠ w3.heap.size := by rw [hs] at q; omega
  refine ⟨_, g4, C4, rfl, rfl, rfl, ?_, ?_, ?_, ((r.setOther hne _).setOther hne _).setOther hne _, c, d, by rw [hs] at q; omega, Nat.le_refl _, hne.symm, ?_⟩
  · exact scO (scO (scS y0) (by simp)) (by simp)
  · exact scO (scS (scO y1 (by simp))) (by simp)
  · exact scS (scO (scO y2 (by simp)) (by simp))
  · exact below_setB (below_setB (below_setB hb' (Nat.le_refl _) _) (Nat.le_refl _) _) (Nat.le_refl _) _
theorem MemAt.setOther {w : World} {b g n C c i : Nat} {f : Nat → Int} {acc : Int} {flt : Bool} (h : MemAt w b g n C f acc flt) (hb : b ≠ c) (hg : g ≠ c) (v : Value) : MemAt (w.setCell ⟨c, i, none⟩ v) b g n C f acc flt :=
  h.keep (by simp [World.setCell]) (Below.heap_setCell _ _ _ _ hb) (Below.heap_setCell _ _ _ _ hg)
/-- What region 15 leaves. -/
def Cut15 (w : World) (b g X gx n C CX : Nat) (f : Nat → Int) (acc : Int) (flt : Bool) (v : Value) (wc : World) : Prop := v = .bool false ∧ Both wc b g X gx n C CX f acc flt ∧ Below w.heap.size w wc

set_option maxHeartbeats 40000000 in
set_option maxRecDepth 100000 in
theorem memPlays_walk (v0 v1 : Value) (w : World) (s0 : Fr.ok1 w (.int .i64) v0) (s1 : Fr.ok1 w (.slice [.int .i64, .int .i64, .int .i64, .int .u64, .int .u64, .int .u64]) v1) :
    Calls Try.prog 3 #[v0, v1] w fun e w' => e = .returned (.bool true) ∧ Below w.heap.size w w' := by
  obtain ⟨m, rfl, wm⟩ := Fr.get_int s0
  obtain ⟨ao, len, cap, rfl, hlc, hcap, hops⟩ := ops_open s1
  have HOP := Lib.hid hops
  clear s0 s1 hops wm
  rcases (by omega : 60 < len ∨ (len ≤ 60 ∧ 200 < m ∧ m ≤ 4096) ∨ (len ≤ 60 ∧ m < 1) ∨ (len ≤ 60 ∧ 4096 < m) ∨ (len ≤ 60 ∧ 1 ≤ m ∧ m ≤ 200)) with j | ⟨j, j1, j2⟩ | ⟨j, j1⟩ | ⟨j, j1⟩ | ⟨j, j1, j2⟩
  · go_enter Try.func3, Try.ntmps3
    go_wp2_with fail
    refine (lives6_calls _).mono ?_; rintro _ w2 ⟨rfl, hb⟩
    go_wp2_with fail
    go_ret
    exact ⟨rfl, hb⟩
  · go_enter Try.func3, Try.ntmps3
    go_wp2_with fail
    refine (lives6_calls _).mono ?_; rintro _ w2 ⟨rfl, hb⟩
    go_wp2_with fail
    go_ret
    exact ⟨rfl, hb⟩
  · go_enter Try.func3, Try.ntmps3
    go_wp2_with fail
    refine (mnew_no m w (.inl j1)).mono ?_; rintro _ w1 ⟨rfl, rfl⟩
    go_wp2_with fail
    refine (rnew_no m _ (.inl j1)).mono ?_; rintro _ w1 ⟨rfl, hb⟩
    go_wp2_with fail
    refine (lives6_calls _).mono ?_; rintro _ w2 ⟨rfl, hb2⟩
    go_wp2_with fail
    go_ret
    exact ⟨rfl, below_on (below_new hb _) hb2⟩
  · go_enter Try.func3, Try.ntmps3
    go_wp2_with fail
    refine (mnew_no m w (.inr j1)).mono ?_; rintro _ w1 ⟨rfl, rfl⟩
    go_wp2_with fail
    refine (rnew_no m _ (.inr j1)).mono ?_; rintro _ w1 ⟨rfl, hb⟩
    go_wp2_with fail
    refine (lives6_calls _).mono ?_; rintro _ w2 ⟨rfl, hb2⟩
    go_wp2_with fail
    go_ret
    exact ⟨rfl, below_on (below_new hb _) hb2⟩
  · obtain ⟨n, rfl⟩ := Int.eq_ofNat_of_zero_le (show 0 ≤ m by omega)
    have n1 : 1 ≤ n := by omega
    have n2 : n ≤ 200 := by omega
    have hn0 : ((n : Int) == 0) = false := by rw [beq_eq_false_iff_ne]; omega
    go_enter Try.func3, Try.ntmps3
    go_wp2_with fail
    refine (mnew n w n1 (by omega)).mono ?_; rintro _ w1 ⟨b, g, rfl, hb, hg, hM, hB⟩
    have HM := Lib.hid hM
    have HBG := Lib.hid (And.intro hb hg)
    clear hM hb hg
    go_wp2_with fail
    refine (rnew n w1 n1 (by omega)).mono ?_; rintro _ w2 ⟨gx, rfl, hR, hgx, hb2⟩
    have HS := Lib.hid (show gx ≠ b ∧ gx ≠ g ∧ w.heap.size ≤ w2.heap.size by have := HM.out.bl; have := HM.out.gl; have := hB.size; have := hb2.size; omega)
    have HM := Lib.hid (HM.out.below hb2)
    have HR := Lib.hid hR
    have hB2 := below_on hB hb2
    clear hR hgx hb2 hB
    go_upto_region 5 with (fail)
    generalize hV : World.alloc w2 _ = V
    have hBV : Below w.heap.size w V := by rw [← hV]; (repeat (first | exact Below.refl _ _ | assumption | refine below_new ?_ _ | refine Below.drew ?_ | refine below_drewN ?_ _ | refine below_on ?_ (by assumption)))
    have hw2V : Below w2.heap.size w2 V := by rw [← hV]; (repeat (first | exact Below.refl _ _ | assumption | refine below_new ?_ _ | refine Below.drew ?_ | refine below_drewN ?_ _ | refine below_on ?_ (by assumption)))
    have q0 : V.cell? ⟨w2.heap.size, 0, none⟩ = some (.slice (some ⟨gx, 0, none⟩) n n) := Ext.made_in hV (Below.refl _ _) 0 _ rfl
    have q1 : V.cell? ⟨w2.heap.size, 1, none⟩ = some (.int .i64 0) := Ext.made_in hV (Below.refl _ _) 1 _ rfl
    have q2 : V.cell? ⟨w2.heap.size, 2, none⟩ = some (.bool false) := Ext.made_in hV (Below.refl _ _) 2 _ rfl
    have qf : ∀ i, V.frozen? ⟨w2.heap.size, i, none⟩ = false := Ext.made_fr hV (Below.refl _ _)
    have hlt := And.intro HM.out.bl (And.intro HM.out.gl HR.out.lt)
    have HBo := Lib.hid (show Both V b g w2.heap.size gx n n n (fun _ => 0) 0 false from ⟨HM.out.below hw2V, q0, q1, q2, qf, HR.out.below hw2V, Nat.le_refl _, by omega, by omega, by omega, by omega, HS.out.1, HS.out.2.1⟩)
    have HX := Lib.hid (show w.heap.size ≤ w2.heap.size from HS.out.2.2)
    clear hV hw2V hlt HM HR HS hB2 qf
    generalize w2.heap.size = X at *
    go_wp2_with fail
    have HBV := Lib.hid hBV
    clear hBV q0 q1 q2
    go_loopw [7] (fun iv wr => ∃ i : Nat, i ≤ len ∧ iv = .int .i64 i ∧ ∃ (gx C CX : Nat) (f : Nat → Int) (acc : Int) (flt : Bool), Both wr b g X gx n C CX f acc flt ∧ 0 ≤ acc ∧ acc ≤ i ∧ Below w.heap.size w wr)
      (fun iv _ => len - (intOf iv).toNat)
    case atStart => exact ⟨0, Nat.zero_le _, rfl, _, _, _, _, _, _, HBo.out, by omega, by omega, HBV.out⟩
    case round =>
      clear HBo HBV
      obtain ⟨i, hi, rfl, gx, C, CX, f, acc, flt, hBo, ha0, ha1, hbel⟩ := hrel
      have HBo := Lib.hid hBo
      clear hBo
      rcases (by omega : i < len ∨ len ≤ i) with hlt | hge
      · obtain ⟨go, off, rfl, k', a', c', is', old', x', hop⟩ := HOP.out i hlt
        have hop0 := hop
        have hop := hop.below hbel
        have HC := Lib.hid hop
        have hGO : go ≠ b ∧ go ≠ g := by have := HBG.out; have := World.block_lt_of_cell? w ⟨go, off + i * 6, none⟩ hop0.1; simp at this; omega
        obtain ⟨h0, h1, h2, h3, h4, h5, _, _, h6⟩ := hop
        have H6 := Lib.hid h6
        clear h6 hop0
        go_wp2_with fail
        refine (mdo b g n C f acc k' a' c' is' old' x' flt wr HBo.out.m ha0 (by omega) H6.out.1 H6.out.2).mono ?_; rintro _ w3 ⟨rfl, hM3, hO⟩
        have hbel3 := hbel.trans (hO.below HBG.out.1 HBG.out.2 hbel.size)
        have HM3 := Lib.hid hM3
        have x0 := hO.cell HBo.out.x0 HBo.out.Xb HBo.out.Xg; have x1 := hO.cell HBo.out.x1 HBo.out.Xb HBo.out.Xg; have x2 := hO.cell HBo.out.x2 HBo.out.Xb HBo.out.Xg
        have HR := Lib.hid (HBo.out.r.only hO HBo.out.gb HBo.out.gg)
        clear h0 h1 h2 h3 h4 h5 hM3
        go_upto_region 13 with (fail)
        have hba : ∀ o, Below w3.heap.size w3 (w3.alloc o).drew := fun o => by (repeat (first | exact Below.refl _ _ | assumption | refine below_new ?_ _ | refine Below.drew ?_ | refine below_drewN ?_ _ | refine below_on ?_ (by assumption)))
        obtain ⟨h0, h1, h2, h3, h4, h5, _, _, _⟩ := HC.out.below3 hO hGO
        have HRd := Lib.hid (HR.out.below (show Below w3.heap.size w3 w3.drew by (repeat (first | exact Below.refl _ _ | assumption | refine below_new ?_ _ | refine Below.drew ?_ | refine below_drewN ?_ _ | refine below_on ?_ (by assumption)))))
        have HRa := Lib.hid (fun o => HR.out.below (hba o))
        have HRNG := Lib.hid HBo.out.m.rng
        have HBN := Lib.hid (And.intro HBo.out.nC HBo.out.cC)
        have HBA := Lib.hid hba
        have hXl : X < w3.heap.size := World.block_lt_of_cell? w3 ⟨X, 0, none⟩ x0
        have hgl : go < w3.heap.size := World.block_lt_of_cell? w3 ⟨go, off + i * 6, none⟩ h0
        have XF := Lib.hid (show ∀ i, w3.frozen? ⟨X, i, none⟩ = false from fun i => (World.frozen?_of_block (w := wr) (a := ⟨X, i, none⟩) (hO.block X HBo.out.lt HBo.out.Xb HBo.out.Xg)).trans (HBo.out.xf i))
        have X0 := Lib.hid x0; have X1 := Lib.hid x1; have X2 := Lib.hid x2
        clear hO hba
        go_cut [10, 11, 12] from 39 to 94 (fun p10 v11 v12 wc => Cut13 w3 gx n (nextD n f k' a' c' is' old' x') (acc + 1) (flt || !okD n k' a' c') (toldD n f k' a') (doneD n f k' a' c' is' old') p10 v11 v12 wc)
        case first =>
          go_region_with (first
            | (go_at_call 11; (with_reducible refine (rdo gx n CX f acc k' a' c' is' old' x' flt w3.drew HRd.out n1 (by omega) HBN.out.1 HBN.out.2 ha0 (by omega) HRNG.out H6.out.1 H6.out.2).mono ?_); rintro _ w4 ⟨g4, C4, q4, rfl, r4, c4, d4, b4⟩; have R4 := Lib.hid r4; have B4 := Lib.hid b4; have Q4 := Lib.hid q4; clear r4 b4 q4)
            | (go_at_call 11; (with_reducible refine (rdo gx n CX f acc k' a' c' is' old' x' flt _ (HRa.out _) n1 (by omega) HBN.out.1 HBN.out.2 ha0 (by omega) HRNG.out H6.out.1 H6.out.2).mono ?_); rintro _ w4 ⟨g4, C4, q4, rfl, r4, c4, d4, b4⟩; have yc0 : w4.cell? ⟨w3.heap.size, 0, none⟩ = some (.slice none 0 0) := Ext.made_in rfl (drew_made b4) 0 _ rfl; have yc1 : w4.cell? ⟨w3.heap.size, 1, none⟩ = some (.int .i64 0) := Ext.made_in rfl (drew_made b4) 1 _ rfl; have yc2 : w4.cell? ⟨w3.heap.size, 2, none⟩ = some (.bool false) := Ext.made_in rfl (drew_made b4) 2 _ rfl; have yf := Ext.made_fr rfl (drew_made b4); have R4 := Lib.hid r4; have B4 := Lib.hid b4; have Q4 := Lib.hid q4; clear r4 b4 q4))
          all_goals
            go_wp2_with fail
            go_meet
            case rel => first | (with_reducible exact cut13_a R4.out B4.out Q4.out c4 d4) | (with_reducible exact cut13_b R4.out B4.out Q4.out HR.out.lt c4 d4 yc0 yc1 yc2)
        case rest =>
          obtain ⟨Y, g4, C4, rfl, rfl, rfl, y0, y1, y2, r4, c4, d4, q4, yge, yne, hb⟩ := hcut
          have xc0 := Ext.use (Ext.cells X0.out) hb; have xc1 := Ext.use (Ext.cells X1.out) hb; have xc2 := Ext.use (Ext.cells X2.out) hb
          have xfc : ∀ i, wc.frozen? ⟨X, i, none⟩ = false := fun i => (hb.frozen (p := ⟨X, i, none⟩) hXl).trans (XF.out i)
          have HMc := Lib.hid (HM3.out.below hb)
          have HR4 := Lib.hid r4
          have hbc := below_on hbel3 hb
          have HQ4 := Lib.hid (show g4 ≠ b ∧ g4 ≠ g ∧ g4 ≠ X by
            have := HM3.out.bl; have := HM3.out.gl; have := HBo.out.gb; have := HBo.out.gg; have := HBo.out.Xx
            rcases q4 with rfl | q4 <;> omega)
          have hXY : X ≠ Y := by omega
          have hYX := hXY.symm
          clear hb r4 q4 yne yge x0 x1 x2 h0 h1 h2 h3 h4 h5 hgl hbel hbel3
          go_upto_region 15 with (fail)
          generalize hV : World.setCell (World.setCell (World.setCell wc _ _) _ _) _ _ = V
          have hBV : Both V b g X g4 n C C4 (nextD n f k' a' c' is' old' x') (acc + 1) (flt || !okD n k' a' c') := by
            rw [← hV]
            have e1 := HBo.out.Xb.symm; have e2 := HBo.out.Xg.symm
            refine ⟨((HMc.out.setOther e1 e2 _).setOther e1 e2 _).setOther e1 e2 _, scO (scO (scS xc0) (by simp)) (by simp), scO (scS (scO xc1 (by simp))) (by simp), scS (scO (scO xc2 (by simp)) (by simp)), fun i => scF (scF (scF (xfc i))),
              ((HR4.out.setOther HQ4.out.2.2 _).setOther HQ4.out.2.2 _).setOther HQ4.out.2.2 _, c4, d4, HBo.out.Xb, HBo.out.Xg, HQ4.out.2.2.symm, HQ4.out.1, HQ4.out.2.1⟩
          have hBeV : Below w.heap.size w V := by
            rw [← hV]
            exact below_setB (below_setB (below_setB hbc HX.out _) HX.out _) HX.out _
          clear hV xc0 xc1 xc2 xfc HMc HR4 HQ4 y0 y1 y2 hbc X0 X1 X2 XF HM3 HR HRd HRa HBN HRNG HBo H6 HC hGO hXY hYX hXl c4 d4
          generalize toldD n f k' a' = tv at *
          generalize doneD n f k' a' c' is' old' = dv at *
          generalize nextD n f k' a' c' is' old' x' = nf at *
          generalize (flt || !okD n k' a' c') = fl at *
          have HBV := Lib.hid hBV
          have HBe := Lib.hid hBeV
          have z0 : ∀ x : Ext V, x.w.cell? ⟨X, 0, none⟩ = some (.slice (some ⟨g4, 0, none⟩) n C4) := Ext.cells hBV.x0
          have z1 : ∀ x : Ext V, x.w.cell? ⟨X, 1, none⟩ = some (.int .i64 (acc + 1)) := Ext.cells hBV.x1
          have z2 : ∀ x : Ext V, x.w.cell? ⟨X, 2, none⟩ = some (.bool fl) := Ext.cells hBV.x2
          clear hBV hBeV
          go_cut [94] from 39 to 94 (fun v94 wc => Cut15 w b g X g4 n C C4 nf (acc + 1) fl v94 wc)
          case first =>
            (with_reducible refine wp_region_mix (fun w' => ∃ x : Ext V, w' = x.w) ?_ ?_ ?_ ?_; kernel_rfl; kernel_rfl; exact ⟨⟨V.drew, (Below.refl _ _).drew⟩, rfl⟩)
            repeat (first | ((with_reducible refine mix_plain (by kernel_rfl) ?_); (first | go_big_quiet_skip | (go_big_quiet_want; go_big_quiet_op; go_big_quiet_on)); (with_reducible refine mix_on ?_)) | ((with_reducible refine mix_skip (by kernel_rfl) ?_); go_big_quiet_skip; (with_reducible refine mix_on ?_)))
            ((with_reducible refine wpMix_chain (by kernel_rfl) (by kernel_rfl) (fun K HK => ?_)); go_step)
            refine (mwords b g n C nf (acc + 1) fl V.drew (HBV.out.below (show Below V.heap.size V V.drew by (repeat (first | exact Below.refl _ _ | assumption | refine below_new ?_ _ | refine Below.drew ?_ | refine below_drewN ?_ _ | refine below_on ?_ (by assumption))))).m).mono ?_; rintro _ w6 ⟨g6, C6, rfl, e1, e2, e3, e4, hb6⟩
            have H6 := Lib.hid e4
            have hb6 : Below V.heap.size V w6 := below_on (show Below V.heap.size V V.drew by (repeat (first | exact Below.refl _ _ | assumption | refine below_new ?_ _ | refine Below.drew ?_ | refine below_drewN ?_ _ | refine below_on ?_ (by assumption)))) hb6
            refine HK.out _ _ ⟨⟨w6, hb6⟩, rfl⟩ ?_
            have HB6 := Lib.hid (HBV.out.below hb6)
            clear HK K e4 e1
            repeat (first | ((with_reducible refine mix_plain (by kernel_rfl) ?_); (first | go_big_quiet_skip | (go_big_quiet_want; go_big_quiet_op; go_big_quiet_on)); (with_reducible refine mix_on ?_)) | ((with_reducible refine mix_skip (by kernel_rfl) ?_); go_big_quiet_skip; (with_reducible refine mix_on ?_)))
            ((with_reducible refine wpMix_chain (by kernel_rfl) (by kernel_rfl) (fun K HK => ?_)); go_step)
            refine (msame' g6 C6 g4 C4 n nf w6 (by omega) e2 HB6.out.nC e3 HB6.out.cC H6.out HB6.out.r).mono ?_; rintro _ w7 ⟨rfl, hb7⟩
            have hb7 : Below V.heap.size V w7 := below_on hb6 hb7
            refine HK.out _ _ ⟨⟨w7, hb7⟩, rfl⟩ ?_
            have HB7 := Lib.hid (HBV.out.below hb7)
            clear HK K hb6 H6 e2 e3
            repeat (first | ((with_reducible refine mix_plain (by kernel_rfl) ?_); (first | go_big_quiet_skip | (go_big_quiet_want; go_big_quiet_op; go_big_quiet_on)); (with_reducible refine mix_on ?_)) | ((with_reducible refine mix_skip (by kernel_rfl) ?_); go_big_quiet_skip; (with_reducible refine mix_on ?_)))
            ((with_reducible refine wpMix_chain (by kernel_rfl) (by kernel_rfl) (fun K HK => ?_)); go_step)
            refine (maccs b g n C nf (acc + 1) fl w7 HB7.out.m).mono ?_; rintro _ _ ⟨rfl, rfl⟩
            refine HK.out _ _ ⟨⟨_, hb7⟩, rfl⟩ ?_
            clear HK K
            repeat (first | ((with_reducible refine mix_plain (by kernel_rfl) ?_); (first | go_big_quiet_skip | (go_big_quiet_want; go_big_quiet_op; go_big_quiet_on)); (with_reducible refine mix_on ?_)) | ((with_reducible refine mix_skip (by kernel_rfl) ?_); go_big_quiet_skip; (with_reducible refine mix_on ?_)))
            ((with_reducible refine wpMix_chain (by kernel_rfl) (by kernel_rfl) (fun K HK => ?_)); go_step)
            refine (mfault b g n C nf (acc + 1) fl w7 HB7.out.m).mono ?_; rintro _ _ ⟨rfl, rfl⟩
            refine HK.out _ _ ⟨⟨_, hb7⟩, rfl⟩ ?_
            clear HK K
            repeat (first | ((with_reducible refine mix_plain (by kernel_rfl) ?_); (first | go_big_quiet_skip | (go_big_quiet_want; go_big_quiet_op; go_big_quiet_on)); (with_reducible refine mix_on ?_)) | ((with_reducible refine mix_skip (by kernel_rfl) ?_); go_big_quiet_skip; (with_reducible refine mix_on ?_)))
            refine wpMix_nil ?_
            have HBf := Lib.hid (below_on HBe.out hb7)
            clear z0 z1 z2 hb7
            go_wp2_with fail
            go_meet
            case rel => exact ⟨by simp, HB7.out, HBf.out⟩
          case rest =>
            obtain ⟨rfl, hBo, hBe⟩ := hcut
            have HBo := Lib.hid hBo
            clear hBo z0 z1 z2
            go_wp2_with fail
            go_roundw
            case rel => exact ⟨i + 1, by omega, by go_num, _, _, _, _, acc + 1, _, HBo.out, by omega, by omega, hBe⟩
            case measure => simp [intOf]; omega
      · go_wp2_with fail
        refine (lives6_calls _).mono ?_; rintro _ w3 ⟨rfl, hb3⟩
        go_wp2_with fail
        go_ret
        exact ⟨by simp, below_on hbel hb3⟩
end Go.Proofs.Ytdfkpkjbfhjglaa
