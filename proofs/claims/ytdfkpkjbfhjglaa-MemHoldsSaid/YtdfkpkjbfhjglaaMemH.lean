/- Layer 6: the walk of MemHolds. -/
import Derived.Test.YtdfkpkjbfhjglaaMemW
import Derived.Deep.RegionWith
import Derived.Deep.CutRange
import Derived.Test.YtdfkpkjbfhjglaaMix
namespace Go.Proofs.Ytdfkpkjbfhjglaa
open Go.RowKit
set_option linter.unusedVariables false
set_option linter.unusedSimpArgs false

/-- What stands behind a drawn region that asks the memory: its condition is no, the words are f. -/
def CutH (w0 W : World) (b g n C gw : Nat) (f fw : Nat → Int) (top : Int) (v : Value) (wc : World) : Prop :=
  v = .bool false ∧ ∃ acc flt, MemAt wc b g n C f acc flt ∧ 0 ≤ acc ∧ acc ≤ top ∧ RowAt wc gw n fw ∧ Below W.heap.size W wc ∧ Below w0.heap.size w0 wc

/-- The worlds that differ from W in two blocks at most. -/
structure OnlyX (W : World) (b g : Nat) where
  w : World
  h : Only b g W w
instance (W : World) (b g : Nat) : Nonempty (OnlyX W b g) := ⟨⟨W, Only.refl _ _ _⟩⟩
def CutM (w5 : World) (b g C : Nat) (f' : Nat → Int) (v : Value) (wc : World) : Prop := v = .bool false ∧ (∃ acc flt, MemAt wc b g 40 C f' acc flt) ∧ Only b g w5 wc
set_option maxHeartbeats 40000000 in
set_option maxRecDepth 100000 in
theorem memHolds_walk (v0 v1 v2 : Value) (w : World) (s0 : Fr.ok1 w (.slice [.int .i64, .int .i64, .int .i64, .int .u64, .int .u64, .int .u64]) v0) (s1 : Fr.okN w [.int .i64, .int .i64, .int .i64, .int .u64, .int .u64, .int .u64] v1) (s2 : Fr.ok1 w (.int .i64) v2) :
    Calls Try.prog 6 #[v0, v1, v2] w fun e w' => e = .returned (.bool true) ∧ Below w.heap.size w w' := by
  obtain ⟨q, rfl, wq⟩ := Fr.get_int s2
  obtain ⟨ao, len, cap, rfl, hlc, hcap, hops⟩ := ops_open s0
  obtain ⟨cs, rfl, hcs⟩ := s1
  obtain ⟨k, a, c, is, old, x, rfl, r1, r2, r3⟩ := op_cells hcs
  have HXR := Lib.hid (And.intro r1 (And.intro r2 r3))
  have HOPS := Lib.hid hops
  clear s0 s2 hcs hops r1 r2 r3 wq
  show Calls Try.prog _ #[_, .agg #[.int .i64 k, .int .i64 a, .int .i64 c, .int .u64 is, .int .u64 old, .int .u64 x], _] w _
  go_enter Try.func6, Try.ntmps6
  go_wp2_with fail
  generalize hW : World.alloc w _ = W
  have hBW : Below w.heap.size w W := by rw [← hW]; (repeat (first | exact Below.refl _ _ | assumption | refine below_new ?_ _ | refine Below.drew ?_ | refine below_drewN ?_ _ | refine below_on ?_ (by assumption)))
  have o0 : W.cell? ⟨w.heap.size, 0, none⟩ = some (.int .i64 k) := Ext.made_in hW (Below.refl _ _) 0 _ rfl
  have o1 : W.cell? ⟨w.heap.size, 1, none⟩ = some (.int .i64 a) := Ext.made_in hW (Below.refl _ _) 1 _ rfl
  have o3 : W.cell? ⟨w.heap.size, 3, none⟩ = some (.int .u64 is) := Ext.made_in hW (Below.refl _ _) 3 _ rfl
  have o4 : W.cell? ⟨w.heap.size, 4, none⟩ = some (.int .u64 old) := Ext.made_in hW (Below.refl _ _) 4 _ rfl
  have o5 : W.cell? ⟨w.heap.size, 5, none⟩ = some (.int .u64 x) := Ext.made_in hW (Below.refl _ _) 5 _ rfl
  clear hW
  refine (mnew 40 W (by omega) (by omega)).mono ?_; rintro _ w1 ⟨b, g, rfl, hb, hg, hM, hB⟩
  have HM := Lib.hid hM
  have Hb := Lib.hid hb; have Hg := Lib.hid hg
  have HBW := Lib.hid hBW
  clear hM hb hg
  rcases (by omega : 60 < len ∨ len ≤ 60) with j | j
  · go_wp2_with fail
    refine (lives6_calls _).mono ?_; rintro _ w2 ⟨rfl, hb2⟩
    go_wp2_with fail
    go_ret
    exact ⟨rfl, below_on (below_on hBW hB) hb2⟩
  · go_wp2_with fail
    have HB := Lib.hid hB
    clear hB hBW
    go_loopw [8] (fun iv wr => ∃ i : Nat, i ≤ len ∧ iv = .int .i64 i ∧ ∃ (f : Nat → Int) (acc : Int) (flt : Bool) (C : Nat), MemAt wr b g 40 C f acc flt ∧ 0 ≤ acc ∧ acc ≤ i ∧ Below W.heap.size W wr)
      (fun iv _ => len - (intOf iv).toNat)
    case atStart => exact ⟨0, Nat.zero_le _, rfl, _, 0, false, 40, HM.out, by omega, by omega, HB.out⟩
    case round =>
      obtain ⟨i, hi, rfl, f, acc, flt, C, hM, ha0, ha1, hbel⟩ := hrel
      have HM := Lib.hid hM
      clear hM HB
      rcases (by omega : i < len ∨ len ≤ i) with hlt | hge
      · obtain ⟨go, off, rfl, k', a', c', is', old', x', hop⟩ := HOPS.out i hlt
        obtain ⟨h0, h1, h2, h3, h4, h5, _, _, h6⟩ := hop.below (below_on HBW.out hbel)
        go_wp2_with fail
        refine (mdo b g 40 C f acc k' a' c' is' old' x' flt wr HM.out ha0 (by omega) h6.1 h6.2).mono ?_; rintro _ w3 ⟨rfl, hM3, hO⟩
        have hbel3 := hbel.trans (hO.below Hb.out Hg.out hbel.size)
        have HM3 := Lib.hid hM3
        clear hM3 hO h0 h1 h2 h3 h4 h5 hop
        go_wp2_with fail
        go_roundw
        case rel => exact ⟨i + 1, by omega, by go_num, _, acc + 1, _, C, HM3.out, by omega, by omega, hbel3⟩
        case measure => simp [intOf]; omega
      · have o0 := Ext.use (Ext.cells o0) hbel; have o1 := Ext.use (Ext.cells o1) hbel; have o3 := Ext.use (Ext.cells o3) hbel; have o4 := Ext.use (Ext.cells o4) hbel; have o5 := Ext.use (Ext.cells o5) hbel
        go_wp2_with fail
        refine (mwords b g 40 C f acc flt wr HM.out).mono ?_; rintro _ w2 ⟨gw, Cw, rfl, e1, e2, e3, e4, hb2⟩
        have o0 := Ext.use (Ext.cells o0) hb2; have o1 := Ext.use (Ext.cells o1) hb2; have o3 := Ext.use (Ext.cells o3) hb2; have o4 := Ext.use (Ext.cells o4) hb2; have o5 := Ext.use (Ext.cells o5) hb2
        have HGW := Lib.hid (show gw ≠ b ∧ gw ≠ g by have := HM.out.bl; have := HM.out.gl; omega)
        have HM := Lib.hid (HM.out.below hb2)
        have HR := Lib.hid e4
        have hbel2 := below_on hbel hb2
        clear hb2 e4 e1 hbel
        rcases (by omega : a < 0 ∨ (0 ≤ a ∧ 39 < a) ∨ (0 ≤ a ∧ a ≤ 39 ∧ q < 0) ∨ (0 ≤ a ∧ a ≤ 39 ∧ 0 ≤ q ∧ 39 < q) ∨ (0 ≤ a ∧ a ≤ 39 ∧ 0 ≤ q ∧ q ≤ 39)) with t | ⟨t, t'⟩ | ⟨t, t', u⟩ | ⟨t, t', u, u'⟩ | ⟨t, t', u, u'⟩
        · go_wp2_with fail
          refine (lives6_calls _).mono ?_; rintro _ w3 ⟨rfl, hb3⟩
          go_wp2_with fail
          go_ret
          exact ⟨by simp, below_on (below_on HBW.out hbel2) hb3⟩
        · go_wp2_with fail
          refine (lives6_calls _).mono ?_; rintro _ w3 ⟨rfl, hb3⟩
          go_wp2_with fail
          go_ret
          exact ⟨by simp, below_on (below_on HBW.out hbel2) hb3⟩
        · go_wp2_with fail
          refine (lives6_calls _).mono ?_; rintro _ w3 ⟨rfl, hb3⟩
          go_wp2_with fail
          go_ret
          exact ⟨by simp, below_on (below_on HBW.out hbel2) hb3⟩
        · go_wp2_with fail
          refine (lives6_calls _).mono ?_; rintro _ w3 ⟨rfl, hb3⟩
          go_wp2_with fail
          go_ret
          exact ⟨by simp, below_on (below_on HBW.out hbel2) hb3⟩
        · obtain ⟨an, rfl⟩ := Int.eq_ofNat_of_zero_le t
          obtain ⟨qn, rfl⟩ := Int.eq_ofNat_of_zero_le u
          have han : an < 40 := by omega
          have hqn : qn < 40 := by omega
          go_wp2_with fail
          refine (mload b g 40 C f acc qn flt w2 HM.out ha0 (by omega)).mono ?_; rintro _ w3 ⟨rfl, hM3, hO⟩
          have hOW : w.heap.size ≠ b ∧ w.heap.size ≠ g := by
            have := Hb.out; have := Hg.out; have := World.block_lt_of_cell? W ⟨w.heap.size, 0, none⟩ (by assumption); simp at this; omega
          have o0 := hO.cell o0 hOW.1 hOW.2; have o1 := hO.cell o1 hOW.1 hOW.2; have o3 := hO.cell o3 hOW.1 hOW.2; have o4 := hO.cell o4 hOW.1 hOW.2; have o5 := hO.cell o5 hOW.1 hOW.2
          have HR := Lib.hid (HR.out.only hO HGW.out.1 HGW.out.2)
          have hbel3 := hbel2.trans (hO.below Hb.out Hg.out hbel2.size)
          have hq1 : okA 40 qn = true := decide_eq_true ⟨by omega, by omega⟩
          have eq1 : ldI 40 f qn = f qn := by unfold ldI; rw [hq1]; simp
          rw [eq1]
          have HM := Lib.hid hM3
          clear hM3 hO eq1 hq1 hbel2 t t' u u'
          have hf : (okA 40 qn && okA 40 an && f (Int.toNat qn) == addI (f qn) 1 && f (Int.toNat an) == f an) = false := by
            have r := HM.out.rng qn hqn
            have : (f qn == addI (f qn) 1) = false := by
              rw [beq_eq_false_iff_ne]; unfold addI; rw [IntKind.wrap_u64]; omega
            simp [this]
          have xr := HXR.out.2.2
          have xr0 := xr.1; have xr1 := xr.2
          have HD : Hid (∀ y : MW w3 b g 40 C f, Calls Try.prog 19 #[.pointer (some ⟨b, 0, none⟩), .int .i64 qn, .int .u64 (IntKind.u64.wrap (f qn + 1)), .int .i64 an, .int .u64 (f an), .int .u64 x] y.w fun e w' => e = .returned (.bool false) ∧ ∃ z : MW w3 b g 40 C f, w' = z.w) := fun y => mw_dcss y qn _ an _ x hf xr0 xr1
          have ha1 : okA 40 an = true := decide_eq_true ⟨by omega, by omega⟩
          have HL : Hid (∀ y : MW w3 b g 40 C f, Calls Try.prog 18 #[.pointer (some ⟨b, 0, none⟩), .int .i64 an] y.w fun e w' => e = .returned (.int .u64 (f an)) ∧ ∃ z : MW w3 b g 40 C f, w' = z.w) := fun y => by
            have := mw_load y (an : Int)
            rwa [show ldI 40 f an = f an by unfold ldI; rw [ha1]; simp] at this
          have x0 : MW w3 b g 40 C f := ⟨w3, Only.refl _ _ _, _, _, HM.out⟩
          haveI : Nonempty (MW w3 b g 40 C f) := ⟨x0⟩
          have p1 : ∀ y : MW w3 b g 40 C f, y.w.cell? ⟨w.heap.size, 1, none⟩ = some (.int .i64 an) := MW.cells o1 hOW.1 hOW.2
          have p5 : ∀ y : MW w3 b g 40 C f, y.w.cell? ⟨w.heap.size, 5, none⟩ = some (.int .u64 x) := MW.cells o5 hOW.1 hOW.2
          have p6 : ∀ y : MW w3 b g 40 C f, y.w.cell? ⟨gw, an, none⟩ = some (.int .u64 (f an)) := MW.cells (HR.out.row an han) HGW.out.1 HGW.out.2
          have O1 := Lib.hid o1; have O3 := Lib.hid o3; have O4 := Lib.hid o4; have O5 := Lib.hid o5
          have HF := Lib.hid hf; have HA1 := Lib.hid ha1
          clear o0 o1 o3 o4 o5 hf ha1 xr xr0 xr1
          go_upto_region 12 with (fail)
          obtain ⟨y0, hy0⟩ : ∃ y : MW w3 b g 40 C f, y.w = w3 := ⟨⟨w3, Only.refl _ _ _, _, _, HM.out⟩, rfl⟩
          rw [← hy0]; clear hy0
          (with_reducible refine mw_region _ ?_ ?_ ?_; kernel_rfl; kernel_rfl; (repeat (go_big_quiet_step (first | (go_at_call 19; exact HD.out _) | (go_at_call 18; exact HL.out _)))); refine wpQuiet_nil ?_; rintro _ ⟨y1, rfl⟩)
          have hgw : gw < w3.heap.size := HR.out.lt
          obtain ⟨acc4, flt4, hM4⟩ := y1.m
          have HM := Lib.hid hM4
          have hO4 := y1.h
          have hbel4 := hbel3.trans (hO4.below Hb.out Hg.out hbel3.size)
          have p0 := hO4.cell O1.out hOW.1 hOW.2; have p3 := hO4.cell O3.out hOW.1 hOW.2; have p4 := hO4.cell O4.out hOW.1 hOW.2; have p5 := hO4.cell O5.out hOW.1 hOW.2
          have HR := Lib.hid (HR.out.only hO4 HGW.out.1 HGW.out.2)
          clear p1 p6 hO4 hM4 O1 O3 O4 O5 hbel3 HD HL HF hgw
          generalize y1.w = w4 at *
          have p1 := p0
          clear p0
          go_wp2_with fail
          have xr := HXR.out.2.2
          refine (mcasw b g 40 C f acc4 an old x flt4 w4 HM.out xr.1 xr.2).mono ?_; rintro _ w5 ⟨rfl, ⟨acc5, hM5⟩, hO⟩
          have HR := Lib.hid (HR.out.only hO HGW.out.1 HGW.out.2)
          have p1 := hO.cell p1 hOW.1 hOW.2; have p3 := hO.cell p3 hOW.1 hOW.2; have p4 := hO.cell p4 hOW.1 hOW.2; have p5 := hO.cell p5 hOW.1 hOW.2
          have hbel5 := hbel4.trans (hO.below Hb.out Hg.out hbel4.size)
          have hv : (okA 40 an && f (Int.toNat an) == old) = (f an == old) := by rw [HA1.out]; simp
          rw [hv] at hM5 ⊢
          generalize hdn : (f an == old) = dn at *
          have HDN := Lib.hid hdn
          clear hdn
          obtain ⟨f', hf'⟩ : ∃ f', f' = (if dn = true then upd f (Int.toNat an) x else f) := ⟨_, rfl⟩
          rw [← hf'] at hM5
          have HM := Lib.hid hM5
          have HF' := Lib.hid hf'
          clear hM5 hf' hv hO xr hbel4
          have ra := HR.out.row an han
          generalize (flt4 || !okA 40 an) = flt5 at *
          have HRA := Lib.hid ra
          clear ra
          go_upto_region 15 with (fail)
          go_cut [125] from 103 to 125 (fun v wc => CutM w5 b g C f' v wc)
          case first =>
            have q1 : ∀ y : MW w5 b g 40 C f', y.w.cell? ⟨w.heap.size, 1, none⟩ = some (.int .i64 an) := MW.cells p1 hOW.1 hOW.2
            have q4 : ∀ y : MW w5 b g 40 C f', y.w.cell? ⟨w.heap.size, 4, none⟩ = some (.int .u64 old) := MW.cells p4 hOW.1 hOW.2
            have q6 : ∀ y : MW w5 b g 40 C f', y.w.cell? ⟨gw, an, none⟩ = some (.int .u64 (f an)) := MW.cells HRA.out HGW.out.1 HGW.out.2
            haveI : Nonempty (MW w5 b g 40 C f') := ⟨⟨w5, Only.refl _ _ _, _, _, HM.out⟩⟩
            obtain ⟨y0, hy0⟩ : ∃ y : MW w5 b g 40 C f', y.w = w5 := ⟨⟨w5, Only.refl _ _ _, _, _, HM.out⟩, rfl⟩
            have hqq : qn = an ∨ (qn ≠ an ∧ Hid (∀ y : MW w5 b g 40 C f', Calls Try.prog 18 #[.pointer (some ⟨b, 0, none⟩), .int .i64 qn] y.w fun e w' => e = .returned (.int .u64 (f qn)) ∧ ∃ z : MW w5 b g 40 C f', w' = z.w)) := by
              by_cases e : qn = an
              · exact .inl e
              · refine .inr ⟨e, fun y => ?_⟩
                have h1 := mw_load y (qn : Int)
                have h2 : ldI 40 f' qn = f qn := by
                  unfold ldI
                  rw [show okA 40 qn = true from decide_eq_true ⟨by omega, by omega⟩, HF'.out]
                  cases dn <;> simp [upd, e]
                rwa [h2] at h1
            clear p1 p3 p4 p5
            rw [← hy0]; clear hy0
            rcases hqq with rfl | ⟨hne, HL⟩
            · have hdn := HDN.out
              cases dn
              all_goals
                (with_reducible refine mw_region _ ?_ ?_ ?_; kernel_rfl; kernel_rfl; (repeat (go_big_quiet_step (fail))); refine wpQuiet_nil ?_; rintro _ ⟨y1, rfl⟩)
                go_wp2_with fail
                go_meet
                case rel => exact ⟨by simp, y1.m, y1.h⟩
            · have z1 : ((qn : Int) == (an : Int)) = false := by rw [beq_eq_false_iff_ne]; omega
              have z2 : ((qn : Int) != (an : Int)) = true := by rw [bne_iff_ne]; omega
              have hdn := HDN.out
              cases dn
              all_goals
                (with_reducible refine mw_region _ ?_ ?_ ?_; kernel_rfl; kernel_rfl; (repeat (go_big_quiet_step (first | (go_at_call 18; exact HL.out _)))); refine wpQuiet_nil ?_; rintro _ ⟨y1, rfl⟩)
                go_wp2_with fail
                go_meet
                case rel => exact ⟨by simp, y1.m, y1.h⟩
          case rest =>
            obtain ⟨rfl, ⟨acc6, flt6, hM6⟩, hO6⟩ := hcut
            have p1 := hO6.cell p1 hOW.1 hOW.2; have p3 := hO6.cell p3 hOW.1 hOW.2; have p4 := hO6.cell p4 hOW.1 hOW.2; have p5 := hO6.cell p5 hOW.1 hOW.2
            have hbel6 := hbel5.trans (hO6.below Hb.out Hg.out hbel5.size)
            have HM := Lib.hid hM6
            clear hM6 hO6 hbel5 HR HRA
            go_upto_region 17 with (fail)
            go_cut [143] from 126 to 143 (fun v w7 => CutM wc b g C f' v w7)
            case first =>
              cases dn
              · go_wp2_with fail
                go_meet
                case rel => exact ⟨by simp, ⟨_, _, HM.out⟩, Only.refl _ _ _⟩
              · have hxo : (x == old) = true ∨ (x == old) = false := by cases x == old <;> simp
                rcases hxo with hxo | hxo
                · have hxo' : (x != old) = false := by simp [bne, hxo]
                  go_wp2_with fail
                  go_meet
                  case rel => exact ⟨by simp, ⟨_, _, HM.out⟩, Only.refl _ _ _⟩
                · have hxo' : (x != old) = true := by simp [bne, hxo]
                  have HXO := Lib.hid hxo
                  go_wp2_with fail
                  have xr := HXR.out.2.2
                  refine (mcasw b g 40 C f' acc6 an old x flt6 wc HM.out xr.1 xr.2).mono ?_; rintro _ w7 ⟨rfl, ⟨acc7, hM7⟩, hO⟩
                  have hv : (okA 40 an && f' (Int.toNat an) == old) = false := by
                    rw [HF'.out]; simp [upd, HXO.out]
                  rw [hv] at hM7 ⊢
                  have HM7 := Lib.hid hM7
                  clear hM7 hv xr
                  go_wp2_with fail
                  go_meet
                  case rel => exact ⟨by simp, ⟨_, _, by simpa using HM7.out⟩, hO⟩
            case rest =>
              obtain ⟨rfl, ⟨acc7, flt7, hM7⟩, hO7⟩ := hcut
              have p1 := hO7.cell p1 hOW.1 hOW.2; have p3 := hO7.cell p3 hOW.1 hOW.2
              have hbel7 := hbel6.trans (hO7.below Hb.out Hg.out hbel6.size)
              have HM := Lib.hid hM7
              clear hM7 hO7 hbel6 p4 p5
              go_wp2_with fail
              have ir := HXR.out.1
              refine (mstorew b g 40 C f' acc7 an is flt7 wc HM.out ir.1 ir.2).mono ?_; rintro _ w8 ⟨rfl, ⟨acc8, hM8⟩, hO⟩
              have p1 := hO.cell p1 hOW.1 hOW.2; have p3 := hO.cell p3 hOW.1 hOW.2
              have hbel8 := hbel7.trans (hO.below Hb.out Hg.out hbel7.size)
              rw [HA1.out] at hM8
              simp only [if_true, Int.toNat_natCast] at hM8
              obtain ⟨f3, hf3⟩ : ∃ f3, f3 = upd f' an is := ⟨_, rfl⟩
              rw [← hf3] at hM8
              have e3 : f3 an = is := by rw [hf3]; simp [upd]
              have l3 : ldI 40 f3 an = is := by unfold ldI; rw [HA1.out]; simpa using e3
              have HLD3 : Hid (∀ wx acc flt, MemAt wx b g 40 C f3 acc flt → Calls Try.prog 18 #[.pointer (some ⟨b, 0, none⟩), .int .i64 an] wx fun e w' => e = .returned (.int .u64 is) ∧ (∃ acc' flt', MemAt w' b g 40 C f3 acc' flt') ∧ Only b g wx w') := fun wx acc flt h => by
                have := mloadw b g 40 C f3 acc an flt wx h
                rw [l3] at this
                exact this.mono fun _ _ ⟨e, ⟨acc', h1⟩, h2⟩ => ⟨e, ⟨acc', _, h1⟩, h2⟩
              have HAD : Hid (∀ wx acc flt, MemAt wx b g 40 C f3 acc flt → Calls Try.prog 22 #[.pointer (some ⟨b, 0, none⟩), .int .i64 an, .int .u64 1] wx fun e w' => e = .returned (.int .u64 is) ∧ (∃ acc' flt', MemAt w' b g 40 C (upd f3 an (addI is 1)) acc' flt') ∧ Only b g wx w') := fun wx acc flt h => by
                have := maddw b g 40 C f3 acc an 1 flt wx h (by omega) (by omega)
                rw [l3, HA1.out] at this
                simp only [if_true, Int.toNat_natCast, e3] at this
                exact this.mono fun _ _ ⟨e, ⟨acc', h1⟩, h2⟩ => ⟨e, ⟨acc', _, h1⟩, h2⟩
              have HLD4 : Hid (∀ wx acc flt, MemAt wx b g 40 C (upd f3 an (addI is 1)) acc flt → Calls Try.prog 18 #[.pointer (some ⟨b, 0, none⟩), .int .i64 an] wx fun e w' => e = .returned (.int .u64 (IntKind.u64.wrap (is + 1))) ∧ Only b g wx w') := fun wx acc flt h => by
                have := mloadw b g 40 C _ acc an flt wx h
                rw [show ldI 40 (upd f3 an (addI is 1)) an = IntKind.u64.wrap (is + 1) by unfold ldI; rw [HA1.out]; simp [upd, addI]] at this
                exact this.mono fun _ _ ⟨e, _, h2⟩ => ⟨e, h2⟩
              have hOWd := hOW
              have q1 : ∀ x : OnlyX w8 b g, x.w.cell? ⟨w.heap.size, 1, none⟩ = some (.int .i64 an) := fun x => x.h.cell p1 hOWd.1 hOWd.2
              have q3 : ∀ x : OnlyX w8 b g, x.w.cell? ⟨w.heap.size, 3, none⟩ = some (.int .u64 is) := fun x => x.h.cell p3 hOWd.1 hOWd.2
              have HM8 := Lib.hid hM8
              have HB8 := Lib.hid hbel8
              clear hM8 hO hf3 e3 l3 ir hbel7 hbel8 hOW hOWd p1 p3
              go_upto_region 20 with (fail)
              (try clear HXR)
              (try clear HOPS)
              (try clear HM)
              (try clear HGW)
              (try clear HDN)
              (try clear HF')
              (try clear HA1)
              (try clear HR)
              (try clear e2)
              (try clear e3)
              (try clear hlc)
              (try clear hcap)
              (try clear j)
              (try clear hge)
              (try clear hi)
              (try clear ha0)
              (try clear ha1)
              (with_reducible refine wp_region_mix (fun w' => ∃ x : OnlyX w8 b g, w' = x.w) ?_ ?_ ?_ ?_; kernel_rfl; kernel_rfl; exact ⟨⟨w8.drew, (Only.refl b g w8).drew⟩, rfl⟩)
              repeat (first | ((with_reducible refine mix_plain (by kernel_rfl) ?_); (first | go_big_quiet_skip | (go_big_quiet_want; go_big_quiet_op; go_big_quiet_on)); (with_reducible refine mix_on ?_)) | ((with_reducible refine mix_skip (by kernel_rfl) ?_); go_big_quiet_skip; (with_reducible refine mix_on ?_)))
              ((with_reducible refine wpMix_chain (by kernel_rfl) (by kernel_rfl) (fun K HK => ?_)); go_step)
              refine (HLD3.out w8.drew _ _ (HM8.out.below (show Below w8.heap.size w8 w8.drew by (repeat (first | exact Below.refl _ _ | assumption | refine below_new ?_ _ | refine Below.drew ?_ | refine below_drewN ?_ _ | refine below_on ?_ (by assumption)))))).mono ?_; rintro _ w9 ⟨rfl, ⟨acc9, flt9, hM9⟩, hO9⟩
              have HM9 := Lib.hid hM9
              have hO9 := (Only.refl b g w8).drew.trans hO9
              refine HK.out _ _ ⟨⟨w9, hO9⟩, rfl⟩ ?_
              clear HK K hM9
              repeat (first | ((with_reducible refine mix_plain (by kernel_rfl) ?_); (first | go_big_quiet_skip | (go_big_quiet_want; go_big_quiet_op; go_big_quiet_on)); (with_reducible refine mix_on ?_)) | ((with_reducible refine mix_skip (by kernel_rfl) ?_); go_big_quiet_skip; (with_reducible refine mix_on ?_)))
              ((with_reducible refine wpMix_chain (by kernel_rfl) (by kernel_rfl) (fun K HK => ?_)); go_step)
              refine (HAD.out w9 _ _ HM9.out).mono ?_; rintro _ w10 ⟨rfl, ⟨acc10, flt10, hM10⟩, hO10⟩
              have HM10 := Lib.hid hM10
              have hO10 := hO9.trans hO10
              refine HK.out _ _ ⟨⟨w10, hO10⟩, rfl⟩ ?_
              clear HK K hM10 hO9
              repeat (first | ((with_reducible refine mix_plain (by kernel_rfl) ?_); (first | go_big_quiet_skip | (go_big_quiet_want; go_big_quiet_op; go_big_quiet_on)); (with_reducible refine mix_on ?_)) | ((with_reducible refine mix_skip (by kernel_rfl) ?_); go_big_quiet_skip; (with_reducible refine mix_on ?_)))
              ((with_reducible refine wpMix_chain (by kernel_rfl) (by kernel_rfl) (fun K HK => ?_)); go_step)
              refine (HLD4.out w10 _ _ HM10.out).mono ?_; rintro _ w11 ⟨rfl, hO11⟩
              have hO11 := hO10.trans hO11
              refine HK.out _ _ ⟨⟨w11, hO11⟩, rfl⟩ ?_
              clear HK K hO10
              repeat (first | ((with_reducible refine mix_plain (by kernel_rfl) ?_); (first | go_big_quiet_skip | (go_big_quiet_want; go_big_quiet_op; go_big_quiet_on)); (with_reducible refine mix_on ?_)) | ((with_reducible refine mix_skip (by kernel_rfl) ?_); go_big_quiet_skip; (with_reducible refine mix_on ?_)))
              ((with_reducible refine wpMix_chain (by kernel_rfl) (by kernel_rfl) (fun K HK => ?_)); go_step)
              refine (lives6_calls _).mono ?_; rintro _ w12 ⟨rfl, hb12⟩
              have hO12 := hO11.trans (Only.of_below hb12)
              refine HK.out _ _ ⟨⟨w12, hO12⟩, rfl⟩ ?_
              clear HK K hO11
              repeat (first | ((with_reducible refine mix_plain (by kernel_rfl) ?_); (first | go_big_quiet_skip | (go_big_quiet_want; go_big_quiet_op; go_big_quiet_on)); (with_reducible refine mix_on ?_)) | ((with_reducible refine mix_skip (by kernel_rfl) ?_); go_big_quiet_skip; (with_reducible refine mix_on ?_)))
              refine wpMix_nil ?_
              have HF := Lib.hid (HB8.out.trans (hO12.below Hb.out Hg.out HB8.out.size))
              clear q1 q3 hO12 hb12
              go_wp2_with fail
              go_ret
              exact ⟨by simp, below_on HBW.out HF.out⟩
end Go.Proofs.Ytdfkpkjbfhjglaa
