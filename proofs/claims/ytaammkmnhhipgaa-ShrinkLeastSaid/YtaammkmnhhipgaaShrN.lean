/- Layer 42: who says whether a script is bad, in ShrinkLeast; the reference's pass. -/
import Derived.Test.YtaammkmnhhipgaaShrM
namespace Go.Proofs.Ytaammkmnhhipgaa
open Go.RowKit
set_option linter.unusedVariables false
set_option linter.unusedSimpArgs false
theorem cf7 : ∀ (args : Array Value) (w : World), (callFunc 7 args).run Try.prog w = .ok (.enter 7 args) w := by
  intro args w
  go_simp
def WN (bs bn : Nat) (T S C n0 n1 n2 : Int) (w : World) : Prop :=
  (w.cell? ⟨bs, 0, none⟩ = some (.int .i64 T) ∧ w.cell? ⟨bs, 1, none⟩ = some (.int .i64 S) ∧ w.cell? ⟨bs, 2, none⟩ = some (.int .u64 C)) ∧
  (w.cell? ⟨bn, 0, none⟩ = some (.int .i64 n0) ∧ w.cell? ⟨bn, 1, none⟩ = some (.int .i64 n1) ∧ w.cell? ⟨bn, 2, none⟩ = some (.int .i64 n2))
theorem WN.stays {bs bn b : Nat} {T S C n0 n1 n2 : Int} (h1 : bs ≠ b) (h2 : bn ≠ b) : Stays (WN bs bn T S C n0 n1 n2) b := fun w w' h k =>
  ⟨⟨k.cell h.1.1 h1, k.cell h.1.2.1 h1, k.cell h.1.2.2 h1⟩, ⟨k.cell h.2.1 h2, k.cell h.2.2.1 h2, k.cell h.2.2.2 h2⟩⟩
set_option maxHeartbeats 2000000 in
theorem says7 (bs bn : Nat) (T S C n0 n1 n2 : Int) : Says 7 #[.pointer (some ⟨bs, 0, none⟩), .pointer (some ⟨bn, 0, none⟩)] T S C (badN n0 n1 n2) (WN bs bn T S C n0 n1 n2) := by
  intro l u w hw h hn
  have HE := Lib.hid h
  obtain ⟨p, c, rfl, a1, a2⟩ := h.slice
  show Calls _ _ #[.agg #[.int .i64 T, .int .i64 S, .int .u64 C, .slice p l.length c], .pointer (some ⟨bs, 0, none⟩), .pointer (some ⟨bn, 0, none⟩)] _ _
  refine Calls.veil fun Q HQ => ?_
  clear h
  obtain ⟨⟨s0, s1, s2⟩, ⟨t0, t1, t2⟩⟩ := hw
  have s0 := Ext.on s0; have s1 := Ext.on s1; have s2 := Ext.on s2; have t0 := Ext.on t0; have t1 := Ext.on t1; have t2 := Ext.on t2
  go_enter Try.func7, Try.ntmps7
  go_wp2_with fail
  refine (rbad n0 n1 n2 l _ _ (HE.out.alloc _) hn).mono ?_; rintro _ w2 ⟨rfl, hb2⟩
  have HF := Lib.hid (show Below w.heap.size w w2 from below_on (by (repeat (first | exact Below.refl _ _ | assumption | refine below_new ?_ _ | refine Below.drew ?_ | refine below_drewN ?_ _ | refine below_on ?_ (by assumption)))) hb2)
  clear hb2 s0 s1 s2 t0 t1 t2
  go_wp2_with fail
  (try go_ret)
  rw [HQ.out]
  exact ⟨rfl, HF.out⟩
set_option maxHeartbeats 4000000 in
theorem rpass (n0 n1 n2 : Int) (l : List Ent) (q : Nat) (a : Int) (v : Value) (w : World) (h : EL w v l) (hn : l.length ≤ 1000) (hq : 1 ≤ q) (hq2 : q ≤ 1000) (ha : 0 ≤ a) (ha2 : a ≤ 90000000) :
    Calls Try.prog 19 #[v, .agg #[.int .i64 n0, .int .i64 n1, .int .i64 n2], .int .i64 (q : Int), .int .i64 a] w fun e w' => ∃ v', e = .returned (.tuple #[v', .int .i64 (passF (badN n0 n1 n2) q l.length 0 l a false).2.1, .bool (passF (badN n0 n1 n2) q l.length 0 l a false).2.2]) ∧ EL w' v' (passF (badN n0 n1 n2) q l.length 0 l a false).1 ∧ Below w.heap.size w w' := by
  refine Calls.veil fun Q HQ => ?_
  have HE := Lib.hid h
  obtain ⟨p, c, rfl, a1, a2⟩ := h.slice
  clear h
  obtain ⟨R, hR⟩ : ∃ R, R = passF (badN n0 n1 n2) q l.length 0 l a false := ⟨_, rfl⟩
  rw [← hR] at HQ
  have HR0 := Lib.hid hR.symm
  clear hR
  go_enter Try.func19, Try.ntmps19
  go_wp2_with fail
  generalize hV : World.alloc w _ = V
  have NC : Hid (∀ x : Ext V, x.w.cell? ⟨w.heap.size, 0, none⟩ = some (.int .i64 n0) ∧ x.w.cell? ⟨w.heap.size, 1, none⟩ = some (.int .i64 n1) ∧ x.w.cell? ⟨w.heap.size, 2, none⟩ = some (.int .i64 n2)) :=
    Lib.hid fun x => ⟨Ext.made hV 0 _ rfl x, Ext.made hV 1 _ rfl x, Ext.made hV 2 _ rfl x⟩
  have HBV := Lib.hid (show Below w.heap.size w V by rw [← hV]; (repeat (first | exact Below.refl _ _ | assumption | refine below_new ?_ _ | refine Below.drew ?_ | refine below_drewN ?_ _ | refine below_on ?_ (by assumption))))
  have HEV := Lib.hid (HE.out.below HBV.out)
  clear hV
  go_loopw [0, 3, 11, 12] (fun lv av gv iv wr => ∃ (g : Bool) (i n : Nat) (l' : List Ent) (a' : Int), gv = .bool g ∧ iv = .int .i64 i ∧ av = .int .i64 a' ∧ i ≤ 2000 ∧ l'.length ≤ l.length ∧ l'.length - i ≤ n ∧ 0 ≤ a' ∧ a' + n ≤ a + l.length ∧ Hid (passF (badN n0 n1 n2) q n i l' a' g = R) ∧ Hid (EL wr lv l') ∧ Below V.heap.size V wr)
    (fun lv _ _ iv _ => (match lv with | .slice _ n _ => n | _ => 0) - (intOf iv).toNat)
  case atStart => exact ⟨false, 0, l.length, l, a, rfl, rfl, rfl, by omega, Nat.le_refl _, by omega, ha, by omega, HR0, HEV, Below.refl _ _⟩
  case round =>
    obtain ⟨g, i, n, l', a', rfl, rfl, rfl, hi, hl', hfu, ha0, han, HR, HEL, hbx⟩ := hrel
    have HX := Lib.hid hbx
    clear hbx HR0
    obtain ⟨p', c', rfl, _, _⟩ := HEL.out.slice
    rcases (by omega : i < l'.length ∨ l'.length ≤ i) with hlt | hge
    · obtain ⟨m, rfl⟩ : ∃ m, n = m + 1 := ⟨n - 1, by omega⟩
      have HR1 := HR.out
      rw [passF, if_pos hlt] at HR1
      have HLS := Lib.hid (wo_less l' i q hlt hq)
      have HSW := Lib.hid (rwithout (i : Int) (q : Int) l' (.slice p' l'.length c') wr HEL.out (by omega))
      generalize wo l' (i : Int) (q : Int) = less at HSW HR1 HLS
      have HR1 := Lib.hid HR1
      clear HR
      have hb2 : (q : Int) ≤ 1000 := by omega
      go_wp2_with fail
      refine HSW.out.mono ?_; rintro _ w2 ⟨v2, rfl, ho2, hb2⟩
      have HX2 := Lib.hid (show Below V.heap.size V w2 from below_on HX.out hb2)
      have HO2 := Lib.hid (own_EL ho2)
      have HEo := Lib.hid (HEL.out.below hb2)
      obtain ⟨p2, d2, rfl, _, _⟩ := own_slice ho2
      obtain ⟨t0, t1, t2⟩ := NC.out ⟨w2, HX2.out⟩
      simp only at t0 t1 t2
      clear ho2 hb2 HSW
      go_wp2_with fail
      refine (rbad n0 n1 n2 less _ w2 HO2.out (by have := HLS.out; omega)).mono ?_; rintro _ w3 ⟨rfl, hb3⟩
      have HX3 := Lib.hid (show Below V.heap.size V w3 from below_on HX2.out hb3)
      have HEn := Lib.hid (HO2.out.below hb3)
      have HEo3 := Lib.hid (HEo.out.below hb3)
      clear hb3 t0 t1 t2
      cases hp : badN n0 n1 n2 less with
      | true =>
        have HR2 : Hid (passF (badN n0 n1 n2) q m i less (a' + 1) true = R) := by have := HR1.out; rw [if_pos hp] at this; exact Lib.hid this
        clear HR1 hp
        go_wp2_with fail
        go_roundw
        case rel => exact ⟨true, i, m, less, a' + 1, rfl, rfl, by first | rfl | go_num, by omega, by have := HLS.out; omega, by have := HLS.out; omega, by omega, by omega, HR2, HEn, HX3.out⟩
        case measure =>
          have h3 := HLS.out
          simp [intOf]; omega
      | false =>
        have HR2 : Hid (passF (badN n0 n1 n2) q m (i + q) l' (a' + 1) g = R) := by have := HR1.out; rw [if_neg (by rw [hp]; decide)] at this; exact Lib.hid this
        clear HR1 hp
        go_wp2_with fail
        go_roundw
        case rel => exact ⟨g, i + q, m, l', a' + 1, rfl, by go_num, by first | rfl | go_num, by omega, hl', by omega, by omega, by omega, HR2, HEo3, HX3.out⟩
        case measure => simp [intOf]; omega
    · have hfin : R = (l', a', g) := by rw [← HR.out, passF_end _ _ _ _ _ _ _ hge]
      subst hfin
      clear HR
      have HF := Lib.hid (below_on HBV.out HX.out)
      go_wp2_with fail
      (try go_ret3)
      rw [HQ.out]
      exact ⟨_, rfl, HEL.out, HF.out⟩
end Go.Proofs.Ytaammkmnhhipgaa
