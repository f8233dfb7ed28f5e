/- Layer 42: a pass. -/
import Derived.Test.YtaammkmnhhipgaaShrH
namespace Go.Proofs.Ytaammkmnhhipgaa
open Go.RowKit
set_option linter.unusedVariables false
set_option linter.unusedSimpArgs false
/-- A pass over a list: so many at a time. -/
def passF (P : List Ent → Bool) (q : Nat) : Nat → Nat → List Ent → Int → Bool → List Ent × Int × Bool
  | 0, _, l, a, g => (l, a, g)
  | n + 1, i, l, a, g => if i < l.length then (if P (wo l i q) then passF P q n i (wo l i q) (a + 1) true else passF P q n (i + q) l (a + 1) g) else (l, a, g)
theorem passF_end (P : List Ent → Bool) (q n i : Nat) (l : List Ent) (a : Int) (g : Bool) (h : l.length ≤ i) : passF P q n i l a g = (l, a, g) := by
  cases n with
  | zero => rfl
  | succ n => rw [passF, if_neg (by omega)]
theorem wo_less (l : List Ent) (i q : Nat) (h : i < l.length) (hq : 1 ≤ q) : (wo l (i : Int) (q : Int)).length + 1 ≤ l.length := by
  unfold wo
  rw [List.length_append, List.length_take, List.length_drop]; omega
def lenAt (w : World) (b : Nat) : Nat := match w.cell? ⟨b, 3, none⟩ with | some (.slice _ n _) => n | _ => 0
theorem KAt.cells {w : World} {b : Nat} {T S K : Int} {v F : Value} {a : Int} (h : KAt w b T S K v F a) :
    w.cell? ⟨b, 0, none⟩ = some (.int .i64 T) ∧ w.cell? ⟨b, 1, none⟩ = some (.int .i64 S) ∧ w.cell? ⟨b, 2, none⟩ = some (.int .u64 K) ∧ w.cell? ⟨b, 3, none⟩ = some v ∧ w.cell? ⟨b, 4, none⟩ = some F ∧ w.cell? ⟨b, 5, none⟩ = some (.int .i64 a) ∧ (∀ i, w.frozen? ⟨b, i, none⟩ = false) ∧ b < w.heap.size := by
  refine ⟨?_, ?_, ?_, ?_, ?_, ?_, fun i => frozen_of_row _ _ _ _ _ h, (Array.getElem?_eq_some_iff.1 h).1⟩
  all_goals (rw [cell_of_row _ _ _ _ _ (0, 0) h]; rfl)
theorem KAt.store {w : World} {b : Nat} {T S K : Int} {v F : Value} {a : Int} (h : KAt w b T S K v F a) (v2 : Value) :
    KAt ((((w.setCell ⟨b, 0, none⟩ (.int .i64 T)).setCell ⟨b, 1, none⟩ (.int .i64 S)).setCell ⟨b, 2, none⟩ (.int .u64 K)).setCell ⟨b, 3, none⟩ v2) b T S K v2 F a := by
  unfold KAt
  have h1 := heap_setCell_same w b 0 _ _ (.int .i64 T) h
  have h2 := heap_setCell_same _ b 1 _ _ (.int .i64 S) h1
  have h3 := heap_setCell_same _ b 2 _ _ (.int .u64 K) h2
  have h4 := heap_setCell_same _ b 3 _ _ v2 h3
  rw [h4]; rfl
abbrev Aside (b : Nat) (v : Value) : Prop := ∀ p n c, v = .slice (some p) n c → p.block ≠ b
theorem own_aside {w : World} {B b : Nat} {v : Value} {l : List Ent} (h : OwnL w B v l) (hb : b < B) : Aside b v := by
  intro p n c e
  have := own_geE h p.block (by rw [e]; rfl)
  omega
set_option maxHeartbeats 4000000 in
theorem sround (b : Nat) (T S K : Int) (v : Value) (fid : FuncId) (caps : Array Value) (a : Int) (l : List Ent) (q : Nat) (w : World) (P : List Ent → Bool) (W : World → Prop) (hk : KAt w b T S K v (.func (.func fid) #[] caps) a) (h : EL w v l) (hne : Aside b v) (hn : l.length ≤ 1000)
    (hP : Says fid caps T S K P W) (hW : Stays W b) (hw : W w) (ha : 0 ≤ a) (ha2 : a ≤ 90000000) (hq : 1 ≤ q) (hq2 : q ≤ 1000) (hcf : ∀ (args : Array Value) (w : World), (callFunc fid args).run Try.prog w = .ok (.enter fid args) w) :
    Calls Try.prog 21 #[.pointer (some ⟨b, 0, none⟩), .int .i64 (q : Int)] w fun e w' => ∃ v', e = .returned (.bool (passF P q l.length 0 l a false).2.2) ∧ KAt w' b T S K v' (.func (.func fid) #[] caps) (passF P q l.length 0 l a false).2.1 ∧ EL w' v' (passF P q l.length 0 l a false).1 ∧ (Aside b v' ∧ ∀ g, g < w.heap.size → Aside g v → Aside g v') ∧ (passF P q l.length 0 l a false).1.length ≤ l.length ∧ (passF P q l.length 0 l a false).2.1 ≤ a + l.length ∧ 0 ≤ (passF P q l.length 0 l a false).2.1 ∧ Kx b w w' := by
  refine Calls.veil fun Q HQ => ?_
  obtain ⟨R, hR⟩ : ∃ R, R = passF P q l.length 0 l a false := ⟨_, rfl⟩
  rw [← hR] at HQ
  have H0 := Lib.hid (And.intro hk (And.intro h (And.intro hne hR.symm)))
  have HPR := Lib.hid (And.intro hP (And.intro hW hw))
  have HCF := Lib.hid hcf
  clear hk h hne hP hW hw hR hcf
  go_enter Try.func21, Try.ntmps21
  go_wp2_with fail
  go_loopw [5, 6] (fun gv iv wr => ∃ (g : Bool) (i n : Nat) (l' : List Ent) (a' : Int) (v' : Value), gv = .bool g ∧ iv = .int .i64 i ∧ i ≤ 2000 ∧ l'.length ≤ l.length ∧ l'.length - i ≤ n ∧ 0 ≤ a' ∧ a' + n ≤ a + l.length ∧ Hid (passF P q n i l' a' g = R) ∧ Hid (KAt wr b T S K v' (.func (.func fid) #[] caps) a') ∧ Hid (EL wr v' l') ∧ Hid (Aside b v' ∧ ∀ g, g < w.heap.size → Aside g v → Aside g v') ∧ Kx b w wr)
    (fun _ iv wr => lenAt wr b - (intOf iv).toNat)
  case atStart => exact ⟨false, 0, l.length, l, a, v, rfl, rfl, by omega, Nat.le_refl _, by omega, ha, by omega, H0.out.2.2.2, H0.out.1, H0.out.2.1, Lib.hid ⟨H0.out.2.2.1, fun _ _ h => h⟩, Kx.refl _ _⟩
  case round =>
    obtain ⟨g, i, n, l', a', v', rfl, rfl, hi, hl', hfu, ha0, han, HR, HKA, HEL, HAS, hx⟩ := hrel
    clear H0
    have HX := Lib.hid hx
    clear hx
    obtain ⟨p, c, rfl, c1, c2⟩ := HEL.out.slice
    obtain ⟨x0, x1, x2, x3, x4, x5, xf, xb⟩ := HKA.out.cells
    clear x4 x5 xf
    have HLN := Lib.hid (show lenAt wr b = l'.length by unfold lenAt; rw [x3])
    rcases (by omega : i < l'.length ∨ l'.length ≤ i) with hlt | hge
    · obtain ⟨m, rfl⟩ : ∃ m, n = m + 1 := ⟨n - 1, by omega⟩
      have HR1 := HR.out
      rw [passF, if_pos hlt] at HR1
      have HLS := Lib.hid (wo_less l' i q hlt hq)
      have HSW := Lib.hid (swithout T S K (i : Int) (q : Int) l' (.slice p l'.length c) wr HEL.out (by omega))
      generalize wo l' (i : Int) (q : Int) = less at HSW HR1 HLS
      have HR1 := Lib.hid HR1
      clear HR
      have hb2 : (q : Int) ≤ 1000 := by omega
      go_wp2_with fail
      refine HSW.out.mono ?_; rintro _ w2 ⟨v2, rfl, ho2, hb2⟩
      have HB2 := Lib.hid hb2
      have HAS2 := Lib.hid (show Aside b v2 ∧ ∀ g, g < w.heap.size → Aside g v → Aside g v2 from ⟨own_aside (b := b) ho2 xb, fun g hg _ => own_aside (b := g) ho2 (by have := HX.out.size; omega)⟩)
      have HO2 := Lib.hid (own_EL ho2)
      obtain ⟨p2, d2, rfl, _, _⟩ := own_slice ho2
      clear ho2 hb2 HSW x0 x1 x2 x3
      go_upto_region 5 with fail
      generalize hU : World.alloc w2 _ = U
      have z0 : U.cell? ⟨w2.heap.size, 0, none⟩ = some (.int .i64 T) := Ext.made hU 0 _ rfl ⟨U, Below.refl _ _⟩
      have z1 : U.cell? ⟨w2.heap.size, 1, none⟩ = some (.int .i64 S) := Ext.made hU 1 _ rfl ⟨U, Below.refl _ _⟩
      have z2 : U.cell? ⟨w2.heap.size, 2, none⟩ = some (.int .u64 K) := Ext.made hU 2 _ rfl ⟨U, Below.refl _ _⟩
      have z3 : U.cell? ⟨w2.heap.size, 3, none⟩ = some (.slice p2 less.length d2) := Ext.made hU 3 _ rfl ⟨U, Below.refl _ _⟩
      have HU := Lib.hid (show Below wr.heap.size wr U ∧ b ≠ w2.heap.size ∧ Below w2.heap.size w2 U from ⟨by rw [← hU]; exact HB2.out.alloc HB2.out.size _, by have := HB2.out.size; omega, by rw [← hU]; exact (Below.refl _ _).alloc (Nat.le_refl _) _⟩)
      clear hU
      have HZ := Lib.hid (And.intro z0 (And.intro z1 (And.intro z2 z3)))
      have HOU := Lib.hid (HO2.out.below HU.out.2.2)
      go_wp2_with fail
      refine (sisbad b T S K (.slice p l'.length c) fid caps a' less (.slice p2 less.length d2) U P W (HKA.out.kx (b' := 0) HU.out.1) HOU.out HAS2.out.1 (by have := HLS.out; omega) HPR.out.1 HPR.out.2.1 (HPR.out.2.1 _ _ HPR.out.2.2 (HX.out.below HU.out.1)) ha0 (by omega) HCF.out).mono ?_
      rintro _ w3 ⟨rfl, hx3, hk3⟩
      have HX3 := Lib.hid (Kx.trans (HX.out.below HU.out.1) hx3)
      have y0 := hx3.cell HZ.out.1 (Ne.symm HU.out.2.1)
      have y1 := hx3.cell HZ.out.2.1 (Ne.symm HU.out.2.1)
      have y2 := hx3.cell HZ.out.2.2.1 (Ne.symm HU.out.2.1)
      have y3 := hx3.cell HZ.out.2.2.2 (Ne.symm HU.out.2.1)
      have HK3 := Lib.hid hk3
      have HEo := Lib.hid (ER.kx (HEL.out.below HU.out.1) HAS.out.1 hx3)
      have HEn := Lib.hid (ER.kx HOU.out HAS2.out.1 hx3)
      obtain ⟨k0, k1, k2, k3, _, _, kf, kb⟩ := hk3.cells
      have HLN3 := Lib.hid (show lenAt w3 b = l'.length by unfold lenAt; rw [k3])
      clear z0 z1 z2 z3 hx3 hk3
      cases hp : P less with
      | true =>
        have HR2 : Hid (passF P q m i less (a' + 1) true = R) := by have := HR1.out; rw [if_pos hp] at this; exact Lib.hid this
        clear HR1 hp
        go_wp2_with fail
        generalize hV : World.setCell _ _ _ = V
        have HKV := Lib.hid (show KAt V b T S K (.slice p2 less.length d2) (.func (.func fid) #[] caps) (a' + 1) by rw [← hV]; exact HK3.out.store _)
        have HXV := Lib.hid (show Kx b w3 V by rw [← hV]; exact ((((Kx.refl b w3).set 0 _).set 1 _).set 2 _).set 3 _)
        have HLV := Lib.hid (show lenAt V b = less.length by have := HKV.out.cells.2.2.2.1; unfold lenAt; rw [this])
        clear hV y0 y1 y2 y3 k0 k1 k2 k3 kf
        go_roundw
        case rel => exact ⟨true, i, m, less, a' + 1, _, rfl, rfl, by omega, by have := HLS.out; omega, by have := HLS.out; omega, by omega, by omega, HR2, HKV, Lib.hid (ER.kx HEn.out HAS2.out.1 HXV.out), HAS2, HX3.out.trans HXV.out⟩
        case measure =>
          have h1 := HLN.out
          have h2 := HLV.out
          have h3 := HLS.out
          simp [intOf, h1, h2]; omega
      | false =>
        have HR2 : Hid (passF P q m (i + q) l' (a' + 1) g = R) := by have := HR1.out; rw [if_neg (by rw [hp]; decide)] at this; exact Lib.hid this
        clear HR1 hp y0 y1 y2 y3 k0 k1 k2 k3 kf
        go_wp2_with fail
        go_roundw
        case rel => exact ⟨g, i + q, m, l', a' + 1, _, rfl, by go_num, by omega, hl', by omega, by omega, by omega, HR2, HK3, HEo, HAS, HX3.out⟩
        case measure =>
          have h1 := HLN.out
          have h2 := HLN3.out
          simp [intOf, h1, h2]; omega
    · have hfin : R = (l', a', g) := by rw [← HR.out, passF_end _ _ _ _ _ _ _ hge]
      subst hfin
      clear HR
      go_wp2_with fail
      (try go_ret)
      rw [HQ.out]
      exact ⟨_, rfl, HKA.out, HEL.out, HAS.out, hl', by show a' ≤ a + l.length; omega, ha0, HX.out⟩
end Go.Proofs.Ytaammkmnhhipgaa
