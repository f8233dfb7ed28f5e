/- Layer 10: the walk of ModelTexts. -/
import Derived.Test.YtkgfhomoipbjoaaDoorTxtH
import Derived.Deep.CutRange
import Derived.Deep.RegionWith
namespace Go.Proofs.YtkgfhomoipbjoaaDoor
open Go.RowKit
set_option linter.unusedVariables false
set_option linter.unusedSimpArgs false
set_option maxRecDepth 16000 in
set_option maxHeartbeats 8000000 in
theorem modelTexts_walk (v0 v1 v2 : Value) (w : World) (s0 : Fr.ok1 w (.int .i64) v0) (s1 : Fr.ok1 w (.slice [.int .i64, .int .i64, .int .i64, .int .i64, .int .i64, .int .i64, .int .i64, .int .i64, .int .i64, .int .i64, .slice [.int .i64, .int .i64]]) v1) (s2 : Fr.ok1 w (.slice [.int .i64, .int .i64, .int .i64, .int .i64, .int .i64, .int .i64, .int .i64, .int .i64, .int .i64, .int .i64, .slice [.int .i64, .int .i64]]) v2) (hpow : Pow w.heap.size w) :
    Calls Tryd.prog 3 #[v0, v1, v2] w fun e w' => e = .returned (.bool true) ∧ Below w.heap.size w w' := by
  obtain ⟨t, rfl, _⟩ := Fr.get_int s0
  obtain ⟨ao, len, cap, rfl, hlc, hcap, hst⟩ := steps_open s1
  obtain ⟨ao2, len2, cap2, rfl, hlc2, hcap2, hst2⟩ := steps_open s2
  have HST := Lib.hid hst; have HST2 := Lib.hid hst2; have HPW := Lib.hid hpow
  clear s0 s1 s2 hst hst2 hpow
  refine Calls.veil fun Q HQ => ?_
  go_enter Tryd.func3, Tryd.ntmps3
  rcases (by omega : 60 < len ∨ len ≤ 60) with j | j
  · go_wp2_with fail
    refine (lives10_calls _).mono ?_; rintro _ w3 ⟨rfl, hb⟩
    go_wp2_with fail
    (try go_ret)
    rw [HQ.out]
    exact ⟨rfl, hb⟩
  rcases (by omega : 60 < len2 ∨ len2 ≤ 60) with j2 | j2
  · go_wp2_with fail
    refine (lives10_calls _).mono ?_; rintro _ w3 ⟨rfl, hb⟩
    go_wp2_with fail
    (try go_ret)
    rw [HQ.out]
    exact ⟨rfl, hb⟩
  obtain ⟨n, hn⟩ : ∃ n, n = clampN t := ⟨_, rfl⟩
  have HN6 := Lib.hid (show n ≤ 6 by rw [hn]; exact clamp6 t)
  have MN := Lib.hid (fun W => mnew10 t W); have RN := Lib.hid (fun W => rnew10 t W)
  rw [← hn] at MN RN
  clear hn
  go_wp2_with fail
  refine (MN.out _).mono ?_; rintro _ w1 ⟨tv, rfl, ht, hb1⟩
  obtain ⟨q1, d1, rfl, _, _, _⟩ := ht.slice
  have HT1 := Lib.hid ht; have HB1 := Lib.hid hb1
  clear ht hb1
  go_wp2_with fail
  refine (MN.out _).mono ?_; rintro _ w2 ⟨tv, rfl, ht, hb1⟩
  obtain ⟨q2, d2, rfl, _, _, _⟩ := ht.slice
  have HT1 := Lib.hid (HT1.out.below hb1); have HT2 := Lib.hid ht; have HB2 := Lib.hid (below_on HB1.out hb1)
  clear ht hb1 HB1
  go_upto_region 4 with fail
  have k1 := KT.fresh (T := 27) (W := w2) (st := stN n) (p := none) (c := 0) (PO.nil _) HT1.out
  generalize hVa : World.alloc w2 _ = Va
  have hba : Below w2.heap.size w2 Va := by rw [← hVa]; exact below_new (Below.refl _ _) _
  have e1 : w2.heap.size + 1 = Va.heap.size := by rw [← hVa]; simp
  have k1 : KT 27 Va w2.heap.size (stN n) none 0 q1 d1 := by rw [← hVa]; exact k1
  have k2 := KT.fresh (T := 27) (W := Va) (st := stN n) (p := none) (c := 0) (PO.nil _) (HT2.out.below hba)
  generalize hV : World.alloc Va _ = V
  have hbv : Below Va.heap.size Va V := by rw [← hV]; exact below_new (Below.refl _ _) _
  have k2 : KT 27 V Va.heap.size (stN n) none 0 q2 d2 := by rw [← hV]; exact k2
  have K1 := Lib.hid (k1.below hbv); have K2 := Lib.hid k2
  have HBV := Lib.hid (below_on (below_on HB2.out hba) hbv)
  have HX1 := Lib.hid (show w.heap.size ≤ w2.heap.size from HB2.out.size)
  have HX2 := Lib.hid (show w2.heap.size < Va.heap.size ∧ Va.heap.size < V.heap.size by have := hbv.size; rw [← hV]; simp; omega)
  rw [e1]
  generalize w2.heap.size = X1 at *
  generalize Va.heap.size = X2 at *
  clear hVa hba e1 k1 k2 hV hbv HT1 HT2 HB2
  go_wp2_with fail
  refine (RN.out _).mono ?_; rintro _ w3 ⟨tv, rfl, ht, hb1⟩
  obtain ⟨q3, d3, rfl, _, _, _⟩ := ht.slice
  have HT1 := Lib.hid ht; have HB1 := Lib.hid hb1
  clear ht hb1
  go_wp2_with fail
  refine (RN.out _).mono ?_; rintro _ w4 ⟨tv, rfl, ht, hb1⟩
  obtain ⟨q4, d4, rfl, _, _, _⟩ := ht.slice
  have HT1 := Lib.hid (HT1.out.below hb1); have HT2 := Lib.hid ht; have HB2 := Lib.hid (below_on HB1.out hb1)
  clear ht hb1 HB1
  go_upto_region 5 with fail
  have k1 := KT.fresh (T := 31) (W := w4) (st := stN n) (p := none) (c := 0) (PO.nil _) HT1.out
  generalize hVa : World.alloc w4 _ = Vb
  have hba : Below w4.heap.size w4 Vb := by rw [← hVa]; exact below_new (Below.refl _ _) _
  have e1 : w4.heap.size + 1 = Vb.heap.size := by rw [← hVa]; simp
  have k1 : KT 31 Vb w4.heap.size (stN n) none 0 q3 d3 := by rw [← hVa]; exact k1
  have k2 := KT.fresh (T := 31) (W := Vb) (st := stN n) (p := none) (c := 0) (PO.nil _) (HT2.out.below hba)
  generalize hV : World.alloc Vb _ = V2
  have hbv : Below Vb.heap.size Vb V2 := by rw [← hV]; exact below_new (Below.refl _ _) _
  have k2 : KT 31 V2 Vb.heap.size (stN n) none 0 q4 d4 := by rw [← hV]; exact k2
  have hbx := below_on (below_on HB2.out hba) hbv
  have K3 := Lib.hid (k1.below hbv); have K4 := Lib.hid k2
  have K1 := Lib.hid (K1.out.below hbx); have K2 := Lib.hid (K2.out.below hbx)
  have HBW := Lib.hid (below_on HBV.out hbx)
  have HX3 := Lib.hid (show X2 < w4.heap.size by have := HX2.out.2; have := HB2.out.size; omega)
  have HX4 := Lib.hid (show w4.heap.size < Vb.heap.size by omega)
  rw [e1]
  generalize w4.heap.size = Y1 at *
  generalize Vb.heap.size = Y2 at *
  have HX2 := Lib.hid (show X1 < X2 from HX2.out.1)
  clear hVa hba e1 k1 k2 hV hbv HT1 HT2 HB2 hbx HBV
  have HN := Lib.hid (show (X1 ≠ X2 ∧ X1 ≠ Y1 ∧ X1 ≠ Y2) ∧ (X2 ≠ X1 ∧ X2 ≠ Y1 ∧ X2 ≠ Y2) ∧ (Y1 ≠ X1 ∧ Y1 ≠ X2 ∧ Y1 ≠ Y2) ∧ (Y2 ≠ X1 ∧ Y2 ≠ X2 ∧ Y2 ≠ Y1) by have h1 := HX1.out; have h2 := HX2.out; have h3 := HX3.out; have h4 := HX4.out; omega)
  have HL1 := Lib.hid (show w.heap.size ≤ X1 from HX1.out)
  have HL2 := Lib.hid (show w.heap.size ≤ X2 by have h1 := HX1.out; have h2 := HX2.out; omega)
  have HL3 := Lib.hid (show w.heap.size ≤ Y1 by have h1 := HX1.out; have h2 := HX2.out; have h3 := HX3.out; omega)
  have HL4 := Lib.hid (show w.heap.size ≤ Y2 by have h1 := HX1.out; have h2 := HX2.out; have h3 := HX3.out; have h4 := HX4.out; omega)
  clear HX1 HX2 HX3 HX4
  go_wp2_with fail
  go_loopw [11] (fun iv wr => ∃ i : Nat, i ≤ len ∧ iv = .int .i64 i ∧ ∃ (st : Sm) (p : Option Addr) (c : Nat) (q : Option Addr) (d : Nat) (p' : Option Addr) (c' : Nat) (q' : Option Addr) (d' : Nat), Hid (OkN i st ∧ OkV st) ∧ Hid (KT 27 wr X1 st p c q d) ∧ Hid (KT 31 wr Y1 st p' c' q' d') ∧ Hid (KT 27 wr X2 (stN n) none 0 q2 d2) ∧ Hid (KT 31 wr Y2 (stN n) none 0 q4 d4) ∧ Hid (Below w.heap.size w wr)) (fun iv _ => len - (intOf iv).toNat)
  case atStart => exact ⟨0, Nat.zero_le _, rfl, stN n, _, _, _, _, _, _, _, _, Lib.hid ⟨OkN.new n HN6.out, OkV.new n⟩, K1, K3, K2, K4, HBW⟩
  case round =>
    clear K1 K2 K3 K4 HBW
    obtain ⟨i, hi, rfl, st, p, c, q, d, p', c', q', d', HOK0, G1, G2, G3, G4, HW0⟩ := hrel
    rcases (by omega : i < len ∨ i = len) with hlt | heq
    · obtain ⟨g, off, rfl, th, cl, hstc⟩ := HST.out i hlt
      have HSW := Lib.hid hstc
      obtain ⟨o0, o1, o2, o3, o4, o5, rk, rv⟩ := hstc.below HW0.out
      have hrd := HOK0.out.1.call th cl rk
      have hrv := HOK0.out.2.call th cl rk rv
      have RD := fun (V : World) (k : Below wr.heap.size wr V) => mdo (G1.out.hp.1.below k) (G1.out.ht.below k) (HOK0.out.1.ok (by omega)) th cl
      have RR0 : ∀ (U : World) (p : Option Addr) (c : Nat) (q : Option Addr) (d : Nat), KT 31 U Y1 st p c q d → ∀ V : World, Below U.heap.size U V → Calls Tryd.prog 8 #[.agg #[.slice p st.mp.length c, .slice q st.n d], .int .i64 th, caV cl] V (DoP V (doA st th cl).1 (doA st th cl).2) := fun U p c q d h V k => rdo (h.hp.below k) (h.ht.below k) (HOK0.out.1.ok (by omega)) th cl
      have hdn := doA_n st th cl
      obtain ⟨op, key, val, hi2, lim⟩ := cl
      obtain ⟨xx, hxx⟩ : ∃ x, x = doA st th ⟨op, key, val, hi2, lim⟩ := ⟨_, rfl⟩
      rw [← hxx] at RD RR0 hrd hrv hdn
      obtain ⟨st1, a1⟩ := xx
      have HOK1 := Lib.hid (And.intro hrd hrv)
      simp only [caV] at RD RR0
      have RD := Lib.hid RD; have RR0 := Lib.hid RR0
      simp only at o0 o1 o2 o3 o4 o5
      have x0 := newcell G1.out.hx 0 _ rfl
      have x1 := newcell G1.out.hx 1 _ rfl
      have hii : (i : Int) < len := by omega
      clear hxx hrd hrv hdn rk rv hstc
      go_upto_region 8 with fail
      go_cut [11] from 31 to 66 (fun iv wc => iv = .int .i64 i ∧ ∃ (p9 : Option Addr) (c9 : Nat) (q9 : Option Addr) (d9 : Nat), Hid (KT 27 wc X1 st1 p9 c9 q9 d9) ∧ Hid (KT 31 wc Y1 st p' c' q' d') ∧ Hid (KT 27 wc X2 (stN n) none 0 q2 d2) ∧ Hid (KT 31 wc Y2 (stN n) none 0 q4 d4) ∧ Hid (Below w.heap.size w wc))
      case first =>
        go_region_with (first | (go_at_call 7; (with_reducible refine (RD.out _ (Below.refl _ _).drew).mono ?_); rintro _ w9 ⟨mv9, tv9, av9, rfl, hp9, ht9, ha9, hb9⟩; obtain ⟨p9, c9, rfl, _, _⟩ := hp9.1.slice; obtain ⟨q9, d9, rfl, _, _, _⟩ := ht9.slice; obtain ⟨r9, e9, rfl, _, _⟩ := ha9.1.slice; unfold anV; (try simp only); have HP9 := Lib.hid hp9; have HT9 := Lib.hid ht9; clear hp9 ht9 ha9; have HB9 := Lib.hid (below_on (Below.refl _ _).drew hb9); have hx9 := upk HB9.out G1.out.hx; have f0 := newcell hx9 0 _ rfl; have f1 := newcell hx9 1 _ rfl; have ff := newfree hx9; clear hx9 hb9) | (fail "NOARM"))
        all_goals
          generalize hW : World.setCell _ _ _ = W
          obtain ⟨hk1, hbw, hot⟩ := G1.out.step (by decide) HL1.out HW0.out HB9.out HP9.out HT9.out hW
          have HA1 := Lib.hid hk1; have HW1 := Lib.hid hbw
          have HA2 := Lib.hid (hot _ _ _ _ _ _ _ HN.out.2.2.1.1 G2.out)
          have HA3 := Lib.hid (hot _ _ _ _ _ _ _ HN.out.2.1.1 G3.out); have HA4 := Lib.hid (hot _ _ _ _ _ _ _ HN.out.2.2.2.1 G4.out)
          clear hk1 hbw hot hW f0 f1 ff x0 x1 o0 o1 o2 o3 o4 o5
          go_wp2_with fail
          go_meet
          case rel => exact ⟨rfl, _, _, _, _, HA1, HA2, HA3, HA4, HW1⟩
      case rest =>
        obtain ⟨rfl, p9, c9, q9, d9, HA1, HA2, HA3, HA4, HW1⟩ := hcut
        clear x0 x1 o0 o1 o2 o3 o4 o5
        obtain ⟨o0, o1, o2, o3, o4, o5, rk, rv⟩ := HSW.out.below HW1.out
        simp only at o0 o1 o2 o3 o4 o5
        have RR := Lib.hid (RR0.out _ _ _ _ _ HA2.out)
        have x0 := newcell HA2.out.hx 0 _ rfl
        have x1 := newcell HA2.out.hx 1 _ rfl
        clear rk rv
        go_upto_region 9 with fail
        go_region_with (first | (go_at_call 8; (with_reducible refine (RR.out _ (Below.refl _ _).drew).mono ?_); rintro _ w9 ⟨mv9, tv9, av9, rfl, hp9, ht9, ha9, hb9⟩; obtain ⟨p9, c9, rfl, _, _⟩ := hp9.1.slice; obtain ⟨q9, d9, rfl, _, _, _⟩ := ht9.slice; obtain ⟨r9, e9, rfl, _, _⟩ := ha9.1.slice; unfold anV; (try simp only); have HP9 := Lib.hid hp9; have HT9 := Lib.hid ht9; clear hp9 ht9 ha9; have HB9 := Lib.hid (below_on (Below.refl _ _).drew hb9); have hx9 := upk HB9.out HA2.out.hx; have f0 := newcell hx9 0 _ rfl; have f1 := newcell hx9 1 _ rfl; have ff := newfree hx9; clear hx9 hb9) | (fail "NOARM"))
        all_goals
          generalize hW : World.setCell _ _ _ = W2
          obtain ⟨hk1, hbw, hot⟩ := HA2.out.step (by decide) HL3.out HW1.out HB9.out HP9.out HT9.out hW
          have HC2 := Lib.hid hk1; have HW2 := Lib.hid hbw
          have HC1 := Lib.hid (hot _ _ _ _ _ _ _ HN.out.1.2.1 HA1.out)
          have HC3 := Lib.hid (hot _ _ _ _ _ _ _ HN.out.2.1.2.1 HA3.out); have HC4 := Lib.hid (hot _ _ _ _ _ _ _ HN.out.2.2.2.2.2 HA4.out)
          clear hk1 hbw hot hW f0 f1 ff x0 x1 o0 o1 o2 o3 o4 o5
          go_wp2_with fail
          go_roundw
          case rel => exact ⟨i + 1, by omega, by go_num, st1, _, _, _, _, _, _, _, _, HOK1, HC1, HC2, HC3, HC4, HW2⟩
          case measure => simp [intOf]; omega
    · subst heq
      have HOA := HOK0
      clear HOK0
      go_wp2_with fail
      go_loopw [12] (fun iv wr => ∃ i : Nat, i ≤ len2 ∧ iv = .int .i64 i ∧ ∃ (su : Sm) (a : Option Addr) (b : Nat) (e : Option Addr) (f : Nat) (a' : Option Addr) (b' : Nat) (e' : Option Addr) (f' : Nat), Hid (OkN i su ∧ OkV su) ∧ Hid (KT 27 wr X2 su a b e f) ∧ Hid (KT 31 wr Y2 su a' b' e' f') ∧ Hid (KT 27 wr X1 st p c q d) ∧ Hid (KT 31 wr Y1 st p' c' q' d') ∧ Hid (Below w.heap.size w wr)) (fun iv _ => len2 - (intOf iv).toNat)
      case atStart => exact ⟨0, Nat.zero_le _, rfl, stN n, _, _, _, _, _, _, _, _, Lib.hid ⟨OkN.new n HN6.out, OkV.new n⟩, G3, G4, G1, G2, HW0⟩
      case round =>
        clear G1 G2 G3 G4 HW0
        obtain ⟨i, hi, rfl, su, a, b, e, f, a', b', e', f', HOK2, M1, M2, M3, M4, HW2⟩ := hrel
        rcases (by omega : i < len2 ∨ i = len2) with hlt | heq
        · obtain ⟨g, off, rfl, th, cl, hstc⟩ := HST2.out i hlt
          have HSW := Lib.hid hstc
          obtain ⟨o0, o1, o2, o3, o4, o5, rk, rv⟩ := hstc.below HW2.out
          have hrd := HOK2.out.1.call th cl rk
          have hrv := HOK2.out.2.call th cl rk rv
          have RD := fun (V : World) (k : Below wr.heap.size wr V) => mdo (M1.out.hp.1.below k) (M1.out.ht.below k) (HOK2.out.1.ok (by omega)) th cl
          have RR0 : ∀ (U : World) (p : Option Addr) (c : Nat) (q : Option Addr) (d : Nat), KT 31 U Y2 su p c q d → ∀ V : World, Below U.heap.size U V → Calls Tryd.prog 8 #[.agg #[.slice p su.mp.length c, .slice q su.n d], .int .i64 th, caV cl] V (DoP V (doA su th cl).1 (doA su th cl).2) := fun U p c q d h V k => rdo (h.hp.below k) (h.ht.below k) (HOK2.out.1.ok (by omega)) th cl
          have hdn := doA_n su th cl
          obtain ⟨op, key, val, hi2, lim⟩ := cl
          obtain ⟨xx, hxx⟩ : ∃ x, x = doA su th ⟨op, key, val, hi2, lim⟩ := ⟨_, rfl⟩
          rw [← hxx] at RD RR0 hrd hrv hdn
          obtain ⟨st1, a1⟩ := xx
          have HOK1 := Lib.hid (And.intro hrd hrv)
          simp only [caV] at RD RR0
          have RD := Lib.hid RD; have RR0 := Lib.hid RR0
          simp only at o0 o1 o2 o3 o4 o5
          have x0 := newcell M1.out.hx 0 _ rfl
          have x1 := newcell M1.out.hx 1 _ rfl
          have hii : (i : Int) < len2 := by omega
          clear hxx hrd hrv hdn rk rv hstc
          go_upto_region 13 with fail
          go_cut [12] from 67 to 102 (fun iv wc => iv = .int .i64 i ∧ ∃ (p9 : Option Addr) (c9 : Nat) (q9 : Option Addr) (d9 : Nat), Hid (KT 27 wc X2 st1 p9 c9 q9 d9) ∧ Hid (KT 31 wc Y2 su a' b' e' f') ∧ Hid (KT 27 wc X1 st p c q d) ∧ Hid (KT 31 wc Y1 st p' c' q' d') ∧ Hid (Below w.heap.size w wc))
          case first =>
            go_region_with (first | (go_at_call 7; (with_reducible refine (RD.out _ (Below.refl _ _).drew).mono ?_); rintro _ w9 ⟨mv9, tv9, av9, rfl, hp9, ht9, ha9, hb9⟩; obtain ⟨p9, c9, rfl, _, _⟩ := hp9.1.slice; obtain ⟨q9, d9, rfl, _, _, _⟩ := ht9.slice; obtain ⟨r9, e9, rfl, _, _⟩ := ha9.1.slice; unfold anV; (try simp only); have HP9 := Lib.hid hp9; have HT9 := Lib.hid ht9; clear hp9 ht9 ha9; have HB9 := Lib.hid (below_on (Below.refl _ _).drew hb9); have hx9 := upk HB9.out M1.out.hx; have f0 := newcell hx9 0 _ rfl; have f1 := newcell hx9 1 _ rfl; have ff := newfree hx9; clear hx9 hb9) | (fail "NOARM"))
            all_goals
              generalize hW : World.setCell _ _ _ = W
              obtain ⟨hk1, hbw, hot⟩ := M1.out.step (by decide) HL2.out HW2.out HB9.out HP9.out HT9.out hW
              have HA1 := Lib.hid hk1; have HW1 := Lib.hid hbw
              have HA2 := Lib.hid (hot _ _ _ _ _ _ _ HN.out.2.2.2.2.1 M2.out)
              have HA3 := Lib.hid (hot _ _ _ _ _ _ _ HN.out.1.1 M3.out); have HA4 := Lib.hid (hot _ _ _ _ _ _ _ HN.out.2.2.1.2.1 M4.out)
              clear hk1 hbw hot hW f0 f1 ff x0 x1 o0 o1 o2 o3 o4 o5
              go_wp2_with fail
              go_meet
              case rel => exact ⟨rfl, _, _, _, _, HA1, HA2, HA3, HA4, HW1⟩
          case rest =>
            obtain ⟨rfl, p9, c9, q9, d9, HA1, HA2, HA3, HA4, HW1⟩ := hcut
            clear x0 x1 o0 o1 o2 o3 o4 o5
            obtain ⟨o0, o1, o2, o3, o4, o5, rk, rv⟩ := HSW.out.below HW1.out
            simp only at o0 o1 o2 o3 o4 o5
            have RR := Lib.hid (RR0.out _ _ _ _ _ HA2.out)
            have x0 := newcell HA2.out.hx 0 _ rfl
            have x1 := newcell HA2.out.hx 1 _ rfl
            clear rk rv
            go_upto_region 14 with fail
            go_region_with (first | (go_at_call 8; (with_reducible refine (RR.out _ (Below.refl _ _).drew).mono ?_); rintro _ w9 ⟨mv9, tv9, av9, rfl, hp9, ht9, ha9, hb9⟩; obtain ⟨p9, c9, rfl, _, _⟩ := hp9.1.slice; obtain ⟨q9, d9, rfl, _, _, _⟩ := ht9.slice; obtain ⟨r9, e9, rfl, _, _⟩ := ha9.1.slice; unfold anV; (try simp only); have HP9 := Lib.hid hp9; have HT9 := Lib.hid ht9; clear hp9 ht9 ha9; have HB9 := Lib.hid (below_on (Below.refl _ _).drew hb9); have hx9 := upk HB9.out HA2.out.hx; have f0 := newcell hx9 0 _ rfl; have f1 := newcell hx9 1 _ rfl; have ff := newfree hx9; clear hx9 hb9) | (fail "NOARM"))
            all_goals
              generalize hW : World.setCell _ _ _ = W2
              obtain ⟨hk1, hbw, hot⟩ := HA2.out.step (by decide) HL4.out HW1.out HB9.out HP9.out HT9.out hW
              have HC2 := Lib.hid hk1; have HW2 := Lib.hid hbw
              have HC1 := Lib.hid (hot _ _ _ _ _ _ _ HN.out.2.1.2.2 HA1.out)
              have HC3 := Lib.hid (hot _ _ _ _ _ _ _ HN.out.1.2.2 HA3.out); have HC4 := Lib.hid (hot _ _ _ _ _ _ _ HN.out.2.2.1.2.2 HA4.out)
              clear hk1 hbw hot hW f0 f1 ff x0 x1 o0 o1 o2 o3 o4 o5
              go_wp2_with fail
              go_roundw
              case rel => exact ⟨i + 1, by omega, by go_num, st1, _, _, _, _, _, _, _, _, HOK1, HC1, HC2, HC3, HC4, HW2⟩
              case measure => simp [intOf]; omega
        · subst heq
          have x0 := newcell M3.out.hx 0 _ rfl; have x1 := newcell M3.out.hx 1 _ rfl
          have y0 := newcell M1.out.hx 0 _ rfl; have y1 := newcell M1.out.hx 1 _ rfl
          have z0 := newcell M4.out.hx 0 _ rfl; have z1 := newcell M4.out.hx 1 _ rfl
          have u0 := newcell M2.out.hx 0 _ rfl; have u1 := newcell M2.out.hx 1 _ rfl
          have hlf : ¬ (i : Int) < i := by omega
          obtain ⟨bq, hbq⟩ : ∃ x, x = eqS st su := ⟨_, rfl⟩
          have HBQ := Lib.hid hbq
          have hts := eqS_beq st su
          rw [← hbq] at hts
          clear hbq
          go_wp2_with fail
          refine (rsame10g M4.out.hp.1 M4.out.ht M2.out.hp.1 M2.out.ht (HOA.out.1.ok (by omega))).mono ?_; rintro _ wx ⟨rfl, hbx⟩
          rw [← HBQ.out]
          have HBX := Lib.hid hbx
          have x0 := Ext.cell ⟨wx, hbx⟩ x0; have x1 := Ext.cell ⟨wx, hbx⟩ x1; have y0 := Ext.cell ⟨wx, hbx⟩ y0; have y1 := Ext.cell ⟨wx, hbx⟩ y1
          simp only at x0 x1 y0 y1
          have S1 := Lib.hid (M3.out.below hbx); have S2 := Lib.hid (M1.out.below hbx)
          have HWX := Lib.hid (below_on HW2.out hbx)
          clear hbx z0 z1 u0 u1
          go_upto_region 16 with fail
          have x0 := Ext.cells x0; have x1 := Ext.cells x1; have y0 := Ext.cells y0; have y1 := Ext.cells y1
          cases bq
          all_goals
            (with_reducible refine wp_region_mix (fun w' => ∃ y : Ext wx, w' = y.w) ?_ ?_ ?_ ?_; kernel_rfl; kernel_rfl; exact ⟨⟨wx.drew, (Below.refl _ _).drew⟩, rfl⟩)
            repeat (first | ((with_reducible refine mix_skip (by kernel_rfl) ?_); go_big_quiet_skip; (with_reducible refine mix_on ?_)) | ((with_reducible refine mix_plain (by kernel_rfl) ?_); (first | go_big_quiet_skip | (go_big_quiet_want; go_big_quiet_op; go_big_quiet_on)); (with_reducible refine mix_on ?_)))
            ((with_reducible refine wpMix_chain (by kernel_rfl) (by kernel_rfl) (fun K HK => ?_)); go_step)
            refine (msame10 (S1.out.below (Below.refl _ _).drew).hp.1 (S1.out.below (Below.refl _ _).drew).ht (S2.out.below (Below.refl _ _).drew).hp.1 (S2.out.below (Below.refl _ _).drew).ht HOA.out.1.n6 (by have := HOA.out.1.ml; omega) (fun i => by have := HOA.out.1.fl i; omega)).mono ?_; rintro _ z1 ⟨rfl, hb1⟩
            rw [← HBQ.out]
            have HZ1 := Lib.hid (below_on (Below.refl _ _).drew hb1)
            refine HK.out _ _ ⟨⟨z1, HZ1.out⟩, rfl⟩ ?_
            clear HK K hb1
            repeat (first | ((with_reducible refine mix_skip (by kernel_rfl) ?_); go_big_quiet_skip; (with_reducible refine mix_on ?_)) | ((with_reducible refine mix_plain (by kernel_rfl) ?_); (first | go_big_quiet_skip | (go_big_quiet_want; go_big_quiet_op; go_big_quiet_on)); (with_reducible refine mix_on ?_)))
            ((with_reducible refine wpMix_chain (by kernel_rfl) (by kernel_rfl) (fun K HK => ?_)); go_step)
            have SA := Lib.hid (S1.out.below HZ1.out)
            refine (mtext SA.out.hp.1 SA.out.ht (HOA.out.1.up (by omega)) HOA.out.2 (HPW.out.on (below_on HWX.out HZ1.out) (below_on HWX.out HZ1.out).size)).mono ?_; rintro _ z2 ⟨rfl, hb1⟩
            have HZ2 := Lib.hid (below_on HZ1.out hb1)
            refine HK.out _ _ ⟨⟨z2, HZ2.out⟩, rfl⟩ ?_
            clear HK K hb1
            repeat (first | ((with_reducible refine mix_skip (by kernel_rfl) ?_); go_big_quiet_skip; (with_reducible refine mix_on ?_)) | ((with_reducible refine mix_plain (by kernel_rfl) ?_); (first | go_big_quiet_skip | (go_big_quiet_want; go_big_quiet_op; go_big_quiet_on)); (with_reducible refine mix_on ?_)))
            ((with_reducible refine wpMix_chain (by kernel_rfl) (by kernel_rfl) (fun K HK => ?_)); go_step)
            have SB := Lib.hid (S2.out.below HZ2.out)
            refine (mtext SB.out.hp.1 SB.out.ht (HOK2.out.1.up (by omega)) HOK2.out.2 (HPW.out.on (below_on HWX.out HZ2.out) (below_on HWX.out HZ2.out).size)).mono ?_; rintro _ z3 ⟨rfl, hb1⟩
            have HZ3 := Lib.hid (below_on HZ2.out hb1)
            refine HK.out _ _ ⟨⟨z3, HZ3.out⟩, rfl⟩ ?_
            clear HK K hb1
            repeat (first | ((with_reducible refine mix_skip (by kernel_rfl) ?_); go_big_quiet_skip; (with_reducible refine mix_on ?_)) | ((with_reducible refine mix_plain (by kernel_rfl) ?_); (first | go_big_quiet_skip | (go_big_quiet_want; go_big_quiet_op; go_big_quiet_on)); (with_reducible refine mix_on ?_)))
            ((with_reducible refine wpMix_chain (by kernel_rfl) (by kernel_rfl) (fun K HK => ?_)); go_step)
            refine (lives10_calls _).mono ?_; rintro _ z4 ⟨rfl, hb1⟩
            have HZ4 := Lib.hid (below_on HZ3.out hb1)
            refine HK.out _ _ ⟨⟨z4, HZ4.out⟩, rfl⟩ ?_
            clear HK K hb1
            repeat (first | ((with_reducible refine mix_skip (by kernel_rfl) ?_); go_big_quiet_skip; (with_reducible refine mix_on ?_)) | ((with_reducible refine mix_plain (by kernel_rfl) ?_); (first | go_big_quiet_skip | (go_big_quiet_want; go_big_quiet_op; go_big_quiet_on)); (with_reducible refine mix_on ?_)))
            refine wpMix_nil ?_
            go_wp2_with fail
            (try go_ret)
            rw [HQ.out]
            exact ⟨rfl, below_on HWX.out HZ4.out⟩
end Go.Proofs.YtkgfhomoipbjoaaDoor
