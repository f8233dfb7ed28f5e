/- Layer 6: the walk of MemNone. -/
import Derived.Test.YtdfkpkjbfhjglaaMemL
namespace Go.Proofs.Ytdfkpkjbfhjglaa
open Go.RowKit
set_option linter.unusedVariables false
set_option linter.unusedSimpArgs false

theorem msame' (g1 C1 g2 C2 n : Nat) (f : Nat → Int) (w : World) (n2 : n ≤ 4096) (k1 : n ≤ C1) (k2 : n ≤ C2) (m1 : C1 ≤ 9223372036854775807) (m2 : C2 ≤ 9223372036854775807) (h1 : RowAt w g1 n f) (h2 : RowAt w g2 n f) :
    Calls Try.prog 12 #[.slice (some ⟨g1, 0, none⟩) n C1, .slice (some ⟨g2, 0, none⟩) n C2] w fun e w' => e = .returned (.bool true) ∧ Below w.heap.size w w' :=
  msame g1 0 C1 g2 0 C2 n f w n2 k1 k2 m1 m2 (fun i hi => by simpa using h1.row i hi) (fun i hi => by simpa using h2.row i hi)

set_option maxHeartbeats 4000000 in
set_option maxRecDepth 100000 in
theorem memNone_walk (v0 v1 v2 : Value) (w : World) (s0 : Fr.ok1 w (.int .i64) v0) (s1 : Fr.ok1 w (.slice [.int .i64, .int .i64, .int .i64, .int .u64, .int .u64, .int .u64]) v1) (s2 : Fr.okN w [.int .i64, .int .i64, .int .i64, .int .u64, .int .u64, .int .u64] v2) :
    Calls Try.prog 4 #[v0, v1, v2] w fun e w' => e = .returned (.bool true) ∧ Below w.heap.size w w' := by
  obtain ⟨m, rfl, wm⟩ := Fr.get_int s0
  obtain ⟨ao, len, cap, rfl, hlc, hcap, hops⟩ := ops_open s1
  obtain ⟨cs, rfl, hcs⟩ := s2
  obtain ⟨k, a, c, is, old, x, rfl, r1, r2, r3⟩ := op_cells hcs
  obtain ⟨x0, x1⟩ := r3
  have HOPS := Lib.hid hops
  clear s0 s1 hcs hops r1 r2 wm
  show Calls Try.prog _ #[_, _, .agg #[.int .i64 k, .int .i64 a, .int .i64 c, .int .u64 is, .int .u64 old, .int .u64 x]] w _
  go_enter Try.func4, Try.ntmps4
  go_wp2_with fail
  generalize hW : World.alloc w _ = W
  have hBW : Below w.heap.size w W := by rw [← hW]; (repeat (first | exact Below.refl _ _ | assumption | refine below_new ?_ _ | refine Below.drew ?_ | refine below_drewN ?_ _ | refine below_on ?_ (by assumption)))
  have o0 : W.cell? ⟨w.heap.size, 0, none⟩ = some (.int .i64 k) := Ext.made_in hW (Below.refl _ _) 0 _ rfl
  have o1 : W.cell? ⟨w.heap.size, 1, none⟩ = some (.int .i64 a) := Ext.made_in hW (Below.refl _ _) 1 _ rfl
  have o2 : W.cell? ⟨w.heap.size, 2, none⟩ = some (.int .i64 c) := Ext.made_in hW (Below.refl _ _) 2 _ rfl
  have o3 : W.cell? ⟨w.heap.size, 3, none⟩ = some (.int .u64 is) := Ext.made_in hW (Below.refl _ _) 3 _ rfl
  have o4 : W.cell? ⟨w.heap.size, 4, none⟩ = some (.int .u64 old) := Ext.made_in hW (Below.refl _ _) 4 _ rfl
  have o5 : W.cell? ⟨w.heap.size, 5, none⟩ = some (.int .u64 x) := Ext.made_in hW (Below.refl _ _) 5 _ rfl
  clear hW
  refine (mdo0 k a c is old x W).mono ?_; rintro _ w1 ⟨rfl, hb⟩
  have o0 := Ext.use (Ext.cells o0) hb; have o1 := Ext.use (Ext.cells o1) hb; have o2 := Ext.use (Ext.cells o2) hb; have o3 := Ext.use (Ext.cells o3) hb; have o4 := Ext.use (Ext.cells o4) hb; have o5 := Ext.use (Ext.cells o5) hb
  have hB1 := below_on hBW hb
  have hOP : ∀ i, i < len → ∃ g off, ao = some ⟨g, off, none⟩ ∧ ∃ k a c is old x, OpCells w1 g (off + i * 6) k a c is old x := fun i hi => by
    obtain ⟨g, off, e, k, a, c, is, old, x, h⟩ := HOPS.out i hi
    exact ⟨g, off, e, k, a, c, is, old, x, h.below hB1⟩
  have HOP := Lib.hid hOP
  clear hb hBW hOP HOPS
  go_wp2_with (first | (go_at_call 14; refine (maccs0 _).mono ?_; rintro _ _ ⟨rfl, rfl⟩) | (go_at_call 15; refine (mfault0 _).mono ?_; rintro _ _ ⟨rfl, rfl⟩) | (go_at_call 13; refine (mwords0 _).mono ?_; rintro _ _ ⟨rfl, rfl⟩) | (go_at_call 16; refine (mclone0 _).mono ?_; rintro _ _ ⟨rfl, rfl⟩))
  rcases (by omega : (m < 1 ∧ 60 < len) ∨ (m < 1 ∧ len ≤ 60) ∨ (4096 < m ∧ 60 < len) ∨ (4096 < m ∧ len ≤ 60) ∨ (1 ≤ m ∧ m ≤ 4096 ∧ 60 < len) ∨ (200 < m ∧ m ≤ 4096 ∧ len ≤ 60) ∨ (1 ≤ m ∧ m ≤ 200 ∧ len ≤ 60)) with ⟨j1, j2⟩ | ⟨j1, j2⟩ | ⟨j1, j2⟩ | ⟨j1, j2⟩ | ⟨j1, j2, j3⟩ | ⟨j1, j2, j3⟩ | ⟨j1, j2, j3⟩
  · refine (mnew_no m w1 (.inl j1)).mono ?_; rintro _ w2 ⟨rfl, rfl⟩
    go_wp2_with fail
    refine (lives6_calls _).mono ?_; rintro _ w2 ⟨rfl, hb⟩
    go_wp2_with fail
    go_ret
    exact ⟨rfl, below_on hB1 hb⟩
  · refine (mnew_no m w1 (.inl j1)).mono ?_; rintro _ w2 ⟨rfl, rfl⟩
    go_wp2_with fail
    refine (lives6_calls _).mono ?_; rintro _ w2 ⟨rfl, hb⟩
    go_wp2_with fail
    go_ret
    exact ⟨rfl, below_on hB1 hb⟩
  · refine (mnew_no m w1 (.inr j1)).mono ?_; rintro _ w2 ⟨rfl, rfl⟩
    go_wp2_with fail
    refine (lives6_calls _).mono ?_; rintro _ w2 ⟨rfl, hb⟩
    go_wp2_with fail
    go_ret
    exact ⟨rfl, below_on hB1 hb⟩
  · refine (mnew_no m w1 (.inr j1)).mono ?_; rintro _ w2 ⟨rfl, rfl⟩
    go_wp2_with fail
    refine (lives6_calls _).mono ?_; rintro _ w2 ⟨rfl, hb⟩
    go_wp2_with fail
    go_ret
    exact ⟨rfl, below_on hB1 hb⟩
  · obtain ⟨n, rfl⟩ := Int.eq_ofNat_of_zero_le (show 0 ≤ m by omega)
    refine (mnew n w1 (by omega) (by omega)).mono ?_; rintro _ w2 ⟨b, g, rfl, hb, hg, hM, hB⟩
    have hB2 := below_on hB1 hB
    clear hM hB hb hg
    go_wp2_with fail
    refine (lives6_calls _).mono ?_; rintro _ w3 ⟨rfl, hb⟩
    go_wp2_with fail
    go_ret
    exact ⟨rfl, below_on hB2 hb⟩
  · obtain ⟨n, rfl⟩ := Int.eq_ofNat_of_zero_le (show 0 ≤ m by omega)
    refine (mnew n w1 (by omega) (by omega)).mono ?_; rintro _ w2 ⟨b, g, rfl, hb, hg, hM, hB⟩
    have hB2 := below_on hB1 hB
    clear hM hB hb hg
    go_wp2_with fail
    refine (lives6_calls _).mono ?_; rintro _ w3 ⟨rfl, hb⟩
    go_wp2_with fail
    go_ret
    exact ⟨rfl, below_on hB2 hb⟩
  · obtain ⟨n, rfl⟩ := Int.eq_ofNat_of_zero_le (show 0 ≤ m by omega)
    refine (mnew n w1 (by omega) (by omega)).mono ?_; rintro _ w2 ⟨b, g, rfl, hb, hg, hM, hB⟩
    have n1 : 1 ≤ n := by omega
    have n2 : n ≤ 200 := by omega
    have HN := Lib.hid hM
    have HW1 := Lib.hid hB1.size
    have HS0 := Lib.hid (show w.heap.size < w1.heap.size from World.block_lt_of_cell? w1 ⟨w.heap.size, 0, none⟩ o0)
    have Hb := Lib.hid hb; have Hg := Lib.hid hg
    clear hM hb hg j1 j2
    go_wp2_with fail
    go_loopw [11] (fun iv wr => ∃ i : Nat, i ≤ len ∧ iv = .int .i64 i ∧ ∃ (f : Nat → Int) (acc : Int) (flt : Bool) (C : Nat), MemAt wr b g n C f acc flt ∧ 0 ≤ acc ∧ acc ≤ i ∧ Below w1.heap.size w1 wr)
      (fun iv _ => len - (intOf iv).toNat)
    case atStart =>
      exact ⟨0, Nat.zero_le _, rfl, _, 0, false, n, HN.out, by omega, by omega, hB⟩
    case round =>
      clear hB
      obtain ⟨i, hi, rfl, f, acc, flt, C, hM, ha0, ha1, hbel⟩ := hrel
      rcases (by omega : i < len ∨ len ≤ i) with hlt | hge
      · obtain ⟨go, off, rfl, k', a', c', is', old', x', h0, h1, h2, h3, h4, h5, _, _, h6⟩ := HOP.out i hlt
        have h0 := Ext.use (Ext.cells h0) hbel; have h1 := Ext.use (Ext.cells h1) hbel; have h2 := Ext.use (Ext.cells h2) hbel; have h3 := Ext.use (Ext.cells h3) hbel; have h4 := Ext.use (Ext.cells h4) hbel; have h5 := Ext.use (Ext.cells h5) hbel
        have HM := Lib.hid hM; clear hM
        go_wp2_with fail
        refine (mdo b g n C f acc k' a' c' is' old' x' flt wr HM.out ha0 (by omega) h6.1 h6.2).mono ?_; rintro _ w3 ⟨rfl, hM3, hO⟩
        have hbel3 := hbel.trans (hO.below Hb.out Hg.out hbel.size)
        have HM3 := Lib.hid hM3
        clear hM3 hO
        go_wp2_with fail
        go_roundw
        case rel => exact ⟨i + 1, by omega, by go_num, _, acc + 1, _, C, HM3.out, by omega, by omega, hbel3⟩
        case measure => simp [intOf]; omega
      · have o0 := Ext.use (Ext.cells o0) hbel; have o1 := Ext.use (Ext.cells o1) hbel; have o2 := Ext.use (Ext.cells o2) hbel; have o3 := Ext.use (Ext.cells o3) hbel; have o4 := Ext.use (Ext.cells o4) hbel; have o5 := Ext.use (Ext.cells o5) hbel
        have hBr := below_on hB1 hbel
        have HM := Lib.hid hM
        have H1 := Lib.hid hbel
        clear hM hbel HOP
        go_wp2_with fail
        refine (mclone b g n C f acc flt wr HM.out).mono ?_; rintro _ w3 ⟨b', g', C', rfl, hb', hg', hM', hB'⟩
        have o0 := Ext.use (Ext.cells o0) hB'; have o1 := Ext.use (Ext.cells o1) hB'; have o2 := Ext.use (Ext.cells o2) hB'; have o3 := Ext.use (Ext.cells o3) hB'; have o4 := Ext.use (Ext.cells o4) hB'; have o5 := Ext.use (Ext.cells o5) hB'
        have hBc := below_on hBr hB'
        have HB2 := Lib.hid (show w1.heap.size ≤ b' ∧ w1.heap.size ≤ g' by have := H1.out.size; omega)
        have HS := Lib.hid (show b ≠ b' ∧ b ≠ g' ∧ g ≠ b' ∧ g ≠ g' by have := HM.out.bl; have := HM.out.gl; omega)
        have HM := Lib.hid (HM.out.below hB')
        have HC := Lib.hid hM'
        have HW := Lib.hid (show w.heap.size ≤ b' ∧ w.heap.size ≤ g' ∧ w.heap.size ≤ b ∧ w.heap.size ≤ g by have := hBr.size; have := Hb.out; have := Hg.out; have := hB1.size; omega)
        clear hM' hB' hb' hg' hBr
        go_wp2_with fail
        refine (mwords b' g' n C' f acc flt w3 HC.out).mono ?_; rintro _ w4 ⟨g4, C4, rfl, e1, e2, e3, e4, hb4⟩
        have o0 := Ext.use (Ext.cells o0) hb4; have o1 := Ext.use (Ext.cells o1) hb4; have o2 := Ext.use (Ext.cells o2) hb4; have o3 := Ext.use (Ext.cells o3) hb4; have o4 := Ext.use (Ext.cells o4) hb4; have o5 := Ext.use (Ext.cells o5) hb4
        have hBc := below_on hBc hb4
        have HM := Lib.hid (HM.out.below hb4); have HC := Lib.hid (HC.out.below hb4); have H4 := Lib.hid e4
        clear hb4 e4 e1
        go_wp2_with fail
        refine (mwords b g n C f acc flt w4 HM.out).mono ?_; rintro _ w5 ⟨g5, C5, rfl, f1, f2, f3, f4, hb5⟩
        have o0 := Ext.use (Ext.cells o0) hb5; have o1 := Ext.use (Ext.cells o1) hb5; have o2 := Ext.use (Ext.cells o2) hb5; have o3 := Ext.use (Ext.cells o3) hb5; have o4 := Ext.use (Ext.cells o4) hb5; have o5 := Ext.use (Ext.cells o5) hb5
        have hBc := below_on hBc hb5
        have HM := Lib.hid (HM.out.below hb5); have HC := Lib.hid (HC.out.below hb5); have H4 := Lib.hid (H4.out.below hb5); have H5 := Lib.hid f4
        clear hb5 f4 f1
        go_wp2_with fail
        refine (msame' g4 C4 g5 C5 n f w5 (by omega) e2 f2 e3 f3 H4.out H5.out).mono ?_; rintro _ w6 ⟨rfl, hb6⟩
        have o0 := Ext.use (Ext.cells o0) hb6; have o1 := Ext.use (Ext.cells o1) hb6; have o2 := Ext.use (Ext.cells o2) hb6; have o3 := Ext.use (Ext.cells o3) hb6; have o4 := Ext.use (Ext.cells o4) hb6; have o5 := Ext.use (Ext.cells o5) hb6
        have hBc := below_on hBc hb6
        have HM := Lib.hid (HM.out.below hb6); have HC := Lib.hid (HC.out.below hb6)
        clear hb6 H4 H5 e2 f2 e3 f3
        go_wp2_with (first
          | (go_at_call 14; (with_reducible refine (maccs b' g' n C' f acc flt _ HC.out).mono ?_); rintro _ _ ⟨rfl, rfl⟩)
          | (go_at_call 14; (with_reducible refine (maccs b g n C f acc flt _ HM.out).mono ?_); rintro _ _ ⟨rfl, rfl⟩)
          | (go_at_call 15; (with_reducible refine (mfault b' g' n C' f acc flt _ HC.out).mono ?_); rintro _ _ ⟨rfl, rfl⟩)
          | (go_at_call 15; (with_reducible refine (mfault b g n C f acc flt _ HM.out).mono ?_); rintro _ _ ⟨rfl, rfl⟩))
        refine (mwords b g n C f acc flt w6 HM.out).mono ?_; rintro _ w7 ⟨g7, C7, rfl, e1, e2, e3, e4, hb7⟩
        have o0 := Ext.use (Ext.cells o0) hb7; have o1 := Ext.use (Ext.cells o1) hb7; have o2 := Ext.use (Ext.cells o2) hb7; have o3 := Ext.use (Ext.cells o3) hb7; have o4 := Ext.use (Ext.cells o4) hb7; have o5 := Ext.use (Ext.cells o5) hb7
        have hBc := below_on hBc hb7
        have HS7 := Lib.hid (show g7 ≠ b' ∧ g7 ≠ g' by have := HC.out.bl; have := HC.out.gl; omega)
        have HM := Lib.hid (HM.out.below hb7); have HC := Lib.hid (HC.out.below hb7); have H7 := Lib.hid e4
        have HO0 := Lib.hid (show w.heap.size ≠ b' ∧ w.heap.size ≠ g' by have := HB2.out; have := HS0.out; omega)
        clear hb7 e4 e1
        go_wp2_with fail
        refine (mdo b' g' n C' f acc k a c is old x flt w7 HC.out ha0 (by omega) x0 x1).mono ?_; rintro _ w8 ⟨rfl, hM8, hO⟩
        have o0 := hO.cell o0 HO0.out.1 HO0.out.2; have o1 := hO.cell o1 HO0.out.1 HO0.out.2; have o2 := hO.cell o2 HO0.out.1 HO0.out.2; have o3 := hO.cell o3 HO0.out.1 HO0.out.2; have o4 := hO.cell o4 HO0.out.1 HO0.out.2; have o5 := hO.cell o5 HO0.out.1 HO0.out.2
        have hBc := hBc.trans (hO.below HW.out.1 HW.out.2.1 hBc.size)
        have HM := Lib.hid (HM.out.only hO HS.out.1 HS.out.2.1 HS.out.2.2.1 HS.out.2.2.2)
        have H7 := Lib.hid (H7.out.only hO HS7.out.1 HS7.out.2)
        have HC := Lib.hid hM8
        clear hM8 hO
        go_wp2_with fail
        refine (mwords b g n C f acc flt w8 HM.out).mono ?_; rintro _ w9 ⟨g9, C9, rfl, f1, f2, f3, f4, hb9⟩
        have o0 := Ext.use (Ext.cells o0) hb9; have o1 := Ext.use (Ext.cells o1) hb9; have o2 := Ext.use (Ext.cells o2) hb9; have o3 := Ext.use (Ext.cells o3) hb9; have o4 := Ext.use (Ext.cells o4) hb9; have o5 := Ext.use (Ext.cells o5) hb9
        have hBc := below_on hBc hb9
        have HM := Lib.hid (HM.out.below hb9); have HC := Lib.hid (HC.out.below hb9); have H7 := Lib.hid (H7.out.below hb9); have H9 := Lib.hid f4
        clear hb9 f4 f1
        go_wp2_with fail
        refine (msame' g9 C9 g7 C7 n f w9 (by omega) f2 e2 f3 e3 H9.out H7.out).mono ?_; rintro _ w10 ⟨rfl, hb10⟩
        have o0 := Ext.use (Ext.cells o0) hb10; have o1 := Ext.use (Ext.cells o1) hb10; have o2 := Ext.use (Ext.cells o2) hb10; have o3 := Ext.use (Ext.cells o3) hb10; have o4 := Ext.use (Ext.cells o4) hb10; have o5 := Ext.use (Ext.cells o5) hb10
        have hBc := below_on hBc hb10
        have HM := Lib.hid (HM.out.below hb10); have HC := Lib.hid (HC.out.below hb10)
        clear hb10 H7 H9 e2 f2 e3 f3
        go_wp2_with fail
        refine (mdo b g n C f acc k a c is old x flt w10 HM.out ha0 (by omega) x0 x1).mono ?_; rintro _ w11 ⟨rfl, hM11, hO⟩
        have hBc := hBc.trans (hO.below HW.out.2.2.1 HW.out.2.2.2 hBc.size)
        have HC := Lib.hid (HC.out.only hO HS.out.1.symm HS.out.2.2.1.symm HS.out.2.1.symm HS.out.2.2.2.symm)
        have HM := Lib.hid hM11
        clear hM11 hO o0 o1 o2 o3 o4 o5
        go_wp2_with fail
        refine (mwords b' g' n C' _ _ _ w11 HC.out).mono ?_; rintro _ w12 ⟨g12, C12, rfl, e1, e2, e3, e4, hb12⟩
        have hBc := below_on hBc hb12
        have HM := Lib.hid (HM.out.below hb12); have H12 := Lib.hid e4
        clear hb12 e4 e1
        go_wp2_with fail
        refine (mwords b g n C _ _ _ w12 HM.out).mono ?_; rintro _ w13 ⟨g13, C13, rfl, f1, f2, f3, f4, hb13⟩
        have hBc := below_on hBc hb13
        have H12 := Lib.hid (H12.out.below hb13); have H13 := Lib.hid f4
        clear hb13 f4 f1
        go_wp2_with fail
        refine (msame' g12 C12 g13 C13 n _ w13 (by omega) e2 f2 e3 f3 H12.out H13.out).mono ?_; rintro _ w14 ⟨rfl, hb14⟩
        have hBc := below_on hBc hb14
        clear hb14 H12 H13
        go_wp2_with fail
        refine (lives6_calls _).mono ?_; rintro _ w15 ⟨rfl, hb15⟩
        go_wp2_with fail
        go_ret
        exact ⟨by simp, below_on hBc hb15⟩
end Go.Proofs.Ytdfkpkjbfhjglaa
