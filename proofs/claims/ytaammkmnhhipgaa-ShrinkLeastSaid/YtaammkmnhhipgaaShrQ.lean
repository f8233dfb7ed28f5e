/- Layer 42: ShrinkLeast. -/
import Derived.Test.YtaammkmnhhipgaaShrS
import Derived.Test.YtaammkmnhhipgaaShrO
namespace Go.Proofs.Ytaammkmnhhipgaa
open Go.RowKit
set_option linter.unusedVariables false
set_option linter.unusedSimpArgs false
theorem ones_len (P : List Ent → Bool) : ∀ (n : Nat) (l : List Ent) (a : Int), (ones P n l a).1.length ≤ l.length
  | 0, l, a => Nat.le_refl _
  | n + 1, l, a => by
    have h : (passL P 1 l a).1.length ≤ l.length := (passF_went P 1 (Nat.le_refl _) l.length 0 l a false).1
    rw [ones]
    split
    · exact Nat.le_trans (ones_len P n _ _) h
    · exact h
theorem halves_len (P : List Ent → Bool) : ∀ (n s : Nat) (l : List Ent) (a : Int), (halves P n s l a).1.length ≤ l.length
  | 0, s, l, a => ones_len P _ l a
  | n + 1, s, l, a => by
    rw [halves]
    split
    · rename_i hs
      have h : (passL P s l a).1.length ≤ l.length := (passF_went P s (by omega) l.length 0 l a false).1
      exact Nat.le_trans (halves_len P n _ _ _) h
    · exact ones_len P _ l a
theorem leastF_len (P : List Ent → Bool) (l : List Ent) : (leastF P l).1.length ≤ l.length := by
  unfold leastF
  split
  · exact halves_len P _ _ l 1
  · exact Nat.le_refl _
set_option maxHeartbeats 4000000 in
theorem shrinkLeast_walk (v0 v1 : Value) (w : World) (s0 : Fr.okN w [.int .i64, .int .i64, .int .u64, .slice [.int .i64, .bool, .int .i64, .int .i64, .int .i64, .int .i64, .int .i64]] v0) (s1 : Fr.okN w [.int .i64, .int .i64, .int .i64] v1)
    (hsz : ∀ x0 x1 x2 a n c, v0 = .agg #[x0, x1, x2, .slice (some a) n c] → c * 56 ≤ reachBytes) :
    Calls Try.prog 3 #[v0, v1] w fun e w' => e = .returned (.bool true) ∧ Below w.heap.size w w' := by
  obtain ⟨cs, rfl, s0⟩ := s0
  obtain ⟨_, _, rfl, k0, s0⟩ := Fr.get_cons s0
  obtain ⟨_, _, rfl, k1, s0⟩ := Fr.get_cons s0
  obtain ⟨_, _, rfl, k2, s0⟩ := Fr.get_cons s0
  obtain ⟨v, _, rfl, k3, s0⟩ := Fr.get_cons s0
  obtain rfl := Fr.get_nil s0
  obtain ⟨T, rfl, _⟩ := Fr.get_int k0
  obtain ⟨S, rfl, _⟩ := Fr.get_int k1
  obtain ⟨C, rfl, _⟩ := Fr.get_int k2
  obtain ⟨cs, rfl, s1⟩ := s1
  obtain ⟨_, _, rfl, j0, s1⟩ := Fr.get_cons s1
  obtain ⟨_, _, rfl, j1, s1⟩ := Fr.get_cons s1
  obtain ⟨_, _, rfl, j2, s1⟩ := Fr.get_cons s1
  obtain rfl := Fr.get_nil s1
  obtain ⟨n0, rfl, _⟩ := Fr.get_int j0
  obtain ⟨n1, rfl, _⟩ := Fr.get_int j1
  obtain ⟨n2, rfl, _⟩ := Fr.get_int j2
  obtain ⟨l, hE⟩ := list_open k3
  clear k0 k1 k2 k3 s0 s1 j0 j1 j2
  show Calls _ _ #[.agg #[.int .i64 T, .int .i64 S, .int .u64 C, v], .agg #[.int .i64 n0, .int .i64 n1, .int .i64 n2]] _ _
  refine Calls.veil fun Q HQ => ?_
  have HE := Lib.hid hE
  obtain ⟨p, c, rfl, a1, a2⟩ := hE.slice
  have HNB := Lib.hid (show l.length ≤ 2513169434843 by
    cases p with
    | none =>
      obtain ⟨p', c', he, _, _, A3⟩ := hE.parts
      by_cases h0 : 0 < l.length
      · obtain ⟨g, o, hp, _⟩ := A3.out h0
        rw [hp] at he
        injection he with e1
        cases e1
      · omega
    | some a =>
      have := hsz _ _ _ a l.length c rfl
      have hr : reachBytes = 140737488351232 := by decide
      omega)
  clear hE hsz
  go_enter Try.func3, Try.ntmps3
  go_wp2_with fail
  generalize hV : World.alloc (World.alloc w _) _ = V
  have hs : V.heap.size = w.heap.size + 2 := by rw [← hV]; simp
  have HBV := Lib.hid (show Below w.heap.size w V by rw [← hV]; (repeat (first | exact Below.refl _ _ | assumption | refine below_new ?_ _ | refine Below.drew ?_ | refine below_drewN ?_ _ | refine below_on ?_ (by assumption))))
  have Z : Hid (∀ x : Ext V, (x.w.cell? ⟨w.heap.size, 0, none⟩ = some (.int .i64 T) ∧ x.w.cell? ⟨w.heap.size, 1, none⟩ = some (.int .i64 S) ∧ x.w.cell? ⟨w.heap.size, 2, none⟩ = some (.int .u64 C) ∧ x.w.cell? ⟨w.heap.size, 3, none⟩ = some (.slice p l.length c)) ∧
      (x.w.cell? ⟨w.heap.size + 1, 0, none⟩ = some (.int .i64 n0) ∧ x.w.cell? ⟨w.heap.size + 1, 1, none⟩ = some (.int .i64 n1) ∧ x.w.cell? ⟨w.heap.size + 1, 2, none⟩ = some (.int .i64 n2))) := by
    have e : w.heap.size + 1 = (w.alloc (.cells #[.int .i64 T, .int .i64 S, .int .u64 C, .slice p l.length c] 27)).heap.size := by simp
    refine Lib.hid fun x => ⟨⟨Ext.made1 hV 0 _ rfl x, Ext.made1 hV 1 _ rfl x, Ext.made1 hV 2 _ rfl x, Ext.made1 hV 3 _ rfl x⟩, ?_⟩
    rw [e]
    exact ⟨Ext.made hV 0 _ rfl x, Ext.made hV 1 _ rfl x, Ext.made hV 2 _ rfl x⟩
  have HEV := Lib.hid (HE.out.below HBV.out)
  clear hV
  have HS := Lib.hid hs
  clear hs
  obtain ⟨bn, hbn⟩ : ∃ bn, bn = w.heap.size + 1 := ⟨_, rfl⟩
  have HBN := Lib.hid hbn
  rw [← hbn]
  rw [← hbn] at Z
  clear hbn
  refine (sleast0 T S C _ l V HEV.out HNB.out).mono ?_; rintro _ w1 ⟨v1, rfl, ho1, hb1⟩
  have HB1 := Lib.hid hb1
  obtain ⟨p1, c1, rfl, _, _⟩ := own_slice ho1
  clear ho1 hb1
  go_upto_region 2 with fail
  generalize hU : World.alloc w1 _ = U
  have HBU := Lib.hid (show Below V.heap.size V U by rw [← hU]; exact HB1.out.alloc HB1.out.size _)
  have x0 := (Ext.made hU 0 _ rfl ⟨U, Below.refl _ _⟩ : U.cell? ⟨w1.heap.size, 0, none⟩ = some (.int .i64 T))
  have x1 := (Ext.made hU 1 _ rfl ⟨U, Below.refl _ _⟩ : U.cell? ⟨w1.heap.size, 1, none⟩ = some (.int .i64 S))
  have x2 := (Ext.made hU 2 _ rfl ⟨U, Below.refl _ _⟩ : U.cell? ⟨w1.heap.size, 2, none⟩ = some (.int .u64 C))
  have x3 := (Ext.made hU 3 _ rfl ⟨U, Below.refl _ _⟩ : U.cell? ⟨w1.heap.size, 3, none⟩ = some (.slice p1 l.length c1))
  clear hU
  generalize w1.heap.size = qa at *
  obtain ⟨⟨z0, z1, z2, z3⟩, _⟩ := Z.out ⟨U, HBU.out⟩
  simp only at z0 z1 z2 z3
  rcases (by omega : 120 < l.length ∨ l.length ≤ 120) with hn | hn
  · go_wp2_with fail
    refine (lives42_calls _).mono ?_; rintro _ w2 ⟨rfl, hb2⟩
    have HF := Lib.hid (below_on HBV.out (below_on HBU.out hb2))
    clear hb2
    go_wp2_with fail
    (try go_ret)
    rw [HQ.out]
    exact ⟨rfl, HF.out⟩
  · go_upto_region 4 with fail
    clear x0 x1 x2 x3 z0 z1 z2
    have HSU := Lib.hid (show EL (U.alloc (.cells #[] 43)) (.slice p l.length c) l from ER.alloc (HEV.out.below HBU.out) _)
    have z3 := Ext.on z3
    go_wp2_with (at_builtin; refine wpList_append_el rfl _ _ rfl U.heap.size _ [] l rfl (own_none7 U) _ rfl HSU.out (by simp; omega) (by simp) ?_)
    intro v4 w4 ho4 hg4
    have ho4 : OwnL w4 U.heap.size v4 l := by simpa using ho4
    have HB4 := Lib.hid (show Below V.heap.size V w4 from below_on HBU.out (grow_stepE (W := U) (own_none7 U) ((Below.refl U.heap.size U).alloc (Nat.le_refl _) _) (Nat.le_refl _) hg4))
    obtain ⟨p4, c4, rfl, d1, d2⟩ := own_slice ho4
    have H4 := Lib.hid ho4
    clear ho4 hg4 z3 HSU
    obtain ⟨⟨z0, z1, z2, z3⟩, ⟨t0, t1, t2⟩⟩ := Z.out ⟨w4, HB4.out⟩
    simp only at z0 z1 z2 z3 t0 t1 t2
    have HWN := Lib.hid (show WN w.heap.size bn T S C n0 n1 n2 w4 from ⟨⟨z0, z1, z2⟩, ⟨t0, t1, t2⟩⟩)
    have HE4 := Lib.hid (HEV.out.below HB4.out)
    have HSZ := Lib.hid (show w.heap.size + 2 ≤ w4.heap.size by have := HB4.out.size; have := HS.out; omega)
    clear t0 t1 t2
    go_wp2_with fail
    refine (sleast T S C (.slice p l.length c) 7 #[.pointer (some ⟨w.heap.size, 0, none⟩), .pointer (some ⟨bn, 0, none⟩)] l w4 (badN n0 n1 n2) (WN w.heap.size bn T S C n0 n1 n2) HE4.out (by omega) (says7 _ _ _ _ _ _ _ _) (fun b hb => WN.stays (by have := HSZ.out; omega) (by have := HSZ.out; have := HBN.out; omega)) HWN.out cf7).mono ?_
    rintro _ w5 ⟨v5, rfl, he5, hb5⟩
    obtain ⟨R, hR⟩ : ∃ R, R = leastF (badN n0 n1 n2) l := ⟨_, rfl⟩
    have HRL := Lib.hid (fun (w' : World) (h : EL w' (.slice p4 l.length c4) l) => rleast n0 n1 n2 l (.slice p4 l.length c4) w' h (by omega))
    have HLR := Lib.hid (leastF_len (badN n0 n1 n2) l)
    rw [← hR] at he5 HRL HLR
    rw [← hR]
    clear hR
    have HE5 := Lib.hid he5
    have HB5 := Lib.hid (show Below V.heap.size V w5 from below_on HB4.out hb5)
    have HWAS := Lib.hid (own_EL (own_kept7 H4.out hb5))
    obtain ⟨p5, c5, rfl, _, _⟩ := he5.slice
    clear he5 hb5 z0 z1 z2 z3 H4
    go_upto_region 6 with fail
    generalize hX : World.alloc w5 _ = X
    have HBX := Lib.hid (show Below V.heap.size V X ∧ Below w5.heap.size w5 X by rw [← hX]; exact ⟨HB5.out.alloc HB5.out.size _, (Below.refl _ _).alloc (Nat.le_refl _) _⟩)
    have HY : Hid (∀ x : Ext X, x.w.cell? ⟨w5.heap.size, 0, none⟩ = some (.int .i64 T) ∧ x.w.cell? ⟨w5.heap.size, 1, none⟩ = some (.int .i64 S) ∧ x.w.cell? ⟨w5.heap.size, 2, none⟩ = some (.int .u64 C) ∧ x.w.cell? ⟨w5.heap.size, 3, none⟩ = some (.slice p5 R.1.length c5)) :=
      Lib.hid fun x => ⟨Ext.made hX 0 _ rfl x, Ext.made hX 1 _ rfl x, Ext.made hX 2 _ rfl x, Ext.made hX 3 _ rfl x⟩
    have HE6 := Lib.hid (HE5.out.below HBX.out.2)
    have HW6 := Lib.hid (HWAS.out.below HBX.out.2)
    clear hX HE5 HWAS
    generalize w5.heap.size = qb at *
    obtain ⟨_, ⟨t0, t1, t2⟩⟩ := Z.out ⟨X, HBX.out.1⟩
    simp only at t0 t1 t2
    go_wp2_with fail
    refine (HRL.out X HW6.out).mono ?_
    rintro _ w7 ⟨v7, rfl, he7, hb7⟩
    have HE7 := Lib.hid he7
    have HB7 := Lib.hid (show Below V.heap.size V w7 from below_on HBX.out.1 hb7)
    have HE6 := Lib.hid (HE6.out.below hb7)
    have HW7 := Lib.hid (HW6.out.below hb7)
    have HS7 := Lib.hid (HEV.out.below HB7.out)
    have HX7 := Lib.hid hb7
    obtain ⟨p7, c7, rfl, _, _⟩ := he7.slice
    clear he7 hb7 t0 t1 t2 HRL
    have hz := fun x : Ext w7 => (Z.out ⟨x.w, below_on HB7.out x.h⟩).1
    have hy := fun x : Ext w7 => HY.out ⟨x.w, below_on HX7.out x.h⟩
    have z0 : w7.cell? ⟨w.heap.size, 0, none⟩ = some (.int .i64 T) := (hz ⟨w7, Below.refl _ _⟩).1
    have z1 : w7.cell? ⟨w.heap.size, 1, none⟩ = some (.int .i64 S) := (hz ⟨w7, Below.refl _ _⟩).2.1
    have z2 : w7.cell? ⟨w.heap.size, 2, none⟩ = some (.int .u64 C) := (hz ⟨w7, Below.refl _ _⟩).2.2.1
    have y0 : w7.cell? ⟨qb, 0, none⟩ = some (.int .i64 T) := (hy ⟨w7, Below.refl _ _⟩).1
    have y1 : w7.cell? ⟨qb, 1, none⟩ = some (.int .i64 S) := (hy ⟨w7, Below.refl _ _⟩).2.1
    have y2 : w7.cell? ⟨qb, 2, none⟩ = some (.int .u64 C) := (hy ⟨w7, Below.refl _ _⟩).2.2.1
    have y3 : w7.cell? ⟨qb, 3, none⟩ = some (.slice p5 R.1.length c5) := (hy ⟨w7, Below.refl _ _⟩).2.2.2
    have HZ3 := Lib.hid (fun x : Ext w7 => (hz x).2.2.2)
    clear hz hy
    go_wp2_with fail
    refine (rsame R.1 _ _ w7 HE6.out HE7.out (by have := HLR.out; omega)).mono ?_; rintro _ u1 ⟨rfl, hb1⟩
    have HU1 := Lib.hid hb1
    have z3 : u1.cell? ⟨w.heap.size, 3, none⟩ = some (.slice p l.length c) := HZ3.out ⟨u1, hb1⟩
    clear hb1 z0 z1 z2 y0 y1 y2 y3
    go_wp2_with fail
    refine (rsame l _ _ u1 (HS7.out.below HU1.out) (HW7.out.below HU1.out) (by omega)).mono ?_; rintro _ u2 ⟨rfl, hb1⟩
    have HU2 := Lib.hid (show Below w7.heap.size w7 u2 from below_on HU1.out hb1)
    clear hb1 z3
    go_wp2_with fail
    refine (lives42_calls _).mono ?_; rintro _ u3 ⟨rfl, hb1⟩
    have HF := Lib.hid (below_on HBV.out (below_on HB7.out (below_on HU2.out hb1)))
    clear hb1
    go_wp2_with fail
    (try go_ret)
    rw [HQ.out]
    exact ⟨rfl, HF.out⟩
end Go.Proofs.Ytaammkmnhhipgaa
