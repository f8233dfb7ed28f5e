/- Layer 42: Same of like lists; parts. -/
import Derived.Test.YtaammkmnhhipgaaShrE
namespace Go.Proofs.Ytaammkmnhhipgaa
open Go.RowKit
set_option linter.unusedVariables false
set_option linter.unusedSimpArgs false
theorem Ext.drewN {w : World} {g o : Nat} {v : Value} (h : w.cell? ⟨g, o, none⟩ = some v) : ∀ n, (w.drewN n).cell? ⟨g, o, none⟩ = some v := fun n => by
  have := Ext.cell ⟨w.drewN n, below_drewN (Below.refl _ _) n⟩ h
  exact this
set_option maxHeartbeats 1000000 in
theorem neqE (th : Int) (bg : Bool) (op key val hi lim th' : Int) (bg' : Bool) (op' key' val' hi' lim' : Int) (w : World)
    (h : ¬ (th = th' ∧ bg = bg' ∧ op = op' ∧ key = key' ∧ val = val' ∧ hi = hi' ∧ lim = lim')) :
    (binOp .neq 43 (.agg #[.int .i64 th, .bool bg, .int .i64 op, .int .i64 key, .int .i64 val, .int .i64 hi, .int .i64 lim]) (.agg #[.int .i64 th', .bool bg', .int .i64 op', .int .i64 key', .int .i64 val', .int .i64 hi', .int .i64 lim'])).run Try.prog w = .ok (.bool true) w := by
  by_cases h1 : th = th'
  · subst h1
    by_cases h2 : bg = bg'
    · subst h2
      by_cases h3 : op = op'
      · subst h3
        by_cases h4 : key = key'
        · subst h4
          by_cases h5 : val = val'
          · subst h5
            by_cases h6 : hi = hi'
            · subst h6
              have h7 : ¬ lim = lim' := fun e => h ⟨rfl, rfl, rfl, rfl, rfl, rfl, e⟩
              clear h
              go_simp
            · clear h
              go_simp
          · clear h
            go_simp
        · clear h
          go_simp
      · clear h
        go_simp
    · clear h
      go_simp
  · clear h
    go_simp
set_option maxHeartbeats 1000000 in
theorem eqlE (th : Int) (bg : Bool) (op key val hi lim th' : Int) (bg' : Bool) (op' key' val' hi' lim' : Int) (w : World)
    (h : ¬ (th = th' ∧ bg = bg' ∧ op = op' ∧ key = key' ∧ val = val' ∧ hi = hi' ∧ lim = lim')) :
    (binOp .eql 43 (.agg #[.int .i64 th, .bool bg, .int .i64 op, .int .i64 key, .int .i64 val, .int .i64 hi, .int .i64 lim]) (.agg #[.int .i64 th', .bool bg', .int .i64 op', .int .i64 key', .int .i64 val', .int .i64 hi', .int .i64 lim'])).run Try.prog w = .ok (.bool false) w := by
  by_cases h1 : th = th'
  · subst h1
    by_cases h2 : bg = bg'
    · subst h2
      by_cases h3 : op = op'
      · subst h3
        by_cases h4 : key = key'
        · subst h4
          by_cases h5 : val = val'
          · subst h5
            by_cases h6 : hi = hi'
            · subst h6
              have h7 : ¬ lim = lim' := fun e => h ⟨rfl, rfl, rfl, rfl, rfl, rfl, e⟩
              clear h
              go_simp
            · clear h
              go_simp
          · clear h
            go_simp
        · clear h
          go_simp
      · clear h
        go_simp
    · clear h
      go_simp
  · clear h
    go_simp
theorem ne_parts {a b : Ent} (h : ¬ a = b) : ¬ (a.th = b.th ∧ a.bg = b.bg ∧ a.op = b.op ∧ a.key = b.key ∧ a.val = b.val ∧ a.hi = b.hi ∧ a.lim = b.lim) := by
  intro e
  apply h
  obtain ⟨h1, h2, h3, h4, h5, h6, h7⟩ := e
  cases a; cases b; simp_all
set_option maxHeartbeats 2000000 in
theorem rsame (l : List Ent) (va vb : Value) (w : World) (ha : EL w va l) (hb : EL w vb l) (hn : l.length ≤ 100000) :
    Calls Try.prog 10 #[va, vb] w fun e w' => e = .returned (.bool true) ∧ Below w.heap.size w w' := by
  refine Calls.veil fun Q HQ => ?_
  obtain ⟨p, c, rfl, a1, a2, A3⟩ := ha.parts
  obtain ⟨p', c', rfl, b1, b2, B3⟩ := hb.parts
  clear ha hb
  go_enter Try.func10, Try.ntmps10
  go_wp2_with fail
  go_loopw [5] (fun iv wr => ∃ i : Nat, i ≤ l.length ∧ iv = .int .i64 i ∧ Below w.heap.size w wr)
    (fun iv _ => l.length - (intOf iv).toNat)
  case atStart => exact ⟨0, by omega, rfl, Below.refl _ _⟩
  case round =>
    obtain ⟨i, hi, rfl, hbx⟩ := hrel
    rcases (by omega : i < l.length ∨ i = l.length) with hlt | heq
    · obtain ⟨g, o, rfl, hA⟩ := A3.out (by omega)
      obtain ⟨g', o', rfl, hB⟩ := B3.out (by omega)
      have hA := (hA.below hbx).cells i hlt
      have hB := (hB.below hbx).cells i hlt
      generalize fn l i = e at hA hB
      obtain ⟨th, bg, op, key, val, hi2, lim⟩ := e
      simp only at hA hB
      obtain ⟨x0, x1, x2, x3, x4, x5, x6⟩ := hA
      obtain ⟨y0, y1, y2, y3, y4, y5, y6⟩ := hB
      have HX := Lib.hid hbx
      clear hbx
      have x0 := Ext.drewN x0; have x1 := Ext.drewN x1; have x2 := Ext.drewN x2; have x3 := Ext.drewN x3; have x4 := Ext.drewN x4; have x5 := Ext.drewN x5; have x6 := Ext.drewN x6
      have y0 := Ext.drewN y0; have y1 := Ext.drewN y1; have y2 := Ext.drewN y2; have y3 := Ext.drewN y3; have y4 := Ext.drewN y4; have y5 := Ext.drewN y5; have y6 := Ext.drewN y6
      go_wp2_with fail
      (try go_quiet (fail))
      go_wp2_with fail
      go_roundw
      case rel => exact ⟨i + 1, by omega, by go_num, by first | exact below_drewN HX.out nq | exact HX.out.drew | exact HX.out⟩
      case measure => simp [intOf]; omega
    · have hge : l.length ≤ i := by omega
      have HX := Lib.hid hbx
      clear heq hbx
      go_wp2_with fail
      (try go_ret)
      rw [HQ.out]
      exact ⟨rfl, HX.out⟩
set_option maxHeartbeats 4000000 in
theorem spart (l k : List Ent) (va vb : Value) (w : World) (ha : EL w va l) (hb : EL w vb k) (hl : l.length ≤ 100000) (hk : k.length ≤ 100000) :
    Calls Try.prog 13 #[va, vb] w fun e w' => e = .returned (.bool (l.isSublist k)) ∧ Below w.heap.size w w' := by
  refine Calls.veil fun Q HQ => ?_
  have HA := Lib.hid ha
  obtain ⟨p, c, rfl, a1, a2⟩ := ha.slice
  obtain ⟨q, d, rfl, b1, b2, B3⟩ := hb.parts
  clear ha hb
  obtain ⟨R, hR⟩ : ∃ R, R = l.isSublist k := ⟨_, rfl⟩
  rw [← hR] at HQ
  have HR := Lib.hid hR
  clear hR
  go_enter Try.func13, Try.ntmps13
  go_wp2_with fail
  go_loopw [0, 9] (fun av iv wr => ∃ (i : Nat) (la : List Ent), i ≤ k.length ∧ iv = .int .i64 i ∧ Hid (EL wr av la) ∧ la.length ≤ 100000 ∧ Hid (la.isSublist (k.drop i) = R) ∧ Below w.heap.size w wr)
    (fun _ iv _ => k.length - (intOf iv).toNat)
  case atStart => exact ⟨0, l, by omega, rfl, HA, hl, HR.out.symm, Below.refl _ _⟩
  case round =>
    obtain ⟨i, la, hi, rfl, HL, hla, HS, hbx⟩ := hrel
    have HX := Lib.hid hbx
    rcases (by omega : i < k.length ∨ i = k.length) with hlt | heq
    · obtain ⟨g', o', rfl, hB⟩ := B3.out (by omega)
      have hB := (hB.below hbx).cells i hlt
      have HD := Lib.hid (show k.drop i = fn k i :: k.drop (i + 1) by rw [List.drop_eq_getElem_cons hlt, fn_get hlt])
      generalize fn k i = e at hB HD
      have HP := HL.out
      clear hbx
      cases la with
      | nil =>
        obtain ⟨pa, ca, hv, _, _⟩ := HP.slice
        simp only [List.length_nil] at hv
        subst hv
        have HS1 : Hid (([] : List Ent).isSublist (k.drop (i + 1)) = R) := by have := HS.out; rw [HD.out] at this; exact Lib.hid (this ▸ by simp [List.isSublist])
        obtain ⟨th, bg, op, key, val, hi2, lim⟩ := e
        simp only at hB
        obtain ⟨y0, y1, y2, y3, y4, y5, y6⟩ := hB
        clear HP HS HD
        go_upto_region 4 with fail
        generalize hU : World.alloc wr _ = U
        have HU := Lib.hid (show Below w.heap.size w U ∧ EL U (.slice pa 0 ca) [] by rw [← hU]; exact ⟨HX.out.alloc HX.out.size _, ER.alloc HL.out _⟩)
        clear hU y0 y1 y2 y3 y4 y5 y6
        go_quiet (fail)
        go_wp2_with fail
        go_roundw
        case rel => exact ⟨i + 1, [], by omega, by go_num, Lib.hid (HU.out.2.below (below_drewN (Below.refl _ _) nq)), by simp, HS1, below_drewN HU.out.1 nq⟩
        case measure => simp [intOf]; omega
      | cons x la =>
        obtain ⟨pa, ca, hv, c1, c2, C3⟩ := HP.parts
        obtain ⟨ga, oa, rfl, hA⟩ := C3.out (by simp)
        subst hv
        have hA := hA.cells 0 (by simp)
        have e0 : fn (x :: la) 0 = x := rfl
        rw [e0] at hA
        simp only [Nat.zero_mul, Nat.add_zero] at hA
        have hla' : la.length ≤ 100000 := by simp at hla; omega
        have hlc : la.length + 1 ≤ ca := by simpa using c1
        have HEQ : x = e → Hid (la.isSublist (k.drop (i + 1)) = R) := by
          intro h
          have := HS.out
          rw [HD.out, h] at this
          simp only [List.isSublist, beq_self_eq_true, if_true] at this
          exact Lib.hid this
        have HNE : ¬ x = e → Hid ((x :: la).isSublist (k.drop (i + 1)) = R) := by
          intro h
          have := HS.out
          rw [HD.out] at this
          have hb : (x == e) = false := by simpa using h
          simp only [List.isSublist, hb, Bool.false_eq_true, if_false] at this
          exact Lib.hid this
        have HEQ := Lib.hid HEQ; have HNE := Lib.hid HNE
        have HDR := Lib.hid (fun (h0 : 0 < (x :: la).length) => ER.dropL HP c2 c1 1 h0 (by simp))
        clear HP HS HD C3 c1
        by_cases hx : x = e
        · have HS1 := HEQ.out hx
          subst hx
          clear HEQ HNE
          obtain ⟨th, bg, op, key, val, hi2, lim⟩ := x
          simp only at hB hA
          obtain ⟨y0, y1, y2, y3, y4, y5, y6⟩ := hB
          obtain ⟨x0, x1, x2, x3, x4, x5, x6⟩ := hA
          go_upto_region 4 with fail
          generalize hU : World.alloc wr _ = U
          have HU := Lib.hid (show Below w.heap.size w U ∧ Below wr.heap.size wr U by rw [← hU]; exact ⟨HX.out.alloc HX.out.size _, (Below.refl _ _).alloc (Nat.le_refl _) _⟩)
          have z0 := Ext.drewN (Ext.made hU 0 _ rfl ⟨U, Below.refl _ _⟩ : U.cell? ⟨wr.heap.size, 0, none⟩ = some (.int .i64 th))
          have z1 := Ext.drewN (Ext.made hU 1 _ rfl ⟨U, Below.refl _ _⟩ : U.cell? ⟨wr.heap.size, 1, none⟩ = some (.bool bg))
          have z2 := Ext.drewN (Ext.made hU 2 _ rfl ⟨U, Below.refl _ _⟩ : U.cell? ⟨wr.heap.size, 2, none⟩ = some (.int .i64 op))
          have z3 := Ext.drewN (Ext.made hU 3 _ rfl ⟨U, Below.refl _ _⟩ : U.cell? ⟨wr.heap.size, 3, none⟩ = some (.int .i64 key))
          have z4 := Ext.drewN (Ext.made hU 4 _ rfl ⟨U, Below.refl _ _⟩ : U.cell? ⟨wr.heap.size, 4, none⟩ = some (.int .i64 val))
          have z5 := Ext.drewN (Ext.made hU 5 _ rfl ⟨U, Below.refl _ _⟩ : U.cell? ⟨wr.heap.size, 5, none⟩ = some (.int .i64 hi2))
          have z6 := Ext.drewN (Ext.made hU 6 _ rfl ⟨U, Below.refl _ _⟩ : U.cell? ⟨wr.heap.size, 6, none⟩ = some (.int .i64 lim))
          have x0 := Ext.drewN (Ext.cell ⟨U, HU.out.2⟩ x0); have x1 := Ext.drewN (Ext.cell ⟨U, HU.out.2⟩ x1); have x2 := Ext.drewN (Ext.cell ⟨U, HU.out.2⟩ x2); have x3 := Ext.drewN (Ext.cell ⟨U, HU.out.2⟩ x3)
          have x4 := Ext.drewN (Ext.cell ⟨U, HU.out.2⟩ x4); have x5 := Ext.drewN (Ext.cell ⟨U, HU.out.2⟩ x5); have x6 := Ext.drewN (Ext.cell ⟨U, HU.out.2⟩ x6)
          simp only at x0 x1 x2 x3 x4 x5 x6
          clear hU y0 y1 y2 y3 y4 y5 y6
          go_quiet (fail)
          have HFU := Lib.hid (show Below w.heap.size w (U.drewN nq) ∧ Below wr.heap.size wr (U.drewN nq) from ⟨below_drewN HU.out.1 nq, below_drewN HU.out.2 nq⟩)
          clear x0 x1 x2 x3 x4 x5 x6 z0 z1 z2 z3 z4 z5 z6
          rcases (by omega : 1 < ca ∨ ca = 1) with hc | hc
          · have hne : ¬ ca = 1 := by omega
            go_wp2_with fail
            go_roundw
            case rel =>
              refine ⟨i + 1, la, by omega, by go_num, ?_, hla', HS1, HFU.out.1⟩
              have := (HDR.out (by simp)).below HFU.out.2
              exact Lib.hid (by simpa [EL] using this)
            case measure => simp [intOf]; omega
          · subst hc
            have hn0 : la = [] := List.eq_nil_of_length_eq_zero (by omega)
            subst hn0
            go_wp2_with fail
            go_roundw
            case rel =>
              refine ⟨i + 1, [], by omega, by go_num, ?_, by simp, HS1, HFU.out.1⟩
              exact Lib.hid (.odd _ _ _ (by omega))
            case measure => simp [intOf]; omega
        · have HS1 := HNE.out hx
          have hneq := fun w => eqlE x.th x.bg x.op x.key x.val x.hi x.lim e.th e.bg e.op e.key e.val e.hi e.lim w (ne_parts hx)
          clear HEQ HNE HDR hx
          obtain ⟨th, bg, op, key, val, hi2, lim⟩ := x
          obtain ⟨th', bg', op', key', val', hi2', lim'⟩ := e
          simp only at hB hA hneq
          obtain ⟨y0, y1, y2, y3, y4, y5, y6⟩ := hB
          obtain ⟨x0, x1, x2, x3, x4, x5, x6⟩ := hA
          go_upto_region 4 with fail
          generalize hU : World.alloc wr _ = U
          have HU := Lib.hid (show Below w.heap.size w U ∧ Below wr.heap.size wr U by rw [← hU]; exact ⟨HX.out.alloc HX.out.size _, (Below.refl _ _).alloc (Nat.le_refl _) _⟩)
          have z0 := Ext.drewN (Ext.made hU 0 _ rfl ⟨U, Below.refl _ _⟩ : U.cell? ⟨wr.heap.size, 0, none⟩ = some (.int .i64 th'))
          have z1 := Ext.drewN (Ext.made hU 1 _ rfl ⟨U, Below.refl _ _⟩ : U.cell? ⟨wr.heap.size, 1, none⟩ = some (.bool bg'))
          have z2 := Ext.drewN (Ext.made hU 2 _ rfl ⟨U, Below.refl _ _⟩ : U.cell? ⟨wr.heap.size, 2, none⟩ = some (.int .i64 op'))
          have z3 := Ext.drewN (Ext.made hU 3 _ rfl ⟨U, Below.refl _ _⟩ : U.cell? ⟨wr.heap.size, 3, none⟩ = some (.int .i64 key'))
          have z4 := Ext.drewN (Ext.made hU 4 _ rfl ⟨U, Below.refl _ _⟩ : U.cell? ⟨wr.heap.size, 4, none⟩ = some (.int .i64 val'))
          have z5 := Ext.drewN (Ext.made hU 5 _ rfl ⟨U, Below.refl _ _⟩ : U.cell? ⟨wr.heap.size, 5, none⟩ = some (.int .i64 hi2'))
          have z6 := Ext.drewN (Ext.made hU 6 _ rfl ⟨U, Below.refl _ _⟩ : U.cell? ⟨wr.heap.size, 6, none⟩ = some (.int .i64 lim'))
          have x0 := Ext.drewN (Ext.cell ⟨U, HU.out.2⟩ x0); have x1 := Ext.drewN (Ext.cell ⟨U, HU.out.2⟩ x1); have x2 := Ext.drewN (Ext.cell ⟨U, HU.out.2⟩ x2); have x3 := Ext.drewN (Ext.cell ⟨U, HU.out.2⟩ x3)
          have x4 := Ext.drewN (Ext.cell ⟨U, HU.out.2⟩ x4); have x5 := Ext.drewN (Ext.cell ⟨U, HU.out.2⟩ x5); have x6 := Ext.drewN (Ext.cell ⟨U, HU.out.2⟩ x6)
          simp only at x0 x1 x2 x3 x4 x5 x6
          clear hU y0 y1 y2 y3 y4 y5 y6
          go_quiet (fail)
          have HFU := Lib.hid (show Below w.heap.size w (U.drewN nq) ∧ Below wr.heap.size wr (U.drewN nq) from ⟨below_drewN HU.out.1 nq, below_drewN HU.out.2 nq⟩)
          clear x0 x1 x2 x3 x4 x5 x6 z0 z1 z2 z3 z4 z5 z6
          go_wp2_with fail
          go_roundw
          case rel => exact ⟨i + 1, _, by omega, by go_num, Lib.hid (HL.out.below HFU.out.2), hla, HS1, HFU.out.1⟩
          case measure => simp [intOf]; omega
    · have HFIN : Hid (la.isEmpty = R) := by
        have := HS.out
        rw [heq, List.drop_length] at this
        rw [← this]
        cases la <;> exact Lib.hid rfl
      have hge : k.length ≤ i := by omega
      obtain ⟨pa, ca, rfl, _, _⟩ := HL.out.slice
      clear heq hbx
      cases la with
      | nil =>
        go_wp2_with fail
        (try go_ret)
        rw [HQ.out, ← HFIN.out]
        exact ⟨rfl, HX.out⟩
      | cons x la =>
        have hz : decide ((((x :: la).length : Nat) : Int) = 0) = false := decide_eq_false (by simp; omega)
        go_wp2_with fail
        (try go_ret)
        rw [HQ.out, ← HFIN.out]
        exact ⟨by first | rfl | simp, HX.out⟩
end Go.Proofs.Ytaammkmnhhipgaa
