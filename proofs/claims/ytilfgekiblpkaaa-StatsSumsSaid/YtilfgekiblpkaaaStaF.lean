/- Layer 38: mostOpen. -/
import Derived.Test.YtilfgekiblpkaaaStaD
namespace Go.Proofs.Ytilfgekiblpkaaa
open Go.RowKit
set_option linter.unusedVariables false
set_option linter.unusedSimpArgs false
/-- How many are open behind i events; the most that were. -/
def nowN (L : Nat → Ev) : Nat → Int
  | 0 => 0
  | i + 1 => if (L i).bk = true then nowN L i - 1 else nowN L i + 1
def mostN (L : Nat → Ev) : Nat → Int
  | 0 => 0
  | i + 1 => if (L i).bk = true then mostN L i else max (mostN L i) (nowN L (i + 1))
theorem nowN_le (L : Nat → Ev) : ∀ i : Nat, -(i : Int) ≤ nowN L i ∧ nowN L i ≤ i
  | 0 => by simp [nowN]
  | i + 1 => by have := nowN_le L i; rw [nowN]; split <;> omega
theorem mostN_le (L : Nat → Ev) : ∀ i : Nat, 0 ≤ mostN L i ∧ mostN L i ≤ i
  | 0 => by simp [mostN]
  | i + 1 => by have := mostN_le L i; have := nowN_le L (i + 1); rw [mostN]; split <;> omega
set_option maxRecDepth 8000 in
set_option maxHeartbeats 4000000 in
theorem smost (n : Nat) (L : Nat → Ev) (v : Value) (w : World) (h : VR w v n L) (hn : n ≤ 1000) :
    Calls Try.prog 18 #[v] w fun e w' => e = .returned (.int .i64 (mostN L n)) ∧ Below w.heap.size w w' := by
  refine Calls.veil fun Q HQ => ?_
  have HV := Lib.hid h
  obtain ⟨p, c, rfl, a1, a2, A3⟩ := h.parts
  clear h
  go_enter Try.func18, Try.ntmps18
  go_wp2_with fail
  go_loopw [3, 4, 9] (fun kv mv iv wr => ∃ i : Nat, i ≤ n ∧ iv = .int .i64 i ∧ ∃ k x : Int, kv = .int .i64 k ∧ mv = .int .i64 x ∧ -(i : Int) ≤ k ∧ k ≤ i ∧ 0 ≤ x ∧ x ≤ i ∧ Hid (k = nowN L i) ∧ Hid (x = mostN L i) ∧ Below w.heap.size w wr)
    (fun _ _ iv _ => n - (intOf iv).toNat)
  case atStart => exact ⟨0, by omega, rfl, 0, 0, rfl, rfl, by omega, by omega, by omega, by omega, Lib.hid rfl, Lib.hid rfl, Below.refl _ _⟩
  case round =>
    obtain ⟨i, hi, rfl, k, x, rfl, rfl, k1, k2, x1, x2, HK, HM, hbx⟩ := hrel
    have HX := Lib.hid hbx
    clear hbx
    rcases (by omega : i < n ∨ i = n) with hlt | hEQ
    · obtain ⟨g, o, rfl, hA⟩ := A3.out (by omega)
      obtain ⟨u, hC, hPu⟩ := hA.cells i hlt
      have hC : EvC wr g (o + i * 12) (L i) u := ⟨Ext.cell ⟨wr, HX.out⟩ hC.c0, Ext.cell ⟨wr, HX.out⟩ hC.c1, Ext.cell ⟨wr, HX.out⟩ hC.c2, Ext.cell ⟨wr, HX.out⟩ hC.c3, Ext.cell ⟨wr, HX.out⟩ hC.c4, Ext.cell ⟨wr, HX.out⟩ hC.c5, Ext.cell ⟨wr, HX.out⟩ hC.c6, Ext.cell ⟨wr, HX.out⟩ hC.c7, Ext.cell ⟨wr, HX.out⟩ hC.c8, Ext.cell ⟨wr, HX.out⟩ hC.c9, Ext.cell ⟨wr, HX.out⟩ hC.c10, Ext.cell ⟨wr, HX.out⟩ hC.c11⟩
      obtain ⟨pu, cu, rfl, _, _⟩ := hPu.slice
      have HNS := Lib.hid (show nowN L (i + 1) = if (L i).bk = true then nowN L i - 1 else nowN L i + 1 from rfl)
      have HMS := Lib.hid (show mostN L (i + 1) = if (L i).bk = true then mostN L i else max (mostN L i) (nowN L (i + 1)) from rfl)
      clear hPu hA
      obtain ⟨x0, x1', x2', x3, x4, x5, x6, x7, x8, x9, x10, x11⟩ := hC
      go_upto_region 5 with fail
      generalize hU : World.alloc wr _ = U
      have y1 : U.cell? ⟨wr.heap.size, 1, none⟩ = some (.bool (L i).bk) := Ext.made hU 1 _ rfl ⟨U, Below.refl _ _⟩
      have HUB := Lib.hid (show Below wr.heap.size wr U by rw [← hU]; exact below_new (Below.refl _ _) _)
      clear hU x0 x1' x2' x3 x4 x5 x6 x7 x8 x9 x10 x11
      have HXU := Lib.hid (show Below w.heap.size w U from HX.out.trans (HUB.out.mono HX.out.size))
      cases hb : (L i).bk with
      | true =>
        rw [hb] at y1 HNS HMS
        clear hb
        go_wp2_with fail
        go_roundw
        case rel => exact ⟨i + 1, by omega, by go_num, k - 1, x, by go_num, rfl, by omega, by omega, by omega, by omega, Lib.hid (by rw [HNS.out, if_pos rfl, HK.out]), Lib.hid (by rw [HMS.out, if_pos rfl, HM.out]), HXU.out⟩
        case measure => simp [intOf]; omega
      | false =>
        rw [hb] at y1 HNS HMS
        have HNK := Lib.hid (show nowN L (i + 1) = k + 1 by rw [HNS.out, if_neg (by decide), HK.out])
        clear hb
        by_cases hmx : x ≤ k + 1
        · have HMX := Lib.hid (show mostN L (i + 1) = k + 1 by rw [HMS.out, if_neg (by decide), HNK.out, ← HM.out]; omega)
          go_wp2_with fail
          go_roundw
          case rel => exact ⟨i + 1, by omega, by go_num, k + 1, k + 1, by go_num, by go_num, by omega, by omega, by omega, by omega, Lib.hid (by rw [HNK.out]), Lib.hid (by rw [HMX.out]), HXU.out⟩
          case measure => simp [intOf]; omega
        · have HMX := Lib.hid (show mostN L (i + 1) = x by rw [HMS.out, if_neg (by decide), HNK.out, ← HM.out]; omega)
          go_wp2_with fail
          go_roundw
          case rel => exact ⟨i + 1, by omega, by go_num, k + 1, x, by go_num, by go_num, by omega, by omega, by omega, by omega, Lib.hid (by rw [HNK.out]), Lib.hid (by rw [HMX.out]), HXU.out⟩
          case measure => simp [intOf]; omega
    · have hge : ¬ i < n := by omega
      have HE := Lib.hid (show x = mostN L n by rw [HM.out, hEQ])
      clear hEQ
      go_wp2_with fail
      (try go_ret)
      rw [HQ.out]
      exact ⟨by rw [HE.out]; rfl, HX.out⟩
end Go.Proofs.Ytilfgekiblpkaaa
