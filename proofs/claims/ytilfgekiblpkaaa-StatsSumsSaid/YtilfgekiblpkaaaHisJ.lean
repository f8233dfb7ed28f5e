/- Layer 11: the reference's May. -/
import Derived.Test.YtilfgekiblpkaaaHisG
namespace Go.Proofs.Ytilfgekiblpkaaa
open Go.RowKit
set_option linter.unusedVariables false
set_option linter.unusedSimpArgs false
/-- How many of the events ahead of event i are of thread t. -/
def cntT (L : Nat → Ev) : Nat → Int → Nat
  | 0, _ => 0
  | i + 1, t => if (L i).th = t then cntT L i t + 1 else cntT L i t
theorem cntT_le (L : Nat → Ev) (t : Int) : ∀ i, cntT L i t ≤ i
  | 0 => Nat.le_refl _
  | i + 1 => by have := cntT_le L t i; rw [cntT]; split <;> omega
theorem cnt_par {L : Nat → Ev} {n : Nat} (hm : mayH L n = true) (t : Int) : ∀ i, i ≤ n → inF L i t = decide (cntT L i t % 2 = 1)
  | 0, _ => rfl
  | i + 1, hi => by
    obtain ⟨_, _, h3⟩ := mayH_at hm (by omega : i < n)
    have ih := cnt_par hm t i (by omega)
    rw [inF, cntT]
    by_cases he : t = (L i).th
    · rw [if_pos he, if_pos he.symm, h3, ← he, ih]
      rcases (by omega : cntT L i t % 2 = 1 ∨ cntT L i t % 2 = 0) with h | h
      · rw [decide_eq_true h, decide_eq_false (by omega)]; rfl
      · rw [decide_eq_false (by omega), decide_eq_true (by omega)]; rfl
    · rw [if_neg he, if_neg (fun e => he e.symm), ih]
set_option maxHeartbeats 4000000 in
theorem rmay11 (n : Nat) (L : Nat → Ev) (v : Value) (w : World) (h : VR w v n L) (hn : n ≤ 1000) : Calls Try.prog 20 #[v] w fun e w' => e = .returned (.bool (mayH L n)) ∧ Below w.heap.size w w' := by
  refine Calls.veil fun Q HQ => ?_
  obtain ⟨p, c, rfl, a1, a2, A3⟩ := h.parts
  clear h
  obtain ⟨r, hr⟩ : ∃ r, r = mayH L n := ⟨_, rfl⟩
  rw [← hr] at HQ
  have HR := Lib.hid hr
  have HNN := Lib.hid hn
  clear hr hn
  go_enter Try.func20, Try.ntmps20
  go_wp2_with fail
  go_loopw [3] (fun iv wr => ∃ i : Nat, i ≤ n ∧ iv = .int .i64 i ∧ Hid (mayH L i = true) ∧ Below w.heap.size w wr)
    (fun iv _ => n - (intOf iv).toNat)
  case atStart => exact ⟨0, by omega, rfl, Lib.hid rfl, Below.refl _ _⟩
  case round =>
    obtain ⟨i, hi, rfl, HM0, hbx⟩ := hrel
    have HX := Lib.hid hbx
    clear hbx
    rcases (by omega : i < n ∨ i = n) with hlt | heq
    · obtain ⟨g, o, rfl, hA⟩ := A3.out (by omega)
      have HA := Lib.hid hA
      obtain ⟨pv, hC, hPR⟩ := hA.cells i hlt
      have HMS := Lib.hid (mayH_succ L i)
      have HMN := Lib.hid (fun h => HR.out.trans (mayH_not L n i hlt h))
      have HPAR := Lib.hid (cnt_par HM0.out (L i).th i (Nat.le_refl _))
      have HOK := Lib.hid (show okE L i = (decide (0 ≤ (L i).th ∧ (L i).th < 6) && ((L i).bk == inF L i (L i).th)) from rfl)
      have xc0 := Ext.cells hC.c0
      have xc1 := Ext.cells hC.c1
      clear hA hC hPR
      generalize (L i).th = th at *
      generalize (L i).bk = bk at *
      have x0 : wr.cell? ⟨g, o + i * 12, none⟩ = some (.int .i64 th) := xc0 ⟨wr, HX.out⟩
      rcases (by omega : th < 0 ∨ 6 ≤ th ∨ (0 ≤ th ∧ th < 6)) with ht | ht | ⟨ht, ht'⟩
      · have HM := Lib.hid (HMN.out (by rw [HOK.out, decide_eq_false (by omega)]; rfl))
        go_wp2_with fail
        (try go_ret)
        rw [HQ.out, HM.out]
        exact ⟨rfl, HX.out⟩
      · have HM := Lib.hid (HMN.out (by rw [HOK.out, decide_eq_false (by omega)]; rfl))
        have h1 : ¬ th < 0 := by omega
        have h2 : 5 < th := by omega
        clear ht
        go_wp2_with fail
        (try go_ret)
        rw [HQ.out, HM.out]
        exact ⟨rfl, HX.out⟩
      · have h1 : ¬ th < 0 := by omega
        have h2 : ¬ 5 < th := by omega
        have HT := Lib.hid (And.intro ht ht')
        have hdT : decide (0 ≤ th ∧ th < 6) = true := decide_eq_true ⟨ht, ht'⟩
        rw [hdT, Bool.true_and] at HOK
        clear ht ht' hdT
        go_wp2_with fail
        go_loopw [4, 5] (fun cv kv wr => ∃ k : Nat, k ≤ i ∧ kv = .int .i64 k ∧ ∃ m : Nat, m ≤ k ∧ cv = .int .i64 m ∧ Hid (m = cntT L k th) ∧ Below w.heap.size w wr)
          (fun _ kv _ => i - (intOf kv).toNat)
        case atStart => exact ⟨0, by omega, rfl, 0, by omega, rfl, Lib.hid rfl, HX.out⟩
        case round =>
          obtain ⟨k, hk, rfl, m, hmk, rfl, HMC, hbx⟩ := hrel
          have HX2 := Lib.hid hbx
          clear hbx x0
          have x0 := Ext.drewN (xc0 ⟨wr, HX2.out⟩)
          have x1 := xc1 ⟨wr, HX2.out⟩
          rcases (by omega : k < i ∨ k = i) with hlk | hEQ
          · obtain ⟨pv2, hCk, _⟩ := (HA.out.below HX2.out).cells k (by omega)
            have y0 := Ext.drewN hCk.c0
            have hkn : k < n := by omega
            have HCS := Lib.hid (show cntT L (k + 1) th = if (L k).th = th then cntT L k th + 1 else cntT L k th from rfl)
            clear hCk x1
            generalize (L k).th = tk at *
            by_cases he : tk = th
            · have hb : (tk == th) = true := by rw [he]; exact beq_self_eq_true _
              rw [if_pos he] at HCS
              clear he
              go_upto_region 10 with fail
              go_quiet (fail)
              have HX3 := Lib.hid (below_drewN HX2.out nq)
              generalize wr.drewN nq = W at *
              go_wp2_with fail
              go_roundw
              case rel => exact ⟨k + 1, by omega, by go_num, m + 1, by omega, by go_num, Lib.hid (by rw [HCS.out, HMC.out]), HX3.out⟩
              case measure => simp [intOf]; omega
            · have hb : (tk == th) = false := by rw [beq_eq_false_iff_ne]; exact he
              rw [if_neg he] at HCS
              clear he
              go_upto_region 10 with fail
              go_quiet (fail)
              have HX3 := Lib.hid (below_drewN HX2.out nq)
              generalize wr.drewN nq = W at *
              go_wp2_with fail
              go_roundw
              case rel => exact ⟨k + 1, by omega, by go_num, m, by omega, by go_num, Lib.hid (by rw [HCS.out, HMC.out]), HX3.out⟩
              case measure => simp [intOf]; omega
          · have hnk : ¬ k < i := by omega
            have HMC : Hid (m = cntT L i th) := by rw [← hEQ]; exact HMC
            have hmi : m ≤ i := by omega
            have HIN : Hid (inF L i th = decide (m % 2 = 1)) := by rw [HMC.out]; exact HPAR
            clear hEQ hk x0 hmk
            obtain ⟨q, hq⟩ : ∃ q : Bool, decide (m % 2 = 1) = q := ⟨_, rfl⟩
            have hp : (((m : Nat) : Int) % 2 == 1) = q := by
              rw [← hq]
              rcases (by omega : m % 2 = 1 ∨ m % 2 = 0) with h | h
              · rw [decide_eq_true h]; rw [beq_iff_eq]; omega
              · rw [decide_eq_false (by omega)]; rw [beq_eq_false_iff_ne]; omega
            rw [hq] at HIN
            rw [HIN.out] at HOK
            clear hq
            cases bk <;> cases q
            · have HM := Lib.hid (show mayH L (i + 1) = true by rw [HMS.out, HM0.out, HOK.out]; rfl)
              clear HMS HOK HMN HIN
              go_wp2_with fail
              go_roundw
              case rel => exact ⟨i + 1, by omega, by go_num, HM, HX2.out⟩
              case measure => simp [intOf]; omega
            · have HM := Lib.hid (HMN.out (by rw [HOK.out]; rfl))
              clear HMS HOK HMN HIN
              go_wp2_with fail
              (try go_ret)
              rw [HQ.out, HM.out]
              exact ⟨rfl, HX2.out⟩
            · have HM := Lib.hid (HMN.out (by rw [HOK.out]; rfl))
              clear HMS HOK HMN HIN
              go_wp2_with fail
              (try go_ret)
              rw [HQ.out, HM.out]
              exact ⟨rfl, HX2.out⟩
            · have HM := Lib.hid (show mayH L (i + 1) = true by rw [HMS.out, HM0.out, HOK.out]; rfl)
              clear HMS HOK HMN HIN
              go_wp2_with fail
              go_roundw
              case rel => exact ⟨i + 1, by omega, by go_num, HM, HX2.out⟩
              case measure => simp [intOf]; omega
    · have HM : Hid (r = true) := by rw [HR.out, ← heq]; exact HM0
      have hge : ¬ i < n := by omega
      clear heq hi
      go_wp2_with fail
      (try go_ret)
      rw [HQ.out, HM.out]
      exact ⟨rfl, HX.out⟩
end Go.Proofs.Ytilfgekiblpkaaa
