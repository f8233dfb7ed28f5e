/- Layer 35: an event as text; the chapter's examples. -/
import Derived.Test.YtdgplijnhkgeiaaDoorTxwD
namespace Go.Proofs.YtdgplijnhkgeiaaDoor
open Go.RowKit
set_option linter.unusedVariables false
set_option linter.unusedSimpArgs false
open Go.Lib (itoa)
def eventT (e : Ev) : List UInt8 := (if e.bk = true then [98, 97, 99, 107] else [98, 101, 103, 105, 110]) ++ 32 :: (itoa e.th ++ 32 :: (if e.bk = true then answerT e.an else callT e.ca))
def evV (e : Ev) (v : Value) : Value := .agg #[.int .i64 e.th, .bool e.bk, .int .i64 e.ca.op, .int .i64 e.ca.key, .int .i64 e.ca.val, .int .i64 e.ca.hi, .int .i64 e.ca.lim, .int .i64 e.an.kind, .int .i64 e.an.key, .int .i64 e.an.val, .int .i64 e.an.n, v]
theorem EvI.part {e : Ev} (h : EvI e) (p : Int) : I64 (partI e.ca p) := by
  unfold partI
  repeat' split
  · exact h.ck
  · exact h.cv
  · exact h.ch
  · exact h.cl
theorem callT_len (c : Ca) (h : ∀ p, I64 (partI c p)) : (callT c).length ≤ 100 := by
  have h1 := wS_len c.op
  have h2 := argT_len c h (partsL c.op)
  have h3 := partsL_len c.op
  unfold callT; rw [List.length_append]; omega
theorem answerT_len (a : An) (h : Ints a.ps) (hl : a.ps.length ≤ 4001) (h1 : I64 a.key) (h2 : I64 a.val) (h3 : I64 a.n) : (answerT a).length ≤ 176300 := by
  have k1 := kS_len a.kind
  have k2 := prsT_len a.ps h
  have k3 := Lib.itoa_length_le a.key h1.1 h1.2
  have k4 := Lib.itoa_length_le a.val h2.1 h2.2
  have k5 := Lib.itoa_length_le a.n h3.1 h3.2
  rw [answerT_eq, List.length_append]
  unfold restT
  split
  · simp; omega
  split
  · simp; omega
  split
  · omega
  · simp; omega
theorem eventT_len {e : Ev} (h : EvI e) (hl : e.an.ps.length ≤ 4001) : (eventT e).length ≤ 176500 := by
  have k1 := callT_len e.ca h.part
  have k2 := answerT_len e.an h.ps hl h.ak h.av h.an
  have k3 := Lib.itoa_length_le e.th h.th.1 h.th.2
  unfold eventT
  cases e.bk
  · simp; omega
  · simp; omega
set_option maxRecDepth 8000 in
set_option maxHeartbeats 4000000 in
theorem tevent {w : World} (e : Ev) {v : Value} (hp : PR w v e.an.ps) (hi : EvI e) (hl : e.an.ps.length ≤ 4001) (ht : Pow w.heap.size w) :
    Calls Tryd.prog 19 #[evV e v] w fun x w' => x = .returned (.string ⟨(eventT e).toArray⟩) ∧ Below w.heap.size w w' := by
  refine Calls.veil fun Q HQ => ?_
  obtain ⟨p, k, rfl, _, _⟩ := hp.slice
  have HP := Lib.hid hp; have HI := Lib.hid hi; have HL := Lib.hid hl
  have HCL := Lib.hid (callT_len e.ca hi.part)
  have HAL := Lib.hid (answerT_len e.an hi.ps hl hi.ak hi.av hi.an)
  have HTL := Lib.hid (Lib.itoa_length_le e.th hi.th.1 hi.th.2)
  have HET := Lib.hid (show eventT e = (if e.bk = true then [98, 97, 99, 107] else [98, 101, 103, 105, 110]) ++ 32 :: (itoa e.th ++ 32 :: (if e.bk = true then answerT e.an else callT e.ca)) from rfl)
  obtain ⟨ET, hET⟩ : ∃ x, x = eventT e := ⟨_, rfl⟩
  rw [← hET] at HET HQ
  have HC := Lib.hid (fun (W : World) (k : Below w.heap.size w W) => tcall e.ca HI.out.part (show Pow W.heap.size W from fun w9 h9 => ht w9 (k.trans (h9.mono k.size))))
  have HA := Lib.hid (fun (W : World) (k : Below w.heap.size w W) => tanswer e.an (HP.out.below k) HI.out.ps HL.out HI.out.ak HI.out.av HI.out.an (show Pow W.heap.size W from fun w9 h9 => ht w9 (k.trans (h9.mono k.size))))
  have HTH := Lib.hid (fun (W : World) (k : Below w.heap.size w W) => twrite e.th HI.out.th (Lib.TabBelow.on ht k))
  obtain ⟨ct, hct⟩ : ∃ x, x = callT e.ca := ⟨_, rfl⟩
  obtain ⟨att, hat⟩ : ∃ x, x = answerT e.an := ⟨_, rfl⟩
  obtain ⟨tt, htt⟩ : ∃ x, x = itoa e.th := ⟨_, rfl⟩
  rw [← hct] at HET HCL HC; rw [← hat] at HET HAL HA; rw [← htt] at HET HTL HTH
  clear hp hi hl hET hct hat htt HI HP ht
  obtain ⟨th, bk, ⟨op, key, val, hi, lim⟩, ⟨kind, akey, aval, an, ps⟩⟩ := e
  unfold evV
  simp only at HET HC HA HTH HL ⊢
  go_enter Tryd.func19, Tryd.ntmps19
  go_upto_region 1 with fail
  generalize hV : World.alloc w _ = V
  have hbV : Below w.heap.size w V := by rw [← hV]; exact below_new (Below.refl _ _) _
  have x0 : V.cell? ⟨w.heap.size, 0, none⟩ = some (.int .i64 th) := by rw [← hV]; exact Ext.made rfl 0 _ rfl ⟨_, Below.refl _ _⟩
  have x1 : V.cell? ⟨w.heap.size, 1, none⟩ = some (.bool bk) := by rw [← hV]; exact Ext.made rfl 1 _ rfl ⟨_, Below.refl _ _⟩
  have x2 : V.cell? ⟨w.heap.size, 2, none⟩ = some (.int .i64 op) := by rw [← hV]; exact Ext.made rfl 2 _ rfl ⟨_, Below.refl _ _⟩
  have x3 : V.cell? ⟨w.heap.size, 3, none⟩ = some (.int .i64 key) := by rw [← hV]; exact Ext.made rfl 3 _ rfl ⟨_, Below.refl _ _⟩
  have x4 : V.cell? ⟨w.heap.size, 4, none⟩ = some (.int .i64 val) := by rw [← hV]; exact Ext.made rfl 4 _ rfl ⟨_, Below.refl _ _⟩
  have x5 : V.cell? ⟨w.heap.size, 5, none⟩ = some (.int .i64 hi) := by rw [← hV]; exact Ext.made rfl 5 _ rfl ⟨_, Below.refl _ _⟩
  have x6 : V.cell? ⟨w.heap.size, 6, none⟩ = some (.int .i64 lim) := by rw [← hV]; exact Ext.made rfl 6 _ rfl ⟨_, Below.refl _ _⟩
  have x7 : V.cell? ⟨w.heap.size, 7, none⟩ = some (.int .i64 kind) := by rw [← hV]; exact Ext.made rfl 7 _ rfl ⟨_, Below.refl _ _⟩
  have x8 : V.cell? ⟨w.heap.size, 8, none⟩ = some (.int .i64 akey) := by rw [← hV]; exact Ext.made rfl 8 _ rfl ⟨_, Below.refl _ _⟩
  have x9 : V.cell? ⟨w.heap.size, 9, none⟩ = some (.int .i64 aval) := by rw [← hV]; exact Ext.made rfl 9 _ rfl ⟨_, Below.refl _ _⟩
  have x10 : V.cell? ⟨w.heap.size, 10, none⟩ = some (.int .i64 an) := by rw [← hV]; exact Ext.made rfl 10 _ rfl ⟨_, Below.refl _ _⟩
  have x11 : V.cell? ⟨w.heap.size, 11, none⟩ = some (.slice p ps.length k) := by rw [← hV]; exact Ext.made rfl 11 _ rfl ⟨_, Below.refl _ _⟩
  have HBV := Lib.hid hbV
  have HX := Lib.hid (And.intro x1 (And.intro (And.intro x2 (And.intro x3 (And.intro x4 (And.intro x5 x6)))) (And.intro x7 (And.intro x8 (And.intro x9 (And.intro x10 x11))))))
  clear hV x1 x2 x3 x4 x5 x6 x7 x8 x9 x10 x11
  generalize w.heap.size = X at x0 HX ⊢
  go_wp2_with fail
  refine (HTH.out V HBV.out).mono ?_; rintro _ z1 ⟨rfl, hb1⟩
  have HZ1 := Lib.hid hb1
  obtain ⟨x1, ⟨x2, x3, x4, x5, x6⟩, x7, x8, x9, x10, x11⟩ := HX.out
  have x1 := Ext.cell ⟨z1, hb1⟩ x1
  simp only at x1
  have q1 : ¬ 9223372036854775807 < 1 + tt.length := by have := HTL.out; omega
  have q2 : ¬ 9223372036854775807 < 1 + tt.length + 1 := by have := HTL.out; omega
  have q3 : ¬ 9223372036854775807 < 4 + (1 + tt.length + 1) := by have := HTL.out; omega
  have q4 : ¬ 9223372036854775807 < 4 + (1 + tt.length + 1) + att.length := by have := HTL.out; have := HAL.out; omega
  have q5 : ¬ 9223372036854775807 < 5 + (1 + tt.length + 1) := by have := HTL.out; omega
  have q6 : ¬ 9223372036854775807 < 5 + (1 + tt.length + 1) + ct.length := by have := HTL.out; have := HCL.out; omega
  cases bk with
  | true =>
    have y7 := Ext.cell ⟨z1, hb1⟩ x7; have y8 := Ext.cell ⟨z1, hb1⟩ x8; have y9 := Ext.cell ⟨z1, hb1⟩ x9; have y10 := Ext.cell ⟨z1, hb1⟩ x10; have y11 := Ext.cell ⟨z1, hb1⟩ x11
    simp only at y7 y8 y9 y10 y11
    clear hb1 x0 x2 x3 x4 x5 x6 x7 x8 x9 x10 x11
    go_wp2_with fail
    refine (HA.out _ (below_on HBV.out HZ1.out)).mono ?_; rintro _ z2 ⟨rfl, hb2⟩
    have HF := Lib.hid (below_on (below_on HBV.out HZ1.out) hb2)
    clear hb2
    go_wp2_with fail
    (try go_ret)
    rw [HQ.out, HET.out]
    exact ⟨congrArg Ending.returned (strE (by simp)), HF.out⟩
  | false =>
    have y2 := Ext.cell ⟨z1, hb1⟩ x2; have y3 := Ext.cell ⟨z1, hb1⟩ x3; have y4 := Ext.cell ⟨z1, hb1⟩ x4; have y5 := Ext.cell ⟨z1, hb1⟩ x5; have y6 := Ext.cell ⟨z1, hb1⟩ x6
    simp only at y2 y3 y4 y5 y6
    clear hb1 x0 x2 x3 x4 x5 x6 x7 x8 x9 x10 x11
    go_wp2_with fail
    refine (HC.out _ (below_on HBV.out HZ1.out)).mono ?_; rintro _ z2 ⟨rfl, hb2⟩
    have HF := Lib.hid (below_on (below_on HBV.out HZ1.out) hb2)
    clear hb2
    go_wp2_with fail
    (try go_ret)
    rw [HQ.out, HET.out]
    exact ⟨congrArg Ending.returned (strE (by simp)), HF.out⟩
/-! ### The chapter's examples -/
theorem itoa_small {n : Int} (h : 0 ≤ n) (h2 : n < 10) : itoa n = [UInt8.ofNat (48 + n.toNat)] := by rw [itoa_pos h, dec_small (by omega)]
theorem itoa_neg1 : itoa (-1) = [45, 49] := by rw [itoa_neg (by decide), show (-1 : Int).natAbs = 1 from rfl, dec_small (by decide)]; rfl
def exA : Ev := ⟨0, false, ⟨0, 5, -1, 0, 0⟩, ⟨0, 0, 0, 0, []⟩⟩
def exB : Ev := ⟨2, true, ⟨0, 0, 0, 0, 0⟩, ⟨3, 0, 0, 0, [(1, 2), (3, 4)]⟩⟩
theorem exA_text : eventT exA = [98, 101, 103, 105, 110, 32, 48, 32, 105, 110, 115, 101, 114, 116, 32, 53, 32, 45, 49] := by
  have h0 : itoa 0 = [48] := itoa_zero
  have h5 : itoa 5 = [53] := by rw [itoa_small (by decide) (by decide)]; rfl
  have hw : wS 0 = [105, 110, 115, 101, 114, 116] := by decide +kernel
  simp [eventT, exA, callT, argT, partsL, partI, h0, h5, itoa_neg1, hw]
theorem exB_text : eventT exB = [98, 97, 99, 107, 32, 50, 32, 108, 105, 115, 116, 32, 49, 58, 50, 32, 51, 58, 52] := by
  have h1 : itoa 1 = [49] := by rw [itoa_small (by decide) (by decide)]; rfl
  have h2 : itoa 2 = [50] := by rw [itoa_small (by decide) (by decide)]; rfl
  have h3 : itoa 3 = [51] := by rw [itoa_small (by decide) (by decide)]; rfl
  have h4 : itoa 4 = [52] := by rw [itoa_small (by decide) (by decide)]; rfl
  have hk : kS 3 = [108, 105, 115, 116] := by decide +kernel
  simp [eventT, exB, answerT, restT, prsT, prT, h1, h2, h3, h4, hk]
theorem I64.lit {n : Int} (h : (decide (-9223372036854775808 ≤ n) && decide (n ≤ 9223372036854775807)) = true) : I64 n := by simpa [I64] using h
theorem exA_in : EvI exA := ⟨.lit rfl, .lit rfl, .lit rfl, .lit rfl, .lit rfl, .lit rfl, .lit rfl, .lit rfl, fun p hp => by cases hp⟩
theorem exB_in : EvI exB := ⟨.lit rfl, .lit rfl, .lit rfl, .lit rfl, .lit rfl, .lit rfl, .lit rfl, .lit rfl, fun p hp => by
  rcases List.mem_cons.1 hp with rfl | hp
  · exact ⟨I64.lit rfl, I64.lit rfl⟩
  · rw [List.mem_singleton.1 hp]; exact ⟨I64.lit rfl, I64.lit rfl⟩⟩
set_option maxRecDepth 8000 in
set_option maxHeartbeats 2000000 in
theorem lives35_calls {w : World} (ht : Pow w.heap.size w) : Calls Tryd.prog 6 #[] w fun e w' => e = .returned (.bool true) ∧ Below w.heap.size w w' := by
  refine Calls.veil fun Q HQ => ?_
  have HT := Lib.hid ht
  have EA := Lib.hid (tevent (w := w) exA (v := .slice none 0 0) .nil exA_in (by decide) ht)
  rw [exA_text] at EA
  unfold evV exA at EA
  simp only at EA
  clear ht
  go_enter Tryd.func6, Tryd.ntmps6
  go_wp2_with fail
  refine EA.out.mono ?_; rintro _ z1 ⟨rfl, hb1⟩
  have HZ1 := Lib.hid hb1
  clear hb1
  go_wp2_with fail
  generalize hU : World.alloc z1 _ = U
  have hbU : Below z1.heap.size z1 U := by rw [← hU]; exact below_new (Below.refl _ _) _
  have hP : PR U (.slice (some ⟨z1.heap.size, 0, none⟩) 2 2) [(1, 2), (3, 4)] := by
    refine .mkrow rfl (by omega) (by omega) fun i hi => ?_
    have hi : i < 2 := hi
    rcases (by omega : i = 0 ∨ i = 1) with rfl | rfl
    · exact ⟨by rw [← hU]; exact Ext.made rfl 0 _ rfl ⟨_, Below.refl _ _⟩, by rw [← hU]; exact Ext.made rfl 1 _ rfl ⟨_, Below.refl _ _⟩⟩
    · exact ⟨by rw [← hU]; exact Ext.made rfl 2 _ rfl ⟨_, Below.refl _ _⟩, by rw [← hU]; exact Ext.made rfl 3 _ rfl ⟨_, Below.refl _ _⟩⟩
  have HU := Lib.hid (below_on HZ1.out hbU)
  have EB := tevent (w := U) exB hP exB_in (by decide) (show Pow U.heap.size U from fun w9 h9 => HT.out w9 (HU.out.trans (h9.mono HU.out.size)))
  rw [exB_text] at EB
  unfold evV exB at EB
  simp only at EB
  clear hU hbU hP
  refine EB.mono ?_; rintro _ z2 ⟨rfl, hb2⟩
  have HF := Lib.hid (below_on HU.out hb2)
  clear hb2 EB
  go_wp2_with fail
  (try go_ret)
  rw [HQ.out]
  exact ⟨rfl, HF.out⟩
end Go.Proofs.YtdgplijnhkgeiaaDoor
