/- Layer 12: May of an order of one; the chapter's example. -/
import Derived.Test.YtopjnoglbncnhaaLegF
namespace Go.Proofs.Ytopjnoglbncnhaa
open Go.RowKit Go.Maps
set_option linter.unusedVariables false
set_option linter.unusedSimpArgs false
theorem Set1.below {w w' : World} {b j : Nat} (h : Set1 w b j) (k : Below w.heap.size w w') : Set1 w' b j := by
  obtain ⟨D, h1, h2, h3⟩ := h
  exact ⟨D, h1.kept (row := none) ⟨k.os, k.tape, k.output, k.size, fun j hj _ => k.block j hj⟩ (by simp), h2, h3⟩
theorem Set1.look {w : World} {b j : Nat} (h : Set1 w b j) {i : Nat} (hi : i < 250) : (Instr.lookup 55 (.map (some b)) (.int .i64 (i : Int)) true).run Try.prog w = .ok (.tuple #[.agg #[], .bool (decide (i = j))]) w := by
  obtain ⟨D, h1, h2, _⟩ := h
  obtain ⟨v, ps, hr, hv⟩ := h1.look_ok gLaw12 uMap12 (zUnit12 w) unitElem_mk (keyL_key (i := i) hi)
  obtain ⟨rfl, _⟩ := unitElem_inv hv
  rw [hr, h2 i]
def mayO (n : Nat) (O : Nat → Op13) (j : Nat) : Bool := (List.range n).all fun p => decide (p = j) || decide ((O p).tt < 0)
set_option maxRecDepth 8000 in
theorem lmay1 {w : World} {ov rv : Value} {n : Nat} {O : Nat → Op13} {fv : Nat → Value} {j : Nat} (hO : OpR w ov n O fv) (hr : OrdR w rv 1 (fun _ => (j : Int))) (hj : j < n) (hn : n ≤ 50) :
    Calls Try.prog 10 #[ov, rv] w fun e w' => e = .returned (.bool (mayO n O j)) ∧ Below w.heap.size w w' := by
  refine Calls.veil fun Q HQ => ?_
  have HO := Lib.hid hO; have HR := Lib.hid hr
  have LP := lplaces hO hr hj hn
  obtain ⟨oa, ocap, rfl, oc1, oc2, hO⟩ := hO
  obtain ⟨ra, rcap, rfl, rc1, rc2, _⟩ := hr
  have HOC := Lib.hid hO
  have LP := Lib.hid LP
  clear hO
  go_enter Try.func10, Try.ntmps10
  go_wp2_with fail
  refine LP.out.mono ?_; rintro _ w1 ⟨b, rfl, hs, hb⟩
  have HS := Lib.hid hs; have HB := Lib.hid hb
  obtain ⟨D, hown, _, hsz⟩ := hs
  clear hb LP
  have hlen := hown.len uMap12 3
  rw [hsz] at hlen
  clear hown hsz
  go_wp2_with fail
  clear hlen
  go_loopw [27] (fun iv wr => ∃ i : Nat, i ≤ n ∧ iv = .int .i64 i ∧ Hid (∀ p, p < i → p = j ∨ (O p).tt < 0) ∧ Hid (Set1 wr b j) ∧ Hid (Below w.heap.size w wr))
    (fun iv _ => n - (intOf iv).toNat)
  case atStart => exact ⟨0, Nat.zero_le _, rfl, Lib.hid fun p hp => by omega, HS, HB⟩
  case round =>
    clear HS HB
    obtain ⟨i, hi, rfl, HL, HS, HB⟩ := hrel
    rcases (by omega : i < n ∨ i = n) with hlt | heq
    · have hii : (i : Int) < n := by omega
      have hlk := HS.out.look (i := i) (by omega)
      rcases Decidable.em (i = j) with e | e
      · rw [decide_eq_true e] at hlk
        have E := Lib.hid e
        clear e
        go_upto_region 8 with fail
        generalize hV : World.alloc _ _ = V
        have hbv : Below wr.heap.size wr V := by rw [← hV]; exact below_new (Below.refl _ _) _
        have HS2 := Lib.hid (HS.out.below hbv); have HB2 := Lib.hid (below_on HB.out hbv)
        clear hV hbv hlk
        go_wp2_with fail
        go_roundw
        case rel => exact ⟨i + 1, by omega, by go_num, Lib.hid fun p hp => (by rcases (by omega : p < i ∨ p = i) with h | h; exact HL.out p h; exact .inl (h.trans E.out)), HS2, HB2⟩
        case measure => simp [intOf]; omega
      · rw [decide_eq_false e] at hlk
        have E := Lib.hid e
        clear e
        obtain ⟨og, ooff, rfl, hoc⟩ := HOC.out i hlt
        have o12 := (hoc.below HB.out).2.2
        obtain ⟨tt, htt⟩ : ∃ t, t = (O i).tt := ⟨_, rfl⟩
        have HTT := Lib.hid htt
        rw [← htt] at o12
        clear hoc htt
        go_upto_region 8 with fail
        generalize hV : World.alloc _ _ = V
        have hbv : Below wr.heap.size wr V := by rw [← hV]; exact below_new (Below.refl _ _) _
        have HS2 := Lib.hid (HS.out.below hbv); have HB2 := Lib.hid (below_on HB.out hbv)
        have o12 := Ext.use (Ext.cells o12) hbv
        clear hV hbv hlk
        rcases (by omega : tt < 0 ∨ 0 ≤ tt) with h | h
        · have HT := Lib.hid h
          go_wp2_with fail
          go_roundw
          case rel => exact ⟨i + 1, by omega, by go_num, Lib.hid fun p hp => (by rcases (by omega : p < i ∨ p = i) with h | h; exact HL.out p h; exact .inr (by rw [h, ← HTT.out]; exact HT.out)), HS2, HB2⟩
          case measure => simp [intOf]; omega
        · have HM := Lib.hid (show mayO n O j = false from by
            unfold mayO
            rw [List.all_eq_false]
            refine ⟨i, List.mem_range.2 hlt, ?_⟩
            rw [decide_eq_false E.out, ← HTT.out, decide_eq_false (by omega)]; decide)
          go_wp2_with fail
          (try go_ret)
          rw [HQ.out, HM.out]
          exact ⟨rfl, HB2.out⟩
    · subst heq
      have HM := Lib.hid (show mayO i O j = true from by
        unfold mayO
        rw [List.all_eq_true]
        intro p hp
        rcases HL.out p (List.mem_range.1 hp) with h | h
        · rw [decide_eq_true h]; rfl
        · rw [decide_eq_true h, Bool.or_true])
      go_wp2_with fail
      refine (linorder (HO.out.below HB.out) (HR.out.below HB.out) hj hn).mono ?_; rintro _ w4 ⟨rfl, hb4⟩
      have HB4 := Lib.hid (below_on HB.out hb4)
      clear hb4
      go_wp2_with fail
      (try go_ret)
      rw [HQ.out, HM.out]
      exact ⟨rfl, HB4.out⟩
def lvO : Nat → Op13 := fun i => if i = 0 then ⟨0, ⟨13, 0, 0, 0, 0⟩, ⟨0, 0, 0, 0, []⟩, 0, 1⟩ else ⟨0, ⟨0, 0, 0, 0, 0⟩, ⟨0, 0, 0, 0, []⟩, 2, -1⟩
theorem lv_ok : ∀ i, i < 2 → (-9223372036854775808 ≤ (lvO i).c.key ∧ (lvO i).c.key ≤ 9223372036854775807) ∧ (lvO i).a.ps.length ≤ 1500 := by
  intro i hi
  rcases (by omega : i = 0 ∨ i = 1) with rfl | rfl <;> decide
theorem lv_may0 : mayO 2 lvO 0 = true := by decide
theorem lv_may1 : mayO 2 lvO 1 = false := by decide
theorem lv_beh : (behT (behN lvO 2 (fun i => (i : Int)) (clampN 1) 2)).2 = true := by rfl
theorem lv_opr {w : World} {X : Nat} (h : w.heap[X]? = some (.cells #[.int .i64 0, .int .i64 13, .int .i64 0, .int .i64 0, .int .i64 0, .int .i64 0, .int .i64 0, .int .i64 0, .int .i64 0, .int .i64 0, .slice none 0 0, .int .i64 0, .int .i64 1, .int .i64 0, .int .i64 0, .int .i64 0, .int .i64 0, .int .i64 0, .int .i64 0, .int .i64 0, .int .i64 0, .int .i64 0, .int .i64 0, .slice none 0 0, .int .i64 2, .int .i64 (-1)] 47 (0, 0))) : OpR w (.slice (some ⟨X, 0, none⟩) 2 2) 2 lvO (fun _ => .slice none 0 0) := by
  refine ⟨_, 2, rfl, by omega, by decide, fun i hi => ⟨X, 0, rfl, ?_⟩⟩
  rcases (by omega : i = 0 ∨ i = 1) with rfl | rfl
  · exact ⟨⟨⟨newcell h 0 _ rfl, newcell h 1 _ rfl, newcell h 2 _ rfl, newcell h 3 _ rfl, newcell h 4 _ rfl, newcell h 5 _ rfl, by decide⟩, newcell h 6 _ rfl, newcell h 7 _ rfl, newcell h 8 _ rfl, newcell h 9 _ rfl, newcell h 10 _ rfl, .nil⟩, newcell h 11 _ rfl, newcell h 12 _ rfl⟩
  · exact ⟨⟨⟨newcell h 13 _ rfl, newcell h 14 _ rfl, newcell h 15 _ rfl, newcell h 16 _ rfl, newcell h 17 _ rfl, newcell h 18 _ rfl, by decide⟩, newcell h 19 _ rfl, newcell h 20 _ rfl, newcell h 21 _ rfl, newcell h 22 _ rfl, newcell h 23 _ rfl, .nil⟩, newcell h 24 _ rfl, newcell h 25 _ rfl⟩
theorem lv_ord1 {w : World} {Y : Nat} {j : Int} {T : TypeId} (h : w.heap[Y]? = some (.cells #[.int .i64 j] T (0, 0))) : OrdR w (.slice (some ⟨Y, 0, none⟩) 1 1) 1 (fun _ => j) :=
  ⟨_, 1, rfl, by omega, by decide, fun i hi => ⟨Y, 0, rfl, by
    rcases (by omega : i = 0) with rfl
    exact newcell h 0 _ rfl⟩⟩
theorem lv_ord2 {w : World} {Y : Nat} {T : TypeId} (h : w.heap[Y]? = some (.cells #[.int .i64 0, .int .i64 1] T (0, 0))) : OrdR w (.slice (some ⟨Y, 0, none⟩) 2 2) 2 (fun i => (i : Int)) :=
  ⟨_, 2, rfl, by omega, by decide, fun i hi => ⟨Y, 0, rfl, by
    rcases (by omega : i = 0 ∨ i = 1) with rfl | rfl
    · exact newcell h 0 _ rfl
    · exact newcell h 1 _ rfl⟩⟩
set_option maxRecDepth 8000 in
theorem lives12_calls (w : World) : Calls Try.prog 5 #[] w fun e w' => e = .returned (.bool true) ∧ Below w.heap.size w w' := by
  refine Calls.veil fun Q HQ => ?_
  go_enter Try.func5, Try.ntmps5
  go_upto_region 2 with fail
  generalize hU : World.alloc _ _ = U
  have hh : U.heap[w.heap.size]? = some (.cells #[.int .i64 0, .int .i64 13, .int .i64 0, .int .i64 0, .int .i64 0, .int .i64 0, .int .i64 0, .int .i64 0, .int .i64 0, .int .i64 0, .slice none 0 0, .int .i64 0, .int .i64 1, .int .i64 0, .int .i64 0, .int .i64 0, .int .i64 0, .int .i64 0, .int .i64 0, .int .i64 0, .int .i64 0, .int .i64 0, .int .i64 0, .slice none 0 0, .int .i64 2, .int .i64 (-1)] 47) := by rw [← hU]; exact heap_alloc_new w _
  have hbu : Below w.heap.size w U := by rw [← hU]; exact below_new (Below.refl _ _) _
  have HO := Lib.hid (lv_opr hh)
  have HB := Lib.hid hbu
  clear hU hh hbu
  go_wp2_with fail
  generalize hV : World.alloc _ _ = V
  have hbv : Below U.heap.size U V := by rw [← hV]; exact below_new (Below.refl _ _) _
  have h1 : V.heap[U.heap.size]? = some (.cells #[.int .i64 0] 3) := by rw [← hV]; exact heap_alloc_new U _
  have L := lmay1 (HO.out.below hbv) (lv_ord1 (j := ((0 : Nat) : Int)) h1) (by omega) (by omega)
  rw [lv_may0] at L
  have HO := Lib.hid (HO.out.below hbv); have HB := Lib.hid (below_on HB.out hbv)
  clear hV h1
  refine L.mono ?_; rintro _ w1 ⟨rfl, hb1⟩
  have HO := Lib.hid (HO.out.below hb1); have HB := Lib.hid (below_on HB.out hb1)
  clear hb1 hbv L
  go_wp2_with fail
  generalize hV : World.alloc _ _ = V2
  have hbv : Below w1.heap.size w1 V2 := by rw [← hV]; exact below_new (Below.refl _ _) _
  have h1 : V2.heap[w1.heap.size]? = some (.cells #[.int .i64 0, .int .i64 1] 3) := by rw [← hV]; exact heap_alloc_new w1 _
  have L := llegal (HO.out.below hbv) (lv_ord2 h1) lv_ok (by omega) (by omega) 1
  rw [lv_beh] at L
  have HO := Lib.hid (HO.out.below hbv); have HB := Lib.hid (below_on HB.out hbv)
  clear hV h1
  refine L.mono ?_; rintro _ w2 ⟨rfl, hb2⟩
  have HO := Lib.hid (HO.out.below hb2); have HB := Lib.hid (below_on HB.out hb2)
  clear hb2 hbv L
  go_wp2_with fail
  generalize hV : World.alloc _ _ = V3
  have hbv : Below w2.heap.size w2 V3 := by rw [← hV]; exact below_new (Below.refl _ _) _
  have h1 : V3.heap[w2.heap.size]? = some (.cells #[.int .i64 1] 3) := by rw [← hV]; exact heap_alloc_new w2 _
  have L := lmay1 (HO.out.below hbv) (lv_ord1 (j := ((1 : Nat) : Int)) h1) (by omega) (by omega)
  rw [lv_may1] at L
  have HB := Lib.hid (below_on HB.out hbv)
  clear hV h1
  refine L.mono ?_; rintro _ w3 ⟨rfl, hb3⟩
  have HB := Lib.hid (below_on HB.out hb3)
  clear hb3 hbv L
  go_wp2_with fail
  (try go_ret)
  rw [HQ.out]
  exact ⟨rfl, HB.out⟩
end Go.Proofs.Ytopjnoglbncnhaa
