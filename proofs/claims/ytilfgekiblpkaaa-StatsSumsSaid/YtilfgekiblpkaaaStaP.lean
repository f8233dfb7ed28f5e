/- Layer 38: a sum is itself; StatsSums. -/
import Derived.Test.YtilfgekiblpkaaaStaO
import Derived.Test.YtilfgekiblpkaaaStaL
import Derived.ChangeKeysEq
import Derived.Laws.StructEq
namespace Go.Proofs.Ytilfgekiblpkaaa
open Go.RowKit
set_option linter.unusedVariables false
set_option linter.unusedSimpArgs false
theorem eqItems_same {P : Program} (d : Nat) (e : TypeId) (c : Nat) (xs : Array Value) : ∀ (is : List Nat), (∀ i ∈ is, ∃ v, (∀ w, (part e xs (i * c)).run P w = .ok v w) ∧ ∀ w, (Op.equalIn d e v v).run P w = .ok true w) → ∀ w, (Op.eqItems d e c xs xs is).run P w = .ok true w
  | [], _, w => by simp [Op.eqItems]
  | i :: is, h, w => by
    obtain ⟨v, h1, h2⟩ := h i (by simp)
    simp only [Op.eqItems, Sem.run_bind, h1, h2, Result.andThen_ok]
    simpa using eqItems_same d e c xs is (fun j hj => h j (by simp [hj])) w
theorem eqFields_same {P : Program} (d : Nat) (xs : Array Value) : ∀ (fs : List Field), (∀ f ∈ fs, ∃ v, (∀ w, (part f.type xs f.offset).run P w = .ok v w) ∧ ∀ w, (Op.equalIn d f.type v v).run P w = .ok true w) → ∀ w, (Op.eqFields d xs xs fs).run P w = .ok true w
  | [], _, w => by simp [Op.eqFields]
  | f :: fs, h, w => by
    obtain ⟨v, h1, h2⟩ := h f (by simp)
    have ih := eqFields_same d xs fs (fun j hj => h j (by simp [hj])) w
    unfold Op.eqFields
    split
    · simp only [Sem.run_bind, h1, h2, Result.andThen_ok]
      simpa using ih
    · exact ih
theorem part_int (xs : Array Value) (off : Nat) (v : Value) (h : xs[off]? = some v) (w : World) : (part 3 xs off).run Try.prog w = .ok v w := by
  have hi : (isAgg 3).run Try.prog w = .ok false w := by kernel_rfl
  simp [part, hi, h]
theorem c42_at (F : Nat → Int) {i : Nat} (h : i < 42) : (c42 F).toArray[i]? = some (.int .i64 (F i)) := by simpa using c42_get h
theorem infoInt : ∃ i, Try.prog.info? 3 = some i := by
  have h : (Try.prog.info? 3).isSome = true := by kernel_rfl
  exact Option.isSome_iff_exists.1 h
theorem cellsInt : Try.prog.cellsOf 3 = 1 := by kernel_rfl
theorem eqInt (d : Nat) (x : Int) (w : World) : (Op.equalIn (d + 1) 3 (.int .i64 x) (.int .i64 x)).run Try.prog w = .ok true w := by
  rw [run_equalIn_int w d 3 .i64 .i64 x x (by kernel_rfl), beq_self_eq_true]
theorem eqRow (d n : Nat) (t : TypeId) (F : Nat → Int) (off : Nat) (hu : Try.prog.underlying t = some (.array n 3)) (h : off + n ≤ 42) (w : World) :
    (Op.equalIn (d + 1 + 1) t (.agg ((c42 F).toArray.extract off (off + n))) (.agg ((c42 F).toArray.extract off (off + n)))).run Try.prog w = .ok true w := by
  obtain ⟨i, hi⟩ := infoInt
  rw [run_equalIn_array w (d + 1) _ _ hu hi]
  refine eqItems_same _ _ _ _ _ (fun j hj => ⟨.int .i64 (F (off + j)), fun w => ?_, eqInt d _⟩) w
  rw [List.mem_range] at hj
  rw [cellsInt, Nat.mul_one]
  refine part_int _ _ _ ?_ w
  have h1 := c42_at F (i := off + j) (by omega)
  rw [Array.getElem?_extract, if_pos (by rw [List.size_toArray, c42_len]; omega)]
  exact h1
theorem fieldsS : (Try.prog.fieldsOf 28).toList.map (fun f => (f.type, f.offset)) = [(25, 0), (25, 15), (26, 30), (3, 39), (3, 40), (3, 41)] := by kernel_rfl
theorem part_15 (F : Nat → Int) (off : Nat) (w : World) : (part 25 (c42 F).toArray off).run Try.prog w = .ok (.agg ((c42 F).toArray.extract off (off + 15))) w := by
  have hi : (isAgg 25).run Try.prog w = .ok true w := by kernel_rfl
  have hs : (sizeOf 25).run Try.prog w = .ok 15 w := by kernel_rfl
  simp [part, hi, hs]
theorem part_9 (F : Nat → Int) (off : Nat) (w : World) : (part 26 (c42 F).toArray off).run Try.prog w = .ok (.agg ((c42 F).toArray.extract off (off + 9))) w := by
  have hi : (isAgg 26).run Try.prog w = .ok true w := by kernel_rfl
  have hs : (sizeOf 26).run Try.prog w = .ok 9 w := by kernel_rfl
  simp [part, hi, hs]
theorem eqS (F : Nat → Int) (w : World) : (Op.equalIn 10000 28 (.agg (c42 F).toArray) (.agg (c42 F).toArray)).run Try.prog w = .ok true w := by
  rw [show (10000 : Nat) = 9999 + 1 from rfl, run_equalIn_struct w 9999 _ _ _ (by kernel_rfl) (by kernel_rfl)]
  refine eqFields_same _ _ _ (fun f hf => ?_) w
  have hm : (f.type, f.offset) ∈ (Try.prog.fieldsOf 28).toList.map (fun f => (f.type, f.offset)) := List.mem_map_of_mem (f := fun f : Field => (f.type, f.offset)) hf
  rw [fieldsS] at hm
  clear hf
  generalize f.type = t at *
  generalize f.offset = o at *
  have e : (9999 : Nat) = 9997 + 1 + 1 := rfl
  have e1 : (9999 : Nat) = 9998 + 1 := rfl
  simp only [List.mem_cons, List.not_mem_nil, or_false, Prod.mk.injEq] at hm
  rcases hm with ⟨rfl, rfl⟩ | ⟨rfl, rfl⟩ | ⟨rfl, rfl⟩ | ⟨rfl, rfl⟩ | ⟨rfl, rfl⟩ | ⟨rfl, rfl⟩
  · exact ⟨_, part_15 F 0, fun w => by rw [e]; exact eqRow 9997 15 _ F 0 (by kernel_rfl) (by omega) w⟩
  · exact ⟨_, part_15 F 15, fun w => by rw [e]; exact eqRow 9997 15 _ F 15 (by kernel_rfl) (by omega) w⟩
  · exact ⟨_, part_9 F 30, fun w => by rw [e]; exact eqRow 9997 9 _ F 30 (by kernel_rfl) (by omega) w⟩
  · exact ⟨_, part_int _ 39 _ (c42_at F (by omega)), fun w => by rw [e1]; exact eqInt 9998 _ w⟩
  · exact ⟨_, part_int _ 40 _ (c42_at F (by omega)), fun w => by rw [e1]; exact eqInt 9998 _ w⟩
  · exact ⟨_, part_int _ 41 _ (c42_at F (by omega)), fun w => by rw [e1]; exact eqInt 9998 _ w⟩
theorem eqlS (F : Nat → Int) (w : World) : (binOp .eql 28 (.agg (c42 F).toArray) (.agg (c42 F).toArray)).run Try.prog w = .ok (.bool true) w := by
  rw [run_eql_struct, eqS]; rfl
theorem guardS : Try.prog.eqGuardType Try.prog.depth 28 = false := by kernel_rfl
set_option maxRecDepth 8000 in
set_option maxHeartbeats 4000000 in
theorem ssumsLaw (n : Nat) (L : Nat → Ev) (v : Value) (w : World) (h : VR w v n L) : Calls Try.prog 3 #[v] w fun e w' => e = .returned (.bool true) ∧ Below w.heap.size w w' := by
  refine Calls.veil fun Q HQ => ?_
  have HV := Lib.hid h
  obtain ⟨p, c, rfl, a1, a2, A3⟩ := h.parts
  clear h A3
  go_enter Try.func3, Try.ntmps3
  go_wp2_with fail
  refine (hgreat38 n L _ w HV.out).mono ?_; rintro _ z1 ⟨b, rfl, hg, hb1⟩
  have HB1 := Lib.hid hb1
  clear hb1
  cases b with
  | true =>
    clear hg
    go_wp2_with fail
    refine (lives38_calls _).mono ?_; rintro _ z2 ⟨rfl, hb2⟩
    have HF := Lib.hid (below_on HB1.out hb2)
    clear hb2
    go_wp2_with fail
    (try go_ret)
    rw [HQ.out]
    exact ⟨rfl, HF.out⟩
  | false =>
    obtain ⟨hn, hps⟩ := hg rfl
    have HN := Lib.hid hn
    have HPS := Lib.hid hps
    clear hg hn hps
    go_wp2_with fail
    refine (sof n L _ z1 (HV.out.below HB1.out) HN.out HPS.out).mono ?_; rintro _ z2 ⟨rfl, hb2⟩
    have HB2 := Lib.hid (below_on HB1.out hb2)
    clear hb2
    go_wp2_with fail
    have HR := Lib.hid (rof n L _ z2 (HV.out.below HB2.out) HN.out HPS.out)
    rw [ref_sum] at HR
    refine HR.out.mono ?_; rintro _ z3 ⟨rfl, hb3⟩
    have HB3 := Lib.hid (below_on HB2.out hb3)
    clear hb3 HR
    have heq1 := eqlS (sumF L n)
    have heq2 := eqS (sumF L n)
    have hgd := guardS
    generalize (c42 (sumF L n)).toArray = A at heq1 heq2 ⊢
    go_wp2_with fail
    refine (lives38_calls _).mono ?_; rintro _ z4 ⟨rfl, hb4⟩
    have HF := Lib.hid (below_on HB3.out hb4)
    clear hb4
    go_wp2_with fail
    (try go_ret)
    rw [HQ.out]
    exact ⟨rfl, HF.out⟩
theorem statsSums_walk (v0 : Value) (w : World) (s0 : Fr.ok1 w (.slice [.int .i64, .bool, .int .i64, .int .i64, .int .i64, .int .i64, .int .i64, .int .i64, .int .i64, .int .i64, .int .i64, .slice [.int .i64, .int .i64]]) v0) :
    Calls Try.prog 3 #[v0] w fun e w' => e = .returned (.bool true) ∧ Below w.heap.size w w' := by
  obtain ⟨n, L, h⟩ := events_open s0
  exact ssumsLaw n L v0 w h
end Go.Proofs.Ytilfgekiblpkaaa
