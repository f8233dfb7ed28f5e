/- Layer 7: the law's do, same, lives. -/
import Derived.Test.YtkkdehniheajeaaGrdI
namespace Go.Proofs.Ytkkdehniheajeaa.Gd
open Go.RowKit Go.Maps WordM EdgeM
set_option linter.unusedVariables false
set_option linter.unusedSimpArgs false
theorem made_slots (n : Nat) : madeCells #[.bool false, .int .u64 0] (n * 2) = (cS2 (fun _ => false) (fun _ => 0) n).toArray := by
  apply Array.toList_inj.1
  simp [madeCells, cS2]
  intro a ha
  unfold cell2
  rcases (by omega : a % 2 = 0 ∨ a % 2 = 1) with h | h <;> simp [h]
theorem run_slots (n : Nat) (hn : n ≤ 250) (w : World) : (Instr.makeSlice 47 (.int .i64 n) (.int .i64 n)).run Try.prog w = .ok (.slice (some ⟨w.heap.size, 0, none⟩) n n) (w.alloc (.cells (cS2 (fun _ => false) (fun _ => 0) n).toArray 145)) := by
  obtain ⟨i, hi, hz, hs, hb⟩ := info_parts infoSl
  rw [run_makeSlice w 47 145 i _ (by kernel_rfl) hi hz .i64 .i64 n n (by omega) (by omega) (by rw [hs]; omega) (by rw [hb]; omega) (by omega)]
  rw [hs, ← made_slots]
  simp [Value.cells]
theorem rnew7_no (slots : Int) (w : World) (h : ¬ (1 ≤ slots ∧ slots ≤ 250)) : Calls Try.prog 55 #[.int .i64 slots] w fun e w' => e = .returned (.agg #[.slice none 0 0, .int .i64 0]) ∧ Below w.heap.size w w' := by
  rcases (by omega : slots < 1 ∨ (1 ≤ slots ∧ 250 < slots)) with q1 | ⟨q1, q2⟩
  all_goals
    clear h
    go_enter Try.func55, Try.ntmps55
    go_wp2
    exact bodyPost_ret (v := .agg #[.slice none 0 0, .int .i64 0]) (by simp [results, Try.results55, go_sem]) rfl ⟨rfl, by (repeat (first | exact Below.refl _ _ | assumption | refine below_new ?_ _ | refine Below.drew ?_ | refine below_drewN ?_ _ | refine below_on ?_ (by assumption)))⟩
set_option maxHeartbeats 1000000 in
theorem rnew7 (n : Nat) (w : World) (h0 : 0 < n) (h1 : n ≤ 250) : Calls Try.prog 55 #[.int .i64 n] w fun e w' => ∃ b, e = .returned (xV b n n 0) ∧ SR w' b n (fun _ => false) (fun _ => 0) ∧ w.heap.size ≤ b ∧ Below w.heap.size w w' := by
  refine Calls.veil fun Q HQ => ?_
  have m1 : ¬ (n : Int) < 1 := by omega
  have m2 : ¬ (250 : Int) < n := by omega
  go_enter Try.func55, Try.ntmps55
  go_upto_region 1 with (fail)
  generalize hV : World.alloc w _ = V
  have hBV : Below w.heap.size w V := by rw [← hV]; (repeat (first | exact Below.refl _ _ | assumption | refine below_new ?_ _ | refine Below.drew ?_ | refine below_drewN ?_ _ | refine below_on ?_ (by assumption)))
  have hs : V.heap.size = w.heap.size + 1 := by rw [← hV]; simp
  have f0 := Ext.made_fr hV (Below.refl _ _)
  have c0 : V.cell? ⟨w.heap.size, 0, none⟩ = some (.slice none 0 0) := Ext.made_in hV (Below.refl _ _) 0 _ rfl
  have c1 : V.cell? ⟨w.heap.size, 1, none⟩ = some (.int .i64 0) := Ext.made_in hV (Below.refl _ _) 1 _ rfl
  clear hV
  have hrun := run_slots n h1 V
  have HSB := Lib.hid (show SB (V.alloc (.cells (cS2 (fun _ => false) (fun _ => 0) n).toArray 145)) V.heap.size n (fun _ => false) (fun _ => 0) from ⟨_, heap_alloc_new V _, by
    show List.take (n * 2) (cS2 _ _ n) = _
    rw [List.take_of_length_le (by rw [cS2_len]; exact Nat.le_refl _)]⟩)
  have HC := Lib.hid (And.intro hs hBV)
  have c0 := Ext.on c0; have c1 := Ext.on c1
  have f0 : ∀ i o, (V.alloc o).frozen? ⟨w.heap.size, i, none⟩ = false := fun i o => (((Below.refl _ _).alloc (Nat.le_refl _) o : Below V.heap.size V (V.alloc o)).frozen (p := ⟨w.heap.size, i, none⟩) (by simp; omega)).trans (f0 i)
  clear hs hBV
  generalize hW : V.alloc (.cells (cS2 (fun _ => false) (fun _ => 0) n).toArray 145) = W at hrun HSB
  have c0 : W.cell? ⟨w.heap.size, 0, none⟩ = some (.slice none 0 0) := by rw [← hW]; exact c0 _
  have c1 : W.cell? ⟨w.heap.size, 1, none⟩ = some (.int .i64 0) := by rw [← hW]; exact c1 _
  have f0 : ∀ i, W.frozen? ⟨w.heap.size, i, none⟩ = false := fun i => by rw [← hW]; exact f0 i _
  have HBW := Lib.hid (show Below w.heap.size w W by rw [← hW]; exact HC.out.2.alloc HC.out.2.size _)
  clear hW
  go_wp2_with fail
  refine bodyPost_ret (v := .agg #[.slice (some ⟨V.heap.size, 0, none⟩) n n, .int .i64 0]) (by simp [results, Try.results55, go_sem, c0, c1, World.cell?_setCell_same, World.cell?_setCell_other]) rfl ?_
  rw [HQ.out]
  have hne : V.heap.size ≠ w.heap.size := by have := HC.out.1; omega
  exact ⟨V.heap.size, rfl, (HSB.out.read.setOther hne _).setOther hne _, HC.out.2.size, below_setC (below_setC HBW.out (Nat.le_refl _) _) (Nat.le_refl _) _⟩
theorem edgeN_bd {n : Nat} {G : Nat → Int} (hG : ∀ i, 0 ≤ G i ∧ G i < 1125899906842624) (slot : Int) : 0 ≤ edgeN n G slot ∧ edgeN n G slot < 18446744073709551616 := by
  unfold edgeN
  split
  · have := makeI_bd slot (hG (slot.toNat - 1)).1
    omega
  · omega
/-- Both guards, alike. -/
structure GB (w : World) (q g m b n c : Nat) (H : Nat → Bool) (G : Nat → Int) (s : Int) : Prop where
  ga : GA w q g m n H G s
  sr : SR w b n H G
  bq : b ≠ q
  bg : b ≠ g
  bm : b ≠ m
  nc : n ≤ c
  cc : c ≤ 9223372036854775807
theorem GB.below {w w' : World} {q g m b n c : Nat} {H : Nat → Bool} {G : Nat → Int} {s : Int} (h : GB w q g m b n c H G s) (k : Below w.heap.size w w') : GB w' q g m b n c H G s :=
  ⟨h.ga.below k, h.sr.below k, h.bq, h.bg, h.bm, h.nc, h.cc⟩
theorem GB.lt {w : World} {q g m b n c : Nat} {H : Nat → Bool} {G : Nat → Int} {s : Int} (h : GB w q g m b n c H G s) : b < w.heap.size :=
  World.block_lt_of_cell? w ⟨b, 0 * 2, none⟩ (h.sr 0 h.ga.n0).1
end Go.Proofs.Ytkkdehniheajeaa.Gd
