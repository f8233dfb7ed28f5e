/- Layer 7: New of both; the reference's Edge, Leads. -/
import Derived.Test.YtlahpnigabfenaaGrdE
import Derived.Test.YtlahpnigabfenaaGrdD
import Derived.Deep.QuietTactic
namespace Go.Proofs.Ytlahpnigabfenaa.Gd
open Go.RowKit Go.Maps WordM EdgeM
set_option linter.unusedVariables false
set_option linter.unusedSimpArgs false
theorem info64 : (Try.prog.info? 22).map (fun i => (i.zero, i.size, i.bytes)) = some (some (.int .u64 0), 1, 8) := by kernel_rfl
theorem made_one (n : Nat) : madeCells #[.int .u64 0] n = (cG (fun _ => 0) n).toArray := by
  apply Array.toList_inj.1
  simp [madeCells, cG]
  intro a _; rw [Nat.mod_one]; rfl
theorem run_gens (n : Nat) (hn : n ≤ 250) (w : World) : (Instr.makeSlice 32 (.int .i64 n) (.int .i64 n)).run Try.prog w = .ok (.slice (some ⟨w.heap.size, 0, none⟩) n n) (w.alloc (.cells (cG (fun _ => 0) n).toArray 22)) := by
  obtain ⟨i, hi, hz, hs, hb⟩ := info_parts info64
  rw [run_makeSlice w 32 22 i _ (by kernel_rfl) hi hz .i64 .i64 n n (by omega) (by omega) (by rw [hs]; omega) (by rw [hb]; omega) (by omega)]
  rw [hs, ← made_one]
  simp [Value.cells]
theorem GA.made (w : World) (n : Nat) (h0 : 0 < n) (h1 : n ≤ 250) (W : World) (hW : W = ((w.alloc (.cells (cG (fun _ => 0) n).toArray 22)).alloc (.map #[] 0)).alloc (.cells #[.slice (some ⟨w.heap.size, 0, none⟩) n n, .map (some (w.heap.size + 1)), .int .i64 0] 107)) :
    GA W (w.heap.size + 2) w.heap.size (w.heap.size + 1) n (fun _ => false) (fun _ => 0) 0 := by
  subst hW
  generalize hA : w.alloc (.cells (cG (fun _ => 0) n).toArray 22) = A
  have sA : A.heap.size = w.heap.size + 1 := by rw [← hA, World.size_alloc]
  have gA : A.heap[w.heap.size]? = some (.cells (cG (fun _ => 0) n).toArray 22 (0, 0)) := by rw [← hA]; exact heap_alloc_new w _
  clear hA
  have hm := World.ownsMap_made (H := Unit) A Try.prog 3 (unitElem (H := Unit))
  rw [sA] at hm
  generalize hB : A.alloc (.map #[] 0) = B at hm ⊢
  have sB : B.heap.size = w.heap.size + 2 := by rw [← hB, World.size_alloc, sA]
  have gB : B.heap[w.heap.size]? = some (.cells (cG (fun _ => 0) n).toArray 22 (0, 0)) := by rw [← hB, Below.heap_alloc _ _ _ (by omega)]; exact gA
  clear hB
  refine ⟨?_, ?_, ⟨.map [], (hm.alloc _).mono (Nat.zero_le _), fun i hi => rfl, ?_⟩, by omega, by omega, by omega, h0, h1, fun i => ⟨by omega, by omega⟩, by omega⟩
  · exact ⟨n, Nat.le_refl _, by omega, by rw [← sB]; exact heap_alloc_new B _⟩
  · exact ⟨_, by rw [Below.heap_alloc _ _ _ (by omega)]; exact gB, by show List.take n (cG _ n) = _; rw [List.take_of_length_le (by rw [cG_len]; exact Nat.le_refl _)]⟩
  · have : ∀ n, cntB (fun _ => false) n = 0 := fun n => by induction n with
      | zero => rfl
      | succ n ih => rw [cntB, ih]; rfl
    rw [this]; rfl
set_option maxRecDepth 8000 in
set_option maxHeartbeats 1000000 in
theorem gnew (slots : Int) (w : World) : Calls Try.prog 31 #[.int .i64 slots] w fun e w' => Below w.heap.size w w' ∧ ((¬ (1 ≤ slots ∧ slots ≤ 250) ∧ e = .returned (.pointer none)) ∨ (1 ≤ slots ∧ slots ≤ 250 ∧ ∃ q g m, e = .returned (.pointer (some ⟨q, 0, none⟩)) ∧ w.heap.size ≤ q ∧ w.heap.size ≤ g ∧ w.heap.size ≤ m ∧ GA w' q g m slots.toNat (fun _ => false) (fun _ => 0) 0)) := by
  refine Calls.veil fun Q HQ => ?_
  rcases (by omega : slots < 1 ∨ (1 ≤ slots ∧ 250 < slots) ∨ (1 ≤ slots ∧ slots ≤ 250)) with q1 | ⟨q1, q2⟩ | ⟨q1, q2⟩
  · go_enter Try.func31, Try.ntmps31
    go_wp2_with fail
    (try go_ret)
    rw [HQ.out]
    exact ⟨Below.refl _ _, .inl ⟨by omega, rfl⟩⟩
  · go_enter Try.func31, Try.ntmps31
    go_wp2_with fail
    (try go_ret)
    rw [HQ.out]
    exact ⟨Below.refl _ _, .inl ⟨by omega, rfl⟩⟩
  · obtain ⟨n, rfl⟩ : ∃ n : Nat, slots = n := ⟨slots.toNat, by omega⟩
    have hrun := run_gens n (by omega) w
    have hmm := @run_makeMap Try.prog
    have HP := Lib.hid (And.intro q1 q2)
    go_enter Try.func31, Try.ntmps31
    go_wp2_with fail
    (try go_ret)
    rw [HQ.out]
    obtain ⟨q1, q2⟩ := HP.out
    refine ⟨(((Below.refl _ _).alloc (Nat.le_refl _) _).alloc (by simp) _).alloc (by simp; omega) _, .inr ⟨q1, q2, w.heap.size + 2, w.heap.size, w.heap.size + 1, ?_, by omega, by omega, by omega, GA.made w n (by omega) (by omega) _ ?_⟩⟩
    · simp
    · simp
end Go.Proofs.Ytlahpnigabfenaa.Gd
