/- Layer 42: copied, Without. -/
import Derived.Test.YtaammkmnhhipgaaShrA
import Derived.StillTailTactics
namespace Go.Proofs.Ytaammkmnhhipgaa
open Go.RowKit
set_option linter.unusedVariables false
set_option linter.unusedSimpArgs false
/-- Of what was there block b alone may have changed. -/
structure Kx (b : Nat) (a w : World) : Prop where
  os : w.os = a.os
  tape : w.tape = a.tape
  output : w.output = a.output
  size : a.heap.size ≤ w.heap.size
  block : ∀ k, k < a.heap.size → k ≠ b → w.heap[k]? = a.heap[k]?
theorem Kx.refl (b : Nat) (w : World) : Kx b w w := ⟨rfl, rfl, rfl, Nat.le_refl _, fun _ _ _ => rfl⟩
theorem Kx.trans {b : Nat} {u v w : World} (h : Kx b u v) (k : Kx b v w) : Kx b u w :=
  ⟨k.os.trans h.os, k.tape.trans h.tape, k.output.trans h.output, Nat.le_trans h.size k.size, fun i hi hn => (k.block i (Nat.lt_of_lt_of_le hi h.size) hn).trans (h.block i hi hn)⟩
theorem Kx.below {b : Nat} {u v w : World} (h : Kx b u v) (k : Below v.heap.size v w) : Kx b u w :=
  h.trans ⟨k.os, k.tape, k.output, k.size, fun i hi _ => k.block i hi⟩
theorem Kx.drew {b : Nat} {u v : World} (h : Kx b u v) : Kx b u v.drew := h.below (Below.refl _ _).drew
theorem Kx.set {b : Nat} {u v : World} (h : Kx b u v) (o : Nat) (x : Value) : Kx b u (v.setCell ⟨b, o, none⟩ x) :=
  h.trans ⟨rfl, rfl, rfl, by simp, fun i _ hn => Below.heap_setCell _ _ _ _ hn⟩
theorem Kx.alloc {b : Nat} {u v : World} (h : Kx b u v) (o : Obj) : Kx b u (v.alloc o) := h.below ((Below.refl _ _).alloc (Nat.le_refl _) o)
theorem Kx.to {b B : Nat} {u w : World} (h : Kx b u w) (hB : B ≤ b) (hs : B ≤ u.heap.size) : Below B u w :=
  ⟨h.os, h.tape, h.output, h.size, fun i hi => h.block i (by omega) (by omega)⟩
structure KX (b : Nat) (V : World) where
  w : World
  h : Kx b V w
instance (b : Nat) (V : World) : Nonempty (KX b V) := ⟨⟨V, Kx.refl _ _⟩⟩
theorem Kx.cell {b : Nat} {V w : World} (x : Kx b V w) {g o : Nat} {v : Value} (h : V.cell? ⟨g, o, none⟩ = some v) (hg : g ≠ b) : w.cell? ⟨g, o, none⟩ = some v :=
  (World.cell?_of_block (w := V) (a := ⟨g, o, none⟩) (x.block g (World.block_lt_of_cell? V ⟨g, o, none⟩ h) hg)).trans h
theorem KX.cells {b : Nat} {V : World} {g o : Nat} {v : Value} (h : V.cell? ⟨g, o, none⟩ = some v) (hg : g ≠ b) : ∀ x : KX b V, x.w.cell? ⟨g, o, none⟩ = some v := fun x => x.h.cell h hg
theorem own_kx {b B : Nat} {w w' : World} {v : Value} {l : List Ent} (h : OwnL w B v l) (hb : b < B) (k : Kx b w w') : OwnL w' B v l := by
  refine ⟨h.1, ?_⟩
  rcases h.2 with hn | ⟨g, cap, cur, rfl, hb', hgg, rest⟩
  · exact .inl hn
  · exact .inr ⟨g, cap, cur, rfl, hb', by rw [k.block g (Array.getElem?_eq_some_iff.1 hgg).1 (by omega)]; exact hgg, rest⟩
theorem own_slice {w : World} {B : Nat} {v : Value} {l : List Ent} (h : OwnL w B v l) : ∃ p c, v = .slice p l.length c ∧ l.length ≤ c ∧ c ≤ 9223372036854775807 := by
  obtain ⟨p, c, h1, h2, h3⟩ := (own_EL h).slice
  exact ⟨p, c, h1, h2, h3⟩
set_option maxHeartbeats 1000000 in
theorem scopied (T S K : Int) (l : List Ent) (v : Value) (w : World) (h : EL w v l) (hn : l.length ≤ 2513169434843) :
    Calls Try.prog 15 #[.agg #[.int .i64 T, .int .i64 S, .int .u64 K, v]] w fun e w' => ∃ v', e = .returned (.agg #[.int .i64 T, .int .i64 S, .int .u64 K, v']) ∧ OwnL w' w.heap.size v' l ∧ Below w.heap.size w w' := by
  refine Calls.veil fun Q HQ => ?_
  have HE := Lib.hid h
  obtain ⟨p, c, rfl, a1, a2⟩ := h.slice
  clear h
  go_enter Try.func15, Try.ntmps15
  go_wp2_with fail
  generalize hV : World.alloc (World.alloc w _) _ = V
  have hs : V.heap.size = w.heap.size + 2 := by rw [← hV]; simp
  have HB := Lib.hid (show Below w.heap.size w V by rw [← hV]; (repeat (first | exact Below.refl _ _ | assumption | refine below_new ?_ _ | refine Below.drew ?_ | refine below_drewN ?_ _ | refine below_on ?_ (by assumption))))
  have HEV := Lib.hid (HE.out.below HB.out)
  have hv1 : V.heap[w.heap.size + 1]? = some (.cells #[.int .i64 0, .int .i64 0, .int .u64 0, .slice none 0 0] 27 (0, 0)) := by
    rw [← hV]; exact (by simp : (w.alloc (.cells #[.int .i64 T, .int .i64 S, .int .u64 K, .slice p l.length c] 27)).heap.size = w.heap.size + 1) ▸ heap_alloc_new (w.alloc (.cells #[.int .i64 T, .int .i64 S, .int .u64 K, .slice p l.length c] 27)) _
  have z0 := KX.cells (b := w.heap.size + 1) (Ext.made1 hV 0 _ rfl ⟨V, Below.refl _ _⟩ : V.cell? ⟨w.heap.size, 0, none⟩ = some (.int .i64 T)) (by omega)
  have z1 := KX.cells (b := w.heap.size + 1) (Ext.made1 hV 1 _ rfl ⟨V, Below.refl _ _⟩ : V.cell? ⟨w.heap.size, 1, none⟩ = some (.int .i64 S)) (by omega)
  have z2 := KX.cells (b := w.heap.size + 1) (Ext.made1 hV 2 _ rfl ⟨V, Below.refl _ _⟩ : V.cell? ⟨w.heap.size, 2, none⟩ = some (.int .u64 K)) (by omega)
  have z3 := KX.cells (b := w.heap.size + 1) (Ext.made1 hV 3 _ rfl ⟨V, Below.refl _ _⟩ : V.cell? ⟨w.heap.size, 3, none⟩ = some (.slice p l.length c)) (by omega)
  clear hV
  have HS := Lib.hid hs
  have HV1 := Lib.hid hv1
  clear hs hv1
  (with_reducible refine wp_region_mix (fun w' => ∃ x : KX (w.heap.size + 1) V, w' = x.w) ?_ ?_ ?_ ?_; kernel_rfl; kernel_rfl; exact ⟨⟨V.drew, (Kx.refl _ _).drew⟩, rfl⟩)
  repeat (first | ((with_reducible refine mix_plain (by kernel_rfl) ?_); (first | go_big_quiet_skip | (go_big_quiet_want; go_big_quiet_op; go_big_quiet_on)); (with_reducible refine mix_on ?_)) | ((with_reducible refine mix_skip (by kernel_rfl) ?_); go_big_quiet_skip; (with_reducible refine mix_on ?_)))
  ((with_reducible refine wpMix_chain (by kernel_rfl) (by kernel_rfl) (fun K HK => ?_)); go_step)
  refine (ecl l _ V.drew (HEV.out.below (Below.refl _ _).drew) hn).mono ?_; rintro _ w2 ⟨v', rfl, hE, hb2⟩
  have hb2 : Below V.heap.size V w2 := below_on (Below.refl V.heap.size V).drew hb2
  obtain ⟨p', c', rfl, _, _⟩ := own_slice hE
  have HE2 := Lib.hid hE
  refine HK.out _ _ ⟨⟨w2, (Kx.refl _ _).below hb2⟩, rfl⟩ ?_
  have hh : w2.heap[w.heap.size + 1]? = some (.cells #[.int .i64 0, .int .i64 0, .int .u64 0, .slice none 0 0] 27 (0, 0)) := by rw [hb2.block _ (by have := HS.out; omega)]; exact HV1.out
  have f0 : w2.cell? ⟨w.heap.size + 1, 0, none⟩ = some (.int .i64 0) := by rw [cell_of_row _ _ _ _ _ (0, 0) hh]; rfl
  have f1 : w2.cell? ⟨w.heap.size + 1, 1, none⟩ = some (.int .i64 0) := by rw [cell_of_row _ _ _ _ _ (0, 0) hh]; rfl
  have f2 : w2.cell? ⟨w.heap.size + 1, 2, none⟩ = some (.int .u64 0) := by rw [cell_of_row _ _ _ _ _ (0, 0) hh]; rfl
  have f3 : w2.cell? ⟨w.heap.size + 1, 3, none⟩ = some (.slice none 0 0) := by rw [cell_of_row _ _ _ _ _ (0, 0) hh]; rfl
  have ff : ∀ i, w2.frozen? ⟨w.heap.size + 1, i, none⟩ = false := fun i => frozen_of_row _ _ _ _ _ hh
  have HB2 := Lib.hid hb2
  clear HK K hE hb2 hh
  repeat (first | ((with_reducible refine mix_plain (by kernel_rfl) ?_); (first | go_big_quiet_skip | (go_big_quiet_want; go_big_quiet_op; go_big_quiet_on)); (with_reducible refine mix_on ?_)) | ((with_reducible refine mix_skip (by kernel_rfl) ?_); go_big_quiet_skip; (with_reducible refine mix_on ?_)))
  ((with_reducible refine wpMix_chain (by kernel_rfl) (by kernel_rfl) (fun K HK => ?_)); go_step)
  refine HK.out _ _ ⟨⟨_, ((((Kx.refl (w.heap.size + 1) V).below HB2.out).set 0 _).set 1 _).set 2 _ |>.set 3 _⟩, rfl⟩ ?_
  clear HK K
  refine wpMix_nil ?_
  generalize hU : World.setCell _ _ _ = U
  have hBU : Below w.heap.size w U := by
    rw [← hU]
    have hs := HS.out
    exact HB.out.trans ((((((Kx.refl (w.heap.size + 1) V).below HB2.out).set 0 _).set 1 _).set 2 _ |>.set 3 _).to (by omega) (by omega))
  have hEU : OwnL U V.drew.heap.size (.slice p' l.length c') l := by
    have hs := HS.out
    rw [← hU]
    exact own_kx HE2.out (b := w.heap.size + 1) (by show _ < V.heap.size; omega) (((((Kx.refl (w.heap.size + 1) w2).set 0 _).set 1 _).set 2 _).set 3 _)
  have g0 : U.cell? ⟨w.heap.size + 1, 0, none⟩ = some (.int .i64 T) := by subst hU; go_simp
  have g1 : U.cell? ⟨w.heap.size + 1, 1, none⟩ = some (.int .i64 S) := by subst hU; go_simp
  have g2 : U.cell? ⟨w.heap.size + 1, 2, none⟩ = some (.int .u64 K) := by subst hU; go_simp
  have g3 : U.cell? ⟨w.heap.size + 1, 3, none⟩ = some (.slice p' l.length c') := by subst hU; go_simp
  clear hU f0 f1 f2 f3 ff
  have HBU := Lib.hid hBU; have HEU := Lib.hid (own_low7 hEU (by show w.heap.size ≤ V.heap.size; have := HS.out; omega))
  clear hBU hEU z0 z1 z2 z3
  go_wp2_with fail
  refine bodyPost_ret (v := .agg #[.int .i64 T, .int .i64 S, .int .u64 K, .slice p' l.length c']) (by simp [results, Try.results15, go_sem, g0, g1, g2, g3]) rfl ?_
  rw [HQ.out]
  exact ⟨_, rfl, HEU.out, HBU.out⟩
end Go.Proofs.Ytaammkmnhhipgaa
