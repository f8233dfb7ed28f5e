/- Layer 10: two states are written over; answers are like themselves. -/
import Derived.Test.YtcbdbfmlkkpndaaModT
namespace Go.Proofs.Ytcbdbfmlkkpndaa
open Go.RowKit
set_option linter.unusedVariables false
set_option linter.unusedSimpArgs false
theorem newcell {w : World} {b : Nat} {arr : Array Value} {T : TypeId} (h : w.heap[b]? = some (.cells arr T (0, 0))) (k : Nat) (v : Value) (hk : arr[k]? = some v) : w.cell? ⟨b, k, none⟩ = some v := by
  rw [cell_of_row _ _ _ _ _ (0, 0) h]; exact hk
theorem newfree {w : World} {b : Nat} {arr : Array Value} {T : TypeId} (h : w.heap[b]? = some (.cells arr T (0, 0))) : ∀ i, w.frozen? ⟨b, i, none⟩ = false := fun i => frozen_of_row _ _ _ _ _ h
/-- The states in blocks X and X + 1 are written over. -/
theorem two_sets {w wd : World} {X : Nat} {p q p2 q2 : Option Addr} {n1 c1 n2 c2 n3 c3 n4 c4 : Nat} (m8 t8 m10 t10 : Value) (hb : Below w.heap.size w wd) (hw : w.heap.size ≤ X)
    (hx : wd.heap[X]? = some (.cells #[.slice p n1 c1, .slice q n2 c2] 27 (0, 0))) (hy : wd.heap[X + 1]? = some (.cells #[.slice p2 n3 c3, .slice q2 n4 c4] 31 (0, 0))) {W : World}
    (hW : ((((wd.setCell ⟨X, 0, none⟩ m8).setCell ⟨X, 1, none⟩ t8).setCell ⟨X + 1, 0, none⟩ m10).setCell ⟨X + 1, 1, none⟩ t10) = W) :
    Below w.heap.size w W ∧ W.heap[X]? = some (.cells #[m8, t8] 27 (0, 0)) ∧ W.heap[X + 1]? = some (.cells #[m10, t10] 31 (0, 0)) ∧ NP wd W ∧ (∀ b, b ≠ X → b ≠ X + 1 → W.heap[b]? = wd.heap[b]?) ∧ ∀ v n L, TR wd v n L → TR W v n L := by
  subst hW
  obtain ⟨k1, m1, l1⟩ := st2 (w := w) (X := []) (T := 27) (by decide) hx hw (KX.of_below hb) m8 t8
  have hX1 := heap_setCell_same _ X 1 _ _ t8 (heap_setCell_same wd X 0 _ _ m8 hx)
  have hY1 := (l1 (X + 1) (by omega)).trans hy
  obtain ⟨k2, m2, l2⟩ := st2 (w := w) (X := []) (T := 31) (by decide) hY1 (by omega) k1 m10 t10
  have hY2 := heap_setCell_same _ (X + 1) 1 _ _ t10 (heap_setCell_same _ (X + 1) 0 _ _ m10 hY1)
  have hX2 := (l2 X (by omega)).trans hX1
  have hl : ∀ b, b ≠ X → b ≠ X + 1 → _ := fun b h1 h2 => (l2 b h2).trans (l1 b h1)
  refine ⟨⟨k2.os, k2.tape, k2.output, k2.size, fun k hk => k2.block k hk (by simp)⟩, hX2, hY2, m1.trans m2, hl, fun v n L ht => tr_keep2 ht (m1.trans m2) fun b x h => hl b ?_ ?_⟩
  · intro e; subst e; rw [newcell hx 0 _ rfl] at h; cases h
  · intro e; subst e; rw [newcell hy 0 _ rfl] at h; cases h
theorem sameAB_refl (k key val n : Int) (l : PL) : sameAB k key val n l k key val n l = true := by
  unfold sameAB
  simp [sameB_refl]
theorem doA_ps {m : Nat} {st : Sm} (h : OkN m st) (t : Int) (c : Ca) : (doA st t c).2.ps.length ≤ m := by
  unfold doA
  split
  · exact Nat.zero_le _
  split
  · split <;> exact Nat.zero_le _
  split
  · simp only [foundA_ps]; exact Nat.zero_le _
  split
  · exact Nat.le_trans (cut_sub _ _ _ _).length_le h.ml
  split
  · exact Nat.zero_le _
  split
  · simp only [foundA_ps]; exact Nat.zero_le _
  · simp only [sesA_ps]; exact Nat.zero_le _
/-- What regions 7 and 8 leave. -/
def DoD (T : TypeId) (V : World) (st : Sm) (a : An) (p8 p9 : Value) (wc : World) : Prop :=
  ∃ R8 R9 mv tv av, p8 = .pointer (some ⟨R8, 0, none⟩) ∧ p9 = .pointer (some ⟨R9, 0, none⟩) ∧ wc.heap[R8]? = some (.cells #[mv, tv] T (0, 0)) ∧ wc.heap[R9]? = some (.cells #[.int .i64 a.kind, .int .i64 a.key, .int .i64 a.val, .int .i64 a.n, av] 34 (0, 0)) ∧ PO wc mv st.mp ∧ TR wc tv st.n st.th ∧ PO wc av a.ps ∧ Below V.heap.size V wc
theorem do_fin1 {T : TypeId} {V U : World} {st : Sm} {a : An} {b8 b9 : Nat} {mv tv av : Value} (h8 : U.heap[b8]? = some (.cells #[mv, tv] T (0, 0))) (h9 : U.heap[b9]? = some (.cells #[.int .i64 0, .int .i64 0, .int .i64 0, .int .i64 0, .slice none 0 0] 34 (0, 0))) (hne : b8 ≠ b9) (hb : Below V.heap.size V U) (k9 : V.heap.size ≤ b9) (hp : PO U mv st.mp) (ht : TR U tv st.n st.th) (ha : PO U av a.ps) :
    DoD T V st a (.pointer (some ⟨b8, 0, none⟩)) (.pointer (some ⟨b9, 0, none⟩)) (((((U.setCell ⟨b9, 0, none⟩ (.int .i64 a.kind)).setCell ⟨b9, 1, none⟩ (.int .i64 a.key)).setCell ⟨b9, 2, none⟩ (.int .i64 a.val)).setCell ⟨b9, 3, none⟩ (.int .i64 a.n)).setCell ⟨b9, 4, none⟩ av) := by
  obtain ⟨k2, n2, o2⟩ := ans5 (w := V) (X := []) h9 k9 (KX.of_below hb) (.int .i64 a.kind) (.int .i64 a.key) (.int .i64 a.val) (.int .i64 a.n) av
  have hf := heap_setCell_same _ b9 4 _ _ av (heap_setCell_same _ b9 3 _ _ (.int .i64 a.n) (heap_setCell_same _ b9 2 _ _ (.int .i64 a.val) (heap_setCell_same _ b9 1 _ _ (.int .i64 a.key) (heap_setCell_same U b9 0 _ _ (.int .i64 a.kind) h9))))
  refine ⟨b8, b9, mv, tv, av, rfl, rfl, (o2 b8 hne).trans h8, hf, hp.np n2, tr_keep2 ht n2 fun b x h => o2 b ?_, ha.np n2, ⟨k2.os, k2.tape, k2.output, k2.size, fun k hk => k2.block k hk (by simp)⟩⟩
  intro e; subst e; rw [newcell h9 0 _ rfl] at h; cases h
theorem do_fin {T : TypeId} (hT : T ≠ 53) {V U : World} {st : Sm} {a : An} {b8 b9 : Nat} {mv tv av : Value} (h8 : U.heap[b8]? = some (.cells #[.slice none 0 0, .slice none 0 0] T (0, 0))) (h9 : U.heap[b9]? = some (.cells #[.int .i64 0, .int .i64 0, .int .i64 0, .int .i64 0, .slice none 0 0] 34 (0, 0))) (hne : b8 ≠ b9) (hb : Below V.heap.size V U) (k8 : V.heap.size ≤ b8) (k9 : V.heap.size ≤ b9) (hp : PO U mv st.mp) (ht : TR U tv st.n st.th) (ha : PO U av a.ps) :
    DoD T V st a (.pointer (some ⟨b8, 0, none⟩)) (.pointer (some ⟨b9, 0, none⟩)) (((((((U.setCell ⟨b8, 0, none⟩ mv).setCell ⟨b8, 1, none⟩ tv).setCell ⟨b9, 0, none⟩ (.int .i64 a.kind)).setCell ⟨b9, 1, none⟩ (.int .i64 a.key)).setCell ⟨b9, 2, none⟩ (.int .i64 a.val)).setCell ⟨b9, 3, none⟩ (.int .i64 a.n)).setCell ⟨b9, 4, none⟩ av) := by
  obtain ⟨k1, n1, o1⟩ := st2 (w := V) (X := []) hT h8 k8 (KX.of_below hb) mv tv
  have hX := heap_setCell_same _ b8 1 _ _ tv (heap_setCell_same U b8 0 _ _ mv h8)
  refine do_fin1 hX ((o1 b9 (Ne.symm hne)).trans h9) hne ⟨k1.os, k1.tape, k1.output, k1.size, fun k hk => k1.block k hk (by simp)⟩ k9 (hp.np n1) (tr_keep2 ht n1 fun b x h => o1 b ?_) (ha.np n1)
  intro e; subst e; rw [newcell h8 0 _ rfl] at h; cases h
theorem do_a {T : TypeId} {V w : World} {st : Sm} {a : An} {mv tv av : Value} (hb : Below V.heap.size V w) (hp : PO w mv st.mp) (ht : TR w tv st.n st.th) (ha : PO w av a.ps) :
    DoD T V st a (.pointer (some ⟨w.heap.size, 0, none⟩)) (.pointer (some ⟨w.heap.size + 1, 0, none⟩)) ((w.alloc (.cells #[mv, tv] T)).alloc (.cells #[.int .i64 a.kind, .int .i64 a.key, .int .i64 a.val, .int .i64 a.n, av] 34)) := by
  obtain ⟨h1, h2⟩ := heap2 w (.cells #[mv, tv] T) (.cells #[.int .i64 a.kind, .int .i64 a.key, .int .i64 a.val, .int .i64 a.n, av] 34)
  have k : Below w.heap.size w ((w.alloc (.cells #[mv, tv] T)).alloc (.cells #[.int .i64 a.kind, .int .i64 a.key, .int .i64 a.val, .int .i64 a.n, av] 34)) := below_new (below_new (Below.refl _ _) _) _
  exact ⟨_, _, mv, tv, av, rfl, rfl, h1, h2, hp.below k, ht.below k, ha.below k, below_on hb k⟩
theorem do_b {T : TypeId} {V w : World} {st : Sm} {a : An} {mv tv av : Value} (hb : Below V.heap.size V w) (hp : PO w mv st.mp) (ht : TR w tv st.n st.th) (ha : PO w av a.ps) :
    DoD T V st a (.pointer (some ⟨w.heap.size + 1, 0, none⟩)) (.pointer (some ⟨w.heap.size, 0, none⟩)) ((w.alloc (.cells #[.int .i64 a.kind, .int .i64 a.key, .int .i64 a.val, .int .i64 a.n, av] 34)).alloc (.cells #[mv, tv] T)) := by
  obtain ⟨h1, h2⟩ := heap2 w (.cells #[.int .i64 a.kind, .int .i64 a.key, .int .i64 a.val, .int .i64 a.n, av] 34) (.cells #[mv, tv] T)
  have k : Below w.heap.size w ((w.alloc (.cells #[.int .i64 a.kind, .int .i64 a.key, .int .i64 a.val, .int .i64 a.n, av] 34)).alloc (.cells #[mv, tv] T)) := below_new (below_new (Below.refl _ _) _) _
  exact ⟨_, _, mv, tv, av, rfl, rfl, h2, h1, hp.below k, ht.below k, ha.below k, below_on hb k⟩
theorem blk_lt {w : World} {b : Nat} {o : Obj} (h : w.heap[b]? = some o) : b < w.heap.size := (Array.getElem?_eq_some_iff.1 h).1
theorem do_c {T : TypeId} (hT : T ≠ 53) {V w : World} {st : Sm} {a : An} {b8 : Nat} {mv tv av : Value} (h8 : w.heap[b8]? = some (.cells #[.slice none 0 0, .slice none 0 0] T (0, 0))) (k8 : V.heap.size ≤ b8) (hb : Below V.heap.size V w) (hp : PO w mv st.mp) (ht : TR w tv st.n st.th) (ha : PO w av a.ps) :
    DoD T V st a (.pointer (some ⟨b8, 0, none⟩)) (.pointer (some ⟨w.heap.size, 0, none⟩)) ((((((((w.alloc (.cells #[.int .i64 0, .int .i64 0, .int .i64 0, .int .i64 0, .slice none 0 0] 34)).setCell ⟨b8, 0, none⟩ mv).setCell ⟨b8, 1, none⟩ tv).setCell ⟨w.heap.size, 0, none⟩ (.int .i64 a.kind)).setCell ⟨w.heap.size, 1, none⟩ (.int .i64 a.key)).setCell ⟨w.heap.size, 2, none⟩ (.int .i64 a.val)).setCell ⟨w.heap.size, 3, none⟩ (.int .i64 a.n)).setCell ⟨w.heap.size, 4, none⟩ av) := by
  have hl := blk_lt h8
  have k : Below w.heap.size w (w.alloc (.cells #[.int .i64 0, .int .i64 0, .int .i64 0, .int .i64 0, .slice none 0 0] 34)) := below_new (Below.refl _ _) _
  exact do_fin hT ((k.block _ hl).trans h8) (heap_alloc_new w _) (by omega) (below_on hb k) k8 hb.size (hp.below k) (ht.below k) (ha.below k)
theorem do_f {T : TypeId} {V w : World} {st : Sm} {a : An} {b9 : Nat} {mv tv av : Value} (h9 : w.heap[b9]? = some (.cells #[.int .i64 0, .int .i64 0, .int .i64 0, .int .i64 0, .slice none 0 0] 34 (0, 0))) (k9 : V.heap.size ≤ b9) (hb : Below V.heap.size V w) (hp : PO w mv st.mp) (ht : TR w tv st.n st.th) (ha : PO w av a.ps) :
    DoD T V st a (.pointer (some ⟨w.heap.size, 0, none⟩)) (.pointer (some ⟨b9, 0, none⟩)) ((((((w.alloc (.cells #[mv, tv] T)).setCell ⟨b9, 0, none⟩ (.int .i64 a.kind)).setCell ⟨b9, 1, none⟩ (.int .i64 a.key)).setCell ⟨b9, 2, none⟩ (.int .i64 a.val)).setCell ⟨b9, 3, none⟩ (.int .i64 a.n)).setCell ⟨b9, 4, none⟩ av) := by
  have hl := blk_lt h9
  have k : Below w.heap.size w (w.alloc (.cells #[mv, tv] T)) := below_new (Below.refl _ _) _
  exact do_fin1 (heap_alloc_new w _) ((k.block _ hl).trans h9) (by omega) (below_on hb k) k9 (hp.below k) (ht.below k) (ha.below k)
end Go.Proofs.Ytcbdbfmlkkpndaa
