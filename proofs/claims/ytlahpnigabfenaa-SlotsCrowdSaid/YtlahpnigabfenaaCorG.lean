/- Layer 16: the reference's New. -/
import Derived.Test.YtlahpnigabfenaaCorF
import Derived.Laws.Tables
import Derived.Deep.MidRow
namespace Go.Proofs.Ytlahpnigabfenaa
open Go.RowKit WordM EdgeM
set_option linter.unusedVariables false
set_option linter.unusedSimpArgs false
/-- The reference's machine. -/
def mV (t s : Nat) (K : Int) (wv : Value) (acc : Int) (flt : Bool) (gb gc : Nat) (sl : Int) (odd : Bool) : Array Value := #[.int .i64 t, .int .i64 s, .int .u64 K, wv, .int .i64 acc, .bool flt, .slice (some ⟨gb, 0, none⟩) s gc, .int .i64 sl, .bool odd]
/-- What the plan's words lie as. -/
theorem wcells_at (T : Int) (n a : Nat) (h : a < n) : (wcells T n)[a * 3]? = some (.int .i64 (wk T a)) ∧ (wcells T n)[a * 3 + 1]? = some (.int .i64 (wi T a)) ∧ (wcells T n)[a * 3 + 2]? = some (.int .i64 (wj T a)) := by
  induction n with
  | zero => omega
  | succ n ih =>
    rw [wcells_succ]
    have hl := wcells_len T n
    by_cases e : a = n
    · subst e
      refine ⟨?_, ?_, ?_⟩
      · rw [List.getElem?_append_right (by omega), hl, Nat.sub_self]; rfl
      · rw [List.getElem?_append_right (by omega), hl, show a * 3 + 1 - a * 3 = 1 by omega]; rfl
      · rw [List.getElem?_append_right (by omega), hl, show a * 3 + 2 - a * 3 = 2 by omega]; rfl
    · obtain ⟨h1, h2, h3⟩ := ih (by omega)
      exact ⟨by rw [List.getElem?_append_left (by omega)]; exact h1, by rw [List.getElem?_append_left (by omega)]; exact h2, by rw [List.getElem?_append_left (by omega)]; exact h3⟩
theorem wrows {w : World} {B : Nat} {v : Value} {T : Int} {n : Nat} (h : w.ownsRow B 139 3 v n (wcells T n)) (hn : 0 < n) : ∃ g c, v = .slice (some ⟨g, 0, none⟩) n c ∧ n ≤ c ∧ c ≤ 9223372036854775807 ∧ g < w.heap.size ∧ ∀ a, a < n → w.cell? ⟨g, a * 3, none⟩ = some (.int .i64 (wk T a)) ∧ w.cell? ⟨g, a * 3 + 1, none⟩ = some (.int .i64 (wi T a)) ∧ w.cell? ⟨g, a * 3 + 2, none⟩ = some (.int .i64 (wj T a)) := by
  rcases h.2 with ⟨_, h0⟩ | ⟨g, cap, cur, rfl, hb, hh, hc, hm, hs, ht⟩
  · omega
  · refine ⟨g, cap, rfl, hc, hm, Th.blk_lt hh, fun a ha => ?_⟩
    obtain ⟨e1, e2, e3⟩ := wcells_at T n a ha
    have get : ∀ j u, j < n * 3 → (wcells T n)[j]? = some u → w.cell? ⟨g, j, none⟩ = some u := fun j u hj hu => by
      rw [← ht, List.getElem?_take_of_lt hj] at hu
      rw [cell_of_row _ g _ _ _ (0, 0) hh]; simpa using hu
    exact ⟨get _ _ (by omega) e1, get _ _ (by omega) e2, get _ _ (by omega) e3⟩
theorem heap2c {w V : World} {a b : Obj} (h : (w.alloc a).alloc b = V) : V.heap[w.heap.size]? = some a ∧ V.heap[w.heap.size + 1]? = some b ∧ Below w.heap.size w V := by
  subst h
  exact ⟨by rw [Below.heap_alloc _ _ _ (by simp)]; exact heap_alloc_new w a, by have := heap_alloc_new (w.alloc a) b; simpa using this, by (repeat (first | exact Below.refl _ _ | assumption | refine below_new ?_ _ | refine Below.drew ?_ | refine below_drewN ?_ _ | refine below_on ?_ (by assumption)))⟩
theorem setrowM {w V : World} {old cs : Array Value} {T : TypeId} (h : (w.alloc (.cells old T (0, 0))).setRow w.heap.size cs = V) : V.heap[w.heap.size]? = some (.cells cs T (0, 0)) ∧ Below w.heap.size w V ∧ V.heap.size = w.heap.size + 1 := by
  subst h
  refine ⟨setRow_heap _ _ _ _ _ _ (heap_alloc_new w _), ⟨rfl, rfl, rfl, ?_, fun j hj => ?_⟩, ?_⟩
  · simp [World.setRow]
  · rw [setRow_other _ _ _ _ (by omega)]; exact (below_new (Below.refl w.heap.size w) _).block j hj
  · simp [World.setRow]
theorem mV_one (t s : Nat) (K : Int) (a : Option Addr) (n c : Nat) (acc : Int) (flt : Bool) (gb gc : Nat) (sl : Int) (odd : Bool) : (mV t s K (.slice a n c) acc flt gb gc sl odd).all (·.oneCell') = true := by kernel_rfl
theorem ucells_snoc {n : Nat} {f : Nat → Int} : Th.ucells (n + 1) f = Th.ucells n f ++ [.int .u64 (f n)] := by
  unfold Th.ucells
  rw [List.range_succ, List.map_append]; rfl
theorem mV_range {w : World} {X t s : Nat} {K : Int} {wv : Value} {acc : Int} {flt : Bool} {gb gc : Nat} {sl : Int} {odd : Bool} {T : TypeId} (h : w.heap[X]? = some (.cells (mV t s K wv acc flt gb gc sl odd) T (0, 0))) : w.rangeAt X 0 (mV t s K wv acc flt gb gc sl odd).toList := fun j v hv => by
  rw [Nat.zero_add]; exact Th.newcell h j _ (by simpa using hv)
theorem ownL_less {T : TypeId} {w : World} {B B' : Nat} {v : Value} {n : Nat} {xs : List Value} (h : Th.OwnL T w B v n xs) (k : B' ≤ B) : Th.OwnL T w B' v n xs := by
  refine ⟨h.1, ?_⟩
  rcases h.2 with hn | ⟨g, cap, cur, rfl, hb, rest⟩
  · exact .inl hn
  · exact .inr ⟨g, cap, cur, rfl, Nat.le_trans k hb, rest⟩
def mZ : Array Value := #[.int .i64 0, .int .i64 0, .int .u64 0, .slice none 0 0, .int .i64 0, .bool false, .slice none 0 0, .int .i64 0, .bool false]
end Go.Proofs.Ytlahpnigabfenaa
