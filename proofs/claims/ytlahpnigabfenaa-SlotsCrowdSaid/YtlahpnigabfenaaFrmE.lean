/- Layer 15: the reference's thread. -/
import Derived.Test.YtlahpnigabfenaaFrmD
namespace Go.Proofs.Ytlahpnigabfenaa.Th
open Go.RowKit
set_option linter.unusedVariables false
set_option linter.unusedSimpArgs false
structure Op15 where
  kind : Int
  fn : Int
  n : Nat
  L : Nat → Int
  pk : Int
  pv : Int
def opV (o : Op15) (lv : Value) : Value := .agg #[.int .i64 o.kind, .int .i64 o.fn, lv, .int .i64 o.pk, .int .i64 o.pv]
def touch (f : Fm) (fn : Int) : Fm := ⟨f.fn, fn, if 0 ≤ fn then (fun i => if i = (fn % 24).toNat then (f.r i + 1) % 18446744073709551616 else f.r i) else f.r⟩
def touchT (T : Td) (fn : Int) : Td := { T with fs := upM T.fs (T.nf - 1) (touch (T.fs (T.nf - 1)) fn) }
def pushT (T : Td) (x : Int) : Td := { T with ns := T.ns + 1, st := fun i => if i = T.ns then x else T.st i }
def doT (T : Td) (o : Op15) : Td :=
  if o.kind = 0 then callT T o.fn o.n o.L else if o.kind = 1 then backT T o.n o.L else if o.kind = 2 then { T with row := putL T.row (o.pk, o.pv) }
  else if o.kind = 3 then pushT T (o.fn % 18446744073709551616) else if o.kind = 4 then (if T.ns = 0 then T else { T with ns := T.ns - 1 })
  else if o.kind = 5 then { T with row := [], ns := 0 } else if o.kind = 6 then (if T.nf = 0 then T else touchT T o.fn) else T
def doW (T : Td) (o : Op15) : Int := if o.kind = 4 then (if T.ns = 0 then 0 else T.st (T.ns - 1)) else 0
def doB (T : Td) (o : Op15) : Bool := if o.kind = 2 then !hereB T.row o.pk else if o.kind = 4 then !decide (T.ns = 0) else false
/-! ### Rows of frames, of words -/
def rfF (fs : Nat → Fm) : Nat → Value := fun k => frF (fs (k / 26)) (k % 26)
def SR (w : World) (v : Value) (n : Nat) (f : Nat → Int) : Prop := (v = .slice none 0 0 ∧ n = 0) ∨ ∃ g c, v = .slice (some ⟨g, 0, none⟩) n c ∧ n ≤ c ∧ c ≤ 9223372036854775807 ∧ RowF 22 w g n (fun i => .int .u64 (f i))
theorem SR.slice {w : World} {v : Value} {n : Nat} {f : Nat → Int} (h : SR w v n f) : ∃ p c, v = .slice p n c ∧ n ≤ c ∧ c ≤ 9223372036854775807 := by
  rcases h with ⟨rfl, rfl⟩ | ⟨g, c, rfl, h1, h2, _⟩
  · exact ⟨none, 0, rfl, Nat.le_refl _, by decide⟩
  · exact ⟨_, _, rfl, h1, h2⟩
theorem RowF.blk {T : TypeId} {w : World} {g m : Nat} {F : Nat → Value} (h : RowF T w g m F) : ∃ cur, w.heap[g]? = some (.cells cur T (0, 0)) := by obtain ⟨cur, h, _⟩ := h; exact ⟨cur, h⟩
theorem ne_ty {w : World} {a b : Nat} {c d : Array Value} {T U : TypeId} (h : w.heap[a]? = some (.cells c T (0, 0))) (k : w.heap[b]? = some (.cells d U (0, 0))) (ht : T ≠ U) : a ≠ b := by
  intro e; subst e; rw [h] at k; simp only [Option.some.injEq, Obj.cells.injEq] at k; exact ht k.2.1
theorem SR.keep {w w' : World} {v : Value} {n : Nat} {f : Nat → Int} (h : SR w v n f) (k : ∀ (b : Nat) (cur : Array Value), v.ownBlock = some b → w.heap[b]? = some (Obj.cells cur 22 (0, 0)) → w'.heap[b]? = w.heap[b]?) : SR w' v n f := by
  rcases h with h | ⟨g, c, rfl, h1, h2, h3⟩
  · exact .inl h
  · obtain ⟨cur, hc⟩ := h3.blk
    exact .inr ⟨g, c, rfl, h1, h2, h3.of (k g cur rfl hc)⟩
theorem RowF.less {T : TypeId} {w : World} {g m k : Nat} {F : Nat → Value} (h : RowF T w g m F) (hk : k ≤ m) : RowF T w g k F := by
  obtain ⟨cur, h1, h2⟩ := h
  refine ⟨cur, h1, ?_⟩
  have := congrArg (List.take k) h2
  rw [List.take_take, Nat.min_eq_left hk, ← List.map_take, List.take_range, Nat.min_eq_left hk] at this
  exact this
def xF (T : Td) (fv rv sv : Value) : Nat → Value := fun i => if i < 12 then .int .u64 (T.ret i) else if i = 12 then fv else if i = 13 then rv else sv
def xC (T : Td) (fv rv sv : Value) : List Value := (List.range 15).map (xF T fv rv sv)
def xV (T : Td) (fv rv sv : Value) : Value := .agg (xC T fv rv sv).toArray
theorem xC_len (T : Td) (fv rv sv : Value) : (xC T fv rv sv).length = 15 := by simp [xC]
theorem xC_one {T : Td} {a b c : Option Addr} {n1 c1 n2 c2 n3 c3 : Nat} : ∀ v ∈ xC T (.slice a n1 c1) (.slice b n2 c2) (.slice c n3 c3), v.oneCell' = true := by
  intro v hv
  simp only [xC, List.mem_map] at hv
  obtain ⟨i, _, rfl⟩ := hv
  unfold xF
  split
  · rfl
  · split
    · rfl
    · split <;> rfl
theorem xF_12 (T T' : Td) (fv rv sv fv' : Value) (h1 : T'.ret = T.ret) (j : Nat) (hj : j < 15) : upF (xF T fv rv sv) 12 fv' j = xF T' fv' rv sv j := by
  unfold upF xF
  rw [h1]
  by_cases e : j = 12
  · subst e; simp
  · rw [if_neg e]; simp only [e, if_false]
theorem xF_13 (T T' : Td) (fv rv sv rv' : Value) (h1 : T'.ret = T.ret) (j : Nat) (hj : j < 15) : upF (xF T fv rv sv) 13 rv' j = xF T' fv rv' sv j := by
  unfold upF xF
  rw [h1]
  by_cases e : j = 13
  · subst e; simp
  · rw [if_neg e]; simp only [e, if_false]
theorem xF_14 (T T' : Td) (fv rv sv sv' : Value) (h1 : T'.ret = T.ret) (j : Nat) (hj : j < 15) : upF (xF T fv rv sv) 14 sv' j = xF T' fv rv sv' j := by
  unfold upF xF
  rw [h1]
  by_cases e : j = 14
  · subst e; simp
  · rw [if_neg e]
    by_cases e1 : j < 12
    · rw [if_pos e1, if_pos e1]
    · rw [if_neg e1, if_neg e1]
      by_cases e2 : j = 12
      · rw [if_pos e2, if_pos e2]
      · rw [if_neg e2, if_neg e2, if_pos (by omega), if_pos (by omega)]
theorem heap3f {w V : World} {a b c : Obj} (h : ((w.alloc a).alloc b).alloc c = V) : V.heap[w.heap.size]? = some a ∧ V.heap[w.heap.size + 1]? = some b ∧ V.heap[w.heap.size + 2]? = some c ∧ V.heap.size = w.heap.size + 3 ∧ Below w.heap.size w V := by
  subst h
  refine ⟨?_, ?_, ?_, by simp, by (repeat (first | exact Below.refl _ _ | assumption | refine below_new ?_ _ | refine Below.drew ?_ | refine below_drewN ?_ _ | refine below_on ?_ (by assumption)))⟩
  · rw [Below.heap_alloc _ _ _ (by simp; omega), Below.heap_alloc _ _ _ (by simp)]; exact heap_alloc_new w a
  · rw [Below.heap_alloc _ _ _ (by simp)]
    have := heap_alloc_new (w.alloc a) b
    simpa using this
  · have := heap_alloc_new ((w.alloc a).alloc b) c
    simpa using this
end Go.Proofs.Ytlahpnigabfenaa.Th
