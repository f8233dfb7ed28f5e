/- Layer 14: entries as rows. -/
import Derived.Test.YtnikggdnlijkkaaWordM
import Derived.Test.YtnikggdnlijkkaaExt
import Derived.Test.YtnikggdnlijkkaaMix
import Derived.Test.YtnikggdnlijkkaaFrame
import Derived.Test.YtnikggdnlijkkaaRows
import Derived.ProofKit
import Derived.Outline
import Derived.Lib.Hide
import Derived.Deep.Cut
import Derived.BigQuiet
import Derived.Laws.AppendOwn
import Derived.Laws.AppendOwnNone
import Derived.OwnWalk
import Derived.Lib.LazyBuf
namespace Go.Proofs.Ytnikggdnlijkkaa
open Go.RowKit
set_option linter.unusedVariables false
set_option linter.unusedSimpArgs false

theorem Calls.veil {P : Program} {f : FuncId} {args : Array Value} {w : World} {R : Ending → World → Prop} (h : ∀ Q : Ending → World → Prop, Hid (Q = R) → Calls P f args w Q) : Calls P f args w R := h R rfl
/-- Rows of k cells each, one behind the other. -/
def flatN (f : Nat → List Value) : Nat → List Value
  | 0 => []
  | n + 1 => flatN f n ++ f n
theorem flatN_len {f : Nat → List Value} {k : Nat} (hf : ∀ i, (f i).length = k) : ∀ n, (flatN f n).length = n * k
  | 0 => by simp [flatN]
  | n + 1 => by rw [flatN, List.length_append, flatN_len hf n, hf]; rw [Nat.succ_mul]
theorem flatN_get {f : Nat → List Value} {k : Nat} (hf : ∀ i, (f i).length = k) : ∀ (n i j : Nat), i < n → j < k → (flatN f n)[i * k + j]? = (f i)[j]?
  | n + 1, i, j, h, hj => by
    have hl := flatN_len hf n
    rcases (by omega : i < n ∨ i = n) with h1 | rfl
    · rw [flatN, List.getElem?_append_left, flatN_get hf n i j h1 hj]
      rw [hl]
      have : (i + 1) * k ≤ n * k := Nat.mul_le_mul_right k h1
      rw [Nat.succ_mul] at this
      omega
    · rw [flatN, List.getElem?_append_right (by omega), hl, Nat.add_sub_cancel_left]
theorem flatN_at {f : Nat → List Value} {k : Nat} (hf : ∀ i, (f i).length = k) : ∀ (n q : Nat) (u : Value), (flatN f n)[q]? = some u → ∃ i j, i < n ∧ j < k ∧ q = i * k + j ∧ (f i)[j]? = some u
  | 0, q, u, h => by simp [flatN] at h
  | n + 1, q, u, h => by
    have hl := flatN_len hf n
    rcases (by omega : q < n * k ∨ n * k ≤ q) with h1 | h1
    · rw [flatN, List.getElem?_append_left (by omega)] at h
      obtain ⟨i, j, a, b, c, d⟩ := flatN_at hf n q u h
      exact ⟨i, j, by omega, b, c, d⟩
    · rw [flatN, List.getElem?_append_right (by omega), hl] at h
      have := (List.getElem?_eq_some_iff.1 h).1
      rw [hf] at this
      exact ⟨n, q - n * k, by omega, this, by omega, h⟩

structure Ent where
  th : Int
  bg : Bool
  op : Int
  key : Int
  val : Int
  hi : Int
  lim : Int
def ecells (e : Ent) : List Value := [.int .i64 e.th, .bool e.bg, .int .i64 e.op, .int .i64 e.key, .int .i64 e.val, .int .i64 e.hi, .int .i64 e.lim]
theorem ecells_len (L : Nat → Ent) (i : Nat) : (ecells (L i)).length = 7 := rfl
/-- The cells of a row's entries. -/
def ERat (w : World) (g o n : Nat) (L : Nat → Ent) : Prop := ∀ i, i < n → ∀ j, j < 7 → w.cell? ⟨g, o + (i * 7 + j), none⟩ = (ecells (L i))[j]?
inductive ER (w : World) : Value → Nat → (Nat → Ent) → Prop
  | nil (L) : ER w (.slice none 0 0) 0 L
  | odd (a : Addr) (c : Nat) (L) : c ≤ 9223372036854775807 → ER w (.slice (some a) 0 c) 0 L
  | row (g o n c : Nat) (L) : n ≤ c → c ≤ 9223372036854775807 → ERat w g o n L → ER w (.slice (some ⟨g, o, none⟩) n c) n L
theorem ERat.below {w w' : World} {g o n : Nat} {L : Nat → Ent} (h : ERat w g o n L) (k : Below w.heap.size w w') : ERat w' g o n L := fun i hi j hj => by
  have h1 := h i hi j hj
  obtain ⟨u, hu⟩ : ∃ u, (ecells (L i))[j]? = some u := ⟨_, List.getElem?_eq_getElem (by rw [ecells_len]; exact hj)⟩
  rw [hu] at h1 ⊢
  exact Ext.cell ⟨w', k⟩ h1
theorem ER.below {w w' : World} {v : Value} {n : Nat} {L : Nat → Ent} (h : ER w v n L) (k : Below w.heap.size w w') : ER w' v n L := by
  cases h with
  | nil => exact .nil _
  | odd a c _ h1 => exact .odd a c _ h1
  | row g o _ c _ h1 h2 h3 => exact .row g o n c L h1 h2 (h3.below k)
theorem ER.slice {w : World} {v : Value} {n : Nat} {L : Nat → Ent} (h : ER w v n L) : ∃ p c, v = .slice p n c ∧ n ≤ c ∧ c ≤ 9223372036854775807 := by
  cases h with
  | nil => exact ⟨_, _, rfl, Nat.le_refl _, by decide⟩
  | odd a c _ h1 => exact ⟨_, _, rfl, Nat.zero_le _, h1⟩
  | row g o _ c _ h1 h2 h3 => exact ⟨_, _, rfl, h1, h2⟩
theorem ER.parts {w : World} {v : Value} {n : Nat} {L : Nat → Ent} (h : ER w v n L) : ∃ p c, v = .slice p n c ∧ n ≤ c ∧ c ≤ 9223372036854775807 ∧ Hid (0 < n → ∃ g o, p = some ⟨g, o, none⟩ ∧ ERat w g o n L) := by
  cases h with
  | nil => exact ⟨_, _, rfl, Nat.le_refl _, by decide, fun h => by omega⟩
  | odd a c _ h1 => exact ⟨_, _, rfl, Nat.zero_le _, h1, fun h => by omega⟩
  | row g o _ c _ h1 h2 h3 => exact ⟨_, _, rfl, h1, h2, fun _ => ⟨g, o, rfl, h3⟩⟩
theorem ER.take {w : World} {p : Option Addr} {n c m : Nat} {L : Nat → Ent} (h : ER w (.slice p n c) n L) (hm : m ≤ n) : ER w (.slice p m c) m L := by
  cases h with
  | nil => obtain rfl : m = 0 := by omega
           exact .nil _
  | odd a c _ h1 => obtain rfl : m = 0 := by omega
                    exact .odd a _ _ h1
  | row g o _ c _ h1 h2 h3 => exact .row g o m _ L (by omega) h2 fun i hi => h3 i (by omega)
theorem ERat.cells {w : World} {g o n : Nat} {L : Nat → Ent} (h : ERat w g o n L) (i : Nat) (hi : i < n) :
    w.cell? ⟨g, o + i * 7, none⟩ = some (.int .i64 (L i).th) ∧ w.cell? ⟨g, o + i * 7 + 1, none⟩ = some (.bool (L i).bg) ∧ w.cell? ⟨g, o + i * 7 + 2, none⟩ = some (.int .i64 (L i).op) ∧
    w.cell? ⟨g, o + i * 7 + 3, none⟩ = some (.int .i64 (L i).key) ∧ w.cell? ⟨g, o + i * 7 + 4, none⟩ = some (.int .i64 (L i).val) ∧ w.cell? ⟨g, o + i * 7 + 5, none⟩ = some (.int .i64 (L i).hi) ∧ w.cell? ⟨g, o + i * 7 + 6, none⟩ = some (.int .i64 (L i).lim) :=
  ⟨by simpa [ecells] using h i hi 0 (by omega), by simpa [ecells, Nat.add_assoc] using h i hi 1 (by omega), by simpa [ecells, Nat.add_assoc] using h i hi 2 (by omega), by simpa [ecells, Nat.add_assoc] using h i hi 3 (by omega),
   by simpa [ecells, Nat.add_assoc] using h i hi 4 (by omega), by simpa [ecells, Nat.add_assoc] using h i hi 5 (by omega), by simpa [ecells, Nat.add_assoc] using h i hi 6 (by omega)⟩

theorem uEL : Try.prog.underlying 27 = some (.slice 54) := by kernel_rfl
abbrev entCells (n : Nat) (L : Nat → Ent) : List Value := flatN (fun i => ecells (L i)) n
theorem entCells_one (n : Nat) (L : Nat → Ent) : ∀ u ∈ entCells n L, u.oneCell' = true := by
  intro u hu
  obtain ⟨q, hq⟩ := List.getElem?_of_mem hu
  obtain ⟨i, j, _, hj, _, h⟩ := flatN_at (ecells_len L) n q u hq
  rcases (by omega : j = 0 ∨ j = 1 ∨ j = 2 ∨ j = 3 ∨ j = 4 ∨ j = 5 ∨ j = 6) with rfl | rfl | rfl | rfl | rfl | rfl | rfl <;> (simp [ecells] at h; subst h; rfl)
theorem addE (g o j : Nat) : ((⟨g, o, none⟩ : Addr).add j) = ⟨g, o + j, none⟩ := by simp only [Addr.add]; split <;> simp_all
theorem ER_news {w : World} {g o n : Nat} {L : Nat → Ent} (h : ERat w g o n L) (q : Nat) (u : Value) (hu : (entCells n L)[q]? = some u) : w.cell? ((⟨g, o, none⟩ : Addr).add q) = some u := by
  obtain ⟨i, j, hi, hj, rfl, h1⟩ := flatN_at (ecells_len L) n q u hu
  rw [addE, h i hi j hj, h1]
abbrev OwnE (w : World) (B : Nat) (v : Value) (n : Nat) (L : Nat → Ent) : Prop := w.ownsRow B 54 7 v n (entCells n L)
theorem own_ER {w : World} {B : Nat} {v : Value} {n : Nat} {L : Nat → Ent} (h : OwnE w B v n L) : ER w v n L := by
  rcases h.2 with ⟨rfl, h0⟩ | ⟨g, cap, cur, hv, hg, hh, hc, hm, hs, ht⟩
  · subst h0; exact .nil _
  · subst hv
    refine .row g 0 n cap L hc hm fun i hi j hj => ?_
    have g0 : (entCells n L)[i * 7 + j]? = (ecells (L i))[j]? := flatN_get (ecells_len L) n i j hi hj
    obtain ⟨u, hu⟩ : ∃ u, (ecells (L i))[j]? = some u := ⟨_, List.getElem?_eq_getElem (by rw [ecells_len]; exact hj)⟩
    rw [hu] at g0 ⊢
    rw [← ht, List.getElem?_take_of_lt (by have : (i + 1) * 7 ≤ n * 7 := Nat.mul_le_mul_right 7 hi
                                           omega)] at g0
    rw [cell_of_row _ g _ _ _ (0, 0) hh]; simpa using g0
theorem own_geE {w : World} {B : Nat} {e : TypeId} {size : Nat} {v : Value} {n : Nat} {xs : List Value} (h : w.ownsRow B e size v n xs) : ∀ k, v.ownBlock = some k → B ≤ k := by
  intro k hk
  rcases h.2 with ⟨rfl, _⟩ | ⟨g, cap, cur, rfl, hg, _⟩
  · cases hk
  · simp only [Value.ownBlock, Option.some.injEq] at hk; omega
theorem infoEnt : (Try.prog.info? 54).map (fun i => (i.zero.map (fun z => z.cells.size), i.size, i.bytes)) = some (some 7, 7, 56) := by kernel_rfl
theorem info_ent : ∃ i z, Try.prog.info? 54 = some i ∧ i.zero = some z ∧ z.cells.size = 7 ∧ i.size = 7 ∧ i.bytes = 56 := by
  have h := infoEnt
  cases h1 : Try.prog.info? 54 with
  | none => rw [h1] at h; cases h
  | some i =>
    rw [h1] at h
    simp only [Option.map_some, Option.some.injEq, Prod.mk.injEq] at h
    obtain ⟨h2, h3, h4⟩ := h
    cases h5 : i.zero with
    | none => rw [h5] at h2; cases h2
    | some z => rw [h5] at h2; simp at h2; exact ⟨i, z, rfl, h5, h2, h3, h4⟩
theorem own_noneE (w : World) (L : Nat → Ent) : OwnE (w.alloc (.cells #[] 54)) w.heap.size (.slice (some ⟨w.heap.size, 0, none⟩) 0 0) 0 L :=
  ⟨rfl, .inr ⟨_, 0, _, rfl, Nat.le_refl _, heap_alloc_new w _, Nat.le_refl _, by decide, rfl, rfl⟩⟩
theorem grow_stepE {W w0 w1 : World} {B n : Nat} {v : Value} {xs : List Value} {e : TypeId} {size : Nat} (hown : w0.ownsRow B e size v n xs) (hbel : Below B W w0) (hB : B ≤ W.heap.size) (hg : w0.grownBy w1 v.ownBlock) : Below B W w1 :=
  hbel.grown hg (by have := hbel.size; omega) (own_geE hown)
/-- Appended to nothing. -/
theorem wpList_append_er {w : World} {ops : Array Oper} {rest : List Oper} {o : Oper} {a : Act} {Q : Exit → Act → World → Prop} (hgd : o.guard = none) (s x : Operand)
    (ho : o.op = .call { callee := .builtin .append, args := #[s, x], argTypes := #[27, 27] })
    (B : Nat) (v : Value) (L : Nat → Ent) (hs : a.eval s = v) (hown : OwnE w B v 0 L) (src : Value) (m : Nat) (hx : a.eval x = src) (hp : ER w src m L) (hlen : m ≤ 2513169434843) (hB : B ≤ w.heap.size)
    (h : ∀ v' w', OwnE w' B v' m L → w.grownBy w' v.ownBlock → wpList Try.prog ops Q rest (a.put o.dst v') w') : wpList Try.prog ops Q (o :: rest) a w := by
  obtain ⟨i0, z, hi, hz0, hzs, hz1, hz2⟩ := info_ent
  cases hp with
  | nil => exact wpList_append_own_none hgd s x 27 ho B 54 i0 7 uEL hi v 0 (entCells 0 L) hs hown hx (h v w hown ⟨rfl, rfl, rfl, Nat.le_refl _, fun _ _ _ => rfl⟩)
  | odd ad c _ hc0 =>
    refine wpList_append_own _ hgd s x 27 ho B 54 i0 z 7 56 uEL hi hz0 hz1 hz2 hzs (by decide) v 0 (entCells 0 L) hs hown ad 0 c [] hx rfl (by simp) (by simp) (by unfold maxLen; omega) (by omega) hB ?_
    intro v' w' h4 h5 _
    exact h v' w' (by simpa [OwnE] using h4) h5
  | row g of _ c _ h1 h2 h3 =>
    refine wpList_append_own _ hgd s x 27 ho B 54 i0 z 7 56 uEL hi hz0 hz1 hz2 hzs (by decide) v 0 (entCells 0 L) hs hown ⟨g, of, none⟩ m c (entCells m L) hx (flatN_len (ecells_len L) m) (ER_news h3) (entCells_one m L) (by unfold maxLen; omega) (by omega) hB ?_
    intro v' w' h4 h5 _
    refine h v' w' ?_ h5
    have e : entCells 0 L ++ entCells m L = entCells m L := by simp [entCells, flatN]
    rw [e, Nat.zero_add] at h4
    exact h4
theorem ER.alloc {w : World} {v : Value} {n : Nat} {L : Nat → Ent} (h : ER w v n L) (o : Obj) : ER (w.alloc o) v n L := h.below ((Below.refl _ _).alloc (Nat.le_refl _) _)
end Go.Proofs.Ytnikggdnlijkkaa
