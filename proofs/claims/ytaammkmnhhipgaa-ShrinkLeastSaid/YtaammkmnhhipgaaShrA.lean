/- Layer 42: entries as lists. -/
import Derived.Test.YtaammkmnhhipgaaScrB
namespace Go.Proofs.Ytaammkmnhhipgaa
open Go.RowKit
set_option linter.unusedVariables false
set_option linter.unusedSimpArgs false
def sameEnt (a b : Ent) : Bool := decide (a.th = b.th ∧ a.bg = b.bg ∧ a.op = b.op ∧ a.key = b.key ∧ a.val = b.val ∧ a.hi = b.hi ∧ a.lim = b.lim)
theorem sameEnt_eq {a b : Ent} (h : sameEnt a b = true) : a = b := by
  unfold sameEnt at h
  have := of_decide_eq_true h
  obtain ⟨h1, h2, h3, h4, h5, h6, h7⟩ := this
  cases a; cases b; simp_all
instance : BEq Ent := ⟨sameEnt⟩
instance : LawfulBEq Ent where
  eq_of_beq h := sameEnt_eq h
  rfl := by intro a; show sameEnt a a = true; simp [sameEnt]
def e0 : Ent := ⟨0, false, 0, 0, 0, 0, 0⟩
def fn (l : List Ent) : Nat → Ent := fun i => l.getD i e0
theorem fn_lt {l : List Ent} {i : Nat} (h : i < l.length) : l[i]? = some (fn l i) := by
  unfold fn
  rw [List.getD_eq_getElem?_getD, List.getElem?_eq_getElem h]; rfl
theorem fn_get {l : List Ent} {i : Nat} (h : i < l.length) : l[i] = fn l i := by
  have := fn_lt h
  rw [List.getElem?_eq_getElem h] at this
  exact Option.some.inj this
theorem ER.congr {w : World} {v : Value} {n : Nat} {L M : Nat → Ent} (h : ER w v n L) (e : ∀ i, i < n → L i = M i) : ER w v n M := by
  cases h with
  | nil => exact .nil _
  | odd a c _ h1 => exact .odd a c _ h1
  | row g o _ c _ h1 h2 h3 => exact .row g o n c M h1 h2 fun i hi j hj => by rw [← e i hi]; exact h3 i hi j hj
/-- A slice of entries, as a list. -/
abbrev EL (w : World) (v : Value) (l : List Ent) : Prop := ER w v l.length (fn l)
def lstE (n : Nat) (L : Nat → Ent) : List Ent := (List.range n).map L
theorem lstE_len (n : Nat) (L : Nat → Ent) : (lstE n L).length = n := by simp [lstE]
theorem lstE_fn (n : Nat) (L : Nat → Ent) (i : Nat) (h : i < n) : fn (lstE n L) i = L i := by
  have := fn_lt (l := lstE n L) (i := i) (by rw [lstE_len]; exact h)
  unfold lstE at this
  rw [List.getElem?_map, List.getElem?_range h] at this
  exact (Option.some.inj this).symm
theorem ER.toList {w : World} {v : Value} {n : Nat} {L : Nat → Ent} (h : ER w v n L) : EL w v (lstE n L) := by
  unfold EL
  rw [lstE_len]
  exact h.congr fun i hi => (lstE_fn n L i hi).symm
def lcells (l : List Ent) : List Value := l.flatMap ecells
theorem lcells_len (l : List Ent) : (lcells l).length = l.length * 7 := by
  induction l with
  | nil => rfl
  | cons a l ih => rw [lcells, List.flatMap_cons, List.length_append]; rw [lcells] at ih; rw [ih, List.length_cons, Nat.succ_mul]; show 7 + _ = _; omega
theorem lcells_app (a b : List Ent) : lcells (a ++ b) = lcells a ++ lcells b := by simp [lcells]
theorem lcells_one (l : List Ent) : ∀ u ∈ lcells l, u.oneCell' = true := by
  intro u hu
  simp only [lcells, List.mem_flatMap] at hu
  obtain ⟨e, _, h⟩ := hu
  simp only [ecells, List.mem_cons, List.not_mem_nil, or_false] at h
  rcases h with rfl | rfl | rfl | rfl | rfl | rfl | rfl <;> rfl
theorem lcells_get (l : List Ent) (i j : Nat) (hi : i < l.length) (hj : j < 7) : (lcells l)[i * 7 + j]? = (ecells (fn l i))[j]? := by
  induction l generalizing i with
  | nil => simp at hi
  | cons a l ih =>
    rw [lcells, List.flatMap_cons]
    cases i with
    | zero =>
      rw [List.getElem?_append_left (by show _ < 7; omega)]
      simp [fn]
    | succ i =>
      rw [List.getElem?_append_right (by show 7 ≤ _; omega)]
      have e : (i + 1) * 7 + j - (ecells a).length = i * 7 + j := by show (i + 1) * 7 + j - 7 = _; omega
      rw [e]
      have := ih i (by simpa using hi)
      rw [lcells] at this
      rw [this]
      simp [fn]
theorem lcells_at (l : List Ent) (q : Nat) (u : Value) (h : (lcells l)[q]? = some u) : ∃ i j, i < l.length ∧ j < 7 ∧ q = i * 7 + j ∧ (ecells (fn l i))[j]? = some u := by
  have hq := (List.getElem?_eq_some_iff.1 h).1
  rw [lcells_len] at hq
  refine ⟨q / 7, q % 7, by omega, by omega, by omega, ?_⟩
  rw [← lcells_get l (q / 7) (q % 7) (by omega) (by omega), show q / 7 * 7 + q % 7 = q by omega]
  exact h
abbrev OwnL (w : World) (B : Nat) (v : Value) (l : List Ent) : Prop := w.ownsRow B 43 7 v l.length (lcells l)
theorem own_EL {w : World} {B : Nat} {v : Value} {l : List Ent} (h : OwnL w B v l) : EL w v l := by
  rcases h.2 with ⟨rfl, h0⟩ | ⟨g, cap, cur, hv, hg, hh, hc, hm, hs, ht⟩
  · obtain rfl := List.eq_nil_of_length_eq_zero h0; exact .nil _
  · subst hv
    refine .row g 0 _ cap _ hc hm fun i hi j hj => ?_
    have g0 := lcells_get l i j hi hj
    obtain ⟨u, hu⟩ : ∃ u, (ecells (fn l i))[j]? = some u := ⟨_, List.getElem?_eq_getElem (by exact hj)⟩
    rw [hu] at g0 ⊢
    rw [← ht, List.getElem?_take_of_lt (by have : (i + 1) * 7 ≤ l.length * 7 := Nat.mul_le_mul_right 7 hi
                                           omega)] at g0
    rw [cell_of_row _ g _ _ _ (0, 0) hh]; simpa using g0
theorem own_kept7 {w w' : World} {B : Nat} {v : Value} {l : List Ent} (h : OwnL w B v l) (k : Below w.heap.size w w') : OwnL w' B v l := by
  refine ⟨h.1, ?_⟩
  rcases h.2 with hn | ⟨g, cap, cur, rfl, hb, hgg, rest⟩
  · exact .inl hn
  · exact .inr ⟨g, cap, cur, rfl, hb, by rw [k.block g (Array.getElem?_eq_some_iff.1 hgg).1]; exact hgg, rest⟩
theorem own_low7 {w : World} {B B' : Nat} {v : Value} {l : List Ent} (h : OwnL w B v l) (k : B' ≤ B) : OwnL w B' v l := by
  refine ⟨h.1, ?_⟩
  rcases h.2 with hn | ⟨g, cap, cur, rfl, hb, hgg, rest⟩
  · exact .inl hn
  · exact .inr ⟨g, cap, cur, rfl, by omega, hgg, rest⟩
theorem own_nil7 (w : World) (B : Nat) : OwnL w B (.slice none 0 0) [] := ⟨rfl, .inl ⟨rfl, rfl⟩⟩
theorem entCells_l (l : List Ent) : entCells l.length (fn l) = lcells l := by
  apply List.ext_getElem?
  intro q
  rcases (by omega : q < l.length * 7 ∨ l.length * 7 ≤ q) with h | h
  · rw [show q = q / 7 * 7 + q % 7 by omega]
    rw [lcells_get l (q / 7) (q % 7) (by omega) (by omega)]
    exact flatN_get (ecells_len (fn l)) l.length (q / 7) (q % 7) (by omega) (by omega)
  · rw [List.getElem?_eq_none (by show (flatN _ _).length ≤ q; rw [flatN_len (ecells_len (fn l))]; exact h), List.getElem?_eq_none (by rw [lcells_len]; exact h)]
/-- Entries appended to a row of one's own. -/
theorem wpList_append_el {w : World} {ops : Array Oper} {rest : List Oper} {o : Oper} {a : Act} {Q : Exit → Act → World → Prop} (hgd : o.guard = none) (s x : Operand)
    (ho : o.op = .call { callee := .builtin .append, args := #[s, x], argTypes := #[25, 25] })
    (B : Nat) (v : Value) (l m : List Ent) (hs : a.eval s = v) (hown : OwnL w B v l) (src : Value) (hx : a.eval x = src) (hp : EL w src m) (hlen : l.length + m.length ≤ 2513169434843) (hB : B ≤ w.heap.size)
    (h : ∀ v' w', OwnL w' B v' (l ++ m) → w.grownBy w' v.ownBlock → wpList Try.prog ops Q rest (a.put o.dst v') w') : wpList Try.prog ops Q (o :: rest) a w := by
  obtain ⟨i0, z, hi, hz0, hzs, hz1, hz2⟩ := info_ent
  unfold EL at hp
  generalize hn : m.length = n at hp
  cases hp with
  | nil =>
    obtain rfl := List.eq_nil_of_length_eq_zero hn
    exact wpList_append_own_none hgd s x 25 ho B 43 i0 7 uEL hi v l.length (lcells l) hs hown hx (h v w (by simpa using hown) ⟨rfl, rfl, rfl, Nat.le_refl _, fun _ _ _ => rfl⟩)
  | odd ad c _ hc0 =>
    obtain rfl := List.eq_nil_of_length_eq_zero hn
    refine wpList_append_own _ hgd s x 25 ho B 43 i0 z 7 56 uEL hi hz0 hz1 hz2 hzs (by decide) v l.length (lcells l) hs hown ad 0 c [] hx rfl (by simp) (by simp) (by unfold maxLen; omega) (by omega) hB ?_
    intro v' w' h4 h5 _
    exact h v' w' (by simpa using h4) h5
  | row g of _ c _ h1 h2 h3 =>
    subst hn
    refine wpList_append_own _ hgd s x 25 ho B 43 i0 z 7 56 uEL hi hz0 hz1 hz2 hzs (by decide) v l.length (lcells l) hs hown ⟨g, of, none⟩ m.length c (lcells m) hx (lcells_len m) (by rw [← entCells_l]; exact ER_news h3) (lcells_one m) (by unfold maxLen; omega) (by omega) hB ?_
    intro v' w' h4 h5 _
    refine h v' w' ?_ h5
    unfold OwnL
    rw [List.length_append, lcells_app]
    exact h4
/-- One entry, that stands at a place of its own, appended. -/
theorem wpList_append_e1 {w : World} {ops : Array Oper} {rest : List Oper} {o : Oper} {a : Act} {Q : Exit → Act → World → Prop} (hgd : o.guard = none) (s x : Operand)
    (ho : o.op = .call { callee := .builtin .append, args := #[s, x], argTypes := #[25, 25] })
    (B : Nat) (v : Value) (l : List Ent) (e : Ent) (hs : a.eval s = v) (hown : OwnL w B v l) (ad : Addr) (c : Nat) (hx : a.eval x = .slice (some ad) 1 c) (hc : ∀ j u, (ecells e)[j]? = some u → w.cell? (ad.add j) = some u) (hlen : l.length ≤ 1000000) (hB : B ≤ w.heap.size)
    (h : ∀ v' w', OwnL w' B v' (l ++ [e]) → w.grownBy w' v.ownBlock → wpList Try.prog ops Q rest (a.put o.dst v') w') : wpList Try.prog ops Q (o :: rest) a w := by
  obtain ⟨i0, z, hi, hz0, hzs, hz1, hz2⟩ := info_ent
  refine wpList_append_own _ hgd s x 25 ho B 43 i0 z 7 56 uEL hi hz0 hz1 hz2 hzs (by decide) v l.length (lcells l) hs hown ad 1 c (ecells e) hx rfl hc (by intro u hu; have := lcells_one [e] u (by simpa [lcells] using hu); exact this) (by unfold maxLen; omega) (by omega) hB ?_
  intro v' w' h4 h5 _
  refine h v' w' ?_ h5
  unfold OwnL
  rw [List.length_append, lcells_app]
  have e1 : lcells [e] = ecells e := by simp [lcells]
  rw [e1]
  exact h4
theorem ecl (l : List Ent) (v : Value) (w : World) (h : EL w v l) (hn : l.length ≤ 2513169434843) :
    Calls Try.prog 20 #[v] w fun e w' => ∃ v', e = .returned v' ∧ OwnL w' w.heap.size v' l ∧ Below w.heap.size w w' :=
  (eclone l.length (fn l) v w h hn).mono fun e w' ⟨v', h1, h2, h3⟩ => ⟨v', h1, by unfold OwnE at h2; rw [entCells_l] at h2; exact h2, h3⟩
end Go.Proofs.Ytaammkmnhhipgaa
