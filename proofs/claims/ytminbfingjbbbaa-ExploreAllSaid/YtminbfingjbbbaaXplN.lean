/- Layer 36: all schedules that begin so: the ways, one behind the other (no program). -/
import Derived.Test.YtminbfingjbbbaaXplM
namespace Go.Proofs.Ytminbfingjbbbaa
open Go.RowKit
set_option linter.unusedVariables false
set_option linter.unusedSimpArgs false
/-- The schedules that the x-th way of one turn more leads to. -/
def stepL (t m d : Nat) (p : PL) (x : Nat) : List PL := if skipB p (x / m) = true then [] else leavesL t m d (p ++ [(((x / m : Nat) : Int), ((x % m : Nat) : Int) + 1)])
def partsL (t m d : Nat) (p : PL) (n : Nat) : List PL := (List.range n).flatMap (stepL t m d p)
theorem parts_succ (t m d : Nat) (p : PL) (n : Nat) : partsL t m d p (n + 1) = partsL t m d p n ++ stepL t m d p n := by
  unfold partsL; rw [List.range_succ, List.flatMap_append]; simp
theorem range_mul {β : Type} (f : Nat → List β) (m : Nat) : ∀ t, (List.range (t * m)).flatMap f = (List.range t).flatMap fun th => (List.range m).flatMap fun n => f (th * m + n)
  | 0 => by simp
  | t + 1 => by
    rw [Nat.succ_mul, List.range_add, List.flatMap_append, range_mul f m t, List.range_succ, List.flatMap_append, List.flatMap_map]
    simp
theorem flat_congr {α β : Type} {f g : α → List β} : ∀ {l : List α}, (∀ x ∈ l, f x = g x) → l.flatMap f = l.flatMap g
  | [], _ => rfl
  | x :: r, h => by rw [List.flatMap_cons, List.flatMap_cons, h x List.mem_cons_self, flat_congr (fun y hy => h y (List.mem_cons_of_mem _ hy))]
theorem parts_all (t m d : Nat) (p : PL) (hm : 0 < m) : partsL t m d p (t * m) = leavesL t m (d + 1) p := by
  show _ = (extL t m p).flatMap (leavesL t m d)
  unfold partsL extL
  rw [range_mul, List.flatMap_assoc]
  refine flat_congr fun th _ => ?_
  have h1 : ∀ n, n ∈ List.range m → stepL t m d p (th * m + n) = if skipB p th = true then [] else leavesL t m d (p ++ [((th : Int), (n : Int) + 1)]) := fun n hn => by
    have hn : n < m := by simpa using hn
    unfold stepL
    have e1 : (th * m + n) / m = th := by rw [Nat.mul_comm, Nat.mul_add_div hm, Nat.div_eq_of_lt hn, Nat.add_zero]
    have e2 : (th * m + n) % m = n := by rw [Nat.mul_comm, Nat.mul_add_mod, Nat.mod_eq_of_lt hn]
    rw [e1, e2]
  rw [flat_congr h1]
  cases skipB p th with
  | true => simp
  | false => simp [List.flatMap_map]
theorem parts_split (t m d : Nat) (p : PL) (n N : Nat) (h : n < N) : ∃ tl, partsL t m d p N = partsL t m d p n ++ (stepL t m d p n ++ tl) := by
  obtain ⟨r, rfl⟩ : ∃ r, N = n + 1 + r := ⟨N - (n + 1), by omega⟩
  refine ⟨((List.range r).map (n + 1 + ·)).flatMap (stepL t m d p), ?_⟩
  unfold partsL
  rw [List.range_add, List.flatMap_append, List.range_succ, List.flatMap_append]
  simp
theorem stp_up {till : Int} {a b c n : Nat} (h : Stp till (a + b) c) (hn : b + c ≤ n) : Stp till a n := by
  unfold Stp at *; omega
theorem stp_no {till : Int} {a b c : Nat} (h1 : ¬ Stp till a b) (h2 : ¬ Stp till (a + b) c) : ¬ Stp till a (b + c) := by
  unfold Stp at *; omega
theorem stp_zero (till : Int) (a : Nat) : ¬ Stp till a 0 := by
  unfold Stp; omega
theorem skip_step {t m d : Nat} {p : PL} {x : Nat} (h : skipB p (x / m) = true) : stepL t m d p x = [] := by unfold stepL; rw [if_pos h]
theorem go_step' {t m d : Nat} {p : PL} {x : Nat} (h : skipB p (x / m) = false) : stepL t m d p x = leavesL t m d (p ++ [(((x / m : Nat) : Int), ((x % m : Nat) : Int) + 1)]) := by unfold stepL; rw [h]; rfl
/-- The row pushed. -/
theorem TS.low {W : World} {B lb fb ib : Nat} {w0 w1 : World} {p : PL} {i : Int} {v : Value} (h : TS W B lb fb ib w0 p i v) (hg : w0.grownBy w1 v.ownBlock) {b : Nat} {o : Obj} (hb : b < B) (hh : w0.heap[b]? = some o) : w1.heap[b]? = some o :=
  (hg.block b (Nat.lt_of_lt_of_le hb h.s) (fun e => by have := own_ge h.own b e.symm; omega)).trans hh
theorem TS.push {W : World} {B lb fb ib : Nat} {w0 w1 : World} {p p1 : PL} {i : Int} {v v1 : Value} (h : TS W B lb fb ib w0 p i v) (hown : OwnP w1 B v1 p1) (hg : w0.grownBy w1 v.ownBlock) (hl : lb < B ∧ fb < B ∧ ib < B) (h0 : lb ≠ fb) (h1 : lb ≠ ib) : TS W B lb fb ib (w1.setCell ⟨lb, 0, none⟩ v1) p1 i v1 :=
  ⟨heap_setCell_same w1 lb 0 _ _ v1 (h.low hg hl.1 h.l), (heap_setCell_other w1 ⟨lb, 0, none⟩ fb v1 (fun e => h0 e.symm)).trans (h.low hg hl.2.1 h.f), (heap_setCell_other w1 ⟨lb, 0, none⟩ ib v1 (fun e => h1 e.symm)).trans (h.low hg hl.2.2 h.i),
    ownsRow_setCell_below hown (a := ⟨lb, 0, none⟩) hl.1 v1, (h.k.grown hg h.s (fun k hk => own_ge h.own k hk)).set lb 0 v1 (by simp), by have := h.s; have := hg.size; simp [World.setCell]; omega⟩
theorem TS.cut {W : World} {B lb fb ib : Nat} {w : World} {p q : PL} {i : Int} {g n c : Nat} (h : TS W B lb fb ib w (p ++ q) i (.slice (some ⟨g, 0, none⟩) n c)) (hl : lb < B ∧ fb < B ∧ ib < B) (h0 : lb ≠ fb) (h1 : lb ≠ ib) : TS W B lb fb ib (w.setCell ⟨lb, 0, none⟩ (.slice (some ⟨g, 0, none⟩) p.length c)) p i (.slice (some ⟨g, 0, none⟩) p.length c) :=
  ⟨heap_setCell_same w lb 0 _ _ _ h.l, (heap_setCell_other w ⟨lb, 0, none⟩ fb _ (fun e => h0 e.symm)).trans h.f, (heap_setCell_other w ⟨lb, 0, none⟩ ib _ (fun e => h1 e.symm)).trans h.i,
    ownsRow_setCell_below (own_cut h.own) (a := ⟨lb, 0, none⟩) hl.1 _, h.k.set lb 0 _ (by simp), by have := h.s; simp [World.setCell]; omega⟩
theorem own_some {w : World} {B : Nat} {v : Value} {p : PL} {x : Int × Int} (h : OwnP w B v (p ++ [x])) : ∃ g c, v = .slice (some ⟨g, 0, none⟩) (p.length + 1) c ∧ p.length + 1 ≤ c ∧ c ≤ maxLen := by
  rcases h.2 with ⟨_, h0⟩ | ⟨g, cap, cur, hv, _, _, hc, hm, _⟩
  · simp at h0
  · exact ⟨g, cap, by rw [hv]; simp, by simpa using hc, hm⟩
theorem mul_le2 {t m x : Nat} (ht : t ≤ 6) (hm : m ≤ 1000) (hx : x < t * m) : x ≤ 100000 := by
  have : t * m ≤ 6 * 1000 := Nat.mul_le_mul ht hm
  omega
theorem mul_le3 {t m : Nat} (ht : t ≤ 6) (hm : m ≤ 1000) : t * m ≤ 750000000000000 := by
  have : t * m ≤ 6 * 1000 := Nat.mul_le_mul ht hm
  omega
theorem ne_len {a d k : Nat} (h : a + (d + 1) = k) : ((a : Int) == (k : Int)) = false := beq_eq_false_iff_ne.2 (by omega)
theorem len_5 {p : PL} {q : Int × Int} {d k : Nat} (h : p.length + (d + 1) = k) (hk : k ≤ 4) : p.length + [q].length ≤ 1000000 := by simp; omega
theorem len_6 {p : PL} {q : Int × Int} {d k : Nat} (h : p.length + (d + 1) = k) : (p ++ [q]).length + d = k := by simp; omega
end Go.Proofs.Ytminbfingjbbbaa
