/- Layer 36: the reference's All: where it stands on its way. -/
import Derived.Test.YtminbfingjbbbaaXplI
namespace Go.Proofs.Ytminbfingjbbbaa
open Go.RowKit
set_option linter.unusedVariables false
set_option linter.unusedSimpArgs false
/-- Out at a level, and what of the next one is made. -/
structure Lev (w wr : World) (B2 : Nat) (ov : Value) (L : List (PL × Value)) (nv : Value) (N : List (PL × Value)) (Z : List PL) : Prop where
  o : OwnO wr w.heap.size ov L
  lt : ∀ k, ov.ownBlock = some k → k < B2
  n : OwnO wr B2 nv N
  z : N.map Prod.fst = Z
  b : Below w.heap.size w wr
  s0 : w.heap.size ≤ B2
  s1 : B2 ≤ wr.heap.size
theorem below_size {b : Nat} {w w' : World} (k : Below b w w') : w.heap.size ≤ w'.heap.size := k.size
theorem Lev.on {w wr w' : World} {B2 : Nat} {ov nv : Value} {L N : List (PL × Value)} {Z : List PL} (h : Lev w wr B2 ov L nv N Z) (k : Below wr.heap.size wr w') : Lev w w' B2 ov L nv N Z :=
  ⟨h.o.on k, h.lt, h.n.on k, h.z, below_on h.b k, h.s0, Nat.le_trans h.s1 k.size⟩
theorem Lev.len {w wr : World} {B2 : Nat} {ov nv : Value} {L N : List (PL × Value)} {Z : List PL} (h : Lev w wr B2 ov L nv N Z) : N.length = Z.length := by
  rw [← h.z, List.length_map]
/-- A row more. -/
theorem Lev.more {w wr w3 : World} {B2 : Nat} {ov nv v3 : Value} {L N : List (PL × Value)} {Z : List PL} {l : PL} {v2 : Value} (h : Lev w wr B2 ov L nv N Z) (hown : OwnO w3 B2 v3 (N ++ [(l, v2)])) (hg : wr.grownBy w3 nv.ownBlock) : Lev w w3 B2 ov L v3 (N ++ [(l, v2)]) (Z ++ [l]) :=
  ⟨h.o.apart h.n h.lt hg, h.lt, hown, by rw [List.map_append, h.z]; rfl, h.b.grown hg (Nat.le_trans h.s0 h.s1) (fun k hk => Nat.le_trans h.s0 (ownO_ge h.n k hk)), h.s0, Nat.le_trans h.s1 hg.size⟩
theorem ext_le (t m : Nat) (p : PL) (ht : t ≤ 6) (hm : m ≤ 1000) : (extT m p t).length ≤ 6000 := by
  have h : ∀ t, (extT m p t).length ≤ t * m := by
    intro t
    induction t with
    | zero => simp [extT]
    | succ t ih =>
      rw [Nat.succ_mul]
      cases hs : skipB p t with
      | true => rw [extT_skip hs]; omega
      | false => rw [extT_go hs]; simp; omega
  exact Nat.le_trans (h t) (Nat.le_trans (Nat.mul_le_mul ht hm) (by decide))
theorem flat_le {α β : Type} (f : α → List β) (c : Nat) (h : ∀ x, (f x).length ≤ c) : ∀ l : List α, (l.flatMap f).length ≤ l.length * c
  | [] => by simp
  | x :: r => by
    rw [List.flatMap_cons, List.length_append, List.length_cons, Nat.succ_mul]
    have h1 := flat_le f c h r
    have h2 := h x
    omega
theorem sum_le (a b c d : Nat) (h1 : a ≤ 6000) (h2 : b ≤ a * 6000) (h3 : c ≤ 6000) (h4 : d ≤ 1000) : b + c + d ≤ 100000000 := by
  have : a * 6000 ≤ 6000 * 6000 := Nat.mul_le_mul_right _ h1
  omega
/-- What is made is never too long. -/
theorem z_le (t m : Nat) (ht : t ≤ 6) (hm : m ≤ 1000) (l : List PL) (hl : l.length ≤ 6000) (p : PL) (j th n : Nat) (hth : th ≤ t) (hn : n ≤ m) : ((l.take j).flatMap (extL t m) ++ extT m p th ++ (List.range n).map fun n : Nat => p ++ [((th : Int), (n : Int) + 1)]).length ≤ 100000000 := by
  rw [List.length_append, List.length_append]
  have h1 := flat_le (extL t m) 6000 (fun q => ext_le t m q ht hm) (l.take j)
  have h2 : (l.take j).length ≤ 6000 := by rw [List.length_take]; omega
  exact sum_le _ _ _ _ h2 h1 (ext_le th m p (by omega) hm) (by simp; omega)
theorem rowO_one {w : World} : OwnO (w.alloc (.cells #[.slice none 0 0] 32)) w.heap.size (.slice (some ⟨w.heap.size, 0, none⟩) 1 1) [([], .slice none 0 0)] :=
  ⟨⟨rfl, .inr ⟨_, 1, _, rfl, Nat.le_refl _, heap_alloc_new w _, Nat.le_refl _, by decide, rfl, rfl⟩⟩, fun p hp => by rw [List.mem_singleton.1 hp]; exact ownR_nil _ _⟩
set_option maxHeartbeats 1000000 in
theorem rall_no (t m k : Int) (w : World) (h : ¬ MayX t m k) : Calls Try.prog 7 #[.int .i64 t, .int .i64 m, .int .i64 k] w fun e w' => e = .returned (.slice none 0 0) ∧ Below w.heap.size w w' := by
  refine Calls.veil fun Q HQ => ?_
  have HB := Lib.hid (show Below w.heap.size w (w.alloc (.cells #[.slice none 0 0] 32)) from (Below.refl _ _).alloc (Nat.le_refl _) _)
  by_cases h0 : 1 ≤ t
  case neg =>
    have g0 : t < 1 := by omega
    clear h h0
    go_enter Try.func7, Try.ntmps7
    go_wp2_with fail
    (try go_ret)
    rw [HQ.out]
    exact ⟨rfl, HB.out⟩
  case pos =>
  by_cases h1 : t ≤ 6
  case neg =>
    have g0 : ¬ t < 1 := by omega
    have g1 : 6 < t := by omega
    clear h h0 h1
    go_enter Try.func7, Try.ntmps7
    go_wp2_with fail
    (try go_ret)
    rw [HQ.out]
    exact ⟨rfl, HB.out⟩
  case pos =>
  by_cases h2 : 1 ≤ m
  case neg =>
    have g0 : ¬ t < 1 := by omega
    have g1 : ¬ 6 < t := by omega
    have g2 : m < 1 := by omega
    clear h h0 h1 h2
    go_enter Try.func7, Try.ntmps7
    go_wp2_with fail
    (try go_ret)
    rw [HQ.out]
    exact ⟨rfl, HB.out⟩
  case pos =>
  by_cases h3 : m ≤ 1000
  case neg =>
    have g0 : ¬ t < 1 := by omega
    have g1 : ¬ 6 < t := by omega
    have g2 : ¬ m < 1 := by omega
    have g3 : 1000 < m := by omega
    clear h h0 h1 h2 h3
    go_enter Try.func7, Try.ntmps7
    go_wp2_with fail
    (try go_ret)
    rw [HQ.out]
    exact ⟨rfl, HB.out⟩
  case pos =>
  by_cases h4 : 0 ≤ k
  case neg =>
    have g0 : ¬ t < 1 := by omega
    have g1 : ¬ 6 < t := by omega
    have g2 : ¬ m < 1 := by omega
    have g3 : ¬ 1000 < m := by omega
    have g4 : k < 0 := by omega
    clear h h0 h1 h2 h3 h4
    go_enter Try.func7, Try.ntmps7
    go_wp2_with fail
    (try go_ret)
    rw [HQ.out]
    exact ⟨rfl, HB.out⟩
  case pos =>
  by_cases h5 : k ≤ 4
  case neg =>
    have g0 : ¬ t < 1 := by omega
    have g1 : ¬ 6 < t := by omega
    have g2 : ¬ m < 1 := by omega
    have g3 : ¬ 1000 < m := by omega
    have g4 : ¬ k < 0 := by omega
    have g5 : 4 < k := by omega
    clear h h0 h1 h2 h3 h4 h5
    go_enter Try.func7, Try.ntmps7
    go_wp2_with fail
    (try go_ret)
    rw [HQ.out]
    exact ⟨rfl, HB.out⟩
  case pos =>
  exact absurd ⟨⟨h0, h1⟩, ⟨h2, h3⟩, h4, h5⟩ h
end Go.Proofs.Ytminbfingjbbbaa
