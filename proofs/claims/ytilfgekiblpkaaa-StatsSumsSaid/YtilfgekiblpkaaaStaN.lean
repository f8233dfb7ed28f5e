/- Layer 38: the reference's Of. -/
import Derived.Test.YtilfgekiblpkaaaStaM
import Derived.Test.YtilfgekiblpkaaaStaH
import Derived.Deep.MidRow
import Derived.StillTailTactics
import Derived.Deep.QuietTactic
namespace Go.Proofs.Ytilfgekiblpkaaa
open Go.RowKit
set_option linter.unusedVariables false
set_option linter.unusedSimpArgs false
theorem grown_below {V W W' : World} {q : Nat} (hg : V.grownBy W (some q)) (hb : Below W.heap.size W W') : V.grownBy W' (some q) :=
  ⟨hb.os.trans hg.os, hb.tape.trans hg.tape, hb.output.trans hg.output, Nat.le_trans hg.size hb.size, fun k hk hne => (hb.block k (Nat.lt_of_lt_of_le hk hg.size)).trans (hg.block k hk hne)⟩
theorem OpC.keptN {w w' : World} {g o : Nat} {x : Opr} {v : Value} (h : OpC w g o x v) {q : Nat} (hg : w.grownBy w' (some q)) (hne : g ≠ q) : OpC w' g o x v := by
  have hb : w'.heap[g]? = w.heap[g]? := hg.block g (World.block_lt_of_cell? w ⟨g, _, none⟩ h.c0) (by intro e; cases e; exact hne rfl)
  exact ⟨(World.cell?_of_block (a := ⟨g, _, none⟩) hb).trans h.c0, (World.cell?_of_block (a := ⟨g, _, none⟩) hb).trans h.c1, (World.cell?_of_block (a := ⟨g, _, none⟩) hb).trans h.c2, (World.cell?_of_block (a := ⟨g, _, none⟩) hb).trans h.c3, (World.cell?_of_block (a := ⟨g, _, none⟩) hb).trans h.c4, (World.cell?_of_block (a := ⟨g, _, none⟩) hb).trans h.c5, (World.cell?_of_block (a := ⟨g, _, none⟩) hb).trans h.c6, (World.cell?_of_block (a := ⟨g, _, none⟩) hb).trans h.c7, (World.cell?_of_block (a := ⟨g, _, none⟩) hb).trans h.c8, (World.cell?_of_block (a := ⟨g, _, none⟩) hb).trans h.c9, (World.cell?_of_block (a := ⟨g, _, none⟩) hb).trans h.c10, (World.cell?_of_block (a := ⟨g, _, none⟩) hb).trans h.c11, (World.cell?_of_block (a := ⟨g, _, none⟩) hb).trans h.c12⟩
theorem upd_comm (F : Nat → Int) {a b : Nat} (v u : Int) (h : a ≠ b) : upd (upd F a v) b u = upd (upd F b u) a v := by
  funext i; unfold upd
  by_cases h1 : i = b
  · rw [if_pos h1, if_neg (by omega), if_pos h1]
  · by_cases h2 : i = a
    · rw [if_neg h1, if_pos h2, if_pos h2]
    · rw [if_neg h1, if_neg h2, if_neg h2, if_neg h1]
theorem upd_ne (F : Nat → Int) {a b : Nat} (v : Int) (h : b ≠ a) : upd F a v b = F b := if_neg h
theorem upd_same (F : Nat → Int) (a : Nat) (v : Int) : upd F a v a = v := if_pos rfl
theorem upd_upd (F : Nat → Int) (a : Nat) (v u : Int) : upd (upd F a v) a u = upd F a u := by
  funext i; unfold upd; split <;> rfl
theorem bump_comm (C : Nat → Int) {a : Nat} (r d : Int) (h : a ≠ 39) : upd (upd C 39 r) a (upd C 39 r a + d) = upd (upd C a (C a + d)) 39 r := by
  rw [upd_ne _ _ h, upd_comm _ _ _ (Ne.symm h)]
theorem cnA_39 (C : Nat → Int) (x : Opr) (r : Int) : cnA (upd C 39 r) x = upd (cnA C x) 39 r := by
  unfold cnA; split
  · rename_i h; have := of_decide_eq_true h; exact bump_comm _ _ _ (by omega)
  · rfl
theorem cnB_39 (C : Nat → Int) (x : Opr) (r : Int) : cnB (upd C 39 r) x = upd (cnB C x) 39 r := by
  unfold cnB; split
  · rename_i h; have := of_decide_eq_true h; exact bump_comm _ _ _ (by omega)
  · rfl
theorem cnC_39 (C : Nat → Int) (x : Opr) (r : Int) : cnC (upd C 39 r) x = upd (cnC C x) 39 r := by
  unfold cnC; split
  · rename_i h; have := of_decide_eq_true h; exact bump_comm _ _ _ (by omega)
  · rfl
theorem cnD_39 (C : Nat → Int) (x : Opr) (r : Int) : cnD (upd C 39 r) x = upd (cnD C x) 39 r := by
  unfold cnD; split
  · exact bump_comm _ _ _ (by omega)
  · rfl
theorem cnt1_39 (C : Nat → Int) (x : Opr) (r : Int) : cnt1 (upd C 39 r) x = upd (cnt1 C x) 39 r := by
  unfold cnt1; split
  · rw [cnA_39, cnB_39]
  · rw [cnA_39, cnC_39, cnD_39]
theorem cnt1_hi (C : Nat → Int) (x : Opr) (j : Nat) (hj : j = 39 ∨ j = 41) : cnt1 C x j = C j := by
  have hA : ∀ C : Nat → Int, cnA C x j = C j := fun C => by
    unfold cnA; split
    · rename_i h; have := of_decide_eq_true h; exact upd_ne _ _ (by omega)
    · rfl
  have hB : ∀ C : Nat → Int, cnB C x j = C j := fun C => by
    unfold cnB; split
    · rename_i h; have := of_decide_eq_true h; exact upd_ne _ _ (by omega)
    · rfl
  have hC : ∀ C : Nat → Int, cnC C x j = C j := fun C => by
    unfold cnC; split
    · rename_i h; have := of_decide_eq_true h; exact upd_ne _ _ (by omega)
    · rfl
  have hD : ∀ C : Nat → Int, cnD C x j = C j := fun C => by
    unfold cnD; split
    · exact upd_ne _ _ (by omega)
    · rfl
  unfold cnt1; split
  · rw [hB, hA]
  · rw [hD, hC, hA]
theorem cntN_hi (O : List Opr) (j : Nat) (hj : j = 39 ∨ j = 41) : ∀ i, cntN O i j = 0
  | 0 => rfl
  | i + 1 => by rw [cntN, cnt1_hi _ _ j hj, cntN_hi O j hj i]
/-- The arrays of Ops behind so many of an inner loop's rounds; the array of Kinds. -/
def stOp (F : Nat → Int) (x : Opr) (o : Nat) : Nat → Int := if known x = true ∧ x.ca.op.toNat < o then (if x.to < 0 then cnB (cnA F x) x else cnA F x) else F
def stK (F : Nat → Int) (x : Opr) (k : Nat) : Nat → Int := if kOk x = true ∧ x.an.kind.toNat < k then cnC F x else F
theorem stOp_zero (F : Nat → Int) (x : Opr) : stOp F x 0 = F := by unfold stOp; rw [if_neg (by omega)]
theorem stOp_all (F : Nat → Int) (x : Opr) : stOp F x 15 = if x.to < 0 then cnB (cnA F x) x else cnA F x := by
  unfold stOp
  by_cases h : known x = true
  · have := of_decide_eq_true h
    simp only [if_pos (show known x = true ∧ x.ca.op.toNat < 15 from ⟨h, by omega⟩)]
  · rw [if_neg (fun k => h k.1)]
    unfold cnA cnB; rw [if_neg h, if_neg h]; split <;> rfl
theorem stOp_ne {F : Nat → Int} {x : Opr} {o : Nat} (h : ¬ x.ca.op = o) : stOp F x (o + 1) = stOp F x o := by
  unfold stOp
  by_cases hk : known x = true
  · have := of_decide_eq_true hk
    by_cases hl : x.ca.op.toNat < o
    · simp only [if_pos (show known x = true ∧ x.ca.op.toNat < o + 1 from ⟨hk, by omega⟩), if_pos (show known x = true ∧ x.ca.op.toNat < o from ⟨hk, hl⟩)]
    · rw [if_neg (fun k => by omega), if_neg (fun k => hl k.2)]
  · rw [if_neg (fun k => hk k.1), if_neg (fun k => hk k.1)]
theorem stOp_eq {F : Nat → Int} {x : Opr} {o : Nat} (h : x.ca.op = o) (ho : o < 15) : stOp F x o = F ∧ cnA F x = upd F o (F o + 1) ∧ (∀ G, cnB G x = upd G (15 + o) (G (15 + o) + 1)) ∧ stOp F x (o + 1) = if x.to < 0 then cnB (cnA F x) x else cnA F x := by
  have hk : known x = true := decide_eq_true (by omega)
  have hn : x.ca.op.toNat = o := by omega
  refine ⟨?_, ?_, fun G => ?_, ?_⟩
  · unfold stOp; rw [if_neg (fun k => by have := k.2; omega)]
  · unfold cnA; rw [if_pos hk, hn]
  · unfold cnB; rw [if_pos hk, hn]
  · unfold stOp; simp only [if_pos (show known x = true ∧ x.ca.op.toNat < o + 1 from ⟨hk, by omega⟩)]
theorem stK_zero (F : Nat → Int) (x : Opr) : stK F x 0 = F := by unfold stK; rw [if_neg (by omega)]
theorem stK_all (F : Nat → Int) (x : Opr) : stK F x 9 = cnC F x := by
  unfold stK cnC
  by_cases h : kOk x = true
  · have := of_decide_eq_true h
    rw [if_pos ⟨h, by omega⟩, if_pos h]
  · rw [if_neg (fun k => h k.1), if_neg h]
theorem stK_ne {F : Nat → Int} {x : Opr} {o : Nat} (h : ¬ x.an.kind = o) : stK F x (o + 1) = stK F x o := by
  unfold stK
  by_cases hk : kOk x = true
  · have := of_decide_eq_true hk
    by_cases hl : x.an.kind.toNat < o
    · rw [if_pos ⟨hk, by omega⟩, if_pos ⟨hk, hl⟩]
    · rw [if_neg (fun k => by omega), if_neg (fun k => hl k.2)]
  · rw [if_neg (fun k => hk k.1), if_neg (fun k => hk k.1)]
theorem stK_eq {F : Nat → Int} {x : Opr} {o : Nat} (h : x.an.kind = o) (ho : o < 9) : stK F x o = F ∧ stK F x (o + 1) = upd F (30 + o) (F (30 + o) + 1) := by
  have hk : kOk x = true := decide_eq_true (by omega)
  have hn : x.an.kind.toNat = o := by omega
  refine ⟨?_, ?_⟩
  · unfold stK; rw [if_neg (fun k => by have := k.2; omega)]
  · unfold stK; rw [if_pos ⟨hk, by omega⟩]; unfold cnC; rw [if_pos hk, hn]
theorem rmN_le (O : List Opr) : ∀ a, 0 ≤ rmN O a ∧ rmN O a ≤ O.length
  | 0 => by simp [rmN]
  | a + 1 => by
    have := rmN_le O a
    have h : O.countP (atB a) ≤ O.length := List.countP_le_length
    rw [rmN]; split <;> omega
theorem cnt_take (p : Opr → Bool) (O : List Opr) (i : Nat) (x : Opr) (hx : O[i]? = some x) : (O.take (i + 1)).countP p = (O.take i).countP p + (if p x = true then 1 else 0) := by
  rw [List.take_add_one, hx, List.countP_append]
  simp [List.countP_cons]
set_option maxHeartbeats 1000000 in
theorem rahead (a b : Opr) (va vb : Value) (w : World) : Calls Try.prog 19 #[.agg #[.int .i64 a.th, .int .i64 a.ca.op, .int .i64 a.ca.key, .int .i64 a.ca.val, .int .i64 a.ca.hi, .int .i64 a.ca.lim, .int .i64 a.an.kind, .int .i64 a.an.key, .int .i64 a.an.val, .int .i64 a.an.n, va, .int .i64 a.fr, .int .i64 a.to], .agg #[.int .i64 b.th, .int .i64 b.ca.op, .int .i64 b.ca.key, .int .i64 b.ca.val, .int .i64 b.ca.hi, .int .i64 b.ca.lim, .int .i64 b.an.kind, .int .i64 b.an.key, .int .i64 b.an.val, .int .i64 b.an.n, vb, .int .i64 b.fr, .int .i64 b.to]] w fun e w' => e = .returned (.bool (aheadB a b)) ∧ Below w.heap.size w w' := by
  refine Calls.veil fun Q HQ => ?_
  obtain ⟨r, hr⟩ : ∃ r, r = aheadB a b := ⟨_, rfl⟩
  rw [← hr] at HQ
  have HR := Lib.hid (hr.trans (by unfold aheadB; rfl : _ = (decide (0 ≤ a.to) && decide (a.to < b.fr))))
  clear hr
  obtain ⟨a0, ⟨a1, a2, a3, a4, a5⟩, ⟨a6, a7, a8, a9, a10⟩, a11, a12⟩ := a
  obtain ⟨b0, ⟨b1, b2, b3, b4, b5⟩, ⟨b6, b7, b8, b9, b10⟩, b11, b12⟩ := b
  simp only at HR ⊢
  go_enter Try.func19, Try.ntmps19
  go_upto_region 1 with fail
  generalize hV : World.alloc (World.alloc w _) _ = V
  have HBV := Lib.hid (show Below w.heap.size w V by rw [← hV]; (repeat (first | exact Below.refl _ _ | assumption | refine below_new ?_ _ | refine Below.drew ?_ | refine below_drewN ?_ _ | refine below_on ?_ (by assumption))))
  have y12 := (show V.cell? ⟨w.heap.size, 12, none⟩ = some (.int .i64 a12) by rw [← hV]; exact cell_new2 _ _ _ _ _ _ _ rfl)
  have z11 := (show V.cell? ⟨w.heap.size + 1, 11, none⟩ = some (.int .i64 b11) by rw [← hV]; exact cell_new1 _ _ _ _ _ _ _ rfl)
  clear hV
  generalize w.heap.size = q at *
  by_cases h0 : 0 ≤ a12
  · by_cases h1 : a12 < b11
    · rw [decide_eq_true h0, decide_eq_true h1] at HR
      go_wp2_with fail
      (try go_ret)
      rw [HQ.out, HR.out]
      exact ⟨rfl, HBV.out⟩
    · rw [decide_eq_true h0, decide_eq_false h1] at HR
      go_wp2_with fail
      (try go_ret)
      rw [HQ.out, HR.out]
      exact ⟨rfl, HBV.out⟩
  · rw [decide_eq_false h0] at HR
    go_wp2_with fail
    (try go_ret)
    rw [HQ.out, HR.out]
    exact ⟨rfl, HBV.out⟩
end Go.Proofs.Ytilfgekiblpkaaa
