/- Layer 35, reading: the reference's way through an answer's words (no program). -/
import Derived.Test.YtdgplijnhkgeiaaDoorRtxT
namespace Go.Proofs.YtdgplijnhkgeiaaDoor
open Go.RowKit
open Go.Lib (cut itoa)
set_option linter.unusedVariables false
set_option linter.unusedSimpArgs false
theorem cut_miss {c : UInt8} : ∀ {l : List UInt8}, (cut l [c]).2.2 = false → (cut l [c]).1 = l ∧ (cut l [c]).2.1 = []
  | [], _ => by rw [cut_nil]; exact ⟨rfl, rfl⟩
  | x :: r, h => by
    rw [cut_cons] at h ⊢
    by_cases hx : x = c
    · rw [if_pos hx] at h; cases h
    · rw [if_neg hx] at h ⊢
      obtain ⟨h1, h2⟩ := cut_miss (l := r) h
      exact ⟨by simp only [h1], h2⟩
theorem cut_mem {c : UInt8} : ∀ {l : List UInt8}, (cut l [c]).2.2 = true → c ∈ l
  | [], h => by rw [cut_nil] at h; cases h
  | x :: r, h => by
    rw [cut_cons] at h
    by_cases hx : x = c
    · rw [hx]; exact List.mem_cons_self
    · rw [if_neg hx] at h
      exact List.mem_cons_of_mem _ (cut_mem (l := r) h)
theorem numOf_no58 {l : List UInt8} (h : (58 : UInt8) ∈ l) : numOf l = none := numOf_none fun n hn => by
  have h1 := itoa_no (n := n) (d := 58) (by decide) (.inr (by decide)) 58 (by rw [hn.2]; exact h)
  simp at h1
theorem numOf_nil : numOf [] = none := numOf_none fun n hn => by
  have h1 := hn.2
  unfold itoa at h1
  split at h1
  · cases h1
  · obtain ⟨x, r, h2, _⟩ := dec_ne n.toNat
    rw [h2] at h1
    cases h1
theorem pw_pair {x : List UInt8} (h : (splitL 58 x).length = 2) : splitL 58 x = [(cut x [58]).1, (cut x [58]).2.1] := by
  rw [cut_split] at h ⊢
  split at h
  · rename_i h1
    rw [if_pos h1]
    have h2 : (splitL 58 (cut x [58]).2.1).length = 1 := by simpa using h
    rw [cut_split] at h2
    split at h2
    · have h3 := (Nat.pos_of_ne_zero fun e => splitL_ne 58 (cut (cut x [58]).2.1 [58]).2.1 (List.eq_nil_of_length_eq_zero e))
      simp only [List.length_cons] at h2
      omega
    · rename_i h3
      rw [cut_split, if_neg h3, (cut_miss (c := 58) (l := (cut x [58]).2.1) (by simpa using h3)).1]
  · simp at h
theorem pw_bad {x : List UInt8} (h : (splitL 58 x).length ≠ 2) : pairOf x = none := by
  refine pairOf_no2 ?_
  by_cases h1 : (cut x [58]).2.2 = true
  · by_cases h2 : (cut (cut x [58]).2.1 [58]).2.2 = true
    · exact numOf_no58 (cut_mem h2)
    · exfalso
      apply h
      rw [cut_split, if_pos h1, cut_split, if_neg h2]
      rfl
  · rw [(cut_miss (c := 58) (l := x) (by simpa using h1)).2]
    exact numOf_nil
/-- The texts that a word is read as. -/
def pw (k : Nat) (x : List UInt8) : List (List UInt8) := if k = 3 then splitL 58 x else [x]
def flatP (ps : PL) : List Int := ps.flatMap fun p => [p.1, p.2]
noncomputable def flatO (k : Nat) (l : List (List UInt8)) : Option (List Int) := if k = 3 then (pairsOf l).map flatP else numsOf l
def wantN (k : Nat) : Nat := if k = 1 then 3 else if k = 2 then 2 else 1
theorem flatP_len : ∀ ps : PL, (flatP ps).length = 2 * ps.length
  | [] => rfl
  | p :: r => by
    have := flatP_len r
    simp only [flatP, List.flatMap_cons, List.length_append, List.length_cons, List.length_nil] at this ⊢
    omega
theorem flatP_get : ∀ (ps : PL) (i : Nat) (p : Int × Int), ps[i]? = some p → (flatP ps)[2 * i]? = some p.1 ∧ (flatP ps)[2 * i + 1]? = some p.2
  | [], i, p, h => by simp at h
  | q :: r, 0, p, h => by
    simp at h; subst h
    exact ⟨rfl, rfl⟩
  | q :: r, i + 1, p, h => by
    have h1 := flatP_get r i p (by simpa using h)
    have e : flatP (q :: r) = q.1 :: q.2 :: flatP r := rfl
    rw [e, show 2 * (i + 1) = 2 * i + 1 + 1 by omega]
    simpa using h1
theorem numsOf_one {x : List UInt8} {ms : List Int} (h : numsOf [x] = some ms) : ∃ m, numOf x = some m ∧ ms = [m] := by
  unfold numsOf at h
  split at h
  · rename_i n l h1 h2
    simp [numsOf] at h2
    subst h2
    cases h
    exact ⟨n, h1, rfl⟩
  · cases h
theorem numsOf_two {x y : List UInt8} {ms : List Int} (h : numsOf [x, y] = some ms) : ∃ a b, numOf x = some a ∧ numOf y = some b ∧ ms = [a, b] := by
  unfold numsOf at h
  split at h
  · rename_i n l h1 h2
    obtain ⟨m, h3, rfl⟩ := numsOf_one h2
    cases h
    exact ⟨n, m, h1, h3, rfl⟩
  · cases h
theorem numsOf_two_no {x y : List UInt8} (h : numsOf [x, y] = none) : numOf x = none ∨ numOf y = none := by
  cases hx : numOf x with
  | none => exact .inl rfl
  | some a =>
    cases hy : numOf y with
    | none => exact .inr rfl
    | some b => simp [numsOf, hx, hy] at h
theorem flatO_len {k : Nat} {l : List (List UInt8)} {NS : List Int} (h : flatO k l = some NS) : NS.length ≤ 2 * l.length := by
  unfold flatO at h
  split at h
  · cases hp : pairsOf l with
    | none => rw [hp] at h; cases h
    | some ps =>
      rw [hp] at h
      cases h
      rw [flatP_len, pairsOf_len hp]
      exact Nat.le_refl _
  · rw [numsOf_len h]; omega
theorem flatO_snoc {k : Nat} {l : List (List UInt8)} {x : List UInt8} {NS ms : List Int} (h : flatO k l = some NS) (hm : numsOf (pw k x) = some ms) (h2 : k = 3 → (splitL 58 x).length = 2) : flatO k (l ++ [x]) = some (NS ++ ms) := by
  unfold flatO pw at *
  by_cases hk : k = 3
  · rw [if_pos hk] at h hm ⊢
    cases hp : pairsOf l with
    | none => rw [hp] at h; cases h
    | some ps =>
      rw [hp] at h
      cases h
      rw [pw_pair (h2 hk)] at hm
      obtain ⟨a, b, h3, h4, rfl⟩ := numsOf_two hm
      rw [pairsOf_snoc x (a, b) hp (pairOf_ok h3 h4)]
      simp [flatP]
  · rw [if_neg hk] at h hm ⊢
    obtain ⟨m, h3, rfl⟩ := numsOf_one hm
    exact numsOf_snoc x m h h3
theorem flatO_bad {k : Nat} {tl : List (List UInt8)} {x u : List UInt8} (hx : x ∈ tl) (hu : u ∈ pw k x) (hn : numOf u = none) : flatO k tl = none := by
  unfold flatO pw at *
  by_cases hk : k = 3
  · rw [if_pos hk] at hu ⊢
    have hp : pairOf x = none := by
      by_cases h2 : (splitL 58 x).length = 2
      · rw [pw_pair h2] at hu
        simp at hu
        rcases hu with rfl | rfl
        · exact pairOf_no1 hn
        · exact pairOf_no2 hn
      · exact pw_bad h2
    rw [pairsOf_bad hx hp]; rfl
  · rw [if_neg hk] at hu ⊢
    simp at hu
    subst hu
    exact numsOf_bad hx hn
theorem flatO_bad2 {tl : List (List UInt8)} {x : List UInt8} (hx : x ∈ tl) (h : (splitL 58 x).length ≠ 2) : flatO 3 tl = none := by
  unfold flatO
  rw [if_pos rfl, pairsOf_bad hx (pw_bad h)]; rfl
theorem tailR_len {k : Nat} {tl : List (List UInt8)} (h3 : k ≠ 3) (h : tl.length + 1 ≠ wantN k) : tailR k tl = .error 4 := by
  by_cases h1 : k = 1
  · subst h1; exact tailR_1n (by simp [wantN] at h; omega)
  · by_cases h2 : k = 2
    · subst h2; exact tailR_2n (by simp [wantN] at h; omega)
    · exact tailR_0n k h1 h2 h3 (by simp [wantN, h1, h2] at h; simpa using h)
theorem tailR_none {k : Nat} {tl : List (List UInt8)} (h : flatO k tl = none) : tailR k tl = .error 4 := by
  by_cases h3 : k = 3
  · subst h3
    unfold flatO at h
    rw [if_pos rfl] at h
    exact tailR_3x (by simpa using h)
  · unfold flatO at h
    rw [if_neg h3] at h
    by_cases h1 : k = 1
    · subst h1
      by_cases hl : tl.length = 2
      · obtain ⟨x, y, rfl⟩ : ∃ x y, tl = [x, y] := by
          match tl, hl with
          | [x, y], _ => exact ⟨x, y, rfl⟩
        rcases numsOf_two_no h with h | h
        · exact tailR_1x h
        · exact tailR_1z h
      · exact tailR_1n hl
    · by_cases h2 : k = 2
      · subst h2
        by_cases hl : tl.length = 1
        · obtain ⟨x, rfl⟩ : ∃ x, tl = [x] := by
            match tl, hl with
            | [x], _ => exact ⟨x, rfl⟩
          refine tailR_2x ?_
          cases hx : numOf x with
          | none => rfl
          | some a => simp [numsOf, hx] at h
        · exact tailR_2n hl
      · refine tailR_0n k h1 h2 h3 fun e => ?_
        have : tl = [] := List.eq_nil_of_length_eq_zero e
        subst this
        simp [numsOf] at h
theorem tailR_y1 {tl : List (List UInt8)} {NS : List Int} (h : flatO 1 tl = some NS) (hl : tl.length = 2) : ∃ a b, NS = [a, b] ∧ tailR 1 tl = .ok ⟨1, a, b, 0, []⟩ := by
  obtain ⟨x, y, rfl⟩ : ∃ x y, tl = [x, y] := by
    match tl, hl with
    | [x, y], _ => exact ⟨x, y, rfl⟩
  obtain ⟨a, b, h1, h2, rfl⟩ := numsOf_two (show numsOf [x, y] = some NS from h)
  exact ⟨a, b, rfl, tailR_1y h1 h2⟩
theorem tailR_y2 {tl : List (List UInt8)} {NS : List Int} (h : flatO 2 tl = some NS) (hl : tl.length = 1) : ∃ a, NS = [a] ∧ tailR 2 tl = .ok ⟨2, 0, 0, a, []⟩ := by
  obtain ⟨x, rfl⟩ : ∃ x, tl = [x] := by
    match tl, hl with
    | [x], _ => exact ⟨x, rfl⟩
  obtain ⟨a, h1, rfl⟩ := numsOf_one (show numsOf [x] = some NS from h)
  exact ⟨a, rfl, tailR_2y h1⟩
theorem tailR_y3 {tl : List (List UInt8)} {NS : List Int} (h : flatO 3 tl = some NS) : ∃ ps, NS = flatP ps ∧ ps.length = tl.length ∧ tailR 3 tl = .ok ⟨3, 0, 0, 0, ps⟩ := by
  unfold flatO at h
  rw [if_pos rfl] at h
  cases hp : pairsOf tl with
  | none => rw [hp] at h; cases h
  | some ps =>
    rw [hp] at h
    cases h
    exact ⟨ps, rfl, pairsOf_len hp, tailR_3y hp⟩
theorem tailR_y0 {k : Nat} {tl : List (List UInt8)} (h1 : k ≠ 1) (h2 : k ≠ 2) (h3 : k ≠ 3) (hl : tl.length = 0) : tailR k tl = .ok ⟨k, 0, 0, 0, []⟩ := by
  rw [List.eq_nil_of_length_eq_zero hl]
  exact tailR_0 k h1 h2 h3
/-- An own row of numbers. -/
def icells (l : List Int) : List Value := l.map fun n => .int .i64 n
theorem icells_len (l : List Int) : (icells l).length = l.length := by simp [icells]
theorem infoI64 : (Tryd.prog.info? 2).map (fun i => (i.zero, i.size, i.bytes)) = some (some (.int .i64 0), 1, 8) := by kernel_rfl
theorem uIL : Tryd.prog.underlying 63 = some (.slice 2) := by kernel_rfl
abbrev OwnN (w : World) (B : Nat) (v : Value) (l : List Int) : Prop := w.ownsRow B 2 1 v l.length (icells l)
theorem ownN_nil (w : World) (B : Nat) : OwnN w B (.slice none 0 0) [] := ⟨rfl, .inl ⟨rfl, rfl⟩⟩
theorem ownN_ge {w : World} {B : Nat} {v : Value} {l : List Int} (h : OwnN w B v l) : ∀ k, v.ownBlock = some k → B ≤ k := by
  intro k hk
  rcases h.2 with ⟨rfl, _⟩ | ⟨g, cap, cur, rfl, hg, _⟩
  · cases hk
  · simp only [Value.ownBlock, Option.some.injEq] at hk; omega
/-- Its cells. -/
theorem ownN_cells {w : World} {B : Nat} {v : Value} {l : List Int} (h : OwnN w B v l) : ∃ p c, v = .slice p l.length c ∧ ∀ i n, l[i]? = some n → ∃ g, B ≤ g ∧ p = some ⟨g, 0, none⟩ ∧ w.cell? ⟨g, i, none⟩ = some (.int .i64 n) := by
  rcases h.2 with ⟨rfl, h0⟩ | ⟨g, cap, cur, hv, hg, hh, hc, hm, hs, ht⟩
  · have e : l = [] := List.eq_nil_of_length_eq_zero h0
    subst e
    exact ⟨none, 0, rfl, fun i n h => by simp at h⟩
  · refine ⟨_, _, hv, fun i n hi => ⟨g, hg, rfl, ?_⟩⟩
    have hl := (List.getElem?_eq_some_iff.1 hi).1
    have g0 : (icells l)[i]? = some (.int .i64 n) := by rw [icells, List.getElem?_map, hi]; rfl
    rw [← ht, List.getElem?_take_of_lt (by omega)] at g0
    rw [cell_of_row _ g _ _ _ (0, 0) hh]; simpa using g0
/-- A number more, at the end. -/
theorem wpList_append_n1 {w : World} {ops : Array Oper} {rest : List Oper} {o : Oper} {a : Act} {Q : Exit → Act → World → Prop} (hgd : o.guard = none) (s x : Operand)
    (ho : o.op = .call { callee := .builtin .append, args := #[s, x], argTypes := #[63, 63] })
    (B : Nat) (v : Value) (L : List Int) (n : Int) (g c : Nat) (hs : a.eval s = v) (hown : OwnN w B v L) (hx : a.eval x = .slice (some ⟨g, 0, none⟩) 1 c) (hc : w.cell? ⟨g, 0, none⟩ = some (.int .i64 n)) (hn : L.length ≤ 100000) (hB : B ≤ w.heap.size)
    (h : ∀ v' w', OwnN w' B v' (L ++ [n]) → w.grownBy w' v.ownBlock → wpList Tryd.prog ops Q rest (a.put o.dst v') w') : wpList Tryd.prog ops Q (o :: rest) a w := by
  obtain ⟨i0, hi, hz0, hz1, hz2⟩ := info_parts infoI64
  refine wpList_append_own _ hgd s x 63 ho B 2 i0 _ 1 8 uIL hi hz0 hz1 hz2 rfl (by decide) v L.length (icells L) hs hown ⟨g, 0, none⟩ 1 c [.int .i64 n] hx rfl ?_ ?_ (by unfold maxLen; omega) (by omega) hB ?_
  · intro j u hu
    have : j = 0 := by have := (List.getElem?_eq_some_iff.1 hu).1; simpa using this
    subst this
    simp at hu; subst hu
    simpa [Addr.add] using hc
  · intro u hu; simp at hu; subst hu; rfl
  · intro v' w' h5 h6 _
    refine h v' w' ?_ h6
    unfold OwnN icells
    rw [List.map_append, List.length_append]
    exact h5
theorem grow_stepN {W w0 w1 : World} {B : Nat} {v : Value} {L : List Int} (hown : OwnN w0 B v L) (hbel : Below B W w0) (hB : B ≤ W.heap.size) (hg : w0.grownBy w1 v.ownBlock) : Below B W w1 :=
  hbel.grown hg (by have := hbel.size; omega) (ownN_ge hown)
theorem ownT_cell {w : World} {B m c : Nat} {q : Option Addr} {L : List (List UInt8)} (h : OwnT w B (.slice q m c) L) {j : Nat} {u : List UInt8} (hj : L[j]? = some u) : ∃ g, q = some ⟨g, 0, none⟩ ∧ w.cell? ⟨g, j, none⟩ = some (tx u) := by
  have hi : j < L.length := (List.getElem?_eq_some_iff.1 hj).1
  rcases h.2 with ⟨h1, h2⟩ | ⟨g, cap, cur, hv, hb, hh, hc, hm, hs, ht⟩
  · omega
  · simp only [Value.slice.injEq] at hv
    refine ⟨g, hv.1, ?_⟩
    have g0 : (tcells L)[j]? = some (tx u) := by rw [tcells, List.getElem?_map, hj]; rfl
    rw [← ht, List.getElem?_take_of_lt (by omega)] at g0
    rw [cell_of_row _ g _ _ _ (0, 0) hh]
    simpa using g0
theorem own_zero {w : World} {B : Nat} {v : Value} {L : List (List UInt8)} (h : OwnT w B v L) : OwnT w 0 v L := by
  refine ⟨h.1, ?_⟩
  rcases h.2 with h1 | ⟨g, cap, cur, hv, hb, h2⟩
  · exact .inl h1
  · exact .inr ⟨g, cap, cur, hv, Nat.zero_le _, h2⟩
theorem ownT_slice {w : World} {B : Nat} {v : Value} {L : List (List UInt8)} (h : OwnT w B v L) : ∃ p c, v = .slice p L.length c := by
  rcases h.2 with ⟨rfl, h0⟩ | ⟨g, cap, cur, hv, _⟩
  · exact ⟨none, 0, by rw [h0]⟩
  · exact ⟨_, _, hv⟩
/-- Of what stood in w only block A may have changed. -/
structure KXq (A : Nat) (w w' : World) : Prop where
  os : w'.os = w.os
  tape : w'.tape = w.tape
  output : w'.output = w.output
  size : w.heap.size ≤ w'.heap.size
  block : ∀ k, k < w.heap.size → k ≠ A → w'.heap[k]? = w.heap[k]?
theorem KXq.refl (A : Nat) (w : World) : KXq A w w := ⟨rfl, rfl, rfl, Nat.le_refl _, fun _ _ _ => rfl⟩
theorem KXq.on {A : Nat} {w w' w2 : World} (h : KXq A w w') (k : Below w'.heap.size w' w2) : KXq A w w2 :=
  ⟨k.os.trans h.os, k.tape.trans h.tape, k.output.trans h.output, Nat.le_trans h.size k.size, fun q hq h1 => (k.block q (Nat.lt_of_lt_of_le hq h.size)).trans (h.block q hq h1)⟩
theorem KXq.grown {A : Nat} {w w' w2 : World} {row : Option Nat} (h : KXq A w w') (hg : w'.grownBy w2 row) (hr : ∀ k, row = some k → w.heap.size ≤ k) : KXq A w w2 :=
  ⟨hg.os.trans h.os, hg.tape.trans h.tape, hg.output.trans h.output, Nat.le_trans h.size hg.size, fun q hq h1 => (hg.block q (Nat.lt_of_lt_of_le hq h.size) (fun e => by have := hr q e.symm; omega)).trans (h.block q hq h1)⟩
theorem KXq.set {A i : Nat} {w w' : World} (h : KXq A w w') (v : Value) : KXq A w (w'.setCell ⟨A, i, none⟩ v) :=
  ⟨h.os, h.tape, h.output, by have := h.size; simp [World.setCell]; exact this, fun k hk h1 => (heap_setCell_other w' ⟨A, i, none⟩ k v h1).trans (h.block k hk h1)⟩
theorem KXq.below {A B : Nat} {w w' : World} (h : KXq A w w') (hA : B ≤ A) (hB : B ≤ w.heap.size) : Below B w w' :=
  ⟨h.os, h.tape, h.output, h.size, fun k hk => h.block k (Nat.lt_of_lt_of_le hk hB) (by omega)⟩
theorem own_ne {w : World} {B B' : Nat} {v v' : Value} {L : List (List UInt8)} {L' : List Int} (h : OwnT w B v L) (h' : OwnN w B' v' L') : v.ownBlock = none ∨ v.ownBlock ≠ v'.ownBlock := by
  rcases h.2 with ⟨rfl, _⟩ | ⟨g, cap, cur, rfl, _, hh, _⟩
  · exact .inl rfl
  · rcases h'.2 with ⟨rfl, _⟩ | ⟨g', cap', cur', rfl, _, hh', _⟩
    · exact .inr (fun e => by cases e)
    · refine .inr fun e => ?_
      have e : some g = some g' := e
      injection e with e
      subst e
      rw [hh'] at hh
      injection hh with hh
      injection hh with _ h2
      revert h2
      decide
theorem idx_lt {P : List (List UInt8)} {j M : Nat} (h : j < M) (hl : P.length = M) : ∃ u, P[j]? = some u := ⟨P[j]'(by omega), List.getElem?_eq_getElem (by omega)⟩
theorem lt2 {j : Nat} (h : j < 2) : (j : Int) < 2 := by omega
theorem lt1 {j : Nat} (h : j < 1) : (j : Int) < 1 := by omega
theorem nlt2 {j : Nat} (h : j = 2) : ¬ (j : Int) < 2 := by omega
theorem nlt1 {j : Nat} (h : j = 1) : ¬ (j : Int) < 1 := by omega
theorem meas1 {j M : Nat} (h : j < M) : M - ((j : Int) + 1).toNat < M - (j : Int).toNat := by omega
theorem meas2 {j M : Nat} (h : j < M) : M + 1 - ((j : Int) + 1 + 1).toNat < M + 1 - ((j : Int) + 1).toNat := by omega
theorem meas3 {i m : Nat} (h : i < m) : 2 * m - (2 * (i : Int) + 2).toNat < 2 * m - (2 * (i : Int)).toNat := by omega
theorem wr_s {j : Nat} (h : j < 2) : wrap64 ((j : Int) + 1) = (j : Int) + 1 := wrap_id ⟨by omega, by omega⟩
theorem wri_s {j : Nat} (h : j < 2) : IntKind.i64.wrap ((j : Int) + 1) = (j : Int) + 1 := wrapi_id ⟨by omega, by omega⟩
theorem or_lt {j M : Nat} (h : j ≤ M) : j < M ∨ j = M := by omega
theorem rel_le {i n : Nat} (h : i < n) : i + 1 ≤ n := h
theorem app_len {k i j M : Nat} {tl P : List (List UInt8)} {NS ms : List Int} (h1 : flatO k (tl.take i) = some NS) (h2 : numsOf (P.take j) = some ms) (hl : tl.length ≤ 5000) (hP : P.length = M) (hM : M ≤ 2) : (NS ++ ms).length ≤ 100000 := by
  have a := flatO_len h1
  have b := numsOf_len h2
  rw [List.length_append]
  rw [List.length_take] at a b
  omega
theorem size_al {U w : World} (o : Obj) (h : U.heap.size ≤ w.heap.size) : U.heap.size ≤ (w.alloc o).heap.size := by simp; omega
theorem putA_own {w : World} {B R : Nat} {v v2 : Value} {l : PL} {a : An} (h : OwnQ w B v l) (hR : R < B) : OwnQ (putA w R a v2) B v l := by
  unfold putA
  exact ownsRow_setCell_below (ownsRow_setCell_below (ownsRow_setCell_below (ownsRow_setCell_below (ownsRow_setCell_below h (a := ⟨R, 0, none⟩) hR _) (a := ⟨R, 1, none⟩) hR _) (a := ⟨R, 2, none⟩) hR _) (a := ⟨R, 3, none⟩) hR _) (a := ⟨R, 4, none⟩) hR _
end Go.Proofs.YtdgplijnhkgeiaaDoor
