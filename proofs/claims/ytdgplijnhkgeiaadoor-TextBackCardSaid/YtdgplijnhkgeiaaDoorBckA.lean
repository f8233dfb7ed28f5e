/- Layer 35, back: what is read is written as just the same text (no program). -/
import Derived.Test.YtdgplijnhkgeiaaDoorRvtA
import Derived.Test.YtdgplijnhkgeiaaDoorTxwF
namespace Go.Proofs.YtdgplijnhkgeiaaDoor
open Go.RowKit
open Go.Lib (cut itoa)
set_option linter.unusedVariables false
set_option linter.unusedSimpArgs false
def joinL (c : UInt8) : List (List UInt8) → List UInt8
  | [] => []
  | [x] => x
  | x :: y :: r => x ++ c :: joinL c (y :: r)
theorem join_cons (c : UInt8) (x : List UInt8) {r : List (List UInt8)} (h : r ≠ []) : joinL c (x :: r) = x ++ c :: joinL c r := by
  cases r with
  | nil => exact absurd rfl h
  | cons y r => rfl
theorem join_flat (c : UInt8) (x : List UInt8) : ∀ r : List (List UInt8), joinL c (x :: r) = x ++ r.flatMap (fun y => c :: y)
  | [] => by simp [joinL]
  | y :: r => by
    rw [join_cons c x (by simp), join_flat c y r]
    simp
theorem join_split (c : UInt8) : ∀ l, joinL c (splitL c l) = l
  | [] => rfl
  | x :: r => by
    have ih := join_split c r
    by_cases hx : x = c
    · simp only [splitL, if_pos hx]
      rw [join_cons c [] (splitL_ne c r), ih, hx]; rfl
    · simp only [splitL, if_neg hx]
      obtain ⟨a, t, ht⟩ := List.exists_cons_of_ne_nil (splitL_ne c r)
      rw [ht] at ih ⊢
      show joinL c ((x :: a) :: t) = x :: r
      rw [join_flat] at ih ⊢
      rw [← ih]; rfl
theorem split_no (c : UInt8) : ∀ {x : List UInt8}, c ∉ x → splitL c x = [x]
  | [], _ => rfl
  | a :: x, h => by
    have h1 : a ≠ c := fun e => h (by rw [e]; exact List.mem_cons_self)
    have h2 := split_no c (x := x) (fun e => h (List.mem_cons_of_mem _ e))
    simp only [splitL, if_neg h1]
    rw [h2]
theorem split_app (c : UInt8) (r : List UInt8) : ∀ {x : List UInt8}, c ∉ x → splitL c (x ++ c :: r) = x :: splitL c r
  | [], _ => by simp [splitL]
  | a :: x, h => by
    have h1 : a ≠ c := fun e => h (by rw [e]; exact List.mem_cons_self)
    have h2 := split_app c r (x := x) (fun e => h (List.mem_cons_of_mem _ e))
    show splitL c (a :: (x ++ c :: r)) = _
    simp only [splitL, if_neg h1]
    rw [h2]
theorem split_join (c : UInt8) : ∀ ws : List (List UInt8), ws ≠ [] → (∀ x ∈ ws, c ∉ x) → splitL c (joinL c ws) = ws
  | [], h, _ => absurd rfl h
  | [x], _, h => split_no c (h x List.mem_cons_self)
  | x :: y :: r, _, h => by
    show splitL c (x ++ c :: joinL c (y :: r)) = _
    rw [split_app c _ (h x List.mem_cons_self), split_join c (y :: r) (by simp) (fun z hz => h z (List.mem_cons_of_mem _ hz))]
theorem cut_app (c : UInt8) (r : List UInt8) : ∀ {x : List UInt8}, c ∉ x → cut (x ++ c :: r) [c] = (x, r, true)
  | [], _ => by show cut (c :: r) [c] = _; rw [cut_cons, if_pos rfl]
  | a :: x, h => by
    have h1 : a ≠ c := fun e => h (by rw [e]; exact List.mem_cons_self)
    have h2 := cut_app c r (x := x) (fun e => h (List.mem_cons_of_mem _ e))
    show cut (a :: (x ++ c :: r)) [c] = _
    rw [cut_cons, if_neg h1, h2]
theorem cut_join {c : UInt8} : ∀ {l : List UInt8}, (cut l [c]).2.2 = true → l = (cut l [c]).1 ++ c :: (cut l [c]).2.1
  | [], h => by rw [cut_nil] at h; cases h
  | x :: r, h => by
    rw [cut_cons] at h ⊢
    by_cases hx : x = c
    · rw [if_pos hx, hx]; rfl
    · rw [if_neg hx] at h ⊢
      have h1 := cut_join (l := r) h
      show x :: r = x :: _
      congr 1
/-- What a number's text is. -/
theorem numOf_text {x : List UInt8} {n : Int} (h : numOf x = some n) : itoa n = x := (numOf_is h).2
theorem numOf_itoa {n : Int} (h : I64 n) : numOf (itoa n) = some n := numOf_some ⟨h, rfl⟩
theorem pairOf_text {x : List UInt8} {p : Int × Int} (h : pairOf x = some p) : x = itoa p.1 ++ 58 :: itoa p.2 ∧ I64 p.1 ∧ I64 p.2 := by
  unfold pairOf at h
  cases h1 : numOf (cut x [58]).1 with
  | none => rw [h1] at h; cases h
  | some a =>
    cases h2 : numOf (cut x [58]).2.1 with
    | none => rw [h1, h2] at h; cases h
    | some b =>
      rw [h1, h2] at h
      cases h
      have hm : (cut x [58]).2.2 = true := by
        cases hc : (cut x [58]).2.2 with
        | true => rfl
        | false => rw [(cut_miss hc).2, numOf_nil] at h2; cases h2
      refine ⟨?_, (numOf_is h1).1, (numOf_is h2).1⟩
      have h3 := cut_join hm
      rw [← numOf_text h1, ← numOf_text h2] at h3
      exact h3
theorem pairOf_itoa {a b : Int} (h1 : I64 a) (h2 : I64 b) : pairOf (itoa a ++ 58 :: itoa b) = some (a, b) := by
  have hc : (58 : UInt8) ∉ itoa a := fun h => by have := itoa_no (n := a) (d := 58) (by decide) (.inr (by decide)) 58 h; simp at this
  have e := cut_app 58 (itoa b) hc
  exact pairOf_ok (by rw [e]; exact numOf_itoa h1) (by rw [e]; exact numOf_itoa h2)
theorem pairsOf_text : ∀ {l : List (List UInt8)} {ps : PL}, pairsOf l = some ps → l.flatMap (fun y => 32 :: y) = prsT ps ∧ Ints ps
  | [], ps, h => by simp [pairsOf] at h; subst h; exact ⟨rfl, fun p hp => by cases hp⟩
  | x :: r, ps, h => by
    unfold pairsOf at h
    split at h
    · rename_i n l h1 h2
      cases h
      obtain ⟨h3, h4, h5⟩ := pairOf_text h1
      obtain ⟨h6, h7⟩ := pairsOf_text h2
      refine ⟨?_, fun p hp => ?_⟩
      · rw [List.flatMap_cons, h6, h3]; rfl
      · rcases List.mem_cons.1 hp with rfl | hp
        · exact ⟨h4, h5⟩
        · exact h7 p hp
    · cases h
theorem pairsOf_map : ∀ {ps : PL}, Ints ps → pairsOf (ps.map fun p => itoa p.1 ++ 58 :: itoa p.2) = some ps
  | [], _ => rfl
  | p :: r, h => by
    have h1 := pairsOf_map (ps := r) (fun q hq => h q (List.mem_cons_of_mem _ hq))
    have h2 := pairOf_itoa (h p List.mem_cons_self).1 (h p List.mem_cons_self).2
    show pairsOf ((itoa p.1 ++ 58 :: itoa p.2) :: r.map _) = _
    unfold pairsOf
    rw [h2, h1]
/-- A call that was read is written as the text. -/
theorem callR_inv {hd : List UInt8} {tl : List (List UInt8)} {c : Ca} (h : callR (hd :: tl) = .ok c) : ∃ i ns, opI ⟨hd.toArray⟩ = some i ∧ tl.length = (partsL i).length ∧ numsOf tl = some ns ∧ c = withL ⟨i, 0, 0, 0, 0⟩ (partsL i) ns := by
  unfold callR at h
  split at h
  · cases h
  · rename_i i hi
    split at h
    · rename_i hl
      split at h
      · rename_i ns hn
        cases h
        exact ⟨i, ns, hi, hl, hn, rfl⟩
      · cases h
    · cases h
theorem numsOf_three {x y z : List UInt8} {ms : List Int} (h : numsOf [x, y, z] = some ms) : ∃ a b d, numOf x = some a ∧ numOf y = some b ∧ numOf z = some d ∧ ms = [a, b, d] := by
  unfold numsOf at h
  split at h
  · rename_i n l h1 h2
    obtain ⟨a, b, h3, h4, rfl⟩ := numsOf_two h2
    cases h
    exact ⟨n, a, b, h1, h3, h4, rfl⟩
  · cases h
theorem wS_op {i : Nat} {hd : List UInt8} (h : opI ⟨hd.toArray⟩ = some i) : i < 15 ∧ wS i = hd := by
  obtain ⟨h1, h2⟩ := op_lt h
  have h4 : wordS (i : Int) = wordAt i := by unfold wordS; rw [if_pos (by omega)]; rfl
  refine ⟨h1, ?_⟩
  unfold wS
  rw [h4, h2]
theorem call_back {hd : List UInt8} {tl : List (List UInt8)} {c : Ca} (h : callR (hd :: tl) = .ok c) : callT c = joinL 32 (hd :: tl) ∧ (∀ p, I64 (partI c p)) ∧ 0 ≤ c.op ∧ c.op ≤ 14 := by
  obtain ⟨i, ns, h1, h2, h3, rfl⟩ := callR_inv h
  obtain ⟨hi, hw⟩ := wS_op h1
  rw [join_flat]
  have z : I64 0 := ⟨by decide, by decide⟩
  rcases op_ways (i : Int) with e | e | e | e | e | e | e | e | e | hh
  case inr.inr.inr.inr.inr.inr.inr.inr.inr =>
    have hN := partsL_none hh
    rw [hN] at h2 ⊢
    have ht : tl = [] := List.eq_nil_of_length_eq_zero h2
    subst ht
    refine ⟨?_, fun p => ?_, ?_, ?_⟩
    · show wS i ++ argT _ (partsL i) = _
      rw [hN, hw]; rfl
    · show I64 (partI ⟨i, 0, 0, 0, 0⟩ p)
      unfold partI; split <;> (try split) <;> (try split) <;> exact z
    · show (0 : Int) ≤ i; omega
    · show (i : Int) ≤ 14; omega
  all_goals
    have hp : ∃ ps, partsL (i : Int) = ps := ⟨_, rfl⟩
    rw [e] at h2 ⊢
    simp [partsL] at h2
  all_goals first
    | (obtain ⟨x, rfl⟩ : ∃ x, tl = [x] := by
         match tl, h2 with
         | [x], _ => exact ⟨x, rfl⟩
       obtain ⟨a, k1, rfl⟩ := numsOf_one h3
       refine ⟨?_, fun p => ?_, by simp [withL, partsL, withI], by simp [withL, partsL, withI]⟩
       · rw [← hw, e, ← numOf_text k1]; simp [callT, withL, partsL, withI, argT, partI]
       · have k := (numOf_is k1).1
         simp only [withL, partsL, withI, partI]
         simp
         split <;> (try split) <;> (try split) <;> first | exact k | exact z)
    | (obtain ⟨x, y, rfl⟩ : ∃ x y, tl = [x, y] := by
         match tl, h2 with
         | [x, y], _ => exact ⟨x, y, rfl⟩
       obtain ⟨a, b, k1, k2, rfl⟩ := numsOf_two h3
       refine ⟨?_, fun p => ?_, by simp [withL, partsL, withI], by simp [withL, partsL, withI]⟩
       · rw [← hw, e, ← numOf_text k1, ← numOf_text k2]; simp [callT, withL, partsL, withI, argT, partI]
       · have k := (numOf_is k1).1
         have k' := (numOf_is k2).1
         simp only [withL, partsL, withI, partI]
         simp
         split <;> (try split) <;> (try split) <;> first | exact k | exact k' | exact z)
    | (obtain ⟨x, y, u, rfl⟩ : ∃ x y u, tl = [x, y, u] := by
         match tl, h2 with
         | [x, y, u], _ => exact ⟨x, y, u, rfl⟩
       obtain ⟨a, b, d, k1, k2, k3, rfl⟩ := numsOf_three h3
       refine ⟨?_, fun p => ?_, by simp [withL, partsL, withI], by simp [withL, partsL, withI]⟩
       · rw [← hw, e, ← numOf_text k1, ← numOf_text k2, ← numOf_text k3]; simp [callT, withL, partsL, withI, argT, partI]
       · have k := (numOf_is k1).1
         have k' := (numOf_is k2).1
         have k'' := (numOf_is k3).1
         simp only [withL, partsL, withI, partI]
         simp
         split <;> (try split) <;> (try split) <;> first | exact k | exact k' | exact k'' | exact z)
/-- An answer that was read is written as the text. -/
structure AnI (a : An) : Prop where
  ps : Ints a.ps
  ak : I64 a.key
  av : I64 a.val
  an : I64 a.n
theorem answer_back {hd : List UInt8} {tl : List (List UInt8)} {a : An} (h : answerR (hd :: tl) = .ok a) : answerT a = joinL 32 (hd :: tl) ∧ AnI a ∧ 0 ≤ a.kind ∧ a.kind ≤ 8 := by
  have z : I64 0 := ⟨by decide, by decide⟩
  have zp : Ints [] := fun p hp => by cases hp
  cases hk : kdI ⟨hd.toArray⟩ with
  | none => rw [answerR_none hk] at h; cases h
  | some k =>
    rw [answerR_some hk] at h
    obtain ⟨k9, kw⟩ := kd_lt hk
    have hw : kS (k : Int) = hd := by
      have := kS_eq k9
      rw [kw] at this
      simpa using (congrArg (fun b : ByteArray => b.data.toList) this).symm
    rw [join_flat]
    by_cases h1 : k = 1
    · subst h1
      by_cases hl : tl.length = 2
      · obtain ⟨x, y, rfl⟩ : ∃ x y, tl = [x, y] := by
          match tl, hl with
          | [x, y], _ => exact ⟨x, y, rfl⟩
        cases ha : numOf x with
        | none => rw [tailR_1x ha] at h; cases h
        | some m =>
          cases hb : numOf y with
          | none => rw [tailR_1z hb] at h; cases h
          | some n =>
            rw [tailR_1y ha hb] at h
            cases h
            refine ⟨?_, ⟨zp, (numOf_is ha).1, (numOf_is hb).1, z⟩, of_decide_eq_true rfl, of_decide_eq_true rfl⟩
            rw [← hw, ← numOf_text ha, ← numOf_text hb]
            simp [answerT, restT]
      · rw [tailR_1n hl] at h; cases h
    · by_cases h2 : k = 2
      · subst h2
        by_cases hl : tl.length = 1
        · obtain ⟨x, rfl⟩ : ∃ x, tl = [x] := by
            match tl, hl with
            | [x], _ => exact ⟨x, rfl⟩
          cases ha : numOf x with
          | none => rw [tailR_2x ha] at h; cases h
          | some m =>
            rw [tailR_2y ha] at h
            cases h
            refine ⟨?_, ⟨zp, z, z, (numOf_is ha).1⟩, of_decide_eq_true rfl, of_decide_eq_true rfl⟩
            rw [← hw, ← numOf_text ha]
            simp [answerT, restT]
        · rw [tailR_2n hl] at h; cases h
      · by_cases h3 : k = 3
        · subst h3
          cases hp : pairsOf tl with
          | none => rw [tailR_3x hp] at h; cases h
          | some ps =>
            rw [tailR_3y hp] at h
            cases h
            obtain ⟨h4, h5⟩ := pairsOf_text hp
            refine ⟨?_, ⟨h5, z, z, z⟩, of_decide_eq_true rfl, of_decide_eq_true rfl⟩
            rw [h4, ← hw]
            simp [answerT, restT]
        · by_cases hl : tl.length = 0
          · have := List.eq_nil_of_length_eq_zero hl
            subst this
            rw [tailR_0 k h1 h2 h3] at h
            cases h
            have e1 : ¬ (k : Int) = 1 := by omega
            have e2 : ¬ (k : Int) = 2 := by omega
            have e3 : ¬ (k : Int) = 3 := by omega
            refine ⟨?_, ⟨zp, z, z, z⟩, (by show (0 : Int) ≤ k; omega), (by show (k : Int) ≤ 8; omega)⟩
            show (if 0 ≤ (k : Int) ∧ (k : Int) ≤ 8 then kS k ++ restT _ else []) = _
            rw [if_pos (by omega), hw]
            unfold restT
            simp only
            rw [if_neg e1, if_neg e2, if_neg e3]; rfl
          · rw [tailR_0n k h1 h2 h3 hl] at h; cases h
end Go.Proofs.YtdgplijnhkgeiaaDoor
