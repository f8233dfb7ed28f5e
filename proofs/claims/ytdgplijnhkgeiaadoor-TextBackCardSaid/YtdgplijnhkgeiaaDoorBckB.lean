/- Layer 35, back: histories; what is written is read (no program). -/
import Derived.Test.YtdgplijnhkgeiaaDoorBckA
namespace Go.Proofs.YtdgplijnhkgeiaaDoor
open Go.RowKit
open Go.Lib (cut itoa)
set_option linter.unusedVariables false
set_option linter.unusedSimpArgs false
theorem event_back : ∀ {ws : List (List UInt8)} {e : Ev}, eventW ws = .ok e → eventT e = joinL 32 ws ∧ EvI e
  | [], e, h => by cases h
  | [_], e, h => by cases h
  | [_, _], e, h => by cases h
  | f :: s :: r :: rr, e, h => by
    have z : I64 0 := ⟨by decide, by decide⟩
    rw [join_cons 32 f (by simp), join_cons 32 s (by simp)]
    rw [eventW_3] at h
    split at h
    · rename_i hf
      unfold evN at h
      split at h
      · cases h
      · rename_i t ht
        split at h
        · rename_i hb
          split at h
          · rename_i a ha
            cases h
            obtain ⟨k1, k2, _⟩ := answer_back ha
            refine ⟨?_, ⟨(numOf_is ht).1, z, z, z, z, k2.ak, k2.av, k2.an, k2.ps⟩⟩
            rw [hb, ← numOf_text ht, ← k1]; rfl
          · cases h
        · rename_i hb
          split at h
          · rename_i c hc
            cases h
            obtain ⟨k1, k2, _⟩ := call_back hc
            refine ⟨?_, ⟨(numOf_is ht).1, k2 0, k2 1, k2 2, k2 3, z, z, z, fun p hp => by cases hp⟩⟩
            rw [hf.resolve_right hb, ← numOf_text ht, ← k1]; rfl
          · cases h
    · cases h
theorem hist_back : ∀ (Ls : List (List UInt8)) (l : List Ev), histL Ls = .ok l → l.flatMap (fun e => eventT e ++ [10]) = joinL 10 Ls ∧ ∀ e ∈ l, EvI e
  | [], l, h => by
    have h : Except.ok [] = (Except.ok l : Except Int (List Ev)) := h
    cases h
    exact ⟨rfl, fun e he => by cases he⟩
  | [x], l, h => by
    by_cases hx : x = []
    · subst hx
      rw [hist_last0] at h
      cases h
      exact ⟨rfl, fun e he => by cases he⟩
    · cases he : eventW (splitL 32 x) with
      | error y => rw [hist_last_no hx he] at h; cases h
      | ok e => rw [hist_last_ok hx he] at h; cases h
  | x :: z :: r, l, h => by
    cases he : eventW (splitL 32 x) with
    | error y => rw [hist_no (by simp) he] at h; cases h
    | ok e =>
      have h2 := hist_ok [] (x := x) (r := z :: r) (by simp) he
      rw [preR_nil, h] at h2
      cases h3 : histL (z :: r) with
      | error y => rw [h3] at h2; cases h2
      | ok m =>
        rw [h3] at h2
        have h2 : Except.ok l = (Except.ok (e :: m) : Except Int (List Ev)) := h2
        cases h2
        obtain ⟨h4, h5⟩ := hist_back (z :: r) m h3
        obtain ⟨h6, h7⟩ := event_back he
        rw [join_split] at h6
        refine ⟨?_, fun e' he' => ?_⟩
        · rw [List.flatMap_cons, h4, h6, join_cons 10 x (by simp)]; simp
        · rcases List.mem_cons.1 he' with rfl | h8
          · exact h7
          · exact h5 e' h8
theorem histT_flat (l : List Ev) : histT (fun i => l.getD i zeroE) l.length = l.flatMap (fun e => eventT e ++ [10]) := by
  have e : (List.range l.length).map (fun i => l.getD i zeroE) = l := by
    apply List.ext_getElem?
    intro i
    rw [List.getElem?_map]
    by_cases hi : i < l.length
    · rw [List.getElem?_range hi, List.getElem?_eq_getElem hi]
      simp [List.getD_eq_getElem?_getD, List.getElem?_eq_getElem hi]
    · rw [List.getElem?_eq_none (by simpa using hi), List.getElem?_eq_none (by omega)]; rfl
  unfold histT
  conv => rhs; rw [← e]
  rw [List.flatMap_map]
/-- What is read as a history is written as just the same text. -/
theorem hist_text {s : List UInt8} {l : List Ev} (h : histL (splitL 10 s) = .ok l) : histT (fun i => l.getD i zeroE) l.length = s ∧ ∀ e ∈ l, EvI e := by
  obtain ⟨h1, h2⟩ := hist_back _ _ h
  rw [histT_flat, h1, join_split]
  exact ⟨rfl, h2⟩
theorem numsOf_map (f : Int → Int) : ∀ (l : List Int), (∀ p, I64 (f p)) → numsOf (l.map fun p => itoa (f p)) = some (l.map f)
  | [], _ => rfl
  | p :: r, h => by
    show numsOf (itoa (f p) :: r.map _) = _
    unfold numsOf
    rw [numOf_itoa (h p), numsOf_map f r h]
    rfl
theorem itoa_no32 (n : Int) : (32 : UInt8) ∉ itoa n := fun h => by have := itoa_no (n := n) (d := 32) (by decide) (.inl (by decide)) 32 h; simp at this
theorem word_no32 : ∀ i, i < 15 → (32 : UInt8) ∉ (wordAt i).data.toList := by decide +kernel
theorem kind_no32 : ∀ i, i < 9 → (32 : UInt8) ∉ (kindAt i).data.toList := by decide +kernel
/-- A call that was written is read. -/
theorem call_round {c : Ca} (hc : ∀ p, I64 (partI c p)) (h : callT c ≠ []) : ∃ c', callR (splitL 32 (callT c)) = .ok c' ∧ c'.op = c.op ∧ callT c' = callT c ∧ ∀ p, I64 (partI c' p) := by
  by_cases hop : 0 ≤ c.op ∧ c.op ≤ 14
  · obtain ⟨i, hi⟩ : ∃ i : Nat, c.op = i := ⟨c.op.toNat, by omega⟩
    have hi15 : i < 15 := by omega
    have hwl : wS c.op = (wordAt i).data.toList := by
      have h2 : wordS c.op = wordAt i := by unfold wordS; rw [if_pos hop, hi]; rfl
      unfold wS
      rw [h2]
    have hws : ⟨(wS c.op).toArray⟩ = wordAt i := by rw [hwl]
    have ht : callT c = joinL 32 (wS c.op :: (partsL c.op).map (fun p => itoa (partI c p))) := by
      rw [join_flat, List.flatMap_map]; rfl
    have hsp : splitL 32 (callT c) = wS c.op :: (partsL c.op).map (fun p => itoa (partI c p)) := by
      rw [ht]
      refine split_join 32 _ (by simp) fun x hx => ?_
      rcases List.mem_cons.1 hx with rfl | hx
      · rw [hwl]; exact word_no32 i hi15
      · obtain ⟨p, _, rfl⟩ := List.mem_map.1 hx
        exact itoa_no32 _
    have hr : callR (splitL 32 (callT c)) = .ok (withL ⟨i, 0, 0, 0, 0⟩ (partsL i) ((partsL c.op).map (partI c))) := by
      rw [hsp]
      exact callR_ok (by show opI ⟨(wS c.op).toArray⟩ = some i; rw [hws]; exact op_at hi15 rfl) (by rw [← hi]; simp) (by exact numsOf_map (partI c) _ hc)
    have hb := hr
    rw [hsp] at hb
    obtain ⟨h1, h2, _⟩ := call_back hb
    refine ⟨_, hr, by rw [withL_op]; exact hi.symm, ?_, h2⟩
    rw [h1, ← ht]
  · exfalso
    apply h
    unfold callT
    rw [wS_none hop, partsL_none (by omega)]; rfl
/-- An answer that was written is read. -/
theorem ans_round {a : An} (ha : AnI a) (h : answerT a ≠ []) : ∃ a', answerR (splitL 32 (answerT a)) = .ok a' ∧ a'.kind = a.kind ∧ answerT a' = answerT a ∧ AnI a' ∧ a'.ps.length ≤ a.ps.length := by
  by_cases hop : 0 ≤ a.kind ∧ a.kind ≤ 8
  · obtain ⟨k, hk⟩ : ∃ k : Nat, a.kind = k := ⟨a.kind.toNat, by omega⟩
    have hk9 : k < 9 := by omega
    have hws : ⟨(kS a.kind).toArray⟩ = kindAt k := by rw [hk]; exact (kS_eq hk9).symm
    have hwl : kS a.kind = (kindAt k).data.toList := by rw [← hws]
    have hn : (32 : UInt8) ∉ kS a.kind := by rw [hwl]; exact kind_no32 k hk9
    have hkd : kdI ⟨(kS a.kind).toArray⟩ = some k := by rw [hws]; exact kd_at hk9 rfl
    have fin : ∀ (tl : List (List UInt8)) (a' : An), answerT a = joinL 32 (kS a.kind :: tl) → (∀ x ∈ tl, (32 : UInt8) ∉ x) → tailR k tl = .ok a' → a'.kind = k → a'.ps.length ≤ a.ps.length →
        ∃ a', answerR (splitL 32 (answerT a)) = .ok a' ∧ a'.kind = a.kind ∧ answerT a' = answerT a ∧ AnI a' ∧ a'.ps.length ≤ a.ps.length := fun tl a' h1 h2 h3 h4 h5 => by
      have hsp : splitL 32 (answerT a) = kS a.kind :: tl := by
        rw [h1]
        refine split_join 32 _ (by simp) fun x hx => ?_
        rcases List.mem_cons.1 hx with rfl | hx
        · exact hn
        · exact h2 x hx
      have hr : answerR (splitL 32 (answerT a)) = .ok a' := by rw [hsp, answerR_some hkd]; exact h3
      have hb := hr
      rw [hsp] at hb
      obtain ⟨k1, k2, _⟩ := answer_back hb
      exact ⟨a', hr, by rw [h4, hk], by rw [k1, ← h1], k2, h5⟩
    have hT : answerT a = kS a.kind ++ restT a := by unfold answerT; rw [if_pos hop]
    obtain ⟨kind, key, val, n, ps⟩ := a
    simp only at hop hk hws hwl hn hkd fin hT
    by_cases h1 : k = 1
    · subst h1
      refine fin [itoa key, itoa val] _ ?_ (fun x hx => by
        rcases List.mem_cons.1 hx with rfl | hx
        · exact itoa_no32 _
        · rw [List.mem_singleton.1 hx]; exact itoa_no32 _) (tailR_1y (numOf_itoa ha.ak) (numOf_itoa ha.av)) rfl (Nat.zero_le _)
      rw [join_flat, hT]; unfold restT; simp only; rw [if_pos (by omega)]; simp
    · by_cases h2 : k = 2
      · subst h2
        refine fin [itoa n] _ ?_ (fun x hx => by rw [List.mem_singleton.1 hx]; exact itoa_no32 _) (tailR_2y (numOf_itoa ha.an)) rfl (Nat.zero_le _)
        rw [join_flat, hT]; unfold restT; simp only; rw [if_neg (by omega), if_pos (by omega)]; simp
      · by_cases h3 : k = 3
        · subst h3
          refine fin (ps.map fun p => itoa p.1 ++ 58 :: itoa p.2) _ ?_ (fun x hx => by
            obtain ⟨p, _, rfl⟩ := List.mem_map.1 hx
            intro hm
            rcases List.mem_append.1 hm with hm | hm
            · exact itoa_no32 _ hm
            · rcases List.mem_cons.1 hm with hm | hm
              · revert hm; decide
              · exact itoa_no32 _ hm) (tailR_3y (pairsOf_map ha.ps)) rfl (Nat.le_refl _)
          rw [join_flat, List.flatMap_map, hT]; unfold restT; simp only; rw [if_neg (by omega), if_neg (by omega), if_pos (by omega)]; rfl
        · refine fin [] _ ?_ (fun x hx => by cases hx) (tailR_0 k h1 h2 h3) rfl (Nat.zero_le _)
          rw [join_flat, hT]; unfold restT; simp only; rw [if_neg (by omega), if_neg (by omega), if_neg (by omega)]; simp
  · exfalso
    apply h
    unfold answerT
    rw [if_neg hop]
end Go.Proofs.YtdgplijnhkgeiaaDoor
