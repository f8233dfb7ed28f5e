/- Layer 10: what all states keep; lives. -/
import Derived.Test.YtopjnoglbncnhaaModS
import Derived.Test.YtopjnoglbncnhaaModQ
namespace Go.Proofs.Ytopjnoglbncnhaa
open Go.RowKit
set_option linter.unusedVariables false
set_option linter.unusedSimpArgs false
theorem put_ky {l : PL} {p : Int × Int} (h : hereB l p.1 = false) (i : Nat) : ky (putL l p) i = (if i < lbN l p.1 then ky l i else if i = lbN l p.1 then p.1 else ky l (i - 1)) := by
  have hle := lbN_le l p.1
  have hl : (l.take (lbN l p.1)).length = lbN l p.1 := by simp; omega
  rw [putL_new h, List.append_assoc]
  by_cases h1 : i < lbN l p.1
  · rw [if_pos h1, ky_app_l (by omega), ky_take h1]
  · rw [if_neg h1, ky_app_r (by omega), hl]
    by_cases h2 : i = lbN l p.1
    · rw [if_pos h2, h2, Nat.sub_self]; rfl
    · rw [if_neg h2, ky_app_r (by simp; omega), ky_drop]
      have : lbN l p.1 + (i - lbN l p.1 - [p].length) = i - 1 := by simp; omega
      rw [this]
theorem put_length {l : PL} {p : Int × Int} (h : hereB l p.1 = false) : (putL l p).length = l.length + 1 := by
  have hle := lbN_le l p.1
  rw [putL_new h]; simp; omega
theorem put_rise {l : PL} {p : Int × Int} (hr : riseB l = true) : riseB (putL l p) = true := by
  cases h : hereB l p.1
  · obtain ⟨s1, s2⟩ := lbN_spec hr p.1
    have ha := here_at hr p.1
    rw [h] at ha
    refine rise_of fun i hi => ?_
    rw [put_length h] at hi
    rw [put_ky h i, put_ky h (i + 1)]
    rcases (by omega : i + 1 < lbN l p.1 ∨ i + 1 = lbN l p.1 ∨ i = lbN l p.1 ∨ lbN l p.1 < i) with h1 | h1 | h1 | h1
    · rw [if_pos (by omega), if_pos h1]; exact rise_next hr (by have := lbN_le l p.1; omega)
    · rw [if_pos (by omega), if_neg (by omega), if_pos h1]; exact s1 i (by omega)
    · rw [if_neg (by omega), if_pos h1, if_neg (by omega), if_neg (by omega)]
      have h2 := s2 (i + 1 - 1) (by omega) (by omega)
      rcases (by omega : p.1 = ky l (i + 1 - 1) ∨ p.1 < ky l (i + 1 - 1)) with e | e
      · rw [show i + 1 - 1 = lbN l p.1 by omega] at e
        rw [← e] at ha
        simp at ha
        omega
      · exact e
    · rw [if_neg (by omega), if_neg (by omega), if_neg (by omega), if_neg (by omega)]
      exact rise_lt hr (by omega) (by omega)
  · unfold putL; rw [h]; exact hr
theorem rise_pw {l : PL} : riseB l = true ↔ l.Pairwise (fun a b => a.1 < b.1) := by
  rw [List.pairwise_iff_getElem]
  constructor
  · intro h i j hi hj hij
    rw [ky_get hi, ky_get hj]; exact rise_lt h hij hj
  · intro h
    refine rise_of fun i hi => ?_
    have := h i (i + 1) (by omega) hi (by omega)
    rw [ky_get (by omega), ky_get hi] at this; exact this
theorem rise_sub {l k : PL} (s : k.Sublist l) (h : riseB l = true) : riseB k = true := rise_pw.2 ((rise_pw.1 h).sublist s)
/-- The keys are numbers of 64 bits. -/
def KeysIn (l : PL) : Prop := ∀ p ∈ l, -9223372036854775808 ≤ p.1 ∧ p.1 ≤ 9223372036854775807
theorem KeysIn.ky {l : PL} (h : KeysIn l) (k : Nat) (hk : k < l.length) : -9223372036854775808 ≤ ky l k ∧ ky l k ≤ 9223372036854775807 := by
  have := h _ (List.getElem_mem hk)
  rw [ky_get hk] at this; exact this
theorem drop_sub (l : PL) (k : Int) : (dropL l k).Sublist l := by
  unfold dropL
  split
  · have h1 : (l.drop (lbN l k + 1)).Sublist (l.drop (lbN l k)) := by
      rw [← List.drop_drop]; exact List.drop_sublist _ _
    have := (List.Sublist.refl (l.take (lbN l k))).append h1
    rwa [List.take_append_drop] at this
  · exact List.Sublist.refl _
theorem cut_sub (l : PL) (lo hi limit : Int) : (cutL l lo hi limit).Sublist l := (List.take_sublist _ _).trans List.filter_sublist
theorem put_mem {l : PL} {p q : Int × Int} (h : q ∈ putL l p) : q = p ∨ q ∈ l := by
  unfold putL at h
  split at h
  · exact .inr h
  · rw [List.mem_append, List.mem_append, List.mem_singleton] at h
    rcases h with (h | h) | h
    · exact .inr (List.mem_of_mem_take h)
    · exact .inl h
    · exact .inr (List.mem_of_mem_drop h)
/-- What a state keeps behind so many calls. -/
structure OkN (m : Nat) (st : Sm) : Prop where
  mr : riseB st.mp = true
  ml : st.mp.length ≤ m
  ki : KeysIn st.mp
  n6 : st.n ≤ 6
  fr : ∀ i, riseB (st.th i).fz = true
  fl : ∀ i, (st.th i).fz.length ≤ m
  p0 : ∀ i, 0 ≤ (st.th i).pt
  p1 : ∀ i, (st.th i).pt ≤ (st.th i).fz.length
theorem OkN.ok {m : Nat} {st : Sm} (h : OkN m st) (hm : m ≤ 5000) : OkS st :=
  ⟨h.mr, Nat.le_trans h.ml hm, fun k hk => h.ki.ky k hk, h.n6, h.fr, fun i => Nat.le_trans (h.fl i) hm, h.p0, h.p1⟩
theorem OkN.more {m : Nat} {st : Sm} (h : OkN m st) : OkN (m + 1) st :=
  ⟨h.mr, by have := h.ml; omega, h.ki, h.n6, h.fr, fun i => by have := h.fl i; omega, h.p0, h.p1⟩
theorem OkN.new (n : Nat) (hn : n ≤ 6) : OkN 0 ⟨[], n, fun _ => s0⟩ :=
  ⟨(by decide : riseB [] = true), Nat.le_refl _, (fun p hp => by cases hp), hn, fun _ => (by decide : riseB [] = true), fun _ => Nat.le_refl _, fun _ => Int.le_refl _, fun _ => Int.le_refl _⟩
theorem ses_ok {m : Nat} {st : Sm} (h : OkN m st) (i : Nat) (c : Ca) : riseB (sesA st i c).1.fz = true ∧ (sesA st i c).1.fz.length ≤ m ∧ 0 ≤ (sesA st i c).1.pt ∧ (sesA st i c).1.pt ≤ (sesA st i c).1.fz.length := by
  have e0 : ∀ b o, riseB (⟨b, o, [], 0⟩ : Se).fz = true ∧ (⟨b, o, [], 0⟩ : Se).fz.length ≤ m ∧ 0 ≤ (⟨b, o, [], 0⟩ : Se).pt ∧ (⟨b, o, [], 0⟩ : Se).pt ≤ (⟨b, o, [], 0⟩ : Se).fz.length := fun b o => ⟨(by decide : riseB [] = true), Nat.zero_le _, Int.le_refl _, Int.le_refl _⟩
  unfold sesA
  split
  · exact e0 _ _
  split
  · exact e0 _ _
  split
  · have hs := cut_sub st.mp c.key c.hi 9223372036854775807
    exact ⟨rise_sub hs h.mr, Nat.le_trans hs.length_le h.ml, Int.le_refl _, by simp⟩
  split
  · refine ⟨h.fr i, h.fl i, by simp, ?_⟩
    have := lbN_le (st.th i).fz c.key
    simp; omega
  split
  · exact e0 _ _
  split
  · refine ⟨h.fr i, h.fl i, ?_, ?_⟩
    · have := h.p0 i; (try simp only); omega
    · (try simp only); omega
  · exact ⟨h.fr i, h.fl i, h.p0 i, h.p1 i⟩
theorem OkN.call {m : Nat} {st : Sm} (h : OkN m st) (t : Int) (c : Ca) (hk : -9223372036854775808 ≤ c.key ∧ c.key ≤ 9223372036854775807) : OkN (m + 1) (doA st t c).1 := by
  unfold doA
  split
  · exact h.more
  split
  · refine ⟨put_rise h.mr, ?_, ?_, h.n6, h.fr, fun i => by have := h.fl i; (try simp only); omega, h.p0, h.p1⟩
    · have := h.ml
      cases hh : hereB st.mp (c.key, c.val).1
      · simp only; rw [put_length hh]; omega
      · simp only; unfold putL; rw [hh]; simp; omega
    · intro p hp
      rcases put_mem hp with e | e
      · rw [e]; exact hk
      · exact h.ki p e
  split
  · have hs := drop_sub st.mp c.key
    exact ⟨rise_sub hs h.mr, by have := hs.length_le; have := h.ml; (try simp only); omega, fun p hp => h.ki p (hs.subset hp), h.n6, h.fr, fun i => by have := h.fl i; (try simp only); omega, h.p0, h.p1⟩
  split
  · exact h.more
  split
  · exact h.more
  split
  · exact h.more
  · have hf := ses_ok h t.toNat c
    refine ⟨h.mr, by have := h.ml; (try simp only); omega, h.ki, h.n6, fun i => ?_, fun i => ?_, fun i => ?_, fun i => ?_⟩
    all_goals
      simp only [updT]
      split
    · exact hf.1
    · exact h.fr i
    · have := hf.2.1; omega
    · have := h.fl i; omega
    · exact hf.2.2.1
    · exact h.p0 i
    · exact hf.2.2.2
    · exact h.p1 i
theorem doA_n (st : Sm) (t : Int) (c : Ca) : (doA st t c).1.n = st.n := by
  unfold doA
  repeat' split
  all_goals rfl
def l0 : Sm := ⟨[], 1, fun _ => s0⟩
def l1 : Sm := (doA l0 0 ⟨13, 0, 0, 0, 0⟩).1
def l2 : Sm := (doA l1 0 ⟨0, 5, 1, 0, 0⟩).1
def l3 : Sm := (doA l2 0 ⟨2, 5, 0, 0, 0⟩).1
theorem heap2 (w : World) (a b : Obj) : let U := (w.alloc a).alloc b
    U.heap[w.heap.size]? = some a ∧ U.heap[w.heap.size + 1]? = some b := by
  intro U
  have s1 : (w.alloc a).heap.size = w.heap.size + 1 := by simp
  have n1 := heap_alloc_new (w.alloc a) b
  rw [s1] at n1
  exact ⟨(Below.heap_alloc _ _ _ (by omega)).trans (heap_alloc_new w a), n1⟩
theorem la1 : (doA l0 0 ⟨13, 0, 0, 0, 0⟩).2 = ⟨0, 0, 0, 0, []⟩ := by rfl
theorem la2 : (doA l1 0 ⟨0, 5, 1, 0, 0⟩).2 = ⟨0, 0, 0, 0, []⟩ := by rfl
theorem la3 : (doA l2 0 ⟨2, 5, 0, 0, 0⟩).2 = ⟨1, 5, 1, 0, []⟩ := by rfl
end Go.Proofs.Ytopjnoglbncnhaa
