/- Layer 10: what other keys' calls leave; what a cursor reads. -/
import Derived.Test.YtcbdbfmlkkpndaaModY
namespace Go.Proofs.Ytcbdbfmlkkpndaa
open Go.RowKit
set_option linter.unusedVariables false
set_option linter.unusedSimpArgs false
theorem at_get {l : PL} {i : Nat} (hi : i < l.length) : (ky l i, vl l i) ∈ l := by
  rw [← ky_get hi]; exact List.getElem_mem hi
theorem at_iff {l : PL} (hr : riseB l = true) {k : Int} {p : Int × Int} : atL l k = some p ↔ p ∈ l ∧ p.1 = k := by
  have ha := here_at hr k
  unfold atL
  constructor
  · intro h
    split at h
    · rename_i hh
      rw [hh] at ha
      simp only [Bool.true_eq, Bool.and_eq_true, decide_eq_true_eq, beq_iff_eq] at ha
      simp only [Option.some.injEq] at h
      subst h
      exact ⟨at_get ha.1, ha.2⟩
    · cases h
  · rintro ⟨hm, hk⟩
    obtain ⟨j, hj, hp⟩ := List.mem_iff_getElem.1 hm
    have hpj := (ky_get hj).symm.trans hp
    have hkj : ky l j = k := by rw [← hk, ← hpj]
    have hh : hereB l k = true := here_iff.2 ⟨j, hj, hkj⟩
    rw [if_pos hh]
    rw [hh] at ha
    simp only [Bool.true_eq, Bool.and_eq_true, decide_eq_true_eq, beq_iff_eq] at ha
    have e : lbN l k = j := by
      rcases (by omega : lbN l k < j ∨ lbN l k = j ∨ j < lbN l k) with h | h | h
      · have := rise_lt hr h hj; omega
      · exact h
      · have := rise_lt hr h ha.1; omega
    rw [e, hpj]
theorem at_ext {l m : PL} (hl : riseB l = true) (hm : riseB m = true) {k : Int} (h : ∀ p : Int × Int, p.1 = k → (p ∈ l ↔ p ∈ m)) : atL l k = atL m k := by
  apply Option.ext
  intro p
  rw [at_iff hl, at_iff hm]
  constructor
  · rintro ⟨h1, h2⟩; exact ⟨(h p h2).1 h1, h2⟩
  · rintro ⟨h1, h2⟩; exact ⟨(h p h2).2 h1, h2⟩
theorem put_mem2 {l : PL} {p q : Int × Int} (h : q ∈ l) : q ∈ putL l p := by
  unfold putL
  split
  · exact h
  · rw [List.mem_append, List.mem_append]
    have h' : q ∈ l.take (lbN l p.1) ++ l.drop (lbN l p.1) := by rw [List.take_append_drop]; exact h
    rcases List.mem_append.1 h' with h' | h'
    · exact .inl (.inl h')
    · exact .inr h'
theorem at_put {l : PL} (hr : riseB l = true) {p : Int × Int} {k : Int} (h : p.1 ≠ k) : atL (putL l p) k = atL l k :=
  at_ext (put_rise hr) hr fun q hq => ⟨fun hm => by
    rcases put_mem hm with e | e
    · exact absurd (e ▸ hq) h
    · exact e, put_mem2⟩
theorem drop_mem {l : PL} (hr : riseB l = true) {k : Int} {q : Int × Int} (h : q ∈ l) (hq : q.1 ≠ k) : q ∈ dropL l k := by
  unfold dropL
  split
  · rename_i hh
    have ha := here_at hr k
    rw [hh] at ha
    simp only [Bool.true_eq, Bool.and_eq_true, decide_eq_true_eq, beq_iff_eq] at ha
    obtain ⟨j, hj, hp⟩ := List.mem_iff_getElem.1 h
    have hne : j ≠ lbN l k := by
      rintro rfl
      exact hq (by rw [← hp, ky_get hj]; exact ha.2)
    rw [List.mem_append]
    rcases (by omega : j < lbN l k ∨ lbN l k + 1 ≤ j) with h1 | h1
    · left; rw [← hp]
      exact List.mem_take_iff_getElem.2 ⟨j, by omega, rfl⟩
    · right; rw [← hp]
      exact List.mem_drop_iff_getElem.2 ⟨j - (lbN l k + 1), by omega, by congr 1; omega⟩
  · exact h
theorem drop_rise {l : PL} (hr : riseB l = true) (k : Int) : riseB (dropL l k) = true := rise_sub (drop_sub l k) hr
theorem at_drop {l : PL} (hr : riseB l = true) {k k' : Int} (h : k' ≠ k) : atL (dropL l k') k = atL l k :=
  at_ext (drop_rise hr k') hr fun q hq => ⟨fun hm => (drop_sub l k').subset hm, fun hm => drop_mem hr hm (by rw [hq]; exact Ne.symm h)⟩
/-- What is put in is found. -/
theorem at_put_new {l : PL} (hr : riseB l = true) {k v : Int} (h : hereB l k = false) : atL (putL l (k, v)) k = some (k, v) := by
  rw [at_iff (put_rise hr)]
  refine ⟨?_, rfl⟩
  rw [putL_new (p := (k, v)) h]
  simp
theorem at_put_old {l : PL} {k v : Int} (h : hereB l k = true) : atL (putL l (k, v)) k = atL l k := by rw [putL_old (p := (k, v)) h]
/-- Who other than thread 0 calls, with another key. -/
theorem doA_other {st : Sm} (hr : riseB st.mp = true) {t : Int} {c : Ca} {key : Int} (ht : t ≠ 0) (hk : c.key ≠ key) : (doA st t c).1.th 0 = st.th 0 ∧ atL (doA st t c).1.mp key = atL st.mp key := by
  unfold doA
  split
  · exact ⟨rfl, rfl⟩
  rename_i hb
  have hb' : badB st.n st.th t c = false := by simpa using hb
  obtain ⟨⟨h0, _⟩, _⟩ := bad_parts hb'
  split
  · exact ⟨rfl, at_put hr hk⟩
  split
  · exact ⟨rfl, at_drop hr hk⟩
  split
  · exact ⟨rfl, rfl⟩
  split
  · exact ⟨rfl, rfl⟩
  split
  · exact ⟨rfl, rfl⟩
  · refine ⟨?_, rfl⟩
    simp only [updT]
    rw [if_neg (by omega)]
theorem bad0 {st : Sm} (hn : 0 < st.n) (hj : (st.th 0).j = true) {c : Ca} (hm : mayB c.op c.key c.hi c.lim = true) (hc : c.op < 9) : badB st.n st.th 0 c = false := by
  unfold badB badS
  have h1 : decide ((0 : Int) ≤ 0 ∧ (0 : Int) < st.n) = true := by simp; omega
  have h2 : (c.op == 13) = false := by rw [beq_eq_false_iff_ne]; omega
  rw [h1, hm]
  simp only [Int.toNat_zero, hj, h2]
  rw [if_neg (by omega), if_neg (by omega)]
  rfl
theorem do_look {st : Sm} (hn : 0 < st.n) (hj : (st.th 0).j = true) (key : Int) : doA st 0 ⟨2, key, 0, 0, 0⟩ = (st, foundA (atL st.mp key)) := by
  have hb := bad0 hn hj (c := ⟨2, key, 0, 0, 0⟩) (by simp [mayB]) (by simp)
  unfold doA
  rw [if_neg (by rw [hb]; decide)]
  rfl
theorem do_ins {st : Sm} (hn : 0 < st.n) (hj : (st.th 0).j = true) (key val : Int) : doA st 0 ⟨0, key, val, 0, 0⟩ = ({ st with mp := putL st.mp (key, val) }, if hereB st.mp key = true then ⟨5, 0, 0, 0, []⟩ else ⟨0, 0, 0, 0, []⟩) := by
  have hb := bad0 hn hj (c := ⟨0, key, val, 0, 0⟩) (by simp [mayB]) (by simp)
  unfold doA
  rw [if_neg (by rw [hb]; decide)]
  rfl
theorem do_range {st : Sm} (hn : 0 < st.n) (hj : (st.th 0).j = true) : doA st 0 ⟨3, -9223372036854775808, 0, 9223372036854775807, 1000⟩ = (st, ⟨3, 0, 0, 0, cutL st.mp (-9223372036854775808) 9223372036854775807 1000⟩) := by
  have hb := bad0 hn hj (c := ⟨3, -9223372036854775808, 0, 9223372036854775807, 1000⟩) (by simp [mayB]) (by simp)
  unfold doA
  rw [if_neg (by rw [hb]; decide)]
  rfl
theorem do_open {st : Sm} (hn : 0 < st.n) (hj : (st.th 0).j = true) (ho : (st.th 0).o = false) : doA st 0 ⟨9, -9223372036854775808, 0, 9223372036854775807, 0⟩ = ({ st with th := updT st.th 0 ⟨true, true, cutL st.mp (-9223372036854775808) 9223372036854775807 9223372036854775807, 0⟩ }, ⟨0, 0, 0, 0, []⟩) := by
  have hb : badB st.n st.th 0 ⟨9, -9223372036854775808, 0, 9223372036854775807, 0⟩ = false := by
    unfold badB badS
    have h1 : decide ((0 : Int) ≤ 0 ∧ (0 : Int) < st.n) = true := by simp; omega
    have h2 : mayB 9 (-9223372036854775808) 9223372036854775807 0 = true := by decide
    simp only [Int.toNat_zero, h1, h2, hj, ho]
    rfl
  unfold doA
  rw [if_neg (by rw [hb]; decide)]
  rfl
theorem do_next {st : Sm} (hn : 0 < st.n) {fz : PL} {i : Nat} (hs : st.th 0 = ⟨true, true, fz, i⟩) : doA st 0 ⟨10, 0, 0, 0, 0⟩ = if i < fz.length then ({ st with th := updT st.th 0 ⟨true, true, fz, ((i + 1 : Nat) : Int)⟩ }, ⟨1, ky fz i, vl fz i, 0, []⟩) else ({ st with th := updT st.th 0 (st.th 0) }, ⟨4, 0, 0, 0, []⟩) := by
  have hb : badB st.n st.th 0 ⟨10, 0, 0, 0, 0⟩ = false := by
    unfold badB badS
    have h1 : decide ((0 : Int) ≤ 0 ∧ (0 : Int) < st.n) = true := by simp; omega
    have h2 : mayB 10 0 0 0 = true := by decide
    simp only [Int.toNat_zero, h1, h2, hs]
    rfl
  unfold doA
  rw [if_neg (by rw [hb]; decide)]
  simp only [sesA, Int.toNat_zero, hs]
  by_cases h : i < fz.length
  · have h' : (i : Int) < fz.length := by omega
    simp [h, h']
  · have h' : ¬ (i : Int) < fz.length := by omega
    simp [h, h']
/-- Closed if it is open, joined if it isn't: thread 0 is joined, and its cursor is closed. -/
theorem do_ready {st : Sm} (hn : 0 < st.n) : ((doA (doA st 0 ⟨12, 0, 0, 0, 0⟩).1 0 ⟨13, 0, 0, 0, 0⟩).1.th 0).j = true ∧ ((doA (doA st 0 ⟨12, 0, 0, 0, 0⟩).1 0 ⟨13, 0, 0, 0, 0⟩).1.th 0).o = false := by
  have h1 : decide ((0 : Int) ≤ 0 ∧ (0 : Int) < st.n) = true := by simp; omega
  have h2 : mayB 12 0 0 0 = true := by decide
  have h3 : mayB 13 0 0 0 = true := by decide
  have hx : ∀ s : Se, st.th 0 = s → badB st.n st.th 0 ⟨12, 0, 0, 0, 0⟩ = badS s 12 := fun s hs => by
    unfold badB; simp only [Int.toNat_zero, h1, h2, hs]; rfl
  rcases hs : st.th 0 with ⟨j, o, fz, pt⟩
  have hb := hx _ hs
  cases hj : badS ⟨j, o, fz, pt⟩ 12 with
  | true =>
    have e1 : (doA st 0 ⟨12, 0, 0, 0, 0⟩).1 = st := by unfold doA; rw [if_pos (by rw [hb, hj])]
    rw [e1]
    have hy : badB st.n st.th 0 ⟨13, 0, 0, 0, 0⟩ = badS ⟨j, o, fz, pt⟩ 13 := by unfold badB; simp only [Int.toNat_zero, h1, h3, hs]; rfl
    cases j with
    | true =>
      have e2 : (doA st 0 ⟨13, 0, 0, 0, 0⟩).1 = st := by unfold doA; rw [if_pos (by rw [hy]; rfl)]
      rw [e2, hs]
      refine ⟨rfl, ?_⟩
      cases o
      · rfl
      · exact absurd hj (by simp [badS])
    | false =>
      have e2 : (doA st 0 ⟨13, 0, 0, 0, 0⟩).1.th 0 = ⟨true, false, [], 0⟩ := by
        unfold doA; rw [if_neg (by rw [hy]; simp [badS])]
        rfl
      rw [e2]; exact ⟨rfl, rfl⟩
  | false =>
    have e1 : (doA st 0 ⟨12, 0, 0, 0, 0⟩).1 = { st with th := updT st.th 0 ⟨true, false, [], 0⟩ } := by
      unfold doA; rw [if_neg (by rw [hb, hj]; decide)]; rfl
    rw [e1]
    have e2 : (doA { st with th := updT st.th 0 ⟨true, false, [], 0⟩ } 0 ⟨13, 0, 0, 0, 0⟩).1 = { st with th := updT st.th 0 ⟨true, false, [], 0⟩ } := by
      unfold doA
      rw [if_pos]
      unfold badB
      simp only [Int.toNat_zero, h1, h3]
      rfl
    rw [e2]
    exact ⟨rfl, rfl⟩
theorem cut_all {l : PL} (hl : l.length ≤ 1000) (lo hi : Int) : cutL l lo hi 9223372036854775807 = cutL l lo hi 1000 := by
  unfold cutL
  have h : (betw l lo hi).length ≤ 1000 := by
    unfold betw
    exact Nat.le_trans (List.length_filter_le _ _) hl
  rw [List.take_of_length_le (by simp; omega), List.take_of_length_le (by simp; omega)]
end Go.Proofs.Ytcbdbfmlkkpndaa
