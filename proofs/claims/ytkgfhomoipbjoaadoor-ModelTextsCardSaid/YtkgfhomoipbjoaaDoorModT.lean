/- Layer 10: what all states keep; lives. -/
import Derived.Test.YtkgfhomoipbjoaaDoorModS
import Derived.Test.YtkgfhomoipbjoaaDoorModQ
namespace Go.Proofs.YtkgfhomoipbjoaaDoor
open Go.RowKit
set_option linter.unusedVariables false
set_option linter.unusedSimpArgs false
theorem put_ky {l : PL} {p : Int × Int} (h : hereB l p.1 = false) (i : Nat) : ky (putL l p) i = (if i < lbN l p.1 then ky l i else if i = lbN l p.1 then p.1 else ky l (i - 1)) := by
  have hle := lbN_le l p.1
  have hl : (l.take (lbN l p.1)).length = lbN l p.1 := by simp; omega
  rw [putL_new h, List.append_assoc]
  by_cases h1 : i < lbN l p.1
  · rw [if_pos h1, ky_app_l (by omega), ky_take h1]
  · rw [if_neg h1, ky_app_r (by omega), hl]
    by_cases h2 : i = lbN l p.1
    · rw [if_pos h2, h2, Nat.sub_self]; rfl
    · rw [if_neg h2, ky_app_r (by simp; omega), ky_drop]
      have : lbN l p.1 + (i - lbN l p.1 - [p].length) = i - 1 := by simp; omega
      rw [this]
theorem put_length {l : PL} {p : Int × Int} (h : hereB l p.1 = false) : (putL l p).length = l.length + 1 := by
  have hle := lbN_le l p.1
  rw [putL_new h]; simp; omega
theorem put_rise {l : PL} {p : Int × Int} (hr : riseB l = true) : riseB (putL l p) = true := by
  cases h : hereB l p.1
  · obtain ⟨s1, s2⟩ := lbN_spec hr p.1
    have ha := here_at hr p.1
    rw [h] at ha
    refine rise_of fun i hi => ?_
    rw [put_length h] at hi
    rw [put_ky h i, put_ky h (i + 1)]
    rcases (by omega : i + 1 < lbN l p.1 ∨ i + 1 = lbN l p.1 ∨ i = lbN l p.1 ∨ lbN l p.1 < i) with h1 | h1 | h1 | h1
    · rw [if_pos (by omega), if_pos h1]; exact rise_next hr (by have := lbN_le l p.1; omega)
    · rw [if_pos (by omega), if_neg (by omega), if_pos h1]; exact s1 i (by omega)
    · rw [if_neg (by omega), if_pos h1, if_neg (by omega), if_neg (by omega)]
      have h2 := s2 (i + 1 - 1) (by omega) (by omega)
      rcases (by omega : p.1 = ky l (i + 1 - 1) ∨ p.1 < ky l (i + 1 - 1)) with e | e
      · rw [show i + 1 - 1 = lbN l p.1 by omega] at e
        rw [← e] at ha
        simp at ha
        omega
      · exact e
    · rw [if_neg (by omega), if_neg (by omega), if_neg (by omega), if_neg (by omega)]
      exact rise_lt hr (by omega) (by omega)
  · unfold putL; rw [h]; exact hr
theorem rise_pw {l : PL} : riseB l = true ↔ l.Pairwise (fun a b => a.1 < b.1) := by
  rw [List.pairwise_iff_getElem]
  constructor
  · intro h i j hi hj hij
    rw [ky_get hi, ky_get hj]; exact rise_lt h hij hj
  · intro h
    refine rise_of fun i hi => ?_
    have := h i (i + 1) (by omega) hi (by omega)
    rw [ky_get (by omega), ky_get hi] at this; exact this
theorem rise_sub {l k : PL} (s : k.Sublist l) (h : riseB l = true) : riseB k = true := rise_pw.2 ((rise_pw.1 h).sublist s)
/-- The keys are numbers of 64 bits. -/
def KeysIn (l : PL) : Prop := ∀ p ∈ l, -9223372036854775808 ≤ p.1 ∧ p.1 ≤ 9223372036854775807
theorem KeysIn.ky {l : PL} (h : KeysIn l) (k : Nat) (hk : k < l.length) : -9223372036854775808 ≤ ky l k ∧ ky l k ≤ 9223372036854775807 := by
  have := h _ (List.getElem_mem hk)
  rw [ky_get hk] at this; exact this
theorem drop_sub (l : PL) (k : Int) : (dropL l k).Sublist l := by
  unfold dropL
  split
  · have h1 : (l.drop (lbN l k + 1)).Sublist (l.drop (lbN l k)) := by
      rw [← List.drop_drop]; exact List.drop_sublist _ _
    have := (List.Sublist.refl (l.take (lbN l k))).append h1
    rwa [List.take_append_drop] at this
  · exact List.Sublist.refl _
theorem cut_sub (l : PL) (lo hi limit : Int) : (cutL l lo hi limit).Sublist l := (List.take_sublist _ _).trans List.filter_sublist
theorem put_mem {l : PL} {p q : Int × Int} (h : q ∈ putL l p) : q = p ∨ q ∈ l := by
  unfold putL at h
  split at h
  · exact .inr h
  · rw [List.mem_append, List.mem_append, List.mem_singleton] at h
    rcases h with (h | h) | h
    · exact .inr (List.mem_of_mem_take h)
    · exact .inl h
    · exact .inr (List.mem_of_mem_drop h)
/-- What a state keeps behind so many calls. -/
structure OkN (m : Nat) (st : Sm) : Prop where
  mr : riseB st.mp = true
  ml : st.mp.length ≤ m
  ki : KeysIn st.mp
  n6 : st.n ≤ 6
  fr : ∀ i, riseB (st.th i).fz = true
  fl : ∀ i, (st.th i).fz.length ≤ m
  p0 : ∀ i, 0 ≤ (st.th i).pt
  p1 : ∀ i, (st.th i).pt ≤ (st.th i).fz.length
theorem OkN.ok {m : Nat} {st : Sm} (h : OkN m st) (hm : m ≤ 5000) : OkS st :=
  ⟨h.mr, Nat.le_trans h.ml hm, fun k hk => h.ki.ky k hk, h.n6, h.fr, fun i => Nat.le_trans (h.fl i) hm, h.p0, h.p1⟩
theorem OkN.more {m : Nat} {st : Sm} (h : OkN m st) : OkN (m + 1) st :=
  ⟨h.mr, by have := h.ml; omega, h.ki, h.n6, h.fr, fun i => by have := h.fl i; omega, h.p0, h.p1⟩
theorem OkN.new (n : Nat) (hn : n ≤ 6) : OkN 0 ⟨[], n, fun _ => s0⟩ :=
  ⟨(by decide : riseB [] = true), Nat.le_refl _, (fun p hp => by cases hp), hn, fun _ => (by decide : riseB [] = true), fun _ => Nat.le_refl _, fun _ => Int.le_refl _, fun _ => Int.le_refl _⟩
theorem ses_ok {m : Nat} {st : Sm} (h : OkN m st) (i : Nat) (c : Ca) : riseB (sesA st i c).1.fz = true ∧ (sesA st i c).1.fz.length ≤ m ∧ 0 ≤ (sesA st i c).1.pt ∧ (sesA st i c).1.pt ≤ (sesA st i c).1.fz.length := by
  have e0 : ∀ b o, riseB (⟨b, o, [], 0⟩ : Se).fz = true ∧ (⟨b, o, [], 0⟩ : Se).fz.length ≤ m ∧ 0 ≤ (⟨b, o, [], 0⟩ : Se).pt ∧ (⟨b, o, [], 0⟩ : Se).pt ≤ (⟨b, o, [], 0⟩ : Se).fz.length := fun b o => ⟨(by decide : riseB [] = true), Nat.zero_le _, Int.le_refl _, Int.le_refl _⟩
  unfold sesA
  split
  · exact e0 _ _
  split
  · exact e0 _ _
  split
  · have hs := cut_sub st.mp c.key c.hi 9223372036854775807
    exact ⟨rise_sub hs h.mr, Nat.le_trans hs.length_le h.ml, Int.le_refl _, by simp⟩
  split
  · refine ⟨h.fr i, h.fl i, by simp, ?_⟩
    have := lbN_le (st.th i).fz c.key
    simp; omega
  split
  · exact e0 _ _
  split
  · refine ⟨h.fr i, h.fl i, ?_, ?_⟩
    · have := h.p0 i; (try simp only); omega
    · (try simp only); omega
  · exact ⟨h.fr i, h.fl i, h.p0 i, h.p1 i⟩
theorem OkN.call {m : Nat} {st : Sm} (h : OkN m st) (t : Int) (c : Ca) (hk : -9223372036854775808 ≤ c.key ∧ c.key ≤ 9223372036854775807) : OkN (m + 1) (doA st t c).1 := by
  unfold doA
  split
  · exact h.more
  split
  · refine ⟨put_rise h.mr, ?_, ?_, h.n6, h.fr, fun i => by have := h.fl i; (try simp only); omega, h.p0, h.p1⟩
    · have := h.ml
      cases hh : hereB st.mp (c.key, c.val).1
      · simp only; rw [put_length hh]; omega
      · simp only; unfold putL; rw [hh]; simp; omega
    · intro p hp
      rcases put_mem hp with e | e
      · rw [e]; exact hk
      · exact h.ki p e
  split
  · have hs := drop_sub st.mp c.key
    exact ⟨rise_sub hs h.mr, by have := hs.length_le; have := h.ml; (try simp only); omega, fun p hp => h.ki p (hs.subset hp), h.n6, h.fr, fun i => by have := h.fl i; (try simp only); omega, h.p0, h.p1⟩
  split
  · exact h.more
  split
  · exact h.more
  split
  · exact h.more
  · have hf := ses_ok h t.toNat c
    refine ⟨h.mr, by have := h.ml; (try simp only); omega, h.ki, h.n6, fun i => ?_, fun i => ?_, fun i => ?_, fun i => ?_⟩
    all_goals
      simp only [updT]
      split
    · exact hf.1
    · exact h.fr i
    · have := hf.2.1; omega
    · have := h.fl i; omega
    · exact hf.2.2.1
    · exact h.p0 i
    · exact hf.2.2.2
    · exact h.p1 i
theorem doA_n (st : Sm) (t : Int) (c : Ca) : (doA st t c).1.n = st.n := by
  unfold doA
  repeat' split
  all_goals rfl
def l0 : Sm := ⟨[], 1, fun _ => s0⟩
def l1 : Sm := (doA l0 0 ⟨13, 0, 0, 0, 0⟩).1
def l2 : Sm := (doA l1 0 ⟨0, 5, 1, 0, 0⟩).1
def l3 : Sm := (doA l2 0 ⟨2, 5, 0, 0, 0⟩).1
theorem heap2 (w : World) (a b : Obj) : let U := (w.alloc a).alloc b
    U.heap[w.heap.size]? = some a ∧ U.heap[w.heap.size + 1]? = some b := by
  intro U
  have s1 : (w.alloc a).heap.size = w.heap.size + 1 := by simp
  have n1 := heap_alloc_new (w.alloc a) b
  rw [s1] at n1
  exact ⟨(Below.heap_alloc _ _ _ (by omega)).trans (heap_alloc_new w a), n1⟩
theorem la1 : (doA l0 0 ⟨13, 0, 0, 0, 0⟩).2 = ⟨0, 0, 0, 0, []⟩ := by rfl
theorem la2 : (doA l1 0 ⟨0, 5, 1, 0, 0⟩).2 = ⟨0, 0, 0, 0, []⟩ := by rfl
theorem la3 : (doA l2 0 ⟨2, 5, 0, 0, 0⟩).2 = ⟨1, 5, 1, 0, []⟩ := by rfl
set_option maxRecDepth 8000 in
set_option maxHeartbeats 4000000 in
theorem lives10_calls (w : World) : Calls Tryd.prog 4 #[] w fun e w' => e = .returned (.bool true) ∧ Below w.heap.size w w' := by
  refine Calls.veil fun Q HQ => ?_
  have k0 : OkN 0 l0 := OkN.new 1 (by decide)
  have k1 : OkN 1 l1 := k0.call 0 ⟨13, 0, 0, 0, 0⟩ (by decide)
  have k2 : OkN 2 l2 := k1.call 0 ⟨0, 5, 1, 0, 0⟩ (by decide)
  have K0 := Lib.hid (k0.ok (by omega)); have K1 := Lib.hid (k1.ok (by omega)); have K2 := Lib.hid (k2.ok (by omega))
  clear k0 k1 k2
  go_enter Tryd.func4, Tryd.ntmps4
  go_wp2_with fail
  refine (mnew10 1 _).mono ?_; rintro _ w1 ⟨tv, rfl, ht, hb⟩
  have HT := Lib.hid (show TR w1 tv l0.n l0.th from ht)
  have HB1 := Lib.hid (show Below w.heap.size w w1 from hb)
  obtain ⟨q, d, rfl, _, _, _⟩ := ht.slice
  clear ht hb
  go_wp2_with fail
  refine (mdo (st := l0) .nil HT.out K0.out 0 ⟨13, 0, 0, 0, 0⟩).mono ?_; rintro _ w0a ⟨mv0, tv0, av0, rfl, hp0, ht0, ha0, hb0⟩
  rw [la1]
  rw [la1] at ha0
  obtain ⟨p0, c0, rfl, _, _⟩ := hp0.1.slice
  obtain ⟨q0, d0, rfl, _, _, _⟩ := ht0.slice
  obtain ⟨r0, e0, rfl, _, _⟩ := ha0.1.slice
  have HPa := Lib.hid hp0.1; have HTa := Lib.hid ht0
  have HBa := Lib.hid (below_on HB1.out hb0)
  unfold anV
  simp only
  clear hp0 ht0 ha0 hb0
  go_upto_region 2 with fail
  have h2 := heap2 w0a (.cells #[.slice p0 (List.length (doA l0 0 ⟨13, 0, 0, 0, 0⟩).1.mp) c0, .slice q0 (doA l0 0 ⟨13, 0, 0, 0, 0⟩).1.n d0] 27) (.cells #[.int .i64 0, .int .i64 0, .int .i64 0, .int .i64 0, .slice r0  0 e0] 34)
  simp only at h2
  have hbv : Below w0a.heap.size w0a ((w0a.alloc (.cells #[.slice p0 (List.length (doA l0 0 ⟨13, 0, 0, 0, 0⟩).1.mp) c0, .slice q0 (doA l0 0 ⟨13, 0, 0, 0, 0⟩).1.n d0] 27)).alloc (.cells #[.int .i64 0, .int .i64 0, .int .i64 0, .int .i64 0, .slice r0  0 e0] 34)) := by (repeat (first | exact Below.refl _ _ | assumption | refine below_new ?_ _ | refine Below.drew ?_ | refine below_drewN ?_ _ | refine below_on ?_ (by assumption)))
  generalize hU : World.alloc _ _ = V0 at h2 hbv
  clear hU
  obtain ⟨u0, u1⟩ := h2
  have s00 : V0.cell? ⟨w0a.heap.size, 0, none⟩ = some (.slice p0 (List.length (doA l0 0 ⟨13, 0, 0, 0, 0⟩).1.mp) c0) := by rw [cell_of_row _ _ _ _ _ (0, 0) u0]; rfl
  have s01 : V0.cell? ⟨w0a.heap.size, 1, none⟩ = some (.slice q0 (doA l0 0 ⟨13, 0, 0, 0, 0⟩).1.n d0) := by rw [cell_of_row _ _ _ _ _ (0, 0) u0]; rfl
  have g00 : V0.cell? ⟨w0a.heap.size + 1, 0, none⟩ = some (.int .i64 0) := by rw [cell_of_row _ _ _ _ _ (0, 0) u1]; rfl
  have HP0 := Lib.hid (HPa.out.below hbv); have HT0 := Lib.hid (HTa.out.below hbv); have HB0 := Lib.hid (HBa.out.trans (hbv.mono HBa.out.size))
  clear hbv u0 u1 HPa HTa HBa
  generalize w0a.heap.size = z0 at *
  go_wp2_with fail
  refine (mdo (st := l1) HP0.out HT0.out K1.out 0 ⟨0, 5, 1, 0, 0⟩).mono ?_; rintro _ w1a ⟨mv1, tv1, av1, rfl, hp1, ht1, ha1, hb1⟩
  rw [la2]
  rw [la2] at ha1
  obtain ⟨p1, c1, rfl, _, _⟩ := hp1.1.slice
  obtain ⟨q1, d1, rfl, _, _, _⟩ := ht1.slice
  obtain ⟨r1, e1, rfl, _, _⟩ := ha1.1.slice
  have g00 := Ext.use (Ext.cells g00) hb1
  have HPa := Lib.hid hp1.1; have HTa := Lib.hid ht1
  have HBa := Lib.hid (below_on HB0.out hb1)
  unfold anV
  simp only
  clear hp1 ht1 ha1 hb1
  go_upto_region 3 with fail
  have h2 := heap2 w1a (.cells #[.slice p1 (List.length (doA l1 0 ⟨0, 5, 1, 0, 0⟩).1.mp) c1, .slice q1 (doA l1 0 ⟨0, 5, 1, 0, 0⟩).1.n d1] 27) (.cells #[.int .i64 0, .int .i64 0, .int .i64 0, .int .i64 0, .slice r1  0 e1] 34)
  simp only at h2
  have hbv : Below w1a.heap.size w1a ((w1a.alloc (.cells #[.slice p1 (List.length (doA l1 0 ⟨0, 5, 1, 0, 0⟩).1.mp) c1, .slice q1 (doA l1 0 ⟨0, 5, 1, 0, 0⟩).1.n d1] 27)).alloc (.cells #[.int .i64 0, .int .i64 0, .int .i64 0, .int .i64 0, .slice r1  0 e1] 34)) := by (repeat (first | exact Below.refl _ _ | assumption | refine below_new ?_ _ | refine Below.drew ?_ | refine below_drewN ?_ _ | refine below_on ?_ (by assumption)))
  generalize hU : World.alloc _ _ = V1 at h2 hbv
  clear hU
  obtain ⟨u0, u1⟩ := h2
  have g00 := Ext.use (Ext.cells g00) hbv
  have s10 : V1.cell? ⟨w1a.heap.size, 0, none⟩ = some (.slice p1 (List.length (doA l1 0 ⟨0, 5, 1, 0, 0⟩).1.mp) c1) := by rw [cell_of_row _ _ _ _ _ (0, 0) u0]; rfl
  have s11 : V1.cell? ⟨w1a.heap.size, 1, none⟩ = some (.slice q1 (doA l1 0 ⟨0, 5, 1, 0, 0⟩).1.n d1) := by rw [cell_of_row _ _ _ _ _ (0, 0) u0]; rfl
  have g10 : V1.cell? ⟨w1a.heap.size + 1, 0, none⟩ = some (.int .i64 0) := by rw [cell_of_row _ _ _ _ _ (0, 0) u1]; rfl
  have HP1 := Lib.hid (HPa.out.below hbv); have HT1 := Lib.hid (HTa.out.below hbv); have HB1x := Lib.hid (HBa.out.trans (hbv.mono HBa.out.size))
  clear hbv u0 u1 HPa HTa HBa
  generalize w1a.heap.size = z1 at *
  go_wp2_with fail
  refine (mdo (st := l2) HP1.out HT1.out K2.out 0 ⟨2, 5, 0, 0, 0⟩).mono ?_; rintro _ w2a ⟨mv2, tv2, av2, rfl, hp2, ht2, ha2, hb2⟩
  rw [la3]
  rw [la3] at ha2
  obtain ⟨p2, c2, rfl, _, _⟩ := hp2.1.slice
  obtain ⟨q2, d2, rfl, _, _, _⟩ := ht2.slice
  obtain ⟨r2, e2, rfl, _, _⟩ := ha2.1.slice
  have g00 := Ext.use (Ext.cells g00) hb2
  have g10 := Ext.use (Ext.cells g10) hb2
  have HPa := Lib.hid hp2.1; have HTa := Lib.hid ht2
  have HBa := Lib.hid (below_on HB1x.out hb2)
  unfold anV
  simp only
  clear hp2 ht2 ha2 hb2
  go_upto_region 4 with fail
  have h2 := heap2 w2a (.cells #[.slice p2 (List.length (doA l2 0 ⟨2, 5, 0, 0, 0⟩).1.mp) c2, .slice q2 (doA l2 0 ⟨2, 5, 0, 0, 0⟩).1.n d2] 27) (.cells #[.int .i64 1, .int .i64 5, .int .i64 1, .int .i64 0, .slice r2  0 e2] 34)
  simp only at h2
  have hbv : Below w2a.heap.size w2a ((w2a.alloc (.cells #[.slice p2 (List.length (doA l2 0 ⟨2, 5, 0, 0, 0⟩).1.mp) c2, .slice q2 (doA l2 0 ⟨2, 5, 0, 0, 0⟩).1.n d2] 27)).alloc (.cells #[.int .i64 1, .int .i64 5, .int .i64 1, .int .i64 0, .slice r2  0 e2] 34)) := by (repeat (first | exact Below.refl _ _ | assumption | refine below_new ?_ _ | refine Below.drew ?_ | refine below_drewN ?_ _ | refine below_on ?_ (by assumption)))
  generalize hU : World.alloc _ _ = V2 at h2 hbv
  clear hU
  obtain ⟨u0, u1⟩ := h2
  have g00 := Ext.use (Ext.cells g00) hbv
  have g10 := Ext.use (Ext.cells g10) hbv
  have s20 : V2.cell? ⟨w2a.heap.size, 0, none⟩ = some (.slice p2 (List.length (doA l2 0 ⟨2, 5, 0, 0, 0⟩).1.mp) c2) := by rw [cell_of_row _ _ _ _ _ (0, 0) u0]; rfl
  have s21 : V2.cell? ⟨w2a.heap.size, 1, none⟩ = some (.slice q2 (doA l2 0 ⟨2, 5, 0, 0, 0⟩).1.n d2) := by rw [cell_of_row _ _ _ _ _ (0, 0) u0]; rfl
  have g20 : V2.cell? ⟨w2a.heap.size + 1, 0, none⟩ = some (.int .i64 1) := by rw [cell_of_row _ _ _ _ _ (0, 0) u1]; rfl
  have g21 : V2.cell? ⟨w2a.heap.size + 1, 1, none⟩ = some (.int .i64 5) := by rw [cell_of_row _ _ _ _ _ (0, 0) u1]; rfl
  have g22 : V2.cell? ⟨w2a.heap.size + 1, 2, none⟩ = some (.int .i64 1) := by rw [cell_of_row _ _ _ _ _ (0, 0) u1]; rfl
  have HP2 := Lib.hid (HPa.out.below hbv); have HT2 := Lib.hid (HTa.out.below hbv); have HB2 := Lib.hid (HBa.out.trans (hbv.mono HBa.out.size))
  clear hbv u0 u1 HPa HTa HBa
  generalize w2a.heap.size = z2 at *
  go_wp2_with fail
  (try go_ret)
  rw [HQ.out]
  exact ⟨rfl, HB2.out⟩
end Go.Proofs.YtkgfhomoipbjoaaDoor
