/- Layer 14: what is written is read. -/
import Derived.Test.YtnikggdnlijkkaaTakU
import Derived.Test.YtnikggdnlijkkaaScrP
namespace Go.Proofs.Ytnikggdnlijkkaa
open Go.RowKit WordM
set_option linter.unusedVariables false
set_option linter.unusedSimpArgs false
def getL (xs : List Int) : Nat → Int := fun i => xs.getD i 0
theorem drop_getL (A B : List Int) (n : Nat) (h : A.length = n) : dropD (getL (A ++ B)) n = getL B := by
  funext j
  unfold dropD getL
  subst h
  simp [List.getD_eq_getElem?_getD, List.getElem?_append_right]
theorem getL_left (A B : List Int) (j : Nat) (h : j < A.length) : getL (A ++ B) j = A.getD j 0 := by
  unfold getL
  simp [List.getD_eq_getElem?_getD, List.getElem?_append_left h]
theorem byL_get (x : Int) (m j : Nat) (h : j < m) : (byL x m).getD j 0 = fieldI x ((j : Int) * 8) 8 := by
  unfold byL
  simp [List.getD_eq_getElem?_getD, h]
theorem num_byL (X m : Nat) (C : List Int) (hm : m ≤ 8) : ∀ k, k ≤ m → numB (getL (byL (X : Int) m ++ C)) k = ((X % 256 ^ k : Nat) : Int)
  | 0, _ => by simp [numB]
  | k + 1, hk => by
    rw [numB, num_byL X m C hm k (by omega), getL_left _ _ _ (by rw [byL_len]; omega), byL_get _ _ _ (by omega), byte_at' X k (by omega), Nat.pow_succ, Nat.mod_mul, Int.natCast_add, Int.natCast_mul]
theorem num_of (x : Int) (m : Nat) (C : List Int) (hm : m ≤ 8) (h0 : 0 ≤ x) (h1 : x < ((256 ^ m : Nat) : Int)) : numB (getL (byL x m ++ C)) m = x := by
  obtain ⟨X, rfl⟩ := Int.eq_ofNat_of_zero_le h0
  rw [num_byL X m C hm m (Nat.le_refl _), Nat.mod_eq_of_lt (by omega)]
theorem drop_of (x : Int) (m : Nat) (C : List Int) : dropD (getL (byL x m ++ C)) m = getL C := drop_getL _ _ _ (byL_len _ _)
/-- Numbers that fit. -/
structure WfE (e : Ent) : Prop where
  k : -9223372036854775808 ≤ e.key ∧ e.key < 9223372036854775808
  v : -9223372036854775808 ≤ e.val ∧ e.val < 9223372036854775808
  h : -9223372036854775808 ≤ e.hi ∧ e.hi < 9223372036854775808
theorem uw_lt (n : Int) : uw n < ((256 ^ 8 : Nat) : Int) := by have := (uw_bd n).2; simp; omega
/-- An entry that is written is read. -/
theorem ent_enc (e : Ent) (hr : rightE e = true) (hw : WfE e) (C : List Int) : entD (getL (entB e ++ C)) = e ∧ lenD (getL (entB e ++ C)) = (entB e).length ∧ eNo (getL (entB e ++ C) 0) = false := by
  obtain ⟨th, bg, op, key, val, hi, lim⟩ := e
  obtain ⟨t1, t2⟩ := right_bd hr
  obtain ⟨y1, y2⟩ := by_th' th t1 t2
  cases bg
  · have e1 : entB ⟨th, false, op, key, val, hi, lim⟩ = [th] := by simp [entB, y1]
    rw [e1]
    have e0 : getL ([th] ++ C) 0 = th := rfl
    obtain ⟨b1, b2, b3⟩ := bits_of th (by omega) (by omega)
    have b4 : eBg th = false := by rw [b3]; exact decide_eq_false (by omega)
    have b5 : eTh th = th := by rw [b2]; omega
    have b6 : eNo th = false := by rw [b1]; exact decide_eq_false (by omega)
    have hb : bareE ⟨th, false, op, key, val, hi, lim⟩ = true := by
      unfold rightE at hr; rw [Bool.and_eq_true] at hr; exact hr.2
    have := of_decide_eq_true hb
    obtain ⟨r1, r2, r3, r4, r5⟩ := this
    simp only at r1 r2 r3 r4 r5
    unfold entD lenD
    rw [e0, b4, b5]
    subst r1 r2 r3 r4 r5
    exact ⟨rfl, rfl, b6⟩
  · obtain ⟨o1, o2, l1, l2⟩ := right_call hr
    have e1 : entB ⟨th, true, op, key, val, hi, lim⟩ = [th + 128] ++ callB op key val hi lim := by simp [entB, y2]
    have hl : (entB ⟨th, true, op, key, val, hi, lim⟩).length = 28 := by rw [e1, List.length_append, callB_len]; rfl
    rw [hl, e1]
    have e0 : getL ([th + 128] ++ callB op key val hi lim ++ C) 0 = th + 128 := rfl
    obtain ⟨b1, b2, b3⟩ := bits_of (th + 128) (by omega) (by omega)
    have b4 : eBg (th + 128) = true := by rw [b3]; exact decide_eq_true (by omega)
    have b5 : eTh (th + 128) = th := by rw [b2]; omega
    have b6 : eNo (th + 128) = false := by rw [b1]; exact decide_eq_false (by omega)
    have ed : dropD (getL ([th + 128] ++ callB op key val hi lim ++ C)) 1 = getL (byL op 1 ++ (byL (uw key) 8 ++ (byL (uw val) 8 ++ (byL (uw hi) 8 ++ (byL lim 2 ++ C))))) := by
      rw [List.append_assoc, drop_getL _ _ 1 rfl]
      simp [callB]
    unfold entD lenD
    rw [e0, b4, b5, ed]
    generalize hD : getL (byL op 1 ++ (byL (uw key) 8 ++ (byL (uw val) 8 ++ (byL (uw hi) 8 ++ (byL lim 2 ++ C))))) = D
    have d1 : dropD D 1 = getL (byL (uw key) 8 ++ (byL (uw val) 8 ++ (byL (uw hi) 8 ++ (byL lim 2 ++ C)))) := by rw [← hD]; exact drop_of _ _ _
    have d2 : dropD D 9 = getL (byL (uw val) 8 ++ (byL (uw hi) 8 ++ (byL lim 2 ++ C))) := by rw [show 9 = 1 + 8 from rfl, ← dropD_drop, d1]; exact drop_of _ _ _
    have d3 : dropD D 17 = getL (byL (uw hi) 8 ++ (byL lim 2 ++ C)) := by rw [show 17 = 9 + 8 from rfl, ← dropD_drop, d2]; exact drop_of _ _ _
    have d4 : dropD D 25 = getL (byL lim 2 ++ C) := by rw [show 25 = 17 + 8 from rfl, ← dropD_drop, d3]; exact drop_of _ _ _
    have c0 : cOp D = op := by unfold cOp; rw [← hD]; exact num_of _ _ _ (by decide) o1 (by simp; omega)
    have c1 : cKey D = key := by unfold cKey; rw [d1, num_of _ _ _ (by decide) (uw_bd _).1 (uw_lt _)]; exact wrap_uw _ hw.k.1 hw.k.2
    have c2 : cVal D = val := by unfold cVal; rw [d2, num_of _ _ _ (by decide) (uw_bd _).1 (uw_lt _)]; exact wrap_uw _ hw.v.1 hw.v.2
    have c3 : cHi D = hi := by unfold cHi; rw [d3, num_of _ _ _ (by decide) (uw_bd _).1 (uw_lt _)]; exact wrap_uw _ hw.h.1 hw.h.2
    have c4 : cLim D = lim := by unfold cLim; rw [d4]; exact num_of _ _ _ (by decide) l1 (by simp; omega)
    rw [c0, c1, c2, c3, c4]
    exact ⟨rfl, rfl, b6⟩
theorem enc_split (L : Nat → Ent) : ∀ n m, m ≤ n → ∃ R, encL L n = encL L m ++ R
  | 0, m, h => by
    obtain rfl : m = 0 := by omega
    exact ⟨[], by simp⟩
  | n + 1, m, h => by
    rcases (by omega : m = n + 1 ∨ m ≤ n) with rfl | h1
    · exact ⟨[], by simp⟩
    · obtain ⟨R, hR⟩ := enc_split L n m h1
      exact ⟨R ++ entB (L n), by rw [encL, hR, List.append_assoc]⟩
theorem putL_by (T S K : Int) (n : Nat) (L : Nat → Ent) (hb : ∀ y ∈ headL T S K ++ encL L n, 0 ≤ y ∧ y ≤ 255) : BY (getL (headL T S K ++ encL L n)) := by
  intro i
  unfold getL
  rw [List.getD_eq_getElem?_getD]
  cases h : (headL T S K ++ encL L n)[i]? with
  | none => simp
  | some y => exact hb y (List.mem_of_getElem? h)
/-- WHAT IS WRITTEN IS READ. -/
theorem put_take {T S K : Int} {n : Nat} {L : Nat → Ent} (hm : mayS T S K n L = true) (hw : ∀ i, WfE (L i)) :
    TakeR (getL (headL T S K ++ encL L n)) (headL T S K ++ encL L n).length T S K n 0 ∧ ∀ i, i < n → entAt (getL (headL T S K ++ encL L n)) i = L i := by
  obtain ⟨⟨t1, t2, s1, s2, k1, k2⟩, hn, hR⟩ := mayS_parts hm
  have hlen : (headL T S K ++ encL L n).length = 11 + (encL L n).length := by rw [List.length_append, headL_len]
  generalize hD : getL (headL T S K ++ encL L n) = D
  have hpos : ∀ k, k ≤ n → posD D k = 11 + (encL L k).length ∧ (k < n → ∃ R, dropD D (posD D k) = getL (entB (L k) ++ R)) := by
    have step : ∀ k, posD D k = 11 + (encL L k).length → k < n → ∃ R, dropD D (posD D k) = getL (entB (L k) ++ R) := by
      intro k hp hk
      obtain ⟨R, h1⟩ := enc_split L n (k + 1) (by omega)
      refine ⟨R, ?_⟩
      rw [encL] at h1
      rw [hp, ← hD, h1, List.append_assoc, ← List.append_assoc (headL T S K)]
      exact drop_getL _ _ _ (by rw [List.length_append, headL_len])
    intro k
    induction k with
    | zero => intro _; exact ⟨rfl, step 0 rfl⟩
    | succ k ih =>
      intro hk
      obtain ⟨h1, h2⟩ := ih (by omega)
      obtain ⟨R, h3⟩ := h2 (by omega)
      have h4 := ent_enc (L k) (hR k (by omega)) (hw k) R
      have h5 : posD D (k + 1) = 11 + (encL L (k + 1)).length := by rw [posD, h3, h4.2.1, h1, encL, List.length_append]; omega
      exact ⟨h5, step (k + 1) h5⟩
  have hent : ∀ i, i < n → entAt D i = L i := by
    intro i hi
    obtain ⟨R, h3⟩ := (hpos i (by omega)).2 hi
    unfold entAt
    rw [h3]
    exact (ent_enc (L i) (hR i hi) (hw i) R).1
  refine ⟨?_, hent⟩
  have f1 : fT D = T := by
    unfold fT; rw [← hD, headL, List.append_assoc, List.append_assoc]
    exact num_of _ _ _ (by decide) (by omega) (by simp; omega)
  have g1 : dropD D 1 = getL (byL S 2 ++ (byL K 8 ++ encL L n)) := by
    rw [← hD, headL, List.append_assoc, List.append_assoc]; exact drop_of _ _ _
  have f2 : fS D = S := by unfold fS; rw [g1]; exact num_of _ _ _ (by decide) (by omega) (by simp; omega)
  have g2 : dropD D 3 = getL (byL K 8 ++ encL L n) := by rw [show 3 = 1 + 2 from rfl, ← dropD_drop, g1]; exact drop_of _ _ _
  have f3 : fK D = K := by unfold fK; rw [g2]; exact num_of _ _ _ (by decide) (by omega) (by simp; omega)
  refine .inr (.inr ⟨by omega, ?_, n, ?_, .inl ⟨?_, rfl⟩, .inl ⟨rfl, f1.symm, f2.symm, f3.symm, rfl⟩⟩)
  · rw [f1, f2, f3]; exact decide_eq_true ⟨t1, t2, s1, s2, k1, k2⟩
  · intro j hj
    obtain ⟨R, h3⟩ := (hpos j (by omega)).2 hj
    have h4 := ent_enc (L j) (hR j hj) (hw j) R
    obtain ⟨R', h5⟩ := enc_split L n (j + 1) (by omega)
    have h6 : (encL L j).length + (entB (L j)).length ≤ (encL L n).length := by rw [h5, encL]; simp
    have h7 := (hpos j (by omega)).1
    have h8 : D (posD D j) = getL (entB (L j) ++ R) 0 := by rw [← h3]; rfl
    have h9 := lenD_pos (getL (entB (L j) ++ R))
    rw [h4.2.1] at h9
    refine ⟨by omega, by omega, by rw [h8]; exact h4.2.2, fun h => ?_⟩
    have h10 : lenD (getL (entB (L j) ++ R)) = 28 := by unfold lenD; rw [← h8, h]; rfl
    rw [h4.2.1] at h10
    omega
  · rw [(hpos n (Nat.le_refl _)).1]; omega
theorem ent_cellsW {w : World} {cs : List Value} (h : Fr.Sh.oks w entSh cs) : ∃ e : Ent, cs = ecells e ∧ WfE e := by
  obtain ⟨_, _, rfl, k0, h⟩ := Fr.get_cons h
  obtain ⟨_, _, rfl, k1, h⟩ := Fr.get_cons h
  obtain ⟨_, _, rfl, k2, h⟩ := Fr.get_cons h
  obtain ⟨_, _, rfl, k3, h⟩ := Fr.get_cons h
  obtain ⟨_, _, rfl, k4, h⟩ := Fr.get_cons h
  obtain ⟨_, _, rfl, k5, h⟩ := Fr.get_cons h
  obtain ⟨_, _, rfl, k6, h⟩ := Fr.get_cons h
  obtain rfl := Fr.get_nil h
  obtain ⟨a, rfl, _⟩ := Fr.get_int k0
  obtain ⟨b, rfl⟩ := Fr.get_bool k1
  obtain ⟨c, rfl, _⟩ := Fr.get_int k2
  obtain ⟨d, rfl, w1⟩ := Fr.get_int k3
  obtain ⟨e, rfl, w2⟩ := Fr.get_int k4
  obtain ⟨f, rfl, w3⟩ := Fr.get_int k5
  obtain ⟨g, rfl, _⟩ := Fr.get_int k6
  exact ⟨⟨a, b, c, d, e, f, g⟩, rfl, ⟨wf64 w1, wf64 w2, wf64 w3⟩⟩
theorem wfE0 : WfE ⟨0, false, 0, 0, 0, 0, 0⟩ := ⟨by decide, by decide, by decide⟩
theorem ents_openW {w : World} {v : Value} (h : Fr.ok1 w (.slice entSh) v) : ∃ n L, ER w v n L ∧ ∀ i, WfE (L i) := by
  rcases Fr.get_slice h with rfl | ⟨a, len, cap, rfl, h1, h2, h3⟩
  · exact ⟨0, fun _ => ⟨0, false, 0, 0, 0, 0, 0⟩, .nil _, fun _ => wfE0⟩
  · rcases (by omega : len = 0 ∨ 0 < len) with rfl | h0
    · exact ⟨0, fun _ => ⟨0, false, 0, 0, 0, 0, 0⟩, .odd a cap _ h2, fun _ => wfE0⟩
    · obtain ⟨cs0, h5, h6⟩ := h3 0 (by omega)
      obtain ⟨e, rfl, _⟩ := ent_cellsW h6
      have hs : a.spot = none := by
        have h7 := (World.cells?_some h5).2.2 0 (by decide)
        exact World.cell?_spot (by simpa [Addr.add, ecells] using h7)
      obtain ⟨g, off, spot⟩ := a
      simp only at hs
      subst hs
      have hall : ∀ i, ∃ e : Ent, WfE e ∧ (i < len → ∀ j, j < 7 → w.cell? ⟨g, off + (i * 7 + j), none⟩ = (ecells e)[j]?) := by
        intro i
        by_cases hi : i < len
        · obtain ⟨cs, h5, h6⟩ := h3 i (by omega)
          obtain ⟨e, rfl, hw⟩ := ent_cellsW h6
          obtain ⟨_, _, h7⟩ := World.cells?_some h5
          refine ⟨e, hw, fun _ j hj => ?_⟩
          have h8 := h7 j (by exact hj)
          have e1 : ((⟨g, off, none⟩ : Addr).add (i * entSh.length)) = ⟨g, off + i * 7, none⟩ := addE _ _ _
          rw [e1] at h8
          have e2 : ((⟨g, off + i * 7, none⟩ : Addr).add j) = ⟨g, off + (i * 7 + j), none⟩ := by rw [addE, Nat.add_assoc]
          rw [e2] at h8
          rw [h8]
        · exact ⟨⟨0, false, 0, 0, 0, 0, 0⟩, wfE0, fun h => absurd h hi⟩
      obtain ⟨L, hL⟩ := Classical.axiomOfChoice hall
      exact ⟨len, L, .row g off len cap L h1 h2 fun i hi => (hL i).2 hi, fun i => (hL i).1⟩
end Go.Proofs.Ytnikggdnlijkkaa
