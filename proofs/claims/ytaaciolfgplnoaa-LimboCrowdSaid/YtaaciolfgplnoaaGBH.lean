/- GBH: several texts in one. -/
import Derived.Test.YtaaciolfgplnoaaLmbJ
import Derived.Test.YtaaciolfgplnoaaGAT
import Derived.Test.YtaaciolfgplnoaaGBG
/- Layer 19: a thread goes on alone, to its end. -/
namespace Go.Proofs.Ytaaciolfgplnoaa.Lb
open Go.RowKit WordM EdgeM Sl
set_option linter.unusedVariables false
set_option linter.unusedSimpArgs false
/-- What is in the hands when a thread has come to its end. -/
def FE (σ σ' : Sg) (k : Nat) (g g' : Gh) : Prop :=
  ((∀ j, g'.X (10 * j + 2) = g.X (10 * j + 2)) ∧ (took (σ.Ts k) → (σ'.Ts k).ret 0 = 0)) ∨
    (took (σ.Ts k) ∧ 0 < (σ'.Ts k).ret 0 ∧ (σ'.Ts k).ret 0 < 4611686018427387904 ∧ g'.X (10 * k + 2) = g.X (10 * k + 2) ++ [(σ'.Ts k).ret 0] ∧ ∀ j, j ≠ k → g'.X (10 * j + 2) = g.X (10 * j + 2))
theorem FE.step {P : Pc} {σ σ1 σ' : Sg} {g g1 g' : Gh} {n k : Nat} (hE : ∀ j, g1.X (10 * j + 2) = g.X (10 * j + 2)) (hT : took (σ1.Ts k) ↔ took (σ.Ts k)) (h : SO P σ1 σ' k g1 g' n) (h0 : (σ'.Ts k).nf = 0) : FE σ σ' k g g' := by
  rcases h.E with ⟨e1, e2⟩ | ⟨e1, e2, e3, e4, e5, e6⟩
  · exact .inl ⟨fun j => (e1 j).trans (hE j), fun h9 => e2 (hT.2 h9) h0⟩
  · exact .inr ⟨hT.1 e1, e3, e4, by rw [e5, hE], fun j hj => (e6 j hj).trans (hE j)⟩
theorem SO.hands {P : Pc} {σ1 σ' : Sg} {g1 g' : Gh} {n k : Nat} (h : SO P σ1 σ' k g1 g' n) (h0 : 0 < (σ'.Ts k).nf) : ∀ j, g'.X (10 * j + 2) = g1.X (10 * j + 2) := by
  rcases h.E with ⟨e1, e2⟩ | ⟨e1, e2, _⟩
  · exact e1
  · omega
set_option maxRecDepth 8000 in
set_option maxHeartbeats 2000000 in
theorem lfinish {w : World} {P : Pc} {σ : Sg} {g : Gh} {n0 k : Nat} (h : MM w P σ) (hi : XS P σ g n0) (hN : n0 ≤ 700000) (hk : k < P.t) :
    Calls Try.prog 18 #[.pointer (some ⟨P.q, 0, none⟩), .int .i64 k] w fun x w' => ∃ σ' g' n', x = .returned (.bool true) ∧ MM w' P σ' ∧ KA P.B P.N w w' ∧ XS P σ' g' n' ∧ n' ≤ n0 + 2000 ∧ (σ'.Ts k).nf = 0 ∧ (∀ i, i ≠ k → σ'.Ts i = σ.Ts i) ∧ FE σ σ' k g g' := by
  refine Calls.veil fun Q HQ => ?_
  have HH := Lib.hid h; have HI := Lib.hid hi; have HK := Lib.hid hk; have HN := Lib.hid hN
  have HBD := Lib.hid h.bd
  clear h hi hk hN
  go_enter Try.func18, Try.ntmps18
  go_wp2_with fail
  go_loopw [5] (fun iv wr => ∃ j : Nat, j ≤ 2000 ∧ iv = .int .i64 j ∧ ∃ (σ1 : Sg) (g1 : Gh) (n1 : Nat), Hid (MM wr P σ1) ∧ Hid (XS P σ1 g1 n1) ∧ Hid (n1 ≤ n0 + j) ∧ Hid (KA P.B P.N w wr) ∧ Hid (∀ i, i ≠ k → σ1.Ts i = σ.Ts i) ∧ Hid (((σ1.Ts k).nf = 0 ∧ FE σ σ1 k g g1) ∨ (0 < (σ1.Ts k).nf ∧ rk P.t (σ1.Ts k) (σ1.f 2) (bn g1 k) + j ≤ 2000 ∧ (∀ i, g1.X (10 * i + 2) = g.X (10 * i + 2)) ∧ (took (σ1.Ts k) ↔ took (σ.Ts k))))) (fun iv _ => 2000 - (intOf iv).toNat)
  case atStart =>
    refine ⟨0, Nat.zero_le _, rfl, σ, g, n0, HH, HI, Lib.hid (Nat.le_refl _), Lib.hid (KA.refl _ _ _), Lib.hid (fun _ _ => rfl), Lib.hid ?_⟩
    by_cases h0 : (σ.Ts k).nf = 0
    · exact .inl ⟨h0, .inl ⟨fun _ => rfl, fun h9 => by have := h9.1; omega⟩⟩
    · exact .inr ⟨by omega, (rk_ok HI.out HK.out HBD.out.1.2 HBD.out.2.2).2, fun _ => rfl, Iff.rfl⟩
  case round =>
    clear HH HI
    obtain ⟨j, hj, rfl, σ2, g2, n2, HM2, HJ2, HN2, HK2, HO2, HW2⟩ := hrel
    have hji : (j : Int) < 5000 := by omega
    have HJ := Lib.hid hj
    go_wp2_with fail
    refine (cThread_yes HM2.out.c k HK.out).mono ?_; rintro _ wa ⟨rfl, hb⟩
    have HM3 := Lib.hid (HM2.out.below hb); have HK3 := Lib.hid (HK2.out.trans (KA.of_below hb))
    clear hb HM2 HK2
    go_wp2_with fail
    refine (mdepth HM3.out HK.out).mono ?_; rintro _ _ ⟨rfl, rfl⟩
    by_cases h0 : (σ2.Ts k).nf = 0
    · have HZ := Lib.hid h0
      have HF := Lib.hid (show FE σ σ2 k g g2 by
        rcases HW2.out with ⟨_, e⟩ | ⟨e, _⟩
        · exact e
        · have := HZ.out; omega)
      rw [h0]
      clear h0
      go_wp2_with fail
      refine (cThread_yes HM3.out.c k HK.out).mono ?_; rintro _ we ⟨rfl, hb⟩
      have HM9 := Lib.hid (HM3.out.below hb); have HK9 := Lib.hid (HK3.out.trans (KA.of_below hb))
      clear hb
      go_wp2_with fail
      refine (mdepth HM9.out HK.out).mono ?_; rintro _ _ ⟨rfl, rfl⟩
      rw [HZ.out]
      go_wp2_with fail
      (try go_ret)
      rw [HQ.out]
      exact ⟨σ2, g2, n2, rfl, HM9.out, HK9.out, HJ2.out, by have := HN2.out; have := HJ.out; omega, HZ.out, HO2.out, HF.out⟩
    · have HP := Lib.hid (show 0 < (σ2.Ts k).nf by omega)
      have hnn : (0 : Int) < ((σ2.Ts k).nf : Int) := by omega
      have HR := Lib.hid (show rk P.t (σ2.Ts k) (σ2.f 2) (bn g2 k) + j ≤ 2000 ∧ (∀ i, g2.X (10 * i + 2) = g.X (10 * i + 2)) ∧ (took (σ2.Ts k) ↔ took (σ.Ts k)) by
        rcases HW2.out with ⟨e, _⟩ | ⟨_, e⟩
        · have := HP.out; omega
        · exact e)
      generalize ((σ2.Ts k).nf : Int) = nn at hnn
      clear h0 HW2
      go_wp2_with fail
      clear hnn
      refine (zstep HM3.out HJ2.out (by have := HN2.out; have := HJ.out; have := HN.out; omega) HK.out HP.out).mono ?_
      rintro _ wb ⟨σ3, g3, rfl, hm4, hk4, hs4, ho4, ht4⟩
      have HM4 := Lib.hid hm4; have HK4 := Lib.hid (HK3.out.trans hk4); have HS4 := Lib.hid hs4; have HO4 := Lib.hid ho4; have HT4 := Lib.hid ht4
      clear hm4 hk4 hs4 ho4 ht4
      generalize decide (0 < (σ3.Ts k).nf) = dn
      have hr1 := (rk_ok HJ2.out HK.out HBD.out.1.2 HBD.out.2.2).1 HP.out
      have HJ1 := Lib.hid (show j + 1 ≤ 2000 by have := HR.out.1; omega)
      clear hr1
      go_wp2_with fail
      go_roundw
      case rel =>
        refine ⟨j + 1, HJ1.out, by go_num, σ3, g3, n2 + 1, HM4, Lib.hid HS4.out.xs, Lib.hid (by have := HN2.out; omega), HK4, Lib.hid (fun i hi => (HO4.out i hi).trans (HO2.out i hi)), Lib.hid ?_⟩
        by_cases hz : (σ3.Ts k).nf = 0
        · exact .inl ⟨hz, FE.step HR.out.2.1 HR.out.2.2 HS4.out hz⟩
        · right
          refine ⟨by omega, ?_, fun i => (HS4.out.hands (by omega) i).trans (HR.out.2.1 i), (HT4.out (by omega)).trans HR.out.2.2⟩
          have h1 := HR.out.1
          rcases HS4.out.rk with e | e
          · omega
          · omega
      case measure => simp [intOf]; have := HJ1.out; omega
end Go.Proofs.Ytaaciolfgplnoaa.Lb

/- Layer 19: what the law of LimboCrowd has in hand: rows of rows that are cut ahead and grow behind; what was put away. -/
namespace Go.Proofs.Ytaaciolfgplnoaa
open Go.RowKit WordM EdgeM
set_option linter.unusedVariables false
set_option linter.unusedSimpArgs false
theorem TF.ksT {w w' : World} {q t : Nat} {tq : Nat → Nat} {Ts : Nat → Th.Td} {ps : Nat → Nat → Nat} {fvs : Nat → Value} (h : TF w q t tq Ts ps fvs) {X : Nat} {cur : Array Value} {T : TypeId} (hX : w.heap[X]? = some (.cells cur T (0, 0))) (h1 : 59 ≠ T) (h2 : 49 ≠ T) (h3 : 48 ≠ T) (ks : Th.KS (fun j => j = X) w w') : TF w' q t tq Ts ps fvs := by
  refine ⟨fun i hi => (h.th i hi).keep ks.size fun j hj _ hc => ks.block j hj ?_, h.inj, h.sep, h.fsep⟩
  obtain ⟨_, ci, hci⟩ := (h.th i hi).blk
  rcases hc with rfl | hc | ⟨a, ha, rfl⟩
  · exact ty_ne hci hX h1
  · obtain ⟨_, _, c2, e2⟩ := (h.th i hi).own hc
    exact ty_ne e2 hX h2
  · obtain ⟨_, _, c2, e2⟩ := (h.th i hi).frm ha
    exact ty_ne e2 hX h3
/-- A block outside was written. -/
theorem MM.other {w w' : World} {P : Pc} {σ : Sg} (h : MM w P σ) {X : Nat} {cur : Array Value} {T : TypeId} (hX : w.heap[X]? = some (.cells cur T (0, 0))) (hN : P.N ≤ X) (h0 : 36 ≠ T) (h1 : 59 ≠ T) (h2 : 49 ≠ T) (h3 : 48 ≠ T) (ks : Th.KS (fun j => j = X) w w') : MM w' P σ := by
  obtain ⟨ps, fvs, tf⟩ := h.th
  exact ⟨h.c.ksT hX (by have := h.qN; omega) h0 ks, ⟨ps, fvs, tf.ksT hX h1 h2 h3 ks⟩, h.qN, h.tN, Nat.le_trans h.NS ks.size⟩
end Go.Proofs.Ytaaciolfgplnoaa
namespace Go.Proofs.Ytaaciolfgplnoaa.Lb
open Go.RowKit WordM EdgeM Sl
/-- An own row of words, from some place of its block on. -/
def ownA (w : World) (B : Nat) (v : Value) (xs : List Int) : Prop :=
  (v = .slice none 0 0 ∧ xs = []) ∨ ∃ g o cap cur, v = .slice (some ⟨g, o, none⟩) xs.length cap ∧ B ≤ g ∧ w.heap[g]? = some (.cells cur 22 (0, 0)) ∧ xs.length ≤ cap ∧ cap ≤ maxLen ∧ o + cap ≤ cur.size ∧ (cur.toList.drop o).take xs.length = wds xs
theorem ownA_nil (w : World) (B : Nat) : ownA w B (.slice none 0 0) [] := .inl ⟨rfl, rfl⟩
theorem ownA_ge {w : World} {B : Nat} {v : Value} {xs : List Int} (h : ownA w B v xs) : ∀ k, v.ownBlock = some k → B ≤ k := by
  intro k hk
  rcases h with ⟨rfl, _⟩ | ⟨g, o, cap, cur, rfl, hg, _⟩
  · cases hk
  · simp only [Value.ownBlock, Option.some.injEq] at hk; omega
theorem ownA_ty {w : World} {B : Nat} {v : Value} {xs : List Int} (h : ownA w B v xs) {k : Nat} (hk : v.ownBlock = some k) : ∃ cur, w.heap[k]? = some (.cells cur 22 (0, 0)) := by
  rcases h with ⟨rfl, _⟩ | ⟨g, o, cap, cur, rfl, hg, hh, _⟩
  · cases hk
  · simp only [Value.ownBlock, Option.some.injEq] at hk; subst hk; exact ⟨cur, hh⟩
theorem ownA_kept {w w' : World} {B : Nat} {v : Value} {xs : List Int} (h : ownA w B v xs) (k : ∀ b, v.ownBlock = some b → w'.heap[b]? = w.heap[b]?) : ownA w' B v xs := by
  rcases h with h | ⟨g, o, cap, cur, rfl, hg, hh, hr⟩
  · exact .inl h
  · exact .inr ⟨g, o, cap, cur, rfl, hg, (k g rfl).trans hh, hr⟩
theorem ownA_below {w w' : World} {B : Nat} {v : Value} {xs : List Int} (h : ownA w B v xs) (k : Below w.heap.size w w') : ownA w' B v xs :=
  ownA_kept h fun b hb => by obtain ⟨cur, hc⟩ := ownA_ty h hb; exact k.block b (Th.blk_lt hc)
theorem ownA_slice {w : World} {B : Nat} {v : Value} {xs : List Int} (h : ownA w B v xs) : ∃ p c, v = .slice p xs.length c ∧ xs.length ≤ c ∧ c ≤ 9223372036854775807 := by
  rcases h with ⟨rfl, rfl⟩ | ⟨g, o, cap, cur, rfl, _, _, h1, h2, _⟩
  · exact ⟨none, 0, rfl, Nat.le_refl _, by decide⟩
  · exact ⟨_, _, rfl, h1, h2⟩
/-- Its first word, and what stands behind that. -/
theorem ownA_cons {w : World} {B : Nat} {v : Value} {e : Int} {xs : List Int} (h : ownA w B v (e :: xs)) : ∃ g o c, v = .slice (some ⟨g, o, none⟩) (xs.length + 1) c ∧ xs.length + 1 ≤ c ∧ c ≤ 9223372036854775807 ∧ w.cell? ⟨g, o, none⟩ = some (.int .u64 e) ∧
    ownA w B (.slice (if c = 1 then some ⟨g, o, none⟩ else some ⟨g, o + 1, none⟩) xs.length (c - 1)) xs := by
  rcases h with ⟨_, h⟩ | ⟨g, o, cap, cur, rfl, hg, hh, h1, h2, h3, h4⟩
  · cases h
  · have h1' : xs.length + 1 ≤ cap := h1
    have h4' : (cur.toList.drop o).take (xs.length + 1) = Value.int .u64 e :: wds xs := h4
    have hlt : o < cur.toList.length := by simp; omega
    rw [List.drop_eq_getElem_cons hlt, List.take_succ_cons] at h4'
    injection h4' with q1 q2
    refine ⟨g, o, cap, rfl, h1', h2, ?_, .inr ⟨g, if cap = 1 then o else o + 1, cap - 1, cur, ?_, hg, hh, by omega, by unfold maxLen at *; omega, ?_, ?_⟩⟩
    · rw [cell_of_row _ g _ _ _ (0, 0) hh, ← q1]; simp
    · by_cases hc : cap = 1
      · rw [if_pos hc, if_pos hc]
      · rw [if_neg hc, if_neg hc]
    · split <;> omega
    · by_cases hc : cap = 1
      · have : xs = [] := List.eq_nil_of_length_eq_zero (by omega)
        subst this; simp [wds]
      · rw [if_neg hc]; exact q2
/-- A word more, behind. -/
theorem pushA {w : World} {B : Nat} {v : Value} {xs : List Int} (h : ownA w B v xs) (x : Int) (hn : xs.length ≤ 100000) (hB : B ≤ w.heap.size) :
    ∃ p c w', (Builtin.append_ #[43, 43] 43 #[v, .slice (some ⟨w.heap.size, 0, none⟩) 1 1]).run Try.prog (w.alloc (.cells #[.int .u64 x] 22)) = .ok (.slice p (xs.length + 1) c) w' ∧ ownA w' B (.slice p (xs.length + 1) c) (xs ++ [x]) ∧ w.grownBy w' v.ownBlock ∧ ((Value.slice p (xs.length + 1) c).ownBlock = v.ownBlock ∨ ∃ b, (Value.slice p (xs.length + 1) c).ownBlock = some b ∧ w.heap.size ≤ b) := by
  obtain ⟨i0, hi, hz0, hz1, hz2⟩ := Th.info_one infU
  have hal : ∀ k, k < w.heap.size → (w.alloc (.cells #[.int .u64 x] 22)).heap[k]? = w.heap[k]? := fun k hk => heap_alloc_old w _ hk
  have hdl : (xs ++ [x]).length = xs.length + 1 := by simp
  rcases h with ⟨rfl, rfl⟩ | ⟨g, o, cap, cur, rfl, hg, hh, h1, h2, h3, h4⟩
  · obtain ⟨v', w', hr, q2, q3, _, q5⟩ := run_append_own_at (P := Try.prog) (w.alloc (.cells #[.int .u64 x] 22)) B 43 43 22 i0 (.int .u64 0) 1 8 uSU hi hz0 hz1 hz2 rfl (by decide) (.slice none 0 0) 0 [] (World.ownsRow_nil _ _ _ _) ⟨w.heap.size, 0, none⟩ 1 1 [.int .u64 x] rfl (cell_one_new w _ _) (by simp [Value.oneCell']) (by unfold maxLen; omega) (by omega) (by simp; omega)
    rcases q2.2 with ⟨_, e⟩ | ⟨g, cap, cur, rfl, hb, hh, hc, hm, hs, ht⟩
    · omega
    · refine ⟨_, _, w', hr, .inr ⟨g, 0, cap, cur, rfl, hb, hh, hc, hm, by omega, by simpa [wds] using ht⟩, ⟨q3.os, q3.tape, q3.output, by have := q3.size; simp at this; omega, fun k hk hne => (q3.block k (by simp; omega) hne).trans (hal k hk)⟩, ?_⟩
      rcases q5 with q5 | q5
      · exact .inl q5
      · exact .inr ⟨_, q5, by simp⟩
  · have hgl : g < w.heap.size := Th.blk_lt hh
    have hha : (w.alloc (.cells #[.int .u64 x] 22)).heap[g]? = some (.cells cur 22 (0, 0)) := (hal g hgl).trans hh
    by_cases hroom : xs.length + 1 ≤ cap
    · have hf := run_firstCells_some (P := Try.prog) (w.alloc (.cells #[.int .u64 x] 22)) 1 1 ⟨w.heap.size, 0, none⟩ 1 1 [.int .u64 x] rfl (cell_one_new w _ _)
      have hst := run_storeCells_at Try.prog g (o + xs.length) 22 [.int .u64 x] 0 cur (w.alloc (.cells #[.int .u64 x] 22)) hha (by simp; omega) (by simp [Value.oneCell'])
      simp only [Nat.add_zero] at hst
      have hrun : (Builtin.append_ #[43, 43] 43 #[.slice (some ⟨g, o, none⟩) xs.length cap, .slice (some ⟨w.heap.size, 0, none⟩) 1 1]).run Try.prog (w.alloc (.cells #[.int .u64 x] 22)) = .ok (.slice (some ⟨g, o, none⟩) (xs.length + 1) cap) ((w.alloc (.cells #[.int .u64 x] 22)).setRow g (cur.toList.take (o + xs.length) ++ [Value.int .u64 x] ++ cur.toList.drop (o + xs.length + 1)).toArray) := by
        simp [Builtin.append_, run_underlying uSU, sizeOf, typeInfo, hi, hz1, Builtin.lenOf, hroom, hf, Th.addP, hst]
      refine ⟨_, _, _, hrun, .inr ⟨g, o, cap, _, by rw [hdl], hg, setRow_heap _ g cur _ _ _ hha, by rw [hdl]; exact hroom, h2, ?_, ?_⟩, ⟨rfl, rfl, rfl, by simp [World.setRow], fun k hk hne => (setRow_other _ g k _ (fun e => hne (by simp [Value.ownBlock, e]))).trans (hal k hk)⟩, .inl rfl⟩
      · simp; omega
      · rw [hdl, wds_app, ← h4]
        simp only [List.append_assoc]
        have hlen : (cur.toList.take (o + xs.length)).length = o + xs.length := by simp; omega
        rw [List.drop_append_of_le_length (by rw [hlen]; omega), List.drop_take, show o + xs.length - o = xs.length by omega]
        have hl2 : ((cur.toList.drop o).take xs.length).length = xs.length := by simp; omega
        rw [List.take_append, hl2, List.take_of_length_le (by rw [hl2]; omega), show xs.length + 1 - xs.length = 1 by omega]
        simp [wds]
    · have hcell : ∀ j u, (wds xs)[j]? = some u → (w.alloc (.cells #[.int .u64 x] 22)).cell? ((⟨g, o, none⟩ : Addr).add j) = some u := fun j u hu => by
        rw [Th.addP, cell_of_row _ g _ _ _ (0, 0) hha]
        have hj : j < xs.length := by have := (List.getElem?_eq_some_iff.1 hu).1; rw [wds_len] at this; exact this
        rw [← h4, List.getElem?_take_of_lt hj, List.getElem?_drop] at hu
        simpa using hu
      have hr := run_append_grow (P := Try.prog) (w.alloc (.cells #[.int .u64 x] 22)) 43 43 22 i0 (.int .u64 0) uSU hi hz0 ⟨g, o, none⟩ xs.length cap (wds xs) (by rw [wds_len, hz1, Nat.mul_one]) hcell ⟨w.heap.size, 0, none⟩ 1 1 [.int .u64 x] (by rw [hz1]; rfl) (cell_one_new w _ _) (by omega) (by omega) (growslice_fits (by omega) (by rw [hz2]; omega))
      have hge := grownCap_ge (w.alloc (.cells #[.int .u64 x] 22)) (xs.length + 1) cap 22
      have hcm := grownCap_le_maxLen (w.alloc (.cells #[.int .u64 x] 22)) (xs.length + 1) cap 22 (by unfold maxLen; omega)
      refine ⟨_, _, _, hr, .inr ⟨_, 0, _, _, by rw [hdl]; rfl, by simp; omega, heap_alloc_new _ _, by rw [hdl]; exact hge, hcm, ?_, ?_⟩, ⟨rfl, rfl, rfl, by simp; omega, fun k hk _ => (heap_alloc_old (w.alloc (.cells #[.int .u64 x] 22)).drew _ (by simp; omega)).trans (hal k hk)⟩, .inr ⟨_, rfl, by simp⟩⟩
      · simp only [Array.size_append, List.size_toArray, size_zeroCells, wds_len, List.length_singleton]
        show 0 + _ ≤ _
        simp [Value.cells]; omega
      · simp only [List.drop_zero, Array.toList_append, List.append_assoc, wds_app]
        rw [← List.append_assoc, hdl]
        exact List.take_left' (by simp [wds])
/-! ### What was put away -/
def awc : List (Int × Int) → List Value
  | [] => []
  | p :: r => .int .u64 p.1 :: .int .u64 p.2 :: awc r
theorem awc_app : ∀ A B, awc (A ++ B) = awc A ++ awc B
  | [], B => rfl
  | p :: r, B => by simp [awc, awc_app r B]
theorem awc_get : ∀ (A : List (Int × Int)) (j : Nat) (h : j < A.length), (awc A)[j * 2]? = some (.int .u64 A[j].1) ∧ (awc A)[j * 2 + 1]? = some (.int .u64 A[j].2)
  | p :: r, 0, _ => ⟨rfl, rfl⟩
  | p :: r, j + 1, h => by
    have h1 := awc_get r j (by simpa using h)
    rw [show (j + 1) * 2 = j * 2 + 1 + 1 by omega]
    simpa [awc] using h1
def AR (w : World) (B : Nat) (v : Value) (A : List (Int × Int)) : Prop := w.ownsRow B 45 2 v A.length (awc A)
theorem uAW : Try.prog.underlying 33 = some (.slice 45) := by kernel_rfl
theorem infAW : (Try.prog.info? 45).map (fun i => (i.zero, i.size, i.bytes)) = some (some (.agg #[.int .u64 0, .int .u64 0]), 2, 16) := by kernel_rfl
theorem AR_nil (w : World) (B : Nat) : AR w B (.slice none 0 0) [] := ⟨rfl, .inl ⟨rfl, rfl⟩⟩
theorem AR.ty {w : World} {B : Nat} {v : Value} {A : List (Int × Int)} (h : AR w B v A) {k : Nat} (hk : v.ownBlock = some k) : B ≤ k ∧ ∃ cur, w.heap[k]? = some (.cells cur 45 (0, 0)) := by
  rcases h.2 with ⟨rfl, _⟩ | ⟨g, cap, cur, rfl, hg, hh, _⟩
  · cases hk
  · simp only [Value.ownBlock, Option.some.injEq] at hk; subst hk; exact ⟨hg, cur, hh⟩
theorem AR.kept {w w' : World} {B : Nat} {v : Value} {A : List (Int × Int)} (h : AR w B v A) (k : ∀ b, v.ownBlock = some b → w'.heap[b]? = w.heap[b]?) : AR w' B v A := by
  refine ⟨h.1, ?_⟩
  rcases h.2 with hn | ⟨g, cap, cur, rfl, hb, hgg, rest⟩
  · exact .inl hn
  · exact .inr ⟨g, cap, cur, rfl, hb, (k g rfl).trans hgg, rest⟩
theorem AR.below {w w' : World} {B : Nat} {v : Value} {A : List (Int × Int)} (h : AR w B v A) (k : Below w.heap.size w w') : AR w' B v A :=
  h.kept fun b hb => by obtain ⟨_, cur, hc⟩ := h.ty hb; exact k.block b (Th.blk_lt hc)
theorem AR.ka {w w' : World} {B C N : Nat} {v : Value} {A : List (Int × Int)} (h : AR w B v A) (k : KA C N w w') (hN : N ≤ B) : AR w' B v A :=
  h.kept fun b hb => by obtain ⟨hge, cur, hc⟩ := h.ty hb; exact k.keep hc (.inr (Nat.le_trans hN hge)) (by decide) (by decide)
theorem AR.mono {w : World} {B B' : Nat} {v : Value} {A : List (Int × Int)} (h : AR w B v A) (hB : B' ≤ B) : AR w B' v A := by
  refine ⟨h.1, ?_⟩
  rcases h.2 with hn | ⟨g, cap, cur, hv, hb, rest⟩
  · exact .inl hn
  · exact .inr ⟨g, cap, cur, hv, Nat.le_trans hB hb, rest⟩
theorem AR.slice {w : World} {B : Nat} {v : Value} {A : List (Int × Int)} (h : AR w B v A) : ∃ p c, v = .slice p A.length c ∧ A.length ≤ c ∧ c ≤ 9223372036854775807 := by
  rcases h.2 with ⟨rfl, h0⟩ | ⟨g, cap, cur, rfl, _, _, h1, h2, _⟩
  · exact ⟨none, 0, by rw [h0], by omega, by decide⟩
  · exact ⟨_, _, rfl, h1, h2⟩
theorem AR.get {w : World} {B : Nat} {v : Value} {A : List (Int × Int)} (h : AR w B v A) {j : Nat} (hj : j < A.length) : ∃ g c, v = .slice (some ⟨g, 0, none⟩) A.length c ∧ A.length ≤ c ∧ c ≤ 9223372036854775807 ∧ w.cell? ⟨g, j * 2, none⟩ = some (.int .u64 A[j].1) ∧ w.cell? ⟨g, j * 2 + 1, none⟩ = some (.int .u64 A[j].2) := by
  rcases h.2 with ⟨_, h0⟩ | ⟨g, cap, cur, rfl, _, hh, h1, h2, h3, h4⟩
  · omega
  · obtain ⟨e1, e2⟩ := awc_get A j hj
    rw [← h4, List.getElem?_take_of_lt (by omega)] at e1 e2
    refine ⟨g, cap, rfl, h1, h2, ?_, ?_⟩
    · rw [cell_of_row _ g _ _ _ (0, 0) hh]; simpa using e1
    · rw [cell_of_row _ g _ _ _ (0, 0) hh]; simpa using e2
theorem pushW {w : World} {B : Nat} {v : Value} {A : List (Int × Int)} (h : AR w B v A) (x y : Int) (hn : A.length ≤ 100000) (hB : B ≤ w.heap.size) :
    ∃ p c w', (Builtin.append_ #[33, 33] 33 #[v, .slice (some ⟨w.heap.size, 0, none⟩) 1 1]).run Try.prog (w.alloc (.cells #[.int .u64 x, .int .u64 y] 45)) = .ok (.slice p (A.length + 1) c) w' ∧ AR w' B (.slice p (A.length + 1) c) (A ++ [(x, y)]) ∧ w.grownBy w' v.ownBlock := by
  have hi0 := infAW
  cases hi : Try.prog.info? 45 with
  | none => rw [hi] at hi0; simp at hi0
  | some i0 =>
    rw [hi] at hi0; simp at hi0
    obtain ⟨hz0, hz1, hz2⟩ := hi0
    have hal : ∀ k, k < w.heap.size → (w.alloc (.cells #[.int .u64 x, .int .u64 y] 45)).heap[k]? = w.heap[k]? := fun k hk => heap_alloc_old w _ hk
    have hnew : ∀ j u, [Value.int .u64 x, Value.int .u64 y][j]? = some u → (w.alloc (.cells #[.int .u64 x, .int .u64 y] 45)).cell? ((⟨w.heap.size, 0, none⟩ : Addr).add j) = some u := fun j u hu => by
      rw [Th.addP, cell_of_row _ w.heap.size _ _ _ (0, 0) (heap_alloc_new w _)]
      match j, hu with
      | 0, hu => simpa using hu
      | 1, hu => simpa using hu
    obtain ⟨v', w', hr, q2, q3, _, _⟩ := run_append_own_at (P := Try.prog) (w.alloc (.cells #[.int .u64 x, .int .u64 y] 45)) B 33 33 45 i0 (.agg #[.int .u64 0, .int .u64 0]) 2 16 uAW hi hz0 hz1 hz2 (by simp [Value.cells]) (by decide) v A.length (awc A) (h.kept fun b hb => by obtain ⟨_, cur, hc⟩ := h.ty hb; exact hal b (Th.blk_lt hc)) ⟨w.heap.size, 0, none⟩ 1 1 [.int .u64 x, .int .u64 y] rfl hnew (by simp [Value.oneCell']) (by unfold maxLen; omega) (by omega) (by simp; omega)
    have hAR : AR w' B v' (A ++ [(x, y)]) := by
      unfold AR
      rw [awc_app, List.length_append]; exact q2
    obtain ⟨p, c, rfl, _, _⟩ := hAR.slice
    rw [List.length_append] at hr hAR
    exact ⟨p, c, w', hr, hAR, ⟨q3.os, q3.tape, q3.output, by have := q3.size; simp at this; omega, fun k hk hne => (q3.block k (by simp; omega) hne).trans (hal k hk)⟩⟩
/-! ### The law's memory -/
structure LH (w0 : World) (P : Pc) (cb hb : Nat) (w : World) (v : Nat → Value) (E : Nat → List Int) : Prop where
  cf : w.heap[cb]? = some (.cells #[.int .i64 P.t, .int .i64 P.s, .int .u64 P.K] 24 (0, 0))
  hbk : Th.Blk 43 w hb P.t v
  rw : ∀ j, j < P.t → ownA w P.N (v j) (E j)
  sep : ∀ i j, i < P.t → j < P.t → i ≠ j → ∀ b, (v i).ownBlock = some b → (v j).ownBlock ≠ some b
  N : P.N ≤ hb ∧ cb < P.B
  bl : Below w0.heap.size w0 w
  B0 : w0.heap.size ≤ P.B
  NS : P.N ≤ w.heap.size ∧ P.B ≤ P.N
section
variable {w0 w w' : World} {P : Pc} {cb hb : Nat} {v : Nat → Value} {E : Nat → List Int}
theorem LH.below (h : LH w0 P cb hb w v E) (k : Below w.heap.size w w') : LH w0 P cb hb w' v E :=
  ⟨Th.up k h.cf, h.hbk.below k, fun j hj => ownA_below (h.rw j hj) k, h.sep, h.N, below_on h.bl k, h.B0, Nat.le_trans h.NS.1 k.size, h.NS.2⟩
theorem LH.ka (h : LH w0 P cb hb w v E) (k : KA P.B P.N w w') : LH w0 P cb hb w' v E := by
  refine ⟨(k.keep h.cf (.inl h.N.2) (by decide) (by decide)).trans h.cf, h.hbk.of (k.keep h.hbk (.inr h.N.1) (by decide) (by decide)), fun j hj => ownA_kept (h.rw j hj) fun b hb => ?_, h.sep, h.N, ⟨k.os.trans h.bl.os, k.tape.trans h.bl.tape, k.output.trans h.bl.output, Nat.le_trans h.bl.size k.size, fun j hj => (k.block j (Nat.lt_of_lt_of_le hj h.bl.size) (by have := h.B0; omega)).trans (h.bl.block j hj)⟩, h.B0, Nat.le_trans h.NS.1 k.size, h.NS.2⟩
  obtain ⟨cur, hc⟩ := ownA_ty (h.rw j hj) hb
  exact k.keep hc (.inr (ownA_ge (h.rw j hj) b hb)) (by decide) (by decide)
/-- A block of another type was written. -/
theorem LH.oth (h : LH w0 P cb hb w v E) {X : Nat} {cur : Array Value} {T : TypeId} (hX : w.heap[X]? = some (.cells cur T (0, 0))) (hN : P.N ≤ X) (h1 : 24 ≠ T) (h2 : 43 ≠ T) (h3 : 22 ≠ T) (ks : Th.KS (fun j => j = X) w w') : LH w0 P cb hb w' v E := by
  refine ⟨(ks.block cb (Th.blk_lt h.cf) (ty_ne h.cf hX h1)).trans h.cf, h.hbk.of (ks.block hb (Th.blk_lt h.hbk) (ty_ne h.hbk hX h2)), fun j hj => ownA_kept (h.rw j hj) fun b hb => ?_, h.sep, h.N, ⟨ks.os.trans h.bl.os, ks.tape.trans h.bl.tape, ks.output.trans h.bl.output, Nat.le_trans h.bl.size ks.size, fun j hj => (ks.block j (Nat.lt_of_lt_of_le hj h.bl.size) (by have := h.B0; have := h.NS.2; omega)).trans (h.bl.block j hj)⟩, h.B0, Nat.le_trans h.NS.1 ks.size, h.NS.2⟩
  obtain ⟨c2, hc⟩ := ownA_ty (h.rw j hj) hb
  exact ks.block b (Th.blk_lt hc) (ty_ne hc hX h3)
theorem LH.gh (h : LH w0 P cb hb w v E) {k : Nat} (hk : k < P.t) : w.cell? ⟨hb, k, none⟩ = some (v k) := h.hbk.get hk
def updV (v : Nat → Value) (k : Nat) (x : Value) : Nat → Value := fun j => if j = k then x else v j
/-- A hand is another row: made by growing what it had, or a part of it. -/
theorem LH.seth (h : LH w0 P cb hb w v E) {k : Nat} (hk : k < P.t) {x : Value} {l : List Int} (ks : Th.KS (fun j => (v k).ownBlock = some j) w w') (ho : ownA w' P.N x l) (hn : ∀ b, x.ownBlock = some b → (v k).ownBlock = some b ∨ w.heap.size ≤ b) :
    LH w0 P cb hb (w'.setCell ⟨hb, k, none⟩ x) (updV v k x) (updE E k l) := by
  have hN := h.N; have hB := h.B0; have hS := h.NS
  have hty : ∀ {j : Nat} {T : TypeId} {cur : Array Value}, w.heap[j]? = some (.cells cur T (0, 0)) → T ≠ 22 → w'.heap[j]? = w.heap[j]? := fun {j T cur} hj hT => ks.block j (Th.blk_lt hj) fun e => by
    obtain ⟨c2, h2⟩ := ownA_ty (h.rw k hk) e
    rw [h2] at hj
    simp only [Option.some.injEq, Obj.cells.injEq] at hj
    exact hT hj.2.1.symm
  have hb' : Th.Blk 43 w' hb P.t v := h.hbk.of (hty h.hbk (by decide))
  have ks2 := Th.KS.set w' hb k x
  have hxb : ∀ b, x.ownBlock = some b → b ≠ hb := fun b e => by
    obtain ⟨c2, h2⟩ := ownA_ty ho e
    exact ty_ne h2 hb' (by decide)
  have hlt : ∀ j, j < P.t → ∀ b, (v j).ownBlock = some b → b < w.heap.size := fun j hj b e => by
    obtain ⟨c2, h2⟩ := ownA_ty (h.rw j hj) e
    exact Th.blk_lt h2
  refine ⟨?_, (hb'.set k x).congr fun j _ => ?_, fun j hj => ?_, fun i j hi hj hij b e => ?_, hN, ?_, h.B0, by have := ks.size; simp [World.setCell]; omega, h.NS.2⟩
  · exact (ks2.block cb (Nat.lt_of_lt_of_le (Th.blk_lt h.cf) ks.size) (by omega)).trans ((hty h.cf (by decide)).trans h.cf)
  · unfold Th.upF updV; rfl
  · unfold updV updE
    by_cases e : j = k
    · rw [if_pos e, if_pos e]
      exact ownA_kept ho fun b hb2 => by
        obtain ⟨c2, h2⟩ := ownA_ty ho hb2
        exact ks2.block b (Th.blk_lt h2) (hxb b hb2)
    · rw [if_neg e, if_neg e]
      refine ownA_kept (h.rw j hj) fun b hb2 => ?_
      obtain ⟨c2, h2⟩ := ownA_ty (h.rw j hj) hb2
      have h3 := ks.block b (Th.blk_lt h2) fun e9 => h.sep k j hk hj (Ne.symm e) b e9 hb2
      exact (ks2.block b (Nat.lt_of_lt_of_le (Th.blk_lt h2) ks.size) (ty_ne h2 h.hbk (by decide))).trans h3
  · unfold updV at e ⊢
    by_cases e1 : i = k
    · rw [if_pos e1] at e
      have e2 : j ≠ k := fun e3 => hij (by rw [e1, e3])
      rw [if_neg e2]
      rcases hn b e with h1 | h1
      · exact h.sep k j hk hj (Ne.symm e2) b h1
      · intro e3
        have := hlt j hj b e3
        omega
    · rw [if_neg e1] at e
      by_cases e2 : j = k
      · rw [if_pos e2]
        intro e3
        rcases hn b e3 with h1 | h1
        · exact h.sep i k hi hk e1 b e h1
        · have := hlt i hi b e
          omega
      · rw [if_neg e2]; exact h.sep i j hi hj hij b e
  · refine Below.setCell (p := ⟨hb, k, none⟩) ⟨ks.os.trans h.bl.os, ks.tape.trans h.bl.tape, ks.output.trans h.bl.output, Nat.le_trans h.bl.size ks.size, fun j hj => (ks.block j (Nat.lt_of_lt_of_le hj h.bl.size) fun e => ?_).trans (h.bl.block j hj)⟩ (by show _ ≤ hb; omega) x
    have := ownA_ge (h.rw k hk) j e
    omega
theorem MM.ksA {σ : Sg} (h : MM w P σ) {x : Value} {xs : List Int} (ho : ownA w P.N x xs) (ks : Th.KS (fun j => x.ownBlock = some j) w w') : MM w' P σ := by
  cases hv : x.ownBlock with
  | none => exact h.below ⟨ks.os, ks.tape, ks.output, ks.size, fun j hj => ks.block j hj fun e => by rw [hv] at e; cases e⟩
  | some X =>
    obtain ⟨cur, hc⟩ := ownA_ty ho hv
    exact h.other hc (ownA_ge ho X hv) (by decide) (by decide) (by decide) (by decide) ⟨ks.os, ks.tape, ks.output, ks.size, fun j hj hx => ks.block j hj fun e => hx (by rw [hv] at e; exact (Option.some.inj e).symm)⟩
theorem MM.ksW {σ : Sg} (h : MM w P σ) {x : Value} {A : List (Int × Int)} {B : Nat} (ho : AR w B x A) (hB : P.N ≤ B) (ks : Th.KS (fun j => x.ownBlock = some j) w w') : MM w' P σ := by
  cases hv : x.ownBlock with
  | none => exact h.below ⟨ks.os, ks.tape, ks.output, ks.size, fun j hj => ks.block j hj fun e => by rw [hv] at e; cases e⟩
  | some X =>
    obtain ⟨hge, cur, hc⟩ := ho.ty hv
    exact h.other hc (Nat.le_trans hB hge) (by decide) (by decide) (by decide) (by decide) ⟨ks.os, ks.tape, ks.output, ks.size, fun j hj hx => ks.block j hj fun e => hx (by rw [hv] at e; exact (Option.some.inj e).symm)⟩
theorem LH.ksW (h : LH w0 P cb hb w v E) {x : Value} {A : List (Int × Int)} {B : Nat} (ho : AR w B x A) (hB : P.N ≤ B) (ks : Th.KS (fun j => x.ownBlock = some j) w w') : LH w0 P cb hb w' v E := by
  cases hv : x.ownBlock with
  | none => exact h.below ⟨ks.os, ks.tape, ks.output, ks.size, fun j hj => ks.block j hj fun e => by rw [hv] at e; cases e⟩
  | some X =>
    obtain ⟨hge, cur, hc⟩ := ho.ty hv
    exact h.oth hc (Nat.le_trans hB hge) (by decide) (by decide) (by decide) ⟨ks.os, ks.tape, ks.output, ks.size, fun j hj hx => ks.block j hj fun e => hx (by rw [hv] at e; exact (Option.some.inj e).symm)⟩
/-- What was put away stays when another block is written. -/
theorem AR.oth {B : Nat} {x : Value} {A : List (Int × Int)} (h : AR w B x A) {X : Nat} {cur : Array Value} {T : TypeId} (hX : w.heap[X]? = some (.cells cur T (0, 0))) (h1 : 45 ≠ T) (ks : Th.KS (fun j => j = X) w w') : AR w' B x A :=
  h.kept fun b hb => by obtain ⟨_, c2, hc⟩ := h.ty hb; exact ks.block b (Th.blk_lt hc) (ty_ne hc hX h1)
theorem AR.ksA {B N : Nat} {x y : Value} {A : List (Int × Int)} {xs : List Int} (h : AR w B x A) (ho : ownA w N y xs) (ks : Th.KS (fun j => y.ownBlock = some j) w w') : AR w' B x A :=
  h.kept fun b hb => by
    obtain ⟨_, c2, hc⟩ := h.ty hb
    refine ks.block b (Th.blk_lt hc) fun e => ?_
    obtain ⟨c3, hc3⟩ := ownA_ty ho e
    exact ty_ne hc hc3 (by decide) rfl
end
theorem KS_grown {w w' : World} {v : Value} (h : w.grownBy w' v.ownBlock) : Th.KS (fun j => v.ownBlock = some j) w w' := ⟨h.os, h.tape, h.output, h.size, fun j hj hx => h.block j hj fun e => hx e.symm⟩
theorem run_hands (n : Nat) (hn : n ≤ 250) (w : World) : (Instr.makeSlice 32 (.int .i64 n) (.int .i64 n)).run Try.prog w = .ok (.slice (some ⟨w.heap.size, 0, none⟩) n n) (w.alloc (.cells (madeCells #[.slice none 0 0] n) 43)) := by
  have h0 : (Try.prog.info? 43).map (fun i => (i.zero, i.size, i.bytes)) = some (some (.slice none 0 0), 1, 24) := by kernel_rfl
  cases hi : Try.prog.info? 43 with
  | none => rw [hi] at h0; simp at h0
  | some i =>
    rw [hi] at h0; simp at h0
    obtain ⟨hz, hs, hb⟩ := h0
    rw [run_makeSlice w 32 43 i _ (by kernel_rfl) hi hz .i64 .i64 n n (by omega) (by omega) (by rw [hs]; omega) (by rw [hb]; omega) (by omega)]
    rw [hs]
    simp [Value.cells]
theorem made_c (u : Value) (n : Nat) : madeCells #[u] n = ((List.range n).map fun _ => u).toArray := by
  apply Array.ext'
  unfold madeCells
  simp only [Array.toList_map, Array.toList_range]
  refine List.map_congr_left fun j hj => ?_
  simp [Nat.mod_one]
end Go.Proofs.Ytaaciolfgplnoaa.Lb
