/- Layer 36: the schedule that so many others stand ahead of, by the program. -/
import Derived.Test.YtminbfingjbbbaaXplE
import Derived.Test.YtminbfingjbbbaaTurnC
namespace Go.Proofs.Ytminbfingjbbbaa
open Go.RowKit
set_option linter.unusedVariables false
set_option linter.unusedSimpArgs false
theorem tdiv_nat (a b : Nat) : Int.tdiv (a : Int) (b : Int) = ((a / b : Nat) : Int) := by rw [Int.tdiv_eq_ediv_of_nonneg (by omega)]; rfl
theorem tmod_nat (a b : Nat) : Int.tmod (a : Int) (b : Int) = ((a % b : Nat) : Int) := by rw [Int.tmod_eq_emod_of_nonneg (by omega)]; rfl
theorem grown_of_below {w w' : World} (h : Below w.heap.size w w') : w.grownBy w' none := ⟨h.os, h.tape, h.output, h.size, fun k hk _ => h.block k hk⟩
theorem upk {w w' : World} {g : Nat} {o : Obj} (k : Below w.heap.size w w') (h : w.heap[g]? = some o) : w'.heap[g]? = some o := (k.block g (Array.getElem?_eq_some_iff.1 h).1).trans h
theorem ownP_slice {w : World} {B : Nat} {v : Value} {l : PL} (h : OwnP w B v l) : ∃ p c, v = .slice p l.length c := by
  rcases h.2 with ⟨rfl, h0⟩ | ⟨g, cap, cur, hv, _⟩
  · exact ⟨none, 0, by rw [h0]⟩
  · exact ⟨_, _, hv⟩
theorem ownP_lt {w : World} {B : Nat} {v : Value} {l : PL} (h : OwnP w B v l) : ∀ k, v.ownBlock = some k → k < w.heap.size := by
  intro k hk
  rcases h.2 with ⟨rfl, _⟩ | ⟨g, cap, cur, rfl, hg, hh, _⟩
  · cases hk
  · simp only [Value.ownBlock, Option.some.injEq] at hk
    subst hk
    exact (Array.getElem?_eq_some_iff.1 hh).1
theorem p_ways (p : PL) : p = [] ∨ ∃ q x y, p = q ++ [(x, y)] := by
  rcases List.eq_nil_or_concat p with h | ⟨q, b, h⟩
  · exact .inl h
  · exact .inr ⟨q, b.1, b.2, by rw [h]; simp⟩
theorem sub_d {d k : Nat} (h : d ≤ k) (hk : k ≤ 4) : -9223372036854775808 ≤ (d : Int) - 1 ∧ (d : Int) - 1 ≤ 9223372036854775807 := by omega
theorem me_d (d : Nat) : ((intOf (.int .i64 ((d : Int) - 1))) + 1).toNat < ((intOf (.int .i64 (d : Int))) + 1).toNat := by simp [intOf]
theorem len_L {L d k : Nat} (h : L + 1 + (d + 1) = k ∧ k ≤ 4) : wrap64 ((L : Int) + 1 - 1) = (L : Int) ∧ IntKind.i64.wrap ((L : Int) + 1 - 1) = (L : Int) ∧ wrap64 (L : Int) = (L : Int) ∧ IntKind.i64.wrap (L : Int) = (L : Int) ∧ (0 : Int) ≤ (L : Int) ∧ (L : Int) < (L : Int) + 1 := by
  refine ⟨?_, ?_, ?_, ?_, by omega, by omega⟩
  · rw [wrap_id (by omega)]; omega
  · rw [wrapi_id (by omega)]; omega
  · exact wrap_id (by omega)
  · exact wrapi_id (by omega)
theorem ne_dk {d k : Nat} (h : d + 1 ≤ k) : d ≠ k := by omega
theorem le_dk {d k : Nat} (h : d + 1 ≤ k) : d ≤ k := by omega
theorem len_0 {n d k : Nat} (h : n + (d + 1) = k ∧ k ≤ 4) (hd : d + 1 = k) : n = 0 := by omega
theorem len_p {p : PL} {q : Int × Int} {d k : Nat} (h : p.length + (d + 1) = k ∧ k ≤ 4) : p.length + [q].length ≤ 1000000 := by simp; omega
theorem len_p2 {p : PL} {q : Int × Int} {d k : Nat} (h : p.length + (d + 1) = k ∧ k ≤ 4) : (p ++ [q]).length + d = k := by simp; omega
theorem size_al {U w : World} (o : Obj) (h : U.heap.size ≤ w.heap.size) : U.heap.size ≤ (w.alloc o).heap.size := by simp; omega
theorem atL_step {t m d n : Nat} {p q : PL} {x : Nat} {y : Int} (hp : p = q ++ [((x : Int), y)]) : atL t m (d + 1) n p = atL t m d (n % ((t - 1) * m) ^ d) (p ++ [(((if x ≤ n / ((t - 1) * m) ^ d / m then n / ((t - 1) * m) ^ d / m + 1 else n / ((t - 1) * m) ^ d / m : Nat) : Int), ((n / ((t - 1) * m) ^ d % m : Nat) : Int) + 1)]) := by
  subst hp
  have e := match_last q x y (n / ((t - 1) * m) ^ d / m)
  show atL t m d (n % _) (_ ++ [((_ : Int), _)]) = _
  rw [e]
theorem set_grown (W : World) (b i : Nat) (v : Value) : W.grownBy (W.setCell ⟨b, i, none⟩ v) (some b) :=
  ⟨rfl, rfl, rfl, by simp [World.setCell], fun k _ h => heap_setCell_other W ⟨b, i, none⟩ k v (fun e => h (by rw [show k = b from e]))⟩
theorem lt_sub {A t : Nat} (h : A < t - 1) : A + 1 < t := by omega
theorem in1 {n : Nat} (h : n ≤ 750000000000000) : -9223372036854775808 ≤ (n : Int) + 1 ∧ (n : Int) + 1 ≤ 9223372036854775807 := by omega
theorem ne0_int {E : Nat} (h : 0 < E) : ¬ (E : Int) = 0 := by omega
theorem nem1_int (E : Nat) : ¬ (E : Int) = -1 := by omega
set_option maxRecDepth 8000 in
set_option maxHeartbeats 2000000 in
theorem xat (t m k n : Nat) (w : World) (ht : 1 ≤ t ∧ t ≤ 6) (hm : 1 ≤ m ∧ m ≤ 1000) (hk : k ≤ 4) (hn : n < manyL t m k) :
    Calls Try.prog 11 #[.int .i64 t, .int .i64 m, .int .i64 k, .int .i64 n] w fun e w' => ∃ v, e = .returned (.tuple #[v, .bool true]) ∧ PR w' v (atL t m k n []) ∧ Below w.heap.size w w' := by
  refine Calls.veil fun Q HQ => ?_
  have HXC := Lib.hid (fun W => xcount t m k W ht hm hk)
  have hnb : (n : Int) < ((manyL t m k : Nat) : Int) := by omega
  have hn0 : ¬ (n : Int) < 0 := by omega
  have hnl : n ≤ 750000000000000 := Nat.le_of_lt (Nat.lt_of_lt_of_le hn (many_le t m ht.2 hm.2 k hk))
  obtain ⟨R, hR⟩ : ∃ R, R = atL t m k n [] := ⟨_, rfl⟩
  rw [← hR] at HQ
  have HR := Lib.hid hR
  obtain ⟨M, hM⟩ : ∃ M : Int, M = ((manyL t m k : Nat) : Int) := ⟨_, rfl⟩
  rw [← hM] at hnb HXC
  have hnb2 : ¬ M ≤ (n : Int) := by omega
  have HXB := Lib.hid (fun d (hd : d ≤ 3) W => xbehind t m d W ht hm.2 hd)
  have HTM := Lib.hid (And.intro ht hm)
  have HK := Lib.hid hk
  have HNL := Lib.hid hnl
  have HN := Lib.hid (show ∀ d, k = d + 1 → n < t * m * ((t - 1) * m) ^ d from fun d hd => by rw [← many_pow, ← hd]; exact hn)
  have kw1 : wrap64 ((k : Int) - 1) = (k : Int) - 1 := wrap_id (by omega)
  have kw2 : IntKind.i64.wrap ((k : Int) - 1) = (k : Int) - 1 := wrapi_id (by omega)
  have hm0 : ¬ (m : Int) = 0 := by omega
  clear hR hM ht hm hk hn hnl
  go_enter Try.func11, Try.ntmps11
  go_wp2_with fail
  refine (HXC.out w).mono ?_; rintro _ w1 ⟨rfl, hw1⟩
  rw [hw1]
  clear hw1
  go_wp2_with fail
  go_loopw [3, 10, 11] (fun nv lv iv wr => ∃ (d n' : Nat) (p : PL), d ≤ k ∧ nv = .int .i64 n' ∧ iv = .int .i64 ((d : Int) - 1) ∧ p.length + d = k ∧ Hid (OwnP wr w.heap.size lv p ∧ Below w.heap.size w wr) ∧ Hid (R = atL t m d n' p) ∧ Hid (n' ≤ 750000000000000 ∧ (d = k → n' = n) ∧ (d ≠ k → (n' < ((t - 1) * m) ^ d ∧ ∃ (q : PL) (x : Nat) (y : Int), x < t ∧ p = q ++ [((x : Int), y)]))))
    (fun _ _ iv _ => ((intOf iv) + 1).toNat)
  case atStart => exact ⟨k, n, [], Nat.le_refl _, rfl, rfl, by simp, Lib.hid ⟨own_nil _ _, Below.refl _ _⟩, HR, Lib.hid ⟨HNL.out, fun _ => rfl, fun h => absurd rfl h⟩⟩
  case round =>
    obtain ⟨d, n', p, hd, rfl, rfl, hpl, HO, HA, HN2⟩ := hrel
    obtain ⟨lp, lc, rfl⟩ := ownP_slice HO.out.1
    have HLT := Lib.hid (ownP_lt HO.out.1)
    have HWS := Lib.hid HO.out.2.size
    cases d with
    | zero =>
      have h0 : ¬ (0 : Int) ≤ ((0 : Nat) : Int) - 1 := by omega
      have HF := Lib.hid (show R = p from HA.out)
      go_wp2_with fail
      (try go_ret)
      rw [HQ.out, HF.out]
      exact ⟨_, rfl, own_PR HO.out.1, HO.out.2⟩
    | succ d =>
      have h0 : (0 : Int) ≤ (((d + 1 : Nat) : Int) - 1) := by omega
      have hdd : (((d + 1 : Nat) : Int) - 1) = (d : Int) := by omega
      rw [hdd] at h0 ⊢
      have HXBD := Lib.hid (fun W => HXB.out d (by have := HK.out; omega) W)
      obtain ⟨E, hE⟩ : ∃ E : Nat, E = ((t - 1) * m) ^ d := ⟨_, rfl⟩
      rw [← hE] at HXBD
      have HEE := Lib.hid hE
      clear hE
      go_wp2_with fail
      refine (HXBD.out _).mono ?_; rintro _ w2 ⟨rfl, hw2⟩
      rw [hw2]
      clear hw2
      obtain ⟨Qn, hQ⟩ : ∃ q : Nat, q = n' / E := ⟨_, rfl⟩
      obtain ⟨A, hA⟩ : ∃ q : Nat, q = Qn / m := ⟨_, rfl⟩
      obtain ⟨B, hB⟩ : ∃ q : Nat, q = Qn % m := ⟨_, rfl⟩
      obtain ⟨N2, hN2⟩ : ∃ q : Nat, q = n' % E := ⟨_, rfl⟩
      have e1 : Int.tdiv (n' : Int) (E : Int) = (Qn : Int) := by rw [hQ]; exact tdiv_nat n' E
      have e2 : Int.tdiv (Qn : Int) (m : Int) = (A : Int) := by rw [hA]; exact tdiv_nat Qn m
      have e3 : Int.tmod (Qn : Int) (m : Int) = (B : Int) := by rw [hB]; exact tmod_nat Qn m
      have e4 : Int.tmod (n' : Int) (E : Int) = (N2 : Int) := by rw [hN2]; exact tmod_nat n' E
      have bQ : Qn ≤ 750000000000000 := by rw [hQ]; exact Nat.le_trans (Nat.div_le_self _ _) HN2.out.1
      have bA : A ≤ 750000000000000 := by rw [hA]; exact Nat.le_trans (Nat.div_le_self _ _) bQ
      have bB : B < 1000 := by rw [hB]; exact Nat.lt_of_lt_of_le (Nat.mod_lt _ HTM.out.2.1) HTM.out.2.2
      have q1 := wrap_id (nat_in bQ)
      have q2 := wrapi_id (nat_in bQ)
      have q3 := wrap_id (nat_in bA)
      have q4 := wrapi_id (nat_in bA)
      have q5 : wrap64 ((B : Int) + 1) = (B : Int) + 1 := wr_k (Nat.le_trans (Nat.le_of_lt bB) (by decide))
      have q6 : IntKind.i64.wrap ((B : Int) + 1) = (B : Int) + 1 := wri_k (Nat.le_trans (Nat.le_of_lt bB) (by decide))
      have q7 : wrap64 ((A : Int) + 1) = (A : Int) + 1 := wrap_id (in1 bA)
      have q8 : IntKind.i64.wrap ((A : Int) + 1) = (A : Int) + 1 := wrapi_id (in1 bA)
      have HQQ := Lib.hid (And.intro hQ (And.intro hA (And.intro hB hN2)))
      clear hQ hA hB hN2 bQ bA bB
      have HEP := Lib.hid (show 0 < E by
        rw [HEE.out]
        by_cases hdk : d + 1 = k
        · have h1 := HN.out d hdk.symm
          exact Nat.pos_of_ne_zero fun e => by rw [e] at h1; simp at h1
        · obtain ⟨h1, _⟩ := HN2.out.2.2 hdk
          rw [Nat.pow_succ] at h1
          exact Nat.pos_of_ne_zero fun e => by rw [e] at h1; simp at h1)
      have hE0 : ¬ (E : Int) = 0 := ne0_int HEP.out
      have hE1 : ¬ (E : Int) = -1 := nem1_int E
      have hE2 : ((E : Int) == 0) = false := beq_eq_false_iff_ne.2 hE0
      have hm2 : ((m : Int) == 0) = false := beq_eq_false_iff_ne.2 hm0
      go_upto_region 8 with fail
      (with_reducible refine wp_region_mix (fun _ => True) ?_ ?_ ?_ ?_; kernel_rfl; kernel_rfl; exact trivial)
      repeat (first | ((with_reducible refine mix_plain (by kernel_rfl) ?_); (first | go_big_quiet_skip | (go_big_quiet_want; go_big_quiet_op; go_big_quiet_on)); (with_reducible refine mix_on ?_)) | ((with_reducible refine mix_skip (by kernel_rfl) ?_); go_big_quiet_skip; (with_reducible refine mix_on ?_)))
      ((with_reducible refine wpMix_chain (by kernel_rfl) (by kernel_rfl) (fun K HK => ?_)); go_step)
      refine HK.out _ _ trivial ?_
      clear HK K
      repeat (first | ((with_reducible refine mix_plain (by kernel_rfl) ?_); (first | go_big_quiet_skip | (go_big_quiet_want; go_big_quiet_op; go_big_quiet_on)); (with_reducible refine mix_on ?_)) | ((with_reducible refine mix_skip (by kernel_rfl) ?_); go_big_quiet_skip; (with_reducible refine mix_on ?_)))
      ((with_reducible refine wpMix_chain (by kernel_rfl) (by kernel_rfl) (fun K HK => ?_)); go_step)
      refine HK.out _ _ trivial ?_
      clear HK K
      refine wpMix_nil ?_
      generalize hV : World.drew _ = V
      obtain ⟨pb, hpb⟩ : ∃ x, x = wr.heap.size := ⟨_, rfl⟩
      have HV := Lib.hid (show V.heap[pb]? = some (.cells #[.int .i64 A, .int .i64 ((B : Int) + 1)] 39 (0, 0)) ∧ Below wr.heap.size wr V by
        rw [← hV, hpb]; exact ⟨heap_alloc_new wr _, ((Below.refl _ _).alloc (Nat.le_refl _) _).drew⟩)
      rw [← hpb] at HLT HWS
      rw [← hpb]
      clear hV hpb
      have HO2 := Lib.hid (show OwnP V w.heap.size (.slice lp p.length lc) p ∧ Below w.heap.size w V from ⟨World.ownsRow.kept HO.out.1 (grown_of_below HV.out.2) (by cases (Value.slice lp p.length lc).ownBlock <;> simp), below_on HO.out.2 HV.out.2⟩)
      have HPB := Lib.hid (show w.heap.size ≤ pb from HWS.out)
      clear HO
      have HPL := Lib.hid (show p.length + (d + 1) = k ∧ k ≤ 4 from ⟨hpl, HK.out⟩)
      have HDK := Lib.hid (le_dk hd)
      have HN2L := Lib.hid (show N2 ≤ 750000000000000 ∧ d ≠ k ∧ N2 < ((t - 1) * m) ^ d by
        rw [HQQ.out.2.2.2, ← HEE.out]
        exact ⟨Nat.le_trans (Nat.mod_le _ _) HN2.out.1, ne_dk hd, Nat.mod_lt _ HEP.out⟩)
      have HME := Lib.hid (me_d d)
      have hdw1 : wrap64 ((d : Int) - 1) = (d : Int) - 1 := wrap_id (sub_d HDK.out HK.out)
      have hdw2 : IntKind.i64.wrap ((d : Int) - 1) = (d : Int) - 1 := wrapi_id (sub_d HDK.out HK.out)
      clear hpl hd
      by_cases hdk : d + 1 = k
      case pos =>
        have hp : p = [] := List.eq_nil_of_length_eq_zero (len_0 HPL.out hdk)
        have HTL := Lib.hid (show A < t by
          rw [HQQ.out.2.1, HQQ.out.1]
          have h1 := HN.out d hdk.symm
          rw [← HEE.out] at h1
          have h2 : n' = n := HN2.out.2.1 hdk
          rw [h2]
          have h3 : n / E < t * m := Nat.div_lt_of_lt_mul (Nat.lt_of_lt_of_eq h1 (Nat.mul_comm _ _))
          exact Nat.div_lt_of_lt_mul (Nat.lt_of_lt_of_eq h3 (Nat.mul_comm _ _)))
        subst hp
        go_upto_region 11 with fail
        have c0 := Ext.cells (show V.cell? ⟨pb, 0, none⟩ = some (.int .i64 A) by rw [cell_of_row _ pb _ _ _ (0, 0) HV.out.1]; rfl)
        (with_reducible refine wp_region_mix (fun w' => ∃ y : Ext V, w' = y.w) ?_ ?_ ?_ ?_; kernel_rfl; kernel_rfl; exact ⟨⟨V.drew, (Below.refl _ _).drew⟩, rfl⟩)
        repeat (first | ((with_reducible refine mix_skip (by kernel_rfl) ?_); go_big_quiet_skip; (with_reducible refine mix_on ?_)) | ((with_reducible refine mix_plain (by kernel_rfl) ?_); (first | go_big_quiet_skip | (go_big_quiet_want; go_big_quiet_op; go_big_quiet_on)); (with_reducible refine mix_on ?_)))
        refine wpMix_nil ?_
        clear c0
        have HU := Lib.hid (show V.drew.heap[pb]? = some (.cells #[.int .i64 A, .int .i64 ((B : Int) + 1)] 39 (0, 0)) ∧ OwnP V.drew w.heap.size (.slice lp 0 lc) [] ∧ Below w.heap.size w V.drew from ⟨HV.out.1, World.ownsRow.kept HO2.out.1 (grown_of_below (Below.refl _ _).drew) (by cases (Value.slice lp ([] : PL).length lc).ownBlock <;> simp), HO2.out.2.drew⟩)
        generalize V.drew = U at *
        have c0 : U.cell? ⟨pb, 0, none⟩ = some (.int .i64 ((A : Int))) := by rw [cell_of_row _ pb _ _ _ (0, 0) HU.out.1]; rfl
        have c1 : U.cell? ⟨pb, 1, none⟩ = some (.int .i64 ((B : Int) + 1)) := by rw [cell_of_row _ pb _ _ _ (0, 0) HU.out.1]; rfl
        go_wp2_with (at_builtin; refine wpList_append_pr rfl (.tmp 69) (.tmp 71) rfl w.heap.size _ [] rfl (World.ownsRow.alloc HU.out.2.1 _) _ [((A : Int), (B : Int) + 1)] rfl PR.single (len_p HPL.out) (size_al _ HU.out.2.2.size) ?_)
        intro v1 w1 hown hg
        have H1 := Lib.hid (And.intro hown (grow_step (W := w) (World.ownsRow.alloc HU.out.2.1 _) (HU.out.2.2.alloc HU.out.2.2.size _) (Nat.le_refl _) hg))
        clear hown hg c0 c1
        go_wp2_with fail
        go_roundw
        case rel => exact ⟨d, N2, [] ++ [((A : Int), (B : Int) + 1)], HDK.out, rfl, rfl, len_p2 HPL.out, H1, Lib.hid (by rw [HA.out, HQQ.out.2.2.2, HQQ.out.2.2.1, HQQ.out.2.1, HQQ.out.1, HEE.out]; rfl), Lib.hid ⟨HN2L.out.1, fun h => absurd h HN2L.out.2.1, fun _ => ⟨HN2L.out.2.2, [], A, (B : Int) + 1, HTL.out, rfl⟩⟩⟩
        case measure => exact HME.out
      case neg =>
        obtain ⟨_, q, x, y, hx, hp⟩ := HN2.out.2.2 hdk
        have HA1 := Lib.hid (show A < t - 1 by
          have h1 := (HN2.out.2.2 hdk).1
          rw [Nat.pow_succ, ← HEE.out] at h1
          rw [HQQ.out.2.1, HQQ.out.1]
          exact Nat.div_lt_of_lt_mul (Nat.lt_of_lt_of_eq (Nat.div_lt_of_lt_mul h1) (Nat.mul_comm _ _)))
        obtain ⟨L, hL⟩ : ∃ L, L = q.length := ⟨_, rfl⟩
        have hpl2 : p.length = L + 1 := by rw [hp, hL]; simp
        obtain ⟨g, o, c9, hg, _, _, HCS⟩ := (own_PR HO2.out.1).opened (by rw [hpl2]; exact Nat.succ_pos _)
        injection hg with hg1 hg2 hg3
        subst hg1
        have hcl := (HCS.out L (by rw [hpl2]; exact Nat.lt_succ_self _)).1
        rw [show ky p L = (x : Int) by rw [hp, hL]; simp [ky, List.getD_eq_getElem?_getD]] at hcl
        have HPX := Lib.hid hp
        have HXT := Lib.hid hx
        rw [hpl2] at HO2 ⊢
        obtain ⟨hLw1, hLw2, hLw3, hLw4, hL0, hL1⟩ := len_L (L := L) (d := d) (k := k) (by rw [← hpl2]; exact HPL.out)
        clear hp hL hx hg2 hg3
        go_upto_region 11 with fail
        have c0 := Ext.cells (show V.cell? ⟨pb, 0, none⟩ = some (.int .i64 A) by rw [cell_of_row _ pb _ _ _ (0, 0) HV.out.1]; rfl)
        have d0 := Ext.cells hcl
        have HPB2 := Lib.hid (show ∀ b, (Value.slice (some (⟨g, o, none⟩ : Addr)) (L + 1) lc).ownBlock = some b → b ≠ pb from fun b hb => by
          exact Nat.ne_of_lt (HLT.out b hb))
        by_cases hxa : x ≤ A
        · have hxi : (x : Int) ≤ (A : Int) := Int.ofNat_le.2 hxa
          have HXA := Lib.hid hxa
          clear hxa
          (with_reducible refine wp_region_mix (fun w' => ∃ y : Ext V, w' = y.w) ?_ ?_ ?_ ?_; kernel_rfl; kernel_rfl; exact ⟨⟨V.drew, (Below.refl _ _).drew⟩, rfl⟩)
          repeat (first | ((with_reducible refine mix_skip (by kernel_rfl) ?_); go_big_quiet_skip; (with_reducible refine mix_on ?_)) | ((with_reducible refine mix_plain (by kernel_rfl) ?_); (first | go_big_quiet_skip | (go_big_quiet_want; go_big_quiet_op; go_big_quiet_on)); (with_reducible refine mix_on ?_)))
          refine wpMix_nil ?_
          have HTL := Lib.hid (lt_sub HA1.out)
          have hr8 : V.drew.heap[pb]? = some (.cells #[.int .i64 A, .int .i64 ((B : Int) + 1)] 39 (0, 0)) := HV.out.1
          have HV2 := Lib.hid (show V.drew.heap[pb]? = some (.cells #[.int .i64 A, .int .i64 ((B : Int) + 1)] 39 (0, 0)) ∧ OwnP V.drew w.heap.size (.slice (some ⟨g, o, none⟩) (L + 1) lc) p ∧ Below w.heap.size w V.drew from ⟨HV.out.1, World.ownsRow.kept HO2.out.1 (grown_of_below (Below.refl _ _).drew) (by cases (Value.slice (some (⟨g, o, none⟩ : Addr)) (L + 1) lc).ownBlock <;> simp), HO2.out.2.drew⟩)
          have HRL := Lib.hid (show R = atL t m d N2 (p ++ [((A : Int) + 1, (B : Int) + 1)]) by
            rw [HA.out, atL_step HPX.out, HQQ.out.2.2.2, HQQ.out.2.2.1, HEE.out, ← HEE.out, ← HQQ.out.1, ← HQQ.out.2.1, if_pos HXA.out]
            push_cast; rfl)
          clear c0 d0
          generalize V.drew = U0 at *
          have c0 : U0.cell? ⟨pb, 0, none⟩ = some (.int .i64 A) := by rw [cell_of_row _ pb _ _ _ (0, 0) hr8]; rfl
          have f0 : U0.frozen? ⟨pb, 0, none⟩ = false := frozen_of_row _ _ _ _ _ hr8
          clear hr8
          go_upto_region 13 with fail
          generalize hU : World.setCell _ _ _ = U
          have HU := Lib.hid (show U.heap[pb]? = some (.cells #[.int .i64 ((A : Int) + 1), .int .i64 ((B : Int) + 1)] 39 (0, 0)) ∧ OwnP U w.heap.size (.slice (some ⟨g, o, none⟩) (L + 1) lc) p ∧ Below w.heap.size w U by
            rw [← hU]
            exact ⟨heap_setCell_same _ pb 0 _ _ _ HV2.out.1, World.ownsRow.kept HV2.out.2.1 (set_grown _ pb 0 _) (.inr fun e => absurd rfl (HPB2.out pb e)), HV2.out.2.2.setCell (p := ⟨pb, 0, none⟩) HPB.out _⟩)
          clear hU c0 f0
          have c0 : U.cell? ⟨pb, 0, none⟩ = some (.int .i64 ((A : Int) + 1)) := by rw [cell_of_row _ pb _ _ _ (0, 0) HU.out.1]; rfl
          have c1 : U.cell? ⟨pb, 1, none⟩ = some (.int .i64 ((B : Int) + 1)) := by rw [cell_of_row _ pb _ _ _ (0, 0) HU.out.1]; rfl
          go_wp2_with (at_builtin; refine wpList_append_pr rfl (.tmp 69) (.tmp 71) rfl w.heap.size _ p rfl (World.ownsRow.alloc HU.out.2.1 _) _ [((A : Int) + 1, (B : Int) + 1)] rfl PR.single (len_p HPL.out) (size_al _ HU.out.2.2.size) ?_)
          intro v1 w1 hown hg
          have H1 := Lib.hid (And.intro hown (grow_step (W := w) (World.ownsRow.alloc HU.out.2.1 _) (HU.out.2.2.alloc HU.out.2.2.size _) (Nat.le_refl _) hg))
          clear hown hg c0 c1
          go_wp2_with fail
          go_roundw
          case rel => exact ⟨d, N2, p ++ [((A : Int) + 1, (B : Int) + 1)], HDK.out, rfl, rfl, len_p2 HPL.out, H1, Lib.hid HRL.out, Lib.hid ⟨HN2L.out.1, fun h => absurd h HN2L.out.2.1, fun _ => ⟨HN2L.out.2.2, p, (A + 1), (B : Int) + 1, HTL.out, (by push_cast; rfl)⟩⟩⟩
          case measure => exact HME.out
        · have hxi : ¬ (x : Int) ≤ (A : Int) := fun h => hxa (Int.ofNat_le.1 h)
          have HXA := Lib.hid hxa
          clear hxa
          (with_reducible refine wp_region_mix (fun w' => ∃ y : Ext V, w' = y.w) ?_ ?_ ?_ ?_; kernel_rfl; kernel_rfl; exact ⟨⟨V.drew, (Below.refl _ _).drew⟩, rfl⟩)
          repeat (first | ((with_reducible refine mix_skip (by kernel_rfl) ?_); go_big_quiet_skip; (with_reducible refine mix_on ?_)) | ((with_reducible refine mix_plain (by kernel_rfl) ?_); (first | go_big_quiet_skip | (go_big_quiet_want; go_big_quiet_op; go_big_quiet_on)); (with_reducible refine mix_on ?_)))
          refine wpMix_nil ?_
          have HTL := Lib.hid (show A < t from Nat.lt_of_lt_of_le (HA1.out) (Nat.sub_le _ _))
          have HU := Lib.hid (show V.drew.heap[pb]? = some (.cells #[.int .i64 A, .int .i64 ((B : Int) + 1)] 39 (0, 0)) ∧ OwnP V.drew w.heap.size (.slice (some ⟨g, o, none⟩) (L + 1) lc) p ∧ Below w.heap.size w V.drew from ⟨HV.out.1, World.ownsRow.kept HO2.out.1 (grown_of_below (Below.refl _ _).drew) (by cases (Value.slice (some (⟨g, o, none⟩ : Addr)) (L + 1) lc).ownBlock <;> simp), HO2.out.2.drew⟩)
          have HRL := Lib.hid (show R = atL t m d N2 (p ++ [((A : Int), (B : Int) + 1)]) by
            rw [HA.out, atL_step HPX.out, HQQ.out.2.2.2, HQQ.out.2.2.1, HQQ.out.2.1, HQQ.out.1, HEE.out, ← HEE.out, ← HQQ.out.1, ← HQQ.out.2.1, if_neg HXA.out])
          clear c0 d0
          generalize V.drew = U at *
          have c0 : U.cell? ⟨pb, 0, none⟩ = some (.int .i64 ((A : Int))) := by rw [cell_of_row _ pb _ _ _ (0, 0) HU.out.1]; rfl
          have c1 : U.cell? ⟨pb, 1, none⟩ = some (.int .i64 ((B : Int) + 1)) := by rw [cell_of_row _ pb _ _ _ (0, 0) HU.out.1]; rfl
          go_wp2_with (at_builtin; refine wpList_append_pr rfl (.tmp 69) (.tmp 71) rfl w.heap.size _ p rfl (World.ownsRow.alloc HU.out.2.1 _) _ [((A : Int), (B : Int) + 1)] rfl PR.single (len_p HPL.out) (size_al _ HU.out.2.2.size) ?_)
          intro v1 w1 hown hg
          have H1 := Lib.hid (And.intro hown (grow_step (W := w) (World.ownsRow.alloc HU.out.2.1 _) (HU.out.2.2.alloc HU.out.2.2.size _) (Nat.le_refl _) hg))
          clear hown hg c0 c1
          go_wp2_with fail
          go_roundw
          case rel => exact ⟨d, N2, p ++ [((A : Int), (B : Int) + 1)], HDK.out, rfl, rfl, len_p2 HPL.out, H1, Lib.hid HRL.out, Lib.hid ⟨HN2L.out.1, fun h => absurd h HN2L.out.2.1, fun _ => ⟨HN2L.out.2.2, p, A, (B : Int) + 1, HTL.out, rfl⟩⟩⟩
          case measure => exact HME.out
end Go.Proofs.Ytminbfingjbbbaa
