/- Layer 14: ScriptBack. (By gen_takw.py.) -/
import Derived.Test.YtnikggdnlijkkaaTakV
import Derived.Test.YtnikggdnlijkkaaTakT
import Derived.Test.YtnikggdnlijkkaaScrT
namespace Go.Proofs.Ytnikggdnlijkkaa
open Go.RowKit WordM
set_option linter.unusedVariables false
set_option linter.unusedSimpArgs false
theorem sameR_refl (L : Nat → Ent) (n : Nat) : sameR L L n = true := by simp [sameR, sameEnt]
theorem sameS_refl (T S K : Int) (n : Nat) (L : Nat → Ent) : sameS T S K n L T S K n L = true := by simp [sameS, sameR_refl]
theorem byL_bd (x : Int) (m : Nat) : ∀ y ∈ byL x m, 0 ≤ y ∧ y ≤ 255 := by
  intro y hy
  simp only [byL, List.mem_map] at hy
  obtain ⟨j, _, rfl⟩ := hy
  exact fieldI_byte x _
theorem entB_bd (e : Ent) : ∀ y ∈ entB e, 0 ≤ y ∧ y ≤ 255 := by
  intro y hy
  unfold entB callB at hy
  split at hy <;> simp only [List.mem_append, List.not_mem_nil, or_false] at hy
  · rcases hy with h | h | h | h | h | h <;> exact byL_bd _ _ _ h
  · exact byL_bd _ _ _ hy
theorem encL_bd (L : Nat → Ent) : ∀ n, ∀ y ∈ encL L n, 0 ≤ y ∧ y ≤ 255
  | 0 => by simp [encL]
  | n + 1 => by
    intro y hy
    rw [encL, List.mem_append] at hy
    rcases hy with h | h
    · exact encL_bd L n y h
    · exact entB_bd _ y h
theorem putL_bd (T S K : Int) (n : Nat) (L : Nat → Ent) : ∀ y ∈ headL T S K ++ encL L n, 0 ≤ y ∧ y ≤ 255 := by
  intro y hy
  simp only [headL, List.mem_append] at hy
  rcases hy with ((h | h) | h) | h
  · exact byL_bd _ _ _ h
  · exact byL_bd _ _ _ h
  · exact byL_bd _ _ _ h
  · exact encL_bd _ _ _ h
def strOf (xs : List Int) : ByteArray := ⟨(xs.map fun x => UInt8.ofNat x.toNat).toArray⟩
theorem u8_of (x : Int) (h0 : 0 ≤ x) (h1 : x ≤ 255) : ((UInt8.ofNat x.toNat).toNat : Int) = x := by
  rw [UInt8.toNat_ofNat_of_lt' (by show x.toNat < 256; omega)]
  omega
theorem conv_own {w : World} {B : Nat} {v : Value} {xs : List Int} (h : OwnB w B v xs) (h0 : 0 < xs.length) (hx : ∀ x ∈ xs, 0 ≤ x ∧ x ≤ 255) :
    ∀ w', Below w.heap.size w w' → (convert 22 9 v).run Try.prog w' = .ok (.string (strOf xs)) w' := by
  intro w' hb
  have h := own_kept h hb
  have HC := fun g (hg : v.ownBlock = some g) => h.cells hg
  rcases h.2 with ⟨rfl, h1⟩ | ⟨g, cap, cur, rfl, _⟩
  · exact absurd h1 (Nat.ne_of_gt h0)
  · have hs : ∀ (m : Nat) (l : List UInt8), m = l.length → (∀ j (hj : j < l.length), w'.cell? ((⟨g, 0, none⟩ : Addr).add j) = some (.int .u8 (l[j].toNat : Int))) → (convert 22 9 (.slice (some ⟨g, 0, none⟩) m cap)).run Try.prog w' = .ok (.string ⟨l.toArray⟩) w' := by
      intro m l hm hc
      subst hm
      exact run_convert_bytes_back w' 22 9 5 ⟨g, 0, none⟩ cap l uBL uU8 uStr hc
    unfold strOf
    refine hs _ _ (by rw [List.length_map]) ?_
    intro j hj
    have hj' : j < xs.length := by rw [List.length_map] at hj; exact hj
    have hb := hx xs[j] (List.getElem_mem hj')
    have hc := HC g rfl j (.int .u8 xs[j]) (by rw [bcells, List.getElem?_map, List.getElem?_eq_getElem hj']; rfl)
    rw [hc, List.getElem_map, u8_of _ hb.1 hb.2]
theorem own_BR {w : World} {B : Nat} {v : Value} {xs : List Int} (h : OwnB w B v xs) : BR w v xs.length (getL xs) := by
  have HC := fun g (hg : v.ownBlock = some g) => h.cells hg
  rcases h.2 with ⟨rfl, h1⟩ | ⟨g, cap, cur, rfl, hb, hh, hc, hm, _⟩
  · have : xs = [] := List.eq_nil_of_length_eq_zero h1
    subst this; exact .nil _
  · refine .row g 0 xs.length cap _ hc hm fun i hi => ?_
    have := HC g rfl i (.int .u8 xs[i]) (by rw [bcells, List.getElem?_map, List.getElem?_eq_getElem hi]; rfl)
    rw [addE] at this
    rw [this]
    unfold getL
    simp [List.getD_eq_getElem?_getD, hi]
theorem conv_br {w : World} {v : Value} {n : Nat} {E : Nat → Int} (h : BR w v n E) (h0 : 0 < n) (hE : BY E) : ∀ w', Below w.heap.size w w' → (convert 22 9 v).run Try.prog w' = .ok (.string (strOf (listD E n))) w' := by
  intro w' hb
  obtain ⟨g, o, c, rfl, _, _, hc⟩ := (h.below hb).parts h0
  have hs : ∀ (m : Nat) (l : List UInt8), m = l.length → (∀ j (hj : j < l.length), w'.cell? ((⟨g, o, none⟩ : Addr).add j) = some (.int .u8 (l[j].toNat : Int))) → (convert 22 9 (.slice (some ⟨g, o, none⟩) m c)).run Try.prog w' = .ok (.string ⟨l.toArray⟩) w' := by
    intro m l hm hc
    subst hm
    exact run_convert_bytes_back w' 22 9 5 ⟨g, o, none⟩ c l uBL uU8 uStr hc
  unfold strOf
  refine hs _ _ (by rw [List.length_map, listD_len]) ?_
  intro j hj
  have hj' : j < n := by rw [List.length_map, listD_len] at hj; exact hj
  have hd := hE j
  rw [addE, hc j hj', List.getElem_map]
  have e : (listD E n)[j]'(by rw [listD_len]; exact hj') = E j := by simp [listD]
  rw [e, u8_of _ hd.1 hd.2]
theorem sameS_of {T S K : Int} {n : Nat} {L M : Nat → Ent} (h : ∀ i, i < n → L i = M i) : sameS T S K n L T S K n M = true := by
  unfold sameS sameR
  rw [Bool.and_eq_true]
  refine ⟨decide_eq_true ⟨rfl, rfl, rfl, rfl⟩, ?_⟩
  rw [List.all_eq_true]
  intro i hi
  rw [h i (by simpa using hi)]
  simp [sameEnt]
theorem cl_id {lo hi x : Int} (h1 : lo ≤ x) (h2 : x ≤ hi) : cl lo hi x = x := by unfold cl; omega
theorem cl_bd {lo hi x : Int} (h : lo ≤ hi) : lo ≤ cl lo hi x ∧ cl lo hi x ≤ hi := by unfold cl; omega
set_option maxRecDepth 16000 in
set_option maxHeartbeats 8000000 in
theorem back_main (T S K : Int) (n : Nat) (L : Nat → Ent) (v : Value) (m : Nat) (E : Nat → Int) (vb : Value) (w : World) (hE : ER w v n L) (hw : ∀ i, WfE (L i)) (hb : BR w vb m E) (hD : BY E) (hn : n ≤ 1000) (hm : m ≤ 5000) :
    Calls Try.prog 4 #[.agg #[.int .i64 T, .int .i64 S, .int .u64 K, v], vb] w fun e w' => e = .returned (.bool true) ∧ Below w.heap.size w w' := by
  refine Calls.veil fun Q HQ => ?_
  have HE := Lib.hid hE
  have HBR0 := Lib.hid hb
  have HW := Lib.hid hw
  obtain ⟨p, c, rfl, a1, a2⟩ := hE.slice
  obtain ⟨pb, cb, rfl, b1, b2⟩ := hb.slice
  obtain ⟨T2, S2, K2, cnt2, e2, hTR⟩ := take_ex E m
  have HTR := Lib.hid hTR
  obtain ⟨ct, hct⟩ : ∃ x, x = cl 1 6 T := ⟨_, rfl⟩
  obtain ⟨cs, hcs⟩ : ∃ x, x = cl 7 250 S := ⟨_, rfl⟩
  obtain ⟨ck, hck⟩ : ∃ x, x = cl 1 1099511627776 K := ⟨_, rfl⟩
  obtain ⟨mn, hmn⟩ : ∃ x, x = min n 60000 := ⟨_, rfl⟩
  have q1 : 1 ≤ ct ∧ ct ≤ 6 := by rw [hct]; exact cl_bd (by decide)
  have q2 : 7 ≤ cs ∧ cs ≤ 250 := by rw [hcs]; exact cl_bd (by decide)
  have q3 : 1 ≤ ck ∧ ck ≤ 1099511627776 := by rw [hck]; exact cl_bd (by decide)
  have hmn2 : mn = n := by omega
  have HN := Lib.hid (And.intro hn hm)
  have SC : Hid (∀ (X : World), ER X (.slice p n c) n L → Calls Try.prog 11 #[.agg #[.int .i64 T, .int .i64 S, .int .u64 K, .slice p n c]] X fun e w' => ∃ v', e = .returned (.agg #[.int .i64 ct, .int .i64 cs, .int .u64 ck, v']) ∧ ER w' v' mn L ∧ Below X.heap.size X w') := Lib.hid fun X hx => by
    rw [hct, hcs, hck, hmn]; exact sclean T S K n L _ X hx (by omega)
  have SC2 : Hid (∀ (X : World) (sv : Value), ER X sv mn L → Calls Try.prog 11 #[.agg #[.int .i64 ct, .int .i64 cs, .int .u64 ck, sv]] X fun e w' => ∃ v', e = .returned (.agg #[.int .i64 ct, .int .i64 cs, .int .u64 ck, v']) ∧ ER w' v' mn L ∧ Below X.heap.size X w') := Lib.hid fun X sv hx => by
    have h := sclean ct cs ck mn L sv X hx (by omega)
    rw [cl_id q1.1 q1.2, cl_id q2.1 q2.2, cl_id q3.1 q3.2, show min mn 60000 = mn by omega] at h
    exact h
  have RMC : Hid (∀ X, Calls Try.prog 12 #[.agg #[.int .i64 ct, .int .i64 cs, .int .u64 ck]] X fun e w' => e = .returned (.bool true) ∧ Below X.heap.size X w') := Lib.hid fun X => by
    have h := rmayC ct cs ck X
    rw [show mayC ct cs ck = true from decide_eq_true ⟨q1.1, q1.2, q2.1, q2.2, q3.1, q3.2⟩] at h
    exact h
  have SS2 : Hid (∀ (X : World) (va vc : Value), ER X va mn L → ER X vc mn L → Calls Try.prog 10 #[.agg #[.int .i64 ct, .int .i64 cs, .int .u64 ck, va], .agg #[.int .i64 ct, .int .i64 cs, .int .u64 ck, vc]] X fun e w' => e = .returned (.bool true) ∧ Below X.heap.size X w') := Lib.hid fun X va vc h1 h2 => by
    have h := ssame ct cs ck mn L ct cs ck mn L va vc X h1 h2 (by omega)
    rw [sameS_refl] at h
    exact h
  have HCL := Lib.hid (And.intro hct (And.intro hcs (And.intro hck hmn2)))
  have i1 : ¬ (1000 : Int) < (n : Int) := by omega
  have i2 : ¬ (5000 : Int) < (m : Int) := by omega
  clear hE hb hw hct hcs hck hmn hmn2 q1 q2 q3 hn hm
  go_enter Try.func4, Try.ntmps4
  go_upto_region 1 with fail
  generalize hV : World.alloc w _ = V
  have z0 : ∀ x : Ext V, x.w.cell? ⟨w.heap.size, 0, none⟩ = some (.int .i64 T) := Ext.made hV 0 _ rfl
  have z1 : ∀ x : Ext V, x.w.cell? ⟨w.heap.size, 1, none⟩ = some (.int .i64 S) := Ext.made hV 1 _ rfl
  have z2 : ∀ x : Ext V, x.w.cell? ⟨w.heap.size, 2, none⟩ = some (.int .u64 K) := Ext.made hV 2 _ rfl
  have z3 : ∀ x : Ext V, x.w.cell? ⟨w.heap.size, 3, none⟩ = some (.slice p n c) := Ext.made hV 3 _ rfl
  have HBV := Lib.hid (show Below w.heap.size w V by rw [← hV]; exact below_new (Below.refl _ _) _)
  clear hV
  have Z := Lib.hid (And.intro z0 (And.intro z1 (And.intro z2 z3)))
  have HBR := Lib.hid (HBR0.out.below HBV.out)
  have HEV := Lib.hid (HE.out.below HBV.out)
  have SC : Hid (∀ (X : World), Below V.heap.size V X → Calls Try.prog 11 #[.agg #[.int .i64 T, .int .i64 S, .int .u64 K, .slice p n c]] X fun e w' => ∃ v', e = .returned (.agg #[.int .i64 ct, .int .i64 cs, .int .u64 ck, v']) ∧ ER w' v' mn L ∧ Below X.heap.size X w') := Lib.hid fun X hx => SC.out X (HEV.out.below hx)
  have TK : Hid (∀ (X : World), Below V.heap.size V X → Calls Try.prog 6 #[.slice pb m cb] X fun E' w' => ∃ sl, E' = .returned (.tuple #[.agg #[.int .i64 T2, .int .i64 S2, .int .u64 K2, sl], .int .i64 e2]) ∧ ER w' sl cnt2 (entAt E) ∧ Below X.heap.size X w') := Lib.hid fun X hx => stake E m _ X (HBR.out.below hx) hD T2 S2 K2 cnt2 e2 HTR.out
  have c0 := z0 ⟨V, Below.refl _ _⟩; have c1 := z1 ⟨V, Below.refl _ _⟩; have c2 := z2 ⟨V, Below.refl _ _⟩; have c3 := z3 ⟨V, Below.refl _ _⟩
  simp only at c0 c1 c2 c3
  clear z0 z1 z2 z3 hTR
  go_wp2_with fail
  cases hmay : mayS T S K n L
  · refine (sputS0 T S K n L _ V HEV.out (by have := HN.out; omega) hmay).mono ?_; rintro _ w1 ⟨rfl, hb1⟩
    have HX := Lib.hid hb1
    clear hb1 c0 c1 c2 c3 i1 i2
    go_wp2_with fail
    refine (TK.out w1 HX.out).mono ?_; rintro _ wt ⟨sl, rfl, hsl, hbt⟩
    have HT1 := Lib.hid (below_on HX.out hbt)
    obtain ⟨pt, ct1, rfl, _, _⟩ := hsl.slice
    have HSL := Lib.hid hsl
    clear hbt hsl
    by_cases he : e2 = 0
    · subst he
      have hTP := take_put hD HTR.out
      have HTP := Lib.hid hTP
      have h11 : 0 < m := by have := hTP.2.2; omega
      have CB := Lib.hid (conv_br HBR.out h11 hD)
      clear hTP h11
      go_upto_region 10 with fail
      generalize hVt : World.alloc wt _ = Vt
      have y0 : Vt.cell? ⟨wt.heap.size, 0, none⟩ = some (.int .i64 T2) := Ext.made hVt 0 _ rfl ⟨Vt, Below.refl _ _⟩
      have y1 : Vt.cell? ⟨wt.heap.size, 1, none⟩ = some (.int .i64 S2) := Ext.made hVt 1 _ rfl ⟨Vt, Below.refl _ _⟩
      have y2 : Vt.cell? ⟨wt.heap.size, 2, none⟩ = some (.int .u64 K2) := Ext.made hVt 2 _ rfl ⟨Vt, Below.refl _ _⟩
      have y3 : Vt.cell? ⟨wt.heap.size, 3, none⟩ = some (.slice pt cnt2 ct1) := Ext.made hVt 3 _ rfl ⟨Vt, Below.refl _ _⟩
      have HVt := Lib.hid (show ER Vt (.slice pt cnt2 ct1) cnt2 (entAt E) ∧ Below V.heap.size V Vt by rw [← hVt]; exact ⟨HSL.out.alloc _, below_new HT1.out _⟩)
      clear hVt
      go_wp2_with fail
      refine (sputS T2 S2 K2 cnt2 _ _ Vt HVt.out.1 HTP.out.1).mono ?_; rintro _ wp ⟨B2, v2, rfl, ho2, hbp⟩
      rw [HTP.out.2.1] at ho2
      have hv2 := conv_own ho2 (by rw [listD_len]; have := HTP.out.2.2; omega) (fun x hx => by
        simp only [listD, List.mem_map] at hx
        obtain ⟨j, _, rfl⟩ := hx
        exact hD j) wp (Below.refl _ _)
      have HP1 := Lib.hid (below_on HVt.out.2 hbp)
      have hv3 := CB.out wp HP1.out
      clear ho2 hbp y0 y1 y2 y3 CB
      generalize strOf (listD E m) = str at *
      go_upto_region 13 with fail
      clear hv2 hv3
      have x0 := Z.out.1 ⟨wp, HP1.out⟩; have x1 := Z.out.2.1 ⟨wp, HP1.out⟩; have x2 := Z.out.2.2.1 ⟨wp, HP1.out⟩; have x3 := Z.out.2.2.2 ⟨wp, HP1.out⟩
      simp only at x0 x1 x2 x3
      go_wp2_with fail
      refine (SC.out wp HP1.out).mono ?_; rintro _ wa ⟨sv, rfl, hsv, hba⟩
      have HA := Lib.hid (below_on HP1.out hba)
      obtain ⟨pa, ca, rfl, _, _⟩ := hsv.slice
      have HSV := Lib.hid hsv
      clear hba hsv x0 x1 x2 x3
      go_upto_region 14 with fail
      generalize hVa : World.alloc wa _ = Va
      have u0 : ∀ x : Ext Va, x.w.cell? ⟨wa.heap.size, 0, none⟩ = some (.int .i64 ct) := Ext.made hVa 0 _ rfl
      have u1 : ∀ x : Ext Va, x.w.cell? ⟨wa.heap.size, 1, none⟩ = some (.int .i64 cs) := Ext.made hVa 1 _ rfl
      have u2 : ∀ x : Ext Va, x.w.cell? ⟨wa.heap.size, 2, none⟩ = some (.int .u64 ck) := Ext.made hVa 2 _ rfl
      have u3 : ∀ x : Ext Va, x.w.cell? ⟨wa.heap.size, 3, none⟩ = some (.slice pa mn ca) := Ext.made hVa 3 _ rfl
      have HV := Lib.hid (show ER Va (.slice pa mn ca) mn L ∧ Below w.heap.size w Va by rw [← hVa]; exact ⟨HSV.out.alloc _, below_new (below_on HBV.out HA.out) _⟩)
      clear hVa
      generalize wa.heap.size = ba at *
      (with_reducible refine wp_region_mix (fun w' => ∃ y : Ext Va, w' = y.w) ?_ ?_ ?_ ?_; kernel_rfl; kernel_rfl; exact ⟨⟨Va.drew, (Below.refl _ _).drew⟩, rfl⟩)
      repeat (first | ((with_reducible refine mix_skip (by kernel_rfl) ?_); go_big_quiet_skip; (with_reducible refine mix_on ?_)) | ((with_reducible refine mix_plain (by kernel_rfl) ?_); (first | go_big_quiet_skip | (go_big_quiet_want; go_big_quiet_op; go_big_quiet_on)); (with_reducible refine mix_on ?_)))
      ((with_reducible refine wpMix_chain (by kernel_rfl) (by kernel_rfl) (fun K HK => ?_)); go_step)
      refine (RMC.out _).mono ?_; rintro _ wb ⟨rfl, hbb⟩
      have HB1 := Lib.hid (show Below Va.heap.size Va wb from below_on (Below.refl _ _).drew hbb)
      refine HK.out _ _ ⟨⟨wb, HB1.out⟩, rfl⟩ ?_
      clear HK K hbb
      repeat (first | ((with_reducible refine mix_skip (by kernel_rfl) ?_); go_big_quiet_skip; (with_reducible refine mix_on ?_)) | ((with_reducible refine mix_plain (by kernel_rfl) ?_); (first | go_big_quiet_skip | (go_big_quiet_want; go_big_quiet_op; go_big_quiet_on)); (with_reducible refine mix_on ?_)))
      ((with_reducible refine wpMix_chain (by kernel_rfl) (by kernel_rfl) (fun K HK => ?_)); go_step)
      refine (SC2.out wb _ (HV.out.1.below HB1.out)).mono ?_; rintro _ wc ⟨sv, rfl, hsv, hbc⟩
      have HB2 := Lib.hid (below_on HB1.out hbc)
      obtain ⟨pc, cc, rfl, _, _⟩ := hsv.slice
      have HSC := Lib.hid hsv
      refine HK.out _ _ ⟨⟨wc, HB2.out⟩, rfl⟩ ?_
      clear HK K hbc hsv
      repeat (first | ((with_reducible refine mix_skip (by kernel_rfl) ?_); go_big_quiet_skip; (with_reducible refine mix_on ?_)) | ((with_reducible refine mix_plain (by kernel_rfl) ?_); (first | go_big_quiet_skip | (go_big_quiet_want; go_big_quiet_op; go_big_quiet_on)); (with_reducible refine mix_on ?_)))
      ((with_reducible refine wpMix_chain (by kernel_rfl) (by kernel_rfl) (fun K HK => ?_)); go_step)
      refine (SS2.out wc _ _ HSC.out (HV.out.1.below HB2.out)).mono ?_; rintro _ wd ⟨rfl, hbd⟩
      have HB3 := Lib.hid (below_on HB2.out hbd)
      refine HK.out _ _ ⟨⟨wd, HB3.out⟩, rfl⟩ ?_
      clear HK K hbd
      repeat (first | ((with_reducible refine mix_skip (by kernel_rfl) ?_); go_big_quiet_skip; (with_reducible refine mix_on ?_)) | ((with_reducible refine mix_plain (by kernel_rfl) ?_); (first | go_big_quiet_skip | (go_big_quiet_want; go_big_quiet_op; go_big_quiet_on)); (with_reducible refine mix_on ?_)))
      ((with_reducible refine wpMix_chain (by kernel_rfl) (by kernel_rfl) (fun K HK => ?_)); go_step)
      refine (lives14_calls wd).mono ?_; rintro _ we ⟨rfl, hbe⟩
      have HB4 := Lib.hid (below_on HB3.out hbe)
      refine HK.out _ _ ⟨⟨we, HB4.out⟩, rfl⟩ ?_
      clear HK K hbe
      repeat (first | ((with_reducible refine mix_skip (by kernel_rfl) ?_); go_big_quiet_skip; (with_reducible refine mix_on ?_)) | ((with_reducible refine mix_plain (by kernel_rfl) ?_); (first | go_big_quiet_skip | (go_big_quiet_want; go_big_quiet_op; go_big_quiet_on)); (with_reducible refine mix_on ?_)))
      refine wpMix_nil ?_
      have HF := Lib.hid (below_on HV.out.2 HB4.out)
      go_wp2_with fail
      (try go_ret)
      rw [HQ.out]
      exact ⟨rfl, HF.out⟩
    · have he1 : (e2 == 0) = false := by simp [he]
      have he2 : decide (e2 = 0) = false := decide_eq_false he
      go_upto_region 13 with fail
      generalize hVt : World.alloc wt _ = Vt
      have HP1 := Lib.hid (show Below V.heap.size V Vt by rw [← hVt]; exact below_new HT1.out _)
      clear hVt he1 he2 he
      have x0 := Z.out.1 ⟨Vt, HP1.out⟩; have x1 := Z.out.2.1 ⟨Vt, HP1.out⟩; have x2 := Z.out.2.2.1 ⟨Vt, HP1.out⟩; have x3 := Z.out.2.2.2 ⟨Vt, HP1.out⟩
      simp only at x0 x1 x2 x3
      go_wp2_with fail
      refine (SC.out Vt HP1.out).mono ?_; rintro _ wa ⟨sv, rfl, hsv, hba⟩
      have HA := Lib.hid (below_on HP1.out hba)
      obtain ⟨pa, ca, rfl, _, _⟩ := hsv.slice
      have HSV := Lib.hid hsv
      clear hba hsv x0 x1 x2 x3
      go_upto_region 14 with fail
      generalize hVa : World.alloc wa _ = Va
      have u0 : ∀ x : Ext Va, x.w.cell? ⟨wa.heap.size, 0, none⟩ = some (.int .i64 ct) := Ext.made hVa 0 _ rfl
      have u1 : ∀ x : Ext Va, x.w.cell? ⟨wa.heap.size, 1, none⟩ = some (.int .i64 cs) := Ext.made hVa 1 _ rfl
      have u2 : ∀ x : Ext Va, x.w.cell? ⟨wa.heap.size, 2, none⟩ = some (.int .u64 ck) := Ext.made hVa 2 _ rfl
      have u3 : ∀ x : Ext Va, x.w.cell? ⟨wa.heap.size, 3, none⟩ = some (.slice pa mn ca) := Ext.made hVa 3 _ rfl
      have HV := Lib.hid (show ER Va (.slice pa mn ca) mn L ∧ Below w.heap.size w Va by rw [← hVa]; exact ⟨HSV.out.alloc _, below_new (below_on HBV.out HA.out) _⟩)
      clear hVa
      generalize wa.heap.size = ba at *
      (with_reducible refine wp_region_mix (fun w' => ∃ y : Ext Va, w' = y.w) ?_ ?_ ?_ ?_; kernel_rfl; kernel_rfl; exact ⟨⟨Va.drew, (Below.refl _ _).drew⟩, rfl⟩)
      repeat (first | ((with_reducible refine mix_skip (by kernel_rfl) ?_); go_big_quiet_skip; (with_reducible refine mix_on ?_)) | ((with_reducible refine mix_plain (by kernel_rfl) ?_); (first | go_big_quiet_skip | (go_big_quiet_want; go_big_quiet_op; go_big_quiet_on)); (with_reducible refine mix_on ?_)))
      ((with_reducible refine wpMix_chain (by kernel_rfl) (by kernel_rfl) (fun K HK => ?_)); go_step)
      refine (RMC.out _).mono ?_; rintro _ wb ⟨rfl, hbb⟩
      have HB1 := Lib.hid (show Below Va.heap.size Va wb from below_on (Below.refl _ _).drew hbb)
      refine HK.out _ _ ⟨⟨wb, HB1.out⟩, rfl⟩ ?_
      clear HK K hbb
      repeat (first | ((with_reducible refine mix_skip (by kernel_rfl) ?_); go_big_quiet_skip; (with_reducible refine mix_on ?_)) | ((with_reducible refine mix_plain (by kernel_rfl) ?_); (first | go_big_quiet_skip | (go_big_quiet_want; go_big_quiet_op; go_big_quiet_on)); (with_reducible refine mix_on ?_)))
      ((with_reducible refine wpMix_chain (by kernel_rfl) (by kernel_rfl) (fun K HK => ?_)); go_step)
      refine (SC2.out wb _ (HV.out.1.below HB1.out)).mono ?_; rintro _ wc ⟨sv, rfl, hsv, hbc⟩
      have HB2 := Lib.hid (below_on HB1.out hbc)
      obtain ⟨pc, cc, rfl, _, _⟩ := hsv.slice
      have HSC := Lib.hid hsv
      refine HK.out _ _ ⟨⟨wc, HB2.out⟩, rfl⟩ ?_
      clear HK K hbc hsv
      repeat (first | ((with_reducible refine mix_skip (by kernel_rfl) ?_); go_big_quiet_skip; (with_reducible refine mix_on ?_)) | ((with_reducible refine mix_plain (by kernel_rfl) ?_); (first | go_big_quiet_skip | (go_big_quiet_want; go_big_quiet_op; go_big_quiet_on)); (with_reducible refine mix_on ?_)))
      ((with_reducible refine wpMix_chain (by kernel_rfl) (by kernel_rfl) (fun K HK => ?_)); go_step)
      refine (SS2.out wc _ _ HSC.out (HV.out.1.below HB2.out)).mono ?_; rintro _ wd ⟨rfl, hbd⟩
      have HB3 := Lib.hid (below_on HB2.out hbd)
      refine HK.out _ _ ⟨⟨wd, HB3.out⟩, rfl⟩ ?_
      clear HK K hbd
      repeat (first | ((with_reducible refine mix_skip (by kernel_rfl) ?_); go_big_quiet_skip; (with_reducible refine mix_on ?_)) | ((with_reducible refine mix_plain (by kernel_rfl) ?_); (first | go_big_quiet_skip | (go_big_quiet_want; go_big_quiet_op; go_big_quiet_on)); (with_reducible refine mix_on ?_)))
      ((with_reducible refine wpMix_chain (by kernel_rfl) (by kernel_rfl) (fun K HK => ?_)); go_step)
      refine (lives14_calls wd).mono ?_; rintro _ we ⟨rfl, hbe⟩
      have HB4 := Lib.hid (below_on HB3.out hbe)
      refine HK.out _ _ ⟨⟨we, HB4.out⟩, rfl⟩ ?_
      clear HK K hbe
      repeat (first | ((with_reducible refine mix_skip (by kernel_rfl) ?_); go_big_quiet_skip; (with_reducible refine mix_on ?_)) | ((with_reducible refine mix_plain (by kernel_rfl) ?_); (first | go_big_quiet_skip | (go_big_quiet_want; go_big_quiet_op; go_big_quiet_on)); (with_reducible refine mix_on ?_)))
      refine wpMix_nil ?_
      have HF := Lib.hid (below_on HV.out.2 HB4.out)
      go_wp2_with fail
      (try go_ret)
      rw [HQ.out]
      exact ⟨rfl, HF.out⟩
  · have hpt := put_take hmay HW.out
    have HPT := Lib.hid hpt
    obtain ⟨⟨t1, t2, s1, s2, k1, k2⟩, _, _⟩ := mayS_parts hmay
    have hcl : ct = T ∧ cs = S ∧ ck = K ∧ mn = n := by
      obtain ⟨h1, h2, h3, h4⟩ := HCL.out
      exact ⟨h1.trans (cl_id t1 t2), h2.trans (cl_id s1 s2), h3.trans (cl_id k1 k2), h4⟩
    have HCQ := Lib.hid hcl
    have HMY := Lib.hid hmay
    refine (sputS T S K n L _ V HEV.out hmay).mono ?_; rintro _ w1 ⟨B1, v1, rfl, ho1, hb1⟩
    have HX1 := Lib.hid hb1
    have HBO := Lib.hid (own_BR ho1)
    have HBYb := Lib.hid (putL_by T S K n L (putL_bd T S K n L))
    have TK1 := Lib.hid (stake _ _ v1 w1 HBO.out HBYb.out T S K n 0 HPT.out.1)
    obtain ⟨p1, k1', hv1, _, _⟩ := HBO.out.slice
    subst hv1
    clear hb1 c0 c1 c2 c3 i1 i2 ho1 hpt hcl hmay t1 t2 s1 s2 k1 k2
    generalize (headL T S K ++ encL L n).length = nb at *
    go_wp2_with fail
    refine TK1.out.mono ?_; rintro _ w2 ⟨sl1, rfl, hs1, hb2⟩
    obtain ⟨pq, cq, rfl, _, _⟩ := hs1.slice
    have HS1 := Lib.hid hs1
    have HX2 := Lib.hid (below_on HX1.out hb2)
    clear hs1 hb2 TK1
    go_upto_region 6 with fail
    generalize hVq : World.alloc w2 _ = Vq
    have y0 : ∀ x : Ext Vq, x.w.cell? ⟨w2.heap.size, 0, none⟩ = some (.int .i64 T) := Ext.made hVq 0 _ rfl
    have y1 : ∀ x : Ext Vq, x.w.cell? ⟨w2.heap.size, 1, none⟩ = some (.int .i64 S) := Ext.made hVq 1 _ rfl
    have y2 : ∀ x : Ext Vq, x.w.cell? ⟨w2.heap.size, 2, none⟩ = some (.int .u64 K) := Ext.made hVq 2 _ rfl
    have y3 : ∀ x : Ext Vq, x.w.cell? ⟨w2.heap.size, 3, none⟩ = some (.slice pq n cq) := Ext.made hVq 3 _ rfl
    have HXq := Lib.hid (show ER Vq (.slice pq n cq) n (entAt (getL (headL T S K ++ encL L n))) ∧ Below V.heap.size V Vq by rw [← hVq]; exact ⟨HS1.out.alloc _, below_new HX2.out _⟩)
    clear hVq
    have x0 := fun x : Ext Vq => Z.out.1 ⟨x.w, below_on HXq.out.2 x.h⟩
    have x1 := fun x : Ext Vq => Z.out.2.1 ⟨x.w, below_on HXq.out.2 x.h⟩
    have x2 := fun x : Ext Vq => Z.out.2.2.1 ⟨x.w, below_on HXq.out.2 x.h⟩
    have x3 := fun x : Ext Vq => Z.out.2.2.2 ⟨x.w, below_on HXq.out.2 x.h⟩
    simp only at x0 x1 x2 x3
    have SS1 := Lib.hid (fun (X : World) (hx : Below Vq.heap.size Vq X) => (show Calls Try.prog 10 #[.agg #[.int .i64 T, .int .i64 S, .int .u64 K, .slice pq n cq], .agg #[.int .i64 T, .int .i64 S, .int .u64 K, .slice p n c]] X (fun e w' => e = .returned (.bool true) ∧ Below X.heap.size X w') from by
      have h := ssame T S K n _ T S K n L _ _ X (HXq.out.1.below hx) (HEV.out.below (below_on HXq.out.2 hx)) (by have := HN.out; omega)
      rw [sameS_of HPT.out.2] at h
      exact h))
    have SC1 : Hid (∀ (X : World), Below V.heap.size V X → Calls Try.prog 11 #[.agg #[.int .i64 T, .int .i64 S, .int .u64 K, .slice p n c]] X fun e w' => ∃ v', e = .returned (.agg #[.int .i64 T, .int .i64 S, .int .u64 K, v']) ∧ ER w' v' n L ∧ Below X.heap.size X w') := by
      have h := SC.out
      rw [HCQ.out.1, HCQ.out.2.1, HCQ.out.2.2.1, HCQ.out.2.2.2] at h
      exact Lib.hid h
    have SS3 : Hid (∀ (X : World) (va : Value), ER X va n L → Below V.heap.size V X → Calls Try.prog 10 #[.agg #[.int .i64 T, .int .i64 S, .int .u64 K, va], .agg #[.int .i64 T, .int .i64 S, .int .u64 K, .slice p n c]] X fun e w' => e = .returned (.bool true) ∧ Below X.heap.size X w') := Lib.hid fun X va h1 h2 => by
      have h := ssame T S K n L T S K n L _ _ X h1 (HEV.out.below h2) (by have := HN.out; omega)
      rw [sameS_refl] at h
      exact h
    generalize w2.heap.size = bq at *
    (with_reducible refine wp_region_mix (fun w' => ∃ y : Ext Vq, w' = y.w) ?_ ?_ ?_ ?_; kernel_rfl; kernel_rfl; exact ⟨⟨Vq.drew, (Below.refl _ _).drew⟩, rfl⟩)
    repeat (first | ((with_reducible refine mix_skip (by kernel_rfl) ?_); go_big_quiet_skip; (with_reducible refine mix_on ?_)) | ((with_reducible refine mix_plain (by kernel_rfl) ?_); (first | go_big_quiet_skip | (go_big_quiet_want; go_big_quiet_op; go_big_quiet_on)); (with_reducible refine mix_on ?_)))
    ((with_reducible refine wpMix_chain (by kernel_rfl) (by kernel_rfl) (fun K HK => ?_)); go_step)
    refine (SS1.out _ (Below.refl _ _).drew).mono ?_; rintro _ w3 ⟨rfl, hb3⟩
    have HB3 := Lib.hid (show Below Vq.heap.size Vq w3 from below_on (Below.refl _ _).drew hb3)
    refine HK.out _ _ ⟨⟨w3, HB3.out⟩, rfl⟩ ?_
    clear HK K hb3
    repeat (first | ((with_reducible refine mix_skip (by kernel_rfl) ?_); go_big_quiet_skip; (with_reducible refine mix_on ?_)) | ((with_reducible refine mix_plain (by kernel_rfl) ?_); (first | go_big_quiet_skip | (go_big_quiet_want; go_big_quiet_op; go_big_quiet_on)); (with_reducible refine mix_on ?_)))
    ((with_reducible refine wpMix_chain (by kernel_rfl) (by kernel_rfl) (fun K HK => ?_)); go_step)
    refine (SC1.out w3 (below_on HXq.out.2 HB3.out)).mono ?_; rintro _ w4 ⟨sv4, rfl, hs4, hb4⟩
    have HB4 := Lib.hid (below_on HB3.out hb4)
    obtain ⟨p4, c4, rfl, _, _⟩ := hs4.slice
    have HS4 := Lib.hid hs4
    refine HK.out _ _ ⟨⟨w4, HB4.out⟩, rfl⟩ ?_
    clear HK K hb4 hs4
    repeat (first | ((with_reducible refine mix_skip (by kernel_rfl) ?_); go_big_quiet_skip; (with_reducible refine mix_on ?_)) | ((with_reducible refine mix_plain (by kernel_rfl) ?_); (first | go_big_quiet_skip | (go_big_quiet_want; go_big_quiet_op; go_big_quiet_on)); (with_reducible refine mix_on ?_)))
    ((with_reducible refine wpMix_chain (by kernel_rfl) (by kernel_rfl) (fun K HK => ?_)); go_step)
    refine (SS3.out w4 _ HS4.out (below_on HXq.out.2 HB4.out)).mono ?_; rintro _ w5 ⟨rfl, hb5⟩
    have HB5 := Lib.hid (below_on HB4.out hb5)
    refine HK.out _ _ ⟨⟨w5, HB5.out⟩, rfl⟩ ?_
    clear HK K hb5
    repeat (first | ((with_reducible refine mix_skip (by kernel_rfl) ?_); go_big_quiet_skip; (with_reducible refine mix_on ?_)) | ((with_reducible refine mix_plain (by kernel_rfl) ?_); (first | go_big_quiet_skip | (go_big_quiet_want; go_big_quiet_op; go_big_quiet_on)); (with_reducible refine mix_on ?_)))
    refine wpMix_nil ?_
    have HX := Lib.hid (below_on HXq.out.2 HB5.out)
    clear y0 y1 y2 y3 x0 x1 x2 x3 SS1 SC1 HB3 HB4 HB5
    go_wp2_with fail
    refine (TK.out w5 HX.out).mono ?_; rintro _ wt ⟨sl, rfl, hsl, hbt⟩
    have HT1 := Lib.hid (below_on HX.out hbt)
    obtain ⟨pt, ct1, rfl, _, _⟩ := hsl.slice
    have HSL := Lib.hid hsl
    clear hbt hsl
    by_cases he : e2 = 0
    · subst he
      have hTP := take_put hD HTR.out
      have HTP := Lib.hid hTP
      have h11 : 0 < m := by have := hTP.2.2; omega
      have CB := Lib.hid (conv_br HBR.out h11 hD)
      clear hTP h11
      go_upto_region 10 with fail
      generalize hVt : World.alloc wt _ = Vt
      have y0 : Vt.cell? ⟨wt.heap.size, 0, none⟩ = some (.int .i64 T2) := Ext.made hVt 0 _ rfl ⟨Vt, Below.refl _ _⟩
      have y1 : Vt.cell? ⟨wt.heap.size, 1, none⟩ = some (.int .i64 S2) := Ext.made hVt 1 _ rfl ⟨Vt, Below.refl _ _⟩
      have y2 : Vt.cell? ⟨wt.heap.size, 2, none⟩ = some (.int .u64 K2) := Ext.made hVt 2 _ rfl ⟨Vt, Below.refl _ _⟩
      have y3 : Vt.cell? ⟨wt.heap.size, 3, none⟩ = some (.slice pt cnt2 ct1) := Ext.made hVt 3 _ rfl ⟨Vt, Below.refl _ _⟩
      have HVt := Lib.hid (show ER Vt (.slice pt cnt2 ct1) cnt2 (entAt E) ∧ Below V.heap.size V Vt by rw [← hVt]; exact ⟨HSL.out.alloc _, below_new HT1.out _⟩)
      clear hVt
      go_wp2_with fail
      refine (sputS T2 S2 K2 cnt2 _ _ Vt HVt.out.1 HTP.out.1).mono ?_; rintro _ wp ⟨B2, v2, rfl, ho2, hbp⟩
      rw [HTP.out.2.1] at ho2
      have hv2 := conv_own ho2 (by rw [listD_len]; have := HTP.out.2.2; omega) (fun x hx => by
        simp only [listD, List.mem_map] at hx
        obtain ⟨j, _, rfl⟩ := hx
        exact hD j) wp (Below.refl _ _)
      have HP1 := Lib.hid (below_on HVt.out.2 hbp)
      have hv3 := CB.out wp HP1.out
      clear ho2 hbp y0 y1 y2 y3 CB
      generalize strOf (listD E m) = str at *
      go_upto_region 13 with fail
      clear hv2 hv3
      have x0 := Z.out.1 ⟨wp, HP1.out⟩; have x1 := Z.out.2.1 ⟨wp, HP1.out⟩; have x2 := Z.out.2.2.1 ⟨wp, HP1.out⟩; have x3 := Z.out.2.2.2 ⟨wp, HP1.out⟩
      simp only at x0 x1 x2 x3
      go_wp2_with fail
      refine (SC.out wp HP1.out).mono ?_; rintro _ wa ⟨sv, rfl, hsv, hba⟩
      have HA := Lib.hid (below_on HP1.out hba)
      obtain ⟨pa, ca, rfl, _, _⟩ := hsv.slice
      have HSV := Lib.hid hsv
      clear hba hsv x0 x1 x2 x3
      go_upto_region 14 with fail
      generalize hVa : World.alloc wa _ = Va
      have u0 : ∀ x : Ext Va, x.w.cell? ⟨wa.heap.size, 0, none⟩ = some (.int .i64 ct) := Ext.made hVa 0 _ rfl
      have u1 : ∀ x : Ext Va, x.w.cell? ⟨wa.heap.size, 1, none⟩ = some (.int .i64 cs) := Ext.made hVa 1 _ rfl
      have u2 : ∀ x : Ext Va, x.w.cell? ⟨wa.heap.size, 2, none⟩ = some (.int .u64 ck) := Ext.made hVa 2 _ rfl
      have u3 : ∀ x : Ext Va, x.w.cell? ⟨wa.heap.size, 3, none⟩ = some (.slice pa mn ca) := Ext.made hVa 3 _ rfl
      have HV := Lib.hid (show ER Va (.slice pa mn ca) mn L ∧ Below w.heap.size w Va by rw [← hVa]; exact ⟨HSV.out.alloc _, below_new (below_on HBV.out HA.out) _⟩)
      clear hVa
      generalize wa.heap.size = ba at *
      (with_reducible refine wp_region_mix (fun w' => ∃ y : Ext Va, w' = y.w) ?_ ?_ ?_ ?_; kernel_rfl; kernel_rfl; exact ⟨⟨Va.drew, (Below.refl _ _).drew⟩, rfl⟩)
      repeat (first | ((with_reducible refine mix_skip (by kernel_rfl) ?_); go_big_quiet_skip; (with_reducible refine mix_on ?_)) | ((with_reducible refine mix_plain (by kernel_rfl) ?_); (first | go_big_quiet_skip | (go_big_quiet_want; go_big_quiet_op; go_big_quiet_on)); (with_reducible refine mix_on ?_)))
      ((with_reducible refine wpMix_chain (by kernel_rfl) (by kernel_rfl) (fun K HK => ?_)); go_step)
      refine (RMC.out _).mono ?_; rintro _ wb ⟨rfl, hbb⟩
      have HB1 := Lib.hid (show Below Va.heap.size Va wb from below_on (Below.refl _ _).drew hbb)
      refine HK.out _ _ ⟨⟨wb, HB1.out⟩, rfl⟩ ?_
      clear HK K hbb
      repeat (first | ((with_reducible refine mix_skip (by kernel_rfl) ?_); go_big_quiet_skip; (with_reducible refine mix_on ?_)) | ((with_reducible refine mix_plain (by kernel_rfl) ?_); (first | go_big_quiet_skip | (go_big_quiet_want; go_big_quiet_op; go_big_quiet_on)); (with_reducible refine mix_on ?_)))
      ((with_reducible refine wpMix_chain (by kernel_rfl) (by kernel_rfl) (fun K HK => ?_)); go_step)
      refine (SC2.out wb _ (HV.out.1.below HB1.out)).mono ?_; rintro _ wc ⟨sv, rfl, hsv, hbc⟩
      have HB2 := Lib.hid (below_on HB1.out hbc)
      obtain ⟨pc, cc, rfl, _, _⟩ := hsv.slice
      have HSC := Lib.hid hsv
      refine HK.out _ _ ⟨⟨wc, HB2.out⟩, rfl⟩ ?_
      clear HK K hbc hsv
      repeat (first | ((with_reducible refine mix_skip (by kernel_rfl) ?_); go_big_quiet_skip; (with_reducible refine mix_on ?_)) | ((with_reducible refine mix_plain (by kernel_rfl) ?_); (first | go_big_quiet_skip | (go_big_quiet_want; go_big_quiet_op; go_big_quiet_on)); (with_reducible refine mix_on ?_)))
      ((with_reducible refine wpMix_chain (by kernel_rfl) (by kernel_rfl) (fun K HK => ?_)); go_step)
      refine (SS2.out wc _ _ HSC.out (HV.out.1.below HB2.out)).mono ?_; rintro _ wd ⟨rfl, hbd⟩
      have HB3 := Lib.hid (below_on HB2.out hbd)
      refine HK.out _ _ ⟨⟨wd, HB3.out⟩, rfl⟩ ?_
      clear HK K hbd
      repeat (first | ((with_reducible refine mix_skip (by kernel_rfl) ?_); go_big_quiet_skip; (with_reducible refine mix_on ?_)) | ((with_reducible refine mix_plain (by kernel_rfl) ?_); (first | go_big_quiet_skip | (go_big_quiet_want; go_big_quiet_op; go_big_quiet_on)); (with_reducible refine mix_on ?_)))
      ((with_reducible refine wpMix_chain (by kernel_rfl) (by kernel_rfl) (fun K HK => ?_)); go_step)
      refine (lives14_calls wd).mono ?_; rintro _ we ⟨rfl, hbe⟩
      have HB4 := Lib.hid (below_on HB3.out hbe)
      refine HK.out _ _ ⟨⟨we, HB4.out⟩, rfl⟩ ?_
      clear HK K hbe
      repeat (first | ((with_reducible refine mix_skip (by kernel_rfl) ?_); go_big_quiet_skip; (with_reducible refine mix_on ?_)) | ((with_reducible refine mix_plain (by kernel_rfl) ?_); (first | go_big_quiet_skip | (go_big_quiet_want; go_big_quiet_op; go_big_quiet_on)); (with_reducible refine mix_on ?_)))
      refine wpMix_nil ?_
      have HF := Lib.hid (below_on HV.out.2 HB4.out)
      go_wp2_with fail
      (try go_ret)
      rw [HQ.out]
      exact ⟨rfl, HF.out⟩
    · have he1 : (e2 == 0) = false := by simp [he]
      have he2 : decide (e2 = 0) = false := decide_eq_false he
      go_upto_region 13 with fail
      generalize hVt : World.alloc wt _ = Vt
      have HP1 := Lib.hid (show Below V.heap.size V Vt by rw [← hVt]; exact below_new HT1.out _)
      clear hVt he1 he2 he
      have x0 := Z.out.1 ⟨Vt, HP1.out⟩; have x1 := Z.out.2.1 ⟨Vt, HP1.out⟩; have x2 := Z.out.2.2.1 ⟨Vt, HP1.out⟩; have x3 := Z.out.2.2.2 ⟨Vt, HP1.out⟩
      simp only at x0 x1 x2 x3
      go_wp2_with fail
      refine (SC.out Vt HP1.out).mono ?_; rintro _ wa ⟨sv, rfl, hsv, hba⟩
      have HA := Lib.hid (below_on HP1.out hba)
      obtain ⟨pa, ca, rfl, _, _⟩ := hsv.slice
      have HSV := Lib.hid hsv
      clear hba hsv x0 x1 x2 x3
      go_upto_region 14 with fail
      generalize hVa : World.alloc wa _ = Va
      have u0 : ∀ x : Ext Va, x.w.cell? ⟨wa.heap.size, 0, none⟩ = some (.int .i64 ct) := Ext.made hVa 0 _ rfl
      have u1 : ∀ x : Ext Va, x.w.cell? ⟨wa.heap.size, 1, none⟩ = some (.int .i64 cs) := Ext.made hVa 1 _ rfl
      have u2 : ∀ x : Ext Va, x.w.cell? ⟨wa.heap.size, 2, none⟩ = some (.int .u64 ck) := Ext.made hVa 2 _ rfl
      have u3 : ∀ x : Ext Va, x.w.cell? ⟨wa.heap.size, 3, none⟩ = some (.slice pa mn ca) := Ext.made hVa 3 _ rfl
      have HV := Lib.hid (show ER Va (.slice pa mn ca) mn L ∧ Below w.heap.size w Va by rw [← hVa]; exact ⟨HSV.out.alloc _, below_new (below_on HBV.out HA.out) _⟩)
      clear hVa
      generalize wa.heap.size = ba at *
      (with_reducible refine wp_region_mix (fun w' => ∃ y : Ext Va, w' = y.w) ?_ ?_ ?_ ?_; kernel_rfl; kernel_rfl; exact ⟨⟨Va.drew, (Below.refl _ _).drew⟩, rfl⟩)
      repeat (first | ((with_reducible refine mix_skip (by kernel_rfl) ?_); go_big_quiet_skip; (with_reducible refine mix_on ?_)) | ((with_reducible refine mix_plain (by kernel_rfl) ?_); (first | go_big_quiet_skip | (go_big_quiet_want; go_big_quiet_op; go_big_quiet_on)); (with_reducible refine mix_on ?_)))
      ((with_reducible refine wpMix_chain (by kernel_rfl) (by kernel_rfl) (fun K HK => ?_)); go_step)
      refine (RMC.out _).mono ?_; rintro _ wb ⟨rfl, hbb⟩
      have HB1 := Lib.hid (show Below Va.heap.size Va wb from below_on (Below.refl _ _).drew hbb)
      refine HK.out _ _ ⟨⟨wb, HB1.out⟩, rfl⟩ ?_
      clear HK K hbb
      repeat (first | ((with_reducible refine mix_skip (by kernel_rfl) ?_); go_big_quiet_skip; (with_reducible refine mix_on ?_)) | ((with_reducible refine mix_plain (by kernel_rfl) ?_); (first | go_big_quiet_skip | (go_big_quiet_want; go_big_quiet_op; go_big_quiet_on)); (with_reducible refine mix_on ?_)))
      ((with_reducible refine wpMix_chain (by kernel_rfl) (by kernel_rfl) (fun K HK => ?_)); go_step)
      refine (SC2.out wb _ (HV.out.1.below HB1.out)).mono ?_; rintro _ wc ⟨sv, rfl, hsv, hbc⟩
      have HB2 := Lib.hid (below_on HB1.out hbc)
      obtain ⟨pc, cc, rfl, _, _⟩ := hsv.slice
      have HSC := Lib.hid hsv
      refine HK.out _ _ ⟨⟨wc, HB2.out⟩, rfl⟩ ?_
      clear HK K hbc hsv
      repeat (first | ((with_reducible refine mix_skip (by kernel_rfl) ?_); go_big_quiet_skip; (with_reducible refine mix_on ?_)) | ((with_reducible refine mix_plain (by kernel_rfl) ?_); (first | go_big_quiet_skip | (go_big_quiet_want; go_big_quiet_op; go_big_quiet_on)); (with_reducible refine mix_on ?_)))
      ((with_reducible refine wpMix_chain (by kernel_rfl) (by kernel_rfl) (fun K HK => ?_)); go_step)
      refine (SS2.out wc _ _ HSC.out (HV.out.1.below HB2.out)).mono ?_; rintro _ wd ⟨rfl, hbd⟩
      have HB3 := Lib.hid (below_on HB2.out hbd)
      refine HK.out _ _ ⟨⟨wd, HB3.out⟩, rfl⟩ ?_
      clear HK K hbd
      repeat (first | ((with_reducible refine mix_skip (by kernel_rfl) ?_); go_big_quiet_skip; (with_reducible refine mix_on ?_)) | ((with_reducible refine mix_plain (by kernel_rfl) ?_); (first | go_big_quiet_skip | (go_big_quiet_want; go_big_quiet_op; go_big_quiet_on)); (with_reducible refine mix_on ?_)))
      ((with_reducible refine wpMix_chain (by kernel_rfl) (by kernel_rfl) (fun K HK => ?_)); go_step)
      refine (lives14_calls wd).mono ?_; rintro _ we ⟨rfl, hbe⟩
      have HB4 := Lib.hid (below_on HB3.out hbe)
      refine HK.out _ _ ⟨⟨we, HB4.out⟩, rfl⟩ ?_
      clear HK K hbe
      repeat (first | ((with_reducible refine mix_skip (by kernel_rfl) ?_); go_big_quiet_skip; (with_reducible refine mix_on ?_)) | ((with_reducible refine mix_plain (by kernel_rfl) ?_); (first | go_big_quiet_skip | (go_big_quiet_want; go_big_quiet_op; go_big_quiet_on)); (with_reducible refine mix_on ?_)))
      refine wpMix_nil ?_
      have HF := Lib.hid (below_on HV.out.2 HB4.out)
      go_wp2_with fail
      (try go_ret)
      rw [HQ.out]
      exact ⟨rfl, HF.out⟩
set_option maxHeartbeats 4000000 in
theorem back_l1 (T S K : Int) (n : Nat) (p : Option Addr) (c m : Nat) (pb : Option Addr) (cb : Nat) (w : World) (hn : 1000 < n) :
    Calls Try.prog 4 #[.agg #[.int .i64 T, .int .i64 S, .int .u64 K, .slice p n c], .slice pb m cb] w fun e w' => e = .returned (.bool true) ∧ Below w.heap.size w w' := by
  refine Calls.veil fun Q HQ => ?_
  have d1 : decide ((1000 : Int) < (n : Int)) = true := decide_eq_true (by omega)
  have d2 : (1000 : Int) < (n : Int) := by omega
  clear hn
  go_enter Try.func4, Try.ntmps4
  go_wp2_with fail
  refine (lives14_calls _).mono ?_; rintro _ w2 ⟨rfl, hb2⟩
  have HF := Lib.hid (show Below w.heap.size w w2 from below_on (below_new (Below.refl w.heap.size w) _) hb2)
  clear hb2
  go_wp2_with fail
  (try go_ret)
  rw [HQ.out]
  exact ⟨rfl, HF.out⟩
set_option maxHeartbeats 4000000 in
theorem back_l2 (T S K : Int) (n : Nat) (p : Option Addr) (c m : Nat) (pb : Option Addr) (cb : Nat) (w : World) (hn : n ≤ 1000) (hm : 5000 < m) :
    Calls Try.prog 4 #[.agg #[.int .i64 T, .int .i64 S, .int .u64 K, .slice p n c], .slice pb m cb] w fun e w' => e = .returned (.bool true) ∧ Below w.heap.size w w' := by
  refine Calls.veil fun Q HQ => ?_
  have d1 : decide ((1000 : Int) < (n : Int)) = false := decide_eq_false (by omega)
  have d2 : ¬ (1000 : Int) < (n : Int) := by omega
  have d3 : decide ((5000 : Int) < (m : Int)) = true := decide_eq_true (by omega)
  have d4 : (5000 : Int) < (m : Int) := by omega
  clear hn hm
  go_enter Try.func4, Try.ntmps4
  go_wp2_with fail
  refine (lives14_calls _).mono ?_; rintro _ w2 ⟨rfl, hb2⟩
  have HF := Lib.hid (show Below w.heap.size w w2 from below_on (below_new (Below.refl w.heap.size w) _) hb2)
  clear hb2
  go_wp2_with fail
  (try go_ret)
  rw [HQ.out]
  exact ⟨rfl, HF.out⟩
theorem scriptBack_walk (v0 v1 : Value) (w : World) (s0 : Fr.okN w [.int .i64, .int .i64, .int .u64, .slice [.int .i64, .bool, .int .i64, .int .i64, .int .i64, .int .i64, .int .i64]] v0) (s1 : Fr.ok1 w (.slice [.int .u8]) v1) :
    Calls Try.prog 4 #[v0, v1] w fun e w' => e = .returned (.bool true) ∧ Below w.heap.size w w' := by
  obtain ⟨cs, rfl, s0⟩ := s0
  obtain ⟨_, _, rfl, k0, s0⟩ := Fr.get_cons s0
  obtain ⟨_, _, rfl, k1, s0⟩ := Fr.get_cons s0
  obtain ⟨_, _, rfl, k2, s0⟩ := Fr.get_cons s0
  obtain ⟨v, _, rfl, k3, s0⟩ := Fr.get_cons s0
  obtain rfl := Fr.get_nil s0
  obtain ⟨T, rfl, _⟩ := Fr.get_int k0
  obtain ⟨S, rfl, _⟩ := Fr.get_int k1
  obtain ⟨K, rfl, _⟩ := Fr.get_int k2
  obtain ⟨n, L, hE, hw⟩ := ents_openW k3
  obtain ⟨m, E, hb, hD⟩ := bytes_open s1
  clear k0 k1 k2 k3 s0 s1
  show Calls _ _ #[.agg #[.int .i64 T, .int .i64 S, .int .u64 K, v], v1] _ _
  rcases (by omega : 1000 < n ∨ (n ≤ 1000 ∧ 5000 < m) ∨ (n ≤ 1000 ∧ m ≤ 5000)) with h | ⟨h1, h2⟩ | ⟨h1, h2⟩
  · obtain ⟨p, c, rfl, _, _⟩ := hE.slice
    obtain ⟨pb, cb, rfl, _, _⟩ := hb.slice
    exact back_l1 T S K n p c m pb cb w h
  · obtain ⟨p, c, rfl, _, _⟩ := hE.slice
    obtain ⟨pb, cb, rfl, _, _⟩ := hb.slice
    exact back_l2 T S K n p c m pb cb w h1 h2
  · exact back_main T S K n L v m E v1 w hE hw hb hD h1 h2
end Go.Proofs.Ytnikggdnlijkkaa
