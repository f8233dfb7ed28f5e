/- GAM: several texts in one. -/
import Derived.Test.YtaaciolfgplnoaaGAK
import Derived.Test.YtaaciolfgplnoaaGAL
/- Layer 17: Take's third step. -/
namespace Go.Proofs.Ytaaciolfgplnoaa
open Go.RowKit WordM EdgeM
set_option linter.unusedVariables false
set_option linter.unusedSimpArgs false
/-- The guard was changed. -/
theorem MC.gd {w w' : World} {B q pl mb mg C gq gg gm : Nat} {fv : Value} {tq : Nat → Nat} {t s : Nat} {K : Int} {f : Nat → Int} {acc : Int} {flt : Bool} {H H' : Nat → Bool} {G G' : Nat → Int} {sl sl' steps : Int} {odd : Bool} (h : MC w B q pl mb mg C gq gg gm fv tq t s K f acc flt H G sl steps odd)
    (k : Gd.K3 w w' gq gg gm) (hg : Gd.GA w' gq gg gm s H' G' sl') : MC w' B q pl mb mg C gq gg gm fv tq t s K f acc flt H' G' sl' steps odd := by
  have o2 := h.o2; have o3 := h.o3; have o4 := h.o4; have o5 := h.o5
  have hl := h.qlt
  have kp : ∀ j, j < w.heap.size → j ≠ gq → j ≠ gg → j ≠ gm → w'.heap[j]? = w.heap[j]? := fun j h0 h1 h2 h3 => k.block j h0 h1 h2 h3
  exact ⟨(kp q (by omega) (by omega) (by omega) (by omega)).trans h.blk, (kp pl (by omega) (by omega) (by omega) (by omega)).trans h.pln,
    h.mem.keep k.size (kp mb (by omega) (by omega) (by omega) (by omega)) (kp mg (by omega) (by omega) (by omega) (by omega)), hg,
    h.ths.of fun b hb => kp b (h.ths.blk hb).2.1 (by have := (h.ths.blk hb).1; omega) (by have := (h.ths.blk hb).1; omega) (by have := (h.ths.blk hb).1; omega), h.tlo, h.o1, h.o2, h.o3, h.o4, h.o5, h.may⟩
set_option maxRecDepth 8000 in
set_option maxHeartbeats 2000000 in
theorem take2n {w : World} {B q pl mb mg C gq gg gm : Nat} {fv : Value} {tq : Nat → Nat} {t s : Nat} {K : Int} {f : Nat → Int} {acc : Int} {flt : Bool} {H : Nat → Bool} {G : Nat → Int} {sl steps : Int} {odd : Bool} (h : MC w B q pl mb mg C gq gg gm fv tq t s K f acc flt H G sl steps odd) {Ts : Nat → Th.Td} {ps : Nat → Nat → Nat} {fvs : Nat → Value} (tf : TF w q t tq Ts ps fvs) {k m : Nat} (hk : k < t) (hm : (Ts k).nf = m + 1) (hpc : ((Ts k).fs m).pc = 2) (hr : 0 ≤ ((Ts k).fs m).r 0 ∧ ((Ts k).fs m).r 0 < 18446744073709551616) (hr1 : 0 ≤ ((Ts k).fs m).r 1 ∧ ((Ts k).fs m).r 1 < 9223372036854775808) (hz : (f 2 == ((Ts k).fs m).r 0) = false) (a0 : 0 ≤ acc) (a1 : acc < 1000000) :
    Calls Try.prog 87 #[.agg #[.pointer (some ⟨q, 0, none⟩), .pointer (some ⟨tq k, 0, none⟩), .pointer (some ⟨ps k m, 0, none⟩)]] w fun x w' => x = .returned (.tuple #[]) ∧ MC w' B q pl mb mg C gq gg gm fv tq t s K f (acc + 1) flt H G sl steps odd ∧ TF w' q t tq (fun i => if i = k then { Ts k with fs := Th.upM (Ts k).fs m ⟨((Ts k).fs m).fn, 0, ((Ts k).fs m).r⟩ } else Ts i) ps fvs ∧ Th.KS (fun j => j = mb ∨ j = mg ∨ j = ps k m) w w' := by
  refine Calls.veil fun Q HQ => ?_
  have hmm : m < (Ts k).nf := by omega
  obtain ⟨fb, hfb⟩ : ∃ fb, fb = ps k m := ⟨_, rfl⟩
  have hbk := ((tf.th k hk).a.fb m hmm).1
  have hfl := (tf.th k hk).frm hmm
  rw [← hfb] at hbk hfl ⊢
  have HH := Lib.hid h; have HT := Lib.hid tf
  have HFB := Lib.hid hbk
  have hql := h.qlt
  have HNE := Lib.hid (show fb ≠ mb ∧ fb ≠ mg ∧ q < fb from by omega)
  obtain ⟨F, hF⟩ : ∃ F, F = (Ts k).fs m := ⟨_, rfl⟩
  rw [← hF] at HFB hpc hr hr1 hz
  have HFE := Lib.hid (And.intro hfb hF)
  have HR1 := Lib.hid hr1; have HZ := Lib.hid hz
  clear h tf hbk hfl hfb hF hr1 hz
  go_enter Try.func87, Try.ntmps87
  go_upto_region 1 with fail
  generalize hV : World.alloc _ _ = U
  obtain ⟨u0, hbu⟩ := Th.heapnewE hV
  obtain ⟨X, hX⟩ : ∃ X, X = w.heap.size := ⟨_, rfl⟩
  rw [← hX] at u0 ⊢
  have HXW := Lib.hid hX
  have HU := Lib.hid (HH.out.below hbu); have HBU := Lib.hid hbu; have HX := Lib.hid u0; have HFU := Lib.hid (HFB.out.below hbu)
  have HNX := Lib.hid (show X ≠ mb ∧ X ≠ mg ∧ X ≠ fb ∧ X ≠ q from by have := Th.blk_lt HFB.out; have := HH.out.qlt; omega)
  clear hV u0 hbu hX
  have x2 : U.cell? ⟨X, 2, none⟩ = some (.pointer (some ⟨fb, 0, none⟩)) := Th.newcell HX.out 2 _ rfl
  have f1 : U.cell? ⟨fb, 1, none⟩ = some (.int .i64 2) := by rw [HFU.out.get (i := 1) (by omega)]; unfold Th.frF; rw [if_neg (by decide), if_pos rfl, hpc]
  have f2 : U.cell? ⟨fb, 2, none⟩ = some (.int .u64 (F.r 0)) := by rw [HFU.out.get (i := 2) (by omega)]; rfl
  go_wp2_with fail
  refine (bslot_calls _ _ hr.1 hr.2).mono ?_; rintro _ _ ⟨rfl, rfl⟩
  go_upto_region 12 with fail
  clear x2 f1 f2
  have HLF := Lib.hid (show ∀ y : KX U mb mg mg, (Instr.loadAt 49 (.pointer (some ⟨X, 2, none⟩))).run Try.prog y.w = .ok (.pointer (some ⟨fb, 0, none⟩)) y.w from fun y => by have hc := KX.cells (Th.newcell HX.out 2 _ rfl) HNX.out.1 HNX.out.2.1 HNX.out.2.1 y; go_simp)
  have HLM := Lib.hid (show ∀ y : KX U mb mg mg, (Instr.loadAt 137 (.pointer (some ⟨X, 0, none⟩))).run Try.prog y.w = .ok (.agg #[.pointer (some ⟨q, 0, none⟩), .pointer (some ⟨tq k, 0, none⟩), .pointer (some ⟨fb, 0, none⟩)]) y.w from fun y => by
    have hc0 := KX.cells (Th.newcell HX.out 0 _ rfl) HNX.out.1 HNX.out.2.1 HNX.out.2.1 y; have hc1 := KX.cells (Th.newcell HX.out 1 _ rfl) HNX.out.1 HNX.out.2.1 HNX.out.2.1 y; have hc2 := KX.cells (Th.newcell HX.out 2 _ rfl) HNX.out.1 HNX.out.2.1 HNX.out.2.1 y
    go_simp)
  have HL0 := Lib.hid (show ∀ y : KX U mb mg mg, (Instr.loadAt 22 (.pointer (some ⟨fb, 2, none⟩))).run Try.prog y.w = .ok (.int .u64 (F.r 0)) y.w from fun y => by have hc := KX.cells (show U.cell? ⟨fb, 2, none⟩ = some (.int .u64 (F.r 0)) by rw [HFU.out.get (i := 2) (by omega)]; rfl) HNE.out.1 HNE.out.2.1 HNE.out.2.1 y; go_simp)
  have HL1 := Lib.hid (show ∀ y : KX U mb mg mg, (Instr.loadAt 22 (.pointer (some ⟨fb, 3, none⟩))).run Try.prog y.w = .ok (.int .u64 (F.r 1)) y.w from fun y => by have hc := KX.cells (show U.cell? ⟨fb, 3, none⟩ = some (.int .u64 (F.r 1)) by rw [HFU.out.get (i := 3) (by omega)]; rfl) HNE.out.1 HNE.out.2.1 HNE.out.2.1 y; go_simp)
  have hw1 : IntKind.i64.wrap (F.r 1) = F.r 1 := by have := HR1.out; rw [IntKind.wrap_i64]; omega
  refine Th.wp_region_K (fun w' => ∃ y : KX U mb mg mg, w' = y.w) 17 (by decide +kernel) ?_
  generalize hwd : World.drew U = wd
  have hdd : Below U.heap.size U wd := by rw [← hwd]; exact (Below.refl _ _).drew
  have hbd : Th.KS (fun j => j = mb ∨ j = mg ∨ j = mg) U wd := .of_below hdd
  clear hwd
  (refine Th.wpAnyK_takeY (i := 0) (v := ?_) rfl (by decide +kernel) (by decide +kernel) (by decide +kernel) (by decide) (fun _ _ _ h => h) (Or.inl ⟨by rfl, ?_⟩) (.inr ⟨⟨wd, hbd⟩, rfl⟩) ?_; rotate_left; (intro w; go_simp); (try with_reducible rfl))
  (try simp only [List.getElem_toArray, List.getElem_cons_succ, List.getElem_cons_zero, Act.put, List.setIfInBounds_toArray, List.set_cons_succ, List.set_cons_zero])
  (refine Th.wpAnyK_take (i := 1) (v := .agg #[.pointer (some ⟨q, 0, none⟩), .pointer (some ⟨tq k, 0, none⟩), .pointer (some ⟨fb, 0, none⟩)]) [17] rfl (by decide +kernel) (by decide +kernel) (by decide +kernel) (by decide +kernel) (fun _ _ _ h => h) (Th.yields_loadK rfl 137 (.tmp 68) rfl rfl (by rintro _ ⟨y, rfl⟩; exact HLM.out y)) ⟨⟨wd, hbd⟩, rfl⟩ ?_)
  (try simp only [List.getElem_toArray, List.getElem_cons_succ, List.getElem_cons_zero, Act.put, List.setIfInBounds_toArray, List.set_cons_succ, List.set_cons_zero])
  (refine Th.wpAnyK_takeY (i := 2) (v := ?_) rfl (by decide +kernel) (by decide +kernel) (by decide +kernel) (by decide) (fun _ _ _ h => h) (Or.inl ⟨by rfl, ?_⟩) (.inr ⟨⟨wd, hbd⟩, rfl⟩) ?_; rotate_left; (intro w; go_simp); (try with_reducible rfl))
  (try simp only [List.getElem_toArray, List.getElem_cons_succ, List.getElem_cons_zero, Act.put, List.setIfInBounds_toArray, List.set_cons_succ, List.set_cons_zero])
  (refine Th.wpAnyK_takeY (i := 3) (v := ?_) rfl (by decide +kernel) (by decide +kernel) (by decide +kernel) (by decide) (fun _ _ _ h => h) (Or.inl ⟨by rfl, ?_⟩) (.inr ⟨⟨wd, hbd⟩, rfl⟩) ?_; rotate_left; (intro w; go_simp); (try with_reducible rfl))
  (try simp only [List.getElem_toArray, List.getElem_cons_succ, List.getElem_cons_zero, Act.put, List.setIfInBounds_toArray, List.set_cons_succ, List.set_cons_zero])
  (refine Th.wpAnyK_take (i := 4) (v := .pointer (some ⟨fb, 0, none⟩)) [5, 6, 7, 8, 17] rfl (by decide +kernel) (by decide +kernel) (by decide +kernel) (by decide +kernel) (fun _ _ _ h => h) (Th.yields_loadK rfl 49 (.tmp 71) rfl rfl (by rintro _ ⟨y, rfl⟩; exact HLF.out y)) ⟨⟨wd, hbd⟩, rfl⟩ ?_)
  (try simp only [List.getElem_toArray, List.getElem_cons_succ, List.getElem_cons_zero, Act.put, List.setIfInBounds_toArray, List.set_cons_succ, List.set_cons_zero])
  (refine Th.wpAnyK_takeY (i := 5) (v := ?_) rfl (by decide +kernel) (by decide +kernel) (by decide +kernel) (by decide) (fun _ _ _ h => h) (Or.inl ⟨by rfl, ?_⟩) (.inr ⟨⟨wd, hbd⟩, rfl⟩) ?_; rotate_left; (intro w; go_simp); (try with_reducible rfl))
  (try simp only [List.getElem_toArray, List.getElem_cons_succ, List.getElem_cons_zero, Act.put, List.setIfInBounds_toArray, List.set_cons_succ, List.set_cons_zero])
  (refine Th.wpAnyK_takeY (i := 6) (v := ?_) rfl (by decide +kernel) (by decide +kernel) (by decide +kernel) (by decide) (fun _ _ _ h => h) (Or.inl ⟨by rfl, ?_⟩) (.inr ⟨⟨wd, hbd⟩, rfl⟩) ?_; rotate_left; (intro w; go_simp); (try with_reducible rfl))
  (try simp only [List.getElem_toArray, List.getElem_cons_succ, List.getElem_cons_zero, Act.put, List.setIfInBounds_toArray, List.set_cons_succ, List.set_cons_zero])
  (refine Th.wpAnyK_takeY (i := 7) (v := ?_) rfl (by decide +kernel) (by decide +kernel) (by decide +kernel) (by decide) (fun _ _ _ h => h) (Or.inl ⟨by rfl, ?_⟩) (.inr ⟨⟨wd, hbd⟩, rfl⟩) ?_; rotate_left; (intro w; go_simp); (try with_reducible rfl))
  (try simp only [List.getElem_toArray, List.getElem_cons_succ, List.getElem_cons_zero, Act.put, List.setIfInBounds_toArray, List.set_cons_succ, List.set_cons_zero])
  (refine Th.wpAnyK_take (i := 8) (v := .int .u64 (F.r 0)) [17] rfl (by decide +kernel) (by decide +kernel) (by decide +kernel) (by decide +kernel) (fun _ _ _ h => h) (Th.yields_loadK rfl 22 (.tmp 75) rfl rfl (by rintro _ ⟨y, rfl⟩; exact HL0.out y)) ⟨⟨wd, hbd⟩, rfl⟩ ?_)
  (try simp only [List.getElem_toArray, List.getElem_cons_succ, List.getElem_cons_zero, Act.put, List.setIfInBounds_toArray, List.set_cons_succ, List.set_cons_zero])
  (refine Th.wpAnyK_takeY (i := 9) (v := ?_) rfl (by decide +kernel) (by decide +kernel) (by decide +kernel) (by decide) (fun _ _ _ h => h) (Or.inl ⟨by rfl, ?_⟩) (.inr ⟨⟨wd, hbd⟩, rfl⟩) ?_; rotate_left; (intro w; go_simp); (try with_reducible rfl))
  (try simp only [List.getElem_toArray, List.getElem_cons_succ, List.getElem_cons_zero, Act.put, List.setIfInBounds_toArray, List.set_cons_succ, List.set_cons_zero])
  (refine Th.wpAnyK_takeY (i := 10) (v := ?_) rfl (by decide +kernel) (by decide +kernel) (by decide +kernel) (by decide) (fun _ _ _ h => h) (Or.inl ⟨by rfl, ?_⟩) (.inr ⟨⟨wd, hbd⟩, rfl⟩) ?_; rotate_left; (intro w; go_simp); (try with_reducible rfl))
  (try simp only [List.getElem_toArray, List.getElem_cons_succ, List.getElem_cons_zero, Act.put, List.setIfInBounds_toArray, List.set_cons_succ, List.set_cons_zero])
  (refine Th.wpAnyK_take (i := 11) (v := .pointer (some ⟨fb, 0, none⟩)) [12, 13, 14, 15, 16, 17] rfl (by decide +kernel) (by decide +kernel) (by decide +kernel) (by decide +kernel) (fun _ _ _ h => h) (Th.yields_loadK rfl 49 (.tmp 78) rfl rfl (by rintro _ ⟨y, rfl⟩; exact HLF.out y)) ⟨⟨wd, hbd⟩, rfl⟩ ?_)
  (try simp only [List.getElem_toArray, List.getElem_cons_succ, List.getElem_cons_zero, Act.put, List.setIfInBounds_toArray, List.set_cons_succ, List.set_cons_zero])
  (refine Th.wpAnyK_takeY (i := 12) (v := ?_) rfl (by decide +kernel) (by decide +kernel) (by decide +kernel) (by decide) (fun _ _ _ h => h) (Or.inl ⟨by rfl, ?_⟩) (.inr ⟨⟨wd, hbd⟩, rfl⟩) ?_; rotate_left; (intro w; go_simp); (try with_reducible rfl))
  (try simp only [List.getElem_toArray, List.getElem_cons_succ, List.getElem_cons_zero, Act.put, List.setIfInBounds_toArray, List.set_cons_succ, List.set_cons_zero])
  (refine Th.wpAnyK_takeY (i := 13) (v := ?_) rfl (by decide +kernel) (by decide +kernel) (by decide +kernel) (by decide) (fun _ _ _ h => h) (Or.inl ⟨by rfl, ?_⟩) (.inr ⟨⟨wd, hbd⟩, rfl⟩) ?_; rotate_left; (intro w; go_simp); (try with_reducible rfl))
  (try simp only [List.getElem_toArray, List.getElem_cons_succ, List.getElem_cons_zero, Act.put, List.setIfInBounds_toArray, List.set_cons_succ, List.set_cons_zero])
  (refine Th.wpAnyK_takeY (i := 14) (v := ?_) rfl (by decide +kernel) (by decide +kernel) (by decide +kernel) (by decide) (fun _ _ _ h => h) (Or.inl ⟨by rfl, ?_⟩) (.inr ⟨⟨wd, hbd⟩, rfl⟩) ?_; rotate_left; (intro w; go_simp); (try with_reducible rfl))
  (try simp only [List.getElem_toArray, List.getElem_cons_succ, List.getElem_cons_zero, Act.put, List.setIfInBounds_toArray, List.set_cons_succ, List.set_cons_zero])
  (refine Th.wpAnyK_take (i := 15) (v := .int .u64 (F.r 1)) [16, 17] rfl (by decide +kernel) (by decide +kernel) (by decide +kernel) (by decide +kernel) (fun _ _ _ h => h) (Th.yields_loadK rfl 22 (.tmp 82) rfl rfl (by rintro _ ⟨y, rfl⟩; exact HL1.out y)) ⟨⟨wd, hbd⟩, rfl⟩ ?_)
  (try simp only [List.getElem_toArray, List.getElem_cons_succ, List.getElem_cons_zero, Act.put, List.setIfInBounds_toArray, List.set_cons_succ, List.set_cons_zero])
  (refine Th.wpAnyK_takeY (i := 16) (v := ?_) rfl (by decide +kernel) (by decide +kernel) (by decide +kernel) (by decide) (fun _ _ _ h => h) (Or.inl ⟨by rfl, ?_⟩) (.inr ⟨⟨wd, hbd⟩, rfl⟩) ?_; rotate_left; (intro w; go_simp); (try with_reducible rfl))
  (try simp only [List.getElem_toArray, List.getElem_cons_succ, List.getElem_cons_zero, Act.put, List.setIfInBounds_toArray, List.set_cons_succ, List.set_cons_zero])
  (refine Th.wpAnyK_ready (rs := [17]) (by decide +kernel) (by simp) ?_; refine (Th.AllReadyK.cons rfl (fun K hK => ?_) Th.AllReadyK.nil))
  refine step_of rfl ?_
  go_step
  refine (rchange (HU.out.below hdd) (F.r 0) (F.r 1) (tq k) fb hr.1 hr.2 a0 a1).mono ?_; rintro _ w3 ⟨rfl, hm3, ho⟩
  rw [HZ.out] at hm3 ⊢
  have hkw : Th.KS (fun j => j = mb ∨ j = mg ∨ j = mg) U w3 := hbd.trans ⟨ho.os, ho.tape, ho.output, ho.size, fun j hj hx => ho.block j hj (fun e => hx (.inl e)) (fun e => hx (.inr (.inl e)))⟩
  refine hK _ _ (.inl rfl) ?_
  clear hK K
  (try simp only [List.getElem_toArray, List.getElem_cons_succ, List.getElem_cons_zero, Act.put, List.setIfInBounds_toArray, List.set_cons_succ, List.set_cons_zero])
  rw [if_neg (by decide)] at hm3
  have HM3 := Lib.hid hm3
  have HF3 := Lib.hid (HFU.out.of (hkw.block fb (Th.blk_lt HFU.out) (by have := HNE.out; omega)))
  have HX3 := Lib.hid ((hkw.block X (Th.blk_lt HX.out) (by have := HNX.out; omega)).trans HX.out)
  have HK3 := Lib.hid hkw
  clear ho hm3 hkw
  (refine Th.wpAnyK_takeY (i := 18) (v := ?_) rfl (by decide +kernel) (by decide +kernel) (by decide +kernel) (by decide) (fun _ _ _ h => h) (Or.inl ⟨by rfl, ?_⟩) (.inr ⟨⟨w3, HK3.out⟩, rfl⟩) ?_; rotate_left; (intro w; go_simp); (try with_reducible rfl))
  (try simp only [List.getElem_toArray, List.getElem_cons_succ, List.getElem_cons_zero, Act.put, List.setIfInBounds_toArray, List.set_cons_succ, List.set_cons_zero])
  refine Th.wpAnyK_done (by decide +kernel) ?_ _
  have x2 : w3.cell? ⟨X, 2, none⟩ = some (.pointer (some ⟨fb, 0, none⟩)) := Th.newcell HX3.out 2 _ rfl
  have f1 : w3.cell? ⟨fb, 1, none⟩ = some (.int .i64 2) := by rw [HF3.out.get (i := 1) (by omega)]; unfold Th.frF; rw [if_neg (by decide), if_pos rfl, hpc]
  have rf : ∀ i, w3.frozen? ⟨fb, i, none⟩ = false := fun i => HF3.out.fr i
  go_wp2_with fail
  clear x2 f1 rf
  generalize hW2 : World.setCell _ _ _ = V
  have hbV : Th.Blk 48 V fb 26 (Th.upF (Th.frF F) 1 (.int .i64 0)) := by rw [← hW2]; exact HF3.out.set 1 _
  have hbV := hbV.congr (Th.frF_pc _ 0)
  have hkV : Th.KS (fun j => j = fb) w3 V := by rw [← hW2]; exact Th.KS.set w3 fb 1 _
  have HFV := Lib.hid hbV; have HKV := Lib.hid hkV
  clear hW2 hbV hkV
  refine bodyPost_end (v := .tuple #[]) (by simp [results, Try.results87, go_sem]) rfl ?_
  rw [HQ.out]
  have hTF := ((HT.out.below HBU.out).hi HK3.out.size fun j hj hjq => HK3.out.block j hj (by have := HH.out.qlt; omega)).frm hk (by omega : m < (Ts k).nf) (f := ⟨F.fn, 0, F.r⟩) (by rw [← HFE.out.1]; exact HKV.out) (by rw [← HFE.out.1]; exact HFV.out)
  have hwk : Th.KS (fun j => j = mb ∨ j = mg ∨ j = fb) w V := (Th.KS.of_below HBU.out).trans ((HK3.out.mono fun j e => by rcases e with e | e | e; exact .inl e; exact .inr (.inl e); exact .inr (.inl e)).trans (HKV.out.mono fun j e => .inr (.inr e)))
  refine ⟨rfl, HM3.out.ksT HF3.out HNE.out.2.2 (by decide) HKV.out, ?_, ?_⟩
  · rw [← HFE.out.2]; exact hTF
  rw [← HFE.out.1]; exact hwk
set_option maxRecDepth 8000 in
set_option maxHeartbeats 2000000 in
theorem take2y {w : World} {B q pl mb mg C gq gg gm : Nat} {fv : Value} {tq : Nat → Nat} {t s : Nat} {K : Int} {f : Nat → Int} {acc : Int} {flt : Bool} {H : Nat → Bool} {G : Nat → Int} {sl steps : Int} {odd : Bool} (h : MC w B q pl mb mg C gq gg gm fv tq t s K f acc flt H G sl steps odd) {Ts : Nat → Th.Td} {ps : Nat → Nat → Nat} {fvs : Nat → Value} (tf : TF w q t tq Ts ps fvs) {k m : Nat} (hk : k < t) (hm : (Ts k).nf = m + 1) (hpc : ((Ts k).fs m).pc = 2) (hr : 0 ≤ ((Ts k).fs m).r 0 ∧ ((Ts k).fs m).r 0 < 18446744073709551616) (hr1 : 0 ≤ ((Ts k).fs m).r 1 ∧ ((Ts k).fs m).r 1 < 9223372036854775808) (hz : (f 2 == ((Ts k).fs m).r 0) = true) (hsl : sl < 1000000)(a0 : 0 ≤ acc) (a1 : acc < 1000000) :
    Calls Try.prog 87 #[.agg #[.pointer (some ⟨q, 0, none⟩), .pointer (some ⟨tq k, 0, none⟩), .pointer (some ⟨ps k m, 0, none⟩)]] w fun x w' => x = .returned (.tuple #[]) ∧ MC w' B q pl mb mg C gq gg gm fv tq t s K (Mm.upd f 2 (chgI (((Ts k).fs m).r 0) (((Ts k).fs m).r 1))) (acc + 1) flt (Gd.takeH s H (((Ts k).fs m).r 0 % 4096)) G (if Gd.canT s H (((Ts k).fs m).r 0 % 4096) = true then sl else sl + 1) steps odd ∧ TF w' q t tq (fun i => if i = k then { Ts k with fs := Th.upM (Ts k).fs m ⟨((Ts k).fs m).fn, 3, ((Ts k).fs m).r⟩ } else Ts i) ps fvs ∧ Th.KS (fun j => j = mb ∨ j = mg ∨ j = gq ∨ j = gg ∨ j = gm ∨ j = ps k m) w w' := by
  refine Calls.veil fun Q HQ => ?_
  have hmm : m < (Ts k).nf := by omega
  obtain ⟨fb, hfb⟩ : ∃ fb, fb = ps k m := ⟨_, rfl⟩
  have hbk := ((tf.th k hk).a.fb m hmm).1
  have hfl := (tf.th k hk).frm hmm
  rw [← hfb] at hbk hfl ⊢
  have HH := Lib.hid h; have HT := Lib.hid tf
  have HFB := Lib.hid hbk
  have hql := h.qlt
  have HNE := Lib.hid (show fb ≠ mb ∧ fb ≠ mg ∧ q < fb from by omega)
  obtain ⟨F, hF⟩ : ∃ F, F = (Ts k).fs m := ⟨_, rfl⟩
  rw [← hF] at HFB hpc hr hr1 hz
  have HFE := Lib.hid (And.intro hfb hF)
  have HR1 := Lib.hid hr1; have HZ := Lib.hid hz
  clear h tf hbk hfl hfb hF hr1 hz
  go_enter Try.func87, Try.ntmps87
  go_upto_region 1 with fail
  generalize hV : World.alloc _ _ = U
  obtain ⟨u0, hbu⟩ := Th.heapnewE hV
  obtain ⟨X, hX⟩ : ∃ X, X = w.heap.size := ⟨_, rfl⟩
  rw [← hX] at u0 ⊢
  have HXW := Lib.hid hX
  have HU := Lib.hid (HH.out.below hbu); have HBU := Lib.hid hbu; have HX := Lib.hid u0; have HFU := Lib.hid (HFB.out.below hbu)
  have HNX := Lib.hid (show X ≠ mb ∧ X ≠ mg ∧ X ≠ fb ∧ X ≠ q from by have := Th.blk_lt HFB.out; have := HH.out.qlt; omega)
  clear hV u0 hbu hX
  have x2 : U.cell? ⟨X, 2, none⟩ = some (.pointer (some ⟨fb, 0, none⟩)) := Th.newcell HX.out 2 _ rfl
  have f1 : U.cell? ⟨fb, 1, none⟩ = some (.int .i64 2) := by rw [HFU.out.get (i := 1) (by omega)]; unfold Th.frF; rw [if_neg (by decide), if_pos rfl, hpc]
  have f2 : U.cell? ⟨fb, 2, none⟩ = some (.int .u64 (F.r 0)) := by rw [HFU.out.get (i := 2) (by omega)]; rfl
  go_wp2_with fail
  refine (bslot_calls _ _ hr.1 hr.2).mono ?_; rintro _ _ ⟨rfl, rfl⟩
  go_upto_region 12 with fail
  clear x2 f1 f2
  have HLF := Lib.hid (show ∀ y : KX U mb mg mg, (Instr.loadAt 49 (.pointer (some ⟨X, 2, none⟩))).run Try.prog y.w = .ok (.pointer (some ⟨fb, 0, none⟩)) y.w from fun y => by have hc := KX.cells (Th.newcell HX.out 2 _ rfl) HNX.out.1 HNX.out.2.1 HNX.out.2.1 y; go_simp)
  have HLM := Lib.hid (show ∀ y : KX U mb mg mg, (Instr.loadAt 137 (.pointer (some ⟨X, 0, none⟩))).run Try.prog y.w = .ok (.agg #[.pointer (some ⟨q, 0, none⟩), .pointer (some ⟨tq k, 0, none⟩), .pointer (some ⟨fb, 0, none⟩)]) y.w from fun y => by
    have hc0 := KX.cells (Th.newcell HX.out 0 _ rfl) HNX.out.1 HNX.out.2.1 HNX.out.2.1 y; have hc1 := KX.cells (Th.newcell HX.out 1 _ rfl) HNX.out.1 HNX.out.2.1 HNX.out.2.1 y; have hc2 := KX.cells (Th.newcell HX.out 2 _ rfl) HNX.out.1 HNX.out.2.1 HNX.out.2.1 y
    go_simp)
  have HL0 := Lib.hid (show ∀ y : KX U mb mg mg, (Instr.loadAt 22 (.pointer (some ⟨fb, 2, none⟩))).run Try.prog y.w = .ok (.int .u64 (F.r 0)) y.w from fun y => by have hc := KX.cells (show U.cell? ⟨fb, 2, none⟩ = some (.int .u64 (F.r 0)) by rw [HFU.out.get (i := 2) (by omega)]; rfl) HNE.out.1 HNE.out.2.1 HNE.out.2.1 y; go_simp)
  have HL1 := Lib.hid (show ∀ y : KX U mb mg mg, (Instr.loadAt 22 (.pointer (some ⟨fb, 3, none⟩))).run Try.prog y.w = .ok (.int .u64 (F.r 1)) y.w from fun y => by have hc := KX.cells (show U.cell? ⟨fb, 3, none⟩ = some (.int .u64 (F.r 1)) by rw [HFU.out.get (i := 3) (by omega)]; rfl) HNE.out.1 HNE.out.2.1 HNE.out.2.1 y; go_simp)
  have hw1 : IntKind.i64.wrap (F.r 1) = F.r 1 := by have := HR1.out; rw [IntKind.wrap_i64]; omega
  refine Th.wp_region_K (fun w' => ∃ y : KX U mb mg mg, w' = y.w) 17 (by decide +kernel) ?_
  generalize hwd : World.drew U = wd
  have hdd : Below U.heap.size U wd := by rw [← hwd]; exact (Below.refl _ _).drew
  have hbd : Th.KS (fun j => j = mb ∨ j = mg ∨ j = mg) U wd := .of_below hdd
  clear hwd
  (refine Th.wpAnyK_takeY (i := 0) (v := ?_) rfl (by decide +kernel) (by decide +kernel) (by decide +kernel) (by decide) (fun _ _ _ h => h) (Or.inl ⟨by rfl, ?_⟩) (.inr ⟨⟨wd, hbd⟩, rfl⟩) ?_; rotate_left; (intro w; go_simp); (try with_reducible rfl))
  (try simp only [List.getElem_toArray, List.getElem_cons_succ, List.getElem_cons_zero, Act.put, List.setIfInBounds_toArray, List.set_cons_succ, List.set_cons_zero])
  (refine Th.wpAnyK_take (i := 1) (v := .agg #[.pointer (some ⟨q, 0, none⟩), .pointer (some ⟨tq k, 0, none⟩), .pointer (some ⟨fb, 0, none⟩)]) [17] rfl (by decide +kernel) (by decide +kernel) (by decide +kernel) (by decide +kernel) (fun _ _ _ h => h) (Th.yields_loadK rfl 137 (.tmp 68) rfl rfl (by rintro _ ⟨y, rfl⟩; exact HLM.out y)) ⟨⟨wd, hbd⟩, rfl⟩ ?_)
  (try simp only [List.getElem_toArray, List.getElem_cons_succ, List.getElem_cons_zero, Act.put, List.setIfInBounds_toArray, List.set_cons_succ, List.set_cons_zero])
  (refine Th.wpAnyK_takeY (i := 2) (v := ?_) rfl (by decide +kernel) (by decide +kernel) (by decide +kernel) (by decide) (fun _ _ _ h => h) (Or.inl ⟨by rfl, ?_⟩) (.inr ⟨⟨wd, hbd⟩, rfl⟩) ?_; rotate_left; (intro w; go_simp); (try with_reducible rfl))
  (try simp only [List.getElem_toArray, List.getElem_cons_succ, List.getElem_cons_zero, Act.put, List.setIfInBounds_toArray, List.set_cons_succ, List.set_cons_zero])
  (refine Th.wpAnyK_takeY (i := 3) (v := ?_) rfl (by decide +kernel) (by decide +kernel) (by decide +kernel) (by decide) (fun _ _ _ h => h) (Or.inl ⟨by rfl, ?_⟩) (.inr ⟨⟨wd, hbd⟩, rfl⟩) ?_; rotate_left; (intro w; go_simp); (try with_reducible rfl))
  (try simp only [List.getElem_toArray, List.getElem_cons_succ, List.getElem_cons_zero, Act.put, List.setIfInBounds_toArray, List.set_cons_succ, List.set_cons_zero])
  (refine Th.wpAnyK_take (i := 4) (v := .pointer (some ⟨fb, 0, none⟩)) [5, 6, 7, 8, 17] rfl (by decide +kernel) (by decide +kernel) (by decide +kernel) (by decide +kernel) (fun _ _ _ h => h) (Th.yields_loadK rfl 49 (.tmp 71) rfl rfl (by rintro _ ⟨y, rfl⟩; exact HLF.out y)) ⟨⟨wd, hbd⟩, rfl⟩ ?_)
  (try simp only [List.getElem_toArray, List.getElem_cons_succ, List.getElem_cons_zero, Act.put, List.setIfInBounds_toArray, List.set_cons_succ, List.set_cons_zero])
  (refine Th.wpAnyK_takeY (i := 5) (v := ?_) rfl (by decide +kernel) (by decide +kernel) (by decide +kernel) (by decide) (fun _ _ _ h => h) (Or.inl ⟨by rfl, ?_⟩) (.inr ⟨⟨wd, hbd⟩, rfl⟩) ?_; rotate_left; (intro w; go_simp); (try with_reducible rfl))
  (try simp only [List.getElem_toArray, List.getElem_cons_succ, List.getElem_cons_zero, Act.put, List.setIfInBounds_toArray, List.set_cons_succ, List.set_cons_zero])
  (refine Th.wpAnyK_takeY (i := 6) (v := ?_) rfl (by decide +kernel) (by decide +kernel) (by decide +kernel) (by decide) (fun _ _ _ h => h) (Or.inl ⟨by rfl, ?_⟩) (.inr ⟨⟨wd, hbd⟩, rfl⟩) ?_; rotate_left; (intro w; go_simp); (try with_reducible rfl))
  (try simp only [List.getElem_toArray, List.getElem_cons_succ, List.getElem_cons_zero, Act.put, List.setIfInBounds_toArray, List.set_cons_succ, List.set_cons_zero])
  (refine Th.wpAnyK_takeY (i := 7) (v := ?_) rfl (by decide +kernel) (by decide +kernel) (by decide +kernel) (by decide) (fun _ _ _ h => h) (Or.inl ⟨by rfl, ?_⟩) (.inr ⟨⟨wd, hbd⟩, rfl⟩) ?_; rotate_left; (intro w; go_simp); (try with_reducible rfl))
  (try simp only [List.getElem_toArray, List.getElem_cons_succ, List.getElem_cons_zero, Act.put, List.setIfInBounds_toArray, List.set_cons_succ, List.set_cons_zero])
  (refine Th.wpAnyK_take (i := 8) (v := .int .u64 (F.r 0)) [17] rfl (by decide +kernel) (by decide +kernel) (by decide +kernel) (by decide +kernel) (fun _ _ _ h => h) (Th.yields_loadK rfl 22 (.tmp 75) rfl rfl (by rintro _ ⟨y, rfl⟩; exact HL0.out y)) ⟨⟨wd, hbd⟩, rfl⟩ ?_)
  (try simp only [List.getElem_toArray, List.getElem_cons_succ, List.getElem_cons_zero, Act.put, List.setIfInBounds_toArray, List.set_cons_succ, List.set_cons_zero])
  (refine Th.wpAnyK_takeY (i := 9) (v := ?_) rfl (by decide +kernel) (by decide +kernel) (by decide +kernel) (by decide) (fun _ _ _ h => h) (Or.inl ⟨by rfl, ?_⟩) (.inr ⟨⟨wd, hbd⟩, rfl⟩) ?_; rotate_left; (intro w; go_simp); (try with_reducible rfl))
  (try simp only [List.getElem_toArray, List.getElem_cons_succ, List.getElem_cons_zero, Act.put, List.setIfInBounds_toArray, List.set_cons_succ, List.set_cons_zero])
  (refine Th.wpAnyK_takeY (i := 10) (v := ?_) rfl (by decide +kernel) (by decide +kernel) (by decide +kernel) (by decide) (fun _ _ _ h => h) (Or.inl ⟨by rfl, ?_⟩) (.inr ⟨⟨wd, hbd⟩, rfl⟩) ?_; rotate_left; (intro w; go_simp); (try with_reducible rfl))
  (try simp only [List.getElem_toArray, List.getElem_cons_succ, List.getElem_cons_zero, Act.put, List.setIfInBounds_toArray, List.set_cons_succ, List.set_cons_zero])
  (refine Th.wpAnyK_take (i := 11) (v := .pointer (some ⟨fb, 0, none⟩)) [12, 13, 14, 15, 16, 17] rfl (by decide +kernel) (by decide +kernel) (by decide +kernel) (by decide +kernel) (fun _ _ _ h => h) (Th.yields_loadK rfl 49 (.tmp 78) rfl rfl (by rintro _ ⟨y, rfl⟩; exact HLF.out y)) ⟨⟨wd, hbd⟩, rfl⟩ ?_)
  (try simp only [List.getElem_toArray, List.getElem_cons_succ, List.getElem_cons_zero, Act.put, List.setIfInBounds_toArray, List.set_cons_succ, List.set_cons_zero])
  (refine Th.wpAnyK_takeY (i := 12) (v := ?_) rfl (by decide +kernel) (by decide +kernel) (by decide +kernel) (by decide) (fun _ _ _ h => h) (Or.inl ⟨by rfl, ?_⟩) (.inr ⟨⟨wd, hbd⟩, rfl⟩) ?_; rotate_left; (intro w; go_simp); (try with_reducible rfl))
  (try simp only [List.getElem_toArray, List.getElem_cons_succ, List.getElem_cons_zero, Act.put, List.setIfInBounds_toArray, List.set_cons_succ, List.set_cons_zero])
  (refine Th.wpAnyK_takeY (i := 13) (v := ?_) rfl (by decide +kernel) (by decide +kernel) (by decide +kernel) (by decide) (fun _ _ _ h => h) (Or.inl ⟨by rfl, ?_⟩) (.inr ⟨⟨wd, hbd⟩, rfl⟩) ?_; rotate_left; (intro w; go_simp); (try with_reducible rfl))
  (try simp only [List.getElem_toArray, List.getElem_cons_succ, List.getElem_cons_zero, Act.put, List.setIfInBounds_toArray, List.set_cons_succ, List.set_cons_zero])
  (refine Th.wpAnyK_takeY (i := 14) (v := ?_) rfl (by decide +kernel) (by decide +kernel) (by decide +kernel) (by decide) (fun _ _ _ h => h) (Or.inl ⟨by rfl, ?_⟩) (.inr ⟨⟨wd, hbd⟩, rfl⟩) ?_; rotate_left; (intro w; go_simp); (try with_reducible rfl))
  (try simp only [List.getElem_toArray, List.getElem_cons_succ, List.getElem_cons_zero, Act.put, List.setIfInBounds_toArray, List.set_cons_succ, List.set_cons_zero])
  (refine Th.wpAnyK_take (i := 15) (v := .int .u64 (F.r 1)) [16, 17] rfl (by decide +kernel) (by decide +kernel) (by decide +kernel) (by decide +kernel) (fun _ _ _ h => h) (Th.yields_loadK rfl 22 (.tmp 82) rfl rfl (by rintro _ ⟨y, rfl⟩; exact HL1.out y)) ⟨⟨wd, hbd⟩, rfl⟩ ?_)
  (try simp only [List.getElem_toArray, List.getElem_cons_succ, List.getElem_cons_zero, Act.put, List.setIfInBounds_toArray, List.set_cons_succ, List.set_cons_zero])
  (refine Th.wpAnyK_takeY (i := 16) (v := ?_) rfl (by decide +kernel) (by decide +kernel) (by decide +kernel) (by decide) (fun _ _ _ h => h) (Or.inl ⟨by rfl, ?_⟩) (.inr ⟨⟨wd, hbd⟩, rfl⟩) ?_; rotate_left; (intro w; go_simp); (try with_reducible rfl))
  (try simp only [List.getElem_toArray, List.getElem_cons_succ, List.getElem_cons_zero, Act.put, List.setIfInBounds_toArray, List.set_cons_succ, List.set_cons_zero])
  (refine Th.wpAnyK_ready (rs := [17]) (by decide +kernel) (by simp) ?_; refine (Th.AllReadyK.cons rfl (fun K hK => ?_) Th.AllReadyK.nil))
  refine step_of rfl ?_
  go_step
  refine (rchange (HU.out.below hdd) (F.r 0) (F.r 1) (tq k) fb hr.1 hr.2 a0 a1).mono ?_; rintro _ w3 ⟨rfl, hm3, ho⟩
  rw [HZ.out] at hm3 ⊢
  have hkw : Th.KS (fun j => j = mb ∨ j = mg ∨ j = mg) U w3 := hbd.trans ⟨ho.os, ho.tape, ho.output, ho.size, fun j hj hx => ho.block j hj (fun e => hx (.inl e)) (fun e => hx (.inr (.inl e)))⟩
  refine hK _ _ (.inl rfl) ?_
  clear hK K
  (try simp only [List.getElem_toArray, List.getElem_cons_succ, List.getElem_cons_zero, Act.put, List.setIfInBounds_toArray, List.set_cons_succ, List.set_cons_zero])
  rw [if_pos rfl] at hm3
  have HM3 := Lib.hid hm3
  have HF3 := Lib.hid (HFU.out.of (hkw.block fb (Th.blk_lt HFU.out) (by have := HNE.out; omega)))
  have HX3 := Lib.hid ((hkw.block X (Th.blk_lt HX.out) (by have := HNX.out; omega)).trans HX.out)
  have HK3 := Lib.hid hkw
  clear ho hm3 hkw
  (refine Th.wpAnyK_takeY (i := 18) (v := ?_) rfl (by decide +kernel) (by decide +kernel) (by decide +kernel) (by decide) (fun _ _ _ h => h) (Or.inl ⟨by rfl, ?_⟩) (.inr ⟨⟨w3, HK3.out⟩, rfl⟩) ?_; rotate_left; (intro w; go_simp); (try with_reducible rfl))
  (try simp only [List.getElem_toArray, List.getElem_cons_succ, List.getElem_cons_zero, Act.put, List.setIfInBounds_toArray, List.set_cons_succ, List.set_cons_zero])
  refine Th.wpAnyK_done (by decide +kernel) ?_ _
  have x0 : w3.cell? ⟨X, 0, none⟩ = some (.pointer (some ⟨q, 0, none⟩)) := Th.newcell HX3.out 0 _ rfl
  go_wp2_with fail
  refine (cGuard HM3.out).mono ?_; rintro _ _ ⟨rfl, rfl⟩
  go_wp2_with fail
  refine (Gd.gtake HM3.out.grd (F.r 0 % 4096) hsl).mono ?_; rintro _ w4 ⟨rfl, hga, hk4⟩
  clear x0
  have hqb := HM3.out.o5
  have HM4 := Lib.hid (HM3.out.gd hk4 hga)
  have HF4 := Lib.hid (HF3.out.of (hk4.block fb (Th.blk_lt HF3.out) (by have := HNE.out; omega) (by have := HNE.out; omega) (by have := HNE.out; omega)))
  have HX4 := Lib.hid ((hk4.block X (Th.blk_lt HX3.out) (by have := HNX.out; have := HXW.out; have := HH.out.qlt; omega) (by have := HXW.out; have := HH.out.qlt; omega) (by have := HXW.out; have := HH.out.qlt; omega)).trans HX3.out)
  have HK4 := Lib.hid ((HK3.out.mono fun j e => by rcases e with e | e | e; exact .inl e; exact .inr (.inl e); exact .inr (.inl e) : Th.KS (fun j => j = mb ∨ j = mg ∨ j = gq ∨ j = gg ∨ j = gm) U w3).trans ⟨hk4.os, hk4.tape, hk4.output, hk4.size, fun j hj hx => hk4.block j hj (fun e => hx (.inr (.inr (.inl e)))) (fun e => hx (.inr (.inr (.inr (.inl e))))) (fun e => hx (.inr (.inr (.inr (.inr e)))))⟩)
  have HQB := Lib.hid hqb
  clear hga hk4 hqb HM3 HF3 HX3 HK3
  have x2 : w4.cell? ⟨X, 2, none⟩ = some (.pointer (some ⟨fb, 0, none⟩)) := Th.newcell HX4.out 2 _ rfl
  have f1 : w4.cell? ⟨fb, 1, none⟩ = some (.int .i64 2) := by rw [HF4.out.get (i := 1) (by omega)]; unfold Th.frF; rw [if_neg (by decide), if_pos rfl, hpc]
  have rf : ∀ i, w4.frozen? ⟨fb, i, none⟩ = false := fun i => HF4.out.fr i
  go_wp2_with fail
  clear x2 f1 rf
  generalize hW2 : World.setCell _ _ _ = V
  have hbV : Th.Blk 48 V fb 26 (Th.upF (Th.frF F) 1 (.int .i64 3)) := by rw [← hW2]; exact HF4.out.set 1 _
  have hbV := hbV.congr (Th.frF_pc _ 3)
  have hkV : Th.KS (fun j => j = fb) w4 V := by rw [← hW2]; exact Th.KS.set w4 fb 1 _
  have HFV := Lib.hid hbV; have HKV := Lib.hid hkV
  clear hW2 hbV hkV
  refine bodyPost_end (v := .tuple #[]) (by simp [results, Try.results87, go_sem]) rfl ?_
  rw [HQ.out]
  have hTF := ((HT.out.below HBU.out).hi HK4.out.size fun j hj hjq => HK4.out.block j hj (by have := HH.out.qlt; have := HQB.out; omega)).frm hk (by omega : m < (Ts k).nf) (f := ⟨F.fn, 3, F.r⟩) (by rw [← HFE.out.1]; exact HKV.out) (by rw [← HFE.out.1]; exact HFV.out)
  have hwk : Th.KS (fun j => j = mb ∨ j = mg ∨ j = gq ∨ j = gg ∨ j = gm ∨ j = fb) w V := (Th.KS.of_below HBU.out).trans ((HK4.out.mono fun j e => by rcases e with e | e | e | e | e; exact .inl e; exact .inr (.inl e); exact .inr (.inr (.inl e)); exact .inr (.inr (.inr (.inl e))); exact .inr (.inr (.inr (.inr (.inl e))))).trans (HKV.out.mono fun j e => .inr (.inr (.inr (.inr (.inr e))))))
  refine ⟨rfl, ?_, ?_, ?_⟩
  · rw [← HFE.out.2]; exact HM4.out.ksT HF4.out HNE.out.2.2 (by decide) HKV.out
  · rw [← HFE.out.2]; exact hTF
  rw [← HFE.out.1]; exact hwk
end Go.Proofs.Ytaaciolfgplnoaa

/- Layer 17 and on: a machine and its threads as one. -/
namespace Go.Proofs.Ytaaciolfgplnoaa
open Go.RowKit WordM EdgeM
set_option linter.unusedVariables false
set_option linter.unusedSimpArgs false
/-- Where a machine lies. -/
structure Pc where
  B : Nat
  q : Nat
  pl : Nat
  mb : Nat
  mg : Nat
  C : Nat
  gq : Nat
  gg : Nat
  gm : Nat
  fv : Value
  tq : Nat → Nat
  t : Nat
  s : Nat
  K : Int
  N : Nat
/-- What a machine has. -/
structure Sg where
  f : Nat → Int
  acc : Int
  flt : Bool
  H : Nat → Bool
  G : Nat → Int
  sl : Int
  steps : Int
  odd : Bool
  Ts : Nat → Th.Td
structure MM (w : World) (P : Pc) (σ : Sg) : Prop where
  c : MC w P.B P.q P.pl P.mb P.mg P.C P.gq P.gg P.gm P.fv P.tq P.t P.s P.K σ.f σ.acc σ.flt σ.H σ.G σ.sl σ.steps σ.odd
  th : ∃ ps fvs, TF w P.q P.t P.tq σ.Ts ps fvs
  qN : P.q < P.N
  tN : ∀ i, i < P.t → P.tq i < P.N
  NS : P.N ≤ w.heap.size
/-- A block of frames. -/
def MT (w : World) (j : Nat) : Prop := ∃ cur, w.heap[j]? = some (.cells cur 48 (0, 0)) ∨ w.heap[j]? = some (.cells cur 49 (0, 0))
/-- What else there is stays as it is. -/
def KA (B N : Nat) (w w' : World) : Prop := Th.KS (fun j => B ≤ j ∧ (j < N ∨ MT w j)) w w'
theorem KA.trans {B N : Nat} {a b c : World} (h : KA B N a b) (k : KA B N b c) : KA B N a c := by
  refine ⟨k.os.trans h.os, k.tape.trans h.tape, k.output.trans h.output, Nat.le_trans h.size k.size, fun j hj hx => ?_⟩
  have e := h.block j hj hx
  refine (k.block j (Nat.lt_of_lt_of_le hj h.size) fun hy => hx ?_).trans e
  rcases hy with ⟨hb, hy | ⟨cur, hy⟩⟩
  · exact ⟨hb, .inl hy⟩
  · rw [e] at hy; exact ⟨hb, .inr ⟨cur, hy⟩⟩
theorem KA.of_below {B N : Nat} {w w' : World} (h : Below w.heap.size w w') : KA B N w w' := Th.KS.of_below h
theorem KA.below {N : Nat} {w0 w w' : World} (h : Below w0.heap.size w0 w) (k : KA w0.heap.size N w w') : Below w0.heap.size w0 w' :=
  ⟨k.os.trans h.os, k.tape.trans h.tape, k.output.trans h.output, Nat.le_trans h.size k.size, fun j hj => (k.block j (Nat.lt_of_lt_of_le hj h.size) (by omega)).trans (h.block j hj)⟩
theorem KA.refl (B N : Nat) (w : World) : KA B N w w := .of_below (Below.refl _ _)
theorem KA.ks {B N : Nat} {w w' : World} {X : Nat → Prop} (h : Th.KS X w w') (k : ∀ j, X j → B ≤ j ∧ (j < N ∨ MT w j)) : KA B N w w' := h.mono k
/-- A block of another type that stands outside stays. -/
theorem KA.keep {B N : Nat} {w w' : World} (h : KA B N w w') {j : Nat} {cur : Array Value} {T : TypeId} (hj : w.heap[j]? = some (.cells cur T (0, 0))) (ho : j < B ∨ N ≤ j) (h1 : 48 ≠ T) (h2 : 49 ≠ T) : w'.heap[j]? = w.heap[j]? := by
  refine h.block j (Th.blk_lt hj) ?_
  rintro ⟨hb, e | ⟨c, e | e⟩⟩
  · omega
  · exact h1 (by rw [hj] at e; simp only [Option.some.injEq, Obj.cells.injEq] at e; exact e.2.1.symm)
  · exact h2 (by rw [hj] at e; simp only [Option.some.injEq, Obj.cells.injEq] at e; exact e.2.1.symm)
section
variable {w w' : World} {P : Pc} {σ : Sg}
theorem MM.below (h : MM w P σ) (k : Below w.heap.size w w') : MM w' P σ := by
  obtain ⟨ps, fvs, tf⟩ := h.th
  exact ⟨h.c.below k, ⟨ps, fvs, tf.below k⟩, h.qN, h.tN, Nat.le_trans h.NS k.size⟩
theorem MM.bd (h : MM w P σ) : (1 ≤ P.t ∧ P.t ≤ 6) ∧ (7 ≤ P.s ∧ P.s ≤ 250) := h.c.bd
theorem MM.ord (h : MM w P σ) : (P.B ≤ P.mb ∧ P.mb < P.N) ∧ (P.B ≤ P.mg ∧ P.mg < P.N) ∧ (P.B ≤ P.gq ∧ P.gq < P.N) ∧ (P.B ≤ P.gg ∧ P.gg < P.N) ∧ (P.B ≤ P.gm ∧ P.gm < P.N) ∧ (P.B ≤ P.q ∧ P.q < P.N) ∧ (∀ i, i < P.t → P.B ≤ P.tq i ∧ P.tq i < P.N) := by
  have o1 := h.c.o1; have o2 := h.c.o2; have o3 := h.c.o3; have o4 := h.c.o4; have o5 := h.c.o5; have o6 := h.qN
  refine ⟨by omega, by omega, by omega, by omega, by omega, by omega, fun i hi => ?_⟩
  have := h.c.tlo i hi
  have := h.tN i hi
  omega
/-- What a step changes lies in the machine. -/
theorem MM.ka (h : MM w P σ) {ps : Nat → Nat → Nat} {fvs : Nat → Value} (tf : TF w P.q P.t P.tq σ.Ts ps fvs) {k m : Nat} (hk : k < P.t) {X : Nat → Prop} (ks : Th.KS X w w') (hx : ∀ j, X j → j = P.mb ∨ j = P.mg ∨ j = P.gq ∨ j = P.gg ∨ j = P.gm ∨ j = P.q ∨ j = P.tq k ∨ (fvs k).ownBlock = some j ∨ (m < (σ.Ts k).nf ∧ j = ps k m)) : KA P.B P.N w w' := by
  obtain ⟨o1, o2, o3, o4, o5, o6, o7⟩ := h.ord
  refine KA.ks ks fun j hj => ?_
  rcases hx j hj with rfl | rfl | rfl | rfl | rfl | rfl | rfl | e | ⟨hm, rfl⟩
  · exact ⟨o1.1, .inl o1.2⟩
  · exact ⟨o2.1, .inl o2.2⟩
  · exact ⟨o3.1, .inl o3.2⟩
  · exact ⟨o4.1, .inl o4.2⟩
  · exact ⟨o5.1, .inl o5.2⟩
  · exact ⟨o6.1, .inl o6.2⟩
  · exact ⟨(o7 k hk).1, .inl (o7 k hk).2⟩
  · obtain ⟨h1, _, c, hc⟩ := (tf.th k hk).own e
    exact ⟨by omega, .inr ⟨c, .inr hc⟩⟩
  · obtain ⟨h1, _, c, hc⟩ := (tf.th k hk).frm hm
    exact ⟨by omega, .inr ⟨c, .inl hc⟩⟩
theorem MM.kq (h : MM w P σ) {ps : Nat → Nat → Nat} {fvs : Nat → Value} (tf : TF w P.q P.t P.tq σ.Ts ps fvs) {k : Nat} (hk : k < P.t) (kq : Th.KQ w w' (P.tq k) (fvs k) (.slice none 0 0)) : KA P.B P.N w w' :=
  h.ka tf hk (m := 0) (X := fun j => j = P.tq k ∨ (fvs k).ownBlock = some j) ⟨kq.os, kq.tape, kq.output, kq.size, fun j hj hx => kq.block j hj (fun e => hx (.inl e)) (fun e => hx (.inr e)) (fun e => by cases e)⟩ fun j hj => by
    rcases hj with e | e
    · exact .inr (.inr (.inr (.inr (.inr (.inr (.inl e))))))
    · exact .inr (.inr (.inr (.inr (.inr (.inr (.inr (.inl e)))))))
end
/-- A machine at first. -/
def sgInit (t s : Nat) : Sg := ⟨partF t 3 s, 0, false, fun i => decide (i < 5), fun _ => 0, 0, 0, false, fun _ => Th.T0⟩
theorem MM.init {w w' : World} {q pl mb mg C gq gg gm : Nat} {fv : Value} {tq : Nat → Nat} {t s : Nat} {K : Int} (h : MI w' w.heap.size q pl mb mg C gq gg gm fv tq t s K (partF t 3 s) 0 false (fun i => decide (i < 5)) (fun _ => 0) 0 0 false) (hi : ∀ i j, i < t → j < t → tq i = tq j → i = j) :
    MM w' ⟨w.heap.size, q, pl, mb, mg, C, gq, gg, gm, fv, tq, t, s, K, w'.heap.size⟩ (sgInit t s) :=
  ⟨h.mc, ⟨_, _, TF.init h hi⟩, Th.blk_lt h.blk, fun i hi => Th.blk_lt (h.thr i hi).2, Nat.le_refl _⟩
/-! ### A thread is called, and one's frame is asked -/
def Sg.thr (σ : Sg) (k : Nat) (T : Th.Td) : Sg := { σ with Ts := fun i => if i = k then T else σ.Ts i }
theorem mcall {w : World} {P : Pc} {σ : Sg} (h : MM w P σ) {k : Nat} (hk : k < P.t) (fn : Int) {v : Value} {n : Nat} {L : Nat → Int} (hu : Th.UR w v n L) (hf : (σ.Ts k).nf ≤ 100000) :
    Calls Try.prog 11 #[.pointer (some ⟨P.tq k, 0, none⟩), .int .i64 fn, v] w fun e w' => e = .returned (.tuple #[]) ∧ MM w' P (σ.thr k (Th.callT (σ.Ts k) fn n L)) ∧ KA P.B P.N w w' := by
  obtain ⟨ps, fvs, tf⟩ := h.th
  have hth := tf.th k hk
  refine (Th.fcallX hth.a fn hu (by have := h.c.qlt; omega) (by omega)).mono ?_
  rintro _ w' ⟨rfl, ⟨b, fv', hb, ha, ho⟩, kq⟩
  refine ⟨rfl, ⟨h.c.kqF tf hk kq, ⟨_, _, tf.one (p' := fun i => if i = (σ.Ts k).nf then b else ps k i) hk ⟨ha, hth.r, hth.s⟩ kq ho fun a h1 => ?_⟩, h.qN, h.tN, Nat.le_trans h.NS kq.size⟩, h.kq tf hk kq⟩
  have h2 : a < (σ.Ts k).nf + 1 := h1
  by_cases e : a = (σ.Ts k).nf
  · right; simp only [if_pos e]; exact hb
  · left; simp only [if_neg e]; exact ⟨by omega, trivial⟩
theorem mdepth {w : World} {P : Pc} {σ : Sg} (h : MM w P σ) {k : Nat} (hk : k < P.t) : Calls Try.prog 10 #[.pointer (some ⟨P.tq k, 0, none⟩)] w fun e w' => e = .returned (.int .i64 (σ.Ts k).nf) ∧ w = w' := by
  obtain ⟨ps, fvs, tf⟩ := h.th
  exact Th.fdepth (tf.th k hk).a
end Go.Proofs.Ytaaciolfgplnoaa
