/- Layer 17: Give's last two steps. -/
import Derived.Test.YtaaciolfgplnoaaGAN
namespace Go.Proofs.Ytaaciolfgplnoaa
open Go.RowKit WordM EdgeM
set_option linter.unusedVariables false
set_option linter.unusedSimpArgs false
set_option maxRecDepth 8000 in
set_option maxHeartbeats 2000000 in
theorem give2 {w : World} {B q pl mb mg C gq gg gm : Nat} {fv : Value} {tq : Nat → Nat} {t s : Nat} {K : Int} {f : Nat → Int} {acc : Int} {flt : Bool} {H : Nat → Bool} {G : Nat → Int} {sl steps : Int} {odd : Bool} (h : MC w B q pl mb mg C gq gg gm fv tq t s K f acc flt H G sl steps odd) {Ts : Nat → Th.Td} {ps : Nat → Nat → Nat} {fvs : Nat → Value} (tf : TF w q t tq Ts ps fvs) {k m : Nat} (hk : k < t) (hm : (Ts k).nf = m + 1) (hpc : ((Ts k).fs m).pc = 2) (hr : 0 ≤ ((Ts k).fs m).r 0 ∧ ((Ts k).fs m).r 0 < 18446744073709551616) (hr1 : 0 ≤ (((Ts k).fs m).r 1) ∧ (((Ts k).fs m).r 1) < 18446744073709551616) (a0 : 0 ≤ acc) (a1 : acc < 1000000) :
    Calls Try.prog 88 #[.agg #[.pointer (some ⟨q, 0, none⟩), .pointer (some ⟨tq k, 0, none⟩), .pointer (some ⟨ps k m, 0, none⟩)]] w fun x w' => x = .returned (.tuple #[]) ∧ MC w' B q pl mb mg C gq gg gm fv tq t s K (if Mm.okA (3 + 8 * t + 7 * s) (nodeI t s ((((Ts k).fs m).r 0) % 4096) 0) = true then Mm.upd f ((nodeI t s ((((Ts k).fs m).r 0) % 4096) 0)).toNat ((((Ts k).fs m).r 1) % 4096) else f) (acc + 1) (flt || !Mm.okA (3 + 8 * t + 7 * s) (nodeI t s ((((Ts k).fs m).r 0) % 4096) 0)) (H) (G) (sl) steps odd ∧ TF w' q t tq (fun i => if i = k then { Ts k with fs := Th.upM (Ts k).fs m ⟨((Ts k).fs m).fn, 3, ((Ts k).fs m).r⟩ } else Ts i) ps fvs ∧ Th.KS (fun j => j = mb ∨ j = mg ∨ j = ps k m) w w' := by
  refine Calls.veil fun Q HQ => ?_
  have hmm : m < (Ts k).nf := by omega
  obtain ⟨fb, hfb⟩ : ∃ fb, fb = ps k m := ⟨_, rfl⟩
  have hbk := ((tf.th k hk).a.fb m hmm).1
  have hfl := (tf.th k hk).frm hmm
  rw [← hfb] at hbk hfl ⊢
  have HH := Lib.hid h; have HT := Lib.hid tf
  have HFB := Lib.hid hbk
  have hql := h.qlt
  have HNE := Lib.hid (show fb ≠ mb ∧ fb ≠ mg ∧ q < fb from by omega)
  obtain ⟨F, hF⟩ : ∃ F, F = (Ts k).fs m := ⟨_, rfl⟩
  rw [← hF] at HFB hpc hr hr1
  have HFE := Lib.hid (And.intro hfb hF)
  have HR1 := Lib.hid hr1
  clear h tf hbk hfl hfb hF hr1
  go_enter Try.func88, Try.ntmps88
  go_upto_region 1 with fail
  generalize hV : World.alloc _ _ = U
  obtain ⟨u0, hbu⟩ := Th.heapnewE hV
  obtain ⟨X, hX⟩ : ∃ X, X = w.heap.size := ⟨_, rfl⟩
  rw [← hX] at u0 ⊢
  have HXW := Lib.hid hX
  have HU := Lib.hid (HH.out.below hbu); have HBU := Lib.hid hbu; have HX := Lib.hid u0; have HFU := Lib.hid (HFB.out.below hbu)
  have HNX := Lib.hid (show X ≠ mb ∧ X ≠ mg ∧ X ≠ fb ∧ X ≠ q from by have := Th.blk_lt HFB.out; have := HH.out.qlt; omega)
  clear hV u0 hbu hX
  have x2 : U.cell? ⟨X, 2, none⟩ = some (.pointer (some ⟨fb, 0, none⟩)) := Th.newcell HX.out 2 _ rfl
  have f1 : U.cell? ⟨fb, 1, none⟩ = some (.int .i64 2) := by rw [HFU.out.get (i := 1) (by omega)]; unfold Th.frF; rw [if_neg (by decide), if_pos rfl, hpc]
  have f2 : U.cell? ⟨fb, 2, none⟩ = some (.int .u64 (F.r 0)) := by rw [HFU.out.get (i := 2) (by omega)]; rfl
  go_upto_region 11 with fail
  clear x2 f1 f2
  have x2 : U.cell? ⟨X, 2, none⟩ = some (.pointer (some ⟨fb, 0, none⟩)) := Th.newcell HX.out 2 _ rfl
  have f3 : U.cell? ⟨fb, 3, none⟩ = some (.int .u64 (F.r 1)) := by rw [HFU.out.get (i := 3) (by omega)]; rfl
  go_wp2_with fail
  refine (bslot_calls _ _ HR1.out.1 HR1.out.2).mono ?_; rintro _ _ ⟨rfl, rfl⟩
  go_upto_region 12 with fail
  clear x2 f3
  obtain ⟨lk, hlk⟩ : ∃ lk, lk = F.r 1 % 4096 := ⟨_, rfl⟩
  have HLK := Lib.hid hlk
  have hl0 : 0 ≤ lk ∧ lk < 4096 := by omega
  have hwl : IntKind.u64.wrap lk = lk := by rw [IntKind.wrap_u64]; omega
  rw [← hlk]
  clear hlk
  have hbb := HH.out.bd
  have HLM := Lib.hid (show ∀ y : KX U mb mg mg, (Instr.loadAt 28 (.pointer (some ⟨X, 0, none⟩))).run Try.prog y.w = .ok (.pointer (some ⟨q, 0, none⟩)) y.w from fun y => by have hc := KX.cells (Th.newcell HX.out 0 _ rfl) HNX.out.1 HNX.out.2.1 HNX.out.2.1 y; go_simp)
  refine Th.wp_region_K (fun w' => ∃ y : KX U mb mg mg, w' = y.w) 13 (by decide +kernel) ?_
  generalize hwd : World.drew U = wd
  have hdd : Below U.heap.size U wd := by rw [← hwd]; exact (Below.refl _ _).drew
  have hbd : Th.KS (fun j => j = mb ∨ j = mg ∨ j = mg) U wd := .of_below hdd
  clear hwd
  (refine Th.wpAnyK_takeY (i := 0) (v := ?_) rfl (by decide +kernel) (by decide +kernel) (by decide +kernel) (by decide) (fun _ _ _ h => h) (Or.inl ⟨by rfl, ?_⟩) (.inr ⟨⟨wd, hbd⟩, rfl⟩) ?_; rotate_left; (intro w; go_simp); (try with_reducible rfl))
  (try simp only [List.getElem_toArray, List.getElem_cons_succ, List.getElem_cons_zero, Act.put, List.setIfInBounds_toArray, List.set_cons_succ, List.set_cons_zero])
  (refine Th.wpAnyK_takeY (i := 1) (v := ?_) rfl (by decide +kernel) (by decide +kernel) (by decide +kernel) (by decide) (fun _ _ _ h => h) (Or.inl ⟨by rfl, ?_⟩) (.inr ⟨⟨wd, hbd⟩, rfl⟩) ?_; rotate_left; (intro w; go_simp); (try with_reducible rfl))
  (try simp only [List.getElem_toArray, List.getElem_cons_succ, List.getElem_cons_zero, Act.put, List.setIfInBounds_toArray, List.set_cons_succ, List.set_cons_zero])
  (refine Th.wpAnyK_take (i := 2) (v := .pointer (some ⟨q, 0, none⟩)) [3, 13] rfl (by decide +kernel) (by decide +kernel) (by decide +kernel) (by decide +kernel) (fun _ _ _ h => h) (Th.yields_loadK rfl 28 (.tmp 71) rfl rfl (by rintro _ ⟨y, rfl⟩; exact HLM.out y)) ⟨⟨wd, hbd⟩, rfl⟩ ?_)
  (try simp only [List.getElem_toArray, List.getElem_cons_succ, List.getElem_cons_zero, Act.put, List.setIfInBounds_toArray, List.set_cons_succ, List.set_cons_zero])
  (refine Th.wpAnyK_takeY (i := 4) (v := ?_) rfl (by decide +kernel) (by decide +kernel) (by decide +kernel) (by decide) (fun _ _ _ h => h) (Or.inl ⟨by rfl, ?_⟩) (.inr ⟨⟨wd, hbd⟩, rfl⟩) ?_; rotate_left; (intro w; go_simp); (try with_reducible rfl))
  (try simp only [List.getElem_toArray, List.getElem_cons_succ, List.getElem_cons_zero, Act.put, List.setIfInBounds_toArray, List.set_cons_succ, List.set_cons_zero])
  (refine Th.wpAnyK_takeY (i := 5) (v := ?_) rfl (by decide +kernel) (by decide +kernel) (by decide +kernel) (by decide) (fun _ _ _ h => h) (Or.inl ⟨by rfl, ?_⟩) (.inr ⟨⟨wd, hbd⟩, rfl⟩) ?_; rotate_left; (intro w; go_simp); (try with_reducible rfl))
  (try simp only [List.getElem_toArray, List.getElem_cons_succ, List.getElem_cons_zero, Act.put, List.setIfInBounds_toArray, List.set_cons_succ, List.set_cons_zero])
  (refine Th.wpAnyK_take (i := 6) (v := .pointer (some ⟨q, 0, none⟩)) [7, 10, 13] rfl (by decide +kernel) (by decide +kernel) (by decide +kernel) (by decide +kernel) (fun _ _ _ h => h) (Th.yields_loadK rfl 28 (.tmp 75) rfl rfl (by rintro _ ⟨y, rfl⟩; exact HLM.out y)) ⟨⟨wd, hbd⟩, rfl⟩ ?_)
  (try simp only [List.getElem_toArray, List.getElem_cons_succ, List.getElem_cons_zero, Act.put, List.setIfInBounds_toArray, List.set_cons_succ, List.set_cons_zero])
  (refine Th.wpAnyK_takeY (i := 8) (v := ?_) rfl (by decide +kernel) (by decide +kernel) (by decide +kernel) (by decide) (fun _ _ _ h => h) (Or.inl ⟨by rfl, ?_⟩) (.inr ⟨⟨wd, hbd⟩, rfl⟩) ?_; rotate_left; (intro w; go_simp); (try with_reducible rfl))
  (try simp only [List.getElem_toArray, List.getElem_cons_succ, List.getElem_cons_zero, Act.put, List.setIfInBounds_toArray, List.set_cons_succ, List.set_cons_zero])
  (refine Th.wpAnyK_takeY (i := 11) (v := ?_) rfl (by decide +kernel) (by decide +kernel) (by decide +kernel) (by decide) (fun _ _ _ h => h) (Or.inl ⟨by rfl, ?_⟩) (.inr ⟨⟨wd, hbd⟩, rfl⟩) ?_; rotate_left; (intro w; go_simp); (try with_reducible rfl))
  (try simp only [List.getElem_toArray, List.getElem_cons_succ, List.getElem_cons_zero, Act.put, List.setIfInBounds_toArray, List.set_cons_succ, List.set_cons_zero])
  (refine Th.wpAnyK_takeY (i := 12) (v := ?_) rfl (by decide +kernel) (by decide +kernel) (by decide +kernel) (by decide) (fun _ _ _ h => h) (Or.inl ⟨by rfl, ?_⟩) (.inr ⟨⟨wd, hbd⟩, rfl⟩) ?_; rotate_left; (intro w; go_simp); (try with_reducible rfl))
  (try simp only [List.getElem_toArray, List.getElem_cons_succ, List.getElem_cons_zero, Act.put, List.setIfInBounds_toArray, List.set_cons_succ, List.set_cons_zero])
  (refine Th.wpAnyK_ready (rs := [3]) (by decide +kernel) (by simp) ?_; refine (Th.AllReadyK.cons rfl (fun K hK => ?_) Th.AllReadyK.nil))
  refine step_of rfl ?_
  go_step
  refine (cMem (HU.out.below hdd)).mono ?_; rintro _ w6 ⟨rfl, hw6⟩
  rw [← hw6]
  refine hK _ _ (.inr ⟨⟨wd, hbd⟩, rfl⟩) ?_
  clear hK K hw6
  (try simp only [List.getElem_toArray, List.getElem_cons_succ, List.getElem_cons_zero, Act.put, List.setIfInBounds_toArray, List.set_cons_succ, List.set_cons_zero])
  (refine Th.wpAnyK_ready (rs := [7]) (by decide +kernel) (by simp) ?_; refine (Th.AllReadyK.cons rfl (fun K hK => ?_) Th.AllReadyK.nil))
  refine step_of rfl ?_
  go_step
  refine (cPlan (HU.out.below hdd)).mono ?_; rintro _ w6 ⟨rfl, hw6⟩
  rw [← hw6]
  refine hK _ _ (.inr ⟨⟨wd, hbd⟩, rfl⟩) ?_
  clear hK K hw6
  (try simp only [List.getElem_toArray, List.getElem_cons_succ, List.getElem_cons_zero, Act.put, List.setIfInBounds_toArray, List.set_cons_succ, List.set_cons_zero])
  (refine Th.wpAnyK_ready (rs := [9]) (by decide +kernel) (by simp) ?_; refine (Th.AllReadyK.cons rfl (fun K hK => ?_) Th.AllReadyK.nil))
  refine step_of rfl ?_
  go_step
  refine (eslot_calls _ _ hr.1 hr.2).mono ?_; rintro _ w6 ⟨rfl, hw6⟩
  rw [← hw6]
  refine hK _ _ (.inr ⟨⟨wd, hbd⟩, rfl⟩) ?_
  clear hK K hw6
  (try simp only [List.getElem_toArray, List.getElem_cons_succ, List.getElem_cons_zero, Act.put, List.setIfInBounds_toArray, List.set_cons_succ, List.set_cons_zero])
  (refine Th.wpAnyK_ready (rs := [10]) (by decide +kernel) (by simp) ?_; refine (Th.AllReadyK.cons rfl (fun K hK => ?_) Th.AllReadyK.nil))
  refine step_of rfl ?_
  go_step
  refine (pnode_calls t s pl (F.r 0 % 4096) 0 _ (HU.out.below hdd).p0 (HU.out.below hdd).p1 (by omega) (by omega) (by omega) (by omega)).mono ?_; rintro _ w2 ⟨rfl, hb2⟩
  have hd2 := below_on hdd hb2
  have hb2 : Th.KS (fun j => j = mb ∨ j = mg ∨ j = mg) U w2 := .of_below hd2
  refine hK _ _ (.inr ⟨⟨w2, hb2⟩, rfl⟩) ?_
  clear hK K
  (try simp only [List.getElem_toArray, List.getElem_cons_succ, List.getElem_cons_zero, Act.put, List.setIfInBounds_toArray, List.set_cons_succ, List.set_cons_zero])
  (refine Th.wpAnyK_ready (rs := [13]) (by decide +kernel) (by simp) ?_; refine (Th.AllReadyK.cons rfl (fun K hK => ?_) Th.AllReadyK.nil))
  refine step_of rfl ?_
  go_step
  refine (Mm.mstore _ _ _ _ _ _ (nodeI t s (F.r 0 % 4096) 0) lk _ _ (HU.out.below hd2).mem a0 (by omega) (by omega) (by omega)).mono ?_; rintro _ w3 ⟨rfl, hm3, ho⟩
  have HM3 := Lib.hid ((HU.out.below hd2).only ho hm3)
  have hkw : Th.KS (fun j => j = mb ∨ j = mg ∨ j = mg) U w3 := hb2.trans ⟨ho.os, ho.tape, ho.output, ho.size, fun j hj hx => ho.block j hj (fun e => hx (.inl e)) (fun e => hx (.inr (.inl e)))⟩
  refine hK _ _ (.inl rfl) ?_
  clear hK K
  (try simp only [List.getElem_toArray, List.getElem_cons_succ, List.getElem_cons_zero, Act.put, List.setIfInBounds_toArray, List.set_cons_succ, List.set_cons_zero])
  have HF3 := Lib.hid (HFU.out.of (hkw.block fb (Th.blk_lt HFU.out) (by have := HNE.out; omega)))
  have HX3 := Lib.hid ((hkw.block X (Th.blk_lt HX.out) (by have := HNX.out; omega)).trans HX.out)
  have HK3 := Lib.hid hkw
  clear ho hm3 hkw
  refine Th.wpAnyK_done (by decide +kernel) ?_ _
  clear hwl hbb
  have x2 : w3.cell? ⟨X, 2, none⟩ = some (.pointer (some ⟨fb, 0, none⟩)) := Th.newcell HX3.out 2 _ rfl
  have f1 : w3.cell? ⟨fb, 1, none⟩ = some (.int .i64 2) := by rw [HF3.out.get (i := 1) (by omega)]; unfold Th.frF; rw [if_neg (by decide), if_pos rfl, hpc]
  have rf : ∀ i, w3.frozen? ⟨fb, i, none⟩ = false := fun i => HF3.out.fr i
  go_wp2_with fail
  clear x2 f1 rf
  generalize hW2 : World.setCell _ _ _ = V
  have hbV : Th.Blk 48 V fb 26 (Th.upF (Th.frF F) 1 (.int .i64 3)) := by rw [← hW2]; exact HF3.out.set 1 _
  have hbV := hbV.congr (Th.frF_pc _ 3)
  have hkV : Th.KS (fun j => j = fb) w3 V := by rw [← hW2]; exact Th.KS.set w3 fb 1 _
  have HFV := Lib.hid hbV; have HKV := Lib.hid hkV
  clear hW2 hbV hkV
  refine bodyPost_end (v := .tuple #[]) (by simp [results, Try.results88, go_sem]) rfl ?_
  rw [HQ.out]
  have hTF := ((HT.out.below HBU.out).hi HK3.out.size fun j hj hjq => HK3.out.block j hj (by have := HH.out.qlt; omega)).frm hk (by omega : m < (Ts k).nf) (f := ⟨F.fn, 3, F.r⟩) (by rw [← HFE.out.1]; exact HKV.out) (by rw [← HFE.out.1]; exact HFV.out)
  have hwk : Th.KS (fun j => j = mb ∨ j = mg ∨ j = fb) w V := (Th.KS.of_below HBU.out).trans ((HK3.out.mono fun j e => by rcases e with e | e | e; exact .inl e; exact .inr (.inl e); exact .inr (.inl e)).trans (HKV.out.mono fun j e => .inr (.inr e)))
  refine ⟨rfl, by rw [← HFE.out.2, ← HLK.out]; exact HM3.out.ksT HF3.out HNE.out.2.2 (by decide) HKV.out, ?_, ?_⟩
  · rw [← HFE.out.2]; exact hTF
  rw [← HFE.out.1]; exact hwk
set_option maxRecDepth 8000 in
set_option maxHeartbeats 2000000 in
theorem give3n {w : World} {B q pl mb mg C gq gg gm : Nat} {fv : Value} {tq : Nat → Nat} {t s : Nat} {K : Int} {f : Nat → Int} {acc : Int} {flt : Bool} {H : Nat → Bool} {G : Nat → Int} {sl steps : Int} {odd : Bool} (h : MC w B q pl mb mg C gq gg gm fv tq t s K f acc flt H G sl steps odd) {Ts : Nat → Th.Td} {ps : Nat → Nat → Nat} {fvs : Nat → Value} (tf : TF w q t tq Ts ps fvs) {k m : Nat} (hk : k < t) (hm : (Ts k).nf = m + 1) (hpc : ((Ts k).fs m).pc = 3) (hr : 0 ≤ ((Ts k).fs m).r 0 ∧ ((Ts k).fs m).r 0 < 18446744073709551616) (hr1 : 0 ≤ (((Ts k).fs m).r 1) ∧ (((Ts k).fs m).r 1) < 18446744073709551616) (hz : (f 2 == (((Ts k).fs m).r 1)) = false) (a0 : 0 ≤ acc) (a1 : acc < 1000000) :
    Calls Try.prog 88 #[.agg #[.pointer (some ⟨q, 0, none⟩), .pointer (some ⟨tq k, 0, none⟩), .pointer (some ⟨ps k m, 0, none⟩)]] w fun x w' => x = .returned (.tuple #[]) ∧ MC w' B q pl mb mg C gq gg gm fv tq t s K (f) (acc + 1) (flt) (H) (G) (sl) steps odd ∧ TF w' q t tq (fun i => if i = k then { Ts k with fs := Th.upM (Ts k).fs m ⟨((Ts k).fs m).fn, 1, ((Ts k).fs m).r⟩ } else Ts i) ps fvs ∧ Th.KS (fun j => j = mb ∨ j = mg ∨ j = ps k m) w w' := by
  refine Calls.veil fun Q HQ => ?_
  have hmm : m < (Ts k).nf := by omega
  obtain ⟨fb, hfb⟩ : ∃ fb, fb = ps k m := ⟨_, rfl⟩
  have hbk := ((tf.th k hk).a.fb m hmm).1
  have hfl := (tf.th k hk).frm hmm
  rw [← hfb] at hbk hfl ⊢
  have HH := Lib.hid h; have HT := Lib.hid tf
  have HFB := Lib.hid hbk
  have hql := h.qlt
  have HNE := Lib.hid (show fb ≠ mb ∧ fb ≠ mg ∧ q < fb from by omega)
  obtain ⟨F, hF⟩ : ∃ F, F = (Ts k).fs m := ⟨_, rfl⟩
  rw [← hF] at HFB hpc hr hr1 hz
  have HFE := Lib.hid (And.intro hfb hF)
  have HR1 := Lib.hid hr1; have HZ := Lib.hid hz
  clear h tf hbk hfl hfb hF hr1 hz
  go_enter Try.func88, Try.ntmps88
  go_upto_region 1 with fail
  generalize hV : World.alloc _ _ = U
  obtain ⟨u0, hbu⟩ := Th.heapnewE hV
  obtain ⟨X, hX⟩ : ∃ X, X = w.heap.size := ⟨_, rfl⟩
  rw [← hX] at u0 ⊢
  have HXW := Lib.hid hX
  have HU := Lib.hid (HH.out.below hbu); have HBU := Lib.hid hbu; have HX := Lib.hid u0; have HFU := Lib.hid (HFB.out.below hbu)
  have HNX := Lib.hid (show X ≠ mb ∧ X ≠ mg ∧ X ≠ fb ∧ X ≠ q from by have := Th.blk_lt HFB.out; have := HH.out.qlt; omega)
  clear hV u0 hbu hX
  have x2 : U.cell? ⟨X, 2, none⟩ = some (.pointer (some ⟨fb, 0, none⟩)) := Th.newcell HX.out 2 _ rfl
  have f1 : U.cell? ⟨fb, 1, none⟩ = some (.int .i64 3) := by rw [HFU.out.get (i := 1) (by omega)]; unfold Th.frF; rw [if_neg (by decide), if_pos rfl, hpc]
  have f2 : U.cell? ⟨fb, 2, none⟩ = some (.int .u64 (F.r 0)) := by rw [HFU.out.get (i := 2) (by omega)]; rfl
  go_upto_region 15 with fail
  clear x2 f1 f2
  have HLF := Lib.hid (show ∀ y : KX U mb mg mg, (Instr.loadAt 49 (.pointer (some ⟨X, 2, none⟩))).run Try.prog y.w = .ok (.pointer (some ⟨fb, 0, none⟩)) y.w from fun y => by have hc := KX.cells (Th.newcell HX.out 2 _ rfl) HNX.out.1 HNX.out.2.1 HNX.out.2.1 y; go_simp)
  have HLM := Lib.hid (show ∀ y : KX U mb mg mg, (Instr.loadAt 137 (.pointer (some ⟨X, 0, none⟩))).run Try.prog y.w = .ok (.agg #[.pointer (some ⟨q, 0, none⟩), .pointer (some ⟨tq k, 0, none⟩), .pointer (some ⟨fb, 0, none⟩)]) y.w from fun y => by
    have hc0 := KX.cells (Th.newcell HX.out 0 _ rfl) HNX.out.1 HNX.out.2.1 HNX.out.2.1 y; have hc1 := KX.cells (Th.newcell HX.out 1 _ rfl) HNX.out.1 HNX.out.2.1 HNX.out.2.1 y; have hc2 := KX.cells (Th.newcell HX.out 2 _ rfl) HNX.out.1 HNX.out.2.1 HNX.out.2.1 y
    go_simp)
  have HL1 := Lib.hid (show ∀ y : KX U mb mg mg, (Instr.loadAt 22 (.pointer (some ⟨fb, 3, none⟩))).run Try.prog y.w = .ok (.int .u64 (F.r 1)) y.w from fun y => by have hc := KX.cells (show U.cell? ⟨fb, 3, none⟩ = some (.int .u64 (F.r 1)) by rw [HFU.out.get (i := 3) (by omega)]; rfl) HNE.out.1 HNE.out.2.1 HNE.out.2.1 y; go_simp)
  refine Th.wp_region_K (fun w' => ∃ y : KX U mb mg mg, w' = y.w) 11 (by decide +kernel) ?_
  generalize hwd : World.drew U = wd
  have hdd : Below U.heap.size U wd := by rw [← hwd]; exact (Below.refl _ _).drew
  have hbd : Th.KS (fun j => j = mb ∨ j = mg ∨ j = mg) U wd := .of_below hdd
  clear hwd
  (refine Th.wpAnyK_takeY (i := 0) (v := ?_) rfl (by decide +kernel) (by decide +kernel) (by decide +kernel) (by decide) (fun _ _ _ h => h) (Or.inl ⟨by rfl, ?_⟩) (.inr ⟨⟨wd, hbd⟩, rfl⟩) ?_; rotate_left; (intro w; go_simp); (try with_reducible rfl))
  (try simp only [List.getElem_toArray, List.getElem_cons_succ, List.getElem_cons_zero, Act.put, List.setIfInBounds_toArray, List.set_cons_succ, List.set_cons_zero])
  (refine Th.wpAnyK_take (i := 1) (v := .agg #[.pointer (some ⟨q, 0, none⟩), .pointer (some ⟨tq k, 0, none⟩), .pointer (some ⟨fb, 0, none⟩)]) [11] rfl (by decide +kernel) (by decide +kernel) (by decide +kernel) (by decide +kernel) (fun _ _ _ h => h) (Th.yields_loadK rfl 137 (.tmp 91) rfl rfl (by rintro _ ⟨y, rfl⟩; exact HLM.out y)) ⟨⟨wd, hbd⟩, rfl⟩ ?_)
  (try simp only [List.getElem_toArray, List.getElem_cons_succ, List.getElem_cons_zero, Act.put, List.setIfInBounds_toArray, List.set_cons_succ, List.set_cons_zero])
  (refine Th.wpAnyK_takeY (i := 2) (v := ?_) rfl (by decide +kernel) (by decide +kernel) (by decide +kernel) (by decide) (fun _ _ _ h => h) (Or.inl ⟨by rfl, ?_⟩) (.inr ⟨⟨wd, hbd⟩, rfl⟩) ?_; rotate_left; (intro w; go_simp); (try with_reducible rfl))
  (try simp only [List.getElem_toArray, List.getElem_cons_succ, List.getElem_cons_zero, Act.put, List.setIfInBounds_toArray, List.set_cons_succ, List.set_cons_zero])
  (refine Th.wpAnyK_takeY (i := 3) (v := ?_) rfl (by decide +kernel) (by decide +kernel) (by decide +kernel) (by decide) (fun _ _ _ h => h) (Or.inl ⟨by rfl, ?_⟩) (.inr ⟨⟨wd, hbd⟩, rfl⟩) ?_; rotate_left; (intro w; go_simp); (try with_reducible rfl))
  (try simp only [List.getElem_toArray, List.getElem_cons_succ, List.getElem_cons_zero, Act.put, List.setIfInBounds_toArray, List.set_cons_succ, List.set_cons_zero])
  (refine Th.wpAnyK_take (i := 4) (v := .pointer (some ⟨fb, 0, none⟩)) [5, 6, 7, 8, 11] rfl (by decide +kernel) (by decide +kernel) (by decide +kernel) (by decide +kernel) (fun _ _ _ h => h) (Th.yields_loadK rfl 49 (.tmp 94) rfl rfl (by rintro _ ⟨y, rfl⟩; exact HLF.out y)) ⟨⟨wd, hbd⟩, rfl⟩ ?_)
  (try simp only [List.getElem_toArray, List.getElem_cons_succ, List.getElem_cons_zero, Act.put, List.setIfInBounds_toArray, List.set_cons_succ, List.set_cons_zero])
  (refine Th.wpAnyK_takeY (i := 5) (v := ?_) rfl (by decide +kernel) (by decide +kernel) (by decide +kernel) (by decide) (fun _ _ _ h => h) (Or.inl ⟨by rfl, ?_⟩) (.inr ⟨⟨wd, hbd⟩, rfl⟩) ?_; rotate_left; (intro w; go_simp); (try with_reducible rfl))
  (try simp only [List.getElem_toArray, List.getElem_cons_succ, List.getElem_cons_zero, Act.put, List.setIfInBounds_toArray, List.set_cons_succ, List.set_cons_zero])
  (refine Th.wpAnyK_takeY (i := 6) (v := ?_) rfl (by decide +kernel) (by decide +kernel) (by decide +kernel) (by decide) (fun _ _ _ h => h) (Or.inl ⟨by rfl, ?_⟩) (.inr ⟨⟨wd, hbd⟩, rfl⟩) ?_; rotate_left; (intro w; go_simp); (try with_reducible rfl))
  (try simp only [List.getElem_toArray, List.getElem_cons_succ, List.getElem_cons_zero, Act.put, List.setIfInBounds_toArray, List.set_cons_succ, List.set_cons_zero])
  (refine Th.wpAnyK_takeY (i := 7) (v := ?_) rfl (by decide +kernel) (by decide +kernel) (by decide +kernel) (by decide) (fun _ _ _ h => h) (Or.inl ⟨by rfl, ?_⟩) (.inr ⟨⟨wd, hbd⟩, rfl⟩) ?_; rotate_left; (intro w; go_simp); (try with_reducible rfl))
  (try simp only [List.getElem_toArray, List.getElem_cons_succ, List.getElem_cons_zero, Act.put, List.setIfInBounds_toArray, List.set_cons_succ, List.set_cons_zero])
  (refine Th.wpAnyK_take (i := 8) (v := .int .u64 (F.r 1)) [11] rfl (by decide +kernel) (by decide +kernel) (by decide +kernel) (by decide +kernel) (fun _ _ _ h => h) (Th.yields_loadK rfl 22 (.tmp 98) rfl rfl (by rintro _ ⟨y, rfl⟩; exact HL1.out y)) ⟨⟨wd, hbd⟩, rfl⟩ ?_)
  (try simp only [List.getElem_toArray, List.getElem_cons_succ, List.getElem_cons_zero, Act.put, List.setIfInBounds_toArray, List.set_cons_succ, List.set_cons_zero])
  (refine Th.wpAnyK_takeY (i := 9) (v := ?_) rfl (by decide +kernel) (by decide +kernel) (by decide +kernel) (by decide) (fun _ _ _ h => h) (Or.inl ⟨by rfl, ?_⟩) (.inr ⟨⟨wd, hbd⟩, rfl⟩) ?_; rotate_left; (intro w; go_simp); (try with_reducible rfl))
  (try simp only [List.getElem_toArray, List.getElem_cons_succ, List.getElem_cons_zero, Act.put, List.setIfInBounds_toArray, List.set_cons_succ, List.set_cons_zero])
  (refine Th.wpAnyK_ready (rs := [10]) (by decide +kernel) (by simp) ?_; refine (Th.AllReadyK.cons rfl (fun K hK => ?_) Th.AllReadyK.nil))
  refine step_of rfl ?_
  go_step
  refine (eslot_calls _ _ hr.1 hr.2).mono ?_; rintro _ w6 ⟨rfl, hw6⟩
  rw [← hw6]
  refine hK _ _ (.inr ⟨⟨wd, hbd⟩, rfl⟩) ?_
  clear hK K hw6
  (try simp only [List.getElem_toArray, List.getElem_cons_succ, List.getElem_cons_zero, Act.put, List.setIfInBounds_toArray, List.set_cons_succ, List.set_cons_zero])
  (refine Th.wpAnyK_ready (rs := [11]) (by decide +kernel) (by simp) ?_; refine (Th.AllReadyK.cons rfl (fun K hK => ?_) Th.AllReadyK.nil))
  refine step_of rfl ?_
  go_step
  refine (rchange (HU.out.below hdd) (F.r 1) (F.r 0 % 4096) (tq k) fb HR1.out.1 HR1.out.2 a0 a1).mono ?_; rintro _ w3 ⟨rfl, hm3, ho⟩
  rw [HZ.out] at hm3 ⊢
  rw [if_neg (by decide)] at hm3
  have HM3 := Lib.hid (hm3)
  have hkw : Th.KS (fun j => j = mb ∨ j = mg ∨ j = mg) U w3 := hbd.trans ⟨ho.os, ho.tape, ho.output, ho.size, fun j hj hx => ho.block j hj (fun e => hx (.inl e)) (fun e => hx (.inr (.inl e)))⟩
  refine hK _ _ (.inl rfl) ?_
  clear hK K
  (try simp only [List.getElem_toArray, List.getElem_cons_succ, List.getElem_cons_zero, Act.put, List.setIfInBounds_toArray, List.set_cons_succ, List.set_cons_zero])
  have HF3 := Lib.hid (HFU.out.of (hkw.block fb (Th.blk_lt HFU.out) (by have := HNE.out; omega)))
  have HX3 := Lib.hid ((hkw.block X (Th.blk_lt HX.out) (by have := HNX.out; omega)).trans HX.out)
  have HK3 := Lib.hid hkw
  clear ho hm3 hkw
  (refine Th.wpAnyK_takeY (i := 12) (v := ?_) rfl (by decide +kernel) (by decide +kernel) (by decide +kernel) (by decide) (fun _ _ _ h => h) (Or.inl ⟨by rfl, ?_⟩) (.inr ⟨⟨w3, HK3.out⟩, rfl⟩) ?_; rotate_left; (intro w; go_simp); (try with_reducible rfl))
  (try simp only [List.getElem_toArray, List.getElem_cons_succ, List.getElem_cons_zero, Act.put, List.setIfInBounds_toArray, List.set_cons_succ, List.set_cons_zero])
  refine Th.wpAnyK_done (by decide +kernel) ?_ _
  have x2 : w3.cell? ⟨X, 2, none⟩ = some (.pointer (some ⟨fb, 0, none⟩)) := Th.newcell HX3.out 2 _ rfl
  have f1 : w3.cell? ⟨fb, 1, none⟩ = some (.int .i64 3) := by rw [HF3.out.get (i := 1) (by omega)]; unfold Th.frF; rw [if_neg (by decide), if_pos rfl, hpc]
  have rf : ∀ i, w3.frozen? ⟨fb, i, none⟩ = false := fun i => HF3.out.fr i
  go_wp2_with fail
  clear x2 f1 rf
  generalize hW2 : World.setCell _ _ _ = V
  have hbV : Th.Blk 48 V fb 26 (Th.upF (Th.frF F) 1 (.int .i64 1)) := by rw [← hW2]; exact HF3.out.set 1 _
  have hbV := hbV.congr (Th.frF_pc _ 1)
  have hkV : Th.KS (fun j => j = fb) w3 V := by rw [← hW2]; exact Th.KS.set w3 fb 1 _
  have HFV := Lib.hid hbV; have HKV := Lib.hid hkV
  clear hW2 hbV hkV
  refine bodyPost_end (v := .tuple #[]) (by simp [results, Try.results88, go_sem]) rfl ?_
  rw [HQ.out]
  have hTF := ((HT.out.below HBU.out).hi HK3.out.size fun j hj hjq => HK3.out.block j hj (by have := HH.out.qlt; omega)).frm hk (by omega : m < (Ts k).nf) (f := ⟨F.fn, 1, F.r⟩) (by rw [← HFE.out.1]; exact HKV.out) (by rw [← HFE.out.1]; exact HFV.out)
  have hwk : Th.KS (fun j => j = mb ∨ j = mg ∨ j = fb) w V := (Th.KS.of_below HBU.out).trans ((HK3.out.mono fun j e => by rcases e with e | e | e; exact .inl e; exact .inr (.inl e); exact .inr (.inl e)).trans (HKV.out.mono fun j e => .inr (.inr e)))
  refine ⟨rfl, HM3.out.ksT HF3.out HNE.out.2.2 (by decide) HKV.out, ?_, ?_⟩
  · rw [← HFE.out.2]; exact hTF
  rw [← HFE.out.1]; exact hwk
set_option maxRecDepth 8000 in
set_option maxHeartbeats 2000000 in
theorem give3y {w : World} {B q pl mb mg C gq gg gm : Nat} {fv : Value} {tq : Nat → Nat} {t s : Nat} {K : Int} {f : Nat → Int} {acc : Int} {flt : Bool} {H : Nat → Bool} {G : Nat → Int} {sl steps : Int} {odd : Bool} (h : MC w B q pl mb mg C gq gg gm fv tq t s K f acc flt H G sl steps odd) {Ts : Nat → Th.Td} {ps : Nat → Nat → Nat} {fvs : Nat → Value} (tf : TF w q t tq Ts ps fvs) {k m : Nat} (hk : k < t) (hm : (Ts k).nf = m + 1) (hpc : ((Ts k).fs m).pc = 3) (hr : 0 ≤ ((Ts k).fs m).r 0 ∧ ((Ts k).fs m).r 0 < 18446744073709551616) (hr1 : 0 ≤ (((Ts k).fs m).r 1) ∧ (((Ts k).fs m).r 1) < 18446744073709551616) (hz : (f 2 == (((Ts k).fs m).r 1)) = true) (hN : m ≤ 1000) (a0 : 0 ≤ acc) (a1 : acc < 1000000) :
    Calls Try.prog 88 #[.agg #[.pointer (some ⟨q, 0, none⟩), .pointer (some ⟨tq k, 0, none⟩), .pointer (some ⟨ps k m, 0, none⟩)]] w fun x w' => x = .returned (.tuple #[]) ∧ MC w' B q pl mb mg C gq gg gm fv tq t s K (Mm.upd f 2 (chgI (((Ts k).fs m).r 1) ((((Ts k).fs m).r 0) % 4096))) (acc + 1) (flt) (H) (G) (sl) steps odd ∧ (∃ fv', TF w' q t tq (fun i => if i = k then Th.backT (Ts k) 0 (fun _ => 0) else Ts i) ps (fun i => if i = k then fv' else fvs i) ∧ ∀ j, fv'.ownBlock = some j → (fvs k).ownBlock = some j) ∧ Th.KS (fun j => j = mb ∨ j = mg ∨ j = tq k ∨ (fvs k).ownBlock = some j) w w' := by
  refine Calls.veil fun Q HQ => ?_
  have hmm : m < (Ts k).nf := by omega
  obtain ⟨fb, hfb⟩ : ∃ fb, fb = ps k m := ⟨_, rfl⟩
  have hbk := ((tf.th k hk).a.fb m hmm).1
  have hfl := (tf.th k hk).frm hmm
  rw [← hfb] at hbk hfl ⊢
  have HH := Lib.hid h; have HT := Lib.hid tf
  have HFB := Lib.hid hbk
  have hql := h.qlt
  have HNE := Lib.hid (show fb ≠ mb ∧ fb ≠ mg ∧ q < fb from by omega)
  obtain ⟨F, hF⟩ : ∃ F, F = (Ts k).fs m := ⟨_, rfl⟩
  rw [← hF] at HFB hpc hr hr1 hz
  have HFE := Lib.hid (And.intro hfb hF)
  have HR1 := Lib.hid hr1; have HZ := Lib.hid hz
  clear h tf hbk hfl hfb hF hr1 hz
  go_enter Try.func88, Try.ntmps88
  go_upto_region 1 with fail
  generalize hV : World.alloc _ _ = U
  obtain ⟨u0, hbu⟩ := Th.heapnewE hV
  obtain ⟨X, hX⟩ : ∃ X, X = w.heap.size := ⟨_, rfl⟩
  rw [← hX] at u0 ⊢
  have HXW := Lib.hid hX
  have HU := Lib.hid (HH.out.below hbu); have HBU := Lib.hid hbu; have HX := Lib.hid u0; have HFU := Lib.hid (HFB.out.below hbu)
  have HNX := Lib.hid (show X ≠ mb ∧ X ≠ mg ∧ X ≠ fb ∧ X ≠ q from by have := Th.blk_lt HFB.out; have := HH.out.qlt; omega)
  clear hV u0 hbu hX
  have x2 : U.cell? ⟨X, 2, none⟩ = some (.pointer (some ⟨fb, 0, none⟩)) := Th.newcell HX.out 2 _ rfl
  have f1 : U.cell? ⟨fb, 1, none⟩ = some (.int .i64 3) := by rw [HFU.out.get (i := 1) (by omega)]; unfold Th.frF; rw [if_neg (by decide), if_pos rfl, hpc]
  have f2 : U.cell? ⟨fb, 2, none⟩ = some (.int .u64 (F.r 0)) := by rw [HFU.out.get (i := 2) (by omega)]; rfl
  go_upto_region 15 with fail
  clear x2 f1 f2
  have HLF := Lib.hid (show ∀ y : KX U mb mg mg, (Instr.loadAt 49 (.pointer (some ⟨X, 2, none⟩))).run Try.prog y.w = .ok (.pointer (some ⟨fb, 0, none⟩)) y.w from fun y => by have hc := KX.cells (Th.newcell HX.out 2 _ rfl) HNX.out.1 HNX.out.2.1 HNX.out.2.1 y; go_simp)
  have HLM := Lib.hid (show ∀ y : KX U mb mg mg, (Instr.loadAt 137 (.pointer (some ⟨X, 0, none⟩))).run Try.prog y.w = .ok (.agg #[.pointer (some ⟨q, 0, none⟩), .pointer (some ⟨tq k, 0, none⟩), .pointer (some ⟨fb, 0, none⟩)]) y.w from fun y => by
    have hc0 := KX.cells (Th.newcell HX.out 0 _ rfl) HNX.out.1 HNX.out.2.1 HNX.out.2.1 y; have hc1 := KX.cells (Th.newcell HX.out 1 _ rfl) HNX.out.1 HNX.out.2.1 HNX.out.2.1 y; have hc2 := KX.cells (Th.newcell HX.out 2 _ rfl) HNX.out.1 HNX.out.2.1 HNX.out.2.1 y
    go_simp)
  have HL1 := Lib.hid (show ∀ y : KX U mb mg mg, (Instr.loadAt 22 (.pointer (some ⟨fb, 3, none⟩))).run Try.prog y.w = .ok (.int .u64 (F.r 1)) y.w from fun y => by have hc := KX.cells (show U.cell? ⟨fb, 3, none⟩ = some (.int .u64 (F.r 1)) by rw [HFU.out.get (i := 3) (by omega)]; rfl) HNE.out.1 HNE.out.2.1 HNE.out.2.1 y; go_simp)
  refine Th.wp_region_K (fun w' => ∃ y : KX U mb mg mg, w' = y.w) 11 (by decide +kernel) ?_
  generalize hwd : World.drew U = wd
  have hdd : Below U.heap.size U wd := by rw [← hwd]; exact (Below.refl _ _).drew
  have hbd : Th.KS (fun j => j = mb ∨ j = mg ∨ j = mg) U wd := .of_below hdd
  clear hwd
  (refine Th.wpAnyK_takeY (i := 0) (v := ?_) rfl (by decide +kernel) (by decide +kernel) (by decide +kernel) (by decide) (fun _ _ _ h => h) (Or.inl ⟨by rfl, ?_⟩) (.inr ⟨⟨wd, hbd⟩, rfl⟩) ?_; rotate_left; (intro w; go_simp); (try with_reducible rfl))
  (try simp only [List.getElem_toArray, List.getElem_cons_succ, List.getElem_cons_zero, Act.put, List.setIfInBounds_toArray, List.set_cons_succ, List.set_cons_zero])
  (refine Th.wpAnyK_take (i := 1) (v := .agg #[.pointer (some ⟨q, 0, none⟩), .pointer (some ⟨tq k, 0, none⟩), .pointer (some ⟨fb, 0, none⟩)]) [11] rfl (by decide +kernel) (by decide +kernel) (by decide +kernel) (by decide +kernel) (fun _ _ _ h => h) (Th.yields_loadK rfl 137 (.tmp 91) rfl rfl (by rintro _ ⟨y, rfl⟩; exact HLM.out y)) ⟨⟨wd, hbd⟩, rfl⟩ ?_)
  (try simp only [List.getElem_toArray, List.getElem_cons_succ, List.getElem_cons_zero, Act.put, List.setIfInBounds_toArray, List.set_cons_succ, List.set_cons_zero])
  (refine Th.wpAnyK_takeY (i := 2) (v := ?_) rfl (by decide +kernel) (by decide +kernel) (by decide +kernel) (by decide) (fun _ _ _ h => h) (Or.inl ⟨by rfl, ?_⟩) (.inr ⟨⟨wd, hbd⟩, rfl⟩) ?_; rotate_left; (intro w; go_simp); (try with_reducible rfl))
  (try simp only [List.getElem_toArray, List.getElem_cons_succ, List.getElem_cons_zero, Act.put, List.setIfInBounds_toArray, List.set_cons_succ, List.set_cons_zero])
  (refine Th.wpAnyK_takeY (i := 3) (v := ?_) rfl (by decide +kernel) (by decide +kernel) (by decide +kernel) (by decide) (fun _ _ _ h => h) (Or.inl ⟨by rfl, ?_⟩) (.inr ⟨⟨wd, hbd⟩, rfl⟩) ?_; rotate_left; (intro w; go_simp); (try with_reducible rfl))
  (try simp only [List.getElem_toArray, List.getElem_cons_succ, List.getElem_cons_zero, Act.put, List.setIfInBounds_toArray, List.set_cons_succ, List.set_cons_zero])
  (refine Th.wpAnyK_take (i := 4) (v := .pointer (some ⟨fb, 0, none⟩)) [5, 6, 7, 8, 11] rfl (by decide +kernel) (by decide +kernel) (by decide +kernel) (by decide +kernel) (fun _ _ _ h => h) (Th.yields_loadK rfl 49 (.tmp 94) rfl rfl (by rintro _ ⟨y, rfl⟩; exact HLF.out y)) ⟨⟨wd, hbd⟩, rfl⟩ ?_)
  (try simp only [List.getElem_toArray, List.getElem_cons_succ, List.getElem_cons_zero, Act.put, List.setIfInBounds_toArray, List.set_cons_succ, List.set_cons_zero])
  (refine Th.wpAnyK_takeY (i := 5) (v := ?_) rfl (by decide +kernel) (by decide +kernel) (by decide +kernel) (by decide) (fun _ _ _ h => h) (Or.inl ⟨by rfl, ?_⟩) (.inr ⟨⟨wd, hbd⟩, rfl⟩) ?_; rotate_left; (intro w; go_simp); (try with_reducible rfl))
  (try simp only [List.getElem_toArray, List.getElem_cons_succ, List.getElem_cons_zero, Act.put, List.setIfInBounds_toArray, List.set_cons_succ, List.set_cons_zero])
  (refine Th.wpAnyK_takeY (i := 6) (v := ?_) rfl (by decide +kernel) (by decide +kernel) (by decide +kernel) (by decide) (fun _ _ _ h => h) (Or.inl ⟨by rfl, ?_⟩) (.inr ⟨⟨wd, hbd⟩, rfl⟩) ?_; rotate_left; (intro w; go_simp); (try with_reducible rfl))
  (try simp only [List.getElem_toArray, List.getElem_cons_succ, List.getElem_cons_zero, Act.put, List.setIfInBounds_toArray, List.set_cons_succ, List.set_cons_zero])
  (refine Th.wpAnyK_takeY (i := 7) (v := ?_) rfl (by decide +kernel) (by decide +kernel) (by decide +kernel) (by decide) (fun _ _ _ h => h) (Or.inl ⟨by rfl, ?_⟩) (.inr ⟨⟨wd, hbd⟩, rfl⟩) ?_; rotate_left; (intro w; go_simp); (try with_reducible rfl))
  (try simp only [List.getElem_toArray, List.getElem_cons_succ, List.getElem_cons_zero, Act.put, List.setIfInBounds_toArray, List.set_cons_succ, List.set_cons_zero])
  (refine Th.wpAnyK_take (i := 8) (v := .int .u64 (F.r 1)) [11] rfl (by decide +kernel) (by decide +kernel) (by decide +kernel) (by decide +kernel) (fun _ _ _ h => h) (Th.yields_loadK rfl 22 (.tmp 98) rfl rfl (by rintro _ ⟨y, rfl⟩; exact HL1.out y)) ⟨⟨wd, hbd⟩, rfl⟩ ?_)
  (try simp only [List.getElem_toArray, List.getElem_cons_succ, List.getElem_cons_zero, Act.put, List.setIfInBounds_toArray, List.set_cons_succ, List.set_cons_zero])
  (refine Th.wpAnyK_takeY (i := 9) (v := ?_) rfl (by decide +kernel) (by decide +kernel) (by decide +kernel) (by decide) (fun _ _ _ h => h) (Or.inl ⟨by rfl, ?_⟩) (.inr ⟨⟨wd, hbd⟩, rfl⟩) ?_; rotate_left; (intro w; go_simp); (try with_reducible rfl))
  (try simp only [List.getElem_toArray, List.getElem_cons_succ, List.getElem_cons_zero, Act.put, List.setIfInBounds_toArray, List.set_cons_succ, List.set_cons_zero])
  (refine Th.wpAnyK_ready (rs := [10]) (by decide +kernel) (by simp) ?_; refine (Th.AllReadyK.cons rfl (fun K hK => ?_) Th.AllReadyK.nil))
  refine step_of rfl ?_
  go_step
  refine (eslot_calls _ _ hr.1 hr.2).mono ?_; rintro _ w6 ⟨rfl, hw6⟩
  rw [← hw6]
  refine hK _ _ (.inr ⟨⟨wd, hbd⟩, rfl⟩) ?_
  clear hK K hw6
  (try simp only [List.getElem_toArray, List.getElem_cons_succ, List.getElem_cons_zero, Act.put, List.setIfInBounds_toArray, List.set_cons_succ, List.set_cons_zero])
  (refine Th.wpAnyK_ready (rs := [11]) (by decide +kernel) (by simp) ?_; refine (Th.AllReadyK.cons rfl (fun K hK => ?_) Th.AllReadyK.nil))
  refine step_of rfl ?_
  go_step
  refine (rchange (HU.out.below hdd) (F.r 1) (F.r 0 % 4096) (tq k) fb HR1.out.1 HR1.out.2 a0 a1).mono ?_; rintro _ w3 ⟨rfl, hm3, ho⟩
  rw [HZ.out] at hm3 ⊢
  rw [if_pos rfl] at hm3
  have HM3 := Lib.hid (hm3)
  have hkw : Th.KS (fun j => j = mb ∨ j = mg ∨ j = mg) U w3 := hbd.trans ⟨ho.os, ho.tape, ho.output, ho.size, fun j hj hx => ho.block j hj (fun e => hx (.inl e)) (fun e => hx (.inr (.inl e)))⟩
  refine hK _ _ (.inl rfl) ?_
  clear hK K
  (try simp only [List.getElem_toArray, List.getElem_cons_succ, List.getElem_cons_zero, Act.put, List.setIfInBounds_toArray, List.set_cons_succ, List.set_cons_zero])
  have HF3 := Lib.hid (HFU.out.of (hkw.block fb (Th.blk_lt HFU.out) (by have := HNE.out; omega)))
  have HX3 := Lib.hid ((hkw.block X (Th.blk_lt HX.out) (by have := HNX.out; omega)).trans HX.out)
  have HK3 := Lib.hid hkw
  clear ho hm3 hkw
  (refine Th.wpAnyK_takeY (i := 12) (v := ?_) rfl (by decide +kernel) (by decide +kernel) (by decide +kernel) (by decide) (fun _ _ _ h => h) (Or.inl ⟨by rfl, ?_⟩) (.inr ⟨⟨w3, HK3.out⟩, rfl⟩) ?_; rotate_left; (intro w; go_simp); (try with_reducible rfl))
  (try simp only [List.getElem_toArray, List.getElem_cons_succ, List.getElem_cons_zero, Act.put, List.setIfInBounds_toArray, List.set_cons_succ, List.set_cons_zero])
  refine Th.wpAnyK_done (by decide +kernel) ?_ _
  have x1 : w3.cell? ⟨X, 1, none⟩ = some (.pointer (some ⟨tq k, 0, none⟩)) := Th.newcell HX3.out 1 _ rfl
  have hTF := ((HT.out.below HBU.out).hi HK3.out.size fun j hj hjq => HK3.out.block j hj (by have := HH.out.qlt; omega))
  have HTF := Lib.hid hTF; have HTH := Lib.hid (hTF.th k hk)
  have HKY := Lib.hid ((Th.KS.of_below HBU.out : Th.KS (fun j => j = mb ∨ j = mg ∨ j = tq k ∨ (fvs k).ownBlock = some j) w U).trans (HK3.out.mono fun j e => by rcases e with e | e | e; exact .inl e; exact .inr (.inl e); exact .inr (.inl e)))
  clear hTF
  go_wp2_with fail
  refine (Th.fback (n := 0) (L := fun _ => 0) HTH.out.a (Th.UR.nil _) (by omega)).mono ?_; rintro _ w5 ⟨rfl, ⟨fv', ha, ho5⟩, kq⟩
  have HM5 := Lib.hid (HM3.out.kqF HTF.out hk kq)
  have HT5 := Lib.hid (HTF.out.one hk (p' := ps k) ⟨ha, HTH.out.r, HTH.out.s⟩ kq (fun j hj => .inl (ho5 j hj)) fun a ha => .inl ⟨Nat.lt_of_lt_of_le ha (Nat.sub_le _ _), rfl⟩)
  have HO5 := Lib.hid ho5
  have HK5 := Lib.hid (HKY.out.trans ⟨kq.os, kq.tape, kq.output, kq.size, fun j hj hx => kq.block j hj (fun e => hx (.inr (.inr (.inl e)))) (fun e => hx (.inr (.inr (.inr e)))) (fun e => by cases e)⟩)
  clear ha ho5 kq x1
  go_wp2_with fail
  refine bodyPost_end (v := .tuple #[]) (by simp [results, Try.results88, go_sem]) rfl ?_
  rw [HQ.out]
  refine ⟨rfl, by rw [← HFE.out.2]; exact HM5.out, ⟨fv', ?_, HO5.out⟩, HK5.out⟩
  have h5 := HT5.out
  have e1 : (fun i => if i = k then ps k else ps i) = ps := funext fun i => by
    by_cases e : i = k
    · rw [if_pos e, e]
    · rw [if_neg e]
  rw [e1] at h5
  exact h5
end Go.Proofs.Ytaaciolfgplnoaa
