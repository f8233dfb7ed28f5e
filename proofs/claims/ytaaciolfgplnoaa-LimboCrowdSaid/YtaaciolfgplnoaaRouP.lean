/- Layer 17: Give's first two steps. -/
import Derived.Test.YtaaciolfgplnoaaGAN
namespace Go.Proofs.Ytaaciolfgplnoaa
open Go.RowKit WordM EdgeM
set_option linter.unusedVariables false
set_option linter.unusedSimpArgs false
theorem make_bd (s g : Int) : 0 ≤ makeI s g ∧ makeI s g < 18446744073709551616 := by
  have := slotI_bd s
  unfold makeI; omega
set_option maxRecDepth 8000 in
set_option maxHeartbeats 2000000 in
theorem give0 {w : World} {B q pl mb mg C gq gg gm : Nat} {fv : Value} {tq : Nat → Nat} {t s : Nat} {K : Int} {f : Nat → Int} {acc : Int} {flt : Bool} {H : Nat → Bool} {G : Nat → Int} {sl steps : Int} {odd : Bool} (h : MC w B q pl mb mg C gq gg gm fv tq t s K f acc flt H G sl steps odd) {Ts : Nat → Th.Td} {ps : Nat → Nat → Nat} {fvs : Nat → Value} (tf : TF w q t tq Ts ps fvs) {k m : Nat} (hk : k < t) (hm : (Ts k).nf = m + 1) (hpc : ((Ts k).fs m).pc = 0) (hr : 0 ≤ ((Ts k).fs m).r 0 ∧ ((Ts k).fs m).r 0 < 18446744073709551616) (hl : Gd.leadsB s H G (((Ts k).fs m).r 0) = true) (hsl : sl < 1000000) (a0 : 0 ≤ acc) (a1 : acc < 1000000) :
    Calls Try.prog 88 #[.agg #[.pointer (some ⟨q, 0, none⟩), .pointer (some ⟨tq k, 0, none⟩), .pointer (some ⟨ps k m, 0, none⟩)]] w fun x w' => x = .returned (.tuple #[]) ∧ MC w' B q pl mb mg C gq gg gm fv tq t s K (if Mm.okA (3 + 8 * t + 7 * s) (nodeI t s ((((Ts k).fs m).r 0) % 4096) 1) = true then Mm.upd f ((nodeI t s ((((Ts k).fs m).r 0) % 4096) 1)).toNat ((((((Ts k).fs m).r 0) / 4096 % 1125899906842624) + 1) % 1125899906842624) else f) (acc + 1) (flt || !Mm.okA (3 + 8 * t + 7 * s) (nodeI t s ((((Ts k).fs m).r 0) % 4096) 1)) (Gd.dropH s H G (((Ts k).fs m).r 0)) (Gd.dropG s H G (((Ts k).fs m).r 0)) (sl) steps odd ∧ TF w' q t tq (fun i => if i = k then { Ts k with fs := Th.upM (Ts k).fs m ⟨((Ts k).fs m).fn, 1, ((Ts k).fs m).r⟩ } else Ts i) ps fvs ∧ Th.KS (fun j => j = mb ∨ j = mg ∨ j = gq ∨ j = gg ∨ j = gm ∨ j = ps k m) w w' := by
  refine Calls.veil fun Q HQ => ?_
  have hmm : m < (Ts k).nf := by omega
  obtain ⟨fb, hfb⟩ : ∃ fb, fb = ps k m := ⟨_, rfl⟩
  have hbk := ((tf.th k hk).a.fb m hmm).1
  have hfl := (tf.th k hk).frm hmm
  rw [← hfb] at hbk hfl ⊢
  have HH := Lib.hid h; have HT := Lib.hid tf
  have HFB := Lib.hid hbk
  have hql := h.qlt
  have HNE := Lib.hid (show fb ≠ mb ∧ fb ≠ mg ∧ q < fb from by omega)
  obtain ⟨F, hF⟩ : ∃ F, F = (Ts k).fs m := ⟨_, rfl⟩
  rw [← hF] at HFB hpc hr hl
  have HFE := Lib.hid (And.intro hfb hF)
  have HL := Lib.hid hl
  clear h tf hbk hfl hfb hF hl
  go_enter Try.func88, Try.ntmps88
  go_upto_region 1 with fail
  generalize hV : World.alloc _ _ = U
  obtain ⟨u0, hbu⟩ := Th.heapnewE hV
  obtain ⟨X, hX⟩ : ∃ X, X = w.heap.size := ⟨_, rfl⟩
  rw [← hX] at u0 ⊢
  have HXW := Lib.hid hX
  have HU := Lib.hid (HH.out.below hbu); have HBU := Lib.hid hbu; have HX := Lib.hid u0; have HFU := Lib.hid (HFB.out.below hbu)
  have HNX := Lib.hid (show X ≠ mb ∧ X ≠ mg ∧ X ≠ fb ∧ X ≠ q from by have := Th.blk_lt HFB.out; have := HH.out.qlt; omega)
  clear hV u0 hbu hX
  have x2 : U.cell? ⟨X, 2, none⟩ = some (.pointer (some ⟨fb, 0, none⟩)) := Th.newcell HX.out 2 _ rfl
  have f1 : U.cell? ⟨fb, 1, none⟩ = some (.int .i64 0) := by rw [HFU.out.get (i := 1) (by omega)]; unfold Th.frF; rw [if_neg (by decide), if_pos rfl, hpc]
  have f2 : U.cell? ⟨fb, 2, none⟩ = some (.int .u64 (F.r 0)) := by rw [HFU.out.get (i := 2) (by omega)]; rfl
  go_upto_region 4 with fail
  clear x2 f1 f2
  have HLM := Lib.hid (show ∀ y : KX U mb mg mg, (Instr.loadAt 28 (.pointer (some ⟨X, 0, none⟩))).run Try.prog y.w = .ok (.pointer (some ⟨q, 0, none⟩)) y.w from fun y => by have hc := KX.cells (Th.newcell HX.out 0 _ rfl) HNX.out.1 HNX.out.2.1 HNX.out.2.1 y; go_simp)
  obtain ⟨ge, hge⟩ : ∃ ge, ge = F.r 0 / 4096 % 1125899906842624 := ⟨_, rfl⟩
  have hg0 : 0 ≤ ge ∧ ge < 1125899906842624 := by omega
  have HGE := Lib.hid hge
  have hwg : IntKind.u64.wrap (ge + 1) = ge + 1 := by rw [IntKind.wrap_u64]; omega
  have HMK := Lib.hid (make_bd (F.r 0 % 4096) (ge + 1))
  have HMG := Lib.hid (Gd.make_gen (F.r 0 % 4096) (x := ge + 1) (by omega))
  clear hge
  refine Th.wp_region_K (fun w' => ∃ y : KX U mb mg mg, w' = y.w) 11 (by decide +kernel) ?_
  generalize hwd : World.drew U = wd
  have hdd : Below U.heap.size U wd := by rw [← hwd]; exact (Below.refl _ _).drew
  have hbd : Th.KS (fun j => j = mb ∨ j = mg ∨ j = mg) U wd := .of_below hdd
  clear hwd
  (refine Th.wpAnyK_takeY (i := 0) (v := ?_) rfl (by decide +kernel) (by decide +kernel) (by decide +kernel) (by decide) (fun _ _ _ h => h) (Or.inl ⟨by rfl, ?_⟩) (.inr ⟨⟨wd, hbd⟩, rfl⟩) ?_; rotate_left; (intro w; go_simp); (try with_reducible rfl))
  (try simp only [List.getElem_toArray, List.getElem_cons_succ, List.getElem_cons_zero, Act.put, List.setIfInBounds_toArray, List.set_cons_succ, List.set_cons_zero])
  (refine Th.wpAnyK_takeY (i := 1) (v := ?_) rfl (by decide +kernel) (by decide +kernel) (by decide +kernel) (by decide) (fun _ _ _ h => h) (Or.inl ⟨by rfl, ?_⟩) (.inr ⟨⟨wd, hbd⟩, rfl⟩) ?_; rotate_left; (intro w; go_simp); (try with_reducible rfl))
  (try simp only [List.getElem_toArray, List.getElem_cons_succ, List.getElem_cons_zero, Act.put, List.setIfInBounds_toArray, List.set_cons_succ, List.set_cons_zero])
  (refine Th.wpAnyK_take (i := 2) (v := .pointer (some ⟨q, 0, none⟩)) [11] rfl (by decide +kernel) (by decide +kernel) (by decide +kernel) (by decide +kernel) (fun _ _ _ h => h) (Th.yields_loadK rfl 28 (.tmp 20) rfl rfl (by rintro _ ⟨y, rfl⟩; exact HLM.out y)) ⟨⟨wd, hbd⟩, rfl⟩ ?_)
  (try simp only [List.getElem_toArray, List.getElem_cons_succ, List.getElem_cons_zero, Act.put, List.setIfInBounds_toArray, List.set_cons_succ, List.set_cons_zero])
  (refine Th.wpAnyK_takeY (i := 3) (v := ?_) rfl (by decide +kernel) (by decide +kernel) (by decide +kernel) (by decide) (fun _ _ _ h => h) (Or.inl ⟨by rfl, ?_⟩) (.inr ⟨⟨wd, hbd⟩, rfl⟩) ?_; rotate_left; (intro w; go_simp); (try with_reducible rfl))
  (try simp only [List.getElem_toArray, List.getElem_cons_succ, List.getElem_cons_zero, Act.put, List.setIfInBounds_toArray, List.set_cons_succ, List.set_cons_zero])
  (refine Th.wpAnyK_takeY (i := 4) (v := ?_) rfl (by decide +kernel) (by decide +kernel) (by decide +kernel) (by decide) (fun _ _ _ h => h) (Or.inl ⟨by rfl, ?_⟩) (.inr ⟨⟨wd, hbd⟩, rfl⟩) ?_; rotate_left; (intro w; go_simp); (try with_reducible rfl))
  (try simp only [List.getElem_toArray, List.getElem_cons_succ, List.getElem_cons_zero, Act.put, List.setIfInBounds_toArray, List.set_cons_succ, List.set_cons_zero])
  (refine Th.wpAnyK_takeY (i := 6) (v := ?_) rfl (by decide +kernel) (by decide +kernel) (by decide +kernel) (by decide) (fun _ _ _ h => h) (Or.inl ⟨by rfl, ?_⟩) (.inr ⟨⟨wd, hbd⟩, rfl⟩) ?_; rotate_left; (intro w; go_simp); (try with_reducible rfl))
  (try simp only [List.getElem_toArray, List.getElem_cons_succ, List.getElem_cons_zero, Act.put, List.setIfInBounds_toArray, List.set_cons_succ, List.set_cons_zero])
  (refine Th.wpAnyK_ready (rs := [5]) (by decide +kernel) (by simp) ?_; refine (Th.AllReadyK.cons rfl (fun K hK => ?_) Th.AllReadyK.nil))
  refine step_of rfl ?_
  go_step
  refine (eslot_calls _ _ hr.1 hr.2).mono ?_; rintro _ w6 ⟨rfl, hw6⟩
  rw [← hw6]
  refine hK _ _ (.inr ⟨⟨wd, hbd⟩, rfl⟩) ?_
  clear hK K hw6
  (try simp only [List.getElem_toArray, List.getElem_cons_succ, List.getElem_cons_zero, Act.put, List.setIfInBounds_toArray, List.set_cons_succ, List.set_cons_zero])
  (refine Th.wpAnyK_ready (rs := [7]) (by decide +kernel) (by simp) ?_; refine (Th.AllReadyK.cons rfl (fun K hK => ?_) Th.AllReadyK.nil))
  refine step_of rfl ?_
  go_step
  refine (egen_calls _ _ hr.1 hr.2).mono ?_; rintro _ w6 ⟨rfl, hw6⟩
  rw [← hw6, ← HGE.out]
  refine hK _ _ (.inr ⟨⟨wd, hbd⟩, rfl⟩) ?_
  clear hK K hw6
  (try simp only [List.getElem_toArray, List.getElem_cons_succ, List.getElem_cons_zero, Act.put, List.setIfInBounds_toArray, List.set_cons_succ, List.set_cons_zero])
  (refine Th.wpAnyK_takeY (i := 8) (v := ?_) rfl (by decide +kernel) (by decide +kernel) (by decide +kernel) (by decide) (fun _ _ _ h => h) (Or.inl ⟨by rfl, ?_⟩) (.inr ⟨⟨wd, hbd⟩, rfl⟩) ?_; rotate_left; (intro w; go_simp); (try with_reducible rfl))
  (try simp only [List.getElem_toArray, List.getElem_cons_succ, List.getElem_cons_zero, Act.put, List.setIfInBounds_toArray, List.set_cons_succ, List.set_cons_zero])
  (refine Th.wpAnyK_ready (rs := [9]) (by decide +kernel) (by simp) ?_; refine (Th.AllReadyK.cons rfl (fun K hK => ?_) Th.AllReadyK.nil))
  refine step_of rfl ?_
  go_step
  refine (emake_calls _ _ _ (by omega)).mono ?_; rintro _ w6 ⟨rfl, hw6⟩
  rw [← hw6]
  refine hK _ _ (.inr ⟨⟨wd, hbd⟩, rfl⟩) ?_
  clear hK K hw6
  (try simp only [List.getElem_toArray, List.getElem_cons_succ, List.getElem_cons_zero, Act.put, List.setIfInBounds_toArray, List.set_cons_succ, List.set_cons_zero])
  (refine Th.wpAnyK_ready (rs := [10]) (by decide +kernel) (by simp) ?_; refine (Th.AllReadyK.cons rfl (fun K hK => ?_) Th.AllReadyK.nil))
  refine step_of rfl ?_
  go_step
  refine (egen_calls _ _ HMK.out.1 HMK.out.2).mono ?_; rintro _ w6 ⟨rfl, hw6⟩
  rw [← hw6, HMG.out]
  refine hK _ _ (.inr ⟨⟨wd, hbd⟩, rfl⟩) ?_
  clear hK K hw6
  (try simp only [List.getElem_toArray, List.getElem_cons_succ, List.getElem_cons_zero, Act.put, List.setIfInBounds_toArray, List.set_cons_succ, List.set_cons_zero])
  (refine Th.wpAnyK_ready (rs := [11]) (by decide +kernel) (by simp) ?_; refine (Th.AllReadyK.cons rfl (fun K hK => ?_) Th.AllReadyK.nil))
  refine step_of rfl ?_
  go_step
  refine (cwacc (HU.out.below hdd) (F.r 0) 1 hr.1 hr.2 HL.out a0 a1 (by omega) (by omega)).mono ?_; rintro _ w3 ⟨rfl, hm3, ho⟩
  have HM3 := Lib.hid (hm3)
  have hkw : Th.KS (fun j => j = mb ∨ j = mg ∨ j = mg) U w3 := hbd.trans ⟨ho.os, ho.tape, ho.output, ho.size, fun j hj hx => ho.block j hj (fun e => hx (.inl e)) (fun e => hx (.inr (.inl e)))⟩
  refine hK _ _ (.inl rfl) ?_
  clear hK K
  (try simp only [List.getElem_toArray, List.getElem_cons_succ, List.getElem_cons_zero, Act.put, List.setIfInBounds_toArray, List.set_cons_succ, List.set_cons_zero])
  have HF3 := Lib.hid (HFU.out.of (hkw.block fb (Th.blk_lt HFU.out) (by have := HNE.out; omega)))
  have HX3 := Lib.hid ((hkw.block X (Th.blk_lt HX.out) (by have := HNX.out; omega)).trans HX.out)
  have HK3 := Lib.hid hkw
  clear ho hm3 hkw
  refine Th.wpAnyK_done (by decide +kernel) ?_ _
  clear hwg
  have x0 : w3.cell? ⟨X, 0, none⟩ = some (.pointer (some ⟨q, 0, none⟩)) := Th.newcell HX3.out 0 _ rfl
  go_wp2_with fail
  refine (cGuard HM3.out).mono ?_; rintro _ _ ⟨rfl, rfl⟩
  go_wp2_with fail
  refine (Gd.gdrop HM3.out.grd (F.r 0) hr.1 hr.2 hsl).mono ?_; rintro _ w4 ⟨rfl, hga, hk4⟩
  rw [HL.out, if_pos rfl] at hga
  clear x0
  have hqb := HM3.out.o5
  have HM4 := Lib.hid (HM3.out.gd hk4 hga)
  have HF4 := Lib.hid (HF3.out.of (hk4.block fb (Th.blk_lt HF3.out) (by have := HNE.out; omega) (by have := HNE.out; omega) (by have := HNE.out; omega)))
  have HX4 := Lib.hid ((hk4.block X (Th.blk_lt HX3.out) (by have := HNX.out; have := HXW.out; have := HH.out.qlt; omega) (by have := HXW.out; have := HH.out.qlt; omega) (by have := HXW.out; have := HH.out.qlt; omega)).trans HX3.out)
  have HK4 := Lib.hid ((HK3.out.mono fun j e => by rcases e with e | e | e; exact .inl e; exact .inr (.inl e); exact .inr (.inl e) : Th.KS (fun j => j = mb ∨ j = mg ∨ j = gq ∨ j = gg ∨ j = gm) U w3).trans ⟨hk4.os, hk4.tape, hk4.output, hk4.size, fun j hj hx => hk4.block j hj (fun e => hx (.inr (.inr (.inl e)))) (fun e => hx (.inr (.inr (.inr (.inl e))))) (fun e => hx (.inr (.inr (.inr (.inr e)))))⟩)
  have HQB := Lib.hid hqb
  clear hga hk4 hqb HM3 HF3 HX3 HK3
  have x2 : w4.cell? ⟨X, 2, none⟩ = some (.pointer (some ⟨fb, 0, none⟩)) := Th.newcell HX4.out 2 _ rfl
  have f1 : w4.cell? ⟨fb, 1, none⟩ = some (.int .i64 0) := by rw [HF4.out.get (i := 1) (by omega)]; unfold Th.frF; rw [if_neg (by decide), if_pos rfl, hpc]
  have rf : ∀ i, w4.frozen? ⟨fb, i, none⟩ = false := fun i => HF4.out.fr i
  go_wp2_with fail
  clear x2 f1 rf
  generalize hW2 : World.setCell _ _ _ = V
  have hbV : Th.Blk 48 V fb 26 (Th.upF (Th.frF F) 1 (.int .i64 1)) := by rw [← hW2]; exact HF4.out.set 1 _
  have hbV := hbV.congr (Th.frF_pc _ 1)
  have hkV : Th.KS (fun j => j = fb) w4 V := by rw [← hW2]; exact Th.KS.set w4 fb 1 _
  have HFV := Lib.hid hbV; have HKV := Lib.hid hkV
  clear hW2 hbV hkV
  refine bodyPost_end (v := .tuple #[]) (by simp [results, Try.results88, go_sem]) rfl ?_
  rw [HQ.out]
  have hTF := ((HT.out.below HBU.out).hi HK4.out.size fun j hj hjq => HK4.out.block j hj (by have := HH.out.qlt; have := HQB.out; omega)).frm hk (by omega : m < (Ts k).nf) (f := ⟨F.fn, 1, F.r⟩) (by rw [← HFE.out.1]; exact HKV.out) (by rw [← HFE.out.1]; exact HFV.out)
  have hwk : Th.KS (fun j => j = mb ∨ j = mg ∨ j = gq ∨ j = gg ∨ j = gm ∨ j = fb) w V := (Th.KS.of_below HBU.out).trans ((HK4.out.mono fun j e => by rcases e with e | e | e | e | e; exact .inl e; exact .inr (.inl e); exact .inr (.inr (.inl e)); exact .inr (.inr (.inr (.inl e))); exact .inr (.inr (.inr (.inr (.inl e))))).trans (HKV.out.mono fun j e => .inr (.inr (.inr (.inr (.inr e))))))
  refine ⟨rfl, ?_, ?_, ?_⟩
  · rw [← HFE.out.2, ← HGE.out]; exact HM4.out.ksT HF4.out HNE.out.2.2 (by decide) HKV.out
  · rw [← HFE.out.2]; exact hTF
  rw [← HFE.out.1]; exact hwk
set_option maxRecDepth 8000 in
set_option maxHeartbeats 2000000 in
theorem give1 {w : World} {B q pl mb mg C gq gg gm : Nat} {fv : Value} {tq : Nat → Nat} {t s : Nat} {K : Int} {f : Nat → Int} {acc : Int} {flt : Bool} {H : Nat → Bool} {G : Nat → Int} {sl steps : Int} {odd : Bool} (h : MC w B q pl mb mg C gq gg gm fv tq t s K f acc flt H G sl steps odd) {Ts : Nat → Th.Td} {ps : Nat → Nat → Nat} {fvs : Nat → Value} (tf : TF w q t tq Ts ps fvs) {k m : Nat} (hk : k < t) (hm : (Ts k).nf = m + 1) (hpc : ((Ts k).fs m).pc = 1) (hr : 0 ≤ ((Ts k).fs m).r 0 ∧ ((Ts k).fs m).r 0 < 18446744073709551616) (a0 : 0 ≤ acc) (a1 : acc < 1000000) :
    Calls Try.prog 88 #[.agg #[.pointer (some ⟨q, 0, none⟩), .pointer (some ⟨tq k, 0, none⟩), .pointer (some ⟨ps k m, 0, none⟩)]] w fun x w' => x = .returned (.tuple #[]) ∧ MC w' B q pl mb mg C gq gg gm fv tq t s K f (acc + 1) flt H G sl steps odd ∧ TF w' q t tq (fun i => if i = k then { Ts k with fs := Th.upM (Ts k).fs m ⟨((Ts k).fs m).fn, 2, fun a => if a = 1 then f 2 else ((Ts k).fs m).r a⟩ } else Ts i) ps fvs ∧ Th.KS (fun j => j = mb ∨ j = mg ∨ j = ps k m) w w' := by
  refine Calls.veil fun Q HQ => ?_
  have hmm : m < (Ts k).nf := by omega
  obtain ⟨fb, hfb⟩ : ∃ fb, fb = ps k m := ⟨_, rfl⟩
  have hbk := ((tf.th k hk).a.fb m hmm).1
  have hfl := (tf.th k hk).frm hmm
  rw [← hfb] at hbk hfl ⊢
  have HH := Lib.hid h; have HT := Lib.hid tf
  have HFB := Lib.hid hbk
  have hql := h.qlt
  have HNE := Lib.hid (show fb ≠ mb ∧ fb ≠ mg ∧ q < fb from by omega)
  obtain ⟨F, hF⟩ : ∃ F, F = (Ts k).fs m := ⟨_, rfl⟩
  rw [← hF] at HFB hpc hr
  have HFE := Lib.hid (And.intro hfb hF)
  clear h tf hbk hfl hfb hF
  go_enter Try.func88, Try.ntmps88
  go_upto_region 1 with fail
  generalize hV : World.alloc _ _ = U
  obtain ⟨u0, hbu⟩ := Th.heapnewE hV
  obtain ⟨X, hX⟩ : ∃ X, X = w.heap.size := ⟨_, rfl⟩
  rw [← hX] at u0 ⊢
  have HXW := Lib.hid hX
  have HU := Lib.hid (HH.out.below hbu); have HBU := Lib.hid hbu; have HX := Lib.hid u0; have HFU := Lib.hid (HFB.out.below hbu)
  have HNX := Lib.hid (show X ≠ mb ∧ X ≠ mg ∧ X ≠ fb ∧ X ≠ q from by have := Th.blk_lt HFB.out; have := HH.out.qlt; omega)
  clear hV u0 hbu hX
  have x2 : U.cell? ⟨X, 2, none⟩ = some (.pointer (some ⟨fb, 0, none⟩)) := Th.newcell HX.out 2 _ rfl
  have f1 : U.cell? ⟨fb, 1, none⟩ = some (.int .i64 1) := by rw [HFU.out.get (i := 1) (by omega)]; unfold Th.frF; rw [if_neg (by decide), if_pos rfl, hpc]
  have f2 : U.cell? ⟨fb, 2, none⟩ = some (.int .u64 (F.r 0)) := by rw [HFU.out.get (i := 2) (by omega)]; rfl
  go_upto_region 8 with fail
  clear x2 f1 f2
  have HLF := Lib.hid (show ∀ y : KX U mb mg mg, (Instr.loadAt 49 (.pointer (some ⟨X, 2, none⟩))).run Try.prog y.w = .ok (.pointer (some ⟨fb, 0, none⟩)) y.w from fun y => by have hc := KX.cells (Th.newcell HX.out 2 _ rfl) HNX.out.1 HNX.out.2.1 HNX.out.2.1 y; go_simp)
  have HLM := Lib.hid (show ∀ y : KX U mb mg mg, (Instr.loadAt 28 (.pointer (some ⟨X, 0, none⟩))).run Try.prog y.w = .ok (.pointer (some ⟨q, 0, none⟩)) y.w from fun y => by have hc := KX.cells (Th.newcell HX.out 0 _ rfl) HNX.out.1 HNX.out.2.1 HNX.out.2.1 y; go_simp)
  refine Th.wp_region_K (fun w' => ∃ y : KX U mb mg mg, w' = y.w) 11 (by decide +kernel) ?_
  generalize hwd : World.drew U = wd
  have hdd : Below U.heap.size U wd := by rw [← hwd]; exact (Below.refl _ _).drew
  have hbd : Th.KS (fun j => j = mb ∨ j = mg ∨ j = mg) U wd := .of_below hdd
  clear hwd
  (refine Th.wpAnyK_takeY (i := 0) (v := ?_) rfl (by decide +kernel) (by decide +kernel) (by decide +kernel) (by decide) (fun _ _ _ h => h) (Or.inl ⟨by rfl, ?_⟩) (.inr ⟨⟨wd, hbd⟩, rfl⟩) ?_; rotate_left; (intro w; go_simp); (try with_reducible rfl))
  (try simp only [List.getElem_toArray, List.getElem_cons_succ, List.getElem_cons_zero, Act.put, List.setIfInBounds_toArray, List.set_cons_succ, List.set_cons_zero])
  (refine Th.wpAnyK_takeY (i := 1) (v := ?_) rfl (by decide +kernel) (by decide +kernel) (by decide +kernel) (by decide) (fun _ _ _ h => h) (Or.inl ⟨by rfl, ?_⟩) (.inr ⟨⟨wd, hbd⟩, rfl⟩) ?_; rotate_left; (intro w; go_simp); (try with_reducible rfl))
  (try simp only [List.getElem_toArray, List.getElem_cons_succ, List.getElem_cons_zero, Act.put, List.setIfInBounds_toArray, List.set_cons_succ, List.set_cons_zero])
  (refine Th.wpAnyK_take (i := 2) (v := .pointer (some ⟨fb, 0, none⟩)) [8, 9, 10, 11] rfl (by decide +kernel) (by decide +kernel) (by decide +kernel) (by decide +kernel) (fun _ _ _ h => h) (Th.yields_loadK rfl 49 (.tmp 45) rfl rfl (by rintro _ ⟨y, rfl⟩; exact HLF.out y)) ⟨⟨wd, hbd⟩, rfl⟩ ?_)
  (try simp only [List.getElem_toArray, List.getElem_cons_succ, List.getElem_cons_zero, Act.put, List.setIfInBounds_toArray, List.set_cons_succ, List.set_cons_zero])
  (refine Th.wpAnyK_takeY (i := 3) (v := ?_) rfl (by decide +kernel) (by decide +kernel) (by decide +kernel) (by decide) (fun _ _ _ h => h) (Or.inl ⟨by rfl, ?_⟩) (.inr ⟨⟨wd, hbd⟩, rfl⟩) ?_; rotate_left; (intro w; go_simp); (try with_reducible rfl))
  (try simp only [List.getElem_toArray, List.getElem_cons_succ, List.getElem_cons_zero, Act.put, List.setIfInBounds_toArray, List.set_cons_succ, List.set_cons_zero])
  (refine Th.wpAnyK_takeY (i := 4) (v := ?_) rfl (by decide +kernel) (by decide +kernel) (by decide +kernel) (by decide) (fun _ _ _ h => h) (Or.inl ⟨by rfl, ?_⟩) (.inr ⟨⟨wd, hbd⟩, rfl⟩) ?_; rotate_left; (intro w; go_simp); (try with_reducible rfl))
  (try simp only [List.getElem_toArray, List.getElem_cons_succ, List.getElem_cons_zero, Act.put, List.setIfInBounds_toArray, List.set_cons_succ, List.set_cons_zero])
  (refine Th.wpAnyK_take (i := 5) (v := .pointer (some ⟨q, 0, none⟩)) [6, 7, 11] rfl (by decide +kernel) (by decide +kernel) (by decide +kernel) (by decide +kernel) (fun _ _ _ h => h) (Th.yields_loadK rfl 28 (.tmp 48) rfl rfl (by rintro _ ⟨y, rfl⟩; exact HLM.out y)) ⟨⟨wd, hbd⟩, rfl⟩ ?_)
  (try simp only [List.getElem_toArray, List.getElem_cons_succ, List.getElem_cons_zero, Act.put, List.setIfInBounds_toArray, List.set_cons_succ, List.set_cons_zero])
  (refine Th.wpAnyK_takeY (i := 8) (v := ?_) rfl (by decide +kernel) (by decide +kernel) (by decide +kernel) (by decide) (fun _ _ _ h => h) (Or.inl ⟨by rfl, ?_⟩) (.inr ⟨⟨wd, hbd⟩, rfl⟩) ?_; rotate_left; (intro w; go_simp); (try with_reducible rfl))
  (try simp only [List.getElem_toArray, List.getElem_cons_succ, List.getElem_cons_zero, Act.put, List.setIfInBounds_toArray, List.set_cons_succ, List.set_cons_zero])
  (refine Th.wpAnyK_takeY (i := 9) (v := ?_) rfl (by decide +kernel) (by decide +kernel) (by decide +kernel) (by decide) (fun _ _ _ h => h) (Or.inl ⟨by rfl, ?_⟩) (.inr ⟨⟨wd, hbd⟩, rfl⟩) ?_; rotate_left; (intro w; go_simp); (try with_reducible rfl))
  (try simp only [List.getElem_toArray, List.getElem_cons_succ, List.getElem_cons_zero, Act.put, List.setIfInBounds_toArray, List.set_cons_succ, List.set_cons_zero])
  (refine Th.wpAnyK_ready (rs := [6]) (by decide +kernel) (by simp) ?_; refine (Th.AllReadyK.cons rfl (fun K hK => ?_) Th.AllReadyK.nil))
  refine step_of rfl ?_
  go_step
  refine (cMem (HU.out.below hdd)).mono ?_; rintro _ w6 ⟨rfl, hw6⟩
  rw [← hw6]
  refine hK _ _ (.inr ⟨⟨wd, hbd⟩, rfl⟩) ?_
  clear hK K hw6
  (try simp only [List.getElem_toArray, List.getElem_cons_succ, List.getElem_cons_zero, Act.put, List.setIfInBounds_toArray, List.set_cons_succ, List.set_cons_zero])
  (refine Th.wpAnyK_ready (rs := [7]) (by decide +kernel) (by simp) ?_; refine (Th.AllReadyK.cons rfl (fun K hK => ?_) Th.AllReadyK.nil))
  refine step_of rfl ?_
  go_step
  have hbb := HH.out.bd
  refine (Mm.mload _ _ _ _ _ _ 2 _ _ (HU.out.below hdd).mem a0 (by omega)).mono ?_; rintro _ w3 ⟨rfl, hm3, ho⟩
  rw [okA2 _ (by omega)] at hm3
  have hli : Mm.ldI (3 + 8 * t + 7 * s) f 2 = f 2 := by unfold Mm.ldI; rw [okA2 _ (by omega)]; rfl
  rw [hli]
  have hkw : Th.KS (fun j => j = mb ∨ j = mg ∨ j = mg) U w3 := hbd.trans ⟨ho.os, ho.tape, ho.output, ho.size, fun j hj hx => ho.block j hj (fun e => hx (.inl e)) (fun e => hx (.inr (.inl e)))⟩
  refine hK _ _ (.inr ⟨⟨w3, hkw⟩, rfl⟩) ?_
  clear hK K hli hbb
  (try simp only [List.getElem_toArray, List.getElem_cons_succ, List.getElem_cons_zero, Act.put, List.setIfInBounds_toArray, List.set_cons_succ, List.set_cons_zero])
  have HM3 := Lib.hid ((HU.out.below hdd).only ho (by simpa using hm3))
  have HF3 := Lib.hid (HFU.out.of (hkw.block fb (Th.blk_lt HFU.out) (by have := HNE.out; omega)))
  have HX3 := Lib.hid ((hkw.block X (Th.blk_lt HX.out) (by have := HNX.out; omega)).trans HX.out)
  have HK3 := Lib.hid hkw
  clear ho hm3 hkw
  have r2 : w3.cell? ⟨fb, 3, none⟩ = some (.int .u64 (F.r 1)) := by rw [HF3.out.get (i := 3) (by omega)]; rfl
  have rf : ∀ i, w3.frozen? ⟨fb, i, none⟩ = false := fun i => HF3.out.fr i
  (refine Th.wpAnyK_takeY (i := 10) (v := ?_) rfl (by decide +kernel) (by decide +kernel) (by decide +kernel) (by decide) (fun _ _ _ h => h) (Or.inl ⟨by rfl, ?_⟩) (.inr ⟨⟨w3, HK3.out⟩, rfl⟩) ?_; rotate_left; (intro w; go_simp); (try with_reducible rfl))
  (try simp only [List.getElem_toArray, List.getElem_cons_succ, List.getElem_cons_zero, Act.put, List.setIfInBounds_toArray, List.set_cons_succ, List.set_cons_zero])
  (refine Th.wpAnyK_ready (rs := [11]) (by decide +kernel) (by simp) ?_; refine (Th.AllReadyK.cons rfl (fun K hK => ?_) Th.AllReadyK.nil))
  refine step_of rfl ?_
  go_step
  refine hK _ _ (.inl rfl) ?_
  clear hK K
  refine Th.wpAnyK_done (by decide +kernel) ?_ _
  clear r2 rf
  generalize hW : World.setCell _ _ _ = W
  have hbW : Th.Blk 48 W fb 26 (Th.upF (Th.frF F) (2 + 1) (.int .u64 (f 2))) := by rw [← hW]; exact HF3.out.set 3 _
  have hbW := hbW.congr (Th.frF_r F 1 (f 2))
  have hkW : Th.KS (fun j => j = fb) w3 W := by rw [← hW]; exact Th.KS.set w3 fb 3 _
  have HFW := Lib.hid hbW; have HKW := Lib.hid hkW
  clear hW hbW hkW
  have x2 : W.cell? ⟨X, 2, none⟩ = some (.pointer (some ⟨fb, 0, none⟩)) := Th.newcell ((HKW.out.block X (Th.blk_lt HX3.out) HNX.out.2.2.1).trans HX3.out) 2 _ rfl
  have f1 : W.cell? ⟨fb, 1, none⟩ = some (.int .i64 1) := by rw [HFW.out.get (i := 1) (by omega)]; unfold Th.frF; rw [if_neg (by decide), if_pos rfl, hpc]
  have rf : ∀ i, W.frozen? ⟨fb, i, none⟩ = false := fun i => HFW.out.fr i
  go_wp2_with fail
  clear x2 f1 rf
  generalize hW2 : World.setCell _ _ _ = V
  have hbV : Th.Blk 48 V fb 26 (Th.upF (Th.frF ⟨F.fn, F.pc, fun i => if i = 1 then f 2 else F.r i⟩) 1 (.int .i64 2)) := by rw [← hW2]; exact HFW.out.set 1 _
  have hbV := hbV.congr (Th.frF_pc _ 2)
  have hkV : Th.KS (fun j => j = fb) w3 V := by rw [← hW2]; exact HKW.out.trans (Th.KS.set W fb 1 _)
  have HFV := Lib.hid hbV; have HKV := Lib.hid hkV
  clear hW2 hbV hkV HFW HKW
  refine bodyPost_end (v := .tuple #[]) (by simp [results, Try.results88, go_sem]) rfl ?_
  rw [HQ.out]
  have hwk : Th.KS (fun j => j = mb ∨ j = mg ∨ j = fb) w V := (Th.KS.of_below HBU.out).trans ((HK3.out.mono fun j e => by rcases e with e | e | e; exact .inl e; exact .inr (.inl e); exact .inr (.inl e)).trans (HKV.out.mono fun j e => .inr (.inr e)))
  have hTF := ((HT.out.below HBU.out).hi HK3.out.size fun j hj hjq => HK3.out.block j hj (by have := HH.out.qlt; omega)).frm hk (by omega : m < (Ts k).nf) (f := ⟨F.fn, 2, fun i => if i = 1 then f 2 else F.r i⟩) (by rw [← HFE.out.1]; exact HKV.out) (by rw [← HFE.out.1]; exact HFV.out)
  refine ⟨rfl, HM3.out.ksT HF3.out HNE.out.2.2 (by decide) HKV.out, ?_, ?_⟩
  · rw [← HFE.out.2]; exact hTF
  rw [← HFE.out.1]; exact hwk
end Go.Proofs.Ytaaciolfgplnoaa
