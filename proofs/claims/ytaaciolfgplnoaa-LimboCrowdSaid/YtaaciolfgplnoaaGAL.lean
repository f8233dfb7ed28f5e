/- GAL: several texts in one. -/
import Derived.Test.YtaaciolfgplnoaaGAK
/- Layer 17: Take's first step, where nothing is free. -/
namespace Go.Proofs.Ytaaciolfgplnoaa
open Go.RowKit WordM EdgeM
set_option linter.unusedVariables false
set_option linter.unusedSimpArgs false
theorem MC.kqF {w w' : World} {B q pl mb mg C gq gg gm : Nat} {fv : Value} {tq : Nat → Nat} {t s : Nat} {K : Int} {f : Nat → Int} {acc : Int} {flt : Bool} {H : Nat → Bool} {G : Nat → Int} {sl steps : Int} {odd : Bool} (h : MC w B q pl mb mg C gq gg gm fv tq t s K f acc flt H G sl steps odd)
    {Ts : Nat → Th.Td} {ps : Nat → Nat → Nat} {fvs : Nat → Value} (tf : TF w q t tq Ts ps fvs) {k : Nat} (hk : k < t) (kq : Th.KQ w w' (tq k) (fvs k) (.slice none 0 0)) : MC w' B q pl mb mg C gq gg gm fv tq t s K f acc flt H G sl steps odd := by
  have hl := h.qlt
  obtain ⟨hB, ck, hck⟩ := (tf.th k hk).blk
  have lo : ∀ j, j < w.heap.size → j ≤ q → w'.heap[j]? = w.heap[j]? := fun j hj h1 => kq.block j hj (by omega) (fun e => by have := ((tf.th k hk).own e).1; omega) (fun e => by cases e)
  refine h.keep ((lo q (by omega) (Nat.le_refl _)).trans h.blk) (h.mem.keep kq.size (lo mb (by omega) (by omega)) (lo mg (by omega) (by omega))) fun j hj _ _ _ hc => ?_
  rcases hc with hc | hc
  · exact lo j hj (by omega)
  · obtain ⟨_, _, c2, h2⟩ := h.ths.blk hc
    refine kq.block j hj (ty_ne h2 hck (by decide)) (fun e => ?_) (fun e => by cases e)
    obtain ⟨_, _, c3, h3⟩ := (tf.th k hk).own e
    exact ty_ne h2 h3 (by decide) rfl
set_option maxRecDepth 8000 in
set_option maxHeartbeats 2000000 in
theorem take0z {w : World} {B q pl mb mg C gq gg gm : Nat} {fv : Value} {tq : Nat → Nat} {t s : Nat} {K : Int} {f : Nat → Int} {acc : Int} {flt : Bool} {H : Nat → Bool} {G : Nat → Int} {sl steps : Int} {odd : Bool} (h : MC w B q pl mb mg C gq gg gm fv tq t s K f acc flt H G sl steps odd) {Ts : Nat → Th.Td} {ps : Nat → Nat → Nat} {fvs : Nat → Value} (tf : TF w q t tq Ts ps fvs) {k m : Nat} (hk : k < t) (hm : (Ts k).nf = m + 1) (hpc : ((Ts k).fs m).pc = 0) (hr : 0 ≤ ((Ts k).fs m).r 0 ∧ ((Ts k).fs m).r 0 < 18446744073709551616) (hz : f 2 % 4096 = 0) (hN : m ≤ 1000) (a0 : 0 ≤ acc) (a1 : acc < 1000000) :
    Calls Try.prog 87 #[.agg #[.pointer (some ⟨q, 0, none⟩), .pointer (some ⟨tq k, 0, none⟩), .pointer (some ⟨ps k m, 0, none⟩)]] w fun x w' => x = .returned (.tuple #[]) ∧ MC w' B q pl mb mg C gq gg gm fv tq t s K f (acc + 1) flt H G sl steps odd ∧ (∃ fv', TF w' q t tq (fun i => if i = k then Th.backT { Ts k with fs := Th.upM (Ts k).fs m ⟨((Ts k).fs m).fn, 1, fun a => if a = 0 then f 2 else ((Ts k).fs m).r a⟩ } 1 (fun _ => 0) else Ts i) ps (fun i => if i = k then fv' else fvs i) ∧ ∀ j, fv'.ownBlock = some j → (fvs k).ownBlock = some j) ∧ Th.KS (fun j => j = mb ∨ j = mg ∨ j = ps k m ∨ j = tq k ∨ (fvs k).ownBlock = some j) w w' := by
  refine Calls.veil fun Q HQ => ?_
  have hmm : m < (Ts k).nf := by omega
  obtain ⟨fb, hfb⟩ : ∃ fb, fb = ps k m := ⟨_, rfl⟩
  have hbk := ((tf.th k hk).a.fb m hmm).1
  have hfl := (tf.th k hk).frm hmm
  rw [← hfb] at hbk hfl ⊢
  have HH := Lib.hid h; have HT := Lib.hid tf
  have HFB := Lib.hid hbk
  have hql := h.qlt
  have HNE := Lib.hid (show fb ≠ mb ∧ fb ≠ mg ∧ q < fb from by omega)
  have hrg := h.mem.rng 2 (by omega)
  obtain ⟨F, hF⟩ : ∃ F, F = (Ts k).fs m := ⟨_, rfl⟩
  rw [← hF] at HFB hpc hr
  have HFE := Lib.hid (And.intro hfb hF)
  clear h tf hbk hfl hfb hF
  go_enter Try.func87, Try.ntmps87
  go_upto_region 1 with fail
  generalize hV : World.alloc _ _ = U
  obtain ⟨u0, hbu⟩ := Th.heapnewE hV
  obtain ⟨X, hX⟩ : ∃ X, X = w.heap.size := ⟨_, rfl⟩
  rw [← hX] at u0 ⊢
  have HXW := Lib.hid hX
  have HU := Lib.hid (HH.out.below hbu); have HBU := Lib.hid hbu; have HX := Lib.hid u0; have HFU := Lib.hid (HFB.out.below hbu)
  have HNX := Lib.hid (show X ≠ mb ∧ X ≠ mg ∧ X ≠ fb ∧ X ≠ q from by have := Th.blk_lt HFB.out; have := HH.out.qlt; omega)
  clear hV u0 hbu hX
  have x2 : U.cell? ⟨X, 2, none⟩ = some (.pointer (some ⟨fb, 0, none⟩)) := Th.newcell HX.out 2 _ rfl
  have f1 : U.cell? ⟨fb, 1, none⟩ = some (.int .i64 0) := by rw [HFU.out.get (i := 1) (by omega)]; unfold Th.frF; rw [if_neg (by decide), if_pos rfl, hpc]
  have f2 : U.cell? ⟨fb, 2, none⟩ = some (.int .u64 (F.r 0)) := by rw [HFU.out.get (i := 2) (by omega)]; rfl
  go_wp2_with fail
  refine (bslot_calls _ _ hr.1 hr.2).mono ?_; rintro _ _ ⟨rfl, rfl⟩
  go_upto_region 4 with fail
  clear x2 f1 f2
  have HLF := Lib.hid (show ∀ y : KX U mb mg mg, (Instr.loadAt 49 (.pointer (some ⟨X, 2, none⟩))).run Try.prog y.w = .ok (.pointer (some ⟨fb, 0, none⟩)) y.w from fun y => by have hc := KX.cells (Th.newcell HX.out 2 _ rfl) HNX.out.1 HNX.out.2.1 HNX.out.2.1 y; go_simp)
  have HLM := Lib.hid (show ∀ y : KX U mb mg mg, (Instr.loadAt 28 (.pointer (some ⟨X, 0, none⟩))).run Try.prog y.w = .ok (.pointer (some ⟨q, 0, none⟩)) y.w from fun y => by have hc := KX.cells (Th.newcell HX.out 0 _ rfl) HNX.out.1 HNX.out.2.1 HNX.out.2.1 y; go_simp)
  refine Th.wp_region_K (fun w' => ∃ y : KX U mb mg mg, w' = y.w) 11 (by decide +kernel) ?_
  generalize hwd : World.drew U = wd
  have hdd : Below U.heap.size U wd := by rw [← hwd]; exact (Below.refl _ _).drew
  have hbd : Th.KS (fun j => j = mb ∨ j = mg ∨ j = mg) U wd := .of_below hdd
  clear hwd
  (refine Th.wpAnyK_takeY (i := 0) (v := ?_) rfl (by decide +kernel) (by decide +kernel) (by decide +kernel) (by decide) (fun _ _ _ h => h) (Or.inl ⟨by rfl, ?_⟩) (.inr ⟨⟨wd, hbd⟩, rfl⟩) ?_; rotate_left; (intro w; go_simp); (try with_reducible rfl))
  (try simp only [List.getElem_toArray, List.getElem_cons_succ, List.getElem_cons_zero, Act.put, List.setIfInBounds_toArray, List.set_cons_succ, List.set_cons_zero])
  (refine Th.wpAnyK_takeY (i := 1) (v := ?_) rfl (by decide +kernel) (by decide +kernel) (by decide +kernel) (by decide) (fun _ _ _ h => h) (Or.inl ⟨by rfl, ?_⟩) (.inr ⟨⟨wd, hbd⟩, rfl⟩) ?_; rotate_left; (intro w; go_simp); (try with_reducible rfl))
  (try simp only [List.getElem_toArray, List.getElem_cons_succ, List.getElem_cons_zero, Act.put, List.setIfInBounds_toArray, List.set_cons_succ, List.set_cons_zero])
  (refine Th.wpAnyK_take (i := 2) (v := .pointer (some ⟨fb, 0, none⟩)) [8, 9, 10, 11] rfl (by decide +kernel) (by decide +kernel) (by decide +kernel) (by decide +kernel) (fun _ _ _ h => h) (Th.yields_loadK rfl 49 (.tmp 20) rfl rfl (by rintro _ ⟨y, rfl⟩; exact HLF.out y)) ⟨⟨wd, hbd⟩, rfl⟩ ?_)
  (try simp only [List.getElem_toArray, List.getElem_cons_succ, List.getElem_cons_zero, Act.put, List.setIfInBounds_toArray, List.set_cons_succ, List.set_cons_zero])
  (refine Th.wpAnyK_takeY (i := 3) (v := ?_) rfl (by decide +kernel) (by decide +kernel) (by decide +kernel) (by decide) (fun _ _ _ h => h) (Or.inl ⟨by rfl, ?_⟩) (.inr ⟨⟨wd, hbd⟩, rfl⟩) ?_; rotate_left; (intro w; go_simp); (try with_reducible rfl))
  (try simp only [List.getElem_toArray, List.getElem_cons_succ, List.getElem_cons_zero, Act.put, List.setIfInBounds_toArray, List.set_cons_succ, List.set_cons_zero])
  (refine Th.wpAnyK_takeY (i := 4) (v := ?_) rfl (by decide +kernel) (by decide +kernel) (by decide +kernel) (by decide) (fun _ _ _ h => h) (Or.inl ⟨by rfl, ?_⟩) (.inr ⟨⟨wd, hbd⟩, rfl⟩) ?_; rotate_left; (intro w; go_simp); (try with_reducible rfl))
  (try simp only [List.getElem_toArray, List.getElem_cons_succ, List.getElem_cons_zero, Act.put, List.setIfInBounds_toArray, List.set_cons_succ, List.set_cons_zero])
  (refine Th.wpAnyK_take (i := 5) (v := .pointer (some ⟨q, 0, none⟩)) [6, 7, 11] rfl (by decide +kernel) (by decide +kernel) (by decide +kernel) (by decide +kernel) (fun _ _ _ h => h) (Th.yields_loadK rfl 28 (.tmp 23) rfl rfl (by rintro _ ⟨y, rfl⟩; exact HLM.out y)) ⟨⟨wd, hbd⟩, rfl⟩ ?_)
  (try simp only [List.getElem_toArray, List.getElem_cons_succ, List.getElem_cons_zero, Act.put, List.setIfInBounds_toArray, List.set_cons_succ, List.set_cons_zero])
  (refine Th.wpAnyK_takeY (i := 8) (v := ?_) rfl (by decide +kernel) (by decide +kernel) (by decide +kernel) (by decide) (fun _ _ _ h => h) (Or.inl ⟨by rfl, ?_⟩) (.inr ⟨⟨wd, hbd⟩, rfl⟩) ?_; rotate_left; (intro w; go_simp); (try with_reducible rfl))
  (try simp only [List.getElem_toArray, List.getElem_cons_succ, List.getElem_cons_zero, Act.put, List.setIfInBounds_toArray, List.set_cons_succ, List.set_cons_zero])
  (refine Th.wpAnyK_takeY (i := 9) (v := ?_) rfl (by decide +kernel) (by decide +kernel) (by decide +kernel) (by decide) (fun _ _ _ h => h) (Or.inl ⟨by rfl, ?_⟩) (.inr ⟨⟨wd, hbd⟩, rfl⟩) ?_; rotate_left; (intro w; go_simp); (try with_reducible rfl))
  (try simp only [List.getElem_toArray, List.getElem_cons_succ, List.getElem_cons_zero, Act.put, List.setIfInBounds_toArray, List.set_cons_succ, List.set_cons_zero])
  (refine Th.wpAnyK_ready (rs := [6]) (by decide +kernel) (by simp) ?_; refine (Th.AllReadyK.cons rfl (fun K hK => ?_) Th.AllReadyK.nil))
  refine step_of rfl ?_
  go_step
  refine (cMem (HU.out.below hdd)).mono ?_; rintro _ w6 ⟨rfl, hw6⟩
  rw [← hw6]
  refine hK _ _ (.inr ⟨⟨wd, hbd⟩, rfl⟩) ?_
  clear hK K hw6
  (try simp only [List.getElem_toArray, List.getElem_cons_succ, List.getElem_cons_zero, Act.put, List.setIfInBounds_toArray, List.set_cons_succ, List.set_cons_zero])
  (refine Th.wpAnyK_ready (rs := [7]) (by decide +kernel) (by simp) ?_; refine (Th.AllReadyK.cons rfl (fun K hK => ?_) Th.AllReadyK.nil))
  refine step_of rfl ?_
  go_step
  have hbb := HH.out.bd
  refine (Mm.mload _ _ _ _ _ _ 2 _ _ (HU.out.below hdd).mem a0 (by omega)).mono ?_; rintro _ w3 ⟨rfl, hm3, ho⟩
  rw [okA2 _ (by omega)] at hm3
  have hli : Mm.ldI (3 + 8 * t + 7 * s) f 2 = f 2 := by unfold Mm.ldI; rw [okA2 _ (by omega)]; rfl
  rw [hli]
  have hkw : Th.KS (fun j => j = mb ∨ j = mg ∨ j = mg) U w3 := hbd.trans ⟨ho.os, ho.tape, ho.output, ho.size, fun j hj hx => ho.block j hj (fun e => hx (.inl e)) (fun e => hx (.inr (.inl e)))⟩
  refine hK _ _ (.inr ⟨⟨w3, hkw⟩, rfl⟩) ?_
  clear hK K hli hbb
  (try simp only [List.getElem_toArray, List.getElem_cons_succ, List.getElem_cons_zero, Act.put, List.setIfInBounds_toArray, List.set_cons_succ, List.set_cons_zero])
  have HM3 := Lib.hid ((HU.out.below hdd).only ho (by simpa using hm3))
  have HF3 := Lib.hid (HFU.out.of (hkw.block fb (Th.blk_lt HFU.out) (by have := HNE.out; omega)))
  have HX3 := Lib.hid ((hkw.block X (Th.blk_lt HX.out) (by have := HNX.out; omega)).trans HX.out)
  have HK3 := Lib.hid hkw
  clear ho hm3 hkw
  have r2 : w3.cell? ⟨fb, 2, none⟩ = some (.int .u64 (F.r 0)) := by rw [HF3.out.get (i := 2) (by omega)]; rfl
  have rf : ∀ i, w3.frozen? ⟨fb, i, none⟩ = false := fun i => HF3.out.fr i
  (refine Th.wpAnyK_takeY (i := 10) (v := ?_) rfl (by decide +kernel) (by decide +kernel) (by decide +kernel) (by decide) (fun _ _ _ h => h) (Or.inl ⟨by rfl, ?_⟩) (.inr ⟨⟨w3, HK3.out⟩, rfl⟩) ?_; rotate_left; (intro w; go_simp); (try with_reducible rfl))
  (try simp only [List.getElem_toArray, List.getElem_cons_succ, List.getElem_cons_zero, Act.put, List.setIfInBounds_toArray, List.set_cons_succ, List.set_cons_zero])
  (refine Th.wpAnyK_ready (rs := [11]) (by decide +kernel) (by simp) ?_; refine (Th.AllReadyK.cons rfl (fun K hK => ?_) Th.AllReadyK.nil))
  refine step_of rfl ?_
  go_step
  refine hK _ _ (.inl rfl) ?_
  clear hK K
  refine Th.wpAnyK_done (by decide +kernel) ?_ _
  clear r2 rf
  generalize hW : World.setCell _ _ _ = W
  have hbW : Th.Blk 48 W fb 26 (Th.upF (Th.frF F) (2 + 0) (.int .u64 (f 2))) := by rw [← hW]; exact HF3.out.set 2 _
  have hbW := hbW.congr (Th.frF_r F 0 (f 2))
  have hkW : Th.KS (fun j => j = fb) w3 W := by rw [← hW]; exact Th.KS.set w3 fb 2 _
  have HFW := Lib.hid hbW; have HKW := Lib.hid hkW
  clear hW hbW hkW
  have x2 : W.cell? ⟨X, 2, none⟩ = some (.pointer (some ⟨fb, 0, none⟩)) := Th.newcell ((HKW.out.block X (Th.blk_lt HX3.out) HNX.out.2.2.1).trans HX3.out) 2 _ rfl
  have f1 : W.cell? ⟨fb, 1, none⟩ = some (.int .i64 0) := by rw [HFW.out.get (i := 1) (by omega)]; unfold Th.frF; rw [if_neg (by decide), if_pos rfl, hpc]
  have rf : ∀ i, W.frozen? ⟨fb, i, none⟩ = false := fun i => HFW.out.fr i
  go_upto_region 6 with fail
  clear x2 f1 rf
  generalize hW2 : World.setCell _ _ _ = V
  have hbV : Th.Blk 48 V fb 26 (Th.upF (Th.frF ⟨F.fn, F.pc, fun i => if i = 0 then f 2 else F.r i⟩) 1 (.int .i64 1)) := by rw [← hW2]; exact HFW.out.set 1 _
  have hbV := hbV.congr (Th.frF_pc _ 1)
  have hkV : Th.KS (fun j => j = fb) w3 V := by rw [← hW2]; exact HKW.out.trans (Th.KS.set W fb 1 _)
  have HFV := Lib.hid hbV; have HKV := Lib.hid hkV
  clear hW2 hbV hkV HFW HKW
  have x2 : V.cell? ⟨X, 2, none⟩ = some (.pointer (some ⟨fb, 0, none⟩)) := Th.newcell ((HKV.out.block X (Th.blk_lt HX3.out) HNX.out.2.2.1).trans HX3.out) 2 _ rfl
  have f2 : V.cell? ⟨fb, 2, none⟩ = some (.int .u64 (f 2)) := by rw [HFV.out.get (i := 2) (by omega)]; rfl
  have x1 : V.cell? ⟨X, 1, none⟩ = some (.pointer (some ⟨tq k, 0, none⟩)) := Th.newcell ((HKV.out.block X (Th.blk_lt HX3.out) HNX.out.2.2.1).trans HX3.out) 1 _ rfl
  go_wp2_with fail
  refine (bslot_calls _ _ hrg.1 hrg.2).mono ?_; rintro _ _ ⟨rfl, rfl⟩
  rw [hz]
  go_wp2_with fail
  generalize hY : World.alloc _ _ = V2
  obtain ⟨hy, hby⟩ := Th.heapnewE hY
  obtain ⟨sb, hsb⟩ : ∃ sb, sb = V.heap.size := ⟨_, rfl⟩
  rw [← hsb] at hy ⊢
  have hTF := ((HT.out.below HBU.out).hi HK3.out.size fun j hj hjq => HK3.out.block j hj (by have := HH.out.qlt; omega)).frm hk (by omega : m < (Ts k).nf) (f := ⟨F.fn, 1, fun i => if i = 0 then f 2 else F.r i⟩) (by rw [← HFE.out.1]; exact HKV.out) (by rw [← HFE.out.1]; exact HFV.out)
  have hTF := hTF.below hby
  have hth := hTF.th k hk
  rw [if_pos rfl] at hth
  have HTF := Lib.hid hTF; have HTH := Lib.hid hth
  have HMY := Lib.hid ((HM3.out.ksT HF3.out HNE.out.2.2 (by decide) HKV.out).below hby)
  have hur : Th.UR V2 (.slice (some ⟨sb, 0, none⟩) 1 1) 1 (fun _ => (0 : Int)) := .row sb 0 1 1 _ (by omega) (by decide) fun i hi => by
    rw [show 0 + i = 0 by omega]; exact Th.newcell hy 0 _ rfl
  have HKY := Lib.hid (((Th.KS.of_below HBU.out : Th.KS (fun j => j = mb ∨ j = mg ∨ j = fb) w U).trans ((HK3.out.mono fun j e => by rcases e with e | e | e; exact .inl e; exact .inr (.inl e); exact .inr (.inl e)).trans (HKV.out.mono fun j e => .inr (.inr e)))).trans (Th.KS.of_below hby))
  clear hY hy hby hsb hTF hth x1 x2 f2
  refine (Th.fback HTH.out.a hur (by show (Ts k).nf ≤ 1000000; omega)).mono ?_; rintro _ w5 ⟨rfl, ⟨fv', ha, ho5⟩, kq⟩
  have HM5 := Lib.hid (HMY.out.kqF HTF.out hk kq)
  have HT5 := Lib.hid (HTF.out.one hk (p' := ps k) ⟨ha, HTH.out.r, HTH.out.s⟩ kq (fun j hj => .inl (ho5 j hj)) fun a ha => .inl ⟨by rw [if_pos rfl]; exact Nat.lt_of_lt_of_le ha (Nat.sub_le _ _), rfl⟩)
  have HO5 := Lib.hid ho5
  have HK5 := Lib.hid ((HKY.out.mono fun j e => by rcases e with e | e | e; exact .inl e; exact .inr (.inl e); exact .inr (.inr (.inl e)) : Th.KS (fun j => j = mb ∨ j = mg ∨ j = fb ∨ j = tq k ∨ (fvs k).ownBlock = some j) w V2).trans ⟨kq.os, kq.tape, kq.output, kq.size, fun j hj hx => kq.block j hj (fun e => hx (.inr (.inr (.inr (.inl e))))) (fun e => hx (.inr (.inr (.inr (.inr e))))) (fun e => by cases e)⟩)
  clear ha ho5 kq hur
  go_wp2_with fail
  refine bodyPost_end (v := .tuple #[]) (by simp [results, Try.results87, go_sem]) rfl ?_
  rw [HQ.out]
  refine ⟨rfl, HM5.out, ⟨fv', ?_, HO5.out⟩, ?_⟩
  · have h5 := HT5.out
    have e1 : (fun i => if i = k then ps k else ps i) = ps := funext fun i => by
      by_cases e : i = k
      · rw [if_pos e, e]
      · rw [if_neg e]
    rw [e1] at h5
    rw [← HFE.out.2]
    refine cast ?_ h5
    congr 1
    funext i
    by_cases e : i = k
    · rw [if_pos e, if_pos e]
    · rw [if_neg e, if_neg e, if_neg e]
  · rw [← HFE.out.1]; exact HK5.out
end Go.Proofs.Ytaaciolfgplnoaa

/- Layer 17: Take's last step. -/
namespace Go.Proofs.Ytaaciolfgplnoaa
open Go.RowKit WordM EdgeM
set_option linter.unusedVariables false
set_option linter.unusedSimpArgs false
set_option maxRecDepth 8000 in
set_option maxHeartbeats 2000000 in
theorem take3 {w : World} {B q pl mb mg C gq gg gm : Nat} {fv : Value} {tq : Nat → Nat} {t s : Nat} {K : Int} {f : Nat → Int} {acc : Int} {flt : Bool} {H : Nat → Bool} {G : Nat → Int} {sl steps : Int} {odd : Bool} (h : MC w B q pl mb mg C gq gg gm fv tq t s K f acc flt H G sl steps odd) {Ts : Nat → Th.Td} {ps : Nat → Nat → Nat} {fvs : Nat → Value} (tf : TF w q t tq Ts ps fvs) {k m : Nat} (hk : k < t) (hm : (Ts k).nf = m + 1) (hpc : ((Ts k).fs m).pc = 3) (hr : 0 ≤ ((Ts k).fs m).r 0 ∧ ((Ts k).fs m).r 0 < 18446744073709551616) (hN : m ≤ 1000) (a0 : 0 ≤ acc) (a1 : acc < 1000000) :
    Calls Try.prog 87 #[.agg #[.pointer (some ⟨q, 0, none⟩), .pointer (some ⟨tq k, 0, none⟩), .pointer (some ⟨ps k m, 0, none⟩)]] w fun x w' => x = .returned (.tuple #[]) ∧ MC w' B q pl mb mg C gq gg gm fv tq t s K f (acc + 1) (flt || !Mm.okA (3 + 8 * t + 7 * s) (nodeI t s (((Ts k).fs m).r 0 % 4096) 1)) H G sl steps odd ∧ (∃ fv', TF w' q t tq (fun i => if i = k then Th.backT (Ts k) 1 (fun _ => (makeI (((Ts k).fs m).r 0 % 4096) (Mm.ldI (3 + 8 * t + 7 * s) f (nodeI t s (((Ts k).fs m).r 0 % 4096) 1)))) else Ts i) ps (fun i => if i = k then fv' else fvs i) ∧ ∀ j, fv'.ownBlock = some j → (fvs k).ownBlock = some j) ∧ Th.KS (fun j => j = mb ∨ j = mg ∨ j = tq k ∨ (fvs k).ownBlock = some j) w w' := by
  refine Calls.veil fun Q HQ => ?_
  have hmm : m < (Ts k).nf := by omega
  obtain ⟨fb, hfb⟩ : ∃ fb, fb = ps k m := ⟨_, rfl⟩
  have hbk := ((tf.th k hk).a.fb m hmm).1
  have hfl := (tf.th k hk).frm hmm
  rw [← hfb] at hbk hfl ⊢
  have HH := Lib.hid h; have HT := Lib.hid tf
  have HFB := Lib.hid hbk
  have hql := h.qlt
  have HNE := Lib.hid (show fb ≠ mb ∧ fb ≠ mg ∧ q < fb from by omega)
  have HRG := Lib.hid h.mem.rng
  obtain ⟨F, hF⟩ : ∃ F, F = (Ts k).fs m := ⟨_, rfl⟩
  rw [← hF] at HFB hpc hr
  have HFE := Lib.hid (And.intro hfb hF)
  clear h tf hbk hfl hfb hF
  go_enter Try.func87, Try.ntmps87
  go_upto_region 1 with fail
  generalize hV : World.alloc _ _ = U
  obtain ⟨u0, hbu⟩ := Th.heapnewE hV
  obtain ⟨X, hX⟩ : ∃ X, X = w.heap.size := ⟨_, rfl⟩
  rw [← hX] at u0 ⊢
  have HXW := Lib.hid hX
  have HU := Lib.hid (HH.out.below hbu); have HBU := Lib.hid hbu; have HX := Lib.hid u0; have HFU := Lib.hid (HFB.out.below hbu)
  have HNX := Lib.hid (show X ≠ mb ∧ X ≠ mg ∧ X ≠ fb ∧ X ≠ q from by have := Th.blk_lt HFB.out; have := HH.out.qlt; omega)
  clear hV u0 hbu hX
  have x2 : U.cell? ⟨X, 2, none⟩ = some (.pointer (some ⟨fb, 0, none⟩)) := Th.newcell HX.out 2 _ rfl
  have f1 : U.cell? ⟨fb, 1, none⟩ = some (.int .i64 3) := by rw [HFU.out.get (i := 1) (by omega)]; unfold Th.frF; rw [if_neg (by decide), if_pos rfl, hpc]
  have f2 : U.cell? ⟨fb, 2, none⟩ = some (.int .u64 (F.r 0)) := by rw [HFU.out.get (i := 2) (by omega)]; rfl
  go_wp2_with fail
  refine (bslot_calls _ _ hr.1 hr.2).mono ?_; rintro _ _ ⟨rfl, rfl⟩
  go_upto_region 17 with fail
  clear x2 f1 f2
  have HLF := Lib.hid (show ∀ y : KX U mb mg mg, (Instr.loadAt 36 (.pointer (some ⟨X, 1, none⟩))).run Try.prog y.w = .ok (.pointer (some ⟨tq k, 0, none⟩)) y.w from fun y => by have hc := KX.cells (Th.newcell HX.out 1 _ rfl) HNX.out.1 HNX.out.2.1 HNX.out.2.1 y; go_simp)
  have HLM := Lib.hid (show ∀ y : KX U mb mg mg, (Instr.loadAt 137 (.pointer (some ⟨X, 0, none⟩))).run Try.prog y.w = .ok (.agg #[.pointer (some ⟨q, 0, none⟩), .pointer (some ⟨tq k, 0, none⟩), .pointer (some ⟨fb, 0, none⟩)]) y.w from fun y => by
    have hc0 := KX.cells (Th.newcell HX.out 0 _ rfl) HNX.out.1 HNX.out.2.1 HNX.out.2.1 y; have hc1 := KX.cells (Th.newcell HX.out 1 _ rfl) HNX.out.1 HNX.out.2.1 HNX.out.2.1 y; have hc2 := KX.cells (Th.newcell HX.out 2 _ rfl) HNX.out.1 HNX.out.2.1 HNX.out.2.1 y
    go_simp)
  refine Th.wp_region_K (fun w' => ∃ y : KX U mb mg mg, w' = y.w) 10 (by decide +kernel) ?_
  generalize hwd : World.drew U = wd
  have hdd : Below U.heap.size U wd := by rw [← hwd]; exact (Below.refl _ _).drew
  have hbd : Th.KS (fun j => j = mb ∨ j = mg ∨ j = mg) U wd := .of_below hdd
  clear hwd
  (refine Th.wpAnyK_takeY (i := 0) (v := ?_) rfl (by decide +kernel) (by decide +kernel) (by decide +kernel) (by decide) (fun _ _ _ h => h) (Or.inl ⟨by rfl, ?_⟩) (.inr ⟨⟨wd, hbd⟩, rfl⟩) ?_; rotate_left; (intro w; go_simp); (try with_reducible rfl))
  (try simp only [List.getElem_toArray, List.getElem_cons_succ, List.getElem_cons_zero, Act.put, List.setIfInBounds_toArray, List.set_cons_succ, List.set_cons_zero])
  (refine Th.wpAnyK_takeY (i := 1) (v := ?_) rfl (by decide +kernel) (by decide +kernel) (by decide +kernel) (by decide) (fun _ _ _ h => h) (Or.inl ⟨by rfl, ?_⟩) (.inr ⟨⟨wd, hbd⟩, rfl⟩) ?_; rotate_left; (intro w; go_simp); (try with_reducible rfl))
  (try simp only [List.getElem_toArray, List.getElem_cons_succ, List.getElem_cons_zero, Act.put, List.setIfInBounds_toArray, List.set_cons_succ, List.set_cons_zero])
  (refine Th.wpAnyK_take (i := 2) (v := .pointer (some ⟨tq k, 0, none⟩)) [10] rfl (by decide +kernel) (by decide +kernel) (by decide +kernel) (by decide +kernel) (fun _ _ _ h => h) (Th.yields_loadK rfl 36 (.tmp 106) rfl rfl (by rintro _ ⟨y, rfl⟩; exact HLF.out y)) ⟨⟨wd, hbd⟩, rfl⟩ ?_)
  (try simp only [List.getElem_toArray, List.getElem_cons_succ, List.getElem_cons_zero, Act.put, List.setIfInBounds_toArray, List.set_cons_succ, List.set_cons_zero])
  (refine Th.wpAnyK_takeY (i := 3) (v := ?_) rfl (by decide +kernel) (by decide +kernel) (by decide +kernel) (by decide) (fun _ _ _ h => h) (Or.inl ⟨by rfl, ?_⟩) (.inr ⟨⟨wd, hbd⟩, rfl⟩) ?_; rotate_left; (intro w; go_simp); (try with_reducible rfl))
  (try simp only [List.getElem_toArray, List.getElem_cons_succ, List.getElem_cons_zero, Act.put, List.setIfInBounds_toArray, List.set_cons_succ, List.set_cons_zero])
  (refine Th.wpAnyK_takeY (i := 4) (v := ?_) rfl (by decide +kernel) (by decide +kernel) (by decide +kernel) (by decide) (fun _ _ _ h => h) (Or.inl ⟨by rfl, ?_⟩) (.inr ⟨⟨wd, hbd⟩, rfl⟩) ?_; rotate_left; (intro w; go_simp); (try with_reducible rfl))
  (try simp only [List.getElem_toArray, List.getElem_cons_succ, List.getElem_cons_zero, Act.put, List.setIfInBounds_toArray, List.set_cons_succ, List.set_cons_zero])
  (refine Th.wpAnyK_take (i := 5) (v := .agg #[.pointer (some ⟨q, 0, none⟩), .pointer (some ⟨tq k, 0, none⟩), .pointer (some ⟨fb, 0, none⟩)]) [7, 8, 9, 10] rfl (by decide +kernel) (by decide +kernel) (by decide +kernel) (by decide +kernel) (fun _ _ _ h => h) (Th.yields_loadK rfl 137 (.tmp 109) rfl rfl (by rintro _ ⟨y, rfl⟩; exact HLM.out y)) ⟨⟨wd, hbd⟩, rfl⟩ ?_)
  (try simp only [List.getElem_toArray, List.getElem_cons_succ, List.getElem_cons_zero, Act.put, List.setIfInBounds_toArray, List.set_cons_succ, List.set_cons_zero])
  (refine Th.wpAnyK_takeY (i := 6) (v := ?_) rfl (by decide +kernel) (by decide +kernel) (by decide +kernel) (by decide) (fun _ _ _ h => h) (Or.inl ⟨by rfl, ?_⟩) (.inr ⟨⟨wd, hbd⟩, rfl⟩) ?_; rotate_left; (intro w; go_simp); (try with_reducible rfl))
  (try simp only [List.getElem_toArray, List.getElem_cons_succ, List.getElem_cons_zero, Act.put, List.setIfInBounds_toArray, List.set_cons_succ, List.set_cons_zero])
  (refine Th.wpAnyK_ready (rs := [7]) (by decide +kernel) (by simp) ?_; refine (Th.AllReadyK.cons rfl (fun K hK => ?_) Th.AllReadyK.nil))
  refine step_of rfl ?_
  go_step
  refine (rload (HU.out.below hdd) (F.r 0 % 4096) 1 (tq k) fb a0 a1).mono ?_; rintro _ w3 ⟨rfl, hm3, ho⟩
  have hkw : Th.KS (fun j => j = mb ∨ j = mg ∨ j = mg) U w3 := hbd.trans ⟨ho.os, ho.tape, ho.output, ho.size, fun j hj hx => ho.block j hj (fun e => hx (.inl e)) (fun e => hx (.inr (.inl e)))⟩
  refine hK _ _ (.inr ⟨⟨w3, hkw⟩, rfl⟩) ?_
  clear hK K
  (try simp only [List.getElem_toArray, List.getElem_cons_succ, List.getElem_cons_zero, Act.put, List.setIfInBounds_toArray, List.set_cons_succ, List.set_cons_zero])
  have HM3 := Lib.hid hm3; have HK3 := Lib.hid hkw
  clear ho hm3 hkw
  have hbb := HH.out.bd
  have hld : 0 ≤ (Mm.ldI (3 + 8 * t + 7 * s) f (nodeI t s (F.r 0 % 4096) 1)) := by
    unfold Mm.ldI
    split
    · rename_i hoo
      exact (HRG.out _ (by unfold Mm.okA at hoo; simp at hoo; omega)).1
    · omega
  (refine Th.wpAnyK_ready (rs := [8]) (by decide +kernel) (by simp) ?_; refine (Th.AllReadyK.cons rfl (fun K hK => ?_) Th.AllReadyK.nil))
  refine step_of rfl ?_
  go_step
  refine (emake_calls _ _ _ hld).mono ?_; rintro _ w6 ⟨rfl, hw6⟩
  rw [← hw6]
  refine hK _ _ (.inr ⟨⟨w3, HK3.out⟩, rfl⟩) ?_
  clear hK K hw6
  (try simp only [List.getElem_toArray, List.getElem_cons_succ, List.getElem_cons_zero, Act.put, List.setIfInBounds_toArray, List.set_cons_succ, List.set_cons_zero])
  (refine Th.wpAnyK_ready (rs := [9]) (by decide +kernel) (by simp) ?_; refine (Th.AllReadyK.cons rfl (fun K hK => ?_) Th.AllReadyK.nil))
  refine step_of rfl ?_
  go_step
  generalize hY : World.alloc _ _ = V2
  obtain ⟨hy, hby⟩ := Th.heapnewE hY
  obtain ⟨sb, hsb⟩ : ∃ sb, sb = w3.heap.size := ⟨_, rfl⟩
  rw [← hsb] at hy
  have hkv : Th.KS (fun j => j = mb ∨ j = mg ∨ j = mg) U V2 := HK3.out.trans (Th.KS.of_below hby)
  refine hK _ _ (.inr ⟨⟨V2, hkv⟩, rfl⟩) ?_
  clear hK K hY
  (try simp only [List.getElem_toArray, List.getElem_cons_succ, List.getElem_cons_zero, Act.put, List.setIfInBounds_toArray, List.set_cons_succ, List.set_cons_zero])
  (refine Th.wpAnyK_ready (rs := [10]) (by decide +kernel) (by simp) ?_; refine (Th.AllReadyK.cons rfl (fun K hK => ?_) Th.AllReadyK.nil))
  refine step_of rfl ?_
  go_step
  rw [← hsb]
  have hTF := ((HT.out.below HBU.out).hi hkv.size fun j hj hjq => hkv.block j hj (by have := HH.out.qlt; omega))
  have HTF := Lib.hid hTF; have HTH := Lib.hid (hTF.th k hk)
  have HMY := Lib.hid (HM3.out.below hby)
  have hur : Th.UR V2 (.slice (some ⟨sb, 0, none⟩) 1 1) 1 (fun _ => (makeI (F.r 0 % 4096) (Mm.ldI (3 + 8 * t + 7 * s) f (nodeI t s (F.r 0 % 4096) 1)))) := .row sb 0 1 1 _ (by omega) (by decide) fun i hi => by
    rw [show 0 + i = 0 by omega]; exact Th.newcell hy 0 _ rfl
  have HKY := Lib.hid ((Th.KS.of_below HBU.out : Th.KS (fun j => j = mb ∨ j = mg ∨ j = tq k ∨ (fvs k).ownBlock = some j) w U).trans (hkv.mono fun j e => by rcases e with e | e | e; exact .inl e; exact .inr (.inl e); exact .inr (.inl e)))
  clear hy hby hsb hTF hkv
  refine (Th.fback HTH.out.a hur (by omega)).mono ?_; rintro _ w5 ⟨rfl, ⟨fv', ha, ho5⟩, kq⟩
  have HM5 := Lib.hid (HMY.out.kqF HTF.out hk kq)
  have HT5 := Lib.hid (HTF.out.one hk (p' := ps k) ⟨ha, HTH.out.r, HTH.out.s⟩ kq (fun j hj => .inl (ho5 j hj)) fun a ha => .inl ⟨Nat.lt_of_lt_of_le ha (Nat.sub_le _ _), rfl⟩)
  have HO5 := Lib.hid ho5
  have HK5 := Lib.hid (HKY.out.trans ⟨kq.os, kq.tape, kq.output, kq.size, fun j hj hx => kq.block j hj (fun e => hx (.inr (.inr (.inl e)))) (fun e => hx (.inr (.inr (.inr e)))) (fun e => by cases e)⟩)
  clear ha ho5 kq hur
  refine hK _ _ (.inl rfl) ?_
  clear hK K
  refine Th.wpAnyK_done (by decide +kernel) ?_ _
  go_wp2_with fail
  refine bodyPost_end (v := .tuple #[]) (by simp [results, Try.results87, go_sem]) rfl ?_
  rw [HQ.out]
  refine ⟨rfl, by rw [← HFE.out.2]; exact HM5.out, ⟨fv', ?_, HO5.out⟩, HK5.out⟩
  have h5 := HT5.out
  have e1 : (fun i => if i = k then ps k else ps i) = ps := funext fun i => by
    by_cases e : i = k
    · rw [if_pos e, e]
    · rw [if_neg e]
  rw [e1] at h5
  rw [← HFE.out.2]
  exact h5
end Go.Proofs.Ytaaciolfgplnoaa
