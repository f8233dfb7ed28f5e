/- RwZ: several texts in one. -/
import Derived.Test.YtlahpnigabfenaaStpB
import Derived.Test.YtlahpnigabfenaaFrmH
/- Layer 17 and on: threads of a machine, each by all that it keeps. -/
namespace Go.Proofs.Ytlahpnigabfenaa.Th
open Go.RowKit
set_option linter.unusedVariables false
set_option linter.unusedSimpArgs false
set_option maxRecDepth 8000 in
set_option maxHeartbeats 1000000 in
theorem fcallX {w : World} {B q : Nat} {T : Td} {p : Nat → Nat} {fv rv sv v : Value} (h : ThA w B q T p fv rv sv) (fn : Int) {n : Nat} {L : Nat → Int} (hu : UR w v n L) (hB : B ≤ w.heap.size) (hf : T.nf ≤ 1000000) :
    Calls Try.prog 20 #[.pointer (some ⟨q, 0, none⟩), .int .i64 fn, v] w fun e w' => e = .returned (.tuple #[]) ∧ (∃ b fv', w.heap.size ≤ b ∧ ThA w' B q (callT T fn n L) (fun i => if i = T.nf then b else p i) fv' rv sv ∧ (∀ j, fv'.ownBlock = some j → fv.ownBlock = some j ∨ w.heap.size ≤ j)) ∧ KQ w w' q fv sv := by
  refine Calls.veil fun Q HQ => ?_
  have HH := Lib.hid h; have HU := Lib.hid hu
  obtain ⟨a, c, rfl, _, _⟩ := hu.slice
  clear h hu
  go_enter Try.func20, Try.ntmps20
  go_upto_region 2 with fail
  generalize hV : World.alloc _ _ = V
  obtain ⟨hh, hbv⟩ := heapnewE hV
  have hs : V.heap.size = w.heap.size + 1 := by rw [← hV]; simp
  have hb : Blk 69 V w.heap.size 26 (frF ⟨fn, 0, fun _ => 0⟩) := hh
  have HV := Lib.hid (HH.out.below hbv)
  obtain ⟨b, hbe⟩ : ∃ b, b = w.heap.size := ⟨_, rfl⟩
  have HBE := Lib.hid hbe
  rw [← hbe] at hb hs ⊢
  have HB := Lib.hid hb
  have HBV := Lib.hid hbv
  have HS := Lib.hid hs
  obtain ⟨k, hcp⟩ := run_copyU (HU.out.below hbv) b 2 24 24 (hb.there 2 24 (by omega))
  clear hV hh hbe hb hbv hs
  go_upto_region 3 with fail
  generalize hW : World.setCells _ _ _ _ = W
  have hbw : Blk 69 W b 26 (frF ⟨fn, 0, fun i => if i < n then L i else 0⟩) := by rw [← hW]; exact (Blk.setCells _ 2 V _ HB.out).congr fun j hj => frF_copied fn n L j hj
  have hkw : Below w.heap.size w W := by
    rw [← hW]
    have k := KS.setCells V b 2 (ucells (min n 24) L)
    exact ⟨k.os.trans HBV.out.os, k.tape.trans HBV.out.tape, k.output.trans HBV.out.output, Nat.le_trans HBV.out.size k.size, fun j hj => (k.block j (by have := HBV.out.size; omega) (by have := HBE.out; omega)).trans (HBV.out.block j hj)⟩
  have hT := HH.out.below hkw
  have HBW := Lib.hid hbw
  have HKW := Lib.hid hkw
  have HT := Lib.hid hT
  obtain ⟨pa, pc, W2, hrun, ho, hg, hloc⟩ := push1 uFrs infoFr (by rfl) hT.fo (.pointer (some ⟨b, 0, none⟩)) rfl hf (Nat.le_trans hB hkw.size)
  have cf := HT.out.cf
  have cfn := fun o => Ext.on cf o
  have hfin := hT.pushF hbw (by have := HBE.out; omega) (fun i hi => by have := blk_lt (HH.out.fb i hi).1; have := HBE.out; omega) ho hg
  have cq2 : W2.cell? ⟨q, 24, none⟩ = some fv := (World.cell?_of_block (a := ⟨q, 24, none⟩) (hg.block q hT.lt fun e => hT.nfq.1 e.symm)).trans cf
  have cq3 : ∀ i, W2.frozen? ⟨q, i, none⟩ = false := ((HT.out.blk.of (hg.block q hT.lt fun e => hT.nfq.1 e.symm)) : Blk 50 W2 q 27 _).fr
  have HFIN := Lib.hid hfin
  have HLOC := Lib.hid hloc
  obtain ⟨fa, fc, hfe, _, _⟩ := hT.fo.slice
  have HFE := Lib.hid hfe
  rw [hfe] at cf cfn hrun cq2
  clear hW hbw hkw hT ho hg hfin hloc hcp hfe
  go_wp2_with (at_builtin; refine wpList_append_run rfl (.tmp 22) (.tmp 24) 47 rfl rfl rfl rfl hrun ?_)
  refine bodyPost_end (v := .tuple #[]) (by simp [results, Try.results20, go_sem]) rfl ?_
  rw [HQ.out]
  refine ⟨rfl, ⟨b, _, by have := HBE.out; omega, HFIN.out.1, fun j hj => ?_⟩, ?_⟩
  · rcases HLOC.out with e | ⟨b', e, hb'⟩
    · exact .inl (by rw [← e]; exact hj)
    · rw [e] at hj; cases hj; exact .inr (by have := HKW.out.size; omega)
  · exact (KQ.of_below HKW.out).trans HFIN.out.2 (fun j e => .inl e) (fun j e => .inl e)
end Go.Proofs.Ytlahpnigabfenaa.Th
namespace Go.Proofs.Ytlahpnigabfenaa
open Go.RowKit WordM EdgeM
set_option linter.unusedVariables false
set_option linter.unusedSimpArgs false
/-- A thread whose row and stack are empty. -/
structure TX (w : World) (B b : Nat) (T : Th.Td) (p : Nat → Nat) (fv : Value) : Prop where
  a : Th.ThA w B b T p fv (.slice none 0 0) (.slice none 0 0)
  r : T.row = []
  s : T.ns = 0
theorem TX.blk {w : World} {B b : Nat} {T : Th.Td} {p : Nat → Nat} {fv : Value} (h : TX w B b T p fv) : B ≤ b ∧ ∃ cur, w.heap[b]? = some (.cells cur 50 (0, 0)) := ⟨h.a.hq, _, h.a.blk⟩
theorem TX.own {w : World} {B b : Nat} {T : Th.Td} {p : Nat → Nat} {fv : Value} (h : TX w B b T p fv) {j : Nat} (hj : fv.ownBlock = some j) : B ≤ j ∧ j < w.heap.size ∧ ∃ cur, w.heap[j]? = some (.cells cur 65 (0, 0)) := h.a.fo.blk hj
theorem TX.frm {w : World} {B b : Nat} {T : Th.Td} {p : Nat → Nat} {fv : Value} (h : TX w B b T p fv) {i : Nat} (hi : i < T.nf) : B ≤ p i ∧ p i < w.heap.size ∧ ∃ cur, w.heap[p i]? = some (.cells cur 69 (0, 0)) := ⟨(h.a.fb i hi).2, Th.blk_lt (h.a.fb i hi).1, _, (h.a.fb i hi).1⟩
theorem TX.keep {w w' : World} {B b : Nat} {T : Th.Td} {p : Nat → Nat} {fv : Value} (h : TX w B b T p fv) (hs : w.heap.size ≤ w'.heap.size) (k : ∀ j, j < w.heap.size → B ≤ j → (j = b ∨ fv.ownBlock = some j ∨ ∃ i, i < T.nf ∧ j = p i) → w'.heap[j]? = w.heap[j]?) : TX w' B b T p fv := by
  have h1 := h.a
  refine ⟨⟨h1.hq, h1.blk.of (k b h1.lt h1.hq (.inl rfl)), h1.fo.of fun j hj => k j (h1.fo.blk hj).2.1 (h1.fo.blk hj).1 (.inr (.inl hj)), fun x hx => ⟨(h1.fb x hx).1.of (k (p x) (Th.blk_lt (h1.fb x hx).1) (h1.fb x hx).2 (.inr (.inr ⟨x, hx, rfl⟩))), (h1.fb x hx).2⟩, h1.inj, ?_, ?_, h1.s1⟩, h.r, h.s⟩
  · rw [h.r]; exact Th.PO.nil _
  · rw [h.s]; exact Th.OwnL.nil _ _
/-- The threads of a machine. -/
structure TF (w : World) (q t : Nat) (tq : Nat → Nat) (Ts : Nat → Th.Td) (ps : Nat → Nat → Nat) (fvs : Nat → Value) : Prop where
  th : ∀ i, i < t → TX w (q + 1) (tq i) (Ts i) (ps i) (fvs i)
  inj : ∀ i j, i < t → j < t → tq i = tq j → i = j
  sep : ∀ i j, i < t → j < t → i ≠ j → ∀ b, (fvs i).ownBlock = some b → (fvs j).ownBlock ≠ some b
  fsep : ∀ i j, i < t → j < t → i ≠ j → ∀ a b, a < (Ts i).nf → b < (Ts j).nf → ps i a ≠ ps j b
section
variable {w w' : World} {q t : Nat} {tq : Nat → Nat} {Ts : Nat → Th.Td} {ps : Nat → Nat → Nat} {fvs : Nat → Value}
theorem TF.hi (h : TF w q t tq Ts ps fvs) (hs : w.heap.size ≤ w'.heap.size) (k : ∀ j, j < w.heap.size → q < j → w'.heap[j]? = w.heap[j]?) : TF w' q t tq Ts ps fvs :=
  ⟨fun i hi => (h.th i hi).keep hs fun j hj hB _ => k j hj (by omega), h.inj, h.sep, h.fsep⟩
theorem TF.below (h : TF w q t tq Ts ps fvs) (k : Below w.heap.size w w') : TF w' q t tq Ts ps fvs := h.hi k.size fun j hj _ => k.block j hj
theorem TF.init {B pl mb mg C gq gg gm : Nat} {fv : Value} {s : Nat} {K : Int} {f : Nat → Int} {acc : Int} {flt : Bool} {H : Nat → Bool} {G : Nat → Int} {sl steps : Int} {odd : Bool} (h : MI w B q pl mb mg C gq gg gm fv tq t s K f acc flt H G sl steps odd) (hi : ∀ i j, i < t → j < t → tq i = tq j → i = j) : TF w q t tq (fun _ => Th.T0) (fun _ _ => 0) (fun _ => .slice none 0 0) :=
  ⟨fun i hi => ⟨(h.thr i hi).2.tha (h.thr i hi).1, rfl, rfl⟩, hi, fun _ _ _ _ _ b hb => (by cases hb), fun _ _ _ _ _ a b ha _ => absurd ha (Nat.not_lt_zero a)⟩
/-- One of them was called, or went back. -/
theorem TF.one (h : TF w q t tq Ts ps fvs) {k : Nat} {T' : Th.Td} {p' : Nat → Nat} {fv' : Value} (hk : k < t) (hn : TX w' (q + 1) (tq k) T' p' fv') (kq : Th.KQ w w' (tq k) (fvs k) (.slice none 0 0))
    (ho : ∀ j, fv'.ownBlock = some j → (fvs k).ownBlock = some j ∨ w.heap.size ≤ j) (hp : ∀ a, a < T'.nf → (a < (Ts k).nf ∧ p' a = ps k a) ∨ w.heap.size ≤ p' a) : TF w' q t tq (fun i => if i = k then T' else Ts i) (fun i => if i = k then p' else ps i) (fun i => if i = k then fv' else fvs i) := by
  obtain ⟨_, ck, hck⟩ := (h.th k hk).blk
  refine ⟨fun i hi => ?_, h.inj, fun i j hi hj hij b hb => ?_, fun i j hi hj hij a b ha hb => ?_⟩
  · by_cases e : i = k
    · subst e; rw [if_pos rfl, if_pos rfl, if_pos rfl]; exact hn
    · rw [if_neg e, if_neg e, if_neg e]
      refine (h.th i hi).keep kq.size fun j hj hB hc => ?_
      obtain ⟨_, ci, hci⟩ := (h.th i hi).blk
      rcases hc with rfl | hc | ⟨a, ha, rfl⟩
      · exact kq.block _ hj (fun e2 => e (h.inj i k hi hk e2)) (fun e2 => by
          obtain ⟨_, _, c2, h2⟩ := (h.th k hk).own e2
          exact ty_ne hci h2 (by decide) rfl) (fun e2 => by cases e2)
      · obtain ⟨_, _, c2, h2⟩ := (h.th i hi).own hc
        exact kq.block _ hj (ty_ne h2 hck (by decide)) (h.sep i k hi hk e j hc) (fun e2 => by cases e2)
      · obtain ⟨_, _, c2, hc⟩ := (h.th i hi).frm ha
        exact kq.block _ hj (ty_ne hc hck (by decide)) (fun e2 => by
          obtain ⟨_, _, c2, h2⟩ := (h.th k hk).own e2
          exact ty_ne hc h2 (by decide) rfl) (fun e2 => by cases e2)
  · (try dsimp only at hb ⊢)
    by_cases e1 : i = k
    · subst e1
      rw [if_pos rfl] at hb; rw [if_neg (Ne.symm hij)]
      intro e2
      rcases ho b hb with e3 | e3
      · exact h.sep i j hi hj hij b e3 e2
      · have := ((h.th j hj).own e2).2.1; omega
    · rw [if_neg e1] at hb
      by_cases e2 : j = k
      · subst e2
        rw [if_pos rfl]
        intro e3
        rcases ho b e3 with e4 | e4
        · exact h.sep i j hi hj hij b hb e4
        · have := ((h.th i hi).own hb).2.1; omega
      · rw [if_neg e2]; exact h.sep i j hi hj hij b hb
  · (try dsimp only at ha hb ⊢)
    by_cases e1 : i = k
    · subst e1
      rw [if_pos rfl] at ha ⊢
      rw [if_neg (Ne.symm hij)] at hb ⊢
      rcases hp a ha with ⟨h1, h2⟩ | h1
      · rw [h2]; exact h.fsep i j hi hj hij a b h1 hb
      · have := ((h.th j hj).frm hb).2.1; omega
    · rw [if_neg e1] at ha ⊢
      by_cases e2 : j = k
      · subst e2
        rw [if_pos rfl] at hb ⊢
        rcases hp b hb with ⟨h1, h2⟩ | h1
        · rw [h2]; exact h.fsep i j hi hj hij a b ha h1
        · have := ((h.th i hi).frm ha).2.1; omega
      · rw [if_neg e2] at hb ⊢; exact h.fsep i j hi hj hij a b ha hb
/-- A frame of one of them was written. -/
theorem TF.frm (h : TF w q t tq Ts ps fvs) {k m : Nat} (hk : k < t) (hm : m < (Ts k).nf) {f : Th.Fm} (ks : Th.KS (fun j => j = ps k m) w w') (hb : Th.Blk 69 w' (ps k m) 26 (Th.frF f)) : TF w' q t tq (fun i => if i = k then { Ts k with fs := Th.upM (Ts k).fs m f } else Ts i) ps fvs := by
  obtain ⟨_, _, cp, hcp⟩ := (h.th k hk).frm hm
  refine ⟨fun i hi => ?_, h.inj, h.sep, fun i j hi hj hij a b ha hb => ?_⟩
  · by_cases e : i = k
    · subst e; rw [if_pos rfl]
      exact ⟨((h.th i hi).a.frameSet hm ks hb).1, (h.th i hi).r, (h.th i hi).s⟩
    · rw [if_neg e]
      refine (h.th i hi).keep ks.size fun j hj hB hc => ks.block j hj fun e2 => ?_
      subst e2
      obtain ⟨_, ci, hci⟩ := (h.th i hi).blk
      rcases hc with hc | hc | ⟨a, ha, hc⟩
      · rw [← hc] at hci; exact ty_ne hci hcp (by decide) rfl
      · obtain ⟨_, _, c2, h2⟩ := (h.th i hi).own hc
        exact ty_ne h2 hcp (by decide) rfl
      · exact h.fsep k i hk hi (Ne.symm e) m a hm ha hc
  · (try dsimp only at ha hb)
    have e1 : ∀ i, (if i = k then { Ts k with fs := Th.upM (Ts k).fs m f } else Ts i).nf = (Ts i).nf := fun i => by
      by_cases e : i = k
      · rw [if_pos e, e]
      · rw [if_neg e]
    rw [e1] at ha hb
    exact h.fsep i j hi hj hij a b ha hb
end
end Go.Proofs.Ytlahpnigabfenaa

/- Layer 17: what a routine reads of a slot. -/
namespace Go.Proofs.Ytlahpnigabfenaa
open Go.RowKit WordM EdgeM
set_option linter.unusedVariables false
set_option linter.unusedSimpArgs false
section
variable {w : World} {B q pl mb mg C gq gg gm : Nat} {fv : Value} {tq : Nat → Nat} {t s : Nat} {K : Int} {f : Nat → Int} {acc : Int} {flt : Bool} {H : Nat → Bool} {G : Nat → Int} {sl steps : Int} {odd : Bool}
theorem MC.c0 (h : MC w B q pl mb mg C gq gg gm fv tq t s K f acc flt H G sl steps odd) : w.cell? ⟨q, 0, none⟩ = some (.pointer (some ⟨pl, 0, none⟩)) := Th.newcell h.blk 0 _ rfl
theorem MC.p0 (h : MC w B q pl mb mg C gq gg gm fv tq t s K f acc flt H G sl steps odd) : w.cell? ⟨pl, 0, none⟩ = some (.int .i64 t) := Th.newcell h.pln 0 _ rfl
theorem MC.p1 (h : MC w B q pl mb mg C gq gg gm fv tq t s K f acc flt H G sl steps odd) : w.cell? ⟨pl, 1, none⟩ = some (.int .i64 s) := Th.newcell h.pln 1 _ rfl
theorem cPlan (h : MC w B q pl mb mg C gq gg gm fv tq t s K f acc flt H G sl steps odd) : Calls Try.prog 40 #[.pointer (some ⟨q, 0, none⟩)] w fun e w' => e = .returned (.pointer (some ⟨pl, 0, none⟩)) ∧ w = w' := by
  have c := h.c0
  clear h
  go_enter Try.func40, Try.ntmps40
  go_wp2_with fail
  go_ret
  exact ⟨rfl, rfl⟩
theorem cGuard (h : MC w B q pl mb mg C gq gg gm fv tq t s K f acc flt H G sl steps odd) : Calls Try.prog 24 #[.pointer (some ⟨q, 0, none⟩)] w fun e w' => e = .returned (.pointer (some ⟨gq, 0, none⟩)) ∧ w = w' := by
  have c := h.c2
  clear h
  go_enter Try.func24, Try.ntmps24
  go_wp2_with fail
  go_ret
  exact ⟨rfl, rfl⟩
end
set_option maxRecDepth 8000 in
set_option maxHeartbeats 2000000 in
theorem rload {w : World} {B q pl mb mg C gq gg gm : Nat} {fv : Value} {tq : Nat → Nat} {t s : Nat} {K : Int} {f : Nat → Int} {acc : Int} {flt : Bool} {H : Nat → Bool} {G : Nat → Int} {sl steps : Int} {odd : Bool} (h : MC w B q pl mb mg C gq gg gm fv tq t s K f acc flt H G sl steps odd) (k fi : Int) (tb fb : Nat) (a0 : 0 ≤ acc) (a1 : acc < 1000000) :
    Calls Try.prog 64 #[.agg #[.pointer (some ⟨q, 0, none⟩), .pointer (some ⟨tb, 0, none⟩), .pointer (some ⟨fb, 0, none⟩)], .int .i64 k, .int .i64 fi] w fun x w' => x = .returned (.int .u64 (Mm.ldI (3 + 8 * t + 7 * s) f (nodeI t s k fi))) ∧ MC w' B q pl mb mg C gq gg gm fv tq t s K f (acc + 1) (flt || !Mm.okA (3 + 8 * t + 7 * s) (nodeI t s k fi)) H G sl steps odd ∧ Mm.Only mb mg w w' := by
  refine Calls.veil fun Q HQ => ?_
  have HH := Lib.hid h
  have hbb := h.bd
  clear h
  go_enter Try.func64, Try.ntmps64
  go_upto_region 1 with fail
  generalize hV : World.alloc _ _ = U
  obtain ⟨u0, hbu⟩ := Th.heapnewE hV
  obtain ⟨X, hX⟩ : ∃ X, X = w.heap.size := ⟨_, rfl⟩
  rw [← hX] at u0 ⊢
  have HU := Lib.hid (HH.out.below hbu); have HBU := Lib.hid hbu; have HX := Lib.hid u0
  clear hV u0 hbu hX
  have HLM := Lib.hid (show ∀ y : Ext U, (Instr.loadAt 28 (.pointer (some ⟨X, 0, none⟩))).run Try.prog y.w = .ok (.pointer (some ⟨q, 0, none⟩)) y.w from fun y => by have hc := Th.newcell (Th.up y.h HX.out) 0 _ rfl; go_simp)
  refine Th.wp_region_K (fun w' => ∃ y : Ext U, w' = y.w) 9 (by decide +kernel) ?_
  generalize hwd : World.drew U = wd
  have hbd : Below U.heap.size U wd := by rw [← hwd]; exact (Below.refl _ _).drew
  clear hwd
  (refine Th.wpAnyK_takeY (i := 0) (v := ?_) rfl (by decide +kernel) (by decide +kernel) (by decide +kernel) (by decide) (fun _ _ _ h => h) (Or.inl ⟨by rfl, ?_⟩) (.inr ⟨⟨wd, hbd⟩, rfl⟩) ?_; rotate_left; (intro w; go_simp); (try with_reducible rfl))
  (try simp only [List.getElem_toArray, List.getElem_cons_succ, List.getElem_cons_zero, Act.put, List.setIfInBounds_toArray, List.set_cons_succ, List.set_cons_zero])
  (refine Th.wpAnyK_take (i := 1) (v := .pointer (some ⟨q, 0, none⟩)) [2, 9] rfl (by decide +kernel) (by decide +kernel) (by decide +kernel) (by decide +kernel) (fun _ _ _ h => h) (Th.yields_loadK rfl 28 (.tmp 7) rfl rfl (by rintro _ ⟨y, rfl⟩; exact HLM.out y)) ⟨⟨wd, hbd⟩, rfl⟩ ?_)
  (try simp only [List.getElem_toArray, List.getElem_cons_succ, List.getElem_cons_zero, Act.put, List.setIfInBounds_toArray, List.set_cons_succ, List.set_cons_zero])
  (refine Th.wpAnyK_takeY (i := 3) (v := ?_) rfl (by decide +kernel) (by decide +kernel) (by decide +kernel) (by decide) (fun _ _ _ h => h) (Or.inl ⟨by rfl, ?_⟩) (.inr ⟨⟨wd, hbd⟩, rfl⟩) ?_; rotate_left; (intro w; go_simp); (try with_reducible rfl))
  (try simp only [List.getElem_toArray, List.getElem_cons_succ, List.getElem_cons_zero, Act.put, List.setIfInBounds_toArray, List.set_cons_succ, List.set_cons_zero])
  (refine Th.wpAnyK_take (i := 4) (v := .pointer (some ⟨q, 0, none⟩)) [5, 8, 9] rfl (by decide +kernel) (by decide +kernel) (by decide +kernel) (by decide +kernel) (fun _ _ _ h => h) (Th.yields_loadK rfl 28 (.tmp 10) rfl rfl (by rintro _ ⟨y, rfl⟩; exact HLM.out y)) ⟨⟨wd, hbd⟩, rfl⟩ ?_)
  (try simp only [List.getElem_toArray, List.getElem_cons_succ, List.getElem_cons_zero, Act.put, List.setIfInBounds_toArray, List.set_cons_succ, List.set_cons_zero])
  (refine Th.wpAnyK_takeY (i := 6) (v := ?_) rfl (by decide +kernel) (by decide +kernel) (by decide +kernel) (by decide) (fun _ _ _ h => h) (Or.inl ⟨by rfl, ?_⟩) (.inr ⟨⟨wd, hbd⟩, rfl⟩) ?_; rotate_left; (intro w; go_simp); (try with_reducible rfl))
  (try simp only [List.getElem_toArray, List.getElem_cons_succ, List.getElem_cons_zero, Act.put, List.setIfInBounds_toArray, List.set_cons_succ, List.set_cons_zero])
  (refine Th.wpAnyK_takeY (i := 7) (v := ?_) rfl (by decide +kernel) (by decide +kernel) (by decide +kernel) (by decide) (fun _ _ _ h => h) (Or.inl ⟨by rfl, ?_⟩) (.inr ⟨⟨wd, hbd⟩, rfl⟩) ?_; rotate_left; (intro w; go_simp); (try with_reducible rfl))
  (try simp only [List.getElem_toArray, List.getElem_cons_succ, List.getElem_cons_zero, Act.put, List.setIfInBounds_toArray, List.set_cons_succ, List.set_cons_zero])
  (refine Th.wpAnyK_ready (rs := [2]) (by decide +kernel) (by simp) ?_; refine (Th.AllReadyK.cons rfl (fun K hK => ?_) Th.AllReadyK.nil))
  refine step_of rfl ?_
  go_step
  refine (cMem (HU.out.below hbd)).mono ?_; rintro _ w6 ⟨rfl, hw6⟩
  rw [← hw6]
  refine hK _ _ (.inr ⟨⟨wd, hbd⟩, rfl⟩) ?_
  clear hK K hw6
  (try simp only [List.getElem_toArray, List.getElem_cons_succ, List.getElem_cons_zero, Act.put, List.setIfInBounds_toArray, List.set_cons_succ, List.set_cons_zero])
  (refine Th.wpAnyK_ready (rs := [5]) (by decide +kernel) (by simp) ?_; refine (Th.AllReadyK.cons rfl (fun K hK => ?_) Th.AllReadyK.nil))
  refine step_of rfl ?_
  go_step
  refine (cPlan (HU.out.below hbd)).mono ?_; rintro _ w6 ⟨rfl, hw6⟩
  rw [← hw6]
  refine hK _ _ (.inr ⟨⟨wd, hbd⟩, rfl⟩) ?_
  clear hK K hw6
  (try simp only [List.getElem_toArray, List.getElem_cons_succ, List.getElem_cons_zero, Act.put, List.setIfInBounds_toArray, List.set_cons_succ, List.set_cons_zero])
  (refine Th.wpAnyK_ready (rs := [8]) (by decide +kernel) (by simp) ?_; refine (Th.AllReadyK.cons rfl (fun K hK => ?_) Th.AllReadyK.nil))
  refine step_of rfl ?_
  go_step
  refine (pnode_calls t s pl k fi _ (HU.out.below hbd).p0 (HU.out.below hbd).p1 (by omega) (by omega) (by omega) (by omega)).mono ?_; rintro _ w2 ⟨rfl, hb2⟩
  have hb2 := below_on hbd hb2
  refine hK _ _ (.inr ⟨⟨w2, hb2⟩, rfl⟩) ?_
  clear hK K
  (try simp only [List.getElem_toArray, List.getElem_cons_succ, List.getElem_cons_zero, Act.put, List.setIfInBounds_toArray, List.set_cons_succ, List.set_cons_zero])
  (refine Th.wpAnyK_ready (rs := [9]) (by decide +kernel) (by simp) ?_; refine (Th.AllReadyK.cons rfl (fun K hK => ?_) Th.AllReadyK.nil))
  refine step_of rfl ?_
  go_step
  refine (Mm.mload _ _ _ _ _ _ (nodeI t s k fi) _ _ (HU.out.below hb2).mem a0 (by omega)).mono ?_; rintro _ w3 ⟨rfl, hm, ho⟩
  have HM := Lib.hid ((HU.out.below hb2).only ho hm); have HO := Lib.hid ((Mm.Only.of_below (below_on HBU.out hb2)).trans ho)
  refine hK _ _ (.inl rfl) ?_
  clear hK K hm ho
  (try simp only [List.getElem_toArray, List.getElem_cons_succ, List.getElem_cons_zero, Act.put, List.setIfInBounds_toArray, List.set_cons_succ, List.set_cons_zero])
  (refine Th.wpAnyK_takeY (i := 10) (v := ?_) rfl (by decide +kernel) (by decide +kernel) (by decide +kernel) (by decide) (fun _ _ _ h => h) (Or.inl ⟨by rfl, ?_⟩) (.inl rfl) ?_; rotate_left; (intro w; go_simp); (try with_reducible rfl))
  (try simp only [List.getElem_toArray, List.getElem_cons_succ, List.getElem_cons_zero, Act.put, List.setIfInBounds_toArray, List.set_cons_succ, List.set_cons_zero])
  refine Th.wpAnyK_done (by decide +kernel) ?_ _
  go_wp2_with fail
  (try go_ret2)
  rw [HQ.out]
  exact ⟨rfl, HM.out, HO.out⟩
end Go.Proofs.Ytlahpnigabfenaa

/- Layer 17: the free list's head is changed. -/
namespace Go.Proofs.Ytlahpnigabfenaa
open Go.RowKit WordM EdgeM
set_option linter.unusedVariables false
set_option linter.unusedSimpArgs false
theorem okA2 (n : Nat) (h : 3 ≤ n) : Mm.okA n 2 = true := by unfold Mm.okA; simp; omega
/-- The head that Changed makes. -/
def chgI (h s : Int) : Int := headI s (h / 4096 + 1)
set_option maxRecDepth 8000 in
set_option maxHeartbeats 2000000 in
theorem rchange {w : World} {B q pl mb mg C gq gg gm : Nat} {fv : Value} {tq : Nat → Nat} {t s : Nat} {K : Int} {f : Nat → Int} {acc : Int} {flt : Bool} {H : Nat → Bool} {G : Nat → Int} {sl steps : Int} {odd : Bool} (h : MC w B q pl mb mg C gq gg gm fv tq t s K f acc flt H G sl steps odd) (hd k : Int) (tb fb : Nat) (d0 : 0 ≤ hd) (d1 : hd < 18446744073709551616) (a0 : 0 ≤ acc) (a1 : acc < 1000000) :
    Calls Try.prog 65 #[.agg #[.pointer (some ⟨q, 0, none⟩), .pointer (some ⟨tb, 0, none⟩), .pointer (some ⟨fb, 0, none⟩)], .int .u64 hd, .int .i64 k] w fun x w' => x = .returned (.bool (f 2 == hd)) ∧ MC w' B q pl mb mg C gq gg gm fv tq t s K (if (f 2 == hd) = true then Mm.upd f 2 (chgI hd k) else f) (acc + 1) flt H G sl steps odd ∧ Mm.Only mb mg w w' := by
  refine Calls.veil fun Q HQ => ?_
  have HH := Lib.hid h
  have hbb := h.bd
  clear h
  go_enter Try.func65, Try.ntmps65
  go_upto_region 1 with fail
  generalize hV : World.alloc _ _ = U
  obtain ⟨u0, hbu⟩ := Th.heapnewE hV
  obtain ⟨X, hX⟩ : ∃ X, X = w.heap.size := ⟨_, rfl⟩
  rw [← hX] at u0 ⊢
  have x0 := Th.newcell u0 0 _ rfl
  have HU := Lib.hid (HH.out.below hbu); have HBU := Lib.hid hbu
  clear hV u0 hbu hX
  go_wp2_with fail
  refine (cMem HU.out).mono ?_; rintro _ _ ⟨rfl, rfl⟩
  go_wp2_with fail
  refine (bchanged_calls hd k _ d0 d1).mono ?_; rintro _ _ ⟨rfl, rfl⟩
  clear x0
  go_wp2_with fail
  have hci : 0 ≤ chgI hd k ∧ chgI hd k < 18446744073709551616 := headI_bd _ (by omega)
  refine (Mm.mcas _ _ _ _ _ _ 2 hd (chgI hd k) _ _ HU.out.mem a0 (by omega) hci.1 hci.2).mono ?_; rintro _ w3 ⟨rfl, hm, ho⟩
  rw [okA2 _ (by omega)] at hm ⊢
  simp only [Bool.true_and, Bool.not_true, Bool.or_false] at hm ⊢
  have HM3 := Lib.hid (HU.out.only ho hm); have HO3 := Lib.hid ((Mm.Only.of_below HBU.out).trans ho)
  clear hm ho
  go_wp2_with fail
  (try go_ret2)
  rw [HQ.out]
  exact ⟨rfl, HM3.out, HO3.out⟩
end Go.Proofs.Ytlahpnigabfenaa
