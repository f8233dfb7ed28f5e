/- ClkG: several texts in one. -/
import Derived.Test.YtmokniemmiomfaaGreatRwA
import Derived.Test.YtmokniemmiomfaaGreatPlanG
/- A machine with its threads' places: what may be done with it. -/
namespace Go.Proofs.YtmokniemmiomfaaGreat
open Go.RowKit WordM EdgeM
set_option linter.unusedVariables false
set_option linter.unusedSimpArgs false
def setF (T : Th.Td) (m : Nat) (F : Th.Fm) : Th.Td := { T with fs := Th.upM T.fs m F }
def updr (r : Nat → Int) (a : Nat) (v : Int) : Nat → Int := fun i => if i = a then v else r i
def setS (T : Th.Td) (i : Nat) (v : Value) : Th.Td := { T with ss := fun j => if j = i then v else T.ss j }
def Pc.n (P : Pc) : Nat := 3 + 8 * P.t + 7 * P.s
structure MP (w : World) (P : Pc) (σ : Sg) (ps : Nat → Nat → Nat) (fvs : Nat → Value) : Prop where
  c : MC w P.B P.q P.pl P.mb P.mg P.C P.gq P.gg P.gm P.fv P.tq P.t P.s P.K σ.f σ.acc σ.flt σ.H σ.G σ.sl σ.steps σ.odd
  tf : TF w P.q P.t P.tq σ.Ts ps fvs
  qN : P.q < P.N
  tN : ∀ i, i < P.t → P.tq i < P.N
  NS : P.N ≤ w.heap.size
theorem MM.mp {w : World} {P : Pc} {σ : Sg} (h : MM w P σ) : ∃ ps fvs, MP w P σ ps fvs := by
  obtain ⟨ps, fvs, tf⟩ := h.th
  exact ⟨ps, fvs, h.c, tf, h.qN, h.tN, h.NS⟩
section
variable {w w' : World} {P : Pc} {σ : Sg} {ps : Nat → Nat → Nat} {fvs : Nat → Value}
theorem MP.mm (h : MP w P σ ps fvs) : MM w P σ := ⟨h.c, ⟨ps, fvs, h.tf⟩, h.qN, h.tN, h.NS⟩
theorem MP.below (h : MP w P σ ps fvs) (k : Below w.heap.size w w') : MP w' P σ ps fvs := ⟨h.c.below k, h.tf.below k, h.qN, h.tN, Nat.le_trans h.NS k.size⟩
theorem MP.only (h : MP w P σ ps fvs) {f' : Nat → Int} {acc' : Int} {flt' : Bool} (k : Mm.Only P.mb P.mg w w') (hm : Mm.MemAt w' P.mb P.mg (3 + 8 * P.t + 7 * P.s) P.C f' acc' flt') : MP w' P { σ with f := f', acc := acc', flt := flt' } ps fvs ∧ KA P.B P.N w w' := by
  have hl := h.c.qlt
  obtain ⟨o1, o2, _⟩ := h.mm.ord
  refine ⟨⟨h.c.only k hm, h.tf.hi k.size fun j hj hq => k.block j hj (by omega) (by omega), h.qN, h.tN, Nat.le_trans h.NS k.size⟩, ⟨k.os, k.tape, k.output, k.size, fun j hj hx => k.block j hj (fun e => hx ?_) (fun e => hx ?_)⟩⟩
  · rw [e]; exact ⟨o1.1, .inl o1.2⟩
  · rw [e]; exact ⟨o2.1, .inl o2.2⟩
theorem MP.gd (h : MP w P σ ps fvs) {H' : Nat → Bool} {G' : Nat → Int} {sl' : Int} (k : Gd.K3 w w' P.gq P.gg P.gm) (hg : Gd.GA w' P.gq P.gg P.gm P.s H' G' sl') : MP w' P { σ with H := H', G := G', sl := sl' } ps fvs ∧ KA P.B P.N w w' := by
  have o5 := h.c.o5
  obtain ⟨_, _, o1, o2, o3, _⟩ := h.mm.ord
  refine ⟨⟨h.c.gd k hg, h.tf.hi k.size fun j hj hq => k.block j hj (by omega) (by omega) (by omega), h.qN, h.tN, Nat.le_trans h.NS k.size⟩, ⟨k.os, k.tape, k.output, k.size, fun j hj hx => k.block j hj (fun e => hx ?_) (fun e => hx ?_) (fun e => hx ?_)⟩⟩
  · rw [e]; exact ⟨o1.1, .inl o1.2⟩
  · rw [e]; exact ⟨o2.1, .inl o2.2⟩
  · rw [e]; exact ⟨o3.1, .inl o3.2⟩
theorem MP.fblk (h : MP w P σ ps fvs) {k m : Nat} (hk : k < P.t) (hm : m < (σ.Ts k).nf) : Th.Blk 70 w (ps k m) 26 (Th.frF ((σ.Ts k).fs m)) := ((h.tf.th k hk).a.fb m hm).1
theorem MP.fn (h : MP w P σ ps fvs) {k m : Nat} (hk : k < P.t) (hm : m < (σ.Ts k).nf) : w.cell? ⟨ps k m, 0, none⟩ = some (.int .i64 ((σ.Ts k).fs m).fn) := by
  rw [(h.fblk hk hm).get (i := 0) (by omega)]; rfl
theorem MP.pc (h : MP w P σ ps fvs) {k m : Nat} (hk : k < P.t) (hm : m < (σ.Ts k).nf) : w.cell? ⟨ps k m, 1, none⟩ = some (.int .i64 ((σ.Ts k).fs m).pc) := by
  rw [(h.fblk hk hm).get (i := 1) (by omega)]; rfl
theorem MP.r (h : MP w P σ ps fvs) {k m : Nat} (hk : k < P.t) (hm : m < (σ.Ts k).nf) (a : Nat) (ha : a < 24) : w.cell? ⟨ps k m, 2 + a, none⟩ = some (.int .u64 (((σ.Ts k).fs m).r a)) := by
  rw [(h.fblk hk hm).get (i := 2 + a) (by omega)]
  unfold Th.frF; rw [if_neg (by omega), if_neg (by omega), show 2 + a - 2 = a by omega]
theorem MP.fr (h : MP w P σ ps fvs) {k m : Nat} (hk : k < P.t) (hm : m < (σ.Ts k).nf) : ∀ i, w.frozen? ⟨ps k m, i, none⟩ = false := fun i => (h.fblk hk hm).fr i
theorem MP.tfr (h : MP w P σ ps fvs) {k : Nat} (hk : k < P.t) : ∀ i, w.frozen? ⟨P.tq k, i, none⟩ = false := fun i => (h.tf.th k hk).a.blk.fr i
theorem MP.ss (h : MP w P σ ps fvs) {k : Nat} (hk : k < P.t) (i : Nat) (hi : i < 12) : w.cell? ⟨P.tq k, 12 + i, none⟩ = some ((σ.Ts k).ss i) := by
  rw [(h.tf.th k hk).a.blk.get (i := 12 + i) (by omega)]
  unfold Th.thF; rw [if_neg (by omega), if_pos (by omega), show 12 + i - 12 = i by omega]
/-- A frame was written. -/
theorem MP.frm (h : MP w P σ ps fvs) {k m : Nat} (hk : k < P.t) (hm : m < (σ.Ts k).nf) {F : Th.Fm} (ks : Th.KS (fun j => j = ps k m) w w') (hb : Th.Blk 70 w' (ps k m) 26 (Th.frF F)) : MP w' P (σ.thr k (setF (σ.Ts k) m F)) ps fvs ∧ KA P.B P.N w w' := by
  have hbk := h.fblk hk hm
  obtain ⟨hB, hlt, _⟩ := (h.tf.th k hk).frm hm
  refine ⟨⟨h.c.ksT hbk (by omega) (by decide) ks, h.tf.frm hk hm ks hb, h.qN, h.tN, Nat.le_trans h.NS ks.size⟩, h.mm.ka h.tf hk (m := m) ks fun j hj => ?_⟩
  exact .inr (.inr (.inr (.inr (.inr (.inr (.inr (.inr ⟨hm, hj⟩)))))))
theorem MP.setR (h : MP w P σ ps fvs) {k m : Nat} (hk : k < P.t) (hm : m < (σ.Ts k).nf) (a : Nat) (v : Int) : MP (w.setCell ⟨ps k m, 2 + a, none⟩ (.int .u64 v)) P (σ.thr k (setF (σ.Ts k) m ⟨((σ.Ts k).fs m).fn, ((σ.Ts k).fs m).pc, updr ((σ.Ts k).fs m).r a v⟩)) ps fvs ∧ KA P.B P.N w (w.setCell ⟨ps k m, 2 + a, none⟩ (.int .u64 v)) :=
  h.frm hk hm (Th.KS.set w _ _ _) (((h.fblk hk hm).set (2 + a) _).congr (Th.frF_r _ a v))
theorem MP.setPC (h : MP w P σ ps fvs) {k m : Nat} (hk : k < P.t) (hm : m < (σ.Ts k).nf) (v : Int) : MP (w.setCell ⟨ps k m, 1, none⟩ (.int .i64 v)) P (σ.thr k (setF (σ.Ts k) m ⟨((σ.Ts k).fs m).fn, v, ((σ.Ts k).fs m).r⟩)) ps fvs ∧ KA P.B P.N w (w.setCell ⟨ps k m, 1, none⟩ (.int .i64 v)) :=
  h.frm hk hm (Th.KS.set w _ _ _) (((h.fblk hk hm).set 1 _).congr (Th.frF_pc _ v))
theorem thF_ss (T : Th.Td) (fv rv sv : Value) (i : Nat) (hi : i < 12) (v : Value) (j : Nat) (hj : j < 27) : Th.upF (Th.thF T fv rv sv) (12 + i) v j = Th.thF (setS T i v) fv rv sv j := by
  unfold Th.upF Th.thF setS
  by_cases e : j = 12 + i
  · subst e; rw [if_pos rfl, if_neg (by omega), if_pos (by omega)]; simp
  · rw [if_neg e]
    by_cases e4 : j < 12
    · rw [if_pos e4, if_pos e4]
    · rw [if_neg e4, if_neg e4]
      by_cases e5 : j < 24
      · rw [if_pos e5, if_pos e5]; simp only []; rw [if_neg (by omega)]
      · rw [if_neg e5, if_neg e5]
/-- A thread's session was written. -/
theorem MP.setSS (h : MP w P σ ps fvs) {k : Nat} (hk : k < P.t) (i : Nat) (hi : i < 12) (v : Value) (hv : v.oneCell' = true) : MP (w.setCell ⟨P.tq k, 12 + i, none⟩ v) P (σ.thr k (setS (σ.Ts k) i v)) ps fvs ∧ KA P.B P.N w (w.setCell ⟨P.tq k, 12 + i, none⟩ v) := by
  have hth := h.tf.th k hk
  have hs1 : ∀ j, j < 12 → ((setS (σ.Ts k) i v).ss j).oneCell' = true := fun j hj => by
    unfold setS; simp only []
    by_cases e : j = i
    · rw [if_pos e]; exact hv
    · rw [if_neg e]; exact hth.a.s1 j hj
  obtain ⟨ha, kq⟩ := hth.a.put (T' := setS (σ.Ts k) i v) (fv' := fvs k) (rv' := .slice none 0 0) (sv' := .slice none 0 0) (Th.KS.set w (P.tq k) (12 + i) v) ((hth.a.blk.set (12 + i) v).congr fun j hj => thF_ss _ _ _ _ i hi v j hj) hth.a.fo (fun x hx => ⟨hx, rfl⟩) hth.a.rw hth.a.so hs1
  have ho := h.tf.one hk (p' := ps k) (fv' := fvs k) ⟨ha, hth.r, hth.s⟩ kq (fun j hj => .inl hj) fun a ha => .inl ⟨ha, rfl⟩
  have e1 : (fun i => if i = k then ps k else ps i) = ps := funext fun i => by
    by_cases e : i = k
    · rw [if_pos e, e]
    · rw [if_neg e]
  have e2 : (fun i => if i = k then fvs k else fvs i) = fvs := funext fun i => by
    by_cases e : i = k
    · rw [if_pos e, e]
    · rw [if_neg e]
  rw [e1, e2] at ho
  exact ⟨⟨h.c.kqF h.tf hk kq, ho, h.qN, h.tN, Nat.le_trans h.NS kq.size⟩, h.mm.kq h.tf hk kq⟩
end
theorem MP.back {w : World} {P : Pc} {σ : Sg} {ps : Nat → Nat → Nat} {fvs : Nat → Value} (h : MP w P σ ps fvs) {k : Nat} (hk : k < P.t) {v : Value} {n : Nat} {L : Nat → Int} (hu : Th.UR w v n L) (hf : (σ.Ts k).nf ≤ 1000000) :
    Calls Tryz.prog 47 #[.pointer (some ⟨P.tq k, 0, none⟩), v] w fun e w' => e = .returned (.tuple #[]) ∧ MM w' P (σ.thr k (Th.backT (σ.Ts k) n L)) ∧ KA P.B P.N w w' := by
  have hth := h.tf.th k hk
  refine (Th.fback hth.a hu hf).mono ?_
  rintro _ w' ⟨rfl, ⟨fv', ha, ho⟩, kq⟩
  refine ⟨rfl, ⟨h.c.kqF h.tf hk kq, ⟨_, _, h.tf.one (p' := ps k) hk ⟨ha, hth.r, hth.s⟩ kq (fun j hj => .inl (ho j hj)) fun a ha => .inl ⟨Nat.lt_of_lt_of_le ha (Nat.sub_le _ _), rfl⟩⟩, h.qN, h.tN, Nat.le_trans h.NS kq.size⟩, h.mm.kq h.tf hk kq⟩
theorem MP.top {w : World} {P : Pc} {σ : Sg} {ps : Nat → Nat → Nat} {fvs : Nat → Value} (h : MP w P σ ps fvs) {k m : Nat} (hk : k < P.t) (hm : (σ.Ts k).nf = m + 1) (hN : m ≤ 1000000) :
    Calls Tryz.prog 30 #[.pointer (some ⟨P.tq k, 0, none⟩)] w fun e w' => e = .returned (.pointer (some ⟨ps k m, 0, none⟩)) ∧ Below w.heap.size w w' := Th.ftop1 (h.tf.th k hk).a hm hN
/-- One word in a row of its own. -/
theorem ur_one {w : World} {sb : Nat} {x : Int} {T : TypeId} (hy : w.heap[sb]? = some (.cells #[.int .u64 x] T (0, 0))) : Th.UR w (.slice (some ⟨sb, 0, none⟩) 1 1) 1 (fun _ => x) := .row sb 0 1 1 _ (by omega) (by decide) fun i hi => by
  rw [show 0 + i = 0 by omega]; exact Th.newcell hy 0 _ rfl
theorem Sg.thr_thr (σ : Sg) (k : Nat) (T T' : Th.Td) : (σ.thr k T).thr k T' = σ.thr k T' := by
  unfold Sg.thr; simp only [Sg.mk.injEq, true_and, and_true]
  funext i
  by_cases e : i = k
  · rw [if_pos e, if_pos e]
  · rw [if_neg e, if_neg e, if_neg e]
theorem Sg.thr_at (σ : Sg) (k : Nat) (T : Th.Td) : (σ.thr k T).Ts k = T := by unfold Sg.thr; simp
theorem setF_fs (T : Th.Td) (m : Nat) (F : Th.Fm) : (setF T m F).fs m = F := by unfold setF Th.upM; simp
theorem setF_nf (T : Th.Td) (m : Nat) (F : Th.Fm) : (setF T m F).nf = T.nf := rfl
theorem setF_setF (T : Th.Td) (m : Nat) (F F' : Th.Fm) : setF (setF T m F) m F' = setF T m F' := by
  unfold setF; simp only [Th.Td.mk.injEq, true_and, and_true]
  funext i; unfold Th.upM
  by_cases e : i = m
  · rw [if_pos e, if_pos e]
  · rw [if_neg e, if_neg e, if_neg e]
end Go.Proofs.YtmokniemmiomfaaGreat

/- Layer 25: a step of Tick. -/
namespace Go.Proofs.YtmokniemmiomfaaGreat
open Go.RowKit WordM EdgeM
set_option linter.unusedVariables false
set_option linter.unusedSimpArgs false
theorem okA0 (n : Nat) (h : 1 ≤ n) : Mm.okA n 0 = true := by unfold Mm.okA; simp; omega
theorem MC.p2 {w : World} {B q pl mb mg C gq gg gm : Nat} {fv : Value} {tq : Nat → Nat} {t s : Nat} {K : Int} {f : Nat → Int} {acc : Int} {flt : Bool} {H : Nat → Bool} {G : Nat → Int} {sl steps : Int} {odd : Bool} (h : MC w B q pl mb mg C gq gg gm fv tq t s K f acc flt H G sl steps odd) : w.cell? ⟨pl, 2, none⟩ = some (.int .u64 K) := Th.newcell h.pln 2 _ rfl
/-- A step of Tick. -/
def rTick (P : Pc) (k m : Nat) (σ : Sg) : Sg :=
  if ((σ.Ts k).fs m).pc = 0 then
    if P.K ≤ σ.f 0 then { σ.thr k (Th.backT (setF (σ.Ts k) m ⟨((σ.Ts k).fs m).fn, 1, updr ((σ.Ts k).fs m).r 0 (σ.f 0)⟩) 1 (fun _ => 0)) with acc := σ.acc + 1 }
    else { σ.thr k (setF (σ.Ts k) m ⟨((σ.Ts k).fs m).fn, 1, updr ((σ.Ts k).fs m).r 0 (σ.f 0)⟩) with acc := σ.acc + 1 }
  else if (σ.f 0 == ((σ.Ts k).fs m).r 0) = true then
    { σ.thr k (Th.backT (setS (σ.Ts k) 4 (.int .u64 (((σ.Ts k).fs m).r 0))) 1 (fun _ => ((σ.Ts k).fs m).r 0)) with acc := σ.acc + 1, f := Mm.upd σ.f 0 (((σ.Ts k).fs m).r 0 + 1) }
  else { σ.thr k (setF (σ.Ts k) m ⟨((σ.Ts k).fs m).fn, 0, ((σ.Ts k).fs m).r⟩) with acc := σ.acc + 1 }
set_option maxRecDepth 8000 in
set_option maxHeartbeats 2000000 in
theorem tick0 {w : World} {P : Pc} {σ : Sg} (h : MM w P σ) {k m : Nat} (hk : k < P.t) (hm : (σ.Ts k).nf = m + 1) (hN : m ≤ 1000) (hpc : ((σ.Ts k).fs m).pc = 0) (a0 : 0 ≤ σ.acc) (a1 : σ.acc < 1000000) :
    Calls Tryz.prog 31 #[.pointer (some ⟨P.q, 0, none⟩), .int .i64 k] w fun x w' => x = .returned (.tuple #[]) ∧ MM w' P (rTick P k m σ) ∧ KA P.B P.N w w' := by
  refine Calls.veil fun Q HQ => ?_
  obtain ⟨ps, fvs, hp⟩ := h.mp
  have HP := Lib.hid hp
  have hmm : m < (σ.Ts k).nf := by omega
  have HMM := Lib.hid hmm; have HM := Lib.hid hm; have HPC := Lib.hid hpc
  have hbb := h.bd
  clear h hp hmm hm hpc
  go_enter Tryz.func31, Tryz.ntmps31
  go_wp2_with fail
  refine (cThread_yes HP.out.c k hk).mono ?_; rintro _ w1 ⟨rfl, hb1⟩
  have HP1 := Lib.hid (HP.out.below hb1); have HB1 := Lib.hid hb1
  clear hb1
  go_wp2_with fail
  refine (HP1.out.top hk HM.out (by omega)).mono ?_; rintro _ w2 ⟨rfl, hb2⟩
  have HP2 := Lib.hid (HP1.out.below hb2); have HK2 := Lib.hid (KA.of_below (below_on HB1.out hb2) : KA P.B P.N w w2)
  clear hb2 HP1 HB1
  obtain ⟨fb, hfb⟩ : ∃ fb, fb = ps k m := ⟨_, rfl⟩
  have HFB := Lib.hid hfb
  rw [← hfb]
  clear hfb
  have f1 : w2.cell? ⟨fb, 1, none⟩ = some (.int .i64 0) := by rw [HFB.out, HP2.out.pc hk HMM.out, HPC.out]
  go_upto_region 4 with fail
  clear f1
  refine Th.wp_region_K (fun _ => True) 7 (by decide +kernel) ?_
  generalize hwd : World.drew w2 = wd
  have hdd : Below w2.heap.size w2 wd := by rw [← hwd]; exact (Below.refl _ _).drew
  have HPD := Lib.hid (HP2.out.below hdd); have HKD := Lib.hid (HK2.out.trans (KA.of_below hdd))
  clear hwd hdd HP2 HK2
  (refine Th.wpAnyK_takeY (i := 0) (v := ?_) rfl (by decide +kernel) (by decide +kernel) (by decide +kernel) (by decide) (fun _ _ _ h => h) (Or.inl ⟨by rfl, ?_⟩) (.inr trivial) ?_; rotate_left; (intro w; go_simp); (try with_reducible rfl))
  (try simp only [List.getElem_toArray, List.getElem_cons_succ, List.getElem_cons_zero, Act.put, List.setIfInBounds_toArray, List.set_cons_succ, List.set_cons_zero])
  (refine Th.wpAnyK_takeY (i := 1) (v := ?_) rfl (by decide +kernel) (by decide +kernel) (by decide +kernel) (by decide) (fun _ _ _ h => h) (Or.inl ⟨by rfl, ?_⟩) (.inr trivial) ?_; rotate_left; (intro w; go_simp); (try with_reducible rfl))
  (try simp only [List.getElem_toArray, List.getElem_cons_succ, List.getElem_cons_zero, Act.put, List.setIfInBounds_toArray, List.set_cons_succ, List.set_cons_zero])
  (refine Th.wpAnyK_takeY (i := 4) (v := ?_) rfl (by decide +kernel) (by decide +kernel) (by decide +kernel) (by decide) (fun _ _ _ h => h) (Or.inl ⟨by rfl, ?_⟩) (.inr trivial) ?_; rotate_left; (intro w; go_simp); (try with_reducible rfl))
  (try simp only [List.getElem_toArray, List.getElem_cons_succ, List.getElem_cons_zero, Act.put, List.setIfInBounds_toArray, List.set_cons_succ, List.set_cons_zero])
  (refine Th.wpAnyK_takeY (i := 5) (v := ?_) rfl (by decide +kernel) (by decide +kernel) (by decide +kernel) (by decide) (fun _ _ _ h => h) (Or.inl ⟨by rfl, ?_⟩) (.inr trivial) ?_; rotate_left; (intro w; go_simp); (try with_reducible rfl))
  (try simp only [List.getElem_toArray, List.getElem_cons_succ, List.getElem_cons_zero, Act.put, List.setIfInBounds_toArray, List.set_cons_succ, List.set_cons_zero])
  (refine Th.wpAnyK_ready (rs := [2]) (by decide +kernel) (by simp) ?_; refine (Th.AllReadyK.cons rfl (fun K hK => ?_) Th.AllReadyK.nil))
  refine step_of rfl ?_
  go_step
  refine (cMem HPD.out.c).mono ?_; rintro _ _ ⟨rfl, rfl⟩
  refine hK _ _ (.inr trivial) ?_
  clear hK K
  (try simp only [List.getElem_toArray, List.getElem_cons_succ, List.getElem_cons_zero, Act.put, List.setIfInBounds_toArray, List.set_cons_succ, List.set_cons_zero])
  (refine Th.wpAnyK_ready (rs := [3]) (by decide +kernel) (by simp) ?_; refine (Th.AllReadyK.cons rfl (fun K hK => ?_) Th.AllReadyK.nil))
  refine step_of rfl ?_
  go_step
  refine (Mm.mload _ _ _ _ _ _ 0 _ _ HPD.out.c.mem a0 (by omega)).mono ?_; rintro _ w3 ⟨rfl, hm3, ho⟩
  rw [okA0 _ (by omega)] at hm3
  have hli : Mm.ldI (3 + 8 * P.t + 7 * P.s) σ.f 0 = σ.f 0 := by unfold Mm.ldI; rw [okA0 _ (by omega)]; rfl
  rw [hli]
  obtain ⟨hp3, hk3⟩ := HPD.out.only ho (show Mm.MemAt w3 P.mb P.mg (3 + 8 * P.t + 7 * P.s) P.C σ.f (σ.acc + 1) σ.flt by simpa using hm3)
  have HP3 := Lib.hid hp3; have HK3 := Lib.hid (HKD.out.trans hk3)
  refine hK _ _ (.inr trivial) ?_
  clear hK K hli hm3 ho hp3 hk3 HPD HKD
  (try simp only [List.getElem_toArray, List.getElem_cons_succ, List.getElem_cons_zero, Act.put, List.setIfInBounds_toArray, List.set_cons_succ, List.set_cons_zero])
  have r2 : w3.cell? ⟨fb, 2, none⟩ = some (.int .u64 (((σ.Ts k).fs m).r 0)) := by rw [HFB.out]; exact HP3.out.r hk HMM.out 0 (by omega)
  have rf : ∀ i, w3.frozen? ⟨fb, i, none⟩ = false := fun i => by rw [HFB.out]; exact HP3.out.fr hk HMM.out i
  (refine Th.wpAnyK_takeY (i := 6) (v := ?_) rfl (by decide +kernel) (by decide +kernel) (by decide +kernel) (by decide) (fun _ _ _ h => h) (Or.inl ⟨by rfl, ?_⟩) (.inr trivial) ?_; rotate_left; (intro w; go_simp); (try with_reducible rfl))
  (try simp only [List.getElem_toArray, List.getElem_cons_succ, List.getElem_cons_zero, Act.put, List.setIfInBounds_toArray, List.set_cons_succ, List.set_cons_zero])
  (refine Th.wpAnyK_ready (rs := [7]) (by decide +kernel) (by simp) ?_; refine (Th.AllReadyK.cons rfl (fun K hK => ?_) Th.AllReadyK.nil))
  refine step_of rfl ?_
  go_step
  refine hK _ _ (.inl rfl) ?_
  clear hK K
  refine Th.wpAnyK_done (by decide +kernel) ?_ _
  clear r2 rf
  generalize hW : World.setCell _ _ _ = W
  obtain ⟨hp4, hk4⟩ : MP W P _ ps fvs ∧ KA P.B P.N w3 W := by rw [← hW, HFB.out]; exact HP3.out.setR hk HMM.out 0 (σ.f 0)
  have HP4 := Lib.hid hp4; have HK4 := Lib.hid (HK3.out.trans hk4)
  clear hW hp4 hk4 HP3 HK3
  have f1 : W.cell? ⟨fb, 1, none⟩ = some (.int .i64 0) := by rw [HFB.out, HP4.out.pc hk (by rw [Sg.thr_at]; exact HMM.out), Sg.thr_at, setF_fs]; exact congrArg _ (congrArg _ HPC.out)
  have rf : ∀ i, W.frozen? ⟨fb, i, none⟩ = false := fun i => by rw [HFB.out]; exact HP4.out.fr hk (by rw [Sg.thr_at]; exact HMM.out) i
  go_upto_region 6 with fail
  clear f1 rf
  generalize hW : World.setCell _ _ _ = V
  obtain ⟨hp5, hk5⟩ : MP V P _ ps fvs ∧ KA P.B P.N W V := by rw [← hW, HFB.out]; exact HP4.out.setPC hk (by rw [Sg.thr_at]; exact HMM.out) 1
  rw [Sg.thr_at, setF_fs, setF_setF, Sg.thr_thr] at hp5
  have HP5 := Lib.hid hp5; have HK5 := Lib.hid (HK4.out.trans hk5)
  clear hW hp5 hk5 HP4 HK4
  have HL0 := Lib.hid (show ∀ y : Ext V, (Instr.loadAt 22 (.pointer (some ⟨fb, 2, none⟩))).run Tryz.prog y.w = .ok (.int .u64 (σ.f 0)) y.w from fun y => by (have hc : y.w.cell? ⟨fb, 2, none⟩ = some (.int .u64 (σ.f 0)) := (by have h5 := (HP5.out.below y.h).r hk (m := m) (by rw [Sg.thr_at]; exact HMM.out) 0 (by omega); rw [Sg.thr_at, setF_fs] at h5; rw [HFB.out]; exact h5)); go_simp)
  refine Th.wp_region_K (fun w' => ∃ y : Ext V, w' = y.w) 9 (by decide +kernel) ?_
  generalize hwd : World.drew V = wd
  have hbd : Below V.heap.size V wd := by rw [← hwd]; exact (Below.refl _ _).drew
  clear hwd
  (refine Th.wpAnyK_takeY (i := 0) (v := ?_) rfl (by decide +kernel) (by decide +kernel) (by decide +kernel) (by decide) (fun _ _ _ h => h) (Or.inl ⟨by rfl, ?_⟩) (.inr ⟨⟨wd, hbd⟩, rfl⟩) ?_; rotate_left; (intro w; go_simp); (try with_reducible rfl))
  (try simp only [List.getElem_toArray, List.getElem_cons_succ, List.getElem_cons_zero, Act.put, List.setIfInBounds_toArray, List.set_cons_succ, List.set_cons_zero])
  (refine Th.wpAnyK_takeY (i := 1) (v := ?_) rfl (by decide +kernel) (by decide +kernel) (by decide +kernel) (by decide) (fun _ _ _ h => h) (Or.inl ⟨by rfl, ?_⟩) (.inr ⟨⟨wd, hbd⟩, rfl⟩) ?_; rotate_left; (intro w; go_simp); (try with_reducible rfl))
  (try simp only [List.getElem_toArray, List.getElem_cons_succ, List.getElem_cons_zero, Act.put, List.setIfInBounds_toArray, List.set_cons_succ, List.set_cons_zero])
  (refine Th.wpAnyK_takeY (i := 2) (v := ?_) rfl (by decide +kernel) (by decide +kernel) (by decide +kernel) (by decide) (fun _ _ _ h => h) (Or.inl ⟨by rfl, ?_⟩) (.inr ⟨⟨wd, hbd⟩, rfl⟩) ?_; rotate_left; (intro w; go_simp); (try with_reducible rfl))
  (try simp only [List.getElem_toArray, List.getElem_cons_succ, List.getElem_cons_zero, Act.put, List.setIfInBounds_toArray, List.set_cons_succ, List.set_cons_zero])
  (refine Th.wpAnyK_takeY (i := 3) (v := ?_) rfl (by decide +kernel) (by decide +kernel) (by decide +kernel) (by decide) (fun _ _ _ h => h) (Or.inl ⟨by rfl, ?_⟩) (.inr ⟨⟨wd, hbd⟩, rfl⟩) ?_; rotate_left; (intro w; go_simp); (try with_reducible rfl))
  (try simp only [List.getElem_toArray, List.getElem_cons_succ, List.getElem_cons_zero, Act.put, List.setIfInBounds_toArray, List.set_cons_succ, List.set_cons_zero])
  (refine Th.wpAnyK_take (i := 4) (v := .int .u64 (σ.f 0)) [9] rfl (by decide +kernel) (by decide +kernel) (by decide +kernel) (by decide +kernel) (fun _ _ _ h => h) (Th.yields_loadK rfl 22 (.tmp 31) rfl rfl (by rintro _ ⟨y, rfl⟩; exact HL0.out y)) ⟨⟨wd, hbd⟩, rfl⟩ ?_)
  (try simp only [List.getElem_toArray, List.getElem_cons_succ, List.getElem_cons_zero, Act.put, List.setIfInBounds_toArray, List.set_cons_succ, List.set_cons_zero])
  (refine Th.wpAnyK_takeY (i := 5) (v := ?_) rfl (by decide +kernel) (by decide +kernel) (by decide +kernel) (by decide) (fun _ _ _ h => h) (Or.inl ⟨by rfl, ?_⟩) (.inr ⟨⟨wd, hbd⟩, rfl⟩) ?_; rotate_left; (intro w; go_simp); (try with_reducible rfl))
  (try simp only [List.getElem_toArray, List.getElem_cons_succ, List.getElem_cons_zero, Act.put, List.setIfInBounds_toArray, List.set_cons_succ, List.set_cons_zero])
  (refine Th.wpAnyK_ready (rs := [6]) (by decide +kernel) (by simp) ?_; refine (Th.AllReadyK.cons rfl (fun K hK => ?_) Th.AllReadyK.nil))
  refine step_of rfl ?_
  go_step
  refine (cPlan (HP5.out.below hbd).c).mono ?_; rintro _ w6 ⟨rfl, hw6⟩
  rw [← hw6]
  refine hK _ _ (.inr ⟨⟨wd, hbd⟩, rfl⟩) ?_
  clear hK K hw6
  (try simp only [List.getElem_toArray, List.getElem_cons_succ, List.getElem_cons_zero, Act.put, List.setIfInBounds_toArray, List.set_cons_succ, List.set_cons_zero])
  (refine Th.wpAnyK_ready (rs := [7]) (by decide +kernel) (by simp) ?_; refine (Th.AllReadyK.cons rfl (fun K hK => ?_) Th.AllReadyK.nil))
  refine step_of rfl ?_
  go_step
  refine (pconf_calls _ _ _ _ _ (HP5.out.below hbd).c.p0 (HP5.out.below hbd).c.p1 (HP5.out.below hbd).c.p2).mono ?_; rintro _ w7 ⟨rfl, hb7⟩
  have hb7 := below_on hbd hb7
  refine hK _ _ (.inr ⟨⟨w7, hb7⟩, rfl⟩) ?_
  clear hK K
  (try simp only [List.getElem_toArray, List.getElem_cons_succ, List.getElem_cons_zero, Act.put, List.setIfInBounds_toArray, List.set_cons_succ, List.set_cons_zero])
  have hfd : ∀ w : World, (Instr.field 26 (.agg #[.int .i64 P.t, .int .i64 P.s, .int .u64 P.K]) 2).run Tryz.prog w = .ok (.int .u64 P.K) w := fun w => by kernel_rfl
  (refine Th.wpAnyK_takeY (i := 8) (v := .int .u64 P.K) rfl (by decide +kernel) (by decide +kernel) (by decide +kernel) (by decide) (fun _ _ _ h => h) (Or.inl ⟨by rfl, fun w => by go_simp⟩) (.inr ⟨⟨w7, hb7⟩, rfl⟩) ?_)
  (try simp only [List.getElem_toArray, List.getElem_cons_succ, List.getElem_cons_zero, Act.put, List.setIfInBounds_toArray, List.set_cons_succ, List.set_cons_zero])
  (refine Th.wpAnyK_ready (rs := [9]) (by decide +kernel) (by simp) ?_; refine (Th.AllReadyK.cons rfl (fun K hK => ?_) Th.AllReadyK.nil))
  refine step_of rfl ?_
  go_step
  refine hK _ _ (.inl rfl) ?_
  clear hK K
  refine Th.wpAnyK_done (by decide +kernel) ?_ _
  have HP7 := Lib.hid (HP5.out.below hb7); have HK7 := Lib.hid (HK5.out.trans (KA.of_below hb7))
  clear hbd hb7 HP5 HK5 HL0
  by_cases hs : P.K ≤ σ.f 0
  · have HR := Lib.hid (show rTick P k m σ = { σ.thr k (Th.backT (setF (σ.Ts k) m ⟨((σ.Ts k).fs m).fn, 1, updr ((σ.Ts k).fs m).r 0 (σ.f 0)⟩) 1 (fun _ => 0)) with acc := σ.acc + 1 } by unfold rTick; rw [if_pos HPC.out, if_pos hs])
    go_wp2_with fail
    generalize hY : World.alloc _ _ = V2
    obtain ⟨hy, hby⟩ := Th.heapnewE hY
    obtain ⟨sb, hsb⟩ : ∃ sb, sb = w7.heap.size := ⟨_, rfl⟩
    rw [← hsb] at hy ⊢
    have HP8 := Lib.hid (HP7.out.below hby); have HK8 := Lib.hid (HK7.out.trans (KA.of_below hby))
    have hur := ur_one hy
    clear hY hy hby hsb HP7 HK7 hs
    refine (HP8.out.back hk hur (by rw [Sg.thr_at, setF_nf]; have := HM.out; show (σ.Ts k).nf ≤ _; omega)).mono ?_; rintro _ w9 ⟨rfl, hm9, hk9⟩
    rw [Sg.thr_at, Sg.thr_thr] at hm9
    have HM9 := Lib.hid hm9; have HK9 := Lib.hid (HK8.out.trans hk9)
    clear hm9 hk9 hur
    go_wp2_with fail
    first | (refine bodyPost_end (v := .tuple #[]) (by simp [results, Tryz.results31, go_sem]) rfl ?_) | (refine bodyPost_ret (v := .tuple #[]) (by simp [results, Tryz.results31, go_sem]) rfl ?_)
    rw [HQ.out, HR.out]
    exact ⟨rfl, HM9.out, HK9.out⟩
  · have HR := Lib.hid (show rTick P k m σ = { σ.thr k (setF (σ.Ts k) m ⟨((σ.Ts k).fs m).fn, 1, updr ((σ.Ts k).fs m).r 0 (σ.f 0)⟩) with acc := σ.acc + 1 } by unfold rTick; rw [if_pos HPC.out, if_neg hs])
    go_wp2_with fail
    first | (refine bodyPost_end (v := .tuple #[]) (by simp [results, Tryz.results31, go_sem]) rfl ?_) | (refine bodyPost_ret (v := .tuple #[]) (by simp [results, Tryz.results31, go_sem]) rfl ?_)
    rw [HQ.out, HR.out]
    exact ⟨rfl, HP7.out.mm, HK7.out⟩
set_option maxRecDepth 8000 in
set_option maxHeartbeats 2000000 in
theorem tick1 {w : World} {P : Pc} {σ : Sg} (h : MM w P σ) {k m : Nat} (hk : k < P.t) (hm : (σ.Ts k).nf = m + 1) (hN : m ≤ 1000) (hpc : ((σ.Ts k).fs m).pc = 1) (a0 : 0 ≤ σ.acc) (a1 : σ.acc < 1000000) (hr : 0 ≤ ((σ.Ts k).fs m).r 0 ∧ ((σ.Ts k).fs m).r 0 < 18446744073709551615) :
    Calls Tryz.prog 31 #[.pointer (some ⟨P.q, 0, none⟩), .int .i64 k] w fun x w' => x = .returned (.tuple #[]) ∧ MM w' P (rTick P k m σ) ∧ KA P.B P.N w w' := by
  refine Calls.veil fun Q HQ => ?_
  obtain ⟨ps, fvs, hp⟩ := h.mp
  have HP := Lib.hid hp
  have hmm : m < (σ.Ts k).nf := by omega
  have HMM := Lib.hid hmm; have HM := Lib.hid hm; have HPC := Lib.hid hpc
  have hbb := h.bd
  have HR0 := Lib.hid hr
  clear h hp hmm hm hpc hr
  go_enter Tryz.func31, Tryz.ntmps31
  go_wp2_with fail
  refine (cThread_yes HP.out.c k hk).mono ?_; rintro _ w1 ⟨rfl, hb1⟩
  have HP1 := Lib.hid (HP.out.below hb1); have HB1 := Lib.hid hb1
  clear hb1
  go_wp2_with fail
  refine (HP1.out.top hk HM.out (by omega)).mono ?_; rintro _ w2 ⟨rfl, hb2⟩
  have HP2 := Lib.hid (HP1.out.below hb2); have HK2 := Lib.hid (KA.of_below (below_on HB1.out hb2) : KA P.B P.N w w2)
  clear hb2 HP1 HB1
  obtain ⟨fb, hfb⟩ : ∃ fb, fb = ps k m := ⟨_, rfl⟩
  have HFB := Lib.hid hfb
  rw [← hfb]
  clear hfb
  have f1 : w2.cell? ⟨fb, 1, none⟩ = some (.int .i64 1) := by rw [HFB.out, HP2.out.pc hk HMM.out, HPC.out]
  have f2 : w2.cell? ⟨fb, 2, none⟩ = some (.int .u64 (((σ.Ts k).fs m).r 0)) := by rw [HFB.out]; exact HP2.out.r hk HMM.out 0 (by omega)
  obtain ⟨r0, hr0⟩ : ∃ r0, r0 = ((σ.Ts k).fs m).r 0 := ⟨_, rfl⟩
  have HRE := Lib.hid hr0
  rw [← hr0] at f2
  have HR0 := Lib.hid (show 0 ≤ r0 ∧ r0 < 18446744073709551615 by rw [hr0]; exact HR0.out)
  have hwr : IntKind.u64.wrap (r0 + 1) = r0 + 1 := by have := HR0.out; rw [IntKind.wrap_u64]; omega
  clear hr0
  go_wp2_with fail
  refine (cMem HP2.out.c).mono ?_; rintro _ _ ⟨rfl, rfl⟩
  go_wp2_with fail
  refine (Mm.mcas _ _ _ _ _ _ 0 r0 (r0 + 1) _ _ HP2.out.c.mem a0 (by omega) (by have := HR0.out; omega) (by have := HR0.out; omega)).mono ?_; rintro _ w3 ⟨rfl, hm3, ho⟩
  rw [okA0 _ (by omega)] at hm3 ⊢
  simp only [Bool.true_and, Bool.not_true, Bool.or_false] at hm3 ⊢
  clear f1 f2 hwr
  cases hz : σ.f 0 == r0 with
  | true =>
    have hz0 : (σ.f 0 == r0) = true := hz
    (try rw [show (σ.f (0 : Int).toNat == r0) = true from hz0] at hm3)
    (try rw [show (σ.f (Int.toNat 0) == r0) = true from hz0])
    (try rw [hz] at hm3)
    (try rw [if_pos rfl] at hm3)
    obtain ⟨hp3, hk3⟩ := HP2.out.only ho (show Mm.MemAt w3 P.mb P.mg (3 + 8 * P.t + 7 * P.s) P.C (Mm.upd σ.f 0 (r0 + 1)) (σ.acc + 1) σ.flt from hm3)
    have HP3 := Lib.hid hp3; have HK3 := Lib.hid (HK2.out.trans hk3)
    have HR := Lib.hid (show rTick P k m σ = { σ.thr k (Th.backT (setS (σ.Ts k) 4 (.int .u64 r0)) 1 (fun _ => r0)) with acc := σ.acc + 1, f := Mm.upd σ.f 0 (r0 + 1) } by unfold rTick; rw [HPC.out, if_neg (by omega), ← HRE.out, if_pos hz0])
    clear hm3 ho hp3 hk3 HP2 HK2 hz hz0
    have s4 : w3.cell? ⟨P.tq k, 16, none⟩ = some ((σ.Ts k).ss 4) := HP3.out.ss hk 4 (by omega)
    have sf : ∀ i, w3.frozen? ⟨P.tq k, i, none⟩ = false := HP3.out.tfr hk
    go_upto_region 13 with fail
    clear s4 sf
    generalize hW : World.setCell _ _ _ = V
    obtain ⟨hp5, hk5⟩ : MP V P _ ps fvs ∧ KA P.B P.N w3 V := by rw [← hW]; exact HP3.out.setSS hk 4 (by omega) (.int .u64 r0) rfl
    have HP5 := Lib.hid hp5; have HK5 := Lib.hid (HK3.out.trans hk5)
    clear hW hp5 hk5 HP3 HK3
    go_wp2_with fail
    generalize hY : World.alloc _ _ = V2
    obtain ⟨hy, hby⟩ := Th.heapnewE hY
    obtain ⟨sb, hsb⟩ : ∃ sb, sb = V.heap.size := ⟨_, rfl⟩
    rw [← hsb] at hy ⊢
    have HP8 := Lib.hid (HP5.out.below hby); have HK8 := Lib.hid (HK5.out.trans (KA.of_below hby))
    have hur := ur_one hy
    clear hY hy hby hsb HP5 HK5
    refine (HP8.out.back hk hur (by rw [Sg.thr_at]; have := HM.out; show (σ.Ts k).nf ≤ _; omega)).mono ?_; rintro _ w9 ⟨rfl, hm9, hk9⟩
    rw [Sg.thr_at, Sg.thr_thr] at hm9
    have HM9 := Lib.hid hm9; have HK9 := Lib.hid (HK8.out.trans hk9)
    clear hm9 hk9 hur
    go_wp2_with fail
    first | (refine bodyPost_end (v := .tuple #[]) (by simp [results, Tryz.results31, go_sem]) rfl ?_) | (refine bodyPost_ret (v := .tuple #[]) (by simp [results, Tryz.results31, go_sem]) rfl ?_)
    rw [HQ.out, HR.out]
    exact ⟨rfl, HM9.out, HK9.out⟩
  | false =>
    have hz0 : (σ.f 0 == r0) = false := hz
    (try rw [show (σ.f (0 : Int).toNat == r0) = false from hz0] at hm3)
    (try rw [show (σ.f (Int.toNat 0) == r0) = false from hz0])
    (try rw [hz] at hm3)
    (try rw [if_neg (by decide)] at hm3)
    obtain ⟨hp3, hk3⟩ := HP2.out.only ho (show Mm.MemAt w3 P.mb P.mg (3 + 8 * P.t + 7 * P.s) P.C σ.f (σ.acc + 1) σ.flt from hm3)
    have HP3 := Lib.hid hp3; have HK3 := Lib.hid (HK2.out.trans hk3)
    have HR := Lib.hid (show rTick P k m σ = { σ.thr k (setF (σ.Ts k) m ⟨((σ.Ts k).fs m).fn, 0, ((σ.Ts k).fs m).r⟩) with acc := σ.acc + 1 } by unfold rTick; rw [HPC.out, if_neg (by omega), ← HRE.out, if_neg (by rw [hz0]; decide)])
    clear hm3 ho hp3 hk3 HP2 HK2 hz hz0
    have f1 : w3.cell? ⟨fb, 1, none⟩ = some (.int .i64 1) := by rw [HFB.out]; have := HP3.out.pc hk HMM.out; rw [HPC.out] at this; exact this
    have rf : ∀ i, w3.frozen? ⟨fb, i, none⟩ = false := fun i => by rw [HFB.out]; exact HP3.out.fr hk HMM.out i
    go_wp2_with fail
    clear f1 rf
    generalize hW : World.setCell _ _ _ = V
    obtain ⟨hp5, hk5⟩ : MP V P _ ps fvs ∧ KA P.B P.N w3 V := by rw [← hW, HFB.out]; exact HP3.out.setPC hk HMM.out 0
    have HP5 := Lib.hid hp5; have HK5 := Lib.hid (HK3.out.trans hk5)
    clear hW hp5 hk5 HP3 HK3
    first | (refine bodyPost_end (v := .tuple #[]) (by simp [results, Tryz.results31, go_sem]) rfl ?_) | (refine bodyPost_ret (v := .tuple #[]) (by simp [results, Tryz.results31, go_sem]) rfl ?_)
    rw [HQ.out, HR.out]
    exact ⟨rfl, HP5.out.mm, HK5.out⟩
end Go.Proofs.YtmokniemmiomfaaGreat

/- Layer 25: Do, at Tick; Tick alone. -/
namespace Go.Proofs.YtmokniemmiomfaaGreat
open Go.RowKit WordM EdgeM
set_option linter.unusedVariables false
set_option linter.unusedSimpArgs false
set_option maxRecDepth 8000 in
set_option maxHeartbeats 2000000 in
theorem cdo {w : World} {P : Pc} {σ : Sg} (h : MM w P σ) {k m : Nat} (hk : k < P.t) (hm : (σ.Ts k).nf = m + 1) (hN : m ≤ 1000) (hfn : ((σ.Ts k).fs m).fn = 60) (hpc : ((σ.Ts k).fs m).pc = 0 ∨ ((σ.Ts k).fs m).pc = 1) (a0 : 0 ≤ σ.acc) (a1 : σ.acc < 1000000) (hr : 0 ≤ ((σ.Ts k).fs m).r 0 ∧ ((σ.Ts k).fs m).r 0 < 18446744073709551615) :
    Calls Tryz.prog 17 #[.pointer (some ⟨P.q, 0, none⟩), .int .i64 k] w fun x w' => x = .returned (.tuple #[]) ∧ MM w' P (rTick P k m σ) ∧ KA P.B P.N w w' := by
  refine Calls.veil fun Q HQ => ?_
  obtain ⟨ps, fvs, hp⟩ := h.mp
  have HP := Lib.hid hp
  have hmm : m < (σ.Ts k).nf := by omega
  have HMM := Lib.hid hmm; have HM := Lib.hid hm; have HPC := Lib.hid hpc; have HFN := Lib.hid hfn; have HR := Lib.hid hr
  clear h hp hmm hm hpc hfn hr
  go_enter Tryz.func17, Tryz.ntmps17
  go_wp2_with fail
  refine (cThread_yes HP.out.c k hk).mono ?_; rintro _ w1 ⟨rfl, hb1⟩
  have HP1 := Lib.hid (HP.out.below hb1); have HB1 := Lib.hid hb1
  clear hb1
  go_wp2_with fail
  refine (HP1.out.top hk HM.out (by omega)).mono ?_; rintro _ w2 ⟨rfl, hb2⟩
  have HP2 := Lib.hid (HP1.out.below hb2); have HK2 := Lib.hid (KA.of_below (below_on HB1.out hb2) : KA P.B P.N w w2)
  clear hb2 HP1 HB1
  obtain ⟨fb, hfb⟩ : ∃ fb, fb = ps k m := ⟨_, rfl⟩
  have HFB := Lib.hid hfb
  rw [← hfb]
  clear hfb
  have f0 : w2.cell? ⟨fb, 0, none⟩ = some (.int .i64 60) := by rw [HFB.out, HP2.out.fn hk HMM.out, HFN.out]
  go_wp2_with fail
  clear f0
  have key : Calls Tryz.prog 31 #[.pointer (some ⟨P.q, 0, none⟩), .int .i64 k] w2 fun x w' => x = .returned (.tuple #[]) ∧ MM w' P (rTick P k m σ) ∧ KA P.B P.N w2 w' := by
    rcases HPC.out with e | e
    · exact tick0 HP2.out.mm hk HM.out hN e a0 a1
    · exact tick1 HP2.out.mm hk HM.out hN e a0 a1 HR.out
  refine key.mono ?_; rintro _ w3 ⟨rfl, hm3, hk3⟩
  have HM3 := Lib.hid hm3; have HK3 := Lib.hid (HK2.out.trans hk3)
  clear hm3 hk3 HP2 HK2
  go_wp2_with fail
  first | (refine bodyPost_end (v := .tuple #[]) (by simp [results, Tryz.results17, go_sem]) rfl ?_) | (refine bodyPost_ret (v := .tuple #[]) (by simp [results, Tryz.results17, go_sem]) rfl ?_)
  rw [HQ.out]
  exact ⟨rfl, HM3.out, HK3.out⟩
theorem cfC : ∀ (args : Array Value) (w : World), (callFunc 17 args).run Tryz.prog w = .ok (.enter 17 args) w := fun args w => by go_simp
/-! ### Tick, alone -/
theorem Sg.odds_one {σ : Sg} {a : Int} (h : σ.acc = a + 1) : σ.odds a = σ := by
  cases σ with | mk f acc flt H G sl steps odd Ts =>
  simp only at h
  have e : decide (1 < acc - a) = false := decide_eq_false (by omega)
  simp only [Sg.odds, e, Bool.or_false]
structure TkAt (σ0 σ : Sg) (k m : Nat) (F : Th.Fm) : Prop where
  nf : (σ.Ts k).nf = m + 1
  fs : (σ.Ts k).fs m = F
  oth : ∀ i, i ≠ k → σ.Ts i = σ0.Ts i
  ss : (σ.Ts k).ss = (σ0.Ts k).ss
theorem TkAt.set {σ0 σ σ' : Sg} {k m : Nat} {F F' : Th.Fm} (h : TkAt σ0 σ k m F) (e : σ'.Ts = fun i => if i = k then setF (σ.Ts k) m F' else σ.Ts i) : TkAt σ0 σ' k m F' := by
  refine ⟨?_, ?_, fun i hi => ?_, ?_⟩
  · rw [e]; simp only [if_true]; exact h.nf
  · rw [e]; simp only [if_true]; exact setF_fs _ _ _
  · rw [e]; simp only [if_neg hi]; exact h.oth i hi
  · rw [e]; simp only [if_true]; exact h.ss
theorem TkAt.call {σ : Sg} {k m : Nat} (hm : (σ.Ts k).nf = m) (fn : Int) (n : Nat) (R : Nat → Int) : TkAt σ (σ.thr k (Th.callT (σ.Ts k) fn n R)) k m ⟨fn, 0, fun i => if i < n then R i else 0⟩ := by
  subst hm
  refine ⟨?_, ?_, fun i hi => ?_, ?_⟩
  · unfold Sg.thr Th.callT; simp
  · unfold Sg.thr Th.callT Th.upM; simp
  · unfold Sg.thr; simp only [if_neg hi]
  · unfold Sg.thr Th.callT; simp
theorem rTick_acc (P : Pc) (k m : Nat) (σ : Sg) : (rTick P k m σ).acc = σ.acc + 1 ∧ (rTick P k m σ).steps = σ.steps ∧ (rTick P k m σ).odd = σ.odd ∧ (rTick P k m σ).flt = σ.flt ∧ (rTick P k m σ).sl = σ.sl ∧ ∀ i, i ≠ k → (rTick P k m σ).Ts i = σ.Ts i := by
  unfold rTick
  split
  · split <;> exact ⟨rfl, rfl, rfl, rfl, rfl, fun i hi => by unfold Sg.thr; simp only [if_neg hi]⟩
  · split <;> exact ⟨rfl, rfl, rfl, rfl, rfl, fun i hi => by unfold Sg.thr; simp only [if_neg hi]⟩
def tcS (P : Pc) (k m : Nat) (σ : Sg) : Nat → Sg
  | 0 => σ.thr k (Th.callT (σ.Ts k) 60 0 (fun _ => 0))
  | j + 1 => rTick P k m (tcS P k m σ j).stp
section
variable {P : Pc} {k m : Nat} {σ : Sg}
theorem tcS_acc : ∀ j : Nat, (tcS P k m σ j).acc = σ.acc + j ∧ (tcS P k m σ j).steps = σ.steps + j ∧ (tcS P k m σ j).odd = σ.odd ∧ (tcS P k m σ j).flt = σ.flt ∧ (tcS P k m σ j).sl = σ.sl
  | 0 => ⟨by show σ.acc = _; omega, by show σ.steps = _; omega, rfl, rfl, rfl⟩
  | j + 1 => by
    obtain ⟨h1, h2, h3, h4, h5⟩ := tcS_acc j
    obtain ⟨r1, r2, r3, r4, r5, _⟩ := rTick_acc P k m (tcS P k m σ j).stp
    refine ⟨?_, ?_, ?_, ?_, ?_⟩
    · show (rTick P k m _).acc = _
      rw [r1]; show (tcS P k m σ j).acc + 1 = _; rw [h1]; omega
    · show (rTick P k m _).steps = _
      rw [r2]; show (tcS P k m σ j).steps + 1 = _; rw [h2]; omega
    · exact r3.trans h3
    · exact r4.trans h4
    · exact r5.trans h5
variable (hm : (σ.Ts k).nf = m)
include hm
theorem tc0 : TkAt σ (tcS P k m σ 0) k m ⟨60, 0, fun i => if i < 0 then 0 else 0⟩ := TkAt.call hm 60 0 _
theorem tc1z (hz : P.K ≤ σ.f 0) : tcS P k m σ 1 = { (tcS P k m σ 0).stp.thr k (Th.backT (setF ((tcS P k m σ 0).Ts k) m ⟨60, 1, updr (fun i => if i < 0 then 0 else 0) 0 (σ.f 0)⟩) 1 (fun _ => 0)) with acc := σ.acc + 1 } := by
  have h0 := tc0 (P := P) hm
  show rTick P k m (tcS P k m σ 0).stp = _
  unfold rTick
  rw [show ((tcS P k m σ 0).stp.Ts k).fs m = _ from h0.fs, if_pos rfl, if_pos (show P.K ≤ (tcS P k m σ 0).stp.f 0 from hz)]
  rfl
theorem tc1z_ends (hz : P.K ≤ σ.f 0) : (tcS P k m σ 1).f = σ.f ∧ ((tcS P k m σ 1).Ts k).nf = m ∧ ((tcS P k m σ 1).Ts k).ret 0 = 0 ∧ ((tcS P k m σ 1).Ts k).ss = (σ.Ts k).ss ∧ ∀ i, i ≠ k → (tcS P k m σ 1).Ts i = σ.Ts i := by
  have h0 := tc0 (P := P) hm
  rw [tc1z hm hz]
  refine ⟨rfl, ?_, ?_, ?_, fun i hi => ?_⟩
  · unfold Sg.thr Th.backT setF; simp only [if_true]; show ((tcS P k m σ 0).Ts k).nf - 1 = m; rw [h0.nf]; omega
  · unfold Sg.thr Th.backT setF; simp
  · unfold Sg.thr Th.backT setF; simp only [if_true]; exact h0.ss
  · unfold Sg.thr; simp only [if_neg hi]; exact h0.oth i hi
variable (hz : ¬ P.K ≤ σ.f 0)
include hz
theorem tc1 : TkAt σ (tcS P k m σ 1) k m ⟨60, 1, updr (fun i => if i < 0 then 0 else 0) 0 (σ.f 0)⟩ ∧ (tcS P k m σ 1).f = σ.f := by
  have h0 := tc0 (P := P) hm
  have e : tcS P k m σ 1 = { (tcS P k m σ 0).stp.thr k (setF ((tcS P k m σ 0).Ts k) m ⟨60, 1, updr (fun i => if i < 0 then 0 else 0) 0 (σ.f 0)⟩) with acc := σ.acc + 1 } := by
    show rTick P k m (tcS P k m σ 0).stp = _
    unfold rTick
    rw [show ((tcS P k m σ 0).stp.Ts k).fs m = _ from h0.fs, if_pos rfl, if_neg (show ¬ P.K ≤ (tcS P k m σ 0).stp.f 0 from hz)]
    rfl
  rw [e]
  exact ⟨h0.set rfl, rfl⟩
theorem tc2 : (tcS P k m σ 2).f = Mm.upd σ.f 0 (σ.f 0 + 1) ∧ ((tcS P k m σ 2).Ts k).nf = m ∧ ((tcS P k m σ 2).Ts k).ret 0 = σ.f 0 ∧ ((tcS P k m σ 2).Ts k).ss 4 = .int .u64 (σ.f 0) ∧ ∀ i, i ≠ k → (tcS P k m σ 2).Ts i = σ.Ts i := by
  obtain ⟨h1, e1⟩ := tc1 (P := P) hm hz
  have e : tcS P k m σ 2 = { (tcS P k m σ 1).stp.thr k (Th.backT (setS ((tcS P k m σ 1).Ts k) 4 (.int .u64 (σ.f 0))) 1 (fun _ => σ.f 0)) with acc := (tcS P k m σ 1).acc + 1, f := Mm.upd (tcS P k m σ 1).f 0 (σ.f 0 + 1) } := by
    show rTick P k m (tcS P k m σ 1).stp = _
    unfold rTick
    rw [show ((tcS P k m σ 1).stp.Ts k).fs m = _ from h1.fs, if_neg (show ¬ (1 : Int) = 0 by omega), if_pos (show ((tcS P k m σ 1).stp.f 0 == (Th.Fm.mk 60 1 (updr (fun i => if i < 0 then 0 else 0) 0 (σ.f 0))).r 0) = true from by show ((tcS P k m σ 1).f 0 == σ.f 0) = true; rw [e1]; exact beq_self_eq_true _)]
    rfl
  rw [e]
  refine ⟨by rw [← e1], ?_, ?_, ?_, fun i hi => ?_⟩
  · unfold Sg.thr Th.backT setS; simp only [if_true]; show ((tcS P k m σ 1).Ts k).nf - 1 = m; rw [h1.nf]; omega
  · unfold Sg.thr Th.backT setS; simp
  · unfold Sg.thr Th.backT setS; simp
  · unfold Sg.thr; simp only [if_neg hi]; exact h1.oth i hi
end
theorem alone_tick {w : World} {P : Pc} {σ : Sg} (h : MM w P σ) {k m most : Nat} (hk : k < P.t) (hm : (σ.Ts k).nf = m) (hN : m ≤ 1000) (h4 : 2 ≤ most) (hmo : most ≤ 1000000) (hz : ¬ P.K ≤ σ.f 0)
    (a0 : 0 ≤ σ.acc) (a1 : σ.acc < 900000) (s0 : 0 ≤ σ.steps) (s1 : σ.steps < 900000) :
    Calls Tryz.prog 20 #[.pointer (some ⟨P.q, 0, none⟩), .int .i64 k, .func (.func 17) #[] #[], .int .i64 most, .int .i64 60, .slice none 0 0] w fun x w' => x = .returned (.tuple #[.int .i64 2, .bool true]) ∧ MM w' P (tcS P k m σ 2) ∧ KA P.B P.N w w' := by
  have hf0 := h.c.mem.rng 0 (by omega)
  have hK := mayC_true h.c.may
  have t0 := tc0 (P := P) hm
  obtain ⟨t1, f1⟩ := tc1 (P := P) hm hz
  obtain ⟨_, n2, _⟩ := tc2 (P := P) hm hz
  have ha := tcS_acc (P := P) (k := k) (m := m) (σ := σ)
  refine malone (L := 2) (n0 := m) (τ := tcS P k m σ) (ρ := fun j => rTick P k m (tcS P k m σ j).stp) h hk cfC (Th.UR.nil (fun _ => 0)) hm (by omega) (by omega) hmo rfl
    (fun j _ => (Sg.odds_one (rTick_acc _ _ _ _).1).symm) (fun j hj w' hm' _ => ?_) (fun j hj => ?_) (fun j hj => ?_) (fun j hj => ?_) (by rw [n2]; omega)
  · have hacc := ha j
    have h7 : (tcS P k m σ j).stp.acc = σ.acc + j := hacc.1
    rcases (by omega : j = 0 ∨ j = 1) with rfl | rfl
    · refine cdo hm' hk t0.nf hN ?_ ?_ (by omega) (by omega) ?_
      · rw [show ((tcS P k m σ 0).stp.Ts k).fs m = _ from t0.fs]
      · rw [show ((tcS P k m σ 0).stp.Ts k).fs m = _ from t0.fs]; simp
      · rw [show ((tcS P k m σ 0).stp.Ts k).fs m = _ from t0.fs]; simp
    · refine cdo hm' hk t1.nf hN ?_ ?_ (by omega) (by omega) ?_
      · rw [show ((tcS P k m σ 1).stp.Ts k).fs m = _ from t1.fs]
      · rw [show ((tcS P k m σ 1).stp.Ts k).fs m = _ from t1.fs]; simp
      · rw [show ((tcS P k m σ 1).stp.Ts k).fs m = _ from t1.fs]; simp [updr]; omega
  · have := (ha j).2.1; omega
  · have h1 : (rTick P k m (tcS P k m σ j).stp).acc = (tcS P k m σ j).acc + 1 := (rTick_acc _ _ _ _).1
    (try dsimp only)
    omega
  · rcases (by omega : j = 0 ∨ j = 1) with rfl | rfl
    · exact ⟨by rw [t0.nf]; omega, by rw [t0.nf]; omega⟩
    · exact ⟨by rw [t1.nf]; omega, by rw [t1.nf]; omega⟩
theorem alone_tick0 {w : World} {P : Pc} {σ : Sg} (h : MM w P σ) {k m most : Nat} (hk : k < P.t) (hm : (σ.Ts k).nf = m) (hN : m ≤ 1000) (h4 : 1 ≤ most) (hmo : most ≤ 1000000) (hz : P.K ≤ σ.f 0)
    (a0 : 0 ≤ σ.acc) (a1 : σ.acc < 900000) (s0 : 0 ≤ σ.steps) (s1 : σ.steps < 900000) :
    Calls Tryz.prog 20 #[.pointer (some ⟨P.q, 0, none⟩), .int .i64 k, .func (.func 17) #[] #[], .int .i64 most, .int .i64 60, .slice none 0 0] w fun x w' => x = .returned (.tuple #[.int .i64 1, .bool true]) ∧ MM w' P (tcS P k m σ 1) ∧ KA P.B P.N w w' := by
  have t0 := tc0 (P := P) hm
  obtain ⟨_, n1, _⟩ := tc1z_ends (P := P) hm hz
  have ha := tcS_acc (P := P) (k := k) (m := m) (σ := σ)
  refine malone (L := 1) (n0 := m) (τ := tcS P k m σ) (ρ := fun j => rTick P k m (tcS P k m σ j).stp) h hk cfC (Th.UR.nil (fun _ => 0)) hm (by omega) (by omega) hmo rfl
    (fun j _ => (Sg.odds_one (rTick_acc _ _ _ _).1).symm) (fun j hj w' hm' _ => ?_) (fun j hj => ?_) (fun j hj => ?_) (fun j hj => ?_) (by rw [n1]; omega)
  · obtain rfl : j = 0 := by omega
    have h7 : (tcS P k m σ 0).stp.acc = σ.acc + (0 : Nat) := (ha 0).1
    refine cdo hm' hk t0.nf hN ?_ ?_ (by omega) (by omega) ?_
    · rw [show ((tcS P k m σ 0).stp.Ts k).fs m = _ from t0.fs]
    · rw [show ((tcS P k m σ 0).stp.Ts k).fs m = _ from t0.fs]; simp
    · rw [show ((tcS P k m σ 0).stp.Ts k).fs m = _ from t0.fs]; simp
  · have := (ha j).2.1; omega
  · have h1 : (rTick P k m (tcS P k m σ j).stp).acc = (tcS P k m σ j).acc + 1 := (rTick_acc _ _ _ _).1
    (try dsimp only)
    omega
  · obtain rfl : j = 0 := by omega
    exact ⟨by rw [t0.nf]; omega, by rw [t0.nf]; omega⟩
end Go.Proofs.YtmokniemmiomfaaGreat
