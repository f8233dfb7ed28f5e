/- Layer 11: hist.Open. -/
import Derived.Test.YtmnmomiheenmpaaHisV
import Derived.Test.YtmnmomiheenmpaaHisS
import Derived.WalkMore
namespace Go.Proofs.Ytmnmomiheenmpaa
open Go.RowKit
set_option linter.unusedVariables false
set_option linter.unusedSimpArgs false
attribute [local go_sem] Oper.semAt_some
def mkD (D : Nat) : Deferred := { target := .collected D, args := #[] }
theorem leaves_marks {n : Nat} {P : Program} {fn : Func} {tmps : Array Value} {R : Ending → World → Prop} {v : Value} {wb : World} (hres : ∀ w, (results fn tmps).run P w = .ok v w) (hR : ∀ W, Below wb.heap.size wb W → R (.returned v) W) :
    ∀ (ds : List Nat) (w : World), ds.Nodup → (∀ D ∈ ds, wb.heap.size ≤ D ∧ w.heap[D]? = some (.deferred (some []))) → Below wb.heap.size wb w → LeavesInM Fence.wide n P fn tmps R (ds.map mkD) .returning w
  | [], w, _, _, hb => ⟨v, hres w, hR w hb⟩
  | D :: ds, w, hn, hd, hb => by
    obtain ⟨h1, h2⟩ := hd D (List.mem_cons_self ..)
    rw [List.nodup_cons] at hn
    refine ⟨by simp, .inl ⟨D, _, rfl, run_takeDeferred h2, leaves_marks hres hR ds _ hn.2 (fun E hE => ?_) (hb.trans (belowK_b (w := wb) (Nat.le_refl _) w D _ _ h1 h2 rfl rfl))⟩⟩
    obtain ⟨e1, e2⟩ := hd E (List.mem_cons_of_mem _ hE)
    exact ⟨e1, (World.putObj_heap_other (by intro e; subst e; exact hn.1 hE)).trans e2⟩
def NoOp (pre : List Told) : Prop := ∀ x ∈ pre, ¬ x.1.to < 0
def HasOp (pre : List Told) : Prop := ∃ x ∈ pre, x.1.to < 0
structure St (w : World) (Bn : Nat) (ds : List Nat) (cnt : Nat) (W : World) : Prop where
  box : Boxed W Bn 3 (.int .i64 cnt)
  marks : ∀ D ∈ ds, w.heap.size ≤ D ∧ W.heap[D]? = some (.deferred (some []))
  bel : Below w.heap.size w W
theorem St.grown {w : World} {Bn : Nat} {ds : List Nat} {cnt B : Nat} (hB : w.heap.size ≤ B) (hd : ∀ D ∈ ds, D < B) {W W' : World} {row : Option Nat} (hs : St w Bn ds cnt W) (hg : W.grownBy W' row) (hr : ∀ r, row = some r → B ≤ r ∧ ∃ o : Obj, W.heap[r]? = some o ∧ o.isCells = false) : St w Bn ds cnt W' := by
  refine ⟨hs.box.kept hg (fun e => ?_), fun D hD => ?_, hs.bel.grown hg hs.bel.size (fun k e => Nat.le_trans hB (hr k e).1)⟩
  · obtain ⟨_, o, ho, hc⟩ := hr Bn e.symm
    rw [show W.heap[Bn]? = _ from hs.box] at ho; cases ho; cases hc
  · obtain ⟨h1, h2⟩ := hs.marks D hD
    refine ⟨h1, (hg.block D (Array.getElem?_eq_some_iff.1 h2).1 (fun e => ?_)).trans h2⟩
    have := (hr D e.symm).1
    have := hd D hD
    omega
theorem St.below {w : World} {Bn : Nat} {ds : List Nat} {cnt : Nat} {W W' : World} (hs : St w Bn ds cnt W) (hb : Below W.heap.size W W') : St w Bn ds cnt W' :=
  ⟨(hb.block _ hs.box.lt).trans hs.box, fun D hD => ⟨(hs.marks D hD).1, (hb.block _ (Array.getElem?_eq_some_iff.1 (hs.marks D hD).2).1).trans (hs.marks D hD).2⟩, below_on hs.bel hb⟩
theorem R13.kept {w w' : World} {q : Nat} {x : Opr} {v : Value} (h : R13 w q x v) {row : Option Nat} (hg : w.grownBy w' row) (hr : ∀ r, row = some r → ∃ o : Obj, w.heap[r]? = some o ∧ o.isCells = false) : R13 w' q x v := by
  refine (hg.block q (Array.getElem?_eq_some_iff.1 h).1 (fun e => ?_)).trans h
  obtain ⟨o, ho, hc⟩ := hr q e.symm
  rw [show w.heap[q]? = _ from h] at ho; cases ho; cases hc
theorem openT_no {O : List Opr} {t : Nat} {xs : List Told} (h : xs.map (·.1) = thO t O) (hx : NoOp xs) : openT O t = false := by
  unfold openT
  rw [List.any_eq_false]
  intro x hxO
  rw [Bool.and_eq_true, decide_eq_true_eq, decide_eq_true_eq]
  rintro ⟨h1, h2⟩
  have : x ∈ thO t O := by unfold thO; rw [List.mem_filter]; exact ⟨hxO, decide_eq_true h1⟩
  rw [← h, List.mem_map] at this
  obtain ⟨y, hy, rfl⟩ := this
  exact hx y hy h2
theorem openT_yes {O : List Opr} {t k : Nat} {xs : List Told} (h : xs.map (·.1) = (thO t O).take k) (hx : HasOp xs) : openT O t = true := by
  obtain ⟨x, hx, hto⟩ := hx
  have h1 : x.1 ∈ xs.map (·.1) := List.mem_map.2 ⟨x, hx, rfl⟩
  rw [h] at h1
  have h2 := List.mem_of_mem_take h1
  unfold thO at h2
  rw [List.mem_filter] at h2
  unfold openT
  rw [List.any_eq_true]
  exact ⟨x.1, h2.1, by rw [Bool.and_eq_true]; exact ⟨h2.2, decide_eq_true hto⟩⟩
theorem openN_all {L : Nat → Ev} {n : Nat} (T : Nat) (hT : (T : Int) = if mayH L n then thrH L n else 0) : (List.range T).countP (openT (allO L n)) = if mayH L n then openN (stO L n).1 else 0 := by
  unfold allO
  cases hm : mayH L n with
  | true =>
    rw [hm] at hT
    simp only [if_true] at hT ⊢
    have h := open_cnt hm
    rw [← hT] at h
    exact h
  | false =>
    rw [hm] at hT
    simp only [Bool.false_eq_true, if_false] at hT ⊢
    have : T = 0 := by omega
    subst this
    rfl
theorem allO_len (L : Nat → Ev) (n : Nat) : (allO L n).length ≤ n := by
  unfold allO; split
  · exact stO_len L n
  · simp
theorem allO_ps {L : Nat → Ev} {n B : Nat} (h : ∀ i, i < n → (L i).an.ps.length ≤ B) : ∀ x ∈ allO L n, x.an.ps.length ≤ B := by
  unfold allO; split
  · exact stO_ps h n (Nat.le_refl _)
  · simp
set_option maxRecDepth 100000 in
set_option maxHeartbeats 8000000 in
theorem hopen (n : Nat) (L : Nat → Ev) (v : Value) (w : World) (h : VR w v n L) (hn : n ≤ 120) (hpl : ∀ i, i < n → (L i).an.ps.length ≤ 1500) : Calls Try.prog 15 #[v] w fun e w' => e = .returned (.int .i64 (if mayH L n then (openN (stO L n).1 : Nat) else 0)) ∧ Below w.heap.size w w' := by
  refine (callsIn_wide (n := 10)).1 ?_
  refine CallsIn.veil fun Q HQ => ?_
  obtain ⟨p, c, rfl, a1, a2, A3⟩ := h.parts
  have HV := Lib.hid h
  have HN := Lib.hid hn
  have HPL := Lib.hid hpl
  clear h hn hpl
  obtain ⟨T, hT⟩ : ∃ T : Nat, (T : Int) = if mayH L n then thrH L n else 0 := by
    cases hm : mayH L n with
    | true => have := thrH_rng hm n (Nat.le_refl _); exact ⟨(thrH L n).toNat, by rw [if_pos rfl]; omega⟩
    | false => exact ⟨0, rfl⟩
  have HT6 := Lib.hid (show T ≤ 6 by
    cases hm : mayH L n with
    | true => have := thrH_rng hm n (Nat.le_refl _); rw [hm, if_pos rfl] at hT; omega
    | false => rw [hm] at hT; simp at hT; omega)
  have HOC := Lib.hid (openN_all T hT)
  have ST := Lib.hid (fun x : Ext w => hthreads n L _ x.w (HV.out.below x.h) (by have := HN.out; omega))
  rw [← hT] at ST
  clear hT
  refine callsIn_of_wp_marks Try.func15 rfl trivial ?_ rfl
  simp only [Try.ntmps15, List.size_toArray, List.length_cons, List.length_nil, Nat.reduceAdd, Nat.reduceSub, Array.replicate_succ, Array.replicate_zero, List.push_toArray, List.append_toArray, List.nil_append, List.cons_append]
  refine wpIn_wide.2 ?_
  go_wp2_with fail
  go_step3
  go_wp2_with fail
  go_step3
  go_wp2_with fail
  generalize hV : World.alloc w _ = V1
  have HV1 := Lib.hid (show Below w.heap.size w V1 by rw [← hV]; exact below_new (Below.refl _ _) _)
  have HBX := Lib.hid (show Boxed V1 w.heap.size 3 (.int .i64 (0 : Nat)) by rw [← hV]; exact Boxed.new w _ _)
  clear hV
  refine (ST.out ⟨_, HV1.out⟩).mono ?_; rintro _ z1 ⟨rfl, hb1⟩
  have HS0 := Lib.hid (show St w w.heap.size [] 0 z1 from ⟨(hb1.block _ HBX.out.lt).trans HBX.out, by simp, below_on HV1.out hb1⟩)
  clear hb1
  go_wp2_with fail
  refine wp_loop (fun a wr => ∃ (k : Nat) (ds : List Nat) (cnt : Nat) (u4 u5 u9 u10 u11 u12 u13 u14 u15 u16 u17 u18 u19 u20 : Value), a = { tmps := #[.slice p n c, undef, .int .i64 0, .pointer (some ⟨w.heap.size, 0, none⟩), u4, u5, .slice p n c, .int .i64 T, .int .i64 k, u9, u10, u11, u12, u13, u14, u15, u16, u17, u18, u19, u20, undef], defers := ds.map mkD } ∧ k ≤ T ∧ Hid ds.Nodup ∧ Hid (cnt = (List.range k).countP (openT (allO L n))) ∧ Hid (St w w.heap.size ds cnt wr))
    (fun a _ => T - (intOf (a.tmps.getD 8 undef)).toNat) ?_ ?_
  · exact ⟨0, [], 0, _, _, _, _, _, _, _, _, _, _, _, _, _, _, rfl, by omega, Lib.hid List.nodup_nil, Lib.hid (by simp), HS0⟩
  · rintro a wr ⟨k, ds, cnt, u4, u5, u9, u10, u11, u12, u13, u14, u15, u16, u17, u18, u19, u20, rfl, hk, HND, HCN, HS⟩
    have HCK := Lib.hid (show cnt ≤ k by rw [HCN.out]; exact Nat.le_trans List.countP_le_length (by simp))
    have HKT := Lib.hid hk
    rcases (by omega : k < T ∨ k = T) with hlt | hEQ
    · have HLT := Lib.hid hlt
      go_wp2_with fail
      refine (heach n L k _ wr (HV.out.below HS.out.bel) (by have := HN.out; omega) (fun i hi => by have := HPL.out i hi; omega)).mono ?_
      rintro _ w1 ⟨b, q, ov, l, rfl, hcq, hcb, _, hqlt, _, hblt, hl, ho, hp, hb1⟩
      obtain ⟨p1, c1, rfl, d1, d2, D3⟩ := own_partsP ho (fun x hx => (hp x hx).1) hl
      clear ho hp hl
      have HS1 := Lib.hid (HS.out.below hb1)
      have HSW := Lib.hid (show w.heap.size ≤ w1.heap.size from HS1.out.bel.size)
      have HDB := Lib.hid (show ∀ D ∈ ds, D < w1.heap.size from fun D hD => (Array.getElem?_eq_some_iff.1 (HS1.out.marks D hD).2).1)
      have HAL := Lib.hid (show (allO L n).length ≤ 1000 by have := allO_len L n; have := HN.out; omega)
      have HAP := Lib.hid (show ∀ x ∈ allO L n, x.an.ps.length ≤ 100000 from allO_ps (fun i hi => by have := HPL.out i hi; omega))
      have HSEQ : SeqStopsK Fence.wide (10 - 1) Try.prog 21 #[.pointer (some ⟨b, 0, none⟩), .pointer (some ⟨q, 0, none⟩)] (fun x : Told => #[tv x]) (Below w1.heap.size) (fun xs => xs.map (·.1) = thO k (allO L n)) (fun pre => ∃ j, j ≤ (thO k (allO L n)).length ∧ pre.map (·.1) = (thO k (allO L n)).take j) (allO L n).length w1 :=
        fun l J Jx W hW hJ hJx hY h0 => hiter_in (10 - 1) (by omega) l b q c1 _ k (allO L n) w1 p1 rfl hcb hcq d1 d2 HAL.out D3 HAP J Jx W (Lib.hid hW) (Lib.hid hJ) (Lib.hid hY) (Lib.hid h0)
      clear d1 d2 D3 hcq hcb hqlt hblt hb1
      go_wp2_with fail
      refine (wpIn_wide (n := 10)).1 ?_
      refine wpIn_rangeFunc_ownH (F := Fence.wide) rfl (by omega) (gf := 21) (lb := #[.pointer (some ⟨b, 0, none⟩), .pointer (some ⟨q, 0, none⟩)]) rfl trivial (enters_of Try.func21 (by kernel_rfl) rfl) HSEQ belowK_t (belowK_b (Nat.le_refl _)) (Below.refl _ _) (fun _ => rfl)
        (fun pre W => NoOp pre ∧ St w w.heap.size ds cnt W ∧ w1.heap.size ≤ W.heap.size)
        (fun cc pre W => cc = Code.exit 1 ∧ HasOp pre ∧ St w w.heap.size ds (cnt + 1) W)
        (fun pre X Y row hs hg hr => ⟨hs.1, hs.2.1.grown HSW.out HDB.out hg hr, Nat.le_trans hs.2.2 hg.size⟩)
        (fun cc pre X Y row hs hg hr => ⟨hs.1, hs.2.1, hs.2.2.grown HSW.out HDB.out hg hr⟩)
        ⟨by intro x hx; simp at hx, HS1.out, Nat.le_refl _⟩
        (fun x a' W => ∃ Bx, R13 W Bx x.1 (.slice x.2.1 x.1.an.ps.length x.2.2) ∧ a' = { tmps := #[.slice p n c, undef, .int .i64 0, .pointer (some ⟨w.heap.size, 0, none⟩), .int .i64 k, .pointer (some ⟨Bx, 0, none⟩), .slice p n c, .int .i64 T, .int .i64 k, .bool true, .int .i64 k, .slice p n c, .int .i64 k, .func (.func 21) #[] #[.pointer (some ⟨b, 0, none⟩), .pointer (some ⟨q, 0, none⟩)], tv x, u15, u16, u17, u18, u19, u20, undef], defers := [] })
        (fun x a' _ X Y row hs hg hr => by obtain ⟨Bx, h1, h3⟩ := hs; exact ⟨Bx, h1.kept hg (fun r e => (hr r e).2), h3⟩)
        ?assign ?body ?done ?stop
      case assign =>
        rintro l pre x W K ⟨hi1, hi2, hi3⟩ hK
        dsimp only [tv] at hK ⊢
        gi_wp2
        exact hK _ _ ((KeepsOthers.alloc _ _).from _) ((Below.refl _ W).alloc hi3 _) ⟨hi1, hi2.below ((Below.refl _ _).alloc (Nat.le_refl _) _), by simp; omega⟩ ⟨W.heap.size, heap_alloc_new W _, rfl⟩
      case body =>
        rintro l pre x a' W hl ⟨r, hr⟩ ⟨hpre, hSt, hsz⟩ ⟨Bx, hR, rfl⟩ hlen
        have e12 := hR.cells.c12
        rw [Nat.zero_add] at e12
        have HSt := Lib.hid hSt
        have HCK2 := HCK.out
        have HT62 := HT6.out
        have hbc := hSt.box.cell
        have hbf := hSt.box.frozen
        clear hR hr hSt
        have HNO := Lib.hid hpre
        clear hpre
        by_cases hto : x.1.to < 0
        · gi_wp2
          refine ⟨(KeepsOthers.setCell _ _ _).from _, rfl, ⟨x, by simp, hto⟩, ⟨?_, fun D hD => ⟨(HSt.out.marks D hD).1, ?_⟩, HSt.out.bel.setCell (p := ⟨w.heap.size, 0, none⟩) (Nat.le_refl _) _⟩⟩
          · exact HSt.out.box.set _
          · rw [Below.heap_setCell _ _ _ _ (by
              intro e
              have h1 := (HSt.out.marks D hD).2
              simp only at e
              rw [e, show W.heap[w.heap.size]? = _ from HSt.out.box] at h1
              cases h1)]
            exact (HSt.out.marks D hD).2
        · gi_wp2
          refine ⟨(KeepsOthers.refl _).from _, Below.refl _ _, ?_, HSt.out, hsz⟩
          intro y hy
          rcases List.mem_append.1 hy with hy | hy
          · exact HNO.out y hy
          · rw [List.mem_singleton] at hy; subst hy; omega
      case done =>
        rintro D ys W hD hSS ⟨hpre, hSt, hsz⟩ hK
        have HC2 := Lib.hid (show cnt = (List.range (k + 1)).countP (openT (allO L n)) by
          rw [List.range_succ, List.countP_append, HCN.out]
          simp [openT_no hSS hpre])
        have HS2 := Lib.hid (show St w w.heap.size (D :: ds) cnt W from ⟨hSt.box, fun E hE => by
          rcases List.mem_cons.1 hE with rfl | hE
          · exact ⟨Nat.le_trans HSW.out hD, hK⟩
          · exact hSt.marks E hE, hSt.bel⟩)
        have HND2 := Lib.hid (show (D :: ds).Nodup from List.nodup_cons.2 ⟨fun h => by have := HDB.out D h; omega, HND.out⟩)
        clear hSt hK hSS hpre
        dsimp only
        go_wp2_with fail
        rw [show Value.int .i64 (wrap64 ((k : Int) + 1)) = .int .i64 ((k + 1 : Nat) : Int) by
          rw [show wrap64 ((k : Int) + 1) = ((k + 1 : Nat) : Int) by unfold wrap64; have := HT6.out; have := HLT.out; omega]]
        refine ⟨⟨k + 1, D :: ds, cnt, _, _, _, _, _, _, _, _, _, _, _, _, _, _, rfl, by have := HLT.out; omega, HND2, HC2, HS2⟩, ?_⟩
        have := HLT.out
        simp [intOf]; omega
      case stop =>
        rintro D cc pre W hD ⟨j, hj, hSp⟩ ⟨rfl, hex, hSt⟩ hK
        have HC2 := Lib.hid (show cnt + 1 = (List.range (k + 1)).countP (openT (allO L n)) by
          rw [List.range_succ, List.countP_append, HCN.out]
          simp [openT_yes hSp hex])
        have HS2 := Lib.hid (show St w w.heap.size (D :: ds) (cnt + 1) W from ⟨hSt.box, fun E hE => by
          rcases List.mem_cons.1 hE with rfl | hE
          · exact ⟨Nat.le_trans HSW.out hD, hK⟩
          · exact hSt.marks E hE, hSt.bel⟩)
        have HND2 := Lib.hid (show (D :: ds).Nodup from List.nodup_cons.2 ⟨fun h => by have := HDB.out D h; omega, HND.out⟩)
        clear hSt hK hSp hex hj
        refine wpIn_wide.2 ?_
        dsimp only
        go_wp2_with fail
        rw [show Value.int .i64 (wrap64 ((k : Int) + 1)) = .int .i64 ((k + 1 : Nat) : Int) by
          rw [show wrap64 ((k : Int) + 1) = ((k + 1 : Nat) : Int) by unfold wrap64; have := HT6.out; have := HLT.out; omega]]
        refine ⟨⟨k + 1, D :: ds, cnt + 1, _, _, _, _, _, _, _, _, _, _, _, _, _, _, rfl, by have := HLT.out; omega, HND2, HC2, HS2⟩, ?_⟩
        have := HLT.out
        simp [intOf]; omega
    · have hge : ¬ k < T := by omega
      have hbc := HS.out.box.cell
      have HC2 := Lib.hid (show cnt = if mayH L n then openN (stO L n).1 else 0 by rw [HCN.out, hEQ]; exact HOC.out)
      clear hEQ
      go_wp2_with fail
      refine leaves_marks (fun W => results_tmp (t := 2) rfl _ _ W) (fun W hW => ?_) ds wr HND.out HS.out.marks HS.out.bel
      rw [HQ.out]
      refine ⟨?_, hW⟩
      show Ending.returned (.int .i64 (cnt : Int)) = _
      rw [HC2.out]
      congr 2
      split <;> rfl
end Go.Proofs.Ytmnmomiheenmpaa
