/- Layer 10: a state's copy. -/
import Derived.Test.YtkgfhomoipbjoaaDoorModA
import Derived.Deep.CutRange
import Derived.Deep.RegionWith
namespace Go.Proofs.YtkgfhomoipbjoaaDoor
open Go.RowKit
set_option linter.unusedVariables false
set_option linter.unusedSimpArgs false
theorem heapnew {U w2 : World} {o : Obj} (h : Below (U.alloc o).heap.size (U.alloc o) w2) : w2.heap[U.heap.size]? = some o :=
  (h.block _ (by simp)).trans (heap_alloc_new U o)
theorem drew_made {w w4 : World} {o : Obj} (hb : Below ((w.alloc o).drew).heap.size (w.alloc o).drew w4) : Below (w.alloc o).heap.size (w.alloc o) w4 := ((Below.refl _ _).drew).trans hb
/-- What region 1 of copied leaves. -/
def CopD (V : World) (st : Sm) (p3 : Value) (wc : World) : Prop :=
  ∃ R mv tv fv B, p3 = .pointer (some ⟨R, 0, none⟩) ∧ V.heap.size ≤ R ∧ V.heap.size ≤ B ∧ wc.heap[R]? = some (.cells #[mv, tv] 27 (0, 0)) ∧ PO wc mv st.mp ∧ OwnT 60 wc B tv st.n st.th fv ∧ Below V.heap.size V wc ∧
    ∀ g c m, tv = .slice (some ⟨g, 0, none⟩) m c → 0 < m → g ≠ R
theorem OwnT.below {T : TypeId} {w w' : World} {B : Nat} {v : Value} {n : Nat} {L : Nat → Se} {fv : Nat → Value} (h : OwnT T w B v n L fv) (k : Below w.heap.size w w') : OwnT T w' B v n L fv := by
  obtain ⟨hp, h | ⟨g, c, e, h1, h2, h3, h4⟩⟩ := h
  · exact ⟨fun i hi => (hp i hi).below k, .inl h⟩
  · exact ⟨fun i hi => (hp i hi).below k, .inr ⟨g, c, e, h1, h2, h3, h4.below k⟩⟩
theorem OwnT.block {T : TypeId} {w : World} {B : Nat} {v : Value} {n : Nat} {L : Nat → Se} {fv : Nat → Value} (h : OwnT T w B v n L fv) : ∀ g c m, v = .slice (some ⟨g, 0, none⟩) m c → 0 < m → B ≤ g ∧ g < w.heap.size := by
  intro g c m e hm
  obtain ⟨hp, ⟨rfl, (rfl | ⟨a, c', rfl, hc⟩)⟩ | ⟨g', c', rfl, h1, h2, h3, h4⟩⟩ := h
  · cases e
  · simp only [Value.slice.injEq] at e; omega
  · simp only [Value.slice.injEq, Option.some.injEq, Addr.mk.injEq] at e
    have := h4.lt
    omega
theorem OwnT.slice {T : TypeId} {w : World} {B : Nat} {v : Value} {n : Nat} {L : Nat → Se} {fv : Nat → Value} (h : OwnT T w B v n L fv) : ∃ p c, v = .slice p n c := by
  obtain ⟨hp, ⟨rfl, (rfl | ⟨a, c', rfl, hc⟩)⟩ | ⟨g', c', rfl, h1, h2, h3, h4⟩⟩ := h
  · exact ⟨_, _, rfl⟩
  · exact ⟨_, _, rfl⟩
  · exact ⟨_, _, rfl⟩
theorem OwnT.zero {T : TypeId} {w : World} {B : Nat} {v : Value} {L : Nat → Se} {fv : Nat → Value} (h : OwnT T w B v 0 L fv) : v = .slice none 0 0 ∨ ∃ a c, v = .slice (some a) 0 c ∧ c ≤ 9223372036854775807 := by
  obtain ⟨hp, ⟨_, h⟩ | ⟨g', c', rfl, h1, h2, h3, h4⟩⟩ := h
  · exact h
  · exact .inr ⟨_, _, rfl, h2⟩
theorem OwnT.pos {T : TypeId} {w : World} {B : Nat} {v : Value} {n : Nat} {L : Nat → Se} {fv : Nat → Value} (h : OwnT T w B v n L fv) (hn : 0 < n) : (∀ i, i < n → PO w (fv i) (L i).fz) ∧ ∃ g c, v = .slice (some ⟨g, 0, none⟩) n c ∧ n ≤ c ∧ c ≤ 9223372036854775807 ∧ B ≤ g ∧ RowF T w g (n * 4) (cell4 L fv) := by
  obtain ⟨hp, ⟨h0, _⟩ | h⟩ := h
  · omega
  · exact ⟨hp, h⟩
def updW (f : Nat → Value) (i : Nat) (v : Value) : Nat → Value := fun j => if j = i then v else f j
theorem cell4_updW (L : Nat → Se) (fv : Nat → Value) (i : Nat) (v : Value) (j : Nat) : (if j = i * 4 + 2 then v else cell4 L fv j) = cell4 L (updW fv i v) j := by
  by_cases e : j = i * 4 + 2
  · subst e; rw [if_pos rfl, cell4_2]; unfold updW; rw [if_pos rfl]
  · rw [if_neg e]
    unfold cell4
    split
    · rfl
    · split
      · rfl
      · split
        · unfold updW; rw [if_neg (by omega)]
        · rfl
theorem NP.row {T : TypeId} {w : World} {g m i : Nat} {F : Nat → Value} (h : RowF T w g m F) (v : Value) (hT : T ≠ 75) : NP w (w.setCell ⟨g, i, none⟩ v) := by
  obtain ⟨cur, h1, _⟩ := h
  exact NP.set v h1 hT
theorem copd_a {V w2 : World} {st : Sm} {mv tv : Value} {fv : Nat → Value} {B : Nat} (p : PO w2 mv st.mp) (o : OwnT 60 w2 B tv st.n st.th fv) (hB : V.heap.size ≤ B) (hb : Below V.heap.size V w2) :
    CopD V st (.pointer (some ⟨w2.heap.size, 0, none⟩)) (w2.alloc (.cells #[mv, tv] 27)) := by
  have k : Below w2.heap.size w2 (w2.alloc (.cells #[mv, tv] 27)) := (Below.refl _ _).alloc (Nat.le_refl _) _
  exact ⟨_, mv, tv, fv, B, rfl, hb.size, hB, heap_alloc_new w2 _, p.below k, o.below k, hb.alloc hb.size _, fun g c m e hm => by have := (o.block g c m e hm).2; omega⟩
theorem copd_b {V w2 : World} {st : Sm} {mv tv x y : Value} {fv : Nat → Value} {B R : Nat} (p : PO w2 mv st.mp) (o : OwnT 60 w2 B tv st.n st.th fv) (hB : V.heap.size ≤ B) (hb : Below V.heap.size V w2) (rh : w2.heap[R]? = some (.cells #[x, y] 27 (0, 0))) (hR : V.heap.size ≤ R) (hRB : R < B) :
    CopD V st (.pointer (some ⟨R, 0, none⟩)) ((w2.setCell ⟨R, 0, none⟩ mv).setCell ⟨R, 1, none⟩ tv) := by
  have hT : 27 ≠ 75 := by decide
  have rh1 := heap_setCell_same w2 R 0 _ _ mv rh
  have k : NP w2 ((w2.setCell ⟨R, 0, none⟩ mv).setCell ⟨R, 1, none⟩ tv) := (NP.set mv rh hT).trans (NP.set tv rh1 hT)
  have hg : ∀ g, B ≤ g → ((w2.setCell ⟨R, 0, none⟩ mv).setCell ⟨R, 1, none⟩ tv).heap[g]? = w2.heap[g]? := fun g hg => by
    rw [Below.heap_setCell _ _ _ _ (by show g ≠ R; omega), Below.heap_setCell _ _ _ _ (by show g ≠ R; omega)]
  refine ⟨R, mv, tv, fv, B, rfl, hR, hB, ?_, p.np k, ⟨fun i hi => (o.1 i hi).np k, ?_⟩, below_setB (below_setB hb hR) hR, fun g c m e hm => by have := (o.block g c m e hm).1; omega⟩
  · rw [heap_setCell_same _ R 1 _ _ _ rh1]; rfl
  · rcases o.2 with h | ⟨g, c, e, h1, h2, h3, h4⟩
    · exact .inl h
    · exact .inr ⟨g, c, e, h1, h2, h3, h4.of (hg g h3)⟩
set_option maxRecDepth 16000 in
set_option maxHeartbeats 8000000 in
theorem mcopied {w : World} {st : Sm} {mv tv : Value} (hm : PR w mv st.mp) (ht : TR w tv st.n st.th) (hn : st.n ≤ 6) (hl : st.mp.length ≤ 10000) (hf : ∀ i, i < st.n → (st.th i).fz.length ≤ 10000) :
    Calls Tryd.prog 12 #[.agg #[mv, tv]] w fun e w' => ∃ mv' tv' fv, e = .returned (.agg #[mv', tv']) ∧ PO w' mv' st.mp ∧ OwnT 60 w' w.heap.size tv' st.n st.th fv ∧ Below w.heap.size w w' := by
  refine Calls.veil fun Q HQ => ?_
  have HM := Lib.hid hm
  have HT := Lib.hid ht
  have HN := Lib.hid hn
  have HL := Lib.hid hl
  have HF := Lib.hid hf
  obtain ⟨tp, tc, rfl, t1, t2, t3⟩ := ht.slice
  obtain ⟨mp, mc, rfl, m1, m2⟩ := hm.slice
  clear hm ht hn hl hf t3
  go_enter Tryd.func12, Tryd.ntmps12
  go_upto_region 1 with fail
  generalize hU : World.alloc _ _ = U
  have hBU : Below w.heap.size w U := by rw [← hU]; (repeat (first | exact Below.refl _ _ | assumption | refine below_new ?_ _ | refine Below.drew ?_ | refine below_drewN ?_ _ | refine below_on ?_ (by assumption)))
  have hz : U.heap.size = w.heap.size + 1 + 1 := by rw [← hU]; simp
  have e1 : (w.alloc (.cells #[.slice mp st.mp.length mc, .slice tp st.n tc] 27)).heap.size = w.heap.size + 1 := by simp
  have b1 : Below (w.heap.size + 1) (w.alloc (.cells #[.slice mp st.mp.length mc, .slice tp st.n tc] 27)) U := by
    rw [← hU, ← e1]; (repeat (first | exact Below.refl _ _ | assumption | refine below_new ?_ _ | refine Below.drew ?_ | refine below_drewN ?_ _ | refine below_on ?_ (by assumption)))
  have z0 : U.cell? ⟨w.heap.size, 0, none⟩ = some (.slice mp st.mp.length mc) := Ext.made_in rfl (by rw [e1]; exact b1) 0 _ rfl
  have z1 : U.cell? ⟨w.heap.size, 1, none⟩ = some (.slice tp st.n tc) := Ext.made_in rfl (by rw [e1]; exact b1) 1 _ rfl
  have hq : U.heap[w.heap.size + 1]? = some (.cells #[.slice none 0 0, .slice none 0 0] 27 (0, 0)) := by rw [← e1, ← hU]; exact heap_alloc_new _ _
  have HPM := Lib.hid (HM.out.below hBU)
  have HPT := Lib.hid (HT.out.below hBU)
  clear hU b1 e1
  have HBW := Lib.hid hBU
  generalize hB : w.heap.size = B at *
  have HZ := Lib.hid hz
  have HBE := Lib.hid hB
  have HQ1 := Lib.hid hq
  clear hz hB hBU hq
  have z0a := fun o => Ext.on z0 o
  have z1a := fun o => Ext.on z1 o
  have z0x := Ext.cells z0
  have z1x := Ext.cells z1
  have C1 := fun (W : World) (k : Below U.heap.size U W) => pcloneO st.mp _ W (HPM.out.below k) (by have := HL.out; omega)
  have C2 := fun (W : World) (k : Below U.heap.size U W) => sclone10 st.n st.th _ W (HPT.out.below k) (by have := HN.out; omega)
  have C1 := Lib.hid C1
  have C2 := Lib.hid C2
  go_cut [3] from 5 to 31 (fun p3 wc => CopD U st p3 wc)
  case first =>
    go_region_with (first
      | (go_at_call 28; (with_reducible refine (C1.out _ (by (repeat (first | exact Below.refl _ _ | assumption | refine below_new ?_ _ | refine Below.drew ?_ | refine below_drewN ?_ _ | refine below_on ?_ (by assumption))))).mono ?_); rintro _ w1 ⟨mv1, rfl, hp1, hb1⟩; obtain ⟨p1, c1, rfl, _, _⟩ := hp1.1.slice; have HP1 := Lib.hid hp1; clear hp1; have z0y := Ext.use z0x (show Below U.heap.size U w1 by (repeat (first | exact Below.refl _ _ | assumption | refine below_new ?_ _ | refine Below.drew ?_ | refine below_drewN ?_ _ | refine below_on ?_ (by assumption)))); have z1y := Ext.use z1x (show Below U.heap.size U w1 by (repeat (first | exact Below.refl _ _ | assumption | refine below_new ?_ _ | refine Below.drew ?_ | refine below_drewN ?_ _ | refine below_on ?_ (by assumption)))); have z1z := Ext.on z1y)
      | (go_at_call 29; (with_reducible refine (C2.out _ (by (repeat (first | exact Below.refl _ _ | assumption | refine below_new ?_ _ | refine Below.drew ?_ | refine below_drewN ?_ _ | refine below_on ?_ (by assumption))))).mono ?_); rintro _ w2 ⟨tv2, fv2, rfl, ho2, hb2⟩; obtain ⟨p2, c2, rfl⟩ := ho2.slice; have HO2 := Lib.hid ho2; clear ho2; (try (have yh1 := heapnew (below_on (drew_made hb1) hb2); have yf1 : ∀ i, w2.frozen? ⟨U.heap.size, i, none⟩ = false := (fun i => frozen_of_row _ _ _ _ _ yh1); have yc1 : w2.cell? ⟨U.heap.size, 0, none⟩ = some (.slice none 0 0) := (by rw [cell_of_row _ _ _ _ _ (0, 0) yh1]; rfl); have yd1 : w2.cell? ⟨U.heap.size, 1, none⟩ = some (.slice none 0 0) := (by rw [cell_of_row _ _ _ _ _ (0, 0) yh1]; rfl); have YH1 := Lib.hid yh1; clear yh1)); (try (have yh2 := heapnew hb2; have yf2 : ∀ i, w2.frozen? ⟨w1.heap.size, i, none⟩ = false := (fun i => frozen_of_row _ _ _ _ _ yh2); have yc2 : w2.cell? ⟨w1.heap.size, 0, none⟩ = some (.slice none 0 0) := (by rw [cell_of_row _ _ _ _ _ (0, 0) yh2]; rfl); have yd2 : w2.cell? ⟨w1.heap.size, 1, none⟩ = some (.slice none 0 0) := (by rw [cell_of_row _ _ _ _ _ (0, 0) yh2]; rfl); have YH2 := Lib.hid yh2; clear yh2)); (try (have yh3 := heapnew (drew_made hb2); have yf3 : ∀ i, w2.frozen? ⟨w1.heap.size, i, none⟩ = false := (fun i => frozen_of_row _ _ _ _ _ yh3); have yc3 : w2.cell? ⟨w1.heap.size, 0, none⟩ = some (.slice none 0 0) := (by rw [cell_of_row _ _ _ _ _ (0, 0) yh3]; rfl); have yd3 : w2.cell? ⟨w1.heap.size, 1, none⟩ = some (.slice none 0 0) := (by rw [cell_of_row _ _ _ _ _ (0, 0) yh3]; rfl); have YH3 := Lib.hid yh3; clear yh3))))
    all_goals
      go_wp2_with fail
      go_meet
      case rel =>
        first
          | exact copd_a (HP1.out.below (by (repeat (first | exact Below.refl _ _ | assumption | refine below_new ?_ _ | refine Below.drew ?_ | refine below_drewN ?_ _ | refine below_on ?_ (by assumption))))) HO2.out (by have := hb1.size; have := hb2.size; simp at *; omega) (by (repeat (first | exact Below.refl _ _ | assumption | refine below_new ?_ _ | refine Below.drew ?_ | refine below_drewN ?_ _ | refine below_on ?_ (by assumption))))
          | exact copd_b (HP1.out.below (by (repeat (first | exact Below.refl _ _ | assumption | refine below_new ?_ _ | refine Below.drew ?_ | refine below_drewN ?_ _ | refine below_on ?_ (by assumption))))) HO2.out (by have := hb1.size; have := hb2.size; simp at *; omega) (by (repeat (first | exact Below.refl _ _ | assumption | refine below_new ?_ _ | refine Below.drew ?_ | refine below_drewN ?_ _ | refine below_on ?_ (by assumption)))) YH1.out (Nat.le_refl _) (by have := hb1.size; simp at *; omega)
          | exact copd_b (HP1.out.below (by (repeat (first | exact Below.refl _ _ | assumption | refine below_new ?_ _ | refine Below.drew ?_ | refine below_drewN ?_ _ | refine below_on ?_ (by assumption))))) HO2.out (by have := hb1.size; have := hb2.size; simp at *; omega) (by (repeat (first | exact Below.refl _ _ | assumption | refine below_new ?_ _ | refine Below.drew ?_ | refine below_drewN ?_ _ | refine below_on ?_ (by assumption)))) YH2.out (by have := hb1.size; simp at *; omega) (by simp)
          | exact copd_b (HP1.out.below (by (repeat (first | exact Below.refl _ _ | assumption | refine below_new ?_ _ | refine Below.drew ?_ | refine below_drewN ?_ _ | refine below_on ?_ (by assumption))))) HO2.out (by have := hb1.size; have := hb2.size; simp at *; omega) (by (repeat (first | exact Below.refl _ _ | assumption | refine below_new ?_ _ | refine Below.drew ?_ | refine below_drewN ?_ _ | refine below_on ?_ (by assumption)))) YH3.out (by have := hb1.size; simp at *; omega) (by simp)
  case rest =>
    obtain ⟨R, mv1, tv1, fv, Bt, rfl, hR, hBt, hh, hpm, hot, hb, hne⟩ := hcut
    have HH := Lib.hid hh
    have HPO := Lib.hid hpm
    have HBU := Lib.hid (show Below B w wc from HBW.out.trans (hb.mono (by have := HZ.out; omega)))
    have HRB := Lib.hid (show B + 1 < R ∧ B + 1 < Bt by have := HZ.out; omega)
    have q0 : wc.cell? ⟨B + 1, 0, none⟩ = some (.slice none 0 0) := by
      have h1 := HQ1.out
      have h2 := (hb.block (B + 1) (by have := HZ.out; omega)).trans h1
      rw [cell_of_row _ _ _ _ _ (0, 0) h2]; rfl
    have q1 : wc.cell? ⟨B + 1, 1, none⟩ = some (.slice none 0 0) := by
      have h1 := HQ1.out
      have h2 := (hb.block (B + 1) (by have := HZ.out; omega)).trans h1
      rw [cell_of_row _ _ _ _ _ (0, 0) h2]; rfl
    have HQF := Lib.hid (show wc.heap[B + 1]? = some (.cells #[.slice none 0 0, .slice none 0 0] 27 (0, 0)) from (hb.block (B + 1) (by have := HZ.out; omega)).trans HQ1.out)
    obtain ⟨p9, c9, rfl, _, _⟩ := hpm.1.slice
    clear z0 z1 z0a z1a z0x z1x hpm hb
    rcases (by omega : st.n = 0 ∨ 0 < st.n) with hn0 | hnp
    · have hv := (show OwnT 60 wc Bt tv1 0 st.th fv from hn0 ▸ hot).zero
      obtain ⟨p2, c2, rfl⟩ : ∃ p2 c2, tv1 = .slice p2 0 c2 := by
        rcases hv with rfl | ⟨a, c, rfl, _⟩
        · exact ⟨_, _, rfl⟩
        · exact ⟨_, _, rfl⟩
      have HV := Lib.hid hv
      have HN0 := Lib.hid hn0
      have r0 : wc.cell? ⟨R, 0, none⟩ = some (.slice p9 st.mp.length c9) := by rw [cell_of_row _ _ _ _ _ (0, 0) hh]; rfl
      have r1 : wc.cell? ⟨R, 1, none⟩ = some (.slice p2 0 c2) := by rw [cell_of_row _ _ _ _ _ (0, 0) hh]; rfl
      have qf : ∀ i, wc.frozen? ⟨B + 1, i, none⟩ = false := fun i => frozen_of_row _ _ _ _ _ HQF.out
      clear hh hot hv hn0 hR hBt hne
      go_wp2_with fail
      go_loopw [15] (fun iv wr => iv = .int .i64 0 ∧ wr = wc) (fun iv _ => 0)
      case atStart => exact ⟨rfl, rfl⟩
      case round =>
        obtain ⟨rfl, hwr⟩ := hrel
        have hwr := hwr.symm
        subst hwr
        go_wp2_with fail
        refine bodyPost_ret (v := .agg #[.slice p9 st.mp.length c9, .slice p2 0 c2]) (by simp [results, Tryd.results12, go_sem, q0, q1, World.cell?_setCell_same, World.cell?_setCell_other]) rfl ?_
        rw [HQ.out]
        have hT : 27 ≠ 75 := by decide
        have rh1 := heap_setCell_same _ (B + 1) 0 _ _ (.slice p9 st.mp.length c9) HQF.out
        refine ⟨_, _, fv, rfl, HPO.out.np ((NP.set _ HQF.out hT).trans (NP.set _ rh1 hT)), ⟨fun i hi => by have := HN0.out; omega, .inl ⟨HN0.out, HV.out⟩⟩, ?_⟩
        exact below_setB (below_setB HBU.out (Nat.le_succ _)) (Nat.le_succ _)
    · obtain ⟨hpf, g, c2, rfl, k1, k2, k3, k4⟩ := hot.pos hnp
      have HK := Lib.hid (And.intro k1 (And.intro k2 k3))
      have HRG := Lib.hid (show g ≠ R ∧ B + 1 < g ∧ g ≠ B + 1 from ⟨hne g c2 st.n rfl hnp, by have := HRB.out; omega, by have := HRB.out; omega⟩)
      have HIN := Lib.hid (And.intro hpf k4)
      have r1 : wc.cell? ⟨R, 1, none⟩ = some (.slice (some ⟨g, 0, none⟩) st.n c2) := by rw [cell_of_row _ _ _ _ _ (0, 0) hh]; rfl
      have hT : 60 ≠ 75 := by decide
      have HTT := Lib.hid hT
      clear hh hpf hR hBt hne hot k4 k3 q0 q1 hT
      go_wp2_with fail
      clear r1
      go_loopw [15] (fun iv wr => ∃ i : Nat, i ≤ st.n ∧ iv = .int .i64 i ∧ ∃ fv : Nat → Value, (∀ k, k < st.n → PO wr (fv k) (st.th k).fz) ∧ RowF 60 wr g (st.n * 4) (cell4 st.th fv) ∧ wr.heap[R]? = wc.heap[R]? ∧ wr.heap[B + 1]? = wc.heap[B + 1]? ∧ NP wc wr ∧ Below B w wr ∧ wc.heap.size ≤ wr.heap.size) (fun iv _ => st.n - (intOf iv).toNat)
      case atStart => exact ⟨0, Nat.zero_le _, rfl, fv, HIN.out.1, HIN.out.2, rfl, rfl, NP.refl _, HBU.out, Nat.le_refl _⟩
      case round =>
        obtain ⟨i, hi, rfl, fw, hpo, hrow, hR1, hB1, hnp1, hbw, hsz⟩ := hrel
        have HPF := Lib.hid hpo
        have HRow := Lib.hid hrow
        have HBw := Lib.hid hbw
        have HNP := Lib.hid hnp1
        have HhR := Lib.hid (hR1.trans HH.out)
        have HhB := Lib.hid (hB1.trans HQF.out)
        have HEQ := Lib.hid (And.intro hR1 (And.intro hB1 hsz))
        have r0 : wr.cell? ⟨R, 0, none⟩ = some (.slice p9 st.mp.length c9) := by rw [cell_of_row _ _ _ _ _ (0, 0) HhR.out]; rfl
        have r1 : wr.cell? ⟨R, 1, none⟩ = some (.slice (some ⟨g, 0, none⟩) st.n c2) := by rw [cell_of_row _ _ _ _ _ (0, 0) HhR.out]; rfl
        clear hpo hrow hbw hnp1 hR1 hB1 hsz
        rcases (by omega : i < st.n ∨ i = st.n) with hlt | hEQ
        · obtain ⟨p3, c3, e3, _, _⟩ := (HPF.out i hlt).1.slice
          have x2 : wr.cell? ⟨g, i * 4 + 2, none⟩ = some (.slice p3 (st.th i).fz.length c3) := by rw [HRow.out.get (by omega), cell4_2, e3]
          have HX := Lib.hid (show PR wr (.slice p3 (st.th i).fz.length c3) (st.th i).fz by rw [← e3]; exact (HPF.out i hlt).1)
          have hfl : (st.th i).fz.length ≤ 100000 := by have := HF.out i hlt; omega
          have C3 := Lib.hid (fun (W : World) (k : Below wr.heap.size wr W) => pcloneO (st.th i).fz _ W (HX.out.below k) hfl)
          have ff : ∀ k, wr.frozen? ⟨g, k, none⟩ = false := HRow.out.fr
          have hii : (i : Int) < st.n := by omega
          have r1x := Ext.cells r1
          clear e3 r0
          generalize (st.th i).fz.length = m3 at x2 C3 hfl
          go_upto_region 5 with fail
          go_region_with (go_at_call 28; (with_reducible refine (C3.out _ (by (repeat (first | exact Below.refl _ _ | assumption | refine below_new ?_ _ | refine Below.drew ?_ | refine below_drewN ?_ _ | refine below_on ?_ (by assumption))))).mono ?_); rintro _ w5 ⟨v5, rfl, hp5, hb5⟩; obtain ⟨p6, c6, e6, _, _⟩ := hp5.1.slice; subst e6; have HP5 := Lib.hid hp5; clear hp5; have HB5 := Lib.hid (show Below wr.heap.size wr w5 by (repeat (first | exact Below.refl _ _ | assumption | refine below_new ?_ _ | refine Below.drew ?_ | refine below_drewN ?_ _ | refine below_on ?_ (by assumption)))); have r1y := Ext.use r1x HB5.out; have fy : ∀ k, w5.frozen? ⟨g, k, none⟩ = false := (HRow.out.below HB5.out).fr; have x2y : w5.cell? ⟨g, i * 4 + 2, none⟩ = some (.slice p3 m3 c3) := Ext.use (Ext.cells x2) HB5.out)
          all_goals
            go_wp2_with fail
            go_roundw
            case rel =>
              have hne := HRG.out
              have h1 := HRow.out.below HB5.out
              have k := NP.row h1 (i := i * 4 + 2) (.slice p6 (st.th i).fz.length c6) HTT.out
              refine ⟨i + 1, by omega, by go_num, updW fw i (.slice p6 (st.th i).fz.length c6), fun j hj => ?_, ?_, ?_, ?_, ?_, ?_, ?_⟩
              · unfold updW
                by_cases e : j = i
                · subst e; rw [if_pos rfl]; exact HP5.out.np k
                · rw [if_neg e]; exact ((HPF.out j hj).below HB5.out).np k
              · exact (h1.set _ _).congr fun j _ => cell4_updW _ _ _ _ j
              · rw [Below.heap_setCell _ _ _ _ (by show R ≠ g; omega)]
                have := HEQ.out.1
                exact (HB5.out.block R (Array.getElem?_eq_some_iff.1 HhR.out).1).trans this
              · rw [Below.heap_setCell _ _ _ _ (by show B + 1 ≠ g; omega)]
                exact (HB5.out.block _ (Array.getElem?_eq_some_iff.1 HhB.out).1).trans HEQ.out.2.1
              · exact (HNP.out.trans (.below HB5.out)).trans k
              · exact below_setB (HBw.out.trans (HB5.out.mono (by have := HBE.out; have := HBw.out.size; omega))) (by omega)
              · have := HEQ.out.2.2; have := HB5.out.size; simp; omega
            case measure => simp [intOf]; omega
        · have hge : ¬ i < st.n := by omega
          have q0 : wr.cell? ⟨B + 1, 0, none⟩ = some (.slice none 0 0) := by rw [cell_of_row _ _ _ _ _ (0, 0) HhB.out]; rfl
          have q1 : wr.cell? ⟨B + 1, 1, none⟩ = some (.slice none 0 0) := by rw [cell_of_row _ _ _ _ _ (0, 0) HhB.out]; rfl
          have qf : ∀ i, wr.frozen? ⟨B + 1, i, none⟩ = false := fun i => frozen_of_row _ _ _ _ _ HhB.out
          clear hEQ
          go_wp2_with fail
          refine bodyPost_ret (v := .agg #[.slice p9 st.mp.length c9, .slice (some ⟨g, 0, none⟩) st.n c2]) (by simp [results, Tryd.results12, go_sem, q0, q1, World.cell?_setCell_same, World.cell?_setCell_other]) rfl ?_
          rw [HQ.out]
          have hT : 27 ≠ 75 := by decide
          have rh1 := heap_setCell_same _ (B + 1) 0 _ _ (.slice p9 st.mp.length c9) HhB.out
          have k := (NP.set (i := 0) (.slice p9 st.mp.length c9) HhB.out hT).trans (NP.set (i := 1) (.slice (some ⟨g, 0, none⟩) st.n c2) rh1 hT)
          refine ⟨_, _, fw, rfl, (HPO.out.np HNP.out).np k, ⟨fun i hi => (HPF.out i hi).np k, .inr ⟨g, c2, rfl, HK.out.1, HK.out.2.1, by have := HRG.out; omega, HRow.out.of ?_⟩⟩, below_setB (below_setB HBw.out (Nat.le_succ _)) (Nat.le_succ _)⟩
          have hne := HRG.out.2.2
          rw [Below.heap_setCell _ _ _ _ hne, Below.heap_setCell _ _ _ _ hne]
end Go.Proofs.YtkgfhomoipbjoaaDoor
