/- Layer 10: session, whatever call; answer. -/
import Derived.Test.YtkgfhomoipbjoaaDoorModI
import Derived.Test.YtkgfhomoipbjoaaDoorModJ
namespace Go.Proofs.YtkgfhomoipbjoaaDoor
open Go.RowKit
set_option linter.unusedVariables false
set_option linter.unusedSimpArgs false
set_option maxRecDepth 8000 in
set_option maxHeartbeats 2000000 in
theorem mses_next {w : World} {S g c : Nat} {mv : Value} {st : Sm} {fv : Nat → Value} (h : MS w S g c mv st fv) {i : Nat} (hi0 : i < st.n) (key val hi lim : Int) (s' : Se) (a : An) (H : ∀ (W : World), MS W S g c mv st fv → Calls Tryd.prog 51 #[.pointer (some ⟨g, i * 4, none⟩)] W (SesP W S g c mv st i s' a)) :
    Calls Tryd.prog 34 #[.pointer (some ⟨S, 0, none⟩), .pointer (some ⟨g, i * 4, none⟩), .agg #[.int .i64 10, .int .i64 key, .int .i64 val, .int .i64 hi, .int .i64 lim]] w (SesP w S g c mv st i s' a) := by
  refine Calls.veil fun Q HQ => ?_
  have HM := Lib.hid h
  go_enter Tryd.func34, Tryd.ntmps34
  go_upto_region 1 with fail
  generalize hU : World.alloc _ _ = U
  have hBU : Below w.heap.size w U := by rw [← hU]; (repeat (first | exact Below.refl _ _ | assumption | refine below_new ?_ _ | refine Below.drew ?_ | refine below_drewN ?_ _ | refine below_on ?_ (by assumption)))
  obtain ⟨B, hB⟩ : ∃ B, B = w.heap.size := ⟨_, rfl⟩
  have e1 : (w.alloc (.cells #[.int .i64 10, .int .i64 key, .int .i64 val, .int .i64 hi, .int .i64 lim] 38)).heap.size = B + 1 := by rw [hB]; simp
  have b1 : Below (B + 1) (w.alloc (.cells #[.int .i64 10, .int .i64 key, .int .i64 val, .int .i64 hi, .int .i64 lim] 38)) U := by
    rw [← hU, ← e1]; (repeat (first | exact Below.refl _ _ | assumption | refine below_new ?_ _ | refine Below.drew ?_ | refine below_drewN ?_ _ | refine below_on ?_ (by assumption)))
  have z0 : U.cell? ⟨B, 0, none⟩ = some (.int .i64 10) := by rw [hB]; exact Ext.made_in rfl (by rw [e1]; exact b1) 0 _ rfl
  have z1 : U.cell? ⟨B, 1, none⟩ = some (.int .i64 key) := by rw [hB]; exact Ext.made_in rfl (by rw [e1]; exact b1) 1 _ rfl
  have z3 : U.cell? ⟨B, 3, none⟩ = some (.int .i64 hi) := by rw [hB]; exact Ext.made_in rfl (by rw [e1]; exact b1) 3 _ rfl
  have HA := Lib.hid (show A5 U (B + 1) by unfold A5; rw [← e1, ← hU]; exact heap_alloc_new _ _)
  have HMU := Lib.hid (h.below hBU)
  have HBU := Lib.hid hBU
  have HL := Lib.hid (show S < B ∧ g < B by rw [hB]; exact ⟨h.sl, h.row.lt⟩)
  have HMV := Lib.hid (show ∀ b o n c, mv = .slice (some ⟨b, o, none⟩) n c → 0 < n → b < B by
    intro b o n c e hn
    rw [hB]
    exact h.mp.blk e hn)
  have HBE := Lib.hid hB
  have se := HMU.out.se hi0
  obtain ⟨t0, t1, t2, t3, tp⟩ := se
  have tf : ∀ k, U.frozen? ⟨g, k, none⟩ = false := HMU.out.row.fr
  rw [← hB]
  clear hU b1 e1 hBU hB h
  clear t0 t1 t2 t3 tp tf z1 z3
  go_wp2_with fail
  refine (H U HMU.out).mono ?_; rintro _ V ⟨fv1, rfl, hMV, hKV⟩
  have HMV2 := Lib.hid hMV
  have HKV := Lib.hid hKV
  have HAV := Lib.hid (HA.out.of (hKV.block _ HA.out.lt (by have := HL.out; simp; omega)))
  obtain ⟨c0, c1, c2, c3, c4, cf⟩ := HAV.out.c
  unfold anV
  clear hMV hKV
  go_wp2_with fail
  refine bodyPost_ret (v := .agg #[.int .i64 a.kind, .int .i64 a.key, .int .i64 a.val, .int .i64 a.n, .slice none 0 0]) (by simp [results, Tryd.results34, go_sem, c0, c1, c2, c3, c4, World.cell?_setCell_same, World.cell?_setCell_other]) rfl ?_
  rw [HQ.out]
  obtain ⟨l1, l2⟩ := HL.out
  have hBE := HBE.out
  have hK0 : KX [g] w V := (KX.of_below HBU.out).trans HKV.out
  exact ⟨_, rfl, HMV2.out.ans5 HAV.out (by omega) (by omega) (by omega) (fun b o n c e hn => by have := HMV.out b o n c e hn; omega) hK0 _ _ _ _ _⟩
def sesA (st : Sm) (i : Nat) (c : Ca) : Se × An :=
  if c.op = 13 then (⟨true, false, [], 0⟩, ⟨0, 0, 0, 0, []⟩)
  else if c.op = 14 then (⟨false, false, [], 0⟩, ⟨0, 0, 0, 0, []⟩)
  else if c.op = 9 then (⟨true, true, cutL st.mp c.key c.hi 9223372036854775807, 0⟩, ⟨0, 0, 0, 0, []⟩)
  else if c.op = 11 then ({ st.th i with pt := (lbN (st.th i).fz c.key : Nat) }, ⟨0, 0, 0, 0, []⟩)
  else if c.op = 12 then (⟨true, false, [], 0⟩, ⟨0, 0, 0, 0, []⟩)
  else if (st.th i).pt < (st.th i).fz.length then ({ st.th i with pt := (st.th i).pt + 1 }, ⟨1, ky (st.th i).fz (st.th i).pt.toNat, vl (st.th i).fz (st.th i).pt.toNat, 0, []⟩)
  else (st.th i, ⟨4, 0, 0, 0, []⟩)
/-- What all states keep. -/
structure OkS (st : Sm) : Prop where
  mr : riseB st.mp = true
  ml : st.mp.length ≤ 5000
  mg : ∀ k, k < st.mp.length → -9223372036854775808 ≤ ky st.mp k ∧ ky st.mp k ≤ 9223372036854775807
  n6 : st.n ≤ 6
  fr : ∀ i, riseB (st.th i).fz = true
  fl : ∀ i, (st.th i).fz.length ≤ 5000
  p0 : ∀ i, 0 ≤ (st.th i).pt
  p1 : ∀ i, (st.th i).pt ≤ (st.th i).fz.length
theorem mses {w : World} {S g c : Nat} {mv : Value} {st : Sm} {fv : Nat → Value} (h : MS w S g c mv st fv) {i : Nat} (hi0 : i < st.n) (ok : OkS st) (op key val hi lim : Int) (hop : 9 ≤ op ∧ op ≤ 14) :
    Calls Tryd.prog 34 #[.pointer (some ⟨S, 0, none⟩), .pointer (some ⟨g, i * 4, none⟩), .agg #[.int .i64 op, .int .i64 key, .int .i64 val, .int .i64 hi, .int .i64 lim]] w (SesP w S g c mv st i (sesA st i ⟨op, key, val, hi, lim⟩).1 (sesA st i ⟨op, key, val, hi, lim⟩).2) := by
  have hl := ok.fl i
  have hml := ok.ml
  rcases (by omega : op = 9 ∨ op = 10 ∨ op = 11 ∨ op = 12 ∨ op = 13 ∨ op = 14) with rfl | rfl | rfl | rfl | rfl | rfl
  · simpa [sesA] using mses_open h hi0 key val hi lim ok.mr (by omega)
  · by_cases hp : (st.th i).pt < (st.th i).fz.length
    · have h0 := ok.p0 i
      have e : sesA st i ⟨10, key, val, hi, lim⟩ = ({ st.th i with pt := ((st.th i).pt.toNat : Int) + 1 }, ⟨1, ky (st.th i).fz (st.th i).pt.toNat, vl (st.th i).fz (st.th i).pt.toNat, 0, []⟩) := by
        have : ((st.th i).pt.toNat : Int) = (st.th i).pt := by omega
        simp [sesA, hp, this]
      rw [e]
      exact mses_next h hi0 key val hi lim _ _ fun W hW => mnext_yes hW hi0 (st.th i).pt.toNat (by omega) (by omega) (by omega)
    · have e : sesA st i ⟨10, key, val, hi, lim⟩ = (st.th i, ⟨4, 0, 0, 0, []⟩) := by simp [sesA, hp]
      rw [e]
      exact mses_next h hi0 key val hi lim _ _ fun W hW => mnext_no hW hi0 (ok.p0 i) (by omega)
  · simpa [sesA] using mses_seek h hi0 key val hi lim (ok.fr i) (by omega)
  · simpa [sesA] using mses_close h hi0 key val hi lim
  · simpa [sesA] using mses_join h hi0 key val hi lim
  · simpa [sesA] using mses_quit h hi0 key val hi lim
/-- What an answer leaves. -/
def AnsP (w : World) (S g : Nat) (st : Sm) (a : An) (e : Ending) (w' : World) : Prop :=
  ∃ av mv' tv', e = .returned (anV a av) ∧ PO w' av a.ps ∧ w'.heap[S]? = some (.cells #[mv', tv'] 27 (0, 0)) ∧ PO w' mv' st.mp ∧ TR w' tv' st.n st.th ∧ KX [S, g] w w'
theorem KX.more {X Y : List Nat} {w w' : World} (h : KX X w w') (hX : ∀ x ∈ X, x ∈ Y) : KX Y w w' := ⟨h.os, h.tape, h.output, h.size, fun k hk ha => h.block k hk fun hx => ha (hX k hx)⟩
theorem MS.tr {w : World} {S g c : Nat} {mv : Value} {st : Sm} {fv : Nat → Value} (h : MS w S g c mv st fv) : TR w (.slice (some ⟨g, 0, none⟩) st.n c) st.n st.th := .row g st.n c _ fv h.nc h.cm fun i hi => h.se hi
theorem PO.kx {w w' : World} {g : Nat} {v : Value} {l : PL} (h : PO w v l) (k : KX [g] w w') (hm : ∀ b o n c, v = .slice (some ⟨b, o, none⟩) n c → 0 < n → b ≠ g) : PO w' v l := by
  have hb : ∀ b o n c, v = .slice (some ⟨b, o, none⟩) n c → 0 < n → w'.heap[b]? = w.heap[b]? := fun b o n c e hn => k.block b (h.1.blk e hn) (by simpa using hm b o n c e hn)
  refine ⟨h.1.keep hb, fun a n c e h0 => ?_⟩
  obtain ⟨cur, hc⟩ := h.2 a n c e h0
  have h1 := h.1
  rw [e] at h1
  generalize hv : Value.slice (some a) n c = x at h1
  cases h1 with
  | nil => cases hv
  | odd a' c' _ => injection hv with _ h3; omega
  | row g' o' c' l' k1 k2 k3 =>
    injection hv with h3 h4
    injection h3 with h3
    subst h3
    exact ⟨cur, (hb g' o' n c e h0).trans hc⟩
theorem tr_keep {w w' : World} {v : Value} {n : Nat} {L : Nat → Se} (h : TR w v n L) (k : NP w w') (hb : ∀ b, ¬ A5 w b → w'.heap[b]? = w.heap[b]?) : TR w' v n L := by
  cases h with
  | nil => exact .nil _
  | odd a c _ h1 => exact .odd a c _ h1
  | row T n c _ fv h1 h2 h3 =>
    refine .row T n c _ fv h1 h2 fun i hi => ?_
    obtain ⟨c0, c1, c2, c3, p⟩ := h3 i hi
    have e : w'.heap[T]? = w.heap[T]? := hb T fun ha => by
      have h5 := (h3 0 (by omega)).c0
      rw [show (0 : Nat) * 4 = 0 by omega, ha.c.1] at h5
      cases h5
    exact ⟨(World.cell?_of_block (a := ⟨T, i * 4, none⟩) e).trans c0, (World.cell?_of_block (a := ⟨T, i * 4 + 1, none⟩) e).trans c1, (World.cell?_of_block (a := ⟨T, i * 4 + 2, none⟩) e).trans c2, (World.cell?_of_block (a := ⟨T, i * 4 + 3, none⟩) e).trans c3, p.np k⟩
set_option maxRecDepth 8000 in
set_option maxHeartbeats 2000000 in
theorem mans_bad {w : World} {S g : Nat} {mv tv : Value} {st : Sm} (hS : w.heap[S]? = some (.cells #[mv, tv] 27 (0, 0))) (hp : PO w mv st.mp) (ht : TR w tv st.n st.th) (t op key val hi lim : Int) (hb : badB st.n st.th t ⟨op, key, val, hi, lim⟩ = true) :
    Calls Tryd.prog 13 #[.pointer (some ⟨S, 0, none⟩), .int .i64 t, .agg #[.int .i64 op, .int .i64 key, .int .i64 val, .int .i64 hi, .int .i64 lim]] w (AnsP w S g st ⟨8, 0, 0, 0, []⟩) := by
  refine Calls.veil fun Q HQ => ?_
  go_enter Tryd.func13, Tryd.ntmps13
  go_upto_region 1 with fail
  generalize hU : World.alloc _ _ = U
  have hBU : Below w.heap.size w U := by rw [← hU]; (repeat (first | exact Below.refl _ _ | assumption | refine below_new ?_ _ | refine Below.drew ?_ | refine below_drewN ?_ _ | refine below_on ?_ (by assumption)))
  obtain ⟨B, hB⟩ : ∃ B, B = w.heap.size := ⟨_, rfl⟩
  have e1 : (w.alloc (.cells #[.int .i64 op, .int .i64 key, .int .i64 val, .int .i64 hi, .int .i64 lim] 38)).heap.size = B + 1 := by rw [hB]; simp
  have b1 : Below (B + 1) (w.alloc (.cells #[.int .i64 op, .int .i64 key, .int .i64 val, .int .i64 hi, .int .i64 lim] 38)) U := by
    rw [← hU, ← e1]; (repeat (first | exact Below.refl _ _ | assumption | refine below_new ?_ _ | refine Below.drew ?_ | refine below_drewN ?_ _ | refine below_on ?_ (by assumption)))
  have z0 : U.cell? ⟨B, 0, none⟩ = some (.int .i64 op) := by rw [hB]; exact Ext.made_in rfl (by rw [e1]; exact b1) 0 _ rfl
  have z1 : U.cell? ⟨B, 1, none⟩ = some (.int .i64 key) := by rw [hB]; exact Ext.made_in rfl (by rw [e1]; exact b1) 1 _ rfl
  have z2 : U.cell? ⟨B, 2, none⟩ = some (.int .i64 val) := by rw [hB]; exact Ext.made_in rfl (by rw [e1]; exact b1) 2 _ rfl
  have z3 : U.cell? ⟨B, 3, none⟩ = some (.int .i64 hi) := by rw [hB]; exact Ext.made_in rfl (by rw [e1]; exact b1) 3 _ rfl
  have z4 : U.cell? ⟨B, 4, none⟩ = some (.int .i64 lim) := by rw [hB]; exact Ext.made_in rfl (by rw [e1]; exact b1) 4 _ rfl
  have HA := Lib.hid (show A5 U (B + 1) by unfold A5; rw [← e1, ← hU]; exact heap_alloc_new _ _)
  have HBU := Lib.hid hBU
  have HBE := Lib.hid hB
  rw [← hB]
  clear hU b1 e1 hBU hB
  have HS := Lib.hid ((HBU.out.block S (Array.getElem?_eq_some_iff.1 hS).1).trans hS)
  have HSL := Lib.hid (show S < B by rw [HBE.out]; exact (Array.getElem?_eq_some_iff.1 hS).1)
  have HP := Lib.hid (hp.below HBU.out)
  have HT := Lib.hid (ht.below HBU.out)
  have s1 : U.cell? ⟨S, 1, none⟩ = some tv := by rw [cell_of_row _ _ _ _ _ (0, 0) HS.out]; rfl
  have S1 := Lib.hid s1
  have HBB := Lib.hid hb
  clear hS hp ht s1 hb
  go_wp2_with fail
  refine (mbad S1.out HT.out t ⟨op, key, val, hi, lim⟩).mono ?_; rintro _ w1 ⟨rfl, hb1⟩
  rw [HBB.out]
  have HB1 := Lib.hid hb1
  have HA1 := Lib.hid (HA.out.below hb1)
  obtain ⟨c0, c1, c2, c3, c4, cf⟩ := HA1.out.c
  clear hb1 z0 z1 z2 z3 z4
  go_wp2_with fail
  refine bodyPost_ret (v := .agg #[.int .i64 8, .int .i64 0, .int .i64 0, .int .i64 0, .slice none 0 0]) (by simp [results, Tryd.results13, go_sem, c0, c1, c2, c3, c4, World.cell?_setCell_same, World.cell?_setCell_other]) rfl ?_
  rw [HQ.out]
  have hBE := HBE.out
  have hsl := HSL.out
  have hb0 := HBU.out.trans (HB1.out.mono HBU.out.size)
  obtain ⟨k1, k2, k3⟩ := ans5 (w := w) (X := []) HA1.out (by omega) (KX.of_below hb0) (.int .i64 8) (.int .i64 0) (.int .i64 0) (.int .i64 0) (.slice none 0 0)
  have hbf : Below w.heap.size w _ := ⟨k1.os, k1.tape, k1.output, k1.size, fun k hk => k1.block k hk (by simp)⟩
  refine ⟨_, mv, tv, rfl, PO.nil _, (k3 S (by omega)).trans ((HB1.out.block S (Array.getElem?_eq_some_iff.1 HS.out).1).trans HS.out), (HP.out.below HB1.out).np k2, ?_, k1.more (by simp)⟩
  have hT0 := HT.out.below HB1.out
  exact tr_keep hT0 k2 (fun b hb => k3 b (by intro e; subst e; exact hb HA1.out))
set_option maxRecDepth 8000 in
set_option maxHeartbeats 2000000 in
theorem mans_put {w : World} {S g c : Nat} {mv : Value} {st : Sm} {fv : Nat → Value} (h : MS w S g c mv st fv) (hpo : PO w mv st.mp) (ok : OkS st) (t key val hi lim : Int) (hb : badB st.n st.th t ⟨0, key, val, hi, lim⟩ = false) (an : An) (han : an = (if hereB st.mp key = true then ⟨5, 0, 0, 0, []⟩ else ⟨0, 0, 0, 0, []⟩)) (hps : an.ps = []) :
    Calls Tryd.prog 13 #[.pointer (some ⟨S, 0, none⟩), .int .i64 t, .agg #[.int .i64 0, .int .i64 key, .int .i64 val, .int .i64 hi, .int .i64 lim]] w (AnsP w S g { st with mp := putL st.mp (key, val) } an) := by
  have HAN := Lib.hid han
  have HPS := Lib.hid hps
  clear han hps
  refine Calls.veil fun Q HQ => ?_
  go_enter Tryd.func13, Tryd.ntmps13
  go_upto_region 1 with fail
  generalize hU : World.alloc _ _ = U
  have hBU : Below w.heap.size w U := by rw [← hU]; (repeat (first | exact Below.refl _ _ | assumption | refine below_new ?_ _ | refine Below.drew ?_ | refine below_drewN ?_ _ | refine below_on ?_ (by assumption)))
  obtain ⟨B, hB⟩ : ∃ B, B = w.heap.size := ⟨_, rfl⟩
  have e1 : (w.alloc (.cells #[.int .i64 0, .int .i64 key, .int .i64 val, .int .i64 hi, .int .i64 lim] 38)).heap.size = B + 1 := by rw [hB]; simp
  have b1 : Below (B + 1) (w.alloc (.cells #[.int .i64 0, .int .i64 key, .int .i64 val, .int .i64 hi, .int .i64 lim] 38)) U := by
    rw [← hU, ← e1]; (repeat (first | exact Below.refl _ _ | assumption | refine below_new ?_ _ | refine Below.drew ?_ | refine below_drewN ?_ _ | refine below_on ?_ (by assumption)))
  have z0 : U.cell? ⟨B, 0, none⟩ = some (.int .i64 0) := by rw [hB]; exact Ext.made_in rfl (by rw [e1]; exact b1) 0 _ rfl
  have z1 : U.cell? ⟨B, 1, none⟩ = some (.int .i64 key) := by rw [hB]; exact Ext.made_in rfl (by rw [e1]; exact b1) 1 _ rfl
  have z2 : U.cell? ⟨B, 2, none⟩ = some (.int .i64 val) := by rw [hB]; exact Ext.made_in rfl (by rw [e1]; exact b1) 2 _ rfl
  have z3 : U.cell? ⟨B, 3, none⟩ = some (.int .i64 hi) := by rw [hB]; exact Ext.made_in rfl (by rw [e1]; exact b1) 3 _ rfl
  have z4 : U.cell? ⟨B, 4, none⟩ = some (.int .i64 lim) := by rw [hB]; exact Ext.made_in rfl (by rw [e1]; exact b1) 4 _ rfl
  have HA := Lib.hid (show A5 U (B + 1) by unfold A5; rw [← e1, ← hU]; exact heap_alloc_new _ _)
  have HBU := Lib.hid hBU
  have HBE := Lib.hid hB
  rw [← hB]
  clear hU b1 e1 hBU hB
  have HM := Lib.hid h
  have HMU := Lib.hid (h.below HBU.out)
  have HP0 := Lib.hid hpo
  have HPO := Lib.hid (hpo.below HBU.out)
  have HL := Lib.hid (show S < B ∧ g < B by rw [HBE.out]; exact ⟨h.sl, h.row.lt⟩)
  have S1 := Lib.hid HMU.out.s1
  have HBB := Lib.hid hb
  have HOK := Lib.hid ok
  clear h hpo hb ok
  go_wp2_with fail
  refine (mbad S1.out HMU.out.tr t ⟨0, key, val, hi, lim⟩).mono ?_; rintro _ w1 ⟨rfl, hb1⟩
  rw [HBB.out]
  have HB1 := Lib.hid hb1
  have HA1 := Lib.hid (HA.out.below hb1)
  have HM1 := Lib.hid (HMU.out.below hb1)
  have HPO1 := Lib.hid (HPO.out.below hb1)
  have z0 := Ext.use (Ext.cells z0) hb1; have z1 := Ext.use (Ext.cells z1) hb1; have z2 := Ext.use (Ext.cells z2) hb1; have z3 := Ext.use (Ext.cells z3) hb1; have z4 := Ext.use (Ext.cells z4) hb1
  have HBT := Lib.hid (HBU.out.trans (hb1.mono HBU.out.size))
  clear hb1
  have C := mchange_put HM1.out HPO1.out key val hi lim HOK.out.mr (by have := HOK.out.ml; omega)
  rw [← HAN.out] at C
  go_wp2_with fail
  refine C.mono ?_; rintro _ w2 ⟨mv', rfl, h1, h2, h3, h4⟩
  clear C
  have HC := Lib.hid (And.intro h1 (And.intro h2 (And.intro h3 h4)))
  have HA2 := Lib.hid (HA1.out.of (h3.block _ HA1.out.lt (by have := HL.out; simp; omega)))
  obtain ⟨c0, c1, c2, c3, c4, cf⟩ := HA2.out.c
  unfold anV
  clear h1 h2 h3 h4 z0 z1 z2 z3 z4
  go_wp2_with fail
  refine bodyPost_ret (v := .agg #[.int .i64 an.kind, .int .i64 an.key, .int .i64 an.val, .int .i64 an.n, .slice none 0 0]) (by simp [results, Tryd.results13, go_sem, c0, c1, c2, c3, c4, World.cell?_setCell_same, World.cell?_setCell_other]) rfl ?_
  rw [HQ.out]
  have hBE := HBE.out
  obtain ⟨l1, l2⟩ := HL.out
  obtain ⟨h1, h2, h3, h4⟩ := HC.out
  obtain ⟨k1, k2, k3⟩ := ans5 (w := w) (X := [S]) HA2.out (by omega) ((KX.of_below HBT.out).trans h3) (.int .i64 an.kind) (.int .i64 an.key) (.int .i64 an.val) (.int .i64 an.n) (.slice none 0 0)
  refine ⟨_, mv', _, rfl, by rw [HPS.out]; exact PO.nil _, (k3 S (by omega)).trans h1, h2.np k2, ?_, k1.more (by simp)⟩
  have hm := HM1.out
  have e : ∀ b, b ≠ B + 1 → b ≠ S → b < w1.heap.size → _ := fun b hb hs hl => (k3 b hb).trans (h3.block b hl (by simpa using hs))
  exact .row g st.n c _ fv hm.nc hm.cm fun j hj => (hm.row.of (e g (by omega) hm.ne hm.row.lt)).ses (fun k hk => (hm.po k hk).np (h4.trans k2)) j hj
set_option maxRecDepth 8000 in
set_option maxHeartbeats 2000000 in
theorem mans_drop {w : World} {S g c : Nat} {mv : Value} {st : Sm} {fv : Nat → Value} (h : MS w S g c mv st fv) (hpo : PO w mv st.mp) (ok : OkS st) (t key val hi lim : Int) (hb : badB st.n st.th t ⟨1, key, val, hi, lim⟩ = false) (an : An) (han : an = (foundA (atL st.mp key))) (hps : an.ps = []) :
    Calls Tryd.prog 13 #[.pointer (some ⟨S, 0, none⟩), .int .i64 t, .agg #[.int .i64 1, .int .i64 key, .int .i64 val, .int .i64 hi, .int .i64 lim]] w (AnsP w S g { st with mp := dropL st.mp key } an) := by
  have HAN := Lib.hid han
  have HPS := Lib.hid hps
  clear han hps
  refine Calls.veil fun Q HQ => ?_
  go_enter Tryd.func13, Tryd.ntmps13
  go_upto_region 1 with fail
  generalize hU : World.alloc _ _ = U
  have hBU : Below w.heap.size w U := by rw [← hU]; (repeat (first | exact Below.refl _ _ | assumption | refine below_new ?_ _ | refine Below.drew ?_ | refine below_drewN ?_ _ | refine below_on ?_ (by assumption)))
  obtain ⟨B, hB⟩ : ∃ B, B = w.heap.size := ⟨_, rfl⟩
  have e1 : (w.alloc (.cells #[.int .i64 1, .int .i64 key, .int .i64 val, .int .i64 hi, .int .i64 lim] 38)).heap.size = B + 1 := by rw [hB]; simp
  have b1 : Below (B + 1) (w.alloc (.cells #[.int .i64 1, .int .i64 key, .int .i64 val, .int .i64 hi, .int .i64 lim] 38)) U := by
    rw [← hU, ← e1]; (repeat (first | exact Below.refl _ _ | assumption | refine below_new ?_ _ | refine Below.drew ?_ | refine below_drewN ?_ _ | refine below_on ?_ (by assumption)))
  have z0 : U.cell? ⟨B, 0, none⟩ = some (.int .i64 1) := by rw [hB]; exact Ext.made_in rfl (by rw [e1]; exact b1) 0 _ rfl
  have z1 : U.cell? ⟨B, 1, none⟩ = some (.int .i64 key) := by rw [hB]; exact Ext.made_in rfl (by rw [e1]; exact b1) 1 _ rfl
  have z2 : U.cell? ⟨B, 2, none⟩ = some (.int .i64 val) := by rw [hB]; exact Ext.made_in rfl (by rw [e1]; exact b1) 2 _ rfl
  have z3 : U.cell? ⟨B, 3, none⟩ = some (.int .i64 hi) := by rw [hB]; exact Ext.made_in rfl (by rw [e1]; exact b1) 3 _ rfl
  have z4 : U.cell? ⟨B, 4, none⟩ = some (.int .i64 lim) := by rw [hB]; exact Ext.made_in rfl (by rw [e1]; exact b1) 4 _ rfl
  have HA := Lib.hid (show A5 U (B + 1) by unfold A5; rw [← e1, ← hU]; exact heap_alloc_new _ _)
  have HBU := Lib.hid hBU
  have HBE := Lib.hid hB
  rw [← hB]
  clear hU b1 e1 hBU hB
  have HM := Lib.hid h
  have HMU := Lib.hid (h.below HBU.out)
  have HP0 := Lib.hid hpo
  have HPO := Lib.hid (hpo.below HBU.out)
  have HL := Lib.hid (show S < B ∧ g < B by rw [HBE.out]; exact ⟨h.sl, h.row.lt⟩)
  have S1 := Lib.hid HMU.out.s1
  have HBB := Lib.hid hb
  have HOK := Lib.hid ok
  clear h hpo hb ok
  go_wp2_with fail
  refine (mbad S1.out HMU.out.tr t ⟨1, key, val, hi, lim⟩).mono ?_; rintro _ w1 ⟨rfl, hb1⟩
  rw [HBB.out]
  have HB1 := Lib.hid hb1
  have HA1 := Lib.hid (HA.out.below hb1)
  have HM1 := Lib.hid (HMU.out.below hb1)
  have HPO1 := Lib.hid (HPO.out.below hb1)
  have z0 := Ext.use (Ext.cells z0) hb1; have z1 := Ext.use (Ext.cells z1) hb1; have z2 := Ext.use (Ext.cells z2) hb1; have z3 := Ext.use (Ext.cells z3) hb1; have z4 := Ext.use (Ext.cells z4) hb1
  have HBT := Lib.hid (HBU.out.trans (hb1.mono HBU.out.size))
  clear hb1
  have C := mchange_drop HM1.out HPO1.out key val hi lim HOK.out.mr (by have := HOK.out.ml; omega)
  rw [← HAN.out] at C
  go_wp2_with fail
  refine C.mono ?_; rintro _ w2 ⟨mv', rfl, h1, h2, h3, h4⟩
  clear C
  have HC := Lib.hid (And.intro h1 (And.intro h2 (And.intro h3 h4)))
  have HA2 := Lib.hid (HA1.out.of (h3.block _ HA1.out.lt (by have := HL.out; simp; omega)))
  obtain ⟨c0, c1, c2, c3, c4, cf⟩ := HA2.out.c
  unfold anV
  clear h1 h2 h3 h4 z0 z1 z2 z3 z4
  go_wp2_with fail
  refine bodyPost_ret (v := .agg #[.int .i64 an.kind, .int .i64 an.key, .int .i64 an.val, .int .i64 an.n, .slice none 0 0]) (by simp [results, Tryd.results13, go_sem, c0, c1, c2, c3, c4, World.cell?_setCell_same, World.cell?_setCell_other]) rfl ?_
  rw [HQ.out]
  have hBE := HBE.out
  obtain ⟨l1, l2⟩ := HL.out
  obtain ⟨h1, h2, h3, h4⟩ := HC.out
  obtain ⟨k1, k2, k3⟩ := ans5 (w := w) (X := [S]) HA2.out (by omega) ((KX.of_below HBT.out).trans h3) (.int .i64 an.kind) (.int .i64 an.key) (.int .i64 an.val) (.int .i64 an.n) (.slice none 0 0)
  refine ⟨_, mv', _, rfl, by rw [HPS.out]; exact PO.nil _, (k3 S (by omega)).trans h1, h2.np k2, ?_, k1.more (by simp)⟩
  have hm := HM1.out
  have e : ∀ b, b ≠ B + 1 → b ≠ S → b < w1.heap.size → _ := fun b hb hs hl => (k3 b hb).trans (h3.block b hl (by simpa using hs))
  exact .row g st.n c _ fv hm.nc hm.cm fun j hj => (hm.row.of (e g (by omega) hm.ne hm.row.lt)).ses (fun k hk => (hm.po k hk).np (h4.trans k2)) j hj
set_option maxRecDepth 8000 in
set_option maxHeartbeats 2000000 in
theorem mans_one {w : World} {S g c : Nat} {mv : Value} {st : Sm} {fv : Nat → Value} (h : MS w S g c mv st fv) (hpo : PO w mv st.mp) (ok : OkS st) (t op key val hi lim : Int) (hb : badB st.n st.th t ⟨op, key, val, hi, lim⟩ = false) (hop : op = 2 ∨ op = 5 ∨ op = 6 ∨ op = 7 ∨ op = 8) :
    Calls Tryd.prog 13 #[.pointer (some ⟨S, 0, none⟩), .int .i64 t, .agg #[.int .i64 op, .int .i64 key, .int .i64 val, .int .i64 hi, .int .i64 lim]] w (AnsP w S g st (foundA (oneA st.mp ⟨op, key, val, hi, lim⟩))) := by
  obtain ⟨an, han⟩ : ∃ an, an = foundA (oneA st.mp ⟨op, key, val, hi, lim⟩) := ⟨_, rfl⟩
  have hps : an.ps = [] := by rw [han]; cases oneA st.mp ⟨op, key, val, hi, lim⟩ <;> rfl
  have HPS := Lib.hid hps
  have HAN := Lib.hid han
  rw [← han]
  clear han hps
  refine Calls.veil fun Q HQ => ?_
  go_enter Tryd.func13, Tryd.ntmps13
  go_upto_region 1 with fail
  generalize hU : World.alloc _ _ = U
  have hBU : Below w.heap.size w U := by rw [← hU]; (repeat (first | exact Below.refl _ _ | assumption | refine below_new ?_ _ | refine Below.drew ?_ | refine below_drewN ?_ _ | refine below_on ?_ (by assumption)))
  obtain ⟨B, hB⟩ : ∃ B, B = w.heap.size := ⟨_, rfl⟩
  have e1 : (w.alloc (.cells #[.int .i64 op, .int .i64 key, .int .i64 val, .int .i64 hi, .int .i64 lim] 38)).heap.size = B + 1 := by rw [hB]; simp
  have b1 : Below (B + 1) (w.alloc (.cells #[.int .i64 op, .int .i64 key, .int .i64 val, .int .i64 hi, .int .i64 lim] 38)) U := by
    rw [← hU, ← e1]; (repeat (first | exact Below.refl _ _ | assumption | refine below_new ?_ _ | refine Below.drew ?_ | refine below_drewN ?_ _ | refine below_on ?_ (by assumption)))
  have z0 : U.cell? ⟨B, 0, none⟩ = some (.int .i64 op) := by rw [hB]; exact Ext.made_in rfl (by rw [e1]; exact b1) 0 _ rfl
  have z1 : U.cell? ⟨B, 1, none⟩ = some (.int .i64 key) := by rw [hB]; exact Ext.made_in rfl (by rw [e1]; exact b1) 1 _ rfl
  have z2 : U.cell? ⟨B, 2, none⟩ = some (.int .i64 val) := by rw [hB]; exact Ext.made_in rfl (by rw [e1]; exact b1) 2 _ rfl
  have z3 : U.cell? ⟨B, 3, none⟩ = some (.int .i64 hi) := by rw [hB]; exact Ext.made_in rfl (by rw [e1]; exact b1) 3 _ rfl
  have z4 : U.cell? ⟨B, 4, none⟩ = some (.int .i64 lim) := by rw [hB]; exact Ext.made_in rfl (by rw [e1]; exact b1) 4 _ rfl
  have HA := Lib.hid (show A5 U (B + 1) by unfold A5; rw [← e1, ← hU]; exact heap_alloc_new _ _)
  have HBU := Lib.hid hBU
  have HBE := Lib.hid hB
  rw [← hB]
  clear hU b1 e1 hBU hB
  have HM := Lib.hid h
  have HMU := Lib.hid (h.below HBU.out)
  have HP0 := Lib.hid hpo
  have HPO := Lib.hid (hpo.below HBU.out)
  have HL := Lib.hid (show S < B ∧ g < B by rw [HBE.out]; exact ⟨h.sl, h.row.lt⟩)
  have S1 := Lib.hid HMU.out.s1
  have HBB := Lib.hid hb
  have HOK := Lib.hid ok
  clear h hpo hb ok
  go_wp2_with fail
  refine (mbad S1.out HMU.out.tr t ⟨op, key, val, hi, lim⟩).mono ?_; rintro _ w1 ⟨rfl, hb1⟩
  rw [HBB.out]
  have HB1 := Lib.hid hb1
  have HA1 := Lib.hid (HA.out.below hb1)
  have HM1 := Lib.hid (HMU.out.below hb1)
  have HPO1 := Lib.hid (HPO.out.below hb1)
  have z0 := Ext.use (Ext.cells z0) hb1; have z1 := Ext.use (Ext.cells z1) hb1; have z2 := Ext.use (Ext.cells z2) hb1; have z3 := Ext.use (Ext.cells z3) hb1; have z4 := Ext.use (Ext.cells z4) hb1
  have HBT := Lib.hid (HBU.out.trans (hb1.mono HBU.out.size))
  clear hb1
  have C := mone st.mp mv S ⟨op, key, val, hi, lim⟩ w1 HM1.out.s0 HPO1.out.1 HOK.out.mr (by have := HOK.out.ml; omega)
  unfold fA at C
  rw [← HAN.out] at C
  have C := Lib.hid C
  clear HAN
  rcases hop with rfl | rfl | rfl | rfl | rfl
  all_goals
    go_wp2_with fail
    refine C.out.mono ?_; rintro _ w2 ⟨rfl, hb2⟩
    have HB2 := Lib.hid hb2
    have HA2 := Lib.hid (HA1.out.below hb2)
    obtain ⟨c0, c1, c2, c3, c4, cf⟩ := HA2.out.c
    unfold anV
    clear hb2 z0 z1 z2 z3 z4
    go_wp2_with fail
    refine bodyPost_ret (v := .agg #[.int .i64 an.kind, .int .i64 an.key, .int .i64 an.val, .int .i64 an.n, .slice none 0 0]) (by simp [results, Tryd.results13, go_sem, c0, c1, c2, c3, c4, World.cell?_setCell_same, World.cell?_setCell_other]) rfl ?_
    rw [HQ.out]
    have hBE := HBE.out
    obtain ⟨l1, l2⟩ := HL.out
    obtain ⟨m1, k1⟩ := (HM1.out.below HB2.out).ans5 HA2.out (by omega) (by omega) (by omega) (fun b o n c e hn => by have := HM.out.mp.blk e hn; omega) (KX.of_below (HBT.out.trans (HB2.out.mono HBT.out.size))) (.int .i64 an.kind) (.int .i64 an.key) (.int .i64 an.val) (.int .i64 an.n) (.slice none 0 0)
    obtain ⟨_, n1, _⟩ := ans5 (w := w) (X := []) HA2.out (by omega) (KX.of_below (HBT.out.trans (HB2.out.mono HBT.out.size))) (.int .i64 an.kind) (.int .i64 an.key) (.int .i64 an.val) (.int .i64 an.n) (.slice none 0 0)
    exact ⟨_, mv, _, rfl, by rw [HPS.out]; exact PO.nil _, m1.hS, (HPO1.out.below HB2.out).np n1, m1.tr, k1.more (by simp)⟩
set_option maxRecDepth 8000 in
set_option maxHeartbeats 2000000 in
theorem mans_range {w : World} {S g c : Nat} {mv : Value} {st : Sm} {fv : Nat → Value} (h : MS w S g c mv st fv) (hpo : PO w mv st.mp) (ok : OkS st) (t key val hi lim : Int) (hb : badB st.n st.th t ⟨3, key, val, hi, lim⟩ = false) :
    Calls Tryd.prog 13 #[.pointer (some ⟨S, 0, none⟩), .int .i64 t, .agg #[.int .i64 3, .int .i64 key, .int .i64 val, .int .i64 hi, .int .i64 lim]] w (AnsP w S g st ⟨3, 0, 0, 0, cutL st.mp key hi lim⟩) := by
  refine Calls.veil fun Q HQ => ?_
  go_enter Tryd.func13, Tryd.ntmps13
  go_upto_region 1 with fail
  generalize hU : World.alloc _ _ = U
  have hBU : Below w.heap.size w U := by rw [← hU]; (repeat (first | exact Below.refl _ _ | assumption | refine below_new ?_ _ | refine Below.drew ?_ | refine below_drewN ?_ _ | refine below_on ?_ (by assumption)))
  obtain ⟨B, hB⟩ : ∃ B, B = w.heap.size := ⟨_, rfl⟩
  have e1 : (w.alloc (.cells #[.int .i64 3, .int .i64 key, .int .i64 val, .int .i64 hi, .int .i64 lim] 38)).heap.size = B + 1 := by rw [hB]; simp
  have b1 : Below (B + 1) (w.alloc (.cells #[.int .i64 3, .int .i64 key, .int .i64 val, .int .i64 hi, .int .i64 lim] 38)) U := by
    rw [← hU, ← e1]; (repeat (first | exact Below.refl _ _ | assumption | refine below_new ?_ _ | refine Below.drew ?_ | refine below_drewN ?_ _ | refine below_on ?_ (by assumption)))
  have z0 : U.cell? ⟨B, 0, none⟩ = some (.int .i64 3) := by rw [hB]; exact Ext.made_in rfl (by rw [e1]; exact b1) 0 _ rfl
  have z1 : U.cell? ⟨B, 1, none⟩ = some (.int .i64 key) := by rw [hB]; exact Ext.made_in rfl (by rw [e1]; exact b1) 1 _ rfl
  have z2 : U.cell? ⟨B, 2, none⟩ = some (.int .i64 val) := by rw [hB]; exact Ext.made_in rfl (by rw [e1]; exact b1) 2 _ rfl
  have z3 : U.cell? ⟨B, 3, none⟩ = some (.int .i64 hi) := by rw [hB]; exact Ext.made_in rfl (by rw [e1]; exact b1) 3 _ rfl
  have z4 : U.cell? ⟨B, 4, none⟩ = some (.int .i64 lim) := by rw [hB]; exact Ext.made_in rfl (by rw [e1]; exact b1) 4 _ rfl
  have HA := Lib.hid (show A5 U (B + 1) by unfold A5; rw [← e1, ← hU]; exact heap_alloc_new _ _)
  have HBU := Lib.hid hBU
  have HBE := Lib.hid hB
  rw [← hB]
  clear hU b1 e1 hBU hB
  have HM := Lib.hid h
  have HMU := Lib.hid (h.below HBU.out)
  have HP0 := Lib.hid hpo
  have HPO := Lib.hid (hpo.below HBU.out)
  have HL := Lib.hid (show S < B ∧ g < B by rw [HBE.out]; exact ⟨h.sl, h.row.lt⟩)
  have S1 := Lib.hid HMU.out.s1
  have HBB := Lib.hid hb
  have HOK := Lib.hid ok
  clear h hpo hb ok
  go_wp2_with fail
  refine (mbad S1.out HMU.out.tr t ⟨3, key, val, hi, lim⟩).mono ?_; rintro _ w1 ⟨rfl, hb1⟩
  rw [HBB.out]
  have HB1 := Lib.hid hb1
  have HA1 := Lib.hid (HA.out.below hb1)
  have HM1 := Lib.hid (HMU.out.below hb1)
  have HPO1 := Lib.hid (HPO.out.below hb1)
  have z0 := Ext.use (Ext.cells z0) hb1; have z1 := Ext.use (Ext.cells z1) hb1; have z2 := Ext.use (Ext.cells z2) hb1; have z3 := Ext.use (Ext.cells z3) hb1; have z4 := Ext.use (Ext.cells z4) hb1
  have HBT := Lib.hid (HBU.out.trans (hb1.mono HBU.out.size))
  clear hb1
  obtain ⟨p9, c9, e9, _, _⟩ := HPO1.out.1.slice
  have HE9 := Lib.hid e9
  have s0 := HM1.out.s0
  rw [e9] at s0
  have s0 : ∀ x : E4 w1 [B + 1], x.w.cell? ⟨S, 0, none⟩ = some (.slice p9 st.mp.length c9) := E4.cells s0 (by have := HL.out; simp; omega)
  have z1 : ∀ x : E4 w1 [B + 1], x.w.cell? ⟨B, 1, none⟩ = some (.int .i64 key) := E4.cells z1 (by simp)
  have z3 : ∀ x : E4 w1 [B + 1], x.w.cell? ⟨B, 3, none⟩ = some (.int .i64 hi) := E4.cells z3 (by simp)
  have z4 : ∀ x : E4 w1 [B + 1], x.w.cell? ⟨B, 4, none⟩ = some (.int .i64 lim) := E4.cells z4 (by simp)
  clear e9 z2
  go_upto_region 14 with fail
  (with_reducible refine wp_region_mix (fun w' => ∃ x : E4 w1 [B + 1], w' = x.w) ?_ ?_ ?_ ?_; kernel_rfl; kernel_rfl; exact ⟨⟨w1.drew, .of_below (Below.refl _ _).drew⟩, rfl⟩)
  repeat (first | ((with_reducible refine mix_plain (by kernel_rfl) ?_); (first | go_big_quiet_skip | (go_big_quiet_want; go_big_quiet_op; go_big_quiet_on)); (with_reducible refine mix_on ?_)) | ((with_reducible refine mix_skip (by kernel_rfl) ?_); go_big_quiet_skip; (with_reducible refine mix_on ?_)))
  ((with_reducible refine wpMix_chain (by kernel_rfl) (by kernel_rfl) (fun K HK => ?_)); go_step)
  refine (pcutO st.mp _ key hi lim w1.drew (by rw [← HE9.out]; exact HPO1.out.1.below (Below.refl _ _).drew) HOK.out.mr (by have := HOK.out.ml; omega)).mono ?_; rintro _ w2 ⟨v2, rfl, hp2, hb2⟩
  have hb2 : Below w1.heap.size w1 w2 := ((Below.refl _ _).drew).trans hb2
  have HB2 := Lib.hid hb2
  have HP2 := Lib.hid hp2
  have HA2 := Lib.hid (HA1.out.below hb2)
  obtain ⟨p2, cc2, rfl, _, _⟩ := hp2.1.slice
  obtain ⟨c0, c1, c2, c3, c4, cf⟩ := HA2.out.c
  refine HK.out _ _ ⟨⟨w2, .of_below hb2⟩, rfl⟩ ?_
  clear HK K hb2 hp2
  repeat (first | ((with_reducible refine mix_plain (by kernel_rfl) ?_); (first | go_big_quiet_skip | (go_big_quiet_want; go_big_quiet_op; go_big_quiet_on)); (with_reducible refine mix_on ?_)) | ((with_reducible refine mix_skip (by kernel_rfl) ?_); go_big_quiet_skip; (with_reducible refine mix_on ?_)))
  ((with_reducible refine wpMix_chain (by kernel_rfl) (by kernel_rfl) (fun K HK => ?_)); go_step)
  refine HK.out _ _ ⟨⟨_, ((((((KX.of_below HB2.out).trans (KX.set (by simp))).trans (KX.set (by simp))).trans (KX.set (by simp))).trans (KX.set (by simp))).trans (KX.set (by simp)))⟩, rfl⟩ ?_
  clear HK K
  repeat (first | ((with_reducible refine mix_plain (by kernel_rfl) ?_); (first | go_big_quiet_skip | (go_big_quiet_want; go_big_quiet_op; go_big_quiet_on)); (with_reducible refine mix_on ?_)) | ((with_reducible refine mix_skip (by kernel_rfl) ?_); go_big_quiet_skip; (with_reducible refine mix_on ?_)))
  refine wpMix_nil ?_
  clear z0 z1 z3 z4 s0
  go_wp2_with fail
  refine bodyPost_ret (v := .agg #[.int .i64 3, .int .i64 0, .int .i64 0, .int .i64 0, .slice p2 (cutL st.mp key hi lim).length cc2]) (by simp [results, Tryd.results13, go_sem, c0, c1, c2, c3, c4, World.cell?_setCell_same, World.cell?_setCell_other]) rfl ?_
  rw [HQ.out]
  have hBE := HBE.out
  obtain ⟨l1, l2⟩ := HL.out
  obtain ⟨m1, k1⟩ := (HM1.out.below HB2.out).ans5 HA2.out (by omega) (by omega) (by omega) (fun b o n c e hn => by have := HM.out.mp.blk e hn; omega) (KX.of_below (HBT.out.trans (HB2.out.mono HBT.out.size))) (.int .i64 3) (.int .i64 0) (.int .i64 0) (.int .i64 0) (.slice p2 (cutL st.mp key hi lim).length cc2)
  obtain ⟨_, n1, _⟩ := ans5 (w := w) (X := []) HA2.out (by omega) (KX.of_below (HBT.out.trans (HB2.out.mono HBT.out.size))) (.int .i64 3) (.int .i64 0) (.int .i64 0) (.int .i64 0) (.slice p2 (cutL st.mp key hi lim).length cc2)
  exact ⟨_, mv, _, rfl, HP2.out.np n1, m1.hS, (HPO1.out.below HB2.out).np n1, m1.tr, k1.more (by simp)⟩
set_option maxRecDepth 8000 in
set_option maxHeartbeats 2000000 in
theorem mans_count {w : World} {S g c : Nat} {mv : Value} {st : Sm} {fv : Nat → Value} (h : MS w S g c mv st fv) (hpo : PO w mv st.mp) (ok : OkS st) (t key val hi lim : Int) (hb : badB st.n st.th t ⟨4, key, val, hi, lim⟩ = false) :
    Calls Tryd.prog 13 #[.pointer (some ⟨S, 0, none⟩), .int .i64 t, .agg #[.int .i64 4, .int .i64 key, .int .i64 val, .int .i64 hi, .int .i64 lim]] w (AnsP w S g st ⟨2, 0, 0, ((cutL st.mp key hi 9223372036854775807).length : Nat), []⟩) := by
  refine Calls.veil fun Q HQ => ?_
  go_enter Tryd.func13, Tryd.ntmps13
  go_upto_region 1 with fail
  generalize hU : World.alloc _ _ = U
  have hBU : Below w.heap.size w U := by rw [← hU]; (repeat (first | exact Below.refl _ _ | assumption | refine below_new ?_ _ | refine Below.drew ?_ | refine below_drewN ?_ _ | refine below_on ?_ (by assumption)))
  obtain ⟨B, hB⟩ : ∃ B, B = w.heap.size := ⟨_, rfl⟩
  have e1 : (w.alloc (.cells #[.int .i64 4, .int .i64 key, .int .i64 val, .int .i64 hi, .int .i64 lim] 38)).heap.size = B + 1 := by rw [hB]; simp
  have b1 : Below (B + 1) (w.alloc (.cells #[.int .i64 4, .int .i64 key, .int .i64 val, .int .i64 hi, .int .i64 lim] 38)) U := by
    rw [← hU, ← e1]; (repeat (first | exact Below.refl _ _ | assumption | refine below_new ?_ _ | refine Below.drew ?_ | refine below_drewN ?_ _ | refine below_on ?_ (by assumption)))
  have z0 : U.cell? ⟨B, 0, none⟩ = some (.int .i64 4) := by rw [hB]; exact Ext.made_in rfl (by rw [e1]; exact b1) 0 _ rfl
  have z1 : U.cell? ⟨B, 1, none⟩ = some (.int .i64 key) := by rw [hB]; exact Ext.made_in rfl (by rw [e1]; exact b1) 1 _ rfl
  have z2 : U.cell? ⟨B, 2, none⟩ = some (.int .i64 val) := by rw [hB]; exact Ext.made_in rfl (by rw [e1]; exact b1) 2 _ rfl
  have z3 : U.cell? ⟨B, 3, none⟩ = some (.int .i64 hi) := by rw [hB]; exact Ext.made_in rfl (by rw [e1]; exact b1) 3 _ rfl
  have z4 : U.cell? ⟨B, 4, none⟩ = some (.int .i64 lim) := by rw [hB]; exact Ext.made_in rfl (by rw [e1]; exact b1) 4 _ rfl
  have HA := Lib.hid (show A5 U (B + 1) by unfold A5; rw [← e1, ← hU]; exact heap_alloc_new _ _)
  have HBU := Lib.hid hBU
  have HBE := Lib.hid hB
  rw [← hB]
  clear hU b1 e1 hBU hB
  have HM := Lib.hid h
  have HMU := Lib.hid (h.below HBU.out)
  have HP0 := Lib.hid hpo
  have HPO := Lib.hid (hpo.below HBU.out)
  have HL := Lib.hid (show S < B ∧ g < B by rw [HBE.out]; exact ⟨h.sl, h.row.lt⟩)
  have S1 := Lib.hid HMU.out.s1
  have HBB := Lib.hid hb
  have HOK := Lib.hid ok
  clear h hpo hb ok
  go_wp2_with fail
  refine (mbad S1.out HMU.out.tr t ⟨4, key, val, hi, lim⟩).mono ?_; rintro _ w1 ⟨rfl, hb1⟩
  rw [HBB.out]
  have HB1 := Lib.hid hb1
  have HA1 := Lib.hid (HA.out.below hb1)
  have HM1 := Lib.hid (HMU.out.below hb1)
  have HPO1 := Lib.hid (HPO.out.below hb1)
  have z0 := Ext.use (Ext.cells z0) hb1; have z1 := Ext.use (Ext.cells z1) hb1; have z2 := Ext.use (Ext.cells z2) hb1; have z3 := Ext.use (Ext.cells z3) hb1; have z4 := Ext.use (Ext.cells z4) hb1
  have HBT := Lib.hid (HBU.out.trans (hb1.mono HBU.out.size))
  clear hb1
  obtain ⟨p9, c9, e9, _, _⟩ := HPO1.out.1.slice
  have HE9 := Lib.hid e9
  have s0 := HM1.out.s0
  rw [e9] at s0
  have s0 : ∀ x : E4 w1 [B + 1], x.w.cell? ⟨S, 0, none⟩ = some (.slice p9 st.mp.length c9) := E4.cells s0 (by have := HL.out; simp; omega)
  have z1 : ∀ x : E4 w1 [B + 1], x.w.cell? ⟨B, 1, none⟩ = some (.int .i64 key) := E4.cells z1 (by simp)
  have z3 : ∀ x : E4 w1 [B + 1], x.w.cell? ⟨B, 3, none⟩ = some (.int .i64 hi) := E4.cells z3 (by simp)
  have z4 : ∀ x : E4 w1 [B + 1], x.w.cell? ⟨B, 4, none⟩ = some (.int .i64 lim) := E4.cells z4 (by simp)
  clear e9 z2
  go_upto_region 16 with fail
  (with_reducible refine wp_region_mix (fun w' => ∃ x : E4 w1 [B + 1], w' = x.w) ?_ ?_ ?_ ?_; kernel_rfl; kernel_rfl; exact ⟨⟨w1.drew, .of_below (Below.refl _ _).drew⟩, rfl⟩)
  repeat (first | ((with_reducible refine mix_plain (by kernel_rfl) ?_); (first | go_big_quiet_skip | (go_big_quiet_want; go_big_quiet_op; go_big_quiet_on)); (with_reducible refine mix_on ?_)) | ((with_reducible refine mix_skip (by kernel_rfl) ?_); go_big_quiet_skip; (with_reducible refine mix_on ?_)))
  ((with_reducible refine wpMix_chain (by kernel_rfl) (by kernel_rfl) (fun K HK => ?_)); go_step)
  refine (pcutO st.mp _ key hi 9223372036854775807 w1.drew (by rw [← HE9.out]; exact HPO1.out.1.below (Below.refl _ _).drew) HOK.out.mr (by have := HOK.out.ml; omega)).mono ?_; rintro _ w2 ⟨v2, rfl, hp2, hb2⟩
  have hb2 : Below w1.heap.size w1 w2 := ((Below.refl _ _).drew).trans hb2
  have HB2 := Lib.hid hb2
  have HP2 := Lib.hid hp2
  have HA2 := Lib.hid (HA1.out.below hb2)
  obtain ⟨p2, cc2, rfl, _, _⟩ := hp2.1.slice
  obtain ⟨c0, c1, c2, c3, c4, cf⟩ := HA2.out.c
  refine HK.out _ _ ⟨⟨w2, .of_below hb2⟩, rfl⟩ ?_
  clear HK K hb2 hp2
  repeat (first | ((with_reducible refine mix_plain (by kernel_rfl) ?_); (first | go_big_quiet_skip | (go_big_quiet_want; go_big_quiet_op; go_big_quiet_on)); (with_reducible refine mix_on ?_)) | ((with_reducible refine mix_skip (by kernel_rfl) ?_); go_big_quiet_skip; (with_reducible refine mix_on ?_)))
  ((with_reducible refine wpMix_chain (by kernel_rfl) (by kernel_rfl) (fun K HK => ?_)); go_step)
  refine HK.out _ _ ⟨⟨_, ((((((KX.of_below HB2.out).trans (KX.set (by simp))).trans (KX.set (by simp))).trans (KX.set (by simp))).trans (KX.set (by simp))).trans (KX.set (by simp)))⟩, rfl⟩ ?_
  clear HK K
  repeat (first | ((with_reducible refine mix_plain (by kernel_rfl) ?_); (first | go_big_quiet_skip | (go_big_quiet_want; go_big_quiet_op; go_big_quiet_on)); (with_reducible refine mix_on ?_)) | ((with_reducible refine mix_skip (by kernel_rfl) ?_); go_big_quiet_skip; (with_reducible refine mix_on ?_)))
  refine wpMix_nil ?_
  clear z0 z1 z3 z4 s0
  go_wp2_with fail
  refine bodyPost_ret (v := .agg #[.int .i64 2, .int .i64 0, .int .i64 0, .int .i64 ((cutL st.mp key hi 9223372036854775807).length : Nat), .slice none 0 0]) (by simp [results, Tryd.results13, go_sem, c0, c1, c2, c3, c4, World.cell?_setCell_same, World.cell?_setCell_other]) rfl ?_
  rw [HQ.out]
  have hBE := HBE.out
  obtain ⟨l1, l2⟩ := HL.out
  obtain ⟨m1, k1⟩ := (HM1.out.below HB2.out).ans5 HA2.out (by omega) (by omega) (by omega) (fun b o n c e hn => by have := HM.out.mp.blk e hn; omega) (KX.of_below (HBT.out.trans (HB2.out.mono HBT.out.size))) (.int .i64 2) (.int .i64 0) (.int .i64 0) (.int .i64 ((cutL st.mp key hi 9223372036854775807).length : Nat)) (.slice none 0 0)
  obtain ⟨_, n1, _⟩ := ans5 (w := w) (X := []) HA2.out (by omega) (KX.of_below (HBT.out.trans (HB2.out.mono HBT.out.size))) (.int .i64 2) (.int .i64 0) (.int .i64 0) (.int .i64 ((cutL st.mp key hi 9223372036854775807).length : Nat)) (.slice none 0 0)
  exact ⟨_, mv, _, rfl, PO.nil _, m1.hS, (HPO1.out.below HB2.out).np n1, m1.tr, k1.more (by simp)⟩
set_option maxRecDepth 8000 in
set_option maxHeartbeats 2000000 in
theorem mans_ses {w : World} {S g c : Nat} {mv : Value} {st : Sm} {fv : Nat → Value} (h : MS w S g c mv st fv) (hpo : PO w mv st.mp) (ok : OkS st) (i : Nat) (hi0 : i < st.n) (op key val hi lim : Int) (hb : badB st.n st.th i ⟨op, key, val, hi, lim⟩ = false) (hop : 9 ≤ op ∧ op ≤ 14) (s' : Se) (an : An) (hsa : sesA st i ⟨op, key, val, hi, lim⟩ = (s', an)) (hps : an.ps = []) :
    Calls Tryd.prog 13 #[.pointer (some ⟨S, 0, none⟩), .int .i64 i, .agg #[.int .i64 op, .int .i64 key, .int .i64 val, .int .i64 hi, .int .i64 lim]] w (AnsP w S g { st with th := updT st.th i s' } an) := by
  have HPS := Lib.hid hps
  have HSA := Lib.hid hsa
  clear hsa hps
  refine Calls.veil fun Q HQ => ?_
  go_enter Tryd.func13, Tryd.ntmps13
  go_upto_region 1 with fail
  generalize hU : World.alloc _ _ = U
  have hBU : Below w.heap.size w U := by rw [← hU]; (repeat (first | exact Below.refl _ _ | assumption | refine below_new ?_ _ | refine Below.drew ?_ | refine below_drewN ?_ _ | refine below_on ?_ (by assumption)))
  obtain ⟨B, hB⟩ : ∃ B, B = w.heap.size := ⟨_, rfl⟩
  have e1 : (w.alloc (.cells #[.int .i64 op, .int .i64 key, .int .i64 val, .int .i64 hi, .int .i64 lim] 38)).heap.size = B + 1 := by rw [hB]; simp
  have b1 : Below (B + 1) (w.alloc (.cells #[.int .i64 op, .int .i64 key, .int .i64 val, .int .i64 hi, .int .i64 lim] 38)) U := by
    rw [← hU, ← e1]; (repeat (first | exact Below.refl _ _ | assumption | refine below_new ?_ _ | refine Below.drew ?_ | refine below_drewN ?_ _ | refine below_on ?_ (by assumption)))
  have z0 : U.cell? ⟨B, 0, none⟩ = some (.int .i64 op) := by rw [hB]; exact Ext.made_in rfl (by rw [e1]; exact b1) 0 _ rfl
  have z1 : U.cell? ⟨B, 1, none⟩ = some (.int .i64 key) := by rw [hB]; exact Ext.made_in rfl (by rw [e1]; exact b1) 1 _ rfl
  have z2 : U.cell? ⟨B, 2, none⟩ = some (.int .i64 val) := by rw [hB]; exact Ext.made_in rfl (by rw [e1]; exact b1) 2 _ rfl
  have z3 : U.cell? ⟨B, 3, none⟩ = some (.int .i64 hi) := by rw [hB]; exact Ext.made_in rfl (by rw [e1]; exact b1) 3 _ rfl
  have z4 : U.cell? ⟨B, 4, none⟩ = some (.int .i64 lim) := by rw [hB]; exact Ext.made_in rfl (by rw [e1]; exact b1) 4 _ rfl
  have HA := Lib.hid (show A5 U (B + 1) by unfold A5; rw [← e1, ← hU]; exact heap_alloc_new _ _)
  have HBU := Lib.hid hBU
  have HBE := Lib.hid hB
  rw [← hB]
  clear hU b1 e1 hBU hB
  have HM := Lib.hid h
  have HMU := Lib.hid (h.below HBU.out)
  have HP0 := Lib.hid hpo
  have HPO := Lib.hid (hpo.below HBU.out)
  have HL := Lib.hid (show S < B ∧ g < B by rw [HBE.out]; exact ⟨h.sl, h.row.lt⟩)
  have S1 := Lib.hid HMU.out.s1
  have HBB := Lib.hid hb
  have HOK := Lib.hid ok
  clear h hpo hb ok
  go_wp2_with fail
  refine (mbad S1.out HMU.out.tr i ⟨op, key, val, hi, lim⟩).mono ?_; rintro _ w1 ⟨rfl, hb1⟩
  rw [HBB.out]
  have HB1 := Lib.hid hb1
  have HA1 := Lib.hid (HA.out.below hb1)
  have HM1 := Lib.hid (HMU.out.below hb1)
  have HPO1 := Lib.hid (HPO.out.below hb1)
  have z0 := Ext.use (Ext.cells z0) hb1; have z1 := Ext.use (Ext.cells z1) hb1; have z2 := Ext.use (Ext.cells z2) hb1; have z3 := Ext.use (Ext.cells z3) hb1; have z4 := Ext.use (Ext.cells z4) hb1
  have HBT := Lib.hid (HBU.out.trans (hb1.mono HBU.out.size))
  clear hb1
  have s1 := HM1.out.s1
  have s1 : ∀ x : E4 w1 [g, B + 1], x.w.cell? ⟨S, 1, none⟩ = some (.slice (some ⟨g, 0, none⟩) st.n c) := E4.cells s1 (by have := HL.out; have := HM.out.ne; simp; omega)
  have z0x : ∀ x : E4 w1 [g, B + 1], x.w.cell? ⟨B, 0, none⟩ = some (.int .i64 op) := E4.cells z0 (by have := HL.out; simp; omega)
  have z1 : ∀ x : E4 w1 [g, B + 1], x.w.cell? ⟨B, 1, none⟩ = some (.int .i64 key) := E4.cells z1 (by have := HL.out; simp; omega)
  have z2 : ∀ x : E4 w1 [g, B + 1], x.w.cell? ⟨B, 2, none⟩ = some (.int .i64 val) := E4.cells z2 (by have := HL.out; simp; omega)
  have z3 : ∀ x : E4 w1 [g, B + 1], x.w.cell? ⟨B, 3, none⟩ = some (.int .i64 hi) := E4.cells z3 (by have := HL.out; simp; omega)
  have z4 : ∀ x : E4 w1 [g, B + 1], x.w.cell? ⟨B, 4, none⟩ = some (.int .i64 lim) := E4.cells z4 (by have := HL.out; simp; omega)
  have hii : (i : Int) < st.n := by omega
  have hi1 : 0 ≤ (i : Int) := by omega
  have o0 := neq_b (show op ≠ 0 by omega)
  have o1 := neq_b (show op ≠ 1 by omega)
  have o2 := neq_b (show op ≠ 2 by omega)
  have o3 := neq_b (show op ≠ 3 by omega)
  have o4 := neq_b (show op ≠ 4 by omega)
  have o5 := neq_b (show op ≠ 5 by omega)
  have o6 := neq_b (show op ≠ 6 by omega)
  have o7 := neq_b (show op ≠ 7 by omega)
  have o8 := neq_b (show op ≠ 8 by omega)
  have HOP := Lib.hid hop
  clear hop
  go_upto_region 17 with fail
  clear z0
  (with_reducible refine wp_region_mix (fun w' => ∃ x : E4 w1 [g, B + 1], w' = x.w) ?_ ?_ ?_ ?_; kernel_rfl; kernel_rfl; exact ⟨⟨w1.drew, .of_below (Below.refl _ _).drew⟩, rfl⟩)
  repeat (first | ((with_reducible refine mix_plain (by kernel_rfl) ?_); (first | go_big_quiet_skip | (go_big_quiet_want; go_big_quiet_op; go_big_quiet_on)); (with_reducible refine mix_on ?_)) | ((with_reducible refine mix_skip (by kernel_rfl) ?_); go_big_quiet_skip; (with_reducible refine mix_on ?_)))
  ((with_reducible refine wpMix_chain (by kernel_rfl) (by kernel_rfl) (fun K HK => ?_)); go_step)
  have C := mses (HM1.out.below (Below.refl _ _).drew) hi0 HOK.out op key val hi lim HOP.out
  rw [HSA.out] at C
  refine C.mono ?_; rintro _ w2 ⟨fv2, rfl, hm2, hk2⟩
  clear C
  have hk2 : KX [g] w1 w2 := (KX.of_below (Below.refl _ _).drew).trans hk2
  have HM2 := Lib.hid hm2
  have HK2 := Lib.hid hk2
  have HA2 := Lib.hid (HA1.out.of (hk2.block _ HA1.out.lt (by have := HL.out; simp; omega)))
  obtain ⟨c0, c1, c2, c3, c4, cf⟩ := HA2.out.c
  unfold anV
  refine HK.out _ _ ⟨⟨w2, hk2.more (by simp)⟩, rfl⟩ ?_
  clear HK K hk2 hm2
  repeat (first | ((with_reducible refine mix_plain (by kernel_rfl) ?_); (first | go_big_quiet_skip | (go_big_quiet_want; go_big_quiet_op; go_big_quiet_on)); (with_reducible refine mix_on ?_)) | ((with_reducible refine mix_skip (by kernel_rfl) ?_); go_big_quiet_skip; (with_reducible refine mix_on ?_)))
  ((with_reducible refine wpMix_chain (by kernel_rfl) (by kernel_rfl) (fun K HK => ?_)); go_step)
  refine HK.out _ _ ⟨⟨_, (((((HK2.out.more (by simp)).trans (KX.set (by simp))).trans (KX.set (by simp))).trans (KX.set (by simp))).trans (KX.set (by simp))).trans (KX.set (by simp))⟩, rfl⟩ ?_
  clear HK K
  repeat (first | ((with_reducible refine mix_plain (by kernel_rfl) ?_); (first | go_big_quiet_skip | (go_big_quiet_want; go_big_quiet_op; go_big_quiet_on)); (with_reducible refine mix_on ?_)) | ((with_reducible refine mix_skip (by kernel_rfl) ?_); go_big_quiet_skip; (with_reducible refine mix_on ?_)))
  refine wpMix_nil ?_
  clear s1 z0x z1 z2 z3 z4
  go_wp2_with fail
  refine bodyPost_ret (v := .agg #[.int .i64 an.kind, .int .i64 an.key, .int .i64 an.val, .int .i64 an.n, .slice none 0 0]) (by simp [results, Tryd.results13, go_sem, c0, c1, c2, c3, c4, World.cell?_setCell_same, World.cell?_setCell_other]) rfl ?_
  rw [HQ.out]
  have hBE := HBE.out
  obtain ⟨l1, l2⟩ := HL.out
  obtain ⟨m1, k1⟩ := HM2.out.ans5 HA2.out (by omega) (by omega) (by omega) (fun b o n c e hn => by have := HM.out.mp.blk e hn; omega) ((KX.of_below HBT.out).trans HK2.out) (.int .i64 an.kind) (.int .i64 an.key) (.int .i64 an.val) (.int .i64 an.n) (.slice none 0 0)
  exact ⟨_, mv, _, rfl, by rw [HPS.out]; exact PO.nil _, m1.hS, HP0.out.kx k1 m1.mg, m1.tr, k1.more (by simp)⟩
end Go.Proofs.YtkgfhomoipbjoaaDoor
