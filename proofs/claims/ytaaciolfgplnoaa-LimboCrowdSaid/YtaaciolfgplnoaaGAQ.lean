/- GAQ: several texts in one. -/
import Derived.Test.YtaaciolfgplnoaaGAN
import Derived.Test.YtaaciolfgplnoaaRouP
import Derived.Test.YtaaciolfgplnoaaRouQ
import Derived.Test.YtaaciolfgplnoaaGAC
/- Layer 17: Do at Give, and Give alone. -/
namespace Go.Proofs.Ytaaciolfgplnoaa
open Go.RowKit WordM EdgeM
set_option linter.unusedVariables false
set_option linter.unusedSimpArgs false
def Pc.st (P : Pc) (f : Nat → Int) (slot fi v : Int) : Nat → Int := if P.ok slot fi = true then Mm.upd f (nodeI P.t P.s slot fi).toNat v else f
/-- A step of Give. -/
def rGive (P : Pc) (k m : Nat) (σ : Sg) : Sg :=
  if ((σ.Ts k).fs m).pc = 0 then
    { σ.thr k (setF (σ.Ts k) m ⟨((σ.Ts k).fs m).fn, 1, ((σ.Ts k).fs m).r⟩) with acc := σ.acc + 1, flt := (σ.flt || !P.ok (((σ.Ts k).fs m).r 0 % 4096) 1), f := P.st σ.f (((σ.Ts k).fs m).r 0 % 4096) 1 (((((σ.Ts k).fs m).r 0) / 4096 % 1125899906842624 + 1) % 1125899906842624), H := Gd.dropH P.s σ.H σ.G (((σ.Ts k).fs m).r 0), G := Gd.dropG P.s σ.H σ.G (((σ.Ts k).fs m).r 0) }
  else if ((σ.Ts k).fs m).pc = 1 then
    { σ.thr k (setF (σ.Ts k) m ⟨((σ.Ts k).fs m).fn, 2, updr ((σ.Ts k).fs m).r 1 (σ.f 2)⟩) with acc := σ.acc + 1 }
  else if ((σ.Ts k).fs m).pc = 2 then
    { σ.thr k (setF (σ.Ts k) m ⟨((σ.Ts k).fs m).fn, 3, ((σ.Ts k).fs m).r⟩) with acc := σ.acc + 1, flt := σ.flt || !P.ok (((σ.Ts k).fs m).r 0 % 4096) 0, f := P.st σ.f (((σ.Ts k).fs m).r 0 % 4096) 0 (((σ.Ts k).fs m).r 1 % 4096) }
  else if (σ.f 2 == ((σ.Ts k).fs m).r 1) = true then
    { σ.thr k (Th.backT (σ.Ts k) 0 (fun _ => 0)) with acc := σ.acc + 1, f := Mm.upd σ.f 2 (chgI (((σ.Ts k).fs m).r 1) (((σ.Ts k).fs m).r 0 % 4096)) }
  else { σ.thr k (setF (σ.Ts k) m ⟨((σ.Ts k).fs m).fn, 1, ((σ.Ts k).fs m).r⟩) with acc := σ.acc + 1 }
theorem mgive {w : World} {P : Pc} {σ : Sg} (h : MM w P σ) {ps : Nat → Nat → Nat} {fvs : Nat → Value} (tf : TF w P.q P.t P.tq σ.Ts ps fvs) {k m : Nat} (hk : k < P.t) (hm : (σ.Ts k).nf = m + 1) (hpc : 0 ≤ ((σ.Ts k).fs m).pc ∧ ((σ.Ts k).fs m).pc ≤ 3)
    (hr : 0 ≤ ((σ.Ts k).fs m).r 0 ∧ ((σ.Ts k).fs m).r 0 < 18446744073709551616) (hr1 : 2 ≤ ((σ.Ts k).fs m).pc → 0 ≤ ((σ.Ts k).fs m).r 1 ∧ ((σ.Ts k).fs m).r 1 < 18446744073709551616) (hl : ((σ.Ts k).fs m).pc = 0 → Gd.leadsB P.s σ.H σ.G (((σ.Ts k).fs m).r 0) = true) (a0 : 0 ≤ σ.acc) (a1 : σ.acc < 1000000) (hsl : σ.sl < 1000000) (hN : m ≤ 1000) :
    Calls Try.prog 88 #[.agg #[.pointer (some ⟨P.q, 0, none⟩), .pointer (some ⟨P.tq k, 0, none⟩), .pointer (some ⟨ps k m, 0, none⟩)]] w fun x w' => x = .returned (.tuple #[]) ∧ MM w' P (rGive P k m σ) ∧ KA P.B P.N w w' := by
  have hmm : m < (σ.Ts k).nf := by omega
  rcases (by omega : ((σ.Ts k).fs m).pc = 0 ∨ ((σ.Ts k).fs m).pc = 1 ∨ ((σ.Ts k).fs m).pc = 2 ∨ ((σ.Ts k).fs m).pc = 3) with e | e | e | e
  · refine (give0 h.c tf hk hm e hr (hl e) hsl a0 a1).mono ?_
    rintro _ w' ⟨rfl, hc, ht, ks⟩
    refine ⟨rfl, by unfold rGive; rw [if_pos e]; exact ⟨hc, ⟨_, _, ht⟩, h.qN, h.tN, Nat.le_trans h.NS ks.size⟩, h.ka tf hk (m := m) ks fun j hj => ?_⟩
    rcases hj with e | e | e | e | e | e
    · exact .inl e
    · exact .inr (.inl e)
    · exact .inr (.inr (.inl e))
    · exact .inr (.inr (.inr (.inl e)))
    · exact .inr (.inr (.inr (.inr (.inl e))))
    · exact .inr (.inr (.inr (.inr (.inr (.inr (.inr (.inr ⟨hmm, e⟩)))))))
  · refine (give1 h.c tf hk hm e hr a0 a1).mono ?_
    rintro _ w' ⟨rfl, hc, ht, ks⟩
    refine ⟨rfl, by unfold rGive; rw [if_neg (by omega), if_pos e]; exact ⟨hc, ⟨_, _, ht⟩, h.qN, h.tN, Nat.le_trans h.NS ks.size⟩, h.ka tf hk (m := m) ks fun j hj => ?_⟩
    rcases hj with e | e | e
    · exact .inl e
    · exact .inr (.inl e)
    · exact .inr (.inr (.inr (.inr (.inr (.inr (.inr (.inr ⟨hmm, e⟩)))))))
  · refine (give2 h.c tf hk hm e hr (hr1 (by omega)) a0 a1).mono ?_
    rintro _ w' ⟨rfl, hc, ht, ks⟩
    refine ⟨rfl, by unfold rGive; rw [if_neg (by omega), if_neg (by omega), if_pos e]; exact ⟨hc, ⟨_, _, ht⟩, h.qN, h.tN, Nat.le_trans h.NS ks.size⟩, h.ka tf hk (m := m) ks fun j hj => ?_⟩
    rcases hj with e | e | e
    · exact .inl e
    · exact .inr (.inl e)
    · exact .inr (.inr (.inr (.inr (.inr (.inr (.inr (.inr ⟨hmm, e⟩)))))))
  · cases hz : σ.f 2 == ((σ.Ts k).fs m).r 1 with
    | true =>
      refine (give3y h.c tf hk hm e hr (hr1 (by omega)) hz hN a0 a1).mono ?_
      rintro _ w' ⟨rfl, hc, ⟨fv', ht, ho⟩, ks⟩
      refine ⟨rfl, by unfold rGive; rw [if_neg (by omega), if_neg (by omega), if_neg (by omega), if_pos hz]; exact ⟨hc, ⟨_, _, ht⟩, h.qN, h.tN, Nat.le_trans h.NS ks.size⟩, h.ka tf hk (m := m) ks fun j hj => ?_⟩
      rcases hj with e | e | e | e
      · exact .inl e
      · exact .inr (.inl e)
      · exact .inr (.inr (.inr (.inr (.inr (.inr (.inl e))))))
      · exact .inr (.inr (.inr (.inr (.inr (.inr (.inr (.inl e)))))))
    | false =>
      refine (give3n h.c tf hk hm e hr (hr1 (by omega)) hz a0 a1).mono ?_
      rintro _ w' ⟨rfl, hc, ht, ks⟩
      refine ⟨rfl, by unfold rGive; rw [if_neg (by omega), if_neg (by omega), if_neg (by omega), if_neg (by rw [hz]; decide)]; exact ⟨hc, ⟨_, _, ht⟩, h.qN, h.tN, Nat.le_trans h.NS ks.size⟩, h.ka tf hk (m := m) ks fun j hj => ?_⟩
      rcases hj with e | e | e
      · exact .inl e
      · exact .inr (.inl e)
      · exact .inr (.inr (.inr (.inr (.inr (.inr (.inr (.inr ⟨hmm, e⟩)))))))
/-! ### Do -/
set_option maxRecDepth 8000 in
set_option maxHeartbeats 2000000 in
theorem sdoG {w : World} {P : Pc} {σ σ' : Sg} (h : MM w P σ) {k m : Nat} (hk : k < P.t) (hm : (σ.Ts k).nf = m + 1) (hN : m ≤ 1000) (hfn : ((σ.Ts k).fs m).fn = 2)
    (hst : ∀ w' ps fvs, MM w' P σ → TF w' P.q P.t P.tq σ.Ts ps fvs → Calls Try.prog 88 #[.agg #[.pointer (some ⟨P.q, 0, none⟩), .pointer (some ⟨P.tq k, 0, none⟩), .pointer (some ⟨ps k m, 0, none⟩)]] w' fun x w'' => x = .returned (.tuple #[]) ∧ MM w'' P σ' ∧ KA P.B P.N w' w'') :
    Calls Try.prog 68 #[.pointer (some ⟨P.q, 0, none⟩), .int .i64 k] w fun x w' => x = .returned (.tuple #[]) ∧ MM w' P σ' ∧ KA P.B P.N w w' := by
  refine Calls.veil fun Q HQ => ?_
  obtain ⟨ps, fvs, tf⟩ := h.th
  have HH := Lib.hid h; have HT := Lib.hid tf; have HS := Lib.hid hst; have HM := Lib.hid hm; have HFN := Lib.hid hfn
  clear h tf hst hm hfn
  go_enter Try.func68, Try.ntmps68
  go_wp2_with fail
  refine (cThread_yes HH.out.c k hk).mono ?_; rintro _ w1 ⟨rfl, hb1⟩
  have HB1 := Lib.hid hb1
  clear hb1
  go_wp2_with fail
  refine (Th.ftop1 ((HT.out.below HB1.out).th k hk).a HM.out (by omega)).mono ?_; rintro _ w2 ⟨rfl, hb2⟩
  have HB2 := Lib.hid (below_on HB1.out hb2)
  clear hb2
  have hbk := (((HT.out.below HB2.out).th k hk).a.fb m (by have := HM.out; omega)).1
  obtain ⟨fb, hfb⟩ : ∃ fb, fb = ps k m := ⟨_, rfl⟩
  have HFB := Lib.hid hfb
  rw [← hfb] at hbk ⊢
  have HC := Lib.hid (show w2.cell? ⟨fb, 0, none⟩ = some (.int .i64 2) by rw [hbk.get (i := 0) (by omega)]; unfold Th.frF; rw [if_pos rfl, HFN.out])
  clear hfb hbk
  go_upto_region 4 with fail
  generalize hV : World.alloc _ _ = V
  obtain ⟨u0, hbv⟩ := Th.heapnewE hV
  obtain ⟨X, hX⟩ : ∃ X, X = w2.heap.size := ⟨_, rfl⟩
  rw [← hX] at u0 ⊢
  have x0 := Th.newcell u0 0 _ rfl; have x1 := Th.newcell u0 1 _ rfl; have x2 := Th.newcell u0 2 _ rfl
  have hbw := below_on HB2.out hbv
  have c0 : V.cell? ⟨fb, 0, none⟩ = some (.int .i64 2) := Ext.cell ⟨V, hbv⟩ HC.out
  have HBV := Lib.hid hbw
  clear hV u0 hbv hbw hX
  go_wp2_with fail
  rw [HFB.out]
  refine (HS.out V ps fvs (HH.out.below HBV.out) (HT.out.below HBV.out)).mono ?_; rintro _ w5 ⟨rfl, hm5, hk5⟩
  have HM5 := Lib.hid hm5; have HK5 := Lib.hid ((KA.of_below HBV.out : KA P.B P.N w V).trans hk5)
  clear hm5 hk5 x0 x1 x2 c0
  go_wp2_with fail
  refine bodyPost_end (v := .tuple #[]) (by simp [results, Try.results68, go_sem]) rfl ?_
  rw [HQ.out]
  exact ⟨rfl, HM5.out, HK5.out⟩
/-- A step of Give, by Do. -/
theorem sdo_give {w : World} {P : Pc} {σ : Sg} (h : MM w P σ) {k m : Nat} (hk : k < P.t) (hm : (σ.Ts k).nf = m + 1) (hfn : ((σ.Ts k).fs m).fn = 2) (hpc : 0 ≤ ((σ.Ts k).fs m).pc ∧ ((σ.Ts k).fs m).pc ≤ 3)
    (hr : 0 ≤ ((σ.Ts k).fs m).r 0 ∧ ((σ.Ts k).fs m).r 0 < 18446744073709551616) (hr1 : 2 ≤ ((σ.Ts k).fs m).pc → 0 ≤ ((σ.Ts k).fs m).r 1 ∧ ((σ.Ts k).fs m).r 1 < 18446744073709551616) (hl : ((σ.Ts k).fs m).pc = 0 → Gd.leadsB P.s σ.H σ.G (((σ.Ts k).fs m).r 0) = true) (a0 : 0 ≤ σ.acc) (a1 : σ.acc < 1000000) (hsl : σ.sl < 1000000) (hN : m ≤ 1000) :
    Calls Try.prog 68 #[.pointer (some ⟨P.q, 0, none⟩), .int .i64 k] w fun x w' => x = .returned (.tuple #[]) ∧ MM w' P (rGive P k m σ) ∧ KA P.B P.N w w' :=
  sdoG h hk hm hN hfn fun w' ps fvs hm' tf => mgive hm' tf hk hm hpc hr hr1 hl a0 a1 hsl hN
/-! ### Give, alone -/
def gvS (P : Pc) (k m : Nat) (σ : Sg) (R : Nat → Int) : Nat → Sg
  | 0 => σ.thr k (Th.callT (σ.Ts k) 2 1 R)
  | j + 1 => rGive P k m (gvS P k m σ R j).stp
theorem rGive_acc (P : Pc) (k m : Nat) (σ : Sg) : (rGive P k m σ).acc = σ.acc + 1 ∧ (rGive P k m σ).steps = σ.steps ∧ (rGive P k m σ).odd = σ.odd ∧ (rGive P k m σ).sl = σ.sl := by
  unfold rGive
  split
  · exact ⟨rfl, rfl, rfl, rfl⟩
  · split
    · exact ⟨rfl, rfl, rfl, rfl⟩
    · split
      · exact ⟨rfl, rfl, rfl, rfl⟩
      · split <;> exact ⟨rfl, rfl, rfl, rfl⟩
section
variable {P : Pc} {k m : Nat} {σ : Sg} {R : Nat → Int}
theorem gvS_acc : ∀ j : Nat, (gvS P k m σ R j).acc = σ.acc + j ∧ (gvS P k m σ R j).steps = σ.steps + j ∧ (gvS P k m σ R j).odd = σ.odd ∧ (gvS P k m σ R j).sl = σ.sl
  | 0 => ⟨by show σ.acc = _; omega, by show σ.steps = _; omega, rfl, rfl⟩
  | j + 1 => by
    obtain ⟨h1, h2, h3, h4⟩ := gvS_acc j
    obtain ⟨e1, e2, e3, e4⟩ := rGive_acc P k m (gvS P k m σ R j).stp
    refine ⟨?_, ?_, ?_, ?_⟩
    · show (rGive P k m _).acc = _
      rw [e1]; show (gvS P k m σ R j).acc + 1 = _; rw [h1]; omega
    · show (rGive P k m _).steps = _
      rw [e2]; show (gvS P k m σ R j).steps + 1 = _; rw [h2]; omega
    · show (rGive P k m _).odd = _
      rw [e3]; exact h3
    · show (rGive P k m _).sl = _
      rw [e4]; exact h4
def gv0 (R : Nat → Int) : Nat → Int := fun i => if i < 1 then R i else 0
def gvF1 (P : Pc) (σ : Sg) (e : Int) : Nat → Int := P.st σ.f (e % 4096) 1 ((e / 4096 % 1125899906842624 + 1) % 1125899906842624)
def gvF2 (P : Pc) (σ : Sg) (e : Int) : Nat → Int := P.st (gvF1 P σ e) (e % 4096) 0 (gvF1 P σ e 2 % 4096)
variable (hm : (σ.Ts k).nf = m)
include hm
theorem gvt0 : TkAt σ (gvS P k m σ R 0) k m ⟨2, 0, gv0 R⟩ := TkAt.call hm 2 1 R
theorem gvt1 : TkAt σ (gvS P k m σ R 1) k m ⟨2, 1, gv0 R⟩ ∧ (gvS P k m σ R 1).f = gvF1 P σ (R 0) ∧ (gvS P k m σ R 1).flt = (σ.flt || !P.ok (R 0 % 4096) 1) ∧ (gvS P k m σ R 1).H = Gd.dropH P.s σ.H σ.G (R 0) ∧ (gvS P k m σ R 1).G = Gd.dropG P.s σ.H σ.G (R 0) := by
  have h0 := gvt0 (P := P) (R := R) hm
  have e : gvS P k m σ R 1 = { (gvS P k m σ R 0).stp.thr k (setF ((gvS P k m σ R 0).Ts k) m ⟨2, 1, gv0 R⟩) with acc := σ.acc + 1, flt := σ.flt || !P.ok (R 0 % 4096) 1, f := gvF1 P σ (R 0), H := Gd.dropH P.s σ.H σ.G (R 0), G := Gd.dropG P.s σ.H σ.G (R 0) } := by
    show rGive P k m (gvS P k m σ R 0).stp = _
    unfold rGive
    rw [show ((gvS P k m σ R 0).stp.Ts k).fs m = _ from h0.fs, if_pos rfl]
    rfl
  rw [e]
  exact ⟨h0.set rfl, rfl, rfl, rfl, rfl⟩
theorem gvt2 : TkAt σ (gvS P k m σ R 2) k m ⟨2, 2, updr (gv0 R) 1 (gvF1 P σ (R 0) 2)⟩ ∧ (gvS P k m σ R 2).f = gvF1 P σ (R 0) ∧ (gvS P k m σ R 2).flt = (σ.flt || !P.ok (R 0 % 4096) 1) ∧ (gvS P k m σ R 2).H = Gd.dropH P.s σ.H σ.G (R 0) ∧ (gvS P k m σ R 2).G = Gd.dropG P.s σ.H σ.G (R 0) := by
  obtain ⟨h1, e1, e2, e3, e4⟩ := gvt1 (P := P) (R := R) hm
  have e : gvS P k m σ R 2 = { (gvS P k m σ R 1).stp.thr k (setF ((gvS P k m σ R 1).Ts k) m ⟨2, 2, updr (gv0 R) 1 ((gvS P k m σ R 1).f 2)⟩) with acc := (gvS P k m σ R 1).acc + 1 } := by
    show rGive P k m (gvS P k m σ R 1).stp = _
    unfold rGive
    rw [show ((gvS P k m σ R 1).stp.Ts k).fs m = _ from h1.fs, if_neg (show ¬ (1 : Int) = 0 by omega), if_pos rfl]
    rfl
  rw [e]
  exact ⟨h1.set (by rw [← e1]; rfl), e1, e2, e3, e4⟩
theorem gvt3 : TkAt σ (gvS P k m σ R 3) k m ⟨2, 3, updr (gv0 R) 1 (gvF1 P σ (R 0) 2)⟩ ∧ (gvS P k m σ R 3).f = gvF2 P σ (R 0) ∧ (gvS P k m σ R 3).flt = ((σ.flt || !P.ok (R 0 % 4096) 1) || !P.ok (R 0 % 4096) 0) ∧ (gvS P k m σ R 3).H = Gd.dropH P.s σ.H σ.G (R 0) ∧ (gvS P k m σ R 3).G = Gd.dropG P.s σ.H σ.G (R 0) := by
  obtain ⟨h1, e1, e2, e3, e4⟩ := gvt2 (P := P) (R := R) hm
  have e : gvS P k m σ R 3 = { (gvS P k m σ R 2).stp.thr k (setF ((gvS P k m σ R 2).Ts k) m ⟨2, 3, updr (gv0 R) 1 (gvF1 P σ (R 0) 2)⟩) with acc := (gvS P k m σ R 2).acc + 1, flt := (gvS P k m σ R 2).flt || !P.ok (R 0 % 4096) 0, f := P.st (gvS P k m σ R 2).f (R 0 % 4096) 0 (gvF1 P σ (R 0) 2 % 4096) } := by
    show rGive P k m (gvS P k m σ R 2).stp = _
    unfold rGive
    rw [show ((gvS P k m σ R 2).stp.Ts k).fs m = _ from h1.fs, if_neg (show ¬ (2 : Int) = 0 by omega), if_neg (show ¬ (2 : Int) = 1 by omega), if_pos rfl]
    rfl
  rw [e]
  exact ⟨h1.set rfl, by rw [e1]; rfl, by rw [e2], e3, e4⟩
theorem gvt4 (hn : gvF2 P σ (R 0) 2 = gvF1 P σ (R 0) 2) : (gvS P k m σ R 4).f = Mm.upd (gvF2 P σ (R 0)) 2 (chgI (gvF1 P σ (R 0) 2) (R 0 % 4096)) ∧ (gvS P k m σ R 4).flt = ((σ.flt || !P.ok (R 0 % 4096) 1) || !P.ok (R 0 % 4096) 0) ∧
    (gvS P k m σ R 4).H = Gd.dropH P.s σ.H σ.G (R 0) ∧ (gvS P k m σ R 4).G = Gd.dropG P.s σ.H σ.G (R 0) ∧ ((gvS P k m σ R 4).Ts k).nf = m ∧ ∀ i, i ≠ k → (gvS P k m σ R 4).Ts i = σ.Ts i := by
  obtain ⟨h1, e1, e2, e3, e4⟩ := gvt3 (P := P) (R := R) hm
  have e : gvS P k m σ R 4 = { (gvS P k m σ R 3).stp.thr k (Th.backT ((gvS P k m σ R 3).Ts k) 0 (fun _ => 0)) with acc := (gvS P k m σ R 3).acc + 1, f := Mm.upd (gvS P k m σ R 3).f 2 (chgI (gvF1 P σ (R 0) 2) (R 0 % 4096)) } := by
    show rGive P k m (gvS P k m σ R 3).stp = _
    unfold rGive
    rw [show ((gvS P k m σ R 3).stp.Ts k).fs m = _ from h1.fs, if_neg (show ¬ (3 : Int) = 0 by omega), if_neg (show ¬ (3 : Int) = 1 by omega), if_neg (show ¬ (3 : Int) = 2 by omega), if_pos (show ((gvS P k m σ R 3).stp.f 2 == (Th.Fm.mk 2 3 (updr (gv0 R) 1 (gvF1 P σ (R 0) 2))).r 1) = true from by show ((gvS P k m σ R 3).f 2 == gvF1 P σ (R 0) 2) = true; rw [e1, hn]; exact beq_self_eq_true _)]
    rfl
  rw [e]
  refine ⟨by rw [← e1], e2, e3, e4, ?_, fun i hi => ?_⟩
  · unfold Sg.thr Th.backT; simp only [if_true]; rw [h1.nf]; omega
  · unfold Sg.thr; simp only [if_neg hi]; exact h1.oth i hi
end
end Go.Proofs.Ytaaciolfgplnoaa

/- A machine with its threads' places: what may be done with it. -/
namespace Go.Proofs.Ytaaciolfgplnoaa
open Go.RowKit WordM EdgeM
set_option linter.unusedVariables false
set_option linter.unusedSimpArgs false
structure MP (w : World) (P : Pc) (σ : Sg) (ps : Nat → Nat → Nat) (fvs : Nat → Value) : Prop where
  c : MC w P.B P.q P.pl P.mb P.mg P.C P.gq P.gg P.gm P.fv P.tq P.t P.s P.K σ.f σ.acc σ.flt σ.H σ.G σ.sl σ.steps σ.odd
  tf : TF w P.q P.t P.tq σ.Ts ps fvs
  qN : P.q < P.N
  tN : ∀ i, i < P.t → P.tq i < P.N
  NS : P.N ≤ w.heap.size
theorem MM.mp {w : World} {P : Pc} {σ : Sg} (h : MM w P σ) : ∃ ps fvs, MP w P σ ps fvs := by
  obtain ⟨ps, fvs, tf⟩ := h.th
  exact ⟨ps, fvs, h.c, tf, h.qN, h.tN, h.NS⟩
section
variable {w w' : World} {P : Pc} {σ : Sg} {ps : Nat → Nat → Nat} {fvs : Nat → Value}
theorem MP.mm (h : MP w P σ ps fvs) : MM w P σ := ⟨h.c, ⟨ps, fvs, h.tf⟩, h.qN, h.tN, h.NS⟩
theorem MP.below (h : MP w P σ ps fvs) (k : Below w.heap.size w w') : MP w' P σ ps fvs := ⟨h.c.below k, h.tf.below k, h.qN, h.tN, Nat.le_trans h.NS k.size⟩
theorem MP.only (h : MP w P σ ps fvs) {f' : Nat → Int} {acc' : Int} {flt' : Bool} (k : Mm.Only P.mb P.mg w w') (hm : Mm.MemAt w' P.mb P.mg (3 + 8 * P.t + 7 * P.s) P.C f' acc' flt') : MP w' P { σ with f := f', acc := acc', flt := flt' } ps fvs ∧ KA P.B P.N w w' := by
  have hl := h.c.qlt
  obtain ⟨o1, o2, _⟩ := h.mm.ord
  refine ⟨⟨h.c.only k hm, h.tf.hi k.size fun j hj hq => k.block j hj (by omega) (by omega), h.qN, h.tN, Nat.le_trans h.NS k.size⟩, ⟨k.os, k.tape, k.output, k.size, fun j hj hx => k.block j hj (fun e => hx ?_) (fun e => hx ?_)⟩⟩
  · rw [e]; exact ⟨o1.1, .inl o1.2⟩
  · rw [e]; exact ⟨o2.1, .inl o2.2⟩
theorem MP.gd (h : MP w P σ ps fvs) {H' : Nat → Bool} {G' : Nat → Int} {sl' : Int} (k : Gd.K3 w w' P.gq P.gg P.gm) (hg : Gd.GA w' P.gq P.gg P.gm P.s H' G' sl') : MP w' P { σ with H := H', G := G', sl := sl' } ps fvs ∧ KA P.B P.N w w' := by
  have o5 := h.c.o5
  obtain ⟨_, _, o1, o2, o3, _⟩ := h.mm.ord
  refine ⟨⟨h.c.gd k hg, h.tf.hi k.size fun j hj hq => k.block j hj (by omega) (by omega) (by omega), h.qN, h.tN, Nat.le_trans h.NS k.size⟩, ⟨k.os, k.tape, k.output, k.size, fun j hj hx => k.block j hj (fun e => hx ?_) (fun e => hx ?_) (fun e => hx ?_)⟩⟩
  · rw [e]; exact ⟨o1.1, .inl o1.2⟩
  · rw [e]; exact ⟨o2.1, .inl o2.2⟩
  · rw [e]; exact ⟨o3.1, .inl o3.2⟩
theorem MP.fblk (h : MP w P σ ps fvs) {k m : Nat} (hk : k < P.t) (hm : m < (σ.Ts k).nf) : Th.Blk 48 w (ps k m) 26 (Th.frF ((σ.Ts k).fs m)) := ((h.tf.th k hk).a.fb m hm).1
theorem MP.fn (h : MP w P σ ps fvs) {k m : Nat} (hk : k < P.t) (hm : m < (σ.Ts k).nf) : w.cell? ⟨ps k m, 0, none⟩ = some (.int .i64 ((σ.Ts k).fs m).fn) := by
  rw [(h.fblk hk hm).get (i := 0) (by omega)]; rfl
theorem MP.pc (h : MP w P σ ps fvs) {k m : Nat} (hk : k < P.t) (hm : m < (σ.Ts k).nf) : w.cell? ⟨ps k m, 1, none⟩ = some (.int .i64 ((σ.Ts k).fs m).pc) := by
  rw [(h.fblk hk hm).get (i := 1) (by omega)]; rfl
theorem MP.r (h : MP w P σ ps fvs) {k m : Nat} (hk : k < P.t) (hm : m < (σ.Ts k).nf) (a : Nat) (ha : a < 24) : w.cell? ⟨ps k m, 2 + a, none⟩ = some (.int .u64 (((σ.Ts k).fs m).r a)) := by
  rw [(h.fblk hk hm).get (i := 2 + a) (by omega)]
  unfold Th.frF; rw [if_neg (by omega), if_neg (by omega), show 2 + a - 2 = a by omega]
theorem MP.fr (h : MP w P σ ps fvs) {k m : Nat} (hk : k < P.t) (hm : m < (σ.Ts k).nf) : ∀ i, w.frozen? ⟨ps k m, i, none⟩ = false := fun i => (h.fblk hk hm).fr i
theorem MP.ss (h : MP w P σ ps fvs) {k : Nat} (hk : k < P.t) (i : Nat) (hi : i < 12) : w.cell? ⟨P.tq k, 12 + i, none⟩ = some ((σ.Ts k).ss i) := by
  rw [(h.tf.th k hk).a.blk.get (i := 12 + i) (by omega)]
  unfold Th.thF; rw [if_neg (by omega), if_pos (by omega), show 12 + i - 12 = i by omega]
/-- A frame was written. -/
theorem MP.frm (h : MP w P σ ps fvs) {k m : Nat} (hk : k < P.t) (hm : m < (σ.Ts k).nf) {F : Th.Fm} (ks : Th.KS (fun j => j = ps k m) w w') (hb : Th.Blk 48 w' (ps k m) 26 (Th.frF F)) : MP w' P (σ.thr k (setF (σ.Ts k) m F)) ps fvs ∧ KA P.B P.N w w' := by
  have hbk := h.fblk hk hm
  obtain ⟨hB, hlt, _⟩ := (h.tf.th k hk).frm hm
  refine ⟨⟨h.c.ksT hbk (by omega) (by decide) ks, h.tf.frm hk hm ks hb, h.qN, h.tN, Nat.le_trans h.NS ks.size⟩, h.mm.ka h.tf hk (m := m) ks fun j hj => ?_⟩
  exact .inr (.inr (.inr (.inr (.inr (.inr (.inr (.inr ⟨hm, hj⟩)))))))
theorem MP.setR (h : MP w P σ ps fvs) {k m : Nat} (hk : k < P.t) (hm : m < (σ.Ts k).nf) (a : Nat) (v : Int) : MP (w.setCell ⟨ps k m, 2 + a, none⟩ (.int .u64 v)) P (σ.thr k (setF (σ.Ts k) m ⟨((σ.Ts k).fs m).fn, ((σ.Ts k).fs m).pc, updr ((σ.Ts k).fs m).r a v⟩)) ps fvs ∧ KA P.B P.N w (w.setCell ⟨ps k m, 2 + a, none⟩ (.int .u64 v)) :=
  h.frm hk hm (Th.KS.set w _ _ _) (((h.fblk hk hm).set (2 + a) _).congr (Th.frF_r _ a v))
theorem MP.setPC (h : MP w P σ ps fvs) {k m : Nat} (hk : k < P.t) (hm : m < (σ.Ts k).nf) (v : Int) : MP (w.setCell ⟨ps k m, 1, none⟩ (.int .i64 v)) P (σ.thr k (setF (σ.Ts k) m ⟨((σ.Ts k).fs m).fn, v, ((σ.Ts k).fs m).r⟩)) ps fvs ∧ KA P.B P.N w (w.setCell ⟨ps k m, 1, none⟩ (.int .i64 v)) :=
  h.frm hk hm (Th.KS.set w _ _ _) (((h.fblk hk hm).set 1 _).congr (Th.frF_pc _ v))
end
theorem MP.back {w : World} {P : Pc} {σ : Sg} {ps : Nat → Nat → Nat} {fvs : Nat → Value} (h : MP w P σ ps fvs) {k : Nat} (hk : k < P.t) {v : Value} {n : Nat} {L : Nat → Int} (hu : Th.UR w v n L) (hf : (σ.Ts k).nf ≤ 1000000) :
    Calls Try.prog 62 #[.pointer (some ⟨P.tq k, 0, none⟩), v] w fun e w' => e = .returned (.tuple #[]) ∧ MM w' P (σ.thr k (Th.backT (σ.Ts k) n L)) ∧ KA P.B P.N w w' := by
  have hth := h.tf.th k hk
  refine (Th.fback hth.a hu hf).mono ?_
  rintro _ w' ⟨rfl, ⟨fv', ha, ho⟩, kq⟩
  refine ⟨rfl, ⟨h.c.kqF h.tf hk kq, ⟨_, _, h.tf.one (p' := ps k) hk ⟨ha, hth.r, hth.s⟩ kq (fun j hj => .inl (ho j hj)) fun a ha => .inl ⟨Nat.lt_of_lt_of_le ha (Nat.sub_le _ _), rfl⟩⟩, h.qN, h.tN, Nat.le_trans h.NS kq.size⟩, h.mm.kq h.tf hk kq⟩
theorem MP.top {w : World} {P : Pc} {σ : Sg} {ps : Nat → Nat → Nat} {fvs : Nat → Value} (h : MP w P σ ps fvs) {k m : Nat} (hk : k < P.t) (hm : (σ.Ts k).nf = m + 1) (hN : m ≤ 1000000) :
    Calls Try.prog 12 #[.pointer (some ⟨P.tq k, 0, none⟩)] w fun e w' => e = .returned (.pointer (some ⟨ps k m, 0, none⟩)) ∧ Below w.heap.size w w' := Th.ftop1 (h.tf.th k hk).a hm hN
/-- One word in a row of its own. -/
theorem ur_one {w : World} {sb : Nat} {x : Int} {T : TypeId} (hy : w.heap[sb]? = some (.cells #[.int .u64 x] T (0, 0))) : Th.UR w (.slice (some ⟨sb, 0, none⟩) 1 1) 1 (fun _ => x) := .row sb 0 1 1 _ (by omega) (by decide) fun i hi => by
  rw [show 0 + i = 0 by omega]; exact Th.newcell hy 0 _ rfl
theorem Sg.thr_thr (σ : Sg) (k : Nat) (T T' : Th.Td) : (σ.thr k T).thr k T' = σ.thr k T' := by
  unfold Sg.thr; simp only [Sg.mk.injEq, true_and, and_true]
  funext i
  by_cases e : i = k
  · rw [if_pos e, if_pos e]
  · rw [if_neg e, if_neg e, if_neg e]
theorem Sg.thr_at (σ : Sg) (k : Nat) (T : Th.Td) : (σ.thr k T).Ts k = T := by unfold Sg.thr; simp
theorem setF_setF (T : Th.Td) (m : Nat) (F F' : Th.Fm) : setF (setF T m F) m F' = setF T m F' := by
  unfold setF; simp only [Th.Td.mk.injEq, true_and, and_true]
  funext i; unfold Th.upM
  by_cases e : i = m
  · rw [if_pos e, if_pos e]
  · rw [if_neg e, if_neg e, if_neg e]
end Go.Proofs.Ytaaciolfgplnoaa

/- Layer 18: steps of Enter, Leave, Advance. -/
namespace Go.Proofs.Ytaaciolfgplnoaa
open Go.RowKit WordM EdgeM
set_option linter.unusedVariables false
set_option linter.unusedSimpArgs false
theorem okA1 (n : Nat) (h : 2 ≤ n) : Mm.okA n 1 = true := by unfold Mm.okA; simp; omega
/-- Where a thread's announcement is. -/
def aI (k : Nat) : Nat := 3 + k * 8
theorem thr_aI {t k : Nat} (h : k < t) : threadI t k 0 = (aI k : Int) := by unfold threadI aI; rw [if_pos (by omega)]; omega
theorem okAa {t s k : Nat} (h : k < t) : Mm.okA (3 + 8 * t + 7 * s) (aI k : Int) = true := by unfold Mm.okA aI; simp; omega
def enter0S (P : Pc) (k m : Nat) (σ : Sg) : Sg := { σ.thr k (setF (σ.Ts k) m ⟨((σ.Ts k).fs m).fn, 1, updr ((σ.Ts k).fs m).r 0 (σ.f 1)⟩) with acc := σ.acc + 1 }
def adv1nS (k m : Nat) (σ : Sg) : Sg := { σ.thr k (setF (σ.Ts k) m ⟨((σ.Ts k).fs m).fn, ((σ.Ts k).fs m).pc, updr ((σ.Ts k).fs m).r 1 (((σ.Ts k).fs m).r 1 + 1)⟩) with acc := σ.acc + 1 }
def adv1eS (k m : Nat) (σ : Sg) : Sg := { σ.thr k (setF (σ.Ts k) m ⟨((σ.Ts k).fs m).fn, 2, updr ((σ.Ts k).fs m).r 1 (((σ.Ts k).fs m).r 1 + 1)⟩) with acc := σ.acc + 1 }
def backAS (k : Nat) (x : Int) (σ : Sg) : Sg := { σ.thr k (Th.backT (σ.Ts k) 1 (fun _ => x)) with acc := σ.acc + 1 }
def adv2yS (k m : Nat) (σ : Sg) : Sg := { σ.thr k (Th.backT (σ.Ts k) 1 (fun _ => 1)) with acc := σ.acc + 1, f := Mm.upd σ.f 1 (((σ.Ts k).fs m).r 0 + 1) }
end Go.Proofs.Ytaaciolfgplnoaa

/- Layer 18: steps of Enter, Leave, Advance. -/
namespace Go.Proofs.Ytaaciolfgplnoaa
open Go.RowKit WordM EdgeM
set_option linter.unusedVariables false
set_option linter.unusedSimpArgs false
end Go.Proofs.Ytaaciolfgplnoaa

/- Layer 18: steps of Enter, Leave, Advance. -/
namespace Go.Proofs.Ytaaciolfgplnoaa
open Go.RowKit WordM EdgeM
set_option linter.unusedVariables false
set_option linter.unusedSimpArgs false
set_option maxRecDepth 8000 in
set_option maxHeartbeats 2000000 in
theorem adv0 {w : World} {P : Pc} {σ : Sg} {ps : Nat → Nat → Nat} {fvs : Nat → Value} (h : MP w P σ ps fvs) {k m : Nat} (hk : k < P.t) (hm : (σ.Ts k).nf = m + 1) (hN : m ≤ 1000) (a0 : 0 ≤ σ.acc) (a1 : σ.acc < 1000000) (hpc : ((σ.Ts k).fs m).pc = 0) :
    Calls Try.prog 67 #[.pointer (some ⟨P.q, 0, none⟩), .pointer (some ⟨P.tq k, 0, none⟩), .pointer (some ⟨ps k m, 0, none⟩)] w fun x w' => x = .returned (.tuple #[]) ∧ MM w' P (enter0S P k m σ) ∧ KA P.B P.N w w' := by
  refine Calls.veil fun Q HQ => ?_
  have HP := Lib.hid h
  have hmm : m < (σ.Ts k).nf := by omega
  have HMM := Lib.hid hmm; have HM := Lib.hid hm
  have hbb := h.mm.bd
  have HPC := Lib.hid hpc
  obtain ⟨fb, hfb⟩ : ∃ fb, fb = ps k m := ⟨_, rfl⟩
  have HFB := Lib.hid hfb
  rw [← hfb]
  have f1 : w.cell? ⟨fb, 1, none⟩ = some (.int .i64 0) := by rw [hfb, h.pc hk hmm, hpc]
  have f2 : w.cell? ⟨fb, 2, none⟩ = some (.int .u64 (((σ.Ts k).fs m).r 0)) := by rw [hfb]; exact h.r hk hmm 0 (by omega)
  clear h hmm hm hfb hpc
  go_enter Try.func67, Try.ntmps67
  go_upto_region 3 with fail
  clear f1 f2
  refine Th.wp_region_K (fun _ => True) 7 (by decide +kernel) ?_
  generalize hwd : World.drew w = wd
  have hdd : Below w.heap.size w wd := by rw [← hwd]; exact (Below.refl _ _).drew
  have HPD := Lib.hid (HP.out.below hdd); have HKD := Lib.hid (KA.of_below hdd : KA P.B P.N w wd)
  clear hwd hdd
  (refine Th.wpAnyK_takeY (i := 0) (v := ?_) rfl (by decide +kernel) (by decide +kernel) (by decide +kernel) (by decide) (fun _ _ _ h => h) (Or.inl ⟨by rfl, ?_⟩) (.inr trivial) ?_; rotate_left; (intro w; go_simp); (try with_reducible rfl))
  (try simp only [List.getElem_toArray, List.getElem_cons_succ, List.getElem_cons_zero, Act.put, List.setIfInBounds_toArray, List.set_cons_succ, List.set_cons_zero])
  (refine Th.wpAnyK_takeY (i := 1) (v := ?_) rfl (by decide +kernel) (by decide +kernel) (by decide +kernel) (by decide) (fun _ _ _ h => h) (Or.inl ⟨by rfl, ?_⟩) (.inr trivial) ?_; rotate_left; (intro w; go_simp); (try with_reducible rfl))
  (try simp only [List.getElem_toArray, List.getElem_cons_succ, List.getElem_cons_zero, Act.put, List.setIfInBounds_toArray, List.set_cons_succ, List.set_cons_zero])
  (refine Th.wpAnyK_takeY (i := 4) (v := ?_) rfl (by decide +kernel) (by decide +kernel) (by decide +kernel) (by decide) (fun _ _ _ h => h) (Or.inl ⟨by rfl, ?_⟩) (.inr trivial) ?_; rotate_left; (intro w; go_simp); (try with_reducible rfl))
  (try simp only [List.getElem_toArray, List.getElem_cons_succ, List.getElem_cons_zero, Act.put, List.setIfInBounds_toArray, List.set_cons_succ, List.set_cons_zero])
  (refine Th.wpAnyK_takeY (i := 5) (v := ?_) rfl (by decide +kernel) (by decide +kernel) (by decide +kernel) (by decide) (fun _ _ _ h => h) (Or.inl ⟨by rfl, ?_⟩) (.inr trivial) ?_; rotate_left; (intro w; go_simp); (try with_reducible rfl))
  (try simp only [List.getElem_toArray, List.getElem_cons_succ, List.getElem_cons_zero, Act.put, List.setIfInBounds_toArray, List.set_cons_succ, List.set_cons_zero])
  (refine Th.wpAnyK_ready (rs := [2]) (by decide +kernel) (by simp) ?_; refine (Th.AllReadyK.cons rfl (fun K hK => ?_) Th.AllReadyK.nil))
  refine step_of rfl ?_
  go_step
  refine (cMem HPD.out.c).mono ?_; rintro _ _ ⟨rfl, rfl⟩
  refine hK _ _ (.inr trivial) ?_
  clear hK K
  (try simp only [List.getElem_toArray, List.getElem_cons_succ, List.getElem_cons_zero, Act.put, List.setIfInBounds_toArray, List.set_cons_succ, List.set_cons_zero])
  (refine Th.wpAnyK_ready (rs := [3]) (by decide +kernel) (by simp) ?_; refine (Th.AllReadyK.cons rfl (fun K hK => ?_) Th.AllReadyK.nil))
  refine step_of rfl ?_
  go_step
  refine (Mm.mload _ _ _ _ _ _ 1 _ _ HPD.out.c.mem a0 (by omega)).mono ?_; rintro _ w3 ⟨rfl, hm3, ho⟩
  rw [okA1 _ (by omega)] at hm3
  have hli : Mm.ldI (3 + 8 * P.t + 7 * P.s) σ.f 1 = σ.f 1 := by unfold Mm.ldI; rw [okA1 _ (by omega)]; rfl
  rw [hli]
  obtain ⟨hp3, hk3⟩ := HPD.out.only ho (show Mm.MemAt w3 P.mb P.mg (3 + 8 * P.t + 7 * P.s) P.C σ.f (σ.acc + 1) σ.flt by simpa using hm3)
  have HP3 := Lib.hid hp3; have HK3 := Lib.hid (HKD.out.trans hk3)
  refine hK _ _ (.inr trivial) ?_
  clear hK K hli hm3 ho hp3 hk3 HPD HKD
  (try simp only [List.getElem_toArray, List.getElem_cons_succ, List.getElem_cons_zero, Act.put, List.setIfInBounds_toArray, List.set_cons_succ, List.set_cons_zero])
  have r2 : w3.cell? ⟨fb, 2, none⟩ = some (.int .u64 (((σ.Ts k).fs m).r 0)) := by rw [HFB.out]; exact HP3.out.r hk HMM.out 0 (by omega)
  have rf : ∀ i, w3.frozen? ⟨fb, i, none⟩ = false := fun i => by rw [HFB.out]; exact HP3.out.fr hk HMM.out i
  (refine Th.wpAnyK_takeY (i := 6) (v := ?_) rfl (by decide +kernel) (by decide +kernel) (by decide +kernel) (by decide) (fun _ _ _ h => h) (Or.inl ⟨by rfl, ?_⟩) (.inr trivial) ?_; rotate_left; (intro w; go_simp); (try with_reducible rfl))
  (try simp only [List.getElem_toArray, List.getElem_cons_succ, List.getElem_cons_zero, Act.put, List.setIfInBounds_toArray, List.set_cons_succ, List.set_cons_zero])
  (refine Th.wpAnyK_ready (rs := [7]) (by decide +kernel) (by simp) ?_; refine (Th.AllReadyK.cons rfl (fun K hK => ?_) Th.AllReadyK.nil))
  refine step_of rfl ?_
  go_step
  refine hK _ _ (.inl rfl) ?_
  clear hK K
  refine Th.wpAnyK_done (by decide +kernel) ?_ _
  clear r2 rf
  generalize hW : World.setCell _ _ _ = W
  obtain ⟨hp4, hk4⟩ : MP W P _ ps fvs ∧ KA P.B P.N w3 W := by rw [← hW, HFB.out]; exact HP3.out.setR hk HMM.out 0 (σ.f 1)
  have HP4 := Lib.hid hp4; have HK4 := Lib.hid (HK3.out.trans hk4)
  clear hW hp4 hk4 HP3 HK3
  have f1 : W.cell? ⟨fb, 1, none⟩ = some (.int .i64 0) := by rw [HFB.out, HP4.out.pc hk (by rw [Sg.thr_at]; exact HMM.out), Sg.thr_at, setF_fs]; exact congrArg _ (congrArg _ HPC.out)
  have rf : ∀ i, W.frozen? ⟨fb, i, none⟩ = false := fun i => by rw [HFB.out]; exact HP4.out.fr hk (by rw [Sg.thr_at]; exact HMM.out) i
  go_wp2_with fail
  clear f1 rf
  generalize hW : World.setCell _ _ _ = V
  obtain ⟨hp5, hk5⟩ : MP V P _ ps fvs ∧ KA P.B P.N W V := by rw [← hW, HFB.out]; exact HP4.out.setPC hk (by rw [Sg.thr_at]; exact HMM.out) 1
  rw [Sg.thr_at, setF_fs, setF_setF, Sg.thr_thr] at hp5
  have HP5 := Lib.hid hp5; have HK5 := Lib.hid (HK4.out.trans hk5)
  clear hW hp5 hk5 HP4 HK4
  first | (refine bodyPost_end (v := .tuple #[]) (by simp [results, Try.results67, go_sem]) rfl ?_) | (refine bodyPost_ret (v := .tuple #[]) (by simp [results, Try.results67, go_sem]) rfl ?_)
  rw [HQ.out]
  exact ⟨rfl, HP5.out.mm, HK5.out⟩
set_option maxRecDepth 8000 in
set_option maxHeartbeats 2000000 in
theorem adv1l {w : World} {P : Pc} {σ : Sg} {ps : Nat → Nat → Nat} {fvs : Nat → Value} (h : MP w P σ ps fvs) {k m : Nat} (hk : k < P.t) (hm : (σ.Ts k).nf = m + 1) (hN : m ≤ 1000) (a0 : 0 ≤ σ.acc) (a1 : σ.acc < 1000000) (hpc : ((σ.Ts k).fs m).pc = 1) (hr : 0 ≤ ((σ.Ts k).fs m).r 0 ∧ ((σ.Ts k).fs m).r 0 < 18446744073709551616) {j : Nat} (hr1 : ((σ.Ts k).fs m).r 1 = j ∧ j < P.t) (hl : lagsB (σ.f (aI j)) (((σ.Ts k).fs m).r 0) = true) :
    Calls Try.prog 67 #[.pointer (some ⟨P.q, 0, none⟩), .pointer (some ⟨P.tq k, 0, none⟩), .pointer (some ⟨ps k m, 0, none⟩)] w fun x w' => x = .returned (.tuple #[]) ∧ MM w' P (backAS k 0 σ) ∧ KA P.B P.N w w' := by
  refine Calls.veil fun Q HQ => ?_
  have HP := Lib.hid h
  have hmm : m < (σ.Ts k).nf := by omega
  have HMM := Lib.hid hmm; have HM := Lib.hid hm
  have hbb := h.mm.bd
  have HPC := Lib.hid hpc
  obtain ⟨fb, hfb⟩ : ∃ fb, fb = ps k m := ⟨_, rfl⟩
  have HFB := Lib.hid hfb
  rw [← hfb]
  have f1 : w.cell? ⟨fb, 1, none⟩ = some (.int .i64 1) := by rw [hfb, h.pc hk hmm, hpc]
  have f2 : w.cell? ⟨fb, 2, none⟩ = some (.int .u64 (((σ.Ts k).fs m).r 0)) := by rw [hfb]; exact h.r hk hmm 0 (by omega)
  have HHR := Lib.hid hr
  have HHR1 := Lib.hid hr1
  have HHL := Lib.hid hl
  clear h hmm hm hfb hpc
  clear hr
  clear hr1
  clear hl
  go_enter Try.func67, Try.ntmps67
  have hrg := HP.out.c.mem.rng (aI j) (by have := HHR1.out; unfold aI; omega)
  have hjt := HHR1.out.2
  have hwj : IntKind.i64.wrap (j : Int) = j := by rw [IntKind.wrap_i64]; omega
  go_upto_region 6 with fail
  clear f1 f2
  have HL1 := Lib.hid (show ∀ y : Ext w, (Instr.loadAt 22 (.pointer (some ⟨fb, 3, none⟩))).run Try.prog y.w = .ok (.int .u64 j) y.w from fun y => by (have hc : y.w.cell? ⟨fb, 3, none⟩ = some (.int .u64 j) := (by have h5 := (HP.out.below y.h).r hk HMM.out 1 (by omega); rw [HHR1.out.1] at h5; rw [HFB.out]; exact h5)); clear hwj; go_simp)
  refine Th.wp_region_K (fun w' => ∃ y : Ext w, w' = y.w) 11 (by decide +kernel) ?_
  generalize hwd : World.drew w = wd
  have hbd : Below w.heap.size w wd := by rw [← hwd]; exact (Below.refl _ _).drew
  clear hwd
  (refine Th.wpAnyK_takeY (i := 0) (v := ?_) rfl (by decide +kernel) (by decide +kernel) (by decide +kernel) (by decide) (fun _ _ _ h => h) (Or.inl ⟨by rfl, ?_⟩) (.inr ⟨⟨wd, hbd⟩, rfl⟩) ?_; rotate_left; (intro w; go_simp); (try with_reducible rfl))
  (try simp only [List.getElem_toArray, List.getElem_cons_succ, List.getElem_cons_zero, Act.put, List.setIfInBounds_toArray, List.set_cons_succ, List.set_cons_zero])
  (refine Th.wpAnyK_takeY (i := 2) (v := ?_) rfl (by decide +kernel) (by decide +kernel) (by decide +kernel) (by decide) (fun _ _ _ h => h) (Or.inl ⟨by rfl, ?_⟩) (.inr ⟨⟨wd, hbd⟩, rfl⟩) ?_; rotate_left; (intro w; go_simp); (try with_reducible rfl))
  (try simp only [List.getElem_toArray, List.getElem_cons_succ, List.getElem_cons_zero, Act.put, List.setIfInBounds_toArray, List.set_cons_succ, List.set_cons_zero])
  (refine Th.wpAnyK_takeY (i := 4) (v := ?_) rfl (by decide +kernel) (by decide +kernel) (by decide +kernel) (by decide) (fun _ _ _ h => h) (Or.inl ⟨by rfl, ?_⟩) (.inr ⟨⟨wd, hbd⟩, rfl⟩) ?_; rotate_left; (intro w; go_simp); (try with_reducible rfl))
  (try simp only [List.getElem_toArray, List.getElem_cons_succ, List.getElem_cons_zero, Act.put, List.setIfInBounds_toArray, List.set_cons_succ, List.set_cons_zero])
  (refine Th.wpAnyK_takeY (i := 5) (v := ?_) rfl (by decide +kernel) (by decide +kernel) (by decide +kernel) (by decide) (fun _ _ _ h => h) (Or.inl ⟨by rfl, ?_⟩) (.inr ⟨⟨wd, hbd⟩, rfl⟩) ?_; rotate_left; (intro w; go_simp); (try with_reducible rfl))
  (try simp only [List.getElem_toArray, List.getElem_cons_succ, List.getElem_cons_zero, Act.put, List.setIfInBounds_toArray, List.set_cons_succ, List.set_cons_zero])
  (refine Th.wpAnyK_takeY (i := 6) (v := ?_) rfl (by decide +kernel) (by decide +kernel) (by decide +kernel) (by decide) (fun _ _ _ h => h) (Or.inl ⟨by rfl, ?_⟩) (.inr ⟨⟨wd, hbd⟩, rfl⟩) ?_; rotate_left; (intro w; go_simp); (try with_reducible rfl))
  (try simp only [List.getElem_toArray, List.getElem_cons_succ, List.getElem_cons_zero, Act.put, List.setIfInBounds_toArray, List.set_cons_succ, List.set_cons_zero])
  (refine Th.wpAnyK_takeY (i := 12) (v := ?_) rfl (by decide +kernel) (by decide +kernel) (by decide +kernel) (by decide) (fun _ _ _ h => h) (Or.inl ⟨by rfl, ?_⟩) (.inr ⟨⟨wd, hbd⟩, rfl⟩) ?_; rotate_left; (intro w; go_simp); (try with_reducible rfl))
  (try simp only [List.getElem_toArray, List.getElem_cons_succ, List.getElem_cons_zero, Act.put, List.setIfInBounds_toArray, List.set_cons_succ, List.set_cons_zero])
  (refine Th.wpAnyK_takeY (i := 7) (v := ?_) rfl (by decide +kernel) (by decide +kernel) (by decide +kernel) (by decide) (fun _ _ _ h => h) (Or.inl ⟨by rfl, ?_⟩) (.inr ⟨⟨wd, hbd⟩, rfl⟩) ?_; rotate_left; (intro w; go_simp); (try with_reducible rfl))
  (try simp only [List.getElem_toArray, List.getElem_cons_succ, List.getElem_cons_zero, Act.put, List.setIfInBounds_toArray, List.set_cons_succ, List.set_cons_zero])
  (refine Th.wpAnyK_take (i := 8) (v := .int .u64 j) [9, 10, 11] rfl (by decide +kernel) (by decide +kernel) (by decide +kernel) (by decide +kernel) (fun _ _ _ h => h) (Th.yields_loadK rfl 22 (.tmp 37) rfl rfl (by rintro _ ⟨y, rfl⟩; exact HL1.out y)) ⟨⟨wd, hbd⟩, rfl⟩ ?_)
  (try simp only [List.getElem_toArray, List.getElem_cons_succ, List.getElem_cons_zero, Act.put, List.setIfInBounds_toArray, List.set_cons_succ, List.set_cons_zero])
  (refine Th.wpAnyK_takeY (i := 9) (v := ?_) rfl (by decide +kernel) (by decide +kernel) (by decide +kernel) (by decide) (fun _ _ _ h => h) (Or.inl ⟨by rfl, ?_⟩) (.inr ⟨⟨wd, hbd⟩, rfl⟩) ?_; rotate_left; (intro w; go_simp); (try with_reducible rfl))
  (try simp only [List.getElem_toArray, List.getElem_cons_succ, List.getElem_cons_zero, Act.put, List.setIfInBounds_toArray, List.set_cons_succ, List.set_cons_zero])
  (refine Th.wpAnyK_ready (rs := [1]) (by decide +kernel) (by simp) ?_; refine (Th.AllReadyK.cons rfl (fun K hK => ?_) Th.AllReadyK.nil))
  refine step_of rfl ?_
  go_step
  refine (cMem (HP.out.below hbd).c).mono ?_; rintro _ w6 ⟨rfl, hw6⟩
  rw [← hw6]
  refine hK _ _ (.inr ⟨⟨wd, hbd⟩, rfl⟩) ?_
  clear hK K hw6
  (try simp only [List.getElem_toArray, List.getElem_cons_succ, List.getElem_cons_zero, Act.put, List.setIfInBounds_toArray, List.set_cons_succ, List.set_cons_zero])
  (refine Th.wpAnyK_ready (rs := [3]) (by decide +kernel) (by simp) ?_; refine (Th.AllReadyK.cons rfl (fun K hK => ?_) Th.AllReadyK.nil))
  refine step_of rfl ?_
  go_step
  refine (cPlan (HP.out.below hbd).c).mono ?_; rintro _ w6 ⟨rfl, hw6⟩
  rw [← hw6]
  refine hK _ _ (.inr ⟨⟨wd, hbd⟩, rfl⟩) ?_
  clear hK K hw6
  (try simp only [List.getElem_toArray, List.getElem_cons_succ, List.getElem_cons_zero, Act.put, List.setIfInBounds_toArray, List.set_cons_succ, List.set_cons_zero])
  (refine Th.wpAnyK_ready (rs := [10]) (by decide +kernel) (by simp) ?_; refine (Th.AllReadyK.cons rfl (fun K hK => ?_) Th.AllReadyK.nil))
  refine step_of rfl ?_
  go_step
  refine (pactive_calls _ _ _ _ _ (HP.out.below hbd).c.p0 (HP.out.below hbd).c.p1 (by omega) (by omega) (by omega) (by omega)).mono ?_; rintro _ w7 ⟨rfl, hb7⟩
  rw [thr_aI hjt]
  have hb7 := below_on hbd hb7
  refine hK _ _ (.inr ⟨⟨w7, hb7⟩, rfl⟩) ?_
  clear hK K
  (try simp only [List.getElem_toArray, List.getElem_cons_succ, List.getElem_cons_zero, Act.put, List.setIfInBounds_toArray, List.set_cons_succ, List.set_cons_zero])
  (refine Th.wpAnyK_ready (rs := [11]) (by decide +kernel) (by simp) ?_; refine (Th.AllReadyK.cons rfl (fun K hK => ?_) Th.AllReadyK.nil))
  refine step_of rfl ?_
  go_step
  refine (Mm.mload _ _ _ _ _ _ (aI j : Int) _ _ (HP.out.below hb7).c.mem a0 (by omega)).mono ?_; rintro _ w3 ⟨rfl, hm3, ho⟩
  rw [okAa hjt] at hm3
  have hli : Mm.ldI (3 + 8 * P.t + 7 * P.s) σ.f (aI j : Int) = σ.f (aI j) := by unfold Mm.ldI; rw [okAa hjt]; rfl
  rw [hli]
  obtain ⟨hp3, hk3⟩ := (HP.out.below hb7).only ho (show Mm.MemAt w3 P.mb P.mg (3 + 8 * P.t + 7 * P.s) P.C σ.f (σ.acc + 1) σ.flt by simpa using hm3)
  have HP3 := Lib.hid hp3; have HK3 := Lib.hid ((KA.of_below hb7 : KA P.B P.N w w7).trans hk3)
  refine hK _ _ (.inl rfl) ?_
  clear hK K hli hm3 ho hp3 hk3
  (try simp only [List.getElem_toArray, List.getElem_cons_succ, List.getElem_cons_zero, Act.put, List.setIfInBounds_toArray, List.set_cons_succ, List.set_cons_zero])
  (refine Th.wpAnyK_ready (rs := [13]) (by decide +kernel) (by simp) ?_; refine (Th.AllReadyK.cons rfl (fun K hK => ?_) Th.AllReadyK.nil))
  refine step_of rfl ?_
  go_step
  refine (blags_calls _ _ _ hrg.1 hrg.2).mono ?_; rintro _ w6 ⟨rfl, hw6⟩
  rw [← hw6, HHL.out]
  refine hK _ _ (.inl rfl) ?_
  clear hK K hw6
  refine Th.wpAnyK_done (by decide +kernel) ?_ _
  clear hwj HL1 hbd hb7
  go_wp2_with fail
  generalize hY : World.alloc _ _ = V2
  obtain ⟨hy, hby⟩ := Th.heapnewE hY
  obtain ⟨sb, hsb⟩ : ∃ sb, sb = w3.heap.size := ⟨_, rfl⟩
  rw [← hsb] at hy ⊢
  have HP8 := Lib.hid (HP3.out.below hby); have HK8 := Lib.hid (HK3.out.trans (KA.of_below hby))
  have hur := ur_one hy
  clear hY hy hby hsb HP3 HK3
  refine (HP8.out.back hk (hur) (by have := HM.out; show (σ.Ts k).nf ≤ _; omega)).mono ?_; rintro _ w9 ⟨rfl, hm9, hk9⟩
  have HM9 := Lib.hid hm9; have HK9 := Lib.hid (HK8.out.trans hk9)
  clear hm9 hk9
  go_wp2_with fail
  first | (refine bodyPost_end (v := .tuple #[]) (by simp [results, Try.results67, go_sem]) rfl ?_) | (refine bodyPost_ret (v := .tuple #[]) (by simp [results, Try.results67, go_sem]) rfl ?_)
  rw [HQ.out]
  exact ⟨rfl, HM9.out, HK9.out⟩
end Go.Proofs.Ytaaciolfgplnoaa
