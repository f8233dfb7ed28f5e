/- Layer 16: a step of a machine, by the law's routine. -/
import Derived.Test.YtokeokgmopboiaaStpB
namespace Go.Proofs.Ytokeokgmopboiaa
open Go.RowKit WordM EdgeM
set_option linter.unusedVariables false
set_option linter.unusedSimpArgs false
theorem okA0 (n : Nat) (h : 1 ≤ n) : Mm.okA n 0 = true := by unfold Mm.okA; simp; omega
abbrev KN (M N : Nat) (w w' : World) : Prop := Th.KS (fun j => M ≤ j ∧ j < N) w w'
theorem KN.of_below {M N : Nat} {w w' : World} (h : Below w.heap.size w w') : KN M N w w' := ⟨h.os, h.tape, h.output, h.size, fun j hj _ => h.block j hj⟩
theorem KN.of_only {M N b g : Nat} {w w' : World} (h : Mm.Only b g w w') (h1 : M ≤ b ∧ b < N) (h2 : M ≤ g ∧ g < N) : KN M N w w' := ⟨h.os, h.tape, h.output, h.size, fun j hj hx => h.block j hj (fun e => hx (e ▸ h1)) (fun e => hx (e ▸ h2))⟩
theorem KN.of_kq {M N b : Nat} {fv : Value} {w w' : World} (h : Th.KQ w w' b fv (.slice none 0 0)) (h1 : M ≤ b ∧ b < N) (h2 : ∀ j, fv.ownBlock = some j → M ≤ j ∧ j < N) : KN M N w w' := ⟨h.os, h.tape, h.output, h.size, fun j hj hx => h.block j hj (fun e => hx (e ▸ h1)) (fun e => hx (h2 j e)) (fun e => by cases e)⟩
/-- Where what may change lies. -/
structure MB (M N q mb mg : Nat) (t : Nat) (tq : Nat → Nat) (fvs : Nat → Value) : Prop where
  bm : M ≤ mb ∧ M ≤ mg
  bq : q < N
  bt : ∀ i, i < t → tq i < N
  bf : ∀ i, i < t → ∀ b, (fvs i).ownBlock = some b → b < N
set_option maxRecDepth 8000 in
set_option maxHeartbeats 1000000 in
theorem cback {w : World} {B q pl mb mg C gq gg gm : Nat} {fv : Value} {tq : Nat → Nat} {t s : Nat} {K : Int} {f : Nat → Int} {acc : Int} {H : Nat → Bool} {G : Nat → Int} {sl steps : Int} {odd : Bool} (h : MC w B q pl mb mg C gq gg gm fv tq t s K f acc false H G sl steps odd)
    {d : Nat → Nat} {fvs : Nat → Value} (ts : TS w q t tq d fvs) {M N : Nat} (hb : MB M N q mb mg t tq fvs) {k e : Nat} (hk : k < t) (hd : d k = e + 1) (he : e ≤ 1000) {nb n : Nat} (hn : w.cell? ⟨nb, 0, none⟩ = some (.int .i64 n)) (n1 : nb ≠ mb) (n2 : nb ≠ mg) (n8 : n ≤ 8) (a0 : 0 ≤ acc) (a1 : acc < 1000000) :
    Calls Try.prog 9 #[.pointer (some ⟨q, 0, none⟩), .int .i64 k, .pointer (some ⟨nb, 0, none⟩)] w fun x w' => x = .returned (.tuple #[]) ∧ MC w' B q pl mb mg C gq gg gm fv tq t s K f (acc + n) false H G sl steps odd ∧
      (∃ fv', TS w' q t tq (fun i => if i = k then e else d i) (fun i => if i = k then fv' else fvs i) ∧ ∀ j, fv'.ownBlock = some j → (fvs k).ownBlock = some j) ∧ KN M N w w' := by
  refine Calls.veil fun Q HQ => ?_
  have HH := Lib.hid h; have HT := Lib.hid ts; have HB := Lib.hid hb; have HN := Lib.hid hn
  have HD := Lib.hid hd
  have hbd := h.bd
  clear h ts hb hd
  go_enter Try.func9, Try.ntmps9
  go_wp2_with fail
  clear hn
  go_loopw [5] (fun iv wr => ∃ j : Nat, j ≤ n ∧ iv = .int .i64 j ∧ Hid (MC wr B q pl mb mg C gq gg gm fv tq t s K f (acc + j) false H G sl steps odd) ∧ Hid (Mm.Only mb mg w wr))
    (fun iv _ => n - (intOf iv).toNat)
  case atStart => exact ⟨0, Nat.zero_le _, rfl, Lib.hid (by simpa using HH.out), Lib.hid (Mm.Only.refl _ _ _)⟩
  case round =>
    obtain ⟨j, hj, rfl, HM, HO⟩ := hrel
    have hn : wr.cell? ⟨nb, 0, none⟩ = some (.int .i64 n) := HO.out.cell HN.out n1 n2
    rcases (by omega : j < n ∨ j = n) with hlt | heq
    · have hjj : (j : Int) < n := by omega
      go_wp2_with fail
      refine (cMem HM.out).mono ?_; rintro _ _ ⟨rfl, rfl⟩
      go_wp2_with fail
      refine (Mm.mload _ _ _ _ _ _ 0 _ _ HM.out.mem (by omega) (by omega)).mono ?_; rintro _ w1 ⟨rfl, hm, ho⟩
      rw [okA0 _ (by omega)] at hm
      have HM1 := Lib.hid (HM.out.only ho hm); have HO1 := Lib.hid (HO.out.trans ho)
      clear hm ho hn
      go_wp2_with fail
      go_roundw
      case rel => exact ⟨j + 1, by omega, by go_num, Lib.hid (by have := HM1.out; rw [show acc + ((j + 1 : Nat) : Int) = acc + j + 1 by omega]; exact this), HO1⟩
      case measure => simp [intOf]; omega
    · subst heq
      have hjj : ¬ (j : Int) < j := by omega
      go_wp2_with fail
      refine (cThread_yes HM.out k hk).mono ?_; rintro _ w1 ⟨rfl, hb1⟩
      have HM1 := Lib.hid (HM.out.below hb1); have HO1 := Lib.hid (HO.out.trans (Mm.Only.of_below hb1))
      clear hb1 hn
      have hk1 : (k : Int) < 18446744073709551616 := by omega
      go_wp2_with fail
      generalize hV : World.alloc _ _ = V
      obtain ⟨hx, hbv⟩ := Th.heapnewE hV
      obtain ⟨sb, hsb⟩ : ∃ sb, sb = w1.heap.size := ⟨_, rfl⟩
      rw [← hsb] at hx ⊢
      have HM2 := Lib.hid (HM1.out.below hbv); have HO2 := Lib.hid (HO1.out.trans (Mm.Only.of_below hbv))
      have hql := HH.out.qlt
      have hts : TS V q t tq d fvs := HT.out.hi HO2.out.size fun i hi h => HO2.out.block i hi (by omega) (by omega)
      have hth := hts.th k hk
      rw [HD.out] at hth
      have HTS := Lib.hid hts
      have hur : Th.UR V (.slice (some ⟨sb, 0, none⟩) 1 1) 1 (fun _ => (k : Int)) := .row sb 0 1 1 _ (by omega) (by decide) fun i hi => by
        rw [show 0 + i = 0 by omega]; exact Th.newcell hx 0 _ rfl
      clear hV hx hbv hsb hts HM HO HM1 HO1 hql
      refine (tback hth hur he).mono ?_; rintro _ w5 ⟨rfl, ⟨fv', hth5, hof⟩, kq⟩
      have hbb := HB.out
      have hql := HM2.out.qlt
      have HM5 := Lib.hid (HM2.out.kq HTS.out hk kq)
      have HT5 := Lib.hid (HTS.out.one hk hth5 kq fun j hj => .inl (hof j hj))
      have HK5 := Lib.hid ((KN.of_only HO2.out ⟨hbb.bm.1, by have := hbb.bq; omega⟩ ⟨hbb.bm.2, by have := hbb.bq; omega⟩ : KN M N w V).trans (KN.of_kq kq ⟨by have := HM2.out.tlo k hk; have := hbb.bm.1; omega, hbb.bt k hk⟩ fun j hj => ⟨by have := ((HTS.out.th k hk).own hj).1; have := hbb.bm.1; omega, hbb.bf k hk j hj⟩))
      have HOF := Lib.hid hof
      clear hth hth5 hof kq hbb hql hur HM2 HO2 HTS
      go_wp2_with fail
      refine bodyPost_end (v := .tuple #[]) (by simp [results, Try.results9, go_sem]) rfl ?_
      rw [HQ.out]
      exact ⟨rfl, HM5.out, ⟨fv', HT5.out, HOF.out⟩, HK5.out⟩
end Go.Proofs.Ytokeokgmopboiaa
