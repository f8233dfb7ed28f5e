/- Layer 16: the law's do of an edge that leads; the reference's At. -/
import Derived.Test.YtkkdehniheajeaaCorQ
namespace Go.Proofs.Ytkkdehniheajeaa
open Go.RowKit WordM EdgeM
set_option linter.unusedVariables false
set_option linter.unusedSimpArgs false
set_option maxRecDepth 8000 in
set_option maxHeartbeats 1000000 in
theorem do_yes_r {w : World} {B q pl mb mg C gq gg gm : Nat} {fv : Value} {tq : Nat → Nat} {t s : Nat} {Kc : Int} {f : Nat → Int} {acc : Int} {flt : Bool} {H : Nat → Bool} {G : Nat → Int} {sl steps : Int} {odd : Bool} (h : MI w B q pl mb mg C gq gg gm fv tq t s Kc f acc flt H G sl steps odd) (fi e tm old x : Int) (e0 : 0 ≤ e) (e1 : e < 18446744073709551616) (hl : Gd.leadsB s H G e = true) (a0 : 0 ≤ acc) (a1 : acc < 1000000) (x0 : 0 ≤ x) (x1 : x < 18446744073709551616) :
    Calls Try.prog 24 #[.pointer (some ⟨q, 0, none⟩), op16 0 fi e tm old x] w fun x' w' => x' = .returned (.tuple #[.int .u64 (Mm.ldI (3 + 8 * t + 7 * s) f (nodeI t s (e % 4096) fi)), .bool false]) ∧ MI w' B q pl mb mg C gq gg gm fv tq t s Kc (f) (acc + 1) (flt || !Mm.okA (3 + 8 * t + 7 * s) (nodeI t s (e % 4096) fi)) H G sl steps odd ∧ Mm.Only mb mg w w' := by
  refine Calls.veil fun Q HQ => ?_
  have HH := Lib.hid h; have HL := Lib.hid hl
  clear h hl
  unfold op16
  go_enter Try.func24, Try.ntmps24
  go_upto_region 1 with fail
  generalize hV : World.alloc _ _ = U
  obtain ⟨u0, hbu⟩ := Th.heapnewE hV
  have o0 := Th.newcell u0 0 _ rfl; have o1 := Th.newcell u0 1 _ rfl; have o2 := Th.newcell u0 2 _ rfl; have o3 := Th.newcell u0 3 _ rfl; have o4 := Th.newcell u0 4 _ rfl; have o5 := Th.newcell u0 5 _ rfl
  have HU := Lib.hid (HH.out.below hbu); have HBU := Lib.hid hbu
  clear hV u0 hbu
  go_wp2_with fail
  refine (rread HU.out e fi e0 e1 HL.out a0 a1).mono ?_; rintro _ w2 ⟨rfl, hm, ho⟩
  have HM := Lib.hid hm; have HO := Lib.hid ((Mm.Only.of_below HBU.out).trans ho)
  clear hm ho o0 o1 o2 o3 o4 o5
  go_wp2_with fail
  (try go_ret2)
  rw [HQ.out]
  exact ⟨rfl, HM.out, HO.out⟩
set_option maxRecDepth 8000 in
set_option maxHeartbeats 1000000 in
theorem do_yes_w {w : World} {B q pl mb mg C gq gg gm : Nat} {fv : Value} {tq : Nat → Nat} {t s : Nat} {Kc : Int} {f : Nat → Int} {acc : Int} {flt : Bool} {H : Nat → Bool} {G : Nat → Int} {sl steps : Int} {odd : Bool} (h : MI w B q pl mb mg C gq gg gm fv tq t s Kc f acc flt H G sl steps odd) (fi e tm old x : Int) (e0 : 0 ≤ e) (e1 : e < 18446744073709551616) (hl : Gd.leadsB s H G e = true) (a0 : 0 ≤ acc) (a1 : acc < 1000000) (x0 : 0 ≤ x) (x1 : x < 18446744073709551616) :
    Calls Try.prog 24 #[.pointer (some ⟨q, 0, none⟩), op16 1 fi e tm old x] w fun x' w' => x' = .returned (.tuple #[.int .u64 0, .bool false]) ∧ MI w' B q pl mb mg C gq gg gm fv tq t s Kc (if Mm.okA (3 + 8 * t + 7 * s) (nodeI t s (e % 4096) fi) = true then Mm.upd f ((nodeI t s (e % 4096) fi)).toNat x else f) (acc + 1) (flt || !Mm.okA (3 + 8 * t + 7 * s) (nodeI t s (e % 4096) fi)) H G sl steps odd ∧ Mm.Only mb mg w w' := by
  refine Calls.veil fun Q HQ => ?_
  have HH := Lib.hid h; have HL := Lib.hid hl
  clear h hl
  unfold op16
  go_enter Try.func24, Try.ntmps24
  go_upto_region 1 with fail
  generalize hV : World.alloc _ _ = U
  obtain ⟨u0, hbu⟩ := Th.heapnewE hV
  have o0 := Th.newcell u0 0 _ rfl; have o1 := Th.newcell u0 1 _ rfl; have o2 := Th.newcell u0 2 _ rfl; have o3 := Th.newcell u0 3 _ rfl; have o4 := Th.newcell u0 4 _ rfl; have o5 := Th.newcell u0 5 _ rfl
  have HU := Lib.hid (HH.out.below hbu); have HBU := Lib.hid hbu
  clear hV u0 hbu
  go_wp2_with fail
  refine (wacc HU.out e fi e0 e1 HL.out a0 a1 x0 x1).mono ?_; rintro _ w2 ⟨rfl, hm, ho⟩
  have HM := Lib.hid hm; have HO := Lib.hid ((Mm.Only.of_below HBU.out).trans ho)
  clear hm ho o0 o1 o2 o3 o4 o5
  go_wp2_with fail
  (try go_ret2)
  rw [HQ.out]
  exact ⟨rfl, HM.out, HO.out⟩
set_option maxRecDepth 8000 in
set_option maxHeartbeats 1000000 in
theorem do_yes_s {w : World} {B q pl mb mg C gq gg gm : Nat} {fv : Value} {tq : Nat → Nat} {t s : Nat} {Kc : Int} {f : Nat → Int} {acc : Int} {flt : Bool} {H : Nat → Bool} {G : Nat → Int} {sl steps : Int} {odd : Bool} (h : MI w B q pl mb mg C gq gg gm fv tq t s Kc f acc flt H G sl steps odd) (fi e tm old x : Int) (e0 : 0 ≤ e) (e1 : e < 18446744073709551616) (hl : Gd.leadsB s H G e = true) (a0 : 0 ≤ acc) (a1 : acc < 1000000) (x0 : 0 ≤ x) (x1 : x < 18446744073709551616) :
    Calls Try.prog 24 #[.pointer (some ⟨q, 0, none⟩), op16 2 fi e tm old x] w fun x' w' => x' = .returned (.tuple #[.int .u64 0, .bool (Mm.okA (3 + 8 * t + 7 * s) (nodeI t s (e % 4096) fi) && f ((nodeI t s (e % 4096) fi)).toNat == old)]) ∧ MI w' B q pl mb mg C gq gg gm fv tq t s Kc (if (Mm.okA (3 + 8 * t + 7 * s) (nodeI t s (e % 4096) fi) && f ((nodeI t s (e % 4096) fi)).toNat == old) = true then Mm.upd f ((nodeI t s (e % 4096) fi)).toNat x else f) (acc + 1) (flt || !Mm.okA (3 + 8 * t + 7 * s) (nodeI t s (e % 4096) fi)) H G sl steps odd ∧ Mm.Only mb mg w w' := by
  refine Calls.veil fun Q HQ => ?_
  have HH := Lib.hid h; have HL := Lib.hid hl
  clear h hl
  unfold op16
  go_enter Try.func24, Try.ntmps24
  go_upto_region 1 with fail
  generalize hV : World.alloc _ _ = U
  obtain ⟨u0, hbu⟩ := Th.heapnewE hV
  have o0 := Th.newcell u0 0 _ rfl; have o1 := Th.newcell u0 1 _ rfl; have o2 := Th.newcell u0 2 _ rfl; have o3 := Th.newcell u0 3 _ rfl; have o4 := Th.newcell u0 4 _ rfl; have o5 := Th.newcell u0 5 _ rfl
  have HU := Lib.hid (HH.out.below hbu); have HBU := Lib.hid hbu
  clear hV u0 hbu
  go_wp2_with fail
  refine (sacc HU.out e fi e0 e1 HL.out a0 a1 x0 x1).mono ?_; rintro _ w2 ⟨rfl, hm, ho⟩
  have HM := Lib.hid hm; have HO := Lib.hid ((Mm.Only.of_below HBU.out).trans ho)
  clear hm ho o0 o1 o2 o3 o4 o5
  go_wp2_with fail
  (try go_ret2)
  rw [HQ.out]
  exact ⟨rfl, HM.out, HO.out⟩
set_option maxRecDepth 8000 in
set_option maxHeartbeats 1000000 in
theorem do_yes_m {w : World} {B q pl mb mg C gq gg gm : Nat} {fv : Value} {tq : Nat → Nat} {t s : Nat} {Kc : Int} {f : Nat → Int} {acc : Int} {flt : Bool} {H : Nat → Bool} {G : Nat → Int} {sl steps : Int} {odd : Bool} (h : MI w B q pl mb mg C gq gg gm fv tq t s Kc f acc flt H G sl steps odd) (fi e tm old x : Int) (e0 : 0 ≤ e) (e1 : e < 18446744073709551616) (hl : Gd.leadsB s H G e = true) (a0 : 0 ≤ acc) (a1 : acc < 1000000) (x0 : 0 ≤ x) (x1 : x < 18446744073709551616) :
    Calls Try.prog 24 #[.pointer (some ⟨q, 0, none⟩), op16 3 fi e tm old x] w fun x' w' => x' = .returned (.tuple #[.int .u64 (Mm.ldI (3 + 8 * t + 7 * s) f (nodeI t s (e % 4096) fi)), .bool false]) ∧ MI w' B q pl mb mg C gq gg gm fv tq t s Kc (if Mm.okA (3 + 8 * t + 7 * s) (nodeI t s (e % 4096) fi) = true then Mm.upd f ((nodeI t s (e % 4096) fi)).toNat (Mm.orI (f ((nodeI t s (e % 4096) fi)).toNat) x) else f) (acc + 1) (flt || !Mm.okA (3 + 8 * t + 7 * s) (nodeI t s (e % 4096) fi)) H G sl steps odd ∧ Mm.Only mb mg w w' := by
  refine Calls.veil fun Q HQ => ?_
  have HH := Lib.hid h; have HL := Lib.hid hl
  clear h hl
  unfold op16
  go_enter Try.func24, Try.ntmps24
  go_upto_region 1 with fail
  generalize hV : World.alloc _ _ = U
  obtain ⟨u0, hbu⟩ := Th.heapnewE hV
  have o0 := Th.newcell u0 0 _ rfl; have o1 := Th.newcell u0 1 _ rfl; have o2 := Th.newcell u0 2 _ rfl; have o3 := Th.newcell u0 3 _ rfl; have o4 := Th.newcell u0 4 _ rfl; have o5 := Th.newcell u0 5 _ rfl
  have HU := Lib.hid (HH.out.below hbu); have HBU := Lib.hid hbu
  clear hV u0 hbu
  go_wp2_with fail
  refine (macc HU.out e fi e0 e1 HL.out a0 a1 x0 x1).mono ?_; rintro _ w2 ⟨rfl, hm, ho⟩
  have HM := Lib.hid hm; have HO := Lib.hid ((Mm.Only.of_below HBU.out).trans ho)
  clear hm ho o0 o1 o2 o3 o4 o5
  go_wp2_with fail
  (try go_ret2)
  rw [HQ.out]
  exact ⟨rfl, HM.out, HO.out⟩
set_option maxRecDepth 8000 in
set_option maxHeartbeats 1000000 in
theorem do_yes_d {w : World} {B q pl mb mg C gq gg gm : Nat} {fv : Value} {tq : Nat → Nat} {t s : Nat} {Kc : Int} {f : Nat → Int} {acc : Int} {flt : Bool} {H : Nat → Bool} {G : Nat → Int} {sl steps : Int} {odd : Bool} (h : MI w B q pl mb mg C gq gg gm fv tq t s Kc f acc flt H G sl steps odd) {k : Int} (k0 : ¬ k = 0) (k1 : ¬ k = 1) (k2 : ¬ k = 2) (k3 : ¬ k = 3) (fi e tm old x : Int) (e0 : 0 ≤ e) (e1 : e < 18446744073709551616) (hl : Gd.leadsB s H G e = true) (a0 : 0 ≤ acc) (a1 : acc < 1000000) (x0 : 0 ≤ x) (x1 : x < 18446744073709551616) :
    Calls Try.prog 24 #[.pointer (some ⟨q, 0, none⟩), op16 k fi e tm old x] w fun x' w' => x' = .returned (.tuple #[.int .u64 0, .bool (Mm.okA (3 + 8 * t + 7 * s) 0 && Mm.okA (3 + 8 * t + 7 * s) (nodeI t s (e % 4096) fi) && f (0 : Int).toNat == tm && f ((nodeI t s (e % 4096) fi)).toNat == old)]) ∧ MI w' B q pl mb mg C gq gg gm fv tq t s Kc (if (Mm.okA (3 + 8 * t + 7 * s) 0 && Mm.okA (3 + 8 * t + 7 * s) (nodeI t s (e % 4096) fi) && f (0 : Int).toNat == tm && f ((nodeI t s (e % 4096) fi)).toNat == old) = true then Mm.upd f ((nodeI t s (e % 4096) fi)).toNat x else f) (acc + 1) (flt || !(Mm.okA (3 + 8 * t + 7 * s) 0 && Mm.okA (3 + 8 * t + 7 * s) (nodeI t s (e % 4096) fi))) H G sl steps odd ∧ Mm.Only mb mg w w' := by
  refine Calls.veil fun Q HQ => ?_
  have HH := Lib.hid h; have HL := Lib.hid hl
  clear h hl
  unfold op16
  go_enter Try.func24, Try.ntmps24
  go_upto_region 1 with fail
  generalize hV : World.alloc _ _ = U
  obtain ⟨u0, hbu⟩ := Th.heapnewE hV
  have o0 := Th.newcell u0 0 _ rfl; have o1 := Th.newcell u0 1 _ rfl; have o2 := Th.newcell u0 2 _ rfl; have o3 := Th.newcell u0 3 _ rfl; have o4 := Th.newcell u0 4 _ rfl; have o5 := Th.newcell u0 5 _ rfl
  have HU := Lib.hid (HH.out.below hbu); have HBU := Lib.hid hbu
  clear hV u0 hbu
  go_wp2_with fail
  refine (dacc HU.out e fi e0 e1 HL.out a0 a1 x0 x1).mono ?_; rintro _ w2 ⟨rfl, hm, ho⟩
  have HM := Lib.hid hm; have HO := Lib.hid ((Mm.Only.of_below HBU.out).trans ho)
  clear hm ho o0 o1 o2 o3 o4 o5
  go_wp2_with fail
  (try go_ret2)
  rw [HQ.out]
  exact ⟨rfl, HM.out, HO.out⟩
/-- The kind that the reference asks its memory for. -/
def kc (k : Int) : Int := if 0 ≤ k ∧ k ≤ 3 then k else 5
theorem do_yes {w : World} {B q pl mb mg C gq gg gm : Nat} {fv : Value} {tq : Nat → Nat} {t s : Nat} {Kc : Int} {f : Nat → Int} {acc : Int} {flt : Bool} {H : Nat → Bool} {G : Nat → Int} {sl steps : Int} {odd : Bool} (h : MI w B q pl mb mg C gq gg gm fv tq t s Kc f acc flt H G sl steps odd) (k fi e tm old x : Int) (e0 : 0 ≤ e) (e1 : e < 18446744073709551616) (hl : Gd.leadsB s H G e = true) (a0 : 0 ≤ acc) (a1 : acc < 1000000) (x0 : 0 ≤ x) (x1 : x < 18446744073709551616) :
    Calls Try.prog 24 #[.pointer (some ⟨q, 0, none⟩), op16 k fi e tm old x] w fun x' w' => x' = .returned (.tuple #[.int .u64 (Mm.toldD (3 + 8 * t + 7 * s) f (kc k) (nodeI t s (e % 4096) fi)), .bool (Mm.doneD (3 + 8 * t + 7 * s) f (kc k) (nodeI t s (e % 4096) fi) 0 tm old)]) ∧ MI w' B q pl mb mg C gq gg gm fv tq t s Kc (Mm.nextD (3 + 8 * t + 7 * s) f (kc k) (nodeI t s (e % 4096) fi) 0 tm old x) (acc + 1) (flt || !Mm.okD (3 + 8 * t + 7 * s) (kc k) (nodeI t s (e % 4096) fi) 0) H G sl steps odd ∧ Mm.Only mb mg w w' := by
  obtain ⟨n, hn⟩ : ∃ n, n = (3 + 8 * t + 7 * s) := ⟨_, rfl⟩
  obtain ⟨p, hp⟩ : ∃ p, p = (nodeI t s (e % 4096) fi) := ⟨_, rfl⟩
  by_cases k0 : k = 0
  · subst k0
    have h := do_yes_r h fi e tm old x e0 e1 hl a0 a1 x0 x1
    rw [← hn, ← hp] at h ⊢
    unfold Mm.toldD Mm.doneD Mm.nextD Mm.okD kc
    simpa using h
  · by_cases k1 : k = 1
    · subst k1
      have h := do_yes_w h fi e tm old x e0 e1 hl a0 a1 x0 x1
      rw [← hn, ← hp] at h ⊢
      unfold Mm.toldD Mm.doneD Mm.nextD Mm.okD kc
      simpa using h
    · by_cases k2 : k = 2
      · subst k2
        have h := do_yes_s h fi e tm old x e0 e1 hl a0 a1 x0 x1
        rw [← hn, ← hp] at h ⊢
        unfold Mm.toldD Mm.doneD Mm.nextD Mm.okD kc
        cases ho : Mm.okA n p <;> simp [ho, Mm.doneD] at h ⊢ <;> exact h
      · by_cases k3 : k = 3
        · subst k3
          have h := do_yes_m h fi e tm old x e0 e1 hl a0 a1 x0 x1
          rw [← hn, ← hp] at h ⊢
          unfold Mm.toldD Mm.doneD Mm.nextD Mm.okD kc
          simpa using h
        · have h := do_yes_d h k0 k1 k2 k3 fi e tm old x e0 e1 hl a0 a1 x0 x1
          have e5 : kc k = 5 := by unfold kc; rw [if_neg (by omega)]
          rw [e5]
          rw [← hn, ← hp] at h ⊢
          unfold Mm.toldD Mm.doneD Mm.nextD Mm.okD
          cases h0 : Mm.okA n 0 <;> cases ho : Mm.okA n p <;> simp [h0, ho, Mm.doneD] at h ⊢ <;> exact h
end Go.Proofs.Ytkkdehniheajeaa
