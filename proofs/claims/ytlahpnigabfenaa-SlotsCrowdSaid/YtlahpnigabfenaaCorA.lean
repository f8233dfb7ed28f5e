/- Layer 16: what memory has at first. -/
import Derived.Test.YtlahpnigabfenaaPlanG
import Derived.Test.YtlahpnigabfenaaMemQ
import Derived.Test.YtlahpnigabfenaaOrderA
import Derived.Test.YtlahpnigabfenaaBadgeA
import Derived.Test.YtlahpnigabfenaaEdgQ
namespace Go.Proofs.Ytlahpnigabfenaa
open Go.RowKit WordM EdgeM
set_option linter.unusedVariables false
set_option linter.unusedSimpArgs false
theorem Calls.veil {P : Program} {f : FuncId} {args : Array Value} {w : World} {R : Ending → World → Prop} (h : ∀ Q : Ending → World → Prop, Hid (Q = R) → Calls P f args w Q) : Calls P f args w R := h R rfl
theorem Mm.RowAt.set {w : World} {g n : Nat} {f : Nat → Int} (h : Mm.RowAt w g n f) {a : Nat} (ha : a < n) (x : Int) : Mm.RowAt (w.setCell ⟨g, a, none⟩ (.int .u64 x)) g n (Mm.upd f a x) where
  row i hi := by
    unfold Mm.upd
    by_cases e : i = a
    · subst e; rw [if_pos rfl]; exact Mm.scS (h.row i hi)
    · rw [if_neg e]; exact Mm.scO (h.row i hi) (by intro e2; simp only [Addr.mk.injEq] at e2; omega)
  fr i := Mm.scF (h.fr i)
  lt := by have := h.lt; simpa [World.setCell] using this
theorem node_nat (t s k f : Nat) (h1 : 1 ≤ k) (h2 : k ≤ s) (h3 : f < 7) : nodeI t s k f = ((3 + 8 * t + 7 * (k - 1) + f : Nat) : Int) := by
  unfold nodeI; rw [if_pos (by omega)]; omega
/-- An inner node, laid. -/
def innerF (f : Nat → Int) (a : Nat) (c l r : Int) : Nat → Int := Mm.upd (Mm.upd (Mm.upd f (a + 2) (infoI false c)) (a + 4) l) (a + 5) r
theorem make0 {l : Int} (h0 : 0 ≤ l) (h1 : l ≤ 4095) : makeI l 0 = l := by unfold makeI; rw [slotI_of h0 h1]; omega
set_option maxRecDepth 8000 in
set_option maxHeartbeats 1000000 in
theorem cinner {t s k pl g n : Nat} {f : Nat → Int} {w : World} (x0 : w.cell? ⟨pl, 0, none⟩ = some (.int .i64 t)) (x1 : w.cell? ⟨pl, 1, none⟩ = some (.int .i64 s)) (hr : Mm.RowAt w g n f) (hp : pl ≠ g) (t1 : 1 ≤ t) (t2 : t ≤ 6) (s1 : 7 ≤ s) (s2 : s ≤ 250) (hn : n = 3 + 8 * t + 7 * s) (h1 : 1 ≤ k) (h2 : k ≤ s) (c : Int) {l r : Int} (l0 : 0 ≤ l) (l1 : l ≤ 4095) (r0 : 0 ≤ r) (r1 : r ≤ 4095) :
    Calls Try.prog 57 #[.slice (some ⟨g, 0, none⟩) n n, .pointer (some ⟨pl, 0, none⟩), .int .i64 k, .int .i64 c, .int .i64 l, .int .i64 r] w fun e w' => e = .returned (.tuple #[]) ∧ Mm.RowAt w' g n (innerF f (3 + 8 * t + 7 * (k - 1)) c l r) ∧ Mm.Only g g w w' := by
  obtain ⟨a, ha⟩ : ∃ a, a = 3 + 8 * t + 7 * (k - 1) := ⟨_, rfl⟩
  have HN2 := Lib.hid (show nodeI t s k (2 : Int) = ((a + 2 : Nat) : Int) from by rw [ha]; exact node_nat t s k 2 h1 h2 (by omega))
  have HN4 := Lib.hid (show nodeI t s k (4 : Int) = ((a + 4 : Nat) : Int) from by rw [ha]; exact node_nat t s k 4 h1 h2 (by omega))
  have HN5 := Lib.hid (show nodeI t s k (5 : Int) = ((a + 5 : Nat) : Int) from by rw [ha]; exact node_nat t s k 5 h1 h2 (by omega))
  have ha2 : a + 5 < n := by omega
  rw [← ha]
  refine Calls.veil fun Q HQ => ?_
  have HM1 := Lib.hid (make0 l0 l1); have HM2 := Lib.hid (make0 r0 r1)
  have T1 : (1 : Int) ≤ t := by omega
  have T2 : (t : Int) ≤ 6 := by omega
  have S1 : (7 : Int) ≤ s := by omega
  have S2 : (s : Int) ≤ 250 := by omega
  have TT := Lib.hid (And.intro (And.intro T1 T2) (And.intro S1 S2))
  have HR := Lib.hid hr; have X0 := Lib.hid x0; have X1 := Lib.hid x1; have HP := Lib.hid hp
  clear ha hr x0 x1 hp T1 T2 S1 S2 hn l0 l1 r0 r1
  go_enter Try.func57, Try.ntmps57
  go_wp2_with fail
  refine (pnode_calls _ _ _ _ _ _ X0.out X1.out TT.out.1.1 TT.out.1.2 TT.out.2.1 TT.out.2.2).mono ?_; rintro _ w1 ⟨rfl, hb1⟩
  rw [HN2.out]
  have HR1 := Lib.hid (HR.out.below hb1); have HB1 := Lib.hid hb1
  clear hb1
  go_wp2_with fail
  refine (oinfo_calls _ _ _).mono ?_; rintro _ _ ⟨rfl, rfl⟩
  have r2 := HR1.out.row (a + 2) (by omega)
  have rf := HR1.out.fr (a + 2)
  go_upto_region 1 with fail
  generalize hW : World.setCell _ _ _ = V1
  have HR2 := Lib.hid (show Mm.RowAt V1 g n (Mm.upd f (a + 2) (infoI false c)) by rw [← hW]; exact HR1.out.set (by omega) _)
  have HO2 := Lib.hid (show Mm.Only g g w V1 by rw [← hW]; exact (Mm.Only.of_below HB1.out).set1 _ _)
  clear hW r2 rf HR1 HB1
  go_wp2_with fail
  refine (pnode_calls _ _ _ _ _ _ (HO2.out.cell X0.out HP.out HP.out) (HO2.out.cell X1.out HP.out HP.out) TT.out.1.1 TT.out.1.2 TT.out.2.1 TT.out.2.2).mono ?_; rintro _ w2 ⟨rfl, hb2⟩
  rw [HN4.out]
  have HR3 := Lib.hid (HR2.out.below hb2); have HB2 := Lib.hid hb2
  clear hb2
  go_wp2_with fail
  refine (emake_calls _ _ _ (by omega)).mono ?_; rintro _ _ ⟨rfl, rfl⟩
  rw [HM1.out]
  have r2 := HR3.out.row (a + 4) (by omega)
  have rf := HR3.out.fr (a + 4)
  go_upto_region 2 with fail
  generalize hW : World.setCell _ _ _ = V2
  have HR4 := Lib.hid (show Mm.RowAt V2 g n (Mm.upd (Mm.upd f (a + 2) (infoI false c)) (a + 4) l) by rw [← hW]; exact HR3.out.set (by omega) _)
  have HO4 := Lib.hid (show Mm.Only g g w V2 by rw [← hW]; exact (HO2.out.trans (Mm.Only.of_below HB2.out)).set1 _ _)
  clear hW r2 rf HR3 HB2 HR2 HO2
  go_wp2_with fail
  refine (pnode_calls _ _ _ _ _ _ (HO4.out.cell X0.out HP.out HP.out) (HO4.out.cell X1.out HP.out HP.out) TT.out.1.1 TT.out.1.2 TT.out.2.1 TT.out.2.2).mono ?_; rintro _ w3 ⟨rfl, hb3⟩
  rw [HN5.out]
  have HR5 := Lib.hid (HR4.out.below hb3); have HB3 := Lib.hid hb3
  clear hb3
  go_wp2_with fail
  refine (emake_calls _ _ _ (by omega)).mono ?_; rintro _ _ ⟨rfl, rfl⟩
  rw [HM2.out]
  have r2 := HR5.out.row (a + 5) (by omega)
  have rf := HR5.out.fr (a + 5)
  go_wp2_with fail
  refine bodyPost_end (v := .tuple #[]) (by simp [results, Try.results57, go_sem]) rfl ?_
  rw [HQ.out]
  exact ⟨rfl, HR5.out.set (by omega) _, (HO4.out.trans (Mm.Only.of_below HB3.out)).set1 _ _⟩
end Go.Proofs.Ytlahpnigabfenaa
