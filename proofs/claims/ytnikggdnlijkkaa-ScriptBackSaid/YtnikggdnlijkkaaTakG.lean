/- Layer 14: script.Take. (By gen_takg.py.) -/
import Derived.Test.YtnikggdnlijkkaaTakF
namespace Go.Proofs.Ytnikggdnlijkkaa
open Go.RowKit WordM
set_option linter.unusedVariables false
set_option linter.unusedSimpArgs false
def lenCell (w : World) (e : Nat) : Nat := match w.cell? ⟨e, 0, none⟩ with | some (.slice _ m _) => m | _ => 0
theorem lenCell_of {w : World} {e m c : Nat} {p : Option Addr} (h : w.cell? ⟨e, 0, none⟩ = some (.slice p m c)) : lenCell w e = m := by unfold lenCell; rw [h]
/-- The way through the entries: k of them are read. -/
structure LT (w : World) (D : Nat → Int) (n : Nat) (T S Kc : Int) (k : Nat) (lv rv : Value) (V : World) : Prop where
  br : BR w lv (n - posD D k) (dropD D (posD D k))
  eb : EB V (w.heap.size + 1 + 1) lv rv
  own : OwnE V (w.heap.size + 1 + 1 + 1) rv k (entAt D)
  bl : Below w.heap.size w V
  ha : V.heap[w.heap.size]? = some (.cells #[.int .i64 T, .int .i64 S, .int .u64 Kc, .slice none 0 0] 29 (0, 0))
  hb : V.heap[w.heap.size + 1]? = some (.cells #[.int .i64 0] 30 (0, 0))
theorem LT.on {w : World} {D : Nat → Int} {n : Nat} {T S Kc : Int} {k k' : Nat} {lv rv lv' rv' : Value} {V V' : World} (h : LT w D n T S Kc k lv rv V) (hk : Below (w.heap.size + 1 + 1) V V') (h1 : BR w lv' (n - posD D k') (dropD D (posD D k'))) (h2 : EB V' (w.heap.size + 1 + 1) lv' rv') (h3 : OwnE V' (w.heap.size + 1 + 1 + 1) rv' k' (entAt D)) : LT w D n T S Kc k' lv' rv' V' :=
  ⟨h1, h2, h3, h.bl.trans (hk.mono (by omega)), (hk.block _ (by omega)).trans h.ha, (hk.block _ (by omega)).trans h.hb⟩
theorem rowc {w : World} {q i : Nat} {A : Array Value} {T : TypeId} (h : w.heap[q]? = some (.cells A T (0, 0))) (v : Value) (hv : A[i]? = some v) : w.cell? ⟨q, i, none⟩ = some v := by rw [cell_of_row _ _ _ _ _ (0, 0) h]; exact hv
set_option maxHeartbeats 4000000 in
theorem stake_fail (D : Nat → Int) (n : Nat) (v : Value) (w : World) (hL : BR w v n D) (hD : BY D) (y : Int) (hy : (n < 11 ∧ y = 5) ∨ (11 ≤ n ∧ mayC (fT D) (fS D) (fK D) = false ∧ y = 2)) :
    Calls Try.prog 6 #[v] w fun E w' => ∃ sl, E = .returned (.tuple #[.agg #[.int .i64 0, .int .i64 0, .int .u64 0, sl], .int .i64 y]) ∧ ER w' sl 0 (entAt D) ∧ Below w.heap.size w w' := by
  refine Calls.veil fun Q HQ => ?_
  have hmf : ∀ (fn : Fn) (first cap : Array Value) (w : World), (Instr.makeFunc fn first cap).run Try.prog w = .ok (.func fn first cap) w := fun _ _ _ _ => rfl
  have HL0 := Lib.hid hL
  obtain ⟨p, c, rfl, a1, a2⟩ := hL.slice
  clear hL
  go_enter_defers Try.func6, Try.ntmps6
  go_upto_region 3 with fail
  generalize hV : World.alloc _ _ = V
  have F0 := Lib.hid (show EB V (w.heap.size + 1 + 1) (.slice p n c) (.slice none 0 0) ∧ Below w.heap.size w V ∧ V.heap[w.heap.size]? = some (.cells #[.int .i64 0, .int .i64 0, .int .u64 0, .slice none 0 0] 29 (0, 0)) ∧ V.heap[w.heap.size + 1]? = some (.cells #[.int .i64 0] 30 (0, 0)) by
    rw [← hV]
    refine ⟨?_, (((Below.refl _ _).alloc (Nat.le_refl _) _).alloc (by simp) _).alloc (by simp; omega) _, ?_, ?_⟩
    · have := heap_alloc_new ((w.alloc (.cells #[.int .i64 0, .int .i64 0, .int .u64 0, .slice none 0 0] 29)).alloc (.cells #[.int .i64 0] 30)) (.cells #[.slice p n c, .slice none 0 0] 48)
      simp only [World.size_alloc] at this
      exact this
    · exact (Below.heap_alloc _ _ _ (by simp; omega)).trans ((Below.heap_alloc _ _ _ (by simp)).trans (heap_alloc_new w _))
    · refine (Below.heap_alloc _ _ _ (by simp)).trans ?_
      have := heap_alloc_new (w.alloc (.cells #[.int .i64 0, .int .i64 0, .int .u64 0, .slice none 0 0] 29)) (.cells #[.int .i64 0] 30)
      simp only [World.size_alloc] at this
      exact this)
  clear hV
  go_wp2_with fail
  refine (sconf_fail w D n (.slice p n c) (.slice none 0 0) (w.heap.size + 1 + 1) V HL0.out F0.out.2.1 (by omega) F0.out.1 y hy hD).mono ?_; rintro _ w1 ⟨pv, rfl, hp, hb1⟩
  go_wp2_with fail
  refine leaves_cons (f := 13) (args := #[.pointer (some ⟨w.heap.size, 0, none⟩), .pointer (some ⟨w.heap.size + 1, 0, none⟩)]) (by simp) (by simp [go_sem]) ?_
  refine (catch_any w.heap.size (w.heap.size + 1) 0 0 0 0 y (.slice none 0 0) pv _ hp ((hb1.block _ (by omega)).trans F0.out.2.2.1) ((hb1.block _ (by omega)).trans F0.out.2.2.2) (by omega)).mono ?_
  rintro e u' w9 ⟨rfl, rfl, h1, h2, h3⟩
  show Leaves _ _ _ _ [] .returning _
  have x0 := rowc h1 (i := 0) _ rfl
  have x1 := rowc h1 (i := 1) _ rfl
  have x2 := rowc h1 (i := 2) _ rfl
  have x3 := rowc h1 (i := 3) _ rfl
  have x4 := rowc h2 (i := 0) _ rfl
  have hB := F0.out.2.1.trans (hb1.mono (by omega))
  refine ⟨.tuple #[.agg #[.int .i64 0, .int .i64 0, .int .u64 0, .slice none 0 0], .int .i64 y], by simp [results, Try.results6, go_sem, x0, x1, x2, x3, x4], ?_⟩
  rw [HQ.out]
  exact ⟨_, rfl, .nil _, ⟨h3.os.trans hB.os, h3.tape.trans hB.tape, h3.output.trans hB.output, Nat.le_trans hB.size h3.size, fun k hk => (h3.block k (by have := hB.size; omega) (by omega) (by omega)).trans (hB.block k hk)⟩⟩
set_option maxHeartbeats 4000000 in
theorem stake_bad (D : Nat → Int) (n : Nat) (v : Value) (w : World) (hL : BR w v n D) (hD : BY D) (K : Nat) (y : Int) (h11 : 11 ≤ n) (hm : mayC (fT D) (fS D) (fK D) = true) (hg : ∀ j, j < K → Goes D n j) (hs : Stops D n K y) (hy : y ≠ 0) :
    Calls Try.prog 6 #[v] w fun E w' => ∃ sl, E = .returned (.tuple #[.agg #[.int .i64 0, .int .i64 0, .int .u64 0, sl], .int .i64 y]) ∧ ER w' sl 0 (entAt D) ∧ Below w.heap.size w w' := by
  refine Calls.veil fun Q HQ => ?_
  have hmf : ∀ (fn : Fn) (first cap : Array Value) (w : World), (Instr.makeFunc fn first cap).run Try.prog w = .ok (.func fn first cap) w := fun _ _ _ _ => rfl
  have HG := Lib.hid hg
  have HP := Lib.hid (goes_le h11 hg)
  have HS := Lib.hid (And.intro hs hy)
  clear hg hs hy
  have HL0 := Lib.hid hL
  obtain ⟨p, c, rfl, a1, a2⟩ := hL.slice
  clear hL
  go_enter_defers Try.func6, Try.ntmps6
  go_upto_region 3 with fail
  generalize hV : World.alloc _ _ = V
  have F0 := Lib.hid (show EB V (w.heap.size + 1 + 1) (.slice p n c) (.slice none 0 0) ∧ Below w.heap.size w V ∧ V.heap[w.heap.size]? = some (.cells #[.int .i64 0, .int .i64 0, .int .u64 0, .slice none 0 0] 29 (0, 0)) ∧ V.heap[w.heap.size + 1]? = some (.cells #[.int .i64 0] 30 (0, 0)) by
    rw [← hV]
    refine ⟨?_, (((Below.refl _ _).alloc (Nat.le_refl _) _).alloc (by simp) _).alloc (by simp; omega) _, ?_, ?_⟩
    · have := heap_alloc_new ((w.alloc (.cells #[.int .i64 0, .int .i64 0, .int .u64 0, .slice none 0 0] 29)).alloc (.cells #[.int .i64 0] 30)) (.cells #[.slice p n c, .slice none 0 0] 48)
      simp only [World.size_alloc] at this
      exact this
    · exact (Below.heap_alloc _ _ _ (by simp; omega)).trans ((Below.heap_alloc _ _ _ (by simp)).trans (heap_alloc_new w _))
    · refine (Below.heap_alloc _ _ _ (by simp)).trans ?_
      have := heap_alloc_new (w.alloc (.cells #[.int .i64 0, .int .i64 0, .int .u64 0, .slice none 0 0] 29)) (.cells #[.int .i64 0] 30)
      simp only [World.size_alloc] at this
      exact this)
  clear hV
  go_wp2_with fail
  refine (sconf w D n (.slice p n c) (.slice none 0 0) (w.heap.size + 1 + 1) V HL0.out F0.out.2.1 (by omega) F0.out.1 h11 hm hD).mono ?_; rintro _ w1 ⟨rfl, l1, hl1, he1, hk1⟩
  generalize fT D = T at *
  generalize fS D = S at *
  generalize fK D = Kc at *
  have b1 := hk1.below (by have := F0.out.1.lt; omega)
  have ha1 := (b1.block w.heap.size (by omega)).trans F0.out.2.2.1
  have hb1 := (b1.block (w.heap.size + 1) (by omega)).trans F0.out.2.2.2
  have HL1 := Lib.hid hl1
  have E1 := Lib.hid (And.intro he1 (And.intro (F0.out.2.1.trans (b1.mono (by omega))) (And.intro ha1 hb1)))
  have y0 := rowc ha1 (i := 0) _ rfl
  have y1 := rowc ha1 (i := 1) _ rfl
  have y2 := rowc ha1 (i := 2) _ rfl
  have yf : ∀ i, w1.frozen? ⟨w.heap.size, i, none⟩ = false := fun i => frozen_of_row _ _ _ _ _ ha1
  clear hl1 he1 hk1 b1 ha1 hb1 F0 HL0
  go_wp2_with fail
  generalize hU : World.setCell _ _ _ = U
  have L0 : LT w D n T S Kc 0 l1 (.slice none 0 0) U := by
    rw [← hU]
    have o := fun (X : World) (i : Nat) (v : Value) (k : Nat) (hk : k ≠ w.heap.size) => heap_setCell_other X ⟨w.heap.size, i, none⟩ k v hk
    refine ⟨HL1.out, ?_, ⟨rfl, .inl ⟨rfl, rfl⟩⟩, ble (ble (ble E1.out.2.1 (Nat.le_refl _) _) (Nat.le_refl _) _) (Nat.le_refl _) _, ?_, ?_⟩
    · exact (o _ _ _ _ (by omega)).trans ((o _ _ _ _ (by omega)).trans ((o _ _ _ _ (by omega)).trans E1.out.1))
    · exact heap_setCell_same _ w.heap.size 2 _ _ _ (heap_setCell_same _ w.heap.size 1 _ _ _ (heap_setCell_same w1 w.heap.size 0 _ _ _ E1.out.2.2.1))
    · exact (o _ _ _ _ (by omega)).trans ((o _ _ _ _ (by omega)).trans ((o _ _ _ _ (by omega)).trans E1.out.2.2.2))
  have L0 := Lib.hid L0
  clear hU y0 y1 y2 yf E1 HL1
  go_loopw [20] (fun _ wr => ∃ k lv rv, k ≤ K ∧ Hid (LT w D n T S Kc k lv rv wr))
    (fun _ wr => lenCell wr (w.heap.size + 1 + 1))
  case atStart => exact ⟨0, _, _, by omega, L0⟩
  case round =>
    obtain ⟨k, lv, rv, hk, HJ⟩ := hrel
    obtain ⟨m, hm2⟩ : ∃ m, m = n - posD D k := ⟨_, rfl⟩
    have hbr := HJ.out.br
    rw [← hm2] at hbr
    obtain ⟨p1, c1, rfl, d1, d2⟩ := hbr.slice
    obtain ⟨p2, c2, rfl, e1, e2⟩ := (own_ER HJ.out.own).slice
    have q0 := HJ.out.eb.c0
    have q1 := HJ.out.eb.c1
    have hle := HP.out k hk
    rcases (by omega : k < K ∨ k = K) with hlt | heq
    · have hg := HG.out k hlt
      have hpos := hg.1
      have m0 : 0 < m := by omega
      have m1 : (0 : Int) < (m : Int) := by omega
      have HM := Lib.hid hm2
      have HLC := Lib.hid (lenCell_of q0)
      have hnext := goes_next hg
      have hp1 : posD D k < posD D (k + 1) := by
        rw [posD]; have := lenD_pos (dropD D (posD D k)); omega
      have SG := Lib.hid (sentry_go w D n k _ _ (w.heap.size + 1 + 1) _ HJ.out.br HJ.out.bl (by omega) HJ.out.eb HJ.out.own hD hg)
      clear hg hpos hm2 hbr
      go_wp2_with fail
      refine SG.out.mono ?_; rintro _ w5 ⟨rfl, lv5, rv5, hl5, he5, ho5, hb5⟩
      have L5 := Lib.hid (HJ.out.on hb5 hl5 he5 ho5)
      clear hl5 he5 ho5 hb5 SG q0 q1
      go_wp2_with fail
      go_roundw
      case rel => exact ⟨k + 1, _, _, by omega, L5⟩
      case measure =>
        rw [HLC.out]
        obtain ⟨p6, c6, e6, _, _⟩ := L5.out.br.slice
        have h6 := L5.out.eb.c0
        rw [e6] at h6
        rw [lenCell_of h6]
        have := HM.out
        omega
    · subst heq
      have hpos : posD D k < n := by
        rcases HS.out.1 with ⟨_, h⟩ | ⟨h, _⟩ | ⟨h, _⟩ | ⟨h, _⟩
        · exact absurd h HS.out.2
        · exact h
        · exact h
        · exact h
      have m0 : 0 < m := by omega
      have m1 : (0 : Int) < (m : Int) := by omega
      have SG := Lib.hid (sentry_stop w D n k _ _ (w.heap.size + 1 + 1) _ HJ.out.br HJ.out.bl (by omega) HJ.out.eb HJ.out.own hD y HS.out.1 HS.out.2)
      clear hpos hm2 hbr
      go_wp2_with fail
      refine SG.out.mono ?_; rintro _ w5 ⟨pv, rfl, hp, hb5⟩
      go_wp2_with fail
      refine leaves_cons (f := 13) (args := #[.pointer (some ⟨w.heap.size, 0, none⟩), .pointer (some ⟨w.heap.size + 1, 0, none⟩)]) (by simp) (by simp [go_sem]) ?_
      refine (catch_any w.heap.size (w.heap.size + 1) T S Kc 0 y (.slice none 0 0) pv _ hp ((hb5.block _ (by omega)).trans HJ.out.ha) ((hb5.block _ (by omega)).trans HJ.out.hb) (by omega)).mono ?_
      rintro e u' w9 ⟨rfl, rfl, h1, h2, h3⟩
      show Leaves _ _ _ _ [] .returning _
      have x0 := rowc h1 (i := 0) _ rfl
      have x1 := rowc h1 (i := 1) _ rfl
      have x2 := rowc h1 (i := 2) _ rfl
      have x3 := rowc h1 (i := 3) _ rfl
      have x4 := rowc h2 (i := 0) _ rfl
      have hB := HJ.out.bl.trans (hb5.mono (by omega))
      refine ⟨.tuple #[.agg #[.int .i64 0, .int .i64 0, .int .u64 0, .slice none 0 0], .int .i64 y], by simp [results, Try.results6, go_sem, x0, x1, x2, x3, x4], ?_⟩
      rw [HQ.out]
      exact ⟨_, rfl, .nil _, ⟨h3.os.trans hB.os, h3.tape.trans hB.tape, h3.output.trans hB.output, Nat.le_trans hB.size h3.size, fun k hk => (h3.block k (by have := hB.size; omega) (by omega) (by omega)).trans (hB.block k hk)⟩⟩
set_option maxHeartbeats 4000000 in
theorem stake_ok (D : Nat → Int) (n : Nat) (v : Value) (w : World) (hL : BR w v n D) (hD : BY D) (K : Nat) (h11 : 11 ≤ n) (hm : mayC (fT D) (fS D) (fK D) = true) (hg : ∀ j, j < K → Goes D n j) (hs : n ≤ posD D K) :
    Calls Try.prog 6 #[v] w fun E w' => ∃ sl, E = .returned (.tuple #[.agg #[.int .i64 (fT D), .int .i64 (fS D), .int .u64 (fK D), sl], .int .i64 0]) ∧ ER w' sl K (entAt D) ∧ Below w.heap.size w w' := by
  refine Calls.veil fun Q HQ => ?_
  have hmf : ∀ (fn : Fn) (first cap : Array Value) (w : World), (Instr.makeFunc fn first cap).run Try.prog w = .ok (.func fn first cap) w := fun _ _ _ _ => rfl
  have HG := Lib.hid hg
  have HP := Lib.hid (goes_le h11 hg)
  have HS := Lib.hid hs
  clear hg hs
  have HL0 := Lib.hid hL
  obtain ⟨p, c, rfl, a1, a2⟩ := hL.slice
  clear hL
  go_enter_defers Try.func6, Try.ntmps6
  go_upto_region 3 with fail
  generalize hV : World.alloc _ _ = V
  have F0 := Lib.hid (show EB V (w.heap.size + 1 + 1) (.slice p n c) (.slice none 0 0) ∧ Below w.heap.size w V ∧ V.heap[w.heap.size]? = some (.cells #[.int .i64 0, .int .i64 0, .int .u64 0, .slice none 0 0] 29 (0, 0)) ∧ V.heap[w.heap.size + 1]? = some (.cells #[.int .i64 0] 30 (0, 0)) by
    rw [← hV]
    refine ⟨?_, (((Below.refl _ _).alloc (Nat.le_refl _) _).alloc (by simp) _).alloc (by simp; omega) _, ?_, ?_⟩
    · have := heap_alloc_new ((w.alloc (.cells #[.int .i64 0, .int .i64 0, .int .u64 0, .slice none 0 0] 29)).alloc (.cells #[.int .i64 0] 30)) (.cells #[.slice p n c, .slice none 0 0] 48)
      simp only [World.size_alloc] at this
      exact this
    · exact (Below.heap_alloc _ _ _ (by simp; omega)).trans ((Below.heap_alloc _ _ _ (by simp)).trans (heap_alloc_new w _))
    · refine (Below.heap_alloc _ _ _ (by simp)).trans ?_
      have := heap_alloc_new (w.alloc (.cells #[.int .i64 0, .int .i64 0, .int .u64 0, .slice none 0 0] 29)) (.cells #[.int .i64 0] 30)
      simp only [World.size_alloc] at this
      exact this)
  clear hV
  go_wp2_with fail
  refine (sconf w D n (.slice p n c) (.slice none 0 0) (w.heap.size + 1 + 1) V HL0.out F0.out.2.1 (by omega) F0.out.1 h11 hm hD).mono ?_; rintro _ w1 ⟨rfl, l1, hl1, he1, hk1⟩
  generalize fT D = T at *
  generalize fS D = S at *
  generalize fK D = Kc at *
  have b1 := hk1.below (by have := F0.out.1.lt; omega)
  have ha1 := (b1.block w.heap.size (by omega)).trans F0.out.2.2.1
  have hb1 := (b1.block (w.heap.size + 1) (by omega)).trans F0.out.2.2.2
  have HL1 := Lib.hid hl1
  have E1 := Lib.hid (And.intro he1 (And.intro (F0.out.2.1.trans (b1.mono (by omega))) (And.intro ha1 hb1)))
  have y0 := rowc ha1 (i := 0) _ rfl
  have y1 := rowc ha1 (i := 1) _ rfl
  have y2 := rowc ha1 (i := 2) _ rfl
  have yf : ∀ i, w1.frozen? ⟨w.heap.size, i, none⟩ = false := fun i => frozen_of_row _ _ _ _ _ ha1
  clear hl1 he1 hk1 b1 ha1 hb1 F0 HL0
  go_wp2_with fail
  generalize hU : World.setCell _ _ _ = U
  have L0 : LT w D n T S Kc 0 l1 (.slice none 0 0) U := by
    rw [← hU]
    have o := fun (X : World) (i : Nat) (v : Value) (k : Nat) (hk : k ≠ w.heap.size) => heap_setCell_other X ⟨w.heap.size, i, none⟩ k v hk
    refine ⟨HL1.out, ?_, ⟨rfl, .inl ⟨rfl, rfl⟩⟩, ble (ble (ble E1.out.2.1 (Nat.le_refl _) _) (Nat.le_refl _) _) (Nat.le_refl _) _, ?_, ?_⟩
    · exact (o _ _ _ _ (by omega)).trans ((o _ _ _ _ (by omega)).trans ((o _ _ _ _ (by omega)).trans E1.out.1))
    · exact heap_setCell_same _ w.heap.size 2 _ _ _ (heap_setCell_same _ w.heap.size 1 _ _ _ (heap_setCell_same w1 w.heap.size 0 _ _ _ E1.out.2.2.1))
    · exact (o _ _ _ _ (by omega)).trans ((o _ _ _ _ (by omega)).trans ((o _ _ _ _ (by omega)).trans E1.out.2.2.2))
  have L0 := Lib.hid L0
  clear hU y0 y1 y2 yf E1 HL1
  go_loopw [20] (fun _ wr => ∃ k lv rv, k ≤ K ∧ Hid (LT w D n T S Kc k lv rv wr))
    (fun _ wr => lenCell wr (w.heap.size + 1 + 1))
  case atStart => exact ⟨0, _, _, by omega, L0⟩
  case round =>
    obtain ⟨k, lv, rv, hk, HJ⟩ := hrel
    obtain ⟨m, hm2⟩ : ∃ m, m = n - posD D k := ⟨_, rfl⟩
    have hbr := HJ.out.br
    rw [← hm2] at hbr
    obtain ⟨p1, c1, rfl, d1, d2⟩ := hbr.slice
    obtain ⟨p2, c2, rfl, e1, e2⟩ := (own_ER HJ.out.own).slice
    have q0 := HJ.out.eb.c0
    have q1 := HJ.out.eb.c1
    have hle := HP.out k hk
    rcases (by omega : k < K ∨ k = K) with hlt | heq
    · have hg := HG.out k hlt
      have hpos := hg.1
      have m0 : 0 < m := by omega
      have m1 : (0 : Int) < (m : Int) := by omega
      have HM := Lib.hid hm2
      have HLC := Lib.hid (lenCell_of q0)
      have hnext := goes_next hg
      have hp1 : posD D k < posD D (k + 1) := by
        rw [posD]; have := lenD_pos (dropD D (posD D k)); omega
      have SG := Lib.hid (sentry_go w D n k _ _ (w.heap.size + 1 + 1) _ HJ.out.br HJ.out.bl (by omega) HJ.out.eb HJ.out.own hD hg)
      clear hg hpos hm2 hbr
      go_wp2_with fail
      refine SG.out.mono ?_; rintro _ w5 ⟨rfl, lv5, rv5, hl5, he5, ho5, hb5⟩
      have L5 := Lib.hid (HJ.out.on hb5 hl5 he5 ho5)
      clear hl5 he5 ho5 hb5 SG q0 q1
      go_wp2_with fail
      go_roundw
      case rel => exact ⟨k + 1, _, _, by omega, L5⟩
      case measure =>
        rw [HLC.out]
        obtain ⟨p6, c6, e6, _, _⟩ := L5.out.br.slice
        have h6 := L5.out.eb.c0
        rw [e6] at h6
        rw [lenCell_of h6]
        have := HM.out
        omega
    · subst heq
      have hz : m = 0 := by have := HS.out; omega
      have HJ1 := Lib.hid (And.intro HJ.out.bl (And.intro HJ.out.own (And.intro HJ.out.ha HJ.out.hb)))
      have u0 := rowc HJ.out.ha (i := 0) _ rfl
      have u1 := rowc HJ.out.ha (i := 1) _ rfl
      have u2 := rowc HJ.out.ha (i := 2) _ rfl
      have u3 := rowc HJ.out.ha (i := 3) _ rfl
      have u4 := rowc HJ.out.hb (i := 0) _ rfl
      have uf : ∀ i, wr.frozen? ⟨w.heap.size, i, none⟩ = false := fun i => frozen_of_row _ _ _ _ _ HJ.out.ha
      have ug : ∀ i, wr.frozen? ⟨w.heap.size + 1, i, none⟩ = false := fun i => frozen_of_row _ _ _ _ _ HJ.out.hb
      clear HJ hbr hm2 hle
      subst hz
      go_wp2_with fail
      refine leaves_cons (f := 13) (args := #[.pointer (some ⟨w.heap.size, 0, none⟩), .pointer (some ⟨w.heap.size + 1, 0, none⟩)]) (by simp) (by simp [go_sem]) ?_
      refine (catch_idle ⟨w.heap.size, 0, none⟩ ⟨w.heap.size + 1, 0, none⟩ _).mono ?_
      rintro e u' w9 ⟨rfl, rfl, rfl⟩
      show Leaves _ _ _ _ [] .returning _
      refine ⟨.tuple #[.agg #[.int .i64 T, .int .i64 S, .int .u64 Kc, .slice p2 k c2], .int .i64 0], by simp [results, Try.results6, go_sem, u0, u1, u2, u3, u4, q0, q1], ?_⟩
      rw [HQ.out]
      refine ⟨_, rfl, ?_, ?_⟩
      · have hl : w.heap.size < w.heap.size + 1 + 1 + 1 := by omega
        have hl2 : w.heap.size + 1 < w.heap.size + 1 + 1 + 1 := by omega
        exact own_ER (ownsRow_setCell_below (ownsRow_setCell_below (ownsRow_setCell_below (ownsRow_setCell_below (ownsRow_setCell_below (ownsRow_setCell_below HJ1.out.2.1 (a := ⟨w.heap.size, 3, none⟩) hl _) (a := ⟨w.heap.size, 0, none⟩) hl _) (a := ⟨w.heap.size, 1, none⟩) hl _) (a := ⟨w.heap.size, 2, none⟩) hl _) (a := ⟨w.heap.size, 3, none⟩) hl _) (a := ⟨w.heap.size + 1, 0, none⟩) hl2 _)
      · exact ble (ble (ble (ble (ble (ble HJ1.out.1 (Nat.le_refl _) _) (Nat.le_refl _) _) (Nat.le_refl _) _) (Nat.le_refl _) _) (Nat.le_refl _) _) (Nat.le_succ _) _
/-- Take, whatever the bytes are. -/
theorem stake (D : Nat → Int) (n : Nat) (v : Value) (w : World) (hL : BR w v n D) (hD : BY D) (T S Kc : Int) (cnt : Nat) (e : Int) (h : TakeR D n T S Kc cnt e) :
    Calls Try.prog 6 #[v] w fun E w' => ∃ sl, E = .returned (.tuple #[.agg #[.int .i64 T, .int .i64 S, .int .u64 Kc, sl], .int .i64 e]) ∧ ER w' sl cnt (entAt D) ∧ Below w.heap.size w w' := by
  rcases h with ⟨h, rfl, rfl, rfl, rfl, rfl⟩ | ⟨h, hm, rfl, rfl, rfl, rfl, rfl⟩ | ⟨h, hm, K, h1, h2, ⟨rfl, rfl, rfl, rfl, rfl⟩ | ⟨he, rfl, rfl, rfl, rfl⟩⟩
  · exact stake_fail D n v w hL hD 5 (.inl ⟨h, rfl⟩)
  · exact stake_fail D n v w hL hD 2 (.inr ⟨h, hm, rfl⟩)
  · refine stake_ok D n v w hL hD _ h hm h1 ?_
    rcases h2 with ⟨h3, _⟩ | ⟨_, _, h3⟩ | ⟨_, _, _, h3⟩ | ⟨_, _, _, _, _, h3⟩
    · exact h3
    · exact absurd h3 (by decide)
    · exact absurd h3 (by decide)
    · exact absurd h3 (by decide)
  · exact stake_bad D n v w hL hD K e h hm h1 h2 he
end Go.Proofs.Ytnikggdnlijkkaa
