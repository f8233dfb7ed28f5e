/- Layer 7: the reference's Take, Drop, New. -/
import Derived.Test.YtkkdehniheajeaaGrdH
import Derived.Deep.RegionWith
namespace Go.Proofs.Ytkkdehniheajeaa.Gd
open Go.RowKit Go.Maps WordM EdgeM
set_option linter.unusedVariables false
set_option linter.unusedSimpArgs false
theorem SR.setOther {w : World} {b n : Nat} {H : Nat → Bool} {G : Nat → Int} (h : SR w b n H G) {k i : Nat} (hb : b ≠ k) (v : Value) : SR (w.setCell ⟨k, i, none⟩ v) b n H G := fun j hj => by
  obtain ⟨h0, h1⟩ := h j hj
  exact ⟨(World.cell?_of_block (Below.heap_setCell _ _ _ _ hb)).trans h0, (World.cell?_of_block (Below.heap_setCell _ _ _ _ hb)).trans h1⟩
theorem below_setC {B : Nat} {w W : World} (h : Below B w W) {b i : Nat} (hb : B ≤ b) (v : Value) : Below B w (W.setCell ⟨b, i, none⟩ v) := h.setCell (p := ⟨b, i, none⟩) hb v
def RPost (w : World) (b n : Nat) (H' : Nat → Bool) (G' : Nat → Int) (s' : Int) (t : Bool) (e : Ending) (w' : World) : Prop :=
  ∃ b' c', e = .returned (.tuple #[xV b' n c' s', .bool t]) ∧ SR w' b' n H' G' ∧ n ≤ c' ∧ c' ≤ 9223372036854775807 ∧ (b' = b ∨ w.heap.size ≤ b') ∧ Below w.heap.size w w'
set_option maxRecDepth 16000 in
set_option maxHeartbeats 4000000 in
theorem rtake {w : World} {b n c : Nat} {H : Nat → Bool} {G : Nat → Int} (s : Int) (h : SR w b n H G) (hn : n ≤ 250) (h0 : 0 < n) (hc : n ≤ c) (hc2 : c ≤ 9223372036854775807) (hs0 : 0 ≤ s) (hs : s < 1000000) (slot : Int) :
    Calls Try.prog 57 #[xV b n c s, .int .i64 slot] w (RPost w b n (takeH n H slot) G (if canT n H slot = true then s else s + 1) (canT n H slot)) := by
  refine Calls.veil fun Q HQ => ?_
  have HS := Lib.hid h
  have HL := Lib.hid (World.block_lt_of_cell? w ⟨b, 0 * 2, none⟩ (h 0 h0).1)
  clear h
  unfold xV
  go_enter Try.func57, Try.ntmps57
  go_upto_region 1 with fail
  generalize hU : World.alloc _ _ = U
  have hBU : Below w.heap.size w U := by rw [← hU]; (repeat (first | exact Below.refl _ _ | assumption | refine below_new ?_ _ | refine Below.drew ?_ | refine below_drewN ?_ _ | refine below_on ?_ (by assumption)))
  have hz : U.heap.size = w.heap.size + 1 + 1 := by rw [← hU]; simp
  have e1 : (w.alloc (.cells #[.slice (some ⟨b, 0, none⟩) n c, .int .i64 s] 49)).heap.size = w.heap.size + 1 := by simp
  have b1 : Below (w.heap.size + 1) (w.alloc (.cells #[.slice (some ⟨b, 0, none⟩) n c, .int .i64 s] 49)) U := by
    rw [← hU, ← e1]; (repeat (first | exact Below.refl _ _ | assumption | refine below_new ?_ _ | refine Below.drew ?_ | refine below_drewN ?_ _ | refine below_on ?_ (by assumption)))
  have z0 : U.cell? ⟨w.heap.size, 0, none⟩ = some (.slice (some ⟨b, 0, none⟩) n c) := Ext.made_in rfl (by rw [e1]; exact b1) 0 _ rfl
  have z1 : U.cell? ⟨w.heap.size, 1, none⟩ = some (.int .i64 s) := Ext.made_in rfl (by rw [e1]; exact b1) 1 _ rfl
  have zf : ∀ i, U.frozen? ⟨w.heap.size, i, none⟩ = false := Ext.made_fr rfl (by rw [e1]; exact b1)
  have q0 : U.cell? ⟨w.heap.size + 1, 0, none⟩ = some (.slice none 0 0) := by rw [← e1]; exact Ext.made_in hU (Below.refl _ _) 0 _ rfl
  have q1 : U.cell? ⟨w.heap.size + 1, 1, none⟩ = some (.int .i64 0) := by rw [← e1]; exact Ext.made_in hU (Below.refl _ _) 1 _ rfl
  have qf : ∀ i, U.frozen? ⟨w.heap.size + 1, i, none⟩ = false := by rw [← e1]; exact Ext.made_fr hU (Below.refl _ _)
  have HSU := Lib.hid (HS.out.below hBU)
  clear hU b1 e1
  have bB : b ≠ w.heap.size := by have := HL.out; simp at this; omega
  have bB1 : b ≠ w.heap.size + 1 := by have := HL.out; simp at this; omega
  have HBW := Lib.hid hBU
  generalize hB : w.heap.size = B at *
  have HZ := Lib.hid hz
  have HBE := Lib.hid hB
  clear hz hB hBU HL
  rcases (by omega : slot < 1 ∨ (1 ≤ slot ∧ n < slot) ∨ (1 ≤ slot ∧ slot ≤ n)) with q2 | ⟨q2, q3⟩ | ⟨q2, q3⟩
  iterate 2
    case _ =>
      have HC := Lib.hid (show canT n H slot = false by unfold canT; rw [decide_eq_false (by omega)]; rfl)
      go_wp2_with fail
      refine bodyPost_ret (v := .tuple #[.agg #[.slice (some ⟨b, 0, none⟩) n c, .int .i64 (s + 1)], .bool false]) (by simp [results, Try.results57, go_sem, z0, z1, q0, q1, World.cell?_setCell_same, World.cell?_setCell_other]) rfl ?_
      rw [HQ.out]
      unfold takeH
      simp only [HC.out, Bool.false_eq_true, if_false]
      refine ⟨b, c, rfl, ?_, hc, hc2, .inl rfl, ?_⟩
      · repeat' (first | with_reducible exact HSU.out | with_reducible refine SR.setOther ?_ bB _ | with_reducible refine SR.setOther ?_ bB1 _)
      · rw [HBE.out]
        repeat' (first | with_reducible exact HBW.out | with_reducible refine below_setC ?_ (Nat.le_refl _) _ | with_reducible refine below_setC ?_ (Nat.le_succ _) _)
  obtain ⟨i, hi⟩ : ∃ i : Nat, slot = i + 1 := ⟨slot.toNat - 1, by omega⟩
  subst hi
  have hin : i < n := by omega
  have hii : (i : Int) < n := by omega
  have HI := Lib.hid (show ((i : Int) + 1).toNat - 1 = i by omega)
  have HD := Lib.hid (show decide (1 ≤ (i : Int) + 1 ∧ (i : Int) + 1 ≤ n) = true from decide_eq_true ⟨q2, q3⟩)
  have q4 : ¬ (i : Int) + 1 < 1 := by omega
  have q5 : ¬ (n : Int) < i + 1 := by omega
  have x0 := (HSU.out i hin).1
  have HHH := Lib.hid (show H i = H i from rfl)
  clear q2 q3
  cases hh : H i with
  | true =>
    rw [hh] at x0
    have HC := Lib.hid (show canT n H ((i : Int) + 1) = false by unfold canT; rw [HD.out, HI.out, hh]; rfl)
    clear hh
    go_wp2_with fail
    refine bodyPost_ret (v := .tuple #[.agg #[.slice (some ⟨b, 0, none⟩) n c, .int .i64 (s + 1)], .bool false]) (by simp [results, Try.results57, go_sem, z0, z1, q0, q1, World.cell?_setCell_same, World.cell?_setCell_other]) rfl ?_
    rw [HQ.out]
    unfold takeH
    simp only [HC.out, Bool.false_eq_true, if_false]
    refine ⟨b, c, rfl, ?_, hc, hc2, .inl rfl, ?_⟩
    · repeat' (first | with_reducible exact HSU.out | with_reducible refine SR.setOther ?_ bB _ | with_reducible refine SR.setOther ?_ bB1 _)
    · rw [HBE.out]
      repeat' (first | with_reducible exact HBW.out | with_reducible refine below_setC ?_ (Nat.le_refl _) _ | with_reducible refine below_setC ?_ (Nat.le_succ _) _)
  | false =>
    rw [hh] at x0
    have HC := Lib.hid (show canT n H ((i : Int) + 1) = true by unfold canT; rw [HD.out, HI.out, hh]; rfl)
    clear hh
    go_upto_region 4 with fail
    have z0a := Ext.on z0
    have z0 := Ext.cells z0; have z1 := Ext.cells z1; have q0 := Ext.cells q0; have q1 := Ext.cells q1
    go_wp2_with (at_builtin; refine wpList_append_s rfl (.tmp 30) (.tmp 32) rfl U rfl rfl b n c H G rfl (HSU.out.below ((Below.refl _ _).alloc (Nat.le_refl _) _)) hn h0 ?_)
    intro b' c' w1 hSB hnc hcc hge hb
    have z0 := Ext.use z0 hb; have z1 := Ext.use z1 hb; have q0 := Ext.use q0 hb; have q1 := Ext.use q1 hb
    have zf : ∀ i, w1.frozen? ⟨B, i, none⟩ = false := fun i => (hb.frozen (p := ⟨B, i, none⟩) (by have := HZ.out; simp; omega)).trans (zf i)
    have qf : ∀ i, w1.frozen? ⟨B + 1, i, none⟩ = false := fun i => (hb.frozen (p := ⟨B + 1, i, none⟩) (by have := HZ.out; simp; omega)).trans (qf i)
    have ff : ∀ k, w1.frozen? ⟨b', k, none⟩ = false := hSB.free
    have x0 := (hSB.read i hin).1
    have b'B : b' ≠ B := by have := HZ.out; omega
    have b'B1 : b' ≠ B + 1 := by have := HZ.out; omega
    have HBw1 := Lib.hid (show Below B w w1 from HBW.out.trans (hb.mono (by have := HZ.out; omega)))
    have HSN := Lib.hid ((hSB.setH hin true).read)
    have HGE := Lib.hid (show B ≤ b' by have := HZ.out; omega)
    have Bb' := b'B.symm; have B1b' := b'B1.symm
    clear hb hSB hge z0a
    go_wp2_with fail
    refine bodyPost_ret (v := .tuple #[.agg #[.slice (some ⟨b', 0, none⟩) n c', .int .i64 s], .bool true]) (by simp [results, Try.results57, go_sem, z0, z1, q0, q1, World.cell?_setCell_same, World.cell?_setCell_other, b'B, b'B1, Bb', B1b']) rfl ?_
    rw [HQ.out]
    unfold takeH
    rw [HC.out, if_pos rfl, if_pos rfl, HI.out]
    refine ⟨b', c', rfl, ?_, hnc, hcc, .inr (by rw [HBE.out]; exact HGE.out), ?_⟩
    · repeat' (first | with_reducible exact HSN.out | with_reducible refine SR.setOther ?_ b'B _ | with_reducible refine SR.setOther ?_ b'B1 _)
    · rw [HBE.out]
      repeat' (first | with_reducible exact HBw1.out | with_reducible refine below_setC ?_ (Nat.le_refl _) _ | with_reducible refine below_setC ?_ (Nat.le_succ _) _ | with_reducible refine below_setC ?_ HGE.out _)
end Go.Proofs.Ytkkdehniheajeaa.Gd
