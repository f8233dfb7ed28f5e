/- Layer 42: the reference's Without; parts. -/
import Derived.Test.YtaammkmnhhipgaaShrD
namespace Go.Proofs.Ytaammkmnhhipgaa
open Go.RowKit
set_option linter.unusedVariables false
set_option linter.unusedSimpArgs false
theorem take_snoc (l : List Ent) (i : Nat) (hi : i < l.length) : l.take (i + 1) = l.take i ++ [fn l i] := by
  rw [List.take_add_one, fn_lt hi]; rfl
theorem wo_succ (l : List Ent) (f m : Int) (i : Nat) (hi : i < l.length) : wo (l.take (i + 1)) f m = wo (l.take i) f m ++ (if i < f.toNat ∨ f.toNat + m.toNat ≤ i then [fn l i] else []) := by
  have hl : (l.take i).length = i := by rw [List.length_take]; omega
  rw [take_snoc l i hi]
  generalize l.take i = a at *
  generalize fn l i = x
  subst hl
  unfold wo
  generalize f.toNat = p
  generalize m.toNat = q
  rcases (by omega : a.length < p ∨ (p ≤ a.length ∧ a.length < p + q) ∨ (p ≤ a.length ∧ p + q ≤ a.length)) with h | ⟨h, h2⟩ | ⟨h, h2⟩
  · rw [if_pos (.inl h), List.take_of_length_le (by simp; omega), List.take_of_length_le (by omega), List.drop_eq_nil_of_le (by simp; omega), List.drop_eq_nil_of_le (by omega)]
    simp
  · rw [if_neg (by omega), List.take_append_of_le_length h, List.drop_eq_nil_of_le (by simp; omega), List.drop_eq_nil_of_le (by omega)]
    simp
  · rw [if_pos (.inr h2), List.take_append_of_le_length h, List.drop_append_of_le_length h2, List.append_assoc]
set_option maxHeartbeats 2000000 in
theorem rwithN (f f' m : Int) (l : List Ent) (v : Value) (w : World) (h : EL w v l) (hn : l.length ≤ 100000) (hf : (f < 0 ∧ f' = 0) ∨ (0 ≤ f ∧ f = f')) :
    Calls Try.prog 12 #[v, .int .i64 f, .int .i64 m] w fun e w' => ∃ v', e = .returned v' ∧ OwnL w' w.heap.size v' (wo l f m) ∧ Below w.heap.size w w' := by
  refine Calls.veil fun Q HQ => ?_
  obtain ⟨p, c, rfl, a1, a2, A3⟩ := h.parts
  clear h
  have hf0 : 0 ≤ f' := by omega
  have HF := Lib.hid (show f.toNat = f'.toNat by omega)
  rcases hf with ⟨hf, hf'⟩ | ⟨hf, hf'⟩
  · subst hf'
    go_enter Try.func12, Try.ntmps12
    go_wp2_with fail
    go_loopw [7, 8] (fun ov iv wr => ∃ i : Nat, i ≤ l.length ∧ iv = .int .i64 i ∧ Hid (OwnL wr w.heap.size ov (wo (l.take i) f m)) ∧ Below w.heap.size w wr)
      (fun _ iv _ => l.length - (intOf iv).toNat)
    case atStart => exact ⟨0, by omega, rfl, by first | exact Lib.hid (own_nil7 _ _) | (simp [wo]; exact Lib.hid (own_nil7 _ _)), Below.refl _ _⟩
    case round =>
      obtain ⟨i, hi, rfl, HJ, hbx⟩ := hrel
      have HX := Lib.hid hbx
      rcases (by omega : i < l.length ∨ i = l.length) with hlt | heq
      · obtain ⟨g, o, rfl, hA⟩ := A3.out (by omega)
        have hA := (hA.below hbx).cells i hlt
        clear hbx
        have HS := Lib.hid (wo_succ l f m i hlt)
        have HLN := Lib.hid (show (wo (l.take i) f m).length ≤ 100000 by have := wo_len (l.take i) f m; rw [List.length_take] at this; omega)
        have HC := Lib.hid (show (i < f.toNat ∨ f.toNat + m.toNat ≤ i) ↔ ((i : Int) < (0 : Int) ∨ m ≤ (i : Int) - (0 : Int)) by have := HF.out; omega)
        generalize fn l i = e at hA HS
        obtain ⟨l2, hl2⟩ : ∃ l2, l2 = wo (l.take (i + 1)) f m := ⟨_, rfl⟩
        rw [← hl2] at HS
        have HL2 := Lib.hid hl2
        clear hl2
        by_cases hc : (i : Int) < (0 : Int) ∨ m ≤ (i : Int) - (0 : Int)
        · have HS2 := Lib.hid (show l2 = wo (l.take i) f m ++ [e] by rw [HS.out, if_pos (HC.out.2 hc)])
          clear HS HC
          obtain ⟨th, bg, op, key, val, hi2, lim⟩ := e
          simp only at hA
          obtain ⟨x0, x1, x2, x3, x4, x5, x6⟩ := hA
          have hd2 : m ≤ (i : Int) := by omega
          all_goals
            clear hc
            go_wp2_with (at_builtin; refine wpList_append_e1 rfl _ _ rfl w.heap.size _ _ ⟨th, bg, op, key, val, hi2, lim⟩ rfl (World.ownsRow.alloc HJ.out _) ⟨wr.heap.size, 0, none⟩ 1 rfl (fun q u hq => by
              rw [addE, Nat.zero_add]
              exact Ext.made_in rfl (Below.refl _ _) q u (by rw [List.getElem?_toArray]; exact hq)) (by have := HLN.out; omega) (by have := HX.out.size; simp; omega) ?_)
            intro v1 w1 hown hg
            have hb := grow_stepE (W := w) (World.ownsRow.alloc HJ.out _) (HX.out.alloc (by have := HX.out.size; omega) _) (Nat.le_refl _) hg
            have HJ1 : Hid (OwnL w1 w.heap.size v1 l2) := by rw [HS2.out]; exact Lib.hid hown
            clear hown hg
            go_wp2_with fail
            go_roundw
            case rel => exact ⟨i + 1, by omega, by go_num, by rw [← HL2.out]; exact HJ1, hb⟩
            case measure => simp [intOf]; omega
        · have HS2 := Lib.hid (show l2 = wo (l.take i) f m by rw [HS.out, if_neg (fun h => hc (HC.out.1 h)), List.append_nil])
          clear HS HC hA
          have hd2 : (i : Int) < m := by omega
          clear hc
          go_wp2_with fail
          go_roundw
          case rel => exact ⟨i + 1, by omega, by go_num, by rw [← HL2.out, HS2.out]; exact HJ, HX.out⟩
          case measure => simp [intOf]; omega
      · have HFIN := HJ.out
        rw [heq, List.take_length] at HFIN
        have HFIN := Lib.hid HFIN
        have hge : l.length ≤ i := by omega
        clear heq hbx
        go_wp2_with fail
        (try go_ret)
        rw [HQ.out]
        exact ⟨_, rfl, HFIN.out, HX.out⟩
  · subst hf'
    clear hf0
    go_enter Try.func12, Try.ntmps12
    go_wp2_with fail
    go_loopw [7, 8] (fun ov iv wr => ∃ i : Nat, i ≤ l.length ∧ iv = .int .i64 i ∧ Hid (OwnL wr w.heap.size ov (wo (l.take i) f m)) ∧ Below w.heap.size w wr)
      (fun _ iv _ => l.length - (intOf iv).toNat)
    case atStart => exact ⟨0, by omega, rfl, by first | exact Lib.hid (own_nil7 _ _) | (simp [wo]; exact Lib.hid (own_nil7 _ _)), Below.refl _ _⟩
    case round =>
      obtain ⟨i, hi, rfl, HJ, hbx⟩ := hrel
      have HX := Lib.hid hbx
      rcases (by omega : i < l.length ∨ i = l.length) with hlt | heq
      · obtain ⟨g, o, rfl, hA⟩ := A3.out (by omega)
        have hA := (hA.below hbx).cells i hlt
        clear hbx
        have HS := Lib.hid (wo_succ l f m i hlt)
        have HLN := Lib.hid (show (wo (l.take i) f m).length ≤ 100000 by have := wo_len (l.take i) f m; rw [List.length_take] at this; omega)
        have HC := Lib.hid (show (i < f.toNat ∨ f.toNat + m.toNat ≤ i) ↔ ((i : Int) < f ∨ m ≤ (i : Int) - f) by have := HF.out; omega)
        generalize fn l i = e at hA HS
        obtain ⟨l2, hl2⟩ : ∃ l2, l2 = wo (l.take (i + 1)) f m := ⟨_, rfl⟩
        rw [← hl2] at HS
        have HL2 := Lib.hid hl2
        clear hl2
        by_cases hc : (i : Int) < f ∨ m ≤ (i : Int) - f
        · have HS2 := Lib.hid (show l2 = wo (l.take i) f m ++ [e] by rw [HS.out, if_pos (HC.out.2 hc)])
          clear HS HC
          obtain ⟨th, bg, op, key, val, hi2, lim⟩ := e
          simp only at hA
          obtain ⟨x0, x1, x2, x3, x4, x5, x6⟩ := hA
          rcases (by omega : (i : Int) < f ∨ (f ≤ (i : Int) ∧ m ≤ (i : Int) - f)) with hd | ⟨hd, hd2⟩
          all_goals
            clear hc
            go_wp2_with (at_builtin; refine wpList_append_e1 rfl _ _ rfl w.heap.size _ _ ⟨th, bg, op, key, val, hi2, lim⟩ rfl (World.ownsRow.alloc HJ.out _) ⟨wr.heap.size, 0, none⟩ 1 rfl (fun q u hq => by
              rw [addE, Nat.zero_add]
              exact Ext.made_in rfl (Below.refl _ _) q u (by rw [List.getElem?_toArray]; exact hq)) (by have := HLN.out; omega) (by have := HX.out.size; simp; omega) ?_)
            intro v1 w1 hown hg
            have hb := grow_stepE (W := w) (World.ownsRow.alloc HJ.out _) (HX.out.alloc (by have := HX.out.size; omega) _) (Nat.le_refl _) hg
            have HJ1 : Hid (OwnL w1 w.heap.size v1 l2) := by rw [HS2.out]; exact Lib.hid hown
            clear hown hg
            go_wp2_with fail
            go_roundw
            case rel => exact ⟨i + 1, by omega, by go_num, by rw [← HL2.out]; exact HJ1, hb⟩
            case measure => simp [intOf]; omega
        · have HS2 := Lib.hid (show l2 = wo (l.take i) f m by rw [HS.out, if_neg (fun h => hc (HC.out.1 h)), List.append_nil])
          clear HS HC hA
          have hd : f ≤ (i : Int) := by omega
          have hd2 : (i : Int) - f < m := by omega
          clear hc
          go_wp2_with fail
          go_roundw
          case rel => exact ⟨i + 1, by omega, by go_num, by rw [← HL2.out, HS2.out]; exact HJ, HX.out⟩
          case measure => simp [intOf]; omega
      · have HFIN := HJ.out
        rw [heq, List.take_length] at HFIN
        have HFIN := Lib.hid HFIN
        have hge : l.length ≤ i := by omega
        clear heq hbx
        go_wp2_with fail
        (try go_ret)
        rw [HQ.out]
        exact ⟨_, rfl, HFIN.out, HX.out⟩
theorem rwithout (f m : Int) (l : List Ent) (v : Value) (w : World) (h : EL w v l) (hn : l.length ≤ 100000) :
    Calls Try.prog 12 #[v, .int .i64 f, .int .i64 m] w fun e w' => ∃ v', e = .returned v' ∧ OwnL w' w.heap.size v' (wo l f m) ∧ Below w.heap.size w w' := by
  by_cases hf : f < 0
  · exact rwithN f 0 m l v w h hn (.inl ⟨hf, rfl⟩)
  · exact rwithN f f m l v w h hn (.inr ⟨by omega, rfl⟩)
end Go.Proofs.Ytaammkmnhhipgaa
