/- Layer 42: Without, of any numbers. -/
import Derived.Test.YtaammkmnhhipgaaShrC
namespace Go.Proofs.Ytaammkmnhhipgaa
open Go.RowKit
set_option linter.unusedVariables false
set_option linter.unusedSimpArgs false
set_option maxHeartbeats 1000000 in
theorem swithB (T S K f f' m : Int) (l : List Ent) (v : Value) (w : World) (h : EL w v l) (hn : l.length ≤ 100000)
    (hf : (f < 0 ∧ f' = 0) ∨ (0 ≤ f ∧ f = f')) (hc : m < 1 ∨ (1 ≤ m ∧ (l.length : Int) ≤ f')) :
    Calls Try.prog 11 #[.agg #[.int .i64 T, .int .i64 S, .int .u64 K, v], .int .i64 f, .int .i64 m] w fun e w' => ∃ v', e = .returned (.agg #[.int .i64 T, .int .i64 S, .int .u64 K, v']) ∧ OwnL w' w.heap.size v' l ∧ Below w.heap.size w w' := by
  refine Calls.veil fun Q HQ => ?_
  have HE := Lib.hid h
  obtain ⟨p, c, rfl, a1, a2⟩ := h.slice
  clear h
  go_enter Try.func11, Try.ntmps11
  go_upto_region 1 with fail
  go_cut [1] from 9 (fun v1 V => v1 = .int .i64 f' ∧ V = ((w.alloc (.cells #[.int .i64 T, .int .i64 S, .int .u64 K, .slice p l.length c] 27)).alloc (.cells #[.int .i64 0, .int .i64 0, .int .u64 0, .slice none 0 0] 27)))
  case first =>
    rcases hf with ⟨hf, rfl⟩ | ⟨hf, rfl⟩
    all_goals
      go_wp2_with fail
      all_goals go_meet
      all_goals (case rel => exact ⟨by first | rfl | go_num, rfl⟩)
  case rest =>
  obtain ⟨rfl, rfl⟩ := hcut
  clear hf
  generalize hV : World.alloc (World.alloc w _) _ = V
  have hs : V.heap.size = w.heap.size + 2 := by rw [← hV]; simp
  have HB := Lib.hid (show Below w.heap.size w V by rw [← hV]; (repeat (first | exact Below.refl _ _ | assumption | refine below_new ?_ _ | refine Below.drew ?_ | refine below_drewN ?_ _ | refine below_on ?_ (by assumption))))
  have HEV := Lib.hid (HE.out.below HB.out)
  have hv1 : V.heap[w.heap.size + 1]? = some (.cells #[.int .i64 0, .int .i64 0, .int .u64 0, .slice none 0 0] 27 (0, 0)) := by
    rw [← hV]; exact (by simp : (w.alloc (.cells #[.int .i64 T, .int .i64 S, .int .u64 K, .slice p l.length c] 27)).heap.size = w.heap.size + 1) ▸ heap_alloc_new (w.alloc (.cells #[.int .i64 T, .int .i64 S, .int .u64 K, .slice p l.length c] 27)) _
  have z0 : V.cell? ⟨w.heap.size, 0, none⟩ = some (.int .i64 T) := Ext.made1 hV 0 _ rfl ⟨V, Below.refl _ _⟩
  have z1 : V.cell? ⟨w.heap.size, 1, none⟩ = some (.int .i64 S) := Ext.made1 hV 1 _ rfl ⟨V, Below.refl _ _⟩
  have z2 : V.cell? ⟨w.heap.size, 2, none⟩ = some (.int .u64 K) := Ext.made1 hV 2 _ rfl ⟨V, Below.refl _ _⟩
  have z3 : V.cell? ⟨w.heap.size, 3, none⟩ = some (.slice p l.length c) := Ext.made1 hV 3 _ rfl ⟨V, Below.refl _ _⟩
  clear hV
  have HS := Lib.hid hs
  have HV1 := Lib.hid hv1
  clear hs hv1
  rcases hc with hc | ⟨hc, hd⟩
  all_goals
    go_wp2_with fail
    refine (scopied T S K l _ V HEV.out (by omega)).mono ?_; rintro _ w2 ⟨v', rfl, hE, hb2⟩
    have hh : w2.heap[w.heap.size + 1]? = some (.cells #[.int .i64 0, .int .i64 0, .int .u64 0, .slice none 0 0] 27 (0, 0)) := by rw [hb2.block _ (by have := HS.out; omega)]; exact HV1.out
    have f0 : w2.cell? ⟨w.heap.size + 1, 0, none⟩ = some (.int .i64 0) := by rw [cell_of_row _ _ _ _ _ (0, 0) hh]; rfl
    have f1 : w2.cell? ⟨w.heap.size + 1, 1, none⟩ = some (.int .i64 0) := by rw [cell_of_row _ _ _ _ _ (0, 0) hh]; rfl
    have f2 : w2.cell? ⟨w.heap.size + 1, 2, none⟩ = some (.int .u64 0) := by rw [cell_of_row _ _ _ _ _ (0, 0) hh]; rfl
    have f3 : w2.cell? ⟨w.heap.size + 1, 3, none⟩ = some (.slice none 0 0) := by rw [cell_of_row _ _ _ _ _ (0, 0) hh]; rfl
    have ff : ∀ i, w2.frozen? ⟨w.heap.size + 1, i, none⟩ = false := fun i => frozen_of_row _ _ _ _ _ hh
    have HB2 := Lib.hid hb2
    obtain ⟨p', c', rfl, _, _⟩ := own_slice hE
    have HE2 := Lib.hid hE
    clear hE hb2 hh z0 z1 z2 z3
    go_wp2_with fail
    generalize hU : World.setCell _ _ _ = U
    have hBU : Below w.heap.size w U := by
      rw [← hU]
      have hs := HS.out
      exact HB.out.trans ((((((Kx.refl (w.heap.size + 1) V).below HB2.out).set 0 _).set 1 _).set 2 _ |>.set 3 _).to (by omega) (by omega))
    have hEU : OwnL U V.heap.size (.slice p' l.length c') l := by
      have hs := HS.out
      rw [← hU]
      exact own_kx HE2.out (b := w.heap.size + 1) (by omega) (((((Kx.refl (w.heap.size + 1) w2).set 0 _).set 1 _).set 2 _).set 3 _)
    have g0 : U.cell? ⟨w.heap.size + 1, 0, none⟩ = some (.int .i64 T) := by subst hU; go_simp
    have g1 : U.cell? ⟨w.heap.size + 1, 1, none⟩ = some (.int .i64 S) := by subst hU; go_simp
    have g2 : U.cell? ⟨w.heap.size + 1, 2, none⟩ = some (.int .u64 K) := by subst hU; go_simp
    have g3 : U.cell? ⟨w.heap.size + 1, 3, none⟩ = some (.slice p' l.length c') := by subst hU; go_simp
    clear hU f0 f1 f2 f3 ff
    have HBU := Lib.hid hBU; have HEU := Lib.hid (own_low7 hEU (by show w.heap.size ≤ V.heap.size; have := HS.out; omega))
    clear hBU hEU
    refine bodyPost_ret (v := .agg #[.int .i64 T, .int .i64 S, .int .u64 K, .slice p' l.length c']) (by simp [results, Try.results11, go_sem, g0, g1, g2, g3]) rfl ?_
    rw [HQ.out]
    exact ⟨_, rfl, HEU.out, HBU.out⟩
/-- A list without some. -/
def wo (l : List Ent) (f m : Int) : List Ent := l.take f.toNat ++ l.drop (f.toNat + m.toNat)
theorem wo_len (l : List Ent) (f m : Int) : (wo l f m).length ≤ l.length := by
  unfold wo
  rw [List.length_append, List.length_take, List.length_drop]; omega
theorem wo_sub (l : List Ent) (f m : Int) : List.Sublist (wo l f m) l := by
  unfold wo
  have h : List.Sublist (l.take f.toNat ++ l.drop (f.toNat + m.toNat)) (l.take f.toNat ++ l.drop f.toNat) := by
    refine List.Sublist.append (List.Sublist.refl _) ?_
    rw [← List.drop_drop]
    exact List.drop_sublist _ _
  rwa [List.take_append_drop] at h
theorem swithout (T S K f m : Int) (l : List Ent) (v : Value) (w : World) (h : EL w v l) (hn : l.length ≤ 100000) :
    Calls Try.prog 11 #[.agg #[.int .i64 T, .int .i64 S, .int .u64 K, v], .int .i64 f, .int .i64 m] w fun e w' => ∃ v', e = .returned (.agg #[.int .i64 T, .int .i64 S, .int .u64 K, v']) ∧ OwnL w' w.heap.size v' (wo l f m) ∧ Below w.heap.size w w' := by
  by_cases hm : m < 1
  · have e : wo l f m = l := by
      unfold wo
      rw [show f.toNat + m.toNat = f.toNat by omega, List.take_append_drop]
    rw [e]
    by_cases hf : f < 0
    · exact swithB T S K f 0 m l v w h hn (.inl ⟨hf, rfl⟩) (.inl hm)
    · exact swithB T S K f f m l v w h hn (.inr ⟨by omega, rfl⟩) (.inl hm)
  · by_cases hl : (l.length : Int) ≤ f ∨ l.length = 0
    · have e : wo l f m = l := by
        unfold wo
        rw [List.take_of_length_le (by omega), List.drop_eq_nil_of_le (by omega), List.append_nil]
      rw [e]
      by_cases hf : f < 0
      · exact swithB T S K f 0 m l v w h hn (.inl ⟨hf, rfl⟩) (.inr ⟨by omega, by omega⟩)
      · exact swithB T S K f f m l v w h hn (.inr ⟨by omega, rfl⟩) (.inr ⟨by omega, by omega⟩)
    · obtain ⟨p, c, rfl, a1, a2⟩ := h.slice
      have hk : (f < 0 ∧ f.toNat = 0) ∨ f = (f.toNat : Int) := by omega
      by_cases hq : f.toNat + m.toNat ≤ l.length
      · exact swithC T S K f m f.toNat m.toNat l p c w h a1 a2 hn (by omega) hk (by omega) (.inl ⟨by omega, hq⟩)
      · have e : wo l f m = l.take f.toNat ++ l.drop (f.toNat + (l.length - f.toNat)) := by
          unfold wo
          rw [List.drop_eq_nil_of_le (by omega), List.drop_eq_nil_of_le (by omega)]
        rw [e]
        exact swithC T S K f m f.toNat (l.length - f.toNat) l p c w h a1 a2 hn (by omega) hk (by omega) (.inr ⟨by omega, by omega⟩)
end Go.Proofs.Ytaammkmnhhipgaa
