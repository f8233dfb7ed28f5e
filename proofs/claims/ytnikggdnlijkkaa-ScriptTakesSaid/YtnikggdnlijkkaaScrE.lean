/- Layer 14: bytes as rows; put. -/
import Derived.Test.YtnikggdnlijkkaaScrA
import Derived.Test.YtnikggdnlijkkaaWordA
import Derived.Test.YtnikggdnlijkkaaPlanA
namespace Go.Proofs.Ytnikggdnlijkkaa
open Go.RowKit WordM
set_option linter.unusedVariables false
set_option linter.unusedSimpArgs false
def bcells (xs : List Int) : List Value := xs.map fun x => .int .u8 x
theorem bcells_len (xs : List Int) : (bcells xs).length = xs.length := by simp [bcells]
theorem bcells_app (a b : List Int) : bcells (a ++ b) = bcells a ++ bcells b := by simp [bcells]
theorem uBL : Try.prog.underlying 22 = some (.slice 5) := by kernel_rfl
theorem infoB : ∃ i, Try.prog.info? 5 = some i ∧ i.zero = some (.int .u8 0) ∧ i.size = 1 ∧ i.bytes = 1 := by
  have h : (Try.prog.info? 5).map (fun i => (i.zero, i.size, i.bytes)) = some (some (.int .u8 0), 1, 1) := by kernel_rfl
  cases h1 : Try.prog.info? 5 with
  | none => rw [h1] at h; cases h
  | some i =>
    rw [h1] at h
    simp only [Option.map_some, Option.some.injEq, Prod.mk.injEq] at h
    exact ⟨i, rfl, h.1, h.2.1, h.2.2⟩
abbrev OwnB (w : World) (B : Nat) (v : Value) (xs : List Int) : Prop := w.ownsRow B 5 1 v xs.length (bcells xs)
def byL (x : Int) (m : Nat) : List Int := (List.range m).map fun j : Nat => fieldI x ((j : Int) * 8) 8
theorem byL_succ (x : Int) (m : Nat) : byL x (m + 1) = byL x m ++ [fieldI x ((m : Int) * 8) 8] := by simp [byL, List.range_succ]
theorem byL_len (x : Int) (m : Nat) : (byL x m).length = m := by simp [byL]
theorem fieldI_byte (x a : Int) : 0 ≤ fieldI x a 8 ∧ fieldI x a 8 ≤ 255 := by
  unfold fieldI
  split
  · have : fld x.toNat a.toNat (8 : Int).toNat < 2 ^ 8 := Nat.mod_lt _ (by decide)
    omega
  · omega
set_option maxHeartbeats 2000000 in
theorem sput (xs : List Int) (m : Nat) (x : Int) (v : Value) (w : World) (B : Nat) (hown : OwnB w B v xs) (hB : B ≤ w.heap.size) (hm : m ≤ 8) (x1 : 0 ≤ x) (x2 : x < 18446744073709551616) (hxs : xs.length ≤ 1000) :
    Calls Try.prog 19 #[v, .int .i64 m, .int .u64 x] w fun e w' => ∃ v', e = .returned v' ∧ OwnB w' B v' (xs ++ byL x m) ∧ Below B w w' := by
  obtain ⟨i0, hi, hz0, hz1, hz2⟩ := infoB
  refine Calls.veil fun Q HQ => ?_
  go_enter Try.func19, Try.ntmps19
  go_wp2_with fail
  have HO := Lib.hid hown
  clear hown
  go_loopw [0, 9] (fun ov iv wr => ∃ i : Nat, i ≤ m ∧ iv = .int .i64 i ∧ Hid (OwnB wr B ov (xs ++ byL x i)) ∧ Below B w wr)
    (fun _ iv _ => m - (intOf iv).toNat)
  case atStart => exact ⟨0, by omega, rfl, by simpa [byL] using HO, Below.refl _ _⟩
  case round =>
    obtain ⟨i, hi', rfl, HJ, hbx⟩ := hrel
    have HX := Lib.hid hbx
    clear hbx
    rcases (by omega : i < m ∨ i = m) with hlt | heq
    · go_wp2_with fail
      refine (field_calls x _ 8 _ x1 x2).mono ?_; rintro _ _ ⟨rfl, rfl⟩
      have HL := Lib.hid (show (xs ++ byL x i).length ≤ 1008 by rw [List.length_append, byL_len]; omega)
      have HY := Lib.hid (byL_succ x i)
      obtain ⟨y1, y2⟩ := fieldI_byte x ((i : Int) * 8)
      generalize hy : fieldI x ((i : Int) * 8) 8 = y at *
      clear hy
      go_wp2_with (at_builtin; refine wpList_append_own _ rfl (.tmp 12) (.tmp 18) 22 rfl B 5 i0 _ 1 1 uBL hi hz0 hz1 hz2 rfl (by decide) _ _ _ rfl (HJ.out.alloc _) ⟨wr.heap.size, 0, none⟩ 1 1 [.int .u8 y] rfl rfl (fun q u hq => by
        have : q = 0 := by have := (List.getElem?_eq_some_iff.1 hq).1; simpa using this
        subst this
        simp at hq; subst hq
        exact Ext.made_in rfl (Below.refl _ _) 0 _ rfl) (by intro u hu; simp at hu; subst hu; rfl) (by unfold maxLen; have := HL.out; omega) (by have := HL.out; omega) (by have := HX.out.size; simp; omega) ?_)
      intro v1 w1 hown hg _
      have hb := grow_stepE (W := w) (HJ.out.alloc _) (HX.out.alloc (by have := HX.out.size; omega) _) hB hg
      have HJ1 : Hid (OwnB w1 B v1 (xs ++ byL x (i + 1))) := by
        rw [HY.out, ← List.append_assoc]
        unfold OwnB
        rw [bcells_app]
        have e : ((xs ++ byL x i) ++ [y]).length = (xs.length + (byL x i).length) + 1 := by simp; omega
        rw [e]
        first | exact Lib.hid hown | (rw [List.length_append] at hown; exact Lib.hid hown)
      clear hown hg
      go_wp2_with fail
      go_roundw
      case rel => exact ⟨i + 1, by omega, by go_num, HJ1, hb⟩
      case measure => simp [intOf]; omega
    · have HE := Lib.hid heq
      have hge : m ≤ i := by omega
      have HFIN := HJ.out
      rw [heq] at HFIN
      have HFIN := Lib.hid HFIN
      clear heq
      go_wp2_with fail
      (try go_ret)
      rw [HQ.out]
      exact ⟨_, rfl, HFIN.out, HX.out⟩
end Go.Proofs.Ytnikggdnlijkkaa
