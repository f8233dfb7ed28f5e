/- Words of Ops. -/
import Derived.Test.YtdgplijnhkgeiaaDoorPairA
import Derived.WalkMore
namespace Go.Proofs.YtdgplijnhkgeiaaDoor
open Go.RowKit
set_option linter.unusedVariables false
set_option linter.unusedSimpArgs false
/-- The words, in their order. -/
def wordL : List ByteArray := [(⟨#[105, 110, 115, 101, 114, 116]⟩ : ByteArray), (⟨#[100, 101, 108, 101, 116, 101]⟩ : ByteArray), (⟨#[108, 111, 111, 107, 117, 112]⟩ : ByteArray), (⟨#[114, 97, 110, 103, 101]⟩ : ByteArray), (⟨#[99, 111, 117, 110, 116]⟩ : ByteArray), (⟨#[109, 105, 110]⟩ : ByteArray), (⟨#[109, 97, 120]⟩ : ByteArray), (⟨#[102, 108, 111, 111, 114]⟩ : ByteArray), (⟨#[99, 101, 105, 108, 105, 110, 103]⟩ : ByteArray), (⟨#[111, 112, 101, 110]⟩ : ByteArray), (⟨#[110, 101, 120, 116]⟩ : ByteArray), (⟨#[115, 101, 101, 107]⟩ : ByteArray), (⟨#[99, 108, 111, 115, 101]⟩ : ByteArray), (⟨#[106, 111, 105, 110]⟩ : ByteArray), (⟨#[113, 117, 105, 116]⟩ : ByteArray)]
def wordAt (i : Nat) : ByteArray := wordL.getD i ByteArray.empty
def wordS (op : Int) : ByteArray := if 0 ≤ op ∧ op ≤ 14 then wordAt op.toNat else ByteArray.empty
/-- A slice of the words. -/
structure WordsAt (w : World) (g : Nat) : Prop where
  c : ∀ i, i < 15 → w.cell? ⟨g, i, none⟩ = some (.string (wordAt i))
theorem WordsAt.below {w w' : World} {g : Nat} (h : WordsAt w g) (k : Below w.heap.size w w') : WordsAt w' g := ⟨fun i hi => Ext.cell ⟨w', k⟩ (h.c i hi)⟩
theorem WordsAt.made {w W : World} {T : TypeId} (hW : w.alloc (.cells #[.string (⟨#[105, 110, 115, 101, 114, 116]⟩ : ByteArray), .string (⟨#[100, 101, 108, 101, 116, 101]⟩ : ByteArray), .string (⟨#[108, 111, 111, 107, 117, 112]⟩ : ByteArray), .string (⟨#[114, 97, 110, 103, 101]⟩ : ByteArray), .string (⟨#[99, 111, 117, 110, 116]⟩ : ByteArray), .string (⟨#[109, 105, 110]⟩ : ByteArray), .string (⟨#[109, 97, 120]⟩ : ByteArray), .string (⟨#[102, 108, 111, 111, 114]⟩ : ByteArray), .string (⟨#[99, 101, 105, 108, 105, 110, 103]⟩ : ByteArray), .string (⟨#[111, 112, 101, 110]⟩ : ByteArray), .string (⟨#[110, 101, 120, 116]⟩ : ByteArray), .string (⟨#[115, 101, 101, 107]⟩ : ByteArray), .string (⟨#[99, 108, 111, 115, 101]⟩ : ByteArray), .string (⟨#[106, 111, 105, 110]⟩ : ByteArray), .string (⟨#[113, 117, 105, 116]⟩ : ByteArray)] T) = W) : WordsAt W w.heap.size := ⟨fun i hi => by
  rcases (by omega : i = 0 ∨ i = 1 ∨ i = 2 ∨ i = 3 ∨ i = 4 ∨ i = 5 ∨ i = 6 ∨ i = 7 ∨ i = 8 ∨ i = 9 ∨ i = 10 ∨ i = 11 ∨ i = 12 ∨ i = 13 ∨ i = 14) with rfl | rfl | rfl | rfl | rfl | rfl | rfl | rfl | rfl | rfl | rfl | rfl | rfl | rfl | rfl
  · exact Ext.made_in hW (Below.refl _ _) 0 _ rfl
  · exact Ext.made_in hW (Below.refl _ _) 1 _ rfl
  · exact Ext.made_in hW (Below.refl _ _) 2 _ rfl
  · exact Ext.made_in hW (Below.refl _ _) 3 _ rfl
  · exact Ext.made_in hW (Below.refl _ _) 4 _ rfl
  · exact Ext.made_in hW (Below.refl _ _) 5 _ rfl
  · exact Ext.made_in hW (Below.refl _ _) 6 _ rfl
  · exact Ext.made_in hW (Below.refl _ _) 7 _ rfl
  · exact Ext.made_in hW (Below.refl _ _) 8 _ rfl
  · exact Ext.made_in hW (Below.refl _ _) 9 _ rfl
  · exact Ext.made_in hW (Below.refl _ _) 10 _ rfl
  · exact Ext.made_in hW (Below.refl _ _) 11 _ rfl
  · exact Ext.made_in hW (Below.refl _ _) 12 _ rfl
  · exact Ext.made_in hW (Below.refl _ _) 13 _ rfl
  · exact Ext.made_in hW (Below.refl _ _) 14 _ rfl⟩
theorem cwords (w : World) : Calls Tryd.prog 50 #[] w fun e w' => ∃ g, e = .returned (.slice (some ⟨g, 0, none⟩) 15 15) ∧ WordsAt w' g ∧ Below w.heap.size w w' := by
  refine Calls.veil fun Q HQ => ?_
  go_enter Tryd.func50, Tryd.ntmps50
  go_wp2_with fail
  (try go_ret)
  rw [HQ.out]
  exact ⟨_, rfl, WordsAt.made rfl, by (repeat (first | exact Below.refl _ _ | assumption | refine below_new ?_ _ | refine Below.drew ?_ | refine below_drewN ?_ _ | refine below_on ?_ (by assumption)))⟩
theorem ret_str {a b : ByteArray} (h : a = b) : Ending.returned (.string a) = .returned (.string b) := by rw [h]
set_option maxHeartbeats 1000000 in
theorem cword (op : Int) (w : World) : Calls Tryd.prog 36 #[.int .i64 op] w fun e w' => e = .returned (.string (wordS op)) ∧ Below w.heap.size w w' := by
  refine Calls.veil fun Q HQ => ?_
  rcases (by omega : op < 0 ∨ (0 ≤ op ∧ 15 ≤ op) ∨ (0 ≤ op ∧ op < 15)) with h | ⟨h, h'⟩ | ⟨h, h'⟩
  · have HW : Hid (wordS op = ByteArray.empty) := Lib.hid (if_neg (by omega))
    go_enter Tryd.func36, Tryd.ntmps36
    go_wp2_with fail
    refine (cwords _).mono ?_; rintro _ w1 ⟨g, rfl, hw, hb⟩
    clear hw
    go_wp2_with fail
    (try go_ret)
    rw [HQ.out, HW.out]
    exact ⟨ret_str rfl, hb⟩
  · have HW : Hid (wordS op = ByteArray.empty) := Lib.hid (if_neg (by omega))
    go_enter Tryd.func36, Tryd.ntmps36
    go_wp2_with fail
    refine (cwords _).mono ?_; rintro _ w1 ⟨g, rfl, hw, hb⟩
    clear hw
    go_wp2_with fail
    (try go_ret)
    rw [HQ.out, HW.out]
    exact ⟨ret_str rfl, hb⟩
  · obtain ⟨i, rfl⟩ := Int.eq_ofNat_of_zero_le h
    have HW : Hid (wordS (i : Int) = wordAt i) := Lib.hid (by unfold wordS; rw [if_pos (by omega)]; rfl)
    have hi : i < 15 := by omega
    go_enter Tryd.func36, Tryd.ntmps36
    go_wp2_with fail
    refine (cwords _).mono ?_; rintro _ w1 ⟨g, rfl, hw, hb⟩
    have c0 := hw.c i hi
    clear hw
    go_wp2_with fail
    (try go_ret)
    rw [HQ.out, HW.out]
    exact ⟨ret_str rfl, hb⟩
set_option maxHeartbeats 1000000 in
theorem rword (op : Int) (w : World) : Calls Tryd.prog 22 #[.int .i64 op] w fun e w' => e = .returned (.string (wordS op)) ∧ Below w.heap.size w w' := by
  refine Calls.veil fun Q HQ => ?_
  rcases (by omega : op < 0 ∨ (0 ≤ op ∧ 15 ≤ op) ∨ (0 ≤ op ∧ op < 15)) with h | ⟨h, h'⟩ | ⟨h, h'⟩
  · have HW : Hid (wordS op = ByteArray.empty) := Lib.hid (if_neg (by omega))
    go_enter Tryd.func22, Tryd.ntmps22
    go_wp2_with fail
    (try go_ret)
    rw [HQ.out, HW.out]
    exact ⟨ret_str rfl, by (repeat (first | exact Below.refl _ _ | assumption | refine below_new ?_ _ | refine Below.drew ?_ | refine below_drewN ?_ _ | refine below_on ?_ (by assumption)))⟩
  · have HW : Hid (wordS op = ByteArray.empty) := Lib.hid (if_neg (by omega))
    go_enter Tryd.func22, Tryd.ntmps22
    go_wp2_with fail
    (try go_ret)
    rw [HQ.out, HW.out]
    exact ⟨ret_str rfl, by (repeat (first | exact Below.refl _ _ | assumption | refine below_new ?_ _ | refine Below.drew ?_ | refine below_drewN ?_ _ | refine below_on ?_ (by assumption)))⟩
  · obtain ⟨i, rfl⟩ := Int.eq_ofNat_of_zero_le h
    have HW : Hid (wordS (i : Int) = wordAt i) := Lib.hid (by unfold wordS; rw [if_pos (by omega)]; rfl)
    have hi : i < 15 := by omega
    go_enter Tryd.func22, Tryd.ntmps22
    go_upto_region 2 with (fail)
    generalize hV : World.alloc w _ = V
    have hBV : Below w.heap.size w V := by rw [← hV]; (repeat (first | exact Below.refl _ _ | assumption | refine below_new ?_ _ | refine Below.drew ?_ | refine below_drewN ?_ _ | refine below_on ?_ (by assumption)))
    have c0 := (WordsAt.made hV).c i hi
    clear hV
    go_wp2_with fail
    (try go_ret)
    rw [HQ.out, HW.out]
    exact ⟨ret_str rfl, hBV⟩
theorem word_one {i j : Nat} (hi : i < 15) (hj : j < 15) (h : wordAt i = wordAt j) : i = j := by
  have : ∀ i, i < 15 → ∀ j, j < 15 → wordAt i = wordAt j → i = j := by decide +kernel
  exact this i hi j hj h
theorem word_ne (i : Nat) (hi : i < 15) : wordAt i ≠ ByteArray.empty := by
  have : ∀ i, i < 15 → wordAt i ≠ ByteArray.empty := by decide +kernel
  exact this i hi
theorem str_inj {a b : ByteArray} (h : a.toList = b.toList) : a = b := by
  rw [ByteArray.toList_eq, ByteArray.toList_eq] at h
  obtain ⟨⟨x⟩⟩ := a; obtain ⟨⟨y⟩⟩ := b
  simp at h; rw [h]
theorem str_t {a b : ByteArray} (h : a = b) : (a.toList == b.toList) = true := by rw [h]; simp
theorem str_f {a b : ByteArray} (h : a ≠ b) : (a.toList == b.toList) = false := by rw [beq_eq_false_iff_ne]; exact fun e => h (str_inj e)

def wS (op : Int) : List UInt8 := (wordS op).data.toList
theorem wS_eq (op : Int) : wordS op = ⟨(wS op).toArray⟩ := by unfold wS; simp
theorem wS_len (op : Int) : (wS op).length ≤ 7 := by
  have h : ∀ i, i < 15 → (wordAt i).data.toList.length ≤ 7 := by decide +kernel
  unfold wS wordS
  split
  · exact h _ (by omega)
  · decide
theorem wS_none {op : Int} (h : ¬ (0 ≤ op ∧ op ≤ 14)) : wS op = [] := by unfold wS wordS; rw [if_neg h]; rfl
theorem wS_some {op : Int} (h : 0 ≤ op ∧ op ≤ 14) : wS op ≠ [] := by
  have h1 : ∀ i, i < 15 → (wordAt i).data.toList ≠ [] := by decide +kernel
  unfold wS wordS; rw [if_pos h]; exact h1 _ (by omega)
end Go.Proofs.YtdgplijnhkgeiaaDoor
