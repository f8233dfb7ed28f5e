/- Layer 42: asking whether a script is bad. -/
import Derived.Test.YtaammkmnhhipgaaShrG
namespace Go.Proofs.Ytaammkmnhhipgaa
open Go.RowKit
set_option linter.unusedVariables false
set_option linter.unusedSimpArgs false
abbrev KAt (w : World) (b : Nat) (T S K : Int) (v F : Value) (a : Int) : Prop := w.heap[b]? = some (.cells #[.int .i64 T, .int .i64 S, .int .u64 K, v, F, .int .i64 a] 49 (0, 0))
/-- Who says whether a script is bad: by its entries alone, of scripts with the configuration at hand, in worlds that hold what he reads. -/
def Says (fid : FuncId) (caps : Array Value) (T S K : Int) (P : List Ent → Bool) (W : World → Prop) : Prop :=
  ∀ (l : List Ent) (u : Value) (w : World), W w → EL w u l → l.length ≤ 1000 → Calls Try.prog fid (#[.agg #[.int .i64 T, .int .i64 S, .int .u64 K, u]] ++ caps) w fun e w' => e = .returned (.bool (P l)) ∧ Below w.heap.size w w'
/-- What he reads stands as long as nothing but one block is changed. -/
def Stays (W : World → Prop) (b : Nat) : Prop := ∀ w w', W w → Kx b w w' → W w'
theorem ER.kx {w w' : World} {v : Value} {n : Nat} {L : Nat → Ent} {b : Nat} (h : ER w v n L) (hne : ∀ p n c, v = .slice (some p) n c → p.block ≠ b) (k : Kx b w w') : ER w' v n L := by
  cases h with
  | nil => exact .nil _
  | odd a c _ h1 => exact .odd a c _ h1
  | row g o _ c _ h1 h2 h3 =>
    refine .row g o n c L h1 h2 fun i hi j hj => ?_
    have h4 := h3 i hi j hj
    obtain ⟨u, hu⟩ : ∃ u, (ecells (L i))[j]? = some u := ⟨_, List.getElem?_eq_getElem (by exact hj)⟩
    rw [hu] at h4 ⊢
    exact k.cell h4 (hne _ _ _ rfl)
theorem KAt.kx {w w' : World} {b b' : Nat} {T S K : Int} {v F : Value} {a : Int} (h : KAt w b T S K v F a) (k : Below w.heap.size w w') : KAt w' b T S K v F a := by
  show w'.heap[b]? = _
  rw [k.block b (Array.getElem?_eq_some_iff.1 h).1]; exact h
set_option maxHeartbeats 2000000 in
theorem sisbad (b : Nat) (T S K : Int) (v : Value) (fid : FuncId) (caps : Array Value) (a : Int) (l : List Ent) (u : Value) (w : World) (P : List Ent → Bool) (W : World → Prop) (hk : KAt w b T S K v (.func (.func fid) #[] caps) a) (h : EL w u l) (hne : ∀ p n c, u = .slice (some p) n c → p.block ≠ b) (hn : l.length ≤ 1000)
    (hP : Says fid caps T S K P W) (hW : Stays W b) (hw : W w) (ha : 0 ≤ a) (ha2 : a ≤ 100000000) (hcf : ∀ (args : Array Value) (w : World), (callFunc fid args).run Try.prog w = .ok (.enter fid args) w) :
    Calls Try.prog 16 #[.pointer (some ⟨b, 0, none⟩), .agg #[.int .i64 T, .int .i64 S, .int .u64 K, u]] w fun e w' => e = .returned (.bool (P l)) ∧ Kx b w w' ∧ KAt w' b T S K v (.func (.func fid) #[] caps) (a + 1) := by
  refine Calls.veil fun Q HQ => ?_
  have hb : b < w.heap.size := (Array.getElem?_eq_some_iff.1 hk).1
  have x5 := Ext.on (show w.cell? ⟨b, 5, none⟩ = some (.int .i64 a) by rw [cell_of_row _ _ _ _ _ (0, 0) hk]; rfl)
  have ff : ∀ o i, (w.alloc o).frozen? ⟨b, i, none⟩ = false := fun o i => by
    have h1 : (w.alloc o).heap[b]? = _ := (Below.heap_alloc w o b hb).trans hk
    exact frozen_of_row _ _ _ _ _ h1
  have HK0 := Lib.hid hk
  have HE := Lib.hid h
  obtain ⟨p, c, rfl, a1, a2⟩ := h.slice
  have HPR := Lib.hid (And.intro hP (And.intro hW hw))
  have HNE := Lib.hid hne
  clear hk h hP hW hw hne
  go_enter Try.func16, Try.ntmps16
  go_wp2_with fail
  generalize hV : World.alloc (World.setCell w _ _) _ = V
  have hh : (w.setCell ⟨b, 5, none⟩ (.int .i64 (a + 1))).heap[b]? = some (.cells #[.int .i64 T, .int .i64 S, .int .u64 K, v, .func (.func fid) #[] caps, .int .i64 (a + 1)] 49 (0, 0)) := by
    rw [heap_setCell_same _ _ _ _ _ _ HK0.out]; rfl
  have hKV : KAt V b T S K v (.func (.func fid) #[] caps) (a + 1) := by
    show V.heap[b]? = _
    rw [← hV, Below.heap_alloc _ _ _ (by simpa using hb)]; exact hh
  have hXV : Kx b w V := by rw [← hV]; exact ((Kx.refl b w).set 5 _).alloc _
  have z0 : ∀ x : Ext V, x.w.cell? ⟨w.heap.size, 0, none⟩ = some (.int .i64 T) := fun x => by have := Ext.made hV 0 _ rfl x; simpa using this
  have z1 : ∀ x : Ext V, x.w.cell? ⟨w.heap.size, 1, none⟩ = some (.int .i64 S) := fun x => by have := Ext.made hV 1 _ rfl x; simpa using this
  have z2 : ∀ x : Ext V, x.w.cell? ⟨w.heap.size, 2, none⟩ = some (.int .u64 K) := fun x => by have := Ext.made hV 2 _ rfl x; simpa using this
  have z3 : ∀ x : Ext V, x.w.cell? ⟨w.heap.size, 3, none⟩ = some (.slice p l.length c) := fun x => by have := Ext.made hV 3 _ rfl x; simpa using this
  have z4 : ∀ x : Ext V, x.w.cell? ⟨b, 4, none⟩ = some (.func (.func fid) #[] caps) := Ext.cells (by rw [cell_of_row _ _ _ _ _ (0, 0) hKV]; rfl)
  have HEV := Lib.hid (ER.kx HE.out HNE.out hXV)
  have HXV := Lib.hid hXV
  have HKV := Lib.hid hKV
  clear hV hh hKV hXV x5 ff
  (with_reducible refine wp_region_mix (fun w' => ∃ y : Ext V, w' = y.w) ?_ ?_ ?_ ?_; kernel_rfl; kernel_rfl; exact ⟨⟨V.drew, (Below.refl _ _).drew⟩, rfl⟩)
  repeat (first | ((with_reducible refine mix_plain (by kernel_rfl) ?_); (first | go_big_quiet_skip | (go_big_quiet_want; go_big_quiet_op; go_big_quiet_on)); (with_reducible refine mix_on ?_)) | ((with_reducible refine mix_skip (by kernel_rfl) ?_); go_big_quiet_skip; (with_reducible refine mix_on ?_)))
  ((with_reducible refine wpMix_chain (by kernel_rfl) (by kernel_rfl) (fun K HK => ?_)); go_step)
  refine (scopied T S _ l _ V.drew (HEV.out.below (Below.refl _ _).drew) (by omega)).mono ?_; rintro _ w2 ⟨v2, rfl, ho2, hb2⟩
  have HB2 := Lib.hid (show Below V.heap.size V w2 from below_on (Below.refl V.heap.size V).drew hb2)
  have HO2 := Lib.hid (own_EL ho2)
  refine HK.out _ _ ⟨⟨w2, HB2.out⟩, rfl⟩ ?_
  clear HK K hb2 ho2
  repeat (first | ((with_reducible refine mix_plain (by kernel_rfl) ?_); (first | go_big_quiet_skip | (go_big_quiet_want; go_big_quiet_op; go_big_quiet_on)); (with_reducible refine mix_on ?_)) | ((with_reducible refine mix_skip (by kernel_rfl) ?_); go_big_quiet_skip; (with_reducible refine mix_on ?_)))
  ((with_reducible refine wpMix_chain (by kernel_rfl) (by kernel_rfl) (fun K HK => ?_)); go_step)
  refine (HPR.out.1 l v2 w2 (HPR.out.2.1 _ _ HPR.out.2.2 (HXV.out.below HB2.out)) HO2.out hn).mono ?_; rintro _ w3 ⟨rfl, hb3⟩
  have HB3 := Lib.hid (show Below V.heap.size V w3 from below_on HB2.out hb3)
  refine HK.out _ _ ⟨⟨w3, HB3.out⟩, rfl⟩ ?_
  clear HK K hb3
  repeat (first | ((with_reducible refine mix_plain (by kernel_rfl) ?_); (first | go_big_quiet_skip | (go_big_quiet_want; go_big_quiet_op; go_big_quiet_on)); (with_reducible refine mix_on ?_)) | ((with_reducible refine mix_skip (by kernel_rfl) ?_); go_big_quiet_skip; (with_reducible refine mix_on ?_)))
  refine wpMix_nil ?_
  go_wp2_with fail
  (try go_ret)
  rw [HQ.out]
  exact ⟨rfl, HXV.out.below HB3.out, HKV.out.kx (b' := 0) HB3.out⟩
end Go.Proofs.Ytaammkmnhhipgaa
