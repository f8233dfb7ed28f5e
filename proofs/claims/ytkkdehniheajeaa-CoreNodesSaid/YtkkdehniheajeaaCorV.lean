/- Layer 16: a thread within nothing, copied. -/
import Derived.Test.YtkkdehniheajeaaCorU
import Derived.Deep.MidRow
namespace Go.Proofs.Ytkkdehniheajeaa
open Go.RowKit WordM EdgeM
set_option linter.unusedVariables false
set_option linter.unusedSimpArgs false
theorem quiet_load {P : Program} {o : Oper} {a : Act} {S : World → Prop} {next : Act → Prop} (ty : TypeId) (x : Operand) (ho : o.op = .load ty x) {pv v : Value} (hx : a.eval x = pv)
    (hr : ∀ w, S w → (Instr.loadAt ty pv).run P w = .ok v w) (h : next (a.put o.dst v)) : o.quiet P a S next :=
  ⟨v, fun w hw => by
    unfold Oper.quietAt execOp
    simp only [ho, hx, Sem.run_bind, Sem.run_pure, hr w hw, Result.andThen_ok]
    exact ⟨rfl, rfl⟩, h⟩
theorem quiet_build4 {P : Program} {o : Oper} {a : Act} {S : World → Prop} {next : Act → Prop} (ty : TypeId) (i0 i1 i2 i3 : Nat) (x0 x1 x2 x3 : Operand) (ho : o.op = .build ty #[(i0, x0), (i1, x1), (i2, x2), (i3, x3)]) {v0 v1 v2 v3 : Value} (h0 : a.eval x0 = v0) (h1 : a.eval x1 = v1) (h2 : a.eval x2 = v2) (h3 : a.eval x3 = v3)
    {cells : Array Value} (hr : P.built ty [(i0, v0), (i1, v1), (i2, v2), (i3, v3)] = some cells) (h : next (a.put o.dst (.agg cells))) : o.quiet P a S next :=
  ⟨_, fun w hw => by
    unfold Oper.quietAt execOp
    have := run_build (P := P) w ty #[(i0, v0), (i1, v1), (i2, v2), (i3, v3)] _ hr
    simp only [ho, List.map_toArray, List.map_cons, List.map_nil, h0, h1, h2, h3, Sem.run_bind, Sem.run_pure, this, Result.andThen_ok]
    exact ⟨rfl, rfl⟩, h⟩
theorem uRow {T : TypeId} (h : (Try.prog.underlying T).map (·.isRow) = some true) : ∃ d, Try.prog.underlying T = some d ∧ d.isRow = true := by
  cases h1 : Try.prog.underlying T with
  | none => rw [h1] at h; cases h
  | some d => rw [h1] at h; exact ⟨d, rfl, by simpa using h⟩
theorem info12V : (Try.prog.info? 56).map (·.size) = some 12 := by kernel_rfl
theorem infoSesV : (Try.prog.info? 55).map (·.size) = some 12 := by kernel_rfl
def thZ : Nat → Value := Th.thF Th.T0 (.slice none 0 0) (.slice none 0 0) (.slice none 0 0)
theorem builtZ : (Try.prog).built 60 [(0, .agg ((List.range 12).map thZ).toArray), (1, .agg ((List.range 12).map fun i => thZ (12 + i)).toArray), (3, .slice none 0 0), (4, .slice none 0 0)] = some ((List.range 27).map thZ).toArray := by kernel_rfl
set_option maxRecDepth 16000 in
set_option maxHeartbeats 4000000 in
theorem tclone {w : World} {b : Nat} (h : TB w b) : Calls Try.prog 44 #[.pointer (some ⟨b, 0, none⟩)] w fun e w' => ∃ b', e = .returned (.pointer (some ⟨b', 0, none⟩)) ∧ w.heap.size ≤ b' ∧ TB w' b' ∧ Below w.heap.size w w' := by
  refine Calls.veil fun Q HQ => ?_
  have cf : ∀ y : Ext w, y.w.cell? ⟨b, 24, none⟩ = some (.slice none 0 0) := Ext.cells (h.get (i := 24) (by omega))
  have cr : ∀ y : Ext w, y.w.cell? ⟨b, 25, none⟩ = some (.slice none 0 0) := Ext.cells (h.get (i := 25) (by omega))
  have cs : ∀ y : Ext w, y.w.cell? ⟨b, 26, none⟩ = some (.slice none 0 0) := Ext.cells (h.get (i := 26) (by omega))
  obtain ⟨RV, hRV⟩ : ∃ RV : Value, RV = .agg ((List.range 12).map thZ).toArray := ⟨_, rfl⟩
  obtain ⟨SV, hSV⟩ : ∃ SV : Value, SV = .agg ((List.range 12).map fun i => thZ (12 + i)).toArray := ⟨_, rfl⟩
  have hl1 : ∀ y : Ext w, (Instr.loadAt 56 (.pointer (some ⟨b, 0, none⟩))).run Try.prog y.w = .ok RV y.w := fun y => by
    obtain ⟨dF, hdF, hdr⟩ := uRow (T := 56) (by kernel_rfl)
    have hr := (h.below y.h).range 0 12 (by omega)
    simp only [Nat.zero_add] at hr
    rw [hRV]; exact run_loadAt_mid (P := Try.prog) y.w b 0 56 _ dF hr hdF hdr (by rw [List.length_map, List.length_range]; exact info12V)
  have hl2 : ∀ y : Ext w, (Instr.loadAt 55 (.pointer (some ⟨b, 12, none⟩))).run Try.prog y.w = .ok SV y.w := fun y => by
    obtain ⟨dF, hdF, hdr⟩ := uRow (T := 55) (by kernel_rfl)
    have hr := (h.below y.h).range 12 12 (by omega)
    rw [hSV]; exact run_loadAt_mid (P := Try.prog) y.w b 12 55 _ dF hr hdF hdr (by rw [List.length_map, List.length_range]; exact infoSesV)
  obtain ⟨NV, hNV⟩ : ∃ NV : Array Value, NV = ((List.range 27).map thZ).toArray := ⟨_, rfl⟩
  have hbt : (Try.prog).built 60 [(0, RV), (1, SV), (3, .slice none 0 0), (4, .slice none 0 0)] = some NV := by rw [hRV, hSV, hNV]; exact builtZ
  have HNV := Lib.hid hNV
  clear h hRV hSV hNV
  go_enter Try.func44, Try.ntmps44
  go_upto_region 3 with fail
  (with_reducible refine wp_region_mix (fun w' => ∃ y : Ext w, w' = y.w) ?_ ?_ ?_ ?_; kernel_rfl; kernel_rfl; exact ⟨⟨w.drew, (Below.refl _ _).drew⟩, rfl⟩)
  obtain ⟨y0, hy0⟩ : ∃ y : Ext w, y.w = w.drew := ⟨⟨w.drew, (Below.refl _ _).drew⟩, rfl⟩
  rw [← hy0]
  clear hy0
  repeat (first | ((with_reducible refine mix_plain (by kernel_rfl) ?_); go_big_quiet_want; (refine quiet_load 56 (.tmp 11) (by rfl) (by rfl) (by rintro w8 ⟨y, rfl⟩; exact hl1 y) ?_); simp only [Act.put, List.setIfInBounds_toArray, List.set_cons_succ, List.set_cons_zero]; go_big_quiet_on; (with_reducible refine mix_on ?_)) | ((with_reducible refine mix_plain (by kernel_rfl) ?_); go_big_quiet_want; (refine quiet_load 55 (.tmp 15) (by rfl) (by rfl) (by rintro w8 ⟨y, rfl⟩; exact hl2 y) ?_); simp only [Act.put, List.setIfInBounds_toArray, List.set_cons_succ, List.set_cons_zero]; go_big_quiet_on; (with_reducible refine mix_on ?_)) | ((with_reducible refine mix_plain (by kernel_rfl) ?_); (first | go_big_quiet_skip | (go_big_quiet_want; go_big_quiet_op; go_big_quiet_on)); (with_reducible refine mix_on ?_)) | ((with_reducible refine mix_skip (by kernel_rfl) ?_); go_big_quiet_skip; (with_reducible refine mix_on ?_)))
  ((with_reducible refine wpMix_chain (by kernel_rfl) (by kernel_rfl) (fun K HK => ?_)); go_step)
  refine (clone0_p _).mono ?_; rintro _ w6 ⟨rfl, hw6⟩
  rw [← hw6]
  refine HK.out _ _ ⟨y0, rfl⟩ ?_
  clear HK K hw6
  repeat (first | ((with_reducible refine mix_plain (by kernel_rfl) ?_); (first | go_big_quiet_skip | (go_big_quiet_want; go_big_quiet_op; go_big_quiet_on)); (with_reducible refine mix_on ?_)) | ((with_reducible refine mix_skip (by kernel_rfl) ?_); go_big_quiet_skip; (with_reducible refine mix_on ?_)))
  ((with_reducible refine wpMix_chain (by kernel_rfl) (by kernel_rfl) (fun K HK => ?_)); go_step)
  refine (clone0_u _).mono ?_; rintro _ w6 ⟨rfl, hw6⟩
  rw [← hw6]
  refine HK.out _ _ ⟨y0, rfl⟩ ?_
  clear HK K hw6
  ((with_reducible refine mix_plain (by kernel_rfl) ?_); go_big_quiet_want; (refine quiet_build4 60 0 1 3 4 (.tmp 12) (.tmp 16) (.tmp 21) (.tmp 26) rfl rfl rfl rfl rfl hbt ?_); simp only [Act.put, List.setIfInBounds_toArray, List.set_cons_succ, List.set_cons_zero]; go_big_quiet_on; (with_reducible refine mix_on ?_))
  clear hbt
  ((with_reducible refine wpMix_chain (by kernel_rfl) (by kernel_rfl) (fun K HK => ?_)); go_step)
  refine HK.out _ _ ⟨⟨_, below_new y0.h _⟩, rfl⟩ ?_
  clear HK K
  repeat (first | ((with_reducible refine mix_plain (by kernel_rfl) ?_); (first | go_big_quiet_skip | (go_big_quiet_want; go_big_quiet_op; go_big_quiet_on)); (with_reducible refine mix_on ?_)) | ((with_reducible refine mix_skip (by kernel_rfl) ?_); go_big_quiet_skip; (with_reducible refine mix_on ?_)))
  refine wpMix_nil ?_
  generalize hW : World.alloc _ _ = W3
  obtain ⟨hh, hbw⟩ := Th.heapnewE hW
  obtain ⟨b', hb'⟩ : ∃ z, z = y0.w.heap.size := ⟨_, rfl⟩
  rw [← hb'] at hh ⊢
  have HTB := Lib.hid (show TB W3 b' from by rw [HNV.out] at hh; exact hh)
  have HBW := Lib.hid (below_on y0.h hbw)
  have HGE := Lib.hid (show w.heap.size ≤ b' from by have := y0.h.size; omega)
  clear hW hh hbw hb' cr cs hl1 hl2 HNV
  have cf := cf ⟨W3, HBW.out⟩
  go_wp2_with fail
  clear cf
  go_loopw [34] (fun iv wr => iv = .int .i64 0 ∧ wr = W3) (fun iv _ => 0)
  case atStart => exact ⟨rfl, rfl⟩
  case round =>
    obtain ⟨rfl, rfl⟩ := hrel
    go_wp2_with fail
    (try go_ret)
    rw [HQ.out]
    exact ⟨b', rfl, HGE.out, HTB.out, HBW.out⟩
end Go.Proofs.Ytkkdehniheajeaa
