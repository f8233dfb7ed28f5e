/- Layer 15: a thread's methods: New, Depth, Top, Call, Push, Pop, Fresh. -/
import Derived.Test.YtkkdehniheajeaaFrmB
namespace Go.Proofs.Ytkkdehniheajeaa.Th
open Go.RowKit
set_option linter.unusedVariables false
set_option linter.unusedSimpArgs false
def ss0 : Nat → Value := fun i => if i < 3 then .bool false else if i < 6 then .int .u64 0 else .int .i64 0
def T0 : Td := ⟨fun _ => 0, ss0, 0, fun _ => ⟨0, 0, fun _ => 0⟩, [], 0, fun _ => 0⟩
theorem ss0_one : ∀ i, i < 12 → (ss0 i).oneCell' = true := by
  intro i _
  unfold ss0
  split
  · rfl
  · split <;> rfl
theorem fnew (w : World) (B : Nat) (hB : B ≤ w.heap.size) : Calls Try.prog 50 #[] w fun e w' => e = .returned (.pointer (some ⟨w.heap.size, 0, none⟩)) ∧ ThA w' B w.heap.size T0 (fun _ => 0) (.slice none 0 0) (.slice none 0 0) (.slice none 0 0) ∧ Below w.heap.size w w' := by
  refine Calls.veil fun Q HQ => ?_
  go_enter Try.func50, Try.ntmps50
  go_wp2_with fail
  (try go_ret)
  generalize hV : World.alloc _ _ = V
  obtain ⟨hh, hb⟩ := heapnewE hV
  rw [HQ.out]
  exact ⟨rfl, ⟨hB, hh, .nil _ _, fun i hi => absurd hi (by simp [T0]), fun i j hi => absurd hi (by simp [T0]), PO.nil _, .nil _ _, ss0_one⟩, hb⟩
theorem fdepth {w : World} {B q : Nat} {T : Td} {p : Nat → Nat} {fv rv sv : Value} (h : ThA w B q T p fv rv sv) : Calls Try.prog 23 #[.pointer (some ⟨q, 0, none⟩)] w fun e w' => e = .returned (.int .i64 T.nf) ∧ w = w' := by
  have cf := h.cf
  obtain ⟨a, c, rfl, _, _⟩ := h.fo.slice
  clear h
  go_enter Try.func23, Try.ntmps23
  go_wp2_with fail
  go_ret
  exact ⟨rfl, rfl⟩
theorem ftop0 {w : World} {B q : Nat} {T : Td} {p : Nat → Nat} {fv rv sv : Value} (h : ThA w B q T p fv rv sv) (hn : T.nf = 0) : Calls Try.prog 30 #[.pointer (some ⟨q, 0, none⟩)] w fun e w' => e = .returned (.pointer none) ∧ w = w' := by
  have D := Lib.hid (fdepth h)
  rw [hn] at D
  clear h hn
  go_enter Try.func30, Try.ntmps30
  go_wp2_with fail
  refine D.out.mono ?_; rintro _ _ ⟨rfl, rfl⟩
  go_wp2_with fail
  go_ret
  exact ⟨rfl, rfl⟩
theorem ftop1 {w : World} {B q m : Nat} {T : Td} {p : Nat → Nat} {fv rv sv : Value} (h : ThA w B q T p fv rv sv) (hn : T.nf = m + 1) (hm : m ≤ 1000000) : Calls Try.prog 30 #[.pointer (some ⟨q, 0, none⟩)] w fun e w' => e = .returned (.pointer (some ⟨p m, 0, none⟩)) ∧ Below w.heap.size w w' := by
  have D := Lib.hid (fdepth h)
  have cf := h.cf
  have fo := h.fo
  rw [hn] at D fo
  rcases fo.parts with ⟨_, h0⟩ | ⟨g, c, rfl, h1, h2, _, _, _, _, _, _, h3⟩
  · omega
  have cg := h3 m _ (by omega) (ptrs_get (by omega))
  have hne : ¬ ((m : Int) + 1 = 0) := by omega
  clear h hn fo h3
  go_enter Try.func30, Try.ntmps30
  go_wp2_with fail
  refine D.out.mono ?_; rintro _ _ ⟨rfl, rfl⟩
  clear D
  go_upto_region 3 with fail
  go_quiet (fail)
  have hb := below_drewN (Below.refl w.heap.size w) nq
  clear cf cg
  go_wp2_with fail
  go_ret
  exact ⟨rfl, hb⟩
def callT (T : Td) (fn : Int) (n : Nat) (L : Nat → Int) : Td := { T with nf := T.nf + 1, fs := upM T.fs T.nf ⟨fn, 0, fun i => if i < n then L i else 0⟩ }
theorem run_copyU {w : World} {v : Value} {n : Nat} {f : Nat → Int} (h : UR w v n f) (b o m c : Nat) (ht : w.there b o m) : ∃ k : Int, (Builtin.copy_ #[44, 44] 3 #[.slice (some ⟨b, o, none⟩) m c, v]).run Try.prog w = .ok (.int .i64 k) (w.setCells b o (ucells (min n m) f)) := by
  have hs : (Try.prog.info? 22).map (·.size) = some 1 := by
    obtain ⟨i0, hi, _, h1, _⟩ := info_one infoU64
    rw [hi]; simp [h1]
  cases h with
  | nil => exact ⟨0, by rw [run_copy_none (P := Try.prog) w 44 44 3 22 (some ⟨b, o, none⟩) none m c 0 0 uU64 hs (by simp)]; simp [ucells, World.setCells] <;> rfl⟩
  | odd a c' _ h1 => exact ⟨0, by rw [run_copy_none (P := Try.prog) w 44 44 3 22 (some ⟨b, o, none⟩) (some a) m c 0 c' uU64 hs (by simp)]; simp [ucells, World.setCells] <;> rfl⟩
  | row g o' _ c' _ h1 h2 h3 =>
    refine ⟨_, run_copy_cells (P := Try.prog) w 44 44 3 22 b o m c ⟨g, o', none⟩ n c' (ucells (min n m) f) uU64 hs (by rw [ucells_len] <;> rfl) (fun j v hv => ?_) (fun j hj => (ht j (by rw [ucells_len] at hj; omega)).1) (fun j hj => (ht j (by rw [ucells_len] at hj; omega)).2) ucells_one⟩
    have hj : j < min n m := by
      have := (List.getElem?_eq_some_iff.1 hv).1
      rwa [ucells_len] at this
    rw [ucells_get hj] at hv
    simp only [Option.some.injEq] at hv
    rw [← hv, addP]; exact h3 j (by omega)
theorem frF_copied (fn : Int) (n : Nat) (L : Nat → Int) (j : Nat) (hj : j < 26) : putF (frF ⟨fn, 0, fun _ => 0⟩) 2 (ucells (min n 24) L) j = frF ⟨fn, 0, fun i => if i < n then L i else 0⟩ j := by
  unfold putF frF
  by_cases h0 : j = 0
  · subst h0; simp
  · by_cases h1 : j = 1
    · subst h1; simp
    · rw [if_pos (by omega)]
      simp only [h0, h1, if_false]
      by_cases h2 : j - 2 < n
      · rw [ucells_get (by omega)]; simp [h2]
      · rw [List.getElem?_eq_none (by rw [ucells_len]; omega)]; simp [h2]
/-- An append whose run is known. -/
theorem wpList_append_run {w : World} {ops : Array Oper} {rest : List Oper} {o : Oper} {a : Act} {Q : Exit → Act → World → Prop} (hgd : o.guard = none) (s x : Operand) (SL : TypeId)
    (ho : o.op = .call { callee := .builtin .append, args := #[s, x], argTypes := #[SL, SL] }) (hty : o.type = SL) {v u v' : Value} {w' : World} (hs : a.eval s = v) (hx : a.eval x = u)
    (hr : (Builtin.append_ #[SL, SL] SL #[v, u]).run Try.prog w = .ok v' w') (h : wpList Try.prog ops Q rest (a.put o.dst v') w') : wpList Try.prog ops Q (o :: rest) a w := by
  refine wpList_plain hgd fun K hK => ?_
  unfold Oper.wp execOp
  simp only [ho, hty, resolve, invoke, builtin, Sem.run_bind, Sem.run_pure, Result.andThen_ok, List.map_toArray, List.map_cons, List.map_nil, hs, hx, hr]
  exact hK _ _ h
set_option maxRecDepth 8000 in
set_option maxHeartbeats 1000000 in
theorem fcall {w : World} {B q : Nat} {T : Td} {p : Nat → Nat} {fv rv sv v : Value} (h : ThA w B q T p fv rv sv) (fn : Int) {n : Nat} {L : Nat → Int} (hu : UR w v n L) (hB : B ≤ w.heap.size) (hf : T.nf ≤ 1000000) :
    Calls Try.prog 26 #[.pointer (some ⟨q, 0, none⟩), .int .i64 fn, v] w fun e w' => e = .returned (.tuple #[]) ∧ (∃ p' fv', ThA w' B q (callT T fn n L) p' fv' rv sv ∧ (∀ j, fv'.ownBlock = some j → fv.ownBlock = some j ∨ w.heap.size ≤ j)) ∧ KQ w w' q fv sv := by
  refine Calls.veil fun Q HQ => ?_
  have HH := Lib.hid h; have HU := Lib.hid hu
  obtain ⟨a, c, rfl, _, _⟩ := hu.slice
  clear h hu
  go_enter Try.func26, Try.ntmps26
  go_upto_region 2 with fail
  generalize hV : World.alloc _ _ = V
  obtain ⟨hh, hbv⟩ := heapnewE hV
  have hs : V.heap.size = w.heap.size + 1 := by rw [← hV]; simp
  have hb : Blk 76 V w.heap.size 26 (frF ⟨fn, 0, fun _ => 0⟩) := hh
  have HV := Lib.hid (HH.out.below hbv)
  obtain ⟨b, hbe⟩ : ∃ b, b = w.heap.size := ⟨_, rfl⟩
  have HBE := Lib.hid hbe
  rw [← hbe] at hb hs ⊢
  have HB := Lib.hid hb
  have HBV := Lib.hid hbv
  have HS := Lib.hid hs
  obtain ⟨k, hcp⟩ := run_copyU (HU.out.below hbv) b 2 24 24 (hb.there 2 24 (by omega))
  clear hV hh hbe hb hbv hs
  go_upto_region 3 with fail
  generalize hW : World.setCells _ _ _ _ = W
  have hbw : Blk 76 W b 26 (frF ⟨fn, 0, fun i => if i < n then L i else 0⟩) := by rw [← hW]; exact (Blk.setCells _ 2 V _ HB.out).congr fun j hj => frF_copied fn n L j hj
  have hkw : Below w.heap.size w W := by
    rw [← hW]
    have k := KS.setCells V b 2 (ucells (min n 24) L)
    exact ⟨k.os.trans HBV.out.os, k.tape.trans HBV.out.tape, k.output.trans HBV.out.output, Nat.le_trans HBV.out.size k.size, fun j hj => (k.block j (by have := HBV.out.size; omega) (by have := HBE.out; omega)).trans (HBV.out.block j hj)⟩
  have hT := HH.out.below hkw
  have HBW := Lib.hid hbw
  have HKW := Lib.hid hkw
  have HT := Lib.hid hT
  obtain ⟨pa, pc, W2, hrun, ho, hg, hloc⟩ := push1 uFrs infoFr (by rfl) hT.fo (.pointer (some ⟨b, 0, none⟩)) rfl hf (Nat.le_trans hB hkw.size)
  have cf := HT.out.cf
  have cfn := fun o => Ext.on cf o
  have hfin := hT.pushF hbw (by have := HBE.out; omega) (fun i hi => by have := blk_lt (HH.out.fb i hi).1; have := HBE.out; omega) ho hg
  have cq2 : W2.cell? ⟨q, 24, none⟩ = some fv := (World.cell?_of_block (a := ⟨q, 24, none⟩) (hg.block q hT.lt fun e => hT.nfq.1 e.symm)).trans cf
  have cq3 : ∀ i, W2.frozen? ⟨q, i, none⟩ = false := ((HT.out.blk.of (hg.block q hT.lt fun e => hT.nfq.1 e.symm)) : Blk 60 W2 q 27 _).fr
  have HFIN := Lib.hid hfin
  have HLOC := Lib.hid hloc
  obtain ⟨fa, fc, hfe, _, _⟩ := hT.fo.slice
  have HFE := Lib.hid hfe
  rw [hfe] at cf cfn hrun cq2
  clear hW hbw hkw hT ho hg hfin hloc hcp hfe
  go_wp2_with (at_builtin; refine wpList_append_run rfl (.tmp 22) (.tmp 24) 57 rfl rfl rfl rfl hrun ?_)
  refine bodyPost_end (v := .tuple #[]) (by simp [results, Try.results26, go_sem]) rfl ?_
  rw [HQ.out]
  refine ⟨rfl, ⟨_, _, HFIN.out.1, fun j hj => ?_⟩, ?_⟩
  · rcases HLOC.out with e | ⟨b', e, hb'⟩
    · exact .inl (by rw [← e]; exact hj)
    · rw [e] at hj; cases hj; exact .inr (by have := HKW.out.size; omega)
  · exact (KQ.of_below HKW.out).trans HFIN.out.2 (fun j e => .inl e) (fun j e => .inl e)
end Go.Proofs.Ytkkdehniheajeaa.Th
