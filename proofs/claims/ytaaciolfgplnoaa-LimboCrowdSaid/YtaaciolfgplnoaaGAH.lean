/- GAH: several texts in one. -/
import Derived.Test.YtaaciolfgplnoaaGAG
import Derived.OrdersHeld
import Derived.RegionTactic
import Derived.Deep.QuietTactic
import Derived.Test.YtaaciolfgplnoaaGAE
/- Layer 15: a thread's methods: New, Depth, Top, Call, Push, Pop, Fresh. -/
namespace Go.Proofs.Ytaaciolfgplnoaa.Th
open Go.RowKit
set_option linter.unusedVariables false
set_option linter.unusedSimpArgs false
def ss0 : Nat → Value := fun i => if i < 3 then .bool false else if i < 6 then .int .u64 0 else .int .i64 0
def T0 : Td := ⟨fun _ => 0, ss0, 0, fun _ => ⟨0, 0, fun _ => 0⟩, [], 0, fun _ => 0⟩
theorem ss0_one : ∀ i, i < 12 → (ss0 i).oneCell' = true := by
  intro i _
  unfold ss0
  split
  · rfl
  · split <;> rfl
theorem fnew (w : World) (B : Nat) (hB : B ≤ w.heap.size) : Calls Try.prog 29 #[] w fun e w' => e = .returned (.pointer (some ⟨w.heap.size, 0, none⟩)) ∧ ThA w' B w.heap.size T0 (fun _ => 0) (.slice none 0 0) (.slice none 0 0) (.slice none 0 0) ∧ Below w.heap.size w w' := by
  refine Calls.veil fun Q HQ => ?_
  go_enter Try.func29, Try.ntmps29
  go_wp2_with fail
  (try go_ret)
  generalize hV : World.alloc _ _ = V
  obtain ⟨hh, hb⟩ := heapnewE hV
  rw [HQ.out]
  exact ⟨rfl, ⟨hB, hh, .nil _ _, fun i hi => absurd hi (by simp [T0]), fun i j hi => absurd hi (by simp [T0]), PO.nil _, .nil _ _, ss0_one⟩, hb⟩
theorem fdepth {w : World} {B q : Nat} {T : Td} {p : Nat → Nat} {fv rv sv : Value} (h : ThA w B q T p fv rv sv) : Calls Try.prog 10 #[.pointer (some ⟨q, 0, none⟩)] w fun e w' => e = .returned (.int .i64 T.nf) ∧ w = w' := by
  have cf := h.cf
  obtain ⟨a, c, rfl, _, _⟩ := h.fo.slice
  clear h
  go_enter Try.func10, Try.ntmps10
  go_wp2_with fail
  go_ret
  exact ⟨rfl, rfl⟩
theorem ftop1 {w : World} {B q m : Nat} {T : Td} {p : Nat → Nat} {fv rv sv : Value} (h : ThA w B q T p fv rv sv) (hn : T.nf = m + 1) (hm : m ≤ 1000000) : Calls Try.prog 12 #[.pointer (some ⟨q, 0, none⟩)] w fun e w' => e = .returned (.pointer (some ⟨p m, 0, none⟩)) ∧ Below w.heap.size w w' := by
  have D := Lib.hid (fdepth h)
  have cf := h.cf
  have fo := h.fo
  rw [hn] at D fo
  rcases fo.parts with ⟨_, h0⟩ | ⟨g, c, rfl, h1, h2, _, _, _, _, _, _, h3⟩
  · omega
  have cg := h3 m _ (by omega) (ptrs_get (by omega))
  have hne : ¬ ((m : Int) + 1 = 0) := by omega
  clear h hn fo h3
  go_enter Try.func12, Try.ntmps12
  go_wp2_with fail
  refine D.out.mono ?_; rintro _ _ ⟨rfl, rfl⟩
  clear D
  go_upto_region 3 with fail
  go_quiet (fail)
  have hb := below_drewN (Below.refl w.heap.size w) nq
  clear cf cg
  go_wp2_with fail
  go_ret
  exact ⟨rfl, hb⟩
def callT (T : Td) (fn : Int) (n : Nat) (L : Nat → Int) : Td := { T with nf := T.nf + 1, fs := upM T.fs T.nf ⟨fn, 0, fun i => if i < n then L i else 0⟩ }
theorem run_copyU {w : World} {v : Value} {n : Nat} {f : Nat → Int} (h : UR w v n f) (b o m c : Nat) (ht : w.there b o m) : ∃ k : Int, (Builtin.copy_ #[43, 43] 3 #[.slice (some ⟨b, o, none⟩) m c, v]).run Try.prog w = .ok (.int .i64 k) (w.setCells b o (ucells (min n m) f)) := by
  have hs : (Try.prog.info? 22).map (·.size) = some 1 := by
    obtain ⟨i0, hi, _, h1, _⟩ := info_one infoU64
    rw [hi]; simp [h1]
  cases h with
  | nil => exact ⟨0, by rw [run_copy_none (P := Try.prog) w 43 43 3 22 (some ⟨b, o, none⟩) none m c 0 0 uU64 hs (by simp)]; simp [ucells, World.setCells] <;> rfl⟩
  | odd a c' _ h1 => exact ⟨0, by rw [run_copy_none (P := Try.prog) w 43 43 3 22 (some ⟨b, o, none⟩) (some a) m c 0 c' uU64 hs (by simp)]; simp [ucells, World.setCells] <;> rfl⟩
  | row g o' _ c' _ h1 h2 h3 =>
    refine ⟨_, run_copy_cells (P := Try.prog) w 43 43 3 22 b o m c ⟨g, o', none⟩ n c' (ucells (min n m) f) uU64 hs (by rw [ucells_len] <;> rfl) (fun j v hv => ?_) (fun j hj => (ht j (by rw [ucells_len] at hj; omega)).1) (fun j hj => (ht j (by rw [ucells_len] at hj; omega)).2) ucells_one⟩
    have hj : j < min n m := by
      have := (List.getElem?_eq_some_iff.1 hv).1
      rwa [ucells_len] at this
    rw [ucells_get hj] at hv
    simp only [Option.some.injEq] at hv
    rw [← hv, addP]; exact h3 j (by omega)
theorem frF_copied (fn : Int) (n : Nat) (L : Nat → Int) (j : Nat) (hj : j < 26) : putF (frF ⟨fn, 0, fun _ => 0⟩) 2 (ucells (min n 24) L) j = frF ⟨fn, 0, fun i => if i < n then L i else 0⟩ j := by
  unfold putF frF
  by_cases h0 : j = 0
  · subst h0; simp
  · by_cases h1 : j = 1
    · subst h1; simp
    · rw [if_pos (by omega)]
      simp only [h0, h1, if_false]
      by_cases h2 : j - 2 < n
      · rw [ucells_get (by omega)]; simp [h2]
      · rw [List.getElem?_eq_none (by rw [ucells_len]; omega)]; simp [h2]
/-- An append whose run is known. -/
theorem wpList_append_run {w : World} {ops : Array Oper} {rest : List Oper} {o : Oper} {a : Act} {Q : Exit → Act → World → Prop} (hgd : o.guard = none) (s x : Operand) (SL : TypeId)
    (ho : o.op = .call { callee := .builtin .append, args := #[s, x], argTypes := #[SL, SL] }) (hty : o.type = SL) {v u v' : Value} {w' : World} (hs : a.eval s = v) (hx : a.eval x = u)
    (hr : (Builtin.append_ #[SL, SL] SL #[v, u]).run Try.prog w = .ok v' w') (h : wpList Try.prog ops Q rest (a.put o.dst v') w') : wpList Try.prog ops Q (o :: rest) a w := by
  refine wpList_plain hgd fun K hK => ?_
  unfold Oper.wp execOp
  simp only [ho, hty, resolve, invoke, builtin, Sem.run_bind, Sem.run_pure, Result.andThen_ok, List.map_toArray, List.map_cons, List.map_nil, hs, hx, hr]
  exact hK _ _ h
end Go.Proofs.Ytaaciolfgplnoaa.Th

/- A region that draws its order and ends with an operation that breaks what its loads hang on: the loads may be taken first all the same, since that operation waits for them. -/
namespace Go.Proofs.Ytaaciolfgplnoaa.Th
open Go.RowKit
set_option linter.unusedVariables false
set_option linter.unusedSimpArgs false
section
variable {P : Program} {ops : Array Oper} {md : Region.Mode} {Q : Exit → Act → World → Prop} {S : World → Prop} {m : Nat}
/-- Whatever order is picked, S holding behind each operation as long as number m has not come up. -/
def wpAnyK (P : Program) (md : Region.Mode) (ops : Array Oper) (Q : Exit → Act → World → Prop) (S : World → Prop) (m : Nat) : Nat → Array Bool → Act → World → Prop
  | 0, listed, a, w => Region.ready md ops listed = [] ∧ Q .normal a w
  | fuel + 1, listed, a, w =>
    (Region.ready md ops listed = [] → Q .normal a w) ∧
    ∀ i ∈ Region.ready md ops listed, wpOp P ops Q i (fun a' w' => ((listed.setIfInBounds i true).getD m false = true ∨ S w') ∧ wpAnyK P md ops Q S m fuel (listed.setIfInBounds i true) a' w') a w
theorem wpAny_of_K : ∀ (fuel : Nat) (listed : Array Bool) (a : Act) (w : World), wpAnyK P md ops Q S m fuel listed a w → wpAny P md ops Q fuel listed a w
  | 0, _, _, _, h => h
  | fuel + 1, _, _, _, h => ⟨h.1, fun i hi => wpOp_mono (fun a' w' h' => wpAny_of_K fuel _ a' w' h'.2) (h.2 i hi)⟩
theorem wpAnyK_first {i : Nat} {oi : Oper} {v : Value} (B : Nat → Prop) (hi : ops[i]? = some oi) (hsel : ∀ (j : Nat) (o : Oper) cs b, ops[j]? = some o → o.op ≠ .select cs b)
    (hQ : ∀ c a w, Q (.panic c) (a.put oi.dst v) w → Q (.panic c) a w)
    (hm : B m) (hB : ∀ j oj, B j → ops[j]? = some oj → ∃ e ∈ oj.after, Region.binds md e = true ∧ (e.on = i ∨ B e.on)) :
    ∀ (fuel : Nat) (listed : Array Bool) (a : Act) (w : World), (∀ j, B j → listed.getD j true = false) →
      (∀ j oj, ops[j]? = some oj → j ≠ i → listed.getD j true = false → (∀ e ∈ oj.after, Region.binds md e = true → e.on ≠ i) → oi.apart ops oj = true) →
      i ∈ Region.ready md ops listed → YieldsIf P ops S oi v a → S w →
      wpAnyK P md ops Q S m fuel (listed.setIfInBounds i true) (a.put oi.dst v) w → wpAnyK P md ops Q S m (fuel + 1) listed a w := by
  have unl : ∀ (listed : Array Bool) (k : Nat), listed.getD k true = false → listed.getD k false = false := fun listed k h => by
    rcases Nat.lt_or_ge k listed.size with h' | h'
    · simp [h'] at h ⊢; exact h
    · simp [Array.getElem?_eq_none h'] at h
  have notB : ∀ (listed : Array Bool) (j : Nat), i ∈ Region.ready md ops listed → (∀ j, B j → listed.getD j true = false) → j ∈ Region.ready md ops listed → ¬ B j := fun listed j h1 h2 hj hb => by
    obtain ⟨hjun, oj, hoj, hall⟩ := mem_ready.1 hj
    obtain ⟨e, he, hb', h3⟩ := hB j oj hb hoj
    have h4 := hall e he hb'
    rcases h3 with h3 | h3
    · rw [h3, unl _ _ (mem_ready.1 h1).1] at h4; cases h4
    · rw [unl _ _ (h2 _ h3)] at h4; cases h4
  intro fuel
  induction fuel with
  | zero =>
    intro listed a w _ _ hr hy hS H
    refine ⟨fun h => (by rw [h] at hr; cases hr), fun j hj => ?_⟩
    by_cases hji : j = i
    · subst hji; exact hy.wpOp hi hS ⟨.inr hS, H⟩
    · have := ready_mono hj hji
      rw [H.1] at this
      cases this
  | succ fuel ih =>
    intro listed a w hunB hfree hr hy hS H
    have him : i ≠ m := fun e => notB listed i hr hunB hr (e ▸ hm)
    have hmf : listed.getD m false = false := unl _ _ (hunB m hm)
    refine ⟨fun h => (by rw [h] at hr; cases hr), fun j hj => ?_⟩
    by_cases hji : j = i
    · subst hji; exact hy.wpOp hi hS ⟨.inr hS, H⟩
    · have h1 := H.2 j (ready_mono hj hji)
      have hnB := notB listed j hr hunB hj
      have hjm : j ≠ m := fun e => hnB (e ▸ hm)
      obtain ⟨hjun, oj, hoj, hall⟩ := mem_ready.1 hj
      have hnot : ∀ e ∈ oj.after, Region.binds md e = true → e.on ≠ i := fun e he hb heq => by
        have h1 := hall e he hb
        have h0 := (mem_ready.1 hr).1
        rw [heq] at h1
        rcases Nat.lt_or_ge i listed.size with h' | h'
        · simp [h'] at h0 h1; rw [h0] at h1; cases h1
        · simp [Array.getElem?_eq_none h'] at h1
      have h2 := wpOp_putIf hoj (hfree j oj hoj hji hjun hnot) (fun cs b => hsel i oi cs b hi) (fun cs b => hsel j oj cs b hoj) hQ hy h1
      have hfree' : ∀ k ok, ops[k]? = some ok → k ≠ i → (listed.setIfInBounds j true).getD k true = false →
          (∀ e ∈ ok.after, Region.binds md e = true → e.on ≠ i) → oi.apart ops ok = true := fun k ok hk hki hun hno => by
        refine hfree k ok hk hki ?_ hno
        by_cases hjk : j = k
        · subst hjk; exact hjun
        · rw [getD_set_ne true hjk] at hun; exact hun
      have hunB' : ∀ k, B k → (listed.setIfInBounds j true).getD k true = false := fun k hk => by
        have : j ≠ k := fun e => hnB (e ▸ hk)
        rw [getD_set_ne true this]; exact hunB k hk
      refine wpOp_mono (fun a' w' h3 => ?_) h2
      have hS' : S w' := h3.2.1.resolve_left (by rw [getD_set_ne false hjm, getD_set_ne false him, hmf]; decide)
      refine ⟨.inr hS', ih (listed.setIfInBounds j true) a' w' hunB' hfree' (ready_mono hr (Ne.symm hji)) h3.1 hS' ?_⟩
      rw [Array.setIfInBounds_comm _ _ hji]
      exact h3.2.2
/-- One that yields in whatever world. -/
theorem wpAnyK_firstY {i : Nat} {oi : Oper} {v : Value} (hi : ops[i]? = some oi) (him : i ≠ m) (hsel : ∀ (j : Nat) (o : Oper) cs b, ops[j]? = some o → o.op ≠ .select cs b)
    (hQ : ∀ c a w, Q (.panic c) (a.put oi.dst v) w → Q (.panic c) a w) :
    ∀ (fuel : Nat) (listed : Array Bool) (a : Act) (w : World),
      (∀ j oj, ops[j]? = some oj → j ≠ i → listed.getD j true = false → (∀ e ∈ oj.after, Region.binds md e = true → e.on ≠ i) → oi.apart ops oj = true) →
      i ∈ Region.ready md ops listed → YieldsIf P ops (fun _ => True) oi v a → (listed.getD m false = true ∨ S w) →
      wpAnyK P md ops Q S m fuel (listed.setIfInBounds i true) (a.put oi.dst v) w → wpAnyK P md ops Q S m (fuel + 1) listed a w := by
  intro fuel
  induction fuel with
  | zero =>
    intro listed a w _ hr hy hS H
    refine ⟨fun h => (by rw [h] at hr; cases hr), fun j hj => ?_⟩
    by_cases hji : j = i
    · subst hji; exact hy.wpOp hi trivial ⟨by rw [getD_set_ne false him]; exact hS, H⟩
    · have := ready_mono hj hji
      rw [H.1] at this
      cases this
  | succ fuel ih =>
    intro listed a w hfree hr hy hS H
    refine ⟨fun h => (by rw [h] at hr; cases hr), fun j hj => ?_⟩
    by_cases hji : j = i
    · subst hji; exact hy.wpOp hi trivial ⟨by rw [getD_set_ne false him]; exact hS, H⟩
    · have h1 := H.2 j (ready_mono hj hji)
      obtain ⟨hjun, oj, hoj, hall⟩ := mem_ready.1 hj
      have hnot : ∀ e ∈ oj.after, Region.binds md e = true → e.on ≠ i := fun e he hb heq => by
        have h1 := hall e he hb
        have h0 := (mem_ready.1 hr).1
        rw [heq] at h1
        rcases Nat.lt_or_ge i listed.size with h' | h'
        · simp [h'] at h0 h1; rw [h0] at h1; cases h1
        · simp [Array.getElem?_eq_none h'] at h1
      have h2 := wpOp_putIf hoj (hfree j oj hoj hji hjun hnot) (fun cs b => hsel i oi cs b hi) (fun cs b => hsel j oj cs b hoj) hQ hy h1
      have hfree' : ∀ k ok, ops[k]? = some ok → k ≠ i → (listed.setIfInBounds j true).getD k true = false →
          (∀ e ∈ ok.after, Region.binds md e = true → e.on ≠ i) → oi.apart ops ok = true := fun k ok hk hki hun hno => by
        refine hfree k ok hk hki ?_ hno
        by_cases hjk : j = k
        · subst hjk; exact hjun
        · rw [getD_set_ne true hjk] at hun; exact hun
      refine wpOp_mono (fun a' w' h3 => ?_) h2
      have hS' : (listed.setIfInBounds j true).getD m false = true ∨ S w' := by
        rcases h3.2.1 with e | e
        · rw [Array.setIfInBounds_comm _ _ (Ne.symm hji), getD_set_ne false him] at e; exact .inl e
        · exact .inr e
      refine ⟨hS', ih (listed.setIfInBounds j true) a' w' hfree' (ready_mono hr (Ne.symm hji)) h3.1 hS' ?_⟩
      rw [Array.setIfInBounds_comm _ _ hji]
      exact h3.2.2
theorem wpAnyK_takeY {i : Nat} {oi : Oper} {v : Value} {fuel : Nat} {listed : Array Bool} {a : Act} {w : World} (hi : ops[i]? = some oi)
    (hs : Region.noSelect ops = true) (hf : Region.free md ops listed i = true) (hr : (Region.ready md ops listed).contains i = true) (him : i ≠ m)
    (hQ : ∀ c a w, Q (.panic c) (a.put oi.dst v) w → Q (.panic c) a w) (hy : Yields P ops oi v a) (hS : listed.getD m false = true ∨ S w)
    (h : wpAnyK P md ops Q S m fuel (listed.setIfInBounds i true) (a.put oi.dst v) w) : wpAnyK P md ops Q S m (fuel + 1) listed a w :=
  wpAnyK_firstY hi him (Region.noSelect_spec hs) hQ fuel listed a w (Region.free_spec hi hf) (by simpa using hr) (hy.yieldsIf) hS h
/-- The list of those behind i, as it is asked of a region's text. -/
def behindK (md : Region.Mode) (ops : Array Oper) (listed : Array Bool) (i m : Nat) (B : List Nat) : Bool :=
  B.contains m && (B.all fun j => !listed.getD j true) && (B.all fun j => match ops[j]? with | none => true | some o => o.after.any fun e => Region.binds md e && (e.on == i || B.contains e.on))
theorem wpAnyK_take {i : Nat} {oi : Oper} {v : Value} {fuel : Nat} {listed : Array Bool} {a : Act} {w : World} (B : List Nat) (hi : ops[i]? = some oi)
    (hs : Region.noSelect ops = true) (hf : Region.free md ops listed i = true) (hr : (Region.ready md ops listed).contains i = true) (hb : behindK md ops listed i m B = true)
    (hQ : ∀ c a w, Q (.panic c) (a.put oi.dst v) w → Q (.panic c) a w) (hy : YieldsIf P ops S oi v a) (hS : S w)
    (h : wpAnyK P md ops Q S m fuel (listed.setIfInBounds i true) (a.put oi.dst v) w) : wpAnyK P md ops Q S m (fuel + 1) listed a w := by
  simp only [behindK, Bool.and_eq_true, List.all_eq_true, List.contains_iff_mem, Bool.not_eq_true'] at hb
  obtain ⟨⟨h1, h2⟩, h3⟩ := hb
  refine wpAnyK_first (fun j => j ∈ B) hi (Region.noSelect_spec hs) hQ h1 (fun j oj hj hoj => ?_) fuel listed a w h2 (Region.free_spec hi hf) (by simpa using hr) hy hS h
  have h4 := h3 j hj
  rw [hoj] at h4
  obtain ⟨e, he, hb⟩ := Array.any_eq_true'.1 h4
  simp only [Bool.and_eq_true, Bool.or_eq_true, beq_iff_eq, List.contains_iff_mem] at hb
  exact ⟨e, he, hb.1, hb.2⟩
def AllReadyK (P : Program) (md : Region.Mode) (ops : Array Oper) (Q : Exit → Act → World → Prop) (S : World → Prop) (m : Nat) (fuel : Nat) (listed : Array Bool) (a : Act) (w : World) (rs : List Nat) : Prop :=
  ∀ i ∈ rs, wpOp P ops Q i (fun a' w' => ((listed.setIfInBounds i true).getD m false = true ∨ S w') ∧ wpAnyK P md ops Q S m fuel (listed.setIfInBounds i true) a' w') a w
theorem AllReadyK.nil {fuel : Nat} {listed : Array Bool} {a : Act} {w : World} : AllReadyK P md ops Q S m fuel listed a w [] := fun _ h => by cases h
theorem AllReadyK.cons {fuel : Nat} {listed : Array Bool} {a : Act} {w : World} {i : Nat} {o : Oper} {rs : List Nat} (ho : ops[i]? = some o)
    (h : ∀ K' : Act → World → Prop, (∀ a w, ((listed.setIfInBounds i true).getD m false = true ∨ S w) → wpAnyK P md ops Q S m fuel (listed.setIfInBounds i true) a w → K' a w) → if Region.wanted o (yielded ops a.tmps) = true then Oper.wp P o a w K' Q else K' (a.put o.dst undef) w)
    (hs : AllReadyK P md ops Q S m fuel listed a w rs) : AllReadyK P md ops Q S m fuel listed a w (i :: rs) := fun j hj => by
  rcases List.mem_cons.1 hj with rfl | hj
  · exact wpOp_step ho fun K' hK' => h K' fun a w h1 h2 => hK' a w ⟨h1, h2⟩
  · exact hs j hj
theorem wpAnyK_ready {rs : List Nat} {fuel : Nat} {listed : Array Bool} {a : Act} {w : World} (hr : Region.ready md ops listed = rs) (hne : rs ≠ [])
    (h : AllReadyK P md ops Q S m fuel listed a w rs) : wpAnyK P md ops Q S m (fuel + 1) listed a w :=
  ⟨fun h0 => absurd (hr ▸ h0) hne, hr ▸ h⟩
theorem wpAnyK_done {listed : Array Bool} {a : Act} {w : World} (hr : Region.ready md ops listed = []) (h : Q .normal a w) :
    ∀ fuel, wpAnyK P md ops Q S m fuel listed a w
  | 0 => ⟨hr, h⟩
  | _ + 1 => ⟨fun _ => h, by rw [hr]; simp⟩
theorem wp_region_K {id : Nat} {a : Act} {w : World} (S : World → Prop) (m : Nat) (hm : P.follows .mixedOrders = true)
    (h : wpAnyK P .any ops Q S m ops.size (Array.replicate ops.size false) a w.drew) : (Code.region id ops true).wp P Q a w :=
  wp_region_any hm (wpAny_of_K _ _ _ _ h)
/-- A load of a block, whole. -/
theorem yields_loadK {o : Oper} {a : Act} (hg : o.guard = none) (ty : TypeId) (x : Operand) (ho : o.op = .load ty x) {pv v : Value} (hx : a.eval x = pv)
    (hr : ∀ w, S w → (Instr.loadAt ty pv).run P w = .ok v w) : YieldsIf P ops S o v a :=
  .inl ⟨by simp [Region.wanted, hg], fun w hw => by
    unfold execOp
    simp only [ho, hx, Sem.run_bind, Sem.run_pure, hr w hw, Result.andThen_ok]⟩
end
end Go.Proofs.Ytaaciolfgplnoaa.Th

/- Layer 16: a machine in memory, at first: its threads are within nothing. -/
namespace Go.Proofs.Ytaaciolfgplnoaa
open Go.RowKit WordM EdgeM
set_option linter.unusedVariables false
set_option linter.unusedSimpArgs false
/-- A thread within nothing. -/
def TB (w : World) (b : Nat) : Prop := Th.Blk 59 w b 27 (Th.thF Th.T0 (.slice none 0 0) (.slice none 0 0) (.slice none 0 0))
theorem TB.tha {w : World} {B b : Nat} (h : TB w b) (hB : B ≤ b) : Th.ThA w B b Th.T0 (fun _ => 0) (.slice none 0 0) (.slice none 0 0) (.slice none 0 0) :=
  ⟨hB, h, .nil _ _, fun i hi => absurd hi (by simp [Th.T0]), fun i j hi => absurd hi (by simp [Th.T0]), Th.PO.nil _, .nil _ _, Th.ss0_one⟩
def machC (pl mb gq : Nat) (fv : Value) (steps : Int) (odd : Bool) : Array Value := #[.pointer (some ⟨pl, 0, none⟩), .pointer (some ⟨mb, 0, none⟩), .pointer (some ⟨gq, 0, none⟩), fv, .int .i64 steps, .bool odd]
structure MI (w : World) (B q pl mb mg C gq gg gm : Nat) (fv : Value) (tq : Nat → Nat) (t s : Nat) (K : Int) (f : Nat → Int) (acc : Int) (flt : Bool) (H : Nat → Bool) (G : Nat → Int) (sl steps : Int) (odd : Bool) : Prop where
  blk : w.heap[q]? = some (.cells (machC pl mb gq fv steps odd) 83 (0, 0))
  pln : w.heap[pl]? = some (.cells #[.int .i64 t, .int .i64 s, .int .u64 K] 105 (0, 0))
  mem : Mm.MemAt w mb mg (3 + 8 * t + 7 * s) C f acc flt
  grd : Gd.GA w gq gg gm s H G sl
  ths : Th.OwnL 36 w (q + 1) fv t (Th.ptrs tq t)
  thr : ∀ i, i < t → q < tq i ∧ TB w (tq i)
  o1 : B ≤ pl
  o2 : pl < mb ∧ pl < mg
  o3 : mb < gq ∧ mb < gg ∧ mb < gm
  o4 : mg < gq ∧ mg < gg ∧ mg < gm
  o5 : gq < q ∧ gg < q ∧ gm < q
  may : mayC t s K = true
theorem MI.bd {w : World} {B q pl mb mg C gq gg gm : Nat} {fv : Value} {tq : Nat → Nat} {t s : Nat} {K : Int} {f : Nat → Int} {acc : Int} {flt : Bool} {H : Nat → Bool} {G : Nat → Int} {sl steps : Int} {odd : Bool} (h : MI w B q pl mb mg C gq gg gm fv tq t s K f acc flt H G sl steps odd) : (1 ≤ t ∧ t ≤ 6) ∧ (7 ≤ s ∧ s ≤ 250) := by
  have := mayC_true h.may
  omega
theorem MI.below {w w' : World} {B q pl mb mg C gq gg gm : Nat} {fv : Value} {tq : Nat → Nat} {t s : Nat} {K : Int} {f : Nat → Int} {acc : Int} {flt : Bool} {H : Nat → Bool} {G : Nat → Int} {sl steps : Int} {odd : Bool} (h : MI w B q pl mb mg C gq gg gm fv tq t s K f acc flt H G sl steps odd) (k : Below w.heap.size w w') : MI w' B q pl mb mg C gq gg gm fv tq t s K f acc flt H G sl steps odd :=
  ⟨Th.up k h.blk, Th.up k h.pln, h.mem.below k, h.grd.below k, h.ths.below k, fun i hi => ⟨(h.thr i hi).1, (h.thr i hi).2.below k⟩, h.o1, h.o2, h.o3, h.o4, h.o5, h.may⟩
/-! ### Its cells -/
section
variable {w : World} {B q pl mb mg C gq gg gm : Nat} {fv : Value} {tq : Nat → Nat} {t s : Nat} {K : Int} {f : Nat → Int} {acc : Int} {flt : Bool} {H : Nat → Bool} {G : Nat → Int} {sl steps : Int} {odd : Bool}
theorem MI.c0 (h : MI w B q pl mb mg C gq gg gm fv tq t s K f acc flt H G sl steps odd) : w.cell? ⟨q, 0, none⟩ = some (.pointer (some ⟨pl, 0, none⟩)) := Th.newcell h.blk 0 _ rfl
theorem MI.c1 (h : MI w B q pl mb mg C gq gg gm fv tq t s K f acc flt H G sl steps odd) : w.cell? ⟨q, 1, none⟩ = some (.pointer (some ⟨mb, 0, none⟩)) := Th.newcell h.blk 1 _ rfl
theorem MI.c2 (h : MI w B q pl mb mg C gq gg gm fv tq t s K f acc flt H G sl steps odd) : w.cell? ⟨q, 2, none⟩ = some (.pointer (some ⟨gq, 0, none⟩)) := Th.newcell h.blk 2 _ rfl
theorem MI.c3 (h : MI w B q pl mb mg C gq gg gm fv tq t s K f acc flt H G sl steps odd) : w.cell? ⟨q, 3, none⟩ = some fv := Th.newcell h.blk 3 _ rfl
theorem MI.c4 (h : MI w B q pl mb mg C gq gg gm fv tq t s K f acc flt H G sl steps odd) : w.cell? ⟨q, 4, none⟩ = some (.int .i64 steps) := Th.newcell h.blk 4 _ rfl
theorem MI.c5 (h : MI w B q pl mb mg C gq gg gm fv tq t s K f acc flt H G sl steps odd) : w.cell? ⟨q, 5, none⟩ = some (.bool odd) := Th.newcell h.blk 5 _ rfl
theorem MI.p0 (h : MI w B q pl mb mg C gq gg gm fv tq t s K f acc flt H G sl steps odd) : w.cell? ⟨pl, 0, none⟩ = some (.int .i64 t) := Th.newcell h.pln 0 _ rfl
theorem MI.p1 (h : MI w B q pl mb mg C gq gg gm fv tq t s K f acc flt H G sl steps odd) : w.cell? ⟨pl, 1, none⟩ = some (.int .i64 s) := Th.newcell h.pln 1 _ rfl
theorem MI.p2 (h : MI w B q pl mb mg C gq gg gm fv tq t s K f acc flt H G sl steps odd) : w.cell? ⟨pl, 2, none⟩ = some (.int .u64 K) := Th.newcell h.pln 2 _ rfl
end
/-! ### The guard's five slots -/
theorem take5 (s k : Nat) (hk : k < 5) (hs : 7 ≤ s) : Gd.canT s (fun i => decide (i < k)) ((k : Int) + 1) = true ∧ Gd.takeH s (fun i => decide (i < k)) ((k : Int) + 1) = fun i => decide (i < k + 1) := by
  have hc : Gd.canT s (fun i => decide (i < k)) ((k : Int) + 1) = true := by
    unfold Gd.canT
    rw [show ((k : Int) + 1).toNat - 1 = k by omega]
    simp; omega
  refine ⟨hc, ?_⟩
  unfold Gd.takeH
  rw [if_pos hc, show ((k : Int) + 1).toNat - 1 = k by omega]
  funext i
  unfold Gd.setB
  by_cases e : i = k
  · subst e; rw [if_pos rfl]; simp
  · rw [if_neg e]; exact decide_eq_decide.2 (by omega)
theorem Gd.GA.belowTo {w w' : World} {B q g m n : Nat} {H : Nat → Bool} {G : Nat → Int} {s : Int} (h : Gd.GA w q g m n H G s) (k : Below B w w') (h1 : q < B) (h2 : g < B) (h3 : m < B) : Gd.GA w' q g m n H G s := by
  obtain ⟨D, ⟨es, clock, he, hr⟩, hD, hz⟩ := h.held
  exact ⟨h.obj.of (k.block _ h1), h.gens.of (k.block _ h2), ⟨D, ⟨es, clock, (k.block _ h3).trans he, hr⟩, hD, hz⟩, h.g1, h.g2, h.g3, h.n0, h.n1, h.gb, h.sb⟩
/-! ### Lists of threads -/
theorem uThs : Try.prog.underlying 81 = some (.slice 36) := by kernel_rfl
theorem infoTh : (Try.prog.info? 36).map (fun i => (i.zero, i.size, i.bytes)) = some (some (.pointer none), 1, 8) := by kernel_rfl
theorem wp_append_run {w : World} {o : Oper} {a : Act} {K : Act → World → Prop} {Q : Exit → Act → World → Prop} (s x : Operand) (SL : TypeId)
    (ho : o.op = .call { callee := .builtin .append, args := #[s, x], argTypes := #[SL, SL] }) (hty : o.type = SL) {v u v' : Value} {w' : World} (hs : a.eval s = v) (hx : a.eval x = u)
    (hr : (Builtin.append_ #[SL, SL] SL #[v, u]).run Try.prog w = .ok v' w') (h : K (a.put o.dst v') w') : o.wp Try.prog a w K Q := by
  unfold Oper.wp execOp
  simp only [ho, hty, resolve, invoke, builtin, Sem.run_bind, Sem.run_pure, Result.andThen_ok, List.map_toArray, List.map_cons, List.map_nil, hs, hx, hr]
  exact h
theorem step_of {P : Program} {ops : Array Oper} {o : Oper} {a : Act} {w : World} {K : Act → World → Prop} {Q : Exit → Act → World → Prop} {E : Prop} (hgd : o.guard = none) (h : Oper.wp P o a w K Q) :
    if Region.wanted o (yielded ops a.tmps) = true then Oper.wp P o a w K Q else E := by
  rw [if_pos (by simp [Region.wanted, hgd])]; exact h
theorem ptrs_snoc {tq : Nat → Nat} {n b : Nat} : Th.ptrs (fun j => if j = n then b else tq j) (n + 1) = Th.ptrs tq n ++ [.pointer (some ⟨b, 0, none⟩)] := by
  unfold Th.ptrs
  rw [List.range_succ, List.map_append]
  congr 1
  · exact List.map_congr_left fun i hi => by simp only []; rw [if_neg (by have := List.mem_range.1 hi; omega)]
  · simp
end Go.Proofs.Ytaaciolfgplnoaa
