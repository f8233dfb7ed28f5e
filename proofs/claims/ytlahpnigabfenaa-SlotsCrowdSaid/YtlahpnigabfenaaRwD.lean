/- RwD: several texts in one. -/
import Derived.Test.YtlahpnigabfenaaRwC
/- Layer 17: rows of one-cell values, read and owned. -/
namespace Go.Proofs.Ytlahpnigabfenaa.Sl
open Go.RowKit
set_option linter.unusedVariables false
set_option linter.unusedSimpArgs false
theorem uSI : Try.prog.underlying 25 = some (.slice 3) := by kernel_rfl
theorem uSU : Try.prog.underlying 32 = some (.slice 22) := by kernel_rfl
theorem infI : (Try.prog.info? 3).map (fun i => (i.zero, i.size, i.bytes)) = some (some (.int .i64 0), 1, 8) := by kernel_rfl
theorem infU : (Try.prog.info? 22).map (fun i => (i.zero, i.size, i.bytes)) = some (some (.int .u64 0), 1, 8) := by kernel_rfl
/-- A list of one-cell values, read; its block is from N on. -/
inductive VR (N : Nat) (T : TypeId) (w : World) : Value → List Value → Prop
  | nil : VR N T w (.slice none 0 0) []
  | odd (a : Addr) (c : Nat) : c ≤ 9223372036854775807 → VR N T w (.slice (some a) 0 c) []
  | row (g o c : Nat) (xs : List Value) : N ≤ g → (∃ cur, w.heap[g]? = some (.cells cur T (0, 0))) → xs.length ≤ c → c ≤ 9223372036854775807 → (∀ (i : Nat) (u : Value), xs[i]? = some u → w.cell? ⟨g, o + i, none⟩ = some u) → VR N T w (.slice (some ⟨g, o, none⟩) xs.length c) xs
theorem cell_blk {w w' : World} {g i : Nat} {u : Value} (e : w'.heap[g]? = w.heap[g]?) (h : w.cell? ⟨g, i, none⟩ = some u) : w'.cell? ⟨g, i, none⟩ = some u := (World.cell?_of_block (a := ⟨g, i, none⟩) e).trans h
theorem VR.of {N : Nat} {T : TypeId} {w w' : World} {v : Value} {xs : List Value} (h : VR N T w v xs) (k : ∀ j cur, N ≤ j → w.heap[j]? = some (.cells cur T (0, 0)) → w'.heap[j]? = w.heap[j]?) : VR N T w' v xs := by
  cases h with
  | nil => exact .nil
  | odd a c h1 => exact .odd a c h1
  | row g o c _ h0 hb h1 h2 h3 =>
    obtain ⟨cur, hc⟩ := hb
    have e := k g cur h0 hc
    exact .row g o c _ h0 ⟨cur, e.trans hc⟩ h1 h2 fun i u hu => cell_blk e (h3 i u hu)
theorem VR.below {N : Nat} {T : TypeId} {w w' : World} {v : Value} {xs : List Value} (h : VR N T w v xs) (k : Below w.heap.size w w') : VR N T w' v xs :=
  h.of fun j cur _ hj => k.block j (Th.blk_lt hj)
theorem VR.ka {B N N' : Nat} {T : TypeId} {w w' : World} {v : Value} {xs : List Value} (h : VR N T w v xs) (k : KA B N' w w') (hN : N' ≤ N) (h1 : 69 ≠ T) (h2 : 65 ≠ T) : VR N T w' v xs :=
  h.of fun j cur hn hj => k.keep hj (.inr (Nat.le_trans hN hn)) h1 h2
theorem VR.mono {N N' : Nat} {T : TypeId} {w : World} {v : Value} {xs : List Value} (h : VR N T w v xs) (hN : N' ≤ N) : VR N' T w v xs := by
  cases h with
  | nil => exact .nil
  | odd a c h1 => exact .odd a c h1
  | row g o c _ h0 hb h1 h2 h3 => exact .row g o c _ (Nat.le_trans hN h0) hb h1 h2 h3
theorem VR.parts {N : Nat} {T : TypeId} {w : World} {v : Value} {xs : List Value} (h : VR N T w v xs) : ∃ p c, v = .slice p xs.length c ∧ xs.length ≤ c ∧ c ≤ 9223372036854775807 ∧ Hid (0 < xs.length → ∃ g o, p = some ⟨g, o, none⟩ ∧ N ≤ g ∧ (∃ cur, w.heap[g]? = some (.cells cur T (0, 0))) ∧ ∀ (i : Nat) (u : Value), xs[i]? = some u → w.cell? ⟨g, o + i, none⟩ = some u) := by
  cases h with
  | nil => exact ⟨_, _, rfl, Nat.le_refl _, by decide, fun h => by simp at h⟩
  | odd a c h1 => exact ⟨_, _, rfl, Nat.zero_le _, h1, fun h => by simp at h⟩
  | row g o c _ h0 hb h1 h2 h3 => exact ⟨_, _, rfl, h1, h2, fun _ => ⟨g, o, rfl, h0, hb, h3⟩⟩
/-- An own row is read. -/
theorem own_VR {T : TypeId} {w : World} {B n : Nat} {v : Value} {xs : List Value} (h : w.ownsRow B T 1 v n xs) (hn : n = xs.length) : VR B T w v xs := by
  subst hn
  rcases h.2 with ⟨rfl, h0⟩ | ⟨g, cap, cur, rfl, hb, hh, h1, h2, h3, h4⟩
  · have e : xs = [] := List.eq_nil_of_length_eq_zero h0
    subst e; exact .nil
  · refine .row g 0 cap xs hb ⟨cur, hh⟩ h1 h2 fun i u hu => ?_
    have hi : i < xs.length := (List.getElem?_eq_some_iff.1 hu).1
    rw [← h4, List.getElem?_take_of_lt (by simpa using hi)] at hu
    rw [Nat.zero_add, cell_of_row _ g _ _ _ (0, 0) hh]; simpa using hu
theorem own_nil {T : TypeId} (w : World) (B : Nat) : w.ownsRow B T 1 (.slice none 0 0) ([] : List Value).length [] := ⟨rfl, .inl ⟨rfl, rfl⟩⟩
theorem own_none {T : TypeId} (w : World) : (w.alloc (.cells #[] T)).ownsRow w.heap.size T 1 (.slice (some ⟨w.heap.size, 0, none⟩) 0 0) ([] : List Value).length [] :=
  ⟨rfl, .inr ⟨_, 0, _, rfl, Nat.le_refl _, heap_alloc_new w _, Nat.le_refl _, by decide, rfl, rfl⟩⟩
theorem own_one {T : TypeId} (w : World) (u : Value) : (w.alloc (.cells #[u] T)).ownsRow w.heap.size T 1 (.slice (some ⟨w.heap.size, 0, none⟩) 1 1) ([u] : List Value).length [u] :=
  ⟨rfl, .inr ⟨_, 1, _, rfl, Nat.le_refl _, heap_alloc_new w _, Nat.le_refl _, by decide, rfl, rfl⟩⟩
theorem one_VR {T : TypeId} {w W : World} (u : Value) (e : w.alloc (.cells #[u] T) = W) : VR w.heap.size T W (.slice (some ⟨w.heap.size, 0, none⟩) 1 1) [u] := by
  rw [← e]; exact own_VR (own_one w u) rfl
theorem own_ge {w : World} {B : Nat} {e : TypeId} {size : Nat} {v : Value} {n : Nat} {xs : List Value} (h : w.ownsRow B e size v n xs) : ∀ k, v.ownBlock = some k → B ≤ k := by
  intro k hk
  rcases h.2 with ⟨rfl, _⟩ | ⟨g, cap, cur, rfl, hg, _⟩
  · cases hk
  · simp only [Value.ownBlock, Option.some.injEq] at hk; omega
theorem own_ty {w : World} {B : Nat} {T : TypeId} {size : Nat} {v : Value} {n : Nat} {xs : List Value} (h : w.ownsRow B T size v n xs) {k : Nat} (hk : v.ownBlock = some k) : ∃ cur, w.heap[k]? = some (.cells cur T (0, 0)) := by
  rcases h.2 with ⟨rfl, _⟩ | ⟨g, cap, cur, rfl, _, hh, _⟩
  · cases hk
  · simp only [Value.ownBlock, Option.some.injEq] at hk; subst hk; exact ⟨cur, hh⟩
theorem own_kept {T : TypeId} {w w' : World} {B n : Nat} {v : Value} {xs : List Value} (h : w.ownsRow B T 1 v n xs) (k : ∀ b, v.ownBlock = some b → w'.heap[b]? = w.heap[b]?) : w'.ownsRow B T 1 v n xs := by
  refine ⟨h.1, ?_⟩
  rcases h.2 with hn | ⟨g, cap, cur, rfl, hb, hgg, rest⟩
  · exact .inl hn
  · exact .inr ⟨g, cap, cur, rfl, hb, by rw [k g rfl]; exact hgg, rest⟩
theorem own_below {T : TypeId} {w w' : World} {B n : Nat} {v : Value} {xs : List Value} (h : w.ownsRow B T 1 v n xs) (k : Below w.heap.size w w') : w'.ownsRow B T 1 v n xs :=
  own_kept h fun b hb => by obtain ⟨_, hh⟩ := own_ty h hb; exact k.block b (Th.blk_lt hh)
theorem own_mono {T : TypeId} {w : World} {B B' n : Nat} {v : Value} {xs : List Value} (h : w.ownsRow B T 1 v n xs) (hB : B' ≤ B) : w.ownsRow B' T 1 v n xs := by
  refine ⟨h.1, ?_⟩
  rcases h.2 with hn | ⟨g, cap, cur, rfl, hb, rest⟩
  · exact .inl hn
  · exact .inr ⟨g, cap, cur, rfl, Nat.le_trans hB hb, rest⟩
/-- What grows changes its own block only. -/
theorem grown_below {T : TypeId} {W w0 w1 : World} {B n : Nat} {v : Value} {xs : List Value} (hown : w0.ownsRow B T 1 v n xs) (hbel : Below B W w0) (hB : B ≤ W.heap.size) (hg : w0.grownBy w1 v.ownBlock) : Below B W w1 :=
  hbel.grown hg (by have := hbel.size; omega) (own_ge hown)
/-- A list is appended to an own one. -/
theorem wpList_append_v {T SL : TypeId} {z : Value} (uT : Try.prog.underlying SL = some (.slice T)) (infoT : (Try.prog.info? T).map (fun i => (i.zero, i.size, i.bytes)) = some (some z, 1, 8)) (hzs : z.cells.size = 1)
    {w : World} {ops : Array Oper} {rest : List Oper} {o : Oper} {a : Act} {Q : Exit → Act → World → Prop} (hgd : o.guard = none) (s x : Operand)
    (ho : o.op = .call { callee := .builtin .append, args := #[s, x], argTypes := #[SL, SL] })
    (B N : Nat) (v u : Value) (xs ys : List Value) (hs : a.eval s = v) (hown : w.ownsRow B T 1 v xs.length xs) (hx : a.eval x = u) (hu : VR N T w u ys) (h1 : ∀ u ∈ ys, u.oneCell' = true) (hlen : xs.length + ys.length ≤ 1000000) (hB : B ≤ w.heap.size)
    (h : ∀ v' w', w'.ownsRow B T 1 v' (xs ++ ys).length (xs ++ ys) → w.grownBy w' v.ownBlock → wpList Try.prog ops Q rest (a.put o.dst v') w') : wpList Try.prog ops Q (o :: rest) a w := by
  obtain ⟨i0, hi, hz0, hz1, hz2⟩ := Th.info_one infoT
  cases hu with
  | nil => exact wpList_append_own_none hgd s x SL ho B T i0 1 uT hi v xs.length xs hs hown hx (h v w (by rw [List.append_nil]; exact hown) ⟨rfl, rfl, rfl, Nat.le_refl _, fun _ _ _ => rfl⟩)
  | odd ad c hc0 =>
    refine wpList_append_own _ hgd s x SL ho B T i0 z 1 8 uT hi hz0 hz1 hz2 hzs (by decide) v xs.length xs hs hown ad 0 c [] hx rfl (fun j u hu => by simp at hu) (fun u hu => by simp at hu) (by unfold maxLen; omega) (by omega) hB ?_
    intro v' w' h4 h5 _
    exact h v' w' (by rw [List.length_append]; exact h4) h5
  | row g o' c _ h0 hb h2 h3 h4 =>
    refine wpList_append_own _ hgd s x SL ho B T i0 z 1 8 uT hi hz0 hz1 hz2 hzs (by decide) v xs.length xs hs hown ⟨g, o', none⟩ ys.length c ys hx (by omega) ?_ h1 (by unfold maxLen; omega) (by omega) hB ?_
    · intro j u hu
      rw [Th.addP]; exact h4 j u hu
    · intro v' w' h5 h6 _
      exact h v' w' (by rw [List.length_append]; exact h5) h6
/-! ### Numbers -/
def ints (L : List Nat) : List Value := L.map fun (x : Nat) => Value.int .i64 (x : Int)
theorem ints_len (L : List Nat) : (ints L).length = L.length := by simp [ints]
theorem ints_get {L : List Nat} {i : Nat} (h : i < L.length) : (ints L)[i]? = some (.int .i64 ((L[i]'h : Nat) : Int)) := by simp [ints, h]
theorem ints_app (L M : List Nat) : ints (L ++ M) = ints L ++ ints M := by simp [ints]
theorem ints_one (L : List Nat) : ∀ u ∈ ints L, u.oneCell' = true := by
  intro u hu
  simp only [ints, List.mem_map] at hu
  obtain ⟨_, _, rfl⟩ := hu
  rfl
def wds (L : List Int) : List Value := L.map fun (x : Int) => Value.int .u64 x
theorem wds_len (L : List Int) : (wds L).length = L.length := by simp [wds]
theorem wds_get {L : List Int} {i : Nat} (h : i < L.length) : (wds L)[i]? = some (.int .u64 (L[i]'h)) := by simp [wds, h]
theorem wds_app (L M : List Int) : wds (L ++ M) = wds L ++ wds M := by simp [wds]
theorem wds_one (L : List Int) : ∀ u ∈ wds L, u.oneCell' = true := by
  intro u hu
  simp only [wds, List.mem_map] at hu
  obtain ⟨_, _, rfl⟩ := hu
  rfl
/-- What is free, as the reference has it. -/
structure FV (N : Nat) (w : World) (v : Value) (L : List Nat) (G : List Int) : Prop where
  e : ∃ a b, v = .agg #[a, b] ∧ VR N 3 w a (ints L) ∧ VR N 22 w b (wds G)
theorem FV.below {N : Nat} {w w' : World} {v : Value} {L : List Nat} {G : List Int} (h : FV N w v L G) (k : Below w.heap.size w w') : FV N w' v L G := by
  obtain ⟨a, b, e, h1, h2⟩ := h.e
  exact ⟨a, b, e, h1.below k, h2.below k⟩
end Go.Proofs.Ytlahpnigabfenaa.Sl

/- Layer 17: the reference's Take and Give. -/
namespace Go.Proofs.Ytlahpnigabfenaa.Sl
open Go.RowKit
set_option linter.unusedVariables false
set_option linter.unusedSimpArgs false
def hdN : List Nat → Nat
  | [] => 0
  | a :: _ => a
def gnN (G : List Int) : List Nat → Int
  | [] => 0
  | a :: _ => G.getD (a - 1) 0
/-- A struct of two cells is laid. -/
theorem put2 {T : TypeId} {w : World} {b : Nat} {F : Nat → Value} (h : Th.Blk T w b 2 F) (x y : Value) : Th.Blk T ((w.setCell ⟨b, 0, none⟩ x).setCell ⟨b, 1, none⟩ y) b 2 (fun j => if j = 0 then x else y) :=
  ((h.set 0 x).set 1 y).congr fun j hj => by
    rcases (by omega : j = 0 ∨ j = 1) with rfl | rfl <;> simp [Th.upF]
set_option maxRecDepth 8000 in
set_option maxHeartbeats 2000000 in
theorem rtake0 {N : Nat} {w : World} {v : Value} {G : List Int} (h : FV N w v [] G) :
    Calls Try.prog 11 #[v] w fun e w' => e = .returned (.tuple #[v, .int .i64 0, .int .u64 0]) ∧ Below w.heap.size w w' := by
  refine Calls.veil fun Q HQ => ?_
  obtain ⟨a, b, rfl, h1, h2⟩ := h.e
  obtain ⟨p, c, rfl, q1, q2, H1⟩ := h1.parts
  simp only [ints_len, List.length_nil] at q1 H1 ⊢
  obtain ⟨pb, cb, rfl, _, _, _⟩ := h2.parts
  generalize (wds G).length = nb at *
  have H2 := Lib.hid h2
  clear h h1 h2
  go_enter Try.func11, Try.ntmps11
  go_upto_region 1 with fail
  generalize hU : World.alloc w _ = U
  generalize hV : World.alloc U _ = V
  obtain ⟨u0, hbu⟩ := Th.heapnewE hU
  obtain ⟨v0, hbv⟩ := Th.heapnewE hV
  have u0 := (hbv.block _ (Th.blk_lt u0)).trans u0
  have hs : U.heap.size = w.heap.size + 1 := by rw [← hU]; simp
  obtain ⟨b1, hb1⟩ : ∃ b1, b1 = w.heap.size := ⟨_, rfl⟩
  obtain ⟨b2, hb2⟩ : ∃ b2, b2 = w.heap.size + 1 := ⟨_, rfl⟩
  have hbw := below_on hbu hbv
  have hne : b2 ≠ b1 := by omega
  rw [← hb1] at u0
  rw [hs, ← hb2] at v0
  rw [← hb2, ← hb1]
  have HB := Lib.hid hbw; have HG := Lib.hid (show w.heap.size ≤ b1 ∧ w.heap.size ≤ b2 by omega)
  have HU0 := Lib.hid (show Th.Blk 34 V b1 2 (fun j => if j = 0 then .slice p 0 c else .slice pb nb cb) from u0)
  have HV0 := Lib.hid (show Th.Blk 34 V b2 2 (fun _ => .slice none 0 0) from v0)
  have x0 := HU0.out.get (i := 0) (by omega); have x1 := HU0.out.get (i := 1) (by omega)
  simp only [if_true, if_neg (show ¬ (1 : Nat) = 0 by omega)] at x0 x1
  clear hU hV u0 v0 hbu hbv hbw hb1 hb2 hs
  have n0 := HV0.out.get (i := 0) (by omega); have f0 := HV0.out.fr 0
  have n1 : ∀ u, (V.setCell ⟨b2, 0, none⟩ u).cell? ⟨b2, 1, none⟩ = some (.slice none 0 0) := fun u => (HV0.out.set 0 u).get (i := 1) (by omega)
  have f1 : ∀ u, (V.setCell ⟨b2, 0, none⟩ u).frozen? ⟨b2, 1, none⟩ = false := fun u => (HV0.out.set 0 u).fr 1
  go_wp2_with fail
  have z0 := (put2 HV0.out (.slice p 0 c) (.slice pb nb cb)).get (i := 0) (by omega); have z1 := (put2 HV0.out (.slice p 0 c) (.slice pb nb cb)).get (i := 1) (by omega)
  simp only [if_true, if_neg (show ¬ (1 : Nat) = 0 by omega)] at z0 z1
  refine bodyPost_ret (v := .tuple #[.agg #[.slice p 0 c, .slice pb nb cb], .int .i64 0, .int .u64 0]) ?_ rfl ?_
  · simp [results, Try.results11, go_sem, z0, z1]
  rw [HQ.out]
  exact ⟨rfl, below_set (below_set HB.out HG.out.2 _) HG.out.2 _⟩
set_option maxRecDepth 8000 in
set_option maxHeartbeats 2000000 in
theorem rtake1 {N : Nat} {w : World} {v : Value} {G : List Int} {s : Nat} {L : List Nat} (h : FV N w v (s :: L) G) (hs1 : 1 ≤ s) (hs2 : s ≤ G.length) (hs3 : s ≤ 1000) :
    Calls Try.prog 11 #[v] w fun e w' => ∃ v', e = .returned (.tuple #[v', .int .i64 s, .int .u64 (G.getD (s - 1) 0)]) ∧ FV N w' v' L G ∧ Below w.heap.size w w' := by
  refine Calls.veil fun Q HQ => ?_
  obtain ⟨a, b, rfl, h1, h2⟩ := h.e
  obtain ⟨p, c, rfl, q1, q2, H1⟩ := h1.parts
  obtain ⟨g, o, rfl, hg0, hg1, hg2⟩ := H1.out (by simp [ints])
  obtain ⟨g', o', c', rfl, r1, r2, hg0', hg1', hg2'⟩ : ∃ g' o' c', b = .slice (some ⟨g', o', none⟩) G.length c' ∧ G.length ≤ c' ∧ c' ≤ 9223372036854775807 ∧ N ≤ g' ∧ (∃ cur, w.heap[g']? = some (.cells cur 22 (0, 0))) ∧ ∀ (i : Nat) (u : Value), (wds G)[i]? = some u → w.cell? ⟨g', o' + i, none⟩ = some u := by
    obtain ⟨p, c', rfl, k1, k2, K⟩ := h2.parts
    obtain ⟨g', o', rfl, k3⟩ := K.out (by rw [wds_len]; omega)
    rw [wds_len] at k1 ⊢
    exact ⟨g', o', c', rfl, k1, k2, k3⟩
  have y0 : w.cell? ⟨g, o, none⟩ = some (.int .i64 s) := hg2 0 _ (by simp [ints])
  have hgv : (wds G)[s - 1]? = some (.int .u64 (G.getD (s - 1) 0)) := by rw [wds_get (by omega)]; simp [List.getD_eq_getElem?_getD, List.getElem?_eq_getElem (show s - 1 < G.length by omega)]
  have y1 : w.cell? ⟨g', o' + (s - 1), none⟩ = some (.int .u64 (G.getD (s - 1) 0)) := hg2' _ _ hgv
  have hln : (ints (s :: L)).length = L.length + 1 := by simp [ints]
  have HX := Lib.hid hg2; have HY := Lib.hid y1
  have HW0 := Lib.hid hg1
  rw [hln] at q1 ⊢
  clear hg2 hg2' hg1' hgv
  have H2 := Lib.hid h2
  clear h h1 h2
  go_enter Try.func11, Try.ntmps11
  go_upto_region 1 with fail
  generalize hU : World.alloc w _ = U
  generalize hV : World.alloc U _ = V
  obtain ⟨u0, hbu⟩ := Th.heapnewE hU
  obtain ⟨v0, hbv⟩ := Th.heapnewE hV
  have u0 := (hbv.block _ (Th.blk_lt u0)).trans u0
  have hs : U.heap.size = w.heap.size + 1 := by rw [← hU]; simp
  obtain ⟨b1, hb1⟩ : ∃ b1, b1 = w.heap.size := ⟨_, rfl⟩
  obtain ⟨b2, hb2⟩ : ∃ b2, b2 = w.heap.size + 1 := ⟨_, rfl⟩
  have hbw := below_on hbu hbv
  have hne : b2 ≠ b1 := by omega
  rw [← hb1] at u0
  rw [hs, ← hb2] at v0
  rw [← hb2, ← hb1]
  have HB := Lib.hid hbw; have HG := Lib.hid (show w.heap.size ≤ b1 ∧ w.heap.size ≤ b2 by omega)
  have HU0 := Lib.hid (show Th.Blk 34 V b1 2 (fun j => if j = 0 then .slice (some ⟨g, o, none⟩) (L.length + 1) c else .slice (some ⟨g', o', none⟩) G.length c') from u0)
  have HV0 := Lib.hid (show Th.Blk 34 V b2 2 (fun _ => .slice none 0 0) from v0)
  have x0 := HU0.out.get (i := 0) (by omega); have x1 := HU0.out.get (i := 1) (by omega)
  simp only [if_true, if_neg (show ¬ (1 : Nat) = 0 by omega)] at x0 x1
  clear hU hV u0 v0 hbu hbv hbw hb1 hb2 hs
  have y0 : V.cell? ⟨g, o, none⟩ = some (.int .i64 s) := Ext.cell ⟨V, HB.out⟩ y0
  have y1 : V.cell? ⟨g', o' + (s - 1), none⟩ = some (.int .u64 (G.getD (s - 1) 0)) := Ext.cell ⟨V, HB.out⟩ y1
  have f0 := HU0.out.fr 0; have f1 := HU0.out.fr 1
  go_upto_region 5 with fail
  all_goals first | (exfalso; omega) | skip
  obtain ⟨np, hnp⟩ : ∃ np, np = (if c = 1 then some (⟨g, o, none⟩ : Addr) else some ⟨g, o + 1, none⟩) := ⟨_, rfl⟩
  rw [← hnp]
  have HVR0 : Hid (VR N 3 w (.slice np L.length (c - 1)) (ints L)) := by
    refine Lib.hid ?_
    rw [hnp]
    by_cases hc : c = 1
    · have e : L = [] := List.eq_nil_of_length_eq_zero (by omega)
      subst e
      rw [if_pos hc]; exact .odd _ _ (by omega)
    · rw [if_neg hc, ← ints_len L]
      refine .row g (o + 1) (c - 1) (ints L) hg0 HW0.out (by rw [ints_len]; omega) (by omega) fun i u hu => ?_
      have := HX.out (i + 1) u (by simpa [ints] using hu)
      rwa [show o + 1 + i = o + (i + 1) by omega]
  generalize hW : World.setCell V _ _ = W
  have e2 : W.heap[b2]? = V.heap[b2]? := by rw [← hW]; exact heap_setCell_other _ _ _ _ hne
  have HWB := Lib.hid (show Below w.heap.size w W by rw [← hW]; exact below_set HB.out HG.out.1 _)
  have HU1 := Lib.hid (show Th.Blk 34 W b1 2 (fun j => if j = 0 then (.slice np L.length (c - 1)) else .slice (some ⟨g', o', none⟩) G.length c') by
    rw [← hW]; exact (HU0.out.set 0 (.slice np L.length (c - 1))).congr fun j hj => by rcases (by omega : j = 0 ∨ j = 1) with rfl | rfl <;> simp [Th.upF])
  have HV1 := Lib.hid (HV0.out.of e2)
  have y2 : W.cell? ⟨g', o' + (s - 1), none⟩ = some (.int .u64 (G.getD (s - 1) 0)) := by
    rw [← hW]
    refine cell_blk (heap_setCell_other _ _ _ _ ?_) y1
    rintro e
    have h3 := World.block_lt_of_cell? w ⟨g', o' + (s - 1), none⟩ HY.out
    have h4 := HG.out.1
    simp only at h3
    simp only at e
    omega
  have HGB := Lib.hid (show g' ≠ b2 by
    have h3 := World.block_lt_of_cell? w ⟨g', o' + (s - 1), none⟩ HY.out
    have h4 := HG.out.2
    simp only at h3
    omega)
  clear hW x0 x1 y0 y1 f0 f1 e2 hnp
  have x0 := HU1.out.get (i := 0) (by omega); have x1 := HU1.out.get (i := 1) (by omega)
  simp only [if_true, if_neg (show ¬ (1 : Nat) = 0 by omega)] at x0 x1
  have n0 := HV1.out.get (i := 0) (by omega); have f0 := HV1.out.fr 0
  have n1 : ∀ u, (W.setCell ⟨b2, 0, none⟩ u).cell? ⟨b2, 1, none⟩ = some (.slice none 0 0) := fun u => (HV1.out.set 0 u).get (i := 1) (by omega)
  have f1 : ∀ u, (W.setCell ⟨b2, 0, none⟩ u).frozen? ⟨b2, 1, none⟩ = false := fun u => (HV1.out.set 0 u).fr 1
  have y3 : ∀ u, (W.setCell ⟨b2, 0, none⟩ u).cell? ⟨g', o' + (s - 1), none⟩ = some (.int .u64 (G.getD (s - 1) 0)) := fun u => cell_blk (heap_setCell_other _ _ _ _ HGB.out) y2
  have y4 : ∀ u u', ((W.setCell ⟨b2, 0, none⟩ u).setCell ⟨b2, 1, none⟩ u').cell? ⟨g', o' + (s - 1), none⟩ = some (.int .u64 (G.getD (s - 1) 0)) := fun u u' => cell_blk (heap_setCell_other _ _ _ _ HGB.out) (y3 u)
  go_region
  generalize hZ : World.drew _ = Z
  have hz1 : Z.heap = ((W.setCell ⟨b2, 0, none⟩ (.slice np L.length (c - 1))).setCell ⟨b2, 1, none⟩ (.slice (some ⟨g', o', none⟩) G.length c')).heap := by rw [← hZ]; rfl
  have hz2 : Below w.heap.size w Z := by
    rw [← hZ]
    exact (below_set (below_set HWB.out HG.out.2 (i := 0) (.slice np L.length (c - 1))) HG.out.2 (i := 1) (.slice (some ⟨g', o', none⟩) G.length c')).drew
  have HZ2 := Lib.hid hz2
  have z0 : Z.cell? ⟨b2, 0, none⟩ = some (.slice np L.length (c - 1)) := cell_blk (by rw [hz1]) ((put2 HV1.out (.slice np L.length (c - 1)) (.slice (some ⟨g', o', none⟩) G.length c')).get (i := 0) (by omega))
  have z1 : Z.cell? ⟨b2, 1, none⟩ = some (.slice (some ⟨g', o', none⟩) G.length c') := cell_blk (by rw [hz1]) ((put2 HV1.out (.slice np L.length (c - 1)) (.slice (some ⟨g', o', none⟩) G.length c')).get (i := 1) (by omega))
  clear hZ hz1 hz2
  go_wp2_with fail
  refine bodyPost_ret (v := .tuple #[.agg #[.slice np L.length (c - 1), .slice (some ⟨g', o', none⟩) G.length c'], .int .i64 s, .int .u64 (G.getD (s - 1) 0)]) ?_ rfl ?_
  · simp [results, Try.results11, go_sem, z0, z1, List.getD_eq_getElem?_getD]
  rw [HQ.out]
  have hb2 := HZ2.out
  refine ⟨_, rfl, ⟨_, _, rfl, ?_, H2.out.below hb2⟩, hb2⟩
  exact HVR0.out.below hb2
end Go.Proofs.Ytlahpnigabfenaa.Sl

/- Layer 17: the reference's Give. -/
namespace Go.Proofs.Ytlahpnigabfenaa.Sl
open Go.RowKit
set_option linter.unusedVariables false
set_option linter.unusedSimpArgs false
theorem own_cons {T : TypeId} {w : World} {B n : Nat} {v : Value} {xs : List Value} (h : w.ownsRow B T 1 v n xs) (hn : 0 < n) :
    ∃ g c cur, v = .slice (some ⟨g, 0, none⟩) n c ∧ B ≤ g ∧ w.heap[g]? = some (.cells cur T (0, 0)) ∧ n ≤ c ∧ c ≤ 9223372036854775807 ∧ cur.toList.take n = xs ∧ ∀ i u, i < n → xs[i]? = some u → w.cell? ⟨g, i, none⟩ = some u := by
  rcases h.2 with ⟨_, h0⟩ | ⟨g, cap, cur, rfl, hb, hh, h1, h2, h3, h4⟩
  · omega
  · refine ⟨g, cap, cur, rfl, hb, hh, h1, h2, by simpa using h4, fun i u hi hu => ?_⟩
    rw [← h4, List.getElem?_take_of_lt (by omega)] at hu
    rw [cell_of_row _ g _ _ _ (0, 0) hh]; simpa using hu
theorem own_set {T : TypeId} {w : World} {B g c n : Nat} {xs : List Value} (h : w.ownsRow B T 1 (.slice (some ⟨g, 0, none⟩) n c) n xs) {i : Nat} (hi : i < n) (u : Value) : (w.setCell ⟨g, i, none⟩ u).ownsRow B T 1 (.slice (some ⟨g, 0, none⟩) n c) n (xs.set i u) := by
  refine ⟨by rw [List.length_set]; exact h.1, ?_⟩
  rcases h.2 with ⟨hv, _⟩ | ⟨g', cap, cur, hv, hb, hh, h1, h2, h3, h4⟩
  · cases hv
  · simp only [Value.slice.injEq, Option.some.injEq, Addr.mk.injEq, true_and, and_true] at hv
    obtain ⟨rfl, rfl⟩ := hv
    refine .inr ⟨g, c, cur.setIfInBounds i u, rfl, hb, ?_, h1, h2, by simpa using h3, ?_⟩
    · rw [heap_setCell_same w g i _ _ _ hh]
    · rw [Array.toList_setIfInBounds, List.take_set, h4]
theorem wds_set (G : List Int) (i : Nat) (x : Int) : (wds G).set i (.int .u64 x) = wds (G.set i x) := by simp [wds, List.map_set]
set_option maxRecDepth 8000 in
set_option maxHeartbeats 4000000 in
theorem rgive {N : Nat} {w : World} {v : Value} {L : List Nat} {G : List Int} (h : FV N w v L G) {s : Nat} (s1 : 1 ≤ s) (s2 : s ≤ G.length) (gl : G.length ≤ 250) (ll : L.length ≤ 250) (hg : 0 ≤ G.getD (s - 1) 0 ∧ G.getD (s - 1) 0 < 1000) (hN : N ≤ w.heap.size) :
    Calls Try.prog 14 #[v, .int .i64 s] w fun e w' => ∃ v', e = .returned v' ∧ FV N w' v' (s :: L) (G.set (s - 1) (G.getD (s - 1) 0 + 1)) ∧ Below w.heap.size w w' := by
  refine Calls.veil fun Q HQ => ?_
  obtain ⟨a, b, rfl, h1, h2⟩ := h.e
  obtain ⟨p, c, rfl, q1, q2, _⟩ := h1.parts
  obtain ⟨pb, cb, rfl, r1, r2, _⟩ := h2.parts
  rw [ints_len] at q1 h1 ⊢
  rw [wds_len] at r1 h2 ⊢
  have H1 := Lib.hid h1; have H2 := Lib.hid h2
  clear h h1 h2
  go_enter Try.func14, Try.ntmps14
  go_upto_region 1 with fail
  generalize hU : World.alloc w _ = U
  generalize hV : World.alloc U _ = V
  obtain ⟨u0, hbu⟩ := Th.heapnewE hU
  obtain ⟨v0, hbv⟩ := Th.heapnewE hV
  have u0 := (hbv.block _ (Th.blk_lt u0)).trans u0
  have hs : U.heap.size = w.heap.size + 1 := by rw [← hU]; simp
  obtain ⟨b1, hb1⟩ : ∃ b1, b1 = w.heap.size := ⟨_, rfl⟩
  obtain ⟨b2, hb2⟩ : ∃ b2, b2 = w.heap.size + 1 := ⟨_, rfl⟩
  have hbw := below_on hbu hbv
  have hne : b2 ≠ b1 := by omega
  rw [← hb1] at u0
  rw [hs, ← hb2] at v0
  rw [← hb2, ← hb1]
  have HB := Lib.hid hbw; have HG := Lib.hid (show w.heap.size ≤ b1 ∧ w.heap.size ≤ b2 by omega)
  have HU0 := Lib.hid (show Th.Blk 34 V b1 2 (fun j => if j = 0 then .slice p L.length c else .slice pb G.length cb) from u0)
  have HV0 := Lib.hid (show Th.Blk 34 V b2 2 (fun _ => .slice none 0 0) from v0)
  have HLT := Lib.hid (show b1 < V.heap.size ∧ b2 < V.heap.size ∧ w.heap.size ≤ V.heap.size from ⟨Th.blk_lt u0, Th.blk_lt v0, hbw.size⟩)
  have x0 := HU0.out.get (i := 0) (by omega); have x1 := HU0.out.get (i := 1) (by omega)
  simp only [if_true, if_neg (show ¬ (1 : Nat) = 0 by omega)] at x0 x1
  clear hU hV u0 v0 hbu hbv hbw hb1 hb2 hs
  obtain ⟨x, hx⟩ : ∃ x, x = G.getD (s - 1) 0 := ⟨_, rfl⟩
  have HX := Lib.hid hx
  rw [← hx] at hg
  clear hx
  have x0n := fun o => Ext.on x0 o; have x1n := fun o => Ext.on x1 o
  go_upto_region 2 with (at_builtin; refine wpList_append_v uSU infU rfl rfl (.tmp 6) (.tmp 8) rfl V.heap.size N _ _ [] (wds G) rfl (own_none V) rfl (H2.out.below (HB.out.alloc HB.out.size _)) (wds_one G) (by rw [wds_len]; simp; omega) (by simp) ?_)
  intro v1 w1 hown hgrow
  have hb1 : Below V.heap.size V w1 := grown_below (T := 22) (own_none V) ((Below.refl _ _).alloc (Nat.le_refl _) _) (Nat.le_refl _) hgrow
  have hown : w1.ownsRow V.heap.size 22 1 v1 G.length (wds G) := by have h9 := hown; simp only [List.nil_append, wds_len] at h9; exact h9
  obtain ⟨g5, c5, cur, rfl, e1, e2, e3, e4, e5, e6⟩ := own_cons hown (by omega)
  have y0 : w1.cell? ⟨g5, s - 1, none⟩ = some (.int .u64 x) := e6 (s - 1) _ (by omega) (by rw [wds_get (by omega), HX.out]; simp [List.getD_eq_getElem?_getD, List.getElem?_eq_getElem (show s - 1 < G.length by omega)])
  have y1 : w1.frozen? ⟨g5, s - 1, none⟩ = false := frozen_of_row _ _ _ _ _ e2
  have HOW := Lib.hid hown; have HB1 := Lib.hid hb1
  clear hown hgrow hb1 e2 e5 e6 x0 x1 x0n x1n
  go_upto_region 3 with fail
  generalize hW : World.setCell w1 _ _ = W
  have hrow := own_set HOW.out (show s - 1 < G.length by omega) (.int .u64 (x + 1))
  rw [hW, wds_set] at hrow
  have hvr := own_VR hrow (by rw [wds_len, List.length_set])
  have hg5 : ∀ k, k < V.heap.size → W.heap[k]? = V.heap[k]? := fun k hk => by
    rw [← hW]
    exact (heap_setCell_other _ _ _ _ (by simp only; omega)).trans (HB1.out.block k hk)
  have hbW : Below w.heap.size w W := by
    rw [← hW]
    exact below_set (below_on HB.out (HB1.out)) (by have := HLT.out; omega) _
  have HVR := Lib.hid hvr; have HBW := Lib.hid hbW
  have HUW := Lib.hid (HU0.out.of (hg5 b1 HLT.out.1)); have HVW := Lib.hid (HV0.out.of (hg5 b2 HLT.out.2.1))
  have x1 := HUW.out.get (i := 1) (by omega); have f1 := HUW.out.fr 1
  simp only [if_neg (show ¬ (1 : Nat) = 0 by omega)] at x1
  have HE := Lib.hid e1
  have HSW := Lib.hid (show V.heap.size ≤ W.heap.size by rw [← hW]; simpa [World.setCell] using HB1.out.size)
  clear hW hrow hvr hg5 hbW y0 y1 e1 hg
  go_upto_region 4 with fail
  generalize hZ : World.setCell W _ _ = Z
  have HU2 := Lib.hid (show Th.Blk 34 Z b1 2 (fun j => if j = 0 then .slice p L.length c else .slice (some ⟨g5, 0, none⟩) G.length c5) by
    rw [← hZ]; exact (HUW.out.set 1 _).congr fun j hj => by rcases (by omega : j = 0 ∨ j = 1) with rfl | rfl <;> simp [Th.upF])
  have HV2 := Lib.hid (HVW.out.of (show Z.heap[b2]? = W.heap[b2]? by rw [← hZ]; exact heap_setCell_other _ _ _ _ hne))
  have HVZ := Lib.hid (show VR V.heap.size 22 Z (.slice (some ⟨g5, 0, none⟩) G.length c5) (wds (G.set (s - 1) (x + 1))) from HVR.out.of fun j cur hj hc => by
    rw [← hZ]
    refine heap_setCell_other _ _ _ _ ?_
    have := HLT.out.1
    simp only
    omega)
  have hbZ : Below w.heap.size w Z := by rw [← hZ]; exact below_set HBW.out HG.out.1 _
  have HBZ := Lib.hid hbZ
  have HSZ := Lib.hid (show V.heap.size ≤ Z.heap.size by rw [← hZ]; simpa [World.setCell] using HSW.out)
  have x0 := HU2.out.get (i := 0) (by omega)
  simp only [if_true] at x0
  have x0n := fun o => Ext.on x0 o
  clear hZ hbZ x1 f1
  go_upto_region 5 with (at_builtin; refine wpList_append_v uSI infI rfl rfl (.tmp 20) (.tmp 22) rfl Z.heap.size N _ _ [.int .i64 s] (ints L) rfl (own_one Z _) rfl (H1.out.below (HBZ.out.alloc HBZ.out.size _)) (ints_one L) (by rw [ints_len]; simp; omega) (by simp) ?_)
  intro v2 w2 hown hgrow
  have hb2 : Below Z.heap.size Z w2 := grown_below (T := 3) (own_one Z _) ((Below.refl _ _).alloc (Nat.le_refl _) _) (Nat.le_refl _) hgrow
  have hown : w2.ownsRow Z.heap.size 3 1 v2 (L.length + 1) (ints (s :: L)) := by
    have h9 : w2.ownsRow Z.heap.size 3 1 v2 (ints (s :: L)).length (ints (s :: L)) := hown
    rw [ints_len] at h9
    exact h9
  obtain ⟨g6, c6, cur6, rfl, k1, k2, k3, k4, k5, k6⟩ := own_cons hown (by omega)
  have HO2 := Lib.hid (own_VR hown (by rw [ints_len]; rfl))
  have HB2 := Lib.hid hb2; have HK1 := Lib.hid k1
  have HU3 := Lib.hid (HU2.out.of (hb2.block b1 (by have := HLT.out.1; have := HSZ.out; omega))); have HV3 := Lib.hid (HV2.out.of (hb2.block b2 (by have := HLT.out.2.1; have := HSZ.out; omega)))
  clear hown hgrow hb2 k1 k2 k5 k6 x0 x0n
  have x0 := HU3.out.get (i := 0) (by omega); have f0 := HU3.out.fr 0
  simp only [if_true] at x0
  go_upto_region 5 with fail
  generalize hY : World.setCell w2 _ _ = Y
  have HU4 := Lib.hid (show Th.Blk 34 Y b1 2 (fun j => if j = 0 then .slice (some ⟨g6, 0, none⟩) (L.length + 1) c6 else .slice (some ⟨g5, 0, none⟩) G.length c5) by
    rw [← hY]; exact (HU3.out.set 0 _).congr fun j hj => by rcases (by omega : j = 0 ∨ j = 1) with rfl | rfl <;> simp [Th.upF])
  have HV4 := Lib.hid (HV3.out.of (show Y.heap[b2]? = w2.heap[b2]? by rw [← hY]; exact heap_setCell_other _ _ _ _ hne))
  have hbY : Below w.heap.size w Y := by rw [← hY]; exact below_set (below_on HBZ.out HB2.out) HG.out.1 _
  have hvI : VR Z.heap.size 3 Y (.slice (some ⟨g6, 0, none⟩) (L.length + 1) c6) (ints (s :: L)) := HO2.out.of fun j cur hj hc => by
    rw [← hY]
    refine heap_setCell_other _ _ _ _ ?_
    have := HLT.out.1; have := HSZ.out
    simp only
    omega
  have hvU : VR V.heap.size 22 Y (.slice (some ⟨g5, 0, none⟩) G.length c5) (wds (G.set (s - 1) (x + 1))) := (HVZ.out.below HB2.out).of fun j cur hj hc => by
    rw [← hY]
    refine heap_setCell_other _ _ _ _ ?_
    have := HLT.out.1
    simp only
    omega
  have HBY := Lib.hid hbY; have HVI := Lib.hid hvI; have HVU := Lib.hid hvU
  clear hY hbY hvI hvU x0 f0
  have x0 := HU4.out.get (i := 0) (by omega); have x1 := HU4.out.get (i := 1) (by omega)
  simp only [if_true, if_neg (show ¬ (1 : Nat) = 0 by omega)] at x0 x1
  have n0 := HV4.out.get (i := 0) (by omega); have f0 := HV4.out.fr 0
  have n1 : ∀ u, (Y.setCell ⟨b2, 0, none⟩ u).cell? ⟨b2, 1, none⟩ = some (.slice none 0 0) := fun u => (HV4.out.set 0 u).get (i := 1) (by omega)
  have f1 : ∀ u, (Y.setCell ⟨b2, 0, none⟩ u).frozen? ⟨b2, 1, none⟩ = false := fun u => (HV4.out.set 0 u).fr 1
  go_wp2_with fail
  have z0 := (put2 HV4.out (.slice (some ⟨g6, 0, none⟩) (L.length + 1) c6) (.slice (some ⟨g5, 0, none⟩) G.length c5)).get (i := 0) (by omega); have z1 := (put2 HV4.out (.slice (some ⟨g6, 0, none⟩) (L.length + 1) c6) (.slice (some ⟨g5, 0, none⟩) G.length c5)).get (i := 1) (by omega)
  simp only [if_true, if_neg (show ¬ (1 : Nat) = 0 by omega)] at z0 z1
  refine bodyPost_ret (v := .agg #[.slice (some ⟨g6, 0, none⟩) (L.length + 1) c6, .slice (some ⟨g5, 0, none⟩) G.length c5]) ?_ rfl ?_
  · simp [results, Try.results14, go_sem, z0, z1]
  rw [HQ.out]
  have hb := below_set (below_set HBY.out HG.out.2 (i := 0) (.slice (some ⟨g6, 0, none⟩) (L.length + 1) c6)) HG.out.2 (i := 1) (.slice (some ⟨g5, 0, none⟩) G.length c5)
  have hk : ∀ (j : Nat) T cur, T ≠ 34 → Y.heap[j]? = some (.cells cur T (0, 0)) → ((Y.setCell ⟨b2, 0, none⟩ (.slice (some ⟨g6, 0, none⟩) (L.length + 1) c6)).setCell ⟨b2, 1, none⟩ (.slice (some ⟨g5, 0, none⟩) G.length c5)).heap[j]? = Y.heap[j]? := fun j T cur hT hc => by
    have : j ≠ b2 := by
      intro e
      rw [e, show Y.heap[b2]? = _ from HV4.out] at hc
      simp only [Option.some.injEq, Obj.cells.injEq] at hc
      exact hT hc.2.1.symm
    exact (heap_setCell_other _ _ _ _ this).trans (heap_setCell_other _ _ _ _ this)
  refine ⟨_, rfl, ⟨_, _, rfl, ?_, ?_⟩, hb⟩
  · exact (HVI.out.of fun j cur _ hc => hk j _ cur (by decide) hc).mono (by have := HBZ.out.size; omega)
  · rw [← HX.out]
    exact (HVU.out.of fun j cur _ hc => hk j _ cur (by decide) hc).mono (by have := HLT.out.2.2; omega)
end Go.Proofs.Ytlahpnigabfenaa.Sl

/- Layer 17: the reference's New. -/
namespace Go.Proofs.Ytlahpnigabfenaa.Sl
open Go.RowKit
set_option linter.unusedVariables false
set_option linter.unusedSimpArgs false
def frees (s : Nat) : List Nat := (List.range (s - 5)).map fun i => i + 6
def fr (i : Nat) : List Nat := (List.range (i - 6)).map fun i => i + 6
theorem fr_len (i : Nat) : (fr i).length = i - 6 := by simp [fr]
theorem fr_succ {i : Nat} (h : 6 ≤ i) : fr i ++ [i] = fr (i + 1) := by
  unfold fr
  rw [show i + 1 - 6 = (i - 6) + 1 by omega, List.range_succ, List.map_append, List.map_cons, List.map_nil, show i - 6 + 6 = i by omega]
structure NI (w wr : World) (b2 b3 b4 S s i : Nat) : Prop where
  e : ∃ p c, Th.Blk 34 wr b3 2 (fun j => if j = 0 then .slice p (i - 6) c else .slice (some ⟨b4, 0, none⟩) s s) ∧ wr.ownsRow S 3 1 (.slice p (i - 6) c) (i - 6) (ints (fr i)) ∧ c ≤ 9223372036854775807 ∧ i - 6 ≤ c
  r : Th.Blk 34 wr b2 2 (fun _ => .slice none 0 0)
  g : wr.heap[b4]? = some (.cells (Gd.cG (fun _ => 0) s).toArray 22 (0, 0))
  b : Below w.heap.size w wr
  S : S ≤ wr.heap.size
set_option maxRecDepth 8000 in
set_option maxHeartbeats 4000000 in
theorem rnew (s : Nat) (s1 : 7 ≤ s) (s2 : s ≤ 250) (w : World) :
    Calls Try.prog 8 #[.int .i64 s] w fun e w' => ∃ v', e = .returned v' ∧ FV w.heap.size w' v' (frees s) (List.replicate s 0) ∧ Below w.heap.size w w' := by
  refine Calls.veil fun Q HQ => ?_
  go_enter Try.func8, Try.ntmps8
  have hms := fun (w : World) => Gd.run_gens s s2 w
  go_upto_region 1 with fail
  generalize hU : World.alloc w _ = U
  obtain ⟨u0, hbu⟩ := Th.heapnewE hU
  obtain ⟨b2, hb2⟩ : ∃ b2, b2 = w.heap.size := ⟨_, rfl⟩
  rw [← hb2] at u0 ⊢
  have HBU := Lib.hid hbu; have HG := Lib.hid (show w.heap.size ≤ b2 ∧ b2 < U.heap.size from ⟨by omega, Th.blk_lt u0⟩)
  have HV0 := Lib.hid (show Th.Blk 34 U b2 2 (fun _ => .slice none 0 0) from u0)
  clear hU u0 hbu hb2
  go_upto_region 2 with fail
  generalize hA : World.alloc U _ = A
  generalize hC : World.alloc A _ = C
  obtain ⟨a0, hba⟩ := Th.heapnewE hA
  obtain ⟨c0, hbc⟩ := Th.heapnewE hC
  have hsA : A.heap.size = U.heap.size + 1 := by rw [← hA]; simp
  have hsC : C.heap.size = U.heap.size + 2 := by rw [← hC]; simp [hsA]
  obtain ⟨b4, hb4⟩ : ∃ b4, b4 = U.heap.size := ⟨_, rfl⟩
  obtain ⟨b3, hb3⟩ : ∃ b3, b3 = U.heap.size + 1 := ⟨_, rfl⟩
  have a0 := (hbc.block _ (Th.blk_lt a0)).trans a0
  have hv2 := (HV0.out.below hba).below hbc
  have hbw := below_on (below_on HBU.out hba) hbc
  rw [hsA, ← hb3, ← hb4] at c0
  rw [← hb4] at a0
  rw [← hb3, ← hb4]
  have HS := Lib.hid (show b3 < C.heap.size ∧ b4 < C.heap.size ∧ b2 < C.heap.size ∧ b2 ≠ b3 ∧ b4 ≠ b3 ∧ b2 ≠ b4 ∧ w.heap.size ≤ b3 ∧ w.heap.size ≤ b4 by have := HG.out; omega)
  have HI : Hid (NI w C b2 b3 b4 C.heap.size s 6) := Lib.hid ⟨⟨none, 0, c0, ⟨rfl, .inl ⟨rfl, rfl⟩⟩, by decide, by omega⟩, hv2, a0, hbw, Nat.le_refl _⟩
  clear hA hC a0 c0 hba hbc hsA hsC hb4 hb3 hv2 hbw hms
  go_upto_region 3 with fail
  go_loopw [4] (fun iv wr => ∃ i : Nat, 6 ≤ i ∧ i ≤ s + 1 ∧ iv = .int .i64 i ∧ Hid (NI w wr b2 b3 b4 C.heap.size s i)) (fun iv _ => s + 1 - (intOf iv).toNat)
  case atStart => exact ⟨6, by omega, by omega, rfl, HI⟩
  case round =>
    obtain ⟨i, hi6, his, rfl, HN⟩ := hrel
    obtain ⟨p, c, h1, h2, h3, h4⟩ := HN.out.e
    have hr := HN.out.r
    have x0 := h1.get (i := 0) (by omega); have x1 := h1.get (i := 1) (by omega)
    simp only [if_true, if_neg (show ¬ (1 : Nat) = 0 by omega)] at x0 x1
    have H1 := Lib.hid h1; have H2 := Lib.hid h2; have HR := Lib.hid hr
    clear h1 h2 hr
    rcases (by omega : i ≤ s ∨ i = s + 1) with hle | rfl
    · have x0n := fun o => Ext.on x0 o
      go_wp2_with (at_builtin; refine wpList_append_v uSI infI rfl rfl (.tmp 14) (.tmp 16) rfl C.heap.size wr.heap.size _ _ (ints (fr i)) [.int .i64 i] rfl (by rw [ints_len, fr_len]; exact own_below H2.out ((Below.refl _ _).alloc (Nat.le_refl _) _)) rfl (one_VR _ rfl) (by simp [Value.oneCell']) (by rw [ints_len, fr_len]; simp; omega) (by have := HN.out.S; simp; omega) ?_)
      intro v1 w1 hown hgrow
      have hb : Below C.heap.size wr w1 := by
        have h5 := own_below H2.out ((Below.refl wr.heap.size wr).alloc (Nat.le_refl _) (.cells #[.int .i64 i] 3))
        exact ((Below.refl C.heap.size wr).alloc HN.out.S _).grown hgrow (by have := HN.out.S; simp; omega) (own_ge h5)
      have hown : w1.ownsRow C.heap.size 3 1 v1 (i + 1 - 6) (ints (fr (i + 1))) := by
        have h9 := hown
        have e9 : ints (fr i) ++ [.int .i64 i] = ints (fr (i + 1)) := by rw [← fr_succ hi6, ints_app]; rfl
        rw [e9, ints_len, fr_len, show i - 6 + 1 = i + 1 - 6 by omega] at h9
        exact h9
      obtain ⟨g6, c6, cur6, rfl, k1, k2, k3, k4, _, _⟩ := own_cons hown (by omega)
      have HO := Lib.hid hown; have HB := Lib.hid hb; have HK := Lib.hid k1
      have HU := Lib.hid (H1.out.of (hb.block b3 HS.out.1))
      clear hown hgrow hb k1 k2 x0 x1 x0n
      have x0 := HU.out.get (i := 0) (by omega); have f0 := HU.out.fr 0
      simp only [if_true] at x0
      go_upto_region 4 with fail
      generalize hY : World.setCell w1 _ _ = Y
      have HF : Hid (NI w Y b2 b3 b4 C.heap.size s (i + 1)) := by
        have hbY : Below w.heap.size w Y := by rw [← hY]; exact below_set (HN.out.b.trans (HB.out.mono (by have := HS.out; omega))) HS.out.2.2.2.2.2.2.1 _
        have ho : ∀ j, j ≠ b3 → Y.heap[j]? = w1.heap[j]? := fun j hj => by rw [← hY]; exact heap_setCell_other _ _ _ _ hj
        refine Lib.hid ⟨⟨some ⟨g6, 0, none⟩, c6, ?_, ?_, by omega, by omega⟩, HR.out.of ((ho b2 HS.out.2.2.2.1).trans (HB.out.block b2 HS.out.2.2.1)), ((ho b4 HS.out.2.2.2.2.1).trans (HB.out.block b4 HS.out.2.1)).trans HN.out.g, hbY, ?_⟩
        · rw [← hY]; exact (HU.out.set 0 _).congr fun j hj => by rcases (by omega : j = 0 ∨ j = 1) with rfl | rfl <;> simp [Th.upF]
        · exact own_kept HO.out fun b hb => ho b (by have := own_ge HO.out b hb; have := HS.out.1; omega)
        · rw [← hY]; have := HN.out.S; have := HB.out.size; simp only [World.setCell]; simp; omega
      clear hY x0 f0
      go_wp2_with fail
      go_roundw
      case rel => exact ⟨i + 1, by omega, by omega, by go_num, HF⟩
      case measure => simp [intOf]; omega
    · rw [show s + 1 - 6 = s - 5 by omega] at x0 H1 H2
      have n0 := HR.out.get (i := 0) (by omega); have f0 := HR.out.fr 0
      have n1 : ∀ u, (wr.setCell ⟨b2, 0, none⟩ u).cell? ⟨b2, 1, none⟩ = some (.slice none 0 0) := fun u => (HR.out.set 0 u).get (i := 1) (by omega)
      have f1 : ∀ u, (wr.setCell ⟨b2, 0, none⟩ u).frozen? ⟨b2, 1, none⟩ = false := fun u => (HR.out.set 0 u).fr 1
      go_wp2_with fail
      have z0 := (put2 HR.out (.slice p (s - 5) c) (.slice (some ⟨b4, 0, none⟩) s s)).get (i := 0) (by omega); have z1 := (put2 HR.out (.slice p (s - 5) c) (.slice (some ⟨b4, 0, none⟩) s s)).get (i := 1) (by omega)
      simp only [if_true, if_neg (show ¬ (1 : Nat) = 0 by omega)] at z0 z1
      refine bodyPost_ret (v := .agg #[.slice p (s - 5) c, .slice (some ⟨b4, 0, none⟩) s s]) ?_ rfl ?_
      · simp [results, Try.results8, go_sem, z0, z1]
      rw [HQ.out]
      have hb := below_set (below_set HN.out.b HG.out.1 (i := 0) (.slice p (s - 5) c)) HG.out.1 (i := 1) (.slice (some ⟨b4, 0, none⟩) s s)
      have hk : ∀ (j : Nat) T cur, T ≠ 34 → wr.heap[j]? = some (.cells cur T (0, 0)) → ((wr.setCell ⟨b2, 0, none⟩ (.slice p (s - 5) c)).setCell ⟨b2, 1, none⟩ (.slice (some ⟨b4, 0, none⟩) s s)).heap[j]? = wr.heap[j]? := fun j T cur hT hc => by
        have : j ≠ b2 := by
          intro e
          rw [e, show wr.heap[b2]? = _ from HR.out] at hc
          simp only [Option.some.injEq, Obj.cells.injEq] at hc
          exact hT hc.2.1.symm
        exact (heap_setCell_other _ _ _ _ this).trans (heap_setCell_other _ _ _ _ this)
      refine ⟨_, rfl, ⟨_, _, rfl, ?_, ?_⟩, hb⟩
      · have h5 : VR C.heap.size 3 wr (.slice p (s - 5) c) (ints (fr (s + 1))) := own_VR H2.out (by rw [ints_len, fr_len]; omega)
        exact (h5.of fun j cur _ hc => hk j _ cur (by decide) hc).mono (by have := HS.out; omega)
      · have h6 : VR w.heap.size 22 wr (.slice (some ⟨b4, 0, none⟩) s s) (wds (List.replicate s 0)) := by
          have h7 := VR.row (N := w.heap.size) (T := 22) (w := wr) b4 0 s (wds (List.replicate s 0)) HS.out.2.2.2.2.2.2.2 ⟨_, HN.out.g⟩ (by simp [wds]) (by omega) fun i u hu => by
            have hi : i < s := by have := (List.getElem?_eq_some_iff.1 hu).1; simpa [wds] using this
            rw [Nat.zero_add, cell_of_row _ b4 _ _ _ (0, 0) HN.out.g]
            rw [wds_get (by simpa using hi)] at hu
            simp only [Option.some.injEq] at hu
            subst hu
            simp [Gd.cG, hi]
          rw [wds_len, List.length_replicate] at h7
          exact h7
        exact h6.of fun j cur _ hc => hk j _ cur (by decide) hc
end Go.Proofs.Ytlahpnigabfenaa.Sl
