/- EdgeMarks. -/
import Derived.Test.YtphkmnjpaiecoaaEdgeL
import Derived.Test.YtphkmnjpaiecoaaExt
import Derived.Test.YtphkmnjpaiecoaaFrame
import Derived.Deep.Cut
namespace Go.Proofs.Ytphkmnjpaiecoaa
open Go.RowKit EdgeM
set_option linter.unusedVariables false
set_option linter.unusedSimpArgs false

/-- Three blocks alike, made one behind the other. -/
theorem three_cells {W : World} {s : Nat} (hs : W.heap.size = s) (a : Array Value) (T : TypeId) (b : Nat) (hb : b = s ∨ b = s + 1 ∨ b = s + 1 + 1) :
    (∀ i v, a[i]? = some v → ((((W.alloc (.cells a T)).alloc (.cells a T)).alloc (.cells a T)).drew).cell? ⟨b, i, none⟩ = some v) ∧ ∀ i, ((((W.alloc (.cells a T)).alloc (.cells a T)).alloc (.cells a T)).drew).frozen? ⟨b, i, none⟩ = false := by
  subst hs
  have k1 : ∀ o1 o2 : Obj, Below (W.alloc (.cells a T)).heap.size (W.alloc (.cells a T)) (((W.alloc (.cells a T)).alloc o1).alloc o2).drew := fun o1 o2 => by (repeat (first | exact Below.refl _ _ | assumption | refine below_new ?_ _ | refine Below.drew ?_ | refine below_drewN ?_ _ | refine below_on ?_ (by assumption)))
  have k2 : ∀ o2 : Obj, Below ((W.alloc (.cells a T)).alloc (.cells a T)).heap.size ((W.alloc (.cells a T)).alloc (.cells a T)) (((W.alloc (.cells a T)).alloc (.cells a T)).alloc o2).drew := fun o2 => by (repeat (first | exact Below.refl _ _ | assumption | refine below_new ?_ _ | refine Below.drew ?_ | refine below_drewN ?_ _ | refine below_on ?_ (by assumption)))
  have k3 : Below (((W.alloc (.cells a T)).alloc (.cells a T)).alloc (.cells a T)).heap.size (((W.alloc (.cells a T)).alloc (.cells a T)).alloc (.cells a T)) (((W.alloc (.cells a T)).alloc (.cells a T)).alloc (.cells a T)).drew := by (repeat (first | exact Below.refl _ _ | assumption | refine below_new ?_ _ | refine Below.drew ?_ | refine below_drewN ?_ _ | refine below_on ?_ (by assumption)))
  have e2 : (W.alloc (.cells a T)).heap.size = W.heap.size + 1 := by simp
  have e3 : ((W.alloc (.cells a T)).alloc (.cells a T)).heap.size = W.heap.size + 1 + 1 := by simp
  rcases hb with rfl | rfl | rfl
  · exact ⟨fun i v h => Ext.made_in rfl (k1 _ _) i v h, fun i => Ext.made_fr rfl (k1 _ _) i⟩
  · rw [← e2]; exact ⟨fun i v h => Ext.made_in rfl (k2 _) i v h, fun i => Ext.made_fr rfl (k2 _) i⟩
  · rw [← e3]; exact ⟨fun i v h => Ext.made_in rfl k3 i v h, fun i => Ext.made_fr rfl k3 i⟩

set_option maxHeartbeats 2000000 in
theorem edgeMarks_walk (v0 v1 : Value) (w : World) (s0 : Fr.ok1 w (.int .u64) v0) (s1 : Fr.ok1 w (.int .u64) v1) :
    Calls Try.prog 5 #[v0, v1] w fun e w' => e = .returned (.bool true) ∧ Below w.heap.size w w' := by
  obtain ⟨e, rfl, we⟩ := Fr.get_int s0
  obtain ⟨o, rfl, wo⟩ := Fr.get_int s1
  obtain ⟨e1, e2⟩ := wfu64 we
  obtain ⟨o1, o2⟩ := wfu64 wo
  clear s0 s1 we wo
  have q1 : (flaggedI e == putI (e % 4096) (e / 4096 % 1125899906842624) true (tagB e)) = true := by
    simp only [beq_iff_eq]; unfold flaggedI putI
    cases ht : tagB e
    · have := tagB_false ht; simp; omega
    · have := tagB_true ht; simp; omega
  have q2 : (taggedI e == putI (e % 4096) (e / 4096 % 1125899906842624) (flagB e) true) = true := by
    simp only [beq_iff_eq]; unfold taggedI putI
    cases ht : flagB e
    · have := flagB_false ht; simp; omega
    · have := flagB_true ht; simp; omega
  have q3 : (e % 9223372036854775808 == putI (e % 4096) (e / 4096 % 1125899906842624) (flagB e) false) = true := by
    simp only [beq_iff_eq]; unfold putI
    cases ht : flagB e
    · have := flagB_false ht; simp; omega
    · have := flagB_true ht; simp; omega
  have q4 : ((e % 4611686018427387904 == o % 4611686018427387904) = true ∧ (e % 4096 == o % 4096) = true ∧ (e / 4096 % 1125899906842624 == o / 4096 % 1125899906842624) = true) ∨ ((e % 4611686018427387904 == o % 4611686018427387904) = false ∧ (e % 4096 == o % 4096) = false) ∨ ((e % 4611686018427387904 == o % 4611686018427387904) = false ∧ (e % 4096 == o % 4096) = true ∧ (e / 4096 % 1125899906842624 == o / 4096 % 1125899906842624) = false) := by
    simp only [beq_iff_eq, beq_eq_false_iff_ne, ne_eq]; omega
  go_enter Try.func5, Try.ntmps5
  go_wp2_with fail
  refine (read3_calls _ _ e1 e2).mono ?_; rintro _ w1 ⟨rfl, hb1⟩
  go_wp2_with fail
  refine (read3_calls _ _ o1 o2).mono ?_; rintro _ w2 ⟨rfl, hb2⟩
  have hB2 : Below w.heap.size w w2 := hb1.trans (hb2.mono hb1.size)
  clear hb1 hb2
  go_wp2_with fail
  generalize hW : World.alloc _ _ = W at *
  have hBW : Below w.heap.size w W := by rw [← hW]; exact (hB2.alloc hB2.size _).alloc (by simp; have := hB2.size; omega) _
  have x0 := Ext.made1 hW 0 _ rfl ⟨W, Below.refl _ _⟩; have x1 := Ext.made1 hW 1 _ rfl ⟨W, Below.refl _ _⟩; have x2 := Ext.made1 hW 2 _ rfl ⟨W, Below.refl _ _⟩; have x3 := Ext.made1 hW 3 _ rfl ⟨W, Below.refl _ _⟩
  have y0 := Ext.made hW 0 _ rfl ⟨W, Below.refl _ _⟩; have y1 := Ext.made hW 1 _ rfl ⟨W, Below.refl _ _⟩
  have hWs : W.heap.size = w2.heap.size + 1 + 1 := by rw [← hW]; simp
  clear hW
  have hs1 : ∀ o, (World.alloc w2 o).heap.size = w2.heap.size + 1 := fun o => by simp
  rw [hs1] at y0 y1
  clear hs1
  dsimp only at x0 x1 x2 x3 y0 y1
  rename_i K hK
  have tail : ∀ (A B C : Nat) (V : World), A ≠ B → A ≠ C → B ≠ C → W.heap.size ≤ A → W.heap.size ≤ B → W.heap.size ≤ C → Below W.heap.size W V →
      (∀ b, b = A ∨ b = B ∨ b = C → (V.cell? ⟨b, 0, none⟩ = some (Value.int IntKind.i64 (e % 4096)) ∧ V.cell? ⟨b, 1, none⟩ = some (Value.int IntKind.u64 (e / 4096 % 1125899906842624)) ∧ V.cell? ⟨b, 2, none⟩ = some (Value.bool (flagB e)) ∧ V.cell? ⟨b, 3, none⟩ = some (Value.bool (tagB e))) ∧ ∀ i, V.frozen? ⟨b, i, none⟩ = false) →
      K ⟨#[Value.int IntKind.u64 e, Value.int IntKind.u64 o, undef, undef, Value.bool false, Value.pointer (some ⟨w2.heap.size, 0, none⟩), Value.pointer (some ⟨w2.heap.size + 1, 0, none⟩), Value.pointer (some ⟨A, 0, none⟩), Value.pointer (some ⟨B, 0, none⟩), Value.pointer (some ⟨C, 0, none⟩), Value.int IntKind.u64 e, Value.agg #[Value.int IntKind.i64 (e % 4096), Value.int IntKind.u64 (e / 4096 % 1125899906842624), Value.bool (flagB e), Value.bool (tagB e)], Value.int IntKind.u64 o, Value.agg #[Value.int IntKind.i64 (o % 4096), Value.int IntKind.u64 (o / 4096 % 1125899906842624), Value.bool (flagB o), Value.bool (tagB o)], Value.agg #[Value.int IntKind.i64 (e % 4096), Value.int IntKind.u64 (e / 4096 % 1125899906842624), Value.bool (flagB e), Value.bool (tagB e)], Value.agg #[Value.int IntKind.i64 (e % 4096), Value.int IntKind.u64 (e / 4096 % 1125899906842624), Value.bool (flagB e), Value.bool (tagB e)], Value.agg #[Value.int IntKind.i64 (e % 4096), Value.int IntKind.u64 (e / 4096 % 1125899906842624), Value.bool (flagB e), Value.bool (tagB e)], undef, undef, undef, undef, undef, undef, undef, undef, undef, undef, undef, undef, undef, undef, undef, undef, undef, undef, undef, undef, undef, undef, undef, undef, undef, undef, undef, undef, undef, undef, undef, undef, undef, undef, undef, undef, undef, undef, undef, undef, undef, undef, undef], []⟩ V := by
    intro A B C V hAB hAC hBC hA hB hC hV hc
    have hBA := hAB.symm; have hCA := hAC.symm; have hCB := hBC.symm
    obtain ⟨⟨u0, u1, u2, u3⟩, uf⟩ := hc A (.inl rfl)
    obtain ⟨⟨v0, v1, v2, v3⟩, vf⟩ := hc B (.inr (.inl rfl))
    obtain ⟨⟨t0, t1, t2, t3⟩, tf⟩ := hc C (.inr (.inr rfl))
    clear hc
    apply hK
    go_upto_region 6 with (fail)
    generalize hU : World.setCell _ _ _ = U at *
    have hBU : Below W.heap.size W U := by rw [← hU]; exact ((hV.setCell hA _).setCell hB _).setCell hC _
    have a0 : ∀ x : Ext U, x.w.cell? ⟨A, 0, none⟩ = some (Value.int IntKind.i64 (e % 4096)) := Ext.cells (by rw [← hU]; clear hU; go_simp)
    have a1 : ∀ x : Ext U, x.w.cell? ⟨A, 1, none⟩ = some (Value.int IntKind.u64 (e / 4096 % 1125899906842624)) := Ext.cells (by rw [← hU]; clear hU; go_simp)
    have a2 : ∀ x : Ext U, x.w.cell? ⟨A, 2, none⟩ = some (Value.bool true) := Ext.cells (by rw [← hU]; clear hU; go_simp)
    have a3 : ∀ x : Ext U, x.w.cell? ⟨A, 3, none⟩ = some (Value.bool (tagB e)) := Ext.cells (by rw [← hU]; clear hU; go_simp)
    have b0 : ∀ x : Ext U, x.w.cell? ⟨B, 0, none⟩ = some (Value.int IntKind.i64 (e % 4096)) := Ext.cells (by rw [← hU]; clear hU; go_simp)
    have b1 : ∀ x : Ext U, x.w.cell? ⟨B, 1, none⟩ = some (Value.int IntKind.u64 (e / 4096 % 1125899906842624)) := Ext.cells (by rw [← hU]; clear hU; go_simp)
    have b2 : ∀ x : Ext U, x.w.cell? ⟨B, 2, none⟩ = some (Value.bool (flagB e)) := Ext.cells (by rw [← hU]; clear hU; go_simp)
    have b3 : ∀ x : Ext U, x.w.cell? ⟨B, 3, none⟩ = some (Value.bool true) := Ext.cells (by rw [← hU]; clear hU; go_simp)
    have c0 : ∀ x : Ext U, x.w.cell? ⟨C, 0, none⟩ = some (Value.int IntKind.i64 (e % 4096)) := Ext.cells (by rw [← hU]; clear hU; go_simp)
    have c1 : ∀ x : Ext U, x.w.cell? ⟨C, 1, none⟩ = some (Value.int IntKind.u64 (e / 4096 % 1125899906842624)) := Ext.cells (by rw [← hU]; clear hU; go_simp)
    have c2 : ∀ x : Ext U, x.w.cell? ⟨C, 2, none⟩ = some (Value.bool (flagB e)) := Ext.cells (by rw [← hU]; clear hU; go_simp)
    have c3 : ∀ x : Ext U, x.w.cell? ⟨C, 3, none⟩ = some (Value.bool false) := Ext.cells (by rw [← hU]; clear hU; go_simp)
    have d0 : ∀ x : Ext U, x.w.cell? ⟨w2.heap.size, 0, none⟩ = some (Value.int IntKind.i64 (e % 4096)) := Ext.cells (Ext.use (Ext.cells x0) hBU)
    have d1 : ∀ x : Ext U, x.w.cell? ⟨w2.heap.size, 1, none⟩ = some (Value.int IntKind.u64 (e / 4096 % 1125899906842624)) := Ext.cells (Ext.use (Ext.cells x1) hBU)
    have f0 : ∀ x : Ext U, x.w.cell? ⟨w2.heap.size + 1, 0, none⟩ = some (Value.int IntKind.i64 (o % 4096)) := Ext.cells (Ext.use (Ext.cells y0) hBU)
    have f1 : ∀ x : Ext U, x.w.cell? ⟨w2.heap.size + 1, 1, none⟩ = some (Value.int IntKind.u64 (o / 4096 % 1125899906842624)) := Ext.cells (Ext.use (Ext.cells y1) hBU)
    have hBwU : Below w.heap.size w U := hBW.trans (hBU.mono hBW.size)
    clear u0 u1 u2 u3 v0 v1 v2 v3 t0 t1 t2 t3 uf vf tf x0 x1 x2 x3 y0 y1 hU hK hBW hBU hB2 hAB hAC hBC hBA hCA hCB hA hB hC hV hWs K
    generalize w2.heap.size + 1 = D' at *
    generalize w2.heap.size = D at *
    obtain ⟨x, hx⟩ : ∃ x : Ext U, x.w = U := ⟨⟨U, Below.refl _ _⟩, rfl⟩; rw [← hx]; clear hx
    rcases q4 with ⟨r1, r2, r3⟩ | ⟨r1, r2⟩ | ⟨r1, r2, r3⟩
    all_goals
      ((with_reducible refine ext_region _ ?_ ?_ ?_; kernel_rfl; kernel_rfl; (repeat (go_big_quiet_step (first | (go_at_call 16; refine Ext.same (emake_calls _ _ _ ?_) <;> omega) | (go_at_call 8; refine Ext.same (eslot_calls _ _ ?_ ?_) <;> omega) | (go_at_call 9; refine Ext.same (egen_calls _ _ ?_ ?_) <;> omega) | (go_at_call 10; refine Ext.same (eflag_calls _ _ ?_ ?_) <;> omega) | (go_at_call 11; refine Ext.same (etag_calls _ _ ?_ ?_) <;> omega) | (go_at_call 12; refine Ext.same (eplain_calls _ _ ?_ ?_) <;> omega) | (go_at_call 13; refine Ext.same (enode_calls _ _ ?_ ?_) <;> omega) | (go_at_call 17; refine Ext.same (eflagged_calls _ _ ?_ ?_) <;> omega) | (go_at_call 18; refine Ext.same (etagged_calls _ _ ?_ ?_) <;> omega) | (go_at_call 19; refine Ext.same (ekeep_calls _ _ ?_ ?_) <;> omega) | (go_at_call 20; refine Ext.same (eto_calls _ _ _ ?_ ?_ ?_ ?_) <;> omega) | (go_at_call 14; refine Ext.call (put3_calls _ _ _ _ _ ?_ ?_ ?_ ?_) <;> omega) | (go_at_call 7; refine Ext.call (read3_calls _ _ ?_ ?_) <;> omega) | (go_at_call 15; refine Ext.same (lives3_calls _) <;> omega)))); refine wpQuiet_nil ?_; rintro _ ⟨_, rfl⟩))
      go_wp2_with (first | (go_at_call 16; refine (emake_calls _ _ _ ?_).mono ?_; omega; rintro _ _ ⟨rfl, rfl⟩) | (go_at_call 8; refine (eslot_calls _ _ ?_ ?_).mono ?_; omega; omega; rintro _ _ ⟨rfl, rfl⟩) | (go_at_call 9; refine (egen_calls _ _ ?_ ?_).mono ?_; omega; omega; rintro _ _ ⟨rfl, rfl⟩) | (go_at_call 10; refine (eflag_calls _ _ ?_ ?_).mono ?_; omega; omega; rintro _ _ ⟨rfl, rfl⟩) | (go_at_call 11; refine (etag_calls _ _ ?_ ?_).mono ?_; omega; omega; rintro _ _ ⟨rfl, rfl⟩) | (go_at_call 12; refine (eplain_calls _ _ ?_ ?_).mono ?_; omega; omega; rintro _ _ ⟨rfl, rfl⟩) | (go_at_call 13; refine (enode_calls _ _ ?_ ?_).mono ?_; omega; omega; rintro _ _ ⟨rfl, rfl⟩) | (go_at_call 17; refine (eflagged_calls _ _ ?_ ?_).mono ?_; omega; omega; rintro _ _ ⟨rfl, rfl⟩) | (go_at_call 18; refine (etagged_calls _ _ ?_ ?_).mono ?_; omega; omega; rintro _ _ ⟨rfl, rfl⟩) | (go_at_call 19; refine (ekeep_calls _ _ ?_ ?_).mono ?_; omega; omega; rintro _ _ ⟨rfl, rfl⟩) | (go_at_call 20; refine (eto_calls _ _ _ ?_ ?_ ?_ ?_).mono ?_; omega; omega; omega; omega; rintro _ _ ⟨rfl, rfl⟩) | (go_at_call 14; refine (Ext.step (put3_calls _ _ _ _ _ ?_ ?_ ?_ ?_)).mono ?_; omega; omega; omega; omega; rintro _ _ ⟨rfl, _, rfl⟩) | (go_at_call 7; refine (Ext.step (read3_calls _ _ ?_ ?_)).mono ?_; omega; omega; rintro _ _ ⟨rfl, _, rfl⟩) | (go_at_call 15; refine (lives3_calls _).mono ?_; rintro _ _ ⟨rfl, rfl⟩) | (with_reducible refine ext_region _ ?_ ?_ ?_; kernel_rfl; kernel_rfl; (repeat (go_big_quiet_step (first | (go_at_call 16; refine Ext.same (emake_calls _ _ _ ?_) <;> omega) | (go_at_call 8; refine Ext.same (eslot_calls _ _ ?_ ?_) <;> omega) | (go_at_call 9; refine Ext.same (egen_calls _ _ ?_ ?_) <;> omega) | (go_at_call 10; refine Ext.same (eflag_calls _ _ ?_ ?_) <;> omega) | (go_at_call 11; refine Ext.same (etag_calls _ _ ?_ ?_) <;> omega) | (go_at_call 12; refine Ext.same (eplain_calls _ _ ?_ ?_) <;> omega) | (go_at_call 13; refine Ext.same (enode_calls _ _ ?_ ?_) <;> omega) | (go_at_call 17; refine Ext.same (eflagged_calls _ _ ?_ ?_) <;> omega) | (go_at_call 18; refine Ext.same (etagged_calls _ _ ?_ ?_) <;> omega) | (go_at_call 19; refine Ext.same (ekeep_calls _ _ ?_ ?_) <;> omega) | (go_at_call 20; refine Ext.same (eto_calls _ _ _ ?_ ?_ ?_ ?_) <;> omega) | (go_at_call 14; refine Ext.call (put3_calls _ _ _ _ _ ?_ ?_ ?_ ?_) <;> omega) | (go_at_call 7; refine Ext.call (read3_calls _ _ ?_ ?_) <;> omega) | (go_at_call 15; refine Ext.same (lives3_calls _) <;> omega)))); refine wpQuiet_nil ?_; rintro _ ⟨_, rfl⟩))
      go_ret
      exact ⟨by simp, Ext.below hBwU _⟩
  go_region
  all_goals
    refine tail _ _ _ _ ?_ ?_ ?_ ?_ ?_ ?_ ?_ ?_
    · omega
    · omega
    · omega
    · omega
    · omega
    · omega
    · (repeat (first | exact Below.refl _ _ | assumption | refine below_new ?_ _ | refine Below.drew ?_ | refine below_drewN ?_ _ | refine below_on ?_ (by assumption)))
    · intro b hb
      obtain ⟨hc, hf⟩ := three_cells hWs _ _ b (by omega)
      exact ⟨⟨hc 0 _ rfl, hc 1 _ rfl, hc 2 _ rfl, hc 3 _ rfl⟩, hf⟩
end Go.Proofs.Ytphkmnjpaiecoaa
