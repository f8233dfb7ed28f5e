/- CrB: several texts in one. -/
import Derived.Test.YtlahpnigabfenaaCrA
import Derived.Test.YtlahpnigabfenaaEdgQ
/- Layer 17: what the law of SlotsCrowd has in hand. -/
namespace Go.Proofs.Ytlahpnigabfenaa.Sl
open Go.RowKit WordM EdgeM
set_option linter.unusedVariables false
set_option linter.unusedSimpArgs false
set_option maxRecDepth 8000 in
set_option maxHeartbeats 2000000 in
/-- The free list, as it is. -/
theorem lchn {w : World} {P : Pc} {σ : Sg} (h : MM w P σ) {L : List Nat} (hL : Lk P.t P.s σ.f (σ.f 2 % 4096) L) (hn : L.length ≤ P.s) :
    Calls Try.prog 22 #[.pointer (some ⟨P.q, 0, none⟩)] w fun e w' => ∃ p c, e = .returned (.slice p L.length c) ∧ Below w.heap.size w w' := by
  refine Calls.veil fun Q HQ => ?_
  have HH := Lib.hid h; have HL := Lib.hid hL
  obtain ⟨⟨t1, t2⟩, s1, s2⟩ := h.bd
  clear h hL
  go_enter Try.func22, Try.ntmps22
  go_wp2_with fail
  refine (cPlan HH.out.c).mono ?_; rintro _ _ ⟨rfl, rfl⟩
  go_wp2_with fail
  refine (pconf_calls P.t P.s P.K P.pl w HH.out.c.p0 HH.out.c.p1 (Th.newcell HH.out.c.pln 2 _ rfl)).mono ?_; rintro _ w1 ⟨rfl, hb1⟩
  have HB1 := Lib.hid hb1
  clear hb1
  go_wp2_with fail
  refine (cMem (HH.out.c.below HB1.out)).mono ?_; rintro _ _ ⟨rfl, rfl⟩
  go_wp2_with fail
  refine (Mm.mwordsT _ _ _ _ _ _ _ w1 (HH.out.c.below HB1.out).mem).mono ?_; rintro _ w2 ⟨g', C', rfl, e1, e2, e3, ⟨e4, _⟩, hb2⟩
  have HB2 := Lib.hid (below_on HB1.out hb2); have HE4 := Lib.hid e4
  clear e4 hb2
  go_wp2_with fail
  refine (rchain (K := P.K) HE4.out t1 t2 s1 s2 HL.out hn (HH.out.c.mem.rng 2 (by omega))).mono ?_; rintro _ Z ⟨v', rfl, hv, hb3⟩
  obtain ⟨p, c, rfl, q1, q2, _⟩ := hv.parts
  have HB3 := Lib.hid (below_on HB2.out hb3)
  clear hv hb3
  simp only [ints_len]
  go_wp2_with fail
  (try go_ret)
  rw [HQ.out]
  exact ⟨_, _, rfl, HB3.out⟩
structure LH (w0 : World) (P : Pc) (cb hb eb : Nat) (w : World) (v : Nat → Value) (E : Nat → List Int) (em : Nat → Bool) : Prop where
  cf : w.heap[cb]? = some (.cells #[.int .i64 P.t, .int .i64 P.s, .int .u64 P.K] 24 (0, 0))
  hbk : Th.Blk 36 w hb P.t v
  rw : ∀ j, j < P.t → w.ownsRow P.N 42 1 (v j) (E j).length (wds (E j))
  sep : ∀ i j, i < P.t → j < P.t → i ≠ j → ∀ b, (v i).ownBlock = some b → (v j).ownBlock ≠ some b
  ebk : Th.Blk 4 w eb P.t (fun j => .bool (em j))
  N : P.N ≤ hb ∧ P.N ≤ eb ∧ cb < P.B
  bl : Below w0.heap.size w0 w
  B0 : w0.heap.size ≤ P.B
  NS : P.N ≤ w.heap.size ∧ P.B ≤ P.N
section
variable {w0 w w' : World} {P : Pc} {cb hb eb : Nat} {v : Nat → Value} {E : Nat → List Int} {em : Nat → Bool}
theorem LH.below (h : LH w0 P cb hb eb w v E em) (k : Below w.heap.size w w') : LH w0 P cb hb eb w' v E em :=
  ⟨Th.up k h.cf, h.hbk.below k, fun j hj => own_below (h.rw j hj) k, h.sep, h.ebk.below k, h.N, below_on h.bl k, h.B0, Nat.le_trans h.NS.1 k.size, h.NS.2⟩
theorem LH.ka (h : LH w0 P cb hb eb w v E em) (k : KA P.B P.N w w') : LH w0 P cb hb eb w' v E em := by
  refine ⟨(k.keep h.cf (.inl h.N.2.2) (by decide) (by decide)).trans h.cf, h.hbk.of (k.keep h.hbk (.inr h.N.1) (by decide) (by decide)), fun j hj => own_kept (h.rw j hj) fun b hb => ?_, h.sep, h.ebk.of (k.keep h.ebk (.inr h.N.2.1) (by decide) (by decide)), h.N, ⟨k.os.trans h.bl.os, k.tape.trans h.bl.tape, k.output.trans h.bl.output, Nat.le_trans h.bl.size k.size, fun j hj => (k.block j (Nat.lt_of_lt_of_le hj h.bl.size) (by have := h.B0; omega)).trans (h.bl.block j hj)⟩, h.B0, Nat.le_trans h.NS.1 k.size, h.NS.2⟩
  obtain ⟨cur, hc⟩ := own_ty (h.rw j hj) hb
  exact k.keep hc (.inr (own_ge (h.rw j hj) b hb)) (by decide) (by decide)
theorem LH.gi (h : LH w0 P cb hb eb w v E em) {k : Nat} (hk : k < P.t) : w.cell? ⟨eb, k, none⟩ = some (.bool (em k)) := h.ebk.get hk
theorem LH.gh (h : LH w0 P cb hb eb w v E em) {k : Nat} (hk : k < P.t) : w.cell? ⟨hb, k, none⟩ = some (v k) := h.hbk.get hk
theorem LH.low {B : Nat} {X i : Nat} {u : Value} (h : Below B w0 w) (hX : B ≤ X) : Below B w0 (w.setCell ⟨X, i, none⟩ u) := h.setCell (p := ⟨X, i, none⟩) hX u
/-- Whether the list was empty, of one thread. -/
theorem LH.sete (h : LH w0 P cb hb eb w v E em) {k : Nat} (hk : k < P.t) (x : Bool) {em' : Nat → Bool} (he : em' k = x ∧ ∀ j, j ≠ k → em' j = em j) :
    LH w0 P cb hb eb (w.setCell ⟨eb, k, none⟩ (.bool x)) v E em' ∧ Th.KS (fun j => j = eb) w (w.setCell ⟨eb, k, none⟩ (.bool x)) := by
  have ks := Th.KS.set w eb k (.bool x)
  have hN := h.N; have hB := h.B0; have hS := h.NS
  refine ⟨⟨(ks.block _ (Th.blk_lt h.cf) (by omega)).trans h.cf, h.hbk.of (ks.block _ (Th.blk_lt h.hbk) (Th.Blk.ne h.hbk h.ebk (by decide))), fun j hj => own_kept (h.rw j hj) fun b hb => ?_, h.sep, (h.ebk.set k (.bool x)).congr fun j hj => ?_, h.N, LH.low h.bl (by omega), h.B0, Nat.le_trans h.NS.1 ks.size, h.NS.2⟩, ks⟩
  · obtain ⟨cur, hc⟩ := own_ty (h.rw j hj) hb
    exact ks.block _ (Th.blk_lt hc) (ty_ne hc h.ebk (by decide))
  · unfold Th.upF
    by_cases e1 : j = k
    · rw [if_pos e1, e1, he.1]
    · rw [if_neg e1, he.2 j e1]
def updV (v : Nat → Value) (k : Nat) (x : Value) : Nat → Value := fun j => if j = k then x else v j
/-- A hand is another row: made by growing what it had, or anew. -/
theorem LH.seth (h : LH w0 P cb hb eb w v E em) {k : Nat} (hk : k < P.t) {x : Value} {l : List Int} (ks : Th.KS (fun j => (v k).ownBlock = some j) w w') (ho : w'.ownsRow P.N 42 1 x l.length (wds l)) (hn : ∀ b, x.ownBlock = some b → (v k).ownBlock = some b ∨ w.heap.size ≤ b) :
    LH w0 P cb hb eb (w'.setCell ⟨hb, k, none⟩ x) (updV v k x) (updE E k l) em := by
  have hN := h.N; have hB := h.B0; have hS := h.NS
  have hty : ∀ {j : Nat} {T : TypeId} {cur : Array Value}, w.heap[j]? = some (.cells cur T (0, 0)) → T ≠ 42 → w'.heap[j]? = w.heap[j]? := fun {j T cur} hj hT => ks.block j (Th.blk_lt hj) fun e => by
    obtain ⟨c2, h2⟩ := own_ty (h.rw k hk) e
    rw [h2] at hj
    simp only [Option.some.injEq, Obj.cells.injEq] at hj
    exact hT hj.2.1.symm
  have hb' : Th.Blk 36 w' hb P.t v := h.hbk.of (hty h.hbk (by decide))
  have ks2 := Th.KS.set w' hb k x
  have hxb : ∀ b, x.ownBlock = some b → b ≠ hb := fun b e => by
    obtain ⟨c2, h2⟩ := own_ty ho e
    exact ty_ne h2 hb' (by decide)
  have hlt : ∀ j, j < P.t → ∀ b, (v j).ownBlock = some b → b < w.heap.size := fun j hj b e => by
    obtain ⟨c2, h2⟩ := own_ty (h.rw j hj) e
    exact Th.blk_lt h2
  refine ⟨?_, (hb'.set k x).congr fun j _ => ?_, fun j hj => ?_, fun i j hi hj hij b e => ?_, ?_, hN, ?_, h.B0, by have := ks.size; simp [World.setCell]; omega, h.NS.2⟩
  · exact (ks2.block cb (Nat.lt_of_lt_of_le (Th.blk_lt h.cf) ks.size) (by omega)).trans ((hty h.cf (by decide)).trans h.cf)
  · unfold Th.upF updV; rfl
  · unfold updV updE
    by_cases e : j = k
    · rw [if_pos e, if_pos e]
      exact own_kept ho fun b hb2 => by
        obtain ⟨c2, h2⟩ := own_ty ho hb2
        exact ks2.block b (Th.blk_lt h2) (hxb b hb2)
    · rw [if_neg e, if_neg e]
      refine own_kept (h.rw j hj) fun b hb2 => ?_
      obtain ⟨c2, h2⟩ := own_ty (h.rw j hj) hb2
      have h3 := ks.block b (Th.blk_lt h2) fun e9 => h.sep k j hk hj (Ne.symm e) b e9 hb2
      exact (ks2.block b (Nat.lt_of_lt_of_le (Th.blk_lt h2) ks.size) (ty_ne h2 h.hbk (by decide))).trans h3
  · unfold updV at e ⊢
    by_cases e1 : i = k
    · rw [if_pos e1] at e
      have e2 : j ≠ k := fun e3 => hij (by rw [e1, e3])
      rw [if_neg e2]
      rcases hn b e with h1 | h1
      · exact h.sep k j hk hj (Ne.symm e2) b h1
      · intro e3
        have := hlt j hj b e3
        omega
    · rw [if_neg e1] at e
      by_cases e2 : j = k
      · rw [if_pos e2]
        intro e3
        rcases hn b e3 with h1 | h1
        · exact h.sep i k hi hk e1 b e h1
        · have := hlt i hi b e
          omega
      · rw [if_neg e2]; exact h.sep i j hi hj hij b e
  · exact (h.ebk.of (hty h.ebk (by decide))).of (ks2.block eb (Nat.lt_of_lt_of_le (Th.blk_lt h.ebk) ks.size) (Th.Blk.ne h.ebk h.hbk (by decide)))
  · refine LH.low ⟨ks.os.trans h.bl.os, ks.tape.trans h.bl.tape, ks.output.trans h.bl.output, Nat.le_trans h.bl.size ks.size, fun j hj => (ks.block j (Nat.lt_of_lt_of_le hj h.bl.size) fun e => ?_).trans (h.bl.block j hj)⟩ (by omega)
    have := own_ge (h.rw k hk) j e
    omega
theorem MM.ks {σ : Sg} (h : MM w P σ) {x : Value} {n : Nat} {xs : List Value} (ho : w.ownsRow P.N 42 1 x n xs) (ks : Th.KS (fun j => x.ownBlock = some j) w w') : MM w' P σ := by
  cases hv : x.ownBlock with
  | none => exact h.below ⟨ks.os, ks.tape, ks.output, ks.size, fun j hj => ks.block j hj fun e => by rw [hv] at e; cases e⟩
  | some X =>
    obtain ⟨cur, hc⟩ := own_ty ho hv
    exact h.other hc (own_ge ho X hv) (by decide) (by decide) (by decide) (by decide) ⟨ks.os, ks.tape, ks.output, ks.size, fun j hj hx => ks.block j hj fun e => hx (by rw [hv] at e; exact (Option.some.inj e).symm)⟩
end
theorem KS_grown {w w' : World} {v : Value} (h : w.grownBy w' v.ownBlock) : Th.KS (fun j => v.ownBlock = some j) w w' := ⟨h.os, h.tape, h.output, h.size, fun j hj hx => h.block j hj fun e => hx e.symm⟩
theorem run_hands (n : Nat) (hn : n ≤ 250) (w : World) : (Instr.makeSlice 60 (.int .i64 n) (.int .i64 n)).run Try.prog w = .ok (.slice (some ⟨w.heap.size, 0, none⟩) n n) (w.alloc (.cells (madeCells #[.slice none 0 0] n) 36)) := by
  have h0 : (Try.prog.info? 36).map (fun i => (i.zero, i.size, i.bytes)) = some (some (.slice none 0 0), 1, 24) := by kernel_rfl
  cases hi : Try.prog.info? 36 with
  | none => rw [hi] at h0; simp at h0
  | some i =>
    rw [hi] at h0; simp at h0
    obtain ⟨hz, hs, hb⟩ := h0
    rw [run_makeSlice w 60 36 i _ (by kernel_rfl) hi hz .i64 .i64 n n (by omega) (by omega) (by rw [hs]; omega) (by rw [hb]; omega) (by omega)]
    rw [hs]
    simp [Value.cells]
theorem run_empt (n : Nat) (hn : n ≤ 250) (w : World) : (Instr.makeSlice 61 (.int .i64 n) (.int .i64 n)).run Try.prog w = .ok (.slice (some ⟨w.heap.size, 0, none⟩) n n) (w.alloc (.cells (madeCells #[.bool false] n) 4)) := by
  have h0 : (Try.prog.info? 4).map (fun i => (i.zero, i.size, i.bytes)) = some (some (.bool false), 1, 1) := by kernel_rfl
  cases hi : Try.prog.info? 4 with
  | none => rw [hi] at h0; simp at h0
  | some i =>
    rw [hi] at h0; simp at h0
    obtain ⟨hz, hs, hb⟩ := h0
    rw [run_makeSlice w 61 4 i _ (by kernel_rfl) hi hz .i64 .i64 n n (by omega) (by omega) (by rw [hs]; omega) (by rw [hb]; omega) (by omega)]
    rw [hs]
    simp [Value.cells]
theorem made_c (u : Value) (n : Nat) : madeCells #[u] n = ((List.range n).map fun _ => u).toArray := by
  apply Array.ext'
  unfold madeCells
  simp only [Array.toList_map, Array.toList_range]
  refine List.map_congr_left fun j hj => ?_
  simp [Nat.mod_one]
end Go.Proofs.Ytlahpnigabfenaa.Sl

/- Layer 17: small contracts for the walk of SlotsCrowd. -/
namespace Go.Proofs.Ytlahpnigabfenaa.Sl
open Go.RowKit WordM EdgeM
set_option linter.unusedVariables false
set_option linter.unusedSimpArgs false
def D2 (w : World) (g off : Nat) (k a : Int) : Prop := w.cell? ⟨g, off, none⟩ = some (.int .i64 k) ∧ w.cell? ⟨g, off + 1, none⟩ = some (.int .i64 a)
theorem d2_cells {w : World} {cs : List Value} (h : Fr.Sh.oks w [.int .i64, .int .i64] cs) : ∃ (k a : Int), cs = [.int .i64 k, .int .i64 a] := by
  obtain ⟨_, _, rfl, k0, h⟩ := Fr.get_cons h
  obtain ⟨_, _, rfl, k1, h⟩ := Fr.get_cons h
  obtain rfl := Fr.get_nil h
  obtain ⟨k, rfl, _⟩ := Fr.get_int k0
  obtain ⟨a, rfl, _⟩ := Fr.get_int k1
  exact ⟨k, a, rfl⟩
theorem d2_open {w : World} {v : Value} (h : Fr.ok1 w (.slice [.int .i64, .int .i64]) v) : ∃ ao len cap, v = .slice ao len cap ∧ len ≤ cap ∧ cap ≤ 9223372036854775807 ∧ ∀ i, i < len → ∃ g off, ao = some ⟨g, off, none⟩ ∧ ∃ k a, D2 w g (off + i * 2) k a := by
  rcases Fr.get_slice h with rfl | ⟨a, len, cap, rfl, h1, h2, h3⟩
  · exact ⟨none, 0, 0, rfl, Nat.le_refl _, by decide, fun i hi => by omega⟩
  · refine ⟨some a, len, cap, rfl, h1, h2, fun i hi => ?_⟩
    obtain ⟨cs0, h5, h6⟩ := h3 0 (by omega)
    obtain ⟨k, a1, rfl⟩ := d2_cells h6
    have hs : a.spot = none := by
      have h7 := (World.cells?_some h5).2.2 0 (by decide)
      exact World.cell?_spot (by simpa [Addr.add] using h7)
    obtain ⟨g, off, spot⟩ := a
    simp only at hs
    subst hs
    obtain ⟨cs, h5, h6⟩ := h3 i (by omega)
    obtain ⟨k, a1, rfl⟩ := d2_cells h6
    obtain ⟨_, _, h7⟩ := World.cells?_some h5
    have e1 : ((⟨g, off, none⟩ : Addr).add (i * [Fr.Sh.int .i64, Fr.Sh.int .i64].length)) = ⟨g, off + i * 2, none⟩ := by
      simp [Addr.add] <;> (intro hh; subst hh; rfl)
    rw [e1] at h7
    refine ⟨g, off, rfl, k, a1, ?_, ?_⟩
    · simpa [Addr.add] using h7 0 (by decide)
    · simpa [Addr.add] using h7 1 (by decide)
theorem mtopS {w : World} {P : Pc} {σ : Sg} (h : MM w P σ) {k : Nat} (hk : k < P.t) (hn : (σ.Ts k).nf = 1) : Calls Try.prog 21 #[.pointer (some ⟨P.tq k, 0, none⟩)] w fun e w' => ∃ fb, e = .returned (.pointer (some ⟨fb, 0, none⟩)) ∧ w'.cell? ⟨fb, 0, none⟩ = some (.int .i64 ((σ.Ts k).fs 0).fn) ∧ Below w.heap.size w w' := by
  obtain ⟨ps, fvs, tf⟩ := h.th
  refine (Th.ftop1 (tf.th k hk).a (m := 0) hn (by omega)).mono ?_
  rintro _ w' ⟨rfl, hb⟩
  refine ⟨_, rfl, ?_, hb⟩
  have hbk := (((tf.below hb).th k hk).a.fb 0 (by omega)).1
  rw [hbk.get (i := 0) (by omega)]
  rfl
theorem fn_of {P : Pc} {σ : Sg} {L : List Nat} {O : Nat → Nat} {E : Nat → List Int} {n k : Nat} (h : CS P σ L O E n) (hk : k < P.t) (hn : (σ.Ts k).nf = 1) : ((σ.Ts k).fs 0).fn = 1 ∨ ((σ.Ts k).fs 0).fn = 2 := by
  rcases h.th k hk with h1 | ⟨_, h1⟩
  · omega
  · unfold SFr at h1
    rcases h1 with ⟨h1, _⟩ | ⟨h1, _⟩
    · exact .inl h1
    · exact .inr h1
/-- A row, cell by cell. -/
theorem own_cons2 {w : World} {B n : Nat} {v : Value} {l : List Int} (h : w.ownsRow B 42 1 v n (wds l)) (hn : n = l.length) {j : Nat} (hj : j < l.length) : ∃ g c, v = .slice (some ⟨g, 0, none⟩) n c ∧ n ≤ c ∧ c ≤ 9223372036854775807 ∧ w.cell? ⟨g, j, none⟩ = some (.int .u64 l[j]) := by
  subst hn
  rcases h.2 with ⟨_, h0⟩ | ⟨g, cap, cur, rfl, hb, hh, hc, hm, hs, ht⟩
  · omega
  · refine ⟨g, cap, rfl, hc, hm, ?_⟩
    have hu := wds_get hj
    rw [← ht, List.getElem?_take_of_lt (by simpa using hj)] at hu
    rw [cell_of_row _ g _ _ _ (0, 0) hh]; simpa using hu
/-- What the law sees of a step. -/
theorem SO.js {P : Pc} {σ σ' : Sg} {L : List Nat} {O : Nat → Nat} {E : Nat → List Int} {n k : Nat} {fn : Int} (h : SO P σ σ' k L O E n fn) : ∃ L' O' E', CS P σ' L' O' E' (n + 1) := by
  rcases h with ⟨_, _, L', O', ec⟩ | ⟨_, _, _, _, ec⟩ | ⟨_, _, e, O', _, _, _, _, _, ec⟩ | ⟨_, _, L', O', ec⟩ <;> exact ⟨_, _, _, ec⟩
theorem SO.on {P : Pc} {σ σ' : Sg} {L : List Nat} {O : Nat → Nat} {E : Nat → List Int} {n k : Nat} {fn : Int} (h : SO P σ σ' k L O E n fn) (hc : 0 < (σ'.Ts k).nf ∨ fn = 2) : ∃ L' O', CS P σ' L' O' E (n + 1) := by
  rcases h with ⟨_, _, L', O', ec⟩ | ⟨h1, h2, _⟩ | ⟨h1, h2, _⟩ | ⟨_, _, L', O', ec⟩
  · exact ⟨_, _, ec⟩
  · omega
  · omega
  · exact ⟨_, _, ec⟩
theorem SO.told {P : Pc} {σ σ' : Sg} {L : List Nat} {O : Nat → Nat} {E : Nat → List Int} {n k : Nat} (h : SO P σ σ' k L O E n 1) (hz : ¬ 0 < (σ'.Ts k).nf) : ((σ'.Ts k).ret 0 = 0 ∧ L = [] ∧ CS P σ' L O E (n + 1)) ∨ ∃ (e : Int) (O' : Nat → Nat), (σ'.Ts k).ret 0 = e ∧ e ≠ 0 ∧ (0 ≤ e ∧ e < 4611686018427387904) ∧ Gd.leadsB P.s σ'.H σ'.G e = true ∧ (∀ j, j < P.t → ∀ x ∈ E j, x % 4096 ≠ e % 4096) ∧ CS P σ' L O' (updE E k (E k ++ [e])) (n + 1) := by
  rcases h with ⟨h1, _⟩ | ⟨_, _, h3, h4, ec⟩ | ⟨_, _, e, O', h1, h2, h3, h4, h5, ec⟩ | ⟨_, h2, _⟩
  · omega
  · exact .inl ⟨h3, h4, ec⟩
  · exact .inr ⟨e, O', h1, h2, h3, h4, h5, ec⟩
  · omega
end Go.Proofs.Ytlahpnigabfenaa.Sl

/- Layer 17: SlotsCrowd where nothing is done. -/
namespace Go.Proofs.Ytlahpnigabfenaa.Sl
open Go.RowKit WordM EdgeM
set_option linter.unusedVariables false
set_option linter.unusedSimpArgs false
set_option maxRecDepth 16000 in
set_option maxHeartbeats 4000000 in
theorem slotsCrowd_no (T S Kc : Int) (v1 : Value) (w : World) (hmay : mayC T S Kc = false) :
    Calls Try.prog 4 #[.agg #[.int .i64 T, .int .i64 S, .int .u64 Kc], v1] w fun e w' => e = .returned (.bool true) ∧ Below w.heap.size w w' := by
  refine Calls.veil fun Q HQ => ?_
  have HM := Lib.hid hmay
  clear hmay
  go_enter Try.func4, Try.ntmps4
  go_upto_region 1 with fail
  generalize hV : World.alloc _ _ = U
  obtain ⟨u0, hbu⟩ := Th.heapnewE hV
  obtain ⟨cb, hcb⟩ : ∃ cb, cb = w.heap.size := ⟨_, rfl⟩
  rw [← hcb] at u0 ⊢
  have HC := Lib.hid u0; have HBU := Lib.hid hbu
  clear hV u0 hbu hcb
  have o0 := Th.newcell HC.out 0 _ rfl; have o1 := Th.newcell HC.out 1 _ rfl; have o2 := Th.newcell HC.out 2 _ rfl
  go_wp2_with fail
  refine (rmay_calls T S Kc _).mono ?_; rintro _ w1 ⟨rfl, hb⟩
  have HC1 := Lib.hid (Th.up hb HC.out)
  have HB1 := Lib.hid (below_on HBU.out hb)
  clear hb HC HBU o0 o1 o2
  rw [HM.out]
  go_wp2_with fail
  refine (lives17_calls _).mono ?_; rintro _ w3 ⟨rfl, hb⟩
  have HB3 := Lib.hid (below_on HB1.out hb)
  clear hb
  go_wp2_with fail
  (try go_ret)
  rw [HQ.out]
  exact ⟨rfl, HB3.out⟩
set_option maxRecDepth 16000 in
set_option maxHeartbeats 4000000 in
theorem slotsCrowd_big (T S Kc : Int) (pa : Option Addr) (pn pc : Nat) (w : World) (hmay : mayC T S Kc = true) (hpn : 600 < pn) :
    Calls Try.prog 4 #[.agg #[.int .i64 T, .int .i64 S, .int .u64 Kc], .slice pa pn pc] w fun e w' => e = .returned (.bool true) ∧ Below w.heap.size w w' := by
  refine Calls.veil fun Q HQ => ?_
  have HM := Lib.hid hmay
  have hp2 : (600 : Int) < pn := by omega
  clear hmay hpn
  go_enter Try.func4, Try.ntmps4
  go_upto_region 1 with fail
  generalize hV : World.alloc _ _ = U
  obtain ⟨u0, hbu⟩ := Th.heapnewE hV
  obtain ⟨cb, hcb⟩ : ∃ cb, cb = w.heap.size := ⟨_, rfl⟩
  rw [← hcb] at u0 ⊢
  have HC := Lib.hid u0; have HBU := Lib.hid hbu
  clear hV u0 hbu hcb
  have o0 := Th.newcell HC.out 0 _ rfl; have o1 := Th.newcell HC.out 1 _ rfl; have o2 := Th.newcell HC.out 2 _ rfl
  go_wp2_with fail
  refine (rmay_calls T S Kc _).mono ?_; rintro _ w1 ⟨rfl, hb⟩
  have HC1 := Lib.hid (Th.up hb HC.out)
  have HB1 := Lib.hid (below_on HBU.out hb)
  clear hb HC HBU o0 o1 o2
  rw [HM.out]
  go_wp2_with fail
  refine (lives17_calls _).mono ?_; rintro _ w3 ⟨rfl, hb⟩
  have HB3 := Lib.hid (below_on HB1.out hb)
  clear hb
  go_wp2_with fail
  (try go_ret)
  rw [HQ.out]
  exact ⟨rfl, HB3.out⟩
end Go.Proofs.Ytlahpnigabfenaa.Sl
