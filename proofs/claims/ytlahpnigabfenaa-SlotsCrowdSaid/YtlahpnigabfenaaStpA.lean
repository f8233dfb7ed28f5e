/- Layer 16: a machine whose threads may be within something: the machine by itself, and its threads. -/
import Derived.Test.YtlahpnigabfenaaCorD
import Derived.Test.YtlahpnigabfenaaFrmD
namespace Go.Proofs.Ytlahpnigabfenaa
open Go.RowKit WordM EdgeM
set_option linter.unusedVariables false
set_option linter.unusedSimpArgs false
/-- A machine, whatever its threads are within. -/
structure MC (w : World) (B q pl mb mg C gq gg gm : Nat) (fv : Value) (tq : Nat → Nat) (t s : Nat) (K : Int) (f : Nat → Int) (acc : Int) (flt : Bool) (H : Nat → Bool) (G : Nat → Int) (sl steps : Int) (odd : Bool) : Prop where
  blk : w.heap[q]? = some (.cells (machC pl mb gq fv steps odd) 86 (0, 0))
  pln : w.heap[pl]? = some (.cells #[.int .i64 t, .int .i64 s, .int .u64 K] 109 (0, 0))
  mem : Mm.MemAt w mb mg (3 + 8 * t + 7 * s) C f acc flt
  grd : Gd.GA w gq gg gm s H G sl
  ths : Th.OwnL 51 w (q + 1) fv t (Th.ptrs tq t)
  tlo : ∀ i, i < t → q < tq i
  o1 : B ≤ pl
  o2 : pl < mb ∧ pl < mg
  o3 : mb < gq ∧ mb < gg ∧ mb < gm
  o4 : mg < gq ∧ mg < gg ∧ mg < gm
  o5 : gq < q ∧ gg < q ∧ gm < q
  may : mayC t s K = true
theorem MI.mc {w : World} {B q pl mb mg C gq gg gm : Nat} {fv : Value} {tq : Nat → Nat} {t s : Nat} {K : Int} {f : Nat → Int} {acc : Int} {flt : Bool} {H : Nat → Bool} {G : Nat → Int} {sl steps : Int} {odd : Bool} (h : MI w B q pl mb mg C gq gg gm fv tq t s K f acc flt H G sl steps odd) : MC w B q pl mb mg C gq gg gm fv tq t s K f acc flt H G sl steps odd :=
  ⟨h.blk, h.pln, h.mem, h.grd, h.ths, fun i hi => (h.thr i hi).1, h.o1, h.o2, h.o3, h.o4, h.o5, h.may⟩
section
variable {w : World} {B q pl mb mg C gq gg gm : Nat} {fv : Value} {tq : Nat → Nat} {t s : Nat} {K : Int} {f : Nat → Int} {acc : Int} {flt : Bool} {H : Nat → Bool} {G : Nat → Int} {sl steps : Int} {odd : Bool}
theorem MC.bd (h : MC w B q pl mb mg C gq gg gm fv tq t s K f acc flt H G sl steps odd) : (1 ≤ t ∧ t ≤ 6) ∧ (7 ≤ s ∧ s ≤ 250) := by
  have := mayC_true h.may
  omega
theorem MC.below {w' : World} (h : MC w B q pl mb mg C gq gg gm fv tq t s K f acc flt H G sl steps odd) (k : Below w.heap.size w w') : MC w' B q pl mb mg C gq gg gm fv tq t s K f acc flt H G sl steps odd :=
  ⟨Th.up k h.blk, Th.up k h.pln, h.mem.below k, h.grd.below k, h.ths.below k, h.tlo, h.o1, h.o2, h.o3, h.o4, h.o5, h.may⟩
theorem MC.c1 (h : MC w B q pl mb mg C gq gg gm fv tq t s K f acc flt H G sl steps odd) : w.cell? ⟨q, 1, none⟩ = some (.pointer (some ⟨mb, 0, none⟩)) := Th.newcell h.blk 1 _ rfl
theorem MC.c2 (h : MC w B q pl mb mg C gq gg gm fv tq t s K f acc flt H G sl steps odd) : w.cell? ⟨q, 2, none⟩ = some (.pointer (some ⟨gq, 0, none⟩)) := Th.newcell h.blk 2 _ rfl
theorem MC.c3 (h : MC w B q pl mb mg C gq gg gm fv tq t s K f acc flt H G sl steps odd) : w.cell? ⟨q, 3, none⟩ = some fv := Th.newcell h.blk 3 _ rfl
theorem MC.c4 (h : MC w B q pl mb mg C gq gg gm fv tq t s K f acc flt H G sl steps odd) : w.cell? ⟨q, 4, none⟩ = some (.int .i64 steps) := Th.newcell h.blk 4 _ rfl
theorem MC.c5 (h : MC w B q pl mb mg C gq gg gm fv tq t s K f acc flt H G sl steps odd) : w.cell? ⟨q, 5, none⟩ = some (.bool odd) := Th.newcell h.blk 5 _ rfl
/-- Where the blocks of its own that are not changed are as they were, it is. -/
theorem MC.keep {w' : World} {f' : Nat → Int} {acc' : Int} {flt' : Bool} {steps' : Int} {odd' : Bool} (h : MC w B q pl mb mg C gq gg gm fv tq t s K f acc flt H G sl steps odd) (hq : w'.heap[q]? = some (.cells (machC pl mb gq fv steps' odd') 86 (0, 0)))
    (hm : Mm.MemAt w' mb mg (3 + 8 * t + 7 * s) C f' acc' flt') (k : ∀ j, j < w.heap.size → j ≠ q → j ≠ mb → j ≠ mg → (j < q ∨ fv.ownBlock = some j) → w'.heap[j]? = w.heap[j]?) : MC w' B q pl mb mg C gq gg gm fv tq t s K f' acc' flt' H G sl steps' odd' := by
  have o2 := h.o2; have o3 := h.o3; have o4 := h.o4; have o5 := h.o5
  have hl := Th.blk_lt h.blk
  have kl : ∀ j, j < q → j ≠ mb → j ≠ mg → w'.heap[j]? = w.heap[j]? := fun j hj h1 h2 => k j (by omega) (by omega) h1 h2 (.inl hj)
  obtain ⟨D, ⟨es, clock, he, hr⟩, hD, hz⟩ := h.grd.held
  exact ⟨hq, (kl pl (by omega) (by omega) (by omega)).trans h.pln, hm,
    ⟨h.grd.obj.of (kl gq (by omega) (by omega) (by omega)), h.grd.gens.of (kl gg (by omega) (by omega) (by omega)), ⟨D, ⟨es, clock, (kl gm (by omega) (by omega) (by omega)).trans he, hr⟩, hD, hz⟩, h.grd.g1, h.grd.g2, h.grd.g3, h.grd.n0, h.grd.n1, h.grd.gb, h.grd.sb⟩,
    h.ths.of fun b hb => k b (h.ths.blk hb).2.1 (by have := (h.ths.blk hb).1; omega) (by have := (h.ths.blk hb).1; omega) (by have := (h.ths.blk hb).1; omega) (.inr hb),
    h.tlo, h.o1, h.o2, h.o3, h.o4, h.o5, h.may⟩
theorem MC.qlt (h : MC w B q pl mb mg C gq gg gm fv tq t s K f acc flt H G sl steps odd) : mb < q ∧ mg < q ∧ mb < w.heap.size ∧ mg < w.heap.size ∧ q < w.heap.size := by
  have o3 := h.o3; have o4 := h.o4; have o5 := h.o5
  have hl := Th.blk_lt h.blk
  omega
theorem MC.only {w' : World} {f' : Nat → Int} {acc' : Int} {flt' : Bool} (h : MC w B q pl mb mg C gq gg gm fv tq t s K f acc flt H G sl steps odd) (k : Mm.Only mb mg w w') (hm : Mm.MemAt w' mb mg (3 + 8 * t + 7 * s) C f' acc' flt') : MC w' B q pl mb mg C gq gg gm fv tq t s K f' acc' flt' H G sl steps odd := by
  have hl := h.qlt
  exact h.keep ((k.block q (by omega) (by omega) (by omega)).trans h.blk) hm fun j hj _ h1 h2 _ => k.block j hj h1 h2
theorem MC.setq {w' : World} {steps' : Int} {odd' : Bool} (h : MC w B q pl mb mg C gq gg gm fv tq t s K f acc flt H G sl steps odd) (hq : w'.heap[q]? = some (.cells (machC pl mb gq fv steps' odd') 86 (0, 0))) (hs : w.heap.size ≤ w'.heap.size) (k : ∀ j, j ≠ q → w'.heap[j]? = w.heap[j]?) : MC w' B q pl mb mg C gq gg gm fv tq t s K f acc flt H G sl steps' odd' := by
  have hl := h.qlt
  exact h.keep hq (h.mem.keep hs (k mb (by omega)) (k mg (by omega))) fun j _ h1 _ _ _ => k j h1
end
/-! ### A thread, by how many frames it has -/
structure TH (w : World) (B b d i : Nat) (fv : Value) : Prop where
  ex : ∃ (T : Th.Td) (p : Nat → Nat), Th.ThA w B b T p fv (.slice none 0 0) (.slice none 0 0) ∧ T.nf = d ∧ T.row = [] ∧ T.ns = 0 ∧ (0 < d → (T.fs 0).fn = i)
theorem TH.lt {w : World} {B b d i : Nat} {fv : Value} (h : TH w B b d i fv) : b < w.heap.size := by
  obtain ⟨T, p, h1, _⟩ := h.ex; exact h1.lt
theorem TH.own {w : World} {B b d i : Nat} {fv : Value} (h : TH w B b d i fv) {j : Nat} (hj : fv.ownBlock = some j) : B ≤ j ∧ j < w.heap.size ∧ ∃ cur, w.heap[j]? = some (.cells cur 65 (0, 0)) := by
  obtain ⟨T, p, h1, _⟩ := h.ex; exact h1.fo.blk hj
theorem TH.blk {w : World} {B b d i : Nat} {fv : Value} (h : TH w B b d i fv) : B ≤ b ∧ ∃ cur, w.heap[b]? = some (.cells cur 50 (0, 0)) := by
  obtain ⟨T, p, h1, _⟩ := h.ex; exact ⟨h1.hq, _, h1.blk⟩
theorem ty_ne {w : World} {a b : Nat} {c d : Array Value} {S T : TypeId} (h : w.heap[a]? = some (.cells c S (0, 0))) (k : w.heap[b]? = some (.cells d T (0, 0))) (n : S ≠ T) : a ≠ b := by
  intro e; subst e; rw [h] at k; simp only [Option.some.injEq, Obj.cells.injEq] at k; exact n k.2.1
theorem TH.keep {w w' : World} {B b d i : Nat} {fv : Value} (h : TH w B b d i fv) (hs : w.heap.size ≤ w'.heap.size) (k : ∀ j, j < w.heap.size → B ≤ j → (j = b ∨ fv.ownBlock = some j ∨ ∃ cur, w.heap[j]? = some (.cells cur 69 (0, 0))) → w'.heap[j]? = w.heap[j]?) : TH w' B b d i fv := by
  obtain ⟨T, p, h1, h2, h3, h4, h5⟩ := h.ex
  refine ⟨T, p, ⟨h1.hq, h1.blk.of (k b h1.lt h1.hq (.inl rfl)), h1.fo.of fun j hj => k j (h1.fo.blk hj).2.1 (h1.fo.blk hj).1 (.inr (.inl hj)), fun x hx => ⟨(h1.fb x hx).1.of (k (p x) (Th.blk_lt (h1.fb x hx).1) (h1.fb x hx).2 (.inr (.inr ⟨_, (h1.fb x hx).1⟩))), (h1.fb x hx).2⟩, h1.inj, ?_, ?_, h1.s1⟩, h2, h3, h4, h5⟩
  · rw [h3]; exact Th.PO.nil _
  · rw [h4]; exact Th.OwnL.nil _ _
/-- The threads of a machine: one behind the other, each by itself. -/
structure TS (w : World) (q t : Nat) (tq : Nat → Nat) (d : Nat → Nat) (fvs : Nat → Value) : Prop where
  th : ∀ i, i < t → TH w (q + 1) (tq i) (d i) i (fvs i)
  inj : ∀ i j, i < t → j < t → tq i = tq j → i = j
  sep : ∀ i j, i < t → j < t → i ≠ j → ∀ b, (fvs i).ownBlock = some b → (fvs j).ownBlock ≠ some b
theorem TS.hi {w w' : World} {q t : Nat} {tq : Nat → Nat} {d : Nat → Nat} {fvs : Nat → Value} (h : TS w q t tq d fvs) (hs : w.heap.size ≤ w'.heap.size) (k : ∀ j, j < w.heap.size → q < j → w'.heap[j]? = w.heap[j]?) : TS w' q t tq d fvs :=
  ⟨fun i hi => (h.th i hi).keep hs fun j hj hB _ => k j hj (by omega), h.inj, h.sep⟩
theorem TS.below {w w' : World} {q t : Nat} {tq : Nat → Nat} {d : Nat → Nat} {fvs : Nat → Value} (h : TS w q t tq d fvs) (k : Below w.heap.size w w') : TS w' q t tq d fvs := h.hi k.size fun j hj _ => k.block j hj
theorem TS.init {w : World} {B q pl mb mg C gq gg gm : Nat} {fv : Value} {tq : Nat → Nat} {t s : Nat} {K : Int} {f : Nat → Int} {acc : Int} {flt : Bool} {H : Nat → Bool} {G : Nat → Int} {sl steps : Int} {odd : Bool} (h : MI w B q pl mb mg C gq gg gm fv tq t s K f acc flt H G sl steps odd) (hi : ∀ i j, i < t → j < t → tq i = tq j → i = j) : TS w q t tq (fun _ => 0) (fun _ => .slice none 0 0) :=
  ⟨fun i hi => ⟨Th.T0, _, (h.thr i hi).2.tha (h.thr i hi).1, rfl, rfl, rfl, fun h => absurd h (by decide)⟩, hi, fun _ _ _ _ _ b hb => by cases hb⟩
/-- One of them has changed. -/
theorem TS.one {w w' : World} {q t : Nat} {tq : Nat → Nat} {d : Nat → Nat} {fvs : Nat → Value} (h : TS w q t tq d fvs) {k d' : Nat} {fv' : Value} (hk : k < t) (hn : TH w' (q + 1) (tq k) d' k fv') (kq : Th.KQ w w' (tq k) (fvs k) (.slice none 0 0))
    (ho : ∀ j, fv'.ownBlock = some j → (fvs k).ownBlock = some j ∨ w.heap.size ≤ j) : TS w' q t tq (fun i => if i = k then d' else d i) (fun i => if i = k then fv' else fvs i) := by
  obtain ⟨_, ck, hck⟩ := (h.th k hk).blk
  refine ⟨fun i hi => ?_, h.inj, fun i j hi hj hij b hb => ?_⟩
  · by_cases e : i = k
    · subst e; rw [if_pos rfl, if_pos rfl]; exact hn
    · rw [if_neg e, if_neg e]
      refine (h.th i hi).keep kq.size fun j hj hB hc => ?_
      obtain ⟨_, ci, hci⟩ := (h.th i hi).blk
      rcases hc with rfl | hc | ⟨cur, hc⟩
      · exact kq.block _ hj (fun e2 => e (h.inj i k hi hk e2)) (fun e2 => by
          obtain ⟨_, _, c2, h2⟩ := (h.th k hk).own e2
          exact ty_ne hci h2 (by decide) rfl) (fun e2 => by cases e2)
      · obtain ⟨_, _, c2, h2⟩ := (h.th i hi).own hc
        exact kq.block _ hj (ty_ne h2 hck (by decide)) (h.sep i k hi hk e j hc) (fun e2 => by cases e2)
      · exact kq.block _ hj (ty_ne hc hck (by decide)) (fun e2 => by
          obtain ⟨_, _, c2, h2⟩ := (h.th k hk).own e2
          exact ty_ne hc h2 (by decide) rfl) (fun e2 => by cases e2)
  · (try dsimp only at hb ⊢)
    by_cases e1 : i = k
    · subst e1
      rw [if_pos rfl] at hb; rw [if_neg (Ne.symm hij)]
      intro e2
      rcases ho b hb with e3 | e3
      · exact h.sep i j hi hj hij b e3 e2
      · have := ((h.th j hj).own e2).2.1; omega
    · rw [if_neg e1] at hb
      by_cases e2 : j = k
      · subst e2
        rw [if_pos rfl]
        intro e3
        rcases ho b e3 with e4 | e4
        · exact h.sep i j hi hj hij b hb e4
        · have := ((h.th i hi).own hb).2.1; omega
      · rw [if_neg e2]; exact h.sep i j hi hj hij b hb
/-- What a thread's call leaves of the machine. -/
theorem MC.kq {w w' : World} {B q pl mb mg C gq gg gm : Nat} {fv : Value} {tq : Nat → Nat} {t s : Nat} {K : Int} {f : Nat → Int} {acc : Int} {flt : Bool} {H : Nat → Bool} {G : Nat → Int} {sl steps : Int} {odd : Bool} (h : MC w B q pl mb mg C gq gg gm fv tq t s K f acc flt H G sl steps odd)
    {d : Nat → Nat} {fvs : Nat → Value} (ts : TS w q t tq d fvs) {k : Nat} (hk : k < t) (kq : Th.KQ w w' (tq k) (fvs k) (.slice none 0 0)) : MC w' B q pl mb mg C gq gg gm fv tq t s K f acc flt H G sl steps odd := by
  have hl := h.qlt
  obtain ⟨hB, ck, hck⟩ := (ts.th k hk).blk
  have lo : ∀ j, j < w.heap.size → j ≤ q → w'.heap[j]? = w.heap[j]? := fun j hj h1 => kq.block j hj (by omega) (fun e => by have := ((ts.th k hk).own e).1; omega) (fun e => by cases e)
  refine h.keep ((lo q (by omega) (Nat.le_refl _)).trans h.blk) (h.mem.keep kq.size (lo mb (by omega) (by omega)) (lo mg (by omega) (by omega))) fun j hj _ _ _ hc => ?_
  rcases hc with hc | hc
  · exact lo j hj (by omega)
  · obtain ⟨_, _, c2, h2⟩ := h.ths.blk hc
    refine kq.block j hj (ty_ne h2 hck (by decide)) (fun e => ?_) (fun e => by cases e)
    obtain ⟨_, _, c3, h3⟩ := (ts.th k hk).own e
    exact ty_ne h2 h3 (by decide) rfl
end Go.Proofs.Ytlahpnigabfenaa
