/- Layer 10: a state in memory; next, session. -/
import Derived.Test.YtkgfhomoipbjoaaDoorModD
import Derived.Test.YtkgfhomoipbjoaaDoorModE
namespace Go.Proofs.YtkgfhomoipbjoaaDoor
open Go.RowKit
set_option linter.unusedVariables false
set_option linter.unusedSimpArgs false
def updT (L : Nat → Se) (i : Nat) (s : Se) : Nat → Se := fun j => if j = i then s else L j
def updV (f : Nat → Value) (i : Nat) (v : Value) : Nat → Value := fun j => if j = i then v else f j
theorem cell4_upd (L : Nat → Se) (fv : Nat → Value) (i : Nat) (s : Se) (v : Value) (j : Nat) :
    (if j = i * 4 + 3 then Value.int .i64 s.pt else if j = i * 4 + 2 then v else if j = i * 4 + 1 then .bool s.o else if j = i * 4 then .bool s.j else cell4 L fv j) = cell4 (updT L i s) (updV fv i v) j := by
  by_cases e3 : j = i * 4 + 3
  · subst e3; rw [if_pos rfl, cell4_3]; unfold updT; rw [if_pos rfl]
  rw [if_neg e3]
  by_cases e2 : j = i * 4 + 2
  · subst e2; rw [if_pos rfl, cell4_2]; unfold updV; rw [if_pos rfl]
  rw [if_neg e2]
  by_cases e1 : j = i * 4 + 1
  · subst e1; rw [if_pos rfl, cell4_1]; unfold updT; rw [if_pos rfl]
  rw [if_neg e1]
  by_cases e0 : j = i * 4
  · subst e0; rw [if_pos rfl, cell4_0]; unfold updT; rw [if_pos rfl]
  rw [if_neg e0]
  have hj : j / 4 ≠ i := by omega
  unfold cell4 updT updV
  rw [if_neg hj, if_neg hj]
theorem NP.rowF {T : TypeId} {w : World} {g m i : Nat} {F : Nat → Value} (h : RowF T w g m F) (v : Value) (hT : T ≠ 75) : NP w (w.setCell ⟨g, i, none⟩ v) := by
  obtain ⟨cur, h1, _⟩ := h
  exact NP.set v h1 hT
/-- A state in memory. -/
structure MS (w : World) (S g c : Nat) (mv : Value) (st : Sm) (fv : Nat → Value) : Prop where
  hS : w.heap[S]? = some (.cells #[mv, .slice (some ⟨g, 0, none⟩) st.n c] 27 (0, 0))
  mp : PR w mv st.mp
  nc : st.n ≤ c
  cm : c ≤ 9223372036854775807
  row : RowF 60 w g (st.n * 4) (cell4 st.th fv)
  po : ∀ k, k < st.n → PO w (fv k) (st.th k).fz
  ne : g ≠ S
  mg : ∀ b o n c, mv = .slice (some ⟨b, o, none⟩) n c → 0 < n → b ≠ g
theorem MS.s0 {w : World} {S g c : Nat} {mv : Value} {st : Sm} {fv : Nat → Value} (h : MS w S g c mv st fv) : w.cell? ⟨S, 0, none⟩ = some mv := by rw [cell_of_row _ _ _ _ _ (0, 0) h.hS]; rfl
theorem MS.s1 {w : World} {S g c : Nat} {mv : Value} {st : Sm} {fv : Nat → Value} (h : MS w S g c mv st fv) : w.cell? ⟨S, 1, none⟩ = some (.slice (some ⟨g, 0, none⟩) st.n c) := by rw [cell_of_row _ _ _ _ _ (0, 0) h.hS]; rfl
theorem MS.sl {w : World} {S g c : Nat} {mv : Value} {st : Sm} {fv : Nat → Value} (h : MS w S g c mv st fv) : S < w.heap.size := (Array.getElem?_eq_some_iff.1 h.hS).1
theorem MS.se {w : World} {S g c : Nat} {mv : Value} {st : Sm} {fv : Nat → Value} (h : MS w S g c mv st fv) {i : Nat} (hi : i < st.n) : SeC w g (i * 4) (st.th i) (fv i) := h.row.ses h.po i hi
theorem MS.below {w w' : World} {S g c : Nat} {mv : Value} {st : Sm} {fv : Nat → Value} (h : MS w S g c mv st fv) (k : Below w.heap.size w w') : MS w' S g c mv st fv :=
  ⟨(k.block _ h.sl).trans h.hS, h.mp.below k, h.nc, h.cm, h.row.below k, fun j hj => (h.po j hj).below k, h.ne, h.mg⟩
theorem PR.keep {w w' : World} {v : Value} {l : PL} (h : PR w v l) (hb : ∀ b o n c, v = .slice (some ⟨b, o, none⟩) n c → 0 < n → w'.heap[b]? = w.heap[b]?) : PR w' v l := by
  cases h with
  | nil => exact .nil
  | odd a c h1 => exact .odd a c h1
  | row g o c l h1 h3 h4 =>
    refine .row g o c l h1 h3 fun i hi => ?_
    have e := hb g o l.length c rfl (by omega)
    exact ⟨(World.cell?_of_block (w := w) (a := ⟨g, o + i * 2, none⟩) e).trans (h4 i hi).1, (World.cell?_of_block (w := w) (a := ⟨g, o + i * 2 + 1, none⟩) e).trans (h4 i hi).2⟩
/-- A session, written. -/
theorem MS.put4 {w : World} {S g c : Nat} {mv : Value} {st : Sm} {fv : Nat → Value} (h : MS w S g c mv st fv) (i : Nat) (s : Se) (v : Value) (hp : PO w v s.fz) :
    MS ((((w.setCell ⟨g, i * 4, none⟩ (.bool s.j)).setCell ⟨g, i * 4 + 1, none⟩ (.bool s.o)).setCell ⟨g, i * 4 + 2, none⟩ v).setCell ⟨g, i * 4 + 3, none⟩ (.int .i64 s.pt)) S g c mv { st with th := updT st.th i s } (updV fv i v) := by
  have hT : 60 ≠ 75 := by decide
  have r0 := h.row
  have r1 := r0.set (i * 4) (.bool s.j)
  have r2 := r1.set (i * 4 + 1) (.bool s.o)
  have r3 := r2.set (i * 4 + 2) v
  have r4 := r3.set (i * 4 + 3) (.int .i64 s.pt)
  have k := (((NP.rowF r0 (i := i * 4) (.bool s.j) hT).trans (NP.rowF r1 (i := i * 4 + 1) (.bool s.o) hT)).trans (NP.rowF r2 (i := i * 4 + 2) v hT)).trans (NP.rowF r3 (i := i * 4 + 3) (.int .i64 s.pt) hT)
  have hb : ∀ b, b ≠ g → ((((w.setCell ⟨g, i * 4, none⟩ (.bool s.j)).setCell ⟨g, i * 4 + 1, none⟩ (.bool s.o)).setCell ⟨g, i * 4 + 2, none⟩ v).setCell ⟨g, i * 4 + 3, none⟩ (.int .i64 s.pt)).heap[b]? = w.heap[b]? := fun b hb => by
    rw [Below.heap_setCell _ _ _ _ hb, Below.heap_setCell _ _ _ _ hb, Below.heap_setCell _ _ _ _ hb, Below.heap_setCell _ _ _ _ hb]
  refine ⟨(hb S h.ne.symm).trans h.hS, h.mp.keep fun b o n c e hn => hb b (h.mg b o n c e hn), h.nc, h.cm, r4.congr fun j _ => cell4_upd _ _ _ _ _ j, fun j hj => ?_, h.ne, h.mg⟩
  show PO _ (updV fv i v j) (updT st.th i s j).fz
  unfold updV updT
  by_cases e : j = i
  · rw [if_pos e, if_pos e]; exact hp.np k
  · rw [if_neg e, if_neg e]; exact (h.po j hj).np k
theorem MS.put1 {w : World} {S g c : Nat} {mv : Value} {st : Sm} {fv : Nat → Value} (h : MS w S g c mv st fv) (i : Nat) (hi : i < st.n) (x : Int) :
    MS (w.setCell ⟨g, i * 4 + 3, none⟩ (.int .i64 x)) S g c mv { st with th := updT st.th i { st.th i with pt := x } } fv := by
  have hT : 60 ≠ 75 := by decide
  have r0 := h.row
  have r1 := r0.set (i * 4 + 3) (.int .i64 x)
  have k := NP.rowF r0 (i := i * 4 + 3) (.int .i64 x) hT
  have hb : ∀ b, b ≠ g → (w.setCell ⟨g, i * 4 + 3, none⟩ (.int .i64 x)).heap[b]? = w.heap[b]? := fun b hb => Below.heap_setCell _ _ _ _ hb
  refine ⟨(hb S h.ne.symm).trans h.hS, h.mp.keep fun b o n c e hn => hb b (h.mg b o n c e hn), h.nc, h.cm, r1.congr fun j _ => ?_, fun j hj => ?_, h.ne, h.mg⟩
  · rw [← show updV fv i (fv i) = fv from funext fun j => by unfold updV; split <;> simp_all, ← cell4_upd]
    show _ = if j = i * 4 + 3 then Value.int .i64 x else _
    by_cases e3 : j = i * 4 + 3
    · rw [if_pos e3, if_pos e3]
    rw [if_neg e3, if_neg e3]
    by_cases e2 : j = i * 4 + 2
    · rw [if_pos e2, e2, cell4_2]; unfold updV; rw [if_pos rfl]
    rw [if_neg e2]
    by_cases e1 : j = i * 4 + 1
    · rw [if_pos e1, e1, cell4_1]
    rw [if_neg e1]
    by_cases e0 : j = i * 4
    · rw [if_pos e0, e0, cell4_0]
    rw [if_neg e0]
    unfold cell4 updV
    rw [if_neg (show ¬ j / 4 = i by omega)]
  · show PO _ (fv j) (updT st.th i _ j).fz
    unfold updT
    by_cases e : j = i
    · rw [if_pos e]; subst e; exact (h.po j hj).np k
    · rw [if_neg e]; exact (h.po j hj).np k
/-- The answer's block, written. -/
theorem MS.setR {w : World} {S g c R i : Nat} {mv : Value} {st : Sm} {fv : Nat → Value} (h : MS w S g c mv st fv) {cs : Array Value} (hR : w.heap[R]? = some (.cells cs 34 (0, 0))) (h1 : S ≠ R) (h2 : g ≠ R) (h3 : ∀ b o n c, mv = .slice (some ⟨b, o, none⟩) n c → 0 < n → b ≠ R) (v : Value) : MS (w.setCell ⟨R, i, none⟩ v) S g c mv st fv := by
  have hT : 34 ≠ 75 := by decide
  have k := NP.set (i := i) v hR hT
  exact ⟨(Below.heap_setCell _ _ _ _ h1).trans h.hS, h.mp.keep fun b o n c e hn => Below.heap_setCell _ _ _ _ (h3 b o n c e hn), h.nc, h.cm, h.row.of (Below.heap_setCell _ _ _ _ h2), fun j hj => (h.po j hj).np k, h.ne, h.mg⟩
theorem PR.blk {w : World} {v : Value} {l : PL} (h : PR w v l) {b o n c : Nat} (e : v = .slice (some ⟨b, o, none⟩) n c) (hn : 0 < n) : b < w.heap.size := by
  cases h with
  | nil => cases e
  | odd a c _ => injection e with _ h3; omega
  | row g' o' c' l' k1 k2 k3 =>
    injection e with h3 h4
    injection h3 with h3
    injection h3 with h3
    subst h3
    exact World.block_lt_of_cell? w _ (k3 0 (by omega)).1
theorem MS.ans1 {w W : World} {S g c R i : Nat} {mv : Value} {st : Sm} {fv : Nat → Value} (h : MS W S g c mv st fv) {cs : Array Value} (hR : W.heap[R]? = some (.cells cs 34 (0, 0))) (hw : w.heap.size ≤ R) (h1 : S < R) (h2 : g < R) (h3 : ∀ b o n c, mv = .slice (some ⟨b, o, none⟩) n c → 0 < n → b < R) (k : KX [g] w W) (v : Value) :
    MS (W.setCell ⟨R, i, none⟩ v) S g c mv st fv ∧ (W.setCell ⟨R, i, none⟩ v).heap[R]? = some (.cells (cs.setIfInBounds i v) 34 (0, 0)) ∧ KX [g] w (W.setCell ⟨R, i, none⟩ v) :=
  ⟨h.setR hR (by omega) (by omega) (fun b o n c e hn => by have := h3 b o n c e hn; omega) v, heap_setCell_same _ R i _ _ v hR,
    ⟨k.os, k.tape, k.output, by simpa [World.setCell] using k.size, fun a ha hx => (Below.heap_setCell _ _ _ _ (by show a ≠ R; omega)).trans (k.block a ha hx)⟩⟩
theorem MS.ans5 {w W : World} {S g c R : Nat} {mv : Value} {st : Sm} {fv : Nat → Value} (h : MS W S g c mv st fv) {cs : Array Value} (hR : W.heap[R]? = some (.cells cs 34 (0, 0))) (hw : w.heap.size ≤ R) (h1 : S < R) (h2 : g < R) (h3 : ∀ b o n c, mv = .slice (some ⟨b, o, none⟩) n c → 0 < n → b < R) (k : KX [g] w W) (v0 v1 v2 v3 v4 : Value) :
    MS (((((W.setCell ⟨R, 0, none⟩ v0).setCell ⟨R, 1, none⟩ v1).setCell ⟨R, 2, none⟩ v2).setCell ⟨R, 3, none⟩ v3).setCell ⟨R, 4, none⟩ v4) S g c mv st fv ∧ KX [g] w (((((W.setCell ⟨R, 0, none⟩ v0).setCell ⟨R, 1, none⟩ v1).setCell ⟨R, 2, none⟩ v2).setCell ⟨R, 3, none⟩ v3).setCell ⟨R, 4, none⟩ v4) := by
  obtain ⟨m0, r0, k0⟩ := h.ans1 (i := 0) hR hw h1 h2 h3 k v0
  obtain ⟨m1, r1, k1⟩ := m0.ans1 (i := 1) r0 hw h1 h2 h3 k0 v1
  obtain ⟨m2, r2, k2⟩ := m1.ans1 (i := 2) r1 hw h1 h2 h3 k1 v2
  obtain ⟨m3, r3, k3⟩ := m2.ans1 (i := 3) r2 hw h1 h2 h3 k2 v3
  obtain ⟨m4, r4, k4⟩ := m3.ans1 (i := 4) r3 hw h1 h2 h3 k3 v4
  exact ⟨m4, k4⟩
end Go.Proofs.YtkgfhomoipbjoaaDoor
