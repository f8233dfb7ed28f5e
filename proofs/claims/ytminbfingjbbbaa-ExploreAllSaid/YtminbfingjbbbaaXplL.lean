/- Layer 36: what is kept while schedules are told; slices.Clone; what the law does with each schedule. -/
import Derived.Test.YtminbfingjbbbaaXplK
namespace Go.Proofs.Ytminbfingjbbbaa
open Go.RowKit
set_option linter.unusedVariables false
set_option linter.unusedSimpArgs false
/-- Below B no block but those of S has changed. -/
structure Kb (B : Nat) (S : List Nat) (w w' : World) : Prop where
  os : w'.os = w.os
  tape : w'.tape = w.tape
  output : w'.output = w.output
  size : w.heap.size ≤ w'.heap.size
  block : ∀ k, k < B → k ∉ S → w'.heap[k]? = w.heap[k]?
theorem Kb.refl (B : Nat) (S : List Nat) (w : World) : Kb B S w w := ⟨rfl, rfl, rfl, Nat.le_refl _, fun _ _ _ => rfl⟩
theorem Kb.trans {B : Nat} {S : List Nat} {a b c : World} (h : Kb B S a b) (k : Kb B S b c) : Kb B S a c :=
  ⟨k.os.trans h.os, k.tape.trans h.tape, k.output.trans h.output, Nat.le_trans h.size k.size, fun i hi hs => (k.block i hi hs).trans (h.block i hi hs)⟩
theorem Kb.weak {B B' : Nat} {S S' : List Nat} {w w' : World} (h : Kb B S w w') (hB : B' ≤ B) (hS : ∀ x, x ∈ S → x ∈ S') : Kb B' S' w w' :=
  ⟨h.os, h.tape, h.output, h.size, fun k hk hs => h.block k (Nat.lt_of_lt_of_le hk hB) (fun e => hs (hS k e))⟩
theorem Kb.of {B B' : Nat} {S : List Nat} {w w' : World} (h : Below B w w') (hB : B' ≤ B) : Kb B' S w w' := ⟨h.os, h.tape, h.output, h.size, fun k hk _ => h.block k (Nat.lt_of_lt_of_le hk hB)⟩
theorem Kb.set {B : Nat} {S : List Nat} {w w' : World} (h : Kb B S w w') (b i : Nat) (v : Value) (hb : b ∈ S) : Kb B S w (w'.setCell ⟨b, i, none⟩ v) :=
  ⟨h.os, h.tape, h.output, by have := h.size; simp [World.setCell]; exact this, fun k hk h1 => (heap_setCell_other w' ⟨b, i, none⟩ k v (fun e => h1 (by rw [show k = b from e]; exact hb))).trans (h.block k hk h1)⟩
theorem Kb.alloc {B : Nat} {S : List Nat} {w w' : World} (h : Kb B S w w') (hB : B ≤ w'.heap.size) (o : Obj) : Kb B S w (w'.alloc o) := h.trans (Kb.of ((Below.refl _ _).alloc (Nat.le_refl _) o) hB)
theorem Kb.drew {B : Nat} {S : List Nat} {w w' : World} (h : Kb B S w w') : Kb B S w w'.drew := ⟨h.os, h.tape, h.output, h.size, h.block⟩
theorem Kb.grown {B : Nat} {S : List Nat} {w w' w2 : World} {row : Option Nat} (h : Kb B S w w') (hg : w'.grownBy w2 row) (hB : B ≤ w'.heap.size) (hr : ∀ k, row = some k → B ≤ k) : Kb B S w w2 :=
  h.trans ⟨hg.os, hg.tape, hg.output, hg.size, fun q hq _ => hg.block q (Nat.lt_of_lt_of_le hq hB) (fun e => by have := hr q e.symm; omega)⟩
theorem Kb.cell {B : Nat} {S : List Nat} {w w' : World} (h : Kb B S w w') {b i : Nat} {v : Value} (hc : w.cell? ⟨b, i, none⟩ = some v) (hb : b < B) (hs : b ∉ S) : w'.cell? ⟨b, i, none⟩ = some v :=
  (World.cell?_of_block (h.block b hb hs)).trans hc
theorem Kb.upk {S : List Nat} {w w' : World} {g : Nat} {o : Obj} (k : Kb w.heap.size S w w') (h : w.heap[g]? = some o) (hs : g ∉ S) : w'.heap[g]? = some o := (k.block g (Array.getElem?_eq_some_iff.1 h).1 hs).trans h
theorem Kb.own {S : List Nat} {w w' : World} {B : Nat} {v : Value} {l : PL} (k : Kb w.heap.size S w w') (h : OwnP w B v l) (hs : ∀ x ∈ S, x < B) : OwnP w' B v l := by
  refine ⟨h.1, ?_⟩
  rcases h.2 with h2 | ⟨g, cap, cur, hv, hg, hh, r⟩
  · exact .inl h2
  · exact .inr ⟨g, cap, cur, hv, hg, k.upk hh (fun e => by have := hs g e; omega), r⟩
/-- The first ones of an own row. -/
theorem own_cut {w : World} {B g c n : Nat} {p q : PL} (h : OwnP w B (.slice (some ⟨g, 0, none⟩) n c) (p ++ q)) : OwnP w B (.slice (some ⟨g, 0, none⟩) p.length c) p := by
  refine ⟨pcells_len p, .inr ?_⟩
  rcases h.2 with ⟨h1, _⟩ | ⟨g', cap, cur, hv, hg, hh, hn, hm, hs, ht⟩
  · cases h1
  · simp only [Value.slice.injEq, Option.some.injEq, Addr.mk.injEq] at hv
    obtain ⟨⟨rfl, _, _⟩, _, rfl⟩ := hv
    refine ⟨g, c, cur, rfl, hg, hh, by rw [List.length_append] at hn; omega, hm, hs, ?_⟩
    rw [List.length_append, pcells_app] at ht
    have h2 : (cur.toList.take ((p.length + q.length) * 2)).take (p.length * 2) = cur.toList.take (p.length * 2) := by rw [List.take_take, Nat.min_eq_left (by omega)]
    rw [← h2, ht, List.take_left' (pcells_len p)]
theorem xclone (l : PL) (v : Value) (B : Nat) (w : World) (h : OwnP w B v l) (hn : l.length ≤ 1000) :
    Calls Try.prog 16 #[v] w fun e w' => ∃ v', e = .returned v' ∧ PR w' v' l ∧ Below w.heap.size w w' := by
  refine Calls.veil fun Q HQ => ?_
  have HO := Lib.hid h
  have qT : ∀ (w : World) (a : Addr) (n c : Nat), (binOp .eql 30 (.slice (some a) n c) (.slice none 0 0)).run Try.prog w = .ok (.bool false) w := fun w a n c => Go.run_eql_slice_nil w _ _ (some a) n c uPL
  have qN : ∀ (w : World), (binOp .eql 30 (.slice none 0 0) (.slice none 0 0)).run Try.prog w = .ok (.bool true) w := fun w => Go.run_eql_slice_nil w _ _ none 0 0 uPL
  rcases h.2 with ⟨rfl, h0⟩ | ⟨g, cap, cur, hv, _⟩
  · have e : l = [] := List.eq_nil_of_length_eq_zero h0
    subst e
    clear h h0 hn
    go_enter Try.func16, Try.ntmps16
    go_wp2_with fail
    (try go_ret)
    rw [HQ.out]
    exact ⟨_, rfl, .nil, Below.refl _ _⟩
  · subst hv
    have HN := Lib.hid (show ([] : PL).length + l.length ≤ 1000000 by simp; omega)
    have HK0 := Lib.hid ((Below.refl w.heap.size w).alloc (Nat.le_refl _) (.cells #[] 39))
    have HPR := Lib.hid (own_PR (World.ownsRow.alloc h (.cells #[] 39)))
    obtain ⟨n, hnn⟩ : ∃ n, n = l.length := ⟨_, rfl⟩
    rw [← hnn] at HO HPR ⊢
    clear h hn hnn
    go_enter Try.func16, Try.ntmps16
    go_wp2_with (at_builtin; refine wpList_append_pr rfl (.tmp 5) (.tmp 6) rfl w.heap.size _ [] rfl (own_none w) _ l rfl HPR.out HN.out (size_al _ (Nat.le_refl _)) ?_)
    intro v1 w1 hown hg
    have H1 := Lib.hid (show OwnP w1 w.heap.size v1 l ∧ Below w.heap.size w w1 from ⟨hown, grow_step (W := w) (own_none w) HK0.out (Nat.le_refl _) hg⟩)
    clear hown hg
    go_wp2_with fail
    (try go_ret)
    rw [HQ.out]
    exact ⟨_, rfl, own_PR H1.out.1, H1.out.2⟩
/-- What the law does with a schedule that is the document's. -/
theorem xyield (q : PL) (v rv : Value) (i fb ib ab nb g n c : Nat) (till : Int) (w : World)
    (hf : w.heap[fb]? = some (.cells #[.bool true] 4 (0, 0))) (hi : w.heap[ib]? = some (.cells #[.int .i64 i] 3 (0, 0)))
    (ha : w.cell? ⟨ab, 0, none⟩ = some (.slice (some ⟨g, 0, none⟩) n c)) (ht : w.cell? ⟨nb, 0, none⟩ = some (.int .i64 till))
    (hr : w.cell? ⟨g, i, none⟩ = some rv) (p0 : PR w v q) (p1 : PR w rv q) (hq : q.length ≤ 1000) (hin : i < n) (hn : n ≤ 6000)
    (e0 : fb ≠ ib) (e1 : nb ≠ fb) (e2 : nb ≠ ib) :
    Calls Try.prog 9 #[v, .pointer (some ⟨fb, 0, none⟩), .pointer (some ⟨ib, 0, none⟩), .pointer (some ⟨ab, 0, none⟩), .pointer (some ⟨nb, 0, none⟩)] w fun e w' =>
      e = .returned (.bool ((i : Int) + 1 != till)) ∧ w'.heap[fb]? = some (.cells #[.bool true] 4 (0, 0)) ∧ w'.heap[ib]? = some (.cells #[.int .i64 ((i : Int) + 1)] 3 (0, 0)) ∧ Kb w.heap.size [fb, ib] w w' := by
  refine Calls.veil fun Q HQ => ?_
  have c0 : w.cell? ⟨fb, 0, none⟩ = some (.bool true) := by rw [cell_of_row _ fb _ _ _ (0, 0) hf]; rfl
  have c1 : w.cell? ⟨ib, 0, none⟩ = some (.int .i64 i) := by rw [cell_of_row _ ib _ _ _ (0, 0) hi]; rfl
  have hlt : (i : Int) < (n : Int) := lt_int hin
  have hw1 : wrap64 ((i : Int) + 1) = (i : Int) + 1 := wr_k (Nat.le_trans (Nat.le_of_lt hin) (Nat.le_trans hn (by decide)))
  have hw2 : IntKind.i64.wrap ((i : Int) + 1) = (i : Int) + 1 := wri_k (Nat.le_trans (Nat.le_of_lt hin) (Nat.le_trans hn (by decide)))
  have f0 : ¬ fb = ib := e0
  have f1 : ¬ ib = fb := fun e => e0 e.symm
  have f2 : ¬ nb = fb := e1
  have f3 : ¬ nb = ib := e2
  have HFI := Lib.hid (And.intro hf hi)
  have HS := Lib.hid (fun (W : World) (p0 : PR W v q) (p1 : PR W rv q) => xsame q v rv W p0 p1 (Nat.le_trans hq (by decide)))
  have HP := Lib.hid (And.intro p0 p1)
  obtain ⟨T, hT⟩ : ∃ T : Bool, T = ((i : Int) + 1 != till) := ⟨_, rfl⟩
  rw [← hT] at HQ
  have HT := Lib.hid hT
  have HC := Lib.hid (And.intro c1 ht)
  have HE := Lib.hid (And.intro e0 (And.intro e1 e2))
  clear hf hi p0 p1 hq hin hn e0 e1 e2 hT
  go_enter Try.func9, Try.ntmps9
  go_wp2_with fail
  refine (HS.out _ HP.out.1 HP.out.2).mono ?_; rintro _ w1 ⟨rfl, hb⟩
  have HB := Lib.hid hb
  have hf1 := upk hb HFI.out.1
  have hi1 := upk hb HFI.out.2
  have HFI1 := Lib.hid (And.intro hf1 hi1)
  have d1 := Ext.cell ⟨w1, hb⟩ HC.out.1
  have d2 := Ext.cell ⟨w1, hb⟩ HC.out.2
  have d0 : w1.cell? ⟨fb, 0, none⟩ = some (.bool true) := by rw [cell_of_row _ fb _ _ _ (0, 0) hf1]; rfl
  have r0 : w1.frozen? ⟨fb, 0, none⟩ = false := frozen_of_row _ _ _ _ _ hf1
  have r1 : w1.frozen? ⟨ib, 0, none⟩ = false := frozen_of_row _ _ _ _ _ hi1
  simp only at d1 d2
  clear hb hf1 hi1 c0 c1 ha ht hr
  go_wp2_with fail
  (try go_ret)
  rw [HQ.out]
  have hq0 := heap_setCell_same w1 fb 0 _ _ (.bool true) HFI1.out.1
  have hq1 : (w1.setCell ⟨fb, 0, none⟩ (.bool true)).heap[ib]? = _ := (heap_setCell_other w1 ⟨fb, 0, none⟩ ib (.bool true) (fun e => HE.out.1 e.symm)).trans HFI1.out.2
  refine ⟨by rw [HT.out]; rfl, ?_, ?_, ?_⟩
  · exact (heap_setCell_other _ ⟨ib, 0, none⟩ fb _ HE.out.1).trans hq0
  · exact heap_setCell_same _ ib 0 _ _ _ hq1
  · exact ((Kb.of HB.out (Nat.le_refl _)).set fb 0 _ (by simp)).set ib 0 _ (by simp)
end Go.Proofs.Ytminbfingjbbbaa
