/- GAD: several texts in one. -/
import Derived.WalkKit
import Derived.ProofKit
import Derived.Deep.Slices
import Derived.OpenShut
import Derived.Test.YtaaciolfgplnoaaGAC
import Derived.Laws.CopyOwn
import Derived.Test.YtaaciolfgplnoaaGAA
import Derived.Test.YtaaciolfgplnoaaRows
import Derived.Outline
import Derived.Lib.Hide
import Derived.Laws.StructEq
/- How an argument of plain data is opened: 'Sh': the shapes of its cells; 'okv': what the walk is told of it. Nothing of the program. -/
namespace Go.Proofs.Ytaaciolfgplnoaa.Fr
open Go.ChangeShapes Go.WideShapes Go.Deep

/-- The shape of a cell: an integer, a bool, a text, or a slice whose elements have these cells. -/
inductive Sh where
  | int (k : IntKind)
  | bool
  | str
  | slice (es : List Sh)

mutual
def Sh.ok (w : World) : Sh → Value → Prop
  | .int k, v => ∃ n, v = .int k n ∧ (Lit.int k n).wf = true
  | .bool, v => ∃ b, v = .bool b
  | .str, v => ∃ s, v = .string s ∧ s.size ≤ maxLen
  | .slice es, v => v = .slice none 0 0 ∨ ∃ a len cap, v = .slice (some a) len cap ∧ len ≤ cap ∧ cap ≤ maxLen ∧
      ∀ i, i < cap → ∃ cs, w.cells? 0 (a.add (i * es.length)) es.length = some cs ∧ Sh.oks w es cs
def Sh.oks (w : World) : List Sh → List Value → Prop
  | [], cs => cs = []
  | s :: ss, cs => ∃ v vs, cs = v :: vs ∧ s.ok w v ∧ Sh.oks w ss vs
end

theorem oks_append {w : World} : ∀ {a b : List Sh} {xs ys : List Value}, Sh.oks w a xs → Sh.oks w b ys → Sh.oks w (a ++ b) (xs ++ ys)
  | [], b, xs, ys, h, k => by simp [Sh.oks] at h; subst h; simpa using k
  | s :: ss, b, xs, ys, h, k => by
    simp only [Sh.oks] at h
    obtain ⟨v, vs, rfl, h1, h2⟩ := h
    simp only [List.cons_append, Sh.oks]
    exact ⟨v, vs ++ ys, rfl, h1, oks_append h2 k⟩

/-- The fields' shapes, one behind the other, where each begins where the one ahead of it ended. -/
def fieldsSh (P : Program) (f : TypeId → Option (List Sh)) : List Field → Nat → Option (List Sh)
  | [], _ => some []
  | x :: r, off => if x.offset = off then (f x.type).bind fun a => if a.length = P.cellsOf x.type then (fieldsSh P f r (off + a.length)).map (a ++ ·) else none else none

def repeatSh (a : List Sh) : Nat → List Sh
  | 0 => []
  | n + 1 => repeatSh a n ++ a

def shapes (P : Program) : Nat → TypeId → Option (List Sh)
  | 0, _ => none
  | n + 1, t =>
    match P.underlying t with
    | some .bool => some [.bool]
    | some (.int k) => some [.int k]
    | some .string => some [.str]
    | some (.slice e) => (shapes P n e).bind fun es => if es.length = P.cellsOf e then some [.slice es] else none
    | some (.struct fs) => (fieldsSh P (shapes P n) fs.toList 0).bind fun a => if a.length = P.cellsOf t then some a else none
    | some (.array m e) => (shapes P n e).bind fun es => if es.length = P.cellsOf e ∧ m * es.length = P.cellsOf t then some (repeatSh es m) else none
    | _ => none

section
variable {H : Type} {enc : TypeId × Value → H} {P : Program} {w : World}

theorem fields_ok {n fuel : Nat} {cs : List Value} (ih : ∀ (t : TypeId) (ss : List Sh) (fuel : Nat) (cs : List Value) (x : DataW H × List MemPlace), shapes P n t = some ss → DataW.trod enc P w 0 (fun _ => true) true fuel t cs = some x → Sh.oks w ss cs) :
    ∀ (fs : List Field) (off : Nat) (ss : List Sh), fieldsSh P (shapes P n) fs off = some ss →
      (∀ (i : Nat) (f : Field), fs[i]? = some f → ∃ x, DataW.trod enc P w 0 (fun _ => true) true fuel f.type ((cs.drop f.offset).take (P.cellsOf f.type)) = some x) →
      Sh.oks w ss ((cs.drop off).take ss.length)
  | [], off, ss, h, _ => by
    simp only [fieldsSh, Option.some.injEq] at h
    subst h; simp [Sh.oks]
  | f :: r, off, ss, h, hx => by
    simp only [fieldsSh] at h
    split at h
    · rename_i ho
      subst ho
      cases hs : shapes P n f.type with
      | none => simp [hs] at h
      | some a =>
        simp only [hs, Option.bind_some] at h
        split at h
        · rename_i hl
          cases hr : fieldsSh P (shapes P n) r (f.offset + a.length) with
          | none => simp [hr] at h
          | some b =>
            simp only [hr, Option.map_some, Option.some.injEq] at h
            subst h
            obtain ⟨x, h0⟩ := hx 0 f rfl
            have k0 := ih _ _ _ _ _ hs h0
            have k1 := fields_ok ih r (f.offset + a.length) b hr (fun i g hg => hx (i + 1) g (by simpa using hg))
            have e : (cs.drop f.offset).take (a ++ b).length = (cs.drop f.offset).take (P.cellsOf f.type) ++ (cs.drop (f.offset + a.length)).take b.length := by
              rw [List.length_append, List.take_add, ← hl, List.drop_drop]
            rw [e]
            exact oks_append k0 k1
        · simp at h
    · simp at h

theorem repeat_ok {es : List Sh} {cs : List Value} {sz : Nat} (hz : es.length = sz) : ∀ (m : Nat), (∀ i, i < m → Sh.oks w es ((cs.drop (i * sz)).take sz)) → Sh.oks w (repeatSh es m) (cs.take (m * sz))
  | 0, _ => by simp [repeatSh, Sh.oks]
  | m + 1, h => by
    have h1 := repeat_ok hz m (fun i hi => h i (by omega))
    have h2 := h m (by omega)
    have e : cs.take ((m + 1) * sz) = cs.take (m * sz) ++ (cs.drop (m * sz)).take sz := by rw [Nat.add_mul, Nat.one_mul, List.take_add]
    rw [e]
    exact oks_append h1 h2

theorem trod_sh : ∀ (n : Nat) (t : TypeId) (ss : List Sh) (fuel : Nat) (cs : List Value) (x : DataW H × List MemPlace), shapes P n t = some ss → DataW.trod enc P w 0 (fun _ => true) true fuel t cs = some x → Sh.oks w ss cs
  | 0, _, _, _, _, _, h, _ => by simp [shapes] at h
  | n + 1, t, ss, fuel, cs, x, h, hx => by
    have ih := trod_sh n
    cases fuel with
    | zero => simp [DataW.trod] at hx
    | succ m =>
    simp only [shapes] at h
    cases ht : P.underlying t with
    | none => rw [ht] at h; simp at h
    | some u =>
      cases u with
      | bool =>
        rw [ht] at h; simp only [Option.some.injEq] at h; subst h
        rw [DataW.trod_step] at hx; unfold DataW.trodStep at hx; rw [ht] at hx
        split at hx <;> simp_all [Sh.oks, Sh.ok]
      | int k =>
        rw [ht] at h; simp only [Option.some.injEq] at h; subst h
        rw [DataW.trod_step] at hx; unfold DataW.trodStep at hx; rw [ht] at hx
        split at hx <;> simp_all [Sh.oks, Sh.ok]
      | string =>
        rw [ht] at h; simp only [Option.some.injEq] at h; subst h
        rw [DataW.trod_step] at hx; unfold DataW.trodStep at hx; rw [ht] at hx
        split at hx <;> simp_all [Sh.oks, Sh.ok]
      | slice e =>
        rw [ht] at h
        cases hs : shapes P n e with
        | none => simp [hs] at h
        | some es =>
          simp only [hs, Option.bind_some] at h
          split at h
          · rename_i hl
            simp only [Option.some.injEq] at h; subst h
            rcases open_slice ht hx with ⟨rfl, _⟩ | ⟨a, len, cap, mm, k, D, Pl, rfl, _, h1, h2, h3, _, h4⟩
            · simp [Sh.oks, Sh.ok]
            · simp only [if_true] at h3
              subst h3
              simp only [Sh.oks, Sh.ok]
              refine ⟨_, [], rfl, Or.inr ⟨a, len, mm, rfl, h1, h2, fun i hi => ?_⟩, rfl⟩
              obtain ⟨cs', h5, h6⟩ := h4 i hi
              rw [hl]
              exact ⟨cs', h5, ih _ _ _ _ _ hs h6⟩
          · simp at h
      | struct fs =>
        rw [ht] at h
        cases hs : fieldsSh P (shapes P n) fs.toList 0 with
        | none => simp [hs] at h
        | some a =>
          simp only [hs, Option.bind_some] at h
          split at h
          · rename_i hl
            simp only [Option.some.injEq] at h; subst h
            obtain ⟨xs, m', hm, _, hc, hn, hf⟩ := DataW.trod_struct ht hx
            have := fields_ok (fuel := m') (cs := cs) ih fs.toList 0 a hs (fun i f hif => by
              have hif' : fs[i]? = some f := by simpa using hif
              rw [hf i f hif']
              have : i < xs.length := by
                rw [hn]
                rcases Nat.lt_or_ge i fs.size with hlt | hge
                · exact hlt
                · rw [Array.getElem?_eq_none hge] at hif'; cases hif'
              exact ⟨xs[i], List.getElem?_eq_getElem this⟩)
            rw [List.drop_zero, List.take_of_length_le (by omega)] at this
            exact this
          · simp at h
      | array k e =>
        rw [ht] at h
        cases hs : shapes P n e with
        | none => simp [hs] at h
        | some es =>
          simp only [hs, Option.bind_some] at h
          split at h
          · rename_i hl
            simp only [Option.some.injEq] at h; subst h
            obtain ⟨xs, m', _, _, hc, hn, hf⟩ := DataW.trod_array ht hx
            have := repeat_ok (w := w) (es := es) (cs := cs) hl.1 k (fun i hi => by
              have h1 := hf i hi
              rw [List.getElem?_eq_getElem (by omega)] at h1
              exact ih _ _ _ _ _ hs h1)
            rw [List.take_of_length_le (by rw [hc, ← hl.2, ← hl.1]; omega)] at this
            exact this
          · simp at h
      | _ => rw [ht] at h; simp at h

/-- WHAT THE WALK IS TOLD of an argument of one cell, and of one of several (an array, a struct). -/
def ok1 (w : World) (s : Sh) (v : Value) : Prop := s.ok w v
def okN (w : World) (ss : List Sh) (v : Value) : Prop := ∃ cs : List Value, v = .agg cs.toArray ∧ Sh.oks w ss cs

def isAgg (P : Program) (t : TypeId) : Bool := match P.underlying t with | some (.struct _) | some (.array _ _) => true | _ => false

theorem open_one {t : TypeId} {s : Sh} {v : Value} {d : DataW H} {p : List MemPlace} (n : Nat) (hs : shapes P n t = some [s]) (ha : isAgg P t = false)
    (hv : Value.okWide P w .any 0 t v) (h : DataW.Trod enc P w 0 (fun _ => true) true t v d p) : ok1 w s v := by
  obtain ⟨fuel, hf⟩ := h
  have hc : v.cells = #[v] := by
    unfold isAgg at ha
    unfold Value.okWide at hv
    cases ht : P.underlying t with
    | none => cases n <;> simp [shapes, ht] at hs
    | some u =>
      rw [ht] at ha hv
      cases u <;> first | (simp at ha; done) | ((cases n <;> simp [shapes, ht] at hs); done) | (cases v <;> simp_all [Cell.okWide, Cell.ok, Value.cells])
  rw [hc] at hf
  have := trod_sh n t _ _ _ _ hs hf
  simp only [Sh.oks] at this
  obtain ⟨v', vs, e, h1, h2⟩ := this
  simp at e
  rw [← e.1] at h1
  exact h1

theorem open_many {t : TypeId} {ss : List Sh} {v : Value} {d : DataW H} {p : List MemPlace} (n : Nat) (hs : shapes P n t = some ss) (ha : isAgg P t = true)
    (hv : Value.okWide P w .any 0 t v) (h : DataW.Trod enc P w 0 (fun _ => true) true t v d p) : okN w ss v := by
  obtain ⟨fuel, hf⟩ := h
  have hc : ∃ cs : Array Value, v = .agg cs := by
    unfold isAgg at ha
    unfold Value.okWide at hv
    cases ht : P.underlying t with
    | none => rw [ht] at ha; simp at ha
    | some u =>
      rw [ht] at ha hv
      cases u <;> first | (simp at ha; done) | (obtain ⟨cs, h1, _⟩ := hv; exact ⟨cs, h1⟩)
  obtain ⟨cs, rfl⟩ := hc
  exact ⟨cs.toList, by simp, trod_sh n t _ _ _ _ hs hf⟩

/-! ### What a cell's shape gives -/
theorem get_int {w : World} {k : IntKind} {v : Value} (h : ok1 w (.int k) v) : ∃ n, v = .int k n ∧ (Lit.int k n).wf = true := by unfold ok1 at h; simpa only [Sh.ok] using h
theorem get_slice {w : World} {es : List Sh} {v : Value} (h : ok1 w (.slice es) v) : v = .slice none 0 0 ∨ ∃ a len cap, v = .slice (some a) len cap ∧ len ≤ cap ∧ cap ≤ maxLen ∧
      ∀ i, i < cap → ∃ cs, w.cells? 0 (a.add (i * es.length)) es.length = some cs ∧ Sh.oks w es cs := by unfold ok1 at h; simpa only [Sh.ok] using h
theorem get_nil {w : World} {cs : List Value} (h : Sh.oks w [] cs) : cs = [] := by simpa only [Sh.oks] using h
theorem get_cons {w : World} {s : Sh} {ss : List Sh} {cs : List Value} (h : Sh.oks w (s :: ss) cs) : ∃ v vs, cs = v :: vs ∧ ok1 w s v ∧ Sh.oks w ss vs := by unfold ok1; simpa only [Sh.oks] using h
end
end Go.Proofs.Ytaaciolfgplnoaa.Fr

/- Layer 6's laws: MemNone. -/
namespace Go.Proofs.Ytaaciolfgplnoaa.Mm
open Go.RowKit
set_option linter.unusedVariables false
set_option linter.unusedSimpArgs false

/-- The cells of an access. -/
def OpCells (w : World) (g off : Nat) (k a c is old x : Int) : Prop :=
  w.cell? ⟨g, off, none⟩ = some (.int .i64 k) ∧ w.cell? ⟨g, off + 1, none⟩ = some (.int .i64 a) ∧ w.cell? ⟨g, off + 2, none⟩ = some (.int .i64 c) ∧ w.cell? ⟨g, off + 3, none⟩ = some (.int .u64 is) ∧ w.cell? ⟨g, off + 4, none⟩ = some (.int .u64 old) ∧ w.cell? ⟨g, off + 5, none⟩ = some (.int .u64 x) ∧
    (0 ≤ is ∧ is < 18446744073709551616) ∧ (0 ≤ old ∧ old < 18446744073709551616) ∧ (0 ≤ x ∧ x < 18446744073709551616)
theorem OpCells.below {w w' : World} {g off : Nat} {k a c is old x : Int} (h : OpCells w g off k a c is old x) (hb : Below w.heap.size w w') : OpCells w' g off k a c is old x := by
  obtain ⟨h0, h1, h2, h3, h4, h5, r⟩ := h
  exact ⟨Ext.use (Ext.cells h0) hb, Ext.use (Ext.cells h1) hb, Ext.use (Ext.cells h2) hb, Ext.use (Ext.cells h3) hb, Ext.use (Ext.cells h4) hb, Ext.use (Ext.cells h5) hb, r⟩
end Go.Proofs.Ytaaciolfgplnoaa.Mm

/- Layer 6: Of; the walk of MemOf. -/
namespace Go.Proofs.Ytaaciolfgplnoaa.Mm
open Go.RowKit
set_option linter.unusedVariables false
set_option linter.unusedSimpArgs false

theorem add_at (g off j : Nat) : ((⟨g, off, none⟩ : Addr).add j) = ⟨g, off + j, none⟩ := by
  unfold Addr.add; split <;> simp_all
theorem memAt_heap {w : World} {b g n : Nat} {f : Nat → Int} {T U : TypeId} {acc : Int} {flt : Bool} (hb : w.heap[b]? = some (.cells #[.slice (some ⟨g, 0, none⟩) n n, .int .i64 acc, .bool flt] T (0, 0))) (hg : w.heap[g]? = some (.cells (wordsL n f).toArray U (0, 0))) (ne : b ≠ g)
    (n1 : 1 ≤ n) (n2 : n ≤ 4096) (rng : ∀ i, i < n → 0 ≤ f i ∧ f i < 18446744073709551616) : MemAt w b g n n f acc flt where
  h0 := by rw [cell_of_row _ b 0 _ _ _ hb]; rfl
  h1 := by rw [cell_of_row _ b 1 _ _ _ hb]; rfl
  h2 := by rw [cell_of_row _ b 2 _ _ _ hb]; rfl
  hb i := frozen_of_row _ b i _ _ hb
  row i hi := by rw [cell_of_row _ g i _ _ _ hg]; simpa using wordsL_get n f i hi
  hg i := frozen_of_row _ g i _ _ hg
  ne := ne
  bl := (Array.getElem?_eq_some_iff.1 hb).1
  gl := (Array.getElem?_eq_some_iff.1 hg).1
  nC := Nat.le_refl _
  n1 := n1
  n2 := n2
  cC := by omega
  rng := rng
theorem own_full {w : World} {B g : Nat} {e : TypeId} {n : Nat} {L : List Value} (h : w.ownsRow B e 1 (.slice (some ⟨g, 0, none⟩) n n) n L) (hn : 0 < n) : w.heap[g]? = some (.cells L.toArray e (0, 0)) := by
  rcases h.2 with ⟨hv, h0⟩ | ⟨g', cap, cur, hv, hg, hh, hc, hm, hs, ht⟩
  · omega
  · simp only [Value.slice.injEq, Option.some.injEq, Addr.mk.injEq] at hv
    obtain ⟨⟨rfl, _⟩, _, rfl⟩ := hv
    rw [List.take_of_length_le (by simp; omega)] at ht
    rw [hh, ← ht]
theorem mnew_row (n : Nat) (w : World) (n1 : 1 ≤ n) (n2 : n ≤ 4096) : Calls Try.prog 49 #[.int .i64 n] w fun e w' => ∃ b g T, e = .returned (.pointer (some ⟨b, 0, none⟩)) ∧ w.heap.size ≤ b ∧ w.heap.size ≤ g ∧ b ≠ g ∧
    w'.heap[b]? = some (.cells #[.slice (some ⟨g, 0, none⟩) n n, .int .i64 0, .bool false] T (0, 0)) ∧ w'.heap[g]? = some (.cells (wordsL n fun _ => 0).toArray 22 (0, 0)) ∧ Below w.heap.size w w' := by
  obtain ⟨i0, hi, hz0, hz1, hz2⟩ := info_parts info64
  refine Calls.veil fun Q HQ => ?_
  have m1 : ¬ (n : Int) < 1 := by omega
  have m2 : ¬ (4096 : Int) < n := by omega
  go_enter Try.func49, Try.ntmps49
  go_wp2_with (refine wpList_make_full _ rfl (.tmp 9) (.tmp 9) 43 rfl w.heap.size 22 i0 _ 1 u64s hi hz0 hz1 .i64 .i64 _ _ n rfl rfl rfl rfl (by rw [hz2]; omega) (by unfold maxLen; omega) (Nat.le_refl _) ?_)
  intro w1 hown hgrow
  rw [made_words] at hown
  have hh := own_full hown n1
  have hb : Below w.heap.size w w1 := (Below.refl _ _).grown hgrow (Nat.le_refl _) (by intro k hk; cases hk)
  have H := Lib.hid hh
  clear hh hown hgrow
  go_wp2_with fail
  (try go_ret)
  rw [HQ.out]
  have hlt := (Array.getElem?_eq_some_iff.1 H.out).1
  exact ⟨w1.heap.size, w.heap.size, _, rfl, hb.size, Nat.le_refl _, by omega, heap_alloc_new _ _, (Below.heap_alloc _ _ _ hlt).trans H.out, below_new hb _⟩
theorem size64 : (Try.prog.info? 22).map (·.size) = some 1 := by kernel_rfl
set_option maxHeartbeats 1000000 in
theorem mof (g0 off n cap : Nat) (f : Nat → Int) (w : World) (n1 : 1 ≤ n) (n2 : n ≤ 4096) (nc : n ≤ cap) (hc : cap ≤ 9223372036854775807) (h : ∀ i, i < n → w.cell? ⟨g0, off + i, none⟩ = some (.int .u64 (f i))) (rng : ∀ i, i < n → 0 ≤ f i ∧ f i < 18446744073709551616) :
    Calls Try.prog 25 #[.slice (some ⟨g0, off, none⟩) n cap] w fun e w' => ∃ b g, e = .returned (.pointer (some ⟨b, 0, none⟩)) ∧ w.heap.size ≤ b ∧ w.heap.size ≤ g ∧ MemAt w' b g n n f 0 false ∧ Below w.heap.size w w' := by
  have H := Lib.hid h; have HR := Lib.hid rng
  clear h rng
  refine Calls.veil fun Q HQ => ?_
  go_enter Try.func25, Try.ntmps25
  go_wp2_with fail
  refine (mnew_row n w n1 n2).mono ?_; rintro _ w2 ⟨b, g, T, rfl, hb, hg, hne, hhb, hhg, hB⟩
  have h0 : w2.cell? ⟨b, 0, none⟩ = some (.slice (some ⟨g, 0, none⟩) n n) := by rw [cell_of_row _ b 0 _ _ _ hhb]; rfl
  have hsrc : ∀ j v, (wordsL n f)[j]? = some v → w2.cell? ((⟨g0, off, none⟩ : Addr).add j) = some v := by
    intro j v hj
    have hjn : j < n := by
      have := (List.getElem?_eq_some_iff.1 hj).1; rw [wordsL_len] at this; exact this
    rw [wordsL_get n f j hjn] at hj
    rw [← hj]
    rw [add_at]
    exact Ext.use (Ext.cells (H.out j hjn)) hB
  have HB := Lib.hid hhb; have HG := Lib.hid hhg; have HS := Lib.hid hsrc
  clear hhb hhg hsrc
  go_wp2_with (refine wpList_copy_own rfl (.tmp 12) (.tmp 13) 43 43 rfl 22 u64s size64 g 0 n n ⟨g0, off, none⟩ n cap rfl rfl _ _ HG.out (wordsL n f) (by rw [wordsL_len]; simp) HS.out (by simp [wordsL_len]) (one_words n f) ?_)
  generalize hV : World.setRow w2 g _ = V
  have e1 : V.heap[b]? = w2.heap[b]? := by rw [← hV]; exact setRow_other w2 g b _ hne
  have e2 : V.heap[g]? = some (.cells (wordsL n f).toArray 22 (0, 0)) := by
    rw [← hV]
    rw [setRow_heap w2 g _ _ _ (0, 0) HG.out]
    rw [List.drop_of_length_le (by simp [wordsL_len])]; simp
  have e3 : Below w.heap.size w V := by rw [← hV]; exact below_setRow hB hg _
  have HM := Lib.hid (memAt_heap (e1.trans HB.out) e2 hne n1 n2 HR.out)
  clear hV e1 e2
  go_wp2_with fail
  (try go_ret)
  rw [HQ.out]
  exact ⟨b, g, rfl, hb, hg, HM.out, e3⟩
end Go.Proofs.Ytaaciolfgplnoaa.Mm

/- Contracts of layer 1's functions. -/
namespace Go.Proofs.Ytaaciolfgplnoaa
open Go.RowKit WordM

theorem ret_int {k : IntKind} {a b : Int} (h : a = b) : Ending.returned (.int k a) = .returned (.int k b) := by rw [h]

theorem may_calls (a b : Int) (w : World) :
    Calls Try.prog 89 #[.int .i64 a, .int .i64 b] w fun e w' => e = .returned (.bool (mayB a b)) ∧ w = w' := by
  by_cases h : mayB a b = true
  · obtain ⟨h1, h2, h3, h4, h5⟩ := may_true h
    rw [h]; clear h
    go_enter Try.func89, Try.ntmps89
    go_wp2
    go_ret
    exact ⟨rfl, rfl⟩
  · have hf : mayB a b = false := by simpa using h
    have h' := may_false hf
    rw [hf]; clear h hf
    by_cases h1 : 0 ≤ a
    all_goals by_cases h2 : a ≤ 63
    all_goals by_cases h3 : 1 ≤ b
    all_goals by_cases h4 : b ≤ 64
    all_goals try (have h5 : ¬ a + b ≤ 64 := by omega)
    all_goals try clear h'
    all_goals
      go_enter Try.func89, Try.ntmps89
      go_wp2
      go_ret
      exact ⟨rfl, rfl⟩

theorem mask_calls (a b : Int) (w : World) :
    Calls Try.prog 90 #[.int .i64 a, .int .i64 b] w fun e w' => e = .returned (.int .u64 (maskI a b)) ∧ w = w' := by
  by_cases h : mayB a b = true
  · have hs := Lib.hid (mask_spell a b h)
    obtain ⟨h1, h2, h3, h4, h5⟩ := may_true h
    go_enter Try.func90, Try.ntmps90
    go_wp2_with (go_at_call 89; refine (may_calls _ _ _).mono ?_; rintro e w' ⟨rfl, rfl⟩)
    go_ret
    exact ⟨ret_int hs.out, rfl⟩
  · have hf : mayB a b = false := by simpa using h
    have hm : maskI a b = 0 := by unfold maskI; rw [if_neg h]
    rw [hm]; clear h hm
    go_enter Try.func90, Try.ntmps90
    go_wp2_with (go_at_call 89; refine (may_calls _ _ _).mono ?_; rintro e w' ⟨rfl, rfl⟩)
    go_ret
    exact ⟨rfl, rfl⟩

theorem field_calls (x a b : Int) (w : World) (x1 : 0 ≤ x) (x2 : x < 18446744073709551616) :
    Calls Try.prog 69 #[.int .u64 x, .int .i64 a, .int .i64 b] w fun e w' => e = .returned (.int .u64 (fieldI x a b)) ∧ w = w' := by
  by_cases h : mayB a b = true
  · have hs := Lib.hid (field_spell x a b h x1 x2)
    obtain ⟨h1, h2, h3, h4, h5⟩ := may_true h
    go_enter Try.func69, Try.ntmps69
    go_wp2_with (first | (go_at_call 89; refine (may_calls _ _ _).mono ?_; rintro e w' ⟨rfl, rfl⟩) | (go_at_call 90; refine (mask_calls _ _ _).mono ?_; rintro e w' ⟨rfl, rfl⟩))
    go_ret
    exact ⟨ret_int hs.out, rfl⟩
  · have hf : mayB a b = false := by simpa using h
    have hm : fieldI x a b = 0 := by unfold fieldI; rw [if_neg h]
    rw [hm]; clear h hm
    go_enter Try.func69, Try.ntmps69
    go_wp2_with (go_at_call 89; refine (may_calls _ _ _).mono ?_; rintro e w' ⟨rfl, rfl⟩)
    go_ret
    exact ⟨rfl, rfl⟩

theorem with_calls (x a b n : Int) (w : World) (x1 : 0 ≤ x) (x2 : x < 18446744073709551616) (n1 : 0 ≤ n) :
    Calls Try.prog 76 #[.int .u64 x, .int .i64 a, .int .i64 b, .int .u64 n] w fun e w' => e = .returned (.int .u64 (withI x a b n)) ∧ w = w' := by
  by_cases h : mayB a b = true
  · have hs := Lib.hid (with_spell x a b n h x1 x2 n1)
    obtain ⟨h1, h2, h3, h4, h5⟩ := may_true h
    go_enter Try.func76, Try.ntmps76
    go_wp2_with (first | (go_at_call 89; refine (may_calls _ _ _).mono ?_; rintro e w' ⟨rfl, rfl⟩) | (go_at_call 90; refine (mask_calls _ _ _).mono ?_; rintro e w' ⟨rfl, rfl⟩))
    go_ret
    exact ⟨ret_int hs.out, rfl⟩
  · have hf : mayB a b = false := by simpa using h
    have hm : withI x a b n = x := by unfold withI; rw [if_neg h]
    rw [hm]; clear h hm
    go_enter Try.func76, Try.ntmps76
    go_wp2_with (go_at_call 89; refine (may_calls _ _ _).mono ?_; rintro e w' ⟨rfl, rfl⟩)
    go_ret
    exact ⟨rfl, rfl⟩





theorem bit_calls (x a : Int) (w : World) (x1 : 0 ≤ x) (x2 : x < 18446744073709551616) :
    Calls Try.prog 98 #[.int .u64 x, .int .i64 a] w fun e w' => e = .returned (.bool (fieldI x a 1 == 1)) ∧ w = w' := by
  go_enter Try.func98, Try.ntmps98
  go_wp2_with fail
  refine (field_calls _ _ _ _ x1 x2).mono ?_; rintro e w' ⟨rfl, rfl⟩
  go_wp2_with fail
  go_ret
  exact ⟨rfl, rfl⟩

theorem turned_calls (x a : Int) (on : Bool) (w : World) (x1 : 0 ≤ x) (x2 : x < 18446744073709551616) :
    Calls Try.prog 77 #[.int .u64 x, .int .i64 a, .bool on] w fun e w' => e = .returned (.int .u64 (withI x a 1 (if on then 1 else 0))) ∧ w = w' := by
  cases on
  all_goals
    go_enter Try.func77, Try.ntmps77
    go_wp2_with fail
    refine (with_calls _ _ _ _ _ x1 x2 (by omega)).mono ?_; rintro e w' ⟨rfl, rfl⟩
    go_wp2_with fail
    go_ret
    exact ⟨rfl, rfl⟩

end Go.Proofs.Ytaaciolfgplnoaa

/- Plain arithmetic of edges: words with a slot (12 bits), a generation (50), a flag and a tag. -/
namespace Go.Proofs.Ytaaciolfgplnoaa.EdgeM
open Go.RowKit WordM

theorem slot_eq {e : Int} (h : 0 ≤ e) : fieldI e 0 12 = e % 4096 := by
  rw [field_eq (by decide) h]; show e / 2 ^ 0 % 2 ^ 12 = _; simp
theorem gen_eq {e : Int} (h : 0 ≤ e) : fieldI e 12 50 = e / 4096 % 1125899906842624 := by
  rw [field_eq (by decide) h]; rfl
theorem make_eq {s g : Int} (h : 0 ≤ s) (h2 : s ≤ 4095) (hg : 0 ≤ g) : withI s 12 50 g = s + 4096 * (g % 1125899906842624) := by
  rw [with_eq (by decide) h hg]
  show 4611686018427387904 * (s / 4611686018427387904) + (4096 * (g % 1125899906842624) + s % 4096) = _
  omega
/-- A slot that may be, or 0. -/
def slotI (s : Int) : Int := if 0 ≤ s ∧ s ≤ 4095 then s else 0
theorem slotI_bd (s : Int) : 0 ≤ slotI s ∧ slotI s ≤ 4095 := by unfold slotI; split <;> omega
theorem slotI_of {s : Int} (h : 0 ≤ s) (h2 : s ≤ 4095) : slotI s = s := by unfold slotI; rw [if_pos ⟨h, h2⟩]
theorem slotI_not {s : Int} (h : ¬ (0 ≤ s ∧ s ≤ 4095)) : slotI s = 0 := by unfold slotI; rw [if_neg h]
def makeI (s g : Int) : Int := slotI s + 4096 * (g % 1125899906842624)
theorem makeI_bd (s : Int) {g : Int} (_h : 0 ≤ g) : 0 ≤ makeI s g ∧ makeI s g < 4611686018427387904 := by have := slotI_bd s; unfold makeI; omega
theorem node_eq {e : Int} (_h : 0 ≤ e) : makeI (e % 4096) (e / 4096 % 1125899906842624) = e % 4611686018427387904 := by
  unfold makeI; rw [slotI_of (by omega) (by omega)]; omega
end Go.Proofs.Ytaaciolfgplnoaa.EdgeM

/- Layer 2's contracts: keys. -/
namespace Go.Proofs.Ytaaciolfgplnoaa
open Go.RowKit WordM EdgeM

/-- The greater key. -/





def infoI (leaf : Bool) (k : Int) : Int := if 0 ≤ k ∧ k ≤ 3 then 2 * k + (if leaf then 1 else 0) else 0
theorem oinfo_calls (leaf : Bool) (k : Int) (w : World) : Calls Try.prog 53 #[.bool leaf, .int .i64 k] w fun e w' => e = .returned (.int .u64 (infoI leaf k)) ∧ w = w' := by
  rcases (by omega : k < 0 ∨ (0 ≤ k ∧ 3 < k) ∨ (0 ≤ k ∧ k ≤ 3)) with h | ⟨h, h'⟩ | ⟨h, h'⟩
  iterate 2
    case _ =>
      have HI := Lib.hid (show infoI leaf k = 0 by unfold infoI; rw [if_neg (by omega)])
      go_enter Try.func53, Try.ntmps53
      go_wp2
      go_ret
      exact ⟨ret_int (by rw [HI.out]), rfl⟩
  have HU := Lib.hid (show IntKind.u64.wrap k = k by rw [IntKind.wrap_u64]; omega)
  cases leaf
  · have H1 := Lib.hid (show withI 0 0 1 0 = 0 by decide)
    have HI := Lib.hid (show withI 0 1 2 k = infoI false k by
      rw [with_eq (by decide) (by omega) h]; unfold infoI; rw [if_pos ⟨h, h'⟩]; show 8 * (0 / 8) + (2 * (k % 4) + 0 % 2) = _; simp; omega)
    go_enter Try.func53, Try.ntmps53
    go_wp2_with fail
    refine (turned_calls _ _ _ _ (by omega) (by omega)).mono ?_; rintro e w' ⟨rfl, rfl⟩
    rw [if_neg Bool.false_ne_true, H1.out]
    go_wp2_with fail
    refine (with_calls _ _ _ _ _ (by omega) (by omega) h).mono ?_; rintro e w' ⟨rfl, rfl⟩
    rw [HI.out]
    go_wp2_with fail
    go_ret
    exact ⟨rfl, rfl⟩
  · have H1 := Lib.hid (show withI 0 0 1 1 = 1 by decide)
    have HI := Lib.hid (show withI 1 1 2 k = infoI true k by
      rw [with_eq (by decide) (by omega) h]; unfold infoI; rw [if_pos ⟨h, h'⟩]; show 8 * (1 / 8) + (2 * (k % 4) + 1 % 2) = _; simp; omega)
    go_enter Try.func53, Try.ntmps53
    go_wp2_with fail
    refine (turned_calls _ _ _ _ (by omega) (by omega)).mono ?_; rintro e w' ⟨rfl, rfl⟩
    rw [if_pos rfl, H1.out]
    go_wp2_with fail
    refine (with_calls _ _ _ _ _ (by omega) (by omega) h).mono ?_; rintro e w' ⟨rfl, rfl⟩
    rw [HI.out]
    go_wp2_with fail
    go_ret
    exact ⟨rfl, rfl⟩

end Go.Proofs.Ytaaciolfgplnoaa

/- Layer 4's contracts: heads, announcements, stamps. -/
namespace Go.Proofs.Ytaaciolfgplnoaa
open Go.RowKit WordM EdgeM

theorem bhead_eq {s g : Int} (h : 0 ≤ s) (h2 : s ≤ 4095) (hg : 0 ≤ g) : withI s 12 52 g = s + 4096 * (g % 4503599627370496) := by
  rw [with_eq (by decide) h hg]
  show 18446744073709551616 * (s / 18446744073709551616) + (4096 * (g % 4503599627370496) + s % 4096) = _
  omega
theorem bchg_eq {h : Int} (h1 : 0 ≤ h) (h2 : h < 18446744073709551616) : fieldI h 12 52 = h / 4096 := by
  rw [field_eq (by decide) h1]; show h / 4096 % 4503599627370496 = _; omega
theorem bep_eq {h : Int} (h1 : 0 ≤ h) (h2 : h < 18446744073709551616) : fieldI h 1 63 = h / 2 := by
  rw [field_eq (by decide) h1]; show h / 2 % 9223372036854775808 = _; omega
theorem bbit_eq {h : Int} (h1 : 0 ≤ h) : fieldI h 0 1 = h % 2 := by
  rw [field_eq (by decide) h1]; show h / 1 % 2 = _; omega
def headI (s g : Int) : Int := slotI s + 4096 * (g % 4503599627370496)
theorem headI_bd (s : Int) {g : Int} (_h : 0 ≤ g) : 0 ≤ headI s g ∧ headI s g < 18446744073709551616 := by have := slotI_bd s; unfold headI; omega
def oddB (w : Int) : Bool := w % 2 == 1
theorem bhead_calls (s g : Int) (w : World) (g1 : 0 ≤ g) :
    Calls Try.prog 51 #[.int .i64 s, .int .u64 g] w fun e w' => e = .returned (.int .u64 (headI s g)) ∧ w = w' := by
  have hb := slotI_bd s
  rcases (by omega : s < 0 ∨ (0 ≤ s ∧ 4095 < s) ∨ (0 ≤ s ∧ s ≤ 4095)) with h | ⟨h, h'⟩ | ⟨h, h'⟩
  iterate 2
    case _ =>
      have HS := Lib.hid (show withI 0 12 52 g = headI s g by rw [bhead_eq (by omega) (by omega) g1]; unfold headI; rw [slotI_not (by omega)])
      go_enter Try.func51, Try.ntmps51
      go_wp2_with fail
      refine (with_calls _ _ _ _ _ (by omega) (by omega) g1).mono ?_; rintro e w' ⟨rfl, rfl⟩
      rw [HS.out]
      go_wp2_with fail
      go_ret
      exact ⟨rfl, rfl⟩
  have HS := Lib.hid (show withI s 12 52 g = headI s g by rw [bhead_eq (by omega) (by omega) g1]; unfold headI; rw [slotI_of h h'])
  have HU := Lib.hid (show IntKind.u64.wrap s = s by rw [IntKind.wrap_u64]; omega)
  go_enter Try.func51, Try.ntmps51
  go_wp2_with fail
  refine (with_calls _ _ _ _ _ (by omega) (by omega) g1).mono ?_; rintro e w' ⟨rfl, rfl⟩
  rw [HS.out]
  go_wp2_with fail
  go_ret
  exact ⟨rfl, rfl⟩

theorem bslot_calls (h : Int) (w : World) (h1 : 0 ≤ h) (h2 : h < 18446744073709551616) :
    Calls Try.prog 94 #[.int .u64 h] w fun e w' => e = .returned (.int .i64 (h % 4096)) ∧ w = w' := by
  have HS := Lib.hid (slot_eq h1)
  go_enter Try.func94, Try.ntmps94
  go_wp2_with fail
  refine (field_calls _ _ _ _ h1 h2).mono ?_; rintro e w' ⟨rfl, rfl⟩
  rw [HS.out]
  go_wp2_with fail
  go_ret
  exact ⟨rfl, rfl⟩

theorem bchanged_calls (h s : Int) (w : World) (h1 : 0 ≤ h) (h2 : h < 18446744073709551616) :
    Calls Try.prog 99 #[.int .u64 h, .int .i64 s] w fun e w' => e = .returned (.int .u64 (headI s (h / 4096 + 1))) ∧ w = w' := by
  have HS := Lib.hid (bchg_eq h1 h2)
  go_enter Try.func99, Try.ntmps99
  go_wp2_with fail
  refine (field_calls _ _ _ _ h1 h2).mono ?_; rintro e w' ⟨rfl, rfl⟩
  rw [HS.out]
  go_wp2_with fail
  refine (bhead_calls _ _ _ (by omega)).mono ?_; rintro e w' ⟨rfl, rfl⟩
  go_wp2_with fail
  go_ret
  exact ⟨rfl, rfl⟩

theorem bepoch_calls (h : Int) (w : World) (h1 : 0 ≤ h) (h2 : h < 18446744073709551616) :
    Calls Try.prog 92 #[.int .u64 h] w fun e w' => e = .returned (.tuple #[.int .u64 (if oddB h then h / 2 else 0), .bool (oddB h)]) ∧ w = w' := by
  have HS := Lib.hid (bep_eq h1 h2)
  have HB := Lib.hid (show (fieldI h 0 1 == 1) = oddB h by rw [bbit_eq h1]; rfl)
  cases ho : oddB h
  all_goals
    rw [ho] at HB
    have HO := Lib.hid ho; clear ho
    go_enter Try.func92, Try.ntmps92
    go_wp2_with fail
    refine (bit_calls _ _ _ h1 h2).mono ?_; rintro e w' ⟨rfl, rfl⟩
    rw [HB.out]
    go_wp2_with fail
    try (refine (field_calls _ _ _ _ h1 h2).mono ?_; rintro e w' ⟨rfl, rfl⟩; rw [HS.out])
    try go_wp2_with fail
    go_ret2
    exact ⟨rfl, rfl⟩

def lagsB (h ep : Int) : Bool := oddB h && (h / 2 != ep)
theorem blags_calls (h ep : Int) (w : World) (h1 : 0 ≤ h) (h2 : h < 18446744073709551616) :
    Calls Try.prog 85 #[.int .u64 h, .int .u64 ep] w fun e w' => e = .returned (.bool (lagsB h ep)) ∧ w = w' := by
  have HL := Lib.hid (show lagsB h ep = (oddB h && (h / 2 != ep)) from rfl)
  cases ho : oddB h
  all_goals
    rw [ho] at HL
    go_enter Try.func85, Try.ntmps85
    go_wp2_with fail
    refine (bepoch_calls _ _ h1 h2).mono ?_; rintro e w' ⟨rfl, rfl⟩
    rw [ho]
    go_wp2_with fail
    go_ret
    exact ⟨by rw [HL.out]; simp, rfl⟩

def oldB (s e : Int) : Bool := decide (s ≤ 18446744073709551612 ∧ s + 3 ≤ e)
theorem bold_calls (s ep : Int) (w : World) (s1 : 0 ≤ s) (s2 : s < 18446744073709551616) :
    Calls Try.prog 64 #[.int .u64 s, .int .u64 ep] w fun e w' => e = .returned (.bool (oldB s ep)) ∧ w = w' := by
  rcases (by omega : 18446744073709551612 < s ∨ (s ≤ 18446744073709551612 ∧ s + 3 ≤ ep) ∨ (s ≤ 18446744073709551612 ∧ ep < s + 3)) with h | ⟨h, h'⟩ | ⟨h, h'⟩
  all_goals
    first
      | have HL := Lib.hid (show oldB s ep = true from decide_eq_true (by omega))
      | have HL := Lib.hid (show oldB s ep = false from decide_eq_false (by omega))
    try have hd : decide (s + 3 ≤ ep) = false := decide_eq_false (by omega)
    go_enter Try.func64, Try.ntmps64
    go_wp2
    go_ret
    exact ⟨by rw [HL.out]; simp, rfl⟩

theorem bbag_calls (s : Int) (w : World) (s1 : 0 ≤ s) (s2 : s < 18446744073709551616) :
    Calls Try.prog 57 #[.int .u64 s] w fun e w' => e = .returned (.int .i64 (s % 3)) ∧ w = w' := by
  go_enter Try.func57, Try.ntmps57
  go_wp2
  go_ret
  exact ⟨rfl, rfl⟩
end Go.Proofs.Ytaaciolfgplnoaa

/- (without Flag, Plain) Contracts of layer 3's functions. -/
namespace Go.Proofs.Ytaaciolfgplnoaa
open Go.RowKit WordM EdgeM

theorem emake_calls (s g : Int) (w : World) (g1 : 0 ≤ g) :
    Calls Try.prog 70 #[.int .i64 s, .int .u64 g] w fun e w' => e = .returned (.int .u64 (makeI s g)) ∧ w = w' := by
  have hb := slotI_bd s
  rcases (by omega : s < 0 ∨ (0 ≤ s ∧ 4095 < s) ∨ (0 ≤ s ∧ s ≤ 4095)) with h | ⟨h, h'⟩ | ⟨h, h'⟩
  iterate 2
    case _ =>
      have HS := Lib.hid (show withI 0 12 50 g = makeI s g by rw [make_eq (by omega) (by omega) g1]; unfold makeI; rw [slotI_not (by omega)])
      go_enter Try.func70, Try.ntmps70
      go_wp2_with fail
      refine (with_calls _ _ _ _ _ (by omega) (by omega) g1).mono ?_; rintro e w' ⟨rfl, rfl⟩
      rw [HS.out]
      go_wp2_with fail
      go_ret
      exact ⟨rfl, rfl⟩
  have HS := Lib.hid (show withI s 12 50 g = makeI s g by rw [make_eq (by omega) (by omega) g1]; unfold makeI; rw [slotI_of h h'])
  have HU := Lib.hid (show IntKind.u64.wrap s = s by rw [IntKind.wrap_u64]; omega)
  go_enter Try.func70, Try.ntmps70
  go_wp2_with fail
  refine (with_calls _ _ _ _ _ (by omega) (by omega) g1).mono ?_; rintro e w' ⟨rfl, rfl⟩
  rw [HS.out]
  go_wp2_with fail
  go_ret
  exact ⟨rfl, rfl⟩

theorem eslot_calls (e : Int) (w : World) (e1 : 0 ≤ e) (e2 : e < 18446744073709551616) :
    Calls Try.prog 38 #[.int .u64 e] w fun x w' => x = .returned (.int .i64 (e % 4096)) ∧ w = w' := by
  have HS := Lib.hid (slot_eq e1)
  go_enter Try.func38, Try.ntmps38
  go_wp2_with fail
  refine (field_calls _ _ _ _ e1 e2).mono ?_; rintro x w' ⟨rfl, rfl⟩
  rw [HS.out]
  go_wp2_with fail
  go_ret
  exact ⟨rfl, rfl⟩

theorem egen_calls (e : Int) (w : World) (e1 : 0 ≤ e) (e2 : e < 18446744073709551616) :
    Calls Try.prog 78 #[.int .u64 e] w fun x w' => x = .returned (.int .u64 (e / 4096 % 1125899906842624)) ∧ w = w' := by
  have HS := Lib.hid (gen_eq e1)
  go_enter Try.func78, Try.ntmps78
  go_wp2_with fail
  refine (field_calls _ _ _ _ e1 e2).mono ?_; rintro x w' ⟨rfl, rfl⟩
  rw [HS.out]
  go_wp2_with fail
  go_ret
  exact ⟨rfl, rfl⟩




theorem enode_calls (e : Int) (w : World) (e1 : 0 ≤ e) (e2 : e < 18446744073709551616) :
    Calls Try.prog 56 #[.int .u64 e] w fun x w' => x = .returned (.int .u64 (e % 4611686018427387904)) ∧ w = w' := by
  have HS := Lib.hid (node_eq e1)
  go_enter Try.func56, Try.ntmps56
  go_wp2_with fail
  refine (eslot_calls _ _ e1 e2).mono ?_; rintro x w' ⟨rfl, rfl⟩
  go_wp2_with fail
  refine (egen_calls _ _ e1 e2).mono ?_; rintro x w' ⟨rfl, rfl⟩
  go_wp2_with fail
  refine (emake_calls _ _ _ (by omega)).mono ?_; rintro x w' ⟨rfl, rfl⟩
  rw [HS.out]
  go_wp2_with fail
  go_ret
  exact ⟨rfl, rfl⟩

theorem eto_calls (e o : Int) (w : World) (e1 : 0 ≤ e) (e2 : e < 18446744073709551616) (o1 : 0 ≤ o) (o2 : o < 18446744073709551616) :
    Calls Try.prog 40 #[.int .u64 e, .int .u64 o] w fun x w' => x = .returned (.bool (e % 4611686018427387904 == o % 4611686018427387904)) ∧ w = w' := by
  go_enter Try.func40, Try.ntmps40
  go_wp2_with fail
  refine (enode_calls _ _ e1 e2).mono ?_; rintro x w' ⟨rfl, rfl⟩
  go_wp2_with fail
  refine (enode_calls _ _ o1 o2).mono ?_; rintro x w' ⟨rfl, rfl⟩
  go_wp2_with fail
  go_ret
  exact ⟨rfl, rfl⟩
end Go.Proofs.Ytaaciolfgplnoaa

/- Layer 16: what memory has at first. -/
namespace Go.Proofs.Ytaaciolfgplnoaa
open Go.RowKit WordM EdgeM
set_option linter.unusedVariables false
set_option linter.unusedSimpArgs false
theorem Calls.veil {P : Program} {f : FuncId} {args : Array Value} {w : World} {R : Ending → World → Prop} (h : ∀ Q : Ending → World → Prop, Hid (Q = R) → Calls P f args w Q) : Calls P f args w R := h R rfl
theorem Mm.RowAt.set {w : World} {g n : Nat} {f : Nat → Int} (h : Mm.RowAt w g n f) {a : Nat} (ha : a < n) (x : Int) : Mm.RowAt (w.setCell ⟨g, a, none⟩ (.int .u64 x)) g n (Mm.upd f a x) where
  row i hi := by
    unfold Mm.upd
    by_cases e : i = a
    · subst e; rw [if_pos rfl]; exact Mm.scS (h.row i hi)
    · rw [if_neg e]; exact Mm.scO (h.row i hi) (by intro e2; simp only [Addr.mk.injEq] at e2; omega)
  fr i := Mm.scF (h.fr i)
  lt := by have := h.lt; simpa [World.setCell] using this
theorem node_nat (t s k f : Nat) (h1 : 1 ≤ k) (h2 : k ≤ s) (h3 : f < 7) : nodeI t s k f = ((3 + 8 * t + 7 * (k - 1) + f : Nat) : Int) := by
  unfold nodeI; rw [if_pos (by omega)]; omega
/-- An inner node, laid. -/
def innerF (f : Nat → Int) (a : Nat) (c l r : Int) : Nat → Int := Mm.upd (Mm.upd (Mm.upd f (a + 2) (infoI false c)) (a + 4) l) (a + 5) r
theorem make0 {l : Int} (h0 : 0 ≤ l) (h1 : l ≤ 4095) : makeI l 0 = l := by unfold makeI; rw [slotI_of h0 h1]; omega
set_option maxRecDepth 8000 in
set_option maxHeartbeats 1000000 in
theorem cinner {t s k pl g n : Nat} {f : Nat → Int} {w : World} (x0 : w.cell? ⟨pl, 0, none⟩ = some (.int .i64 t)) (x1 : w.cell? ⟨pl, 1, none⟩ = some (.int .i64 s)) (hr : Mm.RowAt w g n f) (hp : pl ≠ g) (t1 : 1 ≤ t) (t2 : t ≤ 6) (s1 : 7 ≤ s) (s2 : s ≤ 250) (hn : n = 3 + 8 * t + 7 * s) (h1 : 1 ≤ k) (h2 : k ≤ s) (c : Int) {l r : Int} (l0 : 0 ≤ l) (l1 : l ≤ 4095) (r0 : 0 ≤ r) (r1 : r ≤ 4095) :
    Calls Try.prog 52 #[.slice (some ⟨g, 0, none⟩) n n, .pointer (some ⟨pl, 0, none⟩), .int .i64 k, .int .i64 c, .int .i64 l, .int .i64 r] w fun e w' => e = .returned (.tuple #[]) ∧ Mm.RowAt w' g n (innerF f (3 + 8 * t + 7 * (k - 1)) c l r) ∧ Mm.Only g g w w' := by
  obtain ⟨a, ha⟩ : ∃ a, a = 3 + 8 * t + 7 * (k - 1) := ⟨_, rfl⟩
  have HN2 := Lib.hid (show nodeI t s k (2 : Int) = ((a + 2 : Nat) : Int) from by rw [ha]; exact node_nat t s k 2 h1 h2 (by omega))
  have HN4 := Lib.hid (show nodeI t s k (4 : Int) = ((a + 4 : Nat) : Int) from by rw [ha]; exact node_nat t s k 4 h1 h2 (by omega))
  have HN5 := Lib.hid (show nodeI t s k (5 : Int) = ((a + 5 : Nat) : Int) from by rw [ha]; exact node_nat t s k 5 h1 h2 (by omega))
  have ha2 : a + 5 < n := by omega
  rw [← ha]
  refine Calls.veil fun Q HQ => ?_
  have HM1 := Lib.hid (make0 l0 l1); have HM2 := Lib.hid (make0 r0 r1)
  have T1 : (1 : Int) ≤ t := by omega
  have T2 : (t : Int) ≤ 6 := by omega
  have S1 : (7 : Int) ≤ s := by omega
  have S2 : (s : Int) ≤ 250 := by omega
  have TT := Lib.hid (And.intro (And.intro T1 T2) (And.intro S1 S2))
  have HR := Lib.hid hr; have X0 := Lib.hid x0; have X1 := Lib.hid x1; have HP := Lib.hid hp
  clear ha hr x0 x1 hp T1 T2 S1 S2 hn l0 l1 r0 r1
  go_enter Try.func52, Try.ntmps52
  go_wp2_with fail
  refine (pnode_calls _ _ _ _ _ _ X0.out X1.out TT.out.1.1 TT.out.1.2 TT.out.2.1 TT.out.2.2).mono ?_; rintro _ w1 ⟨rfl, hb1⟩
  rw [HN2.out]
  have HR1 := Lib.hid (HR.out.below hb1); have HB1 := Lib.hid hb1
  clear hb1
  go_wp2_with fail
  refine (oinfo_calls _ _ _).mono ?_; rintro _ _ ⟨rfl, rfl⟩
  have r2 := HR1.out.row (a + 2) (by omega)
  have rf := HR1.out.fr (a + 2)
  go_upto_region 1 with fail
  generalize hW : World.setCell _ _ _ = V1
  have HR2 := Lib.hid (show Mm.RowAt V1 g n (Mm.upd f (a + 2) (infoI false c)) by rw [← hW]; exact HR1.out.set (by omega) _)
  have HO2 := Lib.hid (show Mm.Only g g w V1 by rw [← hW]; exact (Mm.Only.of_below HB1.out).set1 _ _)
  clear hW r2 rf HR1 HB1
  go_wp2_with fail
  refine (pnode_calls _ _ _ _ _ _ (HO2.out.cell X0.out HP.out HP.out) (HO2.out.cell X1.out HP.out HP.out) TT.out.1.1 TT.out.1.2 TT.out.2.1 TT.out.2.2).mono ?_; rintro _ w2 ⟨rfl, hb2⟩
  rw [HN4.out]
  have HR3 := Lib.hid (HR2.out.below hb2); have HB2 := Lib.hid hb2
  clear hb2
  go_wp2_with fail
  refine (emake_calls _ _ _ (by omega)).mono ?_; rintro _ _ ⟨rfl, rfl⟩
  rw [HM1.out]
  have r2 := HR3.out.row (a + 4) (by omega)
  have rf := HR3.out.fr (a + 4)
  go_upto_region 2 with fail
  generalize hW : World.setCell _ _ _ = V2
  have HR4 := Lib.hid (show Mm.RowAt V2 g n (Mm.upd (Mm.upd f (a + 2) (infoI false c)) (a + 4) l) by rw [← hW]; exact HR3.out.set (by omega) _)
  have HO4 := Lib.hid (show Mm.Only g g w V2 by rw [← hW]; exact (HO2.out.trans (Mm.Only.of_below HB2.out)).set1 _ _)
  clear hW r2 rf HR3 HB2 HR2 HO2
  go_wp2_with fail
  refine (pnode_calls _ _ _ _ _ _ (HO4.out.cell X0.out HP.out HP.out) (HO4.out.cell X1.out HP.out HP.out) TT.out.1.1 TT.out.1.2 TT.out.2.1 TT.out.2.2).mono ?_; rintro _ w3 ⟨rfl, hb3⟩
  rw [HN5.out]
  have HR5 := Lib.hid (HR4.out.below hb3); have HB3 := Lib.hid hb3
  clear hb3
  go_wp2_with fail
  refine (emake_calls _ _ _ (by omega)).mono ?_; rintro _ _ ⟨rfl, rfl⟩
  rw [HM2.out]
  have r2 := HR5.out.row (a + 5) (by omega)
  have rf := HR5.out.fr (a + 5)
  go_wp2_with fail
  refine bodyPost_end (v := .tuple #[]) (by simp [results, Try.results52, go_sem]) rfl ?_
  rw [HQ.out]
  exact ⟨rfl, HR5.out.set (by omega) _, (HO4.out.trans (Mm.Only.of_below HB3.out)).set1 _ _⟩
end Go.Proofs.Ytaaciolfgplnoaa
