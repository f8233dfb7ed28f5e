/- How an argument of plain data is opened: 'Sh': the shapes of its cells; 'okv': what the walk is told of it. Nothing of the program. -/
import Derived.WalkKit
import Derived.ProofKit
import Derived.Deep.Slices
import Derived.OpenShut
namespace Go.Proofs.Ytminbfingjbbbaa.Fr
open Go.ChangeShapes Go.WideShapes Go.Deep

/-- The shape of a cell: an integer, a bool, a text, or a slice whose elements have these cells. -/
inductive Sh where
  | int (k : IntKind)
  | bool
  | str
  | slice (es : List Sh)

mutual
def Sh.ok (w : World) : Sh → Value → Prop
  | .int k, v => ∃ n, v = .int k n ∧ (Lit.int k n).wf = true
  | .bool, v => ∃ b, v = .bool b
  | .str, v => ∃ s, v = .string s ∧ s.size ≤ maxLen
  | .slice es, v => v = .slice none 0 0 ∨ ∃ a len cap, v = .slice (some a) len cap ∧ len ≤ cap ∧ cap ≤ maxLen ∧
      ∀ i, i < cap → ∃ cs, w.cells? 0 (a.add (i * es.length)) es.length = some cs ∧ Sh.oks w es cs
def Sh.oks (w : World) : List Sh → List Value → Prop
  | [], cs => cs = []
  | s :: ss, cs => ∃ v vs, cs = v :: vs ∧ s.ok w v ∧ Sh.oks w ss vs
end

theorem oks_length {w : World} : ∀ {ss : List Sh} {cs : List Value}, Sh.oks w ss cs → cs.length = ss.length
  | [], _, h => by simp [Sh.oks] at h; simp [h]
  | s :: ss, cs, h => by
    simp only [Sh.oks] at h
    obtain ⟨v, vs, rfl, _, h2⟩ := h
    simp [oks_length h2]

theorem oks_append {w : World} : ∀ {a b : List Sh} {xs ys : List Value}, Sh.oks w a xs → Sh.oks w b ys → Sh.oks w (a ++ b) (xs ++ ys)
  | [], b, xs, ys, h, k => by simp [Sh.oks] at h; subst h; simpa using k
  | s :: ss, b, xs, ys, h, k => by
    simp only [Sh.oks] at h
    obtain ⟨v, vs, rfl, h1, h2⟩ := h
    simp only [List.cons_append, Sh.oks]
    exact ⟨v, vs ++ ys, rfl, h1, oks_append h2 k⟩

/-- The fields' shapes, one behind the other, where each begins where the one ahead of it ended. -/
def fieldsSh (P : Program) (f : TypeId → Option (List Sh)) : List Field → Nat → Option (List Sh)
  | [], _ => some []
  | x :: r, off => if x.offset = off then (f x.type).bind fun a => if a.length = P.cellsOf x.type then (fieldsSh P f r (off + a.length)).map (a ++ ·) else none else none

def repeatSh (a : List Sh) : Nat → List Sh
  | 0 => []
  | n + 1 => repeatSh a n ++ a

def shapes (P : Program) : Nat → TypeId → Option (List Sh)
  | 0, _ => none
  | n + 1, t =>
    match P.underlying t with
    | some .bool => some [.bool]
    | some (.int k) => some [.int k]
    | some .string => some [.str]
    | some (.slice e) => (shapes P n e).bind fun es => if es.length = P.cellsOf e then some [.slice es] else none
    | some (.struct fs) => (fieldsSh P (shapes P n) fs.toList 0).bind fun a => if a.length = P.cellsOf t then some a else none
    | some (.array m e) => (shapes P n e).bind fun es => if es.length = P.cellsOf e ∧ m * es.length = P.cellsOf t then some (repeatSh es m) else none
    | _ => none

section
variable {H : Type} {enc : TypeId × Value → H} {P : Program} {w : World}

theorem fields_ok {n fuel : Nat} {cs : List Value} (ih : ∀ (t : TypeId) (ss : List Sh) (fuel : Nat) (cs : List Value) (x : DataW H × List MemPlace), shapes P n t = some ss → DataW.trod enc P w 0 (fun _ => true) true fuel t cs = some x → Sh.oks w ss cs) :
    ∀ (fs : List Field) (off : Nat) (ss : List Sh), fieldsSh P (shapes P n) fs off = some ss →
      (∀ (i : Nat) (f : Field), fs[i]? = some f → ∃ x, DataW.trod enc P w 0 (fun _ => true) true fuel f.type ((cs.drop f.offset).take (P.cellsOf f.type)) = some x) →
      Sh.oks w ss ((cs.drop off).take ss.length)
  | [], off, ss, h, _ => by
    simp only [fieldsSh, Option.some.injEq] at h
    subst h; simp [Sh.oks]
  | f :: r, off, ss, h, hx => by
    simp only [fieldsSh] at h
    split at h
    · rename_i ho
      subst ho
      cases hs : shapes P n f.type with
      | none => simp [hs] at h
      | some a =>
        simp only [hs, Option.bind_some] at h
        split at h
        · rename_i hl
          cases hr : fieldsSh P (shapes P n) r (f.offset + a.length) with
          | none => simp [hr] at h
          | some b =>
            simp only [hr, Option.map_some, Option.some.injEq] at h
            subst h
            obtain ⟨x, h0⟩ := hx 0 f rfl
            have k0 := ih _ _ _ _ _ hs h0
            have k1 := fields_ok ih r (f.offset + a.length) b hr (fun i g hg => hx (i + 1) g (by simpa using hg))
            have e : (cs.drop f.offset).take (a ++ b).length = (cs.drop f.offset).take (P.cellsOf f.type) ++ (cs.drop (f.offset + a.length)).take b.length := by
              rw [List.length_append, List.take_add, ← hl, List.drop_drop]
            rw [e]
            exact oks_append k0 k1
        · simp at h
    · simp at h

theorem repeat_length (a : List Sh) : ∀ n, (repeatSh a n).length = n * a.length
  | 0 => by simp [repeatSh]
  | n + 1 => by simp [repeatSh, repeat_length a n, Nat.add_mul]

theorem repeat_ok {es : List Sh} {cs : List Value} {sz : Nat} (hz : es.length = sz) : ∀ (m : Nat), (∀ i, i < m → Sh.oks w es ((cs.drop (i * sz)).take sz)) → Sh.oks w (repeatSh es m) (cs.take (m * sz))
  | 0, _ => by simp [repeatSh, Sh.oks]
  | m + 1, h => by
    have h1 := repeat_ok hz m (fun i hi => h i (by omega))
    have h2 := h m (by omega)
    have e : cs.take ((m + 1) * sz) = cs.take (m * sz) ++ (cs.drop (m * sz)).take sz := by rw [Nat.add_mul, Nat.one_mul, List.take_add]
    rw [e]
    exact oks_append h1 h2

theorem trod_sh : ∀ (n : Nat) (t : TypeId) (ss : List Sh) (fuel : Nat) (cs : List Value) (x : DataW H × List MemPlace), shapes P n t = some ss → DataW.trod enc P w 0 (fun _ => true) true fuel t cs = some x → Sh.oks w ss cs
  | 0, _, _, _, _, _, h, _ => by simp [shapes] at h
  | n + 1, t, ss, fuel, cs, x, h, hx => by
    have ih := trod_sh n
    cases fuel with
    | zero => simp [DataW.trod] at hx
    | succ m =>
    simp only [shapes] at h
    cases ht : P.underlying t with
    | none => rw [ht] at h; simp at h
    | some u =>
      cases u with
      | bool =>
        rw [ht] at h; simp only [Option.some.injEq] at h; subst h
        rw [DataW.trod_step] at hx; unfold DataW.trodStep at hx; rw [ht] at hx
        split at hx <;> simp_all [Sh.oks, Sh.ok]
      | int k =>
        rw [ht] at h; simp only [Option.some.injEq] at h; subst h
        rw [DataW.trod_step] at hx; unfold DataW.trodStep at hx; rw [ht] at hx
        split at hx <;> simp_all [Sh.oks, Sh.ok]
      | string =>
        rw [ht] at h; simp only [Option.some.injEq] at h; subst h
        rw [DataW.trod_step] at hx; unfold DataW.trodStep at hx; rw [ht] at hx
        split at hx <;> simp_all [Sh.oks, Sh.ok]
      | slice e =>
        rw [ht] at h
        cases hs : shapes P n e with
        | none => simp [hs] at h
        | some es =>
          simp only [hs, Option.bind_some] at h
          split at h
          · rename_i hl
            simp only [Option.some.injEq] at h; subst h
            rcases open_slice ht hx with ⟨rfl, _⟩ | ⟨a, len, cap, mm, k, D, Pl, rfl, _, h1, h2, h3, _, h4⟩
            · simp [Sh.oks, Sh.ok]
            · simp only [if_true] at h3
              subst h3
              simp only [Sh.oks, Sh.ok]
              refine ⟨_, [], rfl, Or.inr ⟨a, len, mm, rfl, h1, h2, fun i hi => ?_⟩, rfl⟩
              obtain ⟨cs', h5, h6⟩ := h4 i hi
              rw [hl]
              exact ⟨cs', h5, ih _ _ _ _ _ hs h6⟩
          · simp at h
      | struct fs =>
        rw [ht] at h
        cases hs : fieldsSh P (shapes P n) fs.toList 0 with
        | none => simp [hs] at h
        | some a =>
          simp only [hs, Option.bind_some] at h
          split at h
          · rename_i hl
            simp only [Option.some.injEq] at h; subst h
            obtain ⟨xs, m', hm, _, hc, hn, hf⟩ := DataW.trod_struct ht hx
            have := fields_ok (fuel := m') (cs := cs) ih fs.toList 0 a hs (fun i f hif => by
              have hif' : fs[i]? = some f := by simpa using hif
              rw [hf i f hif']
              have : i < xs.length := by
                rw [hn]
                rcases Nat.lt_or_ge i fs.size with hlt | hge
                · exact hlt
                · rw [Array.getElem?_eq_none hge] at hif'; cases hif'
              exact ⟨xs[i], List.getElem?_eq_getElem this⟩)
            rw [List.drop_zero, List.take_of_length_le (by omega)] at this
            exact this
          · simp at h
      | array k e =>
        rw [ht] at h
        cases hs : shapes P n e with
        | none => simp [hs] at h
        | some es =>
          simp only [hs, Option.bind_some] at h
          split at h
          · rename_i hl
            simp only [Option.some.injEq] at h; subst h
            obtain ⟨xs, m', _, _, hc, hn, hf⟩ := DataW.trod_array ht hx
            have := repeat_ok (w := w) (es := es) (cs := cs) hl.1 k (fun i hi => by
              have h1 := hf i hi
              rw [List.getElem?_eq_getElem (by omega)] at h1
              exact ih _ _ _ _ _ hs h1)
            rw [List.take_of_length_le (by rw [hc, ← hl.2, ← hl.1]; omega)] at this
            exact this
          · simp at h
      | _ => rw [ht] at h; simp at h

/-- WHAT THE WALK IS TOLD of an argument of one cell, and of one of several (an array, a struct). -/
def ok1 (w : World) (s : Sh) (v : Value) : Prop := s.ok w v
def okN (w : World) (ss : List Sh) (v : Value) : Prop := ∃ cs : List Value, v = .agg cs.toArray ∧ Sh.oks w ss cs

def isAgg (P : Program) (t : TypeId) : Bool := match P.underlying t with | some (.struct _) | some (.array _ _) => true | _ => false

theorem open_one {t : TypeId} {s : Sh} {v : Value} {d : DataW H} {p : List MemPlace} (n : Nat) (hs : shapes P n t = some [s]) (ha : isAgg P t = false)
    (hv : Value.okWide P w .any 0 t v) (h : DataW.Trod enc P w 0 (fun _ => true) true t v d p) : ok1 w s v := by
  obtain ⟨fuel, hf⟩ := h
  have hc : v.cells = #[v] := by
    unfold isAgg at ha
    unfold Value.okWide at hv
    cases ht : P.underlying t with
    | none => cases n <;> simp [shapes, ht] at hs
    | some u =>
      rw [ht] at ha hv
      cases u <;> first | (simp at ha; done) | ((cases n <;> simp [shapes, ht] at hs); done) | (cases v <;> simp_all [Cell.okWide, Cell.ok, Value.cells])
  rw [hc] at hf
  have := trod_sh n t _ _ _ _ hs hf
  simp only [Sh.oks] at this
  obtain ⟨v', vs, e, h1, h2⟩ := this
  simp at e
  rw [← e.1] at h1
  exact h1

theorem open_many {t : TypeId} {ss : List Sh} {v : Value} {d : DataW H} {p : List MemPlace} (n : Nat) (hs : shapes P n t = some ss) (ha : isAgg P t = true)
    (hv : Value.okWide P w .any 0 t v) (h : DataW.Trod enc P w 0 (fun _ => true) true t v d p) : okN w ss v := by
  obtain ⟨fuel, hf⟩ := h
  have hc : ∃ cs : Array Value, v = .agg cs := by
    unfold isAgg at ha
    unfold Value.okWide at hv
    cases ht : P.underlying t with
    | none => rw [ht] at ha; simp at ha
    | some u =>
      rw [ht] at ha hv
      cases u <;> first | (simp at ha; done) | (obtain ⟨cs, h1, _⟩ := hv; exact ⟨cs, h1⟩)
  obtain ⟨cs, rfl⟩ := hc
  exact ⟨cs.toList, by simp, trod_sh n t _ _ _ _ hs hf⟩

/-! ### What a cell's shape gives -/
theorem get_int {w : World} {k : IntKind} {v : Value} (h : ok1 w (.int k) v) : ∃ n, v = .int k n ∧ (Lit.int k n).wf = true := by unfold ok1 at h; simpa only [Sh.ok] using h
theorem get_bool {w : World} {v : Value} (h : ok1 w .bool v) : ∃ b, v = .bool b := by unfold ok1 at h; simpa only [Sh.ok] using h
theorem get_str {w : World} {v : Value} (h : ok1 w .str v) : ∃ s, v = .string s ∧ s.size ≤ maxLen := by unfold ok1 at h; simpa only [Sh.ok] using h
theorem get_slice {w : World} {es : List Sh} {v : Value} (h : ok1 w (.slice es) v) : v = .slice none 0 0 ∨ ∃ a len cap, v = .slice (some a) len cap ∧ len ≤ cap ∧ cap ≤ maxLen ∧
      ∀ i, i < cap → ∃ cs, w.cells? 0 (a.add (i * es.length)) es.length = some cs ∧ Sh.oks w es cs := by unfold ok1 at h; simpa only [Sh.ok] using h
theorem get_nil {w : World} {cs : List Value} (h : Sh.oks w [] cs) : cs = [] := by simpa only [Sh.oks] using h
theorem get_cons {w : World} {s : Sh} {ss : List Sh} {cs : List Value} (h : Sh.oks w (s :: ss) cs) : ∃ v vs, cs = v :: vs ∧ ok1 w s v ∧ Sh.oks w ss vs := by unfold ok1; simpa only [Sh.oks] using h
end
end Go.Proofs.Ytminbfingjbbbaa.Fr
