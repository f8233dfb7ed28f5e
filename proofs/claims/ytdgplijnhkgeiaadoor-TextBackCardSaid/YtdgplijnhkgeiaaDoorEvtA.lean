/- Events as rows; all their numbers go into 64 bits. -/
import Derived.Test.YtdgplijnhkgeiaaDoorPairA
import Derived.Test.YtdgplijnhkgeiaaDoorTxtN
import Derived.Test.YtdgplijnhkgeiaaDoorFrame
namespace Go.Proofs.YtdgplijnhkgeiaaDoor
open Go.RowKit
set_option linter.unusedVariables false
set_option linter.unusedSimpArgs false
/-- An answer; a call; an event. -/
structure An where
  kind : Int
  key : Int
  val : Int
  n : Int
  ps : PL
structure Ca where
  op : Int
  key : Int
  val : Int
  hi : Int
  lim : Int
structure Ev where
  th : Int
  bk : Bool
  ca : Ca
  an : An
def cacells (c : Ca) : List Value := [.int .i64 c.op, .int .i64 c.key, .int .i64 c.val, .int .i64 c.hi, .int .i64 c.lim]
def ancells (a : An) (v : Value) : List Value := [.int .i64 a.kind, .int .i64 a.key, .int .i64 a.val, .int .i64 a.n, v]
def evcells (e : Ev) (v : Value) : List Value := .int .i64 e.th :: .bool e.bk :: (cacells e.ca ++ ancells e.an v)
/-- The cells of an event's row, and its pairs. -/
def VRat (w : World) (g o n : Nat) (L : Nat → Ev) : Prop := ∀ i, i < n → ∃ v, (∀ j, j < 12 → w.cell? ⟨g, o + (i * 12 + j), none⟩ = (evcells (L i) v)[j]?) ∧ PR w v (L i).an.ps
inductive VR (w : World) : Value → Nat → (Nat → Ev) → Prop
  | nil (L) : VR w (.slice none 0 0) 0 L
  | odd (a : Addr) (c : Nat) (L) : c ≤ 9223372036854775807 → VR w (.slice (some a) 0 c) 0 L
  | row (g o n c : Nat) (L) : n ≤ c → c ≤ 9223372036854775807 → VRat w g o n L → VR w (.slice (some ⟨g, o, none⟩) n c) n L
theorem VRat.below {w w' : World} {g o n : Nat} {L : Nat → Ev} (h : VRat w g o n L) (k : Below w.heap.size w w') : VRat w' g o n L := fun i hi => by
  obtain ⟨v, h1, h2⟩ := h i hi
  refine ⟨v, fun j hj => ?_, h2.below k⟩
  have h3 := h1 j hj
  obtain ⟨u, hu⟩ : ∃ u, (evcells (L i) v)[j]? = some u := ⟨_, List.getElem?_eq_getElem (by exact hj)⟩
  rw [hu] at h3 ⊢
  exact Ext.cell ⟨w', k⟩ h3
theorem VR.below {w w' : World} {v : Value} {n : Nat} {L : Nat → Ev} (h : VR w v n L) (k : Below w.heap.size w w') : VR w' v n L := by
  cases h with
  | nil => exact .nil _
  | odd a c _ h1 => exact .odd a c _ h1
  | row g o _ c _ h1 h2 h3 => exact .row g o n c L h1 h2 (h3.below k)
theorem VR.alloc {w : World} {v : Value} {n : Nat} {L : Nat → Ev} (h : VR w v n L) (o : Obj) : VR (w.alloc o) v n L := h.below ((Below.refl _ _).alloc (Nat.le_refl _) _)
theorem VR.slice {w : World} {v : Value} {n : Nat} {L : Nat → Ev} (h : VR w v n L) : ∃ p c, v = .slice p n c ∧ n ≤ c ∧ c ≤ 9223372036854775807 := by
  cases h with
  | nil => exact ⟨_, _, rfl, Nat.le_refl _, by decide⟩
  | odd a c _ h1 => exact ⟨_, _, rfl, Nat.zero_le _, h1⟩
  | row g o _ c _ h1 h2 h3 => exact ⟨_, _, rfl, h1, h2⟩
theorem VR.parts {w : World} {v : Value} {n : Nat} {L : Nat → Ev} (h : VR w v n L) : ∃ p c, v = .slice p n c ∧ n ≤ c ∧ c ≤ 9223372036854775807 ∧ Hid (0 < n → ∃ g o, p = some ⟨g, o, none⟩ ∧ VRat w g o n L) := by
  cases h with
  | nil => exact ⟨_, _, rfl, Nat.le_refl _, by decide, fun h => by omega⟩
  | odd a c _ h1 => exact ⟨_, _, rfl, Nat.zero_le _, h1, fun h => by omega⟩
  | row g o _ c _ h1 h2 h3 => exact ⟨_, _, rfl, h1, h2, fun _ => ⟨g, o, rfl, h3⟩⟩
/-- An event's cells, one by one. -/
structure EvC (w : World) (g o : Nat) (e : Ev) (v : Value) : Prop where
  c0 : w.cell? ⟨g, o, none⟩ = some (.int .i64 e.th)
  c1 : w.cell? ⟨g, o + 1, none⟩ = some (.bool e.bk)
  c2 : w.cell? ⟨g, o + 2, none⟩ = some (.int .i64 e.ca.op)
  c3 : w.cell? ⟨g, o + 3, none⟩ = some (.int .i64 e.ca.key)
  c4 : w.cell? ⟨g, o + 4, none⟩ = some (.int .i64 e.ca.val)
  c5 : w.cell? ⟨g, o + 5, none⟩ = some (.int .i64 e.ca.hi)
  c6 : w.cell? ⟨g, o + 6, none⟩ = some (.int .i64 e.ca.lim)
  c7 : w.cell? ⟨g, o + 7, none⟩ = some (.int .i64 e.an.kind)
  c8 : w.cell? ⟨g, o + 8, none⟩ = some (.int .i64 e.an.key)
  c9 : w.cell? ⟨g, o + 9, none⟩ = some (.int .i64 e.an.val)
  c10 : w.cell? ⟨g, o + 10, none⟩ = some (.int .i64 e.an.n)
  c11 : w.cell? ⟨g, o + 11, none⟩ = some v
theorem VRat.cells {w : World} {g o n : Nat} {L : Nat → Ev} (h : VRat w g o n L) (i : Nat) (hi : i < n) : ∃ v, EvC w g (o + i * 12) (L i) v ∧ PR w v (L i).an.ps := by
  obtain ⟨v, h1, h2⟩ := h i hi
  have h3 : ∀ j, j < 12 → w.cell? ⟨g, o + i * 12 + j, none⟩ = (evcells (L i) v)[j]? := fun j hj => by rw [Nat.add_assoc]; exact h1 j hj
  exact ⟨v, ⟨h3 0 (by omega), h3 1 (by omega), h3 2 (by omega), h3 3 (by omega), h3 4 (by omega), h3 5 (by omega), h3 6 (by omega), h3 7 (by omega), h3 8 (by omega), h3 9 (by omega), h3 10 (by omega), h3 11 (by omega)⟩, h2⟩
theorem PR.mkrow {w : World} {g o n c : Nat} {l : PL} (hn : n = l.length) (hc : n ≤ c) (hm : c ≤ 9223372036854775807) (h : ∀ i, i < l.length → w.cell? ⟨g, o + i * 2, none⟩ = some (.int .i64 (ky l i)) ∧ w.cell? ⟨g, o + i * 2 + 1, none⟩ = some (.int .i64 (vl l i))) : PR w (.slice (some ⟨g, o, none⟩) n c) l := by
  subst hn; exact .row g o c l hc hm h
theorem addP (b o i : Nat) : (⟨b, o, none⟩ : Addr).add i = ⟨b, o + i, none⟩ := by simp [Addr.add] <;> (intro hh; subst hh; rfl)
def I64 (x : Int) : Prop := -9223372036854775808 ≤ x ∧ x ≤ 9223372036854775807
theorem wfI {n : Int} (h : (Lit.int .i64 n).wf = true) : I64 n := by
  simp [Lit.wf, IntKind.min, IntKind.max, IntKind.signed, IntKind.bits] at h; unfold I64; omega
structure EvI (e : Ev) : Prop where
  th : I64 e.th
  ck : I64 e.ca.key
  cv : I64 e.ca.val
  ch : I64 e.ca.hi
  cl : I64 e.ca.lim
  ak : I64 e.an.key
  av : I64 e.an.val
  an : I64 e.an.n
  ps : Ints e.an.ps
abbrev pairSh : List Fr.Sh := [.int .i64, .int .i64]
abbrev anSh : List Fr.Sh := [.int .i64, .int .i64, .int .i64, .int .i64, .slice pairSh]
abbrev caSh : List Fr.Sh := [.int .i64, .int .i64, .int .i64, .int .i64, .int .i64]
abbrev evSh : List Fr.Sh := .int .i64 :: .bool :: (caSh ++ anSh)
theorem PR_of {w : World} {g o c n : Nat} (hc : n ≤ c) (hm : c ≤ 9223372036854775807) (f : Nat → Int × Int) (h : ∀ i, i < n → w.cell? ⟨g, o + i * 2, none⟩ = some (.int .i64 (f i).1) ∧ w.cell? ⟨g, o + i * 2 + 1, none⟩ = some (.int .i64 (f i).2)) : PR w (.slice (some ⟨g, o, none⟩) n c) ((List.range n).map f) := by
  refine .mkrow (by simp) hc hm fun i hi => ?_
  simp at hi
  have e1 : ky ((List.range n).map f) i = (f i).1 := by simp [ky, List.getD_eq_getElem?_getD, List.getElem?_map, List.getElem?_range hi]
  have e2 : vl ((List.range n).map f) i = (f i).2 := by simp [vl, List.getD_eq_getElem?_getD, List.getElem?_map, List.getElem?_range hi]
  rw [e1, e2]; exact h i hi
theorem pair_cells {w : World} {cs : List Value} (h : Fr.Sh.oks w pairSh cs) : ∃ k x : Int, cs = [.int .i64 k, .int .i64 x] ∧ I64 k ∧ I64 x := by
  obtain ⟨_, _, rfl, k0, h⟩ := Fr.get_cons h
  obtain ⟨_, _, rfl, k1, h⟩ := Fr.get_cons h
  obtain rfl := Fr.get_nil h
  obtain ⟨k, rfl, u0⟩ := Fr.get_int k0
  obtain ⟨x, rfl, u1⟩ := Fr.get_int k1
  exact ⟨k, x, rfl, wfI u0, wfI u1⟩
theorem pairs_open {w : World} {v : Value} (h : Fr.ok1 w (.slice pairSh) v) : ∃ l, PR w v l ∧ Ints l := by
  rcases Fr.get_slice h with rfl | ⟨a, len, cap, rfl, h1, h2, h3⟩
  · exact ⟨[], .nil, fun p hp => by cases hp⟩
  · rcases (by omega : len = 0 ∨ 0 < len) with rfl | h0
    · exact ⟨[], .odd a cap h2, fun p hp => by cases hp⟩
    · obtain ⟨cs0, h5, h6⟩ := h3 0 (by omega)
      obtain ⟨k, x, rfl, _⟩ := pair_cells h6
      have hs : a.spot = none := by
        have h7 := (World.cells?_some h5).2.2 0 (by decide)
        exact World.cell?_spot (by simpa [Addr.add] using h7)
      obtain ⟨g, off, spot⟩ := a
      simp only at hs
      subst hs
      have hall : ∀ i, ∃ p : Int × Int, i < len → w.cell? ⟨g, off + i * 2, none⟩ = some (.int .i64 p.1) ∧ w.cell? ⟨g, off + i * 2 + 1, none⟩ = some (.int .i64 p.2) ∧ I64 p.1 ∧ I64 p.2 := by
        intro i
        by_cases hi : i < len
        · obtain ⟨cs, h5, h6⟩ := h3 i (by omega)
          obtain ⟨k, x, rfl, u0, u1⟩ := pair_cells h6
          obtain ⟨_, _, h7⟩ := World.cells?_some h5
          have e : ((⟨g, off, none⟩ : Addr).add (i * pairSh.length)) = ⟨g, off + i * 2, none⟩ := addP _ _ _
          rw [e] at h7
          refine ⟨(k, x), fun _ => ⟨?_, ?_, u0, u1⟩⟩
          · simpa [Addr.add] using h7 0 (by decide)
          · simpa [Addr.add] using h7 1 (by decide)
        · exact ⟨(0, 0), fun h => absurd h hi⟩
      obtain ⟨f, hf⟩ := Classical.axiomOfChoice hall
      refine ⟨_, PR_of h1 h2 f fun i hi => ⟨(hf i hi).1, (hf i hi).2.1⟩, fun p hp => ?_⟩
      obtain ⟨i, hi, rfl⟩ := List.mem_map.1 hp
      exact (hf i (List.mem_range.1 hi)).2.2

theorem ev_cells {w : World} {cs : List Value} (h : Fr.Sh.oks w evSh cs) : ∃ (e : Ev) (v : Value), cs = evcells e v ∧ PR w v e.an.ps ∧ EvI e := by
  obtain ⟨_, _, rfl, k0, h⟩ := Fr.get_cons h
  obtain ⟨_, _, rfl, k1, h⟩ := Fr.get_cons h
  obtain ⟨_, _, rfl, k2, h⟩ := Fr.get_cons h
  obtain ⟨_, _, rfl, k3, h⟩ := Fr.get_cons h
  obtain ⟨_, _, rfl, k4, h⟩ := Fr.get_cons h
  obtain ⟨_, _, rfl, k5, h⟩ := Fr.get_cons h
  obtain ⟨_, _, rfl, k6, h⟩ := Fr.get_cons h
  obtain ⟨_, _, rfl, k7, h⟩ := Fr.get_cons h
  obtain ⟨_, _, rfl, k8, h⟩ := Fr.get_cons h
  obtain ⟨_, _, rfl, k9, h⟩ := Fr.get_cons h
  obtain ⟨_, _, rfl, k10, h⟩ := Fr.get_cons h
  obtain ⟨v, _, rfl, k11, h⟩ := Fr.get_cons h
  obtain rfl := Fr.get_nil h
  obtain ⟨a, rfl, u0⟩ := Fr.get_int k0
  obtain ⟨b, rfl⟩ := Fr.get_bool k1
  obtain ⟨c2, rfl, u2⟩ := Fr.get_int k2
  obtain ⟨c3, rfl, u3⟩ := Fr.get_int k3
  obtain ⟨c4, rfl, u4⟩ := Fr.get_int k4
  obtain ⟨c5, rfl, u5⟩ := Fr.get_int k5
  obtain ⟨c6, rfl, u6⟩ := Fr.get_int k6
  obtain ⟨c7, rfl, u7⟩ := Fr.get_int k7
  obtain ⟨c8, rfl, u8⟩ := Fr.get_int k8
  obtain ⟨c9, rfl, u9⟩ := Fr.get_int k9
  obtain ⟨c10, rfl, u10⟩ := Fr.get_int k10
  obtain ⟨l, hl, hi⟩ := pairs_open k11
  exact ⟨⟨a, b, ⟨c2, c3, c4, c5, c6⟩, ⟨c7, c8, c9, c10, l⟩⟩, v, rfl, hl, wfI u0, wfI u3, wfI u4, wfI u5, wfI u6, wfI u8, wfI u9, wfI u10, hi⟩
def ev0 : Ev := ⟨0, false, ⟨0, 0, 0, 0, 0⟩, ⟨0, 0, 0, 0, []⟩⟩
theorem events_open {w : World} {v : Value} (h : Fr.ok1 w (.slice evSh) v) : ∃ n L, VR w v n L ∧ ∀ i, i < n → EvI (L i) := by
  rcases Fr.get_slice h with rfl | ⟨a, len, cap, rfl, h1, h2, h3⟩
  · exact ⟨0, fun _ => ev0, .nil _, fun i hi => absurd hi (Nat.not_lt_zero i)⟩
  · rcases (by omega : len = 0 ∨ 0 < len) with rfl | h0
    · exact ⟨0, fun _ => ev0, .odd a cap _ h2, fun i hi => absurd hi (Nat.not_lt_zero i)⟩
    · obtain ⟨cs0, h5, h6⟩ := h3 0 (by omega)
      obtain ⟨e, v0, rfl, _⟩ := ev_cells h6
      have hs : a.spot = none := by
        have h7 := (World.cells?_some h5).2.2 0 (by decide)
        exact World.cell?_spot (by simpa [Addr.add, evcells] using h7)
      obtain ⟨g, off, spot⟩ := a
      simp only at hs
      subst hs
      have hall : ∀ i, ∃ e : Ev, i < len → ∃ v, (∀ j, j < 12 → w.cell? ⟨g, off + (i * 12 + j), none⟩ = (evcells e v)[j]?) ∧ PR w v e.an.ps ∧ EvI e := by
        intro i
        by_cases hi : i < len
        · obtain ⟨cs, h5, h6⟩ := h3 i (by omega)
          obtain ⟨e, v1, rfl, hp, he⟩ := ev_cells h6
          obtain ⟨_, _, h7⟩ := World.cells?_some h5
          refine ⟨e, fun _ => ⟨v1, fun j hj => ?_, hp, he⟩⟩
          have h8 := h7 j (by exact hj)
          have e1 : ((⟨g, off, none⟩ : Addr).add (i * evSh.length)) = ⟨g, off + i * 12, none⟩ := addP _ _ _
          rw [e1] at h8
          have e2 : ((⟨g, off + i * 12, none⟩ : Addr).add j) = ⟨g, off + (i * 12 + j), none⟩ := by rw [addP, Nat.add_assoc]
          rw [e2] at h8
          rw [h8]
        · exact ⟨ev0, fun h => absurd h hi⟩
      obtain ⟨L, hL⟩ := Classical.axiomOfChoice hall
      exact ⟨len, L, .row g off len cap L h1 h2 fun i hi => by obtain ⟨v, a, b, _⟩ := hL i hi; exact ⟨v, a, b⟩, fun i hi => by obtain ⟨v, a, b, c⟩ := hL i hi; exact c⟩
end Go.Proofs.YtdgplijnhkgeiaaDoor
