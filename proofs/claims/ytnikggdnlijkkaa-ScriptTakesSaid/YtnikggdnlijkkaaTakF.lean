/- Layer 14: where a script's entries stand in its bytes; what Take does on its way, in one. -/
import Derived.Test.YtnikggdnlijkkaaTakE
namespace Go.Proofs.Ytnikggdnlijkkaa
open Go.RowKit WordM
set_option linter.unusedVariables false
set_option linter.unusedSimpArgs false
/-- Where entry k begins. -/
def posD (D : Nat → Int) : Nat → Nat
  | 0 => 11
  | k + 1 => posD D k + lenD (dropD D (posD D k))
def entAt (D : Nat → Int) (k : Nat) : Ent := entD (dropD D (posD D k))
/-- Entry j is there. -/
def Goes (D : Nat → Int) (n j : Nat) : Prop := posD D j < n ∧ j < 60000 ∧ eNo (D (posD D j)) = false ∧ (eBg (D (posD D j)) = true → posD D j + 28 ≤ n)
/-- There are K entries; why no more. -/
def Stops (D : Nat → Int) (n K : Nat) (e : Int) : Prop :=
  (n ≤ posD D K ∧ e = 0) ∨ (posD D K < n ∧ K = 60000 ∧ e = 6) ∨ (posD D K < n ∧ K < 60000 ∧ eNo (D (posD D K)) = true ∧ e = 4) ∨
  (posD D K < n ∧ K < 60000 ∧ eNo (D (posD D K)) = false ∧ eBg (D (posD D K)) = true ∧ n < posD D K + 28 ∧ e = 5)
theorem lenD_pos (D : Nat → Int) : 1 ≤ lenD D := by unfold lenD; split <;> omega
theorem pos_le (D : Nat → Int) : ∀ k, 11 + k ≤ posD D k
  | 0 => Nat.le_refl _
  | k + 1 => by
    have := pos_le D k
    have := lenD_pos (dropD D (posD D k))
    rw [posD]; omega
theorem goes_next {D : Nat → Int} {n j : Nat} (h : Goes D n j) : posD D (j + 1) ≤ n := by
  obtain ⟨a, _, _, b⟩ := h
  rw [posD]
  unfold lenD
  split
  · rename_i h2; exact b h2
  · omega
theorem goes_le {D : Nat → Int} {n K : Nat} (h11 : 11 ≤ n) (h : ∀ j, j < K → Goes D n j) : ∀ k, k ≤ K → posD D k ≤ n
  | 0, _ => h11
  | k + 1, hk => goes_next (h k (by omega))
theorem stops_or (D : Nat → Int) (n j : Nat) : Goes D n j ∨ j ≤ 60000 → Goes D n j ∨ ∃ e, Stops D n j e := by
  intro hj
  rcases hj with h | hj
  · exact .inl h
  by_cases h1 : posD D j < n
  · rcases (by omega : j < 60000 ∨ j = 60000) with h2 | h2
    · cases h3 : eNo (D (posD D j))
      · cases h4 : eBg (D (posD D j))
        · exact .inl ⟨h1, h2, h3, fun h => by rw [h4] at h; cases h⟩
        · rcases (by omega : posD D j + 28 ≤ n ∨ n < posD D j + 28) with h5 | h5
          · exact .inl ⟨h1, h2, h3, fun _ => h5⟩
          · exact .inr ⟨5, .inr (.inr (.inr ⟨h1, h2, h3, h4, h5, rfl⟩))⟩
      · exact .inr ⟨4, .inr (.inr (.inl ⟨h1, h2, h3, rfl⟩))⟩
    · exact .inr ⟨6, .inr (.inl ⟨h1, h2, rfl⟩)⟩
  · exact .inr ⟨0, .inl ⟨by omega, rfl⟩⟩
theorem stops_ex (D : Nat → Int) (n : Nat) : ∀ m k, k + m = 60001 → (∀ j, j < k → Goes D n j) → ∃ K e, (∀ j, j < K → Goes D n j) ∧ Stops D n K e
  | 0, k, hk, h => by
    have := (h 60000 (by omega)).2.1
    omega
  | m + 1, k, hk, h => by
    rcases stops_or D n k (.inr (by omega)) with h1 | ⟨e, h1⟩
    · exact stops_ex D n m (k + 1) (by omega) fun j hj => by
        rcases (by omega : j < k ∨ j = k) with h2 | rfl
        · exact h j h2
        · exact h1
    · exact ⟨k, e, h, h1⟩
/-- The script of bytes, or why there is none. -/
def TakeR (D : Nat → Int) (n : Nat) (T S Kc : Int) (cnt : Nat) (e : Int) : Prop :=
  (n < 11 ∧ T = 0 ∧ S = 0 ∧ Kc = 0 ∧ cnt = 0 ∧ e = 5) ∨ (11 ≤ n ∧ mayC (fT D) (fS D) (fK D) = false ∧ T = 0 ∧ S = 0 ∧ Kc = 0 ∧ cnt = 0 ∧ e = 2) ∨
  (11 ≤ n ∧ mayC (fT D) (fS D) (fK D) = true ∧ ∃ K, (∀ j, j < K → Goes D n j) ∧ Stops D n K e ∧ ((e = 0 ∧ T = fT D ∧ S = fS D ∧ Kc = fK D ∧ cnt = K) ∨ (e ≠ 0 ∧ T = 0 ∧ S = 0 ∧ Kc = 0 ∧ cnt = 0)))
theorem take_ex (D : Nat → Int) (n : Nat) : ∃ T S Kc cnt e, TakeR D n T S Kc cnt e := by
  rcases (by omega : n < 11 ∨ 11 ≤ n) with h | h
  · exact ⟨_, _, _, _, _, .inl ⟨h, rfl, rfl, rfl, rfl, rfl⟩⟩
  · cases hm : mayC (fT D) (fS D) (fK D)
    · exact ⟨_, _, _, _, _, .inr (.inl ⟨h, hm, rfl, rfl, rfl, rfl, rfl⟩)⟩
    · obtain ⟨K, e, h1, h2⟩ := stops_ex D n 60001 0 rfl (fun j hj => by omega)
      by_cases he : e = 0
      · exact ⟨_, _, _, _, e, .inr (.inr ⟨h, hm, K, h1, h2, .inl ⟨he, rfl, rfl, rfl, rfl⟩⟩)⟩
      · exact ⟨_, _, _, _, e, .inr (.inr ⟨h, hm, K, h1, h2, .inr ⟨he, rfl, rfl, rfl, rfl⟩⟩)⟩
/-- What is thrown, and what it is caught as. -/
def Pan (pv : Value) (y : Int) : Prop := (pv = .iface 41 (.agg #[]) ∧ y = 5) ∨ pv = .iface 43 (.agg #[.int .i64 y])
theorem catch_any (a b : Nat) (T S K x y : Int) (sl pv : Value) (w : World) (hp : Pan pv y) (ha : w.heap[a]? = some (.cells #[.int .i64 T, .int .i64 S, .int .u64 K, sl] 29 (0, 0))) (hb : w.heap[b]? = some (.cells #[.int .i64 x] 30 (0, 0))) (hab : a ≠ b) :
    CallsD Try.prog 13 #[.pointer (some ⟨a, 0, none⟩), .pointer (some ⟨b, 0, none⟩)] (.panicking [{ v := pv, recovered := false }]) w fun e u' w' =>
      e = .returned (.tuple #[]) ∧ u' = .panicking [{ v := pv, recovered := true }] ∧ w'.heap[a]? = some (.cells #[.int .i64 0, .int .i64 0, .int .u64 0, .slice none 0 0] 29 (0, 0)) ∧ w'.heap[b]? = some (.cells #[.int .i64 y] 30 (0, 0)) ∧ KX2 a b w w' := by
  rcases hp with ⟨rfl, rfl⟩ | rfl
  · exact catch_soon a b T S K x sl [] w ha hb hab
  · exact catch_wrong a b T S K x y sl [] w ha hb hab
/-- The configuration is none. -/
theorem sconf_fail (W0 : World) (D : Nat → Int) (n : Nat) (lv rv : Value) (e : Nat) (w : World) (hL : BR W0 lv n D) (hb : Below W0.heap.size W0 w) (hW : W0.heap.size ≤ e) (he : EB w e lv rv) (y : Int) (hy : (n < 11 ∧ y = 5) ∨ (11 ≤ n ∧ mayC (fT D) (fS D) (fK D) = false ∧ y = 2)) (hD : BY D) :
    Calls Try.prog 14 #[.pointer (some ⟨e, 0, none⟩)] w fun E w' => ∃ pv, E = .panicked [{ v := pv, recovered := false }] ∧ Pan pv y ∧ Below e w w' := by
  have hel := he.lt
  rcases hy with ⟨h, rfl⟩ | ⟨h, hm, rfl⟩
  · rcases (by omega : n < 1 ∨ (1 ≤ n ∧ n < 3) ∨ (3 ≤ n ∧ n < 11)) with h1 | ⟨h1, h2⟩ | ⟨h1, h2⟩
    · exact (sconf_no0 W0 D n lv rv e w hL hb hW he h1 hD).mono fun E w' hh => ⟨_, hh.1, .inl ⟨rfl, rfl⟩, hh.2.below (by omega)⟩
    · exact (sconf_no1 W0 D n lv rv e w hL hb hW he h1 h2 hD).mono fun E w' hh => ⟨_, hh.1, .inl ⟨rfl, rfl⟩, hh.2.below (by omega)⟩
    · exact (sconf_no2 W0 D n lv rv e w hL hb hW he h1 h2 hD).mono fun E w' hh => ⟨_, hh.1, .inl ⟨rfl, rfl⟩, hh.2.below (by omega)⟩
  · exact (sconf_bad W0 D n lv rv e w hL hb hW he h hm hD).mono fun E w' hh => ⟨_, hh.1, .inr rfl, hh.2.below (by omega)⟩
/-- Entry k is read. -/
theorem sentry_go (W0 : World) (D : Nat → Int) (n k : Nat) (lv rv : Value) (e : Nat) (w : World) (hL : BR W0 lv (n - posD D k) (dropD D (posD D k))) (hb : Below W0.heap.size W0 w) (hW : W0.heap.size ≤ e) (he : EB w e lv rv) (ho : OwnE w (e + 1) rv k (entAt D)) (hD : BY D) (hg : Goes D n k) :
    Calls Try.prog 15 #[.pointer (some ⟨e, 0, none⟩)] w fun E w' => E = .returned (.tuple #[]) ∧ ∃ lv' rv', BR W0 lv' (n - posD D (k + 1)) (dropD D (posD D (k + 1))) ∧ EB w' e lv' rv' ∧ OwnE w' (e + 1) rv' (k + 1) (entAt D) ∧ Below e w w' := by
  obtain ⟨g1, g2, g3, g4⟩ := hg
  cases h7 : eBg (D (posD D k))
  · refine (sentry0 W0 (dropD D (posD D k)) (entAt D) (n - posD D k) k lv rv e w hL hb hW he ho (hD.drop _) g2 (by omega) g3 h7 rfl).mono fun E w' hh => ?_
    obtain ⟨h1, l', r', h2, h3⟩ := hh
    exact ⟨h1, l', r', h2.next rfl, h3⟩
  · have := g4 h7
    refine (sentry1 W0 (dropD D (posD D k)) (entAt D) (n - posD D k) k lv rv e w hL hb hW he ho (hD.drop _) g2 (by omega) g3 h7 rfl).mono fun E w' hh => ?_
    obtain ⟨h1, l', r', h2, h3⟩ := hh
    exact ⟨h1, l', r', h2.next rfl, h3⟩
/-- There is no entry K, though bytes are left. -/
theorem sentry_stop (W0 : World) (D : Nat → Int) (n k : Nat) (lv rv : Value) (e : Nat) (w : World) (hL : BR W0 lv (n - posD D k) (dropD D (posD D k))) (hb : Below W0.heap.size W0 w) (hW : W0.heap.size ≤ e) (he : EB w e lv rv) (ho : OwnE w (e + 1) rv k (entAt D)) (hD : BY D) (y : Int) (hs : Stops D n k y) (hy : y ≠ 0) :
    Calls Try.prog 15 #[.pointer (some ⟨e, 0, none⟩)] w fun E w' => ∃ pv, E = .panicked [{ v := pv, recovered := false }] ∧ Pan pv y ∧ Below e w w' := by
  rcases hs with ⟨_, h⟩ | ⟨h1, h2, rfl⟩ | ⟨h1, h2, h3, rfl⟩ | ⟨h1, h2, h3, h4, h5, rfl⟩
  · exact absurd h hy
  · exact (sentry_long W0 (dropD D (posD D k)) (entAt D) (n - posD D k) k lv rv e w hL hb hW he ho (hD.drop _) h2).mono fun E w' hh => ⟨_, hh.1, .inr rfl, hh.2⟩
  · exact (sentry_form W0 (dropD D (posD D k)) (entAt D) (n - posD D k) k lv rv e w hL hb hW he ho (hD.drop _) h2 (by omega) h3).mono fun E w' hh => ⟨_, hh.1, .inr rfl, hh.2⟩
  · exact (sentry_end W0 (dropD D (posD D k)) (entAt D) (n - posD D k) k lv rv e w hL hb hW he ho (hD.drop _) h2 (by omega) h3 h4 (by omega)).mono fun E w' hh => ⟨_, hh.1, .inl ⟨rfl, rfl⟩, hh.2⟩
end Go.Proofs.Ytnikggdnlijkkaa
