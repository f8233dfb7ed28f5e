/- Layer 35, reading: strings.Cut at one byte; text.number; the reference's Parse. -/
import Derived.Test.YtdgplijnhkgeiaaDoorRtxA
import Derived.Test.YtdgplijnhkgeiaaDoorTxwA
import Derived.Recover
import Derived.Lib.AtoiErrMem
namespace Go.Proofs.YtdgplijnhkgeiaaDoor
open Go.RowKit
open Go.Lib (itoa decDigits nDigits parseIntB cut index indexByte)
set_option linter.unusedVariables false
set_option linter.unusedSimpArgs false
abbrev tx (l : List UInt8) : Value := .string ⟨l.toArray⟩
set_option maxRecDepth 100000 in
set_option maxHeartbeats 2000000 in
theorem lcut (s : ByteArray) (c : UInt8) (w : World) (hsz : s.size ≤ 100000) :
    Calls Tryd.prog 47 #[.string s, .string ⟨#[c]⟩] w fun e w' => e = .returned (.tuple #[.string ⟨(cut s.data.toList [c]).1.toArray⟩, .string ⟨(cut s.data.toList [c]).2.1.toArray⟩, .bool (cut s.data.toList [c]).2.2]) ∧ Below w.heap.size w w' := by
  have hone : Go.Lib.indexB s ⟨#[c]⟩ = indexByte s.data.toList c := Go.Lib.index_one _ _
  rcases Lib.indexB_cases s ⟨#[c]⟩ with hix | ⟨i, hix, hroom⟩
  · obtain ⟨e1, e2, e3⟩ := Lib.cutB_miss s ⟨#[c]⟩ hix
    have e1 : (⟨(cut s.data.toList [c]).1.toArray⟩ : ByteArray) = s := e1
    have e2 : (⟨(cut s.data.toList [c]).2.1.toArray⟩ : ByteArray) = ByteArray.empty := e2
    have e3 : (cut s.data.toList [c]).2.2 = false := e3
    rw [e1, e2, e3]
    rw [hone] at hix
    go_enter Tryd.func47, Tryd.ntmps47
    go_wp2_with fail
    refine (Tryd.stringslite_Index_one s c w).mono ?_; rintro _ _ ⟨rfl, rfl⟩
    rw [hix]
    go_wp2_with fail
    (try go_ret3)
    exact ⟨rfl, Below.refl _ _⟩
  · obtain ⟨e1, e2, e3⟩ := Lib.cutB_hit s ⟨#[c]⟩ i hix
    have e1 : (⟨(cut s.data.toList [c]).1.toArray⟩ : ByteArray) = s.extract 0 i := e1
    have e2 : (⟨(cut s.data.toList [c]).2.1.toArray⟩ : ByteArray) = s.extract (i + 1) s.size := e2
    have e3 : (cut s.data.toList [c]).2.2 = true := e3
    rw [e1, e2, e3]
    rw [hone] at hix
    have hroom : i + 1 ≤ s.size := hroom
    have c1 : (0 : Int) ≤ ↑i := by omega
    have c2 : (↑i : Int) ≤ ↑s.size := by omega
    have c3 : (0 : Int) ≤ ↑i + 1 := by omega
    have c4 : (↑i + 1 : Int) ≤ ↑s.size := by omega
    have c5 : IntKind.i64.wrap ((i : Int) + 1) = (i : Int) + 1 := by simp only [IntKind.wrap_i64]; (try unfold wrap64); omega
    have c6 : wrap64 ((i : Int) + 1) = (i : Int) + 1 := by unfold wrap64; omega
    clear hsz hroom
    go_enter Tryd.func47, Tryd.ntmps47
    go_wp2_with fail
    refine (Tryd.stringslite_Index_one s c w).mono ?_; rintro _ _ ⟨rfl, rfl⟩
    rw [hix]
    go_wp2_with fail
    go_region
    all_goals go_wp2_with fail
    all_goals (try go_ret3)
    all_goals exact ⟨rfl, (Below.refl _ _).drew⟩
theorem tcut (l : List UInt8) (c : UInt8) (w : World) (hl : l.length ≤ 100000) :
    Calls Tryd.prog 30 #[tx l, .string ⟨#[c]⟩] w fun e w' => e = .returned (.tuple #[tx (cut l [c]).1, tx (cut l [c]).2.1, .bool (cut l [c]).2.2]) ∧ Below w.heap.size w w' := by
  have h := lcut ⟨l.toArray⟩ c w (by show l.toArray.size ≤ _; simp; omega)
  clear hl
  simp only at h
  generalize (cut l [c]).2.2 = b at *
  generalize (cut l [c]).2.1 = l2 at *
  generalize (cut l [c]).1 = l1 at *
  refine Calls.veil fun Q HQ => ?_
  go_enter Tryd.func30, Tryd.ntmps30
  go_wp2_with fail
  refine h.mono ?_; rintro _ w1 ⟨rfl, hb⟩
  have HB := Lib.hid hb
  clear hb
  go_wp2_with fail
  (try go_ret3)
  rw [HQ.out]
  exact ⟨rfl, HB.out⟩
/-- The library's variables stand below B. -/
structure VB (B : Nat) (w : World) : Prop where
  pow : Pow B w
  syn : ∃ t p, ∀ w', Below B w w' → w'.cell? ⟨2, 0, none⟩ = some (.iface t p)
  rng : ∃ t p, ∀ w', Below B w w' → w'.cell? ⟨3, 0, none⟩ = some (.iface t p)
theorem VB.below {B : Nat} {w w' : World} (h : VB B w) (k : Below B w w') : VB B w' := by
  refine ⟨fun w2 h2 => h.pow w2 (k.trans h2), ?_, ?_⟩
  · obtain ⟨t, p, h1⟩ := h.syn
    exact ⟨t, p, fun w2 h2 => h1 w2 (k.trans h2)⟩
  · obtain ⟨t, p, h1⟩ := h.rng
    exact ⟨t, p, fun w2 h2 => h1 w2 (k.trans h2)⟩
/-- What is thrown. -/
abbrev wr (y : Int) : Value := .iface 53 (.agg #[.int .i64 y])
abbrev wrP (y : Int) : Ending := .panicked [{ v := wr y, recovered := false }]
theorem below_bytes (w : World) (T : TypeId) (w' : World) (h : w' = w ∨ ∃ t, w' = Lib.bytesWorld w T t) : Below w.heap.size w w' := by
  rcases h with rfl | ⟨t, rfl⟩
  · exact Below.refl _ _
  · exact Lib.bytesWorld_below _ _ _
/-- A text that is a number's is read. -/
theorem tnumber (l : List UInt8) (n : Int) (B : Nat) (w : World) (h : IsNum l n) (hl : l.length ≤ 100000) (ht : VB B w) (hB : B ≤ w.heap.size) :
    Calls Tryd.prog 43 #[tx l] w fun e w' => e = .returned (.int .i64 n) ∧ Below w.heap.size w w' := by
  refine Calls.veil fun Q HQ => ?_
  have hp : Go.Lib.parseIntB 64 (⟨l.toArray⟩ : ByteArray).data.toList = .ok n := by
    show parseIntB 64 l.toArray.toList = _
    rw [List.toList_toArray, ← h.2]; exact parse_itoa n h.1
  have PI := Lib.hid (Tryd.strconv_ParseInt_10_at64_ok ⟨l.toArray⟩ (by show l.toArray.size ≤ _; simp; omega) n hp w)
  have TW := Lib.hid (fun (w1 : World) (hb : Below w.heap.size w w1) => twrite n h.1 (ht.below (hb.mono hB)).pow)
  have HE := Lib.hid h.2
  have hil : itoa n = l := h.2
  clear hp h hl
  go_enter Tryd.func43, Tryd.ntmps43
  go_wp2_with fail
  refine PI.out.mono ?_; rintro _ w1 ⟨rfl, hw⟩
  have HB := Lib.hid (below_bytes _ _ _ hw)
  clear hw hil
  go_wp2_with fail
  refine (TW.out w1 HB.out).mono ?_; rintro _ w2 ⟨rfl, hb2⟩
  have HB2 := Lib.hid (below_on HB.out hb2)
  rw [HE.out]
  clear hb2
  go_wp2_with fail
  (try go_ret)
  rw [HQ.out]
  exact ⟨rfl, HB2.out⟩
/-- A text that is none. -/
theorem tnumber_no (l : List UInt8) (B : Nat) (w : World) (h : ∀ n, ¬ IsNum l n) (hl : l.length ≤ 100000) (ht : VB B w) (hB : B ≤ w.heap.size) :
    Calls Tryd.prog 43 #[tx l] w fun e w' => e = wrP 4 ∧ Below w.heap.size w w' := by
  refine Calls.veil fun Q HQ => ?_
  have hsz : (⟨l.toArray⟩ : ByteArray).size = l.length := by show l.toArray.size = _; simp
  have hll : (⟨l.toArray⟩ : ByteArray).data.toList = l := by show l.toArray.toList = _; simp
  rcases hp : parseIntB 64 l with n | _ | _
  · obtain ⟨b1, b2⟩ := Lib.parseIntB_bounds hp
    have hn : I64 n := ⟨by simpa using b1, by have := b2; simp at this; omega⟩
    have hne : itoa n ≠ l := fun e => h n ⟨hn, e⟩
    have PI := Lib.hid (Tryd.strconv_ParseInt_10_at64_ok ⟨l.toArray⟩ (by rw [hsz]; omega) n (by rw [hll]; exact hp) w)
    have TW := Lib.hid (fun (w1 : World) (hb : Below w.heap.size w w1) => twrite n hn (ht.below (hb.mono hB)).pow)
    generalize itoa n = l2 at *
    have hb1 : (l2 == l) = false := beq_eq_false_iff_ne.2 hne
    clear hp h hl hsz hll b1 b2 hne
    go_enter Tryd.func43, Tryd.ntmps43
    go_wp2_with fail
    refine PI.out.mono ?_; rintro _ w1 ⟨rfl, hw⟩
    have HB := Lib.hid (below_bytes _ _ _ hw)
    clear hw
    go_wp2_with fail
    refine (TW.out w1 HB.out).mono ?_; rintro _ w2 ⟨rfl, hb2⟩
    have HB2 := Lib.hid (below_on HB.out hb2)
    clear hb2
    go_wp2_with fail
    rw [HQ.out]
    exact ⟨rfl, rfl, HB2.out⟩
  · obtain ⟨t, p, hs⟩ := ht.syn
    have PI := Lib.hid (Tryd.strconv_ParseInt_10_at64_bad ⟨l.toArray⟩ (by rw [hsz]; omega) (by rw [hll, hp]; intro v e; cases e) (by rw [hll, hp]; intro e; cases e) _ w (hs w (Below.refl _ _)) (.inr ⟨t, p, rfl⟩))
    clear hp h hl hsz hll hs
    go_enter Tryd.func43, Tryd.ntmps43
    go_wp2_with fail
    refine PI.out.mono ?_; rintro _ w1 ⟨N, rfl, _, _, hb⟩
    have HB := Lib.hid hb
    clear hb
    go_wp2_with fail
    rw [HQ.out]
    exact ⟨rfl, rfl, HB.out⟩
  · obtain ⟨t, p, hs⟩ := ht.rng
    have PI := Lib.hid (Tryd.strconv_ParseInt_10_at64_range ⟨l.toArray⟩ (by rw [hsz]; omega) (by rw [hll]; exact hp) _ w (hs w (Below.refl _ _)) (.inr ⟨t, p, rfl⟩))
    clear hp h hl hsz hll hs
    go_enter Tryd.func43, Tryd.ntmps43
    go_wp2_with fail
    refine PI.out.mono ?_; rintro _ w1 ⟨N, rfl, _, _, hb⟩
    have HB := Lib.hid hb
    clear hb
    go_wp2_with fail
    rw [HQ.out]
    exact ⟨rfl, rfl, HB.out⟩
end Go.Proofs.YtdgplijnhkgeiaaDoor
