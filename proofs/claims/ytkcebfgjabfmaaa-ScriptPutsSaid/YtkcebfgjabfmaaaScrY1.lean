/- Layer 14: ScriptPuts, beyond its bounds. -/
import Derived.Test.YtkcebfgjabfmaaaScrY
import Derived.Test.YtkcebfgjabfmaaaScrT
import Derived.Test.YtkcebfgjabfmaaaScrP
namespace Go.Proofs.Ytkcebfgjabfmaaa
open Go.RowKit WordM
set_option linter.unusedVariables false
set_option linter.unusedSimpArgs false
theorem sameR_refl (L : Nat → Ent) (n : Nat) : sameR L L n = true := by simp [sameR, sameEnt]
theorem sameS_refl (T S K : Int) (n : Nat) (L : Nat → Ent) : sameS T S K n L T S K n L = true := by simp [sameS, sameR_refl]
theorem byL_bd (x : Int) (m : Nat) : ∀ y ∈ byL x m, 0 ≤ y ∧ y ≤ 255 := by
  intro y hy
  simp only [byL, List.mem_map] at hy
  obtain ⟨j, _, rfl⟩ := hy
  exact fieldI_byte x _
theorem entB_bd (e : Ent) : ∀ y ∈ entB e, 0 ≤ y ∧ y ≤ 255 := by
  intro y hy
  unfold entB callB at hy
  split at hy <;> simp only [List.mem_append, List.not_mem_nil, or_false] at hy
  · rcases hy with h | h | h | h | h | h <;> exact byL_bd _ _ _ h
  · exact byL_bd _ _ _ hy
theorem encL_bd (L : Nat → Ent) : ∀ n, ∀ y ∈ encL L n, 0 ≤ y ∧ y ≤ 255
  | 0 => by simp [encL]
  | n + 1 => by
    intro y hy
    rw [encL, List.mem_append] at hy
    rcases hy with h | h
    · exact encL_bd L n y h
    · exact entB_bd _ y h
theorem putL_bd (T S K : Int) (n : Nat) (L : Nat → Ent) : ∀ y ∈ headL T S K ++ encL L n, 0 ≤ y ∧ y ≤ 255 := by
  intro y hy
  simp only [headL, List.mem_append] at hy
  rcases hy with ((h | h) | h) | h
  · exact byL_bd _ _ _ h
  · exact byL_bd _ _ _ h
  · exact byL_bd _ _ _ h
  · exact encL_bd _ _ _ h
def strOf (xs : List Int) : ByteArray := ⟨(xs.map fun x => UInt8.ofNat x.toNat).toArray⟩
theorem u8_of (x : Int) (h0 : 0 ≤ x) (h1 : x ≤ 255) : ((UInt8.ofNat x.toNat).toNat : Int) = x := by
  rw [UInt8.toNat_ofNat_of_lt' (by show x.toNat < 256; omega)]
  omega
theorem conv_own {w : World} {B : Nat} {v : Value} {xs : List Int} (h : OwnB w B v xs) (h0 : 0 < xs.length) (hx : ∀ x ∈ xs, 0 ≤ x ∧ x ≤ 255) :
    ∀ w', Below w.heap.size w w' → (convert 29 9 v).run Try.prog w' = .ok (.string (strOf xs)) w' := by
  intro w' hb
  have h := own_kept h hb
  have HC := fun g (hg : v.ownBlock = some g) => h.cells hg
  rcases h.2 with ⟨rfl, h1⟩ | ⟨g, cap, cur, rfl, _⟩
  · exact absurd h1 (Nat.ne_of_gt h0)
  · have hs : ∀ (m : Nat) (l : List UInt8), m = l.length → (∀ j (hj : j < l.length), w'.cell? ((⟨g, 0, none⟩ : Addr).add j) = some (.int .u8 (l[j].toNat : Int))) → (convert 29 9 (.slice (some ⟨g, 0, none⟩) m cap)).run Try.prog w' = .ok (.string ⟨l.toArray⟩) w' := by
      intro m l hm hc
      subst hm
      exact run_convert_bytes_back w' 29 9 5 ⟨g, 0, none⟩ cap l uBL uU8 uStr hc
    unfold strOf
    refine hs _ _ (by rw [List.length_map]) ?_
    intro j hj
    have hj' : j < xs.length := by rw [List.length_map] at hj; exact hj
    have hb := hx xs[j] (List.getElem_mem hj')
    have hc := HC g rfl j (.int .u8 xs[j]) (by rw [bcells, List.getElem?_map, List.getElem?_eq_getElem hj']; rfl)
    rw [hc, List.getElem_map, u8_of _ hb.1 hb.2]
set_option maxHeartbeats 4000000 in
theorem puts_l1 (T S K : Int) (n : Nat) (T' S' K' : Int) (n' : Nat) (p p' : Option Addr) (c c' : Nat) (w : World) (a1 : n ≤ c) (a2 : c ≤ 9223372036854775807) (a1' : n' ≤ c') (a2' : c' ≤ 9223372036854775807) (hn : 1000 < n) (hm : n < 60000) :
    Calls Try.prog 3 #[.agg #[.int .i64 T, .int .i64 S, .int .u64 K, .slice p n c], .agg #[.int .i64 T', .int .i64 S', .int .u64 K', .slice p' n' c']] w fun e w' => e = .returned (.bool true) ∧ Below w.heap.size w w' := by
  refine Calls.veil fun Q HQ => ?_
  have d0 : decide ((1000 : Int) < (n : Int)) = true := decide_eq_true (by omega)
  have e0 : (1000 : Int) < (n : Int) := by omega
  have d1 : decide ((n : Int) < (60000 : Int)) = true := decide_eq_true (by omega)
  have e1 : (n : Int) < (60000 : Int) := by omega
  clear hn hm
  go_enter Try.func3, Try.ntmps3
  go_wp2_with fail
  refine (lives14_calls _).mono ?_; rintro _ w2 ⟨rfl, hb2⟩
  have HF := Lib.hid (show Below w.heap.size w w2 from below_on (by (repeat (first | exact Below.refl _ _ | assumption | refine below_new ?_ _ | refine Below.drew ?_ | refine below_drewN ?_ _ | refine below_on ?_ (by assumption)))) hb2)
  clear hb2
  go_wp2_with fail
  (try go_ret)
  rw [HQ.out]
  exact ⟨rfl, HF.out⟩
set_option maxHeartbeats 4000000 in
theorem puts_l2 (T S K : Int) (n : Nat) (T' S' K' : Int) (n' : Nat) (p p' : Option Addr) (c c' : Nat) (w : World) (a1 : n ≤ c) (a2 : c ≤ 9223372036854775807) (a1' : n' ≤ c') (a2' : c' ≤ 9223372036854775807) (hn : n ≤ 1000) (hm : 60010 < n') :
    Calls Try.prog 3 #[.agg #[.int .i64 T, .int .i64 S, .int .u64 K, .slice p n c], .agg #[.int .i64 T', .int .i64 S', .int .u64 K', .slice p' n' c']] w fun e w' => e = .returned (.bool true) ∧ Below w.heap.size w w' := by
  refine Calls.veil fun Q HQ => ?_
  have d0 : decide ((1000 : Int) < (n : Int)) = false := decide_eq_false (by omega)
  have e0 : (n : Int) ≤ (1000 : Int) := by omega
  have d1 : decide ((60010 : Int) < (n : Int)) = false := decide_eq_false (by omega)
  have e1 : (n : Int) ≤ (60010 : Int) := by omega
  have d2 : decide ((60010 : Int) < (n' : Int)) = true := decide_eq_true (by omega)
  have e2 : (60010 : Int) < (n' : Int) := by omega
  clear hn hm
  go_enter Try.func3, Try.ntmps3
  go_wp2_with fail
  refine (lives14_calls _).mono ?_; rintro _ w2 ⟨rfl, hb2⟩
  have HF := Lib.hid (show Below w.heap.size w w2 from below_on (by (repeat (first | exact Below.refl _ _ | assumption | refine below_new ?_ _ | refine Below.drew ?_ | refine below_drewN ?_ _ | refine below_on ?_ (by assumption)))) hb2)
  clear hb2
  go_wp2_with fail
  (try go_ret)
  rw [HQ.out]
  exact ⟨rfl, HF.out⟩
set_option maxHeartbeats 4000000 in
theorem puts_l3 (T S K : Int) (n : Nat) (T' S' K' : Int) (n' : Nat) (p p' : Option Addr) (c c' : Nat) (w : World) (a1 : n ≤ c) (a2 : c ≤ 9223372036854775807) (a1' : n' ≤ c') (a2' : c' ≤ 9223372036854775807) (hn : 60000 ≤ n) (hk : n ≤ 60010) (hm : 60010 < n') :
    Calls Try.prog 3 #[.agg #[.int .i64 T, .int .i64 S, .int .u64 K, .slice p n c], .agg #[.int .i64 T', .int .i64 S', .int .u64 K', .slice p' n' c']] w fun e w' => e = .returned (.bool true) ∧ Below w.heap.size w w' := by
  refine Calls.veil fun Q HQ => ?_
  have d0 : decide ((1000 : Int) < (n : Int)) = true := decide_eq_true (by omega)
  have e0 : (1000 : Int) < (n : Int) := by omega
  have d1 : decide ((n : Int) < (60000 : Int)) = false := decide_eq_false (by omega)
  have e1 : (60000 : Int) ≤ (n : Int) := by omega
  have d2 : decide ((60010 : Int) < (n : Int)) = false := decide_eq_false (by omega)
  have e2 : (n : Int) ≤ (60010 : Int) := by omega
  have d3 : decide ((60010 : Int) < (n' : Int)) = true := decide_eq_true (by omega)
  have e3 : (60010 : Int) < (n' : Int) := by omega
  clear hn hk hm
  go_enter Try.func3, Try.ntmps3
  go_wp2_with fail
  refine (lives14_calls _).mono ?_; rintro _ w2 ⟨rfl, hb2⟩
  have HF := Lib.hid (show Below w.heap.size w w2 from below_on (by (repeat (first | exact Below.refl _ _ | assumption | refine below_new ?_ _ | refine Below.drew ?_ | refine below_drewN ?_ _ | refine below_on ?_ (by assumption)))) hb2)
  clear hb2
  go_wp2_with fail
  (try go_ret)
  rw [HQ.out]
  exact ⟨rfl, HF.out⟩
set_option maxHeartbeats 4000000 in
theorem puts_l4 (T S K : Int) (n : Nat) (T' S' K' : Int) (n' : Nat) (p p' : Option Addr) (c c' : Nat) (w : World) (a1 : n ≤ c) (a2 : c ≤ 9223372036854775807) (a1' : n' ≤ c') (a2' : c' ≤ 9223372036854775807) (hn : 60010 < n) :
    Calls Try.prog 3 #[.agg #[.int .i64 T, .int .i64 S, .int .u64 K, .slice p n c], .agg #[.int .i64 T', .int .i64 S', .int .u64 K', .slice p' n' c']] w fun e w' => e = .returned (.bool true) ∧ Below w.heap.size w w' := by
  refine Calls.veil fun Q HQ => ?_
  have d0 : decide ((1000 : Int) < (n : Int)) = true := decide_eq_true (by omega)
  have e0 : (1000 : Int) < (n : Int) := by omega
  have d1 : decide ((n : Int) < (60000 : Int)) = false := decide_eq_false (by omega)
  have e1 : (60000 : Int) ≤ (n : Int) := by omega
  have d2 : decide ((60010 : Int) < (n : Int)) = true := decide_eq_true (by omega)
  have e2 : (60010 : Int) < (n : Int) := by omega
  clear hn
  go_enter Try.func3, Try.ntmps3
  go_wp2_with fail
  refine (lives14_calls _).mono ?_; rintro _ w2 ⟨rfl, hb2⟩
  have HF := Lib.hid (show Below w.heap.size w w2 from below_on (by (repeat (first | exact Below.refl _ _ | assumption | refine below_new ?_ _ | refine Below.drew ?_ | refine below_drewN ?_ _ | refine below_on ?_ (by assumption)))) hb2)
  clear hb2
  go_wp2_with fail
  (try go_ret)
  rw [HQ.out]
  exact ⟨rfl, HF.out⟩
end Go.Proofs.Ytkcebfgjabfmaaa
