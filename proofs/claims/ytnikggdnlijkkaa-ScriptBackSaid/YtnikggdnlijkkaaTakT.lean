/- Layer 14: ScriptTakes. -/
import Derived.Test.YtnikggdnlijkkaaTakG
import Derived.Test.YtnikggdnlijkkaaTakI
import Derived.Test.YtnikggdnlijkkaaScrG
import Derived.Test.YtnikggdnlijkkaaScrD
import Derived.Test.YtnikggdnlijkkaaFrame
namespace Go.Proofs.Ytnikggdnlijkkaa
open Go.RowKit WordM
set_option linter.unusedVariables false
set_option linter.unusedSimpArgs false
theorem wf8 {n : Int} (h : (Lit.int .u8 n).wf = true) : 0 ≤ n ∧ n ≤ 255 := by
  simp [Lit.wf, IntKind.min, IntKind.max, IntKind.signed, IntKind.bits] at h; omega
theorem bytes_open {w : World} {v : Value} (h : Fr.ok1 w (.slice [.int .u8]) v) : ∃ n D, BR w v n D ∧ BY D := by
  rcases Fr.get_slice h with rfl | ⟨a, len, cap, rfl, h1, h2, h3⟩
  · exact ⟨0, fun _ => 0, .nil _, fun _ => by simp⟩
  · rcases (by omega : len = 0 ∨ 0 < len) with rfl | h0
    · exact ⟨0, fun _ => 0, .odd a cap _ h2, fun _ => by simp⟩
    · have one : ∀ i, i < cap → ∃ x : Int, w.cell? (a.add i) = some (.int .u8 x) ∧ 0 ≤ x ∧ x ≤ 255 := fun i hi => by
        obtain ⟨cs, h5, h6⟩ := h3 i hi
        obtain ⟨u, _, rfl, k0, h6⟩ := Fr.get_cons h6
        obtain rfl := Fr.get_nil h6
        obtain ⟨x, rfl, hw⟩ := Fr.get_int k0
        have h7 := (World.cells?_some h5).2.2 0 (by decide)
        have e1 : a.add (i * [Fr.Sh.int .u8].length) = a.add i := by simp
        rw [e1] at h7
        refine ⟨x, ?_, wf8 hw⟩
        have e2 : (a.add i).add 0 = a.add i := by simp [Addr.add]
        rw [e2] at h7
        simpa using h7
      have hs : a.spot = none := by
        obtain ⟨x, hx, _⟩ := one 0 (by omega)
        exact World.cell?_spot (by simpa [Addr.add] using hx)
      obtain ⟨g, off, spot⟩ := a
      simp only at hs
      subst hs
      have hall : ∀ i, ∃ x : Int, (0 ≤ x ∧ x ≤ 255) ∧ (i < len → w.cell? ⟨g, off + i, none⟩ = some (.int .u8 x)) := by
        intro i
        by_cases hi : i < len
        · obtain ⟨x, hx, hw⟩ := one i (by omega)
          exact ⟨x, hw, fun _ => by rw [addE] at hx; exact hx⟩
        · exact ⟨0, by decide, fun h => absurd h hi⟩
      obtain ⟨D, hD⟩ := Classical.axiomOfChoice hall
      exact ⟨len, D, .row g off len cap D h1 h2 fun i hi => (hD i).2 hi, fun i => (hD i).1⟩
theorem take_cnt {D : Nat → Int} {n : Nat} {T S Kc : Int} {cnt : Nat} {e : Int} (h : TakeR D n T S Kc cnt e) : cnt ≤ 60000 := by
  rcases h with ⟨_, _, _, _, rfl, _⟩ | ⟨_, _, _, _, _, rfl, _⟩ | ⟨_, _, K, h1, _, ⟨_, _, _, _, rfl⟩ | ⟨_, _, _, _, rfl⟩⟩
  · omega
  · omega
  · rcases (by omega : cnt ≤ 60000 ∨ 60000 < cnt) with h | h
    · exact h
    · have := (h1 60000 h).2.1
      omega
  · omega
set_option maxRecDepth 16000 in
set_option maxHeartbeats 4000000 in
theorem scriptTakes_walk (v0 : Value) (w : World) (s0 : Fr.ok1 w (.slice [.int .u8]) v0) :
    Calls Try.prog 3 #[v0] w fun e w' => e = .returned (.bool true) ∧ Below w.heap.size w w' := by
  obtain ⟨n, D, hb, hD⟩ := bytes_open s0
  refine Calls.veil fun Q HQ => ?_
  obtain ⟨T, S, Kc, cnt, e, hT⟩ := take_ex D n
  have HT := Lib.hid hT
  have HB := Lib.hid hb
  have HC := Lib.hid (take_cnt hT)
  obtain ⟨p, c, rfl, a1, a2⟩ := hb.slice
  clear s0 hb hT
  rcases (by omega : (5000 < n ∧ n < 60000) ∨ 60200 < n ∨ (n ≤ 5000 ∨ (60000 ≤ n ∧ n ≤ 60200))) with ⟨h1, h2⟩ | h1 | h1
  · skip
    have d1 : decide ((5000 : Int) < (n : Int)) = true := decide_eq_true (by omega)
    have d2 : decide ((n : Int) < 60000) = true := decide_eq_true (by omega)
    have d3 : decide ((60200 : Int) < (n : Int)) = false := decide_eq_false (by omega)
    clear h1 h2
    go_enter Try.func3, Try.ntmps3
    go_wp2_with fail
    refine (lives14_calls _).mono ?_; rintro _ w2 ⟨rfl, hb2⟩
    have HF := Lib.hid (show Below w.heap.size w w2 from hb2)
    clear hb2
    go_wp2_with fail
    (try go_ret)
    rw [HQ.out]
    exact ⟨rfl, HF.out⟩
  · skip
    have d1 : decide ((5000 : Int) < (n : Int)) = true := decide_eq_true (by omega)
    have d2 : decide ((n : Int) < 60000) = false := decide_eq_false (by omega)
    have d3 : decide ((60200 : Int) < (n : Int)) = true := decide_eq_true (by omega)
    clear h1
    go_enter Try.func3, Try.ntmps3
    go_wp2_with fail
    refine (lives14_calls _).mono ?_; rintro _ w2 ⟨rfl, hb2⟩
    have HF := Lib.hid (show Below w.heap.size w w2 from hb2)
    clear hb2
    go_wp2_with fail
    (try go_ret)
    rw [HQ.out]
    exact ⟨rfl, HF.out⟩
  · have SK := Lib.hid (stake D n _ w HB.out hD T S Kc cnt e HT.out)
    have RK := Lib.hid (fun (V : World) (hb : Below w.heap.size w V) => rtake D n _ V (HB.out.below hb) hD (by omega) T S Kc cnt e HT.out)
    go_enter Try.func3, Try.ntmps3
    rcases h1 with h1 | ⟨h1, h2⟩
    · skip
      have d1 : decide ((5000 : Int) < (n : Int)) = false := decide_eq_false (by omega)
      have d2 : decide ((n : Int) < 60000) = true := decide_eq_true (by omega)
      have d3 : decide ((60200 : Int) < (n : Int)) = false := decide_eq_false (by omega)
      clear h1
      go_wp2_with fail
      refine SK.out.mono ?_; rintro _ w1 ⟨sl, rfl, he1, hb1⟩
      clear d1 d2 d3
      have E1 := Lib.hid (And.intro he1 hb1)
      obtain ⟨p1, c1, rfl, _, _⟩ := he1.slice
      clear he1 hb1
      go_wp2_with fail
      generalize hV : World.alloc w1 _ = V
      have z0 : ∀ x : Ext V, x.w.cell? ⟨w1.heap.size, 0, none⟩ = some (.int .i64 T) := Ext.made hV 0 _ rfl
      have z1 : ∀ x : Ext V, x.w.cell? ⟨w1.heap.size, 1, none⟩ = some (.int .i64 S) := Ext.made hV 1 _ rfl
      have z2 : ∀ x : Ext V, x.w.cell? ⟨w1.heap.size, 2, none⟩ = some (.int .u64 Kc) := Ext.made hV 2 _ rfl
      have z3 : ∀ x : Ext V, x.w.cell? ⟨w1.heap.size, 3, none⟩ = some (.slice p1 cnt c1) := Ext.made hV 3 _ rfl
      have Z := Lib.hid (And.intro z0 (And.intro z1 (And.intro z2 z3)))
      have EV := Lib.hid (show ER V (.slice p1 cnt c1) cnt (entAt D) ∧ Below w.heap.size w V by rw [← hV]; exact ⟨E1.out.1.alloc _, below_new E1.out.2 _⟩)
      clear z0 z1 z2 z3 hV
      generalize w1.heap.size = b1 at *
      refine (RK.out V EV.out.2).mono ?_; rintro _ w2 ⟨sl, rfl, he2, hb2⟩
      have E2 := Lib.hid (And.intro he2 hb2)
      obtain ⟨p2, c2, rfl, _, _⟩ := he2.slice
      clear he2 hb2
      go_upto_region 5 with fail
      generalize hU : World.alloc w2 _ = U
      have c0 : U.cell? ⟨b1, 0, none⟩ = some (.int .i64 T) := by rw [← hU]; exact Ext.on (Z.out.1 ⟨w2, E2.out.2⟩) _
      have c1' : U.cell? ⟨b1, 1, none⟩ = some (.int .i64 S) := by rw [← hU]; exact Ext.on (Z.out.2.1 ⟨w2, E2.out.2⟩) _
      have c2' : U.cell? ⟨b1, 2, none⟩ = some (.int .u64 Kc) := by rw [← hU]; exact Ext.on (Z.out.2.2.1 ⟨w2, E2.out.2⟩) _
      have c3 : U.cell? ⟨b1, 3, none⟩ = some (.slice p1 cnt c1) := by rw [← hU]; exact Ext.on (Z.out.2.2.2 ⟨w2, E2.out.2⟩) _
      have d0 : U.cell? ⟨w2.heap.size, 0, none⟩ = some (.int .i64 T) := Ext.made hU 0 _ rfl ⟨U, Below.refl _ _⟩
      have d1 : U.cell? ⟨w2.heap.size, 1, none⟩ = some (.int .i64 S) := Ext.made hU 1 _ rfl ⟨U, Below.refl _ _⟩
      have d2 : U.cell? ⟨w2.heap.size, 2, none⟩ = some (.int .u64 Kc) := Ext.made hU 2 _ rfl ⟨U, Below.refl _ _⟩
      have d3 : U.cell? ⟨w2.heap.size, 3, none⟩ = some (.slice p2 cnt c2) := Ext.made hU 3 _ rfl ⟨U, Below.refl _ _⟩
      have EU := Lib.hid (show ER U (.slice p1 cnt c1) cnt (entAt D) ∧ ER U (.slice p2 cnt c2) cnt (entAt D) ∧ Below w.heap.size w U by
        rw [← hU]; exact ⟨(EV.out.1.below E2.out.2).alloc _, E2.out.1.alloc _, below_new (below_on EV.out.2 E2.out.2) _⟩)
      clear hU
      go_wp2_with fail
      refine (rsame14 T S Kc cnt _ _ _ U EU.out.1 EU.out.2.1 (by have := HC.out; omega)).mono ?_; rintro _ w4 ⟨rfl, hb4⟩
      have H4 := Lib.hid (below_on EU.out.2.2 hb4)
      clear hb4
      go_wp2_with fail
      refine (lives14_calls w4).mono ?_; rintro _ w5 ⟨rfl, hb5⟩
      have H5 := Lib.hid (below_on H4.out hb5)
      clear hb5
      go_wp2_with fail
      (try go_ret)
      rw [HQ.out]
      exact ⟨rfl, H5.out⟩
    · skip
      have d1 : decide ((5000 : Int) < (n : Int)) = true := decide_eq_true (by omega)
      have d2 : decide ((n : Int) < 60000) = false := decide_eq_false (by omega)
      have d3 : decide ((60200 : Int) < (n : Int)) = false := decide_eq_false (by omega)
      clear h1 h2
      go_wp2_with fail
      refine SK.out.mono ?_; rintro _ w1 ⟨sl, rfl, he1, hb1⟩
      clear d1 d2 d3
      have E1 := Lib.hid (And.intro he1 hb1)
      obtain ⟨p1, c1, rfl, _, _⟩ := he1.slice
      clear he1 hb1
      go_wp2_with fail
      generalize hV : World.alloc w1 _ = V
      have z0 : ∀ x : Ext V, x.w.cell? ⟨w1.heap.size, 0, none⟩ = some (.int .i64 T) := Ext.made hV 0 _ rfl
      have z1 : ∀ x : Ext V, x.w.cell? ⟨w1.heap.size, 1, none⟩ = some (.int .i64 S) := Ext.made hV 1 _ rfl
      have z2 : ∀ x : Ext V, x.w.cell? ⟨w1.heap.size, 2, none⟩ = some (.int .u64 Kc) := Ext.made hV 2 _ rfl
      have z3 : ∀ x : Ext V, x.w.cell? ⟨w1.heap.size, 3, none⟩ = some (.slice p1 cnt c1) := Ext.made hV 3 _ rfl
      have Z := Lib.hid (And.intro z0 (And.intro z1 (And.intro z2 z3)))
      have EV := Lib.hid (show ER V (.slice p1 cnt c1) cnt (entAt D) ∧ Below w.heap.size w V by rw [← hV]; exact ⟨E1.out.1.alloc _, below_new E1.out.2 _⟩)
      clear z0 z1 z2 z3 hV
      generalize w1.heap.size = b1 at *
      refine (RK.out V EV.out.2).mono ?_; rintro _ w2 ⟨sl, rfl, he2, hb2⟩
      have E2 := Lib.hid (And.intro he2 hb2)
      obtain ⟨p2, c2, rfl, _, _⟩ := he2.slice
      clear he2 hb2
      go_upto_region 5 with fail
      generalize hU : World.alloc w2 _ = U
      have c0 : U.cell? ⟨b1, 0, none⟩ = some (.int .i64 T) := by rw [← hU]; exact Ext.on (Z.out.1 ⟨w2, E2.out.2⟩) _
      have c1' : U.cell? ⟨b1, 1, none⟩ = some (.int .i64 S) := by rw [← hU]; exact Ext.on (Z.out.2.1 ⟨w2, E2.out.2⟩) _
      have c2' : U.cell? ⟨b1, 2, none⟩ = some (.int .u64 Kc) := by rw [← hU]; exact Ext.on (Z.out.2.2.1 ⟨w2, E2.out.2⟩) _
      have c3 : U.cell? ⟨b1, 3, none⟩ = some (.slice p1 cnt c1) := by rw [← hU]; exact Ext.on (Z.out.2.2.2 ⟨w2, E2.out.2⟩) _
      have d0 : U.cell? ⟨w2.heap.size, 0, none⟩ = some (.int .i64 T) := Ext.made hU 0 _ rfl ⟨U, Below.refl _ _⟩
      have d1 : U.cell? ⟨w2.heap.size, 1, none⟩ = some (.int .i64 S) := Ext.made hU 1 _ rfl ⟨U, Below.refl _ _⟩
      have d2 : U.cell? ⟨w2.heap.size, 2, none⟩ = some (.int .u64 Kc) := Ext.made hU 2 _ rfl ⟨U, Below.refl _ _⟩
      have d3 : U.cell? ⟨w2.heap.size, 3, none⟩ = some (.slice p2 cnt c2) := Ext.made hU 3 _ rfl ⟨U, Below.refl _ _⟩
      have EU := Lib.hid (show ER U (.slice p1 cnt c1) cnt (entAt D) ∧ ER U (.slice p2 cnt c2) cnt (entAt D) ∧ Below w.heap.size w U by
        rw [← hU]; exact ⟨(EV.out.1.below E2.out.2).alloc _, E2.out.1.alloc _, below_new (below_on EV.out.2 E2.out.2) _⟩)
      clear hU
      go_wp2_with fail
      refine (rsame14 T S Kc cnt _ _ _ U EU.out.1 EU.out.2.1 (by have := HC.out; omega)).mono ?_; rintro _ w4 ⟨rfl, hb4⟩
      have H4 := Lib.hid (below_on EU.out.2.2 hb4)
      clear hb4
      go_wp2_with fail
      refine (lives14_calls w4).mono ?_; rintro _ w5 ⟨rfl, hb5⟩
      have H5 := Lib.hid (below_on H4.out hb5)
      clear hb5
      go_wp2_with fail
      (try go_ret)
      rw [HQ.out]
      exact ⟨rfl, H5.out⟩
end Go.Proofs.Ytnikggdnlijkkaa
