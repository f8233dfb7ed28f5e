/- Layer 14: ScriptCleans. -/
import Derived.Test.YtkcebfgjabfmaaaScrG
import Derived.Test.YtkcebfgjabfmaaaScrC
import Derived.Test.YtkcebfgjabfmaaaScrD
import Derived.Test.YtkcebfgjabfmaaaFrame
namespace Go.Proofs.Ytkcebfgjabfmaaa
open Go.RowKit WordM
set_option linter.unusedVariables false
set_option linter.unusedSimpArgs false
abbrev entSh : List Fr.Sh := [.int .i64, .bool, .int .i64, .int .i64, .int .i64, .int .i64, .int .i64]
theorem ent_cells {w : World} {cs : List Value} (h : Fr.Sh.oks w entSh cs) : ∃ e : Ent, cs = ecells e := by
  obtain ⟨_, _, rfl, k0, h⟩ := Fr.get_cons h
  obtain ⟨_, _, rfl, k1, h⟩ := Fr.get_cons h
  obtain ⟨_, _, rfl, k2, h⟩ := Fr.get_cons h
  obtain ⟨_, _, rfl, k3, h⟩ := Fr.get_cons h
  obtain ⟨_, _, rfl, k4, h⟩ := Fr.get_cons h
  obtain ⟨_, _, rfl, k5, h⟩ := Fr.get_cons h
  obtain ⟨_, _, rfl, k6, h⟩ := Fr.get_cons h
  obtain rfl := Fr.get_nil h
  obtain ⟨a, rfl, _⟩ := Fr.get_int k0
  obtain ⟨b, rfl⟩ := Fr.get_bool k1
  obtain ⟨c, rfl, _⟩ := Fr.get_int k2
  obtain ⟨d, rfl, _⟩ := Fr.get_int k3
  obtain ⟨e, rfl, _⟩ := Fr.get_int k4
  obtain ⟨f, rfl, _⟩ := Fr.get_int k5
  obtain ⟨g, rfl, _⟩ := Fr.get_int k6
  exact ⟨⟨a, b, c, d, e, f, g⟩, rfl⟩
theorem ents_open {w : World} {v : Value} (h : Fr.ok1 w (.slice entSh) v) : ∃ n L, ER w v n L := by
  rcases Fr.get_slice h with rfl | ⟨a, len, cap, rfl, h1, h2, h3⟩
  · exact ⟨0, fun _ => ⟨0, false, 0, 0, 0, 0, 0⟩, .nil _⟩
  · rcases (by omega : len = 0 ∨ 0 < len) with rfl | h0
    · exact ⟨0, fun _ => ⟨0, false, 0, 0, 0, 0, 0⟩, .odd a cap _ h2⟩
    · obtain ⟨cs0, h5, h6⟩ := h3 0 (by omega)
      obtain ⟨e, rfl⟩ := ent_cells h6
      have hs : a.spot = none := by
        have h7 := (World.cells?_some h5).2.2 0 (by decide)
        exact World.cell?_spot (by simpa [Addr.add, ecells] using h7)
      obtain ⟨g, off, spot⟩ := a
      simp only at hs
      subst hs
      have hall : ∀ i, ∃ e : Ent, i < len → ∀ j, j < 7 → w.cell? ⟨g, off + (i * 7 + j), none⟩ = (ecells e)[j]? := by
        intro i
        by_cases hi : i < len
        · obtain ⟨cs, h5, h6⟩ := h3 i (by omega)
          obtain ⟨e, rfl⟩ := ent_cells h6
          obtain ⟨_, _, h7⟩ := World.cells?_some h5
          refine ⟨e, fun _ j hj => ?_⟩
          have h8 := h7 j (by exact hj)
          have e1 : ((⟨g, off, none⟩ : Addr).add (i * entSh.length)) = ⟨g, off + i * 7, none⟩ := addE _ _ _
          rw [e1] at h8
          have e2 : ((⟨g, off + i * 7, none⟩ : Addr).add j) = ⟨g, off + (i * 7 + j), none⟩ := by rw [addE, Nat.add_assoc]
          rw [e2] at h8
          rw [h8]
        · exact ⟨⟨0, false, 0, 0, 0, 0, 0⟩, fun h => absurd h hi⟩
      obtain ⟨L, hL⟩ := Classical.axiomOfChoice hall
      exact ⟨len, L, .row g off len cap L h1 h2 hL⟩
set_option maxHeartbeats 4000000 in
theorem scriptCleans_walk (v0 : Value) (w : World) (s0 : Fr.okN w [.int .i64, .int .i64, .int .u64, .slice [.int .i64, .bool, .int .i64, .int .i64, .int .i64, .int .i64, .int .i64]] v0) :
    Calls Try.prog 5 #[v0] w fun e w' => e = .returned (.bool true) ∧ Below w.heap.size w w' := by
  obtain ⟨cs, rfl, s0⟩ := s0
  obtain ⟨_, _, rfl, k0, s0⟩ := Fr.get_cons s0
  obtain ⟨_, _, rfl, k1, s0⟩ := Fr.get_cons s0
  obtain ⟨_, _, rfl, k2, s0⟩ := Fr.get_cons s0
  obtain ⟨v, _, rfl, k3, s0⟩ := Fr.get_cons s0
  obtain rfl := Fr.get_nil s0
  obtain ⟨T, rfl, _⟩ := Fr.get_int k0
  obtain ⟨S, rfl, _⟩ := Fr.get_int k1
  obtain ⟨K, rfl, _⟩ := Fr.get_int k2
  obtain ⟨n, L, hE⟩ := ents_open k3
  clear k0 k1 k2 k3 s0
  show Calls _ _ #[.agg #[.int .i64 T, .int .i64 S, .int .u64 K, v]] _ _
  refine Calls.veil fun Q HQ => ?_
  have HE := Lib.hid hE
  obtain ⟨p, c, rfl, a1, a2, A3⟩ := hE.parts
  clear hE A3
  rcases (by omega : 60100 < n ∨ n ≤ 60100) with hn | hn
  · go_enter Try.func5, Try.ntmps5
    go_wp2_with fail
    refine (lives14_calls _).mono ?_; rintro _ w2 ⟨rfl, hb2⟩
    have HF := Lib.hid (show Below w.heap.size w w2 from below_on (below_new (Below.refl w.heap.size w) _) hb2)
    clear hb2
    go_wp2_with fail
    (try go_ret)
    rw [HQ.out]
    exact ⟨rfl, HF.out⟩
  · go_enter Try.func5, Try.ntmps5
    go_wp2_with fail
    generalize hV : World.alloc w _ = V
    have z0 : ∀ x : Ext V, x.w.cell? ⟨w.heap.size, 0, none⟩ = some (.int .i64 T) := Ext.made hV 0 _ rfl
    have z1 : ∀ x : Ext V, x.w.cell? ⟨w.heap.size, 1, none⟩ = some (.int .i64 S) := Ext.made hV 1 _ rfl
    have z2 : ∀ x : Ext V, x.w.cell? ⟨w.heap.size, 2, none⟩ = some (.int .u64 K) := Ext.made hV 2 _ rfl
    have z3 : ∀ x : Ext V, x.w.cell? ⟨w.heap.size, 3, none⟩ = some (.slice p n c) := Ext.made hV 3 _ rfl
    have HB := Lib.hid (show Below w.heap.size w V by rw [← hV]; (repeat (first | exact Below.refl _ _ | assumption | refine below_new ?_ _ | refine Below.drew ?_ | refine below_drewN ?_ _ | refine below_on ?_ (by assumption))))
    have HEV := Lib.hid (show ER V (.slice p n c) n L from HE.out.below HB.out)
    clear hV
    have SC := sclean T S K n L _ V.drew (HEV.out.below (Below.refl _ _).drew) (by omega)
    have RC := fun w2 => rclean T S K n c p w2 a1 a2
    have HTK := fun (w3 : World) (h : ER w3 (.slice p n c) n L) => h.take (Nat.min_le_left n 60000)
    generalize hm : min n 60000 = m at SC RC HTK
    have hm5 : m ≤ 100000 := by omega
    clear hm
    generalize cl 1 6 T = t at SC RC
    generalize cl 7 250 S = s at SC RC
    generalize cl 1 1099511627776 K = k at SC RC
    have SC := Lib.hid SC; have RC := Lib.hid RC; have HTK := Lib.hid HTK
    (with_reducible refine wp_region_mix (fun w' => ∃ y : Ext V, w' = y.w) ?_ ?_ ?_ ?_; kernel_rfl; kernel_rfl; exact ⟨⟨V.drew, (Below.refl _ _).drew⟩, rfl⟩)
    repeat (first | ((with_reducible refine mix_plain (by kernel_rfl) ?_); (first | go_big_quiet_skip | (go_big_quiet_want; go_big_quiet_op; go_big_quiet_on)); (with_reducible refine mix_on ?_)) | ((with_reducible refine mix_skip (by kernel_rfl) ?_); go_big_quiet_skip; (with_reducible refine mix_on ?_)))
    ((with_reducible refine wpMix_chain (by kernel_rfl) (by kernel_rfl) (fun K HK => ?_)); go_step)
    refine SC.out.mono ?_; rintro _ w2 ⟨v', rfl, hE2, hb2⟩
    obtain ⟨p', c', rfl, _, _⟩ := hE2.slice
    have hb2 : Below V.heap.size V w2 := below_on (Below.refl V.heap.size V).drew hb2
    have HE2 := Lib.hid hE2
    refine HK.out _ _ ⟨⟨w2, hb2⟩, rfl⟩ ?_
    have HB2 := Lib.hid hb2
    clear HK K hE2 hb2
    repeat (first | ((with_reducible refine mix_plain (by kernel_rfl) ?_); (first | go_big_quiet_skip | (go_big_quiet_want; go_big_quiet_op; go_big_quiet_on)); (with_reducible refine mix_on ?_)) | ((with_reducible refine mix_skip (by kernel_rfl) ?_); go_big_quiet_skip; (with_reducible refine mix_on ?_)))
    ((with_reducible refine wpMix_chain (by kernel_rfl) (by kernel_rfl) (fun K HK => ?_)); go_step)
    refine (RC.out w2).mono ?_; rintro _ w3 ⟨rfl, hb3⟩
    have HB3 := Lib.hid (below_on HB2.out hb3)
    have HE3 := Lib.hid (HE2.out.below hb3)
    refine HK.out _ _ ⟨⟨w3, HB3.out⟩, rfl⟩ ?_
    clear HK K hb3
    repeat (first | ((with_reducible refine mix_plain (by kernel_rfl) ?_); (first | go_big_quiet_skip | (go_big_quiet_want; go_big_quiet_op; go_big_quiet_on)); (with_reducible refine mix_on ?_)) | ((with_reducible refine mix_skip (by kernel_rfl) ?_); go_big_quiet_skip; (with_reducible refine mix_on ?_)))
    ((with_reducible refine wpMix_chain (by kernel_rfl) (by kernel_rfl) (fun K HK => ?_)); go_step)
    refine (rsame14 _ _ _ m L _ _ w3 HE3.out (HTK.out w3 (HEV.out.below HB3.out)) hm5).mono ?_; rintro _ w4 ⟨rfl, hb4⟩
    have HB4 := Lib.hid (below_on HB3.out hb4)
    refine HK.out _ _ ⟨⟨w4, HB4.out⟩, rfl⟩ ?_
    clear HK K hb4
    repeat (first | ((with_reducible refine mix_plain (by kernel_rfl) ?_); (first | go_big_quiet_skip | (go_big_quiet_want; go_big_quiet_op; go_big_quiet_on)); (with_reducible refine mix_on ?_)) | ((with_reducible refine mix_skip (by kernel_rfl) ?_); go_big_quiet_skip; (with_reducible refine mix_on ?_)))
    ((with_reducible refine wpMix_chain (by kernel_rfl) (by kernel_rfl) (fun K HK => ?_)); go_step)
    refine (lives14_calls w4).mono ?_; rintro _ w5 ⟨rfl, hb5⟩
    have HB5 := Lib.hid (below_on HB4.out hb5)
    refine HK.out _ _ ⟨⟨w5, HB5.out⟩, rfl⟩ ?_
    clear HK K hb5
    have HF := Lib.hid (below_on HB.out HB5.out)
    repeat (first | ((with_reducible refine mix_plain (by kernel_rfl) ?_); (first | go_big_quiet_skip | (go_big_quiet_want; go_big_quiet_op; go_big_quiet_on)); (with_reducible refine mix_on ?_)) | ((with_reducible refine mix_skip (by kernel_rfl) ?_); go_big_quiet_skip; (with_reducible refine mix_on ?_)))
    refine wpMix_nil ?_
    go_wp2_with fail
    (try go_ret)
    rw [HQ.out]
    exact ⟨rfl, HF.out⟩
end Go.Proofs.Ytkcebfgjabfmaaa
