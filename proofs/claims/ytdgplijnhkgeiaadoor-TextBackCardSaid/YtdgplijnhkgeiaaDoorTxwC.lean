/- Layer 35: the words of Kinds; an answer as text. -/
import Derived.Test.YtdgplijnhkgeiaaDoorTxwB
namespace Go.Proofs.YtdgplijnhkgeiaaDoor
open Go.RowKit
set_option linter.unusedVariables false
set_option linter.unusedSimpArgs false
open Go.Lib (itoa)
def kindL : List ByteArray := [(⟨#[100, 111, 110, 101]⟩ : ByteArray), (⟨#[102, 111, 117, 110, 100]⟩ : ByteArray), (⟨#[99, 111, 117, 110, 116, 101, 100]⟩ : ByteArray), (⟨#[108, 105, 115, 116]⟩ : ByteArray), (⟨#[110, 111, 110, 101]⟩ : ByteArray), (⟨#[101, 120, 105, 115, 116, 115]⟩ : ByteArray), (⟨#[102, 117, 108, 108]⟩ : ByteArray), (⟨#[115, 112, 101, 110, 116]⟩ : ByteArray), (⟨#[98, 97, 100]⟩ : ByteArray)]
def kindAt (i : Nat) : ByteArray := kindL.getD i ByteArray.empty
def kS (k : Int) : List UInt8 := if 0 ≤ k ∧ k ≤ 8 then (kindAt k.toNat).data.toList else []
theorem kS_eq {k : Nat} (h : k < 9) : kindAt k = ⟨(kS (k : Int)).toArray⟩ := by unfold kS; rw [if_pos (by omega)]; simp
theorem kS_len (k : Int) : (kS k).length ≤ 7 := by
  have h : ∀ i, i < 9 → (kindAt i).data.toList.length ≤ 7 := by decide +kernel
  unfold kS
  split
  · exact h _ (by omega)
  · simp
/-- A slice of the words of Kinds. -/
structure KindsAt (w : World) (g : Nat) : Prop where
  c : ∀ i, i < 9 → w.cell? ⟨g, i, none⟩ = some (.string (kindAt i))
theorem KindsAt.below {w w' : World} {g : Nat} (h : KindsAt w g) (k : Below w.heap.size w w') : KindsAt w' g := ⟨fun i hi => Ext.cell ⟨w', k⟩ (h.c i hi)⟩
theorem KindsAt.made {w W : World} {T : TypeId} (hW : w.alloc (.cells #[.string (⟨#[100, 111, 110, 101]⟩ : ByteArray), .string (⟨#[102, 111, 117, 110, 100]⟩ : ByteArray), .string (⟨#[99, 111, 117, 110, 116, 101, 100]⟩ : ByteArray), .string (⟨#[108, 105, 115, 116]⟩ : ByteArray), .string (⟨#[110, 111, 110, 101]⟩ : ByteArray), .string (⟨#[101, 120, 105, 115, 116, 115]⟩ : ByteArray), .string (⟨#[102, 117, 108, 108]⟩ : ByteArray), .string (⟨#[115, 112, 101, 110, 116]⟩ : ByteArray), .string (⟨#[98, 97, 100]⟩ : ByteArray)] T) = W) : KindsAt W w.heap.size := ⟨fun i hi => by
  rcases (by omega : i = 0 ∨ i = 1 ∨ i = 2 ∨ i = 3 ∨ i = 4 ∨ i = 5 ∨ i = 6 ∨ i = 7 ∨ i = 8) with rfl | rfl | rfl | rfl | rfl | rfl | rfl | rfl | rfl
  · exact Ext.made_in hW (Below.refl _ _) 0 _ rfl
  · exact Ext.made_in hW (Below.refl _ _) 1 _ rfl
  · exact Ext.made_in hW (Below.refl _ _) 2 _ rfl
  · exact Ext.made_in hW (Below.refl _ _) 3 _ rfl
  · exact Ext.made_in hW (Below.refl _ _) 4 _ rfl
  · exact Ext.made_in hW (Below.refl _ _) 5 _ rfl
  · exact Ext.made_in hW (Below.refl _ _) 6 _ rfl
  · exact Ext.made_in hW (Below.refl _ _) 7 _ rfl
  · exact Ext.made_in hW (Below.refl _ _) 8 _ rfl⟩
theorem tkinds (w : World) : Calls Tryd.prog 34 #[] w fun e w' => ∃ g, e = .returned (.slice (some ⟨g, 0, none⟩) 9 9) ∧ KindsAt w' g ∧ Below w.heap.size w w' := by
  refine Calls.veil fun Q HQ => ?_
  go_enter Tryd.func34, Tryd.ntmps34
  go_wp2_with fail
  (try go_ret)
  rw [HQ.out]
  exact ⟨_, rfl, KindsAt.made rfl, by (repeat (first | exact Below.refl _ _ | assumption | refine below_new ?_ _ | refine Below.drew ?_ | refine below_drewN ?_ _ | refine below_on ?_ (by assumption)))⟩
set_option maxHeartbeats 1000000 in
theorem rkind (k : Int) (w : World) : Calls Tryd.prog 27 #[.int .i64 k] w fun e w' => e = .returned (.string ⟨(kS k).toArray⟩) ∧ Below w.heap.size w w' := by
  refine Calls.veil fun Q HQ => ?_
  rcases (by omega : k < 0 ∨ (0 ≤ k ∧ 8 < k) ∨ (0 ≤ k ∧ k < 9)) with h | ⟨h, h'⟩ | ⟨h, h'⟩
  · have HW : Hid (kS k = []) := Lib.hid (if_neg (by omega))
    go_enter Tryd.func27, Tryd.ntmps27
    go_wp2_with fail
    (try go_ret)
    rw [HQ.out, HW.out]
    exact ⟨rfl, by (repeat (first | exact Below.refl _ _ | assumption | refine below_new ?_ _ | refine Below.drew ?_ | refine below_drewN ?_ _ | refine below_on ?_ (by assumption)))⟩
  · have HW : Hid (kS k = []) := Lib.hid (if_neg (by omega))
    go_enter Tryd.func27, Tryd.ntmps27
    go_wp2_with fail
    (try go_ret)
    rw [HQ.out, HW.out]
    exact ⟨rfl, by (repeat (first | exact Below.refl _ _ | assumption | refine below_new ?_ _ | refine Below.drew ?_ | refine below_drewN ?_ _ | refine below_on ?_ (by assumption)))⟩
  · obtain ⟨i, rfl⟩ := Int.eq_ofNat_of_zero_le h
    have hi : i < 9 := by omega
    have HW := Lib.hid (kS_eq hi)
    go_enter Tryd.func27, Tryd.ntmps27
    go_upto_region 2 with (fail)
    generalize hV : World.alloc w _ = V
    have hBV : Below w.heap.size w V := by rw [← hV]; (repeat (first | exact Below.refl _ _ | assumption | refine below_new ?_ _ | refine Below.drew ?_ | refine below_drewN ?_ _ | refine below_on ?_ (by assumption)))
    have c0 := (KindsAt.made hV).c i hi
    clear hV
    go_wp2_with fail
    (try go_ret)
    rw [HQ.out, ← HW.out]
    exact ⟨rfl, hBV⟩
/-- The worlds in which all below one place is as it was. -/
structure EB (B : Nat) (W : World) where
  w : World
  h : Below B W w
instance (B : Nat) (W : World) : Nonempty (EB B W) := ⟨⟨W, Below.refl _ _⟩⟩
theorem EB.cells {B : Nat} {W : World} {b i : Nat} {v : Value} (h : W.cell? ⟨b, i, none⟩ = some v) (hb : b < B) : ∀ y : EB B W, y.w.cell? ⟨b, i, none⟩ = some v := fun y => by
  rw [y.h.cell (p := ⟨b, i, none⟩) hb]; exact h
def prT (p : Int × Int) : List UInt8 := 32 :: (itoa p.1 ++ 58 :: itoa p.2)
def prsT (l : PL) : List UInt8 := l.flatMap prT
theorem prsT_take {L : PL} {i : Nat} (hi : i < L.length) : prsT (L.take (i + 1)) = prsT (L.take i) ++ prT (ky L i, vl L i) := by
  rw [take_one hi]; unfold prsT; rw [List.flatMap_append]; simp
theorem prT_len {p : Int × Int} (h : I64 p.1 ∧ I64 p.2) : (prT p).length ≤ 44 := by
  have h1 := Lib.itoa_length_le p.1 h.1.1 h.1.2
  have h2 := Lib.itoa_length_le p.2 h.2.1 h.2.2
  unfold prT; simp; omega
theorem prsT_len : ∀ (l : PL), Ints l → (prsT l).length ≤ 44 * l.length
  | [], _ => by simp [prsT]
  | p :: l, h => by
    have h1 := prsT_len l fun q hq => h q (List.mem_cons_of_mem _ hq)
    have h2 := prT_len (h p List.mem_cons_self)
    have h3 : prsT (p :: l) = prT p ++ prsT l := by unfold prsT; rw [List.flatMap_cons]
    rw [h3, List.length_append, List.length_cons]; omega
theorem prsT_tlen {L : PL} (h : Ints L) (i : Nat) : (prsT (L.take i)).length ≤ 44 * L.length := by
  have := prsT_len (L.take i) fun p hp => h p (List.mem_of_mem_take hp)
  have h2 : (L.take i).length ≤ L.length := by simp; omega
  omega
def restT (a : An) : List UInt8 := if a.kind = 1 then 32 :: (itoa a.key ++ 32 :: itoa a.val) else if a.kind = 2 then 32 :: itoa a.n else if a.kind = 3 then prsT a.ps else []
def answerT (a : An) : List UInt8 := if 0 ≤ a.kind ∧ a.kind ≤ 8 then kS a.kind ++ restT a else []
set_option maxRecDepth 8000 in
set_option maxHeartbeats 4000000 in
theorem tanswer {w : World} (a : An) {av : Value} (hp : PR w av a.ps) (hi : Ints a.ps) (hl : a.ps.length ≤ 4001) (h1 : I64 a.key) (h2 : I64 a.val) (h3 : I64 a.n) (ht : Pow w.heap.size w) :
    Calls Tryd.prog 17 #[.agg #[.int .i64 a.kind, .int .i64 a.key, .int .i64 a.val, .int .i64 a.n, av]] w fun e w' => e = .returned (.string ⟨(answerT a).toArray⟩) ∧ Below w.heap.size w w' := by
  refine Calls.veil fun Q HQ => ?_
  obtain ⟨p, k, rfl, hk1, hk2, HA⟩ := hp.parts
  obtain ⟨kind, key, val, n, ps⟩ := a
  obtain ⟨AT, hAT⟩ : ∃ x, x = answerT ⟨kind, key, val, n, ps⟩ := ⟨_, rfl⟩
  have HATT := Lib.hid hAT
  rw [← hAT] at HQ
  have HKI := Lib.hid (And.intro h1 (And.intro h2 h3)); have HI := Lib.hid hi; have HL := Lib.hid hl; have HT := Lib.hid ht; have HP := Lib.hid hp
  simp only at HKI HI HL HA HP hk1 ⊢
  clear hp hi hl h1 h2 h3 ht hAT hk1 hk2
  go_enter Tryd.func17, Tryd.ntmps17
  go_upto_region 1 with fail
  generalize hV : World.alloc w _ = V
  have hbV : Below w.heap.size w V := by rw [← hV]; exact below_new (Below.refl _ _) _
  have x0 : V.cell? ⟨w.heap.size, 0, none⟩ = some (.int .i64 kind) := by rw [← hV]; exact Ext.made rfl 0 _ rfl ⟨_, Below.refl _ _⟩
  have x1 : V.cell? ⟨w.heap.size, 1, none⟩ = some (.int .i64 key) := by rw [← hV]; exact Ext.made rfl 1 _ rfl ⟨_, Below.refl _ _⟩
  have x2 : V.cell? ⟨w.heap.size, 2, none⟩ = some (.int .i64 val) := by rw [← hV]; exact Ext.made rfl 2 _ rfl ⟨_, Below.refl _ _⟩
  have x3 : V.cell? ⟨w.heap.size, 3, none⟩ = some (.int .i64 n) := by rw [← hV]; exact Ext.made rfl 3 _ rfl ⟨_, Below.refl _ _⟩
  have x4 : V.cell? ⟨w.heap.size, 4, none⟩ = some (.slice p ps.length k) := by rw [← hV]; exact Ext.made rfl 4 _ rfl ⟨_, Below.refl _ _⟩
  have HBV := Lib.hid hbV
  have HX := Lib.hid (And.intro x0 (And.intro x1 (And.intro x2 (And.intro x3 x4))))
  generalize w.heap.size = X at x0 x1 x2 x3 x4 HX ⊢
  have HAV := Lib.hid (show ∀ i, i < ps.length → ∃ g o, p = some ⟨g, o, none⟩ ∧ V.cell? ⟨g, o + i * 2, none⟩ = some (.int .i64 (ky ps i)) ∧ V.cell? ⟨g, o + i * 2 + 1, none⟩ = some (.int .i64 (vl ps i)) from fun i hi => by
    obtain ⟨g, o, e, c0, c1⟩ := HA.out i hi
    exact ⟨g, o, e, Ext.cell ⟨V, hbV⟩ c0, Ext.cell ⟨V, hbV⟩ c1⟩)
  clear hV hbV x0 x1 x2 x3 x4 HA HP
  go_wp2_with fail
  refine (tkinds _).mono ?_; rintro _ z1 ⟨g, rfl, hk, hb1⟩
  have HZ1 := Lib.hid hb1
  have HKD := Lib.hid hk
  have x0 := Ext.cell ⟨z1, hb1⟩ HX.out.1
  simp only at x0
  clear hk hb1
  rcases (by omega : kind < 0 ∨ (0 ≤ kind ∧ 9 ≤ kind) ∨ (0 ≤ kind ∧ kind < 9)) with h | ⟨h, h'⟩ | ⟨h, h'⟩
  · have HAT := Lib.hid (HATT.out.trans (if_neg (by simp only; omega)))
    go_wp2_with fail
    (try go_ret)
    rw [HQ.out, HAT.out]
    exact ⟨rfl, below_on HBV.out HZ1.out⟩
  · have HAT := Lib.hid (HATT.out.trans (if_neg (by simp only; omega)))
    go_wp2_with fail
    (try go_ret)
    rw [HQ.out, HAT.out]
    exact ⟨rfl, below_on HBV.out HZ1.out⟩
  obtain ⟨kn, rfl⟩ := Int.eq_ofNat_of_zero_le h
  have hkn : kn < 9 := by omega
  have HATT := Lib.hid (HATT.out.trans (if_pos (by simp only; omega)))
  have HKS := Lib.hid (kS_eq hkn)
  have HKL := Lib.hid (kS_len (kn : Int))
  have c0 := HKD.out.c kn hkn
  rw [HKS.out] at c0
  simp only at HATT
  generalize kS (kn : Int) = ks at c0 HATT HKL
  have HC0 := Lib.hid c0
  have hx3 : ¬ (kn : Int) < 0 := by omega
  have hx4 : (kn : Int) < 9 := by omega
  have hx5 : ¬ (9 : Int) ≤ (kn : Int) := by omega
  clear h h'
  go_upto_region 5 with fail
  generalize hV2 : World.alloc z1 _ = V2
  have hbV2 : Below z1.heap.size z1 V2 := by rw [← hV2]; exact below_new (Below.refl _ _) _
  have HBB := Lib.hid (show BB z1.heap.size z1.heap.size [] V2 by rw [← hV2]; exact BB.fresh z1)
  have x0 := Ext.cell ⟨V2, hbV2⟩ x0
  have c0 := Ext.cell ⟨V2, hbV2⟩ c0
  simp only at x0 c0
  have HBV2 := Lib.hid hbV2
  have HBZ := Lib.hid (below_on HBV.out HZ1.out)
  have HPW := Lib.hid (show Pow z1.heap.size z1 from fun w' h' => HT.out w' (HBZ.out.trans (h'.mono HBZ.out.size)))
  obtain ⟨b, hb⟩ : ∃ b, b = z1.heap.size := ⟨_, rfl⟩
  have HBE := Lib.hid hb
  have HBB : Hid (BB z1.heap.size b [] V2) := Lib.hid (by rw [hb]; exact HBB.out)
  rw [← hb]
  clear hb hV2 hbV2
  go_wp2_with fail
  refine (bwrite _ HBB.out (by have := HKL.out; show 0 + ks.length ≤ _; omega) HBV2.out.size).mono ?_; rintro _ z2 ⟨rfl, hbb, hw2, ho2⟩
  have HB2 := Lib.hid (show BB z1.heap.size b ks z2 by simpa using hbb)
  have HW2 := Lib.hid (HBV2.out.trans hw2)
  clear hbb hw2 ho2 x0 c0 hx3 hx4 hx5
  have hzx := below_on HZ1.out HW2.out
  have x0 := Ext.cell ⟨z2, hzx⟩ HX.out.1; have x1 := Ext.cell ⟨z2, hzx⟩ HX.out.2.1; have x2 := Ext.cell ⟨z2, hzx⟩ HX.out.2.2.1; have x3 := Ext.cell ⟨z2, hzx⟩ HX.out.2.2.2.1; have x4 := Ext.cell ⟨z2, hzx⟩ HX.out.2.2.2.2
  simp only at x0 x1 x2 x3 x4
  have HZX := Lib.hid hzx
  clear hzx
  have HXZ := Lib.hid (show X < z1.heap.size from World.block_lt_of_cell? z1 ⟨X, 0, none⟩ (Ext.cell ⟨z1, HZ1.out⟩ HX.out.1))
  rcases (by omega : kn = 1 ∨ kn = 2 ∨ kn = 3 ∨ (kn ≠ 1 ∧ kn ≠ 2 ∧ kn ≠ 3)) with hc | hc | hc | ⟨hc1, hc2, hc3⟩
  · have e1 : ((kn : Int) == 1) = true := by simp; omega
    have HAT := Lib.hid (show AT = ks ++ (32 :: (itoa key ++ 32 :: itoa val)) by rw [HATT.out]; unfold restT; simp only; rw [if_pos (by omega)])
    clear hc HATT
    go_upto_region 8 with fail
    have y1 := EB.cells (B := z1.heap.size) x1 HXZ.out; have y2 := EB.cells (B := z1.heap.size) x2 HXZ.out
    have hk21 := Lib.itoa_length_le key HKI.out.1.1 HKI.out.1.2
    have hu21 := Lib.itoa_length_le val HKI.out.2.1.1 HKI.out.2.1.2
    obtain ⟨js, hjs⟩ : ∃ x, x = itoa key := ⟨_, rfl⟩
    obtain ⟨us, hus⟩ : ∃ x, x = itoa val := ⟨_, rfl⟩
    rw [← hjs, ← hus] at HAT; rw [← hjs] at hk21; rw [← hus] at hu21
    have HJS := Lib.hid hjs; have HUS := Lib.hid hus; have HJ := Lib.hid hk21; have HU := Lib.hid hu21
    clear hjs hus hk21 hu21 x0 x1 x2 x3 x4
    have q1 : ¬ 9223372036854775807 < 1 + js.length := by have := HJ.out; omega
    have q2 : ¬ 9223372036854775807 < 1 + js.length + 1 := by have := HJ.out; omega
    have q3 : ¬ 9223372036854775807 < 1 + js.length + 1 + us.length := by have := HJ.out; have := HU.out; omega
    (with_reducible refine wp_region_mix (fun w' => ∃ y : EB z1.heap.size z2, w' = y.w) ?_ ?_ ?_ ?_; kernel_rfl; kernel_rfl; exact ⟨⟨z2.drew, (Below.refl _ _).drew⟩, rfl⟩)
    repeat (first | ((with_reducible refine mix_skip (by kernel_rfl) ?_); go_big_quiet_skip; (with_reducible refine mix_on ?_)) | ((with_reducible refine mix_plain (by kernel_rfl) ?_); (first | go_big_quiet_skip | (go_big_quiet_want; go_big_quiet_op; go_big_quiet_on)); (with_reducible refine mix_on ?_)))
    ((with_reducible refine wpMix_chain (by kernel_rfl) (by kernel_rfl) (fun K HK => ?_)); go_step)
    refine (twrite key HKI.out.1 (HPW.out.on (HW2.out.trans (Below.refl _ _).drew))).mono ?_; rintro _ y3 ⟨rfl, hb1⟩
    have HZ3 := Lib.hid (below_on (Below.refl z2.heap.size z2).drew hb1)
    rw [← HJS.out]
    refine HK.out _ _ ⟨⟨y3, HZ3.out.mono HW2.out.size⟩, rfl⟩ ?_
    clear HK K hb1
    repeat (first | ((with_reducible refine mix_skip (by kernel_rfl) ?_); go_big_quiet_skip; (with_reducible refine mix_on ?_)) | ((with_reducible refine mix_plain (by kernel_rfl) ?_); (first | go_big_quiet_skip | (go_big_quiet_want; go_big_quiet_op; go_big_quiet_on)); (with_reducible refine mix_on ?_)))
    ((with_reducible refine wpMix_chain (by kernel_rfl) (by kernel_rfl) (fun K HK => ?_)); go_step)
    refine (twrite val HKI.out.2.1 (HPW.out.on (below_on HW2.out HZ3.out))).mono ?_; rintro _ y4 ⟨rfl, hb1⟩
    have HZ4 := Lib.hid (below_on HZ3.out hb1)
    rw [← HUS.out]
    refine HK.out _ _ ⟨⟨y4, HZ4.out.mono HW2.out.size⟩, rfl⟩ ?_
    clear HK K hb1
    repeat (first | ((with_reducible refine mix_skip (by kernel_rfl) ?_); go_big_quiet_skip; (with_reducible refine mix_on ?_)) | ((with_reducible refine mix_plain (by kernel_rfl) ?_); (first | go_big_quiet_skip | (go_big_quiet_want; go_big_quiet_op; go_big_quiet_on)); (with_reducible refine mix_on ?_)))
    ((with_reducible refine wpMix_chain (by kernel_rfl) (by kernel_rfl) (fun K HK => ?_)); go_step)
    refine (bwrite _ (HB2.out.keep HZ4.out) (by have h1 := HKL.out; have h2 := HJ.out; have h3 := HU.out; have h5 : ∀ (x : ByteArray), x.size = x.data.toList.length := fun _ => by rw [Array.length_toList]; rfl
                                                rw [h5]; simp; omega) (by have h1 := HW2.out.size; have h2 := HZ4.out.size; omega)).mono ?_; rintro _ y5 ⟨rfl, hbb, hw5, ho5⟩
    have HW9 := Lib.hid ((HW2.out.trans (HZ4.out.mono HW2.out.size)).trans hw5)
    have HB9 := Lib.hid (show BB z1.heap.size b (ks ++ (32 :: (js ++ 32 :: us))) y5 by simpa using hbb)
    refine HK.out _ _ ⟨⟨y5, (HZ4.out.mono HW2.out.size).trans hw5⟩, rfl⟩ ?_
    clear HK K hbb hw5 ho5
    repeat (first | ((with_reducible refine mix_skip (by kernel_rfl) ?_); go_big_quiet_skip; (with_reducible refine mix_on ?_)) | ((with_reducible refine mix_plain (by kernel_rfl) ?_); (first | go_big_quiet_skip | (go_big_quiet_want; go_big_quiet_op; go_big_quiet_on)); (with_reducible refine mix_on ?_)))
    refine wpMix_nil ?_
    clear y1 y2
    go_wp2_with fail
    refine (bstring HB9.out HW9.out.size).mono ?_; rintro _ z9 ⟨rfl, hbb, hw1, ho1⟩
    have HF := Lib.hid (below_on HBZ.out (HW9.out.trans hw1))
    clear hbb hw1 ho1
    go_wp2_with fail
    (try go_ret)
    rw [HQ.out, HAT.out]
    exact ⟨rfl, HF.out⟩
  · have e1 : ((kn : Int) == 1) = false := by simp; omega
    have e2 : ((kn : Int) == 2) = true := by simp; omega
    have HAT := Lib.hid (show AT = ks ++ (32 :: itoa n) by rw [HATT.out]; unfold restT; simp only; rw [if_neg (by omega), if_pos (by omega)])
    clear hc HATT
    go_wp2_with fail
    refine (twrite n HKI.out.2.2 (HPW.out.on HW2.out)).mono ?_; rintro _ y3 ⟨rfl, hb1⟩
    have HZ3 := Lib.hid hb1
    have HJ := Lib.hid (Lib.itoa_length_le n HKI.out.2.2.1 HKI.out.2.2.2)
    generalize itoa n = js at HJ HAT ⊢
    have q1 : ¬ 9223372036854775807 < 1 + js.length := by have := HJ.out; omega
    clear hb1 x0 x1 x2 x3 x4
    go_wp2_with fail
    refine (bwrite _ (HB2.out.keep HZ3.out) (by have h1 := HKL.out; have h2 := HJ.out; have h5 : ∀ (x : ByteArray), x.size = x.data.toList.length := fun _ => by rw [Array.length_toList]; rfl
                                                rw [h5]; simp; omega) (by have h1 := HW2.out.size; have h2 := HZ3.out.size; omega)).mono ?_; rintro _ y5 ⟨rfl, hbb, hw5, ho5⟩
    have HW9 := Lib.hid ((HW2.out.trans (HZ3.out.mono HW2.out.size)).trans hw5)
    have HB9 := Lib.hid (show BB z1.heap.size b (ks ++ (32 :: js)) y5 by simpa using hbb)
    clear hbb hw5 ho5
    go_wp2_with fail
    refine (bstring HB9.out HW9.out.size).mono ?_; rintro _ z9 ⟨rfl, hbb, hw1, ho1⟩
    have HF := Lib.hid (below_on HBZ.out (HW9.out.trans hw1))
    clear hbb hw1 ho1
    go_wp2_with fail
    (try go_ret)
    rw [HQ.out, HAT.out]
    exact ⟨rfl, HF.out⟩
  · have e1 : ((kn : Int) == 1) = false := by simp; omega
    have e2 : ((kn : Int) == 2) = false := by simp; omega
    have e3 : ((kn : Int) == 3) = true := by simp; omega
    have HAT := Lib.hid (show AT = ks ++ prsT ps by rw [HATT.out]; unfold restT; simp only; rw [if_neg (by omega), if_neg (by omega), if_pos (by omega)])
    clear hc HATT
    obtain ⟨m, hm⟩ : ∃ m, m = ps.length := ⟨_, rfl⟩
    have HM := Lib.hid hm
    have HM41 := Lib.hid (show m ≤ 4001 by have := HL.out; omega)
    rw [← hm] at x4 ⊢
    clear hm
    go_wp2_with fail
    clear x0 x1 x2 x3 x4
    go_loopw [50] (fun iv wr => ∃ i : Nat, i ≤ m ∧ iv = .int .i64 i ∧ Hid (BB z1.heap.size b (ks ++ prsT (ps.take i)) wr) ∧ Hid (Below z1.heap.size z2 wr)) (fun iv _ => m - (intOf iv).toNat)
    case atStart => exact ⟨0, Nat.zero_le _, rfl, Lib.hid (by simpa [prsT] using HB2.out), Lib.hid (Below.refl _ _)⟩
    case round =>
      obtain ⟨i, hi, rfl, HBR, HW⟩ := hrel
      rcases (by omega : i < m ∨ i = m) with hlt | heq
      · have hli : i < ps.length := by have := HM.out; omega
        obtain ⟨gp, o, rfl, c0, c1⟩ := HAV.out i hli
        have hbw := HW2.out.trans HW.out
        have c0 := Ext.cell ⟨wr, below_on HZ1.out hbw⟩ c0
        have c1 := Ext.cell ⟨wr, below_on HZ1.out hbw⟩ c1
        simp only at c0 c1
        have hkv := HI.out.ky hli
        have HTL := Lib.hid (prsT_tlen HI.out i)
        obtain ⟨kk, hk⟩ : ∃ k, k = ky ps i := ⟨_, rfl⟩
        obtain ⟨u, hu⟩ : ∃ u, u = vl ps i := ⟨_, rfl⟩
        rw [← hk] at c0 hkv; rw [← hu] at c1 hkv
        have HKV := Lib.hid hkv
        have HE := Lib.hid (show prsT (ps.take (i + 1)) = prsT (ps.take i) ++ prT (kk, u) by rw [hk, hu]; exact prsT_take hli)
        have HWW := Lib.hid hbw
        clear hk hu hkv hli hbw
        have hii : (i : Int) < m := by omega
        have HI41 := Lib.hid (show i ≤ 4001 by have := HM41.out; omega)
        have hw91 : wrap64 ((i : Int) + 1) = (i : Int) + 1 := by have := HI41.out; unfold wrap64; omega
        have hw92 : IntKind.i64.wrap ((i : Int) + 1) = (i : Int) + 1 := by have := HI41.out; simp only [IntKind.wrap_i64]; (try unfold wrap64); omega
        go_upto_region 15 with fail
        generalize hV : World.alloc _ _ = V3
        have v0 : V3.heap[wr.heap.size]? = some (.cells #[.int .i64 kk, .int .i64 u] 51 (0, 0)) := by rw [← hV]; exact heap_alloc_new _ _
        have hbV : Below wr.heap.size wr V3 := by rw [← hV]; exact below_new (Below.refl _ _) _
        have hs0 := HWW.out.size
        have HBV3 := Lib.hid hbV
        have HWV := Lib.hid (below_on HWW.out hbV)
        have HRW := Lib.hid (show z1.heap.size ≤ wr.heap.size from hs0)
        have HV0 := Lib.hid v0
        have HVW := Lib.hid (show z1.heap.size ≤ V3.heap.size by have := hbV.size; omega)
        have HNE := Lib.hid (show wr.heap.size ≠ b by have := HBR.out.lt; omega)
        have y0 := EO.cells (R := wr.heap.size) (T := 51) (cs := #[.int .i64 kk, .int .i64 u]) 0 rfl
        have y1 := EO.cells (R := wr.heap.size) (T := 51) (cs := #[.int .i64 kk, .int .i64 u]) 1 rfl
        obtain ⟨R, hR⟩ : ∃ R, R = wr.heap.size := ⟨_, rfl⟩
        rw [← hR] at y0 y1 HV0 HNE ⊢
        have hk21 := Lib.itoa_length_le kk HKV.out.1.1 HKV.out.1.2
        have hu21 := Lib.itoa_length_le u HKV.out.2.1 HKV.out.2.2
        obtain ⟨js, hjs⟩ : ∃ x, x = itoa kk := ⟨_, rfl⟩
        obtain ⟨us, hus⟩ : ∃ x, x = itoa u := ⟨_, rfl⟩
        have HPR := Lib.hid (show prT (kk, u) = 32 :: (js ++ 58 :: us) by rw [hjs, hus]; rfl)
        rw [← hjs] at hk21; rw [← hus] at hu21
        have HJS := Lib.hid hjs; have HUS := Lib.hid hus; have HJ := Lib.hid hk21; have HU := Lib.hid hu21
        clear hjs hus hk21 hu21 hV hbV v0 hs0 c0 c1 hR
        have q1 : ¬ 9223372036854775807 < 1 + js.length := by have := HJ.out; omega
        have q2 : ¬ 9223372036854775807 < 1 + js.length + 1 := by have := HJ.out; omega
        have q3 : ¬ 9223372036854775807 < 1 + js.length + 1 + us.length := by have := HJ.out; have := HU.out; omega
        (with_reducible refine wp_region_mix (fun w' => ∃ y : EO R (.cells #[.int .i64 kk, .int .i64 u] 51 (0, 0)), w' = y.w) ?_ ?_ ?_ ?_; kernel_rfl; kernel_rfl; exact ⟨⟨V3.drew, drk HV0.out⟩, rfl⟩)
        repeat (first | ((with_reducible refine mix_skip (by kernel_rfl) ?_); go_big_quiet_skip; (with_reducible refine mix_on ?_)) | ((with_reducible refine mix_plain (by kernel_rfl) ?_); (first | go_big_quiet_skip | (go_big_quiet_want; go_big_quiet_op; go_big_quiet_on)); (with_reducible refine mix_on ?_)))
        ((with_reducible refine wpMix_chain (by kernel_rfl) (by kernel_rfl) (fun K HK => ?_)); go_step)
        refine (twrite kk HKV.out.1 (HPW.out.on (HWV.out.trans (Below.refl _ _).drew))).mono ?_; rintro _ y3 ⟨rfl, hb1⟩
        have HZ3 := Lib.hid (below_on (Below.refl V3.heap.size V3).drew hb1)
        have HB3 := Lib.hid ((HBR.out.keep HBV3.out).keep HZ3.out)
        have hr1 : y3.heap[R]? = _ := upk HZ3.out HV0.out
        have HR1 := Lib.hid hr1
        rw [← HJS.out]
        refine HK.out _ _ ⟨⟨y3, hr1⟩, rfl⟩ ?_
        clear HK K hb1 hr1
        repeat (first | ((with_reducible refine mix_skip (by kernel_rfl) ?_); go_big_quiet_skip; (with_reducible refine mix_on ?_)) | ((with_reducible refine mix_plain (by kernel_rfl) ?_); (first | go_big_quiet_skip | (go_big_quiet_want; go_big_quiet_op; go_big_quiet_on)); (with_reducible refine mix_on ?_)))
        ((with_reducible refine wpMix_chain (by kernel_rfl) (by kernel_rfl) (fun K HK => ?_)); go_step)
        refine (twrite u HKV.out.2 (HPW.out.on (below_on HWV.out HZ3.out))).mono ?_; rintro _ y4 ⟨rfl, hb1⟩
        have HZ4 := Lib.hid (below_on HZ3.out hb1)
        have HB4 := Lib.hid (HB3.out.keep hb1)
        have hr1 : y4.heap[R]? = _ := upk hb1 HR1.out
        have HR4 := Lib.hid hr1
        rw [← HUS.out]
        refine HK.out _ _ ⟨⟨y4, hr1⟩, rfl⟩ ?_
        clear HK K hb1 hr1
        repeat (first | ((with_reducible refine mix_skip (by kernel_rfl) ?_); go_big_quiet_skip; (with_reducible refine mix_on ?_)) | ((with_reducible refine mix_plain (by kernel_rfl) ?_); (first | go_big_quiet_skip | (go_big_quiet_want; go_big_quiet_op; go_big_quiet_on)); (with_reducible refine mix_on ?_)))
        ((with_reducible refine wpMix_chain (by kernel_rfl) (by kernel_rfl) (fun K HK => ?_)); go_step)
        refine (bwrite _ HB4.out (by have h1 := HKL.out; have h2 := HJ.out; have h3 := HU.out; have h4 := HTL.out; have h5 : ∀ (x : ByteArray), x.size = x.data.toList.length := fun _ => by rw [Array.length_toList]; rfl
                                     have h6 := HL.out
                                     rw [h5, List.length_append]; simp; omega) (by have h1 := HWV.out.size; have h2 := HZ4.out.size; omega)).mono ?_; rintro _ y5 ⟨rfl, hbb, hw5, ho5⟩
        have hr5 : y5.heap[R]? = _ := ho5 R _ HR4.out (by intro e; exact HNE.out (Option.some.inj e)) (by intro c fz e; injection e with _ h; exact absurd h (by decide))
        have HW9 := Lib.hid ((HW.out.trans (HBV3.out.mono HRW.out)).trans ((HZ4.out.mono HVW.out).trans hw5))
        have HB9 := Lib.hid (show BB z1.heap.size b (ks ++ prsT (ps.take (i + 1))) y5 by rw [HE.out, HPR.out]; simpa using hbb)
        refine HK.out _ _ ⟨⟨y5, hr5⟩, rfl⟩ ?_
        clear HK K hbb hw5 ho5
        repeat (first | ((with_reducible refine mix_skip (by kernel_rfl) ?_); go_big_quiet_skip; (with_reducible refine mix_on ?_)) | ((with_reducible refine mix_plain (by kernel_rfl) ?_); (first | go_big_quiet_skip | (go_big_quiet_want; go_big_quiet_op; go_big_quiet_on)); (with_reducible refine mix_on ?_)))
        refine wpMix_nil ?_
        clear hr5 y0 y1 q1 q2 q3
        go_wp2_with fail
        go_roundw
        case rel => exact ⟨i + 1, by omega, by go_num, HB9, HW9⟩
        case measure => simp [intOf]; omega
      · have hge : ¬ (i : Int) < m := by omega
        subst heq
        have HET := Lib.hid (show ps.take i = ps by rw [List.take_of_length_le (by have := HM.out; omega)])
        have HB9 := Lib.hid (show BB z1.heap.size b (ks ++ prsT ps) wr by rw [← HET.out]; exact HBR.out)
        have HW9 := Lib.hid (HW2.out.trans HW.out)
        go_wp2_with fail
        refine (bstring HB9.out HW9.out.size).mono ?_; rintro _ z9 ⟨rfl, hbb, hw1, ho1⟩
        have HF := Lib.hid (below_on HBZ.out (HW9.out.trans hw1))
        clear hbb hw1 ho1
        go_wp2_with fail
        (try go_ret)
        rw [HQ.out, HAT.out]
        exact ⟨rfl, HF.out⟩
  · have e1 : ((kn : Int) == 1) = false := by simp; omega
    have e2 : ((kn : Int) == 2) = false := by simp; omega
    have e3 : ((kn : Int) == 3) = false := by simp; omega
    have HAT := Lib.hid (show AT = ks by rw [HATT.out]; unfold restT; simp only; rw [if_neg (by omega), if_neg (by omega), if_neg (by omega), List.append_nil])
    clear hc1 hc2 hc3 HATT
    have HB9 := HB2; have HW9 := HW2
    go_wp2_with fail
    refine (bstring HB9.out HW9.out.size).mono ?_; rintro _ z9 ⟨rfl, hbb, hw1, ho1⟩
    have HF := Lib.hid (below_on HBZ.out (HW9.out.trans hw1))
    clear hbb hw1 ho1
    go_wp2_with fail
    (try go_ret)
    rw [HQ.out, HAT.out]
    exact ⟨rfl, HF.out⟩
end Go.Proofs.YtdgplijnhkgeiaaDoor
