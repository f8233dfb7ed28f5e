/- GBG: several texts in one. -/
import Derived.Test.YtaaciolfgplnoaaLmbJ
import Derived.Test.YtaaciolfgplnoaaGAS
/- Layer 19: the reference's Read: a thread's bags, as words have them. -/
namespace Go.Proofs.Ytaaciolfgplnoaa.Lb
open Go.RowKit WordM EdgeM Sl
set_option linter.unusedVariables false
set_option linter.unusedSimpArgs false
theorem boxes3 (w : World) (o1 o2 o3 : Obj) : (((w.alloc o1).alloc o2).alloc o3).heap[w.heap.size]? = some o1 ∧ (((w.alloc o1).alloc o2).alloc o3).heap[w.heap.size + 1]? = some o2 ∧ (((w.alloc o1).alloc o2).alloc o3).heap[w.heap.size + 2]? = some o3 ∧ Below w.heap.size w (((w.alloc o1).alloc o2).alloc o3) ∧ (((w.alloc o1).alloc o2).alloc o3).heap.size = w.heap.size + 3 := by
  refine ⟨?_, ?_, ?_, below_new (below_new (below_new (Below.refl _ _) _) _) _, by simp⟩
  · rw [Below.heap_alloc _ _ _ (by simp; omega), Below.heap_alloc _ _ _ (by simp), heap_alloc_new]
  · rw [Below.heap_alloc _ _ _ (by simp)]
    have h := heap_alloc_new (w.alloc o1) o2
    simpa using h
  · have h := heap_alloc_new ((w.alloc o1).alloc o2) o3
    simpa using h
/-- The cells of three bags. -/
def bg6 (st : Nat → Int) (v : Nat → Value) (j : Nat) : Value := if j % 2 = 0 then .int .u64 (st (j / 2)) else v (j / 2)
theorem bg6_e (st : Nat → Int) (v : Nat → Value) (c : Nat) : bg6 st v (c * 2) = .int .u64 (st c) := by unfold bg6; rw [if_pos (by omega), show c * 2 / 2 = c by omega]
theorem bg6_o (st : Nat → Int) (v : Nat → Value) (c : Nat) : bg6 st v (c * 2 + 1) = v c := by unfold bg6; rw [if_neg (by omega), show (c * 2 + 1) / 2 = c by omega]
theorem bg6_se (st : Nat → Int) (v : Nat → Value) (c : Nat) (x : Int) : Th.upF (bg6 st v) (c * 2) (.int .u64 x) = bg6 (fun j => if j = c then x else st j) v := by
  funext j
  unfold Th.upF bg6
  by_cases e : j = c * 2
  · subst e
    rw [if_pos rfl, if_pos (by omega)]
    show Value.int .u64 x = Value.int .u64 (if c * 2 / 2 = c then x else st (c * 2 / 2))
    rw [if_pos (by omega)]
  · rw [if_neg e]
    by_cases h : j % 2 = 0
    · rw [if_pos h, if_pos h]
      show Value.int .u64 (st (j / 2)) = Value.int .u64 (if j / 2 = c then x else st (j / 2))
      rw [if_neg (by omega)]
    · rw [if_neg h, if_neg h]
theorem bg6_so (st : Nat → Int) (v : Nat → Value) (c : Nat) (x : Value) : Th.upF (bg6 st v) (c * 2 + 1) x = bg6 st (fun j => if j = c then x else v j) := by
  funext j
  unfold Th.upF bg6
  by_cases e : j = c * 2 + 1
  · subst e
    rw [if_pos rfl, if_neg (by omega)]
    show x = (if (c * 2 + 1) / 2 = c then x else v ((c * 2 + 1) / 2))
    rw [if_pos (by omega)]
  · rw [if_neg e]
    by_cases h : j % 2 = 0
    · rw [if_pos h, if_pos h]
    · rw [if_neg h, if_neg h]
      show v (j / 2) = (if j / 2 = c then x else v (j / 2))
      rw [if_neg (by omega)]
set_option maxRecDepth 8000 in
set_option maxHeartbeats 4000000 in
theorem rread {w : World} {g C t s k : Nat} {K : Int} {f : Nat → Int} {X : Nat → List Int} (hr : Mm.RowAt w g (3 + 8 * t + 7 * s) f) (t1 : 1 ≤ t) (t2 : t ≤ 6) (s1 : 7 ≤ s) (s2 : s ≤ 250) (hk : k < t)
    (hX : ∀ c, c < 3 → Ch t f (f (bgI k c)) (X c)) (hE : ∀ c, c < 3 → ∀ e ∈ X c, (0 < e ∧ e < 4611686018427387904) ∧ 1 ≤ sl e ∧ sl e ≤ s ∧ e % 4096 = sl e) (hn : ∀ c, c < 3 → (X c).length ≤ s) :
    Calls Try.prog 43 #[.agg #[.int .i64 t, .int .i64 s, .int .u64 K], .slice (some ⟨g, 0, none⟩) (3 + 8 * t + 7 * s) C, .int .i64 k] w fun e w' => ∃ v : Nat → Value, e = .returned (.tuple #[.agg #[.int .u64 (f (stI k 0)), v 0, .int .u64 (f (stI k 1)), v 1, .int .u64 (f (stI k 2)), v 2], .bool true]) ∧ (∀ c, c < 3 → VR w.heap.size 22 w' (v c) (wds (X c))) ∧ Below w.heap.size w w' := by
  refine Calls.veil fun Q HQ => ?_
  have HR := Lib.hid hr; have HX := Lib.hid hX; have HE := Lib.hid hE; have HNN := Lib.hid hn
  have HKT := Lib.hid hk
  have hk6 : k ≤ 5 := by omega
  clear hr hX hE hn
  obtain ⟨n, hn'⟩ : ∃ n, n = 3 + 8 * t + 7 * s := ⟨_, rfl⟩
  have HN := Lib.hid hn'
  rw [← hn']
  clear hn'
  go_enter Try.func43, Try.ntmps43
  go_upto_region 2 with fail
  generalize hU : World.alloc _ _ = U
  obtain ⟨b, hb⟩ : ∃ b, b = w.heap.size := ⟨_, rfl⟩
  have H3 := Lib.hid (show U.heap[b]? = some (.cells #[.int .i64 t, .int .i64 s, .int .u64 K] 24 (0, 0)) ∧ U.heap[b + 1]? = some (.cells #[.int .u64 0, .slice none 0 0, .int .u64 0, .slice none 0 0, .int .u64 0, .slice none 0 0] 67 (0, 0)) ∧ U.heap[b + 2]? = some (.cells #[.int .u64 0, .slice none 0 0, .int .u64 0, .slice none 0 0, .int .u64 0, .slice none 0 0] 67 (0, 0)) ∧ Below w.heap.size w U ∧ U.heap.size = b + 3 by
    rw [← hU, hb]; exact boxes3 w _ _ _)
  rw [← hb]
  obtain ⟨b2, hb2⟩ : ∃ b2, b2 = b + 1 + 1 := ⟨_, rfl⟩
  obtain ⟨b1, hb1⟩ : ∃ b1, b1 = b + 1 := ⟨_, rfl⟩
  rw [show b + 2 = b2 from hb2.symm, ← hb1] at H3
  rw [← hb2, ← hb1]
  have HB0 := Lib.hid (show b = w.heap.size ∧ b1 = b + 1 ∧ b2 = b + 2 from ⟨hb, hb1, hb2⟩)
  clear hU hb hb1 hb2
  have c0 : U.cell? ⟨b, 0, none⟩ = some (.int .i64 t) := Th.newcell H3.out.1 0 _ rfl
  have c1 : U.cell? ⟨b, 1, none⟩ = some (.int .i64 s) := Th.newcell H3.out.1 1 _ rfl
  have c2 : U.cell? ⟨b, 2, none⟩ = some (.int .u64 K) := Th.newcell H3.out.1 2 _ rfl
  go_wp2_with fail
  refine (rwords_calls t s K _ t1 t2 s1 s2).mono ?_; rintro _ w1 ⟨vW, rfl, ow, hbw⟩
  obtain ⟨gW, cW, rfl⟩ : ∃ gW cW, vW = .slice (some ⟨gW, 0, none⟩) n cW := by
    rcases ow.2 with ⟨_, h0⟩ | ⟨gW, cW, _, rfl, _⟩
    · omega
    · exact ⟨gW, cW, by rw [HN.out]⟩
  have hlow : Below w.heap.size w w1 := below_on H3.out.2.2.2.1 hbw
  have HLW := Lib.hid hlow
  have HS1 := Lib.hid (show b + 3 ≤ w1.heap.size by have := hbw.size; have := H3.out.2.2.2.2; omega)
  have HC1 := Lib.hid (Th.up hbw H3.out.1)
  have HR1 := Lib.hid (HR.out.below hlow)
  have HG := Lib.hid (show g < b by rw [HB0.out.1]; exact HR.out.lt)
  have hz : ((n : Int) != n) = false := by simp
  have hk0 : ¬ (k : Int) < 0 := by omega
  have hkt : ¬ (t : Int) ≤ (k : Int) := by omega
  have hkt2 : ¬ t ≤ k := by omega
  have d0 : w1.cell? ⟨b, 0, none⟩ = some (.int .i64 t) := Th.newcell HC1.out 0 _ rfl
  have HBX := Lib.hid (show Th.Blk 67 w1 b2 6 (bg6 (fun _ => 0) (fun _ => .slice none 0 0)) from Th.up hbw H3.out.2.2.1)
  have HRES := Lib.hid (show Th.Blk 67 w1 b1 6 (bg6 (fun _ => 0) (fun _ => .slice none 0 0)) from Th.up hbw H3.out.2.1)
  clear ow hbw hlow c0 c1 c2 H3
  go_wp2_with fail
  clear d0 hz hk0 hkt hkt2 hk
  go_loopw [9] (fun iv wr => ∃ c : Nat, c ≤ 3 ∧ iv = .int .i64 c ∧ ∃ v : Nat → Value, Hid (Th.Blk 67 wr b2 6 (bg6 (fun j => if j < c then f (stI k j) else 0) (fun j => if j < c then v j else .slice none 0 0))) ∧ Hid (∀ j, j < c → VR w.heap.size 22 wr (v j) (wds (X j))) ∧ Hid (Th.KS (fun j => j = b2) w1 wr))
    (fun iv _ => 3 - (intOf iv).toNat)
  case atStart => exact ⟨0, by omega, rfl, fun _ => Value.slice none 0 0, Lib.hid (HBX.out.congr fun j _ => by unfold bg6; simp), Lib.hid (fun j hj => absurd hj (Nat.not_lt_zero j)), Lib.hid (Th.KS.of_below (Below.refl _ _))⟩
  case round =>
    obtain ⟨c, hc, rfl, v, HBr, HVr, HKr⟩ := hrel
    rcases (by omega : c < 3 ∨ c = 3) with hlt | he
    · have hci : (c : Int) < 3 := by omega
      have HC := Lib.hid hlt
      have HRr := Lib.hid (show Mm.RowAt wr g (3 + 8 * t + 7 * s) f from HR1.out.keep HKr.out.size (HKr.out.block g HR1.out.lt (by have := HG.out; have := HB0.out; omega)))
      have HCr := Lib.hid ((HKr.out.block b (by have := HS1.out; omega) (by have := HB0.out; omega)).trans HC1.out)
      have x0 : wr.cell? ⟨b2, c * 2, none⟩ = some (.int .u64 0) := by rw [HBr.out.get (by omega), bg6_e, if_neg (Nat.lt_irrefl c)]
      have x1 : wr.cell? ⟨b2, c * 2 + 1, none⟩ = some (.slice none 0 0) := by rw [HBr.out.get (by omega), bg6_o, if_neg (Nat.lt_irrefl c)]
      have xf : ∀ i, wr.frozen? ⟨b2, i, none⟩ = false := HBr.out.fr
      obtain ⟨d1, hd1⟩ : ∃ d1, d1 = stI k c := ⟨_, rfl⟩
      obtain ⟨d2, hd2⟩ : ∃ d2, d2 = bgI k c := ⟨_, rfl⟩
      have y1 : wr.cell? ⟨g, d1, none⟩ = some (.int .u64 (f d1)) := HRr.out.row d1 (by have := HKT.out; rw [hd1]; unfold stI; omega)
      have y2 : wr.cell? ⟨g, d2, none⟩ = some (.int .u64 (f d2)) := HRr.out.row d2 (by have := HKT.out; rw [hd2]; unfold bgI; omega)
      have q1 : 3 + 8 * (k : Int) + 2 + c = (d1 : Int) := by rw [hd1]; unfold stI; omega
      have q2 : 3 + 8 * (k : Int) + 5 + c = (d2 : Int) := by rw [hd2]; unfold bgI; omega
      have q3 : d1 < n ∧ d2 < n := by have := HKT.out; rw [HN.out, hd1, hd2]; unfold stI bgI; omega
      have HD := Lib.hid (And.intro hd1 hd2)
      clear hd1 hd2
      go_upto_region 8 with fail
      clear x0 y1 q1
      generalize hW : World.setCell _ _ _ = W
      obtain ⟨vv, hvv⟩ : ∃ vv : Nat → Value, vv = fun j => if j < c then v j else .slice none 0 0 := ⟨_, rfl⟩
      obtain ⟨st, hst⟩ : ∃ st : Nat → Int, st = fun j => if j < c + 1 then f (stI k j) else 0 := ⟨_, rfl⟩
      have hksW : Th.KS (fun j => j = b2) wr W := by rw [← hW]; exact Th.KS.set wr b2 (c * 2) _
      have hblW : Th.Blk 67 W b2 6 (bg6 st vv) := by
        have h9 := HBr.out.set (c * 2) (.int .u64 (f d1))
        rw [bg6_se, ← hvv, hW] at h9
        have e9 : (fun j => if j = c then f d1 else (fun j => if j < c then f (stI k j) else 0) j) = st := by
          rw [hst]; funext j
          show (if j = c then f d1 else if j < c then f (stI k j) else 0) = if j < c + 1 then f (stI k j) else 0
          by_cases e : j = c
          · subst e; rw [if_pos rfl, if_pos (by omega), HD.out.1]
          · rw [if_neg e]
            by_cases e2 : j < c
            · rw [if_pos e2, if_pos (by omega)]
            · rw [if_neg e2, if_neg (by omega)]
        rw [e9] at h9; exact h9
      have HKW := Lib.hid hksW; have HBW := Lib.hid hblW
      have HVC := Lib.hid (show vv c = .slice none 0 0 by rw [hvv]; exact if_neg (Nat.lt_irrefl c))
      have HVV := Lib.hid hvv; have HST := Lib.hid hst
      have hk2 := hksW.size
      have HRW := Lib.hid (show Mm.RowAt W g (3 + 8 * t + 7 * s) f from HRr.out.keep hk2 (hksW.block g HRr.out.lt (by have := HG.out; have := HB0.out; omega)))
      have y2 : W.cell? ⟨g, d2, none⟩ = some (.int .u64 (f d2)) := HRW.out.row d2 (by have := HN.out; omega)
      clear hW hvv hst hksW hblW hk2 x1 xf
      go_wp2_with fail
      clear y2 q2 q3 hci
      go_loopw [10] (fun ev wi => ∃ (D R : List Int) (x : Int) (u : Value), ev = .int .u64 x ∧ Hid (X c = D ++ R) ∧ Hid (Ch t f x R) ∧ Hid (wi.ownsRow W.heap.size 22 1 u D.length (wds D)) ∧ Hid (Th.Blk 67 wi b2 6 (bg6 st (fun j => if j = c then u else vv j))) ∧ Hid (Th.KS (fun j => j = b2) W wi))
        (fun _ wi => (X c).length - lenOf ((wi.cell? ⟨b2, c * 2 + 1, none⟩).getD .nilFunc))
      case atStart =>
        refine ⟨[], X c, f d2, .slice none 0 0, rfl, Lib.hid rfl, Lib.hid (by rw [HD.out.2]; exact HX.out c HC.out), Lib.hid (own_nil _ _), Lib.hid (HBW.out.congr fun j _ => ?_), Lib.hid (Th.KS.of_below (Below.refl _ _))⟩
        congr 1
        funext j
        by_cases e : j = c
        · rw [if_pos e, e]; exact HVC.out
        · rw [if_neg e]
      case round =>
        obtain ⟨D, R, x, u, rfl, HDR, HCh, HOu, HBi, HKi⟩ := hrel
        obtain ⟨up, uc, hu, _, _⟩ := own_slice HOu.out
        subst hu
        have hss := HKi.out.size
        have hWs : b + 3 ≤ W.heap.size := by have := HKW.out.size; have := HKr.out.size; have := HS1.out; omega
        have HRi := Lib.hid (show Mm.RowAt wr g (3 + 8 * t + 7 * s) f from HRW.out.keep hss (HKi.out.block g (by have := HG.out; have := hWs; omega) (by have := HG.out; have := HB0.out; omega)))
        have HCi := Lib.hid ((HKi.out.block b (by omega) (by have := HB0.out; omega)).trans ((HKW.out.block b (by have := HKr.out.size; have := HS1.out; omega) (by have := HB0.out; omega)).trans HCr.out))
        have HSS := Lib.hid (And.intro hss hWs)
        have HBX1 := Lib.hid (show wr.cell? ⟨b2, c * 2 + 1, none⟩ = some (.slice up D.length uc) by rw [HBi.out.get (by have := HC.out; omega), bg6_o, if_pos rfl])
        clear hss hWs
        cases R with
        | nil =>
          have hx0 : x = 0 := HCh.out
          subst hx0
          have HDX := Lib.hid (show D = X c by have := HDR.out; rw [this, List.append_nil])
          go_wp2_with fail
          go_roundw
          case rel =>
            refine ⟨c + 1, by have := HC.out; omega, by go_num, fun j => if j = c then .slice up D.length uc else vv j, Lib.hid (HBi.out.congr fun j _ => ?_), Lib.hid fun j hj => ?_, Lib.hid ((HKr.out.trans HKW.out).trans HKi.out)⟩
            · rw [HST.out]
              congr 1
              funext i
              show (if i = c then Value.slice up D.length uc else vv i) = if i < c + 1 then (if i = c then Value.slice up D.length uc else vv i) else Value.slice none 0 0
              by_cases e : i < c + 1
              · rw [if_pos e]
              · rw [if_neg e, if_neg (by omega), HVV.out]; exact if_neg (by omega)
            · show VR w.heap.size _ wr (if j = c then Value.slice up D.length uc else vv j) _
              by_cases e : j = c
              · subst e
                rw [if_pos rfl]
                have h9 := (own_VR HOu.out (by rw [wds_len])).mono (show w.heap.size ≤ W.heap.size by have := HSS.out.2; have := HB0.out; omega)
                rw [HDX.out] at h9 ⊢; exact h9
              · rw [if_neg e, HVV.out]
                show VR w.heap.size _ wr (if j < c then v j else _) _
                rw [if_pos (by omega)]
                refine (HVr.out j (by omega)).of fun i cur _ hi => ?_
                have hne : i ≠ b2 := fun e9 => by
                  subst e9
                  have := HBr.out
                  unfold Th.Blk at this
                  rw [hi] at this
                  simp at this
                exact ((HKW.out.trans HKi.out).block i (Th.blk_lt hi) hne)
          case measure => simp [intOf]; have := HC.out; omega
        | cons e r =>
          obtain ⟨hxe, hcr⟩ := HCh.out
          subst hxe
          obtain ⟨⟨e0, e1⟩, a1, a2, hem⟩ := HE.out c HC.out x (by rw [HDR.out]; exact List.mem_append.2 (.inr List.mem_cons_self))
          obtain ⟨a, ha⟩ : ∃ a, a = sl x := ⟨_, rfl⟩
          rw [← ha] at a1 a2 hem hcr
          have HCR := Lib.hid hcr
          have hne0 : (x != 0) = true := by simp; omega
          have c0 : wr.cell? ⟨b, 0, none⟩ = some (.int .i64 t) := Th.newcell HCi.out 0 _ rfl
          have c1 : wr.cell? ⟨b, 1, none⟩ = some (.int .i64 s) := Th.newcell HCi.out 1 _ rfl
          have c2 : wr.cell? ⟨b, 2, none⟩ = some (.int .u64 K) := Th.newcell HCi.out 2 _ rfl
          clear ha hcr
          go_upto_region 11 with fail
          refine (ratS t s K a 0 wr t2 s2).mono ?_; rintro _ w3 ⟨rfl, hb3⟩
          have HNX : Hid (nodeI (t : Int) s a 0 = ((nd t a 0 : Nat) : Int)) := Lib.hid (by have := nd_node (t := t) a1 a2 (show 0 < 7 by omega); simpa using this)
          have HNL := Lib.hid (nd_lt (t := t) a1 a2 (show 0 < 7 by omega))
          rw [HNX.out]
          obtain ⟨d, hd⟩ : ∃ d, d = nd t a 0 := ⟨_, rfl⟩
          have HDD := Lib.hid hd
          rw [← hd]
          have hdn : d < n := by rw [HN.out, hd]; exact HNL.out
          have HB3 := Lib.hid hb3
          have HO3 := Lib.hid (own_below HOu.out hb3)
          have HR3 := Lib.hid (HRi.out.below hb3)
          have HC3 := Lib.hid (Th.up hb3 HCi.out)
          have HBk3 := Lib.hid (HBi.out.below hb3)
          have s1' : w3.cell? ⟨b, 1, none⟩ = some (.int .i64 s) := Th.newcell HC3.out 1 _ rfl
          have x1 : w3.cell? ⟨b2, c * 2 + 1, none⟩ = some (.slice up D.length uc) := by rw [HBk3.out.get (by have := HC.out; omega), bg6_o, if_pos rfl]
          have xf : ∀ i, w3.frozen? ⟨b2, i, none⟩ = false := HBk3.out.fr
          have HDL := Lib.hid (show D.length + 1 ≤ (X c).length ∧ (X c).length ≤ s by have := HNN.out c HC.out; have := congrArg List.length HDR.out; simp at this; omega)
          have hls : ¬ (s : Int) < (D.length : Int) := by have := HDL.out; omega
          have hci : (c : Int) < 3 := by have := HC.out; omega
          have hx2 : 0 ≤ x ∧ x < 18446744073709551616 := by omega
          clear hd hb3 c0 c1 c2 hne0
          go_upto_region 11 with fail
          go_quiet (fail)
          clear s1' x1 xf
          obtain ⟨w4, hw4⟩ : ∃ w4, w4 = w3.drewN nq := ⟨_, rfl⟩
          have HB4 := Lib.hid (show Below w3.heap.size w3 w4 by rw [hw4]; exact below_drewN (Below.refl _ _) nq)
          rw [← hw4]
          clear hw4
          have hls2 : ¬ s < D.length := by have := HDL.out; omega
          go_upto_region 13 with fail
          clear hls hls2
          have HO4 := Lib.hid (own_below HO3.out HB4.out)
          have HR4 := Lib.hid (HR3.out.below HB4.out)
          have HBk4 := Lib.hid (HBk3.out.below HB4.out)
          have x1 : w4.cell? ⟨b2, c * 2 + 1, none⟩ = some (.slice up D.length uc) := by rw [HBk4.out.get (by have := HC.out; omega), bg6_o, if_pos rfl]
          have hDs : D.length ≤ 250 := by have := HDL.out; omega
          have HS4 := Lib.hid (show W.heap.size ≤ w4.heap.size by have := HSS.out; have := HB3.out.size; have := HB4.out.size; omega)
          go_wp2_with (at_builtin; refine wpList_append_v uSU infU rfl rfl (.tmp 78) (.tmp 80) rfl W.heap.size w4.heap.size _ _ (wds D) [.int .u64 x] rfl (by rw [wds_len]; exact own_below HO4.out ((Below.refl _ _).alloc (Nat.le_refl _) _)) rfl (one_VR _ rfl) (by simp [Value.oneCell']) (by rw [wds_len]; simp; omega) (by have := HS4.out; simp; omega) ?_)
          intro v2 w2 hown hgrow
          have hb : Below W.heap.size w4 w2 := by
            have h5 := own_below HO4.out ((Below.refl w4.heap.size w4).alloc (Nat.le_refl _) (.cells #[.int .u64 x] 22))
            exact ((Below.refl W.heap.size w4).alloc HS4.out _).grown hgrow (by have := HS4.out; simp; omega) (own_ge h5)
          have hown : w2.ownsRow W.heap.size 22 1 v2 (D.length + 1) (wds (D ++ [x])) := by
            rw [wds_app]
            have h9 := hown
            rw [wds_len] at h9
            exact h9
          have hDl : (D ++ [x]).length = D.length + 1 := by simp
          have HDl := Lib.hid hDl
          clear hDl
          have HKW4 := Lib.hid (show Th.KS (fun j => j = b2) W w4 from (HKi.out.trans (Th.KS.of_below HB3.out)).trans (Th.KS.of_below HB4.out))
          have HKW2 := Lib.hid (show Th.KS (fun j => j = b2) W w2 from ⟨hb.os.trans HKW4.out.os, hb.tape.trans HKW4.out.tape, hb.output.trans HKW4.out.output, Nat.le_trans HKW4.out.size hb.size, fun j hj hx => (hb.block j hj).trans (HKW4.out.block j hj hx)⟩)
          have HOW := Lib.hid hown
          have hbk2 : Th.Blk 67 w2 b2 6 (bg6 st (fun j => if j = c then .slice up D.length uc else vv j)) := HBk4.out.of (hb.block b2 (by have := HSS.out.2; have := HB0.out; omega))
          have HBk2 := Lib.hid hbk2
          obtain ⟨p2, k2, rfl, _, _⟩ := own_slice hown
          clear x1
          have x1 : w2.cell? ⟨b2, c * 2 + 1, none⟩ = some (.slice up D.length uc) := by rw [HBk2.out.get (by have := HC.out; omega), bg6_o, if_pos rfl]
          have xf : ∀ i, w2.frozen? ⟨b2, i, none⟩ = false := HBk2.out.fr
          clear hown hgrow hb hbk2
          go_upto_region 14 with fail
          clear x1 xf
          generalize hZ : World.setCell _ _ _ = Z
          have hksZ : Th.KS (fun j => j = b2) w2 Z := by rw [← hZ]; exact Th.KS.set w2 b2 (c * 2 + 1) _
          have HBZ := Lib.hid (show Th.Blk 67 Z b2 6 (bg6 st (fun j => if j = c then .slice p2 (D.length + 1) k2 else vv j)) by
            have h9 := HBk2.out.set (c * 2 + 1) (.slice p2 (D.length + 1) k2)
            rw [bg6_so, hZ] at h9
            refine h9.congr fun j _ => ?_
            congr 1
            funext i
            show (if i = c then Value.slice p2 (D.length + 1) k2 else if i = c then Value.slice up D.length uc else vv i) = _
            by_cases e : i = c
            · rw [if_pos e, if_pos e]
            · rw [if_neg e, if_neg e, if_neg e])
          have HKZ := Lib.hid (HKW2.out.trans hksZ)
          have HOZ := Lib.hid (show Z.ownsRow W.heap.size 22 1 (.slice p2 (D.length + 1) k2) (D.length + 1) (wds (D ++ [x])) from own_kept HOW.out fun i hi => by
            obtain ⟨cur, hcur⟩ := own_ty HOW.out hi
            refine hksZ.block i (Th.blk_lt hcur) fun e9 => ?_
            subst e9
            have := HBk2.out
            unfold Th.Blk at this
            rw [hcur] at this
            simp at this)
          have HRZ := Lib.hid (show Mm.RowAt Z g (3 + 8 * t + 7 * s) f from HRW.out.keep HKZ.out.size (HKZ.out.block g HRW.out.lt (by have := HG.out; have := HB0.out; omega)))
          clear hZ hksZ
          have y5 : Z.cell? ⟨g, d, none⟩ = some (.int .u64 (f d)) := HRZ.out.row d (by rw [← HN.out]; exact hdn)
          go_wp2_with fail
          go_roundw
          case rel => exact ⟨D ++ [x], r, f d, .slice p2 (D.length + 1) k2, rfl, Lib.hid (by rw [HDR.out, List.append_assoc]; rfl), Lib.hid (by rw [HDD.out]; exact HCR.out), Lib.hid (by rw [HDl.out]; exact HOZ.out), HBZ, HKZ⟩
          case measure =>
            rw [HBX1.out, HBZ.out.get (by have := HC.out; omega), bg6_o, if_pos rfl]
            simp [lenOf]
            have := HDL.out; omega
    · have HE3 := Lib.hid he
      subst he
      have HW1 := Lib.hid (show Th.Blk 67 wr b1 6 (bg6 (fun _ => 0) (fun _ => .slice none 0 0)) from HRES.out.of (HKr.out.block b1 (Th.blk_lt HRES.out) (by have := HB0.out; omega)))
      have z0 : wr.cell? ⟨b2, 0, none⟩ = some (.int .u64 (f (stI k 0))) := HBr.out.get (i := 0) (by omega)
      have z1 : wr.cell? ⟨b2, 1, none⟩ = some (v 0) := HBr.out.get (i := 1) (by omega)
      have z2 : wr.cell? ⟨b2, 2, none⟩ = some (.int .u64 (f (stI k 1))) := HBr.out.get (i := 2) (by omega)
      have z3 : wr.cell? ⟨b2, 3, none⟩ = some (v 1) := HBr.out.get (i := 3) (by omega)
      have z4 : wr.cell? ⟨b2, 4, none⟩ = some (.int .u64 (f (stI k 2))) := HBr.out.get (i := 4) (by omega)
      have z5 : wr.cell? ⟨b2, 5, none⟩ = some (v 2) := HBr.out.get (i := 5) (by omega)
      have o0 : wr.cell? ⟨b1, 0, none⟩ = some (.int .u64 0) := HW1.out.get (i := 0) (by omega)
      have o1 : wr.cell? ⟨b1, 1, none⟩ = some (.slice none 0 0) := HW1.out.get (i := 1) (by omega)
      have o2 : wr.cell? ⟨b1, 2, none⟩ = some (.int .u64 0) := HW1.out.get (i := 2) (by omega)
      have o3 : wr.cell? ⟨b1, 3, none⟩ = some (.slice none 0 0) := HW1.out.get (i := 3) (by omega)
      have o4 : wr.cell? ⟨b1, 4, none⟩ = some (.int .u64 0) := HW1.out.get (i := 4) (by omega)
      have o5 : wr.cell? ⟨b1, 5, none⟩ = some (.slice none 0 0) := HW1.out.get (i := 5) (by omega)
      have of : ∀ i, wr.frozen? ⟨b1, i, none⟩ = false := HW1.out.fr
      obtain ⟨p0, k0, hv0, _, _, _⟩ := (HVr.out 0 (by omega)).parts
      obtain ⟨p1, k1, hv1, _, _, _⟩ := (HVr.out 1 (by omega)).parts
      obtain ⟨p2, k2, hv2, _, _, _⟩ := (HVr.out 2 (by omega)).parts
      rw [hv0] at z1
      rw [hv1] at z3
      rw [hv2] at z5
      have HV := Lib.hid (And.intro hv0 (And.intro hv1 hv2))
      clear hv0 hv1 hv2
      go_wp2_with fail
      generalize hZ : World.setCell _ _ _ = Z
      have hbz : Th.Blk 67 Z b1 6 (Th.upF (Th.upF (Th.upF (Th.upF (Th.upF (Th.upF (bg6 (fun _ => 0) (fun _ => .slice none 0 0)) 0 (.int .u64 (f (stI k 0)))) 1 (.slice p0 (wds (X 0)).length k0)) 2 (.int .u64 (f (stI k 1)))) 3 (.slice p1 (wds (X 1)).length k1)) 4 (.int .u64 (f (stI k 2)))) 5 (.slice p2 (wds (X 2)).length k2)) := by
        rw [← hZ]
        exact (((((HW1.out.set 0 _).set 1 _).set 2 _).set 3 _).set 4 _).set 5 _
      have hkz : Th.KS (fun j => j = b1) wr Z := by
        rw [← hZ]
        exact (((((Th.KS.set wr b1 0 _).trans (Th.KS.set _ b1 1 _)).trans (Th.KS.set _ b1 2 _)).trans (Th.KS.set _ b1 3 _)).trans (Th.KS.set _ b1 4 _)).trans (Th.KS.set _ b1 5 _)
      clear hZ z0 z1 z2 z3 z4 z5 o0 o1 o2 o3 o4 o5 of
      have y0 : Z.cell? ⟨b1, 0, none⟩ = some (.int .u64 (f (stI k 0))) := hbz.get (i := 0) (by omega)
      have y1 : Z.cell? ⟨b1, 1, none⟩ = some (.slice p0 (wds (X 0)).length k0) := hbz.get (i := 1) (by omega)
      have y2 : Z.cell? ⟨b1, 2, none⟩ = some (.int .u64 (f (stI k 1))) := hbz.get (i := 2) (by omega)
      have y3 : Z.cell? ⟨b1, 3, none⟩ = some (.slice p1 (wds (X 1)).length k1) := hbz.get (i := 3) (by omega)
      have y4 : Z.cell? ⟨b1, 4, none⟩ = some (.int .u64 (f (stI k 2))) := hbz.get (i := 4) (by omega)
      have y5 : Z.cell? ⟨b1, 5, none⟩ = some (.slice p2 (wds (X 2)).length k2) := hbz.get (i := 5) (by omega)
      refine bodyPost_ret (v := .tuple #[.agg #[.int .u64 (f (stI k 0)), .slice p0 (wds (X 0)).length k0, .int .u64 (f (stI k 1)), .slice p1 (wds (X 1)).length k1, .int .u64 (f (stI k 2)), .slice p2 (wds (X 2)).length k2], .bool true]) (by simp [results, Try.results43, go_sem, y0, y1, y2, y3, y4, y5]) rfl ?_
      rw [HQ.out]
      refine ⟨v, by rw [HV.out.1, HV.out.2.1, HV.out.2.2], fun c hc => ?_, ?_⟩
      · refine (HVr.out c hc).of fun i cur _ hi => hkz.block i (Th.blk_lt hi) fun e9 => ?_
        subst e9
        have := HW1.out
        unfold Th.Blk at this
        rw [hi] at this
        simp at this
      · have h1 := HLW.out
        have h2 := HKr.out
        have h3 := HB0.out
        have hsz : w.heap.size ≤ w1.heap.size := h1.size
        exact ⟨hkz.os.trans (h2.os.trans h1.os), hkz.tape.trans (h2.tape.trans h1.tape), hkz.output.trans (h2.output.trans h1.output), Nat.le_trans h1.size (Nat.le_trans h2.size hkz.size), fun j hj => (hkz.block j (Nat.lt_of_lt_of_le hj (Nat.le_trans hsz h2.size)) (by omega)).trans ((h2.block j (Nat.lt_of_lt_of_le hj hsz) (by omega)).trans (h1.block j hj))⟩
end Go.Proofs.Ytaaciolfgplnoaa.Lb

/- Layer 19: at rest what is held is what was there at first, what is in hands, and what stands in bags (no program in it). -/
namespace Go.Proofs.Ytaaciolfgplnoaa.Lb
open Go.RowKit WordM EdgeM Sl
set_option linter.unusedVariables false
set_option linter.unusedSimpArgs false
theorem cnt_not (H : Nat → Bool) : ∀ s, Gd.cntB H s + Gd.cntB (fun i => !H i) s = s
  | 0 => rfl
  | s + 1 => by
    have h := cnt_not H s
    rw [Gd.cntB, Gd.cntB]
    cases H s <;> simp <;> omega
theorem cnt_held (H : Nat → Bool) (s : Nat) (L : List Nat) (h0 : L.Nodup) (h1 : ∀ a ∈ L, 1 ≤ a ∧ a ≤ s) (h2 : ∀ a, 1 ≤ a → a ≤ s → (H (a - 1) = true ↔ a ∈ L)) : Gd.cntB H s = L.length := by
  have h3 := cnt_free (fun i => !H i) s L h0 h1 (fun a a1 a2 => by rw [← h2 a a1 a2]; simp)
  have h4 := cnt_not H s
  omega
def sumT (f : Nat → Nat) : Nat → Nat
  | 0 => 0
  | t + 1 => sumT f t + f t
def ownL (g : Gh) (k : Nat) : List Nat := (g.X (10 * k + 2)).map sl ++ ((g.X (10 * k + 4)).map sl ++ ((g.X (10 * k + 5)).map sl ++ (g.X (10 * k + 6)).map sl))
def allL (g : Gh) : Nat → List Nat
  | 0 => [1, 2, 3, 4, 5]
  | t + 1 => allL g t ++ ownL g t
def hold (g : Gh) (k : Nat) : Nat := (g.X (10 * k + 2)).length + bn g k
theorem allL_len (g : Gh) : ∀ t, (allL g t).length = 5 + sumT (hold g) t
  | 0 => rfl
  | t + 1 => by
    rw [allL, List.length_append, allL_len g t, sumT]
    unfold ownL hold bn
    simp
    omega
section
variable {P : Pc} {σ : Sg} {g : Gh} {n k : Nat}
theorem own_mem (h : XS P σ g n) (hk : k < P.t) (hz : (σ.Ts k).nf = 0) (a : Nat) : a ∈ ownL g k ↔ (1 ≤ a ∧ a ≤ P.s ∧ ofK k (g.O a)) := by
  have hx : ∀ v, ofK k v → ∀ b ∈ (g.X v).map sl, 1 ≤ b ∧ b ≤ P.s ∧ g.O b = v := fun v hv b hb => by
    obtain ⟨x, hx, rfl⟩ := List.mem_map.1 hb
    have := (h.xe k hk v hv x hx).slot
    exact ⟨this.1, this.2.1, this.2.2.1⟩
  constructor
  · intro ha
    unfold ownL at ha
    have hv : ∃ v, ofK k v ∧ a ∈ (g.X v).map sl := by
      rcases List.mem_append.1 ha with ha | ha
      · exact ⟨_, ofK_2 k, ha⟩
      · rcases List.mem_append.1 ha with ha | ha
        · exact ⟨_, ofK_b (c := 0) (by omega), ha⟩
        · rcases List.mem_append.1 ha with ha | ha
          · exact ⟨_, ofK_b (c := 1) (by omega), ha⟩
          · exact ⟨_, ofK_b (c := 2) (by omega), ha⟩
    obtain ⟨v, hv, ha⟩ := hv
    obtain ⟨q1, q2, q3⟩ := hx v hv a ha
    exact ⟨q1, q2, by rw [q3]; exact hv⟩
  · rintro ⟨a1, a2, ho⟩
    have h3 := h.no30 hz a a1 a2
    obtain ⟨x, hx', hxa⟩ := h.xc a a1 a2 k hk ho h3
    have h7 := h.seven hk hz
    have hm : ∀ v, g.O a = v → a ∈ (g.X v).map sl := fun v hv => List.mem_map.2 ⟨x, by rw [← hv]; exact hx', sl_of hxa⟩
    unfold ofK at ho
    unfold ownL
    have : g.O a = 10 * k + 2 ∨ g.O a = 10 * k + 4 ∨ g.O a = 10 * k + 5 ∨ g.O a = 10 * k + 6 ∨ g.O a = 10 * k + 7 := by omega
    rcases this with e | e | e | e | e
    · exact List.mem_append.2 (.inl (hm _ e))
    · exact List.mem_append.2 (.inr (List.mem_append.2 (.inl (hm _ e))))
    · exact List.mem_append.2 (.inr (List.mem_append.2 (.inr (List.mem_append.2 (.inl (hm _ e))))))
    · exact List.mem_append.2 (.inr (List.mem_append.2 (.inr (List.mem_append.2 (.inr (hm _ e))))))
    · rw [e, h7] at hx'; exact absurd hx' List.not_mem_nil
theorem own_nodup (h : XS P σ g n) (hk : k < P.t) : (ownL g k).Nodup := by
  have hx : ∀ v, ofK k v → ∀ b ∈ (g.X v).map sl, g.O b = v := fun v hv b hb => by
    obtain ⟨x, hx, rfl⟩ := List.mem_map.1 hb
    exact (h.xe k hk v hv x hx).slot.2.2.1
  have o2 := hx _ (ofK_2 k)
  have o4 := hx _ (ofK_b (c := 0) (by omega)); have o5 := hx _ (ofK_b (c := 1) (by omega)); have o6 := hx _ (ofK_b (c := 2) (by omega))
  have u2 := h.xu k hk _ (ofK_2 k)
  have u4 := h.xu k hk _ (ofK_b (c := 0) (by omega)); have u5 := h.xu k hk _ (ofK_b (c := 1) (by omega)); have u6 := h.xu k hk _ (ofK_b (c := 2) (by omega))
  simp only [Nat.add_zero] at o4 u4
  rw [show 10 * k + 4 + 1 = 10 * k + 5 from rfl] at o5 u5
  rw [show 10 * k + 4 + 2 = 10 * k + 6 from rfl] at o6 u6
  unfold ownL
  refine List.nodup_append.2 ⟨u2, List.nodup_append.2 ⟨u4, List.nodup_append.2 ⟨u5, u6, fun a ha b hb e9 => ?_⟩, fun a ha b hb e9 => ?_⟩, fun a ha b hb e9 => ?_⟩
  · have q := o5 a ha; have r := o6 b hb; rw [← e9] at r; omega
  · have q := o4 a ha
    rcases List.mem_append.1 hb with hb | hb
    · have r := o5 b hb; rw [← e9] at r; omega
    · have r := o6 b hb; rw [← e9] at r; omega
  · have q := o2 a ha
    rcases List.mem_append.1 hb with hb | hb
    · have r := o4 b hb; rw [← e9] at r; omega
    · rcases List.mem_append.1 hb with hb | hb
      · have r := o5 b hb; rw [← e9] at r; omega
      · have r := o6 b hb; rw [← e9] at r; omega
theorem all_mem (h : XS P σ g n) (s5 : 5 ≤ P.s) (hz : ∀ j, j < P.t → (σ.Ts j).nf = 0) (a : Nat) : ∀ t, t ≤ P.t → (a ∈ allL g t ↔ (1 ≤ a ∧ a ≤ P.s ∧ (g.O a = 1 ∨ ∃ j, j < t ∧ ofK j (g.O a))))
  | 0, _ => by
    unfold allL
    constructor
    · intro ha
      have ha' : a = 1 ∨ a = 2 ∨ a = 3 ∨ a = 4 ∨ a = 5 := by simpa using ha
      have a1 : 1 ≤ a := by omega
      have a2 : a ≤ P.s := by omega
      exact ⟨a1, a2, .inl ((h.one a a1 a2).2 (by omega))⟩
    · rintro ⟨a1, a2, h9 | ⟨j, hj, _⟩⟩
      · have := (h.one a a1 a2).1 h9
        simp; omega
      · omega
  | t + 1, ht => by
    rw [allL, List.mem_append, all_mem h s5 hz a t (by omega), own_mem h (by omega) (hz t (by omega))]
    constructor
    · rintro (⟨q1, q2, q3 | ⟨j, hj, q3⟩⟩ | ⟨q1, q2, q3⟩)
      · exact ⟨q1, q2, .inl q3⟩
      · exact ⟨q1, q2, .inr ⟨j, by omega, q3⟩⟩
      · exact ⟨q1, q2, .inr ⟨t, by omega, q3⟩⟩
    · rintro ⟨q1, q2, q3 | ⟨j, hj, q3⟩⟩
      · exact .inl ⟨q1, q2, .inl q3⟩
      · rcases (by omega : j < t ∨ j = t) with e | e
        · exact .inl ⟨q1, q2, .inr ⟨j, e, q3⟩⟩
        · subst e; exact .inr ⟨q1, q2, q3⟩
theorem all_nodup (h : XS P σ g n) (s5 : 5 ≤ P.s) (hz : ∀ j, j < P.t → (σ.Ts j).nf = 0) : ∀ t, t ≤ P.t → (allL g t).Nodup
  | 0, _ => by unfold allL; decide
  | t + 1, ht => by
    rw [allL]
    refine List.nodup_append.2 ⟨all_nodup h s5 hz t (by omega), own_nodup h (by omega), fun a ha b hb e9 => ?_⟩
    subst e9
    have q := (all_mem h s5 hz a t (by omega)).1 ha
    have r := (own_mem h (by omega) (hz t (by omega)) a).1 hb
    rcases q.2.2 with e | ⟨j, hj, e⟩
    · exact (ofK_pos r.2.2).2 e
    · have := ofK_inj e r.2.2; omega
/-- At rest: what is held. -/
theorem held_rest (h : XS P σ g n) (s5 : 5 ≤ P.s) (hz : ∀ j, j < P.t → (σ.Ts j).nf = 0) : Gd.cntB σ.H P.s = 5 + sumT (hold g) P.t := by
  rw [← allL_len]
  refine cnt_held σ.H P.s _ (all_nodup h s5 hz P.t (Nat.le_refl _)) (fun a ha => ?_) fun a a1 a2 => ?_
  · have := (all_mem h s5 hz a P.t (Nat.le_refl _)).1 ha
    exact ⟨this.1, this.2.1⟩
  · rw [all_mem h s5 hz a P.t (Nat.le_refl _)]
    have hh := h.hh a a1 a2
    have hfree : σ.H (a - 1) = false ↔ g.O a = 0 := by
      rw [hh]
      constructor
      · rintro (e | ⟨j, hj, _, m, m1, _⟩)
        · exact e
        · have := hz j hj; omega
      · exact .inl
    constructor
    · intro hH
      refine ⟨a1, a2, ?_⟩
      rcases h.xt a a1 a2 with e | e | e
      · rw [hfree.2 e] at hH; cases hH
      · exact .inl e
      · exact .inr e
    · rintro ⟨_, _, e⟩
      cases hH : σ.H (a - 1) with
      | true => rfl
      | false =>
        have h0 := hfree.1 hH
        rcases e with e | ⟨j, _, e⟩
        · omega
        · exact absurd h0 (ofK_pos e).1
/-- Each slot is held or free, at rest. -/
theorem XS.rest (h : XS P σ g n) (hz : ∀ j, j < P.t → (σ.Ts j).nf = 0) : Gd.cntB σ.H P.s + g.L.length = P.s := by
  refine cnt_free σ.H P.s g.L h.un (fun a ha => h.mem ha) fun a a1 a2 => ?_
  rw [h.hh a a1 a2, h.ol a a1 a2]
  constructor
  · rintro (e | ⟨j, hj, _, m, m1, _⟩)
    · exact e
    · have := hz j hj; omega
  · exact .inl
end
end Go.Proofs.Ytaaciolfgplnoaa.Lb

/- Layer 19: the law's bags, and how many nodes they have. -/
namespace Go.Proofs.Ytaaciolfgplnoaa.Lb
open Go.RowKit WordM EdgeM Sl
set_option linter.unusedVariables false
set_option linter.unusedSimpArgs false
theorem XS.blen {P : Pc} {σ : Sg} {g : Gh} {n k : Nat} (h : XS P σ g n) (hk : k < P.t) {c : Nat} (hc : c < 3) : (g.X (10 * k + 4 + c)).length ≤ P.s := by
  have h1 := sl_len h hk
  unfold bn at h1
  rcases (by omega : c = 0 ∨ c = 1 ∨ c = 2) with e | e | e
  · subst e; simp only [Nat.add_zero]; omega
  · subst e; rw [show 10 * k + 4 + 1 = 10 * k + 5 from rfl]; omega
  · subst e; rw [show 10 * k + 4 + 2 = 10 * k + 6 from rfl]; omega
set_option maxRecDepth 8000 in
set_option maxHeartbeats 2000000 in
theorem lbagsX {w : World} {P : Pc} {σ : Sg} {k : Nat} (h : MM w P σ) (hk : k < P.t) (X : Nat → List Int) (hX : ∀ c, c < 3 → Ch P.t σ.f (σ.f (bgI k c)) (X c)) (hE : ∀ c, c < 3 → ∀ e ∈ X c, (0 < e ∧ e < 4611686018427387904) ∧ 1 ≤ sl e ∧ sl e ≤ P.s ∧ e % 4096 = sl e) (hn : ∀ c, c < 3 → (X c).length ≤ P.s) :
    Calls Try.prog 19 #[.pointer (some ⟨P.q, 0, none⟩), .int .i64 k] w fun e w' => ∃ v : Nat → Value, e = .returned (.tuple #[.agg #[.int .u64 (σ.f (stI k 0)), v 0, .int .u64 (σ.f (stI k 1)), v 1, .int .u64 (σ.f (stI k 2)), v 2], .bool true]) ∧ (∀ c, c < 3 → VR w.heap.size 22 w' (v c) (wds (X c))) ∧ Below w.heap.size w w' := by
  refine Calls.veil fun Q HQ => ?_
  have HH := Lib.hid h; have HX := Lib.hid hX; have HE := Lib.hid hE; have HN := Lib.hid hn; have HK := Lib.hid hk
  obtain ⟨⟨t1, t2⟩, s1, s2⟩ := h.bd
  clear h hX hE hn hk
  go_enter Try.func19, Try.ntmps19
  go_upto_region 1 with fail
  generalize hU : World.alloc _ _ = U
  obtain ⟨u0, hbu⟩ := Th.heapnewE hU
  obtain ⟨b, hb⟩ : ∃ b, b = w.heap.size := ⟨_, rfl⟩
  rw [← hb] at u0 ⊢
  have HU := Lib.hid u0; have HBU := Lib.hid hbu; have HB := Lib.hid hb
  have HHU := Lib.hid (HH.out.below hbu)
  clear hU u0 hbu hb HH
  go_wp2_with fail
  refine (cPlan HHU.out.c).mono ?_; rintro _ _ ⟨rfl, rfl⟩
  go_wp2_with fail
  refine (pconf_calls P.t P.s P.K P.pl U HHU.out.c.p0 HHU.out.c.p1 (Th.newcell HHU.out.c.pln 2 _ rfl)).mono ?_; rintro _ w1 ⟨rfl, hb1⟩
  have HB1 := Lib.hid hb1
  clear hb1
  go_wp2_with fail
  refine (cMem (HHU.out.c.below HB1.out)).mono ?_; rintro _ _ ⟨rfl, rfl⟩
  go_wp2_with fail
  refine (Mm.mwordsT _ _ _ _ _ _ _ w1 (HHU.out.c.below HB1.out).mem).mono ?_; rintro _ w2 ⟨g', C', rfl, e1, e2, e3, ⟨e4, _⟩, hb2⟩
  have HB2 := Lib.hid (below_on HB1.out hb2); have HE4 := Lib.hid e4
  clear e4 hb2
  go_wp2_with fail
  refine (rread (K := P.K) (X := X) HE4.out t1 t2 s1 s2 HK.out HX.out HE.out HN.out).mono ?_
  rintro _ w3 ⟨v, rfl, hv, hb3⟩
  obtain ⟨p0, k0, hv0, _, _, _⟩ := (hv 0 (by omega)).parts
  obtain ⟨p1, k1, hv1, _, _, _⟩ := (hv 1 (by omega)).parts
  obtain ⟨p2, k2, hv2, _, _, _⟩ := (hv 2 (by omega)).parts
  have HV := Lib.hid hv; have HB3 := Lib.hid (below_on HB2.out hb3)
  have HVE := Lib.hid (And.intro hv0 (And.intro hv1 hv2))
  have HSZ := Lib.hid (show w.heap.size ≤ w2.heap.size from Nat.le_trans HBU.out.size HB2.out.size)
  rw [hv0, hv1, hv2]
  clear hv hb3 hv0 hv1 hv2
  have HW := Lib.hid (Th.up HB3.out HU.out)
  have o0 : w3.cell? ⟨b, 0, none⟩ = some (.int .u64 0) := Th.newcell HW.out 0 _ rfl
  have o1 : w3.cell? ⟨b, 1, none⟩ = some (.slice none 0 0) := Th.newcell HW.out 1 _ rfl
  have o2 : w3.cell? ⟨b, 2, none⟩ = some (.int .u64 0) := Th.newcell HW.out 2 _ rfl
  have o3 : w3.cell? ⟨b, 3, none⟩ = some (.slice none 0 0) := Th.newcell HW.out 3 _ rfl
  have o4 : w3.cell? ⟨b, 4, none⟩ = some (.int .u64 0) := Th.newcell HW.out 4 _ rfl
  have o5 : w3.cell? ⟨b, 5, none⟩ = some (.slice none 0 0) := Th.newcell HW.out 5 _ rfl
  have of : ∀ i, w3.frozen? ⟨b, i, none⟩ = false := fun i => frozen_of_row _ _ _ _ _ HW.out
  go_wp2_with fail
  generalize hZ : World.setCell _ _ _ = Z
  have hW6 : Th.Blk 67 w3 b 6 (bg6 (fun _ => 0) (fun _ => .slice none 0 0)) := HW.out
  have hbz : Th.Blk 67 Z b 6 (Th.upF (Th.upF (Th.upF (Th.upF (Th.upF (Th.upF (bg6 (fun _ => 0) (fun _ => .slice none 0 0)) 0 (.int .u64 (σ.f (stI k 0)))) 1 (.slice p0 (wds (X 0)).length k0)) 2 (.int .u64 (σ.f (stI k 1)))) 3 (.slice p1 (wds (X 1)).length k1)) 4 (.int .u64 (σ.f (stI k 2)))) 5 (.slice p2 (wds (X 2)).length k2)) := by
    rw [← hZ]
    exact (((((hW6.set 0 _).set 1 _).set 2 _).set 3 _).set 4 _).set 5 _
  have hkz : Th.KS (fun j => j = b) w3 Z := by
    rw [← hZ]
    exact (((((Th.KS.set w3 b 0 _).trans (Th.KS.set _ b 1 _)).trans (Th.KS.set _ b 2 _)).trans (Th.KS.set _ b 3 _)).trans (Th.KS.set _ b 4 _)).trans (Th.KS.set _ b 5 _)
  clear hZ o0 o1 o2 o3 o4 o5 of
  have y0 : Z.cell? ⟨b, 0, none⟩ = some (.int .u64 (σ.f (stI k 0))) := hbz.get (i := 0) (by omega)
  have y1 : Z.cell? ⟨b, 1, none⟩ = some (.slice p0 (wds (X 0)).length k0) := hbz.get (i := 1) (by omega)
  have y2 : Z.cell? ⟨b, 2, none⟩ = some (.int .u64 (σ.f (stI k 1))) := hbz.get (i := 2) (by omega)
  have y3 : Z.cell? ⟨b, 3, none⟩ = some (.slice p1 (wds (X 1)).length k1) := hbz.get (i := 3) (by omega)
  have y4 : Z.cell? ⟨b, 4, none⟩ = some (.int .u64 (σ.f (stI k 2))) := hbz.get (i := 4) (by omega)
  have y5 : Z.cell? ⟨b, 5, none⟩ = some (.slice p2 (wds (X 2)).length k2) := hbz.get (i := 5) (by omega)
  refine bodyPost_ret (v := .tuple #[.agg #[.int .u64 (σ.f (stI k 0)), .slice p0 (wds (X 0)).length k0, .int .u64 (σ.f (stI k 1)), .slice p1 (wds (X 1)).length k1, .int .u64 (σ.f (stI k 2)), .slice p2 (wds (X 2)).length k2], .bool true]) (by simp [results, Try.results19, go_sem, y0, y1, y2, y3, y4, y5]) rfl ?_
  rw [HQ.out]
  refine ⟨v, by rw [HVE.out.1, HVE.out.2.1, HVE.out.2.2], fun c hc => ?_, ?_⟩
  · refine ((HV.out c hc).mono HSZ.out).of fun i cur _ hi => hkz.block i (Th.blk_lt hi) fun e9 => ?_
    subst e9
    have := HW.out
    rw [hi] at this
    simp at this
  · have h1 := HBU.out
    have h2 := HB3.out
    have h3 := HB.out
    exact ⟨hkz.os.trans (h2.os.trans h1.os), hkz.tape.trans (h2.tape.trans h1.tape), hkz.output.trans (h2.output.trans h1.output), Nat.le_trans h1.size (Nat.le_trans h2.size hkz.size), fun j hj => (hkz.block j (Nat.lt_of_lt_of_le hj (Nat.le_trans h1.size h2.size)) (by omega)).trans ((h2.block j (Nat.lt_of_lt_of_le hj h1.size)).trans (h1.block j hj))⟩
theorem lbags {w : World} {P : Pc} {σ : Sg} {g : Gh} {n k : Nat} (h : MM w P σ) (hi : XS P σ g n) (hk : k < P.t) (hz : (σ.Ts k).nf = 0) :
    Calls Try.prog 19 #[.pointer (some ⟨P.q, 0, none⟩), .int .i64 k] w fun e w' => ∃ v : Nat → Value, e = .returned (.tuple #[.agg #[.int .u64 (σ.f (stI k 0)), v 0, .int .u64 (σ.f (stI k 1)), v 1, .int .u64 (σ.f (stI k 2)), v 2], .bool true]) ∧ (∀ c, c < 3 → VR w.heap.size 22 w' (v c) (wds (g.X (10 * k + 4 + c)))) ∧ Below w.heap.size w w' :=
  lbagsX h hk (fun c => g.X (10 * k + 4 + c)) (fun c hc => by
    have := hi.ch k hk c hc
    rw [root_lt (by omega)] at this; exact this) (fun c hc e he => by
    have h1 := hi.xe k hk _ (ofK_b hc) e he
    have h2 := h1.slot
    exact ⟨h1.1, h2.1, h2.2.1, h2.2.2.2⟩) (fun c hc => hi.blen hk hc)
set_option maxRecDepth 8000 in
theorem rmany19 (w : World) (a0 a1 a2 : Int) (p0 p1 p2 : Option Addr) (n0 n1 n2 k0 k1 k2 : Nat) (h : n0 ≤ 1000 ∧ n1 ≤ 1000 ∧ n2 ≤ 1000) :
    Calls Try.prog 20 #[.agg #[.int .u64 a0, .slice p0 n0 k0, .int .u64 a1, .slice p1 n1 k1, .int .u64 a2, .slice p2 n2 k2]] w fun e w' => e = .returned (.int .i64 ((n0 + n1 + n2 : Nat) : Int)) ∧ Below w.heap.size w w' := by
  refine Calls.veil fun Q HQ => ?_
  obtain ⟨h0, h1, h2⟩ := h
  go_enter Try.func20, Try.ntmps20
  go_upto_region 1 with fail
  generalize hU : World.alloc _ _ = U
  obtain ⟨u0, hbu⟩ := Th.heapnewE hU
  obtain ⟨b, hb⟩ : ∃ b, b = w.heap.size := ⟨_, rfl⟩
  rw [← hb] at u0 ⊢
  have HBU := Lib.hid hbu
  have o1 : U.cell? ⟨b, 1, none⟩ = some (.slice p0 n0 k0) := Th.newcell u0 1 _ rfl
  have o3 : U.cell? ⟨b, 3, none⟩ = some (.slice p1 n1 k1) := Th.newcell u0 3 _ rfl
  have o5 : U.cell? ⟨b, 5, none⟩ = some (.slice p2 n2 k2) := Th.newcell u0 5 _ rfl
  have q1 : IntKind.i64.wrap ((n0 : Int) + n1) = n0 + n1 := by rw [IntKind.wrap_i64]; omega
  have q2 : IntKind.i64.wrap ((n0 : Int) + n1 + n2) = n0 + n1 + n2 := by rw [IntKind.wrap_i64]; omega
  clear hU u0 hbu hb
  go_wp2_with fail
  (try go_ret)
  rw [HQ.out]
  refine ⟨?_, HBU.out⟩
  simp
end Go.Proofs.Ytaaciolfgplnoaa.Lb
