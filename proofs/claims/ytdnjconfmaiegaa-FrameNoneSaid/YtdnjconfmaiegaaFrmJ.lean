/- Layer 15: the walk of FrameOrders. -/
import Derived.Test.YtdnjconfmaiegaaFrmI
import Derived.Test.YtdnjconfmaiegaaFrame
namespace Go.Proofs.Ytdnjconfmaiegaa
open Go.RowKit
set_option linter.unusedVariables false
set_option linter.unusedSimpArgs false
/-- Frames and words that were laid upon others. -/
def Stk (T : Td) (N M k : Nat) (ws : Nat → Int) (row : PL) : Prop :=
  T.nf = N + k ∧ T.ns = M + k ∧ T.row = row ∧ ∀ i, i < k → (T.fs (N + i)).fn = i ∧ (T.fs (N + i)).pc = i + 1 ∧ (T.fs (N + i)).r 0 = ws i ∧ T.st (M + i) = ws i
theorem Stk.zero (T : Td) (ws : Nat → Int) : Stk T T.nf T.ns 0 ws T.row := ⟨rfl, rfl, rfl, fun i hi => by omega⟩
theorem Stk.push {T : Td} {N M k : Nat} {ws : Nat → Int} {row : PL} (h : Stk T N M k ws row) {T2 T3 : Td} (h2 : T2 = { callT T (k : Int) 1 (fun _ => ws k) with ns := T.ns + 1, st := fun i => if i = T.ns then ws k else T.st i })
    (h3 : T3 = { T2 with fs := upM T2.fs (N + k) ⟨(T2.fs (N + k)).fn, (k : Int) + 1, (T2.fs (N + k)).r⟩ }) : Stk T3 N M (k + 1) ws row := by
  obtain ⟨e1, e2, e3, e4⟩ := h
  subst h3 h2
  refine ⟨by show T.nf + 1 = _; omega, by show T.ns + 1 = _; omega, e3, fun i hi => ?_⟩
  simp only [callT, upM]
  by_cases e : i = k
  · subst e
    rw [if_pos rfl, e1, if_pos rfl, e2, if_pos rfl]
    exact ⟨rfl, rfl, by simp, rfl⟩
  · rw [if_neg (by omega), if_neg (by omega), if_neg (by omega)]
    exact e4 i (by omega)
theorem Stk.pop {T : Td} {N M k : Nat} {ws : Nat → Int} {row : PL} (h : Stk T N M (k + 1) ws row) (L : Nat → Int) : Stk (backT { T with ns := M + k } 1 L) N M k ws row := by
  obtain ⟨e1, e2, e3, e4⟩ := h
  exact ⟨by show T.nf - 1 = _; omega, rfl, e3, fun i hi => e4 i (by omega)⟩
theorem UR.cell {w : World} {v : Value} {n : Nat} {f : Nat → Int} (h : UR w v n f) {i : Nat} (hi : i < n) : ∃ g o c, v = .slice (some ⟨g, o, none⟩) n c ∧ w.cell? ⟨g, o + i, none⟩ = some (.int .u64 (f i)) := by
  cases h with
  | nil => omega
  | odd => omega
  | row g o _ c _ h1 h2 h3 => exact ⟨g, o, c, rfl, h3 i hi⟩
theorem ur_one {w : World} {o : Obj} {b : Nat} {x : Int} (h : w.heap[b]? = some (.cells #[.int .u64 x] 27 (0, 0))) : UR w (.slice (some ⟨b, 0, none⟩) 1 1) 1 (fun _ => x) :=
  .row _ 0 1 1 _ (by omega) (by decide) fun i hi => by
    rcases (by omega : i = 0) with rfl
    exact newcell h 0 _ rfl
set_option maxRecDepth 16000 in
set_option maxHeartbeats 8000000 in
theorem frameOrders_walk (v0 v1 v2 : Value) (w : World) (s0 : Fr.ok1 w (.slice [.int .i64, .int .i64, .slice [.int .u64], .int .i64, .int .i64]) v0) (s1 : Fr.ok1 w (.slice [.int .u64]) v1) (s2 : Fr.ok1 w (.slice [.int .i64, .int .i64]) v2) :
    Calls Try.prog 5 #[v0, v1, v2] w fun e w' => e = .returned (.bool true) ∧ Below w.heap.size w w' := by
  obtain ⟨n, O, lf, hO⟩ := ops_open s0
  obtain ⟨m, ws, hU⟩ := words_open s1
  obtain ⟨ps, hP⟩ := pairs_open s2
  have HO0 := Lib.hid hO; have HU := Lib.hid hU; have HP := Lib.hid hP
  obtain ⟨oa, oc, rfl, _, _, hO⟩ := hO
  have HO := Lib.hid hO
  obtain ⟨ua, uc, rfl, _, _⟩ := hU.slice
  obtain ⟨pa, pc, rfl, _, _⟩ := hP.slice
  clear s0 s1 s2 hO hU hP
  refine Calls.veil fun Q HQ => ?_
  go_enter Try.func5, Try.ntmps5
  go_wp2_with fail
  refine (lgreat15 HO0.out).mono ?_; rintro _ w1 ⟨gb, rfl, hb1, hgr⟩
  have HB1 := Lib.hid hb1
  have HGR := Lib.hid hgr
  clear hb1 hgr
  cases gb with
  | true =>
    go_wp2_with fail
    refine (lives15_calls _).mono ?_; rintro _ w3 ⟨rfl, hb⟩
    go_wp2_with fail
    (try go_ret)
    rw [HQ.out]
    exact ⟨rfl, below_on HB1.out hb⟩
  | false =>
  have hn := HGR.out rfl
  clear HGR
  rcases (by omega : 60 < m ∨ (m ≤ 60 ∧ 60 < ps.length) ∨ (m ≤ 60 ∧ ps.length ≤ 60)) with hm | ⟨hm, hp⟩ | ⟨hm, hp⟩
  · have hm' : (60 : Int) < m := by omega
    go_wp2_with fail
    refine (lives15_calls _).mono ?_; rintro _ w3 ⟨rfl, hb⟩
    go_wp2_with fail
    (try go_ret)
    rw [HQ.out]
    exact ⟨rfl, below_on HB1.out hb⟩
  · have hm' : ¬ (60 : Int) < m := by omega
    have hp' : (60 : Int) < ps.length := by omega
    go_wp2_with fail
    refine (lives15_calls _).mono ?_; rintro _ w3 ⟨rfl, hb⟩
    go_wp2_with fail
    (try go_ret)
    rw [HQ.out]
    exact ⟨rfl, below_on HB1.out hb⟩
  have hm' : ¬ (60 : Int) < m := by omega
  have hp' : ¬ (60 : Int) < ps.length := by omega
  go_wp2_with fail
  clear hm' hp'
  refine (fnew w1 w.heap.size HB1.out.size).mono ?_; rintro _ w2 ⟨rfl, ht, hb2⟩
  obtain ⟨q, hq⟩ : ∃ q, q = w1.heap.size := ⟨_, rfl⟩
  rw [← hq] at ht ⊢
  have HT := Lib.hid ht
  have HB := Lib.hid (below_on HB1.out hb2)
  clear ht hb2 hq HB1
  go_wp2_with fail
  go_loopw [8] (fun iv wr => ∃ i : Nat, i ≤ n ∧ iv = .int .i64 i ∧ ∃ (T : Td) (p : Nat → Nat) (fv rv sv : Value), Hid (Bd i T) ∧ Hid (ThA wr w.heap.size q T p fv rv sv) ∧ Hid (Below w.heap.size w wr))
    (fun iv _ => n - (intOf iv).toNat)
  case atStart => exact ⟨0, Nat.zero_le _, rfl, T0, _, _, _, _, Lib.hid ⟨Nat.le_refl _, Nat.le_refl _, Nat.le_refl _, (by decide : riseB [] = true)⟩, HT, HB⟩
  case round =>
    clear HT HB
    obtain ⟨i, hi, rfl, T, p, fv, rv, sv, HBD, HT, HB⟩ := hrel
    rcases (by omega : i < n ∨ i = n) with hlt | heq
    · obtain ⟨g, off, rfl, hc⟩ := HO.out i hlt
      have hc := hc.below HB.out
      obtain ⟨oo, hoo⟩ : ∃ x, x = O i := ⟨_, rfl⟩
      rw [← hoo] at hc
      clear hoo
      obtain ⟨o0, o1, o2, o3, o4, hu⟩ := hc
      have C := ldo HT.out oo hu HB.out.size HBD.out (by omega)
      have HBD2 := Lib.hid (HBD.out.do oo)
      obtain ⟨la, lc, hle, _, _⟩ := hu.slice
      rw [hle] at o2 C
      unfold opV at C
      have C := Lib.hid C
      have hii : (i : Int) < n := by omega
      clear hu hle
      go_wp2_with fail
      refine C.out.mono ?_; rintro _ w4 ⟨rfl, ⟨p', fv', rv', sv', ht, _⟩, kd⟩
      have HT4 := Lib.hid ht; have HB4 := Lib.hid (kd.below HB.out (Nat.le_refl _))
      clear ht kd o0 o1 o2 o3 o4 C
      go_wp2_with fail
      go_roundw
      case rel => exact ⟨i + 1, by omega, by go_num, _, _, _, _, _, HBD2, HT4, HB4⟩
      case measure => simp [intOf]; omega
    subst heq
    have D := Lib.hid (fdepth HT.out)
    have HST := Lib.hid (Stk.zero T ws)
    obtain ⟨b1, b2, b3, b4⟩ := HBD.out
    obtain ⟨N, hN⟩ : ∃ N, N = T.nf := ⟨_, rfl⟩
    obtain ⟨M, hM⟩ : ∃ M, M = T.ns := ⟨_, rfl⟩
    obtain ⟨row, hrow⟩ : ∃ r, r = T.row := ⟨_, rfl⟩
    rw [← hN, ← hM, ← hrow] at HST
    rw [← hN] at D b1
    rw [← hM] at b2
    rw [← hrow] at b3 b4
    have HRI := Lib.hid b4
    clear hN hM hrow b4
    go_wp2_with fail
    refine D.out.mono ?_; rintro _ _ ⟨rfl, rfl⟩
    clear D
    go_wp2_with fail
    go_loopw [10] (fun iv wq => ∃ k : Nat, k ≤ m ∧ iv = .int .i64 k ∧ ∃ (T : Td) (p : Nat → Nat) (fv rv sv : Value), Hid (Stk T N M k ws row) ∧ Hid (ThA wq w.heap.size q T p fv rv sv) ∧ Hid (Below w.heap.size w wq))
      (fun iv _ => m - (intOf iv).toNat)
    case atStart => exact ⟨0, Nat.zero_le _, rfl, T, _, _, _, _, HST, HT, HB⟩
    case round =>
      clear HST HT HB HBD
      obtain ⟨k, hk, rfl, T, p, fv, rv, sv, HST, HT, HB⟩ := hrel
      rcases (by omega : k < m ∨ k = m) with hlt | heq
      · obtain ⟨g, off, c, hue, hc⟩ := HU.out.cell hlt
        simp only [Value.slice.injEq, true_and] at hue
        obtain ⟨rfl, rfl⟩ := hue
        have HC := Lib.hid hc
        have uc := Ext.use (Ext.cells hc) HB.out
        have hkk : (k : Int) < m := by omega
        clear hc
        go_upto_region 15 with fail
        generalize hV : World.alloc _ _ = V
        obtain ⟨hh, hbv⟩ := heapnewE hV
        have HU1 := Lib.hid (ur_one (o := .map #[] 0) hh)
        have HT1 := Lib.hid (HT.out.below hbv); have HB1 := Lib.hid (below_on HB.out hbv)
        clear hV hh hbv uc
        refine (fcall HT1.out (k : Int) HU1.out HB1.out.size (by have := HST.out.1; omega)).mono ?_; rintro _ w4 ⟨rfl, ⟨p', fv', ht, _⟩, hk1⟩
        have HT4 := Lib.hid ht; have HB4 := Lib.hid (hk1.below HT1.out HB1.out (Nat.le_refl _))
        have uc := Ext.use (Ext.cells HC.out) HB4.out
        clear ht hk1 HT1 HU1
        go_wp2_with fail
        refine (fpush HT4.out (ws k) HB4.out.size (by show T.ns ≤ _; have := HST.out.2.1; omega)).mono ?_; rintro _ w5 ⟨rfl, ⟨sv', ht, _⟩, hk1⟩
        have HB5 := Lib.hid (hk1.below HT4.out HB4.out (Nat.le_refl _))
        obtain ⟨T2, hT2⟩ : ∃ T2, T2 = { callT T (k : Int) 1 (fun _ => ws k) with ns := T.ns + 1, st := fun i => if i = T.ns then ws k else T.st i } := ⟨_, rfl⟩
        have HT5 := Lib.hid (show ThA w5 w.heap.size q T2 p' fv' rv sv' by rw [hT2]; exact ht)
        have hnf : T2.nf = (N + k) + 1 := by rw [hT2]; show T.nf + 1 = _; have := HST.out.1; omega
        have HNF := Lib.hid hnf
        have HTE := Lib.hid hT2
        clear ht hk1 uc hT2 hnf
        go_wp2_with fail
        refine (ftop1 (m := N + k) HT5.out HNF.out (by omega)).mono ?_; rintro _ w6 ⟨rfl, hb6⟩
        have HT6 := Lib.hid (HT5.out.below hb6); have HB6 := Lib.hid (below_on HB5.out hb6)
        clear hb6
        go_wp2_with fail
        refine (ftop1 (m := N + k) HT6.out HNF.out (by omega)).mono ?_; rintro _ w7 ⟨rfl, hb7⟩
        have HT7 := Lib.hid (HT6.out.below hb7); have HB7 := Lib.hid (below_on HB6.out hb7)
        have hfb := (HT7.out.fb (N + k) (by rw [HNF.out]; omega)).1
        have HFB := Lib.hid hfb
        have f1 : w7.cell? ⟨p' (N + k), 1, none⟩ = some (.int .i64 (T2.fs (N + k)).pc) := hfb.get (i := 1) (by omega)
        have ff : ∀ i, w7.frozen? ⟨p' (N + k), i, none⟩ = false := hfb.fr
        clear hb7 hfb
        go_upto_region 13 with fail
        generalize hW : World.setCell _ _ _ = W
        have kw : KS (fun j => j = p' (N + k)) w7 W := by rw [← hW]; exact KS.set w7 _ 1 _
        have hbw : Blk 57 W (p' (N + k)) 26 (frF ⟨(T2.fs (N + k)).fn, (k : Int) + 1, (T2.fs (N + k)).r⟩) := by
          rw [← hW]; exact (HFB.out.set 1 _).congr fun j hj => frF_pc _ _ j hj
        obtain ⟨h1, h2⟩ := HT7.out.frameSet (m := N + k) (by rw [HNF.out]; omega) kw hbw
        have HTN := Lib.hid h1
        have HBN := Lib.hid (h2.below HB7.out (Nat.le_refl _))
        have HSN := Lib.hid (HST.out.push HTE.out rfl)
        clear hW kw hbw h1 h2 f1 ff
        go_wp2_with fail
        go_roundw
        case rel => exact ⟨k + 1, by omega, by go_num, _, _, _, _, _, HSN, HTN, HBN⟩
        case measure => simp [intOf]; omega
      subst heq
      go_wp2_with fail
      go_loopw [11] (fun iv wq => ∃ (j : Nat) (jj : Int), j ≤ k ∧ jj = (j : Int) - 1 ∧ iv = .int .i64 jj ∧ ∃ (T : Td) (p : Nat → Nat) (fv rv sv : Value), Hid (Stk T N M j ws row) ∧ Hid (ThA wq w.heap.size q T p fv rv sv) ∧ Hid (Below w.heap.size w wq))
        (fun iv _ => (intOf iv + 1).toNat)
      case atStart => exact ⟨k, _, Nat.le_refl _, rfl, by go_num, T, _, _, _, _, HST, HT, HB⟩
      case round =>
        clear HST HT HB
        obtain ⟨j, jj, hj, hjj, rfl, T, p, fv, rv, sv, HST, HT, HB⟩ := hrel
        rcases zero_or j with hj0 | ⟨i, hji⟩
        · subst hj0
          obtain rfl : jj = -1 := by omega
          clear hjj
          go_wp2_with fail
          go_loopw [15] (fun iv wq => ∃ l : Nat, l ≤ ps.length ∧ iv = .int .i64 l ∧ ∃ (T : Td) (p : Nat → Nat) (fv rv sv : Value), Hid (T.nf = N ∧ riseB T.row = true ∧ T.row.length ≤ 80 + l) ∧ Hid (ThA wq w.heap.size q T p fv rv sv) ∧ Hid (Below w.heap.size w wq))
            (fun iv _ => ps.length - (intOf iv).toNat)
          case atStart => exact ⟨0, Nat.zero_le _, rfl, T, _, _, _, _, Lib.hid ⟨HST.out.1, by rw [HST.out.2.2.1]; exact HRI.out, by rw [HST.out.2.2.1]; omega⟩, HT, HB⟩
          case round =>
            clear HST HT HB
            obtain ⟨l, hl, rfl, T, p, fv, rv, sv, HRW, HT, HB⟩ := hrel
            rcases (by omega : l < ps.length ∨ l = ps.length) with hlt | heq
            · obtain ⟨pp, cc, hpv, _, _, HC⟩ := HP.out.parts
              obtain ⟨g, o, rfl, b0, b1⟩ := HC.out l hlt
              simp only [Value.slice.injEq, true_and] at hpv
              obtain ⟨rfl, rfl⟩ := hpv
              have HB0 := Lib.hid b0; have HB1 := Lib.hid b1
              have hll : (l : Int) < ps.length := by omega
              obtain ⟨kk, hkk⟩ : ∃ x, x = ky ps l := ⟨_, rfl⟩
              obtain ⟨vv, hvv⟩ : ∃ x, x = vl ps l := ⟨_, rfl⟩
              rw [← hkk] at b0 HB0; rw [← hvv] at b1 HB1
              have c0 := Ext.cells (Ext.use (Ext.cells b0) HB.out)
              clear b0 b1 hkk hvv
              go_upto_region 32 with fail
              (with_reducible refine wp_region_mix (fun w' => ∃ y : Ext wr, w' = y.w) ?_ ?_ ?_ ?_; kernel_rfl; kernel_rfl; exact ⟨⟨wr.drew, (Below.refl _ _).drew⟩, rfl⟩)
              have hd : Below wr.heap.size wr wr.drew := (Below.refl _ _).drew
              repeat (first | ((with_reducible refine mix_plain (by kernel_rfl) ?_); (first | go_big_quiet_skip | (go_big_quiet_want; go_big_quiet_op; go_big_quiet_on)); (with_reducible refine mix_on ?_)) | ((with_reducible refine mix_skip (by kernel_rfl) ?_); go_big_quiet_skip; (with_reducible refine mix_on ?_)))
              ((with_reducible refine wpMix_chain (by kernel_rfl) (by kernel_rfl) (fun K HK => ?_)); go_step)
              refine (frow (HT.out.below hd) (by have := HRW.out.2.2; omega)).mono ?_; rintro _ w4 ⟨v4, rfl, hp4, hb4⟩
              obtain ⟨p4, c4, rfl, _, _⟩ := hp4.1.slice
              have hb4 := below_on hd hb4
              refine HK.out _ _ ⟨⟨w4, hb4⟩, rfl⟩ ?_
              clear HK K hd
              repeat (first | ((with_reducible refine mix_plain (by kernel_rfl) ?_); (first | go_big_quiet_skip | (go_big_quiet_want; go_big_quiet_op; go_big_quiet_on)); (with_reducible refine mix_on ?_)) | ((with_reducible refine mix_skip (by kernel_rfl) ?_); go_big_quiet_skip; (with_reducible refine mix_on ?_)))
              ((with_reducible refine wpMix_chain (by kernel_rfl) (by kernel_rfl) (fun K HK => ?_)); go_step)
              refine (pfind _ _ kk _ hp4.1 HRW.out.2.1 (by have := HRW.out.2.2; omega)).mono ?_; rintro _ w5 ⟨rfl, hb5⟩
              have hb5 := below_on hb4 hb5
              refine HK.out _ _ ⟨⟨w5, hb5⟩, rfl⟩ ?_
              clear HK K hb4 hp4
              repeat (first | ((with_reducible refine mix_plain (by kernel_rfl) ?_); (first | go_big_quiet_skip | (go_big_quiet_want; go_big_quiet_op; go_big_quiet_on)); (with_reducible refine mix_on ?_)) | ((with_reducible refine mix_skip (by kernel_rfl) ?_); go_big_quiet_skip; (with_reducible refine mix_on ?_)))
              refine wpMix_nil ?_
              have HT5 := Lib.hid (HT.out.below hb5); have HB5 := Lib.hid (below_on HB.out hb5)
              have c0 := Ext.use (Ext.cells HB0.out) HB5.out
              have c1 := Ext.use (Ext.cells HB1.out) HB5.out
              have HLE := Lib.hid (show lbN T.row kk ≤ (putL T.row (kk, vv)).length from Nat.le_trans (lbN_le _ _) (put_le (l := T.row) (p := (kk, vv))).2)
              clear hb5
              obtain ⟨hb, hhb⟩ : ∃ b, b = hereB T.row kk := ⟨_, rfl⟩
              obtain ⟨ln, hln⟩ : ∃ b, b = lbN T.row kk := ⟨_, rfl⟩
              have G := fgather HT5.out kk vv HRW.out.2.1 (by have := HRW.out.2.2; omega)
              rw [← hhb] at G ⊢
              rw [← hln] at HLE ⊢
              have G := Lib.hid G
              clear hhb hln
              have hbb : ((!hb) == hb) = false := by cases hb <;> rfl
              go_wp2_with fail
              refine G.out.mono ?_; rintro _ w6 ⟨rfl, ⟨rv', ht⟩, hk6⟩
              have HB6 := Lib.hid (hk6.below HT5.out HB5.out (Nat.le_refl _))
              have HT6 := Lib.hid ht
              have HRN := Lib.hid (show riseB (putL T.row (kk, vv)) = true ∧ (putL T.row (kk, vv)).length ≤ 80 + (l + 1) from ⟨put_rise HRW.out.2.1, by have := (put_le (l := T.row) (p := (kk, vv))).1; have := HRW.out.2.2; omega⟩)
              clear ht hk6 G c0 c1
              go_wp2_with fail
              refine (frow HT6.out (by show (putL T.row (kk, vv)).length ≤ _; have := HRN.out.2; omega)).mono ?_; rintro _ w7 ⟨v7, rfl, hp7, hb7⟩
              obtain ⟨p7, c7, rfl, _, _⟩ := hp7.1.slice
              have HT7 := Lib.hid (HT6.out.below hb7); have HB7 := Lib.hid (below_on HB6.out hb7)
              have hle := HLE.out
              obtain ⟨pl, hpl⟩ : ∃ x, x = (putL T.row (kk, vv)).length := ⟨_, rfl⟩
              have hnot : ¬ ((putL T.row (kk, vv)).length : Int) < ln := by omega
              clear hp7 hb7 hbb
              simp only
              rw [← hpl] at hle hnot ⊢
              clear hle hpl
              go_wp2_with fail
              go_roundw
              case rel => exact ⟨l + 1, by omega, by go_num, { T with row := putL T.row (kk, vv) }, _, _, _, _, Lib.hid ⟨HRW.out.1, HRN.out⟩, HT7, HB7⟩
              case measure => simp [intOf]; omega
            · subst heq
              go_wp2_with fail
              refine (frow HT.out (by have := HRW.out.2.2; omega)).mono ?_; rintro _ w4 ⟨v4, rfl, hp4, hb4⟩
              obtain ⟨p4, c4, rfl, _, _⟩ := hp4.1.slice
              have HT4 := Lib.hid (HT.out.below hb4); have HB4 := Lib.hid (below_on HB.out hb4)
              have HP4 := Lib.hid hp4
              clear hp4 hb4
              go_wp2_with fail
              refine (prises _ _ _ HP4.out.1 (by have := HRW.out.2.2; omega)).mono ?_; rintro _ w5 ⟨rfl, hb5⟩
              rw [HRW.out.2.1]
              have HT5 := Lib.hid (HT4.out.below hb5); have HB5 := Lib.hid (below_on HB4.out hb5)
              have D := fdepth HT5.out
              rw [HRW.out.1] at D
              have D := Lib.hid D
              clear hb5
              go_wp2_with fail
              refine D.out.mono ?_; rintro _ _ ⟨rfl, rfl⟩
              clear D
              go_wp2_with fail
              refine (lives15_calls _).mono ?_; rintro _ w7 ⟨rfl, hb7⟩
              have HB7 := Lib.hid (below_on HB5.out hb7)
              clear hb7
              go_wp2_with fail
              (try go_ret)
              rw [HQ.out]
              exact ⟨rfl, HB7.out⟩
        · subst hji
          obtain rfl : jj = (i : Int) := by omega
          clear hjj
          obtain ⟨e1, e2, e3, e4⟩ := HST.out
          obtain ⟨g1, g2, g3, g4⟩ := e4 i (by omega)
          have hnf : T.nf = (N + i) + 1 := by omega
          have HNF := Lib.hid hnf
          have hns : T.ns = (M + i) + 1 := by omega
          have HNS := Lib.hid hns
          have HG := Lib.hid (And.intro g1 (And.intro g2 g3)); have HG4 := Lib.hid g4
          obtain ⟨g, off, c, hue, hc⟩ := HU.out.cell (i := i) (by omega)
          simp only [Value.slice.injEq, true_and] at hue
          obtain ⟨rfl, rfl⟩ := hue
          have HC := Lib.hid hc
          have hii : (i : Int) < k := by omega
          clear e1 e2 e3 e4 g1 g2 g3 g4 hnf hns hc
          go_wp2_with fail
          refine (ftop1 (m := N + i) HT.out HNF.out (by omega)).mono ?_; rintro _ w4 ⟨rfl, hb4⟩
          have HT4 := Lib.hid (HT.out.below hb4); have HB4 := Lib.hid (below_on HB.out hb4)
          clear hb4
          go_wp2_with fail
          refine (fpop1 (m := M + i) HT4.out HNS.out (by omega)).mono ?_; rintro _ w5 ⟨rfl, ⟨sv', ht, _⟩, hk5⟩
          rw [HG4.out]
          have HB5 := Lib.hid (hk5.below HT4.out HB4.out (Nat.le_refl _))
          have HT5 := Lib.hid ht
          clear ht hk5
          have hfb := (HT5.out.fb (N + i) (by show N + i < T.nf; rw [HNF.out]; omega)).1
          have f0 : w5.cell? ⟨p (N + i), 0, none⟩ = some (.int .i64 i) := by
            have := hfb.get (i := 0) (by omega); rw [this]; show some (Value.int .i64 (T.fs (N + i)).fn) = _; rw [HG.out.1]
          have f1 : w5.cell? ⟨p (N + i), 1, none⟩ = some (.int .i64 ((i : Int) + 1)) := by
            have := hfb.get (i := 1) (by omega); rw [this]; show some (Value.int .i64 (T.fs (N + i)).pc) = _; rw [HG.out.2.1]
          have f2 : w5.cell? ⟨p (N + i), 2, none⟩ = some (.int .u64 (ws i)) := by
            have := hfb.get (i := 2) (by omega); rw [this]; show some (Value.int .u64 ((T.fs (N + i)).r 0)) = _; rw [HG.out.2.2]
          have uc := Ext.use (Ext.cells HC.out) HB5.out
          have f0 := Ext.cells f0; have f1 := Ext.cells f1; have f2 := Ext.cells f2; have uc := Ext.cells uc
          have D := fun (y : Ext w5) => fdepth (HT5.out.below y.h)
          simp only at D
          rw [HNF.out] at D
          have hdc : (((N + i + 1 : Nat)) : Int) = (N : Int) + i + 1 := by omega
          rw [hdc] at D
          have D := Lib.hid D
          clear hfb hdc
          go_upto_region 24 with fail
          (with_reducible refine wp_region_mix (fun w' => ∃ y : Ext w5, w' = y.w) ?_ ?_ ?_ ?_; kernel_rfl; kernel_rfl; exact ⟨⟨w5.drew, (Below.refl _ _).drew⟩, rfl⟩)
          obtain ⟨y0, hy0⟩ : ∃ y : Ext w5, y.w = w5.drew := ⟨⟨w5.drew, (Below.refl _ _).drew⟩, rfl⟩
          rw [← hy0]
          clear hy0
          repeat (first | ((with_reducible refine mix_plain (by kernel_rfl) ?_); (first | go_big_quiet_skip | (go_big_quiet_want; go_big_quiet_op; go_big_quiet_on)); (with_reducible refine mix_on ?_)) | ((with_reducible refine mix_skip (by kernel_rfl) ?_); go_big_quiet_skip; (with_reducible refine mix_on ?_)))
          ((with_reducible refine wpMix_chain (by kernel_rfl) (by kernel_rfl) (fun K HK => ?_)); go_step)
          refine (D.out y0).mono ?_; rintro _ w6 ⟨rfl, hw6⟩
          rw [← hw6]
          refine HK.out _ _ ⟨y0, rfl⟩ ?_
          clear HK K hw6
          repeat (first | ((with_reducible refine mix_plain (by kernel_rfl) ?_); (first | go_big_quiet_skip | (go_big_quiet_want; go_big_quiet_op; go_big_quiet_on)); (with_reducible refine mix_on ?_)) | ((with_reducible refine mix_skip (by kernel_rfl) ?_); go_big_quiet_skip; (with_reducible refine mix_on ?_)))
          refine wpMix_nil ?_
          have hd := y0.h
          generalize y0.w = w6 at hd ⊢
          have HT6 := Lib.hid (HT5.out.below hd); have HB6 := Lib.hid (below_on HB5.out hd)
          clear hd f0 f1 f2 uc D
          have uc := Ext.use (Ext.cells HC.out) HB6.out
          go_upto_region 27 with fail
          generalize hV : World.alloc _ _ = V
          obtain ⟨hh, hbv⟩ := heapnewE hV
          have HU1 := Lib.hid (ur_one (o := .map #[] 0) hh)
          have HT7 := Lib.hid (HT6.out.below hbv); have HB7 := Lib.hid (below_on HB6.out hbv)
          clear hV hh hbv uc
          refine (fback HT7.out HU1.out (by show T.nf ≤ _; rw [HNF.out]; omega)).mono ?_; rintro _ w8 ⟨rfl, ⟨fv', ht, _⟩, hk8⟩
          have HB8 := Lib.hid (hk8.below HT7.out HB7.out (Nat.le_refl _))
          have HT8 := Lib.hid ht
          have HSN := Lib.hid (HST.out.pop (fun _ => ws i))
          have r0 : w8.cell? ⟨q, 0, none⟩ = some (.int .u64 (ws i)) := ht.blk.get (i := 0) (by omega)
          have uc := Ext.use (Ext.cells HC.out) HB8.out
          clear ht hk8 HU1
          go_upto_region 27 with fail
          go_quiet (fail)
          have hdq := below_drewN (Below.refl w8.heap.size w8) nq
          have HT9 := Lib.hid (HT8.out.below hdq); have HB9 := Lib.hid (below_on HB8.out hdq)
          clear r0 uc hdq
          go_wp2_with fail
          go_roundw
          case rel => exact ⟨i, _, by omega, rfl, by go_num, _, _, _, _, _, HSN, HT9, HB9⟩
          case measure => simp [intOf]
end Go.Proofs.Ytdnjconfmaiegaa
