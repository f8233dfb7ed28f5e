/- Layer 14: the reference's Same, of any scripts. -/
import Derived.Test.YtnikggdnlijkkaaScrK
namespace Go.Proofs.Ytnikggdnlijkkaa
open Go.RowKit WordM
set_option linter.unusedVariables false
set_option linter.unusedSimpArgs false
set_option maxHeartbeats 1000000 in
theorem neqE (th : Int) (bg : Bool) (op key val hi lim th' : Int) (bg' : Bool) (op' key' val' hi' lim' : Int) (w : World)
    (h : ¬ (th = th' ∧ bg = bg' ∧ op = op' ∧ key = key' ∧ val = val' ∧ hi = hi' ∧ lim = lim')) :
    (binOp .neq 54 (.agg #[.int .i64 th, .bool bg, .int .i64 op, .int .i64 key, .int .i64 val, .int .i64 hi, .int .i64 lim]) (.agg #[.int .i64 th', .bool bg', .int .i64 op', .int .i64 key', .int .i64 val', .int .i64 hi', .int .i64 lim'])).run Try.prog w = .ok (.bool true) w := by
  by_cases h1 : th = th'
  · subst h1
    by_cases h2 : bg = bg'
    · subst h2
      by_cases h3 : op = op'
      · subst h3
        by_cases h4 : key = key'
        · subst h4
          by_cases h5 : val = val'
          · subst h5
            by_cases h6 : hi = hi'
            · subst h6
              have h7 : ¬ lim = lim' := fun e => h ⟨rfl, rfl, rfl, rfl, rfl, rfl, e⟩
              clear h
              go_simp
            · clear h
              go_simp
          · clear h
            go_simp
        · clear h
          go_simp
      · clear h
        go_simp
    · clear h
      go_simp
  · clear h
    go_simp
def sameEnt (a b : Ent) : Bool := decide (a.th = b.th ∧ a.bg = b.bg ∧ a.op = b.op ∧ a.key = b.key ∧ a.val = b.val ∧ a.hi = b.hi ∧ a.lim = b.lim)
def sameR (L M : Nat → Ent) (n : Nat) : Bool := (List.range n).all fun i => sameEnt (L i) (M i)
theorem sameR_succ (L M : Nat → Ent) (n : Nat) : sameR L M (n + 1) = (sameR L M n && sameEnt (L n) (M n)) := by simp [sameR, List.range_succ, List.all_append]
theorem sameEnt_eq {a b : Ent} (h : sameEnt a b = true) : a = b := by
  unfold sameEnt at h
  have := of_decide_eq_true h
  obtain ⟨h1, h2, h3, h4, h5, h6, h7⟩ := this
  cases a; cases b; simp_all
def sameS (T S K : Int) (n : Nat) (L : Nat → Ent) (T' S' K' : Int) (n' : Nat) (M : Nat → Ent) : Bool := decide (T = T' ∧ S = S' ∧ K = K' ∧ n = n') && sameR L M n
set_option maxHeartbeats 4000000 in
theorem rsameL (T S K : Int) (n : Nat) (L M : Nat → Ent) (va vb : Value) (w : World) (ha : ER w va n L) (hb : ER w vb n M) (hn : n ≤ 100000) :
    Calls Try.prog 8 #[.agg #[.int .i64 T, .int .i64 S, .int .u64 K, va], .agg #[.int .i64 T, .int .i64 S, .int .u64 K, vb]] w fun e w' => e = .returned (.bool (sameR L M n)) ∧ Below w.heap.size w w' := by
  refine Calls.veil fun Q HQ => ?_
  obtain ⟨p, c, rfl, a1, a2, A3⟩ := ha.parts
  obtain ⟨p', c', rfl, b1, b2, B3⟩ := hb.parts
  clear ha hb
  obtain ⟨r, hr⟩ : ∃ r, r = sameR L M n := ⟨_, rfl⟩
  rw [← hr] at HQ
  have HR := Lib.hid hr
  clear hr
  go_enter Try.func8, Try.ntmps8
  go_wp2_with fail
  generalize hV : World.alloc (World.alloc w _) _ = V
  have HBV := Lib.hid (show Below w.heap.size w V by rw [← hV]; (repeat (first | exact Below.refl _ _ | assumption | refine below_new ?_ _ | refine Below.drew ?_ | refine below_drewN ?_ _ | refine below_on ?_ (by assumption))))
  have s0 : V.cell? ⟨w.heap.size, 3, none⟩ = some (.slice p n c) := by rw [← hV]; exact Ext.made1 rfl 3 _ rfl ⟨_, Below.refl _ _⟩
  have s1 : V.cell? ⟨w.heap.size + 1, 3, none⟩ = some (.slice p' n c') := by
    have e : w.heap.size + 1 = (w.alloc (.cells #[.int .i64 T, .int .i64 S, .int .u64 K, .slice p n c] 29)).heap.size := by simp
    rw [← hV, e]; exact Ext.made rfl 3 _ rfl ⟨_, Below.refl _ _⟩
  clear hV
  have HS0 := Lib.hid s0; have HS1 := Lib.hid s1
  clear s0 s1
  generalize w.heap.size + 1 = q1 at *
  go_loopw [5] (fun iv wr => ∃ i : Nat, i ≤ n ∧ iv = .int .i64 i ∧ Hid (sameR L M i = true) ∧ Below V.heap.size V wr)
    (fun iv _ => n - (intOf iv).toNat)
  case atStart => exact ⟨0, by omega, rfl, Lib.hid rfl, Below.refl _ _⟩
  case round =>
    obtain ⟨i, hi, rfl, HA, hbx⟩ := hrel
    have s0 := Ext.cell ⟨wr, hbx⟩ HS0.out; have s1 := Ext.cell ⟨wr, hbx⟩ HS1.out
    simp only at s0 s1
    rcases (by omega : i < n ∨ i = n) with hlt | heq
    · obtain ⟨g, o, rfl, hA⟩ := A3.out (by omega)
      obtain ⟨g', o', rfl, hB⟩ := B3.out (by omega)
      have hA := ((hA.below HBV.out).below hbx).cells i hlt
      have hB := ((hB.below HBV.out).below hbx).cells i hlt
      have HAS := Lib.hid (sameR_succ L M i)
      have HAN : Hid (sameEnt (L i) (M i) = false → sameR L M n = false) := Lib.hid fun h => by
        unfold sameR
        rw [List.all_eq_false]
        exact ⟨i, by simpa using hlt, by simp [h]⟩
      have HX := Lib.hid hbx
      clear hbx
      have s0 := Ext.drewN s0; have s1 := Ext.drewN s1
      cases hq : sameEnt (L i) (M i) with
      | true =>
        have HA1 : Hid (sameR L M (i + 1) = true) := by rw [HAS.out, HA.out, hq]; exact Lib.hid rfl
        have he := sameEnt_eq hq
        rw [← he] at hB
        clear HAS HAN hq he
        generalize L i = e at hA hB
        obtain ⟨th, bg, op, key, val, hi2, lim⟩ := e
        simp only at hA hB
        obtain ⟨x0, x1, x2, x3, x4, x5, x6⟩ := hA
        obtain ⟨y0, y1, y2, y3, y4, y5, y6⟩ := hB
        have x0 := Ext.drewN x0; have x1 := Ext.drewN x1; have x2 := Ext.drewN x2; have x3 := Ext.drewN x3; have x4 := Ext.drewN x4; have x5 := Ext.drewN x5; have x6 := Ext.drewN x6
        have y0 := Ext.drewN y0; have y1 := Ext.drewN y1; have y2 := Ext.drewN y2; have y3 := Ext.drewN y3; have y4 := Ext.drewN y4; have y5 := Ext.drewN y5; have y6 := Ext.drewN y6
        go_upto_region 6 with fail
        go_quiet (fail)
        go_wp2_with fail
        go_roundw
        case rel => exact ⟨i + 1, by omega, by go_num, HA1, below_drewN HX.out nq⟩
        case measure => simp [intOf]; omega
      | false =>
        have HA1 : Hid (r = false) := Lib.hid (HR.out.trans (HAN.out hq))
        have HNE := Lib.hid hq
        clear HAS HAN hq
        generalize L i = e at hA HNE
        generalize M i = e' at hB HNE
        obtain ⟨th, bg, op, key, val, hi2, lim⟩ := e
        obtain ⟨th', bg', op', key', val', hi2', lim'⟩ := e'
        simp only at hA hB
        obtain ⟨x0, x1, x2, x3, x4, x5, x6⟩ := hA
        obtain ⟨y0, y1, y2, y3, y4, y5, y6⟩ := hB
        have x0 := Ext.drewN x0; have x1 := Ext.drewN x1; have x2 := Ext.drewN x2; have x3 := Ext.drewN x3; have x4 := Ext.drewN x4; have x5 := Ext.drewN x5; have x6 := Ext.drewN x6
        have y0 := Ext.drewN y0; have y1 := Ext.drewN y1; have y2 := Ext.drewN y2; have y3 := Ext.drewN y3; have y4 := Ext.drewN y4; have y5 := Ext.drewN y5; have y6 := Ext.drewN y6
        have HF := Lib.hid (fun nq => below_on HBV.out (below_drewN HX.out nq))
        have hneq := fun w => neqE th bg op key val hi2 lim th' bg' op' key' val' hi2' lim' w (of_decide_eq_false HNE.out)
        clear HNE
        go_upto_region 6 with fail
        go_quiet (fail)
        go_wp2_with fail
        (try go_ret)
        rw [HQ.out]
        exact ⟨by first | (rw [HA1.out]; done) | (rw [HA1.out]; rfl), HF.out _⟩
    · have hge : n ≤ i := by omega
      have HA1 : Hid (r = true) := by rw [HR.out, ← heq]; exact HA
      have HX := Lib.hid (below_on HBV.out hbx)
      clear heq hbx
      go_wp2_with fail
      (try go_ret)
      rw [HQ.out]
      exact ⟨by rw [HA1.out]; rfl, HX.out⟩
end Go.Proofs.Ytnikggdnlijkkaa
