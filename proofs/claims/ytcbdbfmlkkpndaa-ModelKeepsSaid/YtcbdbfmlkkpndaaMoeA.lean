/- Layer 10: what is kept in a state's block. -/
import Derived.Test.YtcbdbfmlkkpndaaModZ
namespace Go.Proofs.Ytcbdbfmlkkpndaa
open Go.RowKit
set_option linter.unusedVariables false
set_option linter.unusedSimpArgs false
/-- A state in its block. -/
structure KSt (w W : World) (X : Nat) (st : Sm) (p : Option Addr) (c : Nat) (q : Option Addr) (d : Nat) : Prop where
  hx : W.heap[X]? = some (.cells #[.slice p st.mp.length c, .slice q st.n d] 27 (0, 0))
  hp : PO W (.slice p st.mp.length c) st.mp
  ht : TR W (.slice q st.n d) st.n st.th
  hb : Below w.heap.size w W
  hw : w.heap.size ≤ X
/-- What is kept when the state's block is written. -/
structure Kept (W W2 : World) (X : Nat) : Prop where
  np : NP W W2
  bl : ∀ b, b < W.heap.size → b ≠ X → W2.heap[b]? = W.heap[b]?
theorem Kept.refl (W : World) (X : Nat) : Kept W W X := ⟨.refl _, fun _ _ _ => rfl⟩
theorem Kept.trans {A B C : World} {X : Nat} (h : Kept A B X) (k : Kept B C X) : Kept A C X :=
  ⟨h.np.trans k.np, fun b hb hn => (k.bl b (Nat.lt_of_lt_of_le hb h.np.size) hn).trans (h.bl b hb hn)⟩
theorem Kept.below {A B : World} {X : Nat} (h : Below A.heap.size A B) : Kept A B X := ⟨.below h, fun b hb _ => h.block b hb⟩
theorem Kept.blk {A B : World} {X b : Nat} {o : Obj} (h : Kept A B X) (hb : A.heap[b]? = some o) (hn : b ≠ X) : B.heap[b]? = some o := (h.bl b (blk_lt hb) hn).trans hb
theorem KSt.below {w W W2 : World} {X : Nat} {st : Sm} {p q : Option Addr} {c d : Nat} (h : KSt w W X st p c q d) (k : Below W.heap.size W W2) : KSt w W2 X st p c q d :=
  ⟨up k h.hx, h.hp.below k, h.ht.below k, below_on h.hb k, h.hw⟩
theorem KSt.fresh {w W : World} {st : Sm} {p q : Option Addr} {c d : Nat} (hp : PO W (.slice p st.mp.length c) st.mp) (ht : TR W (.slice q st.n d) st.n st.th) (hb : Below w.heap.size w W) {V : World} (hV : W.alloc (.cells #[.slice p st.mp.length c, .slice q st.n d] 27) = V) : KSt w V W.heap.size st p c q d := by
  have k : Below W.heap.size W V := by rw [← hV]; exact below_new (Below.refl _ _) _
  exact ⟨by rw [← hV]; exact heap_alloc_new _ _, hp.below k, ht.below k, below_on hb k, hb.size⟩
theorem KSt.step {w W w9 : World} {X : Nat} {st : Sm} {p q : Option Addr} {c d : Nat} (h : KSt w W X st p c q d) {st' : Sm} {p' q' : Option Addr} {c' d' : Nat} (hb : Below W.heap.size W w9) (hp : PO w9 (.slice p' st'.mp.length c') st'.mp) (ht : TR w9 (.slice q' st'.n d') st'.n st'.th) {W2 : World} (hW : (w9.setCell ⟨X, 0, none⟩ (.slice p' st'.mp.length c')).setCell ⟨X, 1, none⟩ (.slice q' st'.n d') = W2) : KSt w W2 X st' p' c' q' d' ∧ Kept W W2 X := by
  subst hW
  have hx9 := up hb h.hx
  have hX1 := heap_setCell_same _ X 1 _ _ (.slice q' st'.n d') (heap_setCell_same w9 X 0 _ _ (.slice p' st'.mp.length c') hx9)
  obtain ⟨k1, n1, o1⟩ := st2 (w := w) (X := []) (T := 27) (by decide) hx9 h.hw (KX.of_below (below_on h.hb hb)) (.slice p' st'.mp.length c') (.slice q' st'.n d')
  refine ⟨⟨hX1, hp.np n1, tr_keep2 ht n1 fun b x hbx => o1 b ?_, ⟨k1.os, k1.tape, k1.output, k1.size, fun k hk => k1.block k hk (by simp)⟩, h.hw⟩, ⟨(NP.below hb).trans n1, fun b hb' hne => (o1 b hne).trans (hb.block b hb')⟩⟩
  intro e; subst e; rw [newcell hx9 0 _ rfl] at hbx; cases hbx
theorem KSt.ans {w W w9 : World} {X : Nat} {st : Sm} {p q : Option Addr} {c d : Nat} (h : KSt w W X st p c q d) {st' : Sm} {p' q' : Option Addr} {c' d' : Nat} {a : An} {av : Value} (hb : Below W.heap.size W w9) (hp : PO w9 (.slice p' st'.mp.length c') st'.mp) (ht : TR w9 (.slice q' st'.n d') st'.n st'.th) (ha : PO w9 av a.ps) {W2 : World} (hW : ((((((((w9.alloc (.cells #[.int .i64 0, .int .i64 0, .int .i64 0, .int .i64 0, .slice none 0 0] 34)).setCell ⟨X, 0, none⟩ (.slice p' st'.mp.length c')).setCell ⟨X, 1, none⟩ (.slice q' st'.n d')).setCell ⟨w9.heap.size, 0, none⟩ (.int .i64 a.kind)).setCell ⟨w9.heap.size, 1, none⟩ (.int .i64 a.key)).setCell ⟨w9.heap.size, 2, none⟩ (.int .i64 a.val)).setCell ⟨w9.heap.size, 3, none⟩ (.int .i64 a.n)).setCell ⟨w9.heap.size, 4, none⟩ av) = W2) :
    KSt w W2 X st' p' c' q' d' ∧ Kept W W2 X ∧ W2.heap[w9.heap.size]? = some (.cells #[.int .i64 a.kind, .int .i64 a.key, .int .i64 a.val, .int .i64 a.n, av] 34 (0, 0)) ∧ PO W2 av a.ps ∧ w9.heap.size ≠ X := by
  have hbV : Below w9.heap.size w9 (w9.alloc (.cells #[.int .i64 0, .int .i64 0, .int .i64 0, .int .i64 0, .slice none 0 0] 34)) := below_new (Below.refl _ _) _
  have hn := heap_alloc_new w9 (.cells #[.int .i64 0, .int .i64 0, .int .i64 0, .int .i64 0, .slice none 0 0] 34)
  generalize w9.alloc (.cells #[.int .i64 0, .int .i64 0, .int .i64 0, .int .i64 0, .slice none 0 0] 34) = V at hbV hn hW
  have hne : w9.heap.size ≠ X := by have := blk_lt (up hb h.hx); omega
  generalize hW1 : World.setCell (World.setCell V ⟨X, 0, none⟩ _) ⟨X, 1, none⟩ _ = W1 at hW
  have hbX := below_on hb hbV
  obtain ⟨hs, hk⟩ := h.step hbX (hp.below hbV) (ht.below hbV) hW1
  obtain ⟨hs1, hk1⟩ := (show KSt w V X st p c q d from h.below hbX).step (Below.refl _ _) (hp.below hbV) (ht.below hbV) hW1
  have h9 := hk1.blk hn hne
  have hk9 : w.heap.size ≤ w9.heap.size := by have := h.hb.size; have := hb.size; omega
  obtain ⟨k2, n2, o2⟩ := ans5 (w := w) (X := []) h9 hk9 (KX.of_below hs.hb) (.int .i64 a.kind) (.int .i64 a.key) (.int .i64 a.val) (.int .i64 a.n) av
  have hf := heap_setCell_same _ w9.heap.size 4 _ _ av (heap_setCell_same _ w9.heap.size 3 _ _ (.int .i64 a.n) (heap_setCell_same _ w9.heap.size 2 _ _ (.int .i64 a.val) (heap_setCell_same _ w9.heap.size 1 _ _ (.int .i64 a.key) (heap_setCell_same W1 w9.heap.size 0 _ _ (.int .i64 a.kind) h9))))
  rw [hW] at k2 n2 o2 hf
  refine ⟨⟨(o2 X (Ne.symm hne)).trans hs.hx, hs.hp.np n2, tr_keep2 hs.ht n2 fun b x hbX => o2 b ?_, ⟨k2.os, k2.tape, k2.output, k2.size, fun k hk => k2.block k hk (by simp)⟩, h.hw⟩, ⟨hk.np.trans n2, fun b hb1 hn1 => (o2 b ?_).trans (hk.bl b hb1 hn1)⟩, hf, ((ha.below hbV).np hk1.np).np n2, hne⟩
  · intro e; subst e; rw [newcell h9 0 _ rfl] at hbX; cases hbX
  · have := hb.size; omega
/-- An array of two numbers. -/
theorem two_cells {w : World} {v : Value} (h : Fr.okN w [.int .i64, .int .i64] v) : ∃ x y : Int, v = .agg #[.int .i64 x, .int .i64 y] ∧ -9223372036854775808 ≤ x ∧ x ≤ 9223372036854775807 := by
  obtain ⟨cs, rfl, h⟩ := h
  obtain ⟨_, _, rfl, k0, h⟩ := Fr.get_cons h
  obtain ⟨_, _, rfl, k1, h⟩ := Fr.get_cons h
  obtain rfl := Fr.get_nil h
  obtain ⟨x, rfl, hx⟩ := Fr.get_int k0
  obtain ⟨y, rfl, _⟩ := Fr.get_int k1
  exact ⟨x, y, rfl, wfi64 hx⟩
theorem doA_n3 {st : Sm} (h : st.n = 3) (t : Int) (c : Ca) : (doA st t c).1.n = 3 := (doA_n st t c).trans h
set_option maxRecDepth 16000 in
set_option maxHeartbeats 8000000 in
theorem modelKeeps_walk (v0 v1 v2 : Value) (w : World) (s0 : Fr.ok1 w (.slice [.int .i64, .int .i64, .int .i64, .int .i64, .int .i64, .int .i64, .int .i64, .int .i64, .int .i64, .int .i64, .slice [.int .i64, .int .i64]]) v0) (s1 : Fr.ok1 w (.slice [.int .i64, .int .i64, .int .i64, .int .i64, .int .i64, .int .i64, .int .i64, .int .i64, .int .i64, .int .i64, .slice [.int .i64, .int .i64]]) v1) (s2 : Fr.okN w [.int .i64, .int .i64] v2) :
    Calls Try.prog 5 #[v0, v1, v2] w fun e w' => e = .returned (.bool true) ∧ Below w.heap.size w w' := by
  obtain ⟨ao, len, cap, rfl, hlc, hcap, hst⟩ := steps_open s0
  obtain ⟨ao2, len2, cap2, rfl, hlc2, hcap2, hst2⟩ := steps_open s1
  obtain ⟨key, val, rfl, hkey⟩ := two_cells s2
  have HST := Lib.hid hst; have HST2 := Lib.hid hst2; have HKEY := Lib.hid hkey
  clear s0 s1 s2 hst hst2 hkey
  refine Calls.veil fun Q HQ => ?_
  go_enter Try.func5, Try.ntmps5
  go_upto_region 1 with fail
  generalize hU : World.alloc _ _ = U
  have hbu : Below w.heap.size w U := by rw [← hU]; exact below_new (Below.refl _ _) _
  have u0 : U.cell? ⟨w.heap.size, 0, none⟩ = some (.int .i64 key) := by rw [← hU]; exact newcell (heap_alloc_new w _) 0 _ rfl
  have u1 : U.cell? ⟨w.heap.size, 1, none⟩ = some (.int .i64 val) := by rw [← hU]; exact newcell (heap_alloc_new w _) 1 _ rfl
  have HBU := Lib.hid hbu
  clear hU hbu
  go_quiet (fail)
  have HBU := Lib.hid (below_drewN HBU.out nq)
  generalize hD : World.drewN U nq = UD at *
  clear u0 u1 hD
  rcases (by omega : 60 < len ∨ len ≤ 60) with j | j
  · go_wp2_with fail
    refine (lives10_calls _).mono ?_; rintro _ w3 ⟨rfl, hb⟩
    go_wp2_with fail
    (try go_ret)
    rw [HQ.out]
    exact ⟨rfl, below_on HBU.out hb⟩
  rcases (by omega : 60 < len2 ∨ len2 ≤ 60) with j2 | j2
  · go_wp2_with fail
    refine (lives10_calls _).mono ?_; rintro _ w3 ⟨rfl, hb⟩
    go_wp2_with fail
    (try go_ret)
    rw [HQ.out]
    exact ⟨rfl, below_on HBU.out hb⟩
  go_wp2_with fail
  refine (mnew10 3 _).mono ?_; rintro _ w1 ⟨tv, rfl, ht, hb1⟩
  have ht : TR w1 tv 3 (fun _ => s0) := ht
  have HT1 := Lib.hid ht
  have HB1 := Lib.hid (below_on HBU.out hb1)
  obtain ⟨q, d, rfl, _, _, _⟩ := ht.slice
  clear ht hb1
  go_upto_region 5 with fail
  generalize hV : World.alloc _ _ = V
  have HKS := Lib.hid (KSt.fresh (st := ⟨[], 3, fun _ => s0⟩) (p := none) (c := 0) (PO.nil _) HT1.out HB1.out hV)
  generalize w1.heap.size = X at *
  clear hV HT1
  go_wp2_with fail
  go_loopw [10] (fun iv wr => ∃ i : Nat, i ≤ len ∧ iv = .int .i64 i ∧ ∃ (st : Sm) (p q : Option Addr) (c d : Nat), Hid (OkN i st ∧ st.n = 3) ∧ Hid (KSt w wr X st p c q d))
    (fun iv _ => len - (intOf iv).toNat)
  case atStart => exact ⟨0, Nat.zero_le _, rfl, ⟨[], 3, fun _ => s0⟩, _, _, _, _, Lib.hid ⟨OkN.new 3 (by omega), rfl⟩, HKS⟩
  case round =>
    clear HKS HB1 HBU
    obtain ⟨i, hi, rfl, st0, p0, q0, rc0, d0, HOK0, HKS0⟩ := hrel
    rcases (by omega : i < len ∨ len ≤ i) with hlt | hge
    · obtain ⟨g, off, rfl, th, cl, hstc⟩ := HST.out i hlt
      have HSC := Lib.hid (hstc.below HKS0.out.hb)
      obtain ⟨o0, o1, o2, o3, o4, o5, r0, r1⟩ := HSC.out
      have hrd := HOK0.out.1.call th cl ⟨r0, r1⟩
      have hn3 := doA_n3 HOK0.out.2 th cl
      have RD := fun (W : World) (k : Below wr.heap.size wr W) => mdo (HKS0.out.hp.1.below k) (HKS0.out.ht.below k) (HOK0.out.1.ok (by omega)) th cl
      obtain ⟨op, key', val', hi2, lim⟩ := cl
      obtain ⟨xx, hxx⟩ : ∃ x, x = doA st0 th ⟨op, key', val', hi2, lim⟩ := ⟨_, rfl⟩
      rw [← hxx] at RD hrd hn3
      obtain ⟨st1, a1⟩ := xx
      have HOK1 := Lib.hid (And.intro hrd hn3)
      simp only [caV] at RD
      have RD := Lib.hid RD
      simp only at o0 o1 o2 o3 o4 o5
      have x0 : wr.cell? ⟨X, 0, none⟩ = some (.slice p0 st0.mp.length rc0) := newcell HKS0.out.hx 0 _ rfl
      have x1 : wr.cell? ⟨X, 1, none⟩ = some (.slice q0 st0.n d0) := newcell HKS0.out.hx 1 _ rfl
      have hii : (i : Int) < len := by omega
      clear hxx hrd hn3 r0 r1 hstc HSC
      go_upto_region 8 with fail
      go_region_with (first | (go_at_call 9; (with_reducible refine (RD.out wr.drew (Below.refl _ wr).drew).mono ?_); rintro _ w9 ⟨mv9, tv9, av9, rfl, hp9, ht9, ha9, hb9⟩; obtain ⟨p9, c9, rfl, _, _⟩ := hp9.1.slice; obtain ⟨q9, d9, rfl, _, _, _⟩ := ht9.slice; obtain ⟨r9, e9, rfl, _, _⟩ := ha9.1.slice; unfold anV; (try simp only); have HP9 := Lib.hid hp9; have HT9 := Lib.hid ht9; clear hp9 ht9 ha9; have HB9 := Lib.hid (below_on (Below.refl _ wr).drew hb9); have hx9 := up HB9.out HKS0.out.hx; have f0 := newcell hx9 0 _ rfl; have f1 := newcell hx9 1 _ rfl; have ff := newfree hx9; clear hx9 hb9) | (fail "NOARM"))
      all_goals
        generalize hW : World.setCell _ _ _ = W
        obtain ⟨hks, _⟩ := HKS0.out.step HB9.out HP9.out HT9.out hW
        have HKS1 := Lib.hid hks
        clear hks hW f0 f1 ff
        go_wp2_with fail
        go_roundw
        case rel => exact ⟨i + 1, by omega, by go_num, st1, _, _, _, _, HOK1, HKS1⟩
        case measure => simp [intOf]; omega
    have x0 : wr.cell? ⟨X, 0, none⟩ = some (.slice p0 st0.mp.length rc0) := newcell HKS0.out.hx 0 _ rfl
    have x1 : wr.cell? ⟨X, 1, none⟩ = some (.slice q0 st0.n d0) := newcell HKS0.out.hx 1 _ rfl
    go_wp2_with fail
    have hrd := HOK0.out.1.call 0 ⟨12, 0, 0, 0, 0⟩ (by decide)
    have hn3 := doA_n3 HOK0.out.2 0 ⟨12, 0, 0, 0, 0⟩
    have RD := mdo HKS0.out.hp.1 HKS0.out.ht (HOK0.out.1.ok (by omega)) 0 ⟨12, 0, 0, 0, 0⟩
    obtain ⟨xx, hxx⟩ : ∃ x, x = doA st0 0 ⟨12, 0, 0, 0, 0⟩ := ⟨_, rfl⟩
    rw [← hxx] at RD hrd hn3
    obtain ⟨st1, a1⟩ := xx
    have HSA1 := Lib.hid hxx
    have HOK1 := Lib.hid (And.intro hrd hn3)
    clear hxx hrd hn3 x0 x1
    simp only [caV] at RD
    refine RD.mono ?_
    rintro _ w9 ⟨mv9, tv9, av9, rfl, hp9, ht9, ha9, hb9⟩
    clear RD
    (try simp only at hp9 ht9 ha9)
    obtain ⟨p1, rc1, rfl, _, _⟩ := hp9.1.slice
    obtain ⟨q1, d1, rfl, _, _, _⟩ := ht9.slice
    obtain ⟨r1, e1, rfl, _, _⟩ := ha9.1.slice
    unfold anV
    (try simp only)
    have HP9 := Lib.hid hp9; have HT9 := Lib.hid ht9; have HA9 := Lib.hid ha9; have HB9 := Lib.hid hb9
    have hx9 := up hb9 HKS0.out.hx
    have f0 := newcell hx9 0 _ rfl; have f1 := newcell hx9 1 _ rfl; have ff := newfree hx9
    have f0n := Ext.on f0; have f1n := Ext.on f1; have ffn := newfreeA hx9
    have hne : X ≠ w9.heap.size := by have := blk_lt hx9; omega
    have hne' : w9.heap.size ≠ X := Ne.symm hne
    clear hp9 ht9 ha9 hb9 hx9
    go_upto_region 10 with fail
    generalize hW : World.setCell _ _ _ = W1
    obtain ⟨hks, hkp⟩ := HKS0.out.step HB9.out HP9.out HT9.out hW
    have HKS1 := Lib.hid hks; have HKP1 := Lib.hid hkp
    clear hks hkp hW f0 f1 ff f0n f1n ffn hne hne' HP9 HT9 HA9 HB9
    have x0 : W1.cell? ⟨X, 0, none⟩ = some (.slice p1 st1.mp.length rc1) := newcell HKS1.out.hx 0 _ rfl
    have x1 : W1.cell? ⟨X, 1, none⟩ = some (.slice q1 st1.n d1) := newcell HKS1.out.hx 1 _ rfl
    go_wp2_with fail
    have hrd := HOK1.out.1.call 0 ⟨13, 0, 0, 0, 0⟩ (by decide)
    have hn3 := doA_n3 HOK1.out.2 0 ⟨13, 0, 0, 0, 0⟩
    have RD := mdo HKS1.out.hp.1 HKS1.out.ht (HOK1.out.1.ok (by omega)) 0 ⟨13, 0, 0, 0, 0⟩
    obtain ⟨xx, hxx⟩ : ∃ x, x = doA st1 0 ⟨13, 0, 0, 0, 0⟩ := ⟨_, rfl⟩
    rw [← hxx] at RD hrd hn3
    obtain ⟨st2, a2⟩ := xx
    have HSA2 := Lib.hid hxx
    have HOK2 := Lib.hid (And.intro hrd hn3)
    clear hxx hrd hn3 x0 x1
    simp only [caV] at RD
    refine RD.mono ?_
    rintro _ w9 ⟨mv9, tv9, av9, rfl, hp9, ht9, ha9, hb9⟩
    clear RD
    (try simp only at hp9 ht9 ha9)
    obtain ⟨p2, rc2, rfl, _, _⟩ := hp9.1.slice
    obtain ⟨q2, d2, rfl, _, _, _⟩ := ht9.slice
    obtain ⟨r2, e2, rfl, _, _⟩ := ha9.1.slice
    unfold anV
    (try simp only)
    have HP9 := Lib.hid hp9; have HT9 := Lib.hid ht9; have HA9 := Lib.hid ha9; have HB9 := Lib.hid hb9
    have hx9 := up hb9 HKS1.out.hx
    have f0 := newcell hx9 0 _ rfl; have f1 := newcell hx9 1 _ rfl; have ff := newfree hx9
    have f0n := Ext.on f0; have f1n := Ext.on f1; have ffn := newfreeA hx9
    have hne : X ≠ w9.heap.size := by have := blk_lt hx9; omega
    have hne' : w9.heap.size ≠ X := Ne.symm hne
    clear hp9 ht9 ha9 hb9 hx9
    go_upto_region 11 with fail
    generalize hW : World.setCell _ _ _ = W2
    obtain ⟨hks, hkp⟩ := HKS1.out.step HB9.out HP9.out HT9.out hW
    have HKS2 := Lib.hid hks; have HKP2 := Lib.hid hkp
    clear hks hkp hW f0 f1 ff f0n f1n ffn hne hne' HP9 HT9 HA9 HB9
    have hj2 := do_ready (st := st0) (by have := HOK0.out.2; omega)
    rw [← HSA1.out] at hj2
    simp only at hj2
    rw [← HSA2.out] at hj2
    simp only at hj2
    have HJ2 := Lib.hid hj2
    clear hj2
    have x0 : W2.cell? ⟨X, 0, none⟩ = some (.slice p2 st2.mp.length rc2) := newcell HKS2.out.hx 0 _ rfl
    have x1 : W2.cell? ⟨X, 1, none⟩ = some (.slice q2 st2.n d2) := newcell HKS2.out.hx 1 _ rfl
    go_wp2_with fail
    have hrd := HOK2.out.1.call 0 ⟨2, key, 0, 0, 0⟩ HKEY.out
    have hn3 := doA_n3 HOK2.out.2 0 ⟨2, key, 0, 0, 0⟩
    have RD := mdo HKS2.out.hp.1 HKS2.out.ht (HOK2.out.1.ok (by omega)) 0 ⟨2, key, 0, 0, 0⟩
    obtain ⟨xx, hxx⟩ : ∃ x, x = doA st2 0 ⟨2, key, 0, 0, 0⟩ := ⟨_, rfl⟩
    rw [← hxx] at RD hrd hn3
    obtain ⟨st3, a3⟩ := xx
    have HSA3 := Lib.hid hxx
    have HOK3 := Lib.hid (And.intro hrd hn3)
    clear hxx hrd hn3 x0 x1
    simp only [caV] at RD
    refine RD.mono ?_
    rintro _ w9 ⟨mv9, tv9, av9, rfl, hp9, ht9, ha9, hb9⟩
    clear RD
    (try simp only at hp9 ht9 ha9)
    obtain ⟨p3, rc3, rfl, _, _⟩ := hp9.1.slice
    obtain ⟨q3, d3, rfl, _, _, _⟩ := ht9.slice
    obtain ⟨r3, e3, rfl, _, _⟩ := ha9.1.slice
    unfold anV
    (try simp only)
    have HP9 := Lib.hid hp9; have HT9 := Lib.hid ht9; have HA9 := Lib.hid ha9; have HB9 := Lib.hid hb9
    have hx9 := up hb9 HKS2.out.hx
    have f0 := newcell hx9 0 _ rfl; have f1 := newcell hx9 1 _ rfl; have ff := newfree hx9
    have f0n := Ext.on f0; have f1n := Ext.on f1; have ffn := newfreeA hx9
    have hne : X ≠ w9.heap.size := by have := blk_lt hx9; omega
    have hne' : w9.heap.size ≠ X := Ne.symm hne
    clear hp9 ht9 ha9 hb9 hx9
    go_upto_region 12 with fail
    generalize hW : World.setCell _ _ _ = W3
    obtain ⟨hks, hkp, hay, hpa, hyn⟩ := HKS2.out.ans HB9.out HP9.out HT9.out HA9.out hW
    have HKS3 := Lib.hid hks; have HKP3 := Lib.hid hkp; have HY3 := Lib.hid hay; have HJ3 := Lib.hid hpa; have HYN3 := Lib.hid hyn
    clear hks hkp hay hpa hyn hW f0 f1 ff f0n f1n ffn hne hne' HP9 HT9 HA9 HB9
    generalize w9.heap.size = Y3 at *
    (try clear w9)
    have hq3 := HSA3.out.trans (do_look (st := st2) (by have := HOK2.out.2; omega) HJ2.out.1 key)
    simp only [Prod.mk.injEq] at hq3
    have HQ3 := Lib.hid hq3
    have HR3 := Lib.hid (show (st3.th 0).j = true ∧ (st3.th 0).o = false by rw [hq3.1]; exact HJ2.out)
    clear hq3 HJ2
    have x0 : W3.cell? ⟨X, 0, none⟩ = some (.slice p3 st3.mp.length rc3) := newcell HKS3.out.hx 0 _ rfl
    have x1 : W3.cell? ⟨X, 1, none⟩ = some (.slice q3 st3.n d3) := newcell HKS3.out.hx 1 _ rfl
    go_wp2_with fail
    have hrd := HOK3.out.1.call 0 ⟨0, key, val, 0, 0⟩ HKEY.out
    have hn3 := doA_n3 HOK3.out.2 0 ⟨0, key, val, 0, 0⟩
    have RD := mdo HKS3.out.hp.1 HKS3.out.ht (HOK3.out.1.ok (by omega)) 0 ⟨0, key, val, 0, 0⟩
    obtain ⟨xx, hxx⟩ : ∃ x, x = doA st3 0 ⟨0, key, val, 0, 0⟩ := ⟨_, rfl⟩
    rw [← hxx] at RD hrd hn3
    obtain ⟨st4, a4⟩ := xx
    have HSA4 := Lib.hid hxx
    have HOK4 := Lib.hid (And.intro hrd hn3)
    clear hxx hrd hn3 x0 x1
    simp only [caV] at RD
    refine RD.mono ?_
    rintro _ w9 ⟨mv9, tv9, av9, rfl, hp9, ht9, ha9, hb9⟩
    clear RD
    (try simp only at hp9 ht9 ha9)
    obtain ⟨p4, rc4, rfl, _, _⟩ := hp9.1.slice
    obtain ⟨q4, d4, rfl, _, _, _⟩ := ht9.slice
    obtain ⟨r4, e4, rfl, _, _⟩ := ha9.1.slice
    unfold anV
    (try simp only)
    have HP9 := Lib.hid hp9; have HT9 := Lib.hid ht9; have HA9 := Lib.hid ha9; have HB9 := Lib.hid hb9
    have hx9 := up hb9 HKS3.out.hx
    have f0 := newcell hx9 0 _ rfl; have f1 := newcell hx9 1 _ rfl; have ff := newfree hx9
    have f0n := Ext.on f0; have f1n := Ext.on f1; have ffn := newfreeA hx9
    have hne : X ≠ w9.heap.size := by have := blk_lt hx9; omega
    have hne' : w9.heap.size ≠ X := Ne.symm hne
    clear hp9 ht9 ha9 hb9 hx9
    go_upto_region 13 with fail
    generalize hW : World.setCell _ _ _ = W4
    obtain ⟨hks, hkp, hay, hpa, hyn⟩ := HKS3.out.ans HB9.out HP9.out HT9.out HA9.out hW
    have HKS4 := Lib.hid hks; have HKP4 := Lib.hid hkp; have HY4 := Lib.hid hay; have HJ4 := Lib.hid hpa; have HYN4 := Lib.hid hyn
    clear hks hkp hay hpa hyn hW f0 f1 ff f0n f1n ffn hne hne' HP9 HT9 HA9 HB9
    generalize w9.heap.size = Y4 at *
    (try clear w9)
    have hq4 := HSA4.out.trans (do_ins (st := st3) (by have := HOK3.out.2; omega) HR3.out.1 key val)
    simp only [Prod.mk.injEq] at hq4
    have HQ4 := Lib.hid hq4
    have HR4 := Lib.hid (show (st4.th 0).j = true ∧ (st4.th 0).o = false by rw [hq4.1]; exact HR3.out)
    have HY3 := Lib.hid (HKP4.out.blk HY3.out HYN3.out); have HJ3 := Lib.hid (HJ3.out.np HKP4.out.np)
    clear hq4 HR3
    go_cut [100] from 83 to 99 (fun p100 wc => p100 = .bool false ∧ wc = W4)
    case first =>
      have hq3 := HQ3.out; have hq4 := HQ4.out.2
      rw [hq3.1] at hq4
      have g0 := newcell HY3.out 0 _ rfl; have h0 := newcell HY4.out 0 _ rfl
      cases hh : hereB st2.mp key with
      | true =>
        rw [hh, if_pos rfl] at hq4
        have e3 : a3.kind = 1 := by rw [hq3.2]; unfold atL; rw [hh]; rfl
        rw [e3] at g0; rw [hq4] at h0
        simp only at h0
        clear hq3 hq4 e3 hh
        go_wp2_with fail
        go_meet
        case rel => exact ⟨rfl, rfl⟩
      | false =>
        rw [hh, if_neg (by decide)] at hq4
        have e3 : a3.kind = 4 := by rw [hq3.2]; unfold atL; rw [hh]; rfl
        rw [e3] at g0; rw [hq4] at h0
        simp only at h0
        clear hq3 hq4 e3 hh
        go_wp2_with fail
        go_meet
        case rel => exact ⟨rfl, rfl⟩
    case rest =>
    obtain ⟨rfl, rfl⟩ := hcut
    have x0 : wc.cell? ⟨X, 0, none⟩ = some (.slice p4 st4.mp.length rc4) := newcell HKS4.out.hx 0 _ rfl
    have x1 : wc.cell? ⟨X, 1, none⟩ = some (.slice q4 st4.n d4) := newcell HKS4.out.hx 1 _ rfl
    go_wp2_with fail
    have hrd := HOK4.out.1.call 0 ⟨2, key, 0, 0, 0⟩ HKEY.out
    have hn3 := doA_n3 HOK4.out.2 0 ⟨2, key, 0, 0, 0⟩
    have RD := mdo HKS4.out.hp.1 HKS4.out.ht (HOK4.out.1.ok (by omega)) 0 ⟨2, key, 0, 0, 0⟩
    obtain ⟨xx, hxx⟩ : ∃ x, x = doA st4 0 ⟨2, key, 0, 0, 0⟩ := ⟨_, rfl⟩
    rw [← hxx] at RD hrd hn3
    obtain ⟨st5, a5⟩ := xx
    have HSA5 := Lib.hid hxx
    have HOK5 := Lib.hid (And.intro hrd hn3)
    clear hxx hrd hn3 x0 x1
    simp only [caV] at RD
    refine RD.mono ?_
    rintro _ w9 ⟨mv9, tv9, av9, rfl, hp9, ht9, ha9, hb9⟩
    clear RD
    (try simp only at hp9 ht9 ha9)
    obtain ⟨p5, rc5, rfl, _, _⟩ := hp9.1.slice
    obtain ⟨q5, d5, rfl, _, _, _⟩ := ht9.slice
    obtain ⟨r5, e5, rfl, _, _⟩ := ha9.1.slice
    unfold anV
    (try simp only)
    have HP9 := Lib.hid hp9; have HT9 := Lib.hid ht9; have HA9 := Lib.hid ha9; have HB9 := Lib.hid hb9
    have hx9 := up hb9 HKS4.out.hx
    have f0 := newcell hx9 0 _ rfl; have f1 := newcell hx9 1 _ rfl; have ff := newfree hx9
    have f0n := Ext.on f0; have f1n := Ext.on f1; have ffn := newfreeA hx9
    have hne : X ≠ w9.heap.size := by have := blk_lt hx9; omega
    have hne' : w9.heap.size ≠ X := Ne.symm hne
    clear hp9 ht9 ha9 hb9 hx9
    go_upto_region 16 with fail
    generalize hW : World.setCell _ _ _ = W5
    obtain ⟨hks, hkp, hay, hpa, hyn⟩ := HKS4.out.ans HB9.out HP9.out HT9.out HA9.out hW
    have HKS5 := Lib.hid hks; have HKP5 := Lib.hid hkp; have HY5 := Lib.hid hay; have HJ5 := Lib.hid hpa; have HYN5 := Lib.hid hyn
    clear hks hkp hay hpa hyn hW f0 f1 ff f0n f1n ffn hne hne' HP9 HT9 HA9 HB9
    generalize w9.heap.size = Y5 at *
    (try clear w9)
    have hq5 := HSA5.out.trans (do_look (st := st4) (by have := HOK4.out.2; omega) HR4.out.1 key)
    simp only [Prod.mk.injEq] at hq5
    have HQ5 := Lib.hid hq5
    have HR5 := Lib.hid (show (st5.th 0).j = true ∧ (st5.th 0).o = false by rw [hq5.1]; exact HR4.out)
    have HY3 := Lib.hid (HKP5.out.blk HY3.out HYN3.out); have HJ3 := Lib.hid (HJ3.out.np HKP5.out.np)
    clear hq5 HR4 HY4 HJ4
    go_cut [132] from 108 to 131 (fun p132 wd => p132 = .bool false ∧ Below W5.heap.size W5 wd)
    case first =>
      have hq3 := HQ3.out; have hq4 := HQ4.out.1; have hq5 := HQ5.out.2
      have em : st4.mp = putL st2.mp (key, val) := by rw [hq4, hq3.1]
      rw [em] at hq5
      cases hh : hereB st2.mp key with
      | true =>
        rw [at_put_old hh] at hq5
        have e3 : ∃ k0 v0, a3 = ⟨1, k0, v0, 0, []⟩ := by rw [hq3.2]; unfold atL; rw [hh]; exact ⟨_, _, rfl⟩
        obtain ⟨k0, v0, e3⟩ := e3
        have e5 : a5 = a3 := hq5.trans hq3.2.symm
        have hy3 := HY3.out; have hy5 := HY5.out; have hj3 := HJ3.out.1; have hj5 := HJ5.out.1
        rw [e5] at hy5 hj5
        rw [e3] at hy3 hj3 hy5 hj5
        simp only at hy3 hy5 hj3 hj5
        have HV3 := Lib.hid hj3; have HV5 := Lib.hid hj5
        have g0 := newcell hy3 0 _ rfl; have g1 := newcell hy3 1 _ rfl; have g2 := newcell hy3 2 _ rfl; have g3 := newcell hy3 3 _ rfl; have g4 := newcell hy3 4 _ rfl
        have h0 := newcell hy5 0 _ rfl; have h1 := newcell hy5 1 _ rfl; have h2 := newcell hy5 2 _ rfl; have h3 := newcell hy5 3 _ rfl; have h4 := newcell hy5 4 _ rfl
        clear hq3 hq4 hq5 em hh e3 e5 hy3 hy5 hj3 hj5
        go_wp2_with fail
        refine (csame 1 k0 v0 0 _ [] 1 k0 v0 0 _ [] W5 HV5.out HV3.out (by simp)).mono ?_; rintro _ wd ⟨rfl, hbd⟩
        rw [sameAB_refl]
        have HBD := Lib.hid hbd
        clear hbd
        go_wp2_with fail
        go_meet
        case rel => exact ⟨rfl, HBD.out⟩
      | false =>
        rw [at_put_new (by rw [← hq3.1]; exact HOK3.out.1.mr) hh] at hq5
        have e3 : a3.kind = 4 := by rw [hq3.2]; unfold atL; rw [hh]; rfl
        have g0 := newcell HY3.out 0 _ rfl; have h0 := newcell HY5.out 0 _ rfl; have h2 := newcell HY5.out 2 _ rfl
        rw [e3] at g0
        rw [hq5] at h0 h2
        simp only [foundA] at h0 h2
        clear hq3 hq4 hq5 em hh e3
        go_wp2_with fail
        go_meet
        case rel => exact ⟨rfl, Below.refl _ _⟩
    case rest =>
    obtain ⟨rfl, hbd⟩ := hcut
    have HKS5 := Lib.hid (HKS5.out.below hbd)
    have HY5 := Lib.hid (up hbd HY5.out); have HJ5 := Lib.hid (HJ5.out.below hbd)
    clear hbd HY3 HJ3
    have x0 : wc.cell? ⟨X, 0, none⟩ = some (.slice p5 st5.mp.length rc5) := newcell HKS5.out.hx 0 _ rfl
    have x1 : wc.cell? ⟨X, 1, none⟩ = some (.slice q5 st5.n d5) := newcell HKS5.out.hx 1 _ rfl
    go_wp2_with fail
    have hrd := HOK5.out.1.call 0 ⟨3, -9223372036854775808, 0, 9223372036854775807, 1000⟩ (by decide)
    have hn3 := doA_n3 HOK5.out.2 0 ⟨3, -9223372036854775808, 0, 9223372036854775807, 1000⟩
    have RD := mdo HKS5.out.hp.1 HKS5.out.ht (HOK5.out.1.ok (by omega)) 0 ⟨3, -9223372036854775808, 0, 9223372036854775807, 1000⟩
    obtain ⟨xx, hxx⟩ : ∃ x, x = doA st5 0 ⟨3, -9223372036854775808, 0, 9223372036854775807, 1000⟩ := ⟨_, rfl⟩
    rw [← hxx] at RD hrd hn3
    obtain ⟨st6, a6⟩ := xx
    have HSA6 := Lib.hid hxx
    have HOK6 := Lib.hid (And.intro hrd hn3)
    clear hxx hrd hn3 x0 x1
    simp only [caV] at RD
    refine RD.mono ?_
    rintro _ w9 ⟨mv9, tv9, av9, rfl, hp9, ht9, ha9, hb9⟩
    clear RD
    (try simp only at hp9 ht9 ha9)
    obtain ⟨p6, rc6, rfl, _, _⟩ := hp9.1.slice
    obtain ⟨q6, d6, rfl, _, _, _⟩ := ht9.slice
    obtain ⟨r6, e6, rfl, _, _⟩ := ha9.1.slice
    unfold anV
    (try simp only)
    have HP9 := Lib.hid hp9; have HT9 := Lib.hid ht9; have HA9 := Lib.hid ha9; have HB9 := Lib.hid hb9
    have hx9 := up hb9 HKS5.out.hx
    have f0 := newcell hx9 0 _ rfl; have f1 := newcell hx9 1 _ rfl; have ff := newfree hx9
    have f0n := Ext.on f0; have f1n := Ext.on f1; have ffn := newfreeA hx9
    have hne : X ≠ w9.heap.size := by have := blk_lt hx9; omega
    have hne' : w9.heap.size ≠ X := Ne.symm hne
    clear hp9 ht9 ha9 hb9 hx9
    go_upto_region 19 with fail
    generalize hW : World.setCell _ _ _ = W6
    obtain ⟨hks, hkp, hay, hpa, hyn⟩ := HKS5.out.ans HB9.out HP9.out HT9.out HA9.out hW
    have HKS6 := Lib.hid hks; have HKP6 := Lib.hid hkp; have HY6 := Lib.hid hay; have HJ6 := Lib.hid hpa; have HYN6 := Lib.hid hyn
    clear hks hkp hay hpa hyn hW f0 f1 ff f0n f1n ffn hne hne' HP9 HT9 HA9 HB9
    generalize w9.heap.size = Y6 at *
    (try clear w9)
    have hal := doA_ps HOK5.out.1 0 ⟨3, -9223372036854775808, 0, 9223372036854775807, 1000⟩
    rw [← HSA6.out] at hal
    simp only at hal
    have hq6 := HSA6.out.trans (do_range (st := st5) (by have := HOK5.out.2; omega) HR5.out.1)
    simp only [Prod.mk.injEq] at hq6
    have HQ6 := Lib.hid hq6
    have HR6 := Lib.hid (show (st6.th 0).j = true ∧ (st6.th 0).o = false by rw [hq6.1]; exact HR5.out)
    have HAL := Lib.hid (show a6.ps.length ≤ 100 by omega)
    have HY5 := Lib.hid (HKP6.out.blk HY5.out HYN5.out); have HJ5 := Lib.hid (HJ5.out.np HKP6.out.np)
    clear hq6 HR5 hal
    have x0 : W6.cell? ⟨X, 0, none⟩ = some (.slice p6 st6.mp.length rc6) := newcell HKS6.out.hx 0 _ rfl
    have x1 : W6.cell? ⟨X, 1, none⟩ = some (.slice q6 st6.n d6) := newcell HKS6.out.hx 1 _ rfl
    go_wp2_with fail
    have hrd := HOK6.out.1.call 0 ⟨9, -9223372036854775808, 0, 9223372036854775807, 0⟩ (by decide)
    have hn3 := doA_n3 HOK6.out.2 0 ⟨9, -9223372036854775808, 0, 9223372036854775807, 0⟩
    have RD := mdo HKS6.out.hp.1 HKS6.out.ht (HOK6.out.1.ok (by omega)) 0 ⟨9, -9223372036854775808, 0, 9223372036854775807, 0⟩
    obtain ⟨xx, hxx⟩ : ∃ x, x = doA st6 0 ⟨9, -9223372036854775808, 0, 9223372036854775807, 0⟩ := ⟨_, rfl⟩
    rw [← hxx] at RD hrd hn3
    obtain ⟨st7, a7⟩ := xx
    have HSA7 := Lib.hid hxx
    have HOK7 := Lib.hid (And.intro hrd hn3)
    clear hxx hrd hn3 x0 x1
    simp only [caV] at RD
    refine RD.mono ?_
    rintro _ w9 ⟨mv9, tv9, av9, rfl, hp9, ht9, ha9, hb9⟩
    clear RD
    (try simp only at hp9 ht9 ha9)
    obtain ⟨p7, rc7, rfl, _, _⟩ := hp9.1.slice
    obtain ⟨q7, d7, rfl, _, _, _⟩ := ht9.slice
    obtain ⟨r7, e7, rfl, _, _⟩ := ha9.1.slice
    unfold anV
    (try simp only)
    have HP9 := Lib.hid hp9; have HT9 := Lib.hid ht9; have HA9 := Lib.hid ha9; have HB9 := Lib.hid hb9
    have hx9 := up hb9 HKS6.out.hx
    have f0 := newcell hx9 0 _ rfl; have f1 := newcell hx9 1 _ rfl; have ff := newfree hx9
    have f0n := Ext.on f0; have f1n := Ext.on f1; have ffn := newfreeA hx9
    have hne : X ≠ w9.heap.size := by have := blk_lt hx9; omega
    have hne' : w9.heap.size ≠ X := Ne.symm hne
    clear hp9 ht9 ha9 hb9 hx9
    go_upto_region 20 with fail
    generalize hW : World.setCell _ _ _ = W7
    obtain ⟨hks, hkp⟩ := HKS6.out.step HB9.out HP9.out HT9.out hW
    have HKS7 := Lib.hid hks; have HKP7 := Lib.hid hkp
    clear hks hkp hW f0 f1 ff f0n f1n ffn hne hne' HP9 HT9 HA9 HB9
    have hq7 := HSA7.out.trans (do_open (st := st6) (by have := HOK6.out.2; omega) HR6.out.1 HR6.out.2)
    simp only [Prod.mk.injEq] at hq7
    have HZ := Lib.hid (show a6.kind = 3 ∧ st7.th 0 = ⟨true, true, a6.ps, 0⟩ ∧ a5 = foundA (atL st7.mp key) from by
      have hq6 := HQ6.out
      refine ⟨by rw [hq6.2], ?_, ?_⟩
      · rw [hq7.1, hq6.2]
        simp only [updT, if_true]
        rw [hq6.1, cut_all (by have := HOK5.out.1.ml; omega)]
      · rw [hq7.1]
        simp only
        rw [hq6.1, HQ5.out.1]
        exact HQ5.out.2)
    have HY5 := Lib.hid (HKP7.out.blk HY5.out HYN5.out); have HJ5 := Lib.hid (HJ5.out.np HKP7.out.np)
    have HY6 := Lib.hid (HKP7.out.blk HY6.out HYN6.out); have HJ6 := Lib.hid (HJ6.out.np HKP7.out.np)
    clear hq7 HR6 HQ6 HQ5 HQ4 HQ3 HSA1 HSA2 HSA3 HSA4 HSA5 HSA6 HSA7
    go_wp2_with fail
    go_loopw [15] (fun iv wr => ∃ jj : Nat, jj ≤ len2 ∧ iv = .int .i64 jj ∧ ∃ (st : Sm) (p q : Option Addr) (c d : Nat), Hid (OkN (i + 7 + jj) st ∧ st.n = 3) ∧ Hid (st.th 0 = ⟨true, true, a6.ps, 0⟩ ∧ a5 = foundA (atL st.mp key)) ∧ Hid (KSt w wr X st p c q d) ∧ Hid (Kept W7 wr X))
      (fun iv _ => len2 - (intOf iv).toNat)
    case atStart => exact ⟨0, Nat.zero_le _, rfl, st7, _, _, _, _, HOK7, Lib.hid HZ.out.2, HKS7, Lib.hid (Kept.refl _ _)⟩
    case round =>
      obtain ⟨jj, hj, rfl, st8, p8, q8, rc8, d8, HOK8, HZ8, HKS8, HKP8⟩ := hrel
      rcases (by omega : jj < len2 ∨ len2 ≤ jj) with hlt2 | hge2
      · obtain ⟨g, off, rfl, th, cl, hstc⟩ := HST2.out jj hlt2
        have HSC := Lib.hid (hstc.below HKS8.out.hb)
        obtain ⟨o0, o1, o2, o3, o4, o5, r0, r1⟩ := HSC.out
        have hrd := HOK8.out.1.call th cl ⟨r0, r1⟩
        have hn3 := doA_n3 HOK8.out.2 th cl
        have hoth := fun (ht : th ≠ 0) (hk : cl.key ≠ key) => doA_other HOK8.out.1.mr (c := cl) ht hk
        have RD := fun (W : World) (k : Below wr.heap.size wr W) => mdo (HKS8.out.hp.1.below k) (HKS8.out.ht.below k) (HOK8.out.1.ok (by omega)) th cl
        obtain ⟨op, key', val', hi2, lim⟩ := cl
        obtain ⟨xx, hxx⟩ : ∃ x, x = doA st8 th ⟨op, key', val', hi2, lim⟩ := ⟨_, rfl⟩
        rw [← hxx] at RD hrd hn3 hoth
        obtain ⟨st9, a9⟩ := xx
        have HOK9 := Lib.hid (And.intro hrd hn3)
        have HOTH := Lib.hid hoth
        simp only [caV] at RD
        have RD := Lib.hid RD
        simp only at o0 o1 o2 o3 o4 o5
        have hii : (jj : Int) < len2 := by omega
        clear hxx hrd hn3 r0 r1 hstc HSC hoth
        rcases Decidable.em (th = 0) with hth | hth
        · rw [hth] at o0
          clear RD hth HOTH HOK9
          go_wp2_with fail
          go_roundw
          case rel => exact ⟨jj + 1, by omega, by go_num, st8, _, _, _, _, Lib.hid ⟨HOK8.out.1.more, HOK8.out.2⟩, HZ8, HKS8, HKP8⟩
          case measure => simp [intOf]; omega
        rcases Decidable.em (key' = key) with hk | hk
        · rw [hk] at o2
          clear RD hk HOTH HOK9
          go_wp2_with fail
          go_roundw
          case rel => exact ⟨jj + 1, by omega, by go_num, st8, _, _, _, _, Lib.hid ⟨HOK8.out.1.more, HOK8.out.2⟩, HZ8, HKS8, HKP8⟩
          case measure => simp [intOf]; omega
        have HO := Lib.hid (HOTH.out hth hk)
        clear HOTH
        have x0 : wr.cell? ⟨X, 0, none⟩ = some (.slice p8 st8.mp.length rc8) := newcell HKS8.out.hx 0 _ rfl
        have x1 : wr.cell? ⟨X, 1, none⟩ = some (.slice q8 st8.n d8) := newcell HKS8.out.hx 1 _ rfl
        have hq1 : (th == 0) = false := by simpa using hth
        have hq2 : (key' == key) = false := by simpa using hk
        go_upto_region 24 with fail
        go_region_with (first | (go_at_call 9; (with_reducible refine (RD.out wr.drew (Below.refl _ wr).drew).mono ?_); rintro _ w9 ⟨mv9, tv9, av9, rfl, hp9, ht9, ha9, hb9⟩; obtain ⟨p9, c9, rfl, _, _⟩ := hp9.1.slice; obtain ⟨q9, d9, rfl, _, _, _⟩ := ht9.slice; obtain ⟨r9, e9, rfl, _, _⟩ := ha9.1.slice; unfold anV; (try simp only); have HP9 := Lib.hid hp9; have HT9 := Lib.hid ht9; clear hp9 ht9 ha9; have HB9 := Lib.hid (below_on (Below.refl _ wr).drew hb9); have hx9 := up HB9.out HKS8.out.hx; have f0 := newcell hx9 0 _ rfl; have f1 := newcell hx9 1 _ rfl; have ff := newfree hx9; clear hx9 hb9) | (fail "NOARM"))
        all_goals
          generalize hW : World.setCell _ _ _ = W
          obtain ⟨hks, hkp⟩ := HKS8.out.step HB9.out HP9.out HT9.out hW
          have HKS9 := Lib.hid hks; have HKP9 := Lib.hid (HKP8.out.trans hkp)
          clear hks hkp hW f0 f1 ff
          go_wp2_with fail
          go_roundw
          case rel => exact ⟨jj + 1, by omega, by go_num, st9, _, _, _, _, HOK9, Lib.hid ⟨HO.out.1.trans HZ8.out.1, by rw [HO.out.2]; exact HZ8.out.2⟩, HKS9, HKP9⟩
          case measure => simp [intOf]; omega
      have HY5 := Lib.hid (HKP8.out.blk HY5.out HYN5.out); have HJ5 := Lib.hid (HJ5.out.np HKP8.out.np)
      have HY6 := Lib.hid (HKP8.out.blk HY6.out HYN6.out); have HJ6 := Lib.hid (HJ6.out.np HKP8.out.np)
      have x0 : wr.cell? ⟨X, 0, none⟩ = some (.slice p8 st8.mp.length rc8) := newcell HKS8.out.hx 0 _ rfl
      have x1 : wr.cell? ⟨X, 1, none⟩ = some (.slice q8 st8.n d8) := newcell HKS8.out.hx 1 _ rfl
      go_wp2_with fail
      have RD := mdo HKS8.out.hp.1 HKS8.out.ht (HOK8.out.1.ok (by omega)) 0 ⟨2, key, 0, 0, 0⟩
      rw [do_look (st := st8) (by have := HOK8.out.2; omega) (by rw [HZ8.out.1]) key] at RD
      rw [← HZ8.out.2] at RD
      simp only [caV] at RD
      refine RD.mono ?_
      rintro _ w9 ⟨mv9, tv9, av9, rfl, hp9, ht9, ha9, hb9⟩
      clear RD x0 x1
      (try simp only at hp9 ht9 ha9)
      obtain ⟨p9, rc9, rfl, _, _⟩ := hp9.1.slice
      obtain ⟨q9, d9, rfl, _, _, _⟩ := ht9.slice
      obtain ⟨r9, e9, rfl, _, _⟩ := ha9.1.slice
      unfold anV
      (try simp only)
      have HA9 := Lib.hid ha9; have HB9 := Lib.hid hb9
      clear hp9 ht9 ha9 hb9
      go_upto_region 26 with fail
      generalize hW : World.alloc (World.alloc _ _) _ = WA
      obtain ⟨_, h17, hba⟩ := heap2e hW
      have HBA := Lib.hid (below_on HB9.out hba)
      have HKS9 := Lib.hid (HKS8.out.below HBA.out)
      have HY5 := Lib.hid (up HBA.out HY5.out); have HJ5 := Lib.hid (HJ5.out.below HBA.out)
      have HY6 := Lib.hid (up HBA.out HY6.out); have HJ6 := Lib.hid (HJ6.out.below HBA.out)
      have HA9 := Lib.hid (HA9.out.below hba)
      clear hW hba
      have c0 := newcell h17 0 _ rfl; have c1 := newcell h17 1 _ rfl; have c2 := newcell h17 2 _ rfl; have c3 := newcell h17 3 _ rfl; have c4 := newcell h17 4 _ rfl
      have g0 := newcell HY5.out 0 _ rfl; have g1 := newcell HY5.out 1 _ rfl; have g2 := newcell HY5.out 2 _ rfl; have g3 := newcell HY5.out 3 _ rfl; have g4 := newcell HY5.out 4 _ rfl
      clear h17
      go_wp2_with fail
      refine (csame a5.kind a5.key a5.val a5.n _ a5.ps a5.kind a5.key a5.val a5.n _ a5.ps WA HA9.out.1 HJ5.out.1 (by rw [HZ.out.2.2, foundA_ps]; simp)).mono ?_; rintro _ wb ⟨rfl, hbb⟩
      rw [sameAB_refl]
      have HKS9 := Lib.hid (HKS9.out.below hbb)
      have HY6 := Lib.hid (up hbb HY6.out); have HJ6 := Lib.hid (HJ6.out.below hbb)
      clear hbb c0 c1 c2 c3 c4 g0 g1 g2 g3 g4 HBA HA9 HB9 HY5 HJ5
      have h0 : wb.cell? ⟨Y6, 0, none⟩ = some (.int .i64 a6.kind) := newcell HY6.out 0 _ rfl
      rw [HZ.out.1] at h0
      go_upto_region 28 with fail
      clear h0
      go_wp2_with fail
      go_loopw [18] (fun kv wr => ∃ k : Nat, k ≤ a6.ps.length ∧ kv = .int .i64 k ∧ ∃ (st : Sm) (p q : Option Addr) (c d : Nat), Hid (OkN (i + 7 + jj + k) st ∧ st.n = 3) ∧ Hid (st.th 0 = ⟨true, true, a6.ps, k⟩) ∧ Hid (KSt w wr X st p c q d) ∧ Hid (Kept wb wr X))
        (fun kv _ => a6.ps.length - (intOf kv).toNat)
      case atStart => exact ⟨0, Nat.zero_le _, rfl, st8, _, _, _, _, HOK8, Lib.hid HZ8.out.1, HKS9, Lib.hid (Kept.refl _ _)⟩
      case round =>
        obtain ⟨k, hk, rfl, st, p, q, c, d, HOKL, HZL, HKSL, HKPL⟩ := hrel
        have HALL := HAL.out
        have HY6 := Lib.hid (HKPL.out.blk HY6.out HYN6.out); have HJ6 := Lib.hid (HJ6.out.np HKPL.out.np)
        have t4 := newcell HY6.out 4 _ rfl
        have x0 : wr.cell? ⟨X, 0, none⟩ = some (.slice p st.mp.length c) := newcell HKSL.out.hx 0 _ rfl
        have x1 : wr.cell? ⟨X, 1, none⟩ = some (.slice q st.n d) := newcell HKSL.out.hx 1 _ rfl
        have hki : (k : Int) ≤ a6.ps.length := by omega
        go_wp2_with fail
        have RD := mdo HKSL.out.hp.1 HKSL.out.ht (HOKL.out.1.ok (by omega)) 0 ⟨10, 0, 0, 0, 0⟩
        have hdn := do_next (st := st) (by have := HOKL.out.2; omega) HZL.out
        have hrd := HOKL.out.1.call 0 ⟨10, 0, 0, 0, 0⟩ (by decide)
        have hn3 := doA_n3 HOKL.out.2 0 ⟨10, 0, 0, 0, 0⟩
        obtain ⟨xx, hxx⟩ : ∃ x, x = doA st 0 ⟨10, 0, 0, 0, 0⟩ := ⟨_, rfl⟩
        rw [← hxx] at RD hrd hn3 hdn
        obtain ⟨stn, an⟩ := xx
        have HDN := Lib.hid hdn
        have HOKN := Lib.hid (And.intro hrd hn3)
        clear hxx hrd hn3 hdn x0 x1 t4
        simp only [caV] at RD
        refine RD.mono ?_
        rintro _ w9 ⟨mv9, tv9, av9, rfl, hp9, ht9, ha9, hb9⟩
        clear RD
        (try simp only at hp9 ht9 ha9)
        obtain ⟨p9, rc9, rfl, _, _⟩ := hp9.1.slice
        obtain ⟨q9, d9, rfl, _, _, _⟩ := ht9.slice
        obtain ⟨r9, e9, rfl, _, _⟩ := ha9.1.slice
        unfold anV
        (try simp only)
        have HP9 := Lib.hid hp9; have HT9 := Lib.hid ht9; have HA9 := Lib.hid ha9; have HB9 := Lib.hid hb9
        clear hp9 ht9 ha9 hb9
        go_upto_region 32 with fail
        generalize hW : World.alloc (World.alloc _ _) _ = WA
        obtain ⟨h19, h20, hba⟩ := heap2e hW
        have HBA := Lib.hid (below_on HB9.out hba)
        have hxa := up HBA.out HKSL.out.hx
        have s0 := newcell h19 0 _ rfl; have s1 := newcell h19 1 _ rfl
        have f0 := newcell hxa 0 _ rfl; have f1 := newcell hxa 1 _ rfl; have ff := newfree hxa
        have H20 := Lib.hid h20; have HP9 := Lib.hid (HP9.out.below hba); have HT9 := Lib.hid (HT9.out.below hba)
        have HZN := Lib.hid (show w9.heap.size + 1 ≠ X by have := blk_lt (up HB9.out HKSL.out.hx); omega)
        clear hW hba h19 h20 hxa
        go_upto_region 33 with fail
        generalize hW : World.setCell _ _ _ = WN
        obtain ⟨hks, hkp⟩ := HKSL.out.step HBA.out HP9.out HT9.out hW
        have H20 := Lib.hid ((show Kept WA WN X from ((show KSt w WA X st p c q d from HKSL.out.below HBA.out).step (Below.refl _ _) HP9.out HT9.out hW).2).blk H20.out HZN.out)
        have HKSN := Lib.hid hks; have HKPN := Lib.hid (HKPL.out.trans hkp)
        have HY6 := Lib.hid (hkp.blk HY6.out HYN6.out); have HJ6 := Lib.hid (HJ6.out.np hkp.np)
        clear hW hks hkp s0 s1 f0 f1 ff HP9 HT9 HBA HB9
        generalize w9.heap.size + 1 = Y20 at *
        have t4 := newcell HY6.out 4 _ rfl
        rcases (by omega : k < a6.ps.length ∨ k = a6.ps.length) with hkl | hkl
        · have hki2 : (k : Int) < a6.ps.length := by omega
          have hne : ¬ (k : Int) = a6.ps.length := by omega
          have hdn := HDN.out
          rw [if_pos hkl] at hdn
          simp only [Prod.mk.injEq] at hdn
          have h20 := H20.out
          rw [hdn.2] at h20
          simp only at h20
          have HTN := Lib.hid (show stn.th 0 = ⟨true, true, a6.ps, ((k + 1 : Nat) : Int)⟩ by rw [hdn.1]; simp only [updT, if_true])
          obtain ⟨pp, cc, hpv, _, _, HC⟩ := HJ6.out.1.parts
          obtain ⟨g, o, rfl, b0, b1⟩ := HC.out k hkl
          simp only [Value.slice.injEq, true_and] at hpv
          obtain ⟨rfl, rfl⟩ := hpv
          have g0 := newcell h20 0 _ rfl; have g1 := newcell h20 1 _ rfl; have g2 := newcell h20 2 _ rfl
          clear h20 hdn HDN
          go_upto_region 35 with fail
          go_quiet (fail)
          have hbq : Below WN.heap.size WN (WN.drewN nq) := below_drewN (Below.refl _ _) nq
          clear b0 b1 g0 g1 g2 t4
          go_wp2_with fail
          go_roundw
          case rel => exact ⟨k + 1, by omega, by go_num, stn, _, _, _, _, HOKN, HTN, Lib.hid (HKSN.out.below hbq), Lib.hid (HKPN.out.trans (.below hbq))⟩
          case measure => simp [intOf]; omega
        · have hdn := HDN.out
          rw [if_neg (by omega)] at hdn
          simp only [Prod.mk.injEq] at hdn
          have h20 := H20.out
          rw [hdn.2] at h20
          simp only at h20
          have g0 := newcell h20 0 _ rfl
          have hke : (k : Int) = a6.ps.length := by omega
          clear h20 hdn HDN
          go_wp2_with fail
          refine (lives10_calls _).mono ?_; rintro _ w3 ⟨rfl, hb⟩
          go_wp2_with fail
          (try go_ret)
          rw [HQ.out]
          exact ⟨rfl, below_on HKSN.out.hb hb⟩
end Go.Proofs.Ytcbdbfmlkkpndaa
