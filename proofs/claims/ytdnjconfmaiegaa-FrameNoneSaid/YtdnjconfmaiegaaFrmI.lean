/- Layer 15: calls of a thread, any one; the law's great, its example. -/
import Derived.Test.YtdnjconfmaiegaaFrmH
import Derived.Test.YtdnjconfmaiegaaPairL
namespace Go.Proofs.Ytdnjconfmaiegaa
open Go.RowKit
set_option linter.unusedVariables false
set_option linter.unusedSimpArgs false
theorem put_ky {l : PL} {p : Int × Int} (h : hereB l p.1 = false) (i : Nat) : ky (putL l p) i = (if i < lbN l p.1 then ky l i else if i = lbN l p.1 then p.1 else ky l (i - 1)) := by
  have hle := lbN_le l p.1
  have hl : (l.take (lbN l p.1)).length = lbN l p.1 := by simp; omega
  rw [putL_new h, List.append_assoc]
  by_cases h1 : i < lbN l p.1
  · rw [if_pos h1, ky_app_l (by omega), ky_take h1]
  · rw [if_neg h1, ky_app_r (by omega), hl]
    by_cases h2 : i = lbN l p.1
    · rw [if_pos h2, h2, Nat.sub_self]; rfl
    · rw [if_neg h2, ky_app_r (by simp; omega), ky_drop]
      have : lbN l p.1 + (i - lbN l p.1 - [p].length) = i - 1 := by simp; omega
      rw [this]
theorem put_length {l : PL} {p : Int × Int} (h : hereB l p.1 = false) : (putL l p).length = l.length + 1 := by
  have hle := lbN_le l p.1
  rw [putL_new h]; simp; omega
theorem put_rise {l : PL} {p : Int × Int} (hr : riseB l = true) : riseB (putL l p) = true := by
  cases h : hereB l p.1
  · obtain ⟨s1, s2⟩ := lbN_spec hr p.1
    have ha := here_at hr p.1
    rw [h] at ha
    refine rise_of fun i hi => ?_
    rw [put_length h] at hi
    rw [put_ky h i, put_ky h (i + 1)]
    rcases (by omega : i + 1 < lbN l p.1 ∨ i + 1 = lbN l p.1 ∨ i = lbN l p.1 ∨ lbN l p.1 < i) with h1 | h1 | h1 | h1
    · rw [if_pos (by omega), if_pos h1]; exact rise_next hr (by have := lbN_le l p.1; omega)
    · rw [if_pos (by omega), if_neg (by omega), if_pos h1]; exact s1 i (by omega)
    · rw [if_neg (by omega), if_pos h1, if_neg (by omega), if_neg (by omega)]
      have h2 := s2 (i + 1 - 1) (by omega) (by omega)
      rcases (by omega : p.1 = ky l (i + 1 - 1) ∨ p.1 < ky l (i + 1 - 1)) with e | e
      · rw [show i + 1 - 1 = lbN l p.1 by omega] at e
        rw [← e] at ha
        simp at ha
        omega
      · exact e
    · rw [if_neg (by omega), if_neg (by omega), if_neg (by omega), if_neg (by omega)]
      exact rise_lt hr (by omega) (by omega)
  · unfold putL; rw [h]; exact hr

theorem zero_or (n : Nat) : n = 0 ∨ ∃ m, n = m + 1 := by
  cases n with
  | zero => exact .inl rfl
  | succ m => exact .inr ⟨m, rfl⟩
def Bd (i : Nat) (T : Td) : Prop := T.nf ≤ i ∧ T.ns ≤ i ∧ T.row.length ≤ i ∧ riseB T.row = true
theorem Bd.mono {i j : Nat} {T : Td} (h : Bd i T) (k : i ≤ j) : Bd j T := ⟨Nat.le_trans h.1 k, Nat.le_trans h.2.1 k, Nat.le_trans h.2.2.1 k, h.2.2.2⟩
theorem put_le {l : PL} {p : Int × Int} : (putL l p).length ≤ l.length + 1 ∧ l.length ≤ (putL l p).length := by
  cases h : hereB l p.1
  · rw [put_length h]; omega
  · unfold putL; rw [h]; simp
theorem Bd.do {i : Nat} {T : Td} (h : Bd i T) (o : Op15) : Bd (i + 1) (doT T o) := by
  obtain ⟨h1, h2, h3, h4⟩ := h
  have e0 : riseB [] = true := by decide
  unfold doT
  split
  · exact ⟨by show T.nf + 1 ≤ _; omega, by show T.ns ≤ _; omega, by show T.row.length ≤ _; omega, h4⟩
  · split
    · exact ⟨by show T.nf - 1 ≤ _; omega, by show T.ns ≤ _; omega, by show T.row.length ≤ _; omega, h4⟩
    · split
      · exact ⟨by show T.nf ≤ _; omega, by show T.ns ≤ _; omega, by show (putL T.row _).length ≤ _; have := (put_le (l := T.row) (p := (o.pk, o.pv))).1; omega, put_rise h4⟩
      · split
        · exact ⟨by show T.nf ≤ _; omega, by show T.ns + 1 ≤ _; omega, by show T.row.length ≤ _; omega, h4⟩
        · split
          · split
            · exact ⟨by omega, by omega, by omega, h4⟩
            · exact ⟨by show T.nf ≤ _; omega, by show T.ns - 1 ≤ _; omega, by show T.row.length ≤ _; omega, h4⟩
          · split
            · exact ⟨by show T.nf ≤ _; omega, by show 0 ≤ _; omega, by simp, e0⟩
            · split
              · split
                · exact ⟨by omega, by omega, by omega, h4⟩
                · exact ⟨by show T.nf ≤ _; omega, by show T.ns ≤ _; omega, by show T.row.length ≤ _; omega, h4⟩
              · exact ⟨by omega, by omega, by omega, h4⟩
theorem ldo {w : World} {B q : Nat} {T : Td} {p : Nat → Nat} {fv rv sv lv : Value} (h : ThA w B q T p fv rv sv) (o : Op15) (hu : UR w lv o.n o.L) (hB : B ≤ w.heap.size) {i : Nat} (hb : Bd i T) (hi : i ≤ 1000) :
    Calls Try.prog 9 #[.pointer (some ⟨q, 0, none⟩), opV o lv] w (DoA w B q (doT T o) (doW T o) (doB T o) sv) := by
  obtain ⟨b1, b2, b3, b4⟩ := hb
  obtain ⟨kind, fn, n, L, pk, pv⟩ := o
  rcases (by omega : kind = 0 ∨ kind = 1 ∨ kind = 2 ∨ kind = 3 ∨ kind = 4 ∨ kind = 5 ∨ kind = 6 ∨ (kind < 0 ∨ 6 < kind)) with rfl | rfl | rfl | rfl | rfl | rfl | rfl | hk
  · exact ldo_0 h fn pk pv hu hB (by omega) (by omega) (by omega) b4
  · exact ldo_1 h fn pk pv hu hB (by omega) (by omega) (by omega) b4
  · exact ldo_2 h fn pk pv hu hB (by omega) (by omega) (by omega) b4
  · exact ldo_3 h fn pk pv hu hB (by omega) (by omega) (by omega) b4
  · rcases zero_or T.ns with hn | ⟨m, hn⟩
    · have := ldo_40 h fn pk pv hu hB (by omega) (by omega) (by omega) b4 hn
      have e : doT T ⟨4, fn, n, L, pk, pv⟩ = T ∧ doW T ⟨4, fn, n, L, pk, pv⟩ = 0 ∧ doB T ⟨4, fn, n, L, pk, pv⟩ = false := by
        unfold doT doW doB; simp [hn]
      rw [e.1, e.2.1, e.2.2]; exact this
    · have := ldo_41 h fn pk pv hu hB (by omega) (by omega) (by omega) b4 hn
      have e : doT T ⟨4, fn, n, L, pk, pv⟩ = { T with ns := m } ∧ doW T ⟨4, fn, n, L, pk, pv⟩ = T.st m ∧ doB T ⟨4, fn, n, L, pk, pv⟩ = true := by
        unfold doT doW doB; simp [hn]
      rw [e.1, e.2.1, e.2.2]; exact this
  · exact ldo_5 h fn pk pv hu hB (by omega) (by omega) (by omega) b4
  · rcases zero_or T.nf with hn | ⟨m, hn⟩
    · have := ldo_60 h fn pk pv hu hB (by omega) (by omega) (by omega) b4 hn
      have e : doT T ⟨6, fn, n, L, pk, pv⟩ = T := by unfold doT; simp [hn]
      rw [e]; exact this
    · have e : doT T ⟨6, fn, n, L, pk, pv⟩ = touchT T fn := by unfold doT; simp [hn]
      rw [e]
      rcases (by omega : fn < 0 ∨ 0 ≤ fn) with hf | hf
      · exact ldo_61n h fn pk pv hu hB (by omega) (by omega) (by omega) b4 hn hf
      · exact ldo_61p h fn pk pv hu hB (by omega) (by omega) (by omega) b4 hn hf
  · have := ldo_no h hk fn pk pv hu hB (by omega) (by omega) (by omega) b4
    have e : doT T ⟨kind, fn, n, L, pk, pv⟩ = T ∧ doW T ⟨kind, fn, n, L, pk, pv⟩ = 0 ∧ doB T ⟨kind, fn, n, L, pk, pv⟩ = false := by
      unfold doT doW doB
      simp only []
      rw [if_neg (by omega), if_neg (by omega), if_neg (by omega), if_neg (by omega), if_neg (by omega), if_neg (by omega), if_neg (by omega), if_neg (by omega), if_neg (by omega), if_neg (by omega)]
      exact ⟨rfl, rfl, rfl⟩
    rw [e.1, e.2.1, e.2.2]; exact this
/-! ### Arguments -/
theorem words_open {w : World} {v : Value} (h : Fr.ok1 w (.slice [.int .u64]) v) : ∃ n f, UR w v n f := by
  rcases Fr.get_slice h with rfl | ⟨a, len, cap, rfl, h1, h2, h3⟩
  · exact ⟨0, fun _ => 0, .nil _⟩
  · rcases (by omega : len = 0 ∨ 0 < len) with rfl | hl
    · exact ⟨0, fun _ => 0, .odd a cap _ h2⟩
    have hs : a.spot = none := by
      obtain ⟨cs0, h5, h6⟩ := h3 0 (by omega)
      obtain ⟨_, _, rfl, k0, h6⟩ := Fr.get_cons h6
      have h7 := (World.cells?_some h5).2.2 0 (by show 0 < 1; omega)
      exact World.cell?_spot (by simpa [Addr.add] using h7)
    obtain ⟨g, off, spot⟩ := a
    simp only at hs
    subst hs
    have key2 : ∀ i, ∃ x : Int, i < len → w.cell? ⟨g, off + i, none⟩ = some (.int .u64 x) := by
      intro i
      by_cases hi : i < len
      · obtain ⟨cs, h5, h6⟩ := h3 i (by omega)
        obtain ⟨_, _, rfl, k0, h6⟩ := Fr.get_cons h6
        obtain rfl := Fr.get_nil h6
        obtain ⟨x, rfl, _⟩ := Fr.get_int k0
        have h7 := (World.cells?_some h5).2.2 0 (by show 0 < 1; omega)
        have e1 : ((⟨g, off, none⟩ : Addr).add (i * 1)) = ⟨g, off + i, none⟩ := by
          simp [Addr.add] <;> (intro hh; subst hh; rfl)
        have e2 : ([.int .u64] : List Fr.Sh).length = 1 := rfl
        rw [e2, e1] at h7
        exact ⟨x, fun _ => by simpa [Addr.add] using h7⟩
      · exact ⟨0, fun h => absurd h hi⟩
    exact ⟨len, fun i => (key2 i).choose, .row g off len cap _ h1 h2 fun i hi => (key2 i).choose_spec hi⟩
def opSh : List Fr.Sh := [.int .i64, .int .i64, .slice [.int .u64], .int .i64, .int .i64]
def OpW (w : World) (g o : Nat) (x : Op15) (lv : Value) : Prop :=
  w.cell? ⟨g, o, none⟩ = some (.int .i64 x.kind) ∧ w.cell? ⟨g, o + 1, none⟩ = some (.int .i64 x.fn) ∧ w.cell? ⟨g, o + 2, none⟩ = some lv ∧ w.cell? ⟨g, o + 3, none⟩ = some (.int .i64 x.pk) ∧ w.cell? ⟨g, o + 4, none⟩ = some (.int .i64 x.pv) ∧ UR w lv x.n x.L
theorem OpW.below {w w' : World} {g o : Nat} {x : Op15} {lv : Value} (h : OpW w g o x lv) (k : Below w.heap.size w w') : OpW w' g o x lv :=
  ⟨Ext.use (Ext.cells h.1) k, Ext.use (Ext.cells h.2.1) k, Ext.use (Ext.cells h.2.2.1) k, Ext.use (Ext.cells h.2.2.2.1) k, Ext.use (Ext.cells h.2.2.2.2.1) k, h.2.2.2.2.2.below k⟩
theorem op_cells15 {w : World} {cs : List Value} (h : Fr.Sh.oks w opSh cs) : ∃ (x : Op15) (lv : Value), cs = [.int .i64 x.kind, .int .i64 x.fn, lv, .int .i64 x.pk, .int .i64 x.pv] ∧ UR w lv x.n x.L := by
  obtain ⟨_, _, rfl, k0, h⟩ := Fr.get_cons h
  obtain ⟨_, _, rfl, k1, h⟩ := Fr.get_cons h
  obtain ⟨lv, _, rfl, kv, h⟩ := Fr.get_cons h
  obtain ⟨_, _, rfl, k3, h⟩ := Fr.get_cons h
  obtain ⟨_, _, rfl, k4, h⟩ := Fr.get_cons h
  obtain rfl := Fr.get_nil h
  obtain ⟨c0, rfl, _⟩ := Fr.get_int k0
  obtain ⟨c1, rfl, _⟩ := Fr.get_int k1
  obtain ⟨c3, rfl, _⟩ := Fr.get_int k3
  obtain ⟨c4, rfl, _⟩ := Fr.get_int k4
  obtain ⟨n, f, hu⟩ := words_open kv
  exact ⟨⟨c0, c1, n, f, c3, c4⟩, lv, rfl, hu⟩
def OpsR (w : World) (v : Value) (n : Nat) (O : Nat → Op15) (lf : Nat → Value) : Prop :=
  ∃ ao cap, v = .slice ao n cap ∧ n ≤ cap ∧ cap ≤ 9223372036854775807 ∧ ∀ i, i < n → ∃ g off, ao = some ⟨g, off, none⟩ ∧ OpW w g (off + i * 5) (O i) (lf i)
theorem ops_open {w : World} {v : Value} (h : Fr.ok1 w (.slice opSh) v) : ∃ n O lf, OpsR w v n O lf := by
  rcases Fr.get_slice h with rfl | ⟨a, len, cap, rfl, h1, h2, h3⟩
  · exact ⟨0, fun _ => ⟨0, 0, 0, fun _ => 0, 0, 0⟩, fun _ => undef, none, 0, rfl, Nat.le_refl _, by decide, fun i hi => by omega⟩
  · have key : ∀ i, i < len → ∃ (p : Op15 × Value) (g off : Nat), a = ⟨g, off, none⟩ ∧ OpW w g (off + i * 5) p.1 p.2 := by
      intro i hi
      obtain ⟨cs0, h5, h6⟩ := h3 0 (by omega)
      obtain ⟨x0, v0, rfl, _⟩ := op_cells15 h6
      have hs : a.spot = none := by
        have h7 := (World.cells?_some h5).2.2 0 (by show 0 < 5; omega)
        exact World.cell?_spot (by simpa [Addr.add] using h7)
      obtain ⟨g, off, spot⟩ := a
      simp only at hs
      subst hs
      obtain ⟨cs, h5, h6⟩ := h3 i (by omega)
      obtain ⟨x, v1, rfl, hp⟩ := op_cells15 h6
      obtain ⟨_, _, h7⟩ := World.cells?_some h5
      have e1 : ((⟨g, off, none⟩ : Addr).add (i * opSh.length)) = ⟨g, off + i * 5, none⟩ := by
        simp [Addr.add, opSh] <;> (intro hh; subst hh; rfl)
      rw [e1] at h7
      refine ⟨(x, v1), g, off, rfl, ?_, ?_, ?_, ?_, ?_, hp⟩
      · simpa [Addr.add] using h7 0 (by show 0 < 5; omega)
      · simpa [Addr.add] using h7 1 (by show 1 < 5; omega)
      · simpa [Addr.add] using h7 2 (by show 2 < 5; omega)
      · simpa [Addr.add] using h7 3 (by show 3 < 5; omega)
      · simpa [Addr.add] using h7 4 (by show 4 < 5; omega)
    have key2 : ∀ i, ∃ p : Op15 × Value, i < len → ∃ g off, a = ⟨g, off, none⟩ ∧ OpW w g (off + i * 5) p.1 p.2 := by
      intro i
      by_cases hi : i < len
      · obtain ⟨p, h⟩ := key i hi; exact ⟨p, fun _ => h⟩
      · exact ⟨(⟨0, 0, 0, fun _ => 0, 0, 0⟩, undef), fun h => absurd h hi⟩
    refine ⟨len, fun i => (key2 i).choose.1, fun i => (key2 i).choose.2, some a, cap, rfl, h1, h2, fun i hi => ?_⟩
    obtain ⟨g, off, e, h⟩ := (key2 i).choose_spec hi
    exact ⟨g, off, by rw [e], h⟩
set_option maxRecDepth 8000 in
theorem lgreat15 {w : World} {ov : Value} {n : Nat} {O : Nat → Op15} {lf : Nat → Value} (hO : OpsR w ov n O lf) :
    Calls Try.prog 6 #[ov] w fun e w' => ∃ b, e = .returned (.bool b) ∧ Below w.heap.size w w' ∧ (b = false → n ≤ 80) := by
  refine Calls.veil fun Q HQ => ?_
  obtain ⟨oa, ocap, rfl, oc1, oc2, hO⟩ := hO
  have HO := Lib.hid hO
  clear hO
  go_enter Try.func6, Try.ntmps6
  go_wp2_with fail
  go_loopw [3] (fun iv wr => ∃ i : Nat, i ≤ n ∧ i ≤ 100 ∧ iv = .int .i64 i ∧ Hid (Below w.heap.size w wr))
    (fun iv _ => 100 - (intOf iv).toNat)
  case atStart => exact ⟨0, Nat.zero_le _, by omega, rfl, Lib.hid (Below.refl _ _)⟩
  case round =>
    obtain ⟨i, hi, hi6, rfl, HB⟩ := hrel
    rcases (by omega : (i < n ∧ i < 100) ∨ (i < n ∧ i = 100) ∨ i = n) with ⟨h1, h2⟩ | ⟨h1, h2⟩ | h1
    · obtain ⟨g, off, rfl, hc⟩ := HO.out i h1
      have hc := hc.below HB.out
      obtain ⟨_, _, o2, _, _, hu⟩ := hc
      obtain ⟨r, rc, hrv, q1, q2⟩ := hu.slice
      rw [hrv] at o2
      obtain ⟨k, hk⟩ : ∃ k, k = (O i).n := ⟨_, rfl⟩
      rw [← hk] at o2 q1
      have hii : (i : Int) < n := by omega
      have hi100 : (i : Int) < 100 := by omega
      clear hu hrv hk
      rcases (by omega : 100 < k ∨ k ≤ 100) with hh | hh
      · have hh' : (100 : Int) < k := by omega
        go_wp2_with fail
        (try go_ret)
        rw [HQ.out]
        exact ⟨true, rfl, HB.out, fun h => by cases h⟩
      · have hh' : ¬ (100 : Int) < k := by omega
        clear hh
        go_wp2_with fail
        go_roundw
        case rel => exact ⟨i + 1, by omega, by omega, by go_num, HB⟩
        case measure => simp [intOf]; omega
    · have hii : (i : Int) < n := by omega
      have h80 : (80 : Int) < n := by omega
      subst h2
      go_wp2_with fail
      (try go_ret)
      rw [HQ.out]
      exact ⟨true, rfl, HB.out, fun h => by cases h⟩
    · subst h1
      rcases (by omega : 80 < i ∨ i ≤ 80) with h5 | h5
      · have h5' : (80 : Int) < i := by omega
        go_wp2_with fail
        (try go_ret)
        rw [HQ.out]
        exact ⟨true, rfl, HB.out, fun h => by cases h⟩
      · have h5' : ¬ (80 : Int) < i := by omega
        have H5 := Lib.hid h5
        clear h5
        go_wp2_with fail
        (try go_ret)
        rw [HQ.out]
        exact ⟨false, rfl, HB.out, fun _ => H5.out⟩
set_option maxRecDepth 8000 in
theorem lives15_calls (w : World) : Calls Try.prog 7 #[] w fun e w' => e = .returned (.bool true) ∧ Below w.heap.size w w' := by
  refine Calls.veil fun Q HQ => ?_
  go_enter Try.func7, Try.ntmps7
  go_wp2_with fail
  refine (fnew w w.heap.size (Nat.le_refl _)).mono ?_; rintro _ w1 ⟨rfl, ht, hb⟩
  have HB := Lib.hid hb
  obtain ⟨q, hq⟩ : ∃ q, q = w.heap.size := ⟨_, rfl⟩
  have HT := Lib.hid (show ThA w1 w.heap.size q T0 (fun _ => 0) (.slice none 0 0) (.slice none 0 0) (.slice none 0 0) by rw [hq]; exact ht)
  rw [← hq]
  clear ht hb hq
  go_wp2_with fail
  generalize hV : World.alloc _ _ = V
  obtain ⟨hh, hbv⟩ := heapnewE hV
  have hu : UR V (.slice (some ⟨w1.heap.size, 0, none⟩) 2 2) 2 (fun i => if i = 0 then 1 else 2) := .row _ 0 2 2 _ (by omega) (by decide) fun i hi => by
    rcases (by omega : i = 0 ∨ i = 1) with rfl | rfl
    · exact newcell hh 0 _ rfl
    · exact newcell hh 1 _ rfl
  have HU := Lib.hid hu
  have HT := Lib.hid (HT.out.below hbv); have HB := Lib.hid (below_on HB.out hbv)
  clear hV hh hbv hu
  refine (fcall HT.out 7 HU.out HB.out.size (by decide)).mono ?_; rintro _ w2 ⟨rfl, ⟨p', fv', ht, _⟩, hk⟩
  have HB := Lib.hid (hk.below HT.out HB.out (Nat.le_refl _))
  have HT := Lib.hid ht
  clear ht hk HU
  go_wp2_with fail
  refine (ftop1 (m := 0) HT.out rfl (by omega)).mono ?_; rintro _ w3 ⟨rfl, hb3⟩
  have HT := Lib.hid (HT.out.below hb3); have HB := Lib.hid (below_on HB.out hb3)
  clear hb3
  go_wp2_with fail
  refine (ftop1 (m := 0) HT.out rfl (by omega)).mono ?_; rintro _ w4 ⟨rfl, hb3⟩
  have HT := Lib.hid (HT.out.below hb3); have HB := Lib.hid (below_on HB.out hb3)
  have c3 : w4.cell? ⟨p' 0, 3, none⟩ = some (.int .u64 2) := (HT.out.fb 0 (by show 0 < 1; omega)).1.get (i := 3) (by omega)
  clear hb3
  go_wp2_with fail
  generalize hV : World.alloc _ _ = V2
  obtain ⟨hh, hbv⟩ := heapnewE hV
  have hu : UR V2 (.slice (some ⟨w4.heap.size, 0, none⟩) 1 1) 1 (fun i => 5) := .row _ 0 1 1 _ (by omega) (by decide) fun i hi => by
    rcases (by omega : i = 0) with rfl
    exact newcell hh 0 _ rfl
  have HU := Lib.hid hu
  have HT := Lib.hid (HT.out.below hbv); have HB := Lib.hid (below_on HB.out hbv)
  clear hV hh hbv hu c3
  refine (fback HT.out HU.out (by decide)).mono ?_; rintro _ w5 ⟨rfl, ⟨fv', ht, _⟩, hk⟩
  have HB := Lib.hid (hk.below HT.out HB.out (Nat.le_refl _))
  have HT := Lib.hid ht
  clear ht hk HU
  go_wp2_with fail
  refine (fdepth HT.out).mono ?_; rintro _ _ ⟨rfl, rfl⟩
  have c0 : w5.cell? ⟨q, 0, none⟩ = some (.int .u64 5) := HT.out.blk.get (i := 0) (by omega)
  have e0 : ((backT (callT T0 7 2 fun i => if i = 0 then 1 else 2) 1 fun i => 5).nf : Int) = 0 := rfl
  rw [e0]
  clear e0
  go_wp2_with fail
  (try go_ret)
  rw [HQ.out]
  exact ⟨rfl, HB.out⟩
end Go.Proofs.Ytdnjconfmaiegaa
