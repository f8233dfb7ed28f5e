/- Layer 14: an entry that is read. (By gen_takd.py.) -/
import Derived.Test.YtnikggdnlijkkaaTakC
import Derived.Laws.AppendOwn
namespace Go.Proofs.Ytnikggdnlijkkaa
open Go.RowKit WordM
set_option linter.unusedVariables false
set_option linter.unusedSimpArgs false
theorem num_one (D : Nat → Int) : numB D 1 = D 0 := by simp [numB]
/-- The entry that begins at the first byte. -/
def eBg (x : Int) : Bool := fieldI x 7 1 == 1
def eTh (x : Int) : Int := fieldI x 0 6
def eNo (x : Int) : Bool := fieldI x 6 1 == 1
def entD (D : Nat → Int) : Ent := if eBg (D 0) then ⟨eTh (D 0), true, cOp (dropD D 1), cKey (dropD D 1), cVal (dropD D 1), cHi (dropD D 1), cLim (dropD D 1)⟩ else ⟨eTh (D 0), false, 0, 0, 0, 0, 0⟩
def lenD (D : Nat → Int) : Nat := if eBg (D 0) then 28 else 1
theorem eTh_bd (x : Int) : 0 ≤ eTh x ∧ eTh x < 64 := by
  unfold eTh fieldI
  split
  · have : fld x.toNat (0 : Int).toNat (6 : Int).toNat < 2 ^ 6 := Nat.mod_lt _ (by decide)
    omega
  · omega
/-- An entry is appended to an own row, as one operation. -/
theorem wp_append_e1 {w : World} {o : Oper} {a : Act} {K : Act → World → Prop} {Q : Exit → Act → World → Prop} (s x : Operand)
    (ho : o.op = .call { callee := .builtin .append, args := #[s, x], argTypes := #[27, 27] })
    (B : Nat) (v : Value) (n : Nat) (L : Nat → Ent) (g c : Nat) (hs : a.eval s = v) (hown : OwnE w B v n L) (hx : a.eval x = .slice (some ⟨g, 0, none⟩) 1 c) (hc : ∀ j u, (ecells (L n))[j]? = some u → w.cell? ⟨g, j, none⟩ = some u) (hn : n ≤ 100000) (hB : B ≤ w.heap.size)
    (h : ∀ v' w', OwnE w' B v' (n + 1) L → w.grownBy w' v.ownBlock → K (a.put o.dst v') w') : o.wp Try.prog a w K Q := by
  obtain ⟨i0, z, hi, hz0, hzs, hz1, hz2⟩ := info_ent
  refine wp_append_own w s x 27 ho B 54 i0 z 7 56 uEL hi hz0 hz1 hz2 hzs (by decide) v n (entCells n L) hs hown ⟨g, 0, none⟩ 1 c (ecells (L n)) hx rfl ?_ ?_ (by unfold maxLen; omega) (by omega) hB ?_
  · intro j u hu
    rw [addE, Nat.zero_add]; exact hc j u hu
  · intro u hu
    obtain ⟨j, hj⟩ := List.getElem?_of_mem hu
    have hj7 := (List.getElem?_eq_some_iff.1 hj).1
    rw [ecells_len] at hj7
    rcases (by omega : j = 0 ∨ j = 1 ∨ j = 2 ∨ j = 3 ∨ j = 4 ∨ j = 5 ∨ j = 6) with rfl | rfl | rfl | rfl | rfl | rfl | rfl <;> (simp [ecells] at hj; subst hj; rfl)
  · intro v' w' h5 h6 _
    exact h v' w' h5 h6
theorem KE.own {e B : Nat} {w w' : World} {v : Value} {n : Nat} {L : Nat → Ent} (h : KE e w w') (ho : OwnE w B v n L) (hB : e < B) : OwnE w' B v n L := by
  refine ⟨ho.1, ?_⟩
  rcases ho.2 with hn | ⟨g, cap, cur, rfl, hb, hgg, rest⟩
  · exact .inl hn
  · exact .inr ⟨g, cap, cur, rfl, hb, by rw [h.block g (Array.getElem?_eq_some_iff.1 hgg).1 (by omega)]; exact hgg, rest⟩
/-- An entry's box beside the reader. -/
structure EW (W0 w : World) (e b1 : Nat) (lv rv : Value) (A1 : Array Value) (V : World) : Prop where
  eb : EB V e lv rv
  ke : KE e w V
  bl : Below W0.heap.size W0 V
  r1 : V.heap[b1]? = some (.cells A1 54 (0, 0))
  h1 : w.heap.size ≤ b1
  he : e < w.heap.size
  hW : W0.heap.size ≤ e
theorem EW.c1 {W0 w V : World} {e b1 : Nat} {lv rv : Value} {A1 : Array Value} (h : EW W0 w e b1 lv rv A1 V) (i : Nat) (v : Value) (hv : A1[i]? = some v) : V.cell? ⟨b1, i, none⟩ = some v := by rw [cell_of_row _ _ _ _ _ (0, 0) h.r1]; exact hv
theorem EW.f1 {W0 w V : World} {e b1 : Nat} {lv rv : Value} {A1 : Array Value} (h : EW W0 w e b1 lv rv A1 V) : ∀ i, V.frozen? ⟨b1, i, none⟩ = false := fun i => frozen_of_row _ _ _ _ _ h.r1
theorem EW.sto {W0 w V : World} {e b1 i : Nat} {lv rv v : Value} {A1 : Array Value} (h : EW W0 w e b1 lv rv A1 V) : EW W0 w e b1 lv rv (A1.setIfInBounds i v) (V.setCell ⟨b1, i, none⟩ v) where
  eb := (heap_setCell_other V ⟨b1, i, none⟩ e v (by have := h.h1; have := h.he; show e ≠ b1; omega)).trans h.eb
  ke := h.ke.new h.h1 v
  bl := ble h.bl (by have := h.h1; have := h.he; have := h.hW; omega) v
  r1 := heap_setCell_same V b1 i _ _ v h.r1
  h1 := h.h1
  he := h.he
  hW := h.hW
/-- The worlds of the last region. -/
def SE (e b1 : Nat) (lv rv : Value) (A1 : Array Value) (V : World) : Prop := EB V e lv rv ∧ V.heap[b1]? = some (.cells A1 54 (0, 0))
theorem SE.al {e b1 : Nat} {lv rv : Value} {A1 : Array Value} {V : World} (h : SE e b1 lv rv A1 V) (o : Obj) : SE e b1 lv rv A1 (V.alloc o) :=
  ⟨h.1.al o, (Below.heap_alloc _ _ _ (Array.getElem?_eq_some_iff.1 h.2).1).trans h.2⟩
theorem SE.load {e b1 : Nat} {lv : Value} {p : Option Addr} {k c : Nat} {A1 : Array Value} {V : World} (h : SE e b1 lv (.slice p k c) A1 V) : (Instr.loadAt 27 (.pointer (some ⟨e, 1, none⟩))).run Try.prog V = .ok (.slice p k c) V := by
  have h1 := h.1.c1
  go_simp
theorem SE.load7 {e b1 : Nat} {lv rv : Value} {th op key val hi lim : Int} {bg : Bool} {V : World} (h : SE e b1 lv rv #[.int .i64 th, .bool bg, .int .i64 op, .int .i64 key, .int .i64 val, .int .i64 hi, .int .i64 lim] V) :
    (Instr.loadAt 54 (.pointer (some ⟨b1, 0, none⟩))).run Try.prog V = .ok (.agg #[.int .i64 th, .bool bg, .int .i64 op, .int .i64 key, .int .i64 val, .int .i64 hi, .int .i64 lim]) V := by
  have c : ∀ i v, (#[.int .i64 th, .bool bg, .int .i64 op, .int .i64 key, .int .i64 val, .int .i64 hi, .int .i64 lim] : Array Value)[i]? = some v → V.cell? ⟨b1, i, none⟩ = some v := fun i v hv => by rw [cell_of_row _ _ _ _ _ (0, 0) h.2]; exact hv
  have c0 := c 0 _ rfl; have c1 := c 1 _ rfl; have c2 := c 2 _ rfl; have c3 := c 3 _ rfl; have c4 := c 4 _ rfl; have c5 := c 5 _ rfl; have c6 := c 6 _ rfl
  go_simp
theorem own_blk {w : World} {B : Nat} {v : Value} {n : Nat} {L : Nat → Ent} (h : OwnE w B v n L) : ∀ k, v.ownBlock = some k → B ≤ k ∧ k < w.heap.size := by
  intro k hk
  rcases h.2 with ⟨rfl, _⟩ | ⟨g, cap, cur, rfl, hg, hh, _⟩
  · cases hk
  · simp only [Value.ownBlock, Option.some.injEq] at hk
    subst hk
    exact ⟨hg, (Array.getElem?_eq_some_iff.1 hh).1⟩
set_option maxHeartbeats 4000000 in
theorem sentry_long (W0 : World) (D : Nat → Int) (L : Nat → Ent) (n k : Nat) (lv rv : Value) (e : Nat) (w : World) (hL : BR W0 lv n D) (hb : Below W0.heap.size W0 w) (hW : W0.heap.size ≤ e) (he : EB w e lv rv) (ho : OwnE w (e + 1) rv k L) (hD : BY D) (hk : k = 60000) :
    Calls Try.prog 15 #[.pointer (some ⟨e, 0, none⟩)] w fun E w' => E = .panicked [{ v := .iface 43 (.agg #[.int .i64 6]), recovered := false }] ∧ Below e w w' := by
  refine Calls.veil fun Q HQ => ?_
  obtain ⟨p, c, rfl, a1, a2⟩ := (own_ER ho).slice
  have HL0 := Lib.hid hL
  have HE0 := Lib.hid (And.intro he (And.intro hb hW))
  have HO0 := Lib.hid ho
  have hel := he.lt
  have c1 := he.c1
  have hk1 : ((k : Int) == 60000) = true := by subst hk; rfl
  have hk2 : decide ((k : Int) = 60000) = true := by subst hk; rfl
  clear hL he hb hW ho hk
  go_enter Try.func15, Try.ntmps15
  go_wp2_with fail
  rw [HQ.out]
  exact ⟨rfl, rfl, Below.refl _ _⟩
set_option maxHeartbeats 4000000 in
theorem sentry_form (W0 : World) (D : Nat → Int) (L : Nat → Ent) (n k : Nat) (lv rv : Value) (e : Nat) (w : World) (hL : BR W0 lv n D) (hb : Below W0.heap.size W0 w) (hW : W0.heap.size ≤ e) (he : EB w e lv rv) (ho : OwnE w (e + 1) rv k L) (hD : BY D) (hk : k < 60000) (hn : 1 ≤ n) (h6 : eNo (D 0) = true) :
    Calls Try.prog 15 #[.pointer (some ⟨e, 0, none⟩)] w fun E w' => E = .panicked [{ v := .iface 43 (.agg #[.int .i64 4]), recovered := false }] ∧ Below e w w' := by
  refine Calls.veil fun Q HQ => ?_
  obtain ⟨p, c, rfl, a1, a2⟩ := (own_ER ho).slice
  have HL0 := Lib.hid hL
  have HE0 := Lib.hid (And.intro he (And.intro hb hW))
  have HO0 := Lib.hid ho
  have hel := he.lt
  have c1 := he.c1
  have hk1 : ((k : Int) == 60000) = false := by simp; omega
  have hk2 : decide ((k : Int) = 60000) = false := decide_eq_false (by omega)
  have HK := Lib.hid hk
  clear hL he hb hW ho hk
  go_enter Try.func15, Try.ntmps15
  go_wp2_with fail
  have SN := snumber W0 D n 1 lv (.slice p k c) e w HL0.out HE0.out.2.1 HE0.out.1 (by omega) (by decide) hD
  rw [num_one] at SN
  obtain ⟨d1, d2⟩ := hD 0
  obtain ⟨t1, t2⟩ := eTh_bd (D 0)
  have HX := Lib.hid (show fieldI (D 0) 0 6 = eTh (D 0) ∧ (fieldI (D 0) 7 1 == 1) = eBg (D 0) ∧ (fieldI (D 0) 6 1 == 1) = eNo (D 0) from ⟨rfl, rfl, rfl⟩)
  refine SN.mono ?_; rintro _ w1 ⟨rfl, l1, hl1, hw1⟩
  have HL1 := Lib.hid hl1
  have E1 := Lib.hid (show EB w1 e l1 (.slice p k c) ∧ Below W0.heap.size W0 w1 ∧ KE e w w1 by
    rw [hw1]
    exact ⟨HE0.out.1.set0 _, ble HE0.out.2.1 HE0.out.2.2 _, (KE.refl _ _).set _⟩)
  clear hw1 hl1 SN c1
  have BC6 := Lib.hid (fun V => bit_calls (D 0) 6 V d1 (by omega))
  have BC7 := Lib.hid (fun V => bit_calls (D 0) 7 V d1 (by omega))
  have FC := Lib.hid (fun V => field_calls (D 0) 0 6 V d1 (by omega))
  rw [HX.out.1] at FC
  rw [HX.out.2.1] at BC7
  rw [HX.out.2.2] at BC6
  rw [h6] at BC6
  generalize eTh (D 0) = th at *
  generalize D 0 = x at *
  go_wp2_with fail
  refine (BC6.out _).mono ?_; rintro _ _ ⟨rfl, rfl⟩
  go_wp2_with fail
  rw [HQ.out]
  exact ⟨rfl, rfl, E1.out.2.2.below (by omega)⟩
set_option maxHeartbeats 4000000 in
theorem sentry_end (W0 : World) (D : Nat → Int) (L : Nat → Ent) (n k : Nat) (lv rv : Value) (e : Nat) (w : World) (hL : BR W0 lv n D) (hb : Below W0.heap.size W0 w) (hW : W0.heap.size ≤ e) (he : EB w e lv rv) (ho : OwnE w (e + 1) rv k L) (hD : BY D) (hk : k < 60000) (hn : 1 ≤ n) (h6 : eNo (D 0) = false) (h7 : eBg (D 0) = true) (hn2 : n < 28) :
    Calls Try.prog 15 #[.pointer (some ⟨e, 0, none⟩)] w fun E w' => E = .panicked [{ v := .iface 41 (.agg #[]), recovered := false }] ∧ Below e w w' := by
  refine Calls.veil fun Q HQ => ?_
  obtain ⟨p, c, rfl, a1, a2⟩ := (own_ER ho).slice
  have HL0 := Lib.hid hL
  have HE0 := Lib.hid (And.intro he (And.intro hb hW))
  have HO0 := Lib.hid ho
  have hel := he.lt
  have c1 := he.c1
  have hk1 : ((k : Int) == 60000) = false := by simp; omega
  have hk2 : decide ((k : Int) = 60000) = false := decide_eq_false (by omega)
  have HK := Lib.hid hk
  clear hL he hb hW ho hk
  go_enter Try.func15, Try.ntmps15
  go_wp2_with fail
  have SN := snumber W0 D n 1 lv (.slice p k c) e w HL0.out HE0.out.2.1 HE0.out.1 (by omega) (by decide) hD
  rw [num_one] at SN
  obtain ⟨d1, d2⟩ := hD 0
  obtain ⟨t1, t2⟩ := eTh_bd (D 0)
  have HX := Lib.hid (show fieldI (D 0) 0 6 = eTh (D 0) ∧ (fieldI (D 0) 7 1 == 1) = eBg (D 0) ∧ (fieldI (D 0) 6 1 == 1) = eNo (D 0) from ⟨rfl, rfl, rfl⟩)
  refine SN.mono ?_; rintro _ w1 ⟨rfl, l1, hl1, hw1⟩
  have HL1 := Lib.hid hl1
  have E1 := Lib.hid (show EB w1 e l1 (.slice p k c) ∧ Below W0.heap.size W0 w1 ∧ KE e w w1 by
    rw [hw1]
    exact ⟨HE0.out.1.set0 _, ble HE0.out.2.1 HE0.out.2.2 _, (KE.refl _ _).set _⟩)
  clear hw1 hl1 SN c1
  have BC6 := Lib.hid (fun V => bit_calls (D 0) 6 V d1 (by omega))
  have BC7 := Lib.hid (fun V => bit_calls (D 0) 7 V d1 (by omega))
  have FC := Lib.hid (fun V => field_calls (D 0) 0 6 V d1 (by omega))
  rw [HX.out.1] at FC
  rw [HX.out.2.1] at BC7
  rw [HX.out.2.2] at BC6
  rw [h6] at BC6
  rw [h7] at BC7
  generalize eTh (D 0) = th at *
  generalize D 0 = x at *
  go_wp2_with fail
  refine (BC6.out _).mono ?_; rintro _ _ ⟨rfl, rfl⟩
  go_wp2_with fail
  refine (FC.out _).mono ?_; rintro _ _ ⟨rfl, rfl⟩
  have ti := wrapi_sm th t1 (by omega)
  have tw := wrap_sm th t1 (by omega)
  go_wp2_with fail
  refine (BC7.out _).mono ?_; rintro _ _ ⟨rfl, rfl⟩
  go_upto_region 6 with fail
  generalize hV : World.alloc w1 _ = V
  have C := (show EW W0 w e w1.heap.size l1 (.slice p k c) #[.int .i64 th, .bool true, .int .i64 0, .int .i64 0, .int .i64 0, .int .i64 0, .int .i64 0] V by
    rw [← hV]
    exact ⟨E1.out.1.al _, E1.out.2.2.alloc _, E1.out.2.1.alloc (by have := E1.out.2.1.size; exact this) _, heap_alloc_new w1 _, E1.out.2.2.size, hel, HE0.out.2.2⟩)
  clear hV
  generalize w1.heap.size = b1 at *
  have d := C.c1 1 _ rfl
  have SC : ∃ U : World, Calls Try.prog 27 #[.pointer (some ⟨e, 0, none⟩)] V fun E w' => E = .panicked [{ v := .iface 41 (.agg #[]), recovered := false }] ∧ KE e V w' := by
    refine ⟨V, ?_⟩
    rcases (by omega : n - 1 < 1 ∨ (1 ≤ n - 1 ∧ n - 1 < 9) ∨ (9 ≤ n - 1 ∧ n - 1 < 17) ∨ (17 ≤ n - 1 ∧ n - 1 < 25) ∨ (25 ≤ n - 1 ∧ n - 1 < 27)) with h | ⟨h, h'⟩ | ⟨h, h'⟩ | ⟨h, h'⟩ | ⟨h, h'⟩
    · exact scall_no0 W0 _ (n - 1) l1 _ e V HL1.out C.bl C.hW C.eb (by omega) (by omega) (hD.drop 1)
    · exact scall_no1 W0 _ (n - 1) l1 _ e V HL1.out C.bl C.hW C.eb h h' (hD.drop 1)
    · exact scall_no2 W0 _ (n - 1) l1 _ e V HL1.out C.bl C.hW C.eb h h' (hD.drop 1)
    · exact scall_no3 W0 _ (n - 1) l1 _ e V HL1.out C.bl C.hW C.eb h h' (hD.drop 1)
    · exact scall_no4 W0 _ (n - 1) l1 _ e V HL1.out C.bl C.hW C.eb h h' (hD.drop 1)
  obtain ⟨_, SC⟩ := SC
  go_wp2_with fail
  refine SC.mono ?_; rintro _ w2 ⟨rfl, hk2⟩
  go_wp2_with fail
  rw [HQ.out]
  exact ⟨rfl, rfl, (C.ke.trans hk2).below (by omega)⟩
set_option maxHeartbeats 4000000 in
theorem sentry0 (W0 : World) (D : Nat → Int) (L : Nat → Ent) (n k : Nat) (lv rv : Value) (e : Nat) (w : World) (hL : BR W0 lv n D) (hb : Below W0.heap.size W0 w) (hW : W0.heap.size ≤ e) (he : EB w e lv rv) (ho : OwnE w (e + 1) rv k L) (hD : BY D) (hk : k < 60000) (hn : 1 ≤ n) (h6 : eNo (D 0) = false) (h7 : eBg (D 0) = false) (hLk : L k = entD D) :
    Calls Try.prog 15 #[.pointer (some ⟨e, 0, none⟩)] w fun E w' => E = .returned (.tuple #[]) ∧ ∃ lv' rv', BR W0 lv' (n - lenD D) (dropD D (lenD D)) ∧ EB w' e lv' rv' ∧ OwnE w' (e + 1) rv' (k + 1) L ∧ Below e w w' := by
  refine Calls.veil fun Q HQ => ?_
  obtain ⟨p, c, rfl, a1, a2⟩ := (own_ER ho).slice
  have HL0 := Lib.hid hL
  have HE0 := Lib.hid (And.intro he (And.intro hb hW))
  have HO0 := Lib.hid ho
  have hel := he.lt
  have c1 := he.c1
  have hk1 : ((k : Int) == 60000) = false := by simp; omega
  have hk2 : decide ((k : Int) = 60000) = false := decide_eq_false (by omega)
  have HK := Lib.hid hk
  clear hL he hb hW ho hk
  go_enter Try.func15, Try.ntmps15
  go_wp2_with fail
  have SN := snumber W0 D n 1 lv (.slice p k c) e w HL0.out HE0.out.2.1 HE0.out.1 (by omega) (by decide) hD
  rw [num_one] at SN
  obtain ⟨d1, d2⟩ := hD 0
  obtain ⟨t1, t2⟩ := eTh_bd (D 0)
  have HX := Lib.hid (show fieldI (D 0) 0 6 = eTh (D 0) ∧ (fieldI (D 0) 7 1 == 1) = eBg (D 0) ∧ (fieldI (D 0) 6 1 == 1) = eNo (D 0) from ⟨rfl, rfl, rfl⟩)
  have HLN := Lib.hid (show lenD D = 1 by unfold lenD; rw [h7]; rfl)
  have HEN := Lib.hid (show entD D = ⟨eTh (D 0), false, 0, 0, 0, 0, 0⟩ by unfold entD; rw [h7]; rfl)
  have HLK := Lib.hid hLk
  clear hLk
  refine SN.mono ?_; rintro _ w1 ⟨rfl, l1, hl1, hw1⟩
  have HL1 := Lib.hid hl1
  have E1 := Lib.hid (show EB w1 e l1 (.slice p k c) ∧ Below W0.heap.size W0 w1 ∧ KE e w w1 by
    rw [hw1]
    exact ⟨HE0.out.1.set0 _, ble HE0.out.2.1 HE0.out.2.2 _, (KE.refl _ _).set _⟩)
  clear hw1 hl1 SN c1
  have BC6 := Lib.hid (fun V => bit_calls (D 0) 6 V d1 (by omega))
  have BC7 := Lib.hid (fun V => bit_calls (D 0) 7 V d1 (by omega))
  have FC := Lib.hid (fun V => field_calls (D 0) 0 6 V d1 (by omega))
  rw [HX.out.1] at FC
  rw [HX.out.2.1] at BC7
  rw [HX.out.2.2] at BC6
  rw [h6] at BC6
  rw [h7] at BC7
  generalize eTh (D 0) = th at *
  generalize D 0 = x at *
  go_wp2_with fail
  refine (BC6.out _).mono ?_; rintro _ _ ⟨rfl, rfl⟩
  go_wp2_with fail
  refine (FC.out _).mono ?_; rintro _ _ ⟨rfl, rfl⟩
  have ti := wrapi_sm th t1 (by omega)
  have tw := wrap_sm th t1 (by omega)
  go_wp2_with fail
  refine (BC7.out _).mono ?_; rintro _ _ ⟨rfl, rfl⟩
  go_upto_region 6 with fail
  generalize hV : World.alloc w1 _ = V
  have C := (show EW W0 w e w1.heap.size l1 (.slice p k c) #[.int .i64 th, .bool false, .int .i64 0, .int .i64 0, .int .i64 0, .int .i64 0, .int .i64 0] V by
    rw [← hV]
    exact ⟨E1.out.1.al _, E1.out.2.2.alloc _, E1.out.2.1.alloc (by have := E1.out.2.1.size; exact this) _, heap_alloc_new w1 _, E1.out.2.2.size, hel, HE0.out.2.2⟩)
  clear hV
  generalize w1.heap.size = b1 at *
  have d := C.c1 1 _ rfl
  go_upto_region 8 with fail
  have C3 := C
  clear C d
  have HOV := Lib.hid (C3.ke.own HO0.out (by omega))
  have HOB := Lib.hid (own_blk HO0.out)
  have C3 := Lib.hid C3
  refine wp_region_K (SE e b1 l1 (.slice p k c) #[.int .i64 th, .bool false, .int .i64 0, .int .i64 0, .int .i64 0, .int .i64 0, .int .i64 0]) 10 (by decide +kernel) ?_
  have S0 : SE e b1 l1 (.slice p k c) #[.int .i64 th, .bool false, .int .i64 0, .int .i64 0, .int .i64 0, .int .i64 0, .int .i64 0] (V).drew := ⟨C3.out.eb, C3.out.r1⟩
  have HOD := Lib.hid (show OwnE (World.drew V) (e + 1) (.slice p k c) k L from HOV.out)
  have KD := Lib.hid (show KE e w (World.drew V) from C3.out.ke.drew)
  generalize World.drew V = wd at *
  (refine wpAnyK_takeY (i := 0) (v := ?_) rfl (by decide +kernel) (by decide +kernel) (by decide +kernel) (by decide) (fun _ _ _ h => h) (Or.inl ⟨by rfl, ?_⟩) (.inr S0) ?_; rotate_left; (intro w; go_simp); (try with_reducible rfl)); (try simp only [List.getElem_toArray, List.getElem_cons_succ, List.getElem_cons_zero, Act.put, List.setIfInBounds_toArray, List.set_cons_succ, List.set_cons_zero])
  (refine wpAnyK_takeY (i := 1) (v := ?_) rfl (by decide +kernel) (by decide +kernel) (by decide +kernel) (by decide) (fun _ _ _ h => h) (Or.inl ⟨by rfl, ?_⟩) (.inr S0) ?_; rotate_left; (intro w; go_simp); (try with_reducible rfl)); (try simp only [List.getElem_toArray, List.getElem_cons_succ, List.getElem_cons_zero, Act.put, List.setIfInBounds_toArray, List.set_cons_succ, List.set_cons_zero])
  (refine wpAnyK_takeY (i := 2) (v := ?_) rfl (by decide +kernel) (by decide +kernel) (by decide +kernel) (by decide) (fun _ _ _ h => h) (Or.inl ⟨by rfl, ?_⟩) (.inr S0) ?_; rotate_left; (intro w; go_simp); (try with_reducible rfl)); (try simp only [List.getElem_toArray, List.getElem_cons_succ, List.getElem_cons_zero, Act.put, List.setIfInBounds_toArray, List.set_cons_succ, List.set_cons_zero])
  (refine wpAnyK_takeY (i := 3) (v := ?_) rfl (by decide +kernel) (by decide +kernel) (by decide +kernel) (by decide) (fun _ _ _ h => h) (Or.inl ⟨by rfl, ?_⟩) (.inr S0) ?_; rotate_left; (intro w; go_simp); (try with_reducible rfl)); (try simp only [List.getElem_toArray, List.getElem_cons_succ, List.getElem_cons_zero, Act.put, List.setIfInBounds_toArray, List.set_cons_succ, List.set_cons_zero])
  (refine wpAnyK_take (i := 4) (v := .slice p k c) [7, 10] rfl (by decide +kernel) (by decide +kernel) (by decide +kernel) (by decide +kernel) (fun _ _ _ h => h) (yields_loadK rfl 27 (.tmp 34) rfl rfl (fun _ hw => hw.load)) (S0) ?_); (try simp only [List.getElem_toArray, List.getElem_cons_succ, List.getElem_cons_zero, Act.put, List.setIfInBounds_toArray, List.set_cons_succ, List.set_cons_zero])
  (refine wpAnyK_take (i := 5) (v := .agg #[.int .i64 th, .bool false, .int .i64 0, .int .i64 0, .int .i64 0, .int .i64 0, .int .i64 0]) [6, 7, 10] rfl (by decide +kernel) (by decide +kernel) (by decide +kernel) (by decide +kernel) (fun _ _ _ h => h) (yields_loadK rfl 54 (.tmp 3) rfl rfl (fun _ hw => hw.load7)) (S0) ?_); (try simp only [List.getElem_toArray, List.getElem_cons_succ, List.getElem_cons_zero, Act.put, List.setIfInBounds_toArray, List.set_cons_succ, List.set_cons_zero])
  (refine wpAnyK_ready (rs := [6]) (by decide +kernel) (by simp) ?_; refine (AllReadyK.cons rfl (fun K hK => ?_) AllReadyK.nil))
  refine step_of rfl ?_
  go_step
  refine hK _ _ (.inr (S0.al _)) ?_
  clear hK K
  (try simp only [List.getElem_toArray, List.getElem_cons_succ, List.getElem_cons_zero, Act.put, List.setIfInBounds_toArray, List.set_cons_succ, List.set_cons_zero])
  (refine wpAnyK_ready (rs := [7]) (by decide +kernel) (by simp) ?_; refine (AllReadyK.cons rfl (fun K hK => ?_) AllReadyK.nil))
  refine step_of rfl ?_
  generalize hwa : World.alloc wd _ = wa
  have hcell : ∀ j u, (ecells (L k))[j]? = some u → wa.cell? ⟨wd.heap.size, j, none⟩ = some u := by
    intro j u hu
    rw [HLK.out, HEN.out] at hu
    rw [← hwa, cell_of_row _ _ _ _ _ (0, 0) (heap_alloc_new wd _)]
    rw [← List.getElem?_toArray] at hu
    exact hu
  have S1 : SE e b1 l1 (.slice p k c) #[.int .i64 th, .bool false, .int .i64 0, .int .i64 0, .int .i64 0, .int .i64 0, .int .i64 0] wa := by rw [← hwa]; exact S0.al _
  have K1 : KE e w wa := by rw [← hwa]; exact KD.out.alloc _
  have O1 : OwnE wa (e + 1) (.slice p k c) k L := by rw [← hwa]; exact World.ownsRow.alloc HOD.out _
  have Z1 : w.heap.size ≤ wa.heap.size := K1.size
  have HX1 := Lib.hid hcell
  clear hwa hcell
  refine wp_append_e1 (.tmp 35) (.tmp 37) rfl (e + 1) _ k L wd.heap.size 1 rfl O1 rfl HX1.out (by have := HK.out; omega) (by omega) ?_
  intro v2 w2 hown hg
  have B2 : Below e w w2 := (K1.below (by omega)).grown hg (by omega) (fun q hq => by have := (HOB.out q hq).1; omega)
  have E2 : EB w2 e l1 (.slice p k c) := (hg.block e (by omega) (fun hq => by have := (HOB.out e hq.symm).1; omega)).trans S1.1
  have R2 : w2.heap[b1]? = _ := (hg.block b1 (Array.getElem?_eq_some_iff.1 S1.2).1 (fun hq => by have := (HOB.out b1 hq.symm).2; have := C3.out.h1; omega)).trans S1.2
  refine hK _ _ (.inr ⟨E2, R2⟩) ?_
  have S2 : SE e b1 l1 (.slice p k c) #[.int .i64 th, .bool false, .int .i64 0, .int .i64 0, .int .i64 0, .int .i64 0, .int .i64 0] w2 := ⟨E2, R2⟩
  clear hK K hg S1 K1 O1 R2
  have HOW := Lib.hid hown
  obtain ⟨p2, c2, rfl, _, _⟩ := (own_ER hown).slice
  clear hown
  (try simp only [List.getElem_toArray, List.getElem_cons_succ, List.getElem_cons_zero, Act.put, List.setIfInBounds_toArray, List.set_cons_succ, List.set_cons_zero])
  (refine wpAnyK_takeY (i := 8) (v := ?_) rfl (by decide +kernel) (by decide +kernel) (by decide +kernel) (by decide) (fun _ _ _ h => h) (Or.inl ⟨by rfl, ?_⟩) (.inr S2) ?_; rotate_left; (intro w; go_simp); (try with_reducible rfl)); (try simp only [List.getElem_toArray, List.getElem_cons_succ, List.getElem_cons_zero, Act.put, List.setIfInBounds_toArray, List.set_cons_succ, List.set_cons_zero])
  (refine wpAnyK_takeY (i := 9) (v := ?_) rfl (by decide +kernel) (by decide +kernel) (by decide +kernel) (by decide) (fun _ _ _ h => h) (Or.inl ⟨by rfl, ?_⟩) (.inr S2) ?_; rotate_left; (intro w; go_simp); (try with_reducible rfl)); (try simp only [List.getElem_toArray, List.getElem_cons_succ, List.getElem_cons_zero, Act.put, List.setIfInBounds_toArray, List.set_cons_succ, List.set_cons_zero])
  (refine wpAnyK_ready (rs := [10]) (by decide +kernel) (by simp) ?_; refine (AllReadyK.cons rfl (fun K hK => ?_) AllReadyK.nil))
  refine step_of rfl ?_
  have q1 := E2.c1
  have qf := E2.fr 1
  go_step
  refine hK _ _ (.inl rfl) ?_
  clear hK K
  refine wpAnyK_done (by decide +kernel) ?_ _
  have E3 := E2.set1 (.slice p2 (k + 1) c2)
  have B3 : Below e w (w2.setCell ⟨e, 1, none⟩ (.slice p2 (k + 1) c2)) := ble B2 (Nat.le_refl _) _
  have O3 : OwnE (w2.setCell ⟨e, 1, none⟩ (.slice p2 (k + 1) c2)) (e + 1) (.slice p2 (k + 1) c2) (k + 1) L := ((KE.refl e w2).set _).own HOW.out (by omega)
  generalize hwf : World.setCell _ _ _ = wf at *
  have HF := Lib.hid (And.intro E3 (And.intro O3 B3))
  clear hwf E3 B3 O3 E2 B2 q1 qf
  go_wp2_with fail
  refine bodyPost_ret (v := .tuple #[]) (by simp [results, Try.results15, go_sem]) rfl ?_
  rw [HQ.out, HLN.out]
  exact ⟨rfl, _, _, HL1.out, HF.out⟩
set_option maxHeartbeats 4000000 in
theorem sentry1 (W0 : World) (D : Nat → Int) (L : Nat → Ent) (n k : Nat) (lv rv : Value) (e : Nat) (w : World) (hL : BR W0 lv n D) (hb : Below W0.heap.size W0 w) (hW : W0.heap.size ≤ e) (he : EB w e lv rv) (ho : OwnE w (e + 1) rv k L) (hD : BY D) (hk : k < 60000) (hn : 28 ≤ n) (h6 : eNo (D 0) = false) (h7 : eBg (D 0) = true) (hLk : L k = entD D) :
    Calls Try.prog 15 #[.pointer (some ⟨e, 0, none⟩)] w fun E w' => E = .returned (.tuple #[]) ∧ ∃ lv' rv', BR W0 lv' (n - lenD D) (dropD D (lenD D)) ∧ EB w' e lv' rv' ∧ OwnE w' (e + 1) rv' (k + 1) L ∧ Below e w w' := by
  refine Calls.veil fun Q HQ => ?_
  obtain ⟨p, c, rfl, a1, a2⟩ := (own_ER ho).slice
  have HL0 := Lib.hid hL
  have HE0 := Lib.hid (And.intro he (And.intro hb hW))
  have HO0 := Lib.hid ho
  have hel := he.lt
  have c1 := he.c1
  have hk1 : ((k : Int) == 60000) = false := by simp; omega
  have hk2 : decide ((k : Int) = 60000) = false := decide_eq_false (by omega)
  have HK := Lib.hid hk
  clear hL he hb hW ho hk
  go_enter Try.func15, Try.ntmps15
  go_wp2_with fail
  have SN := snumber W0 D n 1 lv (.slice p k c) e w HL0.out HE0.out.2.1 HE0.out.1 (by omega) (by decide) hD
  rw [num_one] at SN
  obtain ⟨d1, d2⟩ := hD 0
  obtain ⟨t1, t2⟩ := eTh_bd (D 0)
  have HX := Lib.hid (show fieldI (D 0) 0 6 = eTh (D 0) ∧ (fieldI (D 0) 7 1 == 1) = eBg (D 0) ∧ (fieldI (D 0) 6 1 == 1) = eNo (D 0) from ⟨rfl, rfl, rfl⟩)
  have HLN := Lib.hid (show lenD D = 28 by unfold lenD; rw [h7]; rfl)
  have HEN := Lib.hid (show entD D = ⟨eTh (D 0), true, cOp (dropD D 1), cKey (dropD D 1), cVal (dropD D 1), cHi (dropD D 1), cLim (dropD D 1)⟩ by unfold entD; rw [h7]; rfl)
  have HLK := Lib.hid hLk
  clear hLk
  refine SN.mono ?_; rintro _ w1 ⟨rfl, l1, hl1, hw1⟩
  have HL1 := Lib.hid hl1
  have E1 := Lib.hid (show EB w1 e l1 (.slice p k c) ∧ Below W0.heap.size W0 w1 ∧ KE e w w1 by
    rw [hw1]
    exact ⟨HE0.out.1.set0 _, ble HE0.out.2.1 HE0.out.2.2 _, (KE.refl _ _).set _⟩)
  clear hw1 hl1 SN c1
  have BC6 := Lib.hid (fun V => bit_calls (D 0) 6 V d1 (by omega))
  have BC7 := Lib.hid (fun V => bit_calls (D 0) 7 V d1 (by omega))
  have FC := Lib.hid (fun V => field_calls (D 0) 0 6 V d1 (by omega))
  rw [HX.out.1] at FC
  rw [HX.out.2.1] at BC7
  rw [HX.out.2.2] at BC6
  rw [h6] at BC6
  rw [h7] at BC7
  generalize eTh (D 0) = th at *
  generalize D 0 = x at *
  go_wp2_with fail
  refine (BC6.out _).mono ?_; rintro _ _ ⟨rfl, rfl⟩
  go_wp2_with fail
  refine (FC.out _).mono ?_; rintro _ _ ⟨rfl, rfl⟩
  have ti := wrapi_sm th t1 (by omega)
  have tw := wrap_sm th t1 (by omega)
  go_wp2_with fail
  refine (BC7.out _).mono ?_; rintro _ _ ⟨rfl, rfl⟩
  go_upto_region 6 with fail
  generalize hV : World.alloc w1 _ = V
  have C := (show EW W0 w e w1.heap.size l1 (.slice p k c) #[.int .i64 th, .bool true, .int .i64 0, .int .i64 0, .int .i64 0, .int .i64 0, .int .i64 0] V by
    rw [← hV]
    exact ⟨E1.out.1.al _, E1.out.2.2.alloc _, E1.out.2.1.alloc (by have := E1.out.2.1.size; exact this) _, heap_alloc_new w1 _, E1.out.2.2.size, hel, HE0.out.2.2⟩)
  clear hV
  generalize w1.heap.size = b1 at *
  have d := C.c1 1 _ rfl
  go_wp2_with fail
  refine (scall W0 _ (n - 1) l1 _ e V HL1.out C.bl C.hW C.eb (by omega) (hD.drop 1)).mono ?_; rintro _ w2 ⟨rfl, l2, hl2, heb2, hke2⟩
  have HL2 := Lib.hid (hl2.next (c := 28) rfl)
  have hV1 : b1 < V.heap.size := (Array.getElem?_eq_some_iff.1 C.r1).1
  have C2 : EW W0 w e b1 l2 (.slice p k c) #[.int .i64 th, .bool true, .int .i64 0, .int .i64 0, .int .i64 0, .int .i64 0, .int .i64 0] w2 :=
    ⟨heb2, C.ke.trans hke2, C.bl.trans ((hke2.below (by have := C.he; have := C.ke.size; omega)).mono C.hW), (hke2.block b1 hV1 (by have := C.h1; have := C.he; omega)).trans C.r1, C.h1, C.he, C.hW⟩
  clear hl2 heb2 hke2 C d
  generalize cOp (dropD D 1) = z0 at *
  generalize cKey (dropD D 1) = z1 at *
  generalize cVal (dropD D 1) = z2 at *
  generalize cHi (dropD D 1) = z3 at *
  generalize cLim (dropD D 1) = z4 at *
  have q2 := C2.c1 2 _ rfl
  have q3 := C2.c1 3 _ rfl
  have q4 := C2.c1 4 _ rfl
  have q5 := C2.c1 5 _ rfl
  have q6 := C2.c1 6 _ rfl
  have qf := C2.f1
  go_upto_region 8 with fail
  generalize hU : World.setCell _ _ _ = U
  have C4 := ((((C2.sto (i := 2) (v := .int .i64 z0)).sto (i := 3) (v := .int .i64 z1)).sto (i := 4) (v := .int .i64 z2)).sto (i := 5) (v := .int .i64 z3)).sto (i := 6) (v := .int .i64 z4)
  rw [hU] at C4
  have C3 : EW W0 w e b1 l2 (.slice p k c) #[.int .i64 th, .bool true, .int .i64 z0, .int .i64 z1, .int .i64 z2, .int .i64 z3, .int .i64 z4] U := C4
  clear hU q2 q3 q4 q5 q6 qf C2 C4
  have HOV := Lib.hid (C3.ke.own HO0.out (by omega))
  have HOB := Lib.hid (own_blk HO0.out)
  have C3 := Lib.hid C3
  refine wp_region_K (SE e b1 l2 (.slice p k c) #[.int .i64 th, .bool true, .int .i64 z0, .int .i64 z1, .int .i64 z2, .int .i64 z3, .int .i64 z4]) 10 (by decide +kernel) ?_
  have S0 : SE e b1 l2 (.slice p k c) #[.int .i64 th, .bool true, .int .i64 z0, .int .i64 z1, .int .i64 z2, .int .i64 z3, .int .i64 z4] (U).drew := ⟨C3.out.eb, C3.out.r1⟩
  have HOD := Lib.hid (show OwnE (World.drew U) (e + 1) (.slice p k c) k L from HOV.out)
  have KD := Lib.hid (show KE e w (World.drew U) from C3.out.ke.drew)
  generalize World.drew U = wd at *
  (refine wpAnyK_takeY (i := 0) (v := ?_) rfl (by decide +kernel) (by decide +kernel) (by decide +kernel) (by decide) (fun _ _ _ h => h) (Or.inl ⟨by rfl, ?_⟩) (.inr S0) ?_; rotate_left; (intro w; go_simp); (try with_reducible rfl)); (try simp only [List.getElem_toArray, List.getElem_cons_succ, List.getElem_cons_zero, Act.put, List.setIfInBounds_toArray, List.set_cons_succ, List.set_cons_zero])
  (refine wpAnyK_takeY (i := 1) (v := ?_) rfl (by decide +kernel) (by decide +kernel) (by decide +kernel) (by decide) (fun _ _ _ h => h) (Or.inl ⟨by rfl, ?_⟩) (.inr S0) ?_; rotate_left; (intro w; go_simp); (try with_reducible rfl)); (try simp only [List.getElem_toArray, List.getElem_cons_succ, List.getElem_cons_zero, Act.put, List.setIfInBounds_toArray, List.set_cons_succ, List.set_cons_zero])
  (refine wpAnyK_takeY (i := 2) (v := ?_) rfl (by decide +kernel) (by decide +kernel) (by decide +kernel) (by decide) (fun _ _ _ h => h) (Or.inl ⟨by rfl, ?_⟩) (.inr S0) ?_; rotate_left; (intro w; go_simp); (try with_reducible rfl)); (try simp only [List.getElem_toArray, List.getElem_cons_succ, List.getElem_cons_zero, Act.put, List.setIfInBounds_toArray, List.set_cons_succ, List.set_cons_zero])
  (refine wpAnyK_takeY (i := 3) (v := ?_) rfl (by decide +kernel) (by decide +kernel) (by decide +kernel) (by decide) (fun _ _ _ h => h) (Or.inl ⟨by rfl, ?_⟩) (.inr S0) ?_; rotate_left; (intro w; go_simp); (try with_reducible rfl)); (try simp only [List.getElem_toArray, List.getElem_cons_succ, List.getElem_cons_zero, Act.put, List.setIfInBounds_toArray, List.set_cons_succ, List.set_cons_zero])
  (refine wpAnyK_take (i := 4) (v := .slice p k c) [7, 10] rfl (by decide +kernel) (by decide +kernel) (by decide +kernel) (by decide +kernel) (fun _ _ _ h => h) (yields_loadK rfl 27 (.tmp 34) rfl rfl (fun _ hw => hw.load)) (S0) ?_); (try simp only [List.getElem_toArray, List.getElem_cons_succ, List.getElem_cons_zero, Act.put, List.setIfInBounds_toArray, List.set_cons_succ, List.set_cons_zero])
  (refine wpAnyK_take (i := 5) (v := .agg #[.int .i64 th, .bool true, .int .i64 z0, .int .i64 z1, .int .i64 z2, .int .i64 z3, .int .i64 z4]) [6, 7, 10] rfl (by decide +kernel) (by decide +kernel) (by decide +kernel) (by decide +kernel) (fun _ _ _ h => h) (yields_loadK rfl 54 (.tmp 3) rfl rfl (fun _ hw => hw.load7)) (S0) ?_); (try simp only [List.getElem_toArray, List.getElem_cons_succ, List.getElem_cons_zero, Act.put, List.setIfInBounds_toArray, List.set_cons_succ, List.set_cons_zero])
  (refine wpAnyK_ready (rs := [6]) (by decide +kernel) (by simp) ?_; refine (AllReadyK.cons rfl (fun K hK => ?_) AllReadyK.nil))
  refine step_of rfl ?_
  go_step
  refine hK _ _ (.inr (S0.al _)) ?_
  clear hK K
  (try simp only [List.getElem_toArray, List.getElem_cons_succ, List.getElem_cons_zero, Act.put, List.setIfInBounds_toArray, List.set_cons_succ, List.set_cons_zero])
  (refine wpAnyK_ready (rs := [7]) (by decide +kernel) (by simp) ?_; refine (AllReadyK.cons rfl (fun K hK => ?_) AllReadyK.nil))
  refine step_of rfl ?_
  generalize hwa : World.alloc wd _ = wa
  have hcell : ∀ j u, (ecells (L k))[j]? = some u → wa.cell? ⟨wd.heap.size, j, none⟩ = some u := by
    intro j u hu
    rw [HLK.out, HEN.out] at hu
    rw [← hwa, cell_of_row _ _ _ _ _ (0, 0) (heap_alloc_new wd _)]
    rw [← List.getElem?_toArray] at hu
    exact hu
  have S1 : SE e b1 l2 (.slice p k c) #[.int .i64 th, .bool true, .int .i64 z0, .int .i64 z1, .int .i64 z2, .int .i64 z3, .int .i64 z4] wa := by rw [← hwa]; exact S0.al _
  have K1 : KE e w wa := by rw [← hwa]; exact KD.out.alloc _
  have O1 : OwnE wa (e + 1) (.slice p k c) k L := by rw [← hwa]; exact World.ownsRow.alloc HOD.out _
  have Z1 : w.heap.size ≤ wa.heap.size := K1.size
  have HX1 := Lib.hid hcell
  clear hwa hcell
  refine wp_append_e1 (.tmp 35) (.tmp 37) rfl (e + 1) _ k L wd.heap.size 1 rfl O1 rfl HX1.out (by have := HK.out; omega) (by omega) ?_
  intro v2 w2 hown hg
  have B2 : Below e w w2 := (K1.below (by omega)).grown hg (by omega) (fun q hq => by have := (HOB.out q hq).1; omega)
  have E2 : EB w2 e l2 (.slice p k c) := (hg.block e (by omega) (fun hq => by have := (HOB.out e hq.symm).1; omega)).trans S1.1
  have R2 : w2.heap[b1]? = _ := (hg.block b1 (Array.getElem?_eq_some_iff.1 S1.2).1 (fun hq => by have := (HOB.out b1 hq.symm).2; have := C3.out.h1; omega)).trans S1.2
  refine hK _ _ (.inr ⟨E2, R2⟩) ?_
  have S2 : SE e b1 l2 (.slice p k c) #[.int .i64 th, .bool true, .int .i64 z0, .int .i64 z1, .int .i64 z2, .int .i64 z3, .int .i64 z4] w2 := ⟨E2, R2⟩
  clear hK K hg S1 K1 O1 R2
  have HOW := Lib.hid hown
  obtain ⟨p2, c2, rfl, _, _⟩ := (own_ER hown).slice
  clear hown
  (try simp only [List.getElem_toArray, List.getElem_cons_succ, List.getElem_cons_zero, Act.put, List.setIfInBounds_toArray, List.set_cons_succ, List.set_cons_zero])
  (refine wpAnyK_takeY (i := 8) (v := ?_) rfl (by decide +kernel) (by decide +kernel) (by decide +kernel) (by decide) (fun _ _ _ h => h) (Or.inl ⟨by rfl, ?_⟩) (.inr S2) ?_; rotate_left; (intro w; go_simp); (try with_reducible rfl)); (try simp only [List.getElem_toArray, List.getElem_cons_succ, List.getElem_cons_zero, Act.put, List.setIfInBounds_toArray, List.set_cons_succ, List.set_cons_zero])
  (refine wpAnyK_takeY (i := 9) (v := ?_) rfl (by decide +kernel) (by decide +kernel) (by decide +kernel) (by decide) (fun _ _ _ h => h) (Or.inl ⟨by rfl, ?_⟩) (.inr S2) ?_; rotate_left; (intro w; go_simp); (try with_reducible rfl)); (try simp only [List.getElem_toArray, List.getElem_cons_succ, List.getElem_cons_zero, Act.put, List.setIfInBounds_toArray, List.set_cons_succ, List.set_cons_zero])
  (refine wpAnyK_ready (rs := [10]) (by decide +kernel) (by simp) ?_; refine (AllReadyK.cons rfl (fun K hK => ?_) AllReadyK.nil))
  refine step_of rfl ?_
  have q1 := E2.c1
  have qf := E2.fr 1
  go_step
  refine hK _ _ (.inl rfl) ?_
  clear hK K
  refine wpAnyK_done (by decide +kernel) ?_ _
  have E3 := E2.set1 (.slice p2 (k + 1) c2)
  have B3 : Below e w (w2.setCell ⟨e, 1, none⟩ (.slice p2 (k + 1) c2)) := ble B2 (Nat.le_refl _) _
  have O3 : OwnE (w2.setCell ⟨e, 1, none⟩ (.slice p2 (k + 1) c2)) (e + 1) (.slice p2 (k + 1) c2) (k + 1) L := ((KE.refl e w2).set _).own HOW.out (by omega)
  generalize hwf : World.setCell _ _ _ = wf at *
  have HF := Lib.hid (And.intro E3 (And.intro O3 B3))
  clear hwf E3 B3 O3 E2 B2 q1 qf
  go_wp2_with fail
  refine bodyPost_ret (v := .tuple #[]) (by simp [results, Try.results15, go_sem]) rfl ?_
  rw [HQ.out, HLN.out]
  exact ⟨rfl, _, _, HL2.out, HF.out⟩
end Go.Proofs.Ytnikggdnlijkkaa
