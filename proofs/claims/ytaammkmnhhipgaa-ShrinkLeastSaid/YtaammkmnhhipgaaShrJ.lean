/- Layer 42: all passes. -/
import Derived.Test.YtaammkmnhhipgaaShrI
import Derived.WalkMore
namespace Go.Proofs.Ytaammkmnhhipgaa
open Go.RowKit
set_option linter.unusedVariables false
set_option linter.unusedSimpArgs false
theorem passF_went (P : List Ent → Bool) (q : Nat) (hq : 1 ≤ q) : ∀ (n i : Nat) (l : List Ent) (a : Int) (g : Bool), (passF P q n i l a g).1.length ≤ l.length ∧ ((passF P q n i l a g).2.2 = true → g = true ∨ (passF P q n i l a g).1.length + 1 ≤ l.length)
  | 0, i, l, a, g => ⟨Nat.le_refl _, fun h => .inl h⟩
  | n + 1, i, l, a, g => by
    rw [passF]
    split
    · rename_i hi
      have h1 := wo_less l i q hi hq
      split
      · have ih := passF_went P q hq n i (wo l i q) (a + 1) true
        exact ⟨by omega, fun _ => .inr (by omega)⟩
      · exact passF_went P q hq n (i + q) l (a + 1) g
    · exact ⟨Nat.le_refl _, fun h => .inl h⟩
abbrev passL (P : List Ent → Bool) (q : Nat) (l : List Ent) (a : Int) : List Ent × Int × Bool := passF P q l.length 0 l a false
def ones (P : List Ent → Bool) : Nat → List Ent → Int → List Ent × Int
  | 0, l, a => (l, a)
  | n + 1, l, a => if (passL P 1 l a).2.2 then ones P n (passL P 1 l a).1 (passL P 1 l a).2.1 else ((passL P 1 l a).1, (passL P 1 l a).2.1)
def halves (P : List Ent → Bool) : Nat → Nat → List Ent → Int → List Ent × Int
  | 0, _, l, a => ones P (l.length + 1) l a
  | n + 1, s, l, a => if 1 < s then halves P n (s / 2) (passL P s l a).1 (passL P s l a).2.1 else ones P (l.length + 1) l a
theorem halves_end (P : List Ent → Bool) (n s : Nat) (l : List Ent) (a : Int) (h : s ≤ 1) : halves P n s l a = ones P (l.length + 1) l a := by
  cases n with
  | zero => rfl
  | succ n => rw [halves, if_neg (by omega)]
/-- Where the passes stand. -/
def Stand (P : List Ent → Bool) (R : List Ent × Int) (s : Nat) (l : List Ent) (a : Int) : Prop :=
  (1 < s ∧ ∃ n, s ≤ n ∧ halves P n s l a = R) ∨ (s ≤ 1 ∧ ∃ m, l.length < m ∧ ones P m l a = R)
theorem Stand.of (P : List Ent → Bool) (R : List Ent × Int) (n s : Nat) (l : List Ent) (a : Int) (h : s ≤ n) (e : halves P n s l a = R) : Stand P R s l a := by
  by_cases hs : 1 < s
  · exact .inl ⟨hs, n, h, e⟩
  · exact .inr ⟨by omega, l.length + 1, by omega, by rw [← e, halves_end _ _ _ _ _ (by omega)]⟩
theorem Stand.half {P : List Ent → Bool} {R : List Ent × Int} {s : Nat} {l : List Ent} {a : Int} (h : Stand P R s l a) (hs : 1 < s) : Stand P R (s / 2) (passL P s l a).1 (passL P s l a).2.1 := by
  rcases h with ⟨_, n, h1, h2⟩ | ⟨h, _⟩
  · obtain ⟨m, rfl⟩ : ∃ m, n = m + 1 := ⟨n - 1, by omega⟩
    rw [halves, if_pos hs] at h2
    exact .of P R m (s / 2) _ _ (by omega) h2
  · omega
theorem Stand.one {P : List Ent → Bool} {R : List Ent × Int} {s : Nat} {l : List Ent} {a : Int} (h : Stand P R s l a) (hs : s ≤ 1) :
    ((passL P 1 l a).2.2 = true → Stand P R s (passL P 1 l a).1 (passL P 1 l a).2.1) ∧ ((passL P 1 l a).2.2 = false → R = ((passL P 1 l a).1, (passL P 1 l a).2.1)) := by
  rcases h with ⟨h, _⟩ | ⟨_, m, h1, h2⟩
  · omega
  · obtain ⟨k, rfl⟩ : ∃ k, m = k + 1 := ⟨m - 1, by omega⟩
    rw [ones] at h2
    have hw := (passF_went P 1 (Nat.le_refl _) l.length 0 l a false).2
    refine ⟨fun hp => ?_, fun hp => ?_⟩
    · rw [if_pos hp] at h2
      refine .inr ⟨hs, k, ?_, h2⟩
      rcases hw hp with e | e
      · cases e
      · have e' : (passL P 1 l a).1.length + 1 ≤ l.length := e
        omega
    · rw [if_neg (by rw [hp]; decide)] at h2
      exact h2.symm
set_option maxHeartbeats 4000000 in
theorem srounds (b : Nat) (T S K : Int) (v : Value) (fid : FuncId) (caps : Array Value) (a : Int) (l : List Ent) (w : World) (P : List Ent → Bool) (W : World → Prop) (hk : KAt w b T S K v (.func (.func fid) #[] caps) a) (h : EL w v l) (hne : Aside b v) (hn : l.length ≤ 1000)
    (hP : Says fid caps T S K P W) (hW : Stays W b) (hw : W w) (ha : 0 ≤ a) (ha2 : a ≤ 1000) (hcf : ∀ (args : Array Value) (w : World), (callFunc fid args).run Try.prog w = .ok (.enter fid args) w) :
    Calls Try.prog 17 #[.pointer (some ⟨b, 0, none⟩)] w fun e w' => ∃ v', e = .returned (.tuple #[]) ∧ KAt w' b T S K v' (.func (.func fid) #[] caps) (halves P (l.length / 2) (l.length / 2) l a).2 ∧ EL w' v' (halves P (l.length / 2) (l.length / 2) l a).1 ∧ (∀ g, g < w.heap.size → Aside g v → Aside g v') ∧ Kx b w w' := by
  refine Calls.veil fun Q HQ => ?_
  obtain ⟨R, hR⟩ : ∃ R, R = halves P (l.length / 2) (l.length / 2) l a := ⟨_, rfl⟩
  rw [← hR] at HQ
  have H0 := Lib.hid (And.intro hk (And.intro h (And.intro hne (Stand.of P R _ _ l a (Nat.le_refl _) hR.symm))))
  have HPR := Lib.hid (And.intro hP (And.intro hW hw))
  have HCF := Lib.hid hcf
  obtain ⟨p, c, rfl, a1, a2⟩ := h.slice
  have x3 := hk.cells.2.2.2.1
  clear hk h hne hP hW hw hR hcf
  go_enter Try.func17, Try.ntmps17
  go_wp2_with fail
  go_step3
  go_wp2_with fail
  go_step3
  go_wp2_with fail
  clear x3
  go_loopw [2] (fun sv wr => ∃ (s : Nat) (l' : List Ent) (a' : Int) (v' : Value), sv = .int .i64 s ∧ s ≤ 500 ∧ l'.length ≤ l.length ∧ 0 ≤ a' ∧ a' + 1000 * ((s : Int) + l'.length + 2) ≤ 2000000 ∧ Hid (Stand P R s l' a') ∧ Hid (KAt wr b T S K v' (.func (.func fid) #[] caps) a') ∧ Hid (EL wr v' l') ∧ Hid (Aside b v' ∧ ∀ g, g < w.heap.size → Aside g (.slice p l.length c) → Aside g v') ∧ Kx b w wr)
    (fun sv wr => lenAt wr b + (intOf sv).toNat)
  case atStart => exact ⟨l.length / 2, l, a, _, by congr 1, by omega, Nat.le_refl _, ha, by omega, H0.out.2.2.2, H0.out.1, H0.out.2.1, Lib.hid ⟨H0.out.2.2.1, fun _ _ h => h⟩, Kx.refl _ _⟩
  case round =>
    obtain ⟨s, l', a', v', rfl, hs, hl', ha0, hal, HS, HKA, HEL, HAS, hx⟩ := hrel
    clear H0
    have HX := Lib.hid hx
    clear hx
    have HLN := Lib.hid (show lenAt wr b = l'.length by
      obtain ⟨p', c', rfl, _, _⟩ := HEL.out.slice
      have := HKA.out.cells.2.2.2.1
      unfold lenAt; rw [this])
    rcases (by omega : 1 < s ∨ s ≤ 1) with hlt | hge
    · have HR := Lib.hid (sround b T S K v' fid caps a' l' s wr P W HKA.out HEL.out HAS.out.1 (by omega) HPR.out.1 HPR.out.2.1 (HPR.out.2.1 _ _ HPR.out.2.2 HX.out) ha0 (by omega) (by omega) (by omega) HCF.out)
      have HS2 := Lib.hid (HS.out.half hlt)
      obtain ⟨r, hr⟩ : ∃ r, r = passF P s l'.length 0 l' a' false := ⟨_, rfl⟩
      unfold passL at HS2
      rw [← hr] at HR HS2
      clear hr HS
      go_wp2_with fail
      refine HR.out.mono ?_; rintro _ w2 ⟨v2, rfl, hk2, he2, hs2, hl2, hu2, hv2, hx2⟩
      have HK2 := Lib.hid hk2
      have HE2 := Lib.hid he2
      have HA2 := Lib.hid (show Aside b v2 ∧ ∀ g, g < w.heap.size → Aside g _ → Aside g v2 from ⟨hs2.1, fun g hg h => hs2.2 g (by have := HX.out.size; omega) (HAS.out.2 g hg h)⟩)
      have HX2 := Lib.hid (HX.out.trans hx2)
      have HLN2 := Lib.hid (show lenAt w2 b = r.1.length by
        obtain ⟨p', c', rfl, _, _⟩ := HE2.out.slice
        have := HK2.out.cells.2.2.2.1
        unfold lenAt; rw [this])
      clear hk2 he2 hs2 hx2 HR
      go_wp2_with fail
      go_roundw
      case rel => exact ⟨s / 2, r.1, r.2.1, v2, by congr 1, by omega, by omega, hv2, by omega, HS2, HK2, HE2, HA2, HX2.out⟩
      case measure =>
        have h1 := HLN.out
        have h2 := HLN2.out
        simp [intOf, h1, h2]; omega
    · have HR := Lib.hid (sround b T S K v' fid caps a' l' 1 wr P W HKA.out HEL.out HAS.out.1 (by omega) HPR.out.1 HPR.out.2.1 (HPR.out.2.1 _ _ HPR.out.2.2 HX.out) ha0 (by omega) (by omega) (by omega) HCF.out)
      have HS2 := Lib.hid (HS.out.one hge)
      have HW2 := Lib.hid ((passF_went P 1 (Nat.le_refl _) l'.length 0 l' a' false).2)
      obtain ⟨r, hr⟩ : ∃ r, r = passF P 1 l'.length 0 l' a' false := ⟨_, rfl⟩
      unfold passL at HS2
      rw [← hr] at HR HS2 HW2
      clear hr HS
      go_wp2_with fail
      refine HR.out.mono ?_; rintro _ w2 ⟨v2, rfl, hk2, he2, hs2, hl2, hu2, hv2, hx2⟩
      have HK2 := Lib.hid hk2
      have HE2 := Lib.hid he2
      have HA2 := Lib.hid (show Aside b v2 ∧ ∀ g, g < w.heap.size → Aside g _ → Aside g v2 from ⟨hs2.1, fun g hg h => hs2.2 g (by have := HX.out.size; omega) (HAS.out.2 g hg h)⟩)
      have HX2 := Lib.hid (HX.out.trans hx2)
      have HLN2 := Lib.hid (show lenAt w2 b = r.1.length by
        obtain ⟨p', c', rfl, _, _⟩ := HE2.out.slice
        have := HK2.out.cells.2.2.2.1
        unfold lenAt; rw [this])
      clear hk2 he2 hs2 hx2 HR
      cases hg : r.2.2 with
      | true =>
        have HS3 := Lib.hid (HS2.out.1 hg)
        have hw : r.1.length + 1 ≤ l'.length := by
          rcases HW2.out hg with e | e
          · cases e
          · exact e
        clear HS2 HW2 hg
        go_wp2_with fail
        go_roundw
        case rel => exact ⟨s, r.1, r.2.1, v2, rfl, hs, by omega, hv2, by omega, HS3, HK2, HE2, HA2, HX2.out⟩
        case measure =>
          have h1 := HLN.out
          have h2 := HLN2.out
          simp [intOf, h1, h2]; omega
      | false =>
        have hfin := HS2.out.2 hg
        clear HS2 HW2 hg
        subst hfin
        go_wp2_with fail
        (try rw [Exit.noGoto_ret])
        (try go_end0)
        rw [HQ.out]
        exact ⟨_, rfl, HK2.out, HE2.out, HA2.out.2, HX2.out⟩
end Go.Proofs.Ytaammkmnhhipgaa
