/- Layer 16: Read. -/
import Derived.Test.YtlahpnigabfenaaCorI
namespace Go.Proofs.Ytlahpnigabfenaa
open Go.RowKit WordM EdgeM
set_option linter.unusedVariables false
set_option linter.unusedSimpArgs false
theorem MI.only {w w' : World} {B q pl mb mg C gq gg gm : Nat} {fv : Value} {tq : Nat → Nat} {t s : Nat} {K : Int} {f f' : Nat → Int} {acc acc' : Int} {flt flt' : Bool} {H : Nat → Bool} {G : Nat → Int} {sl steps : Int} {odd : Bool} (h : MI w B q pl mb mg C gq gg gm fv tq t s K f acc flt H G sl steps odd)
    (k : Mm.Only mb mg w w') (hm : Mm.MemAt w' mb mg (3 + 8 * t + 7 * s) C f' acc' flt') : MI w' B q pl mb mg C gq gg gm fv tq t s K f' acc' flt' H G sl steps odd := by
  have o2 := h.o2; have o3 := h.o3; have o4 := h.o4; have o5 := h.o5
  have keep : ∀ b o, w.heap[b]? = some o → b ≠ mb → b ≠ mg → w'.heap[b]? = some o := fun b o hb h1 h2 => (k.block b (Th.blk_lt hb) h1 h2).trans hb
  obtain ⟨D, ⟨es, clock, he, hr⟩, hD, hz⟩ := h.grd.held
  refine ⟨keep _ _ h.blk (by omega) (by omega), keep _ _ h.pln (by omega) (by omega), hm,
    ⟨h.grd.obj.of (k.block _ h.grd.obj.lt (by omega) (by omega)), h.grd.gens.of (k.block _ h.grd.gens.lt (by omega) (by omega)), ⟨D, ⟨es, clock, keep _ _ he (by omega) (by omega), hr⟩, hD, hz⟩, h.grd.g1, h.grd.g2, h.grd.g3, h.grd.n0, h.grd.n1, h.grd.gb, h.grd.sb⟩,
    h.ths.of fun b hb => k.block b (h.ths.blk hb).2.1 (by have := (h.ths.blk hb).1; omega) (by have := (h.ths.blk hb).1; omega),
    fun i hi => ⟨(h.thr i hi).1, keep _ _ (h.thr i hi).2 (by have := (h.thr i hi).1; omega) (by have := (h.thr i hi).1; omega)⟩, h.o1, h.o2, h.o3, h.o4, h.o5, h.may⟩
/-- A world in which three blocks may have changed. -/
structure KX (W : World) (a b c : Nat) where
  w : World
  h : Th.KS (fun j => j = a ∨ j = b ∨ j = c) W w
theorem KX.cells {W : World} {a b c i o : Nat} {v : Value} (h : W.cell? ⟨i, o, none⟩ = some v) (h1 : i ≠ a) (h2 : i ≠ b) (h3 : i ≠ c) : ∀ y : KX W a b c, y.w.cell? ⟨i, o, none⟩ = some v := fun y =>
  (World.cell?_of_block (w := W) (a := ⟨i, o, none⟩) (y.h.block i (World.block_lt_of_cell? W ⟨i, o, none⟩ h) (by rintro (e | e | e) <;> contradiction))).trans h
end Go.Proofs.Ytlahpnigabfenaa
