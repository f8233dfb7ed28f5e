/- Layer 15: an append as a step of a region that draws. -/
import Derived.Test.YtdnjconfmaiegaaFrmF
import Derived.Laws.AppendOwnNone
namespace Go.Proofs.Ytdnjconfmaiegaa
open Go.RowKit
set_option linter.unusedVariables false
set_option linter.unusedSimpArgs false
theorem info_any {T : TypeId} {z : Value} {s b : Nat} (h : (Try.prog.info? T).map (fun i => (i.zero, i.size, i.bytes)) = some (some z, s, b)) : ∃ i0, Try.prog.info? T = some i0 ∧ i0.zero = some z ∧ i0.size = s ∧ i0.bytes = b := by
  cases hq : Try.prog.info? T with
  | none => rw [hq] at h; cases h
  | some i =>
    rw [hq] at h
    simp only [Option.map_some, Option.some.injEq, Prod.mk.injEq] at h
    exact ⟨i, rfl, h.1, h.2.1, h.2.2⟩
theorem hb_last {w : World} {o o' : Obj} : ((w.alloc o).alloc o').heap[w.heap.size + 1]? = some o' := by
  have := heap_alloc_new (w.alloc o) o'
  simpa using this
theorem hb_prev {w : World} {o o' : Obj} : ((w.alloc o).alloc o').heap[w.heap.size]? = some o := by
  rw [Below.heap_alloc _ _ _ (by simp)]; exact heap_alloc_new w o
theorem own_empty {T : TypeId} {s : Nat} {w : World} {b B : Nat} (hb : w.heap[b]? = some (.cells #[] T (0, 0))) (hB : B ≤ b) : w.ownsRow B T s (.slice (some ⟨b, 0, none⟩) 0 0) 0 [] :=
  ⟨by simp, .inr ⟨b, 0, #[], rfl, hB, hb, Nat.le_refl _, by decide, by simp, by simp⟩⟩
/-- What is appended: nothing, or cells that lie there. -/
def Apd (w : World) (u : Value) (m s : Nat) (news : List Value) : Prop := (u = .slice none 0 0 ∧ m = 0 ∧ news = []) ∨ ∃ ad c, u = .slice (some ad) m c ∧ news.length = m * s ∧ ∀ j x, news[j]? = some x → w.cell? (ad.add j) = some x
theorem step_app {T SL : TypeId} {z : Value} {sz bytes : Nat} (uT : Try.prog.underlying SL = some (.slice T)) (iT : (Try.prog.info? T).map (fun i => (i.zero, i.size, i.bytes)) = some (some z, sz, bytes)) (hz : z.cells.size = sz) (hsz : 0 < sz) (hby : bytes ≤ 1000)
    {ops : Array Oper} {o : Oper} {a : Act} {w : World} {K : Act → World → Prop} {Q : Exit → Act → World → Prop} {E : Prop} (hgd : o.guard = none) (s x : Operand)
    (ho : o.op = .call { callee := .builtin .append, args := #[s, x], argTypes := #[SL, SL] }) (hty : o.type = SL)
    (U : World) (hU : Below U.heap.size U w) {v u : Value} {n m : Nat} {xs news : List Value} (hs : a.eval s = v) (hown : w.ownsRow U.heap.size T sz v n xs) (hx : a.eval x = u) (hu : Apd w u m sz news) (h1 : ∀ u ∈ news, u.oneCell' = true) (hn : n ≤ 100000) (hm : m ≤ 100000)
    (h : ∀ p c w', w'.ownsRow U.heap.size T sz (.slice p (n + m) c) (n + m) (xs ++ news) → Below U.heap.size U w' → (∀ k, k < w.heap.size → v.ownBlock ≠ some k → w'.heap[k]? = w.heap[k]?) → ((Value.slice p (n + m) c).ownBlock = v.ownBlock ∨ ∃ b, (Value.slice p (n + m) c).ownBlock = some b ∧ w.heap.size ≤ b) → K (a.put o.dst (.slice p (n + m) c)) w') :
    if Region.wanted o (yielded ops a.tmps) = true then Oper.wp Try.prog o a w K Q else E := by
  obtain ⟨i0, hi, hz0, hz1, hz2⟩ := info_any iT
  have hw : Region.wanted o (yielded ops a.tmps) = true := by simp [Region.wanted, hgd]
  rw [if_pos hw]
  have key : ∃ v' w', (Builtin.append_ #[SL, SL] SL #[v, u]).run Try.prog w = .ok v' w' ∧ w'.ownsRow U.heap.size T sz v' (n + m) (xs ++ news) ∧ w.grownBy w' v.ownBlock ∧ (v'.ownBlock = v.ownBlock ∨ v'.ownBlock = some w.heap.size) := by
    rcases hu with ⟨rfl, rfl, rfl⟩ | ⟨ad, c, rfl, hl, hc⟩
    · refine ⟨v, w, ?_, by simpa using hown, ⟨rfl, rfl, rfl, Nat.le_refl _, fun _ _ _ => rfl⟩, .inl rfl⟩
      exact run_append_owned_none (P := Try.prog) (w := w) U.heap.size SL SL T i0 sz uT hi v n xs hown
    · obtain ⟨v', w', hr, h2, h3, _, h5⟩ := run_append_own_at (P := Try.prog) w U.heap.size SL SL T i0 z sz bytes uT hi hz0 hz1 hz2 hz hsz v n xs hown ad m c news hl hc h1 (by unfold maxLen; omega) (Nat.le_trans (Nat.mul_le_mul (show n + m ≤ 200000 by omega) hby) (by decide)) hU.size
      exact ⟨v', w', hr, h2, h3, h5⟩
  obtain ⟨v', w', hr, h2, h3, h5⟩ := key
  have hsl : ∃ p c, v' = .slice p (n + m) c := by
    rcases h2.2 with ⟨rfl, h0⟩ | ⟨g, cap, cur, rfl, _⟩
    · exact ⟨none, 0, by rw [h0]⟩
    · exact ⟨_, _, rfl⟩
  obtain ⟨p, c, rfl⟩ := hsl
  have hb : Below U.heap.size U w' := ⟨h3.os.trans hU.os, h3.tape.trans hU.tape, h3.output.trans hU.output, Nat.le_trans hU.size h3.size, fun k hk => (h3.block k (Nat.lt_of_lt_of_le hk hU.size) (fun e => by
    rcases hown.2 with ⟨rfl, _⟩ | ⟨g, cap, cur, rfl, hg, _⟩
    · cases e
    · simp only [Value.ownBlock, Option.some.injEq] at e; omega)).trans (hU.block k hk)⟩
  unfold Oper.wp execOp
  simp only [ho, hty, resolve, invoke, builtin, Sem.run_bind, Sem.run_pure, Result.andThen_ok, List.map_toArray, List.map_cons, List.map_nil, hs, hx, hr]
  exact h p c w' h2 hb (fun k hk hne => h3.block k hk fun e => hne e.symm) (by rcases h5 with e | e; exact .inl e; exact .inr ⟨_, e, Nat.le_refl _⟩)
end Go.Proofs.Ytdnjconfmaiegaa
