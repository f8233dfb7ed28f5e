/- Layer 36: the reference's All. -/
import Derived.Test.YtminbfingjbbbaaXplJ
namespace Go.Proofs.Ytminbfingjbbbaa
open Go.RowKit
set_option linter.unusedVariables false
set_option linter.unusedSimpArgs false
theorem le_int {i k : Nat} (h : i < k) : (i : Int) + 1 ≤ (k : Int) := by omega
theorem nle_int {i k : Nat} (h : i = k) : ¬ (i : Int) + 1 ≤ (k : Int) := by omega
theorem meas2 {j M : Nat} (h : j < M) : M + 1 - ((j : Int) + 1 + 1).toNat < M + 1 - ((j : Int) + 1).toNat := by omega
theorem wr_2 {i : Nat} (h : i ≤ 100000) : wrap64 ((i : Int) + 1 + 1) = (i : Int) + 1 + 1 := wrap_id (by omega)
theorem wri_2 {i : Nat} (h : i ≤ 100000) : IntKind.i64.wrap ((i : Int) + 1 + 1) = (i : Int) + 1 + 1 := wrapi_id (by omega)
theorem le_small {i k : Nat} (h : i ≤ k) (hk : k ≤ 6000) : i ≤ 100000 := by omega
theorem pos_int {i : Nat} (h : ¬ i = 0) : (0 : Int) < (i : Int) := by omega
theorem npos_int {i : Nat} (h : i = 0) : ¬ (0 : Int) < (i : Int) := by omega
theorem pred_ge {i : Nat} (h : ¬ i = 0) : ∃ j, i = j + 1 := ⟨i - 1, by omega⟩
theorem pred_int {j : Nat} : ((j + 1 : Nat) : Int) - 1 = (j : Int) := by omega
theorem wr_p {j : Nat} (h : j ≤ 100000) : wrap64 (((j + 1 : Nat) : Int) - 1) = (j : Int) := by rw [pred_int]; exact wrap_id (by omega)
theorem wri_p {j : Nat} (h : j ≤ 100000) : IntKind.i64.wrap (((j + 1 : Nat) : Int) - 1) = (j : Int) := by rw [pred_int]; exact wrapi_id (by omega)
theorem eq_int {x y : Nat} (h : x = y) : ((x : Int) == (y : Int)) = true := by subst h; simp
theorem ne_int {x y : Nat} (h : ¬ x = y) : ((x : Int) == (y : Int)) = false := beq_eq_false_iff_ne.2 (by omega)
theorem ownO_cell' {w : World} {B m c g : Nat} {L : List (PL × Value)} (h : OwnO w B (.slice (some ⟨g, 0, none⟩) m c) L) {j : Nat} {u : PL × Value} (hj : L[j]? = some u) : w.cell? ⟨g, j, none⟩ = some u.2 := by
  obtain ⟨g', e, h1⟩ := ownO_cell h hj
  injection e with e; injection e with e; subst e; exact h1
theorem map_get {L : List (PL × Value)} {Z : List PL} {j : Nat} {u : PL × Value} (h : L.map Prod.fst = Z) (hj : L[j]? = some u) : Z[j]? = some u.1 := by
  rw [← h, List.getElem?_map, hj]; rfl
theorem get_of {α : Type} {L : List α} {j : Nat} (h : j < L.length) : ∃ u, L[j]? = some u := ⟨L[j], List.getElem?_eq_getElem h⟩
theorem take_all {α β : Type} {l : List α} {n : Nat} (f : α → List β) (h : n = l.length) : (l.take n).flatMap f = l.flatMap f := by rw [h, List.take_length]
theorem map_len {L : List (PL × Value)} {Z : List PL} (h : L.map Prod.fst = Z) : L.length = Z.length := by rw [← h, List.length_map]
theorem ext_zero (m : Nat) (p : PL) : extT m p 0 = [] := rfl
/-- The row's last turn. -/
theorem row_last {w : World} {B : Nat} {v : Value} {q : PL} {x : Nat} {y : Int} {i : Nat} (h : OwnR w B v (q ++ [((x : Int), y)])) (hl : (q ++ [((x : Int), y)]).length = i + 1) : ∃ g o c, v = .slice (some ⟨g, o, none⟩) (i + 1) c ∧ w.cell? ⟨g, o + i * 2, none⟩ = some (.int .i64 x) := by
  obtain ⟨g, o, c, hg, _, _, HCS⟩ := (ownR_PR h).opened (by rw [hl]; exact Nat.succ_pos _)
  have hq : q.length = i := by simpa using hl
  have h1 := (HCS.out i (by rw [hl]; exact Nat.lt_succ_self _)).1
  rw [show ky (q ++ [((x : Int), y)]) i = (x : Int) by rw [← hq]; simp [ky, List.getD_eq_getElem?_getD]] at h1
  exact ⟨g, o, c, by rw [hg, hl], h1⟩
theorem Lev.cast {w wr : World} {B2 : Nat} {ov nv : Value} {L N : List (PL × Value)} {Z Z' : List PL} (h : Lev w wr B2 ov L nv N Z) (e : Z = Z') : Lev w wr B2 ov L nv N Z' := by rw [← e]; exact h
theorem len_1 {p : PL} (h : p.length ≤ 4) : ([] : PL).length + p.length ≤ 1000000 := by simp; omega
theorem len_2 {p : PL} {x : Int × Int} (h : p.length ≤ 4) : p.length + [x].length ≤ 1000000 := by simp; omega
theorem OwnR.mono {w : World} {B B' : Nat} {v : Value} {l : PL} (h : OwnR w B v l) (k : B' ≤ B) : OwnR w B' v l := by
  refine ⟨h.1, ?_⟩
  rcases h.2 with h1 | ⟨g, cap, cur, hv, hb, h2⟩
  · exact .inl h1
  · exact .inr ⟨g, cap, cur, hv, Nat.le_trans k hb, h2⟩
set_option maxHeartbeats 2000000 in
theorem rall (t m k : Nat) (w : World) (ht : 1 ≤ t ∧ t ≤ 6) (hm : 1 ≤ m ∧ m ≤ 1000) (hk : k ≤ 4) (hmk : manyL t m k ≤ 3000) :
    Calls Try.prog 7 #[.int .i64 t, .int .i64 m, .int .i64 k] w fun e w' => ∃ v L, e = .returned v ∧ OwnO w' w.heap.size v L ∧ L.map Prod.fst = itL t m k ∧ Below w.heap.size w w' := by
  refine Calls.veil fun Q HQ => ?_
  have g0 : ¬ (t : Int) < 1 := by omega
  have g1 : ¬ 6 < (t : Int) := by omega
  have g2 : ¬ (m : Int) < 1 := by omega
  have g3 : ¬ 1000 < (m : Int) := by omega
  have g4 : ¬ (k : Int) < 0 := by omega
  have g5 : ¬ 4 < (k : Int) := by omega
  have HTM := Lib.hid (And.intro ht.2 hm.2)
  have HK := Lib.hid hk
  have HMM := Lib.hid (many_mid t m k ht hm hmk)
  have HB0 := Lib.hid (show Below w.heap.size w (w.alloc (.cells #[.slice none 0 0] 32)) from (Below.refl _ _).alloc (Nat.le_refl _) _)
  clear ht hm hk hmk
  go_enter Try.func7, Try.ntmps7
  go_wp2_with fail
  go_loopw [7, 8] (fun ov iv wr => ∃ (i : Nat) (L : List (PL × Value)), i ≤ k ∧ iv = .int .i64 i ∧ Hid (OwnO wr w.heap.size ov L ∧ L.map Prod.fst = itL t m i) ∧ Hid (Below w.heap.size w wr)) (fun _ iv _ => k - (intOf iv).toNat)
  case atStart => exact ⟨0, _, Nat.zero_le _, rfl, Lib.hid ⟨rowO_one, rfl⟩, HB0⟩
  case round =>
    obtain ⟨i, L, hi, rfl, HO, HW⟩ := hrel
    rcases or_lt hi with hlt | heq
    · have hik : (i : Int) < (k : Int) := lt_int hlt
      have HI := Lib.hid (And.intro hi hlt)
      have hw1 : wrap64 ((i : Int) + 1) = (i : Int) + 1 := wr_k (Nat.le_trans hi (Nat.le_trans HK.out (by decide)))
      have hw2 : IntKind.i64.wrap ((i : Int) + 1) = (i : Int) + 1 := wri_k (Nat.le_trans hi (Nat.le_trans HK.out (by decide)))
      obtain ⟨q, c, rfl⟩ := ownO_slice HO.out.1
      obtain ⟨n, hn⟩ : ∃ n, n = L.length := ⟨_, rfl⟩
      have HN := Lib.hid hn
      have HNL := Lib.hid (show n ≤ 6000 by
        rw [hn, map_len HO.out.2, it_many]; exact HMM.out i hi)
      have HZN := Lib.hid (show n = (itL t m i).length by rw [hn, map_len HO.out.2])
      rw [← hn] at HO ⊢
      clear hn hi hlt
      obtain ⟨Z, hZ⟩ : ∃ Z, Z = itL t m i := ⟨_, rfl⟩
      have HZ := Lib.hid hZ
      rw [← hZ] at HO HZN
      clear hZ
      obtain ⟨B2, hB2⟩ : ∃ B2, B2 = wr.heap.size := ⟨_, rfl⟩
      have HL0 := Lib.hid (show Lev w wr B2 (.slice q n c) L (.slice none 0 0) [] ((Z.take 0).flatMap (extL t m)) from ⟨HO.out.1, by rw [hB2]; exact ownO_lt HO.out.1, ownO_nil _ _, by simp, HW.out, by rw [hB2]; exact HW.out.size, Nat.le_of_eq hB2⟩)
      clear hB2
      go_wp2_with fail
      go_loopw [9, 10] (fun nv jv w2 => ∃ (j : Nat) (N : List (PL × Value)), j ≤ n ∧ jv = .int .i64 j ∧ Hid (Lev w w2 B2 (.slice q n c) L nv N ((Z.take j).flatMap (extL t m)))) (fun _ jv _ => n - (intOf jv).toNat)
      case atStart => exact ⟨0, [], Nat.zero_le _, rfl, HL0⟩
      case round =>
        clear HL0
        obtain ⟨j, N, hj, rfl, HL⟩ := hrel
        rcases or_lt hj with hjlt | hjeq
        · have hjn : (j : Int) < (n : Int) := lt_int hjlt
          have HJ := Lib.hid (And.intro hj hjlt)
          have hjw1 : wrap64 ((j : Int) + 1) = (j : Int) + 1 := wr_k (le_small hj HNL.out)
          have hjw2 : IntKind.i64.wrap ((j : Int) + 1) = (j : Int) + 1 := wri_k (le_small hj HNL.out)
          obtain ⟨u, hu⟩ := get_of (L := L) (j := j) (Nat.lt_of_lt_of_eq hjlt HN.out)
          have HU := Lib.hid hu
          have HP := Lib.hid (map_get HO.out.2 hu)
          obtain ⟨g, hg, hcx⟩ := ownO_cell HO.out.1 hu
          clear hcx
          subst hg
          obtain ⟨p, uv⟩ := u
          clear hu hj hjlt
          simp only at HP
          obtain ⟨pp, pc, hpp⟩ := ownR_slice (HO.out.1.rows _ (List.mem_of_getElem? HU.out))
          simp only at hpp
          rw [hpp] at HU
          clear hpp uv
          have HPI := Lib.hid (show p ∈ itL t m i by rw [← HZ.out]; exact List.mem_of_getElem? HP.out)
          have HL3 := Lib.hid (HL.out.cast (Z' := (Z.take j).flatMap (extL t m) ++ extT m p 0) (by rw [ext_zero, List.append_nil]))
          clear HL
          go_wp2_with fail
          go_loopw [9, 11] (fun nv tv w3 => ∃ (th : Nat) (N : List (PL × Value)), th ≤ t ∧ tv = .int .i64 th ∧ Hid (Lev w w3 B2 (.slice (some ⟨g, 0, none⟩) n c) L nv N ((Z.take j).flatMap (extL t m) ++ extT m p th))) (fun _ tv _ => t - (intOf tv).toNat)
          case atStart => exact ⟨0, N, Nat.zero_le _, rfl, HL3⟩
          case round =>
            clear HL3
            obtain ⟨th, N, hth, rfl, HL⟩ := hrel
            rcases or_lt hth with htlt | hteq
            · have htn : (th : Int) < (t : Int) := lt_int htlt
              have HT := Lib.hid (And.intro hth htlt)
              have htw1 : wrap64 ((th : Int) + 1) = (th : Int) + 1 := wr_k (Nat.le_trans hth (Nat.le_trans HTM.out.1 (by decide)))
              have htw2 : IntKind.i64.wrap ((th : Int) + 1) = (th : Int) + 1 := wri_k (Nat.le_trans hth (Nat.le_trans HTM.out.1 (by decide)))
              have hc := ownO_cell' HL.out.o HU.out
              simp only at hc
              clear hth htlt
              by_cases hi0 : i = 0
              · have hi1 := npos_int hi0
                have HSK := Lib.hid (show skipB p th = false by
                  have h1 := it_len HPI.out
                  rw [hi0] at h1
                  rw [List.eq_nil_of_length_eq_zero h1]; rfl)
                clear hi0
                have HL4 := Lib.hid (HL.out.cast (Z' := (Z.take j).flatMap (extL t m) ++ extT m p th ++ (List.range 0).map fun n : Nat => p ++ [((th : Int), (n : Int) + 1)]) (by rw [List.range_zero, List.map_nil, List.append_nil]))
                clear HL
                go_wp2_with fail
                go_loopw [9, 12] (fun nv xv w4 => ∃ (n2 : Nat) (N : List (PL × Value)), n2 ≤ m ∧ xv = .int .i64 ((n2 : Int) + 1) ∧ Hid (Lev w w4 B2 (.slice (some ⟨g, 0, none⟩) n c) L nv N ((Z.take j).flatMap (extL t m) ++ extT m p th ++ (List.range n2).map fun n : Nat => p ++ [((th : Int), (n : Int) + 1)]))) (fun _ xv _ => m + 1 - (intOf xv).toNat)
                case atStart => exact ⟨0, N, Nat.zero_le _, rfl, HL4⟩
                case round =>
                  clear HL4
                  obtain ⟨n2, N, hn2, rfl, HL⟩ := hrel
                  rcases or_lt hn2 with hnlt | hneq
                  · have hnm := le_int hnlt
                    have HN2 := Lib.hid (And.intro hn2 hnlt)
                    have hnw1 := wr_2 (le_small hn2 (Nat.le_trans HTM.out.2 (by decide)))
                    have hnw2 := wri_2 (le_small hn2 (Nat.le_trans HTM.out.2 (by decide)))
                    clear hn2 hnlt hc
                    have HK0 := Lib.hid ((Below.refl wr.heap.size wr).alloc (Nat.le_refl _) (.cells #[] 40))
                    have hc : ∀ u, (wr.alloc u).cell? ⟨g, j, none⟩ = some (.slice pp p.length pc) := fun u => ownO_cell' (HL.out.o.on ((Below.refl _ _).alloc (Nat.le_refl _) u)) HU.out
                    have HZL := Lib.hid (show N.length ≤ 100000000 by
                      rw [HL.out.len]; exact z_le t m HTM.out.1 HTM.out.2 Z (Nat.le_trans (Nat.le_of_eq HZN.out.symm) HNL.out) p j th n2 HT.out.1 HN2.out.1)
                    have HPL := Lib.hid (show p.length ≤ 4 by rw [it_len HPI.out]; exact Nat.le_trans HI.out.1 HK.out)
                    have HSZ := Lib.hid HL.out.s1
                    go_wp2_with (at_builtin; refine wpList_append_r rfl (.tmp 73) (.tmp 77) rfl wr.heap.size _ [] rfl (ownR_none wr) _ p rfl (ownR_PR ((HL.out.o.on HK0.out).rows _ (List.mem_of_getElem? HU.out))) (len_1 HPL.out) (size_al _ (Nat.le_refl _)) ?_)
                    intro v1 w1 hown hg
                    have H1 := Lib.hid (show OwnR w1 wr.heap.size v1 p ∧ Below wr.heap.size wr w1 from ⟨hown, growR (W := wr) (ownR_none wr) HK0.out (Nat.le_refl _) hg⟩)
                    clear hown hg hc
                    go_wp2_with (at_builtin; refine wpList_append_r rfl (.tmp 78) (.tmp 82) rfl wr.heap.size _ p rfl (World.ownsRow.alloc H1.out.1 _) _ [((th : Int), (n2 : Int) + 1)] rfl PR.single (len_2 HPL.out) (size_al _ H1.out.2.size) ?_)
                    intro v2 w2' hown hg
                    have H2 := Lib.hid (show OwnR w2' wr.heap.size v2 (p ++ [((th : Int), (n2 : Int) + 1)]) ∧ Below wr.heap.size wr w2' from ⟨hown, growR (W := wr) (World.ownsRow.alloc H1.out.1 _) (H1.out.2.alloc H1.out.2.size _) (Nat.le_refl _) hg⟩)
                    clear hown hg H1
                    obtain ⟨l, hl⟩ : ∃ l, l = p ++ [((th : Int), (n2 : Int) + 1)] := ⟨_, rfl⟩
                    have HLL := Lib.hid hl
                    rw [← hl] at H2
                    clear hl
                    obtain ⟨rp, rc, rfl⟩ := ownR_slice H2.out.1
                    obtain ⟨ln, hln⟩ : ∃ ln, ln = l.length := ⟨_, rfl⟩
                    rw [← hln] at H2 ⊢
                    clear hln
                    have HA := Lib.hid (HL.out.on (H2.out.2.alloc H2.out.2.size (.cells #[.slice rp ln rc] 32)))
                    have HR := Lib.hid (show OwnR (w2'.alloc (.cells #[.slice rp ln rc] 32)) B2 (.slice rp ln rc) l from OwnR.mono (World.ownsRow.alloc H2.out.1 _) HSZ.out)
                    go_wp2_with (at_builtin; refine wpList_append_o1 rfl (.tmp 72) (.tmp 84) rfl B2 _ N l rp ln rc w2'.heap.size _ rfl HA.out.n HR.out rfl (by rw [cell_of_row _ _ _ _ _ (0, 0) (heap_alloc_new w2' _)]; rfl) HZL.out HA.out.s1 ?_)
                    intro v3 w3' hown hg
                    have H3 := Lib.hid (HA.out.more hown hg)
                    clear hown hg HA HR H2
                    go_wp2_with fail
                    go_roundw
                    case rel => exact ⟨n2 + 1, _, HN2.out.2, (by push_cast; rfl), Lib.hid (by rw [range_map_succ, ← List.append_assoc, ← HLL.out]; exact H3.out)⟩
                    case measure => exact meas2 HN2.out.2
                  · have hnm := nle_int hneq
                    subst hneq
                    go_wp2_with fail
                    go_roundw
                    case rel => exact ⟨th + 1, N, HT.out.2, rfl, Lib.hid (by rw [extT_go HSK.out, ← List.append_assoc]; exact HL.out)⟩
                    case measure => exact meas1 HT.out.2
              · have hi1 := pos_int hi0
                obtain ⟨i', hi'⟩ := pred_ge hi0
                obtain ⟨x, hx, p', y, hp⟩ := it_last (show p ∈ itL t m (i' + 1) by rw [← hi']; exact HPI.out)
                have HX := Lib.hid hp
                obtain ⟨g', o', pc', hv, hcl⟩ := row_last (i := i') (by rw [← hp]; exact HL.out.o.rows _ (List.mem_of_getElem? HU.out)) (by rw [← hp, ← hi']; exact it_len HPI.out)
                simp only [Value.slice.injEq] at hv
                obtain ⟨hv1, hv2, hv3⟩ := hv
                subst hv1 hv3
                have hwp1 : wrap64 ((i : Int) - 1) = (i' : Int) := by rw [hi']; exact wr_p (Nat.le_trans (Nat.le_of_lt (Nat.lt_of_lt_of_eq (Nat.lt_succ_self i') hi'.symm)) (Nat.le_trans HI.out.1 (Nat.le_trans HK.out (by decide))))
                have hwp2 : IntKind.i64.wrap ((i : Int) - 1) = (i' : Int) := by rw [hi']; exact wri_p (Nat.le_trans (Nat.le_of_lt (Nat.lt_of_lt_of_eq (Nat.lt_succ_self i') hi'.symm)) (Nat.le_trans HI.out.1 (Nat.le_trans HK.out (by decide))))
                have hlt1 : (i' : Int) < ((p.length : Nat) : Int) := by rw [hv2]; exact lt_int (Nat.lt_succ_self i')
                obtain ⟨len, hlen⟩ : ∃ len, len = p.length := ⟨_, rfl⟩
                have HLEN := Lib.hid hlen
                rw [← hlen] at hlt1 hc
                clear hv2 hp hi0 hi' hlen
                by_cases hxt : x = th
                · have hb := eq_int hxt
                  have HSK := Lib.hid (show skipB p th = true by rw [HX.out, skip_last]; exact decide_eq_true hxt)
                  clear hxt hx
                  go_wp2_with fail
                  go_roundw
                  case rel => exact ⟨th + 1, N, HT.out.2, rfl, Lib.hid (by rw [extT_skip HSK.out]; exact HL.out)⟩
                  case measure => exact meas1 HT.out.2
                · have hb := ne_int hxt
                  have HSK := Lib.hid (show skipB p th = false by rw [HX.out, skip_last]; exact decide_eq_false hxt)
                  clear hxt hx
                  have HL4 := Lib.hid (HL.out.cast (Z' := (Z.take j).flatMap (extL t m) ++ extT m p th ++ (List.range 0).map fun n : Nat => p ++ [((th : Int), (n : Int) + 1)]) (by rw [List.range_zero, List.map_nil, List.append_nil]))
                  clear HL
                  go_wp2_with fail
                  go_loopw [9, 12] (fun nv xv w4 => ∃ (n2 : Nat) (N : List (PL × Value)), n2 ≤ m ∧ xv = .int .i64 ((n2 : Int) + 1) ∧ Hid (Lev w w4 B2 (.slice (some ⟨g, 0, none⟩) n c) L nv N ((Z.take j).flatMap (extL t m) ++ extT m p th ++ (List.range n2).map fun n : Nat => p ++ [((th : Int), (n : Int) + 1)]))) (fun _ xv _ => m + 1 - (intOf xv).toNat)
                  case atStart => exact ⟨0, N, Nat.zero_le _, rfl, HL4⟩
                  case round =>
                    clear HL4
                    obtain ⟨n2, N, hn2, rfl, HL⟩ := hrel
                    rcases or_lt hn2 with hnlt | hneq
                    · have hnm := le_int hnlt
                      have HN2 := Lib.hid (And.intro hn2 hnlt)
                      have hnw1 := wr_2 (le_small hn2 (Nat.le_trans HTM.out.2 (by decide)))
                      have hnw2 := wri_2 (le_small hn2 (Nat.le_trans HTM.out.2 (by decide)))
                      clear hn2 hnlt hc
                      have HK0 := Lib.hid ((Below.refl wr.heap.size wr).alloc (Nat.le_refl _) (.cells #[] 40))
                      have hc : ∀ u, (wr.alloc u).cell? ⟨g, j, none⟩ = some (.slice (some ⟨g', o', none⟩) p.length pc) := fun u => ownO_cell' (HL.out.o.on ((Below.refl _ _).alloc (Nat.le_refl _) u)) HU.out
                      have HZL := Lib.hid (show N.length ≤ 100000000 by
                        rw [HL.out.len]; exact z_le t m HTM.out.1 HTM.out.2 Z (Nat.le_trans (Nat.le_of_eq HZN.out.symm) HNL.out) p j th n2 HT.out.1 HN2.out.1)
                      have HPL := Lib.hid (show p.length ≤ 4 by rw [it_len HPI.out]; exact Nat.le_trans HI.out.1 HK.out)
                      have HSZ := Lib.hid HL.out.s1
                      go_wp2_with (at_builtin; refine wpList_append_r rfl (.tmp 73) (.tmp 77) rfl wr.heap.size _ [] rfl (ownR_none wr) _ p rfl (ownR_PR ((HL.out.o.on HK0.out).rows _ (List.mem_of_getElem? HU.out))) (len_1 HPL.out) (size_al _ (Nat.le_refl _)) ?_)
                      intro v1 w1 hown hg
                      have H1 := Lib.hid (show OwnR w1 wr.heap.size v1 p ∧ Below wr.heap.size wr w1 from ⟨hown, growR (W := wr) (ownR_none wr) HK0.out (Nat.le_refl _) hg⟩)
                      clear hown hg hc
                      go_wp2_with (at_builtin; refine wpList_append_r rfl (.tmp 78) (.tmp 82) rfl wr.heap.size _ p rfl (World.ownsRow.alloc H1.out.1 _) _ [((th : Int), (n2 : Int) + 1)] rfl PR.single (len_2 HPL.out) (size_al _ H1.out.2.size) ?_)
                      intro v2 w2' hown hg
                      have H2 := Lib.hid (show OwnR w2' wr.heap.size v2 (p ++ [((th : Int), (n2 : Int) + 1)]) ∧ Below wr.heap.size wr w2' from ⟨hown, growR (W := wr) (World.ownsRow.alloc H1.out.1 _) (H1.out.2.alloc H1.out.2.size _) (Nat.le_refl _) hg⟩)
                      clear hown hg H1
                      obtain ⟨l, hl⟩ : ∃ l, l = p ++ [((th : Int), (n2 : Int) + 1)] := ⟨_, rfl⟩
                      have HLL := Lib.hid hl
                      rw [← hl] at H2
                      clear hl
                      obtain ⟨rp, rc, rfl⟩ := ownR_slice H2.out.1
                      obtain ⟨ln, hln⟩ : ∃ ln, ln = l.length := ⟨_, rfl⟩
                      rw [← hln] at H2 ⊢
                      clear hln
                      have HA := Lib.hid (HL.out.on (H2.out.2.alloc H2.out.2.size (.cells #[.slice rp ln rc] 32)))
                      have HR := Lib.hid (show OwnR (w2'.alloc (.cells #[.slice rp ln rc] 32)) B2 (.slice rp ln rc) l from OwnR.mono (World.ownsRow.alloc H2.out.1 _) HSZ.out)
                      go_wp2_with (at_builtin; refine wpList_append_o1 rfl (.tmp 72) (.tmp 84) rfl B2 _ N l rp ln rc w2'.heap.size _ rfl HA.out.n HR.out rfl (by rw [cell_of_row _ _ _ _ _ (0, 0) (heap_alloc_new w2' _)]; rfl) HZL.out HA.out.s1 ?_)
                      intro v3 w3' hown hg
                      have H3 := Lib.hid (HA.out.more hown hg)
                      clear hown hg HA HR H2
                      go_wp2_with fail
                      go_roundw
                      case rel => exact ⟨n2 + 1, _, HN2.out.2, (by push_cast; rfl), Lib.hid (by rw [range_map_succ, ← List.append_assoc, ← HLL.out]; exact H3.out)⟩
                      case measure => exact meas2 HN2.out.2
                    · have hnm := nle_int hneq
                      subst hneq
                      go_wp2_with fail
                      go_roundw
                      case rel => exact ⟨th + 1, N, HT.out.2, rfl, Lib.hid (by rw [extT_go HSK.out, ← List.append_assoc]; exact HL.out)⟩
                      case measure => exact meas1 HT.out.2
            · have htn : ¬ (th : Int) < (t : Int) := nlt_int hteq
              subst hteq
              go_wp2_with fail
              go_roundw
              case rel => exact ⟨j + 1, N, HJ.out.2, rfl, Lib.hid (by rw [take_flat _ HP.out]; exact HL.out)⟩
              case measure => exact meas1 HJ.out.2
        · have hjn : ¬ (j : Int) < (n : Int) := nlt_int hjeq
          subst hjeq
          go_wp2_with fail
          go_roundw
          case rel => exact ⟨i + 1, N, HI.out.2, rfl, Lib.hid ⟨HL.out.n.mono HL.out.s0, by rw [HL.out.z, take_all _ HZN.out, HZ.out]; rfl⟩, Lib.hid HL.out.b⟩
          case measure => exact meas1 HI.out.2
    · have hik : ¬ (i : Int) < (k : Int) := nlt_int heq
      subst heq
      go_wp2_with fail
      (try go_ret)
      rw [HQ.out]
      exact ⟨_, _, rfl, HO.out.1, HO.out.2, HW.out⟩
end Go.Proofs.Ytminbfingjbbbaa
