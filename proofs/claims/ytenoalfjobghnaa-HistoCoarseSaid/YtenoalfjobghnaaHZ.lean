/- The specification's Coarse. -/
import Derived.Test.YtenoalfjobghnaaHY
import Derived.Test.YtenoalfjobghnaaHW
set_option linter.unusedVariables false
set_option linter.unusedSimpArgs false
namespace Go.Proofs.Ytenoalfjobghnaa
open Go.RowKit

theorem buildR0 (w : World) : (Instr.build 68 #[(0, .bool true)]).run Try.prog w = .ok (.agg #[.bool true, .slice none 0 0, .slice none 0 0]) w := by kernel_rfl
theorem rcoarse_n (w : World) (i : Int) : Calls Try.prog 28 #[.pointer none, .int .i64 i] w fun e w' => e = .returned (.tuple #[.pointer none, .int .i64 1]) ∧ w = w' := by
  have v0 := rvalid_n w
  go_enter Try.func28, Try.ntmps28
  go_wp2_with (go_at_call 40; refine v0.mono ?_; rintro e w' ⟨rfl, rfl⟩)
  go_ret2
  exact ⟨rfl, rfl⟩
theorem rcoarse_e {B : Nat} {w : World} {b : Nat} {vB vC : Value} {m : Nat} {V C : Nat → Int} (M : RM B w b vB vC m V C) (i : Int) (no : i < 0 ∨ (m : Int) ≤ i) :
    Calls Try.prog 28 #[.pointer (some ⟨b, 0, none⟩), .int .i64 i] w fun e w' => e = .returned (.tuple #[.pointer none, .int .i64 3]) ∧ w = w' := by
  obtain ⟨p, cb, rfl⟩ := row_slice M.rB
  have v0 := hide (rvalid_t M.c.1)
  have c0 := M.c.2.1
  have hp := ptrR
  clear M
  by_cases h : i < 0
  · have d0 : decide (i < 0) = true := by simpa using h
    clear no h
    go_enter Try.func28, Try.ntmps28
    go_wp2_with fail
    refine v0.out.mono ?_
    rintro e w' ⟨rfl, rfl⟩
    go_wp2_with fail
    go_ret2
    exact ⟨rfl, rfl⟩
  · have d0 : decide (i < 0) = false := by simpa using h
    have d1 : decide ((m : Int) ≤ i) = true := by simp; omega
    clear no h
    go_enter Try.func28, Try.ntmps28
    go_wp2_with fail
    refine v0.out.mono ?_
    rintro e w' ⟨rfl, rfl⟩
    go_wp2_with fail
    go_ret2
    exact ⟨rfl, rfl⟩
def rowf (C : Nat → Int) (i k : Nat) : Nat → Int := if k ≤ i + 1 then C else mrg C i
theorem rowf_same (C : Nat → Int) {i k : Nat} (h : k ≠ i + 1) : rowf C i (k + 1) = rowf C i k := by
  unfold rowf
  by_cases q : k ≤ i + 1
  · rw [if_pos q, if_pos (by omega)]
  · rw [if_neg q, if_neg (by omega)]
theorem rowf_next (C : Nat → Int) {i k : Nat} (h : k ≠ i + 1) : rowf C i k (cnt (i + 1) k) = C k := by
  unfold rowf cnt
  by_cases q : k ≤ i + 1
  · rw [if_pos q, if_pos q]
  · rw [if_neg q, if_neg q]; unfold mrg; rw [if_neg (by omega), if_neg (by omega), show k - 1 + 1 = k by omega]
theorem rowf_mid (C : Nat → Int) (i : Nat) : ∀ j, j < i + 1 → updI (rowf C i (i + 1)) i (C i + C (i + 1)) j = rowf C i (i + 1 + 1) j := by
  intro j hj
  unfold rowf
  rw [if_pos (Nat.le_refl _), if_neg (by omega)]
  unfold updI mrg
  by_cases e : j = i
  · subst e; rw [if_pos rfl, if_neg (Nat.lt_irrefl j), if_pos rfl]
  · rw [if_neg e, if_pos (by omega)]
set_option maxRecDepth 1000000 in
set_option maxHeartbeats 16000000 in
theorem rcoarse_t {S : Nat} {w : World} {a : Id} {m : Nat} {V C : Nat → Int} (G : RI S w a m V C) (i : Nat) (hi : i < m) :
    Calls Try.prog 28 #[.pointer (some ⟨a.b, 0, none⟩), .int .i64 (i : Int)] w fun e w' => ∃ d : Id, e = .returned (.tuple #[.pointer (some ⟨d.b, 0, none⟩), .int .i64 0]) ∧ RI w.heap.size w' d (m - 1) (cut V i) (mrg C i) ∧ Kp [] w w' := by
  obtain ⟨b, vB, vC⟩ := a
  have M : RM S w b vB vC m V C := G.M
  obtain ⟨gC, cC, rfl⟩ := M.C_at
  obtain ⟨pB, cB, rfl⟩ := row_slice M.rB
  have v0 := hide (rvalid_t M.c.1)
  have c0 := M.c.2.1
  have hp := ptrR
  have hm := G.hm
  have d0 : decide ((i : Int) < 0) = false := by simp
  have d1 : decide ((m : Int) ≤ (i : Int)) = false := by simp; omega
  have d1' : decide (m ≤ i) = false := by simp; omega
  have m1 := fun (x : Int) W => lit1 x W
  have bz := fun W => buildR0 W
  obtain ⟨i0, hi0, hz0, hz1, hz2⟩ := infoParts infoI
  have HInf := hide (And.intro hi0 (And.intro hz0 (And.intro hz1 hz2)))
  have HG' := hide G
  have HM0 := hide M
  have E1 := hide (show i < m ∧ m ≤ 1024 from ⟨hi, hm⟩)
  clear G M hm hi hi0 hz0 hz1 hz2
  go_enter Try.func28, Try.ntmps28
  go_wp2_with fail
  refine v0.out.mono ?_
  rintro e w' ⟨rfl, rfl⟩
  go_wp2_with fail
  obtain ⟨W0, hW0⟩ : ∃ W, W = w.alloc (.cells #[.bool true, .slice none 0 0, .slice none 0 0] 68) := ⟨_, rfl⟩
  have K0 : Hid (Kp [] w W0) := by rw [hW0]; exact Kp.alloc _ _
  have B0 : Hid (W0.heap[w.heap.size]? = some (.cells #[.bool true, .slice none 0 0, .slice none 0 0] 68 (0, 0))) := by rw [hW0]; exact heap_alloc_new _ _
  have Z0 : Hid (W0.heap.size = w.heap.size + 1) := by rw [hW0]; show _ = _; simp
  rw [← hW0]
  obtain ⟨d, hd⟩ : ∃ d, d = w.heap.size := ⟨_, rfl⟩
  have HD := hide hd
  rw [← hd] at B0 ⊢
  clear hW0 hd c0 d0 d1 d1'
  go_loopw [7] (fun x wr => ∃ (k : Nat) (v : Value), x = .int .i64 (k : Int) ∧ Hid (k ≤ m) ∧ Hid (wr.heap[d]? = some (.cells #[.bool true, v, .slice none 0 0] 68 (0, 0))) ∧ Hid (wr.ownsRow (d + 1) 2 1 v (cnt i k) (intsI (cnt i k) (cut V i))) ∧ Hid (Kp [] w wr)) (fun x _ => m - (intOf x).toNat)
  case atStart => exact ⟨0, _, rfl, Nat.zero_le _, B0.out, World.ownsRow_nil _ _ _ _, K0.out⟩
  case round =>
    obtain ⟨k, v, rfl, hk, hB, hR, hK⟩ := hrel
    have M1 := hide (HM0.out.keep hK.out (by simp))
    have x1 : wr.cell? ⟨b, 1, none⟩ = some (.slice pB m cB) := M1.out.c.2.1
    by_cases hlt : k < m
    · have dk : decide (k < m) = true := by simpa using hlt
      have dk2 : decide ((k : Int) < (m : Int)) = true := by simpa using hlt
      have ww : IntKind.i64.wrap ((k : Int) + 1) = (k : Int) + 1 := by have := E1.out; rw [IntKind.wrap_i64]; omega
      have b1 : (k : Int) < (m : Int) := by omega
      have HLT := hide hlt
      by_cases ne : k = i
      · have d3 : ((k : Int) == (i : Int)) = true := by simp; omega
        have d3' : (k == i) = true := by simpa using ne
        have HNE := hide ne
        clear ne hlt
        go_wp2_with fail
        go_roundw
        case rel => exact ⟨k + 1, v, by go_num, by have := HLT.out; show k + 1 ≤ m; omega, hB.out, by have q := hR.out; rw [HNE.out] at q; rw [HNE.out, cnt_skip]; exact q, hK.out⟩
        case measure => have := HLT.out; simp [intOf]; omega
      · have d3 : ((k : Int) == (i : Int)) = false := by simp; omega
        have d3' : (k == i) = false := by simpa using ne
        obtain ⟨g, hg, e1, _, _⟩ := row_cell M1.out.rB hlt
        subst hg
        rw [intsI_get _ hlt] at e1
        have HNE := hide ne
        have CE := hide (cut_cnt V ne)
        have CL := hide (cnt_le i k)
        obtain ⟨y, hy⟩ : ∃ y, y = V k := ⟨_, rfl⟩
        rw [← hy] at e1 CE
        have my := m1 y
        obtain ⟨pv, cv, rfl⟩ := row_slice hR.out
        have x2 : wr.cell? ⟨d, 1, none⟩ = some (.slice pv (cnt i k) cv) := by simp [cell_of_blk hB.out]
        have HR' := hide (show (wr.alloc (.cells #[.int .i64 y] 2)).drew.ownsRow (d + 1) 2 1 (.slice pv (cnt i k) cv) (cnt i k) (intsI (cnt i k) (cut V i)) from (Kp.drewN [] _ 1).row ((Kp.alloc (o := []) _ _).row hR.out (by simp)) (by simp))
        have KA := hide (show Kp [] wr (wr.alloc (.cells #[.int .i64 y] 2)).drew from (Kp.alloc (o := []) _ _).trans0 (Kp.drewN [] _ 1))
        have x2' : (wr.alloc (.cells #[.int .i64 y] 2)).cell? ⟨d, 1, none⟩ = some (.slice pv (cnt i k) cv) := by simp [cell_of_blk ((Kp.alloc (o := []) wr (.cells #[.int .i64 y] 2)).blk hB.out (by simp))]
        clear hy ne hlt
        go_wp2_with fail
        go_region_law (first | (refine step_append_new _ rfl (.tmp 41) (.tmp 49) 22 rfl (d + 1) 2 i0 (.int .i64 0) 1 8 Try.underlying22 HInf.out.1 HInf.out.2.1 HInf.out.2.2.1 HInf.out.2.2.2 rfl (by decide) (.slice pv (cnt i k) cv) (cnt i k) (intsI (cnt i k) (cut V i)) (by simp [Act.eval, Act.put]) HR'.out ⟨wr.heap.size, 0, none⟩ 1 1 [.int .i64 y] (by simp [Act.eval, Act.put]) rfl (fun j' u' h' => one_src wr (.int .i64 y) 2 j' u' h') (by simp [Value.oneCell']) (by have := CL.out; have := HLT.out; have := E1.out; unfold maxLen; omega) (by have := CL.out; have := HLT.out; have := E1.out; omega) (by have := hK.out.size; have := HD.out; have := lt_of_blk hB.out; show d + 1 ≤ (wr.alloc _).heap.size; simp; omega) ?_; intro v' w' ho hg hb; obtain ⟨pw, cw, rfl⟩ := row_slice ho; have BD0 := KA.out.blk hB.out (by simp); have BD := (hg.block d (lt_of_blk BD0) (by intro e; have := (hR.out.lt d e.symm).1; omega)).trans BD0; have fr := free_of_blk BD 1; have cc : w'.cell? ⟨d, 1, none⟩ = some (.slice pv (cnt i k) cv) := by simp [cell_of_blk BD]))
        all_goals
          have HO := hide ho
          have BD1 := hide (heap_setCell_same w' d 1 _ _ (.slice pw (cnt i k + 1) cw) BD)
          have RO := hide (row_side HO.out (b := d) (fun z hz => by have := (HO.out.lt z hz).1; omega) 1 (.slice pw (cnt i k + 1) cw))
          have KO := hide (((hK.out.trans0 KA.out).grown hg (fun z hz => by have := (hR.out.lt z hz).1; have := HD.out; omega)).trans (Kp.set (o := [d]) w' ⟨d, 1, none⟩ (.slice pw (cnt i k + 1) cw) (by simp)) (fun z hz => .inr (by have := HD.out; simp at hz; omega)))
          clear ho hg hb BD BD0
          go_wp2_with fail
          go_roundw
          case rel => exact ⟨k + 1, .slice pw (cnt i k + 1) cw, by go_num, by have := HLT.out; show k + 1 ≤ m; omega, BD1.out, by rw [cnt_next HNE.out, intsI_snoc, CE.out]; exact RO.out, KO.out⟩
          case measure => have := HLT.out; simp [intOf]; omega
    · have hkn : k = m := by have := hk.out; omega
      subst hkn
      have dk : decide (k < k) = false := by simp
      have dk2 : decide ((k : Int) < (k : Int)) = false := by simp
      have hR' := hR.out
      rw [cnt_end E1.out.1] at hR'
      have RB := hide hR'
      have hz := hide (show ∀ z, v.ownBlock = some z → z < wr.heap.size from fun z hz => (hR'.lt z hz).2)
      have lt0 := hide (show d < wr.heap.size from lt_of_blk hB.out)
      obtain ⟨W2, hW2⟩ : ∃ W : World, W = wr := ⟨_, rfl⟩
      rw [← hW2] at hB RB hz hK lt0 x1 ⊢
      clear hW2 hR hR' hlt hk M1
      obtain ⟨m1', hm1⟩ : ∃ x, x = k + 1 := ⟨_, rfl⟩
      have HM1 := hide hm1
      obtain ⟨i1, hi1⟩ : ∃ x, x = i + 1 := ⟨_, rfl⟩
      have HI1 := hide hi1
      have wi : IntKind.i64.wrap ((i : Int) + 1) = (i1 : Int) := by have := E1.out; rw [IntKind.wrap_i64]; omega
      clear hm1 hi1
      go_wp2_with fail
      clear x1
      go_loopw [8] (fun x wr => ∃ (j : Nat) (u : Value), x = .int .i64 (j : Int) ∧ Hid (j ≤ m1') ∧ Hid (wr.heap[d]? = some (.cells #[.bool true, v, u] 68 (0, 0))) ∧ Hid (wr.ownsRow (d + 1) 2 1 v (k - 1) (intsI (k - 1) (cut V i))) ∧ Hid (wr.ownsRow W2.heap.size 2 1 u (cnt (i + 1) j) (intsI (cnt (i + 1) j) (rowf C i j))) ∧ Hid (Kp [] w wr ∧ W2.heap.size ≤ wr.heap.size)) (fun x _ => m1' - (intOf x).toNat)
      case atStart => exact ⟨0, _, rfl, Nat.zero_le _, hB.out, RB.out, World.ownsRow_nil _ _ _ _, hK.out, Nat.le_refl _⟩
      case round =>
        obtain ⟨j, u, rfl, hj, hB, hRv, hRu, hKK⟩ := hrel
        have M1 := hide (HM0.out.keep hKK.out.1 (by simp))
        have x2 : wr.cell? ⟨b, 2, none⟩ = some (.slice (some ⟨gC, 0, none⟩) m1' cC) := by rw [HM1.out]; exact M1.out.c.2.2
        by_cases hlt : j < m1'
        · have ek : decide (j < m1') = true := by simpa using hlt
          have ek2 : decide ((j : Int) < (m1' : Int)) = true := by simpa using hlt
          have ww : IntKind.i64.wrap ((j : Int) + 1) = (j : Int) + 1 := by have := E1.out; have := HM1.out; rw [IntKind.wrap_i64]; omega
          have b1 : (j : Int) < (m1' : Int) := by omega
          have HLT := hide hlt
          obtain ⟨gq, hq, e1, _, _⟩ := row_cell M1.out.rC (show j < k + 1 by have := HM1.out; omega)
          injection hq with hq; injection hq with hq; subst hq
          rw [intsI_get C (show j < k + 1 by have := HM1.out; omega)] at e1
          obtain ⟨pu, cu, rfl⟩ := row_slice hRu.out
          have x3 : wr.cell? ⟨d, 2, none⟩ = some (.slice pu (cnt (i + 1) j) cu) := by simp [cell_of_blk hB.out]
          by_cases ne : j = i1
          · have d3 : ((j : Int) == (i1 : Int)) = true := by simp; omega
            have d3' : (j == i1) = true := by simpa using ne
            have HNE := hide (show j = i + 1 by rw [ne]; exact HI1.out)
            have hc1 : cnt (i + 1) j = i + 1 := by rw [HNE.out]; unfold cnt; rw [if_pos (Nat.le_refl _)]
            have RU := hRu.out
            rw [hc1, HNE.out] at RU
            rw [hc1] at x3
            obtain ⟨gu, hgu, e2, f2, _⟩ := row_cell RU (show i < i + 1 by omega)
            subst hgu
            rw [intsI_get _ (show i < i + 1 by omega), show rowf C i (i + 1) i = C i by unfold rowf; rw [if_pos (Nat.le_refl _)]] at e2
            have t0 := sumI_nn HG'.out.nn i (by have := E1.out; omega)
            have t1 := sumI_mono HG'.out.nn (k + 1) (i + 1 + 1) (by have := E1.out; omega) (Nat.le_refl _)
            have t2 := HG'.out.top
            have t3 : sumI C (i + 1 + 1) = sumI C i + C i + C (i + 1) := rfl
            have t4 := HG'.out.nn i (by have := E1.out; omega)
            have t5 := HG'.out.nn (i + 1) (by have := E1.out; omega)
            have ej : C j = C (i + 1) := by rw [HNE.out]
            have wa := hide (show IntKind.i64.wrap (C i + C j) = C i + C j by rw [ej, IntKind.wrap_i64]; omega)
            have bi : (i : Int) < (i : Int) + 1 := by omega
            have HRU := hide RU
            have nd := hide (show gu ≠ d from by have := (hRu.out.lt gu rfl).1; have := lt0.out; omega)
            have nv := hide (show ∀ z, v.ownBlock = some z → z ≠ gu from fun z hz' => by have := hz.out z hz'; have := (hRu.out.lt gu rfl).1; omega)
            have EJ := hide ej
            clear t0 t1 t2 t3 t4 t5 ne hlt hRu RU ej
            obtain ⟨ci, hci⟩ : ∃ x, x = C i := ⟨_, rfl⟩
            obtain ⟨cj, hcj⟩ : ∃ x, x = C j := ⟨_, rfl⟩
            have HCI := hide hci
            have HCJ := hide hcj
            rw [← hci] at e2 wa
            rw [← hcj] at e1 wa
            clear hci hcj
            go_wp2_with fail
            go_region_law (fail)
            all_goals
              rw [wa.out]
              have BD1 := hide ((Kp.set (o := [gu]) wr ⟨gu, i, none⟩ (.int .i64 (ci + cj)) (by simp)).blk hB.out (by have := nd.out; simp; omega))
              have RV1 := hide (row_side hRv.out (b := gu) nv.out i (.int .i64 (ci + cj)))
              have RU1 := row_put HRU.out i (.int .i64 (ci + cj))
              rw [intsI_set] at RU1
              have HU1 := hide RU1
              have KU := hide (hKK.out.1.trans (Kp.set (o := [gu]) wr ⟨gu, i, none⟩ (.int .i64 (ci + cj)) (by simp)) (fun z hz' => .inr (by simp at hz'; have h1 := (HRU.out.lt gu rfl).1; have := lt0.out; have := HD.out; omega)))
              have SZ := hide (show W2.heap.size ≤ (wr.setCell ⟨gu, i, none⟩ (.int .i64 (ci + cj))).heap.size from by have h1 := hKK.out.2; have h4 := (Kp.set (o := [gu]) wr ⟨gu, i, none⟩ (.int .i64 (ci + cj)) (by simp)).size; omega)
              clear e1 e2 f2 x2 x3 RU1
              go_wp2_with fail
              go_roundw
              case rel =>
                refine ⟨j + 1, _, by go_num, by have := HLT.out; show j + 1 ≤ m1'; omega, BD1.out, (Kp.drewN [] _ 1).row RV1.out (by simp), ?_, KU.out.trans (Kp.drewN [] _ 1) (by simp), SZ.out⟩
                have q := (Kp.drewN [] _ 1).row HU1.out (by simp)
                have fe : intsI (i + 1) (updI (rowf C i (i + 1)) i (ci + cj)) = intsI (i + 1) (rowf C i (i + 1 + 1)) := by rw [HCI.out, HCJ.out, EJ.out]; exact intsI_congr (rowf_mid C i)
                rw [fe] at q
                rw [HNE.out, cnt_skip, show cnt (i + 1) (i + 1) = i + 1 by unfold cnt; rw [if_pos (Nat.le_refl _)]]
                exact q
              case measure => have := HLT.out; simp [intOf]; omega
          · have d3 : ((j : Int) == (i1 : Int)) = false := by simp; omega
            have d3' : (j == i1) = false := by simpa using ne
            have HNE := hide (show j ≠ i + 1 by rw [← HI1.out]; exact ne)
            have CE := hide (rowf_next C HNE.out)
            have CL := hide (cnt_le (i + 1) j)
            obtain ⟨y, hy⟩ : ∃ y, y = C j := ⟨_, rfl⟩
            rw [← hy] at e1 CE
            have my := m1 y
            have HR' := hide (show (wr.alloc (.cells #[.int .i64 y] 2)).drew.ownsRow W2.heap.size 2 1 (.slice pu (cnt (i + 1) j) cu) (cnt (i + 1) j) (intsI (cnt (i + 1) j) (rowf C i j)) from (Kp.drewN [] _ 1).row ((Kp.alloc (o := []) _ _).row hRu.out (by simp)) (by simp))
            have KA := hide (show Kp [] wr (wr.alloc (.cells #[.int .i64 y] 2)).drew from (Kp.alloc (o := []) _ _).trans0 (Kp.drewN [] _ 1))
            have x3' : (wr.alloc (.cells #[.int .i64 y] 2)).cell? ⟨d, 2, none⟩ = some (.slice pu (cnt (i + 1) j) cu) := by simp [cell_of_blk ((Kp.alloc (o := []) wr (.cells #[.int .i64 y] 2)).blk hB.out (by simp))]
            clear hy ne hlt
            go_wp2_with fail
            go_region_law (first | (refine step_append_new _ rfl (.tmp 86) (.tmp 94) 22 rfl W2.heap.size 2 i0 (.int .i64 0) 1 8 Try.underlying22 HInf.out.1 HInf.out.2.1 HInf.out.2.2.1 HInf.out.2.2.2 rfl (by decide) (.slice pu (cnt (i + 1) j) cu) (cnt (i + 1) j) (intsI (cnt (i + 1) j) (rowf C i j)) (by simp [Act.eval, Act.put]) HR'.out ⟨wr.heap.size, 0, none⟩ 1 1 [.int .i64 y] (by simp [Act.eval, Act.put]) rfl (fun j' u' h' => one_src wr (.int .i64 y) 2 j' u' h') (by simp [Value.oneCell']) (by have := CL.out; have := HLT.out; have := E1.out; have := HM1.out; unfold maxLen; omega) (by have := CL.out; have := HLT.out; have := E1.out; have := HM1.out; omega) (by have := hKK.out.2; show W2.heap.size ≤ (wr.alloc _).heap.size; simp; omega) ?_; intro v' w' ho hg hb; obtain ⟨pw, cw, rfl⟩ := row_slice ho; have BD0 := KA.out.blk hB.out (by simp); have BD := (hg.block d (lt_of_blk BD0) (by intro e; have := (hRu.out.lt d e.symm).1; have := lt0.out; omega)).trans BD0; have fr := free_of_blk BD 2; have cc : w'.cell? ⟨d, 2, none⟩ = some (.slice pu (cnt (i + 1) j) cu) := by simp [cell_of_blk BD]))
            all_goals
              have HO := hide ho
              have BD1 := hide (heap_setCell_same w' d 2 _ _ (.slice pw (cnt (i + 1) j + 1) cw) BD)
              have RO := hide (row_side HO.out (b := d) (fun z hz' => by have := (HO.out.lt z hz').1; have := lt0.out; omega) 2 (.slice pw (cnt (i + 1) j + 1) cw))
              have RV0 := ((KA.out.row hRv.out (by simp)).kept hg (by
                cases hv : v.ownBlock with
                | none => exact .inl rfl
                | some z => exact .inr (fun e => by have h1 := hz.out z hv; have h2 := (hRu.out.lt z e.symm).1; omega)))
              have RV1 := hide (row_side RV0 (b := d) (fun z hz' => by have := (hRv.out.lt z hz').1; omega) 2 (.slice pw (cnt (i + 1) j + 1) cw))
              have KO := hide (((hKK.out.1.trans0 KA.out).grown hg (fun z hz' => by have h1 := (hRu.out.lt z hz').1; have := lt0.out; have := HD.out; omega)).trans (Kp.set (o := [d]) w' ⟨d, 2, none⟩ (.slice pw (cnt (i + 1) j + 1) cw) (by simp)) (fun z hz' => .inr (by have := HD.out; simp at hz'; omega)))
              have SZ := hide (show W2.heap.size ≤ (w'.setCell ⟨d, 2, none⟩ (.slice pw (cnt (i + 1) j + 1) cw)).heap.size from by
                have h1 := hKK.out.2; have h2 := KA.out.size; have h3 := hg.size; have h4 := (Kp.set (o := [d]) w' ⟨d, 2, none⟩ (.slice pw (cnt (i + 1) j + 1) cw) (by simp)).size; omega)
              clear ho hg hb BD BD0 RV0
              go_wp2_with fail
              go_roundw
              case rel => exact ⟨j + 1, .slice pw (cnt (i + 1) j + 1) cw, by go_num, by have := HLT.out; show j + 1 ≤ m1'; omega, BD1.out, RV1.out, by rw [cnt_next HNE.out, rowf_same C HNE.out, intsI_snoc, CE.out]; exact RO.out, KO.out, SZ.out⟩
              case measure => have := HLT.out; simp [intOf]; omega
        · have hjn : j = m1' := by have := hj.out; omega
          subst hjn
          have ek : decide (j < j) = false := by simp
          have ek2 : decide ((j : Int) < (j : Int)) = false := by simp
          have RU := hRu.out
          have ec : cnt (i + 1) j = k - 1 + 1 := by rw [HM1.out]; have := E1.out; unfold cnt; rw [if_neg (by omega)]; omega
          have er : rowf C i j = mrg C i := by rw [HM1.out]; have := E1.out; unfold rowf; rw [if_neg (by omega)]
          rw [ec, er] at RU
          have HRU := hide RU
          clear hlt hRu RU ec er
          go_wp2_with fail
          go_ret2
          refine ⟨⟨d, v, u⟩, rfl, ⟨⟨hB.out, row_mono hRv.out (by have := HD.out; omega), row_mono HRU.out (by have := lt0.out; have := HD.out; omega), by have := HD.out; show _ ≤ d; omega, fun z hz' => ?_, fun z hz' => ?_, fun z hz' e => ?_⟩, by have := E1.out; omega, mrg_nn E1.out.1 HG'.out.nn, ?_⟩, hKK.out.1⟩
          · show z ≠ d; have := (hRv.out.lt z hz').1; omega
          · show z ≠ d; have := (HRU.out.lt z hz').1; have := lt0.out; omega
          · have := hz.out z hz'; have := (HRU.out.lt z e).1; omega
          · rw [mrg_sum' C E1.out.1]; exact HG'.out.top
end Go.Proofs.Ytenoalfjobghnaa
