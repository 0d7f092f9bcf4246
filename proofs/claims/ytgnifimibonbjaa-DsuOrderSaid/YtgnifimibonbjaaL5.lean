/- DsuOrder: the law answers true at every number and every list of pairs (at most 300 of each; else the example alone). -/
import Derived.Test.YtgnifimibonbjaaN
import Derived.Test.YtgnifimibonbjaaGen
import Derived.Test.YtgnifimibonbjaaOp
import Derived.Test.YtgnifimibonbjaaRows
import Derived.Deep.CutRange
set_option linter.unusedVariables false
set_option linter.unusedSimpArgs false
namespace Go.Proofs.Ytgnifimibonbjaa
open Go.RowKit
theorem DAt.low {B B' : Nat} {w : World} {b n : Nat} {own : List Nat} {L : Nat → Nat} (h : DAt B w b own n L) (hb : B' ≤ B) : DAt B' w b own n L := by
  obtain ⟨vP, vS, P, Z, M, q⟩ := h
  exact ⟨vP, vS, P, Z, ⟨M.blk, row_mono M.P hb, row_mono M.S hb, by have := M.ge; omega, M.ap⟩, q⟩
/-- the pairs from the last one on, each turned -/
def turnV (V : Nat → Nat → Int) (len : Nat) : Nat → Nat → Int := fun q j => V (len - 1 - q) (1 - j)
def pairs (V : Nat → Nat → Int) (k : Nat) : List Value := (List.range k).flatMap fun q => [.int .i64 (V q 0), .int .i64 (V q 1)]
theorem pairs_succ (V : Nat → Nat → Int) (k : Nat) : pairs V (k + 1) = pairs V k ++ [.int .i64 (V k 0), .int .i64 (V k 1)] := by
  unfold pairs
  rw [List.range_succ, List.flatMap_append]
  simp
theorem pairs_len (V : Nat → Nat → Int) : ∀ k, (pairs V k).length = k * 2 := by
  intro k
  induction k with
  | zero => rfl
  | succ k ih => rw [pairs_succ, List.length_append, ih]; simp; omega
theorem pairs_at (V : Nat → Nat → Int) : ∀ {k q : Nat}, q < k → (pairs V k)[q * 2]? = some (.int .i64 (V q 0)) ∧ (pairs V k)[q * 2 + 1]? = some (.int .i64 (V q 1)) := by
  intro k
  induction k with
  | zero => intro q h; omega
  | succ k ih =>
    intro q h
    rw [pairs_succ]
    by_cases e : q = k
    · subst e
      rw [List.getElem?_append_right (by rw [pairs_len]; omega), List.getElem?_append_right (by rw [pairs_len]; omega), pairs_len]
      constructor
      · simp
      · rw [show q * 2 + 1 - q * 2 = 1 by omega]; rfl
    · obtain ⟨h1, h2⟩ := ih (show q < k by omega)
      rw [List.getElem?_append_left (by rw [pairs_len]; omega), List.getElem?_append_left (by rw [pairs_len]; omega)]
      exact ⟨h1, h2⟩
theorem pairs_one (V : Nat → Nat → Int) (k : Nat) : ∀ u ∈ pairs V k, u.oneCell' = true := by
  intro u hu
  simp only [pairs, List.mem_flatMap] at hu
  obtain ⟨q, _, h⟩ := hu
  simp at h
  rcases h with rfl | rfl <;> rfl
theorem rowsI_of_pairs {w : World} {B k c : Nat} {p : Option Addr} {V : Nat → Nat → Int} (h : w.ownsRow B 40 2 (.slice p k c) k (pairs V k)) (hw : ∀ q, q < k → (Lit.int .i64 (V q 0)).wf = true ∧ (Lit.int .i64 (V q 1)).wf = true) : RowsI w p [.i64, .i64] k V := by
  by_cases h0 : k = 0
  · exact .inl h0
  · rcases id h.2 with ⟨_, h1⟩ | ⟨g, cap, cur, he, hg, hh, _⟩
    · exact absurd h1 h0
    · injection he with he _ _
      subst he
      refine .inr ⟨g, 0, rfl, lt_of_blk hh, fun i hi j kk hj => ?_⟩
      obtain ⟨a1, a2⟩ := pairs_at V hi
      obtain ⟨w1, w2⟩ := hw i hi
      have hl := pairs_len V k
      match j, hj with
      | 0, hj =>
        simp at hj; subst hj
        refine ⟨?_, w1⟩
        rw [h.cellAt _ (by simp; omega)]
        simpa using a1
      | 1, hj =>
        simp at hj; subst hj
        refine ⟨?_, w2⟩
        rw [h.cellAt _ (by simp; omega)]
        simpa using a2
      | j + 2, hj => simp at hj
theorem same_labels {n len : Nat} {V : Nat → Nat → Int} {L M : Nat → Nat} (u : Uni n V len L) (v : Uni n (turnV V len) len M) (gl : (∀ i, i < n → L i ≤ i) ∧ ∀ i, i < n → L (L i) = L i) (gm : (∀ i, i < n → M i ≤ i) ∧ ∀ i, i < n → M (M i) = M i) : ∀ i, i < n → L i = M i := by
  have e1 : ∀ i j, i < n → j < n → L i = L j → M i = M j := u.un M (fun q hq h0 h1 => by
    have := v.eq (len - 1 - q) (by omega)
    unfold turnV at this
    rw [show len - 1 - (len - 1 - q) = q by omega] at this
    exact (this h1 h0).symm)
  have e2 : ∀ i j, i < n → j < n → M i = M j → L i = L j := v.un L (fun q hq h0 h1 => by
    unfold turnV at h0 h1 ⊢
    exact (u.eq (len - 1 - q) (by omega) h1 h0).symm)
  intro i hi
  have l1 := gl.1 i hi
  have m1 := gm.1 i hi
  have a := e1 (L i) i (by omega) hi (gl.2 i hi)
  have b := e2 (M i) i (by omega) hi (gm.2 i hi)
  have c := gm.1 (L i) (by omega)
  have d := gl.1 (M i) (by omega)
  omega
theorem build40 (x y : Int) (w : World) : (Instr.build 40 #[(0, .int .i64 x), (1, .int .i64 y)]).run Try.prog w = .ok (.agg #[.int .i64 x, .int .i64 y]) w := by kernel_rfl
theorem info40 : (Try.prog.info? 40).map (fun i => (i.zero, i.size, i.bytes)) = some (some (.agg #[.int .i64 0, .int .i64 0]), 2, 16) := by kernel_rfl
namespace lawOrder
open Go.ChangeShapes Go.WideShapes Go.ChangeAt Go.RowKit Go.Joins
set_option maxRecDepth 100000 in
set_option maxHeartbeats 16000000 in
theorem walk (a0 : Int) (s1 : Option Addr) (len1 cap1 : Nat) (V1 : Nat → Nat → Int) (w : World) (b0 : -9223372036854775808 ≤ a0 ∧ a0 ≤ 9223372036854775807) (hc1 : len1 ≤ cap1 ∧ cap1 ≤ maxLen) (hr1 : RowsI w s1 [.i64, .i64] len1 V1) : Calls Try.prog 6 #[.int .i64 a0, .slice s1 len1 cap1] w fun e w' => e = .returned (.bool true) ∧ Below w.heap.size w w' := by
  have SM := small_t a0 s1 len1 cap1 w (by omega)
  by_cases hs : 0 ≤ a0 ∧ a0 ≤ 300 ∧ len1 ≤ 300
  · rw [show decide (0 ≤ a0 ∧ a0 ≤ 300 ∧ len1 ≤ 300) = true by simpa using hs] at SM
    obtain ⟨n, rfl⟩ : ∃ n : Nat, a0 = (n : Int) := ⟨a0.toNat, by omega⟩
    have HN := hide (show n ≤ 300 by omega)
    have HL := hide (show len1 ≤ 300 by omega)
    have HR1 := hide hr1
    have HWF : Hid (∀ q, q < len1 → (Lit.int .i64 (turnV V1 len1 q 0)).wf = true ∧ (Lit.int .i64 (turnV V1 len1 q 1)).wf = true) := by
      intro q hq
      rcases hr1 with h | ⟨b, off, rfl, hb, hc⟩
      · omega
      · exact ⟨(hc (len1 - 1 - q) (by omega) 1 .i64 rfl).2, (hc (len1 - 1 - q) (by omega) 0 .i64 rfl).2⟩
    have wl : IntKind.i64.wrap ((len1 : Int) - 1) = (len1 : Int) - 1 := by rw [IntKind.wrap_i64]; omega
    clear hs b0 hc1 hr1
    go_enter Try.func6, Try.ntmps6
    go_wp2_with fail
    refine SM.mono ?_
    rintro e w' ⟨rfl, rfl⟩
    go_wp2_with fail
    clear SM
    go_loopw [5, 6] (fun v x wr => ∃ (k : Nat), x = .int .i64 ((len1 : Int) - 1 - (k : Int)) ∧ Hid (k ≤ len1) ∧ Hid (wr.ownsRow w.heap.size 40 2 v k (pairs (turnV V1 len1) k)) ∧ Hid (Kp [] w wr)) (fun _ x _ => (intOf x + 1).toNat)
    case atStart => exact ⟨0, by simp, Nat.zero_le _, World.ownsRow_nil _ _ _ _, Kp.refl _ _⟩
    case round =>
      obtain ⟨k, rfl, hk, hR, hK⟩ := hrel
      by_cases hkn : k < len1
      · obtain ⟨i, hi⟩ : ∃ i : Nat, (len1 : Int) - 1 - (k : Int) = (i : Int) := ⟨len1 - 1 - k, by omega⟩
        have hil : i < len1 := by omega
        have wi : IntKind.i64.wrap ((i : Int) - 1) = (i : Int) - 1 := by have := HL.out; rw [IntKind.wrap_i64]; omega
        obtain ⟨bb, off, rfl, hbb, cD, cI⟩ := rowsI_two HR1.out hil
        rw [hi]
        have HI := hide hi
        have ei : len1 - 1 - k = i := by omega
        clear hi
        go_wp2_with fail
        have KD : Kp [] wr wr.drew := Kp.drewN [] wr 1
        have KW := hK.out.trans KD (by simp)
        have cD1 : wr.cell? ⟨bb, off + i * 2, none⟩ = some (.int .i64 (V1 i 0)) := by rw [World.cell?_of_block (w := w) (hK.out.block bb hbb (by simp))]; exact cD
        have cI1 : wr.cell? ⟨bb, off + i * 2 + 1, none⟩ = some (.int .i64 (V1 i 1)) := by rw [World.cell?_of_block (w := w) (hK.out.block bb hbb (by simp))]; exact cI
        have RD := hide (KD.row hR.out (by simp))
        have hx : Hid (turnV V1 len1 k 0 = V1 i 1 ∧ turnV V1 len1 k 1 = V1 i 0) := by unfold turnV; rw [ei]; exact ⟨rfl, rfl⟩
        have HW := hide KW
        have bd := fun w => build40 (V1 i 1) (V1 i 0) w
        have HEI := hide ei
        have HHK := hide hkn
        obtain ⟨i0, hi0, hz0, hz1, hz2⟩ := info_parts info40
        have HF := hide (And.intro hi0 (And.intro hz0 (And.intro hz1 hz2)))
        have SN := hide (src_new wr.drew wr.heap.size rfl [.int .i64 (V1 i 1), .int .i64 (V1 i 0)] 40)
        clear cD cI KD KW hR hK hbb ei hi0 hz0 hz1 hz2
        generalize V1 i 0 = x at *
        generalize V1 i 1 = y at *
        go_region_law (first | (refine step_append_new _ rfl _ _ 37 rfl w.heap.size 40 i0 (.agg #[.int .i64 0, .int .i64 0]) 2 16 Try.underlying37 HF.out.1 HF.out.2.1 HF.out.2.2.1 HF.out.2.2.2 rfl (by decide) u5 k (pairs (turnV V1 len1) k) rfl (RD.out.alloc _) ⟨wr.heap.size, 0, none⟩ 1 1 [.int .i64 y, .int .i64 x] rfl rfl SN.out (by intro u hu; simp at hu; rcases hu with rfl | rfl <;> rfl) (by have := HL.out; have := HHK.out; unfold maxLen; omega) (by have := HL.out; have := HHK.out; omega) (by have := HW.out.size; simp at this ⊢; omega) ?_; intro v' w' ho hg hb; have HO := hide ho; have HG := hide hg; clear ho hg hb))
        all_goals
          have HP := hide (show w'.ownsRow w.heap.size 40 2 v' (k + 1) (pairs (turnV V1 len1) (k + 1)) by rw [pairs_succ, hx.out.1, hx.out.2]; exact HO.out)
          have KA : Kp [] w (wr.drew.alloc (.cells #[.int .i64 y, .int .i64 x] 40)) := HW.out.trans (Kp.alloc (o := []) _ _) (by simp)
          have HQ := hide (KA.grown HG.out (fun z hz => (RD.out.lt z hz).1))
          have HIK := hide (show (i : Int) - 1 = (len1 : Int) - 1 - ((k + 1 : Nat) : Int) by have := HI.out; omega)
          clear KA HO HG RD SN HF bd cD1 cI1
          go_wp2_with fail
          go_roundw
          case rel => exact ⟨k + 1, by rw [HIK.out], by have := HHK.out; show k + 1 ≤ len1; omega, HP, HQ⟩
          case measure => have := HI.out; have := HHK.out; simp [intOf] <;> omega
      · have : k = len1 := by have := hk.out; omega
        subst this
        have e1 : (k : Int) - 1 - (k : Int) = -1 := by omega
        rw [e1]
        clear e1
        have RI := hide (show ∃ p c, u5 = .slice p k c ∧ RowsI wr p [.i64, .i64] k (turnV V1 k) by
          obtain ⟨p, c, rfl⟩ := row_slice hR.out
          exact ⟨p, c, rfl, rowsI_of_pairs hR.out HWF.out⟩)
        obtain ⟨p5, c5, rfl, hri⟩ := RI.out
        have HRI := hide hri
        have U1 := hide (united_t n (by have := HN.out; omega) s1 k cap1 V1 wr (HR1.out.below (hK.out.below (by simp) (Nat.le_refl _)) (Nat.le_refl _)) (by have := HL.out; omega))
        clear hri RI hR
        go_wp2_with fail
        refine U1.out.mono ?_
        rintro e w1 ⟨b, own, L, rfl, h1, uL, ho, k1⟩
        have U2 := hide (united_t n (by have := HN.out; omega) p5 k c5 (turnV V1 k) w1 (HRI.out.below (k1.below (by simp) (Nat.le_refl _)) (Nat.le_refl _)) (by have := HL.out; omega))
        have H1 := hide h1
        have UL := hide uL
        have HO1 := hide ho
        have K1 := hide k1
        clear h1 uL ho k1 U1
        go_wp2_with fail
        refine U2.out.mono ?_
        rintro e w2 ⟨d, own', M, rfl, h2, uM, ho', k2⟩
        have GL := hide (grp_congr (same_labels UL.out uM ⟨H1.out.good.2.1, H1.out.good.2.2⟩ ⟨h2.good.2.1, h2.good.2.2⟩))
        have LL := hide (same_labels UL.out uM ⟨H1.out.good.2.1, H1.out.good.2.2⟩ ⟨h2.good.2.1, h2.good.2.2⟩)
        have KW := hide ((hK.out.trans K1.out (by simp)).trans k2 (by simp))
        have B1 := hide (show ∀ x ∈ own, w.heap.size ≤ x ∧ x < w1.heap.size from fun x hx => ⟨by have := HO1.out x hx; have := hK.out.size; omega, (H1.out.lt x hx).2⟩)
        have B2 := hide (show ∀ x ∈ own', w1.heap.size ≤ x from ho')
        have D1 := hide (H1.out.keep k2 (by simp))
        have D2 := hide (h2.low (show w.heap.size ≤ w1.heap.size by have := hK.out.size; have := K1.out.size; omega))
        have D1' := hide (D1.out.low (show w.heap.size ≤ wr.heap.size from hK.out.size))
        have z0 := hide (show w.heap.size ≤ w1.heap.size by have := hK.out.size; have := K1.out.size; omega)
        clear h2 uM ho' k2 U2 H1 UL HO1 K1 D1
        have L1 := hide (labels_t D1'.out)
        go_wp2_with fail
        refine L1.out.mono ?_
        rintro e w3 ⟨rfl, r3, e1, q3⟩
        have D3 := hide e1
        have D4 := hide (D2.out.keep q3 (fun x hx hy => by have := B1.out x hy; have := B2.out x hx; omega))
        have R3 := hide r3
        have N3 := hide (show w2.heap.size ∉ own' from fun hm => by have := (D2.out.lt _ hm).2; omega)
        have KW3 := hide (KW.out.trans q3 (fun x hx => .inr (B1.out x hx).1))
        have z3 := q3.size
        clear r3 e1 q3 L1 D2 D1' KW
        have L2 := hide (labels_t D4.out)
        generalize hg1 : w2.heap.size = g1 at *
        go_wp2_with fail
        refine L2.out.mono ?_
        rintro e w4 ⟨rfl, r4, e2, q4⟩
        have R4 := hide (show w4.ownsRow w3.heap.size 3 1 (.slice (some ⟨w3.heap.size, 0, none⟩) n n) n (intsF n L) by rw [intsF_congr (g := M) LL.out]; exact r4)
        have R3' := hide (q4.row R3.out (fun x hx => by simp [Value.ownBlock] at hx; subst hx; exact N3.out))
        have D5 := hide (D3.out.keep q4 (fun x hx hy => by have := B1.out x hx; have := B2.out x hy; omega))
        have D6 := hide e2
        have KW4 := hide (KW3.out.trans q4 (fun x hx => .inr (by have := B2.out x hx; have := z0.out; omega)))
        clear r4 e2 q4 R3 D3 D4 KW3 L2
        have SR := hide (same_rows w4 n L _ _ _ _ n n R3'.out R4.out (by have := HN.out; omega))
        generalize w3.heap.size = g2 at *
        go_wp2_with fail
        refine SR.out.mono ?_
        rintro e w5 ⟨rfl, q5⟩
        have D7 := hide (D5.out.keep q5 (by simp))
        have D8 := hide (D6.out.keep q5 (by simp))
        have KW5 := hide (KW4.out.trans q5 (by simp))
        clear q5 D5 D6 KW4 SR R3' R4
        have G1 := hide (groups_t D7.out)
        go_wp2_with fail
        refine G1.out.mono ?_
        rintro e w6 ⟨v6, rfl, g6, e6, q6⟩
        have HV6 := hide g6
        have hh : ∀ x ∈ own', x < w5.heap.size := fun x hx => (D8.out.lt x hx).2
        have HH := hide hh
        have D9 := hide (D8.out.keep q6 (fun x hx hy => by have := B1.out x hy; have := B2.out x hx; omega))
        have KW6 := hide (KW5.out.trans q6 (fun x hx => .inr (B1.out x hx).1))
        clear g6 e6 q6 hh D7 D8 KW5 G1
        have G2 := hide (groups_t D9.out)
        go_wp2_with fail
        refine G2.out.mono ?_
        rintro e w7 ⟨v7, rfl, g7, e7, q7⟩
        have HV7 := hide (show Rd2 w6.heap.size w7 v7 (grp L n) by rw [GL.out]; exact g7)
        have HV6' := hide (HV6.out.keep q7 HH.out)
        have KW7 := hide (KW6.out.trans q7 (fun x hx => .inr (by have := B2.out x hx; have := z0.out; omega)))
        clear g7 e7 q7 HV6 D9 KW6 G2
        have GR := hide (groups_rd w7 v6 v7 (grp L n) HV6'.out HV7.out (grp_lens (by have := HN.out; omega)).1 (grp_lens (by have := HN.out; omega)).2)
        go_wp2_with fail
        refine GR.out.mono ?_
        rintro e w8 ⟨rfl, m8, rfl⟩
        have KW8 := hide (KW7.out.trans (Kp.drewN [] w7 m8) (by simp))
        clear HV7 HV6' KW7 GR
        go_wp2_with fail
        refine (works _).mono ?_
        rintro e w9 ⟨rfl, bw⟩
        have HW9 := hide bw
        clear bw
        go_wp2_with fail
        go_ret
        exact ⟨rfl, (KW8.out.below (by simp) (Nat.le_refl _)).trans (HW9.out.mono KW8.out.size)⟩
  · rw [show decide (0 ≤ a0 ∧ a0 ≤ 300 ∧ len1 ≤ 300) = false by simpa using hs] at SM
    have wk := works w
    clear hs b0 hc1 hr1
    go_enter Try.func6, Try.ntmps6
    go_wp2_with fail
    refine SM.mono ?_
    rintro e w' ⟨rfl, rfl⟩
    go_wp2_with fail
    refine wk.mono ?_
    rintro e w2 ⟨rfl, bw⟩
    go_wp2_with fail
    go_ret
    exact ⟨rfl, bw⟩
theorem own : ownKnob Try.prog.godebug = none := by kernel_rfl
theorem laidOut : laidOutB Try.prog = true := by kernel_rfl
set_option maxRecDepth 100000 in
theorem lifted (os : Os) (started : os.Started) (H : Type) (enc : TypeId × Value → H) :
    ReturnsInHanded {} Try.checked os 6 .any (Rows.dsuOrderSpec.pre6 enc Try.prog Try.f6 Rows.dsuOrderRow.domain false) (Rows.dsuOrderSpec.post enc Try.prog Try.f6 false true false false) := by
  refine returnsInHanded_of_change (C := Try.checked) own started (by kernel_rfl) Try.func6
    (ChangeSpec.witness6 (enc := enc) (C := Try.checked) false ⟨#[], #[.int .i64 0, .slice none 0 0], []⟩ 8 (by kernel_rfl) (by kernel_rfl) (by kernel_rfl) (by kernel_rfl)) ?_
  intro W base args ds gs before hval0 hW hcnd _
  have hval : ∀ (j : Nat) t v, Try.f6.params[j]? = some t → args[j]? = some v → Value.okWide Try.prog W .any base t v := hval0
  have hW' := hW
  obtain ⟨p, q, hA0, hV, rfl, hfz, hnd⟩ := hW
  have hA : DataW.TrodAll enc Try.prog W 0 (fun _ => true) true Try.f6.params.toList args.toList ds p := hA0
  rw [Try.params6] at hA hval
  obtain ⟨v0, vs0, d0, ds0, p0, q0, hargs, rfl, rfl, h0, r0⟩ := trodAll_cons hA
  obtain ⟨v1, vs1, d1, ds1, p1, q1, rfl, rfl, rfl, h1, r1⟩ := trodAll_cons r0
  obtain ⟨rfl, rfl, rfl⟩ := trodAll_nil r1
  obtain rfl : args = #[v0, v1] := by cases args; simp_all
  obtain ⟨rfl, rfl⟩ := trodVars_none hV
  have k0 := h0
  have lt0 : ∀ x ∈ p0, x.block < W.heap.size := by obtain ⟨m, hm⟩ := k0; exact DataW.trod_lt m _ _ _ hm
  have k1 := h1
  have lt1 : ∀ x ∈ p1, x.block < W.heap.size := by obtain ⟨m, hm⟩ := k1; exact DataW.trod_lt m _ _ _ hm
  obtain ⟨a0, rfl, _, _, w0⟩ := open_int Try.underlying3 (hval 0 3 v0 rfl rfl) h0
  obtain ⟨s1, len1, cap1, rfl⟩ := okWide_slice Try.underlying37 (hval 1 37 v1 rfl rfl)
  obtain ⟨V1, hc1, hr1⟩ := rows_in Try.underlying37 (flat_array Try.underlying40 Try.underlying3 (by kernel_rfl) (by kernel_rfl) : FlatI Try.prog 40 [.i64, .i64]) (by decide) h1
  clear hA0 hval0
  refine (walk a0 s1 len1 cap1 V1 W (bounds_i64 w0) hc1 hr1).mono fun e W' ⟨he, bel⟩ => ?_
  subst he
  exact ⟨_, rfl, _, _, _, [], _, [], hW', trodAll_mk1 (shut_bool Try.underlying4 _), (trodAll_cons_mk (Below.trod laidOut (by kernel_rfl) (of_decide_eq_true (by kernel_rfl)) k0 bel lt0) (trodAll_cons_mk (Below.trod laidOut (by kernel_rfl) (of_decide_eq_true (by kernel_rfl)) k1 bel lt1) trodAll_mk0)), rfl, bel.frame _, fun h => by cases h⟩
theorem holds : Rows.dsuOrderRow.holds Try.pinned (OpenSpec.ofChange Rows.dsuOrderSpec) :=
  OpenClaim.holds_of_wide 6 Try.f6 rfl rfl rfl rfl rfl rfl rfl ⟨rfl, rfl, rfl, rfl, rfl⟩ rfl rfl rfl rfl rfl (by kernel_rfl) Try.func6 (by kernel_rfl)
    (of_decide_eq_true (by kernel_rfl)) (by unfold Func.isWrapper; first | (rw [if_pos (by decide +kernel)]; kernel_rfl) | (rw [if_neg (by decide +kernel)]; exact ⟨rfl, rfl⟩))
    (fun os started H enc _ => lifted os started H enc)
theorem proved : Rows.DsuOrderSaid := holds
end lawOrder
end Go.Proofs.Ytgnifimibonbjaa
