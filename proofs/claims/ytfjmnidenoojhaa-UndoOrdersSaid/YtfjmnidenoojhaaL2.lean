/- UndoOrders holds: the sets do not depend on the order of the unions. -/
import Derived.Test.YtfjmnidenoojhaaAd
import Derived.Test.YtfjmnidenoojhaaDu
import Derived.Test.YtfjmnidenoojhaaOp
import Derived.Test.YtfjmnidenoojhaaRows
import Derived.Deep.CutRange
set_option linter.unusedVariables false
set_option linter.unusedSimpArgs false
namespace Go.Proofs.Ytfjmnidenoojhaa
open Go.RowKit
/-- the pairs from the last one on, each turned -/
def turnV (V : Nat → Nat → Int) (len : Nat) : Nat → Nat → Int := fun q j => V (len - 1 - q) (1 - j)
def pairs (V : Nat → Nat → Int) (k : Nat) : List Value := (List.range k).flatMap fun q => [.int .u8 (V q 0), .int .u8 (V q 1)]
theorem pairs_succ (V : Nat → Nat → Int) (k : Nat) : pairs V (k + 1) = pairs V k ++ [.int .u8 (V k 0), .int .u8 (V k 1)] := by
  unfold pairs
  rw [List.range_succ, List.flatMap_append]
  simp
theorem pairs_len (V : Nat → Nat → Int) : ∀ k, (pairs V k).length = k * 2 := by
  intro k
  induction k with
  | zero => rfl
  | succ k ih => rw [pairs_succ, List.length_append, ih]; simp; omega
theorem pairs_at (V : Nat → Nat → Int) : ∀ {k q : Nat}, q < k → (pairs V k)[q * 2]? = some (.int .u8 (V q 0)) ∧ (pairs V k)[q * 2 + 1]? = some (.int .u8 (V q 1)) := by
  intro k
  induction k with
  | zero => intro q h; omega
  | succ k ih =>
    intro q h
    rw [pairs_succ]
    by_cases e : q = k
    · subst e
      rw [List.getElem?_append_right (by rw [pairs_len]; omega), List.getElem?_append_right (by rw [pairs_len]; omega), pairs_len]
      constructor
      · simp
      · rw [show q * 2 + 1 - q * 2 = 1 by omega]; rfl
    · obtain ⟨h1, h2⟩ := ih (show q < k by omega)
      rw [List.getElem?_append_left (by rw [pairs_len]; omega), List.getElem?_append_left (by rw [pairs_len]; omega)]
      exact ⟨h1, h2⟩
theorem pairs_one (V : Nat → Nat → Int) (k : Nat) : ∀ u ∈ pairs V k, u.oneCell' = true := by
  intro u hu
  simp only [pairs, List.mem_flatMap] at hu
  obtain ⟨q, _, h⟩ := hu
  simp at h
  rcases h with rfl | rfl <;> rfl
theorem rowsI_of_pairs {w : World} {B k c : Nat} {p : Option Addr} {V : Nat → Nat → Int} (h : w.ownsRow B 57 2 (.slice p k c) k (pairs V k)) (hw : ∀ q, q < k → (Lit.int .u8 (V q 0)).wf = true ∧ (Lit.int .u8 (V q 1)).wf = true) : RowsI w p [.u8, .u8] k V := by
  by_cases h0 : k = 0
  · exact .inl h0
  · rcases id h.2 with ⟨_, h1⟩ | ⟨g, cap, cur, he, hg, hh, _⟩
    · exact absurd h1 h0
    · injection he with he _ _
      subst he
      refine .inr ⟨g, 0, rfl, lt_of_blk hh, fun i hi j kk hj => ?_⟩
      obtain ⟨a1, a2⟩ := pairs_at V hi
      obtain ⟨w1, w2⟩ := hw i hi
      have hl := pairs_len V k
      match j, hj with
      | 0, hj =>
        simp at hj; subst hj
        refine ⟨?_, w1⟩
        rw [h.cellAt _ (by simp; omega)]
        simpa using a1
      | 1, hj =>
        simp at hj; subst hj
        refine ⟨?_, w2⟩
        rw [h.cellAt _ (by simp; omega)]
        simpa using a2
      | j + 2, hj => simp at hj
theorem same_labels {n len : Nat} {V : Nat → Nat → Int} {L M : Nat → Nat} (u : Uni n V len L) (v : Uni n (turnV V len) len M) (gl : (∀ i, i < n → L i ≤ i) ∧ ∀ i, i < n → L (L i) = L i) (gm : (∀ i, i < n → M i ≤ i) ∧ ∀ i, i < n → M (M i) = M i) : ∀ i, i < n → L i = M i := by
  have e1 : ∀ i j, i < n → j < n → L i = L j → M i = M j := u.un M (fun q hq h0 h1 => by
    have := v.eq (len - 1 - q) (by omega)
    unfold turnV at this
    rw [show len - 1 - (len - 1 - q) = q by omega] at this
    exact (this h1 h0).symm)
  have e2 : ∀ i j, i < n → j < n → M i = M j → L i = L j := v.un L (fun q hq h0 h1 => by
    unfold turnV at h0 h1 ⊢
    exact (u.eq (len - 1 - q) (by omega) h1 h0).symm)
  intro i hi
  have l1 := gl.1 i hi
  have m1 := gm.1 i hi
  have a := e1 (L i) i (by omega) hi (gl.2 i hi)
  have b := e2 (M i) i (by omega) hi (gm.2 i hi)
  have c := gm.1 (L i) (by omega)
  have d := gl.1 (M i) (by omega)
  omega
theorem build57 (x y : Int) (w : World) : (Instr.build 57 #[(0, .int .u8 x), (1, .int .u8 y)]).run Try.prog w = .ok (.agg #[.int .u8 x, .int .u8 y]) w := by kernel_rfl
theorem info57 : (Try.prog.info? 57).map (fun i => (i.zero, i.size, i.bytes)) = some (some (.agg #[.int .u8 0, .int .u8 0]), 2, 2) := by kernel_rfl
def VV (X Y : Nat → Nat) : Nat → Nat → Int := fun q j => if j = 0 then (X q : Int) else (Y q : Int)
theorem tr_uni {n : Nat} {H : List (Nat → Nat)} {X Y : Nat → Nat} (hX : ∀ q, X q < n) (hY : ∀ q, Y q < n) : ∀ k, Uni n (VV X Y) k (tr (fun i => i) H X Y k).1 := by
  intro k
  induction k with
  | zero => exact Uni.start n _
  | succ k ih =>
    have r0 : inr n (VV X Y k 0) := by have := hX k; unfold inr VV; simp; omega
    have r1 : inr n (VV X Y k 1) := by have := hY k; unfold inr VV; simp; omega
    have t0 : (VV X Y k 0).toNat = X k := by simp [VV]
    have t1 : (VV X Y k 1).toNat = Y k := by simp [VV]
    simp only [tr]
    generalize (tr (fun i => i) H X Y k).1 = l at *
    unfold uL
    by_cases e : l (X k) = l (Y k)
    · rw [if_pos e]
      exact ih.skip (fun _ _ => by rw [t0, t1]; exact e)
    · rw [if_neg e]
      have := ih.unite r0 r1 (by rw [t0, t1]; exact e)
      rw [t0, t1] at this
      exact this
theorem turn_eq (V : Nat → Nat → Int) (len : Nat) : VV (X50 (turnV V len)) (Y50 (turnV V len)) = turnV (VV (X50 V) (Y50 V)) len := by
  funext q j
  unfold turnV VV X50 Y50
  by_cases h : j = 0
  · subst h; simp
  · have : 1 - j = 0 := by omega
    simp [h, this]
theorem roots_congr {L M : Nat → Nat} {n : Nat} (h : ∀ i, i < n → L i = M i) : ∀ k, k ≤ n → roots L k = roots M k := by
  intro k
  induction k with
  | zero => intro _; rfl
  | succ k ih => intro hk; simp only [roots, ih (by omega), h k (by omega)]
theorem US.facts {B : Nat} {w : World} {b n : Nat} {own : List Nat} {L : Nat → Nat} {H : List (Nat → Nat)} (h : US B w b own n L H) : ((∀ i, i < n → L i ≤ i) ∧ ∀ i, i < n → L (L i) = L i) ∧ H.length + roots L n = n := by
  obtain ⟨P, Z, R, G, vP, vS, vG, M, u, hn, ho⟩ := h
  have g := u.inv.lg
  refine ⟨⟨g.ll, g.idem⟩, ?_⟩
  rw [u.hlen]; exact u.inv.len
theorem X50_lt (V : Nat → Nat → Int) (q : Nat) : X50 V q < 50 := Nat.mod_lt _ (by decide)
theorem Y50_lt (V : Nat → Nat → Int) (q : Nat) : Y50 V q < 50 := Nat.mod_lt _ (by decide)
namespace lawOrders
open Go.ChangeShapes Go.WideShapes Go.ChangeAt Go.RowKit Go.Joins
set_option maxRecDepth 100000 in
set_option maxHeartbeats 16000000 in
theorem walk (s0 : Option Addr) (len0 cap0 : Nat) (V0 : Nat → Nat → Int) (w : World) (hc0 : len0 ≤ cap0 ∧ cap0 ≤ maxLen) (hr0 : RowsI w s0 [.u8, .u8] len0 V0) : Calls Try.prog 8 #[.slice s0 len0 cap0] w fun e w' => e = .returned (.bool true) ∧ Below w.heap.size w w' := by
  by_cases hs : 100 < len0
  · have d0 : decide ((100 : Int) < (len0 : Int)) = true := by simp; omega
    clear hs hr0 hc0
    go_enter Try.func8, Try.ntmps8
    go_wp2_with fail
    refine (works _).mono ?_
    rintro e w2 ⟨rfl, bw⟩
    go_wp2_with fail
    go_ret
    exact ⟨rfl, bw⟩
  have HL := hide (show len0 ≤ 100 by omega)
  have d0 : decide ((100 : Int) < (len0 : Int)) = false := by simp; omega
  have HR1 := hide hr0
  have HWF : Hid (∀ q, q < len0 → (Lit.int .u8 (turnV V0 len0 q 0)).wf = true ∧ (Lit.int .u8 (turnV V0 len0 q 1)).wf = true) := by
    intro q hq
    rcases hr0 with h | ⟨b, off, rfl, hb, hc⟩
    · omega
    · exact ⟨(hc (len0 - 1 - q) (by omega) 1 .u8 rfl).2, (hc (len0 - 1 - q) (by omega) 0 .u8 rfl).2⟩
  have wl : IntKind.i64.wrap ((len0 : Int) - 1) = (len0 : Int) - 1 := by rw [IntKind.wrap_i64]; omega
  clear hs hc0 hr0
  go_enter Try.func8, Try.ntmps8
  go_wp2_with fail
  clear d0
  go_loopw [3, 4] (fun v x wr => ∃ (k : Nat), x = .int .i64 ((len0 : Int) - 1 - (k : Int)) ∧ Hid (k ≤ len0) ∧ Hid (wr.ownsRow w.heap.size 57 2 v k (pairs (turnV V0 len0) k)) ∧ Hid (Kp [] w wr)) (fun _ x _ => (intOf x + 1).toNat)
  case atStart => exact ⟨0, by simp, Nat.zero_le _, World.ownsRow_nil _ _ _ _, Kp.refl _ _⟩
  case round =>
    obtain ⟨k, rfl, hk, hR, hK⟩ := hrel
    by_cases hkn : k < len0
    · obtain ⟨i, hi⟩ : ∃ i : Nat, (len0 : Int) - 1 - (k : Int) = (i : Int) := ⟨len0 - 1 - k, by omega⟩
      have hil : i < len0 := by omega
      have wi : IntKind.i64.wrap ((i : Int) - 1) = (i : Int) - 1 := by have := HL.out; rw [IntKind.wrap_i64]; omega
      obtain ⟨bb, off, rfl, hbb, cD, cI⟩ := rowsI_two HR1.out hil
      rw [hi]
      have HI := hide hi
      have ei : len0 - 1 - k = i := by omega
      clear hi
      go_wp2_with fail
      have KD : Kp [] wr wr.drew := Kp.drewN [] wr 1
      have KW := hK.out.trans KD (by simp)
      have cD1 : wr.cell? ⟨bb, off + i * 2, none⟩ = some (.int .u8 (V0 i 0)) := by rw [World.cell?_of_block (w := w) (hK.out.block bb hbb (by simp))]; exact cD
      have cI1 : wr.cell? ⟨bb, off + i * 2 + 1, none⟩ = some (.int .u8 (V0 i 1)) := by rw [World.cell?_of_block (w := w) (hK.out.block bb hbb (by simp))]; exact cI
      have RD := hide (KD.row hR.out (by simp))
      have hx : Hid (turnV V0 len0 k 0 = V0 i 1 ∧ turnV V0 len0 k 1 = V0 i 0) := by unfold turnV; rw [ei]; exact ⟨rfl, rfl⟩
      have HW := hide KW
      have bd := fun w => build57 (V0 i 1) (V0 i 0) w
      have HEI := hide ei
      have HHK := hide hkn
      obtain ⟨i0, hi0, hz0, hz1, hz2⟩ := info_parts info57
      have HF := hide (And.intro hi0 (And.intro hz0 (And.intro hz1 hz2)))
      have SN := hide (src_new wr.drew wr.heap.size rfl [.int .u8 (V0 i 1), .int .u8 (V0 i 0)] 57)
      clear cD cI KD KW hR hK hbb ei hi0 hz0 hz1 hz2
      generalize V0 i 0 = x at *
      generalize V0 i 1 = y at *
      go_region_law (first | (refine step_append_new _ rfl _ _ 46 rfl w.heap.size 57 i0 (.agg #[.int .u8 0, .int .u8 0]) 2 2 Try.underlying46 HF.out.1 HF.out.2.1 HF.out.2.2.1 HF.out.2.2.2 rfl (by decide) u3 k (pairs (turnV V0 len0) k) rfl (RD.out.alloc _) ⟨wr.heap.size, 0, none⟩ 1 1 [.int .u8 y, .int .u8 x] rfl rfl SN.out (by intro u hu; simp at hu; rcases hu with rfl | rfl <;> rfl) (by have := HL.out; have := HHK.out; unfold maxLen; omega) (by have := HL.out; have := HHK.out; omega) (by have := HW.out.size; simp at this ⊢; omega) ?_; intro v' w' ho hg hb; have HO := hide ho; have HG := hide hg; clear ho hg hb))
      all_goals
        have HP := hide (show w'.ownsRow w.heap.size 57 2 v' (k + 1) (pairs (turnV V0 len0) (k + 1)) by rw [pairs_succ, hx.out.1, hx.out.2]; exact HO.out)
        have KA : Kp [] w (wr.drew.alloc (.cells #[.int .u8 y, .int .u8 x] 57)) := HW.out.trans (Kp.alloc (o := []) _ _) (by simp)
        have HQ := hide (KA.grown HG.out (fun z hz => (RD.out.lt z hz).1))
        have HIK := hide (show (i : Int) - 1 = (len0 : Int) - 1 - ((k + 1 : Nat) : Int) by have := HI.out; omega)
        clear KA HO HG RD SN HF bd cD1 cI1
        go_wp2_with fail
        go_roundw
        case rel => exact ⟨k + 1, by rw [HIK.out], by have := HHK.out; show k + 1 ≤ len0; omega, HP, HQ⟩
        case measure => have := HI.out; have := HHK.out; simp [intOf] <;> omega
    · have : k = len0 := by have := hk.out; omega
      subst this
      have e1 : (k : Int) - 1 - (k : Int) = -1 := by omega
      rw [e1]
      clear e1
      have RI := hide (show ∃ p c, u3 = .slice p k c ∧ RowsI wr p [.u8, .u8] k (turnV V0 k) by
        obtain ⟨p, c, rfl⟩ := row_slice hR.out
        exact ⟨p, c, rfl, rowsI_of_pairs hR.out HWF.out⟩)
      obtain ⟨p5, c5, rfl, hri⟩ := RI.out
      have HRI := hide hri
      have U1 := hide (made_t wr (cap := cap0) (HR1.out.below (hK.out.below (by simp) (Nat.le_refl _)) (Nat.le_refl _)) HL.out)
      clear hri RI hR
      go_wp2_with fail
      refine U1.out.mono ?_
      rintro e w1 ⟨b, own, rfl, h1, ho, k1⟩
      have U2 := hide (made_t w1 (cap := c5) (HRI.out.below (k1.below (by simp) (Nat.le_refl _)) (Nat.le_refl _)) HL.out)
      have H1 := hide h1
      have HO1 := hide ho
      have K1 := hide k1
      clear h1 ho k1 U1
      go_wp2_with fail
      refine U2.out.mono ?_
      rintro e w2 ⟨d, own', rfl, h2, ho', k2⟩
      have uL := tr_uni (n := 50) (H := []) (X50_lt V0) (Y50_lt V0) k
      have uM := tr_uni (n := 50) (H := []) (X50_lt (turnV V0 k)) (Y50_lt (turnV V0 k)) k
      rw [turn_eq] at uM
      have F1 := H1.out.facts
      have F2 := h2.facts
      have LLe := same_labels uL uM F1.1 F2.1
      have LL := hide LLe
      have ML := hide (show (tr (fun i => i) [] (X50 V0) (Y50 V0) k).2.length = (tr (fun i => i) [] (X50 (turnV V0 k)) (Y50 (turnV V0 k)) k).2.length by
        have := roots_congr LLe 50 (Nat.le_refl _); have := F1.2; have := F2.2; omega)
      clear uL uM F1 F2 LLe
      generalize tr (fun i => i) [] (X50 V0) (Y50 V0) k = T1 at *
      generalize tr (fun i => i) [] (X50 (turnV V0 k)) (Y50 (turnV V0 k)) k = T2 at *
      have KW := hide ((hK.out.trans K1.out (by simp)).trans k2 (by simp))
      have D1 := hide (H1.out.keep k2 (by simp))
      have D2 := hide h2
      clear h2 ho' k2 U2 H1 HO1 K1
      have L1 := hide (labels_u D1.out)
      go_wp2_with fail
      refine L1.out.mono ?_
      rintro e w3 ⟨rfl, r3, q3⟩
      have D3 := hide (D1.out.keep q3 (by simp))
      have D4 := hide (D2.out.keep q3 (by simp))
      have R3 := hide r3
      have KW3 := hide (KW.out.trans q3 (by simp))
      clear r3 q3 L1 D2 D1 KW
      have L2 := hide (labels_u D4.out)
      generalize hg1 : w2.heap.size = g1 at *
      go_wp2_with fail
      refine L2.out.mono ?_
      rintro e w4 ⟨rfl, r4, q4⟩
      have R4 := hide (show w4.ownsRow w3.heap.size 3 1 (.slice (some ⟨w3.heap.size, 0, none⟩) 50 50) 50 (intsF 50 T1.1) by rw [intsF_congr (g := T2.1) LL.out]; exact r4)
      have R3' := hide (q4.row R3.out (by simp))
      have D5 := hide (D3.out.keep q4 (by simp))
      have D6 := hide (D4.out.keep q4 (by simp))
      have KW4 := hide (KW3.out.trans q4 (by simp))
      clear r4 q4 R3 D3 D4 KW3 L2
      have SR := hide (same_rows w4 50 T1.1 _ _ _ _ 50 50 R3'.out R4.out (by omega))
      generalize w3.heap.size = g2 at *
      go_wp2_with fail
      refine SR.out.mono ?_
      rintro e w5 ⟨rfl, q5⟩
      have M1 := hide (mark_u (D5.out.keep q5 (by simp)))
      have M2 := hide (mark_u (D6.out.keep q5 (by simp)))
      rw [← ML.out] at M2
      have KW5 := hide (KW4.out.trans q5 (by simp))
      clear q5 D5 D6 KW4 SR R3' R4
      go_wp2_with fail
      refine M1.out.mono ?_
      rintro e w' ⟨rfl, rfl⟩
      go_wp2_with fail
      refine M2.out.mono ?_
      rintro e w' ⟨rfl, rfl⟩
      go_wp2_with fail
      refine (works _).mono ?_
      rintro e w9 ⟨rfl, bw⟩
      have HW9 := hide bw
      clear bw
      go_wp2_with fail
      go_ret
      exact ⟨rfl, (below_kp KW5.out).trans (HW9.out.mono KW5.out.size)⟩
theorem own : ownKnob Try.prog.godebug = none := by kernel_rfl
theorem laidOut : laidOutB Try.prog = true := by kernel_rfl
set_option maxRecDepth 100000 in
theorem lifted (os : Os) (started : os.Started) (H : Type) (enc : TypeId × Value → H) :
    ReturnsInHanded {} Try.checked os 8 .any (Rows.undoOrdersSpec.pre6 enc Try.prog Try.f8 Rows.undoOrdersRow.domain false) (Rows.undoOrdersSpec.post enc Try.prog Try.f8 false true false false) := by
  refine returnsInHanded_of_change (C := Try.checked) own started (by kernel_rfl) Try.func8
    (ChangeSpec.witness6 (enc := enc) (C := Try.checked) false ⟨#[], #[.slice none 0 0], []⟩ 8 (by kernel_rfl) (by kernel_rfl) (by kernel_rfl) (by kernel_rfl)) ?_
  intro W base args ds gs before hval0 hW hcnd _
  have hval : ∀ (j : Nat) t v, Try.f8.params[j]? = some t → args[j]? = some v → Value.okWide Try.prog W .any base t v := hval0
  have hW' := hW
  obtain ⟨p, q, hA0, hV, rfl, hfz, hnd⟩ := hW
  have hA : DataW.TrodAll enc Try.prog W 0 (fun _ => true) true Try.f8.params.toList args.toList ds p := hA0
  rw [Try.params8] at hA hval
  obtain ⟨v0, vs0, d0, ds0, p0, q0, hargs, rfl, rfl, h0, r0⟩ := trodAll_cons hA
  obtain ⟨rfl, rfl, rfl⟩ := trodAll_nil r0
  obtain rfl : args = #[v0] := by cases args; simp_all
  obtain ⟨rfl, rfl⟩ := trodVars_none hV
  have k0 := h0
  have lt0 : ∀ x ∈ p0, x.block < W.heap.size := by obtain ⟨m, hm⟩ := k0; exact DataW.trod_lt m _ _ _ hm
  obtain ⟨s0, len0, cap0, rfl⟩ := okWide_slice Try.underlying46 (hval 0 46 v0 rfl rfl)
  obtain ⟨V0, hc0, hr0⟩ := rows_in Try.underlying46 (flat_array Try.underlying57 Try.underlying5 (by kernel_rfl) (by kernel_rfl) : FlatI Try.prog 57 [.u8, .u8]) (by decide) h0
  clear hA0 hval0
  refine (walk s0 len0 cap0 V0 W hc0 hr0).mono fun e W' ⟨he, bel⟩ => ?_
  subst he
  exact ⟨_, rfl, _, _, _, [], _, [], hW', trodAll_mk1 (shut_bool Try.underlying4 _), (trodAll_cons_mk (Below.trod laidOut (by kernel_rfl) (of_decide_eq_true (by kernel_rfl)) k0 bel lt0) trodAll_mk0), rfl, bel.frame _, fun h => by cases h⟩
theorem holds : Rows.undoOrdersRow.holds Try.pinned (OpenSpec.ofChange Rows.undoOrdersSpec) :=
  OpenClaim.holds_of_wide 8 Try.f8 rfl rfl rfl rfl rfl rfl rfl ⟨rfl, rfl, rfl, rfl, rfl⟩ rfl rfl rfl rfl rfl (by kernel_rfl) Try.func8 (by kernel_rfl)
    (of_decide_eq_true (by kernel_rfl)) (by unfold Func.isWrapper; first | (rw [if_pos (by decide +kernel)]; kernel_rfl) | (rw [if_neg (by decide +kernel)]; exact ⟨rfl, rfl⟩))
    (fun os started H enc _ => lifted os started H enc)
theorem proved : Rows.UndoOrdersSaid := holds
end lawOrders
end Go.Proofs.Ytfjmnidenoojhaa
