/- UndoTrials holds: a trial returns what the sets show when its unions are added, and changes nothing. -/
import Derived.Test.YtfjmnidenoojhaaSz
import Derived.Test.YtfjmnidenoojhaaOp
import Derived.Test.YtfjmnidenoojhaaRows
import Derived.Deep.CutRange
set_option linter.unusedVariables false
set_option linter.unusedSimpArgs false
namespace Go.Proofs.Ytfjmnidenoojhaa
open Go.RowKit
def prs (X Y : Nat → Nat) (k : Nat) : List Value := (List.range k).flatMap fun q => [.int .i64 ((X q : Nat) : Int), .int .i64 ((Y q : Nat) : Int)]
theorem prs_succ (X Y : Nat → Nat) (k : Nat) : prs X Y (k + 1) = prs X Y k ++ [.int .i64 ((X k : Nat) : Int), .int .i64 ((Y k : Nat) : Int)] := by
  unfold prs
  rw [List.range_succ, List.flatMap_append]
  simp
theorem prs_len (X Y : Nat → Nat) : ∀ k, (prs X Y k).length = k * 2 := by
  intro k
  induction k with
  | zero => rfl
  | succ k ih => rw [prs_succ, List.length_append, ih]; simp; omega
theorem prs_at (X Y : Nat → Nat) : ∀ {k q : Nat}, q < k → (prs X Y k)[q * 2]? = some (.int .i64 ((X q : Nat) : Int)) ∧ (prs X Y k)[q * 2 + 1]? = some (.int .i64 ((Y q : Nat) : Int)) := by
  intro k
  induction k with
  | zero => intro q h; omega
  | succ k ih =>
    intro q h
    rw [prs_succ]
    by_cases e : q = k
    · subst e
      rw [List.getElem?_append_right (by rw [prs_len]; omega), List.getElem?_append_right (by rw [prs_len]; omega), prs_len]
      constructor
      · simp
      · rw [show q * 2 + 1 - q * 2 = 1 by omega]; rfl
    · obtain ⟨h1, h2⟩ := ih (show q < k by omega)
      rw [List.getElem?_append_left (by rw [prs_len]; omega), List.getElem?_append_left (by rw [prs_len]; omega)]
      exact ⟨h1, h2⟩
def VI (X Y : Nat → Nat) : Nat → Nat → Int := fun q j => if j = 0 then (X q : Int) else (Y q : Int)
theorem rowsI_of_prs {w : World} {B k c : Nat} {p : Option Addr} {X Y : Nat → Nat} (h : w.ownsRow B 58 2 (.slice p k c) k (prs X Y k)) (hw : ∀ q, X q < 50 ∧ Y q < 50) : RowsI w p [.i64, .i64] k (VI X Y) := by
  by_cases h0 : k = 0
  · exact .inl h0
  · rcases id h.2 with ⟨_, h1⟩ | ⟨g, cap, cur, he, hg, hh, _⟩
    · exact absurd h1 h0
    · injection he with he _ _
      subst he
      refine .inr ⟨g, 0, rfl, lt_of_blk hh, fun i hi j kk hj => ?_⟩
      obtain ⟨a1, a2⟩ := prs_at X Y hi
      obtain ⟨w1, w2⟩ := hw i
      have hl := prs_len X Y k
      match j, hj with
      | 0, hj =>
        simp at hj; subst hj
        refine ⟨?_, WalkArith.wf_i64 (by unfold VI; simp; omega)⟩
        rw [h.cellAt _ (by simp; omega)]
        simpa [VI] using a1
      | 1, hj =>
        simp at hj; subst hj
        refine ⟨?_, WalkArith.wf_i64 (by unfold VI; simp; omega)⟩
        rw [h.cellAt _ (by simp; omega)]
        simpa [VI] using a2
      | j + 2, hj => simp at hj
theorem info58 : (Try.prog.info? 58).map (fun i => (i.zero, i.size, i.bytes)) = some (some (.agg #[.int .i64 0, .int .i64 0]), 2, 16) := by kernel_rfl
theorem X50_lt (V : Nat → Nat → Int) (q : Nat) : X50 V q < 50 := Nat.mod_lt _ (by decide)
theorem Y50_lt (V : Nat → Nat → Int) (q : Nat) : Y50 V q < 50 := Nat.mod_lt _ (by decide)
theorem own_lt {own own' : List Nat} {B : Nat} {W : World} (h : ∀ x ∈ own, B ≤ x) (n : ∀ q ∈ own', q ∈ own ∨ W.heap.size ≤ q) (hB : B ≤ W.heap.size) : ∀ x ∈ own', B ≤ x := fun x hx => by
  rcases n x hx with h1 | h1
  · exact h x h1
  · omega
theorem walk_long (s0 : Option Addr) (len0 cap0 : Nat) (s1 : Option Addr) (len1 cap1 : Nat) (w : World) (hs : ¬ (len0 ≤ 100 ∧ len1 ≤ 100)) : Calls Try.prog 7 #[.slice s0 len0 cap0, .slice s1 len1 cap1] w fun e w' => e = .returned (.bool true) ∧ Below w.heap.size w w' := by
  by_cases h0 : 100 < len0
  · have d0 : decide ((100 : Int) < (len0 : Int)) = true := by simp; omega
    clear hs h0
    go_enter Try.func7, Try.ntmps7
    go_wp2_with fail
    refine (works _).mono ?_
    rintro e w2 ⟨rfl, bw⟩
    go_wp2_with fail
    go_ret
    exact ⟨rfl, bw⟩
  · have d0 : decide ((100 : Int) < (len0 : Int)) = false := by simp; omega
    have d1 : decide ((100 : Int) < (len1 : Int)) = true := by simp; omega
    clear hs h0
    go_enter Try.func7, Try.ntmps7
    go_wp2_with fail
    refine (works _).mono ?_
    rintro e w2 ⟨rfl, bw⟩
    go_wp2_with fail
    go_ret
    exact ⟨rfl, bw⟩
namespace lawTrials
open Go.ChangeShapes Go.WideShapes Go.ChangeAt Go.RowKit Go.Joins
set_option maxRecDepth 100000 in
set_option maxHeartbeats 32000000 in
theorem walk (s0 : Option Addr) (len0 cap0 : Nat) (V0 : Nat → Nat → Int) (s1 : Option Addr) (len1 cap1 : Nat) (V1 : Nat → Nat → Int) (w : World) (hc0 : len0 ≤ cap0 ∧ cap0 ≤ maxLen) (hr0 : RowsI w s0 [.u8, .u8] len0 V0) (hc1 : len1 ≤ cap1 ∧ cap1 ≤ maxLen) (hr1 : RowsI w s1 [.u8, .u8] len1 V1) : Calls Try.prog 7 #[.slice s0 len0 cap0, .slice s1 len1 cap1] w fun e w' => e = .returned (.bool true) ∧ Below w.heap.size w w' := by
  by_cases hs : len0 ≤ 100 ∧ len1 ≤ 100
  case neg => exact walk_long s0 len0 cap0 s1 len1 cap1 w hs
  obtain ⟨hs0, hs1⟩ := hs
  have d0 : decide ((100 : Int) < (len0 : Int)) = false := by simp; omega
  have d1 : decide ((100 : Int) < (len1 : Int)) = false := by simp; omega
  have HR1 := hide hr1
  have HL1 := hide hs1
  have M1 := hide (made_t w (cap := cap0) hr0 hs0)
  clear hr0 hr1 hs0 hs1 hc0 hc1
  generalize tr (fun i => i) [] (X50 V0) (Y50 V0) len0 = T at *
  obtain ⟨L, H⟩ := T
  simp only at M1
  go_enter Try.func7, Try.ntmps7
  go_wp2_with fail
  refine M1.out.mono ?_
  rintro e w1 ⟨b, own, rfl, U, lo, k⟩
  have HU := hide U
  have HO := hide lo
  have HK := hide k
  have lt := hide U.lt
  clear U lo k M1 d0 d1
  go_wp2_with fail
  go_loopw [6, 7] (fun v i wr => ∃ (k : Nat), k ≤ len1 ∧ i = .int .i64 (k : Int) ∧ Hid (wr.ownsRow w1.heap.size 58 2 v k (prs (X50 V1) (Y50 V1) k)) ∧ Hid (Kp [] w1 wr)) (fun _ i _ => len1 - (intOf i).toNat)
  case atStart => exact ⟨0, Nat.zero_le _, rfl, World.ownsRow_nil _ _ _ _, Kp.refl _ _⟩
  case round =>
    obtain ⟨k, hk, rfl, hR, hK⟩ := hrel
    by_cases hlt : k < len1
    · have dk : decide ((k : Int) < (len1 : Int)) = true := by simp; omega
      have dk' : decide (k < len1) = true := by simp; omega
      obtain ⟨bb, off, x, y, rfl, hbb, cD, cI, hx, hy, ex, ey⟩ := rowsI_u8 HR1.out hlt
      have ww : IntKind.i64.wrap ((k : Int) + 1) = ((k + 1 : Nat) : Int) := by have := HL1.out; rw [IntKind.wrap_i64]; omega
      obtain ⟨xq, hxq⟩ : ∃ q, q = x % 50 := ⟨_, rfl⟩
      obtain ⟨yq, hyq⟩ : ∃ q, q = y % 50 := ⟨_, rfl⟩
      have fx : (x : Int).tmod 50 = (xq : Int) := by rw [Int.tmod_eq_emod_of_nonneg (by omega)]; omega
      have fy : (y : Int).tmod 50 = (yq : Int) := by rw [Int.tmod_eq_emod_of_nonneg (by omega)]; omega
      have gx : IntKind.i64.wrap (xq : Int) = (xq : Int) := by rw [IntKind.wrap_i64]; omega
      have gy : IntKind.i64.wrap (yq : Int) = (yq : Int) := by rw [IntKind.wrap_i64]; omega
      have ux : IntKind.u8.wrap (xq : Int) = (xq : Int) := by rw [IntKind.wrap_u8]; omega
      have uy : IntKind.u8.wrap (yq : Int) = (yq : Int) := by rw [IntKind.wrap_u8]; omega
      have KX := hide (HK.out.trans hK.out (by simp))
      have cD1 : wr.cell? ⟨bb, off + k * 2, none⟩ = some (.int .u8 (x : Int)) := by rw [World.cell?_of_block (w := w) (KX.out.block bb hbb (by simp))]; exact cD
      have cI1 : wr.cell? ⟨bb, off + k * 2 + 1, none⟩ = some (.int .u8 (y : Int)) := by rw [World.cell?_of_block (w := w) (KX.out.block bb hbb (by simp))]; exact cI
      have KD : Kp [] wr wr.drew := Kp.drewN [] wr 1
      have RD := hide (KD.row hR.out (by simp))
      have KW := hide (hK.out.trans KD (by simp))
      have NP := hide (show prs (X50 V1) (Y50 V1) (k + 1) = prs (X50 V1) (Y50 V1) k ++ [.int .i64 (xq : Int), .int .i64 (yq : Int)] by rw [prs_succ, hxq, hyq, ex, ey]; rfl)
      have bd := fun w => buildP (xq : Int) (yq : Int) w
      have HHK := hide hlt
      obtain ⟨i0, hi0, hz0, hz1, hz2⟩ := info_parts info58
      have HF := hide (And.intro hi0 (And.intro hz0 (And.intro hz1 hz2)))
      have SN := hide (src_new wr.drew wr.heap.size rfl [.int .i64 (xq : Int), .int .i64 (yq : Int)] 58)
      clear cD cI KD hR hK hbb hi0 hz0 hz1 hz2 ex ey hxq hyq
      go_wp2_with fail
      go_region_law (first | (refine step_append_new _ rfl _ _ 33 rfl w1.heap.size 58 i0 (.agg #[.int .i64 0, .int .i64 0]) 2 16 Try.underlying33 HF.out.1 HF.out.2.1 HF.out.2.2.1 HF.out.2.2.2 rfl (by decide) u6 k (prs (X50 V1) (Y50 V1) k) rfl (RD.out.alloc _) ⟨wr.heap.size, 0, none⟩ 1 1 [.int .i64 (xq : Int), .int .i64 (yq : Int)] rfl rfl SN.out (by intro u hu; simp at hu; rcases hu with rfl | rfl <;> rfl) (by have := HL1.out; have := HHK.out; unfold maxLen; omega) (by have := HL1.out; have := HHK.out; omega) (by have := KW.out.size; simp at this ⊢; omega) ?_; intro v' w' ho hg hb; have HO' := hide ho; have HG := hide hg; clear ho hg hb))
      all_goals
        have HP := hide (show w'.ownsRow w1.heap.size 58 2 v' (k + 1) (prs (X50 V1) (Y50 V1) (k + 1)) by rw [NP.out]; exact HO'.out)
        have KA : Kp [] w1 (wr.drew.alloc (.cells #[.int .i64 (xq : Int), .int .i64 (yq : Int)] 58)) := KW.out.trans (Kp.alloc (o := []) _ _) (by simp)
        have HQ := hide (KA.grown HG.out (fun z hz => (RD.out.lt z hz).1))
        clear KA HO' HG RD SN HF bd cD1 cI1 NP KX KW
        go_wp2_with fail
        go_roundw
        case rel => exact ⟨k + 1, by omega, by first | rfl | go_num, HP, HQ⟩
        case measure => simp [intOf]; omega
    · have : k = len1 := by omega
      subst this
      have dk : decide ((k : Int) < (k : Int)) = false := by simp
      have dk' : decide (k < k) = false := by simp
      obtain ⟨w2, hw2⟩ : ∃ w2 : World, w2 = wr := ⟨_, rfl⟩
      have HU2 := hide (HU.out.keep hK.out (by simp))
      have HK2 := hide (HK.out.trans hK.out (by simp))
      have HRP := hide hR.out
      have z12 := hide hK.out.size
      have Q1 := hide (mark_u HU2.out)
      have Q2 := hide (labels_u HU2.out)
      obtain ⟨pp, pc, rfl⟩ := row_slice hR.out
      clear hR hK hw2 HU HK
      go_wp2_with fail
      refine Q1.out.mono ?_
      rintro e w' ⟨rfl, rfl⟩
      go_wp2_with fail
      refine Q2.out.mono ?_
      rintro e w3 ⟨rfl, r3, k3⟩
      have HR3 := hide r3
      have HU3 := hide (HU2.out.keep k3 (by simp))
      have HK3 := hide (HK2.out.trans k3 (by simp))
      have HP3 := hide (k3.row HRP.out (by simp))
      have HZ3 := hide (Nat.le_trans z12.out k3.size)
      have HG := hide (show (∀ x ∈ own, x < wr.heap.size) ∧ w.heap.size ≤ wr.heap.size from ⟨fun x hx => by have := (lt.out x hx).2; have := z12.out; omega, HK2.out.size⟩)
      obtain ⟨g, hg⟩ : ∃ g, g = wr.heap.size := ⟨_, rfl⟩
      rw [← hg] at HR3 HG ⊢
      have Q := hide (trial_t HU3.out (rowsI_of_prs HP3.out (fun q => ⟨X50_lt V1 q, Y50_lt V1 q⟩)) (cap := pc) (by have := HL1.out; omega) HK3.out.size (fun bb off sp hl e hm => by
        subst e
        have h1 := (lt.out bb hm).2
        rcases HP3.out.2 with ⟨_, h0⟩ | ⟨g', cap', cur', he, hg', _⟩
        · omega
        · injection he with he _ _; injection he with he; injection he with he; omega) (X50 V1) (Y50 V1) (fun q hq => ⟨by simp [VI], by simp [VI], X50_lt V1 q, Y50_lt V1 q⟩))
      have hB3 : ∃ B0, Hid (w3.ownsRow B0 3 1 (.slice (some ⟨g, 0, none⟩) 50 50) 50 (intsF 50 L)) := ⟨_, HR3⟩
      obtain ⟨B0, hB0⟩ := hB3
      generalize hT : tr L H (X50 V1) (Y50 V1) k = T at *
      have HT := hide hT
      clear r3 k3 Q1 Q2 hg HU2 HK2 HRP HR3 hT z12
      obtain ⟨L2, H2⟩ := T
      simp only at Q
      obtain ⟨a1, ha1⟩ : ∃ q, q = maxTo (sz L2 50) 50 := ⟨_, rfl⟩
      obtain ⟨a2, ha2⟩ : ∃ q, q = roots L2 50 := ⟨_, rfl⟩
      obtain ⟨a3, ha3⟩ : ∃ q, q = sumTo (sz L2 50) 50 := ⟨_, rfl⟩
      have ER := show rowV L2 50 = .agg #[.int .i64 (a1 : Int), .int .i64 (a2 : Int), .int .i64 (a3 : Int)] by rw [ha1, ha2, ha3]; rfl
      rw [ER] at Q
      have A1 := hide ha1
      have A2 := hide ha2
      have A3 := hide ha3
      clear ha1 ha2 ha3 ER
      go_wp2_with fail
      refine Q.out.mono ?_
      rintro e w4 ⟨rfl, own4, U4, k4, n4⟩
      have HO4 := hide (own_lt HO.out n4 HK3.out.size)
      have HK4 := hide (HK3.out.trans k4 (fun z hz => .inr (HO.out z hz)))
      have HR4 := hide (k4.row hB0.out (fun x hx hm => by simp [Value.ownBlock] at hx; subst hx; have := HG.out.1 _ hm; omega))
      have ka := Kp.alloc (o := []) w4 (.cells #[.int .i64 (a1 : Int), .int .i64 (a2 : Int), .int .i64 (a3 : Int)] 40)
      have U5 := U4.keep ka (by simp)
      have HU5 := hide U5
      have HK5 := hide (HK4.out.trans ka (by simp))
      have HR5 := hide (ka.row HR4.out (by simp))
      obtain ⟨rb, hrb⟩ : ∃ r, r = w4.heap.size := ⟨_, rfl⟩
      have RB5 := heap_alloc_new w4 (.cells #[.int .i64 (a1 : Int), .int .i64 (a2 : Int), .int .i64 (a3 : Int)] 40)
      rw [← hrb] at RB5
      have HRB5 := hide RB5
      have HN4 := hide (show rb ∉ own4 from fun hm => by have := (U4.lt rb hm).2; omega)
      have HG4 := hide (show g ∉ own4 from fun hm => by
        rcases n4 g hm with h | h
        · have := HG.out.1 g h; omega
        · have := (hB0.out.lt g rfl).2; omega)
      have Q1 := hide (mark_u U5)
      have Q2 := hide (labels_u U5)
      clear U4 k4 n4 ka U5 RB5 Q HU3 HK3 HP3 HZ3 hB0 HK4 HR4 HO HG
      go_wp2_with fail
      rw [← hrb]
      generalize w4.alloc (.cells #[.int .i64 (a1 : Int), .int .i64 (a2 : Int), .int .i64 (a3 : Int)] 40) = w5 at *
      clear hrb
      refine Q1.out.mono ?_
      rintro e w' ⟨rfl, rfl⟩
      go_wp2_with fail
      refine Q2.out.mono ?_
      rintro e w6 ⟨rfl, r6, k6⟩
      have HU6 := hide (HU5.out.keep k6 (by simp))
      have HK6 := hide (HK5.out.trans k6 (by simp))
      have SM := hide (same_rows w6 50 L _ _ _ _ _ _ r6 (k6.row HR5.out (by simp)) (by omega))
      have RB6 := hide (k6.blk HRB5.out (by simp))
      clear r6 k6 Q1 Q2 HU5 HK5 HR5 HRB5
      go_wp2_with fail
      refine SM.out.mono ?_
      rintro e w7 ⟨rfl, k7⟩
      have HU7 := hide (HU6.out.keep k7 (by simp))
      have HK7 := hide (HK6.out.trans k7 (by simp))
      have RB7 := hide (k7.blk RB6.out (by simp))
      have Q := hide (add_t HU7.out (cap := cap1) (HR1.out.below (HK7.out.below (B := w.heap.size) (by simp) (Nat.le_refl _)) (Nat.le_refl _)) HL1.out HK7.out.size (fun bb off sp hl e hm => by
        subst e
        have h1 := HO4.out bb hm
        rcases HR1.out with h0 | ⟨b', off', e', hb', _⟩
        · omega
        · injection e' with e'; injection e' with e'; omega))
      rw [HT.out] at Q
      clear k7 SM HU6 HK6 RB6 HR1
      go_wp2_with fail
      refine Q.out.mono ?_
      rintro e w8 ⟨rfl, own8, U8, k8, n8⟩
      have HU8 : Hid (US w.heap.size w8 b own8 50 L2 H2) := hide U8
      have HK8 := hide (HK7.out.trans k8 (fun z hz => .inr (HO4.out z hz)))
      have RB8 := hide (k8.blk RB7.out HN4.out)
      have CB := fun x => hide (cnt_le L2 x 50)
      clear U8 k8 n8 Q HU7 HK7 RB7 HT
      go_wp2_with fail
      obtain ⟨wo, rfl⟩ : ∃ wo : World, wo = wr := ⟨_, rfl⟩
      go_loopw [12, 13, 14] (fun m q i wr => ∃ j : Nat, j ≤ 50 ∧ i = .int .i64 (j : Int) ∧ m = .int .i64 ((maxTo (sz L2 50) j : Nat) : Int) ∧ q = .int .i64 ((sumTo (sz L2 50) j : Nat) : Int) ∧ Hid (∃ q, wr = w8.drewN q)) (fun _ _ i _ => 50 - (intOf i).toNat)
      case atStart => exact ⟨0, by omega, rfl, rfl, rfl, ⟨0, rfl⟩⟩
      case round =>
        obtain ⟨j, hj, rfl, rfl, rfl, hq⟩ := hrel
        obtain ⟨q0, rfl⟩ := hq.out
        obtain ⟨W, hW⟩ : ∃ W, W = w8.drewN q0 := ⟨_, rfl⟩
        have HW := hide hW
        have kW : Kp [] w8 W := by rw [hW]; exact Kp.drewN [] w8 q0
        have UW := hide (HU8.out.keep kW (by simp))
        have RBW := hide (kW.blk RB8.out (by simp))
        have KW := hide (HK8.out.trans kW (by simp))
        rw [← hW]
        clear hW hq kW
        by_cases hlt2 : j < 50
        · have dj : decide ((j : Int) < 50) = true := by simp; omega
          have Z1 : Hid (Calls Try.prog 30 #[.pointer (some ⟨b, 0, none⟩), .int .i64 (j : Int)] W fun e w' => e = .returned (.int .i64 ((sz L2 50 j : Nat) : Int)) ∧ ∃ q, w' = W.drewN q) := hide (size_qu UW.out j hlt2)
          have ww : IntKind.i64.wrap ((j : Int) + 1) = ((j + 1 : Nat) : Int) := by rw [IntKind.wrap_i64]; omega
          have NS := hide (show sumTo (sz L2 50) (j + 1) = sumTo (sz L2 50) j + sz L2 50 j from rfl)
          have NM := hide (show maxTo (sz L2 50) (j + 1) = max (maxTo (sz L2 50) j) (sz L2 50 j) from rfl)
          have s1 := sumTo_le (g := sz L2 50) (b := 50) j (fun i _ => (CB _).out)
          have s2 : sz L2 50 j ≤ 50 := (CB _).out
          have s3 := Nat.mul_le_mul (show j ≤ 50 by omega) (Nat.le_refl 50)
          generalize sumTo (sz L2 50) j = sq at *
          generalize maxTo (sz L2 50) j = mx at *
          generalize sz L2 50 j = z at *
          obtain ⟨t, ht⟩ : ∃ t, t = sq + z := ⟨_, rfl⟩
          have as1 : (sq : Int) + (z : Int) = (t : Int) := by omega
          have wt : IntKind.i64.wrap (t : Int) = (t : Int) := by rw [IntKind.wrap_i64]; omega
          have wz : IntKind.i64.wrap (z : Int) = (z : Int) := by rw [IntKind.wrap_i64]; omega
          rw [← ht] at NS
          clear ht s1 s2 s3
          rcases Nat.lt_or_ge mx z with hm | hm
          · have dm : decide ((mx : Int) < (z : Int)) = true := by simp; omega
            have dm' : decide (mx < z) = true := by simp; omega
            rw [show max mx z = z by omega] at NM
            clear hm
            go_wp2_with fail
            refine Z1.out.mono ?_
            rintro e w' ⟨rfl, q2, rfl⟩
            go_wp2_with fail
            go_roundw
            case rel => exact ⟨j + 1, by omega, by first | rfl | go_num, by rw [NM.out], by rw [NS.out], ⟨q0 + q2, by rw [HW.out, World.drewN_drewN]⟩⟩
            case measure => simp [intOf]; omega
          · have dm : decide ((mx : Int) < (z : Int)) = false := by simp; omega
            have dm' : decide (mx < z) = false := by simp; omega
            rw [show max mx z = mx by omega] at NM
            clear hm
            go_wp2_with fail
            refine Z1.out.mono ?_
            rintro e w' ⟨rfl, q2, rfl⟩
            go_wp2_with fail
            go_roundw
            case rel => exact ⟨j + 1, by omega, by first | rfl | go_num, by rw [NM.out], by rw [NS.out], ⟨q0 + q2, by rw [HW.out, World.drewN_drewN]⟩⟩
            case measure => simp [intOf]; omega
        · have : j = 50 := by omega
          subst this
          rw [← A1.out, ← A3.out]
          have kd : Kp [] W W.drew := Kp.drewN [] W 1
          have CU := hide (count_u (UW.out.keep kd (by simp)))
          rw [← A2.out] at CU
          have RD := kd.blk RBW.out (by simp)
          have K0 : W.drew.cell? ⟨rb, 0, none⟩ = some (.int .i64 (a1 : Int)) ∧ W.drew.cell? ⟨rb, 1, none⟩ = some (.int .i64 (a2 : Int)) ∧ W.drew.cell? ⟨rb, 2, none⟩ = some (.int .i64 (a3 : Int)) := by simp [cell_of_blk RD]
          have HRD := hide RD
          have KWD := hide (KW.out.trans kd (by simp))
          clear kd RD UW RBW KW
          go_wp2_with fail
          go_region_held3 (fun w' => w'.cell? ⟨rb, 0, none⟩ = some (.int .i64 (a1 : Int)) ∧ w'.cell? ⟨rb, 1, none⟩ = some (.int .i64 (a2 : Int)) ∧ w'.cell? ⟨rb, 2, none⟩ = some (.int .i64 (a3 : Int))) (with_reducible assumption)
            (first
              | (go_at_call 26; refine CU.out.mono ?_; rintro e w9 ⟨rfl, b9⟩; have RD9 := hide ((Kp.of_below (o := []) b9).blk HRD.out (by simp)); have K9 : w9.cell? ⟨rb, 0, none⟩ = some (.int .i64 (a1 : Int)) ∧ w9.cell? ⟨rb, 1, none⟩ = some (.int .i64 (a2 : Int)) ∧ w9.cell? ⟨rb, 2, none⟩ = some (.int .i64 (a3 : Int)) := (by simp [cell_of_blk RD9.out]); have KW9 := hide (KWD.out.trans (Kp.of_below (o := []) b9) (by simp)); clear b9)
              | (go_at_call 11; refine (works _).mono ?_; rintro e w10 ⟨rfl, b10⟩; have RD10 := hide ((Kp.of_below (o := []) b10).blk RD9.out (by simp)); have K10 : w10.cell? ⟨rb, 0, none⟩ = some (.int .i64 (a1 : Int)) ∧ w10.cell? ⟨rb, 1, none⟩ = some (.int .i64 (a2 : Int)) ∧ w10.cell? ⟨rb, 2, none⟩ = some (.int .i64 (a3 : Int)) := (by simp [cell_of_blk RD10.out]); have KW10 := hide (KW9.out.trans (Kp.of_below (o := []) b10) (by simp)); clear b10))
          all_goals
            go_wp2_with fail
            go_ret
            exact ⟨rfl, below_kp KW10.out⟩
theorem own : ownKnob Try.prog.godebug = none := by kernel_rfl
theorem laidOut : laidOutB Try.prog = true := by kernel_rfl
set_option maxRecDepth 100000 in
theorem lifted (os : Os) (started : os.Started) (H : Type) (enc : TypeId × Value → H) :
    ReturnsInHanded {} Try.checked os 7 .any (Rows.undoTrialsSpec.pre6 enc Try.prog Try.f7 Rows.undoTrialsRow.domain false) (Rows.undoTrialsSpec.post enc Try.prog Try.f7 false true false false) := by
  refine returnsInHanded_of_change (C := Try.checked) own started (by kernel_rfl) Try.func7
    (ChangeSpec.witness6 (enc := enc) (C := Try.checked) false ⟨#[], #[.slice none 0 0, .slice none 0 0], []⟩ 8 (by kernel_rfl) (by kernel_rfl) (by kernel_rfl) (by kernel_rfl)) ?_
  intro W base args ds gs before hval0 hW hcnd _
  have hval : ∀ (j : Nat) t v, Try.f7.params[j]? = some t → args[j]? = some v → Value.okWide Try.prog W .any base t v := hval0
  have hW' := hW
  obtain ⟨p, q, hA0, hV, rfl, hfz, hnd⟩ := hW
  have hA : DataW.TrodAll enc Try.prog W 0 (fun _ => true) true Try.f7.params.toList args.toList ds p := hA0
  rw [Try.params7] at hA hval
  obtain ⟨v0, vs0, d0, ds0, p0, q0, hargs, rfl, rfl, h0, r0⟩ := trodAll_cons hA
  obtain ⟨v1, vs1, d1, ds1, p1, q1, rfl, rfl, rfl, h1, r1⟩ := trodAll_cons r0
  obtain ⟨rfl, rfl, rfl⟩ := trodAll_nil r1
  obtain rfl : args = #[v0, v1] := by cases args; simp_all
  obtain ⟨rfl, rfl⟩ := trodVars_none hV
  have k0 := h0
  have lt0 : ∀ x ∈ p0, x.block < W.heap.size := by obtain ⟨m, hm⟩ := k0; exact DataW.trod_lt m _ _ _ hm
  have k1 := h1
  have lt1 : ∀ x ∈ p1, x.block < W.heap.size := by obtain ⟨m, hm⟩ := k1; exact DataW.trod_lt m _ _ _ hm
  obtain ⟨s0, len0, cap0, rfl⟩ := okWide_slice Try.underlying46 (hval 0 46 v0 rfl rfl)
  obtain ⟨V0, hc0, hr0⟩ := rows_in Try.underlying46 (flat_array Try.underlying57 Try.underlying5 (by kernel_rfl) (by kernel_rfl) : FlatI Try.prog 57 [.u8, .u8]) (by decide) h0
  obtain ⟨s1, len1, cap1, rfl⟩ := okWide_slice Try.underlying46 (hval 1 46 v1 rfl rfl)
  obtain ⟨V1, hc1, hr1⟩ := rows_in Try.underlying46 (flat_array Try.underlying57 Try.underlying5 (by kernel_rfl) (by kernel_rfl) : FlatI Try.prog 57 [.u8, .u8]) (by decide) h1
  clear hA0 hval0
  refine (walk s0 len0 cap0 V0 s1 len1 cap1 V1 W hc0 hr0 hc1 hr1).mono fun e W' ⟨he, bel⟩ => ?_
  subst he
  exact ⟨_, rfl, _, _, _, [], _, [], hW', trodAll_mk1 (shut_bool Try.underlying4 _), (trodAll_cons_mk (Below.trod laidOut (by kernel_rfl) (of_decide_eq_true (by kernel_rfl)) k0 bel lt0) (trodAll_cons_mk (Below.trod laidOut (by kernel_rfl) (of_decide_eq_true (by kernel_rfl)) k1 bel lt1) trodAll_mk0)), rfl, bel.frame _, fun h => by cases h⟩
theorem holds : Rows.undoTrialsRow.holds Try.pinned (OpenSpec.ofChange Rows.undoTrialsSpec) :=
  OpenClaim.holds_of_wide 7 Try.f7 rfl rfl rfl rfl rfl rfl rfl ⟨rfl, rfl, rfl, rfl, rfl⟩ rfl rfl rfl rfl rfl (by kernel_rfl) Try.func7 (by kernel_rfl)
    (of_decide_eq_true (by kernel_rfl)) (by unfold Func.isWrapper; first | (rw [if_pos (by decide +kernel)]; kernel_rfl) | (rw [if_neg (by decide +kernel)]; exact ⟨rfl, rfl⟩))
    (fun os started H enc _ => lifted os started H enc)
theorem proved : Rows.UndoTrialsSaid := holds
end lawTrials
end Go.Proofs.Ytfjmnidenoojhaa
