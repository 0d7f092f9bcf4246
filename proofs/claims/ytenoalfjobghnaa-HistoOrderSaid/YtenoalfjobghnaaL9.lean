/- HistoOrder holds: the counts do not depend on the order in which numbers are counted; and counting them in two histograms that are merged is the same. -/
import Derived.Test.YtenoalfjobghnaaHP
import Derived.Test.YtenoalfjobghnaaOp
import Derived.Test.YtenoalfjobghnaaRows
import Derived.Deep.CutRange
set_option linter.unusedVariables false
set_option linter.unusedSimpArgs false
namespace Go.Proofs.Ytenoalfjobghnaa
open Go.RowKit
namespace lawOrder
open Go.ChangeShapes Go.WideShapes Go.ChangeAt Go.RowKit Go.Joins
set_option maxRecDepth 100000 in
set_option maxHeartbeats 16000000 in
theorem walk (s0 : Option Addr) (len0 cap0 : Nat) (V0 : Nat → Nat → Int) (s1 : Option Addr) (len1 cap1 : Nat) (V1 : Nat → Nat → Int) (a2 : Int) (w : World) (hc0 : len0 ≤ cap0 ∧ cap0 ≤ maxLen) (hr0 : RowsI w s0 [.i64] len0 V0) (hc1 : len1 ≤ cap1 ∧ cap1 ≤ maxLen) (hr1 : RowsI w s1 [.i64, .i64] len1 V1) (b2 : 0 ≤ a2 ∧ a2 ≤ 255) : Calls Try.prog 11 #[.slice s0 len0 cap0, .slice s1 len1 cap1, .int .u8 a2] w fun e w' => e = .returned (.bool true) ∧ Below w.heap.size w w' := by
  have R := rd_of hr0
  have ST := steps_of hr1
  generalize hV : (fun i => V0 i 0) = V at R
  generalize hX : (fun i => V1 i 0) = X at ST
  generalize hT : (fun i => V1 i 1) = T at ST
  clear hr0 hr1 hV hX hT
  obtain ⟨cut, rfl⟩ := Int.eq_ofNat_of_zero_le b2.1
  have HCUT := hide (show cut ≤ 255 by omega)
  clear b2
  by_cases hl0 : 200 < len0
  · have d0 : decide ((200 : Int) < (len0 : Int)) = true := by simp; omega
    have d0' : decide (200 < len0) = true := by simp; omega
    clear R ST hl0 hc0 hc1
    go_enter Try.func11, Try.ntmps11
    go_wp2_with fail
    refine (works _).mono ?_
    rintro e w2 ⟨rfl, bw⟩
    have HW := hide bw
    clear bw
    go_wp2_with fail
    go_ret
    exact ⟨rfl, HW.out⟩
  have d0 : decide ((200 : Int) < (len0 : Int)) = false := by simp; omega
  have d0' : decide (200 < len0) = false := by simp; omega
  by_cases hl1 : 200 < len1
  · have d1 : decide ((200 : Int) < (len1 : Int)) = true := by simp; omega
    have d1' : decide (200 < len1) = true := by simp; omega
    clear R ST hl0 hl1 hc0 hc1
    go_enter Try.func11, Try.ntmps11
    go_wp2_with fail
    refine (works _).mono ?_
    rintro e w2 ⟨rfl, bw⟩
    have HW := hide bw
    clear bw
    go_wp2_with fail
    go_ret
    exact ⟨rfl, HW.out⟩
  have d1 : decide ((200 : Int) < (len1 : Int)) = false := by simp; omega
  have d1' : decide (200 < len1) = false := by simp; omega
  have HL0 := hide hl0
  have HL1 := hide hl1
  by_cases inc : ¬ Inc V len0
  · have N := hide (new_e (c := cap0) R (fun h => inc h.2))
    clear R ST hl0 hl1 hc0 hc1 inc
    go_enter Try.func11, Try.ntmps11
    go_wp2_with fail
    refine N.out.mono ?_
    rintro e w1 ⟨rfl, k⟩
    have K := hide k
    clear k
    go_wp2_with fail
    refine (works _).mono ?_
    rintro e w2 ⟨rfl, bw⟩
    have HW := hide bw
    clear bw
    go_wp2_with fail
    go_ret
    exact ⟨rfl, (K.out.below (by simp) (Nat.le_refl _)).trans (HW.out.mono K.out.size)⟩
  have inc := Classical.byContradiction inc
  have N := hide (new_i (c := cap0) R (by omega) inc)
  have HST := hide ST
  clear R ST hl0 hl1 hc0 hc1 inc
  go_enter Try.func11, Try.ntmps11
  go_wp2_with fail
  refine N.out.mono ?_
  rintro e w1 ⟨ia, rfl, GA, k1⟩
  have K1 := hide k1
  have G1 := hide GA
  have CP1 := hide (copy_g G1.out)
  clear GA k1 N
  go_wp2_with fail
  refine CP1.out.mono ?_
  rintro e w2 ⟨ib, rfl, GB, k2⟩
  have K2 := hide (K1.out.trans0 k2)
  have A2 := hide (G1.out.keep0 k2)
  have B2 := hide GB
  have dAB := hide (dis_new G1.out GB (Nat.le_refl _))
  have CP2 := hide (copy_g A2.out)
  clear GB k2 CP1
  go_wp2_with fail
  refine CP2.out.mono ?_
  rintro e w3 ⟨ic, rfl, GC, k3⟩
  have K3 := hide (K2.out.trans0 k3)
  have A3 := hide (A2.out.keep0 k3)
  have B3 := hide (B2.out.keep0 k3)
  have C3 := hide GC
  have dAC := hide (dis_new A2.out GC (Nat.le_refl _))
  have dBC := hide (dis_new B2.out GC (Nat.le_refl _))
  have CP3 := hide (copy_g A3.out)
  clear GC k3 CP2
  go_wp2_with fail
  refine CP3.out.mono ?_
  rintro e w4 ⟨idd, rfl, GD, k4⟩
  have K4 := hide (K3.out.trans0 k4)
  have A4 := hide (A3.out.keep0 k4)
  have B4 := hide ((B3.out.keep0 k4).base K1.out.size)
  have C4 := hide ((C3.out.keep0 k4).base K2.out.size)
  have D4 := hide (GD.base K3.out.size)
  have dAD := hide (dis_new A3.out GD (Nat.le_refl _))
  have dBD := hide (dis_new B3.out GD (Nat.le_refl _))
  have dCD := hide (dis_new C3.out GD (Nat.le_refl _))
  clear GD k4 CP3 A2 A3 B2 B3 C3 G1
  obtain ⟨f, hf⟩ : ∃ f, f = ctr V len0 X T 1099511627776 := ⟨_, rfl⟩
  have HF := hide hf
  clear hf
  go_wp2_with fail
  go_loopw [12] (fun i wr => ∃ k : Nat, i = .int .i64 (k : Int) ∧ Hid (k ≤ len1) ∧ Hid (HI w.heap.size wr ia len0 V (fun i => sumI (f i) k) ∧ HI w.heap.size wr ib len0 V (fun i => sumI (fun j => f i (len1 - 1 - j)) k) ∧ HI w.heap.size wr ic len0 V (fun i => part1 (f i) cut k) ∧ HI w.heap.size wr idd len0 V (fun i => part2 (f i) cut k)) ∧ Hid (sumI (fun i => sumI (f i) k) (len0 + 1) ≤ k * 1099511627776 ∧ sumI (fun i => sumI (fun j => f i (len1 - 1 - j)) k) (len0 + 1) ≤ k * 1099511627776 ∧ sumI (fun i => part1 (f i) cut k) (len0 + 1) ≤ k * 1099511627776 ∧ sumI (fun i => part2 (f i) cut k) (len0 + 1) ≤ k * 1099511627776) ∧ Hid (Kp [] w wr)) (fun i _ => len1 - (intOf i).toNat)
  case atStart =>
    refine ⟨0, rfl, Nat.zero_le _, ⟨A4.out, B4.out, C4.out, D4.out⟩, ?_, K4.out⟩
    have z : sumI (fun _ => 0) (len0 + 1) ≤ (0 : Nat) * 1099511627776 := by rw [sumI_zero]; decide
    exact ⟨z, z, z, z⟩
  case round =>
    obtain ⟨k, rfl, hk, hG, hS, hK⟩ := hrel
    by_cases hlt : k < len1
    · have dk : decide (k < len1) = true := by simpa using hlt
      have dk2 : decide ((k : Int) < (len1 : Int)) = true := by simpa using hlt
      have ww : IntKind.i64.wrap ((k : Int) + 1) = (k : Int) + 1 := by have := HL1.out; rw [IntKind.wrap_i64]; omega
      have b1 : (k : Int) < (len1 : Int) := by omega
      obtain ⟨n1, hn1⟩ : ∃ n1, n1 = len1 - 1 := ⟨_, rfl⟩
      obtain ⟨q, hq⟩ : ∃ q, q = n1 - k := ⟨_, rfl⟩
      have wn : IntKind.i64.wrap ((len1 : Int) - 1) = (n1 : Int) := by have := HL1.out; rw [IntKind.wrap_i64]; omega
      have wq : IntKind.i64.wrap ((n1 : Int) - (k : Int)) = (q : Int) := by have := HL1.out; rw [IntKind.wrap_i64]; omega
      have bq : (q : Int) < (len1 : Int) := by omega
      have bq' : q < len1 := by omega
      have HQ := hide (show q = len1 - 1 - k by omega)
      rcases HST.out with h0 | ⟨bb, off, rfl, hbb, hcc⟩
      · omega
      have cx := hcc k hlt
      have cy := hcc q bq'
      have e1 : wr.cell? ⟨bb, off + k * 2, none⟩ = some (.int .i64 (X k)) := (hK.out.at hbb _).trans cx.1
      have e2 : wr.cell? ⟨bb, off + k * 2 + 1, none⟩ = some (.int .i64 (T k)) := (hK.out.at hbb _).trans cx.2.1
      have CY : Hid (∀ w', Kp [] w w' → w'.cell? ⟨bb, off + q * 2, none⟩ = some (.int .i64 (X q)) ∧ w'.cell? ⟨bb, off + q * 2 + 1, none⟩ = some (.int .i64 (T q))) := fun w' k' => ⟨(k'.at hbb _).trans cy.1, (k'.at hbb _).trans cy.2.1⟩
      obtain ⟨x, hx⟩ : ∃ x, x = X k := ⟨_, rfl⟩
      obtain ⟨t0, ht0⟩ : ∃ t, t = T k := ⟨_, rfl⟩
      obtain ⟨y, hy⟩ : ∃ x, x = X q := ⟨_, rfl⟩
      obtain ⟨u0, hu0⟩ : ∃ t, t = T q := ⟨_, rfl⟩
      rw [← hx] at e1
      rw [← ht0] at e2
      rw [← hy, ← hu0] at CY
      obtain ⟨t, ht⟩ : ∃ t, t = cl 1099511627776 t0 := ⟨_, rfl⟩
      obtain ⟨u, hu⟩ : ∃ t, t = cl 1099511627776 u0 := ⟨_, rfl⟩
      have it := hide (show I64 t by rw [ht, ht0]; exact cl_64 cx.2.2.2 (by omega))
      have iu := hide (show I64 u by rw [hu, hu0]; exact cl_64 cy.2.2.2 (by omega))
      have lt' := hide (show t ≤ 1099511627776 by rw [ht]; exact cl_le _ _)
      have lu := hide (show u ≤ 1099511627776 by rw [hu]; exact cl_le _ _)
      have mt : (if (1099511627776 : Int) < t0 then 1099511627776 else t0) = t := by rw [ht]; rfl
      have mu : (if (1099511627776 : Int) < u0 then 1099511627776 else u0) = u := by rw [hu]; rfl
      have FX := hide (show ∀ i, f i k = if 0 ≤ t ∧ bk V x len0 = i then t else 0 by intro i; rw [HF.out, ht, ht0, hx]; rfl)
      have FY := hide (show ∀ i, f i (len1 - 1 - k) = if 0 ≤ u ∧ bk V y len0 = i then u else 0 by intro i; rw [← HQ.out, HF.out, hu, hu0, hy]; rfl)
      have F1 := hide (CY.out _ (hK.out.allocK (.cells #[.int .i64 x, .int .i64 t] 36)))
      have e3 := F1.out.1
      have e4 := F1.out.2
      have S1 := hS.out
      have HLT := hide hlt
      clear hn1 hq hcc cx cy hx ht0 hy hu0 ht hu hlt hbb HST HF
      go_wp2_with fail
      obtain ⟨W2, hW2⟩ : ∃ W, W = (wr.alloc (.cells #[.int .i64 x, .int .i64 t] 36)).alloc (.cells #[.int .i64 y, .int .i64 u] 36) := ⟨_, rfl⟩
      have KW : Hid (Kp [] wr W2) := by rw [hW2]; exact (Kp.alloc _ _).allocK _
      have BX : Hid (W2.heap[wr.heap.size]? = some (.cells #[.int .i64 x, .int .i64 t] 36 (0, 0))) := by rw [hW2]; exact (Kp.alloc (o := []) _ _).blk (heap_alloc_new _ _) (by simp)
      have BY : Hid (W2.heap[wr.heap.size + 1]? = some (.cells #[.int .i64 y, .int .i64 u] 36 (0, 0))) := by
        rw [hW2]
        have := heap_alloc_new (wr.alloc (.cells #[.int .i64 x, .int .i64 t] 36)) (.cells #[.int .i64 y, .int .i64 u] 36)
        rw [show (wr.alloc (.cells #[.int .i64 x, .int .i64 t] 36)).heap.size = wr.heap.size + 1 by simp] at this
        exact this
      have out : Hid (∀ (o : Id) (Z : Nat → Int), HI w.heap.size wr o len0 V Z → wr.heap.size ∉ o.own ∧ wr.heap.size + 1 ∉ o.own) := fun o Z h => ⟨fun hx => by have := (h.lt _ hx).2; omega, fun hx => by have := (h.lt _ hx).2; omega⟩
      have oA := hide (out.out ia _ hG.out.1)
      have oB := hide (out.out ib _ hG.out.2.1)
      rw [← hW2]
      clear hW2 out e1 e2 e3 e4 F1 mt mu
      obtain ⟨bx, hbx⟩ : ∃ b, b = wr.heap.size := ⟨_, rfl⟩
      rw [← hbx] at BX BY oA oB ⊢
      obtain ⟨by', hby⟩ : ∃ b, b = bx + 1 := ⟨_, rfl⟩
      rw [← hby] at BY oA oB ⊢
      clear hbx hby
      have A2 := hide (hG.out.1.keep0 KW.out)
      have B2 := hide (hG.out.2.1.keep0 KW.out)
      have C2 := hide (hG.out.2.2.1.keep0 KW.out)
      have D2 := hide (hG.out.2.2.2.keep0 KW.out)
      have KK2 := hide (hK.out.trans0 KW.out)
      have big : Hid ((k : Int) * 1099511627776 + 1099511627776 ≤ 9223372036854775807) := by have := HL1.out; have := HLT.out; show _ ≤ _; omega
      have c1 : W2.cell? ⟨bx, 0, none⟩ = some (.int .i64 x) := by simp [cell_of_blk BX.out]
      have c2 : W2.cell? ⟨bx, 1, none⟩ = some (.int .i64 t) := by simp [cell_of_blk BX.out]
      have AA := hide (add_s A2.out x t (k * 1099511627776) 1099511627776 it.out S1.1 lt'.out (by decide) big.out)
      clear A2
      go_wp2_with fail
      refine AA.out.mono ?_
      rintro e w3 ⟨f3, rfl, g3, s3, k3⟩
      have A3 := hide g3
      have SA3 := hide s3
      have B3 := hide (B2.out.keep k3 (dis_symm dAB.out))
      have C3 := hide (C2.out.keep k3 (dis_symm dAC.out))
      have D3 := hide (D2.out.keep k3 (dis_symm dAD.out))
      have BX3 := hide (k3.blk BX.out oA.out.1)
      have BY3 := hide (k3.blk BY.out oA.out.2)
      have KK3 := hide (Kp.outer KK2.out k3 (fun z hz => (hG.out.1.lt z hz).1))
      have c5 : w3.cell? ⟨by', 0, none⟩ = some (.int .i64 y) := by simp [cell_of_blk BY3.out]
      have c6 : w3.cell? ⟨by', 1, none⟩ = some (.int .i64 u) := by simp [cell_of_blk BY3.out]
      have AB := hide (add_s B3.out y u (k * 1099511627776) 1099511627776 iu.out S1.2.1 lu.out (by decide) big.out)
      clear g3 s3 k3 AA B2 C2 D2 BX BY KK2 c1 c2 B3
      go_wp2_with fail
      refine AB.out.mono ?_
      rintro e w4 ⟨f4, rfl, g4, s4, k4⟩
      have A4 := hide (A3.out.keep k4 dAB.out)
      have B4 := hide g4
      have SB4 := hide s4
      have C4 := hide (C3.out.keep k4 (dis_symm dBC.out))
      have D4 := hide (D3.out.keep k4 (dis_symm dBD.out))
      have BX4 := hide (k4.blk BX3.out oB.out.1)
      have KK4 := hide (Kp.outer KK3.out k4 (fun z hz => (hG.out.2.1.lt z hz).1))
      have c1 : w4.cell? ⟨bx, 0, none⟩ = some (.int .i64 x) := by simp [cell_of_blk BX4.out]
      have c2 : w4.cell? ⟨bx, 1, none⟩ = some (.int .i64 t) := by simp [cell_of_blk BX4.out]
      clear g4 s4 k4 AB A3 C3 D3 BX3 BY3 KK3 c5 c6
      have fA : Hid ((fun i => sumI (f i) k + if 0 ≤ t ∧ bk V x len0 = i then t else 0) = fun i => sumI (f i) (k + 1)) := by funext i; rw [← FX.out i]; rfl
      have fB : Hid ((fun i => sumI (fun j => f i (len1 - 1 - j)) k + if 0 ≤ u ∧ bk V y len0 = i then u else 0) = fun i => sumI (fun j => f i (len1 - 1 - j)) (k + 1)) := by funext i; rw [← FY.out i]; rfl
      have kk : Hid ((k : Int) * 1099511627776 + 1099511627776 = ((k + 1 : Nat) : Int) * 1099511627776) := by show _ = _; omega
      have wc : IntKind.i64.wrap (cut : Int) = (cut : Int) := by have := HCUT.out; rw [IntKind.wrap_i64]; omega
      have wc2 : (cut : Int) ≤ 255 := by have := HCUT.out; omega
      by_cases hc : k < cut
      · have dc : decide ((k : Int) < (cut : Int)) = true := by simpa using hc
        have dc' : decide (k < cut) = true := by simpa using hc
        have fC : Hid ((fun i => part1 (f i) cut k + if 0 ≤ t ∧ bk V x len0 = i then t else 0) = fun i => part1 (f i) cut (k + 1)) := by
          funext i; rw [← FX.out i]; unfold part1; simp only [sumI]; rw [if_pos hc]
        have fD : Hid ((fun i => part2 (f i) cut k) = fun i => part2 (f i) cut (k + 1)) := by
          funext i; unfold part2; simp only [sumI]; rw [if_pos hc]; omega
        have AC := hide (add_s C4.out x t (k * 1099511627776) 1099511627776 it.out S1.2.2.1 lt'.out (by decide) big.out)
        have SD := hide S1.2.2.2
        clear hc S1 C4
        go_wp2_with fail
        refine AC.out.mono ?_
        rintro e w5 ⟨f5, rfl, g5, s5, k5⟩
        have A5 := hide (A4.out.keep k5 dAC.out)
        have B5 := hide (B4.out.keep k5 dBC.out)
        have C5 := hide g5
        have SC5 := hide s5
        have D5 := hide (D4.out.keep k5 (dis_symm dCD.out))
        have KK5 := hide (Kp.outer KK4.out k5 (fun z hz => (hG.out.2.2.1.lt z hz).1))
        clear g5 s5 k5 AC c1 c2
        go_wp2_with fail
        go_roundw
        case rel =>
          refine ⟨k + 1, by go_num, by have := HLT.out; show k + 1 ≤ len1; omega, ⟨?_, ?_, ?_, ?_⟩, ⟨?_, ?_, ?_, ?_⟩, KK5.out⟩
          · rw [← fA.out]; exact A5.out
          · rw [← fB.out]; exact B5.out
          · rw [← fC.out]; exact C5.out
          · rw [← fD.out]; exact D5.out
          · rw [← kk.out, ← fA.out]; exact SA3.out
          · rw [← kk.out, ← fB.out]; exact SB4.out
          · rw [← kk.out, ← fC.out]; exact SC5.out
          · rw [← kk.out, ← fD.out]; have := SD.out; omega
        case measure => have := HLT.out; simp [intOf]; omega
      · have dc : decide ((k : Int) < (cut : Int)) = false := by simpa using hc
        have dc' : decide (k < cut) = false := by simpa using hc
        have fC : Hid ((fun i => part1 (f i) cut k) = fun i => part1 (f i) cut (k + 1)) := by
          funext i; unfold part1; simp only [sumI]; rw [if_neg hc]; omega
        have fD : Hid ((fun i => part2 (f i) cut k + if 0 ≤ t ∧ bk V x len0 = i then t else 0) = fun i => part2 (f i) cut (k + 1)) := by
          funext i; rw [← FX.out i]; unfold part2; simp only [sumI]; rw [if_neg hc]
        have AC := hide (add_s D4.out x t (k * 1099511627776) 1099511627776 it.out S1.2.2.2 lt'.out (by decide) big.out)
        have SD := hide S1.2.2.1
        clear hc S1 D4
        go_wp2_with fail
        refine AC.out.mono ?_
        rintro e w5 ⟨f5, rfl, g5, s5, k5⟩
        have A5 := hide (A4.out.keep k5 dAD.out)
        have B5 := hide (B4.out.keep k5 dBD.out)
        have D5 := hide g5
        have SC5 := hide s5
        have C5 := hide (C4.out.keep k5 dCD.out)
        have KK5 := hide (Kp.outer KK4.out k5 (fun z hz => (hG.out.2.2.2.lt z hz).1))
        clear g5 s5 k5 AC c1 c2
        go_wp2_with fail
        go_roundw
        case rel =>
          refine ⟨k + 1, by go_num, by have := HLT.out; show k + 1 ≤ len1; omega, ⟨?_, ?_, ?_, ?_⟩, ⟨?_, ?_, ?_, ?_⟩, KK5.out⟩
          · rw [← fA.out]; exact A5.out
          · rw [← fB.out]; exact B5.out
          · rw [← fC.out]; exact C5.out
          · rw [← fD.out]; exact D5.out
          · rw [← kk.out, ← fA.out]; exact SA3.out
          · rw [← kk.out, ← fB.out]; exact SB4.out
          · rw [← kk.out, ← fC.out]; have := SD.out; omega
          · rw [← kk.out, ← fD.out]; exact SC5.out
        case measure => have := HLT.out; simp [intOf]; omega
    · have hkn : k = len1 := by have := hk.out; omega
      subst hkn
      have dk : decide (k < k) = false := by simp
      have dk2 : decide ((k : Int) < (k : Int)) = false := by simp
      have eB : (fun i => sumI (fun j => f i (k - 1 - j)) k) = fun i => sumI (f i) k := by funext i; exact sumI_rev (f i) k
      have eM : (fun i => part1 (f i) cut k + part2 (f i) cut k) = fun i => sumI (f i) k := by funext i; exact part_sum (f i) cut k
      have hB := hG.out.2.1
      rw [eB] at hB
      have HB := hide hB
      have sm : sumI (fun i => part1 (f i) cut k) (len0 + 1) + sumI (fun i => part2 (f i) cut k) (len0 + 1) ≤ 9223372036854775807 := by have := hS.out; have := HL1.out; omega
      have MG := hide (merge_t hG.out.2.2.1.M hG.out.2.2.2.M hG.out.1.hm (fun _ _ => rfl) hG.out.2.2.1.nn hG.out.2.2.2.nn (fun g hg => fun e => dCD.out g (by simp [Id.own, HM.own, hg]) (by rw [← e]; simp [Id.own, HM.own])) sm)
      rw [eM] at MG
      clear hlt eB eM hB sm hk HST HF A4 B4 C4 D4
      go_wp2_with fail
      refine MG.out.mono ?_
      rintro e w5 ⟨rfl, m5, k5⟩
      have A5 := hide (hG.out.1.keep (o := ic) k5 dAC.out)
      have B5 := hide (HB.out.keep (o := ic) k5 dBC.out)
      have C5 := hide m5
      have KK5 := hide (Kp.outer hK.out k5 (fun z hz => (hG.out.2.2.1.lt z hz).1))
      have HM5 := hide A5.out.hm
      have CA := hide (counts_t A5.out.M HM5.out)
      obtain ⟨m1, hm1⟩ : ∃ m1, m1 = len0 + 1 := ⟨_, rfl⟩
      have HMM := hide hm1
      rw [← hm1] at CA
      clear hm1 m5 k5 MG hG
      go_wp2_with fail
      refine CA.out.mono ?_
      rintro e w6 ⟨v6, rfl, r6, k6⟩
      obtain ⟨p6, d6, rfl⟩ := row_slice r6
      have B6 := hide (B5.out.keep0 k6)
      have A6 := hide (A5.out.keep0 k6)
      have C6 := hide (C5.out.keep k6 (by simp))
      have KK6 := hide (KK5.out.trans0 k6)
      have R6 := hide r6
      have CB := hide (counts_t B6.out.M HM5.out)
      rw [← HMM.out] at CB
      clear r6 k6 CA A5 B5 C5 KK5
      go_wp2_with fail
      refine CB.out.mono ?_
      rintro e w7 ⟨v7, rfl, r7, k7⟩
      obtain ⟨p7, d7, rfl⟩ := row_slice r7
      have A7 := hide (A6.out.keep0 k7)
      have C7 := hide (C6.out.keep k7 (by simp))
      have KK7 := hide (KK6.out.trans0 k7)
      have SM := hide (same_i w7 m1 (fun i => sumI (f i) k) _ _ _ _ _ _ (k7.row R6.out (by simp)) r7 (by have := HMM.out; have := HM5.out; omega))
      clear r7 k7 CB A6 B6 C6 KK6 R6
      go_wp2_with fail
      refine SM.out.mono ?_
      rintro e w8 ⟨rfl, k8⟩
      have A8 := hide (A7.out.keep0 k8)
      have C8 := hide (C7.out.keep k8 (by simp))
      have KK8 := hide (KK7.out.trans0 k8)
      have CA := hide (counts_t A8.out.M HM5.out)
      rw [← HMM.out] at CA
      clear k8 SM A7 C7 KK7
      go_wp2_with fail
      refine CA.out.mono ?_
      rintro e w9 ⟨v9, rfl, r9, k9⟩
      obtain ⟨p9, d9, rfl⟩ := row_slice r9
      have C9 := hide (C8.out.keep k9 (by simp))
      have KK9 := hide (KK8.out.trans0 k9)
      have R9 := hide r9
      have CB := hide (counts_t C9.out HM5.out)
      rw [← HMM.out] at CB
      clear r9 k9 CA A8 C8 KK8
      go_wp2_with fail
      refine CB.out.mono ?_
      rintro e wa ⟨va, rfl, ra, ka⟩
      obtain ⟨pa, da, rfl⟩ := row_slice ra
      have KKa := hide (KK9.out.trans0 ka)
      have SM := hide (same_i wa m1 (fun i => sumI (f i) k) _ _ _ _ _ _ (ka.row R9.out (by simp)) ra (by have := HMM.out; have := HM5.out; omega))
      clear ra ka CB C9 KK9 R9
      go_wp2_with fail
      refine SM.out.mono ?_
      rintro e wb ⟨rfl, kb⟩
      have KKb := hide (KKa.out.trans0 kb)
      clear kb SM KKa
      go_wp2_with fail
      refine (works _).mono ?_
      rintro e wc ⟨rfl, bw⟩
      have HW := hide bw
      clear bw
      go_wp2_with fail
      go_ret
      exact ⟨rfl, (KKb.out.below (by simp) (Nat.le_refl _)).trans (HW.out.mono KKb.out.size)⟩
theorem own : ownKnob Try.prog.godebug = none := by kernel_rfl
theorem laidOut : laidOutB Try.prog = true := by kernel_rfl
set_option maxRecDepth 100000 in
theorem lifted (os : Os) (started : os.Started) (H : Type) (enc : TypeId × Value → H) :
    ReturnsInHanded {} Try.checked os 11 .any (Rows.histoOrderSpec.pre6 enc Try.prog Try.f11 Rows.histoOrderRow.domain false) (Rows.histoOrderSpec.post enc Try.prog Try.f11 false true false false) := by
  refine returnsInHanded_of_change (C := Try.checked) own started (by kernel_rfl) Try.func11
    (ChangeSpec.witness6 (enc := enc) (C := Try.checked) false ⟨#[], #[.slice none 0 0, .slice none 0 0, .int .u8 0], []⟩ 8 (by kernel_rfl) (by kernel_rfl) (by kernel_rfl) (by kernel_rfl)) ?_
  intro W base args ds gs before hval0 hW hcnd _
  have hval : ∀ (j : Nat) t v, Try.f11.params[j]? = some t → args[j]? = some v → Value.okWide Try.prog W .any base t v := hval0
  have hW' := hW
  obtain ⟨p, q, hA0, hV, rfl, hfz, hnd⟩ := hW
  have hA : DataW.TrodAll enc Try.prog W 0 (fun _ => true) true Try.f11.params.toList args.toList ds p := hA0
  rw [Try.params11] at hA hval
  obtain ⟨v0, vs0, d0, ds0, p0, q0, hargs, rfl, rfl, h0, r0⟩ := trodAll_cons hA
  obtain ⟨v1, vs1, d1, ds1, p1, q1, rfl, rfl, rfl, h1, r1⟩ := trodAll_cons r0
  obtain ⟨v2, vs2, d2, ds2, p2, q2, rfl, rfl, rfl, h2, r2⟩ := trodAll_cons r1
  obtain ⟨rfl, rfl, rfl⟩ := trodAll_nil r2
  obtain rfl : args = #[v0, v1, v2] := by cases args; simp_all
  obtain ⟨rfl, rfl⟩ := trodVars_none hV
  have k0 := h0
  have lt0 : ∀ x ∈ p0, x.block < W.heap.size := by obtain ⟨m, hm⟩ := k0; exact DataW.trod_lt m _ _ _ hm
  have k1 := h1
  have lt1 : ∀ x ∈ p1, x.block < W.heap.size := by obtain ⟨m, hm⟩ := k1; exact DataW.trod_lt m _ _ _ hm
  have k2 := h2
  have lt2 : ∀ x ∈ p2, x.block < W.heap.size := by obtain ⟨m, hm⟩ := k2; exact DataW.trod_lt m _ _ _ hm
  obtain ⟨s0, len0, cap0, rfl⟩ := okWide_slice Try.underlying22 (hval 0 22 v0 rfl rfl)
  obtain ⟨V0, hc0, hr0⟩ := rows_in Try.underlying22 (flat_int Try.underlying2 (by kernel_rfl)) (by decide) h0
  obtain ⟨s1, len1, cap1, rfl⟩ := okWide_slice Try.underlying33 (hval 1 33 v1 rfl rfl)
  obtain ⟨V1, hc1, hr1⟩ := rows_in Try.underlying33 (flat_struct (ks := [.i64, .i64]) Try.underlying36 (by kernel_rfl) (by kernel_rfl)) (by decide) h1
  obtain ⟨a2, rfl, _, _, w2⟩ := open_int Try.underlying5 (hval 2 5 v2 rfl rfl) h2
  clear hA0 hval0
  refine (walk s0 len0 cap0 V0 s1 len1 cap1 V1 a2 W hc0 hr0 hc1 hr1 (bounds_u8 w2)).mono fun e W' ⟨he, bel⟩ => ?_
  subst he
  exact ⟨_, rfl, _, _, _, [], _, [], hW', trodAll_mk1 (shut_bool Try.underlying4 _), (trodAll_cons_mk (Below.trod laidOut (by kernel_rfl) (of_decide_eq_true (by kernel_rfl)) k0 bel lt0) (trodAll_cons_mk (Below.trod laidOut (by kernel_rfl) (of_decide_eq_true (by kernel_rfl)) k1 bel lt1) (trodAll_cons_mk (Below.trod laidOut (by kernel_rfl) (of_decide_eq_true (by kernel_rfl)) k2 bel lt2) trodAll_mk0))), rfl, bel.frame _, fun h => by cases h⟩
theorem holds : Rows.histoOrderRow.holds Try.pinned (OpenSpec.ofChange Rows.histoOrderSpec) :=
  OpenClaim.holds_of_wide 11 Try.f11 rfl rfl rfl rfl rfl rfl rfl ⟨rfl, rfl, rfl, rfl, rfl⟩ rfl rfl rfl rfl rfl (by kernel_rfl) Try.func11 (by kernel_rfl)
    (of_decide_eq_true (by kernel_rfl)) (by unfold Func.isWrapper; first | (rw [if_pos (by decide +kernel)]; kernel_rfl) | (rw [if_neg (by decide +kernel)]; exact ⟨rfl, rfl⟩))
    (fun os started H enc _ => lifted os started H enc)
theorem proved : Rows.HistoOrderSaid := holds
end lawOrder
end Go.Proofs.Ytenoalfjobghnaa
