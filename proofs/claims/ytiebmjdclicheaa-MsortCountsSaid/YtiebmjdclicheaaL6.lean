/- MsortCounts holds: records are in order just if they have no inversions; exchanging two neighbours changes their number by one, or not at all if they are equal. -/
import Derived.Test.YtiebmjdclicheaaMZ
import Derived.Test.YtiebmjdclicheaaOp
import Derived.Test.YtiebmjdclicheaaRows
import Derived.Deep.CutRange
import Derived.StillTailTactics
set_option linter.unusedVariables false
set_option linter.unusedSimpArgs false
namespace Go.Proofs.Ytiebmjdclicheaa
open Go.RowKit
namespace lawCounts
open Go.ChangeShapes Go.WideShapes Go.ChangeAt Go.RowKit Go.Joins
set_option maxRecDepth 100000 in
set_option maxHeartbeats 16000000 in
theorem walk (s0 : Option Addr) (len0 cap0 : Nat) (V0 : Nat → Nat → Int) (a1 : Int) (a2 : Int) (w : World) (hc0 : len0 ≤ cap0 ∧ cap0 ≤ maxLen) (hr0 : RowsI w s0 [.u64, .u64, .i64, .i64] len0 V0) (b1 : 0 ≤ a1 ∧ a1 ≤ 255) (b2 : 0 ≤ a2 ∧ a2 ≤ 255) : Calls Try.prog 10 #[.slice s0 len0 cap0, .int .u8 a1, .int .u8 a2] w fun e w' => e = .returned (.bool true) ∧ Below w.heap.size w w' := by
  have H0 := hide (hr_arg hc0 hr0)
  have LN := hide (lR_len len0 V0)
  by_cases h2 : 200 < len0
  · have d : decide ((200 : Int) < (len0 : Int)) = true := by simp; omega
    clear hc0 hr0 b1 b2 h2
    go_enter Try.func10, Try.ntmps10
    go_wp2_with fail
    go_ret
    exact ⟨rfl, Below.refl _ _⟩
  have d : decide ((200 : Int) < (len0 : Int)) = false := by simp; omega
  have WK := hide works_t
  have TH := hide (three_t a2 b2)
  have HN := hide (show len0 ≤ 200 by omega)
  generalize lR len0 V0 = l at *
  have IV := hide (fun k => inv_h (k := k) H0.out)
  have SO := hide (fun k W (kW : Kp [] w W) => sorted_h (k := k) (H0.out.keep kW))
  have CO := hide (fun W (kW : Kp [] w W) => copied_o (H0.out.keep kW) (by have := HN.out; have := LN.out; omega))
  have w1 : IntKind.i64.wrap a1 = a1 := by rw [IntKind.wrap_i64]; omega
  by_cases h3 : len0 < 2
  · have d2 : decide ((len0 : Int) < 2) = true := by simp; omega
    have d2' : decide (len0 < 2) = true := by simp; omega
    clear hc0 hr0 b1 b2 h2 h3
    go_enter Try.func10, Try.ntmps10
    go_wp2_with fail
    refine (TH.out _).mono ?_
    rintro e w' ⟨⟨k, hk, rfl⟩, rfl⟩
    have E0 := hide (show chk l.length k = 0 from chk_ok hk (by rw [LN.out]; have := HN.out; omega))
    have IV1 := hide (IV.out k)
    have SO1 := hide (SO.out k)
    rw [E0.out, invA_ok E0.out] at IV1
    unfold sorE at SO1
    rw [E0.out, if_pos rfl] at SO1
    have hX := inO_eq k l
    have hXX : (inO k l != inO k l) = false := by simp
    generalize inO k l = o at *
    generalize inv (bef k) l = X at *
    clear hk
    go_wp2_with fail
    refine IV1.out.mono ?_
    rintro e w1 ⟨rfl, k1⟩
    have K1 := hide k1
    clear k1
    go_wp2_with fail
    refine (SO1.out _ K1.out).mono ?_
    rintro e w2 ⟨rfl, k2⟩
    have K2 := hide (K1.out.trans0 k2)
    clear k2
    go_wp2_with fail
    refine (WK.out _).mono ?_
    rintro e w3 ⟨rfl, k3⟩
    have K3 := hide (K2.out.trans0 k3)
    clear k3
    go_wp2_with fail
    go_ret
    exact ⟨rfl, K3.out.below (by simp) (Nat.le_refl _)⟩
  · have d2 : decide ((len0 : Int) < 2) = false := by simp; omega
    have d2' : decide (len0 < 2) = false := by simp; omega
    have hl2 : len0 ≤ 200 := by omega
    have hl3 : 2 ≤ len0 := by omega
    have ha0 : 0 ≤ a1 := b1.1
    have ha5 : a1 ≤ 255 := b1.2
    obtain ⟨i, hi⟩ : ∃ i : Nat, a1 % ((len0 : Int) - 1) = (i : Int) := ⟨(a1 % ((len0 : Int) - 1)).toNat, by have := Int.emod_nonneg a1 (show ((len0 : Int) - 1) ≠ 0 by omega); omega⟩
    have hiN : i + 1 < len0 := by have := Int.emod_lt_of_pos a1 (show (0 : Int) < (len0 : Int) - 1 by omega); omega
    have ht : a1.tmod ((len0 : Int) - 1) = (i : Int) := by rw [Int.tmod_eq_emod_of_nonneg b1.1, hi]
    have wi : IntKind.i64.wrap (i : Int) = (i : Int) := by rw [IntKind.wrap_i64]; omega
    have wi' : wrap64 (i : Int) = (i : Int) := by unfold wrap64; omega
    have HIN := hide hiN
    obtain ⟨A, B, x, y, hAB, hAl⟩ := split_two (l := l) (i := i) (by rw [LN.out]; exact hiN)
    have HAB := hide hAB
    have HAL := hide hAl
    clear hc0 hr0 b1 b2 h2 h3 hiN hAB hAl
    go_enter Try.func10, Try.ntmps10
    go_wp2_with fail
    refine (TH.out _).mono ?_
    rintro e w' ⟨⟨k, hk, rfl⟩, rfl⟩
    have HK := hide hk
    have E0 := hide (show chk l.length k = 0 from chk_ok hk (by rw [LN.out]; have := HN.out; omega))
    have IV1 := hide (IV.out k)
    have SO1 := hide (SO.out k)
    rw [E0.out, invA_ok E0.out] at IV1
    unfold sorE at SO1
    rw [E0.out, if_pos rfl] at SO1
    have hX := inO_eq k l
    have hXX : (inO k l != inO k l) = false := by simp
    generalize inO k l = o at *
    obtain ⟨X, hXe⟩ : ∃ X, X = inv (bef k) l := ⟨_, rfl⟩
    rw [← hXe] at IV1 hX
    have HXE := hide hXe
    clear hk hXe
    go_wp2_with fail
    refine IV1.out.mono ?_
    rintro e w1 ⟨rfl, k1⟩
    have K1 := hide k1
    clear k1
    go_wp2_with fail
    refine (SO1.out _ K1.out).mono ?_
    rintro e w2 ⟨rfl, k2⟩
    have K2 := hide (K1.out.trans0 k2)
    have CO2 := hide (CO.out _ K2.out)
    clear k2
    go_wp2_with fail
    refine CO2.out.mono ?_
    rintro e w3 ⟨vm, rfl, rm, k3⟩
    obtain ⟨pm, cm, rfl⟩ := row_slice rm
    have K3 := hide (K2.out.trans0 k3)
    have RM := hide rm
    rw [LN.out]
    clear k3 rm hX hXX
    go_wp2_with fail
    obtain ⟨hrr, _, _, _, _⟩ := RdR.row RM.out
    have li : i < l.length := by have := LN.out; have := HIN.out; omega
    obtain ⟨g, off, hpm, hg, hat⟩ := rdr_get hrr li
    obtain ⟨g', hpm', f0⟩ : ∃ g', pm = some ⟨g', 0, none⟩ ∧ ∀ o, w3.frozen? ⟨g', o, none⟩ = false := by
      rcases RM.out.2 with ⟨he, h0⟩ | ⟨g', cap, cur, he, _, hh, _⟩
      · rw [LN.out] at h0; have := HIN.out; omega
      · injection he with he _ _; exact ⟨g', he, fun o => free_of_blk hh o⟩
    rw [hpm] at hpm'
    injection hpm' with hpm'; injection hpm' with e1 e2; subst e1; subst e2
    subst hpm
    have gx : l.getD i zz = x := by have := HAB.out; have := HAL.out; subst this; simp [HAB.out, List.getD]
    have gy : l.getD (i + 1) zz = y := by have := HAB.out; have := HAL.out; subst this; simp [HAB.out, List.getD]
    have ax := hat i li
    have ay := hat (i + 1) (by rw [LN.out]; exact HIN.out)
    rw [gx] at ax
    rw [gy] at ay
    obtain ⟨c1, c2, c3, c4⟩ := ax
    obtain ⟨c5, c6, c7, c8⟩ := ay
    simp only [Nat.zero_add] at c1 c2 c3 c4 c5 c6 c7 c8
    have bi0 : (i : Int) < (len0 : Int) := by have := HIN.out; omega
    have bi1 : (i : Int) + 1 < (len0 : Int) := by have := HIN.out; omega
    have bi2 : (0 : Int) ≤ (i : Int) + 1 := by omega
    have li0 : i < len0 := by have := HIN.out; omega
    have lj0 : i + 1 < len0 := HIN.out
    have wi1 : IntKind.i64.wrap ((i : Int) + 1) = (i : Int) + 1 := by rw [IntKind.wrap_i64]; omega
    have R8 := hide ((((((((RM.out.stored (i * 4) (.int .u64 y.u)).1.stored (i * 4 + 1) (.int .u64 y.v)).1.stored (i * 4 + 2) (.int .i64 y.w)).1.stored (i * 4 + 3) (.int .i64 y.t)).1.stored ((i + 1) * 4) (.int .u64 x.u)).1.stored ((i + 1) * 4 + 1) (.int .u64 x.v)).1.stored ((i + 1) * 4 + 2) (.int .i64 x.w)).1.stored ((i + 1) * 4 + 3) (.int .i64 x.t)).1
    have esw := rows_swap A B x y HAL.out
    rw [← HAB.out] at esw
    rw [esw, LN.out] at R8
    clear esw
    have gw := (RM.out.lt g rfl).1
    have K8 := hide ((((((((K3.out.put g (i * 4) (.int .u64 y.u) (.inr (by have := K2.out.size; omega))).put g (i * 4 + 1) (.int .u64 y.v) (.inr (by have := K2.out.size; omega))).put g (i * 4 + 2) (.int .i64 y.w) (.inr (by have := K2.out.size; omega))).put g (i * 4 + 3) (.int .i64 y.t) (.inr (by have := K2.out.size; omega))).put g ((i + 1) * 4) (.int .u64 x.u) (.inr (by have := K2.out.size; omega))).put g ((i + 1) * 4 + 1) (.int .u64 x.v) (.inr (by have := K2.out.size; omega))).put g ((i + 1) * 4 + 2) (.int .i64 x.w) (.inr (by have := K2.out.size; omega))).put g ((i + 1) * 4 + 3) (.int .i64 x.t) (.inr (by have := K2.out.size; omega)))
    clear hat gx gy hrr hg li gw
    go_region
    generalize ((((((((w3.setCell ⟨g, i * 4, none⟩ (.int .u64 y.u)).setCell ⟨g, i * 4 + 1, none⟩ (.int .u64 y.v)).setCell ⟨g, i * 4 + 2, none⟩ (.int .i64 y.w)).setCell ⟨g, i * 4 + 3, none⟩ (.int .i64 y.t)).setCell ⟨g, (i + 1) * 4, none⟩ (.int .u64 x.u)).setCell ⟨g, (i + 1) * 4 + 1, none⟩ (.int .u64 x.v)).setCell ⟨g, (i + 1) * 4 + 2, none⟩ (.int .i64 x.w)).setCell ⟨g, (i + 1) * 4 + 3, none⟩ (.int .i64 x.t)) = w8 at *
    clear c1 c2 c3 c4 c5 c6 c7 c8 f0
    generalize hw9 : w8.drew = w9
    have K9 := hide (show Kp [] w w9 by rw [← hw9]; exact K8.out.trans0 (Kp.drewN [] _ 1))
    have H9 := hide (show HR w9 (.slice (some ⟨g, 0, none⟩) len0 cm) (A ++ y :: x :: B) by
      rw [← hw9]; have q := (HR.row ((Kp.drewN [] w8 1).row R8.out (by simp))).1; exact q)
    have EL := hide (show chk (A ++ y :: x :: B).length k = 0 by have := E0.out; rw [HAB.out] at this; simpa using this)
    have IV9 := hide (inv_h (k := k) H9.out)
    rw [EL.out, invA_ok EL.out] at IV9
    have NB := hide (show ¬ (bef k x y = true ∧ bef k y x = true) from fun h => by have := (bef_weak k).asym _ _ h.1; rw [h.2] at this; cases this)
    have HY := hide (inv_swap (bef k) A B x y NB.out)
    rw [← HAB.out, ← HXE.out] at HY
    have YB := hide (show inv (bef k) (A ++ y :: x :: B) ≤ 40000 ∧ X ≤ 40000 by
      have h1 := srt_inv (bef k) l.length l
      rw [srt_inv2 (bef_weak k) _ _ (Nat.le_refl _), ← HXE.out] at h1
      have h2 : l.length * l.length ≤ 200 * 200 := Nat.mul_le_mul (by rw [LN.out]; exact HN.out) (by rw [LN.out]; exact HN.out)
      have := HY.out
      refine ⟨?_, by omega⟩
      have h3 := srt_inv (bef k) (A ++ y :: x :: B).length (A ++ y :: x :: B)
      rw [srt_inv2 (bef_weak k) _ _ (Nat.le_refl _)] at h3
      have h4 : (A ++ y :: x :: B).length = l.length := by rw [HAB.out]; simp
      rw [h4] at h3
      omega)
    generalize inv (bef k) (A ++ y :: x :: B) = Y at *
    clear hw9
    go_wp2_with fail
    refine IV9.out.mono ?_
    rintro e w10 ⟨rfl, k10⟩
    have K10 := hide (K9.out.trans0 k10)
    have hr10 := (H0.out.keep K10.out).rd
    obtain ⟨b, off, hs, hb, hat⟩ := rdr_get hr10 (show i < l.length by rw [LN.out]; exact li0)
    have ax := hat i (by rw [LN.out]; exact li0)
    have ay := hat (i + 1) (by rw [LN.out]; exact HIN.out)
    rw [show l.getD i zz = x by have := HAL.out; subst this; simp [HAB.out, List.getD]] at ax
    rw [show l.getD (i + 1) zz = y by have := HAL.out; subst this; simp [HAB.out, List.getD]] at ay
    have HB := hide hb
    have SX : Hid (∀ W, Kp [] w10 W → At4 W b (off + i * 4) x ∧ At4 W b (off + (i + 1) * 4) y) := fun W kW => ⟨⟨(kW.at hb _).trans ax.1, (kW.at hb _).trans ax.2.1, (kW.at hb _).trans ax.2.2.1, (kW.at hb _).trans ax.2.2.2⟩, (kW.at hb _).trans ay.1, (kW.at hb _).trans ay.2.1, (kW.at hb _).trans ay.2.2.1, (kW.at hb _).trans ay.2.2.2⟩
    subst hs
    have S0 : w10.drew.cell? ⟨b, off + i * 4, none⟩ = some (.int .u64 x.u) ∧ w10.drew.cell? ⟨b, off + i * 4 + 1, none⟩ = some (.int .u64 x.v) ∧ w10.drew.cell? ⟨b, off + i * 4 + 2, none⟩ = some (.int .i64 x.w) ∧ w10.drew.cell? ⟨b, off + i * 4 + 3, none⟩ = some (.int .i64 x.t) ∧ w10.drew.cell? ⟨b, off + (i + 1) * 4, none⟩ = some (.int .u64 y.u) ∧ w10.drew.cell? ⟨b, off + (i + 1) * 4 + 1, none⟩ = some (.int .u64 y.v) ∧ w10.drew.cell? ⟨b, off + (i + 1) * 4 + 2, none⟩ = some (.int .i64 y.w) ∧ w10.drew.cell? ⟨b, off + (i + 1) * 4 + 3, none⟩ = some (.int .i64 y.t) := by
      obtain ⟨⟨a1, a2, a3, a4⟩, b1, b2, b3, b4⟩ := SX.out _ (Kp.drewN [] w10 1)
      exact ⟨a1, a2, a3, a4, b1, b2, b3, b4⟩
    have LXY := hide (fun W => less_h x y HK.out W)
    have LYX := hide (fun W => less_h y x HK.out W)
    unfold R4.val at LXY LYX
    generalize bef k x y = p at *
    generalize bef k y x = q at *
    clear k10 hat ax ay hb hr10
    go_wp2_with fail
    go_region_held3 (fun w' => w'.cell? ⟨b, off + i * 4, none⟩ = some (.int .u64 x.u) ∧ w'.cell? ⟨b, off + i * 4 + 1, none⟩ = some (.int .u64 x.v) ∧ w'.cell? ⟨b, off + i * 4 + 2, none⟩ = some (.int .i64 x.w) ∧ w'.cell? ⟨b, off + i * 4 + 3, none⟩ = some (.int .i64 x.t) ∧ w'.cell? ⟨b, off + (i + 1) * 4, none⟩ = some (.int .u64 y.u) ∧ w'.cell? ⟨b, off + (i + 1) * 4 + 1, none⟩ = some (.int .u64 y.v) ∧ w'.cell? ⟨b, off + (i + 1) * 4 + 2, none⟩ = some (.int .i64 y.w) ∧ w'.cell? ⟨b, off + (i + 1) * 4 + 3, none⟩ = some (.int .i64 y.t))
      (first | with_reducible assumption | exact S0 | exact S1)
      (first | (refine (LXY.out _).mono ?_; rintro e w11 ⟨rfl, k1d⟩; have k11 : Kp [] w10 w11 := (Kp.drewN [] w10 1).trans0 k1d; have S1 : w11.cell? ⟨b, off + i * 4, none⟩ = some (.int .u64 x.u) ∧ w11.cell? ⟨b, off + i * 4 + 1, none⟩ = some (.int .u64 x.v) ∧ w11.cell? ⟨b, off + i * 4 + 2, none⟩ = some (.int .i64 x.w) ∧ w11.cell? ⟨b, off + i * 4 + 3, none⟩ = some (.int .i64 x.t) ∧ w11.cell? ⟨b, off + (i + 1) * 4, none⟩ = some (.int .u64 y.u) ∧ w11.cell? ⟨b, off + (i + 1) * 4 + 1, none⟩ = some (.int .u64 y.v) ∧ w11.cell? ⟨b, off + (i + 1) * 4 + 2, none⟩ = some (.int .i64 y.w) ∧ w11.cell? ⟨b, off + (i + 1) * 4 + 3, none⟩ = some (.int .i64 y.t) := (by obtain ⟨⟨a1, a2, a3, a4⟩, b1, b2, b3, b4⟩ := SX.out _ k11; exact ⟨a1, a2, a3, a4, b1, b2, b3, b4⟩); clear k1d))
    have K11 := hide (K10.out.trans0 k11)
    have K1011 := hide k11
    clear k11 S0 S1
    have S0 : w11.drew.cell? ⟨b, off + i * 4, none⟩ = some (.int .u64 x.u) ∧ w11.drew.cell? ⟨b, off + i * 4 + 1, none⟩ = some (.int .u64 x.v) ∧ w11.drew.cell? ⟨b, off + i * 4 + 2, none⟩ = some (.int .i64 x.w) ∧ w11.drew.cell? ⟨b, off + i * 4 + 3, none⟩ = some (.int .i64 x.t) ∧ w11.drew.cell? ⟨b, off + (i + 1) * 4, none⟩ = some (.int .u64 y.u) ∧ w11.drew.cell? ⟨b, off + (i + 1) * 4 + 1, none⟩ = some (.int .u64 y.v) ∧ w11.drew.cell? ⟨b, off + (i + 1) * 4 + 2, none⟩ = some (.int .i64 y.w) ∧ w11.drew.cell? ⟨b, off + (i + 1) * 4 + 3, none⟩ = some (.int .i64 y.t) := by
      obtain ⟨⟨a1, a2, a3, a4⟩, b1, b2, b3, b4⟩ := SX.out _ (K1011.out.trans0 (Kp.drewN [] w11 1))
      exact ⟨a1, a2, a3, a4, b1, b2, b3, b4⟩
    go_wp2_with fail
    go_region_held3 (fun w' => w'.cell? ⟨b, off + i * 4, none⟩ = some (.int .u64 x.u) ∧ w'.cell? ⟨b, off + i * 4 + 1, none⟩ = some (.int .u64 x.v) ∧ w'.cell? ⟨b, off + i * 4 + 2, none⟩ = some (.int .i64 x.w) ∧ w'.cell? ⟨b, off + i * 4 + 3, none⟩ = some (.int .i64 x.t) ∧ w'.cell? ⟨b, off + (i + 1) * 4, none⟩ = some (.int .u64 y.u) ∧ w'.cell? ⟨b, off + (i + 1) * 4 + 1, none⟩ = some (.int .u64 y.v) ∧ w'.cell? ⟨b, off + (i + 1) * 4 + 2, none⟩ = some (.int .i64 y.w) ∧ w'.cell? ⟨b, off + (i + 1) * 4 + 3, none⟩ = some (.int .i64 y.t))
      (first | with_reducible assumption | exact S0 | exact S1)
      (first | (refine (LYX.out _).mono ?_; rintro e w12 ⟨rfl, k1d⟩; have k12 : Kp [] w11 w12 := (Kp.drewN [] w11 1).trans0 k1d; have S1 : w12.cell? ⟨b, off + i * 4, none⟩ = some (.int .u64 x.u) ∧ w12.cell? ⟨b, off + i * 4 + 1, none⟩ = some (.int .u64 x.v) ∧ w12.cell? ⟨b, off + i * 4 + 2, none⟩ = some (.int .i64 x.w) ∧ w12.cell? ⟨b, off + i * 4 + 3, none⟩ = some (.int .i64 x.t) ∧ w12.cell? ⟨b, off + (i + 1) * 4, none⟩ = some (.int .u64 y.u) ∧ w12.cell? ⟨b, off + (i + 1) * 4 + 1, none⟩ = some (.int .u64 y.v) ∧ w12.cell? ⟨b, off + (i + 1) * 4 + 2, none⟩ = some (.int .i64 y.w) ∧ w12.cell? ⟨b, off + (i + 1) * 4 + 3, none⟩ = some (.int .i64 y.t) := (by obtain ⟨⟨a1, a2, a3, a4⟩, b1, b2, b3, b4⟩ := SX.out _ (K1011.out.trans0 k12); exact ⟨a1, a2, a3, a4, b1, b2, b3, b4⟩); clear k1d))
    have K12 := hide (K11.out.trans0 k12)
    clear k12 S0 S1
    have XB := hide YB.out.2
    have x1 : IntKind.i64.wrap ((X : Int) + 1) = (X : Int) + 1 := by have := XB.out; rw [IntKind.wrap_i64]; omega
    have x2 : IntKind.i64.wrap ((X : Int) - 1) = (X : Int) - 1 := by have := XB.out; rw [IntKind.wrap_i64]; omega
    have hxb : X ≤ 40000 := XB.out
    cases p <;> cases q
    case true.true => exact absurd ⟨rfl, rfl⟩ NB.out
    all_goals
      simp only [Bool.false_eq_true, if_false, if_true, Int.add_zero, Int.sub_zero] at HY
      rw [HY.out]
      have HYD := HY
      clear HY
      go_wp2_with fail
      refine (WK.out _).mono ?_
      rintro e w13 ⟨rfl, k13⟩
      have K13 := hide (K12.out.trans0 k13)
      clear k13
      go_wp2_with fail
      go_ret
      exact ⟨rfl, K13.out.below (by simp) (Nat.le_refl _)⟩
theorem own : ownKnob Try.prog.godebug = none := by kernel_rfl
theorem laidOut : laidOutB Try.prog = true := by kernel_rfl
set_option maxRecDepth 100000 in
theorem lifted (os : Os) (started : os.Started) (H : Type) (enc : TypeId × Value → H) :
    ReturnsInHanded {} Try.checked os 10 .any (Rows.msortCountsSpec.pre6 enc Try.prog Try.f10 Rows.msortCountsRow.domain false) (Rows.msortCountsSpec.post enc Try.prog Try.f10 false true false false) := by
  refine returnsInHanded_of_change (C := Try.checked) own started (by kernel_rfl) Try.func10
    (ChangeSpec.witness6 (enc := enc) (C := Try.checked) false ⟨#[], #[.slice none 0 0, .int .u8 0, .int .u8 0], []⟩ 8 (by kernel_rfl) (by kernel_rfl) (by kernel_rfl) (by kernel_rfl)) ?_
  intro W base args ds gs before hval0 hW hcnd _
  have hval : ∀ (j : Nat) t v, Try.f10.params[j]? = some t → args[j]? = some v → Value.okWide Try.prog W .any base t v := hval0
  have hW' := hW
  obtain ⟨p, q, hA0, hV, rfl, hfz, hnd⟩ := hW
  have hA : DataW.TrodAll enc Try.prog W 0 (fun _ => true) true Try.f10.params.toList args.toList ds p := hA0
  rw [Try.params10] at hA hval
  obtain ⟨v0, vs0, d0, ds0, p0, q0, hargs, rfl, rfl, h0, r0⟩ := trodAll_cons hA
  obtain ⟨v1, vs1, d1, ds1, p1, q1, rfl, rfl, rfl, h1, r1⟩ := trodAll_cons r0
  obtain ⟨v2, vs2, d2, ds2, p2, q2, rfl, rfl, rfl, h2, r2⟩ := trodAll_cons r1
  obtain ⟨rfl, rfl, rfl⟩ := trodAll_nil r2
  obtain rfl : args = #[v0, v1, v2] := by cases args; simp_all
  obtain ⟨rfl, rfl⟩ := trodVars_none hV
  have k0 := h0
  have lt0 : ∀ x ∈ p0, x.block < W.heap.size := by obtain ⟨m, hm⟩ := k0; exact DataW.trod_lt m _ _ _ hm
  have k1 := h1
  have lt1 : ∀ x ∈ p1, x.block < W.heap.size := by obtain ⟨m, hm⟩ := k1; exact DataW.trod_lt m _ _ _ hm
  have k2 := h2
  have lt2 : ∀ x ∈ p2, x.block < W.heap.size := by obtain ⟨m, hm⟩ := k2; exact DataW.trod_lt m _ _ _ hm
  obtain ⟨s0, len0, cap0, rfl⟩ := okWide_slice Try.underlying31 (hval 0 31 v0 rfl rfl)
  obtain ⟨V0, hc0, hr0⟩ := rows_in Try.underlying31 (flat_struct (ks := [.u64, .u64, .i64, .i64]) Try.underlying24 (by kernel_rfl) (by kernel_rfl)) (by decide) h0
  obtain ⟨a1, rfl, _, _, w1⟩ := open_int Try.underlying5 (hval 1 5 v1 rfl rfl) h1
  obtain ⟨a2, rfl, _, _, w2⟩ := open_int Try.underlying5 (hval 2 5 v2 rfl rfl) h2
  clear hA0 hval0
  refine (walk s0 len0 cap0 V0 a1 a2 W hc0 hr0 (bounds_u8 w1) (bounds_u8 w2)).mono fun e W' ⟨he, bel⟩ => ?_
  subst he
  exact ⟨_, rfl, _, _, _, [], _, [], hW', trodAll_mk1 (shut_bool Try.underlying4 _), (trodAll_cons_mk (Below.trod laidOut (by kernel_rfl) (of_decide_eq_true (by kernel_rfl)) k0 bel lt0) (trodAll_cons_mk (Below.trod laidOut (by kernel_rfl) (of_decide_eq_true (by kernel_rfl)) k1 bel lt1) (trodAll_cons_mk (Below.trod laidOut (by kernel_rfl) (of_decide_eq_true (by kernel_rfl)) k2 bel lt2) trodAll_mk0))), rfl, bel.frame _, fun h => by cases h⟩
theorem holds : Rows.msortCountsRow.holds Try.pinned (OpenSpec.ofChange Rows.msortCountsSpec) :=
  OpenClaim.holds_of_wide 10 Try.f10 rfl rfl rfl rfl rfl rfl rfl ⟨rfl, rfl, rfl, rfl, rfl⟩ rfl rfl rfl rfl rfl (by kernel_rfl) Try.func10 (by kernel_rfl)
    (of_decide_eq_true (by kernel_rfl)) (by unfold Func.isWrapper; first | (rw [if_pos (by decide +kernel)]; kernel_rfl) | (rw [if_neg (by decide +kernel)]; exact ⟨rfl, rfl⟩))
    (fun os started H enc _ => lifted os started H enc)
theorem proved : Rows.MsortCountsSaid := holds
end lawCounts
end Go.Proofs.Ytiebmjdclicheaa
