/- MsortStays holds: each index is there once, and of equal records the smaller index comes first; Sort returns the records with these indexes. -/
import Derived.Test.YtiebmjdclicheaaMZb
import Derived.Test.YtiebmjdclicheaaOp
import Derived.Test.YtiebmjdclicheaaRows
import Derived.Deep.CutRange
import Derived.StillTailTactics
set_option linter.unusedVariables false
set_option linter.unusedSimpArgs false
namespace Go.Proofs.Ytiebmjdclicheaa
open Go.RowKit
namespace lawStays
open Go.ChangeShapes Go.WideShapes Go.ChangeAt Go.RowKit Go.Joins
set_option maxRecDepth 100000 in
set_option maxHeartbeats 16000000 in
theorem walk (s0 : Option Addr) (len0 cap0 : Nat) (V0 : Nat → Nat → Int) (a1 : Int) (w : World) (hc0 : len0 ≤ cap0 ∧ cap0 ≤ maxLen) (hr0 : RowsI w s0 [.u64, .u64, .i64, .i64] len0 V0) (b1 : 0 ≤ a1 ∧ a1 ≤ 255) : Calls Try.prog 8 #[.slice s0 len0 cap0, .int .u8 a1] w fun e w' => e = .returned (.bool true) ∧ Below w.heap.size w w' := by
  have H0 := hide (hr_arg hc0 hr0)
  have LN := hide (lR_len len0 V0)
  by_cases h2 : 200 < len0
  · have d : decide ((200 : Int) < (len0 : Int)) = true := by simp; omega
    clear hc0 hr0 b1 h2
    go_enter Try.func8, Try.ntmps8
    go_wp2_with fail
    go_ret
    exact ⟨rfl, Below.refl _ _⟩
  have d : decide ((200 : Int) < (len0 : Int)) = false := by simp; omega
  have WK := hide works_t
  have TH := hide (three_t a1 b1)
  have HN := hide (show len0 ≤ 200 by omega)
  generalize lR len0 V0 = l at *
  have SO := hide (fun k => sort_h (k := k) H0.out)
  have PE := hide (fun k W (kW : Kp [] w W) => perm_h (k := k) (H0.out.keep kW))
  have hm : ∀ w : World, (Instr.makeSlice 46 (.int .i64 (len0 : Int)) (.int .i64 (len0 : Int))).run Try.prog w = .ok (.slice (some ⟨w.heap.size, 0, none⟩) len0 len0) (w.alloc (.cells (madeCells #[.bool false] len0) 4)) :=
    fun w => run_make_row' 46 4 (.bool false) 1 Try.underlying46 infoB rfl .i64 .i64 len0 (by omega) (by omega) w
  clear hc0 hr0 b1 h2
  go_enter Try.func8, Try.ntmps8
  go_wp2_with fail
  refine (TH.out _).mono ?_
  rintro e w' ⟨⟨k, hk, rfl⟩, rfl⟩
  have HK := hide hk
  have E0 := hide (show chk l.length k = 0 from chk_ok hk (by rw [LN.out]; have := HN.out; omega))
  have SO1 := hide (SO.out k)
  have PE1 := hide (PE.out k)
  rw [E0.out] at SO1 PE1
  have SL := hide (show (sortA k l).length = len0 by rw [sortA_len E0.out, LN.out])
  have PL := hide (show (permA k l).length = len0 by rw [permA_len E0.out, LN.out])
  have PM := hide (fun x => permA_lt (k := k) (l := l) (x := x))
  have ND := hide (permA_nodup k l)
  have SA := hide (fun i x => sort_at (k := k) (l := l) (i := i) (x := x))
  have PN := hide (fun i x y => perm_next (k := k) (l := l) E0.out (i := i) (x := x) (y := y))
  have LH := hide (fun a b => less_h a b hk)
  clear hk SO PE
  go_wp2_with fail
  refine SO1.out.mono ?_
  rintro e w1 ⟨vs, rfl, hs, ps, k1⟩
  have K1 := hide k1
  have HS := hide hs
  have PE2 := hide (PE1.out _ k1)
  clear hs ps k1
  go_wp2_with fail
  refine PE2.out.mono ?_
  rintro e w2 ⟨vp, rfl, hp, k2⟩
  have K2 := hide (K1.out.trans0 k2)
  obtain ⟨qs, cs, rfl, hcs, rs⟩ := HS.out.keep k2
  obtain ⟨qp, cp, rfl, rp⟩ := hp
  have RS := hide rs
  have RP := hide rp
  rw [SL.out, PL.out]
  clear hcs rs rp k2 HS
  go_wp2_with fail
  have R0 := hide (made_full w2 (B := w.heap.size) K2.out.size len0 (by have := HN.out; unfold maxLen; omega) (.bool false) 4)
  have K3 := hide (Kp.alloc w2 (.cells (madeCells #[.bool false] len0) 4))
  have HG := hide K2.out.size
  obtain ⟨g, hg⟩ : ∃ g, g = w2.heap.size := ⟨_, rfl⟩
  rw [← hg] at R0 HG ⊢
  have HG2 := hide (show w2.heap.size ≤ g by omega)
  clear hg
  generalize w2.alloc (.cells (madeCells #[.bool false] len0) 4) = w3 at *
  go_loopw [11] (fun i wr => ∃ I : Nat, I ≤ len0 ∧ i = .int .i64 (I : Int) ∧ Hid (wr.ownsRow w.heap.size 4 1 (.slice (some ⟨g, 0, none⟩) len0 len0) len0 (rowV len0 (flag fun j => decide ((j : Int) ∈ (permA k l).take I)))) ∧ Hid (Kp [] w2 wr)) (fun i _ => len0 - (intOf i).toNat)
  case atStart => exact ⟨0, Nat.zero_le _, rfl, by rw [rowV_congr (g := fun _ => .bool false) (fun i _ => by simp [flag])]; exact R0.out, K3.out⟩
  case round =>
    obtain ⟨I, hI, rfl, hR, hK⟩ := hrel
    by_cases hlt : I < len0
    · have dk : decide (I < len0) = true := by simpa using hlt
      have dk' : decide ((I : Int) < (len0 : Int)) = true := by simpa using hlt
      have bI : (I : Int) < (len0 : Int) := by omega
      have wI : IntKind.i64.wrap ((I : Int) + 1) = (I : Int) + 1 := by have := HN.out; rw [IntKind.wrap_i64]; omega
      have hg0 : (permA k l)[I]? = some ((permA k l).getD I 0) := by simp [List.getD, show I < (permA k l).length by rw [PL.out]; exact hlt]
      obtain ⟨x, hx, hxe⟩ := PM.out _ (List.mem_of_getElem? hg0)
      rw [hxe] at hg0
      have GI := hide hg0
      have xl : x < len0 := by have := LN.out; omega
      have bx : (x : Int) < (len0 : Int) := by omega
      have dx0 : decide ((x : Int) < 0) = false := by simp
      have dx1 : decide ((len0 : Int) ≤ (x : Int)) = false := by simp; omega
      have dx1' : decide (len0 ≤ x) = false := by simp; omega
      have hsx := SA.out I x GI.out
      have nx : (fun j : Nat => decide ((j : Int) ∈ (permA k l).take I)) x = false := by
        have nd := ND.out
        have := take_next GI.out
        have h3 : ((permA k l).take (I + 1)).Nodup := nd.sublist (List.take_sublist _ _)
        rw [this, List.nodup_append] at h3
        simp only [decide_eq_false_iff_not]
        intro hm
        exact h3.2.2 _ hm _ (by simp) rfl
      have F := hide (show rowV len0 (updV (flag fun j => decide ((j : Int) ∈ (permA k l).take I)) x (.bool true)) = rowV len0 (flag fun j => decide ((j : Int) ∈ (permA k l).take (I + 1))) by
        rw [flag_upd]
        refine rowV_congr fun j _ => ?_
        rw [take_next GI.out]
        unfold flag updB
        by_cases h : j = x
        · subst h; simp
        · have h' : (j : Int) ≠ (x : Int) := by omega
          simp [h, h'])
      obtain ⟨_, hpp, e1, f1, _⟩ := row_cell hR.out xl
      injection hpp with hpp; injection hpp with hpp; subst hpp
      rw [rowV_get _ xl, show flag (fun j => decide ((j : Int) ∈ (permA k l).take I)) x = .bool false from congrArg Value.bool nx] at e1
      rcases RP.out with h0 | ⟨bp, op, rfl, hbp2, cpp2⟩
      · exact absurd PL.out (by rw [h0]; have := HN.out; simp; omega)
      have cpp : ∀ (i : Nat) (x : Int), (permA k l)[i]? = some x → wr.cell? ⟨bp, op + i, none⟩ = some (encI x) := fun i x h => (hK.out.at hbp2 _).trans (cpp2 i x h)
      have e2 : wr.cell? ⟨bp, op + I, none⟩ = some (.int .i64 (x : Int)) := cpp I _ GI.out
      obtain ⟨bs, os, rfl, hbs2, cs42⟩ := rdr_get RS.out (show I < (sortA k l).length by rw [SL.out]; exact hlt)
      have cs4 : ∀ i, i < (sortA k l).length → At4 wr bs (os + i * 4) ((sortA k l).getD i zz) := fun i hi => (cs42 i hi).keep hK.out hbs2
      have hsg : (sortA k l).getD I zz = l.getD x zz := by simp [List.getD, hsx]; 
      obtain ⟨s1, s2, s3, s4⟩ := cs4 I (by rw [SL.out]; exact hlt)
      obtain ⟨bl, ol, rfl, _, cl4⟩ := rdr_get ((H0.out.rd.below K2.out).below hK.out) hx
      obtain ⟨l1, l2, l3, l4⟩ := cl4 x hx
      rw [hsg] at s1 s2 s3 s4
      obtain ⟨y, hy⟩ : ∃ y, y = l.getD x zz := ⟨_, rfl⟩
      have HY := hide hy
      rw [← hy] at s1 s2 s3 s4 l1 l2 l3 l4
      have HR0 := hR
      have HKK := hK
      have NX := hide (show flag (fun j => decide ((j : Int) ∈ (permA k l).take I)) x = .bool false from congrArg Value.bool nx)
      have HSG := hide (show (sortA k l).getD I zz = l.getD x zz from hsg)
      have HBS := hide (show bs < wr.heap.size from Nat.lt_of_lt_of_le hbs2 hK.out.size)
      have HBP := hide (show bp < wr.heap.size from Nat.lt_of_lt_of_le hbp2 hK.out.size)
      have HNE := hide (show bs ≠ g ∧ bp ≠ g from ⟨fun h => by have := HG2.out; omega, fun h => by have := HG2.out; omega⟩)
      have HLT := hide hlt
      have CS := hide cs4
      have CP := hide cpp
      have PNI := PN
      clear hlt hg0 hxe hsx nx hR cpp cs4 cl4 hsg hy hx cpp2 cs42 hbs2 hbp2
      go_wp2_with fail
      go_quiet (fail)
      obtain ⟨w4, hw4⟩ : ∃ w4, w4 = wr.drewN nq := ⟨_, rfl⟩
      have k4 : Kp [] wr w4 := by rw [hw4]; exact Kp.drewN [] _ _
      rw [← hw4]
      clear hw4
      have RR := k4.row HR0.out (by simp)
      have HBs := hide (show bs < wr.heap.size ∧ bp < wr.heap.size from ⟨HBS.out, HBP.out⟩)
      have e2' : w4.cell? ⟨bp, op + I, none⟩ = some (.int .i64 (x : Int)) := (k4.at HBs.out.2 _).trans e2
      obtain ⟨_, hpp, e1', f1', _⟩ := row_cell RR xl
      injection hpp with hpp; injection hpp with hpp; subst hpp
      rw [rowV_get _ xl, NX.out] at e1'
      have R1 := hide (row_putV RR x (.bool true))
      rw [F.out] at R1
      have K4 := hide ((HKK.out.trans0 k4).put g x (.bool true) (.inr HG2.out))
      have K45 := hide (show wr.heap.size ≤ w4.heap.size from k4.size)
      have KB := hide (show ∀ o, (w4.setCell ⟨g, x, none⟩ (.bool true)).cell? ⟨bs, o, none⟩ = wr.cell? ⟨bs, o, none⟩ ∧ (w4.setCell ⟨g, x, none⟩ (.bool true)).cell? ⟨bp, o, none⟩ = wr.cell? ⟨bp, o, none⟩ from fun o => ⟨(cell_far (by intro h; injection h with h _ _; exact HNE.out.1 h)).trans (k4.at HBs.out.1 _), (cell_far (by intro h; injection h with h _ _; exact HNE.out.2 h)).trans (k4.at HBs.out.2 _)⟩)
      clear RR k4 s1 s2 s3 s4 l1 l2 l3 l4 e1 f1 e2
      obtain ⟨w5, hw5⟩ : ∃ w5, w5 = w4.setCell ⟨g, x, none⟩ (.bool true) := ⟨_, rfl⟩
      rw [← hw5] at R1 K4 KB
      have HW5 := hide hw5
      clear hw5
      by_cases h0 : I = 0
      · have d0 : ((I : Int) == 0) = true := by simp; omega
        have d0' : (I == 0) = true := by simp; omega
        clear h0
        go_wp2_with fail
        rw [← HW5.out]
        go_roundw
        case rel => exact ⟨I + 1, by have := HLT.out; omega, by go_num, R1.out, K4.out⟩
        case measure => have := HLT.out; simp [intOf]; omega
      · have d0 : ((I : Int) == 0) = false := by simp; omega
        have d0' : (I == 0) = false := by simp; omega
        obtain ⟨J, hJ⟩ : ∃ J, I = J + 1 := ⟨I - 1, by omega⟩
        have wJ : IntKind.i64.wrap ((I : Int) - 1) = (J : Int) := by have := HN.out; rw [IntKind.wrap_i64]; omega
        have bJ : (J : Int) < (len0 : Int) := by omega
        have lJ : J < len0 := by have := HLT.out; omega
        have hg1 : (permA k l)[J]? = some ((permA k l).getD J 0) := by simp [List.getD, show J < (permA k l).length by rw [PL.out]; exact lJ]
        obtain ⟨z, hz, hze⟩ := PM.out _ (List.mem_of_getElem? hg1)
        rw [hze] at hg1
        have hsz := SA.out J z hg1
        have hsgz : (sortA k l).getD J zz = l.getD z zz := by simp [List.getD, hsz]
        have sJ := CS.out J (by rw [SL.out]; exact lJ)
        have sI := CS.out I (by rw [SL.out]; exact HLT.out)
        rw [hsgz] at sJ
        rw [HSG.out] at sI
        have gI' : (permA k l)[J + 1]? = some (x : Int) := by rw [← hJ]; exact GI.out
        have PNx := PN.out J z x hg1 gI'
        rw [← HY.out] at PNx sI
        obtain ⟨u, hu⟩ : ∃ u, u = l.getD z zz := ⟨_, rfl⟩
        rw [← hu] at PNx sJ
        have hb5 : bs < w5.heap.size := by rw [HW5.out]; simp [World.setCell]; exact Nat.lt_of_lt_of_le HBs.out.1 K45.out
        have sJ5 : At4 w5 bs (os + J * 4) u := ⟨(KB.out _).1.trans sJ.1, (KB.out _).1.trans sJ.2.1, (KB.out _).1.trans sJ.2.2.1, (KB.out _).1.trans sJ.2.2.2⟩
        have sI5 : At4 w5 bs (os + I * 4) y := ⟨(KB.out _).1.trans sI.1, (KB.out _).1.trans sI.2.1, (KB.out _).1.trans sI.2.2.1, (KB.out _).1.trans sI.2.2.2⟩
        have SX : Hid (∀ W, Kp [] w5 W → At4 W bs (os + J * 4) u ∧ At4 W bs (os + I * 4) y) := fun W kW => ⟨sJ5.keep kW hb5, sI5.keep kW hb5⟩
        have PX := hide PNx
        have cpJ := hide ((KB.out (op + J)).2.trans (CP.out J _ hg1))
        have cpI := hide ((KB.out (op + I)).2.trans (CP.out I _ GI.out))
        have L1 := hide (fun W => LH.out u y W)
        have L2 := hide (fun W => LH.out y u W)
        rw [PX.out.1] at L2
        unfold R4.val at L1 L2
        have HP5 := hide (show bp < w5.heap.size by rw [HW5.out]; simp [World.setCell]; exact Nat.lt_of_lt_of_le HBs.out.2 K45.out)
        clear h0 hg1 hze hsz hsgz sJ sI gI' PNx hu hz hb5 sJ5 sI5 hJ
        go_wp2_with fail
        rw [← HW5.out]
        have S0 : w5.drew.cell? ⟨bs, os + J * 4, none⟩ = some (.int .u64 u.u) ∧ w5.drew.cell? ⟨bs, os + J * 4 + 1, none⟩ = some (.int .u64 u.v) ∧ w5.drew.cell? ⟨bs, os + J * 4 + 2, none⟩ = some (.int .i64 u.w) ∧ w5.drew.cell? ⟨bs, os + J * 4 + 3, none⟩ = some (.int .i64 u.t) ∧ w5.drew.cell? ⟨bs, os + I * 4, none⟩ = some (.int .u64 y.u) ∧ w5.drew.cell? ⟨bs, os + I * 4 + 1, none⟩ = some (.int .u64 y.v) ∧ w5.drew.cell? ⟨bs, os + I * 4 + 2, none⟩ = some (.int .i64 y.w) ∧ w5.drew.cell? ⟨bs, os + I * 4 + 3, none⟩ = some (.int .i64 y.t) := by
          obtain ⟨⟨a1, a2, a3, a4⟩, b1, b2, b3, b4⟩ := SX.out _ (id (Kp.drewN [] w5 1))
          exact ⟨a1, a2, a3, a4, b1, b2, b3, b4⟩
        go_wp2_with fail
        go_region_held3 (fun w' => w'.cell? ⟨bs, os + J * 4, none⟩ = some (.int .u64 u.u) ∧ w'.cell? ⟨bs, os + J * 4 + 1, none⟩ = some (.int .u64 u.v) ∧ w'.cell? ⟨bs, os + J * 4 + 2, none⟩ = some (.int .i64 u.w) ∧ w'.cell? ⟨bs, os + J * 4 + 3, none⟩ = some (.int .i64 u.t) ∧ w'.cell? ⟨bs, os + I * 4, none⟩ = some (.int .u64 y.u) ∧ w'.cell? ⟨bs, os + I * 4 + 1, none⟩ = some (.int .u64 y.v) ∧ w'.cell? ⟨bs, os + I * 4 + 2, none⟩ = some (.int .i64 y.w) ∧ w'.cell? ⟨bs, os + I * 4 + 3, none⟩ = some (.int .i64 y.t))
          (first | with_reducible assumption | exact S0 | exact S1)
          (first | (refine (L1.out _).mono ?_; rintro e w6 ⟨rfl, k1d⟩; have k6 : Kp [] w5 w6 := (Kp.drewN [] w5 1).trans0 k1d; have S1 : w6.cell? ⟨bs, os + J * 4, none⟩ = some (.int .u64 u.u) ∧ w6.cell? ⟨bs, os + J * 4 + 1, none⟩ = some (.int .u64 u.v) ∧ w6.cell? ⟨bs, os + J * 4 + 2, none⟩ = some (.int .i64 u.w) ∧ w6.cell? ⟨bs, os + J * 4 + 3, none⟩ = some (.int .i64 u.t) ∧ w6.cell? ⟨bs, os + I * 4, none⟩ = some (.int .u64 y.u) ∧ w6.cell? ⟨bs, os + I * 4 + 1, none⟩ = some (.int .u64 y.v) ∧ w6.cell? ⟨bs, os + I * 4 + 2, none⟩ = some (.int .i64 y.w) ∧ w6.cell? ⟨bs, os + I * 4 + 3, none⟩ = some (.int .i64 y.t) := (by obtain ⟨⟨a1, a2, a3, a4⟩, b1, b2, b3, b4⟩ := SX.out _ (id k6); exact ⟨a1, a2, a3, a4, b1, b2, b3, b4⟩); clear k1d))
        have K6 := hide k6
        clear k6 S0 S1
        have S0 : w6.drew.cell? ⟨bs, os + J * 4, none⟩ = some (.int .u64 u.u) ∧ w6.drew.cell? ⟨bs, os + J * 4 + 1, none⟩ = some (.int .u64 u.v) ∧ w6.drew.cell? ⟨bs, os + J * 4 + 2, none⟩ = some (.int .i64 u.w) ∧ w6.drew.cell? ⟨bs, os + J * 4 + 3, none⟩ = some (.int .i64 u.t) ∧ w6.drew.cell? ⟨bs, os + I * 4, none⟩ = some (.int .u64 y.u) ∧ w6.drew.cell? ⟨bs, os + I * 4 + 1, none⟩ = some (.int .u64 y.v) ∧ w6.drew.cell? ⟨bs, os + I * 4 + 2, none⟩ = some (.int .i64 y.w) ∧ w6.drew.cell? ⟨bs, os + I * 4 + 3, none⟩ = some (.int .i64 y.t) := by
          obtain ⟨⟨a1, a2, a3, a4⟩, b1, b2, b3, b4⟩ := SX.out _ (K6.out.trans0 (Kp.drewN [] w6 1))
          exact ⟨a1, a2, a3, a4, b1, b2, b3, b4⟩
        go_wp2_with fail
        go_region_held3 (fun w' => w'.cell? ⟨bs, os + J * 4, none⟩ = some (.int .u64 u.u) ∧ w'.cell? ⟨bs, os + J * 4 + 1, none⟩ = some (.int .u64 u.v) ∧ w'.cell? ⟨bs, os + J * 4 + 2, none⟩ = some (.int .i64 u.w) ∧ w'.cell? ⟨bs, os + J * 4 + 3, none⟩ = some (.int .i64 u.t) ∧ w'.cell? ⟨bs, os + I * 4, none⟩ = some (.int .u64 y.u) ∧ w'.cell? ⟨bs, os + I * 4 + 1, none⟩ = some (.int .u64 y.v) ∧ w'.cell? ⟨bs, os + I * 4 + 2, none⟩ = some (.int .i64 y.w) ∧ w'.cell? ⟨bs, os + I * 4 + 3, none⟩ = some (.int .i64 y.t))
          (first | with_reducible assumption | exact S0 | exact S1)
          (first | (refine (L2.out _).mono ?_; rintro e w7 ⟨rfl, k1d⟩; have k7 : Kp [] w6 w7 := (Kp.drewN [] w6 1).trans0 k1d; have S1 : w7.cell? ⟨bs, os + J * 4, none⟩ = some (.int .u64 u.u) ∧ w7.cell? ⟨bs, os + J * 4 + 1, none⟩ = some (.int .u64 u.v) ∧ w7.cell? ⟨bs, os + J * 4 + 2, none⟩ = some (.int .i64 u.w) ∧ w7.cell? ⟨bs, os + J * 4 + 3, none⟩ = some (.int .i64 u.t) ∧ w7.cell? ⟨bs, os + I * 4, none⟩ = some (.int .u64 y.u) ∧ w7.cell? ⟨bs, os + I * 4 + 1, none⟩ = some (.int .u64 y.v) ∧ w7.cell? ⟨bs, os + I * 4 + 2, none⟩ = some (.int .i64 y.w) ∧ w7.cell? ⟨bs, os + I * 4 + 3, none⟩ = some (.int .i64 y.t) := (by obtain ⟨⟨a1, a2, a3, a4⟩, b1, b2, b3, b4⟩ := SX.out _ (K6.out.trans0 k7); exact ⟨a1, a2, a3, a4, b1, b2, b3, b4⟩); clear k1d))
        have K7 := hide (K6.out.trans0 k7)
        clear k7 S0 S1
        have c1 : w7.cell? ⟨bp, op + J, none⟩ = some (.int .i64 (z : Int)) := (K7.out.at HP5.out _).trans cpJ.out
        have c2 : w7.cell? ⟨bp, op + I, none⟩ = some (.int .i64 (x : Int)) := (K7.out.at HP5.out _).trans cpI.out
        have R7 := hide (K7.out.row R1.out (by simp))
        have K8 := hide (K4.out.trans0 K7.out)
        generalize hbf : bef k u y = bb at *
        clear hbf
        cases bb
        · have zx : z < x := PX.out.2 rfl
          have dzx : decide ((x : Int) < (z : Int)) = false := by simp; omega
          have dzx' : decide (x < z) = false := by simp; omega
          clear zx
          go_wp2_with fail
          go_quiet (fail)
          go_wp2_with fail
          go_roundw
          case rel => exact ⟨I + 1, by have := HLT.out; omega, by go_num, (Kp.drewN [] _ _).row R7.out (by simp), K8.out.trans0 (Kp.drewN [] _ _)⟩
          case measure => have := HLT.out; simp [intOf]; omega
        · go_wp2_with fail
          go_quiet (fail)
          go_wp2_with fail
          go_roundw
          case rel => exact ⟨I + 1, by have := HLT.out; omega, by go_num, (Kp.drewN [] _ _).row R7.out (by simp), K8.out.trans0 (Kp.drewN [] _ _)⟩
          case measure => have := HLT.out; simp [intOf]; omega
    · have dk : decide (I < len0) = false := by simp; omega
      have dk' : decide ((I : Int) < (len0 : Int)) = false := by simp; omega
      have WW := hide (WK.out wr)
      clear hlt
      go_wp2_with fail
      refine WW.out.mono ?_
      rintro e w8 ⟨rfl, k8⟩
      have K8 := hide ((K2.out.trans0 hK.out).trans0 k8)
      clear k8 WW
      go_wp2_with fail
      go_ret
      exact ⟨rfl, K8.out.below (by simp) (Nat.le_refl _)⟩
theorem own : ownKnob Try.prog.godebug = none := by kernel_rfl
theorem laidOut : laidOutB Try.prog = true := by kernel_rfl
set_option maxRecDepth 100000 in
theorem lifted (os : Os) (started : os.Started) (H : Type) (enc : TypeId × Value → H) :
    ReturnsInHanded {} Try.checked os 8 .any (Rows.msortStaysSpec.pre6 enc Try.prog Try.f8 Rows.msortStaysRow.domain false) (Rows.msortStaysSpec.post enc Try.prog Try.f8 false true false false) := by
  refine returnsInHanded_of_change (C := Try.checked) own started (by kernel_rfl) Try.func8
    (ChangeSpec.witness6 (enc := enc) (C := Try.checked) false ⟨#[], #[.slice none 0 0, .int .u8 0], []⟩ 8 (by kernel_rfl) (by kernel_rfl) (by kernel_rfl) (by kernel_rfl)) ?_
  intro W base args ds gs before hval0 hW hcnd _
  have hval : ∀ (j : Nat) t v, Try.f8.params[j]? = some t → args[j]? = some v → Value.okWide Try.prog W .any base t v := hval0
  have hW' := hW
  obtain ⟨p, q, hA0, hV, rfl, hfz, hnd⟩ := hW
  have hA : DataW.TrodAll enc Try.prog W 0 (fun _ => true) true Try.f8.params.toList args.toList ds p := hA0
  rw [Try.params8] at hA hval
  obtain ⟨v0, vs0, d0, ds0, p0, q0, hargs, rfl, rfl, h0, r0⟩ := trodAll_cons hA
  obtain ⟨v1, vs1, d1, ds1, p1, q1, rfl, rfl, rfl, h1, r1⟩ := trodAll_cons r0
  obtain ⟨rfl, rfl, rfl⟩ := trodAll_nil r1
  obtain rfl : args = #[v0, v1] := by cases args; simp_all
  obtain ⟨rfl, rfl⟩ := trodVars_none hV
  have k0 := h0
  have lt0 : ∀ x ∈ p0, x.block < W.heap.size := by obtain ⟨m, hm⟩ := k0; exact DataW.trod_lt m _ _ _ hm
  have k1 := h1
  have lt1 : ∀ x ∈ p1, x.block < W.heap.size := by obtain ⟨m, hm⟩ := k1; exact DataW.trod_lt m _ _ _ hm
  obtain ⟨s0, len0, cap0, rfl⟩ := okWide_slice Try.underlying31 (hval 0 31 v0 rfl rfl)
  obtain ⟨V0, hc0, hr0⟩ := rows_in Try.underlying31 (flat_struct (ks := [.u64, .u64, .i64, .i64]) Try.underlying24 (by kernel_rfl) (by kernel_rfl)) (by decide) h0
  obtain ⟨a1, rfl, _, _, w1⟩ := open_int Try.underlying5 (hval 1 5 v1 rfl rfl) h1
  clear hA0 hval0
  refine (walk s0 len0 cap0 V0 a1 W hc0 hr0 (bounds_u8 w1)).mono fun e W' ⟨he, bel⟩ => ?_
  subst he
  exact ⟨_, rfl, _, _, _, [], _, [], hW', trodAll_mk1 (shut_bool Try.underlying4 _), (trodAll_cons_mk (Below.trod laidOut (by kernel_rfl) (of_decide_eq_true (by kernel_rfl)) k0 bel lt0) (trodAll_cons_mk (Below.trod laidOut (by kernel_rfl) (of_decide_eq_true (by kernel_rfl)) k1 bel lt1) trodAll_mk0)), rfl, bel.frame _, fun h => by cases h⟩
theorem holds : Rows.msortStaysRow.holds Try.pinned (OpenSpec.ofChange Rows.msortStaysSpec) :=
  OpenClaim.holds_of_wide 8 Try.f8 rfl rfl rfl rfl rfl rfl rfl ⟨rfl, rfl, rfl, rfl, rfl⟩ rfl rfl rfl rfl rfl (by kernel_rfl) Try.func8 (by kernel_rfl)
    (of_decide_eq_true (by kernel_rfl)) (by unfold Func.isWrapper; first | (rw [if_pos (by decide +kernel)]; kernel_rfl) | (rw [if_neg (by decide +kernel)]; exact ⟨rfl, rfl⟩))
    (fun os started H enc _ => lifted os started H enc)
theorem proved : Rows.MsortStaysSaid := holds
end lawStays
end Go.Proofs.Ytiebmjdclicheaa
