/- The specification's New and Add. -/
import Derived.Test.YtenoalfjobghnaaHR
set_option linter.unusedVariables false
set_option linter.unusedSimpArgs false
namespace Go.Proofs.Ytenoalfjobghnaa
open Go.RowKit

theorem buildR (z n c : Nat) (w : World) : (Instr.build 68 #[(0, .bool true), (2, .slice (some ⟨z, 0, none⟩) n c)]).run Try.prog w = .ok (.agg #[.bool true, .slice none 0 0, .slice (some ⟨z, 0, none⟩) n c]) w := by kernel_rfl
theorem rnew_long {w : World} {p : Option Addr} {n c : Nat} (hn : 1024 < n) : Calls Try.prog 16 #[.slice p n c] w fun e w' => e = .returned (.tuple #[.pointer none, .int .i64 2]) ∧ w = w' := by
  have d1 : decide ((1024 : Int) < (n : Int)) = true := by simp; omega
  clear hn
  go_enter Try.func16, Try.ntmps16
  go_wp2_with fail
  go_ret2
  exact ⟨rfl, rfl⟩
set_option maxRecDepth 100000 in
set_option maxHeartbeats 4000000 in
theorem rnew_down {w : World} {p : Option Addr} {n c : Nat} {V : Nat → Int} (h : Rd1 w p n V) (hn : n ≤ 1024) (no : ¬ Inc V n) :
    Calls Try.prog 16 #[.slice p n c] w fun e w' => e = .returned (.tuple #[.pointer none, .int .i64 2]) ∧ Kp [] w w' := by
  have HH := hide h
  have HN := hide hn
  have HI := hide no
  have d1 : decide ((1024 : Int) < (n : Int)) = false := by simp; omega
  clear h hn no
  go_enter Try.func16, Try.ntmps16
  go_wp2_with fail
  go_loopw [4] (fun x wr => ∃ k : Nat, Hid (∀ j, j < k → j + 1 < n → V j < V (j + 1)) ∧ x = .int .i64 ((k + 1 : Nat) : Int) ∧ Hid (Kp [] w wr)) (fun x _ => n - (intOf x).toNat)
  case atStart => exact ⟨0, fun j hj => absurd hj (by omega), rfl, Kp.refl _ _⟩
  case round =>
    obtain ⟨k, hS, rfl, hK⟩ := hrel
    obtain ⟨k1, hk1⟩ : ∃ k1, k1 = k + 1 := ⟨_, rfl⟩
    rw [← hk1]
    by_cases hlt : k1 < n
    · have dk : decide ((k1 : Int) < (n : Int)) = true := by simp; omega
      have dk' : decide (k1 < n) = true := by simp; omega
      have ww : IntKind.i64.wrap ((k1 : Int) + 1) = ((k1 + 1 : Nat) : Int) := by have := HN.out; rw [IntKind.wrap_i64]; omega
      have ws : IntKind.i64.wrap ((k1 : Int) - 1) = (k : Int) := by have := HN.out; rw [IntKind.wrap_i64]; omega
      have hb1 : (k1 : Int) < (n : Int) := by omega
      have hb2 : (k : Int) < (n : Int) := by omega
      rcases HH.out.below hK.out with h0 | ⟨g, off, rfl, hg, hc⟩
      · omega
      · have e1 := hc k1 hlt
        have e2 := hc k (by omega)
        have HL := hide (And.intro hlt hk1)
        by_cases hv : V k < V k1
        · have dv : decide (V k1 ≤ V k) = false := by simp; omega
          have HV := hide hv
          clear hc hg hk1 hv
          have HS2 : Hid (∀ j, j < k1 → j + 1 < n → V j < V (j + 1)) := fun j hj hjn => by
            by_cases e : j < k
            · exact hS.out j e hjn
            · have h1 := HL.out.2; have e2 : j = k := by omega
              subst e2; have := HV.out; rw [h1] at this; exact this
          clear hS HV
          generalize V k1 = y1 at *
          generalize V k = y2 at *
          go_wp2_with fail
          go_quiet (fail)
          go_wp2_with fail
          go_roundw
          case rel => exact ⟨k1, HS2, by first | rfl | go_num, hK.out.trans (Kp.drewN [] _ _) (by simp)⟩
          case measure => simp [intOf]; have := HL.out.1; omega
        · have dv : decide (V k1 ≤ V k) = true := by simp; omega
          clear hc hg hk1 hv hS
          generalize V k1 = y1 at *
          generalize V k = y2 at *
          go_wp2_with fail
          go_quiet (fail)
          go_wp2_with fail
          go_ret2
          exact ⟨rfl, hK.out.trans (Kp.drewN [] _ _) (by simp)⟩
    · exact absurd (inc_of (fun j hj => hS.out j (by omega) hj)) HI.out
theorem rnew_e {w : World} {p : Option Addr} {n c : Nat} {V : Nat → Int} (h : Rd1 w p n V) (no : ¬ (n ≤ 1024 ∧ Inc V n)) :
    Calls Try.prog 16 #[.slice p n c] w fun e w' => e = .returned (.tuple #[.pointer none, .int .i64 2]) ∧ Kp [] w w' := by
  by_cases hn : n ≤ 1024
  · exact rnew_down h hn (fun i => no ⟨hn, i⟩)
  · refine (rnew_long (by omega)).mono ?_
    rintro e w' ⟨rfl, rfl⟩
    exact ⟨rfl, Kp.refl _ _⟩
theorem RM.made {B n m1 : Nat} {wr w2 : World} {V : Nat → Int} {v : Value} (hm : m1 = n + 1) (hn : n ≤ 1024) (hB : B ≤ wr.heap.size)
    (r : w2.ownsRow (wr.heap.size + 1 + 1) 2 1 v n (intsI n V))
    (k : Kp [] ((wr.alloc (.cells (madeCells #[.int .i64 0] m1) 2)).alloc (.cells #[.bool true, .slice none 0 0, .slice (some ⟨wr.heap.size, 0, none⟩) m1 m1] 68)) w2) :
    RM B (w2.setCell ⟨wr.heap.size + 1, 1, none⟩ v) (wr.heap.size + 1) v (.slice (some ⟨wr.heap.size, 0, none⟩) m1 m1) n V (fun _ => 0) := by
  subst hm
  have sz : (wr.alloc (.cells (madeCells #[.int .i64 0] (n + 1)) 2)).heap.size = wr.heap.size + 1 := by simp
  have sz2 : ((wr.alloc (.cells (madeCells #[.int .i64 0] (n + 1)) 2)).alloc (.cells #[.bool true, .slice none 0 0, .slice (some ⟨wr.heap.size, 0, none⟩) (n + 1) (n + 1)] 68)).heap.size = wr.heap.size + 1 + 1 := by simp
  have b0 := heap_alloc_new (wr.alloc (.cells (madeCells #[.int .i64 0] (n + 1)) 2)) (.cells #[.bool true, .slice none 0 0, .slice (some ⟨wr.heap.size, 0, none⟩) (n + 1) (n + 1)] 68)
  rw [sz] at b0
  have b1 := heap_setCell_same w2 (wr.heap.size + 1) 1 _ _ v (k.blk b0 (by simp))
  have lt := r.lt
  have rc := (k.row ((Kp.alloc (o := []) _ _).row (madeI wr hB (n + 1) (by omega)) (by simp)) (by simp))
  refine ⟨b1, row_mono (row_side r (fun q hq => by have := (lt q hq).1; omega) _ _) (by omega), row_side rc (fun q hq => by simp [Value.ownBlock] at hq; omega) _ _, by omega, fun q hq => ?_, fun q hq => ?_, fun q hq e => ?_⟩
  · have := (lt q hq).1; omega
  · simp [Value.ownBlock] at hq; omega
  · have := (lt q hq).1; simp [Value.ownBlock] at e; omega
set_option maxRecDepth 100000 in
set_option maxHeartbeats 4000000 in
theorem rnew_t {w : World} {p : Option Addr} {n c : Nat} {V : Nat → Int} (h : Rd1 w p n V) (hn : n ≤ 1024) (inc : Inc V n) :
    Calls Try.prog 16 #[.slice p n c] w fun e w' => ∃ b vB vC, e = .returned (.tuple #[.pointer (some ⟨b, 0, none⟩), .int .i64 0]) ∧ RM w.heap.size w' b vB vC n V (fun _ => 0) ∧ Kp [] w w' := by
  have HH := hide h
  have HN := hide hn
  have HI := hide inc
  have d1 : decide ((1024 : Int) < (n : Int)) = false := by simp; omega
  clear h hn inc
  go_enter Try.func16, Try.ntmps16
  have hmk : ∀ w : World, (Instr.makeSlice 22 (.int .i64 ((n + 1 : Nat) : Int)) (.int .i64 ((n + 1 : Nat) : Int))).run Try.prog w = .ok (.slice (some ⟨w.heap.size, 0, none⟩) (n + 1) (n + 1)) (w.alloc (.cells (madeCells #[.int .i64 0] (n + 1)) 2)) :=
    fun w => run_make_row' 22 2 (.int .i64 0) 8 Try.underlying22 infoI rfl .i64 .i64 (n + 1) (by have := HN.out; omega) (by have := HN.out; omega) w
  have HMK := hide hmk
  clear hmk
  go_wp2_with fail
  go_loopw [4] (fun x wr => ∃ k : Nat, (k < n ∨ k = 0) ∧ x = .int .i64 ((k + 1 : Nat) : Int) ∧ Hid (Kp [] w wr)) (fun x _ => n - (intOf x).toNat)
  case atStart => exact ⟨0, .inr rfl, rfl, Kp.refl _ _⟩
  case round =>
    obtain ⟨k, hk, rfl, hK⟩ := hrel
    obtain ⟨k1, hk1⟩ : ∃ k1, k1 = k + 1 := ⟨_, rfl⟩
    rw [← hk1]
    by_cases hlt : k1 < n
    · have dk : decide ((k1 : Int) < (n : Int)) = true := by simp; omega
      have dk' : decide (k1 < n) = true := by simp; omega
      have ww : IntKind.i64.wrap ((k1 : Int) + 1) = ((k1 + 1 : Nat) : Int) := by have := HN.out; rw [IntKind.wrap_i64]; omega
      have ws : IntKind.i64.wrap ((k1 : Int) - 1) = (k : Int) := by have := HN.out; rw [IntKind.wrap_i64]; omega
      have hb1 : (k1 : Int) < (n : Int) := by omega
      have hb2 : (k : Int) < (n : Int) := by omega
      have I1 := HI.out k k1 (by omega) hlt
      have dv : decide (V k1 ≤ V k) = false := by simp; omega
      rcases HH.out.below hK.out with h0 | ⟨g, off, rfl, hg, hc⟩
      · omega
      · have e1 := hc k1 hlt
        have e2 := hc k (by omega)
        clear hc I1 hg
        have HL := hide (And.intro hlt hk1)
        clear hk hk1
        generalize V k1 = y1 at *
        generalize V k = y2 at *
        go_wp2_with fail
        go_quiet (fail)
        go_wp2_with fail
        go_roundw
        case rel => exact ⟨k1, .inl HL.out.1, by first | rfl | go_num, hK.out.trans (Kp.drewN [] _ _) (by simp)⟩
        case measure => simp [intOf]; have := HL.out.1; omega
    · have dk : decide ((k1 : Int) < (n : Int)) = false := by simp; omega
      have dk' : decide (k1 < n) = false := by simp; omega
      have hmk := HMK.out
      obtain ⟨m1, hm1⟩ : ∃ m1, m1 = n + 1 := ⟨_, rfl⟩
      rw [← hm1] at hmk
      have hn1 : (n : Int) + 1 = (m1 : Int) := by omega
      have aw : IntKind.i64.wrap (m1 : Int) = (m1 : Int) := by have := HN.out; rw [IntKind.wrap_i64]; omega
      have HM1 := hide hm1
      have bR := fun z W => buildR z m1 m1 W
      have hp := ptrR
      have RD := hide (fun W (k : Kp [] w W) => HH.out.below k)
      clear hm1 hk hk1 hlt
      go_wp2_with (at_builtin; refine wpList_cloneRd rfl _ _ rfl rfl n c _ V rfl (RD.out _ ((hK.out.allocK _).allocK _)) (by have := HN.out; omega) ?_)
      intro v' w' r1 g1
      obtain ⟨pv, cv, rfl⟩ := row_slice r1
      have k1' : Kp [] ((wr.alloc (.cells (madeCells #[.int .i64 0] m1) 2)).alloc (.cells #[.bool true, .slice none 0 0, .slice (some ⟨wr.heap.size, 0, none⟩) m1 m1] 68)) w' := (Kp.refl _ _).grown g1 (by simp)
      have G := hide (RM.made (B := w.heap.size) HM1.out HN.out hK.out.size r1 k1')
      have b0 := heap_alloc_new (wr.alloc (.cells (madeCells #[.int .i64 0] m1) 2)) (.cells #[.bool true, .slice none 0 0, .slice (some ⟨wr.heap.size, 0, none⟩) m1 m1] 68)
      rw [show (wr.alloc (.cells (madeCells #[.int .i64 0] m1) 2)).heap.size = wr.heap.size + 1 by simp] at b0
      have b1 := k1'.blk b0 (by simp)
      have fr := free_of_blk b1 1
      have cc : w'.cell? ⟨wr.heap.size + 1, 1, none⟩ = some (.slice none 0 0) := by simp [cell_of_blk b1]
      have hz := hK.out.size
      have KK := hide ((((hK.out.allocK (.cells (madeCells #[.int .i64 0] m1) 2)).allocK (.cells #[.bool true, .slice none 0 0, .slice (some ⟨wr.heap.size, 0, none⟩) m1 m1] 68)).trans0 k1').trans (Kp.set (o := [wr.heap.size + 1]) w' ⟨wr.heap.size + 1, 1, none⟩ (.slice pv n cv) (by simp)) (fun z hz' => .inr (by simp at hz'; omega)))
      clear r1 g1 k1' b0 b1 bR RD hz
      go_wp2_with fail
      go_ret2
      exact ⟨_, _, _, rfl, G.out, KK.out⟩
structure RG (B : Nat) (w : World) (b : Nat) (vB vC : Value) (m : Nat) (V C : Nat → Int) : Prop where
  M : RM B w b vB vC m V C
  hm : m ≤ 1024
  nn : ∀ i, i < m + 1 → 0 ≤ C i
  top : sumI C (m + 1) ≤ 9223372036854775807
def RI (S : Nat) (w : World) (a : Id) (m : Nat) (V C : Nat → Int) : Prop := RG S w a.b a.vB a.vC m V C
theorem RI.keep {S : Nat} {w w' : World} {a : Id} {m : Nat} {V C : Nat → Int} {o : Id} (h : RI S w a m V C) (k : Kp o.own w w') (d : dis a o) : RI S w' a m V C := ⟨h.M.keep k d, h.hm, h.nn, h.top⟩
theorem RI.keep0 {S : Nat} {w w' : World} {a : Id} {m : Nat} {V C : Nat → Int} (h : RI S w a m V C) (k : Kp [] w w') : RI S w' a m V C := ⟨h.M.keep k (by simp), h.hm, h.nn, h.top⟩
theorem RI.base {S S' : Nat} {w : World} {a : Id} {m : Nat} {V C : Nat → Int} (h : RI S w a m V C) (hs : S' ≤ S) : RI S' w a m V C :=
  ⟨⟨h.M.blk, row_mono h.M.rB hs, row_mono h.M.rC hs, Nat.le_trans hs h.M.ge, h.M.nB, h.M.nC, h.M.ne⟩, h.hm, h.nn, h.top⟩
theorem RI.lt {S : Nat} {w : World} {a : Id} {m : Nat} {V C : Nat → Int} (h : RI S w a m V C) : ∀ x ∈ a.own, S ≤ x ∧ x < w.heap.size := h.M.lt
theorem rnew_i {w : World} {p : Option Addr} {n c : Nat} {V : Nat → Int} (h : Rd1 w p n V) (hn : n ≤ 1024) (inc : Inc V n) :
    Calls Try.prog 16 #[.slice p n c] w fun e w' => ∃ a : Id, e = .returned (.tuple #[.pointer (some ⟨a.b, 0, none⟩), .int .i64 0]) ∧ RI w.heap.size w' a n V (fun _ => 0) ∧ Kp [] w w' := by
  refine (rnew_t h hn inc).mono ?_
  rintro e w' ⟨b, vB, vC, rfl, M, k⟩
  exact ⟨⟨b, vB, vC⟩, rfl, ⟨M, hn, fun _ _ => Int.le_refl _, by rw [sumI_zero]; decide⟩, k⟩
set_option maxRecDepth 100000 in
set_option maxHeartbeats 4000000 in
theorem radd {S : Nat} {w : World} {a : Id} {m : Nat} {V C : Nat → Int} (G : RI S w a m V C) (x t : Int) (it : I64 t) :
    Calls Try.prog 19 #[.pointer (some ⟨a.b, 0, none⟩), .int .i64 x, .int .i64 t] w fun e w' => e = .returned (.int .i64 (addE C m t)) ∧ RI S w' a m V (addF V m C x t) ∧ Kp a.own w w' := by
  obtain ⟨b, vB, vC⟩ := a
  have M : RM S w b vB vC m V C := G.M
  have hm := G.hm
  have T := hide (rtotal_t M hm G.nn G.top)
  have v0 := hide (rvalid_t M.c.1)
  have s0 := sumI_nn G.nn (m + 1) (Nat.le_refl _)
  have s1 := G.top
  unfold I64 at it
  have nn' := addF_nn (V := V) (x := x) (t := t) G.nn
  have top' := addF_top (V := V) (x := x) (t := t) G.top
  have HN' := hide nn'
  have HT' := hide top'
  clear nn' top'
  by_cases h1 : t < 0
  · have no : ¬ okA C m t := fun h => by have := h.1; omega
    have E : addE C m t = 2 := by unfold addE; rw [if_pos h1]
    have E2 : addF V m C x t = C := by unfold addF; rw [if_neg no]
    rw [E, E2]
    have dt : decide (t < 0) = true := by simpa using h1
    have HG := hide G
    clear G M hm T s0 s1 it no E E2 h1 HN' HT'
    go_enter Try.func19, Try.ntmps19
    go_wp2_with fail
    refine v0.out.mono ?_
    rintro e w' ⟨rfl, rfl⟩
    go_wp2_with fail
    go_ret
    exact ⟨rfl, HG.out, Kp.refl _ _⟩
  · have dt : decide (t < 0) = false := by simpa using h1
    have wz : IntKind.i64.wrap (9223372036854775807 - sumI C (m + 1)) = 9223372036854775807 - sumI C (m + 1) := by rw [IntKind.wrap_i64]; omega
    obtain ⟨y, hy⟩ : ∃ y, y = 9223372036854775807 - sumI C (m + 1) := ⟨_, rfl⟩
    rw [← hy] at wz
    by_cases h2 : 9223372036854775807 < sumI C (m + 1) + t
    · have no : ¬ okA C m t := fun h => by have := h.2; omega
      have E : addE C m t = 7 := by unfold addE; rw [if_neg h1, if_pos h2]
      have E2 : addF V m C x t = C := by unfold addF; rw [if_neg no]
      rw [E, E2]
      have d2 : decide (y < t) = true := by simp; omega
      have HG := hide G
      have HY := hide hy
      have wz' : IntKind.i64.wrap (9223372036854775807 - sumI C (m + 1)) = y := by rw [← HY.out, IntKind.wrap_i64]; omega
      clear G M hm it no E E2 h1 h2 HN' HT' hy wz s0 s1
      generalize sumI C (m + 1) = z at *
      go_enter Try.func19, Try.ntmps19
      go_wp2_with fail
      refine v0.out.mono ?_
      rintro e w' ⟨rfl, rfl⟩
      go_wp2_with fail
      refine T.out.mono ?_
      rintro e w' ⟨rfl, rfl⟩
      go_wp2_with fail
      go_ret
      exact ⟨rfl, HG.out, Kp.refl _ _⟩
    · have yes : okA C m t := ⟨by omega, by omega⟩
      have E : addE C m t = 0 := by unfold addE; rw [if_neg h1, if_neg h2]
      have E2 : addF V m C x t = updI C (bk V x m) (C (bk V x m) + t) := by unfold addF; rw [if_pos yes]
      rw [E2] at HN' HT' ⊢
      rw [E]
      have d2 : decide (y < t) = false := by simp; omega
      have HY := hide hy
      have wz' : IntKind.i64.wrap (9223372036854775807 - sumI C (m + 1)) = y := by rw [← HY.out, IntKind.wrap_i64]; omega
      have BU := hide (rbucket_t (M.keep (Kp.drewN [] w 1) (by simp)) hm x)
      have MD := hide (M.keep (Kp.drewN [] w 1) (by simp))
      have rb := bk_le V x m
      have q1 := sumI_mono G.nn (m + 1) (bk V x m + 1) (by omega) (Nat.le_refl _)
      have q2 := sumI_nn G.nn (bk V x m) (by omega)
      have q3 : sumI C (bk V x m + 1) = sumI C (bk V x m) + C (bk V x m) := rfl
      have q4 := G.nn (bk V x m) (by omega)
      have wa := hide (show IntKind.i64.wrap (C (bk V x m) + t) = C (bk V x m) + t by rw [IntKind.wrap_i64]; omega)
      have HMM := hide hm
      have RB := hide rb
      obtain ⟨g, c, rfl⟩ := M.C_at
      have hp := ptrR
      have c1 := M.c.2.2
      have f0 := MD.out.rC
      obtain ⟨gq, hq, e1, f1, _⟩ := row_cell M.rC (show bk V x m < m + 1 by omega)
      injection hq with hq; injection hq with hq; subst hq
      rw [intsI_get C (show bk V x m < m + 1 by omega)] at e1
      have b1 : ((bk V x m : Nat) : Int) < (m : Int) + 1 := by omega
      have b0 : (0 : Int) ≤ ((bk V x m : Nat) : Int) := by omega
      clear G M hm it yes E E2 h1 h2 hy wz s0 s1 q1 q2 q3 q4 rb f0
      generalize sumI C (m + 1) = z at *
      generalize bk V x m = r at *
      go_enter Try.func19, Try.ntmps19
      go_wp2_with fail
      refine v0.out.mono ?_
      rintro e w' ⟨rfl, rfl⟩
      go_wp2_with fail
      refine T.out.mono ?_
      rintro e w' ⟨rfl, rfl⟩
      go_wp2_with fail
      go_region_law (first | (go_simp; go_at_call 21; refine BU.out.mono ?_; rintro e w1 ⟨rfl, rfl⟩))
      all_goals
        rw [wa.out]
        have G := hide (RM.put MD.out r (C r + t))
        have GK := hide (((Kp.drewN [] w 1).mono (p := HM.own b vB (.slice (some ⟨g, 0, none⟩) (m + 1) c)) (by simp)).trans (Kp.set (o := HM.own b vB (.slice (some ⟨g, 0, none⟩) (m + 1) c)) w.drew ⟨g, r, none⟩ (.int .i64 (C r + t)) (by simp [HM.own, Value.ownBlock])) (fun z hz => .inl hz))
        clear e1 f1 b0 b1 BU c1
        go_wp2_with fail
        go_ret
        exact ⟨rfl, ⟨G.out, HMM.out, HN'.out, HT'.out⟩, GK.out⟩
end Go.Proofs.Ytenoalfjobghnaa
