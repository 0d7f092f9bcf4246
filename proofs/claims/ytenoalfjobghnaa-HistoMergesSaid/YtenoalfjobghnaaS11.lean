/- The specification's long division of wide integers. -/
import Derived.Test.YtenoalfjobghnaaS10
set_option linter.unusedVariables false
set_option linter.unusedSimpArgs false
namespace Go.Proofs.Ytenoalfjobghnaa
open Go.RowKit

/-- the memory of Divide: the number, the result's place, the quotient -/
structure DM (w : World) (s : Bool) (la : List Nat) (o : List Nat) (wr : World) : Prop where
  a : Arr w.heap.size 1 la wr
  n : wr.cell? ⟨w.heap.size, 0, none⟩ = some (.bool s)
  rn : wr.cell? ⟨w.heap.size + 1, 0, none⟩ = some (.bool false)
  rf : wr.frozen? ⟨w.heap.size + 1, 0, none⟩ = false
  r : Arr (w.heap.size + 1) 1 [0, 0, 0, 0, 0, 0] wr
  on : wr.cell? ⟨w.heap.size + 1 + 1, 0, none⟩ = some (.bool false)
  nf : wr.frozen? ⟨w.heap.size + 1 + 1, 0, none⟩ = false
  o : Arr (w.heap.size + 1 + 1) 1 o wr
  bel : Below w.heap.size w wr
theorem DM.step {w wr w1 : World} {s : Bool} {la o : List Nat} (h : DM w s la o wr) (b : Below wr.heap.size wr w1) : DM w s la o w1 :=
  ⟨h.a.step b, by rw [(bcell b).1 _ _ h.a.lt]; exact h.n, by rw [(bcell b).1 _ _ h.r.lt]; exact h.rn, by rw [(bcell b).2 _ _ h.r.lt]; exact h.rf, h.r.step b, by rw [(bcell b).1 _ _ h.o.lt]; exact h.on, by rw [(bcell b).2 _ _ h.o.lt]; exact h.nf, h.o.step b, h.bel.trans (b.mono h.bel.size)⟩
theorem DM.set {w wr : World} {s : Bool} {la o : List Nat} (h : DM w s la o wr) {k : Nat} (hk : k < o.length) {n : Int} {v : Nat} (hv : n = (v : Int)) : DM w s la (o.set k v) (wr.setCell ⟨w.heap.size + 1 + 1, 1 + k, none⟩ (.int .u64 n)) :=
  ⟨h.a.far (fun i _ => by simp <;> omega) _, by rw [cell_far (by simp <;> omega)]; exact h.n, by rw [cell_far (by simp)]; exact h.rn, by rw [World.frozen?_setCell]; exact h.rf, h.r.far (fun i _ => by simp) _, by rw [cell_far (by simp)]; exact h.on, by rw [World.frozen?_setCell]; exact h.nf, h.o.set hk hv, h.bel.setCell (by simp; omega) _⟩
theorem DM.set6 {w wr : World} {s : Bool} {la : List Nat} {o0 o1 o2 o3 o4 o5 : Nat} (h : DM w s la [o0, o1, o2, o3, o4, o5] wr) (g0 g1 g2 g3 g4 g5 : Nat) : DM w s la [g0, g1, g2, g3, g4, g5] (World.setCell (World.setCell (World.setCell (World.setCell (World.setCell (World.setCell wr ⟨w.heap.size + 1 + 1, 1, none⟩ (.int .u64 (g0 : Int))) ⟨w.heap.size + 1 + 1, 2, none⟩ (.int .u64 (g1 : Int))) ⟨w.heap.size + 1 + 1, 3, none⟩ (.int .u64 (g2 : Int))) ⟨w.heap.size + 1 + 1, 4, none⟩ (.int .u64 (g3 : Int))) ⟨w.heap.size + 1 + 1, 5, none⟩ (.int .u64 (g4 : Int))) ⟨w.heap.size + 1 + 1, 6, none⟩ (.int .u64 (g5 : Int))) := by
  have h1 := h.set (k := 0) (by simp) (n := (g0 : Int)) (v := g0) rfl
  have h2 := h1.set (k := 1) (by simp) (n := (g1 : Int)) (v := g1) rfl
  have h3 := h2.set (k := 2) (by simp) (n := (g2 : Int)) (v := g2) rfl
  have h4 := h3.set (k := 3) (by simp) (n := (g3 : Int)) (v := g3) rfl
  have h5 := h4.set (k := 4) (by simp) (n := (g4 : Int)) (v := g4) rfl
  exact h5.set (k := 5) (by simp) (n := (g5 : Int)) (v := g5) rfl
theorem DM.start (w : World) (s : Bool) (a0 a1 a2 a3 a4 a5 : Nat) : DM w s [a0, a1, a2, a3, a4, a5] [0, 0, 0, 0, 0, 0] (((w.alloc (.cells #[.bool s, .int .u64 (a0 : Int), .int .u64 (a1 : Int), .int .u64 (a2 : Int), .int .u64 (a3 : Int), .int .u64 (a4 : Int), .int .u64 (a5 : Int)] 86)).alloc (.cells #[.bool false, .int .u64 0, .int .u64 0, .int .u64 0, .int .u64 0, .int .u64 0, .int .u64 0] 86)).alloc (.cells #[.bool false, .int .u64 0, .int .u64 0, .int .u64 0, .int .u64 0, .int .u64 0, .int .u64 0] 86)) := by
  have x1 := Arr.new7 w s a0 a1 a2 a3 a4 a5 86
  have x2 := Arr.new7 (w.alloc (.cells #[.bool s, .int .u64 (a0 : Int), .int .u64 (a1 : Int), .int .u64 (a2 : Int), .int .u64 (a3 : Int), .int .u64 (a4 : Int), .int .u64 (a5 : Int)] 86)) false 0 0 0 0 0 0 86
  have x3 := Arr.new7 ((w.alloc (.cells #[.bool s, .int .u64 (a0 : Int), .int .u64 (a1 : Int), .int .u64 (a2 : Int), .int .u64 (a3 : Int), .int .u64 (a4 : Int), .int .u64 (a5 : Int)] 86)).alloc (.cells #[.bool false, .int .u64 0, .int .u64 0, .int .u64 0, .int .u64 0, .int .u64 0, .int .u64 0] 86)) false 0 0 0 0 0 0 86
  rw [show (w.alloc (.cells #[.bool s, .int .u64 (a0 : Int), .int .u64 (a1 : Int), .int .u64 (a2 : Int), .int .u64 (a3 : Int), .int .u64 (a4 : Int), .int .u64 (a5 : Int)] 86)).heap.size = w.heap.size + 1 by simp] at x2
  rw [show ((w.alloc (.cells #[.bool s, .int .u64 (a0 : Int), .int .u64 (a1 : Int), .int .u64 (a2 : Int), .int .u64 (a3 : Int), .int .u64 (a4 : Int), .int .u64 (a5 : Int)] 86)).alloc (.cells #[.bool false, .int .u64 0, .int .u64 0, .int .u64 0, .int .u64 0, .int .u64 0, .int .u64 0] 86)).heap.size = w.heap.size + 1 + 1 by simp] at x3
  refine ⟨(x1.alloc _ _).alloc _ _, by simp [go_sem], by simp [go_sem], by simp [go_sem], x2.alloc _ _, by simp [go_sem], by simp [go_sem], x3, ?_⟩
  exact (((Below.refl w.heap.size w).alloc (Nat.le_refl _) _).alloc (by simp) _).alloc (by simp; omega) _

/-- the memory of Divide behind the quotient's sign -/
structure DT (w : World) (o : List Nat) (wr : World) : Prop where
  rn : wr.cell? ⟨w.heap.size + 1, 0, none⟩ = some (.bool false)
  rf : wr.frozen? ⟨w.heap.size + 1, 0, none⟩ = false
  r : Arr (w.heap.size + 1) 1 [0, 0, 0, 0, 0, 0] wr
  on : wr.cell? ⟨w.heap.size + 1 + 1, 0, none⟩ = some (.bool true)
  o : Arr (w.heap.size + 1 + 1) 1 o wr
  bel : Below w.heap.size w wr
theorem DM.neg {w wr : World} {s : Bool} {la o : List Nat} (h : DM w s la o wr) : DT w o (wr.setCell ⟨w.heap.size + 1 + 1, 0, none⟩ (.bool true)) :=
  ⟨by rw [cell_far (by simp)]; exact h.rn, by rw [World.frozen?_setCell]; exact h.rf, h.r.far (fun i _ => by simp) _, by rw [World.cell?_setCell_same _ _ _ h.on], h.o.far (fun i _ => by simp) _, h.bel.setCell (by simp; omega) _⟩
theorem DT.step {w wr w1 : World} {o : List Nat} (h : DT w o wr) (b : Below wr.heap.size wr w1) : DT w o w1 :=
  ⟨by rw [(bcell b).1 _ _ h.r.lt]; exact h.rn, by rw [(bcell b).2 _ _ h.r.lt]; exact h.rf, h.r.step b, by rw [(bcell b).1 _ _ h.o.lt]; exact h.on, h.o.step b, h.bel.trans (b.mono h.bel.size)⟩
theorem DT.drew {w wr : World} {o : List Nat} (h : DT w o wr) : DT w o wr.drew := ⟨h.rn, h.rf, ⟨h.r.cell, h.r.free, h.r.lt⟩, h.on, ⟨h.o.cell, h.o.free, h.o.lt⟩, h.bel.drew⟩

/-- what Divide returns: the quotient, rounded down, and a number -/
def VPost (z : Int) (w : World) (e : Ending) (w' : World) : Prop := ∃ (s : Bool) (c0 c1 c2 c3 c4 c5 : Nat) (r : Int), e = .returned (.tuple #[.agg #[.bool s, .int .u64 (c0 : Int), .int .u64 (c1 : Int), .int .u64 (c2 : Int), .int .u64 (c3 : Int), .int .u64 (c4 : Int), .int .u64 (c5 : Int)], .int .i64 r]) ∧ Rep z s c0 c1 c2 c3 c4 c5 ∧ Below w.heap.size w w'

set_option maxRecDepth 100000 in
set_option maxHeartbeats 2000000 in
theorem divide_ (s : Bool) (a0 a1 a2 a3 a4 a5 : Nat) (ha : Dig a0 a1 a2 a3 a4 a5) (c : Nat) (hc1 : 1 ≤ c) (hc2 : c ≤ 9223372036854775807) (w : World) :
    Calls Try.prog 52 #[.agg #[.bool s, .int .u64 (a0 : Int), .int .u64 (a1 : Int), .int .u64 (a2 : Int), .int .u64 (a3 : Int), .int .u64 (a4 : Int), .int .u64 (a5 : Int)], .int .i64 (c : Int)] w (VPost (vz s (n6 a0 a1 a2 a3 a4 a5) / (c : Int)) w) := by
  have D0 := hide (DM.start w s a0 a1 a2 a3 a4 a5)
  have HM := hide (n6_lt ha)
  have I0 := hide (DI.start HM.out hc1)
  have BT := hide (fun i hi => bit_ a0 a1 a2 a3 a4 a5 ha i hi)
  have PM := hide (plus_)
  generalize hMM : n6 a0 a1 a2 a3 a4 a5 = M at *
  have hcc1 : (1 : Int) ≤ c := by omega
  have hcc2 : (c : Int) ≤ 9223372036854775807 := by omega
  have ec : IntKind.u64.wrap (c : Int) = (c : Int) := uw_in (by omega)
  have HC1 := hide hc1
  have HC2 := hide hc2
  clear ha hMM hc1 hc2
  go_enter Try.func52, Try.ntmps52
  go_wp2_with fail
  go_loopw [7, 8] (fun rm i wr => ∃ (n : Int) (rem o0 o1 o2 o3 o4 o5 : Nat), -1 ≤ n ∧ n ≤ 191 ∧ i = .int .i64 n ∧ rm = .int .u64 (rem : Int) ∧ Hid (DI M c (n + 1).toNat rem o0 o1 o2 o3 o4 o5) ∧ Hid (DM w s [a0, a1, a2, a3, a4, a5] [o0, o1, o2, o3, o4, o5] wr)) (fun _ i _ => (intOf i + 1).toNat)
  case atStart => exact ⟨191, 0, 0, 0, 0, 0, 0, 0, by omega, by omega, rfl, rfl, I0, D0⟩
  case round =>
    obtain ⟨n, rem, o0, o1, o2, o3, o4, o5, hn0, hn1, rfl, rfl, hI, hM⟩ := hrel
    clear I0 D0
    by_cases hge : 0 ≤ n
    · obtain ⟨j, rfl⟩ := Int.eq_ofNat_of_zero_le hge
      rw [show ((j : Int) + 1).toNat = j + 1 by omega] at hI
      have hj : j < 192 := by omega
      have hrem : rem < c := hI.out.2.2
      have TW2 := hide (hI.out.twice HM.out)
      have LO := hide (fun g0 g1 g2 g3 g4 g5 (hg : Dig g0 g1 g2 g3 g4 g5) eg hlt => hI.out.low hg eg hlt)
      have HIG := hide (fun g0 g1 g2 g3 g4 g5 u (hg : Dig g0 g1 g2 g3 g4 g5) eg h => hI.out.high (u := u) hg eg h)
      have MT := hide (fun h => more_t o0 o1 o2 o3 o4 o5 o0 o1 o2 o3 o4 o5 hI.out.1 hI.out.1 h)
      have B1 := hide (BT.out j hj)
      have hb : M / 2 ^ j % 2 < 2 := Nat.mod_lt _ (by decide)
      generalize M / 2 ^ j % 2 = b at *
      have E1 := hide (show IntKind.u64.wrap (2 * (rem : Int)) = ((2 * rem : Nat) : Int) by have := HC2.out; rw [IntKind.wrap_u64]; omega)
      have E2 := hide (show IntKind.u64.wrap (((2 * rem : Nat) : Int) + (b : Int)) = ((2 * rem + b : Nat) : Int) by have := HC2.out; rw [IntKind.wrap_u64]; omega)
      have TL := hide (show 2 * rem + b < 18446744073709551616 by have := HC2.out; omega)
      generalize 2 * rem + b = t at *
      generalize 2 * rem = r2 at *
      have e1 := E1.out
      have e2 := E2.out
      clear E1 E2 hI hrem hb
      have ca0 := hM.out.a.cell 0 (by simp)
      have ca1 := hM.out.a.cell 1 (by simp)
      have ca2 := hM.out.a.cell 2 (by simp)
      have ca3 := hM.out.a.cell 3 (by simp)
      have ca4 := hM.out.a.cell 4 (by simp)
      have ca5 := hM.out.a.cell 5 (by simp)
      simp only [Nat.reduceAdd, Nat.add_zero, List.getD_cons_zero, List.getD_cons_succ] at ca0 ca1 ca2 ca3 ca4 ca5
      go_wp2_with fail
      refine (B1.out _).mono ?_
      rintro e w1 ⟨rfl, b1⟩
      have M1 := hide (hM.out.step b1)
      clear b1 ca0 ca1 ca2 ca3 ca4 ca5 hM
      have co0 := M1.out.o.cell 0 (by simp)
      have co1 := M1.out.o.cell 1 (by simp)
      have co2 := M1.out.o.cell 2 (by simp)
      have co3 := M1.out.o.cell 3 (by simp)
      have co4 := M1.out.o.cell 4 (by simp)
      have co5 := M1.out.o.cell 5 (by simp)
      simp only [Nat.reduceAdd, Nat.add_zero, List.getD_cons_zero, List.getD_cons_succ] at co0 co1 co2 co3 co4 co5
      go_wp2_with fail
      refine (MT.out TW2.out _).mono ?_
      rintro e w2 ⟨g0, g1, g2, g3, g4, g5, rfl, hg, eg, b2⟩
      have M2 := hide (M1.out.step b2)
      have M3 := hide (M2.out.set6 g0 g1 g2 g3 g4 g5)
      have GB := hide (dbl_even hg eg)
      clear b2 co0 co1 co2 co3 co4 co5 M1 e1 e2
      have co0 := M2.out.o.cell 0 (by simp)
      have co1 := M2.out.o.cell 1 (by simp)
      have co2 := M2.out.o.cell 2 (by simp)
      have co3 := M2.out.o.cell 3 (by simp)
      have co4 := M2.out.o.cell 4 (by simp)
      have co5 := M2.out.o.cell 5 (by simp)
      have fo0 := M2.out.o.free 0 (by simp)
      have fo1 := M2.out.o.free 1 (by simp)
      have fo2 := M2.out.o.free 2 (by simp)
      have fo3 := M2.out.o.free 3 (by simp)
      have fo4 := M2.out.o.free 4 (by simp)
      have fo5 := M2.out.o.free 5 (by simp)
      simp only [Nat.reduceAdd, Nat.add_zero, List.getD_cons_zero, List.getD_cons_succ] at co0 co1 co2 co3 co4 co5 fo0 fo1 fo2 fo3 fo4 fo5
      by_cases hct : c ≤ t
      · obtain ⟨u, hu⟩ : ∃ u, t = c + u := ⟨t - c, by omega⟩
        have H2 := hide (HIG.out g0 g1 g2 g3 g4 g5 u hg eg hu)
        have t1 : decide (c ≤ t) = true := by simpa using hct
        have eu : IntKind.u64.wrap ((t : Int) - (c : Int)) = (u : Int) := by have := TL.out; rw [IntKind.wrap_u64]; omega
        have eg1 : IntKind.u64.wrap ((g0 : Int) + 1) = ((g0 + 1 : Nat) : Int) := by have := GB.out; rw [IntKind.wrap_u64]; omega
        have M4 := hide (M3.out.set (k := 0) (by simp) (n := ((g0 + 1 : Nat) : Int)) (v := g0 + 1) rfl)
        clear hg eg HIG LO hu M2
        generalize g0 + 1 = y at *
        go_wp2_with fail
        go_roundw
        case rel => exact ⟨(j : Int) - 1, u, y, g1, g2, g3, g4, g5, by omega, by omega, rfl, rfl, by rw [show ((j : Int) - 1 + 1).toNat = j by omega]; exact H2, M4⟩
        case measure => simp only [intOf]; omega
      · have H2 := hide (LO.out g0 g1 g2 g3 g4 g5 hg eg (by omega))
        have t1 : decide (c ≤ t) = false := by simpa using hct
        clear hg eg HIG LO M2
        go_wp2_with fail
        go_roundw
        case rel => exact ⟨(j : Int) - 1, t, g0, g1, g2, g3, g4, g5, by omega, by omega, rfl, rfl, by rw [show ((j : Int) - 1 + 1).toNat = j by omega]; exact H2, M3⟩
        case measure => simp only [intOf]; omega
    · have hn : n = -1 := by omega
      subst hn
      have hI0 : DI M c 0 rem o0 o1 o2 o3 o4 o5 := hI.out
      obtain ⟨eM, hrc⟩ := hI0.done
      have DG := hide hI0.1
      have co0 := hM.out.o.cell 0 (by simp)
      have co1 := hM.out.o.cell 1 (by simp)
      have co2 := hM.out.o.cell 2 (by simp)
      have co3 := hM.out.o.cell 3 (by simp)
      have co4 := hM.out.o.cell 4 (by simp)
      have co5 := hM.out.o.cell 5 (by simp)
      have ro0 := hM.out.r.cell 0 (by simp)
      have ro1 := hM.out.r.cell 1 (by simp)
      have ro2 := hM.out.r.cell 2 (by simp)
      have ro3 := hM.out.r.cell 3 (by simp)
      have ro4 := hM.out.r.cell 4 (by simp)
      have ro5 := hM.out.r.cell 5 (by simp)
      have rf0 := hM.out.r.free 0 (by simp)
      have rf1 := hM.out.r.free 1 (by simp)
      have rf2 := hM.out.r.free 2 (by simp)
      have rf3 := hM.out.r.free 3 (by simp)
      have rf4 := hM.out.r.free 4 (by simp)
      have rf5 := hM.out.r.free 5 (by simp)
      simp only [Nat.reduceAdd, Nat.add_zero, List.getD_cons_zero, List.getD_cons_succ, Int.natCast_zero] at co0 co1 co2 co3 co4 co5 ro0 ro1 ro2 ro3 ro4 ro5 rf0 rf1 rf2 rf3 rf4 rf5
      have con := hM.out.on
      have cnf := hM.out.nf
      have rn := hM.out.rn
      have rfn := hM.out.rf
      have BEL := hide hM.out.bel
      have cn := hM.out.n
      have er : (rem : Int) ≤ 9223372036854775807 := by have := HC2.out; omega
      cases s with
      | false =>
        have QP := hide (quo_pos eM hrc)
        clear eM hI hI0 cnf BT PM hcc1 hcc2 ec hrc
        go_wp2_with fail
        refine bodyPost_ret (v := .tuple #[.agg #[.bool false, .int .u64 (o0 : Int), .int .u64 (o1 : Int), .int .u64 (o2 : Int), .int .u64 (o3 : Int), .int .u64 (o4 : Int), .int .u64 (o5 : Int)], .int .i64 (rem : Int)]) (by simp [results, Try.results52, go_sem, rn, ro0, ro1, ro2, ro3, ro4, ro5]) rfl ⟨false, o0, o1, o2, o3, o4, o5, _, rfl, ⟨DG.out, QP.out⟩, (((((((BEL.out.setCell (by simp <;> omega) _).setCell (by simp) _).setCell (by simp) _).setCell (by simp) _).setCell (by simp) _).setCell (by simp) _).setCell (by simp) _)⟩
      | true =>
        have M2 := hide (hM.out.neg)
        by_cases h0 : rem = 0
        · subst h0
          have QP := hide (quo_neg eM HC1.out)
          clear eM hI hI0 BT PM hcc1 hcc2 ec hrc
          go_wp2_with fail
          refine bodyPost_ret (v := .tuple #[.agg #[.bool true, .int .u64 (o0 : Int), .int .u64 (o1 : Int), .int .u64 (o2 : Int), .int .u64 (o3 : Int), .int .u64 (o4 : Int), .int .u64 (o5 : Int)], .int .i64 0]) (by simp [results, Try.results52, go_sem, rn, ro0, ro1, ro2, ro3, ro4, ro5]) rfl ⟨true, o0, o1, o2, o3, o4, o5, _, rfl, ⟨DG.out, QP.out⟩, ((((((((BEL.out.setCell (by simp <;> omega) _).setCell (by simp) _).setCell (by simp) _).setCell (by simp) _).setCell (by simp) _).setCell (by simp) _).setCell (by simp) _).setCell (by simp) _)⟩
        · have QP := hide (quo_down eM hrc h0)
          have t0 : (rem == 0) = false := by simpa using h0
          have t1 : ((rem : Int) == 0) = false := by rw [beq_eq_false_iff_ne]; omega
          have FR := hide (from_ (-1) (by unfold I64; omega))
          have hbd : (vz true (n6 o0 o1 o2 o3 o4 o5)).natAbs + (-1 : Int).natAbs < 4294967296 ^ 6 := by
            rw [vz_abs]
            have h1 : n6 o0 o1 o2 o3 o4 o5 * 1 ≤ n6 o0 o1 o2 o3 o4 o5 * c := Nat.mul_le_mul_left _ HC1.out
            have := HM.out
            have h2 : (-1 : Int).natAbs = 1 := rfl
            rw [h2]; omega
          have HBD := hide hbd
          clear eM hI hI0 BT hcc1 hcc2 ec hrc hbd h0
          clear co0 co1 co2 co3 co4 co5 ro0 ro1 ro2 ro3 ro4 ro5 rf0 rf1 rf2 rf3 rf4 rf5 rn rfn BEL hM
          go_wp2_with fail
          clear con cnf cn
          obtain ⟨V, hV⟩ : ∃ V, V = wr.setCell ⟨w.heap.size + 1 + 1, 0, none⟩ (.bool true) := ⟨_, rfl⟩
          rw [← hV] at M2 ⊢
          clear hV
          have co0 := M2.out.o.cell 0 (by simp)
          have co1 := M2.out.o.cell 1 (by simp)
          have co2 := M2.out.o.cell 2 (by simp)
          have co3 := M2.out.o.cell 3 (by simp)
          have co4 := M2.out.o.cell 4 (by simp)
          have co5 := M2.out.o.cell 5 (by simp)
          have ro0 := M2.out.r.cell 0 (by simp)
          have ro1 := M2.out.r.cell 1 (by simp)
          have ro2 := M2.out.r.cell 2 (by simp)
          have ro3 := M2.out.r.cell 3 (by simp)
          have ro4 := M2.out.r.cell 4 (by simp)
          have ro5 := M2.out.r.cell 5 (by simp)
          have rf0 := M2.out.r.free 0 (by simp)
          have rf1 := M2.out.r.free 1 (by simp)
          have rf2 := M2.out.r.free 2 (by simp)
          have rf3 := M2.out.r.free 3 (by simp)
          have rf4 := M2.out.r.free 4 (by simp)
          have rf5 := M2.out.r.free 5 (by simp)
          simp only [Nat.reduceAdd, Nat.add_zero, List.getD_cons_zero, List.getD_cons_succ, Int.natCast_zero] at co0 co1 co2 co3 co4 co5 ro0 ro1 ro2 ro3 ro4 ro5 rf0 rf1 rf2 rf3 rf4 rf5
          have con := M2.out.on
          have rn := M2.out.rn
          have rfn := M2.out.rf
          obtain ⟨X, hX⟩ : ∃ X : Int, IntKind.i64.wrap ((c : Int) - IntKind.i64.wrap (rem : Int)) = X := ⟨_, rfl⟩
          go_region_law (first
            | (go_simp; go_at_call 54; refine (FR.out _).mono ?_; rintro e w3 ⟨r', d0, d1, d2, d3, d4, d5, rfl, hd, b3⟩; have HD := hide hd; have M3 := hide (M2.out.drew.step b3); have xc30 := M3.out.o.cell 0 (by simp); have xc31 := M3.out.o.cell 1 (by simp); have xc32 := M3.out.o.cell 2 (by simp); have xc33 := M3.out.o.cell 3 (by simp); have xc34 := M3.out.o.cell 4 (by simp); have xc35 := M3.out.o.cell 5 (by simp); have xr30 := M3.out.r.cell 0 (by simp); have xr31 := M3.out.r.cell 1 (by simp); have xr32 := M3.out.r.cell 2 (by simp); have xr33 := M3.out.r.cell 3 (by simp); have xr34 := M3.out.r.cell 4 (by simp); have xr35 := M3.out.r.cell 5 (by simp); have xf30 := M3.out.r.free 0 (by simp); have xf31 := M3.out.r.free 1 (by simp); have xf32 := M3.out.r.free 2 (by simp); have xf33 := M3.out.r.free 3 (by simp); have xf34 := M3.out.r.free 4 (by simp); have xf35 := M3.out.r.free 5 (by simp); simp only [Nat.reduceAdd, Nat.add_zero, List.getD_cons_zero, List.getD_cons_succ, Int.natCast_zero] at xc30 xc31 xc32 xc33 xc34 xc35 xr30 xr31 xr32 xr33 xr34 xr35 xf30 xf31 xf32 xf33 xf34 xf35; have xn3 := M3.out.on; have xrn3 := M3.out.rn; have xrf3 := M3.out.rf; clear hd b3)
            | (go_simp; go_at_call 61; refine (PM.out _ _ true r' o0 o1 o2 o3 o4 o5 d0 d1 d2 d3 d4 d5 ⟨DG.out, rfl⟩ HD.out HBD.out _).mono ?_; rintro e w4 ⟨r4, g0, g1, g2, g3, g4, g5, rfl, hg, b4⟩; have HG := hide hg; have M4 := hide (M3.out.step b4); have xc40 := M4.out.o.cell 0 (by simp); have xc41 := M4.out.o.cell 1 (by simp); have xc42 := M4.out.o.cell 2 (by simp); have xc43 := M4.out.o.cell 3 (by simp); have xc44 := M4.out.o.cell 4 (by simp); have xc45 := M4.out.o.cell 5 (by simp); have xr40 := M4.out.r.cell 0 (by simp); have xr41 := M4.out.r.cell 1 (by simp); have xr42 := M4.out.r.cell 2 (by simp); have xr43 := M4.out.r.cell 3 (by simp); have xr44 := M4.out.r.cell 4 (by simp); have xr45 := M4.out.r.cell 5 (by simp); have xf40 := M4.out.r.free 0 (by simp); have xf41 := M4.out.r.free 1 (by simp); have xf42 := M4.out.r.free 2 (by simp); have xf43 := M4.out.r.free 3 (by simp); have xf44 := M4.out.r.free 4 (by simp); have xf45 := M4.out.r.free 5 (by simp); simp only [Nat.reduceAdd, Nat.add_zero, List.getD_cons_zero, List.getD_cons_succ, Int.natCast_zero] at xc40 xc41 xc42 xc43 xc44 xc45 xr40 xr41 xr42 xr43 xr44 xr45 xf40 xf41 xf42 xf43 xf44 xf45; have xn4 := M4.out.on; have xrn4 := M4.out.rn; have xrf4 := M4.out.rf; clear hg b4))
          all_goals (
            have BL4 := hide M4.out.bel
            clear co0 co1 co2 co3 co4 co5 ro0 ro1 ro2 ro3 ro4 ro5 rf0 rf1 rf2 rf3 rf4 rf5 con rn rfn xc30 xr30 xf30 xc31 xr31 xf31 xc32 xr32 xf32 xc33 xr33 xf33 xc34 xr34 xf34 xc35 xr35 xf35 xn3 xrn3 xrf3
            go_wp2_with fail
            refine bodyPost_ret (v := .tuple #[.agg #[.bool r4, .int .u64 (g0 : Int), .int .u64 (g1 : Int), .int .u64 (g2 : Int), .int .u64 (g3 : Int), .int .u64 (g4 : Int), .int .u64 (g5 : Int)], .int .i64 X]) (by simp [results, Try.results52, go_sem, hX, xrn4, xr40, xr41, xr42, xr43, xr44, xr45]) rfl ⟨r4, g0, g1, g2, g3, g4, g5, _, rfl, ?_, (((((((BL4.out.setCell (by simp) _).setCell (by simp) _).setCell (by simp) _).setCell (by simp) _).setCell (by simp) _).setCell (by simp) _).setCell (by simp) _)⟩
            unfold Rep
            rw [QP.out]
            exact HG.out)
end Go.Proofs.Ytenoalfjobghnaa
