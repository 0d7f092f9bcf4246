/- Differences of magnitudes, and which one is the greater, as the specification reckons them. -/
import Derived.Test.YtenoalfjobghnaaS
set_option linter.unusedVariables false
set_option linter.unusedSimpArgs false
namespace Go.Proofs.Ytenoalfjobghnaa
open Go.RowKit

/-- the difference, digit by digit: after k places -/
structure Les (la lb : List Nat) (k bw : Nat) (o : List Nat) : Prop where
  len : o.length = 6
  sm : small o
  c1 : bw ≤ 1
  eq : nl (o.take k) + nl (lb.take k) = nl (la.take k) + 4294967296 ^ k * bw
theorem Les.start (la lb : List Nat) : Les la lb 0 0 [0, 0, 0, 0, 0, 0] := ⟨rfl, by intro d hd; simp at hd; omega, by omega, by simp [nl]⟩
theorem Les.next {la lb : List Nat} {k bw : Nat} {o : List Nat} (h : Les la lb k bw o) (ha : la.length = 6) (hb : lb.length = 6) (hk : k < 6) (sa : small la) (sb : small lb) :
    Les la lb (k + 1) (1 - (la.getD k 0 + 4294967296 - lb.getD k 0 - bw) / 4294967296) (o.set k ((la.getD k 0 + 4294967296 - lb.getD k 0 - bw) % 4294967296)) := by
  have x := small_getD sa k
  have y := small_getD sb k
  have c := h.c1
  have hl := h.len
  refine ⟨by simp [hl], small_set h.sm k (Nat.mod_lt _ (by decide)), by omega, ?_⟩
  rw [nl_take (by simp [hl]; omega), take_set (by omega), getD_set (by omega), nl_take (by omega), nl_take (by omega)]
  have e := h.eq
  have hp : 4294967296 ^ (k + 1) = 4294967296 ^ k * 4294967296 := Nat.pow_succ ..
  generalize la.getD k 0 = p at *
  generalize lb.getD k 0 = q at *
  rw [hp]
  have hd : (p + 4294967296 - q - bw) % 4294967296 + q + bw = p + 4294967296 * (1 - (p + 4294967296 - q - bw) / 4294967296) := by omega
  generalize (p + 4294967296 - q - bw) % 4294967296 = r at *
  generalize 1 - (p + 4294967296 - q - bw) / 4294967296 = b' at *
  generalize 4294967296 ^ k = B at *
  have e2 : B * r + B * q + B * bw = B * p + B * 4294967296 * b' := by
    rw [← Nat.mul_add, ← Nat.mul_add, hd, Nat.mul_add, Nat.mul_assoc]
  omega
theorem Les.done {la lb : List Nat} {bw : Nat} {o : List Nat} (h : Les la lb 6 bw o) (ha : la.length = 6) (hb : lb.length = 6) (hm : nl lb ≤ nl la) : nl o = nl la - nl lb := by
  have e := h.eq
  have c := h.c1
  rw [List.take_of_length_le (by rw [h.len]; omega), List.take_of_length_le (by omega), List.take_of_length_le (by omega)] at e
  have hlt := nl_lt h.sm
  rw [h.len] at hlt
  have : bw = 0 := by
    rcases Nat.eq_zero_or_pos bw with z | z
    · exact z
    · have h1 : bw = 1 := by omega
      rw [h1] at e; omega
  rw [this] at e; omega

set_option maxRecDepth 100000 in
set_option maxHeartbeats 1000000 in
theorem less_t (a0 a1 a2 a3 a4 a5 b0 b1 b2 b3 b4 b5 : Nat) (ha : Dig a0 a1 a2 a3 a4 a5) (hb : Dig b0 b1 b2 b3 b4 b5) (hm : n6 b0 b1 b2 b3 b4 b5 ≤ n6 a0 a1 a2 a3 a4 a5) (w : World) :
    Calls Try.prog 66 #[.agg #[.int .u64 (a0 : Int), .int .u64 (a1 : Int), .int .u64 (a2 : Int), .int .u64 (a3 : Int), .int .u64 (a4 : Int), .int .u64 (a5 : Int)], .agg #[.int .u64 (b0 : Int), .int .u64 (b1 : Int), .int .u64 (b2 : Int), .int .u64 (b3 : Int), .int .u64 (b4 : Int), .int .u64 (b5 : Int)]] w (MPost (n6 a0 a1 a2 a3 a4 a5 - n6 b0 b1 b2 b3 b4 b5) w) := by
  have HA := hide ha
  have HB := hide hb
  have HM := hide hm
  clear ha hb hm
  go_enter Try.func66, Try.ntmps66
  go_wp2_with fail
  go_loopw [6, 7] (fun c i wr => ∃ (k cy : Nat) (o : List Nat), k ≤ 6 ∧ i = .int .i64 k ∧ c = .int .u64 cy ∧ Hid (Les [a0, a1, a2, a3, a4, a5] [b0, b1, b2, b3, b4, b5] k cy o) ∧ Hid (Mem w [a0, a1, a2, a3, a4, a5] [b0, b1, b2, b3, b4, b5] o wr)) (fun _ i _ => 6 - (intOf i).toNat)
  case atStart =>
    exact ⟨0, 0, [0, 0, 0, 0, 0, 0], by omega, rfl, rfl, Les.start _ _, Mem.start w a0 a1 a2 a3 a4 a5 b0 b1 b2 b3 b4 b5⟩
  case round =>
    obtain ⟨k, cy, o, hk, rfl, rfl, hI, hM⟩ := hrel
    by_cases hlt : k < 6
    · have ca := hM.out.a.cell k (by simp; omega)
      have cb := hM.out.b.cell k (by simp; omega)
      have co := hM.out.o.cell k (by rw [hI.out.len]; omega)
      have fo := hM.out.o.free k (by rw [hI.out.len]; omega)
      rw [Nat.zero_add] at ca cb co fo
      have xa := small_getD (small_six.2 HA.out) k
      have xb := small_getD (small_six.2 HB.out) k
      have NX := hide (hI.out.next rfl rfl hlt (small_six.2 HA.out) (small_six.2 HB.out))
      have hc1 := hI.out.c1
      have hol := hI.out.len
      generalize List.getD [a0, a1, a2, a3, a4, a5] k 0 = x at *
      generalize List.getD [b0, b1, b2, b3, b4, b5] k 0 = y at *
      generalize o.getD k 0 = z at *
      have x1 : (x : Int) < 4294967296 := by omega
      have y1 : (y : Int) < 4294967296 := by omega
      have c1 : (cy : Int) ≤ 1 := by omega
      have OL := hide hol
      have s1 : IntKind.u64.wrap ((x : Int) + 4294967296) = (x : Int) + 4294967296 := by rw [IntKind.wrap_u64]; omega
      have s2 : IntKind.u64.wrap ((x : Int) + 4294967296 - (y : Int)) = (x : Int) + 4294967296 - (y : Int) := by rw [IntKind.wrap_u64]; omega
      have s3 : IntKind.u64.wrap ((x : Int) + 4294967296 - (y : Int) - (cy : Int)) = ((x + 4294967296 - y - cy : Nat) : Int) := by rw [IntKind.wrap_u64]; omega
      have BD := hide (show x + 4294967296 - y - cy ≤ 8589934591 by omega)
      have NX2 : Hid (Les [a0, a1, a2, a3, a4, a5] [b0, b1, b2, b3, b4, b5] (k + 1) (1 - (x + 4294967296 - y - cy) / 4294967296) (o.set k ((x + 4294967296 - y - cy) % 4294967296))) := NX.out
      clear NX
      generalize x + 4294967296 - y - cy = t at *
      clear xa xb hc1 hol x1 y1 c1
      have ki : (k : Int) < 6 := by omega
      go_wp2_with fail
      go_quiet (fail)
      have bd : (t : Int) ≤ 8589934591 := by have := BD.out; omega
      clear s1 s2 s3
      go_wp2_with fail
      go_roundw
      case rel => exact ⟨k + 1, 1 - t / 4294967296, o.set k (t % 4294967296), by omega, by go_num, congrArg (Value.int .u64) (by have := BD.out; omega), NX2, (hM.out.drewN nq).set (by rw [OL.out]; exact hlt) (by omega)⟩
      case measure => simp only [intOf]; omega
    · have hke : k = 6 := by omega
      subst hke
      have hol := hI.out.len
      have hdn := hI.out.done rfl rfl (by rw [nl_six, nl_six]; exact HM.out)
      rw [nl_six, nl_six] at hdn
      obtain ⟨d0, d1, d2, d3, d4, d5, rfl⟩ := six hol
      rw [nl_six] at hdn
      have DN := hide hdn
      have SM := hide (small_six.1 hI.out.sm)
      have o0 := hM.out.o.cell 0 (by simp)
      have o1 := hM.out.o.cell 1 (by simp)
      have o2 := hM.out.o.cell 2 (by simp)
      have o3 := hM.out.o.cell 3 (by simp)
      have o4 := hM.out.o.cell 4 (by simp)
      have o5 := hM.out.o.cell 5 (by simp)
      have r0 := hM.out.r.cell 0 (by simp)
      have r1 := hM.out.r.cell 1 (by simp)
      have r2 := hM.out.r.cell 2 (by simp)
      have r3 := hM.out.r.cell 3 (by simp)
      have r4 := hM.out.r.cell 4 (by simp)
      have r5 := hM.out.r.cell 5 (by simp)
      have f0 := hM.out.r.free 0 (by simp)
      have f1 := hM.out.r.free 1 (by simp)
      have f2 := hM.out.r.free 2 (by simp)
      have f3 := hM.out.r.free 3 (by simp)
      have f4 := hM.out.r.free 4 (by simp)
      have f5 := hM.out.r.free 5 (by simp)
      simp only [Nat.zero_add, Nat.add_zero, List.getD_cons_zero, List.getD_cons_succ] at o0 o1 o2 o3 o4 o5 r0 r1 r2 r3 r4 r5 f0 f1 f2 f3 f4 f5
      have bel := hM.out.bel
      clear hdn hol
      go_wp2_with fail
      refine bodyPost_ret (v := .agg #[.int .u64 (d0 : Int), .int .u64 (d1 : Int), .int .u64 (d2 : Int), .int .u64 (d3 : Int), .int .u64 (d4 : Int), .int .u64 (d5 : Int)]) (by simp [results, Try.results66, go_sem, r0, r1, r2, r3, r4, r5]) rfl ⟨_, _, _, _, _, _, rfl, SM.out, DN.out, ?_⟩
      exact (((((bel.setCell (by simp; omega) _).setCell (by simp; omega) _).setCell (by simp; omega) _).setCell (by simp; omega) _).setCell (by simp; omega) _).setCell (by simp; omega) _

/-- which of two lists of digits is the greater number -/
theorem nl_split {l : List Nat} {j : Nat} (h : j < l.length) : nl l = nl (l.take j) + 4294967296 ^ j * (l.getD j 0 + 4294967296 * nl (l.drop (j + 1))) := by
  have e : l = l.take (j + 1) ++ l.drop (j + 1) := (List.take_append_drop _ _).symm
  conv => lhs; rw [e]
  rw [nl_append, nl_take h, List.length_take, Nat.min_eq_left (by omega), Nat.pow_succ, Nat.mul_add, Nat.mul_assoc]
  omega
theorem nl_less {l m : List Nat} {j : Nat} (hl : j < l.length) (hm : j < m.length) (sl : small l) (hd : l.drop (j + 1) = m.drop (j + 1)) (h : l.getD j 0 < m.getD j 0) : nl l < nl m := by
  rw [nl_split hl, nl_split hm, hd]
  have h1 : nl (l.take j) < 4294967296 ^ j := by
    have := nl_lt (l := l.take j) (fun d hd => sl d (List.mem_of_mem_take hd))
    rw [List.length_take, Nat.min_eq_left (by omega)] at this
    exact this
  generalize nl (m.drop (j + 1)) = t at *
  have h2 : 4294967296 ^ j * (l.getD j 0 + 1 + 4294967296 * t) ≤ 4294967296 ^ j * (m.getD j 0 + 4294967296 * t) := Nat.mul_le_mul_left _ (by omega)
  have h3 : 4294967296 ^ j * (l.getD j 0 + 1 + 4294967296 * t) = 4294967296 ^ j * (l.getD j 0 + 4294967296 * t) + 4294967296 ^ j := by
    rw [show l.getD j 0 + 1 + 4294967296 * t = (l.getD j 0 + 4294967296 * t) + 1 by omega, Nat.mul_add, Nat.mul_one]
  omega
theorem drop_eq {l m : List Nat} {j : Nat} (hl : j < l.length) (hm : j < m.length) (hd : l.drop (j + 1) = m.drop (j + 1)) (h : l.getD j 0 = m.getD j 0) : l.drop j = m.drop j := by
  rw [List.drop_eq_getElem_cons hl, List.drop_eq_getElem_cons hm, hd]
  simp [List.getD, hl, hm] at h
  rw [h]

set_option maxRecDepth 100000 in
set_option maxHeartbeats 1000000 in
theorem size_t (a0 a1 a2 a3 a4 a5 b0 b1 b2 b3 b4 b5 : Nat) (ha : Dig a0 a1 a2 a3 a4 a5) (hb : Dig b0 b1 b2 b3 b4 b5) (w : World) :
    Calls Try.prog 65 #[.agg #[.int .u64 (a0 : Int), .int .u64 (a1 : Int), .int .u64 (a2 : Int), .int .u64 (a3 : Int), .int .u64 (a4 : Int), .int .u64 (a5 : Int)], .agg #[.int .u64 (b0 : Int), .int .u64 (b1 : Int), .int .u64 (b2 : Int), .int .u64 (b3 : Int), .int .u64 (b4 : Int), .int .u64 (b5 : Int)]] w fun e w' => e = .returned (.int .i64 (sgn (n6 a0 a1 a2 a3 a4 a5 : Int) (n6 b0 b1 b2 b3 b4 b5 : Int))) ∧ Below w.heap.size w w' := by
  have HA := hide (small_six.2 ha)
  have HB := hide (small_six.2 hb)
  clear ha hb
  have e1 : (w.alloc (.cells #[.int .u64 (a0 : Int), .int .u64 (a1 : Int), .int .u64 (a2 : Int), .int .u64 (a3 : Int), .int .u64 (a4 : Int), .int .u64 (a5 : Int)] 84)).heap.size = w.heap.size + 1 := by simp
  have y1 := Arr.new w a0 a1 a2 a3 a4 a5 84
  have y2 := Arr.new (w.alloc (.cells #[.int .u64 (a0 : Int), .int .u64 (a1 : Int), .int .u64 (a2 : Int), .int .u64 (a3 : Int), .int .u64 (a4 : Int), .int .u64 (a5 : Int)] 84)) b0 b1 b2 b3 b4 b5 84
  rw [e1] at y2
  have Y1 := hide (y1.alloc #[.int .u64 (b0 : Int), .int .u64 (b1 : Int), .int .u64 (b2 : Int), .int .u64 (b3 : Int), .int .u64 (b4 : Int), .int .u64 (b5 : Int)] 84)
  have Y2 := hide y2
  have Y3 : Hid (Below w.heap.size w ((w.alloc (.cells #[.int .u64 (a0 : Int), .int .u64 (a1 : Int), .int .u64 (a2 : Int), .int .u64 (a3 : Int), .int .u64 (a4 : Int), .int .u64 (a5 : Int)] 84)).alloc (.cells #[.int .u64 (b0 : Int), .int .u64 (b1 : Int), .int .u64 (b2 : Int), .int .u64 (b3 : Int), .int .u64 (b4 : Int), .int .u64 (b5 : Int)] 84))) := ((Below.refl _ _).alloc (Nat.le_refl _) _).alloc (by simp) _
  have N : Hid (sgn (n6 a0 a1 a2 a3 a4 a5 : Int) (n6 b0 b1 b2 b3 b4 b5 : Int) = sgn (nl [a0, a1, a2, a3, a4, a5] : Int) (nl [b0, b1, b2, b3, b4, b5] : Int)) := by unfold Hid; rw [nl_six, nl_six]
  clear y1 y2 e1
  go_enter Try.func65, Try.ntmps65
  go_wp2_with fail
  go_loopw [5] (fun i wr => ∃ n : Int, -1 ≤ n ∧ n ≤ 5 ∧ i = .int .i64 n ∧ Hid ([a0, a1, a2, a3, a4, a5].drop (n + 1).toNat = [b0, b1, b2, b3, b4, b5].drop (n + 1).toNat) ∧ Hid (Arr w.heap.size 0 [a0, a1, a2, a3, a4, a5] wr) ∧ Hid (Arr (w.heap.size + 1) 0 [b0, b1, b2, b3, b4, b5] wr) ∧ Hid (Below w.heap.size w wr)) (fun i _ => (intOf i + 1).toNat)
  case atStart => exact ⟨5, by omega, by omega, rfl, rfl, Y1, Y2, Y3⟩
  case round =>
    obtain ⟨n, hn0, hn1, rfl, hD, hA, hB, hL⟩ := hrel
    clear Y1 Y2 Y3
    by_cases hge : 0 ≤ n
    · obtain ⟨j, rfl⟩ := Int.eq_ofNat_of_zero_le hge
      have hj : j < 6 := by omega
      rw [show ((j : Int) + 1).toNat = j + 1 by omega] at hD
      have ca := hA.out.cell j (by simp; omega)
      have cb := hB.out.cell j (by simp; omega)
      rw [Nat.zero_add] at ca cb
      have LT := hide (fun h => nl_less (l := [a0, a1, a2, a3, a4, a5]) (m := [b0, b1, b2, b3, b4, b5]) (j := j) (by simp; omega) (by simp; omega) HA.out hD.out h)
      have GT := hide (fun h => nl_less (l := [b0, b1, b2, b3, b4, b5]) (m := [a0, a1, a2, a3, a4, a5]) (j := j) (by simp; omega) (by simp; omega) HB.out hD.out.symm h)
      have EQ := hide (fun h => drop_eq (l := [a0, a1, a2, a3, a4, a5]) (m := [b0, b1, b2, b3, b4, b5]) (j := j) (by simp; omega) (by simp; omega) hD.out h)
      generalize List.getD [a0, a1, a2, a3, a4, a5] j 0 = x at *
      generalize List.getD [b0, b1, b2, b3, b4, b5] j 0 = y at *
      have ji : (j : Int) < 6 := by omega
      rcases Nat.lt_trichotomy x y with h | h | h
      · have t1 : decide (x < y) = true := by simp; omega
        have hs := sgn_lt (show (nl [a0, a1, a2, a3, a4, a5] : Int) < (nl [b0, b1, b2, b3, b4, b5] : Int) by have := LT.out h; omega)
        have HS := hide hs
        clear h hs
        go_wp2_with fail
        go_quiet (fail)
        go_wp2_with fail
        go_ret
        exact ⟨ret1 (by rw [N.out, HS.out]), below_drewN hL.out _⟩
      · subst h
        have t1 : decide (x < x) = false := by simp
        have EQ2 := hide (EQ.out rfl)
        clear EQ
        go_wp2_with fail
        go_quiet (fail)
        go_wp2_with fail
        go_quiet (fail)
        go_wp2_with fail
        go_roundw
        case rel => exact ⟨(j : Int) - 1, by omega, by omega, rfl, by rw [show ((j : Int) - 1 + 1).toNat = j by omega]; exact EQ2, hA.out.drewN _, hB.out.drewN _, below_drewN hL.out _⟩
        case measure => simp only [intOf]; omega
      · have t1 : decide (x < y) = false := by simp; omega
        have t2 : decide (y < x) = true := by simp; omega
        have hs := sgn_gt (show (nl [b0, b1, b2, b3, b4, b5] : Int) < (nl [a0, a1, a2, a3, a4, a5] : Int) by have := GT.out h; omega)
        have HS := hide hs
        clear h hs
        go_wp2_with fail
        go_quiet (fail)
        go_wp2_with fail
        go_quiet (fail)
        go_wp2_with fail
        go_ret
        exact ⟨ret1 (by rw [N.out, HS.out]), below_drewN (below_drewN hL.out _) _⟩
    · have hn : n = -1 := by omega
      subst hn
      have hs : sgn (nl [a0, a1, a2, a3, a4, a5] : Int) (nl [b0, b1, b2, b3, b4, b5] : Int) = 0 := by
        have h := hD.out
        rw [show ((-1 : Int) + 1).toNat = 0 by omega, List.drop_zero, List.drop_zero] at h
        rw [h]; exact sgn_eq
      have HS := hide hs
      clear hs
      go_wp2_with fail
      go_ret
      exact ⟨ret1 (by rw [N.out, HS.out]), hL.out⟩
end Go.Proofs.Ytenoalfjobghnaa
