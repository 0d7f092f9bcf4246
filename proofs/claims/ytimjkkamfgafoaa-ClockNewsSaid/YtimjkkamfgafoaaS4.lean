/- The specification's Add and Sub, and the order of wide integers. -/
import Derived.Test.YtimjkkamfgafoaaS3
import Derived.ChangeKeysEq
set_option linter.unusedVariables false
set_option linter.unusedSimpArgs false
namespace Go.Proofs.Ytimjkkamfgafoaa
open Go.RowKit

theorem n6_lt {c0 c1 c2 c3 c4 c5 : Nat} (h : Dig c0 c1 c2 c3 c4 c5) : n6 c0 c1 c2 c3 c4 c5 < 4294967296 ^ 6 := by
  have := nl_lt (small_six.2 h)
  rw [nl_six] at this
  exact this
theorem plus_ (z1 z2 : Int) (s r : Bool) (a0 a1 a2 a3 a4 a5 b0 b1 b2 b3 b4 b5 : Nat) (h1 : Rep z1 s a0 a1 a2 a3 a4 a5) (h2 : Rep z2 r b0 b1 b2 b3 b4 b5) (hm : z1.natAbs + z2.natAbs < 4294967296 ^ 6) (w : World) :
    Calls Try.prog 34 #[.agg #[.bool s, .int .u64 (a0 : Int), .int .u64 (a1 : Int), .int .u64 (a2 : Int), .int .u64 (a3 : Int), .int .u64 (a4 : Int), .int .u64 (a5 : Int)], .agg #[.bool r, .int .u64 (b0 : Int), .int .u64 (b1 : Int), .int .u64 (b2 : Int), .int .u64 (b3 : Int), .int .u64 (b4 : Int), .int .u64 (b5 : Int)]] w (WPost (z1 + z2) w) := by
  obtain ⟨d1, rfl⟩ := h1
  obtain ⟨d2, rfl⟩ := h2
  rw [vz_abs, vz_abs] at hm
  by_cases hs : s = r
  · subst hs
    refine (plus_same s a0 a1 a2 a3 a4 a5 b0 b1 b2 b3 b4 b5 d1 d2 hm w).mono ?_
    rintro e w' ⟨c0, c1, c2, c3, c4, c5, rfl, hd, hn, hb⟩
    exact ⟨s, c0, c1, c2, c3, c4, c5, rfl, ⟨hd, by rw [hn]; cases s <;> simp [vz] <;> omega⟩, hb⟩
  · obtain rfl : r = !s := by cases s <;> cases r <;> simp_all
    by_cases hg : n6 b0 b1 b2 b3 b4 b5 ≤ n6 a0 a1 a2 a3 a4 a5
    · refine (plus_ge s a0 a1 a2 a3 a4 a5 b0 b1 b2 b3 b4 b5 d1 d2 hg w).mono ?_
      rintro e w' ⟨c0, c1, c2, c3, c4, c5, rfl, hd, hn, hb⟩
      exact ⟨s, c0, c1, c2, c3, c4, c5, rfl, ⟨hd, by rw [hn]; cases s <;> simp [vz] <;> omega⟩, hb⟩
    · refine (plus_lt s a0 a1 a2 a3 a4 a5 b0 b1 b2 b3 b4 b5 d1 d2 (by omega) w).mono ?_
      rintro e w' ⟨c0, c1, c2, c3, c4, c5, rfl, hd, hn, hb⟩
      exact ⟨!s, c0, c1, c2, c3, c4, c5, rfl, ⟨hd, by rw [hn]; cases s <;> simp [vz] <;> omega⟩, hb⟩

theorem small_pow {a b : Nat} (ha : a ≤ 9223372036854775808) (hb : b ≤ 9223372036854775808) : a + b < 4294967296 ^ 6 := by
  have : (36893488147419103232 : Nat) < 4294967296 ^ 6 := by decide
  omega

set_option maxRecDepth 100000 in
set_option maxHeartbeats 1000000 in
theorem ref_add (a b : Int) (ha : I64 a) (hb : I64 b) (w : World) : Calls Try.prog 33 #[.int .i64 a, .int .i64 b] w (FPost (a + b) w) := by
  have A := hide (from_ a ha)
  have B := hide (from_ b hb)
  have HM := hide (small_pow (i64_abs ha) (i64_abs hb))
  clear ha hb
  go_enter Try.func33, Try.ntmps33
  go_wp2_with fail
  refine (A.out _).mono ?_
  rintro e w1 ⟨s, x0, x1, x2, x3, x4, x5, rfl, hx, bx⟩
  have HX := hide hx
  clear hx
  go_wp2_with fail
  refine (B.out _).mono ?_
  rintro e w2 ⟨r, y0, y1, y2, y3, y4, y5, rfl, hy, bz⟩
  have HY := hide hy
  have bb := bx.trans (bz.mono bx.size)
  clear hy bx bz
  go_wp2_with fail
  refine (plus_ a b s r x0 x1 x2 x3 x4 x5 y0 y1 y2 y3 y4 y5 HX.out HY.out HM.out _).mono ?_
  rintro e w3 ⟨q, z0, z1, z2, z3, z4, z5, rfl, hz, bz⟩
  have HZ := hide hz
  have bc := bb.trans (bz.mono bb.size)
  clear hz bb bz
  go_wp2_with fail
  refine (fit (a + b) q z0 z1 z2 z3 z4 z5 HZ.out _).mono ?_
  rintro e w4 ⟨⟨h, rfl⟩ | ⟨h, rfl⟩, bz⟩
  · have H := hide h
    have bd := bc.trans (bz.mono bc.size)
    clear h bz
    go_wp2_with fail
    go_ret2
    exact ⟨.inl ⟨H.out, rfl⟩, bd⟩
  · have H := hide h
    have bd := bc.trans (bz.mono bc.size)
    clear h bz
    go_wp2_with fail
    go_ret2
    exact ⟨.inr ⟨H.out, rfl⟩, bd⟩
theorem rep_zero {z : Int} {s : Bool} {c0 c1 c2 c3 c4 c5 : Nat} (h : Rep z s c0 c1 c2 c3 c4 c5) : z = 0 ↔ (c0 = 0 ∧ c1 = 0 ∧ c2 = 0 ∧ c3 = 0 ∧ c4 = 0 ∧ c5 = 0) := by
  obtain ⟨_, rfl⟩ := h
  unfold vz n6
  cases s <;> simp <;> omega
theorem info43 : (Try.prog.info? 55).map (fun i => (i.zero, i.size, i.bytes)) = some (some (.int .u64 0), 1, 8) := by kernel_rfl
theorem cells43 : Try.prog.cellsOf 55 = 1 := by kernel_rfl
theorem eq6 (a0 a1 a2 a3 a4 a5 b0 b1 b2 b3 b4 b5 : Int) (w : World) :
    (Op.equalIn 10000 56 (.agg #[.int .u64 a0, .int .u64 a1, .int .u64 a2, .int .u64 a3, .int .u64 a4, .int .u64 a5]) (.agg #[.int .u64 b0, .int .u64 b1, .int .u64 b2, .int .u64 b3, .int .u64 b4, .int .u64 b5])).run Try.prog w =
      .ok (a0 == b0 && (a1 == b1 && (a2 == b2 && (a3 == b3 && (a4 == b4 && a5 == b5))))) w := by
  obtain ⟨i0, hi, hz0, hz1, hz2⟩ := info_parts info43
  rw [run_equalIn_array (P := Try.prog) w 9999 _ _ Try.underlying56 hi, cells43]
  have hp : ∀ (xs : Array Value) (k : Nat) (v : Value), xs[k]? = some v → (part 55 xs k).run Try.prog w = .ok v w := by
    intro xs k v hv
    have hk : k < xs.size := by
      rcases Nat.lt_or_ge k xs.size with h | h
      · exact h
      · rw [Array.getElem?_eq_none h] at hv; cases hv
    simp [part, isAgg, run_underlying Try.underlying55, hk]
    simpa [hk] using hv
  have he : ∀ a b : Int, (Op.equalIn 9999 55 (.int .u64 a) (.int .u64 b)).run Try.prog w = .ok (a == b) w := fun a b => run_equalIn_int w 9998 55 .u64 .u64 a b Try.underlying55
  have st : ∀ (xs ys : Array Value) (i : Nat) (is : List Nat) (a b : Int), xs[i]? = some (.int .u64 a) → ys[i]? = some (.int .u64 b) →
      (Op.eqItems 9999 55 1 xs ys (i :: is)).run Try.prog w = if a == b then (Op.eqItems 9999 55 1 xs ys is).run Try.prog w else .ok false w := by
    intro xs ys i is a b ha hb
    simp only [Op.eqItems, Sem.run_bind, Nat.mul_one]
    rw [hp xs i _ ha]
    simp only [Result.andThen_ok]
    rw [hp ys i _ hb]
    simp only [Result.andThen_ok, he]
    cases h : (a == b) <;> simp
  rw [show List.range 6 = [0, 1, 2, 3, 4, 5] from rfl]
  rw [st _ _ 0 _ a0 b0 rfl rfl, st _ _ 1 _ a1 b1 rfl rfl, st _ _ 2 _ a2 b2 rfl rfl, st _ _ 3 _ a3 b3 rfl rfl, st _ _ 4 _ a4 b4 rfl rfl, st _ _ 5 _ a5 b5 rfl rfl]
  have e0 : (Op.eqItems 9999 55 1 #[Value.int .u64 a0, .int .u64 a1, .int .u64 a2, .int .u64 a3, .int .u64 a4, .int .u64 a5] #[Value.int .u64 b0, .int .u64 b1, .int .u64 b2, .int .u64 b3, .int .u64 b4, .int .u64 b5] []).run Try.prog w = .ok true w := rfl
  rw [e0]
  cases (a0 == b0) <;> cases (a1 == b1) <;> cases (a2 == b2) <;> cases (a3 == b3) <;> cases (a4 == b4) <;> cases (a5 == b5) <;> rfl
set_option maxRecDepth 100000 in
set_option maxHeartbeats 1000000 in
theorem zero_ (z : Int) (s : Bool) (c0 c1 c2 c3 c4 c5 : Nat) (h : Rep z s c0 c1 c2 c3 c4 c5) (w : World) :
    Calls Try.prog 45 #[.agg #[.bool s, .int .u64 (c0 : Int), .int .u64 (c1 : Int), .int .u64 (c2 : Int), .int .u64 (c3 : Int), .int .u64 (c4 : Int), .int .u64 (c5 : Int)]] w fun e w' => e = .returned (.bool (decide (z = 0))) ∧ Below w.heap.size w w' := by
  have hq := eq6 c0 c1 c2 c3 c4 c5 0 0 0 0 0 0
  have Z : ((c0 : Int) == 0 && ((c1 : Int) == 0 && ((c2 : Int) == 0 && ((c3 : Int) == 0 && ((c4 : Int) == 0 && (c5 : Int) == 0))))) = decide (z = 0) := by
    have := rep_zero h
    rw [Bool.eq_iff_iff]
    simp only [Bool.and_eq_true, beq_iff_eq, decide_eq_true_eq]
    omega
  rw [Z] at hq
  clear h Z
  generalize decide (z = 0) = b at *
  go_enter Try.func45, Try.ntmps45
  go_wp2_with fail
  go_ret
  exact ⟨rfl, ((Below.refl _ _).alloc (Nat.le_refl _) _).alloc (by simp) _⟩
set_option maxRecDepth 100000 in
set_option maxHeartbeats 1000000 in
theorem sign_ (z : Int) (s : Bool) (c0 c1 c2 c3 c4 c5 : Nat) (h : Rep z s c0 c1 c2 c3 c4 c5) (w : World) :
    Calls Try.prog 42 #[.agg #[.bool s, .int .u64 (c0 : Int), .int .u64 (c1 : Int), .int .u64 (c2 : Int), .int .u64 (c3 : Int), .int .u64 (c4 : Int), .int .u64 (c5 : Int)]] w fun e w' => e = .returned (.int .i64 (sgn z 0)) ∧ Below w.heap.size w w' := by
  have Z := hide (zero_ z s c0 c1 c2 c3 c4 c5 h)
  by_cases hz : z = 0
  · have S := hide (show sgn z 0 = 0 by rw [hz]; exact sgn_eq)
    rw [show decide (z = 0) = true by simpa using hz] at Z
    clear h hz
    go_enter Try.func42, Try.ntmps42
    go_wp2_with fail
    refine (Z.out _).mono ?_
    rintro e w1 ⟨rfl, bz⟩
    go_wp2_with fail
    go_ret
    exact ⟨ret1 S.out.symm, ((Below.refl _ _).alloc (Nat.le_refl _) _).trans (bz.mono (by simp))⟩
  · have hd : decide (z = 0) = false := by simpa using hz
    rw [hd] at Z
    have S : Hid (sgn z 0 = if s then -1 else 1) := by
      unfold Hid
      obtain ⟨_, rfl⟩ := h
      generalize n6 c0 c1 c2 c3 c4 c5 = m at *
      cases s
      · simp [vz] at hz ⊢; exact sgn_gt (by omega)
      · simp [vz] at hz ⊢; exact sgn_lt (by omega)
    clear h hz hd
    cases s
    · go_enter Try.func42, Try.ntmps42
      go_wp2_with fail
      refine (Z.out _).mono ?_
      rintro e w1 ⟨rfl, bz⟩
      have q0 : w1.cell? ⟨w.heap.size, 0, none⟩ = some (.bool false) := by rw [(bcell bz).1 _ _ (by simp)]; simp [go_sem]
      have bb := ((Below.refl w.heap.size w).alloc (Nat.le_refl _) _).trans (bz.mono (by simp))
      clear bz
      go_wp2_with fail
      go_ret
      exact ⟨ret1 S.out.symm, bb⟩
    · go_enter Try.func42, Try.ntmps42
      go_wp2_with fail
      refine (Z.out _).mono ?_
      rintro e w1 ⟨rfl, bz⟩
      have q0 : w1.cell? ⟨w.heap.size, 0, none⟩ = some (.bool true) := by rw [(bcell bz).1 _ _ (by simp)]; simp [go_sem]
      have bb := ((Below.refl w.heap.size w).alloc (Nat.le_refl _) _).trans (bz.mono (by simp))
      clear bz
      go_wp2_with fail
      go_ret
      exact ⟨ret1 S.out.symm, bb⟩
end Go.Proofs.Ytimjkkamfgafoaa
