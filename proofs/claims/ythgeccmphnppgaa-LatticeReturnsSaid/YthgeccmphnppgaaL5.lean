/- LatticeReturns: the law answers true at all sides and every vertex: the vertex at the place of a vertex is this vertex. -/
import Derived.Test.YthgeccmphnppgaaS
import Derived.Test.YthgeccmphnppgaaOp
import Derived.Test.YthgeccmphnppgaaRows
import Derived.Deep.CutRange
set_option linter.unusedVariables false
set_option linter.unusedSimpArgs false
namespace Go.Proofs.Ythgeccmphnppgaa
open Go.RowKit
namespace lawReturns
open Go.ChangeShapes Go.WideShapes Go.ChangeAt Go.RowKit Go.Joins
set_option maxRecDepth 100000 in
set_option maxHeartbeats 8000000 in
theorem walk (a0 : Int) (a1 : Int) (a2 : Int) (w : World) (b0 : 0 ≤ a0 ∧ a0 ≤ 255) (b1 : 0 ≤ a1 ∧ a1 ≤ 255) (b2 : 0 ≤ a2 ∧ a2 ≤ 65535) : Calls Try.prog 9 #[.int .u8 a0, .int .u8 a1, .int .u16 a2] w fun e w' => e = .returned (.bool true) ∧ Below w.heap.size w w' := by
  obtain ⟨a, rfl⟩ : ∃ a : Nat, a0 = (a : Int) := ⟨a0.toNat, by omega⟩
  obtain ⟨b, rfl⟩ : ∃ b : Nat, a1 = (b : Int) := ⟨a1.toNat, by omega⟩
  obtain ⟨v, rfl⟩ : ∃ v : Nat, a2 = (v : Int) := ⟨a2.toNat, by omega⟩
  have S := hide (sides_t a b (by omega) (by omega) w)
  have G := hide (sides_grid a b)
  obtain ⟨s1, s2⟩ := side_b a
  obtain ⟨s3, s4⟩ := side_b b
  generalize a % 24 + 1 = x at *
  generalize b % 24 + 1 = y at *
  have hm := Nat.mul_le_mul s2 s4
  have hp : 1 ≤ x * y := Nat.mul_le_mul s1 s3
  obtain ⟨m, hxy⟩ : ∃ m, m = x * y := ⟨_, rfl⟩
  have mulc : (x : Int) * (y : Int) = (m : Int) := by rw [hxy, Int.natCast_mul]
  have wmm : IntKind.i64.wrap (m : Int) = (m : Int) := by rw [IntKind.wrap_i64]; omega
  have rm : (v : Int).tmod (m : Int) = ((v % m : Nat) : Int) := by rw [Int.tmod_eq_emod_of_nonneg (by omega), ← Int.natCast_emod]
  have hu : v % m < m := Nat.mod_lt _ (by omega)
  have hmn : m ≠ 0 := by omega
  have hm1 : (1 : Int) ≤ (m : Int) := by omega
  have hx1 : (1 : Int) ≤ (x : Int) := by omega
  obtain ⟨u, hue⟩ : ∃ u, u = v % m := ⟨_, rfl⟩
  rw [← hue] at rm hu
  have P := fun W => hide (pl_26 (x : Int) (y : Int) (u : Int) W (by unfold I64; omega))
  have eP : plV (x : Int) (y : Int) (u : Int) = .tuple #[.int .i64 ((u : Int) % (x : Int)), .int .i64 ((u : Int) / (x : Int)), .int .i64 0] := by
    unfold plV
    rw [if_pos G.out, if_pos ⟨by omega, by rw [mulc]; omega⟩]
  have A := fun W => hide (at_24 (x : Int) (y : Int) ((u : Int) % (x : Int)) ((u : Int) / (x : Int)) W)
  have eA : atV (x : Int) (y : Int) ((u : Int) % (x : Int)) ((u : Int) / (x : Int)) = .tuple #[.int .i64 (u : Int), .int .i64 0] := by
    unfold atV
    have q0 := Int.emod_nonneg (u : Int) (show (x : Int) ≠ 0 by omega)
    have q1 := Int.emod_lt_of_pos (u : Int) (show 0 < (x : Int) by omega)
    have q2 := Int.ediv_nonneg (show 0 ≤ (u : Int) by omega) (show 0 ≤ (x : Int) by omega)
    have q3 : (u : Int) / (x : Int) < (y : Int) := by
      rw [← Int.natCast_ediv]
      have : u / x < y := by rw [Nat.div_lt_iff_lt_mul (by omega), Nat.mul_comm]; omega
      omega
    rw [if_pos G.out, if_pos ⟨q0, q1, q2, q3⟩, Int.mul_comm, Int.mul_ediv_add_emod]
  have P' : ∀ W, Hid (Calls Try.prog 26 #[.int .i64 (x : Int), .int .i64 (y : Int), .int .i64 (u : Int)] W fun e w' => e = .returned (.tuple #[.int .i64 ((u : Int) % (x : Int)), .int .i64 ((u : Int) / (x : Int)), .int .i64 0]) ∧ ∃ n, w' = W.drewN n) := fun W => by rw [← eP]; exact (P W).out
  have A' : ∀ W, Hid (Calls Try.prog 24 #[.int .i64 (x : Int), .int .i64 (y : Int), .int .i64 ((u : Int) % (x : Int)), .int .i64 ((u : Int) / (x : Int))] W fun e w' => e = .returned (.tuple #[.int .i64 (u : Int), .int .i64 0]) ∧ W = w') := fun W => by rw [← eA]; exact (A W).out
  have HU := hide hue
  have HXY := hide hxy
  clear P A eP eA hue hxy hm hp s1 s2 s3 s4 b0 b1 G
  generalize (u : Int) % (x : Int) = p at *
  generalize (u : Int) / (x : Int) = q at *
  go_enter Try.func9, Try.ntmps9
  go_wp2_with fail
  refine S.out.mono ?_
  rintro e w' ⟨rfl, rfl⟩
  go_wp2_with fail
  refine (P' w).out.mono ?_
  rintro e w1 ⟨rfl, n1, h1⟩
  have B1 := hide (show Below w.heap.size w w1 by rw [h1]; exact Below.drewN' _ _)
  clear h1
  go_wp2_with fail
  refine (A' w1).out.mono ?_
  rintro e w' ⟨rfl, rfl⟩
  go_wp2_with fail
  refine (works _).mono ?_
  rintro e w4 ⟨rfl, bw4⟩
  have B4 := hide (B1.out.trans (bw4.mono B1.out.size))
  clear bw4 B1
  go_wp2_with fail
  go_ret
  exact ⟨rfl, B4.out⟩
theorem own : ownKnob Try.prog.godebug = none := by kernel_rfl
theorem laidOut : laidOutB Try.prog = true := by kernel_rfl
set_option maxRecDepth 100000 in
theorem lifted (os : Os) (started : os.Started) (H : Type) (enc : TypeId × Value → H) :
    ReturnsInHanded {} Try.checked os 9 .any (Rows.latticeReturnsSpec.pre6 enc Try.prog Try.f9 Rows.latticeReturnsRow.domain false) (Rows.latticeReturnsSpec.post enc Try.prog Try.f9 false true false false) := by
  refine returnsInHanded_of_change (C := Try.checked) own started (by kernel_rfl) Try.func9
    (ChangeSpec.witness6 (enc := enc) (C := Try.checked) false ⟨#[], #[.int .u8 0, .int .u8 0, .int .u16 0], []⟩ 8 (by kernel_rfl) (by kernel_rfl) (by kernel_rfl) (by kernel_rfl)) ?_
  intro W base args ds gs before hval0 hW hcnd _
  have hval : ∀ (j : Nat) t v, Try.f9.params[j]? = some t → args[j]? = some v → Value.okWide Try.prog W .any base t v := hval0
  have hW' := hW
  obtain ⟨p, q, hA0, hV, rfl, hfz, hnd⟩ := hW
  have hA : DataW.TrodAll enc Try.prog W 0 (fun _ => true) true Try.f9.params.toList args.toList ds p := hA0
  rw [Try.params9] at hA hval
  obtain ⟨v0, vs0, d0, ds0, p0, q0, hargs, rfl, rfl, h0, r0⟩ := trodAll_cons hA
  obtain ⟨v1, vs1, d1, ds1, p1, q1, rfl, rfl, rfl, h1, r1⟩ := trodAll_cons r0
  obtain ⟨v2, vs2, d2, ds2, p2, q2, rfl, rfl, rfl, h2, r2⟩ := trodAll_cons r1
  obtain ⟨rfl, rfl, rfl⟩ := trodAll_nil r2
  obtain rfl : args = #[v0, v1, v2] := by cases args; simp_all
  obtain ⟨rfl, rfl⟩ := trodVars_none hV
  have k0 := h0
  have lt0 : ∀ x ∈ p0, x.block < W.heap.size := by obtain ⟨m, hm⟩ := k0; exact DataW.trod_lt m _ _ _ hm
  have k1 := h1
  have lt1 : ∀ x ∈ p1, x.block < W.heap.size := by obtain ⟨m, hm⟩ := k1; exact DataW.trod_lt m _ _ _ hm
  have k2 := h2
  have lt2 : ∀ x ∈ p2, x.block < W.heap.size := by obtain ⟨m, hm⟩ := k2; exact DataW.trod_lt m _ _ _ hm
  obtain ⟨a0, rfl, _, _, w0⟩ := open_int Try.underlying5 (hval 0 5 v0 rfl rfl) h0
  obtain ⟨a1, rfl, _, _, w1⟩ := open_int Try.underlying5 (hval 1 5 v1 rfl rfl) h1
  obtain ⟨a2, rfl, _, _, w2⟩ := open_int Try.underlying42 (hval 2 42 v2 rfl rfl) h2
  clear hA0 hval0
  refine (walk a0 a1 a2 W (bounds_u8 w0) (bounds_u8 w1) (bounds_u16 w2)).mono fun e W' ⟨he, bel⟩ => ?_
  subst he
  exact ⟨_, rfl, _, _, _, [], _, [], hW', trodAll_mk1 (shut_bool Try.underlying4 _), (trodAll_cons_mk (Below.trod laidOut (by kernel_rfl) (of_decide_eq_true (by kernel_rfl)) k0 bel lt0) (trodAll_cons_mk (Below.trod laidOut (by kernel_rfl) (of_decide_eq_true (by kernel_rfl)) k1 bel lt1) (trodAll_cons_mk (Below.trod laidOut (by kernel_rfl) (of_decide_eq_true (by kernel_rfl)) k2 bel lt2) trodAll_mk0))), rfl, bel.frame _, fun h => by cases h⟩
theorem holds : Rows.latticeReturnsRow.holds Try.pinned (OpenSpec.ofChange Rows.latticeReturnsSpec) :=
  OpenClaim.holds_of_wide 9 Try.f9 rfl rfl rfl rfl rfl rfl rfl ⟨rfl, rfl, rfl, rfl, rfl⟩ rfl rfl rfl rfl rfl (by kernel_rfl) Try.func9 (by kernel_rfl)
    (of_decide_eq_true (by kernel_rfl)) (by unfold Func.isWrapper; first | (rw [if_pos (by decide +kernel)]; kernel_rfl) | (rw [if_neg (by decide +kernel)]; exact ⟨rfl, rfl⟩))
    (fun os started H enc _ => lifted os started H enc)
theorem proved : Rows.LatticeReturnsSaid := holds
end lawReturns
end Go.Proofs.Ythgeccmphnppgaa
