/- The specification's Compare. -/
import Derived.Test.YtomgdleoegaooaaS7
set_option linter.unusedVariables false
set_option linter.unusedSimpArgs false
namespace Go.Proofs.Ytomgdleoegaooaa
open Go.RowKit

theorem prod_pow {n f m d : Int} (hn : I64 n) (hf : I64 f) (hm : I64 m) (hd : I64 d) : (n * f).natAbs + (m * d).natAbs < 4294967296 ^ 6 := by
  have h1 := Nat.mul_le_mul (i64_abs hn) (i64_abs hf)
  have h2 := Nat.mul_le_mul (i64_abs hm) (i64_abs hd)
  rw [← Int.natAbs_mul] at h1 h2
  have : 9223372036854775808 * 9223372036854775808 + 9223372036854775808 * 9223372036854775808 < 4294967296 ^ 6 := by decide
  omega
set_option maxHeartbeats 1000000 in
theorem rcomp_no (n d m f : Int) (h : d < 1 ∨ f < 1) (w : World) :
    Calls Try.prog 27 #[.agg #[.int .i64 n, .int .i64 d], .agg #[.int .i64 m, .int .i64 f]] w fun e w' => e = .returned (.tuple #[.int .i64 0, .int .i64 2]) ∧ Below w.heap.size w w' := by
  by_cases h1 : d < 1
  · have hd1 : decide (d < 1) = true := by simp; omega
    go_enter Try.func27, Try.ntmps27
    go_wp2_with fail
    go_ret2
    exact ⟨rfl, ((Below.refl _ _).alloc (Nat.le_refl _) _).alloc (by simp) _⟩
  · have hd1 : decide (d < 1) = false := by simp; omega
    have hf1 : decide (f < 1) = true := by simp; omega
    go_enter Try.func27, Try.ntmps27
    go_wp2_with fail
    go_ret2
    exact ⟨rfl, ((Below.refl _ _).alloc (Nat.le_refl _) _).alloc (by simp) _⟩
set_option maxRecDepth 100000 in
set_option maxHeartbeats 4000000 in
theorem rcomp_ok (n d m f : Int) (hn : I64 n) (hd : I64 d) (hm : I64 m) (hf : I64 f) (h1 : 1 ≤ d) (h2 : 1 ≤ f) (w : World) :
    Calls Try.prog 27 #[.agg #[.int .i64 n, .int .i64 d], .agg #[.int .i64 m, .int .i64 f]] w fun e w' => e = .returned (.tuple #[.int .i64 (sgn (n * f) (m * d)), .int .i64 0]) ∧ Below w.heap.size w w' := by
  have hd1 : decide (d < 1) = false := by simp; omega
  have hf1 : decide (f < 1) = false := by simp; omega
  have PP := prod_pow hn hf hm hd
  have FN := hide (from_ n hn)
  have FF := hide (from_ f hf)
  have FM := hide (from_ m hm)
  have FD := hide (from_ d hd)
  have TT := hide (fun (sa : Bool) (a0 a1 a2 a3 a4 a5 : Nat) (bs : Bool) (b0 b1 b2 b3 b4 b5 : Nat) (ha : Rep n sa a0 a1 a2 a3 a4 a5) (hb : Rep f bs b0 b1 b2 b3 b4 b5) => times_ n f sa bs a0 a1 a2 a3 a4 a5 b0 b1 b2 b3 b4 b5 ha hb (abs96 hn) (abs96 hf))
  have TU := hide (fun (cs : Bool) (c0 c1 c2 c3 c4 c5 : Nat) (gs : Bool) (g0 g1 g2 g3 g4 g5 : Nat) (ha : Rep m cs c0 c1 c2 c3 c4 c5) (hb : Rep d gs g0 g1 g2 g3 g4 g5) => times_ m d cs gs c0 c1 c2 c3 c4 c5 g0 g1 g2 g3 g4 g5 ha hb (abs96 hm) (abs96 hd))
  have OO := hide (fun (ps : Bool) (p0 p1 p2 p3 p4 p5 : Nat) (us : Bool) (u0 u1 u2 u3 u4 u5 : Nat) (ha : Rep (n * f) ps p0 p1 p2 p3 p4 p5) (hb : Rep (m * d) us u0 u1 u2 u3 u4 u5) => order_ (n * f) (m * d) ps us p0 p1 p2 p3 p4 p5 u0 u1 u2 u3 u4 u5 ha hb PP)
  clear PP hn hd hm hf h1 h2
  go_enter Try.func27, Try.ntmps27
  go_wp2_with fail
  have y0 : ((w.alloc (.cells #[.int .i64 n, .int .i64 d] 34)).alloc (.cells #[.int .i64 m, .int .i64 f] 34)).cell? ⟨w.heap.size, 0, none⟩ = some (.int .i64 n) := by simp [go_sem]
  have y1 : ((w.alloc (.cells #[.int .i64 n, .int .i64 d] 34)).alloc (.cells #[.int .i64 m, .int .i64 f] 34)).cell? ⟨w.heap.size, 1, none⟩ = some (.int .i64 d) := by simp [go_sem]
  have y2 : ((w.alloc (.cells #[.int .i64 n, .int .i64 d] 34)).alloc (.cells #[.int .i64 m, .int .i64 f] 34)).cell? ⟨w.heap.size + 1, 0, none⟩ = some (.int .i64 m) := by simp [go_sem]
  have y3 : ((w.alloc (.cells #[.int .i64 n, .int .i64 d] 34)).alloc (.cells #[.int .i64 m, .int .i64 f] 34)).cell? ⟨w.heap.size + 1, 1, none⟩ = some (.int .i64 f) := by simp [go_sem]
  have bb : Below w.heap.size w ((w.alloc (.cells #[.int .i64 n, .int .i64 d] 34)).alloc (.cells #[.int .i64 m, .int .i64 f] 34)) := ((Below.refl _ _).alloc (Nat.le_refl _) _).alloc (by simp) _
  have hz : w.heap.size + 2 ≤ ((w.alloc (.cells #[.int .i64 n, .int .i64 d] 34)).alloc (.cells #[.int .i64 m, .int .i64 f] 34)).heap.size := by simp
  obtain ⟨V, hV⟩ : ∃ V, V = ((w.alloc (.cells #[.int .i64 n, .int .i64 d] 34)).alloc (.cells #[.int .i64 m, .int .i64 f] 34)) := ⟨_, rfl⟩
  rw [← hV] at y0 y1 y2 y3 bb hz ⊢
  clear hV
  have k0 : S4 w (.int .i64 n) (.int .i64 d) (.int .i64 m) (.int .i64 f) V.drew := ⟨y0, y1, y2, y3, bb.drew, hz⟩
  have K0 : V.drew.cell? ⟨w.heap.size, 0, none⟩ = some (.int .i64 n) ∧ V.drew.cell? ⟨w.heap.size, 1, none⟩ = some (.int .i64 d) ∧ V.drew.cell? ⟨w.heap.size + 1, 0, none⟩ = some (.int .i64 m) ∧ V.drew.cell? ⟨w.heap.size + 1, 1, none⟩ = some (.int .i64 f) ∧ Below w.heap.size w V.drew ∧ w.heap.size + 2 ≤ V.drew.heap.size := k0
  go_region_held3 (fun w' => w'.cell? ⟨w.heap.size, 0, none⟩ = some (.int .i64 n) ∧ w'.cell? ⟨w.heap.size, 1, none⟩ = some (.int .i64 d) ∧ w'.cell? ⟨w.heap.size + 1, 0, none⟩ = some (.int .i64 m) ∧ w'.cell? ⟨w.heap.size + 1, 1, none⟩ = some (.int .i64 f) ∧ Below w.heap.size w w' ∧ w.heap.size + 2 ≤ w'.heap.size)
    (with_reducible assumption)
    (first
      | (go_at_call_of 31 (Value.int .i64 n); refine (FN.out _).mono ?_; rintro e x1 ⟨sa, a0, a1, a2, a3, a4, a5, rfl, q1, bq1⟩; have H1 := hide q1; have k1 := S4.keep bq1 k0; have K1 : x1.cell? ⟨w.heap.size, 0, none⟩ = some (.int .i64 n) ∧ x1.cell? ⟨w.heap.size, 1, none⟩ = some (.int .i64 d) ∧ x1.cell? ⟨w.heap.size + 1, 0, none⟩ = some (.int .i64 m) ∧ x1.cell? ⟨w.heap.size + 1, 1, none⟩ = some (.int .i64 f) ∧ Below w.heap.size w x1 ∧ w.heap.size + 2 ≤ x1.heap.size := k1; clear q1 bq1 k0)
      | (go_at_call_of 31 (Value.int .i64 f); refine (FF.out _).mono ?_; rintro e x2 ⟨bs, b0, b1, b2, b3, b4, b5, rfl, q2, bq2⟩; have H2 := hide q2; have k2 := S4.keep bq2 k1; have K2 : x2.cell? ⟨w.heap.size, 0, none⟩ = some (.int .i64 n) ∧ x2.cell? ⟨w.heap.size, 1, none⟩ = some (.int .i64 d) ∧ x2.cell? ⟨w.heap.size + 1, 0, none⟩ = some (.int .i64 m) ∧ x2.cell? ⟨w.heap.size + 1, 1, none⟩ = some (.int .i64 f) ∧ Below w.heap.size w x2 ∧ w.heap.size + 2 ≤ x2.heap.size := k2; clear q2 bq2 k1)
      | (go_at_call_of 35 (Value.agg #[Value.bool sa, Value.int IntKind.u64 (a0 : Int), Value.int IntKind.u64 (a1 : Int), Value.int IntKind.u64 (a2 : Int), Value.int IntKind.u64 (a3 : Int), Value.int IntKind.u64 (a4 : Int), Value.int IntKind.u64 (a5 : Int)]); refine (TT.out sa a0 a1 a2 a3 a4 a5 bs b0 b1 b2 b3 b4 b5 H1.out H2.out _).mono ?_; rintro e x3 ⟨ps, p0, p1, p2, p3, p4, p5, rfl, q3, bq3⟩; have H3 := hide q3; have k3 := S4.keep bq3 k2; have K3 : x3.cell? ⟨w.heap.size, 0, none⟩ = some (.int .i64 n) ∧ x3.cell? ⟨w.heap.size, 1, none⟩ = some (.int .i64 d) ∧ x3.cell? ⟨w.heap.size + 1, 0, none⟩ = some (.int .i64 m) ∧ x3.cell? ⟨w.heap.size + 1, 1, none⟩ = some (.int .i64 f) ∧ Below w.heap.size w x3 ∧ w.heap.size + 2 ≤ x3.heap.size := k3; clear q3 bq3 k2)
      | (go_at_call_of 31 (Value.int .i64 m); refine (FM.out _).mono ?_; rintro e x4 ⟨cs, c0, c1, c2, c3, c4, c5, rfl, q4, bq4⟩; have H4 := hide q4; have k4 := S4.keep bq4 k3; have K4 : x4.cell? ⟨w.heap.size, 0, none⟩ = some (.int .i64 n) ∧ x4.cell? ⟨w.heap.size, 1, none⟩ = some (.int .i64 d) ∧ x4.cell? ⟨w.heap.size + 1, 0, none⟩ = some (.int .i64 m) ∧ x4.cell? ⟨w.heap.size + 1, 1, none⟩ = some (.int .i64 f) ∧ Below w.heap.size w x4 ∧ w.heap.size + 2 ≤ x4.heap.size := k4; clear q4 bq4 k3)
      | (go_at_call_of 31 (Value.int .i64 d); refine (FD.out _).mono ?_; rintro e x5 ⟨gs, g0, g1, g2, g3, g4, g5, rfl, q5, bq5⟩; have H5 := hide q5; have k5 := S4.keep bq5 k4; have K5 : x5.cell? ⟨w.heap.size, 0, none⟩ = some (.int .i64 n) ∧ x5.cell? ⟨w.heap.size, 1, none⟩ = some (.int .i64 d) ∧ x5.cell? ⟨w.heap.size + 1, 0, none⟩ = some (.int .i64 m) ∧ x5.cell? ⟨w.heap.size + 1, 1, none⟩ = some (.int .i64 f) ∧ Below w.heap.size w x5 ∧ w.heap.size + 2 ≤ x5.heap.size := k5; clear q5 bq5 k4)
      | (go_at_call_of 35 (Value.agg #[Value.bool cs, Value.int IntKind.u64 (c0 : Int), Value.int IntKind.u64 (c1 : Int), Value.int IntKind.u64 (c2 : Int), Value.int IntKind.u64 (c3 : Int), Value.int IntKind.u64 (c4 : Int), Value.int IntKind.u64 (c5 : Int)]); refine (TU.out cs c0 c1 c2 c3 c4 c5 gs g0 g1 g2 g3 g4 g5 H4.out H5.out _).mono ?_; rintro e x6 ⟨us, u0, u1, u2, u3, u4, u5, rfl, q6, bq6⟩; have H6 := hide q6; have k6 := S4.keep bq6 k5; have K6 : x6.cell? ⟨w.heap.size, 0, none⟩ = some (.int .i64 n) ∧ x6.cell? ⟨w.heap.size, 1, none⟩ = some (.int .i64 d) ∧ x6.cell? ⟨w.heap.size + 1, 0, none⟩ = some (.int .i64 m) ∧ x6.cell? ⟨w.heap.size + 1, 1, none⟩ = some (.int .i64 f) ∧ Below w.heap.size w x6 ∧ w.heap.size + 2 ≤ x6.heap.size := k6; clear q6 bq6 k5)
      | (go_at_call 45; refine (OO.out ps p0 p1 p2 p3 p4 p5 us u0 u1 u2 u3 u4 u5 H3.out H6.out _).mono ?_; rintro e x7 ⟨rfl, bq7⟩; have k7 := S4.keep bq7 k6; have K7 : x7.cell? ⟨w.heap.size, 0, none⟩ = some (.int .i64 n) ∧ x7.cell? ⟨w.heap.size, 1, none⟩ = some (.int .i64 d) ∧ x7.cell? ⟨w.heap.size + 1, 0, none⟩ = some (.int .i64 m) ∧ x7.cell? ⟨w.heap.size + 1, 1, none⟩ = some (.int .i64 f) ∧ Below w.heap.size w x7 ∧ w.heap.size + 2 ≤ x7.heap.size := k7; clear bq7 k6)
      )
  have bel := K7.2.2.2.2.1
  clear K0 K1 K2 K3 K4 K5 K6 K7 y0 y1 y2 y3 bb hz k7
  go_wp2_with fail
  go_ret2
  exact ⟨rfl, bel⟩
end Go.Proofs.Ytomgdleoegaooaa
