import Derived.Test.YtomgdleoegaooaaG
import Derived.Deep.CutBlock
set_option linter.unusedVariables false
set_option linter.unusedSimpArgs false
namespace Go.Proofs.Ytomgdleoegaooaa
open Go.RowKit

theorem and32 {a : Nat} (ha : a < 18446744073709551616) : bits .and .u64 (a : Int) 4294967295 = ((a % 4294967296 : Nat) : Int) := by
  have h := bits_and_u64_nat a 4294967295 ha (by omega)
  have e : a &&& 4294967295 = a % 4294967296 := Nat.and_two_pow_sub_one_eq_mod a 32
  rw [e] at h
  exact h
theorem shl64 (a s : Nat) : IntKind.u64.wrap ((a : Int) * 2 ^ s) = ((a * 2 ^ s % 18446744073709551616 : Nat) : Int) := by
  rw [IntKind.wrap_u64, Int.natCast_emod, Int.natCast_mul, Int.natCast_pow]; rfl
theorem shr64 (a s : Nat) : (a : Int) / 2 ^ s = ((a / 2 ^ s : Nat) : Int) := by
  rw [Int.natCast_ediv, Int.natCast_pow]; rfl
theorem or64 {hi lo s : Nat} (h1 : hi * 2 ^ s < 18446744073709551616) (h2 : lo / 2 ^ (64 - s) < 18446744073709551616) (h3 : (hi * 2 ^ s ||| lo / 2 ^ (64 - s)) = hi * 2 ^ s + lo / 2 ^ (64 - s)) :
    bits .or .u64 (IntKind.u64.wrap ((hi : Int) * 2 ^ s)) ((lo : Int) / 2 ^ (64 - s)) = ((hi * 2 ^ s + lo / 2 ^ (64 - s) : Nat) : Int) := by
  rw [shl64, shr64, Nat.mod_eq_of_lt h1, bits_or_u64_nat _ _ h1 h2, h3]
theorem wrapn {n : Nat} (h : n < 18446744073709551616) : IntKind.u64.wrap (n : Int) = (n : Int) := uw_in h
theorem wrapq (a b : Nat) (h : a < 18446744073709551616) : IntKind.u64.wrap ((a : Int) / (b : Int)) = ((a / b : Nat) : Int) := uw_div h
/-- what is left of a division, as the text reckons it -/
theorem wraprest {a b : Nat} (h : a < 18446744073709551616) : IntKind.u64.wrap ((a : Int) - IntKind.u64.wrap (((a / b : Nat) : Int) * (b : Int))) = ((a % b : Nat) : Int) := by
  have e : a = b * (a / b) + a % b := (Nat.div_add_mod a b).symm
  have h2 : a / b * b ≤ a := Nat.div_mul_le_self _ _
  rw [← Int.natCast_mul, uw_in (by omega)]
  have h3 : a % b ≤ a := Nat.mod_le _ _
  rw [Nat.mul_comm] at h2
  rw [Nat.mul_comm (a / b) b]
  generalize b * (a / b) = c at *
  generalize a % b = d at *
  rw [show ((a : Int) - (c : Int)) = (d : Int) by omega]
  exact uw_in (by omega)
/-- the same modulo 2^64, where the product may wrap -/
theorem wraprest2 {u t v : Nat} (hv : v < 18446744073709551616) (h0 : 0 < v) :
    IntKind.u64.wrap (IntKind.u64.wrap (IntKind.u64.wrap ((u : Int) * 4294967296) + (t : Int)) - IntKind.u64.wrap ((((u * 4294967296 + t) / v : Nat) : Int) * (v : Int))) = (((u * 4294967296 + t) % v : Nat) : Int) := by
  rw [← Int.natCast_mul]
  have e := Nat.div_add_mod (u * 4294967296 + t) v
  have hm := Nat.mod_lt (u * 4294967296 + t) h0
  rw [Nat.mul_comm] at e
  generalize (u * 4294967296 + t) / v * v = c at *
  generalize (u * 4294967296 + t) % v = d at *
  simp only [IntKind.wrap_u64]
  omega

/-- one estimate of a half of the quotient: all numbers under names -/
structure Est (u t v n1 n0 q r Q : Nat) : Prop where
  h1 : n1 = v / 4294967296
  h0 : n0 = v % 4294967296
  hu : u < v
  ht : t < 4294967296
  hv : 9223372036854775808 ≤ v
  hv2 : v < 18446744073709551616
  hq : q = u / (v / 4294967296)
  hr : r = u % (v / 4294967296)
  hQ : Q = (u * 4294967296 + t) / v

/-- what a round of the estimate carries -/
structure Rel (u t v n1 n0 Q q r : Nat) : Prop where
  inv : KD.Inv u t v q r
  ql : q ≤ 4294967297
  rl : r < 4294967296

theorem Est.start {u t v n1 n0 q r Q : Nat} (h : Est u t v n1 n0 q r Q) : Rel u t v n1 n0 Q q r := by
  obtain ⟨rfl, rfl, h1, h2, h3, h4, rfl, rfl, rfl⟩ := h
  exact ⟨KD.start h3 h2, KD.start_le h3 h1 h4, KD.start_r h3 h4⟩
theorem Est.n1_bd {u t v n1 n0 q r Q : Nat} (h : Est u t v n1 n0 q r Q) : 2147483648 ≤ n1 ∧ n1 < 4294967296 ∧ n0 < 4294967296 := by
  obtain ⟨rfl, rfl, h1, h2, h3, h4, rfl, rfl, rfl⟩ := h
  omega
theorem Est.mul_bd {u t v n1 n0 q r Q : Nat} (h : Est u t v n1 n0 q r Q) (k : Nat) (hk : k ≤ 4294967297) : k * n0 ≤ 18446744073709551615 := by
  have := h.n1_bd
  have h2 : k * n0 ≤ 4294967297 * 4294967295 := Nat.mul_le_mul hk (by omega)
  omega
theorem Rel.dec {u t v n1 n0 q r Q k p : Nat} (e : Est u t v n1 n0 q r Q) (h : Rel u t v n1 n0 Q k p) (hb : 4294967296 ≤ k ∨ 4294967296 * p + t < k * n0) : KD.Inv u t v (k - 1) (p + n1) ∧ 1 ≤ k := by
  obtain ⟨rfl, rfl, h1, h2, h3, h4, rfl, rfl, rfl⟩ := e
  exact KD.dec h.inv h1 h2 hb
theorem Rel.fits {u t v n1 n0 q r Q k p : Nat} (e : Est u t v n1 n0 q r Q) (h : Rel u t v n1 n0 Q k p) (hb : k * n0 ≤ 4294967296 * p + t) : k = Q := by
  obtain ⟨rfl, rfl, h1, h2, h3, h4, rfl, rfl, rfl⟩ := e
  exact KD.fits h.inv (by omega) hb
theorem Est.breaks {u t v n1 n0 q r Q k p : Nat} (e : Est u t v n1 n0 q r Q) (h : KD.Inv u t v k p) (hk : k ≤ 4294967296) (hp : 4294967296 ≤ p) : k = Q := by
  obtain ⟨rfl, rfl, h1, h2, h3, h4, rfl, rfl, rfl⟩ := e
  exact KD.breaks h (by omega) hk hp

set_option maxRecDepth 100000 in
set_option maxHeartbeats 1000000 in
theorem div64_core (hi lo y s v u x n1 n0 t1 t0 q r q0 r0 Q1 R1 Q0 R0 G1 G0 : Nat) (w : World)
    (H : Hid (∀ w, Calls Try.prog 56 #[.int .u64 y] w fun e w' => e = .returned (.int .i64 s) ∧ w = w'))
    (hhi : (hi : Int) < y) (hh0 : (1 : Int) ≤ hi) (hs : s ≤ 63)
    (e1 : IntKind.u64.wrap ((y : Int) * 2 ^ s) = (v : Int)) (hv1 : 9223372036854775808 ≤ v) (hv2 : v < 18446744073709551616)
    (e2 : bits .or .u64 (IntKind.u64.wrap ((hi : Int) * 2 ^ s)) ((lo : Int) / 2 ^ (64 - s)) = (u : Int))
    (e3 : IntKind.u64.wrap ((lo : Int) * 2 ^ s) = (x : Int))
    (e4 : bits .and .u64 (v : Int) 4294967295 = (n0 : Int)) (e5 : bits .and .u64 (x : Int) 4294967295 = (t0 : Int))
    (e6 : (v : Int) / 4294967296 = (n1 : Int)) (e7 : (x : Int) / 4294967296 = (t1 : Int))
    (hn1 : (1 : Int) ≤ (n1 : Int))
    (e8 : IntKind.u64.wrap ((u : Int) / (n1 : Int)) = (q : Int)) (e9 : IntKind.u64.wrap ((u : Int) - IntKind.u64.wrap ((q : Int) * (n1 : Int))) = (r : Int))
    (E1 : Hid (Est u t1 v n1 n0 q r Q1)) (E0 : Hid (Est R1 t0 v n1 n0 q0 r0 Q0))
    (f1 : IntKind.u64.wrap (IntKind.u64.wrap (IntKind.u64.wrap ((u : Int) * 4294967296) + (t1 : Int)) - IntKind.u64.wrap ((Q1 : Int) * (v : Int))) = (R1 : Int))
    (f8 : IntKind.u64.wrap ((R1 : Int) / (n1 : Int)) = (q0 : Int)) (f9 : IntKind.u64.wrap ((R1 : Int) - IntKind.u64.wrap ((q0 : Int) * (n1 : Int))) = (r0 : Int))
    (g1 : IntKind.u64.wrap (IntKind.u64.wrap ((Q1 : Int) * 4294967296) + (Q0 : Int)) = (G1 : Int))
    (g2 : IntKind.u64.wrap (IntKind.u64.wrap (IntKind.u64.wrap ((R1 : Int) * 4294967296) + (t0 : Int)) - IntKind.u64.wrap ((Q0 : Int) * (v : Int))) = (R0 : Int))
    (g3 : (R0 : Int) / 2 ^ s = (G0 : Int)) :
    Calls Try.prog 51 #[.int .u64 hi, .int .u64 lo, .int .u64 y] w fun e w' => e = .returned (.tuple #[.int .u64 (G1 : Int), .int .u64 (G0 : Int)]) ∧ w = w' := by
  have b0 : ((y : Int) == 0) = false := by simp; omega
  have b1 : ((hi : Int) == 0) = false := by simp; omega
  have K1 := hide hv1
  go_enter Try.func51, Try.ntmps51
  go_wp2_with fail
  refine (H.out _).mono ?_
  rintro e w1 ⟨rfl, rfl⟩
  go_upto_block 0 with fail
  go_cut [15] (fun s15 wx => s15 = .int .u64 (Q1 : Int) ∧ w = wx)
  case first =>
    clear e1 e2 e3 e4 e5 e6 e7 e8 e9 f1 f8 f9 g1 g2 g3
    go_wp2_with fail
    have EB := E1.out.n1_bd
    have hn1b : (n1 : Int) < 4294967296 := by omega
    have hn0b : (n0 : Int) < 4294967296 := by omega
    have htb : (t1 : Int) < 4294967296 := by have := E1.out.ht; omega
    clear EB
    go_loop [15, 16] (fun a b => ∃ k p : Nat, a = .int .u64 k ∧ b = .int .u64 p ∧ Hid (Rel u t1 v n1 n0 Q1 k p)) (fun a _ => (intOf a).toNat)
    case atStart => exact ⟨q, r, rfl, rfl, E1.out.start⟩
    case round =>
      obtain ⟨k, p, rfl, rfl, hR⟩ := hrel
      have hkl : (k : Int) ≤ 4294967297 := by have := hR.out.ql; omega
      have hpl : (p : Int) < 4294967296 := by have := hR.out.rl; omega
      have hm1 := E1.out.mul_bd k (by omega)
      obtain ⟨z, hz⟩ : ∃ z, z = k * n0 := ⟨_, rfl⟩
      rw [← hz] at hm1
      have hw : IntKind.u64.wrap ((k : Int) * (n0 : Int)) = (z : Int) := by rw [← Int.natCast_mul, ← hz]; exact uw_in (by omega)
      have HZ := hide hz
      clear hm1 hz
      by_cases hT : 4294967296 ≤ k ∨ 4294967296 * p + t1 < z
      · have hD := hide (hR.out.dec E1.out (by rw [← HZ.out]; exact hT))
        have hk1 : (1 : Int) ≤ k := by have := hD.out.2; omega
        have hpn : (p : Int) + n1 ≤ 8589934592 := by omega
        have hT2 : ¬ (4294967296 : Int) ≤ k → (4294967296 : Int) * p + t1 < z := by
          intro hh
          omega
        have ek := hide (show (k : Int) - 1 = ((k - 1 : Nat) : Int) by have := hD.out.2; omega)
        have ep := hide (show (p : Int) + n1 = ((p + n1 : Nat) : Int) by omega)
        by_cases hb : 4294967296 ≤ p + n1
        · have hbr := hide (E1.out.breaks hD.out.1 (by have := hR.out.ql; omega) hb)
          have hbi : (4294967296 : Int) ≤ p + n1 := by omega
          clear hb hT
          by_cases hk : (4294967296 : Int) ≤ k
          · clear hT2
            go_wp2_with fail
            go_meet
            exact ⟨by rw [ek.out, hbr.out], rfl⟩
          · have hT3 := hT2 hk
            have hT4 : decide ((4294967296 : Int) ≤ k) = false := by simpa using hk
            clear hT2
            go_wp2_with fail
            go_meet
            exact ⟨by rw [ek.out, hbr.out], rfl⟩
        · have hbi : decide ((4294967296 : Int) ≤ (p : Int) + n1) = false := by simp; omega
          have hrel2 := hide (show Rel u t1 v n1 n0 Q1 (k - 1) (p + n1) from ⟨hD.out.1, by have := hR.out.ql; omega, by omega⟩)
          clear hb hT
          by_cases hk : (4294967296 : Int) ≤ k
          · clear hT2
            go_wp2_with fail
            go_round
            case rel => exact ⟨k - 1, p + n1, by rw [← ek.out], by rw [← ep.out], hrel2⟩
            case measure => simp only [intOf]; omega
          · have hT3 := hT2 hk
            have hT4 : decide ((4294967296 : Int) ≤ k) = false := by simpa using hk
            clear hT2
            go_wp2_with fail
            go_round
            case rel => exact ⟨k - 1, p + n1, by rw [← ek.out], by rw [← ep.out], hrel2⟩
            case measure => simp only [intOf]; omega
      · have hf := hide (hR.out.fits E1.out (by rw [← HZ.out]; omega))
        have hk : decide ((4294967296 : Int) ≤ k) = false := by simp; omega
        have hk2 : decide ((4294967296 : Int) * p + t1 < (z : Int)) = false := by simp; omega
        clear hT
        go_wp2_with fail
        go_meet
        exact ⟨by rw [hf.out], rfl⟩
  case rest =>
    obtain ⟨rfl, rfl⟩ := hcut
    go_upto_block 2 with fail
    go_cut [18] (fun s18 wx => s18 = .int .u64 (Q0 : Int) ∧ w = wx)
    case first =>
      clear e1 e2 e3 e4 e5 e6 e7 e8 e9 f1 f8 f9 g1 g2 g3
      go_wp2_with fail
      have EB := E0.out.n1_bd
      have hn1b : (n1 : Int) < 4294967296 := by omega
      have hn0b : (n0 : Int) < 4294967296 := by omega
      have htb : (t0 : Int) < 4294967296 := by have := E0.out.ht; omega
      clear EB
      go_loop [18, 16] (fun a b => ∃ k p : Nat, a = .int .u64 k ∧ b = .int .u64 p ∧ Hid (Rel R1 t0 v n1 n0 Q0 k p)) (fun a _ => (intOf a).toNat)
      case atStart => exact ⟨q0, r0, rfl, rfl, E0.out.start⟩
      case round =>
        obtain ⟨k, p, rfl, rfl, hR⟩ := hrel
        have hkl : (k : Int) ≤ 4294967297 := by have := hR.out.ql; omega
        have hpl : (p : Int) < 4294967296 := by have := hR.out.rl; omega
        have hm1 := E0.out.mul_bd k (by omega)
        obtain ⟨z, hz⟩ : ∃ z, z = k * n0 := ⟨_, rfl⟩
        rw [← hz] at hm1
        have hw : IntKind.u64.wrap ((k : Int) * (n0 : Int)) = (z : Int) := by rw [← Int.natCast_mul, ← hz]; exact uw_in (by omega)
        have HZ := hide hz
        clear hm1 hz
        by_cases hT : 4294967296 ≤ k ∨ 4294967296 * p + t0 < z
        · have hD := hide (hR.out.dec E0.out (by rw [← HZ.out]; exact hT))
          have hk1 : (1 : Int) ≤ k := by have := hD.out.2; omega
          have hpn : (p : Int) + n1 ≤ 8589934592 := by omega
          have hT2 : ¬ (4294967296 : Int) ≤ k → (4294967296 : Int) * p + t0 < z := by
            intro hh
            omega
          have ek := hide (show (k : Int) - 1 = ((k - 1 : Nat) : Int) by have := hD.out.2; omega)
          have ep := hide (show (p : Int) + n1 = ((p + n1 : Nat) : Int) by omega)
          by_cases hb : 4294967296 ≤ p + n1
          · have hbr := hide (E0.out.breaks hD.out.1 (by have := hR.out.ql; omega) hb)
            have hbi : (4294967296 : Int) ≤ p + n1 := by omega
            clear hb hT
            by_cases hk : (4294967296 : Int) ≤ k
            · clear hT2
              go_wp2_with fail
              go_meet
              exact ⟨by rw [ek.out, hbr.out], rfl⟩
            · have hT3 := hT2 hk
              have hT4 : decide ((4294967296 : Int) ≤ k) = false := by simpa using hk
              clear hT2
              go_wp2_with fail
              go_meet
              exact ⟨by rw [ek.out, hbr.out], rfl⟩
          · have hbi : decide ((4294967296 : Int) ≤ (p : Int) + n1) = false := by simp; omega
            have hrel2 := hide (show Rel R1 t0 v n1 n0 Q0 (k - 1) (p + n1) from ⟨hD.out.1, by have := hR.out.ql; omega, by omega⟩)
            clear hb hT
            by_cases hk : (4294967296 : Int) ≤ k
            · clear hT2
              go_wp2_with fail
              go_round
              case rel => exact ⟨k - 1, p + n1, by rw [← ek.out], by rw [← ep.out], hrel2⟩
              case measure => simp only [intOf]; omega
            · have hT3 := hT2 hk
              have hT4 : decide ((4294967296 : Int) ≤ k) = false := by simpa using hk
              clear hT2
              go_wp2_with fail
              go_round
              case rel => exact ⟨k - 1, p + n1, by rw [← ek.out], by rw [← ep.out], hrel2⟩
              case measure => simp only [intOf]; omega
        · have hf := hide (hR.out.fits E0.out (by rw [← HZ.out]; omega))
          have hk : decide ((4294967296 : Int) ≤ k) = false := by simp; omega
          have hk2 : decide ((4294967296 : Int) * p + t0 < (z : Int)) = false := by simp; omega
          clear hT
          go_wp2_with fail
          go_meet
          exact ⟨by rw [hf.out], rfl⟩
    case rest =>
      obtain ⟨rfl, rfl⟩ := hcut
      go_wp2_with fail
      go_ret2
      exact ⟨rfl, rfl⟩
end Go.Proofs.Ytomgdleoegaooaa
