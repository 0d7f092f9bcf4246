import Derived.Test.YtomgdleoegaooaaA
import Derived.Deep.QuietTactic
import Derived.BigQuiet
import Derived.Laws.Externs
set_option linter.unusedVariables false
set_option linter.unusedSimpArgs false
namespace Go.Proofs.Ytomgdleoegaooaa
open Go.RowKit

theorem ret1 {k : IntKind} {a b : Int} (h : a = b) : Ending.returned (.int k a) = .returned (.int k b) := by rw [h]
theorem ret2 {k l : IntKind} {a b c d : Int} (h : a = b) (h' : c = d) : Ending.returned (.tuple #[.int k a, .int l c]) = .returned (.tuple #[.int k b, .int l d]) := by rw [h, h']
theorem hide {p : Prop} (h : p) : Hid p := h
theorem below_drewN {B : Nat} {a w : World} (h : Below B a w) (n : Nat) : Below B a (w.drewN n) := ⟨h.os, h.tape, h.output, h.size, h.block⟩

theorem abs_neg {n : Int} (hn : I64 n) (h : n < 0) : IntKind.u64.wrap (-IntKind.u64.wrap n) = (n.natAbs : Int) := by
  rw [show IntKind.u64.wrap (-IntKind.u64.wrap n) = uw (-uw n) from rfl, uw_eq, uw_eq]; unfold I64 at hn; omega
set_option maxHeartbeats 400000 in
theorem absolute (n : Int) (hn : I64 n) (w : World) :
    Calls Try.prog 39 #[.int .i64 n] w fun e w' => e = .returned (.int .u64 (n.natAbs : Int)) ∧ w = w' := by
  have H := hide (abs_neg hn)
  unfold I64 at hn
  by_cases h : n < 0
  · go_enter Try.func39, Try.ntmps39
    go_wp2
    go_ret
    exact ⟨ret1 (H.out h), rfl⟩
  · have h2 : n = (n.natAbs : Int) := by omega
    have H2 := hide h2
    clear h2
    go_enter Try.func39, Try.ntmps39
    go_wp2
    go_ret
    exact ⟨ret1 H2.out, rfl⟩

set_option maxHeartbeats 400000 in
theorem divisor (a b : Nat) (ha : a < 18446744073709551616) (hb : b < 18446744073709551616) (w : World) :
    Calls Try.prog 40 #[.int .u64 a, .int .u64 b] w fun e w' => e = .returned (.int .u64 (Nat.gcd a b)) ∧ Below w.heap.size w w' := by
  go_enter Try.func40, Try.ntmps40
  go_wp2
  go_loopw [0, 1] (fun x y wr => ∃ c d : Nat, x = .int .u64 c ∧ y = .int .u64 d ∧ Hid (Nat.gcd c d = Nat.gcd a b) ∧ c < 18446744073709551616 ∧ d < 18446744073709551616 ∧ Below w.heap.size w wr) (fun _ y _ => (intOf y).toNat)
  case atStart => exact ⟨a, b, rfl, rfl, rfl, ha, hb, Below.refl _ _⟩
  case round =>
    obtain ⟨c, d, rfl, rfl, hg, hc, hd, hbel⟩ := hrel
    by_cases h0 : d = 0
    · subst h0
      go_wp2
      go_ret
      exact ⟨ret1 (by rw [← hg.out, Nat.gcd_zero_right]), hbel⟩
    · have hne : ((d : Int) != 0) = true := by rw [bne_iff_ne]; omega
      have hm : ((c % d : Nat) : Int) < d := by have := Nat.mod_lt c (Nat.pos_of_ne_zero h0); omega
      have hd1 : (1 : Int) ≤ d := by omega
      have hcm : ((c % d : Nat) : Int) ≤ c := by have := Nat.mod_le c d; omega
      have hcast := hide (Int.natCast_emod c d)
      go_wp2
      go_quiet (fail)
      go_wp2
      go_roundw
      case rel => exact ⟨d, c % d, rfl, by rw [hcast.out], by unfold Hid; rw [← hg.out, Nat.gcd_comm d, ← Nat.gcd_rec, Nat.gcd_comm], hd, by omega, below_drewN hbel _⟩
      case measure => simp only [intOf]; rw [← hcast.out]; omega
set_option maxHeartbeats 400000 in
theorem signed_yes (n : Int) (hn : I64 n) (m : Nat) (g : Bool) (hg : n = if g then -(m : Int) else m) (w : World) :
    Calls Try.prog 41 #[.bool g, .int .u64 m] w fun e w' => e = .returned (.tuple #[.int .i64 n, .int .i64 0]) ∧ w = w' := by
  unfold I64 at hn
  cases g
  · simp only [Bool.false_eq_true, if_false] at hg
    subst hg
    go_enter Try.func41, Try.ntmps41
    go_wp2
    go_ret2
    exact ⟨rfl, rfl⟩
  · simp only [if_true] at hg
    have hw : wrap64 (IntKind.u64.wrap (-(m : Int))) = n := by
      rw [show IntKind.u64.wrap (-(m : Int)) = uw _ from rfl, uw_eq]; unfold wrap64; omega
    have hm : (m : Int) ≤ 9223372036854775808 := by omega
    clear hg
    go_enter Try.func41, Try.ntmps41
    go_wp2
    go_ret2
    exact ⟨by simp [hw], rfl⟩
set_option maxHeartbeats 400000 in
theorem signed_no (m : Nat) (g : Bool) (hm : m < 18446744073709551616) (hg : ¬ I64 (if g then -(m : Int) else m)) (w : World) :
    Calls Try.prog 41 #[.bool g, .int .u64 m] w fun e w' => e = .returned (.tuple #[.int .i64 0, .int .i64 7]) ∧ w = w' := by
  unfold I64 at hg
  cases g
  · simp only [Bool.false_eq_true, if_false] at hg
    have hm : (9223372036854775807 : Int) < m := by omega
    clear hg
    go_enter Try.func41, Try.ntmps41
    go_wp2
    go_ret2
    exact ⟨rfl, rfl⟩
  · simp only [if_true] at hg
    have hm : (9223372036854775808 : Int) < (m : Int) := by omega
    clear hg
    go_enter Try.func41, Try.ntmps41
    go_wp2
    go_ret2
    exact ⟨rfl, rfl⟩
def sgn (x y : Int) : Int := if x < y then -1 else if y < x then 1 else 0
theorem sgn_lt {x y : Int} (h : x < y) : sgn x y = -1 := by simp [sgn, h]
theorem sgn_gt {x y : Int} (h : y < x) : sgn x y = 1 := by simp [sgn, h]; omega
theorem sgn_eq {x : Int} : sgn x x = 0 := by simp [sgn]
set_option maxHeartbeats 400000 in
theorem cmpi (x y : Int) (hx : I64 x) (hy : I64 y) (w : World) :
    Calls Try.prog 53 #[.int .i64 x, .int .i64 y] w fun e w' => e = .returned (.int .i64 (sgn x y)) ∧ w = w' := by
  rcases Int.lt_trichotomy x y with h | rfl | h
  · rw [sgn_lt h]
    go_enter Try.func53, Try.ntmps53
    go_wp2
    go_ret
    exact ⟨rfl, rfl⟩
  · rw [sgn_eq]
    go_enter Try.func53, Try.ntmps53
    go_wp2
    go_ret
    exact ⟨rfl, rfl⟩
  · rw [sgn_gt h]
    go_enter Try.func53, Try.ntmps53
    go_wp2
    go_ret
    exact ⟨rfl, rfl⟩
set_option maxHeartbeats 400000 in
theorem cmpu (x y : Int) (hx : U64 x) (hy : U64 y) (w : World) :
    Calls Try.prog 54 #[.int .u64 x, .int .u64 y] w fun e w' => e = .returned (.int .i64 (sgn x y)) ∧ w = w' := by
  rcases Int.lt_trichotomy x y with h | rfl | h
  · rw [sgn_lt h]
    go_enter Try.func54, Try.ntmps54
    go_wp2
    go_ret
    exact ⟨rfl, rfl⟩
  · rw [sgn_eq]
    go_enter Try.func54, Try.ntmps54
    go_wp2
    go_ret
    exact ⟨rfl, rfl⟩
  · rw [sgn_gt h]
    go_enter Try.func54, Try.ntmps54
    go_wp2
    go_ret
    exact ⟨rfl, rfl⟩
end Go.Proofs.Ytomgdleoegaooaa
