/- Numbers of 64 bits, and what stays below: free of any one program. -/
import Derived.Test.YtgcnccfmfnifbaaGen
import Derived.Deep.QuietTactic
import Derived.ProofKit
import Derived.OpenShut
import Derived.ChangeOld
import Derived.Lib.SmallJoins
set_option linter.unusedVariables false
set_option linter.unusedSimpArgs false
namespace Go.Proofs.Ytgcnccfmfnifbaa
open Go.ChangeShapes Go.WideShapes Go.ChangeAt Go.RowKit

def I64 (n : Int) : Prop := -9223372036854775808 ≤ n ∧ n ≤ 9223372036854775807
theorem wf_I64 {n : Int} (h : (Lit.int .i64 n).wf = true) : I64 n := by
  have := bounds_i64 h; unfold I64; omega
theorem ret1 {k : IntKind} {a b : Int} (h : a = b) : Ending.returned (.int k a) = .returned (.int k b) := by rw [h]
theorem ret2 {k l : IntKind} {a b c d : Int} (h : a = b) (h' : c = d) : Ending.returned (.tuple #[.int k a, .int l c]) = .returned (.tuple #[.int k b, .int l d]) := by rw [h, h']
theorem below_drewN {B : Nat} {a w : World} (h : Below B a w) (n : Nat) : Below B a (w.drewN n) := ⟨h.os, h.tape, h.output, h.size, h.block⟩
theorem bcell {B : Nat} {W w1 : World} (hb : Below B W w1) : (∀ b o, b < B → w1.cell? ⟨b, o, none⟩ = W.cell? ⟨b, o, none⟩) ∧ (∀ b o, b < B → w1.frozen? ⟨b, o, none⟩ = W.frozen? ⟨b, o, none⟩) :=
  ⟨fun b o h => hb.cell (p := ⟨b, o, none⟩) h, fun b o h => hb.frozen (p := ⟨b, o, none⟩) h⟩
def sgn (x y : Int) : Int := if x < y then -1 else if y < x then 1 else 0
theorem sgn_lt {x y : Int} (h : x < y) : sgn x y = -1 := by simp [sgn, h]
theorem sgn_gt {x y : Int} (h : y < x) : sgn x y = 1 := by simp [sgn, h]; omega
theorem sgn_eq {x : Int} : sgn x x = 0 := by simp [sgn]
theorem sgn_bd (x y : Int) : -1 ≤ sgn x y ∧ sgn x y ≤ 1 := by unfold sgn; split <;> (try split) <;> omega
theorem sgn_neg (x y : Int) : (decide (sgn x y < 0)) = decide (x < y) := by unfold sgn; split <;> (try split) <;> simp_all
/-- the value, or 0 -/
def gv (z : Int) : Int := if -9223372036854775808 ≤ z ∧ z ≤ 9223372036854775807 then z else 0
/-- no error, or that it does not fit -/
def ge (z : Int) : Int := if -9223372036854775808 ≤ z ∧ z ≤ 9223372036854775807 then 0 else 7
theorem gv_ok {z : Int} (h : I64 z) : gv z = z := by unfold I64 at h; unfold gv; rw [if_pos h]
theorem ge_ok {z : Int} (h : I64 z) : ge z = 0 := by unfold I64 at h; unfold ge; rw [if_pos h]
theorem gv_no {z : Int} (h : ¬ I64 z) : gv z = 0 := by unfold I64 at h; unfold gv; rw [if_neg h]
theorem ge_no {z : Int} (h : ¬ I64 z) : ge z = 7 := by unfold I64 at h; unfold ge; rw [if_neg h]
theorem i64_abs {x : Int} (h : I64 x) : x.natAbs ≤ 9223372036854775808 := by unfold I64 at h; omega
end Go.Proofs.Ytgcnccfmfnifbaa
