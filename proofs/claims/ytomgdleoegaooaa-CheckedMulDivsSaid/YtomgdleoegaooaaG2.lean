/- The code's and the specification's results under one name: the value, or 0 and an error. -/
import Derived.Test.YtomgdleoegaooaaAp
import Derived.Test.YtomgdleoegaooaaS5
set_option linter.unusedVariables false
set_option linter.unusedSimpArgs false
namespace Go.Proofs.Ytomgdleoegaooaa
open Go.RowKit

def GPost (z : Int) (w : World) (e : Ending) (w' : World) : Prop := e = .returned (.tuple #[.int .i64 (gv z), .int .i64 (ge z)]) ∧ Below w.heap.size w w'
theorem FPost.g {z : Int} {w w' : World} {e : Ending} (h : FPost z w e w') : GPost z w e w' := by
  obtain ⟨⟨h, rfl⟩ | ⟨h, rfl⟩, b⟩ := h
  · exact ⟨by rw [gv_ok h, ge_ok h], b⟩
  · exact ⟨by rw [gv_no h, ge_no h], b⟩
theorem g_add (a b : Int) (ha : I64 a) (hb : I64 b) (w : World) : Calls Try.prog 13 #[.int .i64 a, .int .i64 b] w (GPost (a + b) w) := by
  refine (add_any a b w ha hb).mono ?_
  rintro e w' ⟨rfl, rfl⟩
  exact ⟨rfl, Below.refl _ _⟩
theorem g_sub (a b : Int) (ha : I64 a) (hb : I64 b) (w : World) : Calls Try.prog 15 #[.int .i64 a, .int .i64 b] w (GPost (a - b) w) := by
  by_cases h : I64 (a - b)
  · refine (sub_ok a b w ha hb h).mono ?_
    rintro e w' ⟨rfl, rfl⟩
    exact ⟨by rw [gv_ok h, ge_ok h], Below.refl _ _⟩
  · refine (sub_no a b w ha hb h).mono ?_
    rintro e w' ⟨rfl, rfl⟩
    exact ⟨by rw [gv_no h, ge_no h], Below.refl _ _⟩
theorem g_mul (a b : Int) (ha : I64 a) (hb : I64 b) (w : World) : Calls Try.prog 17 #[.int .i64 a, .int .i64 b] w (GPost (a * b) w) := by
  by_cases h : I64 (a * b)
  · refine (mul_ok a b ha hb h w).mono ?_
    rintro e w' ⟨rfl, bb⟩
    exact ⟨by rw [gv_ok h, ge_ok h], bb⟩
  · refine (mul_no a b ha hb h w).mono ?_
    rintro e w' ⟨rfl, bb⟩
    exact ⟨by rw [gv_no h, ge_no h], bb⟩
theorem g_div (a b c : Int) (ha : I64 a) (hb : I64 b) (hc : I64 c) (h1 : 1 ≤ c) (w : World) : Calls Try.prog 22 #[.int .i64 a, .int .i64 b, .int .i64 c] w (GPost (a * b / c) w) := by
  by_cases h : I64 (a * b / c)
  · refine (muldiv_ok a b c ha hb hc h1 h w).mono ?_
    rintro e w' ⟨rfl, bb⟩
    exact ⟨by rw [gv_ok h, ge_ok h], bb⟩
  · refine (muldiv_no a b c ha hb hc h1 h w).mono ?_
    rintro e w' ⟨rfl, bb⟩
    exact ⟨by rw [gv_no h, ge_no h], bb⟩
end Go.Proofs.Ytomgdleoegaooaa
