/- Two counters apart. -/
import Derived.Test.YtgcnccfmfnifbaaFC
import Derived.Test.YtgcnccfmfnifbaaFO
set_option linter.unusedVariables false
set_option linter.unusedSimpArgs false
namespace Go.Proofs.Ytgcnccfmfnifbaa
open Go.RowKit

theorem get_at {B : Nat} {w : World} {b n : Nat} {own : List Nat} {C : Nat → Int} (h : FAt B w b n own C) {i : Nat} (hi : i < n) {v : Int} (hv : C i = v) :
    ∀ W, Kp [] w W → Calls Try.prog 21 #[.pointer (some ⟨b, 0, none⟩), .int .i64 (i : Int)] W fun e w' => e = .returned (.int .i64 v) ∧ Kp [] w w' := fun W k => by
  have := h.asks.get W k (i : Int)
  rwa [getN hi, hv] at this
theorem tot_at {B : Nat} {w : World} {b n : Nat} {own : List Nat} {C : Nat → Int} (h : FAt B w b n own C) {T : Int} (hT : sumS C n = T) :
    ∀ W, Kp [] w W → Calls Try.prog 24 #[.pointer (some ⟨b, 0, none⟩)] W fun e w' => e = .returned (.int .i64 T) ∧ Kp [] w w' := fun W k => by
  have := h.asks.tot W k
  rwa [hT] at this
theorem pre_at {B : Nat} {w : World} {b n : Nat} {own : List Nat} {C : Nat → Int} (h : FAt B w b n own C) {i : Nat} (hi : i ≤ n) {v : Int} (hv : sumS C i = v) {z : Int} (hz : z = (i : Int)) :
    ∀ W, Kp [] w W → Calls Try.prog 22 #[.pointer (some ⟨b, 0, none⟩), .int .i64 z] W fun e w' => e = .returned (.int .i64 v) ∧ Kp [] w w' := fun W k => by
  subst hz
  have := h.asks.pre W k (i : Int)
  rwa [clip_nat hi, hv] at this
end Go.Proofs.Ytgcnccfmfnifbaa
