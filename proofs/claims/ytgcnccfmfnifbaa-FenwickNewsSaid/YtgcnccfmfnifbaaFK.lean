/- Counters that are none: nil, or not made. -/
import Derived.Test.YtgcnccfmfnifbaaFX
set_option linter.unusedVariables false
set_option linter.unusedSimpArgs false
namespace Go.Proofs.Ytgcnccfmfnifbaa
open Go.RowKit

def bad (w : World) (p : Option Addr) : Prop := p = none ∨ ∃ b, p = some ⟨b, 0, none⟩ ∧ w.cell? ⟨b, 0, none⟩ = some (.bool false)
theorem bad.keep {w w' : World} {p : Option Addr} (h : bad w p) (k : Kp [] w w') : bad w' p := by
  rcases h with rfl | ⟨b, rfl, hc⟩
  · exact .inl rfl
  · refine .inr ⟨b, rfl, ?_⟩
    have hlt : b < w.heap.size := by
      apply Classical.byContradiction
      intro hn
      simp [World.cell?, Array.getElem?_eq_none (by omega : w.heap.size ≤ b)] at hc
    rw [World.cell?_of_block (w := w) (k.block b hlt (by simp))]
    exact hc
theorem valid_f (p : Option Addr) (w : World) (h : bad w p) : Calls Try.prog 33 #[.pointer p] w fun e w' => e = .returned (.bool false) ∧ w = w' := by
  have hp := upC'
  rcases h with rfl | ⟨b, rfl, hc⟩
  · go_enter Try.func33, Try.ntmps33
    go_wp2_with fail
    go_ret
    exact ⟨rfl, rfl⟩
  · go_enter Try.func33, Try.ntmps33
    go_wp2_with fail
    go_ret
    exact ⟨rfl, rfl⟩
section
variable (p : Option Addr) (w : World) (h : bad w p)
include h
theorem len_f : Calls Try.prog 25 #[.pointer p] w fun e w' => e = .returned (.int .i64 0) ∧ w = w' := by
  have v0 := valid_f p w h
  clear h
  go_enter Try.func25, Try.ntmps25
  go_wp2_with fail
  refine v0.mono ?_
  rintro e w' ⟨rfl, rfl⟩
  go_wp2_with fail
  go_ret
  exact ⟨rfl, rfl⟩
theorem total_f : Calls Try.prog 24 #[.pointer p] w fun e w' => e = .returned (.int .i64 0) ∧ w = w' := by
  have v0 := valid_f p w h
  clear h
  go_enter Try.func24, Try.ntmps24
  go_wp2_with fail
  refine v0.mono ?_
  rintro e w' ⟨rfl, rfl⟩
  go_wp2_with fail
  go_ret
  exact ⟨rfl, rfl⟩
theorem copy_f : Calls Try.prog 18 #[.pointer p] w fun e w' => e = .returned (.pointer none) ∧ w = w' := by
  have v0 := valid_f p w h
  clear h
  go_enter Try.func18, Try.ntmps18
  go_wp2_with fail
  refine v0.mono ?_
  rintro e w' ⟨rfl, rfl⟩
  go_wp2_with fail
  go_ret
  exact ⟨rfl, rfl⟩
theorem get_f (i : Int) : Calls Try.prog 21 #[.pointer p, .int .i64 i] w fun e w' => e = .returned (.int .i64 0) ∧ w = w' := by
  have v0 := hide (len_f p w h)
  clear h
  by_cases h1 : i < 0
  · have d : decide (i < 0) = true := by simpa using h1
    clear h1
    go_enter Try.func21, Try.ntmps21
    go_wp2_with fail
    go_ret
    exact ⟨rfl, rfl⟩
  · have d : decide (i < 0) = false := by simpa using h1
    have d2 : decide (0 ≤ i) = true := by simp; omega
    clear h1
    go_enter Try.func21, Try.ntmps21
    go_wp2_with fail
    refine v0.out.mono ?_
    rintro e w' ⟨rfl, rfl⟩
    go_wp2_with fail
    go_ret
    exact ⟨rfl, rfl⟩
theorem prefix_f (k : Int) : Calls Try.prog 22 #[.pointer p, .int .i64 k] w fun e w' => e = .returned (.int .i64 0) ∧ Kp [] w w' := by
  have K1 := hide ((Kp.alloc w (.cells #[.pointer p] 24)))
  have V := hide (fun W (kW : Kp [] w W) => valid_f p W (h.keep kW))
  clear h
  go_enter Try.func22, Try.ntmps22
  go_wp2_with fail
  refine (V.out _ (by first | exact K1.out | exact Kp.refl _ _ | exact (Kp.alloc w _).allocK _)).mono ?_
  rintro e w' ⟨rfl, rfl⟩
  go_wp2_with fail
  go_ret
  exact ⟨rfl, by first | exact K1.out | exact Kp.refl _ _ | exact (Kp.alloc w _).allocK _⟩
theorem range_f (x y : Int) : Calls Try.prog 23 #[.pointer p, .int .i64 x, .int .i64 y] w fun e w' => e = .returned (.int .i64 0) ∧ Kp [] w w' := by
  have V := hide (fun W (kW : Kp [] w W) k => prefix_f p W (h.keep kW) k)
  clear h
  by_cases h1 : y ≤ x
  · have d : decide (y ≤ x) = true := by simpa using h1
    clear h1
    go_enter Try.func23, Try.ntmps23
    go_wp2_with fail
    go_ret
    exact ⟨rfl, Kp.refl _ _⟩
  · have d : decide (y ≤ x) = false := by simpa using h1
    clear h1
    go_enter Try.func23, Try.ntmps23
    go_wp2_with fail
    refine (V.out _ (Kp.refl _ _) _).mono ?_
    rintro e w1 ⟨rfl, k1⟩
    have K1 := hide k1
    clear k1
    go_wp2_with fail
    refine (V.out _ K1.out _).mono ?_
    rintro e w2 ⟨rfl, k2⟩
    have K2 := hide (K1.out.trans0 k2)
    clear k2
    go_wp2_with fail
    go_ret
    exact ⟨rfl, K2.out⟩
theorem find_f (x : Int) : Calls Try.prog 20 #[.pointer p, .int .i64 x] w fun e w' => e = .returned (.tuple #[.int .i64 0, .bool false]) ∧ Kp [] w w' := by
  have K1 := hide ((Kp.alloc w (.cells #[.pointer p] 24)))
  have V := hide (total_f p _ (h.keep K1.out))
  clear h
  by_cases h1 : x < 0
  · have d : decide (x < 0) = true := by simpa using h1
    clear h1
    go_enter Try.func20, Try.ntmps20
    go_wp2_with fail
    go_ret2
    exact ⟨rfl, K1.out⟩
  · have d : decide (x < 0) = false := by simpa using h1
    have d2 : decide (0 ≤ x) = true := by simp; omega
    clear h1
    go_enter Try.func20, Try.ntmps20
    go_wp2_with fail
    refine V.out.mono ?_
    rintro e w' ⟨rfl, rfl⟩
    go_wp2_with fail
    go_ret2
    exact ⟨rfl, K1.out⟩
theorem add_f (i d : Int) : Calls Try.prog 16 #[.pointer p, .int .i64 i, .int .i64 d] w fun e w' => e = .returned (.int .i64 1) ∧ Kp [] w w' := by
  have K1 := hide ((Kp.alloc w (.cells #[.pointer p] 24)).allocK (.cells #[.int .i64 d] 2))
  have V := hide (valid_f p _ (h.keep K1.out))
  clear h
  go_enter Try.func16, Try.ntmps16
  go_wp2_with fail
  refine V.out.mono ?_
  rintro e w' ⟨rfl, rfl⟩
  go_wp2_with fail
  go_ret
  exact ⟨rfl, K1.out⟩
end
end Go.Proofs.Ytgcnccfmfnifbaa
