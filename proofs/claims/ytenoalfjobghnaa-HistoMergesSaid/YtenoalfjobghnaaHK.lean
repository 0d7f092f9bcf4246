/- Histograms that are none: nil, or not made. -/
import Derived.Test.YtenoalfjobghnaaHJ
set_option linter.unusedVariables false
set_option linter.unusedSimpArgs false
namespace Go.Proofs.Ytenoalfjobghnaa
open Go.RowKit

def bad (w : World) (p : Option Addr) : Prop := p = none ∨ ∃ b, p = some ⟨b, 0, none⟩ ∧ w.cell? ⟨b, 1, none⟩ = some (.slice none 0 0)
theorem bad.keep {w w' : World} {p : Option Addr} (h : bad w p) (k : Kp [] w w') : bad w' p := by
  rcases h with rfl | ⟨b, rfl, hc⟩
  · exact .inl rfl
  · refine .inr ⟨b, rfl, ?_⟩
    have hlt : b < w.heap.size := by
      apply Classical.byContradiction
      intro hn
      simp [World.cell?, Array.getElem?_eq_none (by omega : w.heap.size ≤ b)] at hc
    rw [World.cell?_of_block (w := w) (k.block b hlt (by simp))]
    exact hc
theorem valid_f (p : Option Addr) (w : World) (h : bad w p) : Calls Try.prog 38 #[.pointer p] w fun e w' => e = .returned (.bool false) ∧ w = w' := by
  rcases h with rfl | ⟨b, rfl, hc⟩
  · exact valid_n w
  · exact valid_e hc
section
variable (p : Option Addr) (w : World) (h : bad w p)
include h
theorem add_f (x t : Int) : Calls Try.prog 18 #[.pointer p, .int .i64 x, .int .i64 t] w fun e w' => e = .returned (.int .i64 1) ∧ w = w' := by
  have v0 := valid_f p w h
  go_enter Try.func18, Try.ntmps18
  go_wp2_with (go_at_call 38; refine v0.mono ?_; rintro e w' ⟨rfl, rfl⟩)
  go_ret
  exact ⟨rfl, rfl⟩
theorem counts_f : Calls Try.prog 29 #[.pointer p] w fun e w' => e = .returned (.slice none 0 0) ∧ w = w' := by
  have v0 := valid_f p w h
  go_enter Try.func29, Try.ntmps29
  go_wp2_with (go_at_call 38; refine v0.mono ?_; rintro e w' ⟨rfl, rfl⟩)
  go_ret
  exact ⟨rfl, rfl⟩
theorem bounds_f : Calls Try.prog 30 #[.pointer p] w fun e w' => e = .returned (.slice none 0 0) ∧ w = w' := by
  have v0 := valid_f p w h
  go_enter Try.func30, Try.ntmps30
  go_wp2_with (go_at_call 38; refine v0.mono ?_; rintro e w' ⟨rfl, rfl⟩)
  go_ret
  exact ⟨rfl, rfl⟩
theorem total_f : Calls Try.prog 31 #[.pointer p] w fun e w' => e = .returned (.int .i64 0) ∧ w = w' := by
  have v0 := valid_f p w h
  go_enter Try.func31, Try.ntmps31
  go_wp2_with (go_at_call 38; refine v0.mono ?_; rintro e w' ⟨rfl, rfl⟩)
  go_ret
  exact ⟨rfl, rfl⟩
theorem copy_f : Calls Try.prog 32 #[.pointer p] w fun e w' => e = .returned (.pointer none) ∧ w = w' := by
  have v0 := valid_f p w h
  go_enter Try.func32, Try.ntmps32
  go_wp2_with (go_at_call 38; refine v0.mono ?_; rintro e w' ⟨rfl, rfl⟩)
  go_ret
  exact ⟨rfl, rfl⟩
theorem coarse_f (i : Int) : Calls Try.prog 27 #[.pointer p, .int .i64 i] w fun e w' => e = .returned (.tuple #[.pointer none, .int .i64 1]) ∧ w = w' := by
  have v0 := valid_f p w h
  go_enter Try.func27, Try.ntmps27
  go_wp2_with (go_at_call 38; refine v0.mono ?_; rintro e w' ⟨rfl, rfl⟩)
  go_ret2
  exact ⟨rfl, rfl⟩
theorem merge_f (o : Option Addr) : Calls Try.prog 25 #[.pointer p, .pointer o] w fun e w' => e = .returned (.int .i64 1) ∧ w = w' := by
  have v0 := valid_f p w h
  go_enter Try.func25, Try.ntmps25
  go_wp2_with (go_at_call 38; refine v0.mono ?_; rintro e w' ⟨rfl, rfl⟩)
  go_ret
  exact ⟨rfl, rfl⟩
theorem bucket_n (x : Int) : Calls Try.prog 20 #[.pointer p, .int .i64 x] w fun e w' => e = .returned (.int .i64 0) ∧ Kp [] w w' := bucket_f p w x (fun W k => valid_f p W (h.keep k))
theorem quantile_f (n d : Int) : Calls Try.prog 23 #[.pointer p, .int .i64 n, .int .i64 d] w fun e w' => e = .returned (.tuple #[.int .i64 0, .int .i64 1]) ∧ Kp [] w w' := by
  have K3 := hide (((Kp.alloc (o := []) w (.cells #[.pointer p] 24)).allocK (.cells #[.int .i64 n] 2)).allocK (.cells #[.int .i64 d] 2))
  have H := hide (valid_f p _ (h.keep K3.out))
  clear h
  go_enter Try.func23, Try.ntmps23
  go_wp2_with fail
  refine H.out.mono ?_
  rintro e w' ⟨rfl, rfl⟩
  go_wp2_with fail
  go_ret2
  exact ⟨rfl, K3.out⟩
theorem merge_g {b n c : Nat} {g : Addr} (c1 : w.cell? ⟨b, 1, none⟩ = some (.slice (some g) n c)) : Calls Try.prog 25 #[.pointer (some ⟨b, 0, none⟩), .pointer p] w fun e w' => e = .returned (.int .i64 1) ∧ w = w' := by
  have v0 := hide (valid_t c1)
  have v1 := hide (valid_f p w h)
  clear h c1
  go_enter Try.func25, Try.ntmps25
  go_wp2_with fail
  refine v0.out.mono ?_
  rintro e w' ⟨rfl, rfl⟩
  go_wp2_with fail
  refine v1.out.mono ?_
  rintro e w' ⟨rfl, rfl⟩
  go_wp2_with fail
  go_ret
  exact ⟨rfl, rfl⟩
end
end Go.Proofs.Ytenoalfjobghnaa
