/- Size. -/
import Derived.Test.YtfjmnidenoojhaaC
set_option linter.unusedVariables false
set_option linter.unusedSimpArgs false
namespace Go.Proofs.Ytfjmnidenoojhaa
open Go.RowKit

theorem blk_off {w : World} {g b : Nat} {x : Obj} (h : w.heap[b]? = some x) (n : g ≠ b) (j : Nat) (u : Value) : (w.setCell ⟨g, j, none⟩ u).heap[b]? = some x := by
  rw [heap_setCell_other _ _ _ _ (by simpa using Ne.symm n)]; exact h
theorem UM.drew {B : Nat} {w : World} {b n : Nat} {P Z : Nat → Nat} {G : List Nat} {vP vS vG : Value} (M : UM B w b vP vS vG n P Z G) : UM B w.drew b vP vS vG n P Z G := M.keep (Kp.drewN [] w 1) (by simp)
set_option maxHeartbeats 4000000 in
theorem size_m {B : Nat} {w : World} {b n : Nat} {P Z R L : Nat → Nat} {G : List Nat} {vP vS vG : Value} (M : UM B w b vP vS vG n P Z G) (u : UI n P Z R L G) (x : Nat) (hx : x < n) :
    Calls Try.prog 30 #[.pointer (some ⟨b, 0, none⟩), .int .i64 (x : Int)] w fun e w' => e = .returned (.int .i64 ((cnt L (L x) n : Nat) : Int)) ∧ Below w.heap.size w w' := by
  have h1 := has_m M (x : Int)
  rw [dec_in hx] at h1
  rw [← u.size hx]
  have hl := u.rl x hx
  have R2 := hide (root_m M.drew u x hx)
  generalize R x = r at *
  obtain ⟨pS, cS, rfl⟩ := row_slice M.S
  obtain ⟨gS, rfl, e1, f1, _⟩ := row_cell M.S hl
  rw [intsF_get Z hl] at e1
  have K0 : w.drew.cell? ⟨b, 2, none⟩ = some (.slice (some ⟨gS, 0, none⟩) n cS) ∧ w.drew.cell? ⟨gS, r, none⟩ = some (.int .i64 ((Z r : Nat) : Int)) := ⟨M.c.2.2.1, e1⟩
  have hp := upPtr
  clear M u hx e1 f1
  go_enter Try.func30, Try.ntmps30
  go_wp2_with fail
  refine h1.mono ?_
  rintro e w' ⟨rfl, rfl⟩
  go_wp2_with fail
  go_region_held3 (fun w' => w'.cell? ⟨b, 2, none⟩ = some (.slice (some ⟨gS, 0, none⟩) n cS) ∧ w'.cell? ⟨gS, r, none⟩ = some (.int .i64 ((Z r : Nat) : Int)))
    (with_reducible assumption)
    (first | (go_at_call 46; refine R2.out.mono ?_; rintro e w1 ⟨rfl, rfl⟩; have K1 : w.drew.cell? ⟨b, 2, none⟩ = some (.slice (some ⟨gS, 0, none⟩) n cS) ∧ w.drew.cell? ⟨gS, r, none⟩ = some (.int .i64 ((Z r : Nat) : Int)) := K0))
  all_goals
    go_wp2_with fail
    go_ret
    exact ⟨rfl, (Kp.drewN [] w 1).below (by simp) (Nat.le_refl _)⟩
end Go.Proofs.Ytfjmnidenoojhaa
