/- Merge on both sides, whatever it is asked. -/
import Derived.Test.YtenoalfjobghnaaHa
set_option linter.unusedVariables false
set_option linter.unusedSimpArgs false
namespace Go.Proofs.Ytenoalfjobghnaa
open Go.RowKit

theorem rmerge_f (w : World) (o : Option Addr) : Calls Try.prog 26 #[.pointer none, .pointer o] w fun e w' => e = .returned (.int .i64 1) ∧ w = w' := by
  have v0 := rvalid_n w
  go_enter Try.func26, Try.ntmps26
  go_wp2_with (go_at_call 40; refine v0.mono ?_; rintro e w' ⟨rfl, rfl⟩)
  go_ret
  exact ⟨rfl, rfl⟩
theorem rmerge_g {w : World} {b : Nat} (c0 : w.cell? ⟨b, 0, none⟩ = some (.bool true)) : Calls Try.prog 26 #[.pointer (some ⟨b, 0, none⟩), .pointer none] w fun e w' => e = .returned (.int .i64 1) ∧ w = w' := by
  have v0 := hide (rvalid_t c0)
  have v1 := hide (rvalid_n w)
  clear c0
  go_enter Try.func26, Try.ntmps26
  go_wp2_with fail
  refine v0.out.mono ?_
  rintro e w' ⟨rfl, rfl⟩
  go_wp2_with fail
  refine v1.out.mono ?_
  rintro e w' ⟨rfl, rfl⟩
  go_wp2_with fail
  go_ret
  exact ⟨rfl, rfl⟩
/-- what Merge answers, and the counts behind it -/
def MR (okA okB : Bool) (m m' : Nat) (V V' C C' : Nat → Int) (e : Int) (D : Nat → Int) : Prop :=
  ((okA = false ∨ okB = false) ∧ e = 1 ∧ D = C) ∨ ((okA = true ∧ okB = true) ∧ differ m m' V V' ∧ e = 2 ∧ D = C) ∨
  ((okA = true ∧ okB = true) ∧ (m = m' ∧ ∀ i, i < m → V i = V' i) ∧ 9223372036854775807 < sumI C (m + 1) + sumI C' (m + 1) ∧ e = 7 ∧ D = C) ∨
  ((okA = true ∧ okB = true) ∧ (m = m' ∧ ∀ i, i < m → V i = V' i) ∧ sumI C (m + 1) + sumI C' (m + 1) ≤ 9223372036854775807 ∧ e = 0 ∧ D = fun i => C i + C' i)
theorem MR_ex (okA okB : Bool) (m m' : Nat) (V V' C C' : Nat → Int) : ∃ e D, MR okA okB m m' V V' C C' e D := by
  by_cases h1 : okA = false ∨ okB = false
  · exact ⟨1, C, .inl ⟨h1, rfl, rfl⟩⟩
  · have h1' : okA = true ∧ okB = true := by cases okA <;> cases okB <;> simp at h1 ⊢
    by_cases h2 : differ m m' V V'
    · exact ⟨2, C, .inr (.inl ⟨h1', h2, rfl, rfl⟩)⟩
    · have h2' : m = m' ∧ ∀ i, i < m → V i = V' i := by
        constructor
        · exact Classical.byContradiction fun h => h2 (.inl h)
        · exact Classical.byContradiction fun h => h2 (.inr h)
      by_cases h3 : 9223372036854775807 < sumI C (m + 1) + sumI C' (m + 1)
      · exact ⟨7, C, .inr (.inr (.inl ⟨h1', h2', h3, rfl, rfl⟩))⟩
      · exact ⟨0, _, .inr (.inr (.inr ⟨h1', h2', by omega, rfl, rfl⟩))⟩
theorem merge_b {okA okB : Bool} {S S' : Nat} {w : World} {a b : Id} {m m' : Nat} {V V' C C' : Nat → Int} {p q : Option Addr} (h : HB okA S w a m V C p) (o : HB okB S' w b m' V' C' q) (hne : okA = true → okB = true → ∀ g, a.vC.ownBlock = some g → b.b ≠ g) {er : Int} {D : Nat → Int} (r : MR okA okB m m' V V' C C' er D) :
    Calls Try.prog 25 #[.pointer p, .pointer q] w fun e w' => e = .returned (.int .i64 er) ∧ HB okA S w' a m V D p ∧ Kp (ownB okA a) w w' := by
  rcases h with ⟨rfl, rfl, h3⟩ | ⟨rfl, rfl⟩
  · rcases o with ⟨rfl, rfl, o3⟩ | ⟨rfl, rfl⟩
    · rcases r with ⟨h, _⟩ | ⟨_, d, rfl, rfl⟩ | ⟨_, ⟨rfl, e⟩, ov, rfl, rfl⟩ | ⟨_, ⟨rfl, e⟩, fi, rfl, rfl⟩
      · simp at h
      · refine (merge_arg h3.M o3.M h3.hm o3.hm d).mono ?_
        rintro e w' ⟨rfl, k⟩
        exact ⟨rfl, .inl ⟨rfl, rfl, h3.keep0 k⟩, k.mono (by simp)⟩
      · refine (merge_over h3.M o3.M h3.hm e h3.nn o3.nn h3.top o3.top ov).mono ?_
        rintro e w' ⟨rfl, k⟩
        exact ⟨rfl, .inl ⟨rfl, rfl, h3.keep0 k⟩, k.mono (by simp)⟩
      · refine (merge_t h3.M o3.M h3.hm e h3.nn o3.nn (hne rfl rfl) fi).mono ?_
        rintro e w' ⟨rfl, M, k⟩
        exact ⟨rfl, .inl ⟨rfl, rfl, ⟨M, h3.hm, h3.inc, fun i hi => by have := h3.nn i hi; have := o3.nn i hi; omega, by rw [sumI_add]; exact fi⟩⟩, k⟩
    · rcases r with ⟨_, rfl, rfl⟩ | ⟨h, _⟩ | ⟨h, _⟩ | ⟨h, _⟩
      · obtain ⟨g, c, hv⟩ := h3.M.C_at
        have c1 := h3.M.c.2
        rw [hv] at c1
        refine (merge_g none w (.inl rfl) c1).mono ?_
        rintro e w' ⟨rfl, rfl⟩
        exact ⟨rfl, .inl ⟨rfl, rfl, h3⟩, Kp.refl _ _⟩
      · cases h.2
      · cases h.2
      · cases h.2
  · rcases r with ⟨_, rfl, rfl⟩ | ⟨h, _⟩ | ⟨h, _⟩ | ⟨h, _⟩
    · refine (merge_f none w (.inl rfl) q).mono ?_
      rintro e w' ⟨rfl, rfl⟩
      exact ⟨rfl, .inr ⟨rfl, rfl⟩, Kp.refl _ _⟩
    · cases h.1
    · cases h.1
    · cases h.1
theorem rmerge_b {okA okB : Bool} {S S' : Nat} {w : World} {a b : Id} {m m' : Nat} {V V' C C' : Nat → Int} {p q : Option Addr} (h : RB okA S w a m V C p) (o : RB okB S' w b m' V' C' q) {er : Int} {D : Nat → Int} (r : MR okA okB m m' V V' C C' er D) :
    Calls Try.prog 26 #[.pointer p, .pointer q] w fun e w' => e = .returned (.int .i64 er) ∧ RB okA S w' a m V D p ∧ Kp (ownB okA a) w w' := by
  rcases h with ⟨rfl, rfl, h3⟩ | ⟨rfl, rfl⟩
  · rcases o with ⟨rfl, rfl, o3⟩ | ⟨rfl, rfl⟩
    · rcases r with ⟨h, _⟩ | ⟨_, d, rfl, rfl⟩ | ⟨_, ⟨rfl, e⟩, ov, rfl, rfl⟩ | ⟨_, ⟨rfl, e⟩, fi, rfl, rfl⟩
      · simp at h
      · refine (rmerge_arg h3.M o3.M h3.hm o3.hm d).mono ?_
        rintro e w' ⟨rfl, k⟩
        exact ⟨rfl, .inl ⟨rfl, rfl, h3.keep0 k⟩, k.mono (by simp)⟩
      · refine (rmerge_over h3.M o3.M h3.hm e h3.nn o3.nn h3.top o3.top ov).mono ?_
        rintro e w' ⟨rfl, k⟩
        exact ⟨rfl, .inl ⟨rfl, rfl, h3.keep0 k⟩, k.mono (by simp)⟩
      · refine (rmerge_t h3.M o3.M h3.hm e h3.nn o3.nn fi).mono ?_
        rintro e w' ⟨rfl, M, k⟩
        exact ⟨rfl, .inl ⟨rfl, rfl, ⟨M, h3.hm, fun i hi => by have := h3.nn i hi; have := o3.nn i hi; omega, by rw [sumI_add]; exact fi⟩⟩, k⟩
    · rcases r with ⟨_, rfl, rfl⟩ | ⟨h, _⟩ | ⟨h, _⟩ | ⟨h, _⟩
      · refine (rmerge_g h3.M.c.1).mono ?_
        rintro e w' ⟨rfl, rfl⟩
        exact ⟨rfl, .inl ⟨rfl, rfl, h3⟩, Kp.refl _ _⟩
      · cases h.2
      · cases h.2
      · cases h.2
  · rcases r with ⟨_, rfl, rfl⟩ | ⟨h, _⟩ | ⟨h, _⟩ | ⟨h, _⟩
    · refine (rmerge_f w q).mono ?_
      rintro e w' ⟨rfl, rfl⟩
      exact ⟨rfl, .inr ⟨rfl, rfl⟩, Kp.refl _ _⟩
    · cases h.1
    · cases h.1
    · cases h.1
end Go.Proofs.Ytenoalfjobghnaa
