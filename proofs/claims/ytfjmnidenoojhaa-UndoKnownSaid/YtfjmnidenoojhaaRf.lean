/- rollBack and Undo, of sets by their labels alone. -/
import Derived.Test.YtfjmnidenoojhaaRe
set_option linter.unusedVariables false
set_option linter.unusedSimpArgs false
namespace Go.Proofs.Ytfjmnidenoojhaa
open Go.RowKit Go.Shelf

theorem row_cap {w : World} {B e g n c : Nat} {xs : List Value} (h : w.ownsRow B e 1 (.slice (some ⟨g, 0, none⟩) n c) n xs) : n ≤ c := by
  rcases h.2 with h1 | ⟨g', cap, cur, he, hb, hh, h4, h5, h6, h7⟩
  · cases h1.1
  · injection he with e1 e2 e3
    omega
theorem roll_u {B : Nat} {w : World} {b n : Nat} {own : List Nat} {L : Nat → Nat} {H : List (Nat → Nat)} (h : US B w b own n L H) (m : Nat) (hm : m ≤ H.length) (hB : B ≤ w.heap.size) :
    BothC Try.prog 42 #[.pointer (some ⟨b, 0, none⟩), .int .i64 (m : Int)] w fun e w' => e = .returned (.tuple #[]) ∧ US B w' b own n (atL L H m) (H.take m) ∧ Kp own w w' := by
  obtain ⟨P, Z, R, G, vP, vS, vG, M, u, hn, ho⟩ := h
  have hl := u.hlen
  have hb : b ∈ own := by rw [ho]; simp
  obtain ⟨p, c, rfl⟩ := row_slice M.G
  by_cases hz : m = G.length
  · have fin : ∀ w', UM B w' b vP vS (.slice p G.length c) n P Z G → US B w' b own n (atL L H m) (H.take m) := by
      intro w' M'
      rw [atL_last (by omega), List.take_of_length_le (by omega)]
      exact ⟨P, Z, R, G, vP, vS, _, M', u, hn, ho⟩
    subst hz
    have kk : ∀ w', Kp [b] w w' → Kp own w w' := fun w' k => k.mono fun x hx _ => by simp at hx; subst hx; exact hb
    rcases M.G.2 with ⟨he, h0⟩ | ⟨g, c', cur, he, _⟩
    · injection he with e1 e2 e3
      subst e1; subst e3
      have hG : G = [] := List.eq_nil_of_length_eq_zero h0
      subst hG
      refine (roll_nil (P := P) (Z := Z) (G := []) M).mono ?_
      rintro e w' ⟨rfl, M', k⟩
      exact ⟨rfl, fin w' M', kk w' k⟩
    · injection he with e1 e2 e3
      subst e1
      have hc := row_cap M.G
      by_cases hcc : G.length = c
      · subst hcc
        refine (roll_cap G.length M).mono ?_
        rintro e w' ⟨rfl, M', k⟩
        exact ⟨rfl, fin w' M', kk w' k⟩
      · refine (roll_end G.length (by omega) M).mono ?_
        rintro e w' ⟨rfl, M', k⟩
        exact ⟨rfl, fin w' M', kk w' k⟩
  · have i := u.inv
    have len := i.len
    obtain ⟨gP, cP, rfl⟩ := row_some M.P (by omega)
    obtain ⟨gS, cS, rfl⟩ := row_some M.S (by omega)
    obtain ⟨gG, cG, hv⟩ := row_some M.G (by omega)
    injection hv with e1 e2 e3
    subst e1
    have hc := row_cap M.G
    refine (roll_row m (by omega) hn (by omega) i.gl (RM.of_UM M i.pl) M.ap hB hc (by omega)).mono ?_
    rintro e w' ⟨rfl, M', k⟩
    obtain ⟨P', Z', R', u', e⟩ := uPZ_back u hn m (by omega) (G.length - m) (Nat.le_refl _)
    rw [show G.length - (G.length - m) = m by omega] at u'
    rw [e] at M'
    have hml : (G.take m).length = m := by simp; omega
    refine ⟨rfl, ⟨P', Z', R', G.take m, _, _, _, RM.to_UM M' M.ge M.ap, u', hn, ho⟩, k.mono fun x hx _ => ?_⟩
    rw [ho]
    simp at hx
    simp [Value.ownBlock]
    omega
section
variable {B : Nat} {w : World} {b n : Nat} {own : List Nat} {L : Nat → Nat} {H : List (Nat → Nat)} (h : US B w b own n L H)
include h
theorem log_c : ∃ p c, w.cell? ⟨b, 3, none⟩ = some (.slice p H.length c) := by
  obtain ⟨P, Z, R, G, vP, vS, vG, M, u, hn, ho⟩ := h
  obtain ⟨p, c, rfl⟩ := row_slice M.G
  exact ⟨p, c, by rw [u.hlen]; exact M.c.2.2.2⟩
theorem undo_u (m : Nat) (hm : m ≤ H.length) (hB : B ≤ w.heap.size) : Calls Try.prog 17 #[.pointer (some ⟨b, 0, none⟩), .int .i64 (m : Int)] w fun e w' => e = .returned (.int .i64 0) ∧ US B w' b own n (atL L H m) (H.take m) ∧ Kp own w w' := by
  have v0 := hide (valid_u h)
  have R0 := hide (roll_u h m hm hB).1
  obtain ⟨p, c, c3⟩ := log_c h
  have hp := upPtr
  have d1 : decide ((m : Int) < 0) = false := by simp
  have d2 : decide ((H.length : Int) < (m : Int)) = false := by simp; omega
  have d3 : decide (H.length < m) = false := by simp; omega
  clear h hm hB
  generalize H.length = l at *
  go_enter Try.func17, Try.ntmps17
  go_wp2_with fail
  refine v0.out.mono ?_
  rintro e w' ⟨rfl, rfl⟩
  go_wp2_with fail
  refine R0.out.mono ?_
  rintro e w1 ⟨rfl, h1, k1⟩
  have H1 := hide (And.intro h1 k1)
  clear h1 k1
  go_wp2_with fail
  go_ret
  exact ⟨rfl, H1.out.1, H1.out.2⟩
theorem undo_o (m : Int) (hm : m < 0 ∨ (H.length : Int) < m) : Calls Try.prog 17 #[.pointer (some ⟨b, 0, none⟩), .int .i64 m] w fun e w' => e = .returned (.int .i64 3) ∧ w = w' := by
  have v0 := hide (valid_u h)
  obtain ⟨p, c, c3⟩ := log_c h
  have hp := upPtr
  clear h
  generalize H.length = l at *
  by_cases h0 : m < 0
  · have d1 : decide (m < 0) = true := by simp [h0]
    clear hm h0
    go_enter Try.func17, Try.ntmps17
    go_wp2_with fail
    refine v0.out.mono ?_
    rintro e w' ⟨rfl, rfl⟩
    go_wp2_with fail
    go_ret
    exact ⟨rfl, rfl⟩
  · have d1 : decide (m < 0) = false := by simp; omega
    have d2 : decide ((l : Int) < m) = true := by simp; omega
    clear hm h0
    go_enter Try.func17, Try.ntmps17
    go_wp2_with fail
    refine v0.out.mono ?_
    rintro e w' ⟨rfl, rfl⟩
    go_wp2_with fail
    go_ret
    exact ⟨rfl, rfl⟩
end
end Go.Proofs.Ytfjmnidenoojhaa
