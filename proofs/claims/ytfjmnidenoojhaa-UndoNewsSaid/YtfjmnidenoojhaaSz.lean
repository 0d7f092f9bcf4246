/- Size, which only draws. -/
import Derived.Test.YtfjmnidenoojhaaAd
import Derived.Deep.RegionHeld3
import Derived.Deep.QuietTactic
import Derived.BigQuiet
set_option linter.unusedVariables false
set_option linter.unusedSimpArgs false
namespace Go.Proofs.Ytfjmnidenoojhaa
open Go.RowKit

set_option maxHeartbeats 4000000 in
theorem size_q {B : Nat} {w : World} {b n : Nat} {P Z R L : Nat → Nat} {G : List Nat} {vP vS vG : Value} (M : UM B w b vP vS vG n P Z G) (u : UI n P Z R L G) (x : Nat) (hx : x < n) :
    Calls Try.prog 30 #[.pointer (some ⟨b, 0, none⟩), .int .i64 (x : Int)] w fun e w' => e = .returned (.int .i64 ((cnt L (L x) n : Nat) : Int)) ∧ ∃ q, w' = w.drewN q := by
  have h1 := has_m M (x : Int)
  rw [dec_in hx] at h1
  rw [← u.size hx]
  have hl := u.rl x hx
  have R2 := hide (root_m M.drew u x hx)
  generalize R x = r at *
  obtain ⟨pS, cS, rfl⟩ := row_slice M.S
  obtain ⟨gS, rfl, e1, f1, _⟩ := row_cell M.S hl
  rw [intsF_get Z hl] at e1
  have K0 : w.drew.cell? ⟨b, 2, none⟩ = some (.slice (some ⟨gS, 0, none⟩) n cS) ∧ w.drew.cell? ⟨gS, r, none⟩ = some (.int .i64 ((Z r : Nat) : Int)) := ⟨M.c.2.2.1, e1⟩
  have hp := upPtr
  clear M u hx e1 f1
  go_enter Try.func30, Try.ntmps30
  go_wp2_with fail
  refine h1.mono ?_
  rintro e w' ⟨rfl, rfl⟩
  go_wp2_with fail
  go_region_held3 (fun w' => w'.cell? ⟨b, 2, none⟩ = some (.slice (some ⟨gS, 0, none⟩) n cS) ∧ w'.cell? ⟨gS, r, none⟩ = some (.int .i64 ((Z r : Nat) : Int)))
    (with_reducible assumption)
    (first | (go_at_call 46; refine R2.out.mono ?_; rintro e w1 ⟨rfl, rfl⟩; have K1 : w.drew.cell? ⟨b, 2, none⟩ = some (.slice (some ⟨gS, 0, none⟩) n cS) ∧ w.drew.cell? ⟨gS, r, none⟩ = some (.int .i64 ((Z r : Nat) : Int)) := K0))
  all_goals
    go_wp2_with fail
    go_ret
    exact ⟨rfl, 1, rfl⟩

theorem size_qu {B : Nat} {w : World} {b n : Nat} {own : List Nat} {L : Nat → Nat} {H : List (Nat → Nat)} (h : US B w b own n L H) (x : Nat) (hx : x < n) : Calls Try.prog 30 #[.pointer (some ⟨b, 0, none⟩), .int .i64 (x : Int)] w fun e w' => e = .returned (.int .i64 ((cnt L (L x) n : Nat) : Int)) ∧ ∃ q, w' = w.drewN q := by
  obtain ⟨P, Z, R, G, vP, vS, vG, M, u, hn, ho⟩ := h
  exact size_q M u.inv x hx
theorem US.facts {B : Nat} {w : World} {b n : Nat} {own : List Nat} {L : Nat → Nat} {H : List (Nat → Nat)} (h : US B w b own n L H) : ((∀ i, i < n → L i ≤ i) ∧ ∀ i, i < n → L (L i) = L i) ∧ H.length + roots L n = n := by
  obtain ⟨P, Z, R, G, vP, vS, vG, M, u, hn, ho⟩ := h
  have g := u.inv.lg
  refine ⟨⟨g.ll, g.idem⟩, ?_⟩
  rw [u.hlen]; exact u.inv.len
end Go.Proofs.Ytfjmnidenoojhaa
