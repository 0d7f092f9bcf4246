/- The law's examples hold. -/
import Derived.Test.YtgcnccfmfnifbaaFN
set_option linter.unusedVariables false
set_option linter.unusedSimpArgs false
namespace Go.Proofs.Ytgcnccfmfnifbaa
open Go.RowKit

def X0 : Nat → Int := fun _ => 0
def X1 : Nat → Int := addC X0 4 0 3
def X2 : Nat → Int := addC X1 4 2 5
def X3 : Nat → Int := addC X2 4 3 1
theorem x_e : addE X0 4 0 3 = 0 ∧ addE X1 4 2 5 = 0 ∧ addE X2 4 3 1 = 0 ∧ addE X3 4 2 (-6) = 2 ∧ sumS X3 1 = 3 ∧ sumS X3 2 = 3 ∧ sumS X3 3 = 8 ∧ sumS X3 4 = 9 := by decide
theorem x_c : addC X3 4 2 (-6) = X3 := by unfold addC; rw [x_e.2.2.2.1]; rfl
theorem x_p : sumS X3 (clipN 3 4) = 8 := by decide
theorem x_r : rngV X3 4 (-5) 9 = 9 := by decide
theorem x_7 {e : Ending} (h : FindA X3 4 7 e) : e = .returned (.tuple #[.int .i64 2, .bool true]) := by
  obtain ⟨_, _, _, _, s1, s2, s3, s4⟩ := x_e
  rcases h with ⟨_, _, i, hi, h1, h2, rfl⟩ | ⟨h, _⟩
  · have : i = 0 ∨ i = 1 ∨ i = 2 ∨ i = 3 := by omega
    rcases this with rfl | rfl | rfl | rfl
    · rw [s1] at h2; omega
    · rw [s2] at h2; omega
    · rfl
    · rw [s3] at h1; omega
  · rw [s4] at h; omega
theorem x_9 {e : Ending} (h : FindA X3 4 9 e) : e = .returned (.tuple #[.int .i64 0, .bool false]) := by
  obtain ⟨_, _, _, _, s1, s2, s3, s4⟩ := x_e
  rcases h with ⟨_, h, _⟩ | ⟨_, h⟩
  · rw [s4] at h; omega
  · exact h
set_option maxRecDepth 100000 in
set_option maxHeartbeats 4000000 in
theorem works_t (w : World) : Calls Try.prog 15 #[] w fun e w' => e = .returned (.bool true) ∧ Kp [] w w' := by
  have hp := upC'
  have NW := hide (new_t 4 (by decide) w)
  obtain ⟨E1, E2, E3, E4, _⟩ := x_e
  have AA := hide (fun (B b : Nat) (own : List Nat) (C : Nat → Int) (W : World) (h : FAt B W b 4 own C) (hB : B ≤ W.heap.size) (i d : Int) (hd : I64 d) => add_t h i d hd hB)
  have FF := hide (fun (B b : Nat) (own : List Nat) (W : World) (h : FAt B W b 4 own X3) (x : Int) => find_t h x)
  have PP := hide (fun (B b : Nat) (own : List Nat) (W : World) (h : FAt B W b 4 own X3) => prefix_t h 3)
  rw [x_p] at PP
  have RR := hide (fun (B b : Nat) (own : List Nat) (W : World) (h : FAt B W b 4 own X3) => range_t h (-5) 9)
  rw [x_r] at RR
  have H1 := hide E1
  have H2 := hide E2
  have H3 := hide E3
  have H4 := hide E4
  clear E1 E2 E3 E4
  go_enter Try.func15, Try.ntmps15
  go_wp2_with fail
  refine NW.out.mono ?_
  rintro e w1 ⟨rfl, f1, k1⟩
  have F1 := hide (show FAt w.heap.size w1 (w.heap.size + 1) 4 [w.heap.size + 1, w.heap.size] X0 from f1)
  have K1 := hide k1
  obtain ⟨b, hb⟩ : ∃ b, b = w.heap.size + 1 := ⟨_, rfl⟩
  obtain ⟨own, hown⟩ : ∃ own, own = [w.heap.size + 1, w.heap.size] := ⟨_, rfl⟩
  rw [← hown, ← hb] at F1
  rw [← hb]
  have OW := hide (show ∀ x ∈ own, w.heap.size ≤ x by rw [hown]; simp)
  clear f1 k1 hb hown
  go_wp2_with fail
  refine (AA.out _ _ _ _ _ F1.out K1.out.size 0 3 (by unfold I64; omega)).mono ?_
  rintro e w2 ⟨rfl, f2, k2⟩
  rw [H1.out]
  have F2 := hide (show FAt _ w2 b 4 own X1 from f2)
  have K2 := hide (K1.out.trans k2 (fun z hz => .inr (OW.out z hz)))
  clear f2 k2
  go_wp2_with fail
  refine (AA.out _ _ _ _ _ F2.out K2.out.size 2 5 (by unfold I64; omega)).mono ?_
  rintro e w3 ⟨rfl, f3, k3⟩
  rw [H2.out]
  have F3 := hide (show FAt _ w3 b 4 own X2 from f3)
  have K3 := hide (K2.out.trans k3 (fun z hz => .inr (OW.out z hz)))
  clear f3 k3
  go_wp2_with fail
  refine (AA.out _ _ _ _ _ F3.out K3.out.size 3 1 (by unfold I64; omega)).mono ?_
  rintro e w4 ⟨rfl, f4, k4⟩
  rw [H3.out]
  have F4 := hide (show FAt _ w4 b 4 own X3 from f4)
  have K4 := hide (K3.out.trans k4 (fun z hz => .inr (OW.out z hz)))
  clear f4 k4
  go_wp2_with fail
  refine (AA.out _ _ _ _ _ F4.out K4.out.size 2 (-6) (by unfold I64; omega)).mono ?_
  rintro e w5 ⟨rfl, f5, k5⟩
  rw [H4.out]
  have F5 := hide (show FAt _ w5 b 4 own X3 by rw [x_c] at f5; exact f5)
  have K5 := hide (K4.out.trans k5 (fun z hz => .inr (OW.out z hz)))
  clear f5 k5
  go_wp2_with fail
  refine (FF.out _ _ _ _ F5.out 7).mono ?_
  rintro e w6 ⟨h7, k6⟩
  obtain rfl := x_7 h7
  have F6 := hide (F5.out.keep0 k6)
  have K6 := hide (K5.out.trans0 k6)
  clear h7 k6
  go_wp2_with fail
  refine (FF.out _ _ _ _ F6.out 9).mono ?_
  rintro e w7 ⟨h9, k7⟩
  obtain rfl := x_9 h9
  have F7 := hide (F6.out.keep0 k7)
  have K7 := hide (K6.out.trans0 k7)
  clear h9 k7
  go_wp2_with fail
  refine (PP.out _ _ _ _ F7.out).mono ?_
  rintro e w8 ⟨rfl, k8⟩
  have F8 := hide (F7.out.keep0 k8)
  have K8 := hide (K7.out.trans0 k8)
  clear k8
  go_wp2_with fail
  refine (RR.out _ _ _ _ F8.out).mono ?_
  rintro e w9 ⟨rfl, k9⟩
  have K9 := hide (K8.out.trans0 k9)
  clear k9
  go_wp2_with fail
  go_ret
  exact ⟨rfl, K9.out⟩
end Go.Proofs.Ytgcnccfmfnifbaa
