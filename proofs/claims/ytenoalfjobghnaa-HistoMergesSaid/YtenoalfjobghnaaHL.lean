/- Copy; slices.Equal; Merge. -/
import Derived.Test.YtenoalfjobghnaaHK
set_option linter.unusedVariables false
set_option linter.unusedSimpArgs false
namespace Go.Proofs.Ytenoalfjobghnaa
open Go.RowKit

theorem HM.of_rows {B Bx By : Nat} {w1 : World} {q1 q2 : Option Addr} {n d1 d2 m1 : Nat} {V C : Nat → Int} (hm : m1 = n + 1) (h1 : B ≤ Bx) (h2 : Bx ≤ By) (h3 : By ≤ w1.heap.size) (R1 : w1.ownsRow Bx 2 1 (.slice q1 n d1) n (intsI n V)) (l1 : ∀ k, (Value.slice q1 n d1).ownBlock = some k → k < By) (R2 : w1.ownsRow By 2 1 (.slice q2 m1 d2) m1 (intsI m1 C)) :
    HM B (w1.alloc (.cells #[.slice q1 n d1, .slice q2 m1 d2] 54)) w1.heap.size (.slice q1 n d1) (.slice q2 m1 d2) n V C := by
  subst hm
  have lt := R1.lt
  have lt2 := R2.lt
  refine ⟨heap_alloc_new _ _, ?_, ?_, by omega, fun k hk => ?_, fun k hk => ?_, fun k hk e => ?_⟩
  · exact row_mono ((Kp.alloc (o := []) _ _).row R1 (by simp)) h1
  · exact row_mono ((Kp.alloc (o := []) _ _).row R2 (by simp)) (by omega)
  · have := (lt k hk).2; omega
  · have := (lt2 k hk).2; omega
  · have := l1 k hk; have := (lt2 k e).1; omega
set_option maxRecDepth 100000 in
set_option maxHeartbeats 4000000 in
theorem copy_t {B : Nat} {w : World} {b : Nat} {vB vC : Value} {m : Nat} {V C : Nat → Int} (M : HM B w b vB vC m V C) (hm : m ≤ 1024) :
    Calls Try.prog 32 #[.pointer (some ⟨b, 0, none⟩)] w fun e w' => ∃ d wB wC, e = .returned (.pointer (some ⟨d, 0, none⟩)) ∧ HM w.heap.size w' d wB wC m V C ∧ Kp [] w w' := by
  obtain ⟨pC, cC, rfl⟩ := M.C_at
  obtain ⟨pB, cB, rfl⟩ := row_slice M.rB
  have v0 := hide (valid_t M.c.2)
  obtain ⟨m1, hm1⟩ : ∃ m1, m1 = m + 1 := ⟨_, rfl⟩
  have HM1 := hide hm1
  have MD := hide (M.keep (Kp.drewN [] w 1) (by simp))
  have HN := hide hm
  have C1 := hide (clone_t (w := w.drew) (c := cB) (rd_any MD.out.rB) (by have := HN.out; omega))
  have KE : ∀ W, HM B W b (.slice pB m cB) (.slice (some ⟨pC, 0, none⟩) (m + 1) cC) m V C → W.cell? ⟨b, 0, none⟩ = some (.slice pB m cB) ∧ W.cell? ⟨b, 1, none⟩ = some (.slice (some ⟨pC, 0, none⟩) m1 cC) := fun W M => by rw [hm1]; exact M.c
  have HKE := hide KE
  have K0 : w.drew.cell? ⟨b, 0, none⟩ = some (.slice pB m cB) ∧ w.drew.cell? ⟨b, 1, none⟩ = some (.slice (some ⟨pC, 0, none⟩) m1 cC) := KE _ MD.out
  clear M hm KE hm1
  go_enter Try.func32, Try.ntmps32
  go_wp2_with fail
  refine v0.out.mono ?_
  rintro e w' ⟨rfl, rfl⟩
  go_wp2_with fail
  go_region_held3 (fun w' => w'.cell? ⟨b, 0, none⟩ = some (.slice pB m cB) ∧ w'.cell? ⟨b, 1, none⟩ = some (.slice (some ⟨pC, 0, none⟩) m1 cC))
    (first | with_reducible assumption | exact KA.out _)
    (first
      | (go_at_call_of 34 (Value.slice pB m cB); refine C1.out.mono ?_; rintro e w1 ⟨v1, rfl, o1, k1⟩; obtain ⟨q1, d1, rfl⟩ := row_slice o1; have M1 := hide (MD.out.keep k1 (by simp)); have K1 : w1.cell? ⟨b, 0, none⟩ = some (.slice pB m cB) ∧ w1.cell? ⟨b, 1, none⟩ = some (.slice (some ⟨pC, 0, none⟩) m1 cC) := HKE.out _ M1.out; have C2 := hide (clone_t (w := w1) (n := m1) (c := cC) (V := C) (by rw [HM1.out]; exact rd_any M1.out.rC) (by have := HN.out; have := HM1.out; omega)); have HO1 := hide o1; have HK1 := hide k1; clear o1 k1)
      | (go_at_call_of 34 (Value.slice (some ⟨pC, 0, none⟩) m1 cC); refine C2.out.mono ?_; rintro e w2 ⟨v2, rfl, o2, k2⟩; obtain ⟨q2, d2, rfl⟩ := row_slice o2; have M2 := hide (M1.out.keep k2 (by simp)); have K2 : w2.cell? ⟨b, 0, none⟩ = some (.slice pB m cB) ∧ w2.cell? ⟨b, 1, none⟩ = some (.slice (some ⟨pC, 0, none⟩) m1 cC) := HKE.out _ M2.out; have KA : Hid (∀ o : Obj, (w2.alloc o).cell? ⟨b, 0, none⟩ = some (.slice pB m cB) ∧ (w2.alloc o).cell? ⟨b, 1, none⟩ = some (.slice (some ⟨pC, 0, none⟩) m1 cC)) := (fun o => HKE.out _ (M2.out.keep (Kp.alloc (o := []) w2 o) (by simp))); have HO2 := hide o2; have HK2 := hide k2; clear o2 k2))
  go_wp2_with fail
  go_ret
  exact ⟨w2.heap.size, _, _, rfl, HM.of_rows HM1.out (by simp) HK1.out.size HK2.out.size (HK2.out.row HO1.out (by simp)) (fun k hk => (HO1.out.lt k hk).2) HO2.out, (((Kp.drewN [] w 1).trans0 HK1.out).trans0 HK2.out).trans0 (Kp.alloc (o := []) _ _)⟩
end Go.Proofs.Ytenoalfjobghnaa
