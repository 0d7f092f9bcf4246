/- Copy. -/
import Derived.Test.YtfjmnidenoojhaaRf
import Derived.Laws.Cover3
set_option linter.unusedVariables false
set_option linter.unusedSimpArgs false
namespace Go.Proofs.Ytfjmnidenoojhaa
open Go.RowKit

theorem eql42 (a : Option Addr) (l c : Nat) (w : World) : (binOp .eql 49 (.slice a l c) (.slice none 0 0)).run Try.prog w = .ok (.bool a.isNone) w := by
  simp only [binOp]
  simp [run_equal_slice_nil w 49 3 a l c Try.underlying49]
theorem mk42z (w : World) : (Instr.buildSlice 49 0 #[]).run Try.prog w = .ok (.slice (some ⟨w.heap.size, 0, none⟩) 0 0) (w.alloc (.cells #[] 3)) := by kernel_rfl
theorem wpList_m42z {w : World} {ops : Array Oper} {rest : List Oper} {o : Oper} {a : Act} {Q : Exit → Act → World → Prop} (hgd : o.guard = none) (ho : o.op = .buildSlice 49 0 #[])
    (h : wpList Try.prog ops Q rest (a.put o.dst (.slice (some ⟨w.heap.size, 0, none⟩) 0 0)) (w.alloc (.cells #[] 3))) : wpList Try.prog ops Q (o :: rest) a w := by
  refine wpList_plain hgd fun K hK => ?_
  have hr := mk42z w
  unfold Oper.wp
  simp only [execOp, ho]
  simp [hr, Result.andThen, Sem.run_bind]
  exact hK _ _ h
set_option maxRecDepth 100000 in
set_option maxHeartbeats 2000000 in
theorem clone_t {B : Nat} {w : World} {p : Option Addr} {nb c : Nat} {xs : List Value} (h : w.ownsRow B 3 1 (.slice p nb c) nb xs) (h1 : ∀ u ∈ xs, u.oneCell' = true) (hnb : nb ≤ 65536) :
    Calls Try.prog 45 #[.slice p nb c] w fun e w' => ∃ v, e = .returned v ∧ w'.ownsRow w.heap.size 3 1 v nb xs ∧ Kp [] w w' := by
  rcases p with _ | ad
  · have hv : c = 0 ∧ nb = 0 := by
      rcases h.2 with ⟨he, h0⟩ | ⟨g, c', cur, he, _⟩
      · injection he with _ _ hc; exact ⟨hc, h0⟩
      · injection he with he _ _; cases he
    obtain ⟨rfl, rfl⟩ := hv
    have hx : xs = [] := List.eq_nil_of_length_eq_zero (by simpa using h.1)
    subst hx
    have q1 := eql42 none 0 0 w
    clear h h1
    go_enter Try.func45, Try.ntmps45
    go_wp2_with fail
    go_ret
    exact ⟨_, rfl, World.ownsRow_nil _ _ _ _, Kp.refl _ _⟩
  · have hg : ∃ g, ad = ⟨g, 0, none⟩ := by
      rcases h.2 with ⟨he, h0⟩ | ⟨g, c', cur, he, _⟩
      · injection he with he _ _; cases he
      · injection he with he _ _; injection he with he; exact ⟨g, he⟩
    obtain ⟨g, rfl⟩ := hg
    have H := hide h
    have H1 := hide h1
    have HB := hide hnb
    have q1 := eql42 (some ⟨g, 0, none⟩) nb c w
    obtain ⟨i0, hi, hz0, hz1, hz2⟩ := info_parts info3
    have HI := hide (And.intro hi (And.intro hz0 (And.intro hz1 hz2)))
    clear h h1 hnb hi hz0 hz1 hz2
    go_enter Try.func45, Try.ntmps45
    go_wp2_with (first | refine wpList_m42z rfl rfl ?_ | (at_builtin; refine wpList_append_own _ rfl _ _ 49 rfl w.heap.size 3 i0 (.int .i64 0) 1 8 Try.underlying49 HI.out.1 HI.out.2.1 HI.out.2.2.1 HI.out.2.2.2 rfl (by decide) (.slice (some ⟨w.heap.size, 0, none⟩) 0 0) 0 [] rfl (World.ownsRow_made w #[] 0 (Nat.le_refl _) (Nat.zero_le _) rfl) ⟨g, 0, none⟩ nb c xs rfl H.out.1 ((H.out.alloc _).cells rfl) H1.out (by have := HB.out; unfold maxLen; omega) (by have := HB.out; omega) (by simp) ?_))
    intro v' w' ho hg _
    have HO := hide ho
    have HK : Hid (Kp [] w w') := (Kp.of_below ((Below.refl _ _).alloc (Nat.le_refl _) _) : Kp [] w _).grown hg (fun x hx => by simp [Value.ownBlock] at hx; omega)
    clear ho hg
    go_wp2_with fail
    go_ret
    exact ⟨_, rfl, HO.out, HK.out⟩

theorem ints_oneCell (l : List Nat) : ∀ u ∈ ints l, u.oneCell' = true := ints_one l
set_option maxRecDepth 100000 in
set_option maxHeartbeats 4000000 in
theorem copy_m {B : Nat} {w : World} {b n : Nat} {P Z : Nat → Nat} {G : List Nat} {vP vS vG : Value} (M : UM B w b vP vS vG n P Z G) (hn : n ≤ 65536) (hG : G.length ≤ 65536) :
    Calls Try.prog 21 #[.pointer (some ⟨b, 0, none⟩)] w fun e w' => ∃ d wP wS wG, e = .returned (.pointer (some ⟨d, 0, none⟩)) ∧ UM w.heap.size w' d wP wS wG n P Z G ∧ Kp [] w w' := by
  have v0 := valid_t b w M.c.1
  obtain ⟨pP, cP, rfl⟩ := row_slice M.P
  obtain ⟨pS, cS, rfl⟩ := row_slice M.S
  obtain ⟨pG, cG, rfl⟩ := row_slice M.G
  have MD := M.keep (Kp.drewN [] w 1) (by simp)
  have HM := hide MD
  have HN := hide (And.intro hn hG)
  have C1 := hide (clone_t (w := w.drew) MD.P (intsF_one _ _) hn)
  have K0 : w.drew.cell? ⟨b, 1, none⟩ = some (.slice pP n cP) ∧ w.drew.cell? ⟨b, 2, none⟩ = some (.slice pS n cS) ∧ w.drew.cell? ⟨b, 3, none⟩ = some (.slice pG G.length cG) := MD.c.2
  clear M MD hn hG
  go_enter Try.func21, Try.ntmps21
  go_wp2_with fail
  refine v0.mono ?_
  rintro e w' ⟨rfl, rfl⟩
  go_wp2_with fail
  go_region_held3 (fun w' => w'.cell? ⟨b, 1, none⟩ = some (.slice pP n cP) ∧ w'.cell? ⟨b, 2, none⟩ = some (.slice pS n cS) ∧ w'.cell? ⟨b, 3, none⟩ = some (.slice pG G.length cG))
    (first | with_reducible assumption | exact KA.out _)
    (first
      | (go_at_call_of 45 (Value.slice pP n cP); refine C1.out.mono ?_; rintro e w1 ⟨v1, rfl, o1, k1⟩; obtain ⟨q1, d1, rfl⟩ := row_slice o1; have M1 := hide (HM.out.keep k1 (by simp)); have K1 : w1.cell? ⟨b, 1, none⟩ = some (.slice pP n cP) ∧ w1.cell? ⟨b, 2, none⟩ = some (.slice pS n cS) ∧ w1.cell? ⟨b, 3, none⟩ = some (.slice pG G.length cG) := M1.out.c.2; have C2 := hide (clone_t (w := w1) M1.out.S (intsF_one _ _) HN.out.1); have HO1 := hide o1; have HK1 := hide k1; clear o1 k1)
      | (go_at_call_of 45 (Value.slice pS n cS); refine C2.out.mono ?_; rintro e w2 ⟨v2, rfl, o2, k2⟩; obtain ⟨q2, d2, rfl⟩ := row_slice o2; have M2 := hide (M1.out.keep k2 (by simp)); have K2 : w2.cell? ⟨b, 1, none⟩ = some (.slice pP n cP) ∧ w2.cell? ⟨b, 2, none⟩ = some (.slice pS n cS) ∧ w2.cell? ⟨b, 3, none⟩ = some (.slice pG G.length cG) := M2.out.c.2; have C3 := hide (clone_t (w := w2) M2.out.G (ints_one _) HN.out.2); have HO2 := hide o2; have HK2 := hide k2; clear o2 k2)
      | (go_at_call_of 45 (Value.slice pG G.length cG); refine C3.out.mono ?_; rintro e w3 ⟨v3, rfl, o3, k3⟩; obtain ⟨q3, d3, rfl⟩ := row_slice o3; have M3 := hide (M2.out.keep k3 (by simp)); have K3 : w3.cell? ⟨b, 1, none⟩ = some (.slice pP n cP) ∧ w3.cell? ⟨b, 2, none⟩ = some (.slice pS n cS) ∧ w3.cell? ⟨b, 3, none⟩ = some (.slice pG G.length cG) := M3.out.c.2; have KA : Hid (∀ o : Obj, (w3.alloc o).cell? ⟨b, 1, none⟩ = some (.slice pP n cP) ∧ (w3.alloc o).cell? ⟨b, 2, none⟩ = some (.slice pS n cS) ∧ (w3.alloc o).cell? ⟨b, 3, none⟩ = some (.slice pG G.length cG)) := (fun o => (M3.out.keep (Kp.alloc (o := []) w3 o) (by simp)).c.2); have HO3 := hide o3; have HK3 := hide k3; clear o3 k3))
  go_wp2_with fail
  go_ret
  have z1 : w.heap.size ≤ w1.heap.size := HK1.out.size
  have z2 := HK2.out.size
  have z3 := HK3.out.size
  have r1 := HK3.out.row (HK2.out.row HO1.out (by simp)) (by simp)
  have r2 := HK3.out.row HO2.out (by simp)
  have r3 := HO3.out
  have l1 : ∀ k, (Value.slice q1 n d1).ownBlock = some k → w.heap.size ≤ k ∧ k < w1.heap.size := fun k hk => HO1.out.lt k hk
  have l2 : ∀ k, (Value.slice q2 n d2).ownBlock = some k → w1.heap.size ≤ k ∧ k < w2.heap.size := fun k hk => HO2.out.lt k hk
  have l3 : ∀ k, (Value.slice q3 G.length d3).ownBlock = some k → w2.heap.size ≤ k ∧ k < w3.heap.size := fun k hk => HO3.out.lt k hk
  refine ⟨w3.heap.size, _, _, _, rfl, ⟨heap_alloc_new _ _, (Kp.alloc (o := []) _ _).row (row_mono r1 (Nat.le_refl _)) (by simp), (Kp.alloc (o := []) _ _).row (row_mono r2 z1) (by simp), (Kp.alloc (o := []) _ _).row (row_mono r3 (Nat.le_trans z1 z2)) (by simp), by omega, ⟨fun k hk => by have := l1 k hk; omega, fun k hk => by have := l2 k hk; omega, fun k hk => by have := l3 k hk; omega, fun k hk e => by have := l1 k hk; have := l2 k e; omega, fun k hk e => by have := l1 k hk; have := l3 k e; omega, fun k hk e => by have := l2 k hk; have := l3 k e; omega⟩⟩, ?_⟩
  exact ((((Kp.drewN [] w 1).trans HK1.out (by simp)).trans HK2.out (by simp)).trans HK3.out (by simp)).trans (Kp.alloc (o := []) _ _) (by simp)
theorem copy_u {B : Nat} {w : World} {b n : Nat} {own : List Nat} {L : Nat → Nat} {H : List (Nat → Nat)} (h : US B w b own n L H) :
    Calls Try.prog 21 #[.pointer (some ⟨b, 0, none⟩)] w fun e w' => ∃ d own', e = .returned (.pointer (some ⟨d, 0, none⟩)) ∧ US w.heap.size w' d own' n L H ∧ Kp [] w w' := by
  obtain ⟨P, Z, R, G, vP, vS, vG, M, u, hn, ho⟩ := h
  have len := u.inv.len
  refine (copy_m M hn (by omega)).mono ?_
  rintro e w' ⟨d, wP, wS, wG, rfl, M', k⟩
  exact ⟨d, _, rfl, ⟨P, Z, R, G, wP, wS, wG, M', u, hn, rfl⟩, k⟩
end Go.Proofs.Ytfjmnidenoojhaa
