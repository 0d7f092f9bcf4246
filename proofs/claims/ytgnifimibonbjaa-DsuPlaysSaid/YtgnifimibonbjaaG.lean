/- Copy; two lists that are the same. -/
import Derived.Test.YtgnifimibonbjaaF
import Derived.Laws.Cover3
set_option linter.unusedVariables false
set_option linter.unusedSimpArgs false
namespace Go.Proofs.Ytgnifimibonbjaa
open Go.RowKit

theorem eql42 (a : Option Addr) (l c : Nat) (w : World) : (binOp .eql 42 (.slice a l c) (.slice none 0 0)).run Try.prog w = .ok (.bool a.isNone) w := by
  simp only [binOp]
  simp [run_equal_slice_nil w 42 3 a l c Try.underlying42]
theorem mk42z (w : World) : (Instr.buildSlice 42 0 #[]).run Try.prog w = .ok (.slice (some ⟨w.heap.size, 0, none⟩) 0 0) (w.alloc (.cells #[] 3)) := by kernel_rfl
theorem wpList_m42z {w : World} {ops : Array Oper} {rest : List Oper} {o : Oper} {a : Act} {Q : Exit → Act → World → Prop} (hgd : o.guard = none) (ho : o.op = .buildSlice 42 0 #[])
    (h : wpList Try.prog ops Q rest (a.put o.dst (.slice (some ⟨w.heap.size, 0, none⟩) 0 0)) (w.alloc (.cells #[] 3))) : wpList Try.prog ops Q (o :: rest) a w := by
  refine wpList_plain hgd fun K hK => ?_
  have hr := mk42z w
  unfold Oper.wp
  simp only [execOp, ho]
  simp [hr, Result.andThen, Sem.run_bind]
  exact hK _ _ h
set_option maxRecDepth 100000 in
set_option maxHeartbeats 2000000 in
theorem clone_t {B : Nat} {w : World} {p : Option Addr} {nb c : Nat} {xs : List Value} (h : w.ownsRow B 3 1 (.slice p nb c) nb xs) (h1 : ∀ u ∈ xs, u.oneCell' = true) (hnb : nb ≤ 65536) :
    Calls Try.prog 41 #[.slice p nb c] w fun e w' => ∃ v, e = .returned v ∧ w'.ownsRow w.heap.size 3 1 v nb xs ∧ Kp [] w w' := by
  rcases p with _ | ad
  · have hv : c = 0 ∧ nb = 0 := by
      rcases h.2 with ⟨he, h0⟩ | ⟨g, c', cur, he, _⟩
      · injection he with _ _ hc; exact ⟨hc, h0⟩
      · injection he with he _ _; cases he
    obtain ⟨rfl, rfl⟩ := hv
    have hx : xs = [] := List.eq_nil_of_length_eq_zero (by simpa using h.1)
    subst hx
    have q1 := eql42 none 0 0 w
    clear h h1
    go_enter Try.func41, Try.ntmps41
    go_wp2_with fail
    go_ret
    exact ⟨_, rfl, World.ownsRow_nil _ _ _ _, Kp.refl _ _⟩
  · have hg : ∃ g, ad = ⟨g, 0, none⟩ := by
      rcases h.2 with ⟨he, h0⟩ | ⟨g, c', cur, he, _⟩
      · injection he with he _ _; cases he
      · injection he with he _ _; injection he with he; exact ⟨g, he⟩
    obtain ⟨g, rfl⟩ := hg
    have H := hide h
    have H1 := hide h1
    have HB := hide hnb
    have q1 := eql42 (some ⟨g, 0, none⟩) nb c w
    obtain ⟨i0, hi, hz0, hz1, hz2⟩ := info_parts info3
    have HI := hide (And.intro hi (And.intro hz0 (And.intro hz1 hz2)))
    clear h h1 hnb hi hz0 hz1 hz2
    go_enter Try.func41, Try.ntmps41
    go_wp2_with (first | refine wpList_m42z rfl rfl ?_ | (at_builtin; refine wpList_append_own _ rfl _ _ 42 rfl w.heap.size 3 i0 (.int .i64 0) 1 8 Try.underlying42 HI.out.1 HI.out.2.1 HI.out.2.2.1 HI.out.2.2.2 rfl (by decide) (.slice (some ⟨w.heap.size, 0, none⟩) 0 0) 0 [] rfl (World.ownsRow_made w #[] 0 (Nat.le_refl _) (Nat.zero_le _) rfl) ⟨g, 0, none⟩ nb c xs rfl H.out.1 ((H.out.alloc _).cells rfl) H1.out (by have := HB.out; unfold maxLen; omega) (by have := HB.out; omega) (by simp) ?_))
    intro v' w' ho hg _
    have HO := hide ho
    have HK : Hid (Kp [] w w') := (Kp.of_below ((Below.refl _ _).alloc (Nat.le_refl _) _) : Kp [] w _).grown hg (fun x hx => by simp [Value.ownBlock] at hx; omega)
    clear ho hg
    go_wp2_with fail
    go_ret
    exact ⟨_, rfl, HO.out, HK.out⟩
set_option maxRecDepth 100000 in
set_option maxHeartbeats 4000000 in
theorem copy_t {B : Nat} {w : World} {b n : Nat} {own : List Nat} {L : Nat → Nat} (h : DAt B w b own n L) :
    Calls Try.prog 26 #[.pointer (some ⟨b, 0, none⟩)] w fun e w' => ∃ d own', e = .returned (.pointer (some ⟨d, 0, none⟩)) ∧ DAt w.heap.size w' d own' n L ∧ Kp [] w w' := by
  have v0 := valid_of h
  obtain ⟨vP, vS, P, Z, M, g, hn, hz, hown⟩ := h
  obtain ⟨pP, cP, rfl⟩ := row_slice M.P
  obtain ⟨pS, cS, rfl⟩ := row_slice M.S
  have HM := hide M
  have HH := hide (And.intro g (And.intro hn hz))
  have C1 := hide (clone_t (w := w.drew) M.drew.P (intsF_one _ _) hn)
  have K0 : w.drew.cell? ⟨b, 1, none⟩ = some (.int .i64 ((roots L n : Nat) : Int)) ∧ w.drew.cell? ⟨b, 2, none⟩ = some (.slice pP n cP) ∧ w.drew.cell? ⟨b, 3, none⟩ = some (.slice pS n cS) := M.drew.c.2
  clear M g hn hz hown
  go_enter Try.func26, Try.ntmps26
  go_wp2_with fail
  refine v0.mono ?_
  rintro e w' ⟨rfl, rfl⟩
  go_wp2_with fail
  go_region_held3 (fun w' => w'.cell? ⟨b, 1, none⟩ = some (.int .i64 ((roots L n : Nat) : Int)) ∧ w'.cell? ⟨b, 2, none⟩ = some (.slice pP n cP) ∧ w'.cell? ⟨b, 3, none⟩ = some (.slice pS n cS))
    (first | with_reducible assumption | exact KA.out _)
    (first
      | (go_at_call_of 41 (Value.slice pP n cP); refine C1.out.mono ?_; rintro e w1 ⟨v1, rfl, o1, k1⟩; obtain ⟨q1, d1, rfl⟩ := row_slice o1; have K1 : w1.cell? ⟨b, 1, none⟩ = some (.int .i64 ((roots L n : Nat) : Int)) ∧ w1.cell? ⟨b, 2, none⟩ = some (.slice pP n cP) ∧ w1.cell? ⟨b, 3, none⟩ = some (.slice pS n cS) := (HM.out.drew.keep k1 (by simp)).c.2; have C2 := hide (clone_t (w := w1) (HM.out.drew.keep k1 (by simp)).S (intsF_one _ _) HH.out.2.1); have HO1 := hide o1; have HK1 := hide k1; clear o1 k1)
      | (go_at_call_of 41 (Value.slice pS n cS); refine C2.out.mono ?_; rintro e w2 ⟨v2, rfl, o2, k2⟩; obtain ⟨q2, d2, rfl⟩ := row_slice o2; have K2 : w2.cell? ⟨b, 1, none⟩ = some (.int .i64 ((roots L n : Nat) : Int)) ∧ w2.cell? ⟨b, 2, none⟩ = some (.slice pP n cP) ∧ w2.cell? ⟨b, 3, none⟩ = some (.slice pS n cS) := ((HM.out.drew.keep HK1.out (by simp)).keep k2 (by simp)).c.2; have KA : Hid (∀ o : Obj, (w2.alloc o).cell? ⟨b, 1, none⟩ = some (.int .i64 ((roots L n : Nat) : Int)) ∧ (w2.alloc o).cell? ⟨b, 2, none⟩ = some (.slice pP n cP) ∧ (w2.alloc o).cell? ⟨b, 3, none⟩ = some (.slice pS n cS)) := (fun o => (((HM.out.drew.keep HK1.out (by simp)).keep k2 (by simp)).keep (Kp.alloc (o := []) w2 o) (by simp)).c.2); have HO2 := hide o2; have HK2 := hide k2; clear o2 k2))
  go_wp2_with fail
  go_ret
  have r1 := HK2.out.row HO1.out (by simp)
  have r2 := HO2.out
  have z1 : w.heap.size ≤ w1.heap.size := HK1.out.size
  have z2 := HK2.out.size
  have l1 : ∀ k, (Value.slice q1 n d1).ownBlock = some k → w.heap.size ≤ k ∧ k < w1.heap.size := fun k hk => HO1.out.lt k hk
  have l2 : ∀ k, (Value.slice q2 n d2).ownBlock = some k → w1.heap.size ≤ k ∧ k < w2.heap.size := fun k hk => HO2.out.lt k hk
  refine ⟨w2.heap.size, _, rfl, ⟨.slice q1 n d1, .slice q2 n d2, P, Z, ⟨heap_alloc_new _ _, (Kp.alloc (o := []) _ _).row (row_mono r1 (Nat.le_refl _)) (by simp), (Kp.alloc (o := []) _ _).row (row_mono r2 z1) (by simp), by omega, ⟨fun k hk => by have := l1 k hk; omega, fun k hk => by have := l2 k hk; omega, fun k hk => (by cases hk), fun k hk e => by have := l1 k hk; have := l2 k e; omega, fun k hk e => (by cases e), fun k hk e => (by cases e)⟩⟩, HH.out.1, HH.out.2.1, HH.out.2.2, rfl⟩, ?_⟩
  exact (((Kp.drewN [] w 1).trans HK1.out (by simp)).trans HK2.out (by simp)).trans (Kp.alloc (o := []) _ _) (by simp)
set_option maxRecDepth 100000 in
set_option maxHeartbeats 4000000 in
theorem same_rows (w : World) (n : Nat) (f : Nat → Nat) (B B' : Nat) (p q : Option Addr) (c d : Nat) (h1 : w.ownsRow B 3 1 (.slice p n c) n (intsF n f)) (h2 : w.ownsRow B' 3 1 (.slice q n d) n (intsF n f)) (hl : n ≤ 65536) :
    Calls Try.prog 29 #[.slice p n c, .slice q n d] w fun e w' => e = .returned (.bool true) ∧ Kp [] w w' := by
  have H1 := hide h1
  have H2 := hide h2
  have HL := hide hl
  clear h1 h2 hl
  go_enter Try.func29, Try.ntmps29
  go_wp2_with fail
  go_loopw [5] (fun i wr => ∃ k : Nat, i = .int .i64 (k : Int) ∧ Hid (k ≤ n) ∧ Hid (∃ q, wr = w.drewN q)) (fun i _ => n - (intOf i).toNat)
  case atStart => exact ⟨0, rfl, Nat.zero_le _, 0, rfl⟩
  case round =>
    obtain ⟨k, rfl, hk, hq⟩ := hrel
    obtain ⟨qq, rfl⟩ := hq.out
    by_cases hlt : k < n
    · have dk : decide (k < n) = true := by simpa using hlt
      have ww : IntKind.i64.wrap ((k : Int) + 1) = (k : Int) + 1 := by have := HL.out; rw [IntKind.wrap_i64]; omega
      obtain ⟨g1, rfl, e1, _, _⟩ := row_cell H1.out hlt
      obtain ⟨g2, rfl, e2, _, _⟩ := row_cell H2.out hlt
      rw [intsF_get _ hlt] at e1 e2
      generalize f k = x at *
      have HK := hide hlt
      generalize hwr : w.drewN qq = wr
      have e1' : wr.cell? ⟨g1, k, none⟩ = some (.int .i64 (x : Int)) := by rw [← hwr]; exact e1
      have e2' : wr.cell? ⟨g2, k, none⟩ = some (.int .i64 (x : Int)) := by rw [← hwr]; exact e2
      have HW := hide hwr
      clear e1 e2 hwr
      go_wp2_with fail
      go_quiet (fail)
      go_wp2_with fail
      go_roundw
      case rel => exact ⟨k + 1, by go_num, by have := HK.out; show k + 1 ≤ n; omega, qq + nq, by rw [← HW.out, World.drewN_drewN]⟩
      case measure => have := HK.out; simp [intOf]; omega
    · have dk : decide (k < n) = false := by simp; omega
      clear hlt
      go_wp2_with fail
      go_ret
      exact ⟨rfl, Kp.drewN _ _ _⟩
end Go.Proofs.Ytgnifimibonbjaa
