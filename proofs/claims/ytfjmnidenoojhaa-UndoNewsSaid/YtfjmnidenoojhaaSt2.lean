/- The document's sets: Size, Labels, New; no sets; the code's answers at any numbers. -/
import Derived.Test.YtfjmnidenoojhaaSs
import Derived.Laws.AppendOwnNone
set_option linter.unusedVariables false
set_option linter.unusedSimpArgs false
namespace Go.Proofs.Ytfjmnidenoojhaa
open Go.RowKit

section
variable {B : Nat} {w : World} {b : Nat} {vL vP : Value} {n : Nat} {L : Nat → Nat} {m : Nat} (h : SS B w b vL vP n L m)
include h
set_option maxRecDepth 100000 in
set_option maxHeartbeats 8000000 in
theorem rsize_s (x : Int) (hn : n ≤ 65536) : Calls Try.prog 32 #[.pointer (some ⟨b, 0, none⟩), .int .i64 x] w fun e w' => e = .returned (.int .i64 ((sizeV n L x : Nat) : Int)) ∧ Kp [] w w' := by
  have H1 := hide (rhas_s h x)
  have hp := upPtrS
  by_cases hx : 0 ≤ x ∧ x < (n : Int)
  · have d1 : decide (0 ≤ x ∧ x < (n : Int)) = true := by simpa using hx
    rw [d1] at H1
    have ev : sizeV n L x = cnt L (L x.toNat) n := by unfold sizeV; rw [if_pos hx]
    rw [ev]
    obtain ⟨xn, rfl⟩ : ∃ xn : Nat, x = (xn : Int) := ⟨x.toNat, by omega⟩
    have hxn : xn < n := by omega
    simp only [Int.toNat_natCast]
    obtain ⟨g, c, rfl⟩ := row_some h.L (by omega)
    have HH := hide h
    have HN := hide hn
    clear h hx d1 ev hn
    go_enter Try.func32, Try.ntmps32
    go_wp2_with fail
    refine H1.out.mono ?_
    rintro e w' ⟨rfl, rfl⟩
    go_wp2_with fail
    go_loopw [5, 6] (fun z i wr => ∃ k : Nat, k ≤ n ∧ i = .int .i64 (k : Int) ∧ z = .int .i64 ((cnt L (L xn) k : Nat) : Int) ∧ Hid (∃ q, wr = w.drewN q)) (fun _ i _ => n - (intOf i).toNat)
    case atStart => exact ⟨0, Nat.zero_le _, rfl, rfl, ⟨0, rfl⟩⟩
    case round =>
      obtain ⟨k, hk, rfl, rfl, hq⟩ := hrel
      obtain ⟨q0, rfl⟩ := hq.out
      obtain ⟨W, hW⟩ : ∃ W, W = w.drewN q0 := ⟨_, rfl⟩
      have HW := hide hW
      have SW : SS B W b (.slice (some ⟨g, 0, none⟩) n c) vP n L m := by rw [hW]; exact HH.out.keep (Kp.drewN [] w q0) (by simp)
      rw [← hW]
      obtain ⟨c0, c1, c2⟩ := SW.c
      by_cases hlt : k < n
      · have dk : decide ((k : Int) < (n : Int)) = true := by simp; omega
        have dk' : decide (k < n) = true := by simp; omega
        have ww : IntKind.i64.wrap ((k : Int) + 1) = ((k + 1 : Nat) : Int) := by have := HN.out; rw [IntKind.wrap_i64]; omega
        have e1 := SW.L.cellAt k (by omega)
        rw [intsF_get L hlt] at e1
        have e2 := SW.L.cellAt xn (by omega)
        rw [intsF_get L hxn] at e2
        have cb := cnt_le L (L xn) k
        have NC := hide (show cnt L (L xn) (k + 1) = cnt L (L xn) k + if L k = L xn then 1 else 0 from rfl)
        clear SW hW c0 c2 hq
        by_cases he : L k = L xn
        · rw [if_pos he] at NC
          rw [he] at e1
          clear he
          generalize L xn = l at *
          generalize cnt L l k = z at *
          obtain ⟨z1, hz1⟩ : ∃ z1, z1 = z + 1 := ⟨_, rfl⟩
          have az : (z : Int) + 1 = (z1 : Int) := by omega
          have wz : IntKind.i64.wrap (z1 : Int) = (z1 : Int) := by have := HN.out; rw [IntKind.wrap_i64]; omega
          rw [← hz1] at NC
          clear hz1 cb
          go_wp2_with fail
          go_quiet (fail)
          go_wp2_with fail
          go_roundw
          case rel => exact ⟨k + 1, by omega, by first | rfl | go_num, by rw [NC.out], ⟨q0 + nq, by rw [HW.out, World.drewN_drewN]⟩⟩
          case measure => simp [intOf]; omega
        · have ne : ((L k : Int) == (L xn : Int)) = false := by simp; omega
          rw [if_neg he] at NC
          clear he cb
          generalize L k = lk at *
          generalize L xn = l at *
          generalize cnt L l k = z at *
          go_wp2_with fail
          go_quiet (fail)
          go_wp2_with fail
          go_roundw
          case rel => exact ⟨k + 1, by omega, by first | rfl | go_num, (by rw [NC.out]; rfl), ⟨q0 + nq, by rw [HW.out, World.drewN_drewN]⟩⟩
          case measure => simp [intOf]; omega
      · have : k = n := by omega
        subst this
        have dk : decide ((k : Int) < (k : Int)) = false := by simp
        have dk' : decide (k < k) = false := by simp
        clear SW hq hW
        go_wp2_with fail
        go_ret
        exact ⟨rfl, by rw [HW.out]; exact Kp.drewN _ _ _⟩
  · have d1 : decide (0 ≤ x ∧ x < (n : Int)) = false := by simpa using hx
    rw [d1] at H1
    have ev : sizeV n L x = 0 := by unfold sizeV; rw [if_neg hx]
    rw [ev]
    clear h d1 ev hx
    go_enter Try.func32, Try.ntmps32
    go_wp2_with fail
    refine H1.out.mono ?_
    rintro e w' ⟨rfl, rfl⟩
    go_wp2_with fail
    go_ret
    exact ⟨rfl, Kp.refl _ _⟩
set_option maxRecDepth 100000 in
set_option maxHeartbeats 4000000 in
theorem rlabels_s (hn : n ≤ 65536) : Calls Try.prog 35 #[.pointer (some ⟨b, 0, none⟩)] w fun e w' => ∃ v, e = .returned v ∧ w'.ownsRow w.heap.size 3 1 v n (intsF n L) ∧ Kp [] w w' := by
  obtain ⟨c0, c1, c2⟩ := h.c
  have v0 := rvalid_s c0
  have hp := upPtrS
  obtain ⟨p, c, rfl⟩ := row_slice h.L
  obtain ⟨i0, hi, hz0, hz1, hz2⟩ := info_parts info3
  have HI := hide (And.intro hi (And.intro hz0 (And.intro hz1 hz2)))
  have HB := hide hn
  rcases h.L.2 with ⟨he, h0⟩ | ⟨g, cap, cur, he, _⟩
  · injection he with e1 e2 e3
    subst e1; subst e3; subst h0
    have ca := ((h.keep (Kp.alloc (o := []) w (.cells #[] 3)) (by simp)).c).2.1
    clear h c0 c2 hn hi hz0 hz1 hz2
    go_enter Try.func35, Try.ntmps35
    go_wp2_with fail
    refine v0.mono ?_
    rintro e w' ⟨rfl, rfl⟩
    go_wp2_with (first | refine wpList_m42z rfl rfl ?_ | (at_builtin; refine wpList_append_own_none rfl _ _ 49 rfl w.heap.size 3 i0 1 Try.underlying49 HI.out.1 (.slice (some ⟨w.heap.size, 0, none⟩) 0 0) 0 [] rfl (World.ownsRow_made w #[] 0 (Nat.le_refl _) (Nat.zero_le _) rfl) rfl ?_))
    go_ret
    exact ⟨_, rfl, World.ownsRow_made w #[] 0 (Nat.le_refl _) (Nat.zero_le _) rfl, Kp.alloc _ _⟩
  · injection he with e1 e2 e3
    subst e1; subst e3; clear e2
    have ca := ((h.keep (Kp.alloc (o := []) w (.cells #[] 3)) (by simp)).c).2.1
    have H := hide h.L
    clear h c0 c2 hn hi hz0 hz1 hz2
    go_enter Try.func35, Try.ntmps35
    go_wp2_with fail
    refine v0.mono ?_
    rintro e w' ⟨rfl, rfl⟩
    go_wp2_with (first | refine wpList_m42z rfl rfl ?_ | (at_builtin; refine wpList_append_own _ rfl _ _ 49 rfl w.heap.size 3 i0 (.int .i64 0) 1 8 Try.underlying49 HI.out.1 HI.out.2.1 HI.out.2.2.1 HI.out.2.2.2 rfl (by decide) (.slice (some ⟨w.heap.size, 0, none⟩) 0 0) 0 [] rfl (World.ownsRow_made w #[] 0 (Nat.le_refl _) (Nat.zero_le _) rfl) ⟨g, 0, none⟩ n c (intsF n L) rfl H.out.1 ((H.out.alloc _).cells rfl) (intsF_one n L) (by have := HB.out; unfold maxLen; omega) (by have := HB.out; omega) (by simp) ?_))
    intro v' w' ho hg _
    have HO := hide ho
    have HK : Hid (Kp [] w w') := (Kp.of_below ((Below.refl _ _).alloc (Nat.le_refl _) _) : Kp [] w _).grown hg (fun x hx => by simp [Value.ownBlock] at hx; omega)
    clear ho hg
    go_wp2_with fail
    go_ret
    exact ⟨_, rfl, HO.out, HK.out⟩
end
section
variable (w : World)
theorem rsame_n (x y : Int) : Calls Try.prog 31 #[.pointer none, .int .i64 x, .int .i64 y] w fun e w' => e = .returned (.bool false) ∧ Kp [] w w' := by
  have G1 : ∀ q, Hid (Calls Try.prog 40 #[.pointer none, .int .i64 x] (w.drewN q) fun e w' => e = .returned (.bool false) ∧ w' = w.drewN q) := fun q => hide ((rhas_n (w.drewN q) x).mono (fun e w' h => ⟨h.1, h.2.symm⟩))
  go_enter Try.func31, Try.ntmps31
  go_wp2_with fail
  go_quiet ((go_at_call 40; with_reducible exact Calls.quiet_of_same (G1 _).out))
  go_wp2_with fail
  go_ret
  exact ⟨rfl, Kp.drewN _ _ _⟩
theorem rsize_n (x : Int) : Calls Try.prog 32 #[.pointer none, .int .i64 x] w fun e w' => e = .returned (.int .i64 0) ∧ w = w' := by
  have v0 := rhas_n w x
  go_enter Try.func32, Try.ntmps32
  go_wp2_with (go_at_call 40; refine v0.mono ?_; rintro e w' ⟨rfl, rfl⟩)
  go_ret
  exact ⟨rfl, rfl⟩
theorem rcount_n : Calls Try.prog 33 #[.pointer none] w fun e w' => e = .returned (.int .i64 0) ∧ w = w' := by
  have v0 := rvalid_n w
  go_enter Try.func33, Try.ntmps33
  go_wp2_with (go_at_call 39; refine v0.mono ?_; rintro e w' ⟨rfl, rfl⟩)
  go_ret
  exact ⟨rfl, rfl⟩
theorem rmark_n : Calls Try.prog 34 #[.pointer none] w fun e w' => e = .returned (.int .i64 0) ∧ w = w' := by
  have v0 := rvalid_n w
  go_enter Try.func34, Try.ntmps34
  go_wp2_with (go_at_call 39; refine v0.mono ?_; rintro e w' ⟨rfl, rfl⟩)
  go_ret
  exact ⟨rfl, rfl⟩
theorem rlabels_n : Calls Try.prog 35 #[.pointer none] w fun e w' => e = .returned (.slice none 0 0) ∧ w = w' := by
  have v0 := rvalid_n w
  go_enter Try.func35, Try.ntmps35
  go_wp2_with (go_at_call 39; refine v0.mono ?_; rintro e w' ⟨rfl, rfl⟩)
  go_ret
  exact ⟨rfl, rfl⟩
end
section
variable {B : Nat} {w : World} {b n : Nat} {own : List Nat} {L : Nat → Nat} {H : List (Nat → Nat)} (h : US B w b own n L H)
include h
theorem same_a (x y : Int) : Calls Try.prog 29 #[.pointer (some ⟨b, 0, none⟩), .int .i64 x, .int .i64 y] w fun e w' => e = .returned (.bool (sameV n L x y)) ∧ w = w' := by
  have H1 := has_u h x
  have H2 := has_u h y
  by_cases hx : 0 ≤ x ∧ x < (n : Int)
  · by_cases hy : 0 ≤ y ∧ y < (n : Int)
    · have ev : sameV n L x y = decide (L x.toNat = L y.toNat) := by unfold sameV; simp [hx, hy]
      rw [ev]
      obtain ⟨xn, rfl⟩ : ∃ xn : Nat, x = (xn : Int) := ⟨x.toNat, by omega⟩
      obtain ⟨yn, rfl⟩ : ∃ yn : Nat, y = (yn : Int) := ⟨y.toNat, by omega⟩
      exact same_u h xn yn (by omega) (by omega)
    · have ev : sameV n L x y = false := by unfold sameV; simp [hy]
      rw [ev]
      rw [show decide (0 ≤ x ∧ x < (n : Int)) = true by simpa using hx] at H1
      rw [show decide (0 ≤ y ∧ y < (n : Int)) = false by simpa using hy] at H2
      clear h hx hy ev
      go_enter Try.func29, Try.ntmps29
      go_wp2_with fail
      refine H1.mono ?_
      rintro e w' ⟨rfl, rfl⟩
      go_wp2_with fail
      refine H2.mono ?_
      rintro e w' ⟨rfl, rfl⟩
      go_wp2_with fail
      go_ret
      exact ⟨rfl, rfl⟩
  · have ev : sameV n L x y = false := by unfold sameV; simp [hx]
    rw [ev]
    rw [show decide (0 ≤ x ∧ x < (n : Int)) = false by simpa using hx] at H1
    clear h hx ev H2
    go_enter Try.func29, Try.ntmps29
    go_wp2_with fail
    refine H1.mono ?_
    rintro e w' ⟨rfl, rfl⟩
    go_wp2_with fail
    go_ret
    exact ⟨rfl, rfl⟩
theorem size_a (x : Int) : Calls Try.prog 30 #[.pointer (some ⟨b, 0, none⟩), .int .i64 x] w fun e w' => e = .returned (.int .i64 ((sizeV n L x : Nat) : Int)) ∧ Kp [] w w' := by
  by_cases hx : 0 ≤ x ∧ x < (n : Int)
  · have ev : sizeV n L x = cnt L (L x.toNat) n := by unfold sizeV; rw [if_pos hx]
    rw [ev]
    obtain ⟨xn, rfl⟩ : ∃ xn : Nat, x = (xn : Int) := ⟨x.toNat, by omega⟩
    refine (size_u h xn (by omega)).mono ?_
    rintro e w' ⟨rfl, bb⟩
    exact ⟨rfl, Kp.of_below bb⟩
  · have H1 := has_u h x
    have ev : sizeV n L x = 0 := by unfold sizeV; rw [if_neg hx]
    rw [ev]
    rw [show decide (0 ≤ x ∧ x < (n : Int)) = false by simpa using hx] at H1
    clear h hx ev
    go_enter Try.func30, Try.ntmps30
    go_wp2_with fail
    refine H1.mono ?_
    rintro e w' ⟨rfl, rfl⟩
    go_wp2_with fail
    go_ret
    exact ⟨rfl, Kp.refl _ _⟩
end
end Go.Proofs.Ytfjmnidenoojhaa
