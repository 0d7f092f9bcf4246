/- The specification's sets: Same, Size, Count, Len, Labels; nil. -/
import Derived.Test.YtgnifimibonbjaaP
set_option linter.unusedVariables false
set_option linter.unusedSimpArgs false
namespace Go.Proofs.Ytgnifimibonbjaa
open Go.RowKit

/-- what Same answers -/
def sameB (n : Nat) (L : Nat → Nat) (x y : Int) : Bool := inB n x && (inB n y && decide (L x.toNat = L y.toNat))
set_option maxHeartbeats 2000000 in
theorem ssame_any {B : Nat} {w : World} {b n : Nat} {own : List Nat} {L : Nat → Nat} (h : SAt B w b own n L) (x y : Int) :
    Calls Try.prog 34 #[.pointer (some ⟨b, 0, none⟩), .int .i64 x, .int .i64 y] w fun e w' => e = .returned (.bool (sameB n L x y)) ∧ Kp [] w w' := by
  have HH : ∀ m z, Hid (Calls Try.prog 40 #[.pointer (some ⟨b, 0, none⟩), .int .i64 z] (w.drewN m) fun e w' => e = .returned (.bool (inB n z)) ∧ w' = w.drewN m) := fun m z => (shas_any (h.keep (Kp.drewN [] w m) (by simp)) z).mono fun _ _ ⟨h, k⟩ => ⟨h, k.symm⟩
  unfold sameB
  by_cases hx : inr n x
  · by_cases hy : inr n y
    · have i0 := inB_t hx
      have i1 := inB_t hy
      rw [i0, i1]
      obtain ⟨k, rfl⟩ : ∃ k : Nat, x = (k : Int) := ⟨x.toNat, by unfold inr at hx; omega⟩
      obtain ⟨j, rfl⟩ : ∃ j : Nat, y = (j : Int) := ⟨y.toNat, by unfold inr at hy; omega⟩
      have hk : k < n := by unfold inr at hx; omega
      have hj : j < n := by unfold inr at hy; omega
      obtain ⟨g, c, c0, c1, cc⟩ := sat_cell h hk
      have c2 := cc k hk
      have c3 := cc j hj
      clear cc h hx hy
      rw [Int.toNat_natCast, Int.toNat_natCast]
      generalize L k = l at *
      generalize L j = m at *
      by_cases e : l = m
      · subst e
        go_enter Try.func34, Try.ntmps34
        go_wp2_with fail
        go_quiet ((go_at_call 40; exact Calls.quiet_of_same (HH _ _).out))
        go_wp2_with fail
        go_ret
        exact ⟨by simp, Kp.drewN _ _ _⟩
      · have de : ((l : Int) == (m : Int)) = false := by simp; omega
        have d2 : decide (l = m) = false := by simpa using e
        rw [d2]
        go_enter Try.func34, Try.ntmps34
        go_wp2_with fail
        go_quiet ((go_at_call 40; exact Calls.quiet_of_same (HH _ _).out))
        go_wp2_with fail
        go_ret
        exact ⟨by simp, Kp.drewN _ _ _⟩
    · have i0 := inB_t hx
      have i1 := inB_f hy
      have HX : ∀ m, Hid (Calls Try.prog 40 #[.pointer (some ⟨b, 0, none⟩), .int .i64 x] (w.drewN m) fun e w' => e = .returned (.bool true) ∧ w' = w.drewN m) := fun m => by rw [← i0]; exact (HH m x).out
      have HY : ∀ m, Hid (Calls Try.prog 40 #[.pointer (some ⟨b, 0, none⟩), .int .i64 y] (w.drewN m) fun e w' => e = .returned (.bool false) ∧ w' = w.drewN m) := fun m => by rw [← i1]; exact (HH m y).out
      rw [i0, i1]
      clear h hx hy HH i0 i1
      go_enter Try.func34, Try.ntmps34
      go_wp2_with fail
      go_quiet ((go_at_call 40; first | (with_reducible exact Calls.quiet_of_same (HX _).out) | (with_reducible exact Calls.quiet_of_same (HY _).out)))
      go_wp2_with fail
      go_ret
      exact ⟨by simp, Kp.drewN _ _ _⟩
  · have i0 := inB_f hx
    have HX : ∀ m, Hid (Calls Try.prog 40 #[.pointer (some ⟨b, 0, none⟩), .int .i64 x] (w.drewN m) fun e w' => e = .returned (.bool false) ∧ w' = w.drewN m) := fun m => by rw [← i0]; exact (HH m x).out
    rw [i0]
    clear h hx HH i0
    go_enter Try.func34, Try.ntmps34
    go_wp2_with fail
    go_quiet ((go_at_call 40; exact Calls.quiet_of_same (HX _).out))
    go_wp2_with fail
    go_ret
    exact ⟨by simp, Kp.drewN _ _ _⟩
/-- what Size answers -/
def sizeV (n : Nat) (L : Nat → Nat) (x : Int) : Nat := if inB n x = true then cnt L (L x.toNat) n else 0
set_option maxRecDepth 100000 in
set_option maxHeartbeats 4000000 in
theorem ssize_any {B : Nat} {w : World} {b n : Nat} {own : List Nat} {L : Nat → Nat} (h : SAt B w b own n L) (x : Int) :
    Calls Try.prog 35 #[.pointer (some ⟨b, 0, none⟩), .int .i64 x] w fun e w' => e = .returned (.int .i64 ((sizeV n L x : Nat) : Int)) ∧ Kp [] w w' := by
  have H0 := shas_any h x
  unfold sizeV
  by_cases hx : inr n x
  · rw [inB_t hx] at H0 ⊢
    rw [if_pos rfl]
    obtain ⟨k, rfl⟩ : ∃ k : Nat, x = (k : Int) := ⟨x.toNat, by unfold inr at hx; omega⟩
    have hk : k < n := by unfold inr at hx; omega
    obtain ⟨g, c, c0, c1, cc⟩ := sat_cell h hk
    have hn : n ≤ 65536 := by obtain ⟨v, M, hn, _⟩ := h; exact hn
    have CC := hide cc
    have C1 := hide c1
    rw [Int.toNat_natCast]
    have HL : Hid (L k = L k) := rfl
    obtain ⟨l, hl⟩ : ∃ l, l = L k := ⟨_, rfl⟩
    have c2 := cc k hk
    rw [← hl] at c2 ⊢
    have C2 := hide c2
    have LB := hide (show ∀ i, cnt L l i ≤ i from cnt_le L l)
    have HK := hide hk
    clear cc h hx HL hl c2 hk c0
    go_enter Try.func35, Try.ntmps35
    go_wp2_with (go_at_call 40; refine H0.mono ?_; rintro e w' ⟨rfl, rfl⟩)
    clear H0 c1
    go_loopw [5, 6] (fun z x wr => ∃ i : Nat, i ≤ n ∧ x = .int .i64 (i : Int) ∧ z = .int .i64 ((cnt L l i : Nat) : Int) ∧ Hid (∃ q, wr = w.drewN q)) (fun _ x _ => n - (intOf x).toNat)
    case atStart => exact ⟨0, by omega, rfl, rfl, 0, rfl⟩
    case round =>
      obtain ⟨i, hi, rfl, rfl, hq⟩ := hrel
      obtain ⟨qq, rfl⟩ := hq.out
      generalize hwr : w.drewN qq = wr
      have HW := hide hwr
      have d1 : wr.cell? ⟨b, 1, none⟩ = some (.slice (some ⟨g, 0, none⟩) n c) := by rw [← hwr]; exact C1.out
      by_cases hin : i < n
      · have dk : decide (i < n) = true := by simp; omega
        have dki : decide ((i : Int) < (n : Int)) = true := by simp; omega
        have wi : IntKind.i64.wrap ((i : Int) + 1) = ((i + 1 : Nat) : Int) := by rw [IntKind.wrap_i64]; omega
        have hkk := HK.out
        have d2 : wr.cell? ⟨g, i, none⟩ = some (.int .i64 ((L i : Nat) : Int)) := by rw [← hwr]; exact CC.out i hin
        have d3 : wr.cell? ⟨g, k, none⟩ = some (.int .i64 (l : Int)) := by rw [← hwr]; exact C2.out
        have lb := LB.out i
        have CN := hide (show cnt L l (i + 1) = cnt L l i + if L i = l then 1 else 0 from rfl)
        generalize L i = li at *
        generalize cnt L l i = ci at *
        have wc : IntKind.i64.wrap ((ci : Int) + 1) = ((ci + 1 : Nat) : Int) := by rw [IntKind.wrap_i64]; omega
        clear hwr
        by_cases e : li = l
        · subst e
          go_wp2_with fail
          go_quiet (fail)
          go_wp2_with fail
          go_roundw
          case rel => exact ⟨i + 1, by omega, rfl, by rw [CN.out]; simp, qq + nq, by rw [← HW.out, World.drewN_drewN]⟩
          case measure => simp [intOf]; omega
        · have de : ((li : Int) == (l : Int)) = false := by simp; omega
          go_wp2_with fail
          go_quiet (fail)
          go_wp2_with fail
          go_roundw
          case rel => exact ⟨i + 1, by omega, rfl, by rw [CN.out]; simp [e], qq + nq, by rw [← HW.out, World.drewN_drewN]⟩
          case measure => simp [intOf]; omega
      · have : i = n := by omega
        subst this
        have dk : decide (i < i) = false := by simp
        have dki : decide ((i : Int) < (i : Int)) = false := by simp
        clear hwr
        go_wp2_with fail
        go_ret
        exact ⟨rfl, by rw [← HW.out]; exact Kp.drewN _ _ _⟩
  · rw [inB_f hx] at H0 ⊢
    rw [if_neg (by simp)]
    clear h hx
    go_enter Try.func35, Try.ntmps35
    go_wp2_with (go_at_call 40; refine H0.mono ?_; rintro e w' ⟨rfl, rfl⟩)
    go_ret
    exact ⟨rfl, Kp.refl _ _⟩
set_option maxRecDepth 100000 in
set_option maxHeartbeats 4000000 in
theorem scount_t {B : Nat} {w : World} {b n : Nat} {own : List Nat} {L : Nat → Nat} (h : SAt B w b own n L) :
    Calls Try.prog 36 #[.pointer (some ⟨b, 0, none⟩)] w fun e w' => e = .returned (.int .i64 ((roots L n : Nat) : Int)) ∧ w = w' := by
  obtain ⟨v, M, hn, _⟩ := h
  obtain ⟨c0, c1⟩ := M.c
  obtain ⟨p, c, rfl⟩ := row_slice M.row
  have v0 := svalid_t b w c0
  have HM := hide M.row
  have LB := hide (show ∀ i, roots L i ≤ i from roots_le L)
  clear M c0
  go_enter Try.func36, Try.ntmps36
  go_wp2_with (go_at_call 39; refine v0.mono ?_; rintro e w' ⟨rfl, rfl⟩)
  clear v0
  go_loop [3, 4] (fun z x => ∃ i : Nat, i ≤ n ∧ x = .int .i64 (i : Int) ∧ z = .int .i64 ((roots L i : Nat) : Int)) (fun _ x => n - (intOf x).toNat)
  case atStart => exact ⟨0, by omega, rfl, rfl⟩
  case round =>
    obtain ⟨i, hi, rfl, rfl⟩ := hrel
    by_cases hin : i < n
    · have dk : decide (i < n) = true := by simp; omega
      have dki : decide ((i : Int) < (n : Int)) = true := by simp; omega
      have wi : IntKind.i64.wrap ((i : Int) + 1) = ((i + 1 : Nat) : Int) := by rw [IntKind.wrap_i64]; omega
      obtain ⟨g, rfl, e1, _, _⟩ := row_cell HM.out hin
      rw [intsF_get _ hin] at e1
      have lb := LB.out i
      have CN := hide (show roots L (i + 1) = roots L i + if L i = i then 1 else 0 from rfl)
      generalize L i = li at *
      generalize roots L i = ci at *
      have wc : IntKind.i64.wrap ((ci : Int) + 1) = ((ci + 1 : Nat) : Int) := by rw [IntKind.wrap_i64]; omega
      by_cases e : li = i
      · subst e
        go_wp2_with fail
        go_round
        case rel => exact ⟨li + 1, by omega, rfl, by rw [CN.out]; simp⟩
        case measure => simp [intOf]; omega
      · have de : ((li : Int) == (i : Int)) = false := by simp; omega
        go_wp2_with fail
        go_round
        case rel => exact ⟨i + 1, by omega, rfl, by rw [CN.out]; simp [e]⟩
        case measure => simp [intOf]; omega
    · have : i = n := by omega
      subst this
      have dk : decide (i < i) = false := by simp
      have dki : decide ((i : Int) < (i : Int)) = false := by simp
      go_wp2_with fail
      go_ret
      exact ⟨rfl, rfl⟩
theorem slen_t {B : Nat} {w : World} {b n : Nat} {own : List Nat} {L : Nat → Nat} (h : SAt B w b own n L) :
    Calls Try.prog 37 #[.pointer (some ⟨b, 0, none⟩)] w fun e w' => e = .returned (.int .i64 (n : Int)) ∧ w = w' := by
  obtain ⟨v, M, hn, _⟩ := h
  obtain ⟨c0, c1⟩ := M.c
  obtain ⟨p, c, rfl⟩ := row_slice M.row
  have v0 := svalid_t b w c0
  clear M c0
  go_enter Try.func37, Try.ntmps37
  go_wp2_with (go_at_call 39; refine v0.mono ?_; rintro e w' ⟨rfl, rfl⟩)
  go_ret
  exact ⟨rfl, rfl⟩
set_option maxRecDepth 100000 in
set_option maxHeartbeats 4000000 in
theorem slabels_t {B : Nat} {w : World} {b n : Nat} {own : List Nat} {L : Nat → Nat} (h : SAt B w b own n L) :
    Calls Try.prog 38 #[.pointer (some ⟨b, 0, none⟩)] w fun e w' => ∃ p c, e = .returned (.slice p n c) ∧ w'.ownsRow w.heap.size 3 1 (.slice p n c) n (intsF n L) ∧ Kp [] w w' := by
  obtain ⟨v, M, hn, _⟩ := h
  obtain ⟨c0, c1⟩ := M.c
  obtain ⟨p, c, rfl⟩ := row_slice M.row
  have v0 := svalid_t b w c0
  obtain ⟨i0, hi, hz0, hz1, hz2⟩ := info_parts info3
  have HI := hide (And.intro hi (And.intro hz0 (And.intro hz1 hz2)))
  have HM := hide M.row
  have HN := hide hn
  clear M c0 hi hz0 hz1 hz2
  go_enter Try.func38, Try.ntmps38
  go_wp2_with (first | (go_at_call 39; refine v0.mono ?_; rintro e w' ⟨rfl, rfl⟩) | (at_builtin; refine wpList_clone w rfl _ _ 42 rfl 3 i0 (.int .i64 0) 8 Try.underlying42 HI.out.1 HI.out.2.1 HI.out.2.2.1 HI.out.2.2.2 rfl rfl B n c p (intsF n L) rfl HM.out (intsF_one _ _) HN.out (by omega) ?_; intro v' w1 hr hg; obtain ⟨p1, d1, rfl⟩ := row_slice hr; have HR := hide hr; have HG := hide hg; clear hr hg))
  go_ret
  have g := HG.out
  exact ⟨p1, d1, rfl, HR.out, ⟨g.os, g.tape, g.output, g.size, fun k hk _ => g.block k hk (by simp)⟩⟩
section
variable (w : World)
theorem sleast_f (x : Int) : Calls Try.prog 33 #[.pointer none, .int .i64 x] w fun e w' => e = .returned (.tuple #[.int .i64 0, .int .i64 1]) ∧ w = w' := by
  have v0 := svalid_f w
  go_enter Try.func33, Try.ntmps33
  go_wp2_with (go_at_call 39; refine v0.mono ?_; rintro e w' ⟨rfl, rfl⟩)
  go_ret2
  exact ⟨rfl, rfl⟩
theorem ssame_f (x y : Int) : Calls Try.prog 34 #[.pointer none, .int .i64 x, .int .i64 y] w fun e w' => e = .returned (.bool false) ∧ Kp [] w w' := by
  have v0 : ∀ m, Hid (Calls Try.prog 40 #[.pointer none, .int .i64 x] (w.drewN m) fun e w' => e = .returned (.bool false) ∧ w' = w.drewN m) := fun m => (shas_f (w.drewN m) x).mono fun _ _ ⟨h, k⟩ => ⟨h, k.symm⟩
  go_enter Try.func34, Try.ntmps34
  go_wp2_with fail
  go_quiet ((go_at_call 40; exact Calls.quiet_of_same (v0 _).out))
  go_wp2_with fail
  go_ret
  exact ⟨rfl, Kp.drewN _ _ _⟩
theorem ssize_f (x : Int) : Calls Try.prog 35 #[.pointer none, .int .i64 x] w fun e w' => e = .returned (.int .i64 0) ∧ w = w' := by
  have v0 := shas_f w x
  go_enter Try.func35, Try.ntmps35
  go_wp2_with (go_at_call 40; refine v0.mono ?_; rintro e w' ⟨rfl, rfl⟩)
  go_ret
  exact ⟨rfl, rfl⟩
theorem scount_f : Calls Try.prog 36 #[.pointer none] w fun e w' => e = .returned (.int .i64 0) ∧ w = w' := by
  have v0 := svalid_f w
  go_enter Try.func36, Try.ntmps36
  go_wp2_with (go_at_call 39; refine v0.mono ?_; rintro e w' ⟨rfl, rfl⟩)
  go_ret
  exact ⟨rfl, rfl⟩
theorem slen_f : Calls Try.prog 37 #[.pointer none] w fun e w' => e = .returned (.int .i64 0) ∧ w = w' := by
  have v0 := svalid_f w
  go_enter Try.func37, Try.ntmps37
  go_wp2_with (go_at_call 39; refine v0.mono ?_; rintro e w' ⟨rfl, rfl⟩)
  go_ret
  exact ⟨rfl, rfl⟩
theorem slabels_f : Calls Try.prog 38 #[.pointer none] w fun e w' => e = .returned (.slice none 0 0) ∧ w = w' := by
  have v0 := svalid_f w
  go_enter Try.func38, Try.ntmps38
  go_wp2_with (go_at_call 39; refine v0.mono ?_; rintro e w' ⟨rfl, rfl⟩)
  go_ret
  exact ⟨rfl, rfl⟩
theorem sgroups_f : Calls Try.prog 20 #[.pointer none] w fun e w' => e = .returned (.slice none 0 0) ∧ w = w' := by
  have v0 := svalid_f w
  go_enter Try.func20, Try.ntmps20
  go_wp2_with (go_at_call 39; refine v0.mono ?_; rintro e w' ⟨rfl, rfl⟩)
  go_ret
  exact ⟨rfl, rfl⟩
theorem sunion_f (x y : Int) : Calls Try.prog 22 #[.pointer none, .int .i64 x, .int .i64 y] w fun e w' => e = .returned (.tuple #[.bool false, .int .i64 1]) ∧ w = w' := by
  have v0 := svalid_f w
  go_enter Try.func22, Try.ntmps22
  go_wp2_with (go_at_call 39; refine v0.mono ?_; rintro e w' ⟨rfl, rfl⟩)
  go_ret2
  exact ⟨rfl, rfl⟩
end
end Go.Proofs.Ytgnifimibonbjaa
