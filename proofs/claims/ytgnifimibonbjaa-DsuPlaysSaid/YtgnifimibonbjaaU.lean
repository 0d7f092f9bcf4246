/- The program's sets and the specification's agree. -/
import Derived.Test.YtgnifimibonbjaaT
set_option linter.unusedVariables false
set_option linter.unusedSimpArgs false
namespace Go.Proofs.Ytgnifimibonbjaa
open Go.RowKit

theorem has_any {B : Nat} {w : World} {b n : Nat} {own : List Nat} {L : Nat → Nat} (h : DAt B w b own n L) (i : Int) :
    Calls Try.prog 31 #[.pointer (some ⟨b, 0, none⟩), .int .i64 i] w fun e w' => e = .returned (.bool (inB n i)) ∧ w = w' := has_t h i
set_option maxHeartbeats 1000000 in
theorem least_any {B : Nat} {w : World} {b n : Nat} {own : List Nat} {L : Nat → Nat} (h : DAt B w b own n L) (x : Int) :
    Calls Try.prog 23 #[.pointer (some ⟨b, 0, none⟩), .int .i64 x] w fun e w' => e = .returned (leastV n L x) ∧ DAt B w' b own n L ∧ Kp own w w' := by
  unfold leastV
  by_cases hx : inr n x
  · rw [inB_t hx, if_pos rfl]
    obtain ⟨k, rfl⟩ : ∃ k : Nat, x = (k : Int) := ⟨x.toNat, by unfold inr at hx; omega⟩
    rw [Int.toNat_natCast]
    exact least_in h k (by unfold inr at hx; omega)
  · rw [inB_f hx, if_neg (by simp)]
    have H0 := has_any h x
    rw [inB_f hx] at H0
    have V0 := valid_of h
    have HH := hide h
    clear h hx
    go_enter Try.func23, Try.ntmps23
    go_wp2_with fail
    refine V0.mono ?_
    rintro e w' ⟨rfl, rfl⟩
    go_wp2_with fail
    refine H0.mono ?_
    rintro e w' ⟨rfl, rfl⟩
    go_wp2_with fail
    go_ret2
    exact ⟨rfl, HH.out, Kp.refl _ _⟩
set_option maxHeartbeats 1000000 in
theorem size_any {B : Nat} {w : World} {b n : Nat} {own : List Nat} {L : Nat → Nat} (h : DAt B w b own n L) (x : Int) :
    Calls Try.prog 14 #[.pointer (some ⟨b, 0, none⟩), .int .i64 x] w fun e w' => e = .returned (.int .i64 ((sizeV n L x : Nat) : Int)) ∧ DAt B w' b own n L ∧ Kp own w w' := by
  unfold sizeV
  by_cases hx : inr n x
  · rw [inB_t hx, if_pos rfl]
    obtain ⟨k, rfl⟩ : ∃ k : Nat, x = (k : Int) := ⟨x.toNat, by unfold inr at hx; omega⟩
    rw [Int.toNat_natCast]
    exact size_in h k (by unfold inr at hx; omega)
  · rw [inB_f hx, if_neg (by simp)]
    have H0 := has_any h x
    rw [inB_f hx] at H0
    have HH := hide h
    clear h hx
    go_enter Try.func14, Try.ntmps14
    go_wp2_with fail
    refine H0.mono ?_
    rintro e w' ⟨rfl, rfl⟩
    go_wp2_with fail
    go_ret
    exact ⟨rfl, HH.out, Kp.refl _ _⟩
theorem same_anyB {B : Nat} {w : World} {b n : Nat} {own : List Nat} {L : Nat → Nat} (h : DAt B w b own n L) (x y : Int) :
    Calls Try.prog 24 #[.pointer (some ⟨b, 0, none⟩), .int .i64 x, .int .i64 y] w fun e w' => e = .returned (.bool (sameB n L x y)) ∧ DAt B w' b own n L ∧ Kp own w w' := by
  unfold sameB
  by_cases hx : inr n x
  · by_cases hy : inr n y
    · rw [inB_t hx, inB_t hy]
      obtain ⟨k, rfl⟩ : ∃ k : Nat, x = (k : Int) := ⟨x.toNat, by unfold inr at hx; omega⟩
      obtain ⟨j, rfl⟩ : ∃ j : Nat, y = (j : Int) := ⟨y.toNat, by unfold inr at hy; omega⟩
      rw [Int.toNat_natCast, Int.toNat_natCast]
      exact same_in h k j (by unfold inr at hx; omega) (by unfold inr at hy; omega)
    · have H0 := has_any h x
      have H1 := has_any h y
      rw [inB_t hx] at H0 ⊢
      rw [inB_f hy] at H1 ⊢
      have HH := hide h
      clear h hx hy
      go_enter Try.func24, Try.ntmps24
      go_wp2_with fail
      refine H0.mono ?_
      rintro e w' ⟨rfl, rfl⟩
      go_wp2_with fail
      refine H1.mono ?_
      rintro e w' ⟨rfl, rfl⟩
      go_wp2_with fail
      go_ret
      exact ⟨by simp, HH.out, Kp.refl _ _⟩
  · have H0 := has_any h x
    rw [inB_f hx] at H0 ⊢
    have HH := hide h
    clear h hx
    go_enter Try.func24, Try.ntmps24
    go_wp2_with fail
    refine H0.mono ?_
    rintro e w' ⟨rfl, rfl⟩
    go_wp2_with fail
    go_ret
    exact ⟨by simp, HH.out, Kp.refl _ _⟩
theorem leastV_form (n : Nat) (L : Nat → Nat) (x : Int) : ∃ a e : Int, leastV n L x = .tuple #[.int .i64 a, .int .i64 e] := by
  unfold leastV
  split
  · exact ⟨_, _, rfl⟩
  · exact ⟨_, _, rfl⟩
set_option maxRecDepth 100000 in
set_option maxHeartbeats 8000000 in
theorem agree_t {B B' : Nat} {w : World} {b n d : Nat} {own own2 : List Nat} {L : Nat → Nat} (h : DAt B w b own n L) (s : SAt B' w d own2 n L) (ap : ∀ x ∈ own2, x ∉ own) (x y : Int) :
    Calls Try.prog 17 #[.pointer (some ⟨b, 0, none⟩), .pointer (some ⟨d, 0, none⟩), .int .i64 x, .int .i64 y] w fun e w' => e = .returned (.bool true) ∧ DAt B w' b own n L ∧ SAt B' w' d own2 n L ∧ Kp own w w' := by
  have HA := hide ap
  obtain ⟨lv, le, hlv⟩ := leastV_form n L x
  have HN := hide h.good.1
  have A := hide (least_any h x)
  rw [hlv] at A
  have HS := hide s
  have HLV := hide hlv
  clear h s ap hlv
  generalize hsb : sameB n L x y = sb at *
  have HSB := hide hsb
  generalize hsz : sizeV n L x = sz at *
  have HSZ := hide hsz
  clear hsb hsz
  go_enter Try.func17, Try.ntmps17
  go_wp2_with fail
  refine A.out.mono ?_
  rintro e w1 ⟨rfl, h1, k1⟩
  have D1 := hide h1
  have S1 := hide (HS.out.keep k1 HA.out)
  have K1 := hide k1
  clear h1 k1 A HS
  have A := hide (sleast_any S1.out x)
  rw [HLV.out] at A
  go_wp2_with fail
  refine A.out.mono ?_
  rintro e w' ⟨rfl, rfl⟩
  clear A
  have A := hide (same_anyB D1.out x y)
  rw [HSB.out] at A
  go_wp2_with fail
  refine A.out.mono ?_
  rintro e w2 ⟨rfl, h2, k2⟩
  have D2 := hide h2
  have S2 := hide (S1.out.keep k2 HA.out)
  have K2 := hide (K1.out.trans k2 (fun z hz => .inl hz))
  clear h2 k2 A D1 S1 K1
  have A := hide (ssame_any S2.out x y)
  rw [HSB.out] at A
  go_wp2_with fail
  refine A.out.mono ?_
  rintro e w3 ⟨rfl, k3⟩
  have D3 := hide (D2.out.keep k3 (by simp))
  have S3 := hide (S2.out.keep k3 (by simp))
  have K3 := hide (K2.out.trans k3 (by simp))
  clear k3 A D2 S2 K2
  have A := hide (size_any D3.out x)
  rw [HSZ.out] at A
  go_wp2_with fail
  refine A.out.mono ?_
  rintro e w4 ⟨rfl, h4, k4⟩
  have D4 := hide h4
  have S4 := hide (S3.out.keep k4 HA.out)
  have K4 := hide (K3.out.trans k4 (fun z hz => .inl hz))
  clear h4 k4 A D3 S3 K3
  have A := hide (ssize_any S4.out x)
  rw [HSZ.out] at A
  go_wp2_with fail
  refine A.out.mono ?_
  rintro e w5 ⟨rfl, k5⟩
  have D5 := hide (D4.out.keep k5 (by simp))
  have S5 := hide (S4.out.keep k5 (by simp))
  have K5 := hide (K4.out.trans k5 (by simp))
  clear k5 A D4 S4 K4
  have A1 := hide (count_t D5.out)
  have A2 := hide (scount_t S5.out)
  have A3 := hide (len_t D5.out)
  have A4 := hide (slen_t S5.out)
  go_wp2_with fail
  refine A1.out.mono ?_
  rintro e w' ⟨rfl, rfl⟩
  go_wp2_with fail
  refine A2.out.mono ?_
  rintro e w' ⟨rfl, rfl⟩
  go_wp2_with fail
  refine A3.out.mono ?_
  rintro e w' ⟨rfl, rfl⟩
  go_wp2_with fail
  refine A4.out.mono ?_
  rintro e w' ⟨rfl, rfl⟩
  clear A1 A2 A3 A4
  have A := hide (labels_t D5.out)
  have HLT := hide (D5.out.lt)
  go_wp2_with fail
  refine A.out.mono ?_
  rintro e w6 ⟨rfl, r6, h6, k6⟩
  have D6 := hide h6
  have S6 := hide (S5.out.keep k6 HA.out)
  have K6 := hide (K5.out.trans k6 (fun z hz => .inl hz))
  have R6 := hide r6
  clear r6 h6 k6 A D5 S5 K5
  have A := hide (slabels_t S6.out)
  go_wp2_with fail
  refine A.out.mono ?_
  rintro e w7 ⟨p7, c7, rfl, r7, k7⟩
  have D7 := hide (D6.out.keep k7 (by simp))
  have S7 := hide (S6.out.keep k7 (by simp))
  have K7 := hide (K6.out.trans k7 (by simp))
  have SR := hide (same_rows w7 n L _ _ _ _ n c7 (k7.row R6.out (by simp)) r7 HN.out)
  clear r7 k7 A D6 S6 K6
  go_wp2_with fail
  refine SR.out.mono ?_
  rintro e w8 ⟨rfl, k8⟩
  have D8 := hide (D7.out.keep k8 (by simp))
  have S8 := hide (S7.out.keep k8 (by simp))
  have K8 := hide (K7.out.trans k8 (by simp))
  clear k8 D7 S7 K7 SR
  go_wp2_with fail
  go_ret
  exact ⟨rfl, D8.out, S8.out, K8.out⟩
set_option maxRecDepth 100000 in
set_option maxHeartbeats 8000000 in
theorem agree_f (w : World) (x y : Int) : Calls Try.prog 17 #[.pointer none, .pointer none, .int .i64 x, .int .i64 y] w fun e w' => e = .returned (.bool true) ∧ Kp [] w w' := by
  have a1 := least_f none w (.inl rfl) x
  have a2 := sleast_f w x
  have a3 := same_f none w (.inl rfl) x y
  have a4 := ssame_f w x y
  go_enter Try.func17, Try.ntmps17
  go_wp2_with fail
  refine a1.mono ?_
  rintro e w' ⟨rfl, rfl⟩
  go_wp2_with fail
  refine a2.mono ?_
  rintro e w' ⟨rfl, rfl⟩
  go_wp2_with fail
  refine a3.mono ?_
  rintro e w' ⟨rfl, rfl⟩
  go_wp2_with fail
  refine a4.mono ?_
  rintro e w1 ⟨rfl, k1⟩
  have K1 := hide k1
  clear k1 a1 a2 a3 a4
  go_wp2_with fail
  refine (size_f none w1 (.inl rfl) x).mono ?_
  rintro e w' ⟨rfl, rfl⟩
  go_wp2_with fail
  refine (ssize_f w1 x).mono ?_
  rintro e w' ⟨rfl, rfl⟩
  go_wp2_with fail
  refine (count_f none w1 (.inl rfl)).mono ?_
  rintro e w' ⟨rfl, rfl⟩
  go_wp2_with fail
  refine (scount_f w1).mono ?_
  rintro e w' ⟨rfl, rfl⟩
  go_wp2_with fail
  refine (len_f none w1 (.inl rfl)).mono ?_
  rintro e w' ⟨rfl, rfl⟩
  go_wp2_with fail
  refine (slen_f w1).mono ?_
  rintro e w' ⟨rfl, rfl⟩
  go_wp2_with fail
  refine (labels_f none w1 (.inl rfl)).mono ?_
  rintro e w' ⟨rfl, rfl⟩
  go_wp2_with fail
  refine (slabels_f w1).mono ?_
  rintro e w' ⟨rfl, rfl⟩
  go_wp2_with fail
  have SR : Calls Try.prog 29 #[.slice none 0 0, .slice none 0 0] w1 fun e w' => e = .returned (.bool true) ∧ Kp [] w1 w' := same_rows w1 0 (fun i => i) 0 0 none none 0 0 (World.ownsRow_nil _ _ _ _) (World.ownsRow_nil _ _ _ _) (by omega)
  refine SR.mono ?_
  rintro e w2 ⟨rfl, k2⟩
  have K2 := hide (K1.out.trans k2 (by simp))
  clear k2
  go_wp2_with fail
  go_ret
  exact ⟨rfl, K2.out⟩
end Go.Proofs.Ytgnifimibonbjaa
