/- DsuPlays: the law answers true at every number, list of pairs and two numbers. -/
import Derived.Test.YtgnifimibonbjaaU
import Derived.Test.YtgnifimibonbjaaOp
import Derived.Test.YtgnifimibonbjaaRows
import Derived.Deep.CutRange
set_option linter.unusedVariables false
set_option linter.unusedSimpArgs false
namespace Go.Proofs.Ytgnifimibonbjaa
open Go.RowKit
/-- what a union answers, and the labels behind it -/
def uR (n : Nat) (L : Nat → Nat) (x y : Int) : Bool × Int × (Nat → Nat) := if (inB n x && inB n y) = true then (if L x.toNat = L y.toNat then (false, 0, L) else (true, 0, jn L (L x.toNat) (L y.toNat))) else (false, 3, L)
theorem uR_out {n : Nat} {L : Nat → Nat} {x y : Int} (h : ¬ (inr n x ∧ inr n y)) : uR n L x y = (false, 3, L) := by
  unfold uR
  have e : ¬ ((inB n x && inB n y) = true) := by
    intro hh
    rw [Bool.and_eq_true] at hh
    apply h
    constructor
    · by_cases hx : inr n x
      · exact hx
      · rw [inB_f hx] at hh; cases hh.1
    · by_cases hy : inr n y
      · exact hy
      · rw [inB_f hy] at hh; cases hh.2
  rw [if_neg e]
theorem uR_in {n : Nat} {L : Nat → Nat} {x y : Int} (hx : inr n x) (hy : inr n y) : uR n L x y = if L x.toNat = L y.toNat then (false, 0, L) else (true, 0, jn L (L x.toNat) (L y.toNat)) := by
  unfold uR
  rw [inB_t hx, inB_t hy, if_pos (by rfl)]
theorem union_u {B : Nat} {w : World} {b n : Nat} {own : List Nat} {L : Nat → Nat} (h : DAt B w b own n L) (x y : Int) :
    Calls Try.prog 21 #[.pointer (some ⟨b, 0, none⟩), .int .i64 x, .int .i64 y] w fun e w' => e = .returned (.tuple #[.bool (uR n L x y).1, .int .i64 (uR n L x y).2.1]) ∧ DAt B w' b own n (uR n L x y).2.2 ∧ Kp own w w' := by
  refine (union_t h x y).mono ?_
  rintro e w' ⟨u, er, L', rfl, h2, k2, hc⟩
  rcases hc with ⟨h1, rfl, rfl, rfl⟩ | ⟨hx, hy, he, rfl, rfl, rfl⟩ | ⟨hx, hy, he, rfl, rfl, rfl⟩
  · rw [uR_out h1]; exact ⟨rfl, h2, k2⟩
  · rw [uR_in hx hy, if_pos he]; exact ⟨rfl, h2, k2⟩
  · rw [uR_in hx hy, if_neg he]; exact ⟨rfl, h2, k2⟩
theorem sunion_u {B : Nat} {w : World} {b n : Nat} {own : List Nat} {L : Nat → Nat} (h : SAt B w b own n L) (x y : Int) :
    Calls Try.prog 22 #[.pointer (some ⟨b, 0, none⟩), .int .i64 x, .int .i64 y] w fun e w' => e = .returned (.tuple #[.bool (uR n L x y).1, .int .i64 (uR n L x y).2.1]) ∧ SAt B w' b own n (uR n L x y).2.2 ∧ Kp own w w' := by
  by_cases hr : inr n x ∧ inr n y
  · obtain ⟨hx, hy⟩ := hr
    rw [uR_in hx hy]
    obtain ⟨k, rfl⟩ : ∃ k : Nat, x = (k : Int) := ⟨x.toNat, by unfold inr at hx; omega⟩
    obtain ⟨j, rfl⟩ : ∃ j : Nat, y = (j : Int) := ⟨y.toNat, by unfold inr at hy; omega⟩
    rw [Int.toNat_natCast, Int.toNat_natCast]
    have U := sunion_in h k j (by unfold inr at hx; omega) (by unfold inr at hy; omega)
    by_cases e : L k = L j
    · rw [if_pos e] at U ⊢
      rw [show decide (L k ≠ L j) = false by simp [e]] at U
      exact U
    · rw [if_neg e] at U ⊢
      rw [show decide (L k ≠ L j) = true by simp [e]] at U
      exact U
  · rw [uR_out hr]
    exact (sunion_out h x y hr).mono fun e w' ⟨he, hw⟩ => ⟨he, hw ▸ h, hw ▸ Kp.refl _ _⟩
theorem rd2_nil' (w : World) : Rd2 0 w (.slice none 0 0) [] := ⟨none, 0, rfl, .inl rfl⟩
namespace lawPlays
open Go.ChangeShapes Go.WideShapes Go.ChangeAt Go.RowKit Go.Joins
set_option maxRecDepth 100000 in
set_option maxHeartbeats 16000000 in
theorem short (a0 : Int) (s1 : Option Addr) (len1 cap1 : Nat) (a2 : Int) (a3 : Int) (w : World) (hs : 300 < a0 ∨ 300 < len1) (hl : len1 ≤ maxLen) : Calls Try.prog 4 #[.int .i64 a0, .slice s1 len1 cap1, .int .i64 a2, .int .i64 a3] w fun e w' => e = .returned (.bool true) ∧ Below w.heap.size w w' := by
  have ho : ((decide ((300 : Int) < a0)) || decide ((300 : Int) < (len1 : Int))) = true := by
    rcases hs with h | h
    · simp; omega
    · simp; omega
  by_cases hbad : a0 < 0 ∨ 65536 < a0
  · have N := hide (new_f a0 hbad w)
    have S := hide (snew_f a0 hbad w)
    rcases hs with h | h
    · have d1 : decide ((300 : Int) < a0) = true := by simpa using h
      clear hbad ho
      go_enter Try.func4, Try.ntmps4
      go_wp2_with fail
      refine N.out.mono ?_
      rintro e w' ⟨rfl, rfl⟩
      go_wp2_with fail
      refine S.out.mono ?_
      rintro e w' ⟨rfl, rfl⟩
      go_wp2_with fail
      refine (works _).mono ?_
      rintro e w3 ⟨rfl, bw⟩
      go_wp2_with fail
      go_ret
      exact ⟨rfl, bw⟩
    · have d1 : decide ((300 : Int) < (len1 : Int)) = true := by simp; omega
      have HS := hide hbad
      clear hbad ho
      by_cases h4 : (300 : Int) < a0
      · have d0 : decide ((300 : Int) < a0) = true := by simpa using h4
        go_enter Try.func4, Try.ntmps4
        go_wp2_with fail
        refine N.out.mono ?_
        rintro e w' ⟨rfl, rfl⟩
        go_wp2_with fail
        refine S.out.mono ?_
        rintro e w' ⟨rfl, rfl⟩
        go_wp2_with fail
        refine (works _).mono ?_
        rintro e w3 ⟨rfl, bw⟩
        go_wp2_with fail
        go_ret
        exact ⟨rfl, bw⟩
      · have d0 : decide ((300 : Int) < a0) = false := by simpa using h4
        go_enter Try.func4, Try.ntmps4
        go_wp2_with fail
        refine N.out.mono ?_
        rintro e w' ⟨rfl, rfl⟩
        go_wp2_with fail
        refine S.out.mono ?_
        rintro e w' ⟨rfl, rfl⟩
        go_wp2_with fail
        refine (works _).mono ?_
        rintro e w3 ⟨rfl, bw⟩
        go_wp2_with fail
        go_ret
        exact ⟨rfl, bw⟩
  · obtain ⟨n, rfl⟩ : ∃ n : Nat, a0 = (n : Int) := ⟨a0.toNat, by omega⟩
    have hn : n ≤ 65536 := by omega
    have N := hide (new_t (B := w.heap.size) n hn w (Nat.le_refl _))
    have HN := hide hn
    have HSS := hide hs
    clear hs hbad ho hn
    go_enter Try.func4, Try.ntmps4
    go_wp2_with fail
    refine N.out.mono ?_
    rintro e w1 ⟨b, own, rfl, h1, ho, k1⟩
    have K1 := hide k1
    have S := hide (snew_t n HN.out w1)
    clear h1 ho k1 N
    go_wp2_with fail
    refine S.out.mono ?_
    rintro e w2 ⟨d, own2, rfl, h2, ho2, k2⟩
    have K2 := hide (K1.out.trans k2 (by simp))
    clear h2 ho2 k2 S K1
    by_cases h4 : 300 < n
    · have d0 : decide ((300 : Int) < (n : Int)) = true := by simp; omega
      go_wp2_with fail
      refine (works _).mono ?_
      rintro e w3 ⟨rfl, bw⟩
      have HW := hide bw
      clear bw
      go_wp2_with fail
      go_ret
      exact ⟨rfl, (K2.out.below (by simp) (Nat.le_refl _)).trans (HW.out.mono K2.out.size)⟩
    · have d0 : decide ((300 : Int) < (n : Int)) = false := by simp; omega
      have d1 : decide ((300 : Int) < (len1 : Int)) = true := by have := HSS.out; simp; omega
      go_wp2_with fail
      refine (works _).mono ?_
      rintro e w3 ⟨rfl, bw⟩
      have HW := hide bw
      clear bw
      go_wp2_with fail
      go_ret
      exact ⟨rfl, (K2.out.below (by simp) (Nat.le_refl _)).trans (HW.out.mono K2.out.size)⟩
set_option maxRecDepth 100000 in
set_option maxHeartbeats 16000000 in
theorem walk (a0 : Int) (s1 : Option Addr) (len1 cap1 : Nat) (V1 : Nat → Nat → Int) (a2 : Int) (a3 : Int) (w : World) (b0 : -9223372036854775808 ≤ a0 ∧ a0 ≤ 9223372036854775807) (hc1 : len1 ≤ cap1 ∧ cap1 ≤ maxLen) (hr1 : RowsI w s1 [.i64, .i64] len1 V1) (b2 : -9223372036854775808 ≤ a2 ∧ a2 ≤ 9223372036854775807) (b3 : -9223372036854775808 ≤ a3 ∧ a3 ≤ 9223372036854775807) : Calls Try.prog 4 #[.int .i64 a0, .slice s1 len1 cap1, .int .i64 a2, .int .i64 a3] w fun e w' => e = .returned (.bool true) ∧ Below w.heap.size w w' := by
  by_cases hs : 300 < a0 ∨ 300 < len1
  · exact short a0 s1 len1 cap1 a2 a3 w hs (by omega)
  · have hl : len1 ≤ 300 := by omega
    have HL := hide hl
    have HR1 := hide hr1
    have d0 : decide ((300 : Int) < a0) = false := by simp; omega
    have d1 : decide ((300 : Int) < (len1 : Int)) = false := by simp; omega
    by_cases hneg : a0 < 0
    · have N := hide (new_f a0 (.inl hneg) w)
      have S := hide (snew_f a0 (.inl hneg) w)
      clear hs hl b0 hc1 hr1 b2 b3 hneg
      go_enter Try.func4, Try.ntmps4
      go_wp2_with fail
      refine N.out.mono ?_
      rintro e w' ⟨rfl, rfl⟩
      go_wp2_with fail
      refine S.out.mono ?_
      rintro e w' ⟨rfl, rfl⟩
      go_wp2_with fail
      clear N S
      have UF : ∀ (W : World) (x y : Int), Hid (Calls Try.prog 21 #[.pointer none, .int .i64 x, .int .i64 y] W fun e w' => e = .returned (.tuple #[.bool false, .int .i64 1]) ∧ w' = W) := fun W x y => (union_f none W (.inl rfl) x y).mono fun _ _ ⟨h, k⟩ => ⟨h, k.symm⟩
      have VF : ∀ (W : World) (x y : Int), Hid (Calls Try.prog 22 #[.pointer none, .int .i64 x, .int .i64 y] W fun e w' => e = .returned (.tuple #[.bool false, .int .i64 1]) ∧ w' = W) := fun W x y => (sunion_f W x y).mono fun _ _ ⟨h, k⟩ => ⟨h, k.symm⟩
      go_loopw [13] (fun x wr => ∃ (k : Nat), k ≤ len1 ∧ x = .int .i64 (k : Int) ∧ Hid (Kp [] w wr)) (fun x _ => len1 - (intOf x).toNat)
      case atStart => exact ⟨0, by omega, rfl, Kp.refl _ _⟩
      case round =>
        obtain ⟨k, hk, rfl, hK⟩ := hrel
        by_cases hkn : k < len1
        · have dk : decide ((k : Int) < (len1 : Int)) = true := by simp; omega
          have ww : IntKind.i64.wrap ((k : Int) + 1) = ((k + 1 : Nat) : Int) := by have := HL.out; rw [IntKind.wrap_i64]; omega
          obtain ⟨bb, off, rfl, hbb, cD, cI⟩ := rowsI_two HR1.out hkn
          have CX : Hid (∀ w', Kp [] w w' → w'.cell? ⟨bb, off + k * 2, none⟩ = some (.int .i64 (V1 k 0)) ∧ w'.cell? ⟨bb, off + k * 2 + 1, none⟩ = some (.int .i64 (V1 k 1))) := by
            intro w' kk
            exact ⟨by rw [World.cell?_of_block (w := w) (kk.block bb hbb (by simp))]; exact cD, by rw [World.cell?_of_block (w := w) (kk.block bb hbb (by simp))]; exact cI⟩
          clear cD cI hbb
          generalize V1 k 0 = x at *
          generalize V1 k 1 = y at *
          obtain ⟨e1, e2⟩ := CX.out wr hK.out
          go_wp2_with fail
          go_quiet ((go_at_call 21; exact Calls.quiet_of_same (UF _ _ _).out))
          go_wp2_with fail
          generalize hw3 : wr.drewN nq = w3
          have K3 := hide (show Kp [] w w3 by rw [← hw3]; exact hK.out.trans (Kp.drewN [] wr _) (by simp))
          clear e1 e2 hw3 hK
          obtain ⟨e1, e2⟩ := CX.out w3 K3.out
          go_quiet ((go_at_call 22; exact Calls.quiet_of_same (VF _ _ _).out))
          generalize hw4 : w3.drewN nq = w4
          have K4 := hide (show Kp [] w w4 by rw [← hw4]; exact K3.out.trans (Kp.drewN [] w3 _) (by simp))
          clear e1 e2 hw4 K3
          obtain ⟨e1, e2⟩ := CX.out w4 K4.out
          go_wp2_with fail
          refine (agree_f w4 x a2).mono ?_
          rintro e w5 ⟨rfl, k5⟩
          have K5 := hide (K4.out.trans k5 (by simp))
          clear k5 K4 e1 e2
          obtain ⟨e1, e2⟩ := CX.out w5 K5.out
          go_wp2_with fail
          refine (agree_f w5 a3 y).mono ?_
          rintro e w6 ⟨rfl, k6⟩
          have K6 := hide (K5.out.trans k6 (by simp))
          clear k6 K5 e1 e2
          go_wp2_with fail
          go_roundw
          case rel => exact ⟨k + 1, by omega, rfl, K6⟩
          case measure => simp [intOf]; omega
        · have : k = len1 := by omega
          subst this
          have dk : decide ((k : Int) < (k : Int)) = false := by simp
          go_wp2_with fail
          refine (groups_f none wr (.inl rfl)).mono ?_
          rintro e w' ⟨rfl, rfl⟩
          go_wp2_with fail
          refine (sgroups_f wr).mono ?_
          rintro e w' ⟨rfl, rfl⟩
          go_wp2_with fail
          refine (groups_rd wr _ _ [] (rd2_nil' wr) (rd2_nil' wr) (by simp) (by simp)).mono ?_
          rintro e w2 ⟨rfl, m, hm⟩
          have K2 := hide (show Kp [] w w2 by rw [hm]; exact hK.out.trans (Kp.drewN [] wr m) (by simp))
          clear hm hK
          go_wp2_with fail
          refine (agree_f w2 a2 a3).mono ?_
          rintro e w3 ⟨rfl, k3⟩
          have K3 := hide (K2.out.trans k3 (by simp))
          clear k3 K2
          go_wp2_with fail
          refine (works _).mono ?_
          rintro e w8 ⟨rfl, bw⟩
          have HW := hide bw
          clear bw
          go_wp2_with fail
          go_ret
          exact ⟨rfl, (K3.out.below (by simp) (Nat.le_refl _)).trans (HW.out.mono K3.out.size)⟩
    · obtain ⟨n, rfl⟩ : ∃ n : Nat, a0 = (n : Int) := ⟨a0.toNat, by omega⟩
      have hn : n ≤ 300 := by omega
      have N := hide (new_t (B := w.heap.size) n (by omega) w (Nat.le_refl _))
      have HN := hide hn
      clear hs hl b0 hc1 hr1 b2 b3 hneg hn
      go_enter Try.func4, Try.ntmps4
      go_wp2_with fail
      refine N.out.mono ?_
      rintro e w1 ⟨b, own, rfl, h1, ho, k1⟩
      have H1 := hide h1
      have HO := hide ho
      have K1 := hide k1
      have S := hide (snew_t n (by have := HN.out; omega) w1)
      clear h1 ho k1 N
      go_wp2_with fail
      refine S.out.mono ?_
      rintro e w2 ⟨d, own2, rfl, h2, ho2, k2⟩
      have H2 := hide (h2.low (show w.heap.size ≤ w1.heap.size from K1.out.size))
      have AP := hide (show ∀ x ∈ own2, x ∉ own from fun x hx hy => by have := ho2 x hx; have := (H1.out.lt x hy).2; omega)
      have AQ := hide (show ∀ x ∈ own, x ∉ own2 from fun x hx hy => AP.out x hy hx)
      have HO2 := hide (show ∀ x ∈ own2, w.heap.size ≤ x from fun x hx => by have := ho2 x hx; have := K1.out.size; omega)
      have D2 := hide (H1.out.keep k2 (by simp))
      have K2 := hide (K1.out.trans k2 (by simp))
      clear h2 ho2 k2 S H1 K1
      go_wp2_with fail
      go_loopw [13] (fun x wr => ∃ (k : Nat) (L : Nat → Nat), k ≤ len1 ∧ x = .int .i64 (k : Int) ∧ Hid (DAt w.heap.size wr b own n L) ∧ Hid (SAt w.heap.size wr d own2 n L) ∧ Hid (Kp [] w wr)) (fun x _ => len1 - (intOf x).toNat)
      case atStart => exact ⟨0, fun i => i, by omega, rfl, D2, H2, K2⟩
      case round =>
        obtain ⟨k, L, hk, rfl, hD, hS, hK⟩ := hrel
        by_cases hkn : k < len1
        · have dk : decide ((k : Int) < (len1 : Int)) = true := by simp; omega
          have ww : IntKind.i64.wrap ((k : Int) + 1) = ((k + 1 : Nat) : Int) := by have := HL.out; rw [IntKind.wrap_i64]; omega
          obtain ⟨bb, off, rfl, hbb, cD, cI⟩ := rowsI_two HR1.out hkn
          have CX : Hid (∀ w', Kp [] w w' → w'.cell? ⟨bb, off + k * 2, none⟩ = some (.int .i64 (V1 k 0)) ∧ w'.cell? ⟨bb, off + k * 2 + 1, none⟩ = some (.int .i64 (V1 k 1))) := by
            intro w' kk
            exact ⟨by rw [World.cell?_of_block (w := w) (kk.block bb hbb (by simp))]; exact cD, by rw [World.cell?_of_block (w := w) (kk.block bb hbb (by simp))]; exact cI⟩
          clear cD cI hbb
          generalize V1 k 0 = x at *
          generalize V1 k 1 = y at *
          have KW := hide (hK.out.trans (Kp.drewN [] wr 1) (by simp))
          have K0 : wr.drew.cell? ⟨bb, off + k * 2, none⟩ = some (.int .i64 x) ∧ wr.drew.cell? ⟨bb, off + k * 2 + 1, none⟩ = some (.int .i64 y) := CX.out wr.drew KW.out
          have U := hide (union_u hD.out.drew x y)
          have S0 := hide (hS.out.keep (Kp.drewN [] wr 1) (by simp))
          obtain ⟨u, hu⟩ : ∃ u, u = uR n L x y := ⟨_, rfl⟩
          rw [← hu] at U
          have HU := hide hu
          clear hu hD hS hK
          obtain ⟨u1, u2, L'⟩ := u
          go_wp2_with fail
          go_region_held3 (fun w' => w'.cell? ⟨bb, off + k * 2, none⟩ = some (.int .i64 x) ∧ w'.cell? ⟨bb, off + k * 2 + 1, none⟩ = some (.int .i64 y))
            (with_reducible assumption)
            (first | (go_at_call 21; refine U.out.mono ?_; rintro e w3 ⟨rfl, h3, k3⟩; have K3 := hide (KW.out.trans k3 (fun z hz => .inr (HO.out z hz))); have C3 : w3.cell? ⟨bb, off + k * 2, none⟩ = some (.int .i64 x) ∧ w3.cell? ⟨bb, off + k * 2 + 1, none⟩ = some (.int .i64 y) := CX.out w3 K3.out; have D3 := hide h3; have S3 := hide (S0.out.keep k3 AP.out); clear h3 k3))
          have KX := hide (K3.out.trans (Kp.drewN [] w3 1) (by simp))
          have V := hide (sunion_u (S3.out.keep (Kp.drewN [] w3 1) (by simp) : SAt w.heap.size w3.drew d own2 n L) x y)
          rw [← HU.out] at V
          have K0' : w3.drew.cell? ⟨bb, off + k * 2, none⟩ = some (.int .i64 x) ∧ w3.drew.cell? ⟨bb, off + k * 2 + 1, none⟩ = some (.int .i64 y) := CX.out w3.drew KX.out
          clear K0 C3 U S0 KW K3
          go_wp2_with fail
          go_region_held3 (fun w' => w'.cell? ⟨bb, off + k * 2, none⟩ = some (.int .i64 x) ∧ w'.cell? ⟨bb, off + k * 2 + 1, none⟩ = some (.int .i64 y))
            (with_reducible assumption)
            (first | (go_at_call 22; refine V.out.mono ?_; rintro e w4 ⟨rfl, h4, k4⟩; have K4 := hide (KX.out.trans k4 (fun z hz => .inr (HO2.out z hz))); have C4 : w4.cell? ⟨bb, off + k * 2, none⟩ = some (.int .i64 x) ∧ w4.cell? ⟨bb, off + k * 2 + 1, none⟩ = some (.int .i64 y) := CX.out w4 K4.out; have S4 := hide h4; have D4 := hide (D3.out.drew.keep k4 AQ.out); clear h4 k4))
          obtain ⟨e1, e2⟩ := C4
          clear K0' V KX D3 S3
          have A := hide (agree_t D4.out S4.out AP.out x a2)
          go_wp2_with fail
          refine A.out.mono ?_
          rintro e w5 ⟨rfl, h5, s5, k5⟩
          have D5 := hide h5
          have S5 := hide s5
          have K5 := hide (K4.out.trans k5 (fun z hz => .inr (HO.out z hz)))
          obtain ⟨g1, g2⟩ := CX.out w5 K5.out
          clear h5 s5 k5 A e1 e2 D4 S4 K4
          have A := hide (agree_t D5.out S5.out AP.out a3 y)
          go_wp2_with fail
          refine A.out.mono ?_
          rintro e w6 ⟨rfl, h6, s6, k6⟩
          have D6 := hide h6
          have S6 := hide s6
          have K6 := hide (K5.out.trans k6 (fun z hz => .inr (HO.out z hz)))
          clear h6 s6 k6 A g1 g2 D5 S5 K5
          go_wp2_with fail
          go_roundw
          case rel => exact ⟨k + 1, L', by omega, rfl, D6, S6, K6⟩
          case measure => simp [intOf]; omega
        · have : k = len1 := by omega
          subst this
          have dk : decide ((k : Int) < (k : Int)) = false := by simp
          have G := hide (groups_t hD.out)
          have LE := hide hD.out.good.2.1
          go_wp2_with fail
          refine G.out.mono ?_
          rintro e w4 ⟨v4, rfl, g4, h4, k4⟩
          have G4 := hide g4
          have D4 := hide h4
          have S4 := hide (hS.out.keep k4 AP.out)
          have K4 := hide (hK.out.trans k4 (fun z hz => .inr (HO.out z hz)))
          clear g4 h4 k4 G hD hS hK
          have G := hide (sgroups_t S4.out LE.out)
          go_wp2_with fail
          refine G.out.mono ?_
          rintro e w5 ⟨v5, rfl, g5, k5⟩
          have GR := hide (groups_rd w5 v4 v5 (grp L n) (G4.out.keep k5 (by simp)) g5 (grp_lens (by have := HN.out; omega)).1 (grp_lens (by have := HN.out; omega)).2)
          have K5 := hide (K4.out.trans k5 (by simp))
          have D5 := hide (D4.out.keep k5 (by simp))
          have S5 := hide (S4.out.keep k5 (by simp))
          clear g5 k5 G S4 K4 G4 D4
          go_wp2_with fail
          refine GR.out.mono ?_
          rintro e w6 ⟨rfl, m, hm⟩
          have kd : Kp [] w5 w6 := by rw [hm]; exact Kp.drewN _ _ _
          have D6 := hide (D5.out.keep kd (by simp))
          have S6 := hide (S5.out.keep kd (by simp))
          have K6 := hide (K5.out.trans kd (by simp))
          clear hm kd GR K5 D5 S5
          have A := hide (agree_t D6.out S6.out AP.out a2 a3)
          go_wp2_with fail
          refine A.out.mono ?_
          rintro e w7 ⟨rfl, h7, s7, k7⟩
          have K7 := hide (K6.out.trans k7 (fun z hz => .inr (HO.out z hz)))
          clear h7 s7 k7 A D6 S6 K6
          go_wp2_with fail
          refine (works _).mono ?_
          rintro e w8 ⟨rfl, bw⟩
          have HW := hide bw
          clear bw
          go_wp2_with fail
          go_ret
          exact ⟨rfl, (K7.out.below (by simp) (Nat.le_refl _)).trans (HW.out.mono K7.out.size)⟩
theorem own : ownKnob Try.prog.godebug = none := by kernel_rfl
theorem laidOut : laidOutB Try.prog = true := by kernel_rfl
set_option maxRecDepth 100000 in
theorem lifted (os : Os) (started : os.Started) (H : Type) (enc : TypeId × Value → H) :
    ReturnsInHanded {} Try.checked os 4 .any (Rows.dsuPlaysSpec.pre6 enc Try.prog Try.f4 Rows.dsuPlaysRow.domain false) (Rows.dsuPlaysSpec.post enc Try.prog Try.f4 false true false false) := by
  refine returnsInHanded_of_change (C := Try.checked) own started (by kernel_rfl) Try.func4
    (ChangeSpec.witness6 (enc := enc) (C := Try.checked) false ⟨#[], #[.int .i64 0, .slice none 0 0, .int .i64 0, .int .i64 0], []⟩ 8 (by kernel_rfl) (by kernel_rfl) (by kernel_rfl) (by kernel_rfl)) ?_
  intro W base args ds gs before hval0 hW hcnd _
  have hval : ∀ (j : Nat) t v, Try.f4.params[j]? = some t → args[j]? = some v → Value.okWide Try.prog W .any base t v := hval0
  have hW' := hW
  obtain ⟨p, q, hA0, hV, rfl, hfz, hnd⟩ := hW
  have hA : DataW.TrodAll enc Try.prog W 0 (fun _ => true) true Try.f4.params.toList args.toList ds p := hA0
  rw [Try.params4] at hA hval
  obtain ⟨v0, vs0, d0, ds0, p0, q0, hargs, rfl, rfl, h0, r0⟩ := trodAll_cons hA
  obtain ⟨v1, vs1, d1, ds1, p1, q1, rfl, rfl, rfl, h1, r1⟩ := trodAll_cons r0
  obtain ⟨v2, vs2, d2, ds2, p2, q2, rfl, rfl, rfl, h2, r2⟩ := trodAll_cons r1
  obtain ⟨v3, vs3, d3, ds3, p3, q3, rfl, rfl, rfl, h3, r3⟩ := trodAll_cons r2
  obtain ⟨rfl, rfl, rfl⟩ := trodAll_nil r3
  obtain rfl : args = #[v0, v1, v2, v3] := by cases args; simp_all
  obtain ⟨rfl, rfl⟩ := trodVars_none hV
  have k0 := h0
  have lt0 : ∀ x ∈ p0, x.block < W.heap.size := by obtain ⟨m, hm⟩ := k0; exact DataW.trod_lt m _ _ _ hm
  have k1 := h1
  have lt1 : ∀ x ∈ p1, x.block < W.heap.size := by obtain ⟨m, hm⟩ := k1; exact DataW.trod_lt m _ _ _ hm
  have k2 := h2
  have lt2 : ∀ x ∈ p2, x.block < W.heap.size := by obtain ⟨m, hm⟩ := k2; exact DataW.trod_lt m _ _ _ hm
  have k3 := h3
  have lt3 : ∀ x ∈ p3, x.block < W.heap.size := by obtain ⟨m, hm⟩ := k3; exact DataW.trod_lt m _ _ _ hm
  obtain ⟨a0, rfl, _, _, w0⟩ := open_int Try.underlying3 (hval 0 3 v0 rfl rfl) h0
  obtain ⟨s1, len1, cap1, rfl⟩ := okWide_slice Try.underlying37 (hval 1 37 v1 rfl rfl)
  obtain ⟨V1, hc1, hr1⟩ := rows_in Try.underlying37 (flat_array Try.underlying40 Try.underlying3 (by kernel_rfl) (by kernel_rfl) : FlatI Try.prog 40 [.i64, .i64]) (by decide) h1
  obtain ⟨a2, rfl, _, _, w2⟩ := open_int Try.underlying3 (hval 2 3 v2 rfl rfl) h2
  obtain ⟨a3, rfl, _, _, w3⟩ := open_int Try.underlying3 (hval 3 3 v3 rfl rfl) h3
  clear hA0 hval0
  refine (walk a0 s1 len1 cap1 V1 a2 a3 W (bounds_i64 w0) hc1 hr1 (bounds_i64 w2) (bounds_i64 w3)).mono fun e W' ⟨he, bel⟩ => ?_
  subst he
  exact ⟨_, rfl, _, _, _, [], _, [], hW', trodAll_mk1 (shut_bool Try.underlying4 _), (trodAll_cons_mk (Below.trod laidOut (by kernel_rfl) (of_decide_eq_true (by kernel_rfl)) k0 bel lt0) (trodAll_cons_mk (Below.trod laidOut (by kernel_rfl) (of_decide_eq_true (by kernel_rfl)) k1 bel lt1) (trodAll_cons_mk (Below.trod laidOut (by kernel_rfl) (of_decide_eq_true (by kernel_rfl)) k2 bel lt2) (trodAll_cons_mk (Below.trod laidOut (by kernel_rfl) (of_decide_eq_true (by kernel_rfl)) k3 bel lt3) trodAll_mk0)))), rfl, bel.frame _, fun h => by cases h⟩
theorem holds : Rows.dsuPlaysRow.holds Try.pinned (OpenSpec.ofChange Rows.dsuPlaysSpec) :=
  OpenClaim.holds_of_wide 4 Try.f4 rfl rfl rfl rfl rfl rfl rfl ⟨rfl, rfl, rfl, rfl, rfl⟩ rfl rfl rfl rfl rfl (by kernel_rfl) Try.func4 (by kernel_rfl)
    (of_decide_eq_true (by kernel_rfl)) (by unfold Func.isWrapper; first | (rw [if_pos (by decide +kernel)]; kernel_rfl) | (rw [if_neg (by decide +kernel)]; exact ⟨rfl, rfl⟩))
    (fun os started H enc _ => lifted os started H enc)
theorem proved : Rows.DsuPlaysSaid := holds
end lawPlays
end Go.Proofs.Ytgnifimibonbjaa
