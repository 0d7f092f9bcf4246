/- filled. -/
import Derived.Test.YtgcnccfmfnifbaaFX
set_option linter.unusedVariables false
set_option linter.unusedSimpArgs false
namespace Go.Proofs.Ytgcnccfmfnifbaa
open Go.RowKit

/-- the values of a list as counters -/
def lC (len : Nat) (V : Nat → Nat → Int) : Nat → Int := fun i => if i < len then V i 0 else 0
theorem sumS_le {C : Nat → Int} {M : Int} (h : ∀ i, C i ≤ M) : ∀ k : Nat, sumS C k ≤ M * (k : Int)
  | 0 => by simp [sumS]
  | k + 1 => by
    have := sumS_le h k
    have := h k
    have e : M * ((k + 1 : Nat) : Int) = M * (k : Int) + M := by rw [Int.natCast_add, Int.mul_add]; simp
    rw [sumS, e]; omega
/-- a list of small numbers to read -/
def Rd16 (w : World) (s : Option Addr) (len : Nat) (V : Nat → Nat → Int) : Prop := len = 0 ∨ ∃ b off, s = some ⟨b, off, none⟩ ∧ b < w.heap.size ∧ ∀ i, i < len → w.cell? ⟨b, off + i, none⟩ = some (.int .u16 (V i 0)) ∧ 0 ≤ V i 0 ∧ V i 0 ≤ 65535
theorem Rd16.below {w w' : World} {s : Option Addr} {len : Nat} {V : Nat → Nat → Int} (h : Rd16 w s len V) (k : Kp [] w w') : Rd16 w' s len V := by
  rcases h with h | ⟨b, off, rfl, hb, hc⟩
  · exact .inl h
  · exact .inr ⟨b, off, rfl, Nat.lt_of_lt_of_le hb k.size, fun i hi => ⟨(k.at hb _).trans (hc i hi).1, (hc i hi).2⟩⟩
theorem rd16_arg {w : World} {s : Option Addr} {len : Nat} {V : Nat → Nat → Int} (r : RowsI w s [.u16] len V) : Rd16 w s len V := by
  by_cases h0 : len = 0
  · exact .inl h0
  · obtain ⟨b, off, rfl, hb, _⟩ := rowsI_one r (show 0 < len by omega)
    refine .inr ⟨b, off, rfl, hb, fun i hi => ?_⟩
    obtain ⟨b', off', he, _, hc, hw⟩ := rowsI_one r hi
    injection he with he; injection he with e1 e2; subst e1; subst e2
    exact ⟨hc, bounds_u16 hw⟩
theorem lC_bd {w : World} {s : Option Addr} {len : Nat} {V : Nat → Nat → Int} (h : Rd16 w s len V) (i : Nat) : 0 ≤ lC len V i ∧ lC len V i ≤ 65535 := by
  unfold lC
  split
  · next hi =>
    rcases h with h | ⟨_, _, _, _, hc⟩
    · omega
    · exact (hc i hi).2
  · omega
theorem lC_next (V : Nat → Nat → Int) (k : Nat) : updC (lC k V) k (lC k V k + V k 0) = lC (k + 1) V := by
  funext i
  unfold updC lC
  by_cases e : i = k
  · subst e; simp
  · rw [if_neg e]
    by_cases g : i < k
    · rw [if_pos g, if_pos (by omega)]
    · rw [if_neg g, if_neg (by omega)]
set_option maxRecDepth 100000 in
set_option maxHeartbeats 8000000 in
theorem filled_t {w : World} {s : Option Addr} {len c : Nat} {V : Nat → Nat → Int} (hR : Rd16 w s len V) (hl : len ≤ 300) :
    Calls Try.prog 26 #[.slice s len c] w fun e w' => ∃ b own, e = .returned (.pointer (some ⟨b, 0, none⟩)) ∧ FAt w.heap.size w' b len own (lC len V) ∧ (∀ x ∈ own, w.heap.size ≤ x) ∧ Kp [] w w' := by
  have hp := upC'
  have NW := hide (new_t len (by omega) w)
  have HR := hide hR
  have HL := hide hl
  clear hR hl
  go_enter Try.func26, Try.ntmps26
  go_wp2_with fail
  refine NW.out.mono ?_
  rintro e w1 ⟨rfl, f1, k1⟩
  have F1 := hide (show FAt w.heap.size w1 (w.heap.size + 1) len [w.heap.size + 1, w.heap.size] (lC 0 V) by rw [show lC 0 V = fun _ => 0 from funext fun i => by simp [lC]]; exact f1)
  have K1 := hide k1
  obtain ⟨b, hb⟩ : ∃ b, b = w.heap.size + 1 := ⟨_, rfl⟩
  obtain ⟨own, hown⟩ : ∃ own, own = [w.heap.size + 1, w.heap.size] := ⟨_, rfl⟩
  rw [← hown, ← hb] at F1
  rw [← hb]
  have OW := hide (show ∀ x ∈ own, w.heap.size ≤ x by rw [hown]; simp)
  clear f1 k1 hb hown
  go_wp2_with fail
  go_loopw [5] (fun i wr => ∃ I : Nat, I ≤ len ∧ i = .int .i64 (I : Int) ∧ Hid (FAt w.heap.size wr b len own (lC I V)) ∧ Hid (Kp [] w wr)) (fun i _ => len - (intOf i).toNat)
  case atStart => exact ⟨0, Nat.zero_le _, rfl, F1.out, K1.out⟩
  case round =>
    obtain ⟨I, hI, rfl, hF, hK⟩ := hrel
    by_cases hlt : I < len
    · have dk : decide (I < len) = true := by simpa using hlt
      have dk' : decide ((I : Int) < (len : Int)) = true := by simpa using hlt
      have bI : (I : Int) < (len : Int) := by omega
      have wI : IntKind.i64.wrap ((I : Int) + 1) = (I : Int) + 1 := by have := HL.out; rw [IntKind.wrap_i64]; omega
      rcases HR.out.below hK.out with h0 | ⟨bs, off, rfl, _, hc⟩
      · omega
      obtain ⟨e1, v1, v2⟩ := hc I hlt
      have AE : addE (lC I V) len (I : Int) (V I 0) = 0 := by
        have bd : ∀ i, lC I V i ≤ 65535 := fun i => by
          unfold lC; split
          · next hi => exact (hc i (by omega)).2.2
          · omega
        have := sumS_le bd len
        have := HL.out
        unfold addE
        rw [if_pos ⟨by omega, bI⟩, Int.toNat_natCast, show lC I V I = 0 by simp [lC], if_neg (by omega), if_pos (by omega)]
      have AC : addC (lC I V) len (I : Int) (V I 0) = lC (I + 1) V := by
        unfold addC; rw [if_pos AE, Int.toNat_natCast]; exact lC_next V I
      have AA := hide (add_t hF.out (I : Int) (V I 0) (by unfold I64; omega) hK.out.size)
      rw [AE, AC] at AA
      generalize V I 0 = v at *
      have wv : IntKind.i64.wrap v = v := by rw [IntKind.wrap_i64]; omega
      have HLT := hide hlt
      clear hc hlt AE AC
      go_wp2_with fail
      refine AA.out.mono ?_
      rintro e w2 ⟨rfl, f2, k2⟩
      have F2 := hide f2
      have K2 := hide (hK.out.trans k2 (fun z hz => .inr (OW.out z hz)))
      clear f2 k2 e1 v1 v2
      go_wp2_with fail
      go_roundw
      case rel => exact ⟨I + 1, by have := HLT.out; omega, by go_num, F2.out, K2.out⟩
      case measure => have := HLT.out; simp [intOf]; omega
    · have hE : I = len := by omega
      subst hE
      have dk : decide (I < I) = false := by simp
      have dk' : decide ((I : Int) < (I : Int)) = false := by simp
      clear hlt
      go_wp2_with fail
      go_ret
      exact ⟨b, own, rfl, hF.out, OW.out, hK.out⟩
end Go.Proofs.Ytgcnccfmfnifbaa
