/- The specification's arena in memory, and what it shows. -/
import Derived.Test.YtflblojmjdlhiaaR
import Derived.Deep.OwnRows
set_option linter.unusedVariables false
set_option linter.unusedSimpArgs false
namespace Go.Proofs.Ytflblojmjdlhiaa
open Go.RowKit

def cnts (A : Ar) (n : Nat) : List Value := (List.range n).map fun i : Nat => Value.int .u64 (A.times (i : Int))
structure RMem (B : Nat) (w : World) (r : Nat) (vI vC vR : Value) (A : Ar) : Prop where
  blk : w.heap[r]? = some (.cells #[.bool true, .int .i64 (A.cap : Int), vI, vC, vR] 68 (0, 0))
  I : w.ownsRow B 4 1 vI A.cap (outs A A.cap)
  C : w.ownsRow B 48 1 vC A.cap (cnts A A.cap)
  R : w.ownsRow B 3 1 vR A.fr.length (ints A.fr.reverse)
  ge : B ≤ r
  nd : (r :: (vI.ownBlock.toList ++ (vC.ownBlock.toList ++ vR.ownBlock.toList))).Nodup
/-- the specification's arena at block r, which owns these blocks, is A -/
def RAt (B : Nat) (w : World) (r : Nat) (own : List Nat) (A : Ar) : Prop := ∃ vI vC vR, RMem B w r vI vC vR A ∧ own = r :: (vI.ownBlock.toList ++ (vC.ownBlock.toList ++ vR.ownBlock.toList))
theorem RAt.keep {B : Nat} {w w' : World} {r : Nat} {own o : List Nat} {A : Ar} (h : RAt B w r own A) (k : Kp o w w') (d : ∀ x ∈ own, x ∉ o) : RAt B w' r own A := by
  obtain ⟨vI, vC, vR, M, rfl⟩ := h
  exact ⟨vI, vC, vR, ⟨k.blk M.blk (d r (by simp)), k.row M.I (fun x hx => d x (by simp [hx])), k.row M.C (fun x hx => d x (by simp [hx])), k.row M.R (fun x hx => d x (by simp [hx])), M.ge, M.nd⟩, rfl⟩
theorem RAt.lt {B : Nat} {w : World} {r : Nat} {own : List Nat} {A : Ar} (h : RAt B w r own A) : ∀ x ∈ own, B ≤ x ∧ x < w.heap.size := by
  obtain ⟨vI, vC, vR, M, rfl⟩ := h
  intro x hx
  simp at hx
  rcases hx with rfl | hx | hx | hx
  · exact ⟨M.ge, lt_of_blk M.blk⟩
  · exact M.I.lt x hx
  · exact M.C.lt x hx
  · exact M.R.lt x hx

theorem up26 : Try.prog.pointee 26 = 68 := by kernel_rfl
set_option maxHeartbeats 400000 in
theorem rvalid_t (b : Nat) (w : World) (h : w.cell? ⟨b, 0, none⟩ = some (.bool true)) :
    Calls Try.prog 40 #[.pointer (some ⟨b, 0, none⟩)] w fun e w' => e = .returned (.bool true) ∧ w = w' := by
  have hp := up26
  go_enter Try.func40, Try.ntmps40
  go_wp2_with fail
  go_ret
  exact ⟨rfl, rfl⟩
set_option maxHeartbeats 400000 in
theorem rvalid_nil (w : World) :
    Calls Try.prog 40 #[.pointer none] w fun e w' => e = .returned (.bool false) ∧ w = w' := by
  have hp := up26
  go_enter Try.func40, Try.ntmps40
  go_wp2_with fail
  go_ret
  exact ⟨rfl, rfl⟩
set_option maxHeartbeats 400000 in
theorem rex_t (b : Nat) (i : Int) (n : Nat) (w : World) (h : w.cell? ⟨b, 0, none⟩ = some (.bool true)) (h3 : w.cell? ⟨b, 1, none⟩ = some (.int .i64 (n : Int))) :
    Calls Try.prog 41 #[.pointer (some ⟨b, 0, none⟩), .int .i64 i] w fun e w' => e = .returned (.bool (decide (0 ≤ i ∧ i < n))) ∧ w = w' := by
  by_cases h1 : 0 ≤ i
  · by_cases h2 : i < n
    · have d : decide (0 ≤ i ∧ i < (n : Int)) = true := by simp; omega
      rw [d]
      go_enter Try.func41, Try.ntmps41
      go_wp2_with (go_at_call 40; refine (rvalid_t b _ h).mono ?_; rintro e w' ⟨rfl, rfl⟩)
      go_ret
      exact ⟨rfl, rfl⟩
    · have d : decide (0 ≤ i ∧ i < (n : Int)) = false := by simp; omega
      rw [d]
      go_enter Try.func41, Try.ntmps41
      go_wp2_with (go_at_call 40; refine (rvalid_t b _ h).mono ?_; rintro e w' ⟨rfl, rfl⟩)
      go_ret
      exact ⟨by simp; omega, rfl⟩
  · have d : decide (0 ≤ i ∧ i < (n : Int)) = false := by simp; omega
    rw [d]
    go_enter Try.func41, Try.ntmps41
    go_wp2_with (go_at_call 40; refine (rvalid_t b _ h).mono ?_; rintro e w' ⟨rfl, rfl⟩)
    go_ret
    exact ⟨rfl, rfl⟩
set_option maxHeartbeats 400000 in
theorem rex_nil (i : Int) (w : World) :
    Calls Try.prog 41 #[.pointer none, .int .i64 i] w fun e w' => e = .returned (.bool false) ∧ w = w' := by
  go_enter Try.func41, Try.ntmps41
  go_wp2_with (go_at_call 40; refine (rvalid_nil _).mono ?_; rintro e w' ⟨rfl, rfl⟩)
  go_ret
  exact ⟨rfl, rfl⟩
theorem RMem.c {B : Nat} {w : World} {r : Nat} {vI vC vR : Value} {A : Ar} (h : RMem B w r vI vC vR A) :
    w.cell? ⟨r, 0, none⟩ = some (.bool true) ∧ w.cell? ⟨r, 1, none⟩ = some (.int .i64 (A.cap : Int)) ∧ w.cell? ⟨r, 2, none⟩ = some vI ∧ w.cell? ⟨r, 3, none⟩ = some vC ∧ w.cell? ⟨r, 4, none⟩ = some vR := by
  simp [cell_of_blk h.blk]
theorem used_out {A : Ar} (ok : A.ok) {i : Int} (h : ¬ (0 ≤ i ∧ i < (A.cap : Int))) : A.used i = false ∧ A.times i = 0 := by
  have le := ok.le
  constructor
  · have d : decide (0 ≤ i ∧ i < (A.T.length : Int)) = false := by simp; omega
    unfold Ar.used
    rw [d]; rfl
  · unfold Ar.times
    rw [if_neg (by omega)]
set_option maxHeartbeats 1000000 in
theorem rused_t {B : Nat} {w : World} {r : Nat} {own : List Nat} {A : Ar} (h : RAt B w r own A) (ok : A.ok) (i : Int) :
    Calls Try.prog 32 #[.pointer (some ⟨r, 0, none⟩), .int .i64 i] w fun e w' => e = .returned (.bool (A.used i)) ∧ w = w' := by
  obtain ⟨vI, vC, vR, M, rfl⟩ := h
  obtain ⟨c0, c1, c2, c3, c4⟩ := M.c
  have ht := rex_t r i A.cap w c0 c1
  by_cases hi : 0 ≤ i ∧ i < (A.cap : Int)
  · obtain ⟨k, rfl⟩ : ∃ k : Nat, i = (k : Int) := ⟨i.toNat, by omega⟩
    have hk : k < A.cap := by omega
    rw [show decide (0 ≤ (k : Int) ∧ (k : Int) < (A.cap : Int)) = true by simp; omega] at ht
    obtain ⟨p, c, rfl⟩ := row_slice M.I
    obtain ⟨g, rfl, hc, _, _⟩ := row_cell M.I hk
    rw [outs_get A hk] at hc
    generalize A.used (k : Int) = u at *
    clear M c0 c1 c3 c4 ok hi
    go_enter Try.func32, Try.ntmps32
    go_wp2_with (go_at_call 41; refine ht.mono ?_; rintro e w' ⟨rfl, rfl⟩)
    go_ret
    exact ⟨by simp, rfl⟩
  · rw [show decide (0 ≤ i ∧ i < (A.cap : Int)) = false by simp; omega] at ht
    rw [(used_out ok hi).1]
    clear M c0 c1 c2 c3 c4 ok hi
    go_enter Try.func32, Try.ntmps32
    go_wp2_with (go_at_call 41; refine ht.mono ?_; rintro e w' ⟨rfl, rfl⟩)
    go_ret
    exact ⟨by simp, rfl⟩
theorem rused_nil (i : Int) (w : World) :
    Calls Try.prog 32 #[.pointer none, .int .i64 i] w fun e w' => e = .returned (.bool false) ∧ w = w' := by
  have ht := rex_nil i w
  go_enter Try.func32, Try.ntmps32
  go_wp2_with (go_at_call 41; refine ht.mono ?_; rintro e w' ⟨rfl, rfl⟩)
  go_ret
  exact ⟨by simp, rfl⟩
theorem cnts_get (A : Ar) {n i : Nat} (hi : i < n) : (cnts A n)[i]? = some (.int .u64 (A.times (i : Int))) := by simp [cnts, hi]
set_option maxHeartbeats 1000000 in
theorem rtimes_t {B : Nat} {w : World} {r : Nat} {own : List Nat} {A : Ar} (h : RAt B w r own A) (ok : A.ok) (i : Int) :
    Calls Try.prog 33 #[.pointer (some ⟨r, 0, none⟩), .int .i64 i] w fun e w' => e = .returned (.int .u64 (A.times i)) ∧ w = w' := by
  obtain ⟨vI, vC, vR, M, rfl⟩ := h
  obtain ⟨c0, c1, c2, c3, c4⟩ := M.c
  have ht := rex_t r i A.cap w c0 c1
  by_cases hi : 0 ≤ i ∧ i < (A.cap : Int)
  · obtain ⟨k, rfl⟩ : ∃ k : Nat, i = (k : Int) := ⟨i.toNat, by omega⟩
    have hk : k < A.cap := by omega
    rw [show decide (0 ≤ (k : Int) ∧ (k : Int) < (A.cap : Int)) = true by simp; omega] at ht
    obtain ⟨p, c, rfl⟩ := row_slice M.C
    obtain ⟨g, rfl, hc, _, _⟩ := row_cell M.C hk
    rw [cnts_get A hk] at hc
    generalize A.times (k : Int) = u at *
    clear M c0 c1 c2 c4 ok hi
    go_enter Try.func33, Try.ntmps33
    go_wp2_with (go_at_call 41; refine ht.mono ?_; rintro e w' ⟨rfl, rfl⟩)
    go_ret
    exact ⟨rfl, rfl⟩
  · rw [show decide (0 ≤ i ∧ i < (A.cap : Int)) = false by simp; omega] at ht
    rw [(used_out ok hi).2]
    clear M c0 c1 c2 c3 c4 ok hi
    go_enter Try.func33, Try.ntmps33
    go_wp2_with (go_at_call 41; refine ht.mono ?_; rintro e w' ⟨rfl, rfl⟩)
    go_ret
    exact ⟨rfl, rfl⟩
theorem rtimes_nil (i : Int) (w : World) :
    Calls Try.prog 33 #[.pointer none, .int .i64 i] w fun e w' => e = .returned (.int .u64 0) ∧ w = w' := by
  have ht := rex_nil i w
  go_enter Try.func33, Try.ntmps33
  go_wp2_with (go_at_call 41; refine ht.mono ?_; rintro e w' ⟨rfl, rfl⟩)
  go_ret
  exact ⟨rfl, rfl⟩
theorem rcap_t {B : Nat} {w : World} {r : Nat} {own : List Nat} {A : Ar} (h : RAt B w r own A) :
    Calls Try.prog 35 #[.pointer (some ⟨r, 0, none⟩)] w fun e w' => e = .returned (.int .i64 (A.cap : Int)) ∧ w = w' := by
  obtain ⟨vI, vC, vR, M, rfl⟩ := h
  obtain ⟨c0, c1, c2, c3, c4⟩ := M.c
  have v0 := rvalid_t r w c0
  clear M c0 c2 c3 c4
  go_enter Try.func35, Try.ntmps35
  go_wp2_with (go_at_call 40; refine v0.mono ?_; rintro e w' ⟨rfl, rfl⟩)
  go_ret
  exact ⟨rfl, rfl⟩
theorem rcap_nil (w : World) :
    Calls Try.prog 35 #[.pointer none] w fun e w' => e = .returned (.int .i64 0) ∧ w = w' := by
  have v0 := rvalid_nil w
  go_enter Try.func35, Try.ntmps35
  go_wp2_with (go_at_call 40; refine v0.mono ?_; rintro e w' ⟨rfl, rfl⟩)
  go_ret
  exact ⟨rfl, rfl⟩
theorem upto_cap {A : Ar} (ok : A.ok) : A.upto A.cap = A.list := by
  have h : ∀ d, A.upto (A.T.length + d) = A.upto A.T.length := by
    intro d
    induction d with
    | zero => rfl
    | succ d ih =>
      rw [← Nat.add_assoc, Ar.upto_succ, ih, A.used_false_of (.inr (by omega))]
      simp
  have := h (A.cap - A.T.length)
  rw [show A.T.length + (A.cap - A.T.length) = A.cap by have := ok.le; omega] at this
  exact this

set_option maxRecDepth 100000 in
set_option maxHeartbeats 4000000 in
theorem rlist_t {B : Nat} {w : World} {r : Nat} {own : List Nat} {A : Ar} (h : RAt B w r own A) (ok : A.ok) :
    Calls Try.prog 36 #[.pointer (some ⟨r, 0, none⟩)] w fun e w' => ∃ v, e = .returned v ∧ w'.ownsRow w.heap.size 3 1 v A.list.length (ints A.list) ∧ Kp [] w w' := by
  have H := hide h
  have OK := hide ok
  have v0 := rvalid_t r w (by obtain ⟨vI, vC, vR, M, rfl⟩ := h; exact M.c.1)
  have HL := hide ok.cap
  clear h ok
  go_enter Try.func36, Try.ntmps36
  go_wp2_with (first | (go_at_call 40; refine v0.mono ?_; rintro e w' ⟨rfl, rfl⟩))
  go_loopw [3, 4] (fun l i wr => ∃ k : Nat, i = .int .i64 (k : Int) ∧ Hid (k ≤ A.cap) ∧ Hid (wr.ownsRow w.heap.size 3 1 l (A.upto k).length (ints (A.upto k))) ∧ Hid (Kp [] w wr)) (fun _ i _ => A.cap - (intOf i).toNat)
  case atStart => exact ⟨0, rfl, Nat.zero_le _, World.ownsRow_nil _ _ _ _, Kp.refl _ _⟩
  case round =>
    obtain ⟨k, rfl, hk, hO, hK⟩ := hrel
    obtain ⟨vI, vC, vR, M, _⟩ := H.out.keep hK.out (by simp)
    obtain ⟨c0, c1, c2, c3, c4⟩ := M.c
    by_cases hlt : k < A.cap
    · have dk : decide (k < A.cap) = true := by simpa using hlt
      obtain ⟨p, c, rfl⟩ := row_slice M.I
      obtain ⟨g, rfl, hc, _, _⟩ := row_cell M.I hlt
      rw [outs_get A hlt] at hc
      have us := hide (A.upto_succ k)
      have bl := hide (A.upto_len k)
      have hlt2 := hide hlt
      have ww : IntKind.i64.wrap ((k : Int) + 1) = (k : Int) + 1 := by have := HL.out; rw [IntKind.wrap_i64]; omega
      clear M c0 c3 c4 v0
      cases hu : A.used k with
      | true =>
        rw [hu] at hc
        have HU := hide hu
        clear hu
        obtain ⟨i0, hi, hz0, hz1, hz2⟩ := info_parts info3
        have HI := hide (And.intro hi (And.intro hz0 (And.intro hz1 hz2)))
        clear hi hz0 hz1 hz2
        go_wp2_with (at_builtin; refine wpList_append_own _ rfl _ _ 51 rfl w.heap.size 3 i0 (.int .i64 0) 1 8 Try.underlying51 HI.out.1 HI.out.2.1 HI.out.2.2.1 HI.out.2.2.2 rfl (by decide) u3 (A.upto k).length (ints (A.upto k)) rfl (hO.out.alloc _) ⟨wr.heap.size, 0, none⟩ 1 1 [.int .i64 (k : Int)] rfl rfl (one_src wr _ 3) (by simp [Value.oneCell']) (by have := bl.out; have := HL.out; have := hlt2.out; unfold maxLen; omega) (by have := bl.out; have := HL.out; have := hlt2.out; omega) (by have := hK.out.size; simp; omega) ?_)
        intro v' w' ho hg hn
        have HO := hide ho
        have HK : Hid (Kp [] w w') := ((hK.out.trans (Kp.of_below ((Below.refl _ _).alloc (Nat.le_refl _) _) : Kp [] wr _) (by simp)).grown hg (fun x hx => (hO.out.lt x hx).1))
        clear ho hg hn
        go_wp2_with fail
        go_roundw
        case rel =>
          refine ⟨k + 1, by go_num, by have := hlt2.out; show k + 1 ≤ A.cap; omega, ?_, HK⟩
          show w'.ownsRow _ _ _ _ _ _
          rw [us.out, if_pos HU.out, List.length_append]
          unfold ints
          rw [List.map_append]
          exact HO.out
        case measure => have := hlt2.out; simp [intOf]; omega
      | false =>
        rw [hu] at hc
        have HU := hide hu
        clear hu
        go_wp2_with fail
        go_roundw
        case rel =>
          refine ⟨k + 1, by go_num, by have := hlt2.out; show k + 1 ≤ A.cap; omega, ?_, hK⟩
          show wr.ownsRow _ _ _ _ _ _
          rw [us.out, HU.out]
          simp only [Bool.false_eq_true, if_false, List.append_nil]
          exact hO.out
        case measure => have := hlt2.out; simp [intOf]; omega
    · have dk : decide (k < A.cap) = false := by simp; omega
      have he : k = A.cap := by have := hk.out; omega
      have EK := hide he
      clear hlt M c0 c2 c3 c4 he
      go_wp2_with fail
      go_ret
      have ho := hO.out
      rw [EK.out, upto_cap OK.out] at ho
      exact ⟨_, rfl, ho, hK.out⟩
theorem rlist_nil (w : World) :
    Calls Try.prog 36 #[.pointer none] w fun e w' => e = .returned (.slice none 0 0) ∧ w = w' := by
  have v0 := rvalid_nil w
  go_enter Try.func36, Try.ntmps36
  go_wp2_with (go_at_call 40; refine v0.mono ?_; rintro e w' ⟨rfl, rfl⟩)
  go_ret
  exact ⟨rfl, rfl⟩
theorem rlen_t {B : Nat} {w : World} {r : Nat} {own : List Nat} {A : Ar} (h : RAt B w r own A) (ok : A.ok) :
    Calls Try.prog 34 #[.pointer (some ⟨r, 0, none⟩)] w fun e w' => e = .returned (.int .i64 (A.len : Int)) ∧ Kp [] w w' := by
  have ht := rlist_t h ok
  have LE := hide (list_len ok)
  clear h ok
  go_enter Try.func34, Try.ntmps34
  go_wp2_with fail
  refine ht.mono ?_
  rintro e w1 ⟨v, rfl, o, k⟩
  obtain ⟨p, c, rfl⟩ := row_slice o
  have K := hide k
  clear o k ht
  rw [LE.out]
  go_wp2_with fail
  go_ret
  exact ⟨rfl, K.out⟩
theorem rlen_nil (w : World) :
    Calls Try.prog 34 #[.pointer none] w fun e w' => e = .returned (.int .i64 0) ∧ w = w' := by
  have v0 := rlist_nil w
  go_enter Try.func34, Try.ntmps34
  go_wp2_with (go_at_call 36; refine v0.mono ?_; rintro e w' ⟨rfl, rfl⟩)
  go_ret
  exact ⟨rfl, rfl⟩
end Go.Proofs.Ytflblojmjdlhiaa
