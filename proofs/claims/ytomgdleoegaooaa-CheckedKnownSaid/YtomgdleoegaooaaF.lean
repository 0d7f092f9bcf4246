import Derived.Test.YtomgdleoegaooaaE
set_option linter.unusedVariables false
set_option linter.unusedSimpArgs false
namespace Go.Proofs.Ytomgdleoegaooaa
open Go.RowKit

def lsum : List Int → Int
  | [] => 0
  | x :: r => x + lsum r
theorem lsum_append (l m : List Int) : lsum (l ++ m) = lsum l + lsum m := by
  induction l with
  | nil => simp [lsum]
  | cons x r ih => simp only [List.cons_append, lsum, ih]; omega
theorem lsum_snoc (l : List Int) (k : Nat) (h : k < l.length) : lsum (l.take (k + 1)) = lsum (l.take k) + l.getD k 0 := by
  rw [List.take_succ_eq_append_getElem h, lsum_append]
  simp [lsum, List.getD, h]
def allI (l : List Int) : Prop := ∀ x ∈ l, I64 x
theorem allI_getD {l : List Int} (h : allI l) (k : Nat) (hk : k < l.length) : I64 (l.getD k 0) := by
  have : l.getD k 0 = l[k] := by simp [List.getD, hk]
  rw [this]; exact h _ (List.getElem_mem hk)
theorem lsum_bd {l : List Int} (h : allI l) : -(9223372036854775808 * (l.length : Int)) ≤ lsum l ∧ lsum l ≤ 9223372036854775808 * (l.length : Int) := by
  induction l with
  | nil => simp [lsum]
  | cons x r ih =>
    have hx := h x (by simp)
    have hr := ih (fun y hy => h y (by simp [hy]))
    simp only [lsum, List.length_cons]; unfold I64 at hx; omega
theorem lsum_w128 {l : List Int} (h : allI l) (hl : l.length ≤ 1099511627776) : W128 (lsum l) := by
  have := lsum_bd h; unfold W128; omega

/-- a slice of numbers that lie in memory (the nil one, too) -/
def Ints (w : World) (a : Option Addr) (zs : List Int) : Prop :=
  zs = [] ∨ ∃ b off, a = some ⟨b, off, none⟩ ∧ b < w.heap.size ∧ ∀ i, i < zs.length → w.cell? ⟨b, off + i, none⟩ = some (.int .i64 (zs.getD i 0))

theorem Ints.below {w w' : World} {a : Option Addr} {zs : List Int} (h : Ints w a zs) {B : Nat} (hb : Below B w w') (hB : w.heap.size ≤ B) : Ints w' a zs := by
  rcases h with h | ⟨b, off, rfl, hlt, hc⟩
  · exact .inl h
  · exact .inr ⟨b, off, rfl, by have := hb.size; omega, fun i hi => by rw [(bcell hb).1 _ _ (by omega)]; exact hc i hi⟩

/-- the running total, in a block of the call's own -/
def Tot (w : World) (p : Int) (wr : World) : Prop :=
  wr.cell? ⟨w.heap.size, 0, none⟩ = some (.int .u64 (whi p)) ∧ wr.cell? ⟨w.heap.size, 1, none⟩ = some (.int .u64 (wlo p)) ∧ wr.frozen? ⟨w.heap.size, 0, none⟩ = false ∧ wr.frozen? ⟨w.heap.size, 1, none⟩ = false ∧ Below w.heap.size w wr ∧ w.heap.size < wr.heap.size
theorem tot_start (w : World) : Tot w 0 (w.alloc (Obj.cells #[Value.int IntKind.u64 0, Value.int IntKind.u64 0] 51)) :=
  ⟨by simp [go_sem, whi], by simp [go_sem, wlo], by simp [go_sem], by simp [go_sem], (Below.refl _ _).alloc (Nat.le_refl _) _, by simp⟩
theorem tot_step {w wr w1 : World} {p q : Int} (h : Tot w p wr) (b : Below wr.heap.size wr w1) :
    Tot w q ((w1.setCell ⟨w.heap.size, 0, none⟩ (.int .u64 (whi q))).setCell ⟨w.heap.size, 1, none⟩ (.int .u64 (wlo q))) := by
  obtain ⟨c0, c1, f0, f1, bb, hs⟩ := h
  have k := (bcell b).1
  have g := (bcell b).2
  have d0 : w1.cell? ⟨w.heap.size, 0, none⟩ = some (.int .u64 (whi p)) := by rw [k _ _ hs, c0]
  have d1 : w1.cell? ⟨w.heap.size, 1, none⟩ = some (.int .u64 (wlo p)) := by rw [k _ _ hs, c1]
  refine ⟨by simp [go_sem, d0, d1], by simp [go_sem, d0, d1], by simp [go_sem, g _ _ hs, f0], by simp [go_sem, g _ _ hs, f1], ((bb.trans (b.mono (by omega))).setCell (Nat.le_refl _) _).setCell (Nat.le_refl _) _, ?_⟩
  have := b.size
  simp [World.setCell]; omega

set_option maxHeartbeats 1000000 in
theorem sum_ok (a : Option Addr) (zs : List Int) (c : Nat) (w : World) (hz : Ints w a zs) (hi : allI zs) (hl : zs.length ≤ 1099511627776) (hs : I64 (lsum zs)) :
    Calls Try.prog 20 #[.slice a zs.length c] w fun e w' => e = .returned (.tuple #[.int .i64 (lsum zs), .int .i64 0]) ∧ Below w.heap.size w w' := by
  have HZ := hide hz
  have HI := hide hi
  have HS := hide hs
  clear hz hi hs
  go_enter Try.func20, Try.ntmps20
  go_wp2_with fail
  go_loopw [9] (fun i wr => ∃ k : Nat, k ≤ zs.length ∧ i = .int .i64 k ∧ Hid (Tot w (lsum (zs.take k)) wr)) (fun i _ => zs.length - (intOf i).toNat)
  case atStart => exact ⟨0, Nat.zero_le _, rfl, tot_start w⟩
  case round =>
    obtain ⟨k, hk, rfl, ht⟩ := hrel
    obtain ⟨c0, c1, f0, f1, bb, hsz⟩ := ht.out
    by_cases hlt : k < zs.length
    · have hn := allI_getD HI.out k hlt
      have hsn := lsum_snoc zs k hlt
      have hcell : ∃ b off, a = some ⟨b, off, none⟩ ∧ wr.cell? ⟨b, off + k, none⟩ = some (.int .i64 (zs.getD k 0)) := by
        rcases HZ.out with h | ⟨b, off, h1, h2, h3⟩
        · rw [h] at hlt; simp at hlt
        · exact ⟨b, off, h1, by rw [(bcell bb).1 _ _ h2]; exact h3 k hlt⟩
      have HSN := hide hsn
      obtain ⟨b, off, rfl, hc⟩ := hcell
      clear hsn
      generalize zs.getD k 0 = x at *
      go_wp2_with fail
      refine (plus _ x hn _).mono ?_
      rintro e w1 ⟨rfl, b1⟩
      rw [← HSN.out]
      have tt := hide (tot_step (q := lsum (zs.take (k + 1))) ht.out b1)
      have d0 : w1.cell? ⟨w.heap.size, 0, none⟩ = some (.int .u64 (whi (lsum (zs.take k)))) := by rw [(bcell b1).1 _ _ hsz, c0]
      have d1 : w1.cell? ⟨w.heap.size, 1, none⟩ = some (.int .u64 (wlo (lsum (zs.take k)))) := by rw [(bcell b1).1 _ _ hsz, c1]
      have g0 : w1.frozen? ⟨w.heap.size, 0, none⟩ = false := by rw [(bcell b1).2 _ _ hsz, f0]
      have g1 : w1.frozen? ⟨w.heap.size, 1, none⟩ = false := by rw [(bcell b1).2 _ _ hsz, f1]
      go_wp2
      go_roundw
      case rel => exact ⟨k + 1, by omega, by go_num, tt⟩
      case measure => simp [intOf]; omega
    · have hke : k = zs.length := by omega
      have hN := hide (narrow_ok (lsum zs) HS.out)
      have HT : Hid (zs.take k = zs) := by unfold Hid; rw [hke]; simp
      rw [HT.out] at c0 c1
      clear hke
      go_wp2_with fail
      refine (hN.out _).mono ?_
      rintro e w1 ⟨rfl, b1⟩
      go_wp2
      go_ret2
      exact ⟨rfl, bb.trans (b1.mono (by omega))⟩
set_option maxHeartbeats 1000000 in
theorem sum_no (a : Option Addr) (zs : List Int) (c : Nat) (w : World) (hz : Ints w a zs) (hi : allI zs) (hl : zs.length ≤ 1099511627776) (hs : ¬ I64 (lsum zs)) :
    Calls Try.prog 20 #[.slice a zs.length c] w fun e w' => e = .returned (.tuple #[.int .i64 0, .int .i64 7]) ∧ Below w.heap.size w w' := by
  have HZ := hide hz
  have HI := hide hi
  have HS := hide hs
  clear hz hi hs
  go_enter Try.func20, Try.ntmps20
  go_wp2_with fail
  go_loopw [9] (fun i wr => ∃ k : Nat, k ≤ zs.length ∧ i = .int .i64 k ∧ Hid (Tot w (lsum (zs.take k)) wr)) (fun i _ => zs.length - (intOf i).toNat)
  case atStart => exact ⟨0, Nat.zero_le _, rfl, tot_start w⟩
  case round =>
    obtain ⟨k, hk, rfl, ht⟩ := hrel
    obtain ⟨c0, c1, f0, f1, bb, hsz⟩ := ht.out
    by_cases hlt : k < zs.length
    · have hn := allI_getD HI.out k hlt
      have hsn := lsum_snoc zs k hlt
      have hcell : ∃ b off, a = some ⟨b, off, none⟩ ∧ wr.cell? ⟨b, off + k, none⟩ = some (.int .i64 (zs.getD k 0)) := by
        rcases HZ.out with h | ⟨b, off, h1, h2, h3⟩
        · rw [h] at hlt; simp at hlt
        · exact ⟨b, off, h1, by rw [(bcell bb).1 _ _ h2]; exact h3 k hlt⟩
      have HSN := hide hsn
      obtain ⟨b, off, rfl, hc⟩ := hcell
      clear hsn
      generalize zs.getD k 0 = x at *
      go_wp2_with fail
      refine (plus _ x hn _).mono ?_
      rintro e w1 ⟨rfl, b1⟩
      rw [← HSN.out]
      have tt := hide (tot_step (q := lsum (zs.take (k + 1))) ht.out b1)
      have d0 : w1.cell? ⟨w.heap.size, 0, none⟩ = some (.int .u64 (whi (lsum (zs.take k)))) := by rw [(bcell b1).1 _ _ hsz, c0]
      have d1 : w1.cell? ⟨w.heap.size, 1, none⟩ = some (.int .u64 (wlo (lsum (zs.take k)))) := by rw [(bcell b1).1 _ _ hsz, c1]
      have g0 : w1.frozen? ⟨w.heap.size, 0, none⟩ = false := by rw [(bcell b1).2 _ _ hsz, f0]
      have g1 : w1.frozen? ⟨w.heap.size, 1, none⟩ = false := by rw [(bcell b1).2 _ _ hsz, f1]
      go_wp2
      go_roundw
      case rel => exact ⟨k + 1, by omega, by go_num, tt⟩
      case measure => simp [intOf]; omega
    · have hke : k = zs.length := by omega
      have hN := hide (narrow_no (lsum zs) (lsum_w128 HI.out hl) HS.out)
      have HT : Hid (zs.take k = zs) := by unfold Hid; rw [hke]; simp
      rw [HT.out] at c0 c1
      clear hke
      go_wp2_with fail
      refine (hN.out _).mono ?_
      rintro e w1 ⟨rfl, b1⟩
      go_wp2
      go_ret2
      exact ⟨rfl, bb.trans (b1.mono (by omega))⟩
end Go.Proofs.Ytomgdleoegaooaa
