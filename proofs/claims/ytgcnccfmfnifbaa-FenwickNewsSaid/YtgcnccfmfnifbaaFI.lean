/- Add: what is refused. -/
import Derived.Test.YtgcnccfmfnifbaaFH
import Derived.Deep.RegionHeld3
import Derived.BigQuiet
set_option linter.unusedVariables false
set_option linter.unusedSimpArgs false
namespace Go.Proofs.Ytgcnccfmfnifbaa
open Go.RowKit

/-- the two boxes of Add -/
def bxs (w : World) (b : Nat) (d : Int) : World := (w.alloc (.cells #[.pointer (some ⟨b, 0, none⟩)] 24)).alloc (.cells #[.int .i64 d] 2)
theorem bxs_kp (w : World) (b : Nat) (d : Int) : Kp [] w (bxs w b d) := (Kp.alloc _ _).allocK _
theorem bxs_at (w : World) (b : Nat) (d : Int) : (bxs w b d).heap[w.heap.size]? = some (.cells #[.pointer (some ⟨b, 0, none⟩)] 24 (0, 0)) ∧ (bxs w b d).heap[w.heap.size + 1]? = some (.cells #[.int .i64 d] 2 (0, 0)) ∧ (bxs w b d).heap.size = w.heap.size + 2 := by
  refine ⟨(Kp.alloc _ _).blk (heap_alloc_new _ _) (by simp), ?_, by simp [bxs]⟩
  have := heap_alloc_new (w.alloc (.cells #[.pointer (some ⟨b, 0, none⟩)] 24)) (.cells #[.int .i64 d] 2)
  rw [World.size_alloc] at this
  exact this
set_option maxRecDepth 100000 in
set_option maxHeartbeats 4000000 in
theorem add_range {B : Nat} {w : World} {b n : Nat} {own : List Nat} {C : Nat → Int} (h : FAt B w b n own C) (i d : Int) (hi : ¬ (0 ≤ i ∧ i < (n : Int))) :
    Calls Try.prog 16 #[.pointer (some ⟨b, 0, none⟩), .int .i64 i, .int .i64 d] w fun e w' => e = .returned (.int .i64 3) ∧ Kp [] w w' := by
  have hp := upC'
  have h' := h.keep0 (bxs_kp w b d)
  obtain ⟨⟨v, M, ho⟩, _⟩ := h'
  obtain ⟨p, c, rfl⟩ := row_slice M.row
  have VM := hide (valid_m M)
  have K0 := hide (bxs_kp w b d)
  obtain ⟨b0, b1, hsz⟩ := bxs_at w b d
  have c0 : (bxs w b d).cell? ⟨w.heap.size, 0, none⟩ = some (.pointer (some ⟨b, 0, none⟩)) := by simp [cell_of_blk b0]
  have c2 : (bxs w b d).cell? ⟨b, 2, none⟩ = some (.slice p n c) := by simp [cell_of_blk M.blk]
  clear b0 b1 hsz M ho h
  by_cases h1 : i < 0
  · have d1 : decide (i < 0) = true := by simpa using h1
    clear hi h1
    go_enter Try.func16, Try.ntmps16
    go_wp2_with fail
    refine VM.out.mono ?_
    rintro e w' ⟨rfl, rfl⟩
    go_wp2_with fail
    go_ret
    exact ⟨rfl, K0.out⟩
  · have d1 : decide (i < 0) = false := by simpa using h1
    have d2 : decide ((n : Int) ≤ i) = true := by simp; omega
    clear hi h1
    go_enter Try.func16, Try.ntmps16
    go_wp2_with fail
    refine VM.out.mono ?_
    rintro e w' ⟨rfl, rfl⟩
    have e2 : ((w.alloc (.cells #[.pointer (some ⟨b, 0, none⟩)] 24)).alloc (.cells #[.int .i64 d] 2)).cell? ⟨b, 2, none⟩ = some (.slice p n c) := c2
    go_wp2_with fail
    go_ret
    exact ⟨rfl, K0.out⟩
theorem gv_neg (z : Int) (h : z < 0) (l : -9223372036854775808 ≤ z) : decide (gv z < 0) = true := by rw [gv_ok (by unfold I64; omega)]; simpa using h
theorem gv_pos (z : Int) (h : 0 ≤ z) : decide (gv z < 0) = false := by
  by_cases f : I64 z
  · rw [gv_ok f]; simp; omega
  · rw [gv_no f]; rfl
set_option maxRecDepth 100000 in
set_option maxHeartbeats 4000000 in
theorem add_arg {B : Nat} {w : World} {b n : Nat} {own : List Nat} {C : Nat → Int} (h : FAt B w b n own C) (i : Nat) (d : Int) (hd : I64 d) (hi : i < n) (hx : C i + d < 0) :
    Calls Try.prog 16 #[.pointer (some ⟨b, 0, none⟩), .int .i64 (i : Int), .int .i64 d] w fun e w' => e = .returned (.int .i64 2) ∧ Kp [] w w' := by
  have hp := upC'
  have h' := h.keep0 (bxs_kp w b d)
  have xb : 0 ≤ C i ∧ C i ≤ 9223372036854775807 := by
    have a1 := h.nn i
    have a2 := h.sum_bd (show i + 1 ≤ n by omega)
    have a3 := h.sum_bd (show i ≤ n by omega)
    rw [sumS] at a2
    omega
  have GT := hide (fun W (kW : Kp [] (bxs w b d) W) => get_t (h'.keep0 kW) (i : Int))
  have eg : getV C n (i : Int) = C i := by unfold getV; rw [if_pos (by omega), Int.toNat_natCast]
  rw [eg] at GT
  have AD := hide (fun W => add_any (C i) d W (by unfold I64; omega) hd)
  have gn := gv_neg (C i + d) hx (by unfold I64 at hd; omega)
  generalize C i = x at *
  generalize gv (x + d) = y at *
  generalize ge (x + d) = z at *
  obtain ⟨⟨v, M, ho⟩, _⟩ := h'
  obtain ⟨p, c, rfl⟩ := row_slice M.row
  have VM := hide (valid_m M)
  have K0 := hide (bxs_kp w b d)
  obtain ⟨b0, b1, hsz⟩ := bxs_at w b d
  have HB := hide (And.intro b0 b1)
  have c2 : (bxs w b d).cell? ⟨b, 2, none⟩ = some (.slice p n c) := by simp [cell_of_blk M.blk]
  have d1 : decide ((i : Int) < 0) = false := by simp
  have d2 : decide ((n : Int) ≤ (i : Int)) = false := by simp; omega
  have d2' : decide (n ≤ i) = false := by simp; omega
  have kd : Kp [] (bxs w b d) (bxs w b d).drew := Kp.drewN [] _ 1
  have S0 : (bxs w b d).drew.cell? ⟨w.heap.size, 0, none⟩ = some (.pointer (some ⟨b, 0, none⟩)) ∧ (bxs w b d).drew.cell? ⟨w.heap.size + 1, 0, none⟩ = some (.int .i64 d) := ⟨by simp [cell_of_blk (kd.blk b0 (by simp))], by simp [cell_of_blk (kd.blk b1 (by simp))]⟩
  have G1 := hide (GT.out _ kd)
  have c0 : (bxs w b d).cell? ⟨w.heap.size, 0, none⟩ = some (.pointer (some ⟨b, 0, none⟩)) := by simp [cell_of_blk b0]
  clear b0 b1 hsz M ho h eg xb hx hi GT
  go_enter Try.func16, Try.ntmps16
  go_wp2_with fail
  refine VM.out.mono ?_
  rintro e w' ⟨rfl, rfl⟩
  generalize bxs w b d = W at *
  go_wp2_with fail
  go_region_held3 (fun w' => w'.cell? ⟨w.heap.size, 0, none⟩ = some (.pointer (some ⟨b, 0, none⟩)) ∧ w'.cell? ⟨w.heap.size + 1, 0, none⟩ = some (.int .i64 d)) (first | with_reducible assumption)
    (first
      | ((with_reducible (refine G1.out.mono ?_)); rintro e w1 ⟨rfl, k1d⟩; have k1 : Kp [] W w1 := kd.trans0 k1d; have S1 : w1.cell? ⟨w.heap.size, 0, none⟩ = some (.pointer (some ⟨b, 0, none⟩)) ∧ w1.cell? ⟨w.heap.size + 1, 0, none⟩ = some (.int .i64 d) := ⟨(by simp [cell_of_blk (k1.blk HB.out.1 (by simp))]), (by simp [cell_of_blk (k1.blk HB.out.2 (by simp))])⟩; clear k1d)
      | ((with_reducible (refine (AD.out _).mono ?_)); rintro e w2 ⟨rfl, rfl⟩))
  have K1 := hide (K0.out.trans0 k1)
  clear k1 S0 S1 kd c0 c2
  go_wp2_with fail
  go_ret
  exact ⟨rfl, K1.out⟩
end Go.Proofs.Ytgcnccfmfnifbaa
