/- The specification's grid; square and triangular lattices. -/
import Derived.Test.YthgeccmphnppgaaF
set_option linter.unusedVariables false
set_option linter.unusedSimpArgs false
namespace Go.Proofs.Ythgeccmphnppgaa
open Go.RowKit

def dsq : List (Nat × Nat) := [(1, 0), (0, 1)]
def dtri : List (Nat × Nat) := [(1, 0), (0, 1), (1, 1)]
def dOf (d : Bool) : List (Nat × Nat) := if d = true then dtri else dsq
theorem next_s (a z : Nat) (c : Bool) (h1 : a ≤ 4096) (h3 : z ≤ 4096) (w : World) : Calls Try.prog 41 #[.int .i64 (a : Int), .int .i64 (z : Int), .bool c] w fun e w' => e = .returned (.int .i64 (nxt a z c)) ∧ w = w' :=
  (next_t a z c h1 h3 w).mono fun _ _ ⟨h, k⟩ => ⟨h, k.symm⟩
theorem edges_at {w h k x1 y1 : Nat} {wx wy bx b1 : Bool} (hw : 1 ≤ w) (hk : k < w * h) (ex : ahd (k % w) 1 w wx = (x1, bx)) (ey : ahd (k / w) 1 h wy = (y1, b1)) (d : Bool) :
    (dOf d).flatMap (edgeAt w h wx wy k) = (if bx = true then [((k : Int), ((k / w : Nat) : Int) * (w : Int) + (x1 : Int), 0)] else []) ++ ((if b1 = true then [((k : Int), (y1 : Int) * (w : Int) + ((k % w : Nat) : Int), 0)] else []) ++ (if d = true ∧ bx = true ∧ b1 = true then [((k : Int), (y1 : Int) * (w : Int) + (x1 : Int), 0)] else [])) := by
  have hr : k % w < w := Nat.mod_lt _ hw
  have hq : k / w < h := by rw [Nat.div_lt_iff_lt_mul hw]; rw [Nat.mul_comm h w]; exact hk
  have e0 : ahd (k % w) 0 w wx = (k % w, true) := by unfold ahd; rw [if_pos (by omega)]; rfl
  have e1 : ahd (k / w) 0 h wy = (k / w, true) := by unfold ahd; rw [if_pos (by omega)]; rfl
  have a1 : edgeAt w h wx wy k (1, 0) = if bx = true then [((k : Int), ((k / w : Nat) : Int) * (w : Int) + (x1 : Int), 0)] else [] := by
    unfold edgeAt; simp only [ex, e1, Bool.and_true]
  have a2 : edgeAt w h wx wy k (0, 1) = if b1 = true then [((k : Int), (y1 : Int) * (w : Int) + ((k % w : Nat) : Int), 0)] else [] := by
    unfold edgeAt; simp only [ey, e0, Bool.true_and]
  have a3 : edgeAt w h wx wy k (1, 1) = if bx = true ∧ b1 = true then [((k : Int), (y1 : Int) * (w : Int) + (x1 : Int), 0)] else [] := by
    unfold edgeAt; simp only [ex, ey, Bool.and_eq_true]
  cases d
  · simp only [dOf, dsq, List.flatMap_cons, List.flatMap_nil, a1, a2, Bool.false_eq_true, if_false, false_and, List.append_nil]
  · simp only [dOf, dtri, List.flatMap_cons, List.flatMap_nil, a1, a2, a3, if_true, true_and, List.append_nil]
theorem dOf_ok (d : Bool) : (dOf d).length ≤ 3 ∧ ∀ x ∈ dOf d, x.1 ≤ 1 ∧ x.2 ≤ 1 := by
  cases d <;> exact ⟨by decide, by decide⟩
set_option maxRecDepth 100000 in
set_option maxHeartbeats 8000000 in
theorem sgrid_no (w h : Int) (wx wy d : Bool) (g : ¬ gridP w h) (W : World) :
    Calls Try.prog 34 #[.int .i64 w, .int .i64 h, .bool wx, .bool wy, .bool d] W fun e w' => e = .returned (.tuple #[.int .i64 0, .slice none 0 0, .int .i64 2]) ∧ W = w' := by
  have G := fun W' => Grid_n w h g W'
  clear g
  go_enter Try.func34, Try.ntmps34
  go_wp2_with (go_at_call 36; refine (G _).mono ?_; rintro e w' ⟨rfl, rfl⟩)
  go_ret3
  exact ⟨rfl, rfl⟩
set_option maxRecDepth 100000 in
set_option maxHeartbeats 20000000 in
theorem sgrid_yes (w h : Nat) (wx wy d : Bool) (g : gridP w h) (W : World) :
    Calls Try.prog 34 #[.int .i64 (w : Int), .int .i64 (h : Int), .bool wx, .bool wy, .bool d] W (GRes ((w * h : Nat), 0, gE w h wx wy (dOf d) (w * h)) W) := by
  have G := fun W' => Grid_y w h g W'
  have hw : 1 ≤ w := by have := g.1; omega
  have hh : 1 ≤ h := by have := g.2.1; omega
  have hp : w * h ≤ 4096 := by have := g.2.2; rw [← Int.natCast_mul] at this; omega
  have bw : w ≤ 4096 := Nat.le_trans (Nat.le_mul_of_pos_right w hh) hp
  have bh : h ≤ 4096 := Nat.le_trans (Nat.le_mul_of_pos_left h hw) hp
  obtain ⟨m, hm⟩ : ∃ m, m = w * h := ⟨_, rfl⟩
  have mulc : (w : Int) * (h : Int) = (m : Int) := by rw [hm, Int.natCast_mul]
  have wmm : IntKind.i64.wrap (m : Int) = (m : Int) := wrapN (by omega)
  have hw1 : (1 : Int) ≤ (w : Int) := by omega
  have hwn : w ≠ 0 := by omega
  have bd50 := build50
  have HG : Hid (∀ e w', GRes ((m : Nat), 0, gE w h wx wy (dOf d) m) W e w' → GRes ((w * h : Nat), 0, gE w h wx wy (dOf d) (w * h)) W e w') := by rw [hm]; exact fun _ _ h => h
  refine Calls.mono (P := Try.prog) ?_ (fun e w' hh => HG.out e w' hh)
  have HM := hide hm
  have HP := hide hp
  have HWH := hide (And.intro hw (And.intro bw (And.intro bh hh)))
  clear g hh hp hm HG bw bh hw
  go_enter Try.func34, Try.ntmps34
  go_wp2_with (go_at_call 36; refine (G _).mono ?_; rintro e w' ⟨rfl, rfl⟩)
  clear G
  go_loopw [13, 14] (fun v x wr => ∃ k : Nat, k ≤ m ∧ x = .int .i64 (k : Int) ∧ Hid (wr.ownsRow W.heap.size 50 3 v (gE w h wx wy (dOf d) k).length (ecs (gE w h wx wy (dOf d) k))) ∧ Hid (Kp [] W wr)) (fun _ x _ => m - (intOf x).toNat)
  case atStart => exact ⟨0, by omega, rfl, World.ownsRow_nil _ _ _ _, Kp.refl _ _⟩
  case round =>
    obtain ⟨k, hk, rfl, hR, hK⟩ := hrel
    by_cases hkm : k < m
    · have dk : decide (k < m) = true := by simp; omega
      have dki : decide ((k : Int) < (m : Int)) = true := by simp; omega
      have wk : IntKind.i64.wrap ((k : Int) + 1) = ((k + 1 : Nat) : Int) := by have := HP.out; have := HM.out; rw [IntKind.wrap_i64]; omega
      have hkp : k < w * h := by rw [← HM.out]; exact hkm
      have hr : k % w < w := Nat.mod_lt _ HWH.out.1
      have hq : k / w < h := by rw [Nat.div_lt_iff_lt_mul HWH.out.1]; rw [Nat.mul_comm h w]; exact hkp
      have bw := HWH.out.2.1
      have bh := HWH.out.2.2.1
      have wm : (k : Int).tmod (w : Int) = ((k % w : Nat) : Int) := by
        rw [Int.tmod_eq_emod_of_nonneg (by omega), ← Int.natCast_emod]
      have wd : (k : Int).tdiv (w : Int) = ((k / w : Nat) : Int) := by
        rw [Int.tdiv_eq_ediv_of_nonneg (by omega), ← Int.natCast_ediv]
      have wr0 : IntKind.i64.wrap ((k / w : Nat) : Int) = ((k / w : Nat) : Int) := wrapN (by omega)
      have N0 := next_s (k % w) w wx (by omega) bw wr
      have N1 := next_s (k / w) h wy (by omega) bh wr
      have l0 := ahd_lt (a := k % w) (s := 1) (z := w) (c := wx) HWH.out.1
      have l1 := ahd_lt (a := k / w) (s := 1) (z := h) (c := wy) HWH.out.2.2.2
      obtain ⟨x1, bx, ex⟩ : ∃ x1 bx, ahd (k % w) 1 w wx = (x1, bx) := ⟨_, _, rfl⟩
      obtain ⟨y1, b1, ey⟩ : ∃ y1 b1, ahd (k / w) 1 h wy = (y1, b1) := ⟨_, _, rfl⟩
      have HED := hide (edges_at HWH.out.1 hkp ex ey d)
      have KL := hide (show (gE w h wx wy (dOf d) k).length ≤ 4096 * 3 by
        have a := gE_len w h wx wy (dOf d) k
        have c : k * (dOf d).length ≤ 4096 * 3 := Nat.mul_le_mul (by have := HP.out; have := HM.out; omega) (dOf_ok d).1
        omega)
      unfold nxt at N0 N1
      rw [ex] at N0 l0
      rw [ey] at N1 l1
      simp only at N0 N1 l0 l1
      have mb : 0 ≤ (y1 : Int) * (w : Int) ∧ (y1 : Int) * (w : Int) ≤ 16777216 := by
        have := Nat.mul_le_mul (show y1 ≤ 4096 by omega) bw
        rw [← Int.natCast_mul]; omega
      have mc : 0 ≤ ((k / w : Nat) : Int) * (w : Int) ∧ ((k / w : Nat) : Int) * (w : Int) ≤ 16777216 := by
        have := Nat.mul_le_mul (show k / w ≤ 4096 by omega) bw
        rw [← Int.natCast_mul]; omega
      have xb : x1 ≤ 4096 := by omega
      have qb : k % w ≤ 4096 := by omega
      generalize hL : gE w h wx wy (dOf d) k = L0 at *
      have HL := hide (show gE w h wx wy (dOf d) (k + 1) = L0 ++ (dOf d).flatMap (edgeAt w h wx wy k) by rw [← hL]; rfl)
      clear hL
      generalize k % w = q at *
      generalize k / w = r at *
      clear ex ey hr hq bw bh hkp l0 l1
      have HN0 := hide N0
      have HN1 := hide N1
      have LL : Hid (∀ t : E3, (L0 ++ [t]).length ≤ 20000000 ∧ ∀ t2 : E3, (L0 ++ [t] ++ [t2]).length ≤ 20000000) := fun t => ⟨by have := KL.out; simp; omega, fun t2 => by have := KL.out; simp; omega⟩
      clear N0 N1
      cases bx <;> cases b1 <;> cases d
      · go_wp2_with fail
        refine HN0.out.mono ?_
        rintro e w' ⟨rfl, rfl⟩
        simp only [Bool.false_eq_true, if_false, if_true]
        go_wp2_with fail
        refine HN1.out.mono ?_
        rintro e w' ⟨rfl, rfl⟩
        simp only [Bool.false_eq_true, if_false, if_true]
        go_wp2_with fail
        have NX := hide (show wr.ownsRow W.heap.size 50 3 u13 (gE w h wx wy (dOf false) (k + 1)).length (ecs (gE w h wx wy (dOf false) (k + 1))) by rw [HL.out, HED.out]; have := hR.out; simpa [List.append_assoc, Nat.add_assoc] using this)
        clear HED HL LL KL
        go_roundw
        case rel => exact ⟨k + 1, by omega, rfl, NX, hK⟩
        case measure => simp [intOf]; omega
      · go_wp2_with fail
        refine HN0.out.mono ?_
        rintro e w' ⟨rfl, rfl⟩
        simp only [Bool.false_eq_true, if_false, if_true]
        go_wp2_with fail
        refine HN1.out.mono ?_
        rintro e w' ⟨rfl, rfl⟩
        simp only [Bool.false_eq_true, if_false, if_true]
        go_wp2_with fail
        have NX := hide (show wr.ownsRow W.heap.size 50 3 u13 (gE w h wx wy (dOf true) (k + 1)).length (ecs (gE w h wx wy (dOf true) (k + 1))) by rw [HL.out, HED.out]; have := hR.out; simpa [List.append_assoc, Nat.add_assoc] using this)
        clear HED HL LL KL
        go_roundw
        case rel => exact ⟨k + 1, by omega, rfl, NX, hK⟩
        case measure => simp [intOf]; omega
      · go_wp2_with fail
        refine HN0.out.mono ?_
        rintro e w' ⟨rfl, rfl⟩
        simp only [Bool.false_eq_true, if_false, if_true]
        go_wp2_with fail
        refine HN1.out.mono ?_
        rintro e w' ⟨rfl, rfl⟩
        simp only [Bool.false_eq_true, if_false, if_true]
        go_wp2_with (at_builtin; refine wpList_push _ rfl _ _ rfl W.heap.size u13 (L0) (((k : Int), (y1 : Int) * (w : Int) + (q : Int), 0)) rfl rfl hR.out (by have := KL.out; omega) hK.out.size ?_)
        intro v1 w1 r1 k1
        have R1 := hide (show w1.ownsRow W.heap.size 50 3 v1 (L0 ++ [((k : Int), (y1 : Int) * (w : Int) + (q : Int), 0)]).length (ecs (L0 ++ [((k : Int), (y1 : Int) * (w : Int) + (q : Int), 0)])) by first | exact r1 | (have := r1; simpa [List.append_assoc, Nat.add_assoc] using this))
        have K1 := hide (k1 W hK.out (Nat.le_refl _))
        clear r1 k1
        have NX := hide (show w1.ownsRow W.heap.size 50 3 v1 (gE w h wx wy (dOf false) (k + 1)).length (ecs (gE w h wx wy (dOf false) (k + 1))) by rw [HL.out, HED.out]; have := R1.out; simpa [List.append_assoc, Nat.add_assoc] using this)
        clear HED HL LL KL
        go_wp2_with fail
        go_roundw
        case rel => exact ⟨k + 1, by omega, rfl, NX, K1⟩
        case measure => simp [intOf]; omega
      · go_wp2_with fail
        refine HN0.out.mono ?_
        rintro e w' ⟨rfl, rfl⟩
        simp only [Bool.false_eq_true, if_false, if_true]
        go_wp2_with fail
        refine HN1.out.mono ?_
        rintro e w' ⟨rfl, rfl⟩
        simp only [Bool.false_eq_true, if_false, if_true]
        go_wp2_with (at_builtin; refine wpList_push _ rfl _ _ rfl W.heap.size u13 (L0) (((k : Int), (y1 : Int) * (w : Int) + (q : Int), 0)) rfl rfl hR.out (by have := KL.out; omega) hK.out.size ?_)
        intro v1 w1 r1 k1
        have R1 := hide (show w1.ownsRow W.heap.size 50 3 v1 (L0 ++ [((k : Int), (y1 : Int) * (w : Int) + (q : Int), 0)]).length (ecs (L0 ++ [((k : Int), (y1 : Int) * (w : Int) + (q : Int), 0)])) by first | exact r1 | (have := r1; simpa [List.append_assoc, Nat.add_assoc] using this))
        have K1 := hide (k1 W hK.out (Nat.le_refl _))
        clear r1 k1
        have NX := hide (show w1.ownsRow W.heap.size 50 3 v1 (gE w h wx wy (dOf true) (k + 1)).length (ecs (gE w h wx wy (dOf true) (k + 1))) by rw [HL.out, HED.out]; have := R1.out; simpa [List.append_assoc, Nat.add_assoc] using this)
        clear HED HL LL KL
        go_wp2_with fail
        go_roundw
        case rel => exact ⟨k + 1, by omega, rfl, NX, K1⟩
        case measure => simp [intOf]; omega
      · go_wp2_with fail
        refine HN0.out.mono ?_
        rintro e w' ⟨rfl, rfl⟩
        simp only [Bool.false_eq_true, if_false, if_true]
        go_wp2_with fail
        refine HN1.out.mono ?_
        rintro e w' ⟨rfl, rfl⟩
        simp only [Bool.false_eq_true, if_false, if_true]
        go_wp2_with (at_builtin; refine wpList_push _ rfl _ _ rfl W.heap.size u13 (L0) (((k : Int), (r : Int) * (w : Int) + (x1 : Int), 0)) rfl rfl hR.out (by have := KL.out; omega) hK.out.size ?_)
        intro v1 w1 r1 k1
        have R1 := hide (show w1.ownsRow W.heap.size 50 3 v1 (L0 ++ [((k : Int), (r : Int) * (w : Int) + (x1 : Int), 0)]).length (ecs (L0 ++ [((k : Int), (r : Int) * (w : Int) + (x1 : Int), 0)])) by first | exact r1 | (have := r1; simpa [List.append_assoc, Nat.add_assoc] using this))
        have K1 := hide (k1 W hK.out (Nat.le_refl _))
        clear r1 k1
        have NX := hide (show w1.ownsRow W.heap.size 50 3 v1 (gE w h wx wy (dOf false) (k + 1)).length (ecs (gE w h wx wy (dOf false) (k + 1))) by rw [HL.out, HED.out]; have := R1.out; simpa [List.append_assoc, Nat.add_assoc] using this)
        clear HED HL LL KL
        go_wp2_with fail
        go_roundw
        case rel => exact ⟨k + 1, by omega, rfl, NX, K1⟩
        case measure => simp [intOf]; omega
      · go_wp2_with fail
        refine HN0.out.mono ?_
        rintro e w' ⟨rfl, rfl⟩
        simp only [Bool.false_eq_true, if_false, if_true]
        go_wp2_with fail
        refine HN1.out.mono ?_
        rintro e w' ⟨rfl, rfl⟩
        simp only [Bool.false_eq_true, if_false, if_true]
        go_wp2_with (at_builtin; refine wpList_push _ rfl _ _ rfl W.heap.size u13 (L0) (((k : Int), (r : Int) * (w : Int) + (x1 : Int), 0)) rfl rfl hR.out (by have := KL.out; omega) hK.out.size ?_)
        intro v1 w1 r1 k1
        have R1 := hide (show w1.ownsRow W.heap.size 50 3 v1 (L0 ++ [((k : Int), (r : Int) * (w : Int) + (x1 : Int), 0)]).length (ecs (L0 ++ [((k : Int), (r : Int) * (w : Int) + (x1 : Int), 0)])) by first | exact r1 | (have := r1; simpa [List.append_assoc, Nat.add_assoc] using this))
        have K1 := hide (k1 W hK.out (Nat.le_refl _))
        clear r1 k1
        have NX := hide (show w1.ownsRow W.heap.size 50 3 v1 (gE w h wx wy (dOf true) (k + 1)).length (ecs (gE w h wx wy (dOf true) (k + 1))) by rw [HL.out, HED.out]; have := R1.out; simpa [List.append_assoc, Nat.add_assoc] using this)
        clear HED HL LL KL
        go_wp2_with fail
        go_roundw
        case rel => exact ⟨k + 1, by omega, rfl, NX, K1⟩
        case measure => simp [intOf]; omega
      · go_wp2_with fail
        refine HN0.out.mono ?_
        rintro e w' ⟨rfl, rfl⟩
        simp only [Bool.false_eq_true, if_false, if_true]
        go_wp2_with fail
        refine HN1.out.mono ?_
        rintro e w' ⟨rfl, rfl⟩
        simp only [Bool.false_eq_true, if_false, if_true]
        go_wp2_with (at_builtin; refine wpList_push _ rfl _ _ rfl W.heap.size u13 (L0) (((k : Int), (r : Int) * (w : Int) + (x1 : Int), 0)) rfl rfl hR.out (by have := KL.out; omega) hK.out.size ?_)
        intro v1 w1 r1 k1
        have R1 := hide (show w1.ownsRow W.heap.size 50 3 v1 (L0 ++ [((k : Int), (r : Int) * (w : Int) + (x1 : Int), 0)]).length (ecs (L0 ++ [((k : Int), (r : Int) * (w : Int) + (x1 : Int), 0)])) by first | exact r1 | (have := r1; simpa [List.append_assoc, Nat.add_assoc] using this))
        have K1 := hide (k1 W hK.out (Nat.le_refl _))
        clear r1 k1
        go_wp2_with (at_builtin; refine wpList_push _ rfl _ _ rfl W.heap.size v1 (L0 ++ [((k : Int), (r : Int) * (w : Int) + (x1 : Int), 0)]) (((k : Int), (y1 : Int) * (w : Int) + (q : Int), 0)) rfl rfl R1.out (LL.out _).1 K1.out.size ?_)
        intro v2 w2 r2 k2
        have R2 := hide (show w2.ownsRow W.heap.size 50 3 v2 (L0 ++ [((k : Int), (r : Int) * (w : Int) + (x1 : Int), 0)] ++ [((k : Int), (y1 : Int) * (w : Int) + (q : Int), 0)]).length (ecs (L0 ++ [((k : Int), (r : Int) * (w : Int) + (x1 : Int), 0)] ++ [((k : Int), (y1 : Int) * (w : Int) + (q : Int), 0)])) by first | exact r2 | (have := r2; simpa [List.append_assoc, Nat.add_assoc] using this))
        have K2 := hide (k2 W K1.out (Nat.le_refl _))
        clear r2 k2
        have NX := hide (show w2.ownsRow W.heap.size 50 3 v2 (gE w h wx wy (dOf false) (k + 1)).length (ecs (gE w h wx wy (dOf false) (k + 1))) by rw [HL.out, HED.out]; have := R2.out; simpa [List.append_assoc, Nat.add_assoc] using this)
        clear HED HL LL KL
        go_wp2_with fail
        go_roundw
        case rel => exact ⟨k + 1, by omega, rfl, NX, K2⟩
        case measure => simp [intOf]; omega
      · go_wp2_with fail
        refine HN0.out.mono ?_
        rintro e w' ⟨rfl, rfl⟩
        simp only [Bool.false_eq_true, if_false, if_true]
        go_wp2_with fail
        refine HN1.out.mono ?_
        rintro e w' ⟨rfl, rfl⟩
        simp only [Bool.false_eq_true, if_false, if_true]
        go_wp2_with (at_builtin; refine wpList_push _ rfl _ _ rfl W.heap.size u13 (L0) (((k : Int), (r : Int) * (w : Int) + (x1 : Int), 0)) rfl rfl hR.out (by have := KL.out; omega) hK.out.size ?_)
        intro v1 w1 r1 k1
        have R1 := hide (show w1.ownsRow W.heap.size 50 3 v1 (L0 ++ [((k : Int), (r : Int) * (w : Int) + (x1 : Int), 0)]).length (ecs (L0 ++ [((k : Int), (r : Int) * (w : Int) + (x1 : Int), 0)])) by first | exact r1 | (have := r1; simpa [List.append_assoc, Nat.add_assoc] using this))
        have K1 := hide (k1 W hK.out (Nat.le_refl _))
        clear r1 k1
        go_wp2_with (at_builtin; refine wpList_push _ rfl _ _ rfl W.heap.size v1 (L0 ++ [((k : Int), (r : Int) * (w : Int) + (x1 : Int), 0)]) (((k : Int), (y1 : Int) * (w : Int) + (q : Int), 0)) rfl rfl R1.out (LL.out _).1 K1.out.size ?_)
        intro v2 w2 r2 k2
        have R2 := hide (show w2.ownsRow W.heap.size 50 3 v2 (L0 ++ [((k : Int), (r : Int) * (w : Int) + (x1 : Int), 0)] ++ [((k : Int), (y1 : Int) * (w : Int) + (q : Int), 0)]).length (ecs (L0 ++ [((k : Int), (r : Int) * (w : Int) + (x1 : Int), 0)] ++ [((k : Int), (y1 : Int) * (w : Int) + (q : Int), 0)])) by first | exact r2 | (have := r2; simpa [List.append_assoc, Nat.add_assoc] using this))
        have K2 := hide (k2 W K1.out (Nat.le_refl _))
        clear r2 k2
        go_wp2_with (at_builtin; refine wpList_push _ rfl _ _ rfl W.heap.size v2 (L0 ++ [((k : Int), (r : Int) * (w : Int) + (x1 : Int), 0)] ++ [((k : Int), (y1 : Int) * (w : Int) + (q : Int), 0)]) (((k : Int), (y1 : Int) * (w : Int) + (x1 : Int), 0)) rfl rfl R2.out ((LL.out _).2 _) K2.out.size ?_)
        intro v3 w3 r3 k3
        have R3 := hide (show w3.ownsRow W.heap.size 50 3 v3 (L0 ++ [((k : Int), (r : Int) * (w : Int) + (x1 : Int), 0)] ++ [((k : Int), (y1 : Int) * (w : Int) + (q : Int), 0)] ++ [((k : Int), (y1 : Int) * (w : Int) + (x1 : Int), 0)]).length (ecs (L0 ++ [((k : Int), (r : Int) * (w : Int) + (x1 : Int), 0)] ++ [((k : Int), (y1 : Int) * (w : Int) + (q : Int), 0)] ++ [((k : Int), (y1 : Int) * (w : Int) + (x1 : Int), 0)])) by first | exact r3 | (have := r3; simpa [List.append_assoc, Nat.add_assoc] using this))
        have K3 := hide (k3 W K2.out (Nat.le_refl _))
        clear r3 k3
        have NX := hide (show w3.ownsRow W.heap.size 50 3 v3 (gE w h wx wy (dOf true) (k + 1)).length (ecs (gE w h wx wy (dOf true) (k + 1))) by rw [HL.out, HED.out]; have := R3.out; simpa [List.append_assoc, Nat.add_assoc] using this)
        clear HED HL LL KL
        go_wp2_with fail
        go_roundw
        case rel => exact ⟨k + 1, by omega, rfl, NX, K3⟩
        case measure => simp [intOf]; omega
    · have : k = m := by omega
      subst this
      have dk : decide (k < k) = false := by simp
      have dki : decide ((k : Int) < (k : Int)) = false := by simp
      go_wp2_with fail
      go_ret3
      exact ⟨_, rfl, RdE.of_row hR.out, hK.out.below (by simp) (Nat.le_refl _)⟩
end Go.Proofs.Ythgeccmphnppgaa
