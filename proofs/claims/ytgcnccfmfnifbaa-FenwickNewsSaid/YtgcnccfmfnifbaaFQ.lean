/- Find. -/
import Derived.Test.YtgcnccfmfnifbaaFJ
set_option linter.unusedVariables false
set_option linter.unusedSimpArgs false
namespace Go.Proofs.Ytgcnccfmfnifbaa
open Go.RowKit

theorem low_pow (q : Nat) : ∀ p, low (2 ^ (p + 1) * q + 2 ^ p) = 2 ^ p
  | 0 => by rw [low_odd (by omega)]
  | p + 1 => by
    have e : 2 ^ (p + 1 + 1) * q + 2 ^ (p + 1) = 2 * (2 ^ (p + 1) * q + 2 ^ p) := by
      rw [Nat.pow_succ (n := 2) (m := p + 1), Nat.pow_succ (n := 2) (m := p), Nat.mul_add, Nat.mul_comm _ 2, Nat.mul_assoc, Nat.mul_comm (2 ^ p) 2]
    have h : 0 < 2 ^ p := Nat.pow_pos (by decide)
    rw [e, low_dbl _ (by omega), low_pow q p, Nat.pow_succ, Nat.mul_comm]
theorem sumS_out {C : Nat → Int} {n : Nat} (h : ∀ i, n ≤ i → C i = 0) : ∀ k, n ≤ k → sumS C k = sumS C n
  | 0, hk => by have : n = 0 := by omega
                subst this; rfl
  | k + 1, hk => by
    by_cases e : n = k + 1
    · rw [e]
    · rw [sumS, sumS_out h k (by omega), h k (by omega)]; omega
theorem sum_uniq {C : Nat → Int} (h : ∀ i, 0 ≤ C i) {i j : Nat} {x : Int} (h1 : sumS C i ≤ x) (h2 : x < sumS C (i + 1)) (h3 : sumS C j ≤ x) (h4 : x < sumS C (j + 1)) : i = j := by
  rcases Nat.lt_trichotomy i j with g | g | g
  · have := sumS_mono h (show i + 1 ≤ j by omega); omega
  · exact g
  · have := sumS_mono h (show j + 1 ≤ i by omega); omega
/-- the search when steps of 2^p are done -/
structure Srch (C : Nat → Int) (n : Nat) (x : Int) (p a : Nat) (r : Int) : Prop where
  dvd : ∃ q, a = 2 ^ p * q
  lo : sumS C a + r = x
  nn : 0 ≤ r
  hi : x < sumS C (a + 2 ^ p)
  an : a ≤ n
theorem Srch.yes {C : Nat → Int} {n : Nat} {x : Int} {p a : Nat} {r : Int} (h : Srch C n x (p + 1) a r) (h1 : a + 2 ^ p ≤ n) (h2 : tr C (a + 2 ^ p) ≤ r) : Srch C n x p (a + 2 ^ p) (r - tr C (a + 2 ^ p)) := by
  obtain ⟨q, hq⟩ := h.dvd
  have hl : low (a + 2 ^ p) = 2 ^ p := by rw [hq]; exact low_pow q p
  have ht : tr C (a + 2 ^ p) = sumS C (a + 2 ^ p) - sumS C a := by unfold tr; rw [hl, Nat.add_sub_cancel]
  have e : 2 ^ (p + 1) = 2 ^ p + 2 ^ p := by rw [Nat.pow_succ]; omega
  refine ⟨⟨2 * q + 1, by rw [hq, e, Nat.mul_add, Nat.add_mul, Nat.mul_one]; congr 1; rw [← Nat.mul_assoc, Nat.mul_comm (2 ^ p) 2, Nat.mul_assoc, Nat.two_mul]⟩, ?_, by omega, ?_, h1⟩
  · have := h.lo; rw [ht]; omega
  · have := h.hi; rw [e, ← Nat.add_assoc] at this; exact this
theorem Srch.no {C : Nat → Int} {n : Nat} {x : Int} {p a : Nat} {r : Int} (h : Srch C n x (p + 1) a r) (ho : ∀ i, n ≤ i → C i = 0) (hx : x < sumS C n) (h1 : ¬ (a + 2 ^ p ≤ n ∧ tr C (a + 2 ^ p) ≤ r)) : Srch C n x p a r := by
  obtain ⟨q, hq⟩ := h.dvd
  have hl : low (a + 2 ^ p) = 2 ^ p := by rw [hq]; exact low_pow q p
  have ht : tr C (a + 2 ^ p) = sumS C (a + 2 ^ p) - sumS C a := by unfold tr; rw [hl, Nat.add_sub_cancel]
  have e : 2 ^ (p + 1) = 2 ^ p + 2 ^ p := by rw [Nat.pow_succ]; omega
  refine ⟨⟨2 * q, by rw [hq, e, Nat.add_mul, ← Nat.mul_assoc, Nat.mul_comm (2 ^ p) 2, Nat.mul_assoc, Nat.two_mul]⟩, h.lo, h.nn, ?_, h.an⟩
  by_cases g : a + 2 ^ p ≤ n
  · have : ¬ tr C (a + 2 ^ p) ≤ r := fun y => h1 ⟨g, y⟩
    have := h.lo
    rw [ht] at *
    omega
  · rw [sumS_out ho _ (by omega)]; exact hx
/-- the boxes of Find -/
structure FB3 (W : World) (ba bp br b a : Nat) (r : Int) : Prop where
  a : W.heap[ba]? = some (.cells #[.int .i64 (a : Int)] 3 (0, 0))
  p : W.heap[bp]? = some (.cells #[.pointer (some ⟨b, 0, none⟩)] 24 (0, 0))
  r : W.heap[br]? = some (.cells #[.int .i64 r] 2 (0, 0))
theorem blk_one {w : World} {b : Nat} {v u : Value} {t : TypeId} (h : w.heap[b]? = some (.cells #[v] t (0, 0))) : (w.setCell ⟨b, 0, none⟩ u).heap[b]? = some (.cells #[u] t (0, 0)) := by
  rw [heap_setCell_same _ _ _ _ _ _ h]; rfl
def nxA (a s n : Nat) (t r : Int) : Nat := if s ≤ n ∧ t ≤ r then s else a
def nxR (s n : Nat) (t r : Int) : Int := if s ≤ n ∧ t ≤ r then r - t else r
set_option maxRecDepth 100000 in
set_option maxHeartbeats 8000000 in
theorem find1_t {B : Nat} {W : World} {ba bp br b n a m : Nat} {v : Value} {tot r : Int} {T : Nat → Int} (hF : FB3 W ba bp br b a r) (M : FM B W b n v tot T) (ne : ba ≠ br ∧ ba ≠ bp ∧ br ≠ bp ∧ b ≠ ba ∧ b ≠ br ∧ ∀ k, v.ownBlock = some k → k ≠ ba ∧ k ≠ br) (hn : n ≤ 65536) (ha : a ≤ n) (hm : 1 ≤ m ∧ m ≤ 65536) (hT : ∀ k, k ≤ n → 0 ≤ T k) (hr : 0 ≤ r ∧ r ≤ 9223372036854775807) :
    Calls Try.prog 38 (#[.int .i64 (m : Int)] ++ #[.pointer (some ⟨ba, 0, none⟩), .pointer (some ⟨bp, 0, none⟩), .pointer (some ⟨br, 0, none⟩)]) W fun e W' => e = .returned (.tuple #[]) ∧
      FB3 W' ba bp br b (nxA a (a + m) n (T (a + m)) r) (nxR (a + m) n (T (a + m)) r) ∧ Kp [ba, br] W W' := by
  have hp := upC'
  obtain ⟨p, c, rfl⟩ := row_slice M.row
  have HF := hide hF
  have HM := hide M
  have HNE := hide ne
  have c1 : W.cell? ⟨ba, 0, none⟩ = some (.int .i64 (a : Int)) := by simp [cell_of_blk hF.a]
  have c2 : W.cell? ⟨bp, 0, none⟩ = some (.pointer (some ⟨b, 0, none⟩)) := by simp [cell_of_blk hF.p]
  have c3 : W.cell? ⟨br, 0, none⟩ = some (.int .i64 r) := by simp [cell_of_blk hF.r]
  have f3 : W.frozen? ⟨br, 0, none⟩ = false := free_of_blk hF.r 0
  have f1 : W.frozen? ⟨ba, 0, none⟩ = false := free_of_blk hF.a 0
  have c4 : W.cell? ⟨b, 2, none⟩ = some (.slice p n c) := by simp [cell_of_blk M.blk]
  obtain ⟨s, hs⟩ : ∃ s, s = a + m := ⟨_, rfl⟩
  have ws : IntKind.i64.wrap ((a : Int) + (m : Int)) = (s : Int) := by rw [IntKind.wrap_i64]; omega
  have es : (a : Int) + (m : Int) = (s : Int) := by omega
  have ba1 : a ≤ 65536 := by omega
  have bm1 : m ≤ 65536 := hm.2
  have bs1 : 1 ≤ s := by omega
  have bs2 : s ≤ 131072 := by omega
  rw [← hs]
  by_cases h1 : s ≤ n
  · obtain ⟨j, hj⟩ : ∃ j, s = j + 1 := ⟨s - 1, by omega⟩
    have hjn : j < n := by omega
    obtain ⟨g, rfl, e1, _, _⟩ := row_cell M.row hjn
    rw [rowV_get _ hjn, show trV T j = .int .i64 (T (j + 1)) from rfl, ← hj] at e1
    have d1 : decide ((s : Int) ≤ (n : Int)) = true := by simpa using h1
    have d1' : decide (s ≤ n) = true := by simpa using h1
    have wj : IntKind.i64.wrap ((s : Int) - 1) = (j : Int) := by rw [IntKind.wrap_i64]; omega
    have hts := hT s h1
    generalize T s = t at *
    have bj : (j : Int) < (n : Int) := by omega
    by_cases h2 : t ≤ r
    · have d2 : decide (t ≤ r) = true := by simpa using h2
      rw [show nxA a s n t r = s from if_pos ⟨h1, h2⟩, show nxR s n t r = r - t from if_pos ⟨h1, h2⟩]
      obtain ⟨rt, hrt⟩ : ∃ rt, rt = r - t := ⟨_, rfl⟩
      have wr : IntKind.i64.wrap (r - t) = rt := by rw [hrt, IntKind.wrap_i64]; omega
      have wr2 : wrap64 (r - t) = rt := by rw [hrt]; unfold wrap64; omega
      rw [← hrt]
      clear hF M ne h1 h2 hn ha hm hT hr hj hs hrt hts
      go_enter Try.func38, Try.ntmps38
      go_wp2_with fail
      go_quiet (fail)
      obtain ⟨W2, hW2⟩ : ∃ W2, W2 = W.drewN nq := ⟨_, rfl⟩
      have k2 : Kp [] W W2 := by rw [hW2]; exact Kp.drewN [] _ _
      rw [← hW2]
      have a3 : W2.cell? ⟨br, 0, none⟩ = some (.int .i64 r) := by rw [hW2]; exact c3
      have g3 : W2.frozen? ⟨br, 0, none⟩ = false := by rw [hW2]; exact f3
      have a2 : W2.cell? ⟨bp, 0, none⟩ = some (.pointer (some ⟨b, 0, none⟩)) := by rw [hW2]; exact c2
      have a4 : W2.cell? ⟨b, 2, none⟩ = some (.slice (some ⟨g, 0, none⟩) n c) := by rw [hW2]; exact c4
      have a5 : W2.cell? ⟨g, j, none⟩ = some (.int .i64 t) := by rw [hW2]; exact e1
      have K2 := hide k2
      clear hW2 k2 c1 c2 c3 c4 f3 e1
      go_wp2_with fail
      refine wp_region_still_tail 10 (by kernel_rfl) (by kernel_rfl) ?_
      simp only [List.take_succ_cons, List.take_zero, List.drop_succ_cons, List.drop_zero]
      obtain ⟨W3, hW3⟩ : ∃ W3 : World, W3 = ({ W2 with drawn := W2.drawn + 1 } : World) := ⟨_, rfl⟩
      have b3 : W3.cell? ⟨br, 0, none⟩ = some (.int .i64 r) := by rw [hW3]; exact a3
      have y3 : W3.frozen? ⟨br, 0, none⟩ = false := by rw [hW3]; exact g3
      have b2 : W3.cell? ⟨bp, 0, none⟩ = some (.pointer (some ⟨b, 0, none⟩)) := by rw [hW3]; exact a2
      have b4 : W3.cell? ⟨b, 2, none⟩ = some (.slice (some ⟨g, 0, none⟩) n c) := by rw [hW3]; exact a4
      have b5 : W3.cell? ⟨g, j, none⟩ = some (.int .i64 t) := by rw [hW3]; exact a5
      have K3 := hide (show Kp [] W W3 by rw [hW3]; exact K2.out.trans0 (Kp.drewN [] W2 1))
      rw [← hW3]
      clear hW3 a2 a3 a4 a5 g3
      repeat still_step
      refine wpStill_nil ?_
      have z1 : (W3.setCell ⟨br, 0, none⟩ (.int .i64 rt)).cell? ⟨ba, 0, none⟩ = some (.int .i64 (a : Int)) := by
        rw [cell_far (by intro h; injection h with h _ _; exact HNE.out.1 h)]; simp [cell_of_blk (K3.out.blk HF.out.a (by simp))]
      have z2 : (W3.setCell ⟨br, 0, none⟩ (.int .i64 rt)).frozen? ⟨ba, 0, none⟩ = false := by rw [World.frozen?_setCell]; exact free_of_blk (K3.out.blk HF.out.a (by simp)) 0
      have NF := hide (show FB3 ((W3.setCell ⟨br, 0, none⟩ (.int .i64 rt)).setCell ⟨ba, 0, none⟩ (.int .i64 (s : Int))) ba bp br b s rt from
        ⟨blk_one (blk_set (K3.out.blk HF.out.a (by simp)) HNE.out.1), blk_set (blk_set (K3.out.blk HF.out.p (by simp)) (Ne.symm HNE.out.2.2.1)) (Ne.symm HNE.out.2.1), blk_set (blk_one (K3.out.blk HF.out.r (by simp))) (Ne.symm HNE.out.1)⟩)
      have K4 := hide (show Kp [ba, br] W ((W3.setCell ⟨br, 0, none⟩ (.int .i64 rt)).setCell ⟨ba, 0, none⟩ (.int .i64 (s : Int))) from ((K3.out.mono (p := [ba, br]) (by simp)).put br 0 _ (.inl (by simp))).put ba 0 _ (.inl (by simp)))
      go_wp2_with fail
      go_end0
      exact ⟨rfl, NF.out, K4.out⟩
    · have d2 : decide (t ≤ r) = false := by simpa using h2
      rw [show nxA a s n t r = a from if_neg (fun h => h2 h.2), show nxR s n t r = r from if_neg (fun h => h2 h.2)]
      clear hF M ne h1 h2 hn ha hm hT hr hj hs hts
      go_enter Try.func38, Try.ntmps38
      go_wp2_with fail
      go_quiet (fail)
      go_wp2_with fail
      have k2 : Kp [] W (W.drewN nq) := Kp.drewN [] _ _
      have NF := hide (show FB3 (W.drewN nq) ba bp br b a r from ⟨k2.blk HF.out.a (by simp), k2.blk HF.out.p (by simp), k2.blk HF.out.r (by simp)⟩)
      go_end0
      exact ⟨rfl, NF.out, k2.mono (by simp)⟩
  · have d1 : decide ((s : Int) ≤ (n : Int)) = false := by simpa using h1
    have d1' : decide (s ≤ n) = false := by simpa using h1
    rw [show nxA a s n (T s) r = a from if_neg (fun h => h1 h.1), show nxR s n (T s) r = r from if_neg (fun h => h1 h.1)]
    clear hF M ne h1 hn ha hm hT hr hs
    go_enter Try.func38, Try.ntmps38
    go_wp2_with fail
    go_quiet (fail)
    go_wp2_with fail
    have k2 : Kp [] W (W.drewN nq) := Kp.drewN [] _ _
    have NF := hide (show FB3 (W.drewN nq) ba bp br b a r from ⟨k2.blk HF.out.a (by simp), k2.blk HF.out.p (by simp), k2.blk HF.out.r (by simp)⟩)
    go_end0
    exact ⟨rfl, NF.out, k2.mono (by simp)⟩
theorem two_pow_half (p : Nat) : 2 ^ (p + 1) / 2 = 2 ^ p := by rw [Nat.pow_succ]; omega
/-- what Find answers -/
def FindA (C : Nat → Int) (n : Nat) (x : Int) (e : Ending) : Prop :=
  (0 ≤ x ∧ x < sumS C n ∧ ∃ i : Nat, i < n ∧ sumS C i ≤ x ∧ x < sumS C (i + 1) ∧ e = .returned (.tuple #[.int .i64 (i : Int), .bool true])) ∨ (¬ (0 ≤ x ∧ x < sumS C n) ∧ e = .returned (.tuple #[.int .i64 0, .bool false]))
set_option maxRecDepth 100000 in
set_option maxHeartbeats 8000000 in
theorem find_t {B : Nat} {w : World} {b n : Nat} {own : List Nat} {C : Nat → Int} (h : FAt B w b n own C) (x : Int) :
    Calls Try.prog 20 #[.pointer (some ⟨b, 0, none⟩), .int .i64 x] w fun e w' => FindA C n x e ∧ Kp [] w w' := by
  have TT := hide (total_t (h.keep0 (Kp.alloc w (.cells #[.pointer (some ⟨b, 0, none⟩)] 24))))
  have K0 := hide (Kp.alloc w (.cells #[.pointer (some ⟨b, 0, none⟩)] 24))
  by_cases h1 : x < 0
  · have F := hide (show FindA C n x (.returned (.tuple #[.int .i64 0, .bool false])) from .inr ⟨by omega, rfl⟩)
    have d : decide (x < 0) = true := by simpa using h1
    clear h h1
    go_enter Try.func20, Try.ntmps20
    go_wp2_with fail
    go_ret2
    exact ⟨F.out, K0.out⟩
  · by_cases h2 : sumS C n ≤ x
    · have F := hide (show FindA C n x (.returned (.tuple #[.int .i64 0, .bool false])) from .inr ⟨by omega, rfl⟩)
      have d : decide (x < 0) = false := by simpa using h1
      have d2 : decide (sumS C n ≤ x) = true := by simpa using h2
      generalize sumS C n = tot at *
      clear h h1 h2
      go_enter Try.func20, Try.ntmps20
      go_wp2_with fail
      refine TT.out.mono ?_
      rintro e w1 ⟨rfl, rfl⟩
      go_wp2_with fail
      go_ret2
      exact ⟨F.out, K0.out⟩
    · have d : decide (x < 0) = false := by simpa using h1
      have d2 : decide (sumS C n ≤ x) = false := by simpa using h2
      have HX := hide (show 0 ≤ x ∧ x < sumS C n by omega)
      obtain ⟨⟨v, M, ho⟩, hnn, hout, htot, hn⟩ := h
      have HM := hide M
      have HH := hide (And.intro hnn (And.intro hout (And.intro htot hn)))
      have hbw := hide M.lt
      have hvw := hide (fun k hk => (M.row.lt k hk).2)
      obtain ⟨tot, ht⟩ : ∃ tot, tot = sumS C n := ⟨_, rfl⟩
      rw [← ht] at d2 TT
      have hmf : ∀ (fn : Fn) (first cap : Array Value) (w : World), (Instr.makeFunc fn first cap).run Try.prog w = .ok (.func fn first cap) w := fun _ _ _ _ => rfl
      clear M ho hnn hout htot hn ht h1 h2
      go_enter Try.func20, Try.ntmps20
      go_wp2_with fail
      refine TT.out.mono ?_
      rintro e w1 ⟨rfl, rfl⟩
      go_wp2_with fail
      have hpw : (65536 : Int) = ((2 ^ 17 / 2 : Nat) : Int) := by decide
      have bA := heap_alloc_new w (.cells #[.pointer (some ⟨b, 0, none⟩)] 24)
      have bB := heap_alloc_new (w.alloc (.cells #[.pointer (some ⟨b, 0, none⟩)] 24)) (.cells #[.int .i64 0] 3)
      have bC := heap_alloc_new ((w.alloc (.cells #[.pointer (some ⟨b, 0, none⟩)] 24)).alloc (.cells #[.int .i64 0] 3)) (.cells #[.int .i64 x] 2)
      rw [World.size_alloc] at bB
      rw [World.size_alloc, World.size_alloc] at bC
      have kB := Kp.alloc (w.alloc (.cells #[.pointer (some ⟨b, 0, none⟩)] 24)) (.cells #[.int .i64 0] 3)
      have kC := Kp.alloc ((w.alloc (.cells #[.pointer (some ⟨b, 0, none⟩)] 24)).alloc (.cells #[.int .i64 0] 3)) (.cells #[.int .i64 x] 2)
      have F0 := hide (show FB3 (((w.alloc (.cells #[.pointer (some ⟨b, 0, none⟩)] 24)).alloc (.cells #[.int .i64 0] 3)).alloc (.cells #[.int .i64 x] 2)) (w.heap.size + 1) w.heap.size (w.heap.size + 1 + 1) b 0 x from ⟨kC.blk bB (by simp), kC.blk (kB.blk bA (by simp)) (by simp), bC⟩)
      have K3 := hide (show Kp [] w (((w.alloc (.cells #[.pointer (some ⟨b, 0, none⟩)] 24)).alloc (.cells #[.int .i64 0] 3)).alloc (.cells #[.int .i64 x] 2)) from (K0.out.trans0 kB).trans0 kC)
      clear bA bB bC kB kC
      generalize ((w.alloc (.cells #[.pointer (some ⟨b, 0, none⟩)] 24)).alloc (.cells #[.int .i64 0] 3)).alloc (.cells #[.int .i64 x] 2) = W3 at *
      have S0 := hide (show Srch C n x 17 0 x from ⟨⟨0, by simp⟩, by rw [sumS]; omega, HX.out.1, by rw [sumS_out HH.out.2.1 _ (by have := HH.out.2.2.2; omega)]; exact HX.out.2, Nat.zero_le _⟩)
      rw [hpw]
      clear hpw
      go_loopw [9] (fun c wr => ∃ (p a : Nat) (r : Int), p ≤ 17 ∧ c = .int .i64 ((2 ^ p / 2 : Nat) : Int) ∧ Hid (Srch C n x p a r) ∧ Hid (FB3 wr (w.heap.size + 1) w.heap.size (w.heap.size + 1 + 1) b a r) ∧ Hid (Kp [w.heap.size + 1, w.heap.size + 1 + 1] W3 wr)) (fun c _ => (intOf c).toNat)
      case atStart => exact ⟨17, 0, x, Nat.le_refl _, rfl, S0.out, F0.out, Kp.refl _ _⟩
      case round =>
        obtain ⟨p, a, r, hp, rfl, hS, hF, hK⟩ := hrel
        rcases p with _ | p
        · have dz : decide ((0 : Int) < ((2 ^ 0 / 2 : Nat) : Int)) = false := by decide
          have e0 : ((2 ^ 0 / 2 : Nat) : Int) = 0 := by decide
          rw [e0]
          have ca : wr.cell? ⟨w.heap.size + 1, 0, none⟩ = some (.int .i64 (a : Int)) := by simp [cell_of_blk hF.out.a]
          have A := hide (show FindA C n x (.returned (.tuple #[.int .i64 (a : Int), .bool true])) from .inl ⟨HX.out.1, HX.out.2, a, by
            have := hS.out.hi; have := hS.out.lo; have := hS.out.nn; have := hS.out.an
            by_cases e : a = n
            · subst e; have := HX.out.2; omega
            · omega, by have := hS.out.lo; have := hS.out.nn; omega, by have := hS.out.hi; simpa using this, rfl⟩)
          have KK := hide (show Kp [] w wr from K3.out.trans hK.out (fun z hz => .inr (by simp at hz; omega)))
          clear dz e0
          go_wp2_with fail
          go_ret2
          exact ⟨A.out, KK.out⟩
        · have hpos : 0 < 2 ^ p := Nat.pow_pos (by decide)
          have hle : 2 ^ p ≤ 65536 := Nat.pow_le_pow_right (by decide) (show p ≤ 16 by omega)
          rw [two_pow_half]
          obtain ⟨m, hm⟩ : ∃ m, m = 2 ^ p := ⟨_, rfl⟩
          have HMM := hide hm
          rw [← hm] at hpos hle ⊢
          have d3 : decide ((0 : Int) < (m : Int)) = true := by simp; omega
          have d3' : decide (0 < m) = true := by simp; omega
          obtain ⟨m2, hm2⟩ : ∃ m2, m2 = m / 2 := ⟨_, rfl⟩
          have HM2 := hide hm2
          have t1 : (m : Int).tdiv 2 = (m2 : Int) := by rw [hm2]; rfl
          have t2 : (m : Int) / 2 = (m2 : Int) := by rw [hm2]; rfl
          have wm2 : IntKind.i64.wrap (m2 : Int) = (m2 : Int) := by rw [IntKind.wrap_i64]; omega
          have MW := HM.out.keep ((K3.out.mono (p := [w.heap.size + 1, w.heap.size + 1 + 1]) (by simp)).trans hK.out (fun z hz => .inl hz)) (by simp; have := hbw.out; omega) (fun k hk => by have := hvw.out k hk; simp; omega)
          have rb : 0 ≤ r ∧ r ≤ 9223372036854775807 := by
            have a1 := hS.out.lo; have a2 := hS.out.nn
            have a3 := sumS_mono HH.out.1 (Nat.zero_le a)
            have a4 : sumS C 0 = 0 := rfl
            have := HX.out.2; have := HH.out.2.2.1
            omega
          have C1 := hide (find1_t hF.out MW ⟨by omega, by omega, by omega, by have := hbw.out; omega, by have := hbw.out; omega, fun k hk => by have := hvw.out k hk; omega⟩ HH.out.2.2.2 hS.out.an (m := m) ⟨by omega, hle⟩ (fun k hk => (tr_bd HH.out.1 k).1) rb)
          have hS2 : Hid (Srch C n x p (nxA a (a + m) n (tr C (a + m)) r) (nxR (a + m) n (tr C (a + m)) r)) := by
            have q := hS.out
            rw [HMM.out]
            unfold nxA nxR
            by_cases g : a + 2 ^ p ≤ n ∧ tr C (a + 2 ^ p) ≤ r
            · rw [if_pos g, if_pos g]; exact q.yes g.1 g.2
            · rw [if_neg g, if_neg g]; exact q.no HH.out.2.1 HX.out.2 g
          generalize nxA a (a + m) n (tr C (a + m)) r = a2 at *
          generalize nxR (a + m) n (tr C (a + m)) r = r2 at *
          have HP2 := hide hp
          have HPOS := hide hpos
          clear hm hm2 MW rb hp
          go_wp2_with fail
          refine C1.out.mono ?_
          rintro e w4 ⟨rfl, f4, k4⟩
          have F4 := hide f4
          have K4 := hide (hK.out.trans k4 (fun z hz => .inl hz))
          clear f4 k4 C1
          go_wp2_with fail
          go_roundw
          case rel => exact ⟨p, a2, r2, by have := HP2.out; omega, by rw [HM2.out, HMM.out], hS2.out, F4.out, K4.out⟩
          case measure => have := HM2.out; have := HPOS.out; simp [intOf]; omega
end Go.Proofs.Ytgcnccfmfnifbaa
