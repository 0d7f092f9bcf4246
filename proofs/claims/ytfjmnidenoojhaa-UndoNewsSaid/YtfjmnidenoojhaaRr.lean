/- The document's sets: a row of labels described. -/
import Derived.Test.YtfjmnidenoojhaaSz
set_option linter.unusedVariables false
set_option linter.unusedSimpArgs false
namespace Go.Proofs.Ytfjmnidenoojhaa
open Go.RowKit

theorem cnt_low {L : Nat → Nat} {n : Nat} (le : ∀ i, i < n → L i ≤ i) (i : Nat) : ∀ k, k ≤ i → k ≤ n → cnt L i k = 0 := by
  intro k
  induction k with
  | zero => intro _ _; rfl
  | succ k ih =>
    intro h1 h2
    have := le k (by omega)
    simp only [cnt, ih (by omega) (by omega)]
    rw [if_neg (by omega)]
theorem cnt_pos {L : Nat → Nat} {i : Nat} : ∀ m j, j < m → L j = i → 0 < cnt L i m := by
  intro m
  induction m with
  | zero => intro j h; omega
  | succ m ih =>
    intro j hj hl
    simp only [cnt]
    by_cases e : j = m
    · subst e; rw [if_pos hl]; omega
    · have := ih j (by omega) hl; omega
theorem cnt_root {L : Nat → Nat} {n : Nat} (idem : ∀ i, i < n → L (L i) = L i) {i : Nat} (hi : i < n) : (L i = i → 0 < cnt L i n) ∧ (L i ≠ i → cnt L i n = 0) := by
  refine ⟨fun h => cnt_pos n i hi h, fun h => ?_⟩
  apply Classical.byContradiction
  intro e
  obtain ⟨j, hj, hl⟩ := cnt_some n e
  exact h (by rw [← hl]; exact idem j hj)
theorem roots_leq (L : Nat → Nat) : ∀ k, roots L k ≤ k := by
  intro k
  induction k with
  | zero => exact Nat.le_refl _
  | succ k ih => simp only [roots]; split <;> omega
theorem rowV_eq {L : Nat → Nat} {n : Nat} (le : ∀ i, i < n → L i ≤ i) : rowV L n = .agg #[.int .i64 ((maxTo (fun i => cnt L i n) n : Nat) : Int), .int .i64 ((roots L n : Nat) : Int), .int .i64 ((sumTo (fun i => cnt L i n * cnt L i n) n : Nat) : Int)] := by
  have hl : ∀ j, j < n → L j < n := fun j hj => by have := le j hj; omega
  unfold rowV
  rw [max_swap L n hl, sum_swap L (fun i => cnt L i n) n n hl]
  rfl
set_option maxRecDepth 100000 in
set_option maxHeartbeats 16000000 in
theorem row_s (w : World) {B n c : Nat} {p : Option Addr} {L : Nat → Nat} (hr : w.ownsRow B 3 1 (.slice p n c) n (intsF n L)) (hn : n ≤ 65536) (le : ∀ i, i < n → L i ≤ i) (idem : ∀ i, i < n → L (L i) = L i) :
    Calls Try.prog 44 #[.slice p n c] w fun e w' => e = .returned (rowV L n) ∧ Kp [] w w' := by
  have HR := hide hr
  have HN := hide hn
  have HE := hide (rowV_eq le)
  have HLE := hide le
  have HID := hide idem
  clear hr hn le idem
  go_enter Try.func44, Try.ntmps44
  go_wp2_with fail
  obtain ⟨W2, hW2⟩ : ∃ W2, W2 = (w.alloc (.cells #[.int .i64 0, .int .i64 0, .int .i64 0] 40)).alloc (.cells #[.int .i64 0, .int .i64 0, .int .i64 0] 40) := ⟨_, rfl⟩
  have HK2 : Hid (Kp [] w W2) := by rw [hW2]; exact (Kp.alloc (o := []) _ _).trans (Kp.alloc (o := []) _ _) (by simp)
  have HQ2 : Hid (W2.heap[w.heap.size]? = some (.cells #[.int .i64 0, .int .i64 0, .int .i64 0] 40 (0, 0))) := by rw [hW2]; exact (Kp.alloc (o := []) _ _).blk (heap_alloc_new _ _) (by simp)
  have HR2 : Hid (W2.heap[w.heap.size + 1]? = some (.cells #[.int .i64 0, .int .i64 0, .int .i64 0] 40 (0, 0))) := by
    rw [hW2]
    have := heap_alloc_new (w.alloc (.cells #[.int .i64 0, .int .i64 0, .int .i64 0] 40)) (.cells #[.int .i64 0, .int .i64 0, .int .i64 0] 40)
    rw [show (w.alloc (.cells #[.int .i64 0, .int .i64 0, .int .i64 0] 40)).heap.size = w.heap.size + 1 by simp] at this
    exact this
  rw [← hW2]
  obtain ⟨r, hrr⟩ : ∃ r, r = w.heap.size + 1 := ⟨_, rfl⟩
  rw [← hrr] at HR2 ⊢
  have HZR := hide (show w.heap.size < r by omega)
  clear hW2 hrr
  go_loopw [4] (fun i wr => ∃ k : Nat, k ≤ n ∧ i = .int .i64 (k : Int) ∧ Hid (Kp [] w wr) ∧ Hid (wr.heap[r]? = some (.cells #[.int .i64 ((maxTo (fun i => cnt L i n) k : Nat) : Int), .int .i64 ((roots L k : Nat) : Int), .int .i64 ((sumTo (fun i => cnt L i n * cnt L i n) k : Nat) : Int)] 40 (0, 0))) ∧ Hid (wr.heap[w.heap.size]? = some (.cells #[.int .i64 0, .int .i64 0, .int .i64 0] 40 (0, 0)))) (fun i _ => n - (intOf i).toNat)
  case atStart => exact ⟨0, Nat.zero_le _, rfl, HK2, HR2, HQ2⟩
  case round =>
    obtain ⟨k, hk, rfl, hK, hR, hQ⟩ := hrel
    by_cases hlt : k < n
    · have dk : decide ((k : Int) < (n : Int)) = true := by simp; omega
      have dk' : decide (k < n) = true := by simp; omega
      have ww : IntKind.i64.wrap ((k : Int) + 1) = ((k + 1 : Nat) : Int) := by have := HN.out; rw [IntKind.wrap_i64]; omega
      obtain ⟨wo, rfl⟩ : ∃ wo : World, wo = wr := ⟨_, rfl⟩
      have RW := hide (hK.out.row HR.out (by simp))
      go_wp2_with fail
      go_loop [5, 6] (fun z j => ∃ q : Nat, k ≤ q ∧ q ≤ n ∧ j = .int .i64 (q : Int) ∧ z = .int .i64 ((cnt L k q : Nat) : Int)) (fun _ j => n - (intOf j).toNat)
      case atStart => exact ⟨k, Nat.le_refl _, hk, rfl, by rw [cnt_low HLE.out k k (Nat.le_refl _) hk]; rfl⟩
      case round =>
        obtain ⟨q, hq1, hq2, rfl, rfl⟩ := hrel
        by_cases hqn : q < n
        · have dq : decide ((q : Int) < (n : Int)) = true := by simp; omega
          have dq' : decide (q < n) = true := by simp; omega
          have wq : IntKind.i64.wrap ((q : Int) + 1) = ((q + 1 : Nat) : Int) := by have := HN.out; rw [IntKind.wrap_i64]; omega
          obtain ⟨gP, rfl, e1, f1, _⟩ := row_cell RW.out hqn
          rw [intsF_get L hqn] at e1
          have cb := cnt_le L k q
          have NC := hide (show cnt L k (q + 1) = cnt L k q + if L q = k then 1 else 0 from rfl)
          by_cases he : L q = k
          · rw [he] at e1
            rw [if_pos he] at NC
            clear he
            generalize cnt L k q = z at *
            obtain ⟨z1, hz1⟩ : ∃ z1, z1 = z + 1 := ⟨_, rfl⟩
            have az : (z : Int) + 1 = (z1 : Int) := by omega
            have wz : IntKind.i64.wrap (z1 : Int) = (z1 : Int) := by have := HN.out; rw [IntKind.wrap_i64]; omega
            rw [← hz1] at NC
            clear hz1 cb
            go_wp2_with fail
            go_round
            case rel => exact ⟨q + 1, by omega, by omega, by first | rfl | go_num, by rw [NC.out]⟩
            case measure => simp [intOf]; omega
          · have ne : ((L q : Int) == (k : Int)) = false := by simp; omega
            rw [if_neg he] at NC
            clear he cb
            generalize L q = lq at *
            generalize cnt L k q = z at *
            go_wp2_with fail
            go_round
            case rel => exact ⟨q + 1, by omega, by omega, by first | rfl | go_num, by rw [NC.out]; rfl⟩
            case measure => simp [intOf]; omega
        · have : q = n := by omega
          subst this
          have dq : decide ((q : Int) < (q : Int)) = false := by simp
          have dq' : decide (q < q) = false := by simp
          have CR := cnt_root HID.out hlt
          have cb := cnt_le L k q
          have S1 := sumTo_le (g := fun i => cnt L i q * cnt L i q) (b := 65536 * 65536) k (fun i _ => Nat.mul_le_mul (Nat.le_trans (cnt_le L i q) HN.out) (Nat.le_trans (cnt_le L i q) HN.out))
          have S2 := Nat.mul_le_mul (Nat.le_trans cb HN.out) (Nat.le_trans cb HN.out)
          have S3 := Nat.mul_le_mul (show k ≤ 65536 by have := HN.out; omega) (Nat.le_refl (65536 * 65536))
          have rb := roots_leq L k
          have NM := hide (show maxTo (fun i => cnt L i q) (k + 1) = max (maxTo (fun i => cnt L i q) k) (cnt L k q) from rfl)
          have NC := hide (show roots L (k + 1) = roots L k + if L k = k then 1 else 0 from rfl)
          have NS := hide (show sumTo (fun i => cnt L i q * cnt L i q) (k + 1) = sumTo (fun i => cnt L i q * cnt L i q) k + cnt L k q * cnt L k q from rfl)
          have CR' := CR
          generalize maxTo (fun i => cnt L i q) k = mx at *
          generalize roots L k = rt at *
          generalize sumTo (fun i => cnt L i q * cnt L i q) k = sq at *
          generalize cnt L k q = z at *
          obtain ⟨s2, hs2⟩ : ∃ s2, s2 = z * z := ⟨_, rfl⟩
          have mulc : (z : Int) * (z : Int) = (s2 : Int) := by rw [hs2, Int.natCast_mul]
          have wm : IntKind.i64.wrap (s2 : Int) = (s2 : Int) := by rw [IntKind.wrap_i64]; omega
          obtain ⟨t, ht⟩ : ∃ t, t = sq + s2 := ⟨_, rfl⟩
          have addc : (sq : Int) + (s2 : Int) = (t : Int) := by omega
          have wa : IntKind.i64.wrap (t : Int) = (t : Int) := by rw [IntKind.wrap_i64]; omega
          obtain ⟨rt1, hrt⟩ : ∃ x, x = rt + 1 := ⟨_, rfl⟩
          have ac : (rt : Int) + 1 = (rt1 : Int) := by omega
          have wc : IntKind.i64.wrap (rt1 : Int) = (rt1 : Int) := by have := HN.out; rw [IntKind.wrap_i64]; omega
          rw [← hs2, ← ht] at NS
          have r0 : wo.cell? ⟨r, 0, none⟩ = some (.int .i64 (mx : Int)) := by simp [cell_of_blk hR.out]
          have r1 : wo.cell? ⟨r, 1, none⟩ = some (.int .i64 (rt : Int)) := by simp [cell_of_blk hR.out]
          have r2 : wo.cell? ⟨r, 2, none⟩ = some (.int .i64 (sq : Int)) := by simp [cell_of_blk hR.out]
          have f0 : wo.frozen? ⟨r, 0, none⟩ = false := free_of_blk hR.out 0
          have f1 : wo.frozen? ⟨r, 1, none⟩ = false := free_of_blk hR.out 1
          have f2 : wo.frozen? ⟨r, 2, none⟩ = false := free_of_blk hR.out 2
          have HQ := hide hQ.out
          have HRR := hide hR.out
          have HKK := hide hK.out
          clear S1 S2 S3 hs2 ht cb rb hQ hR hK CR
          by_cases hroot : L k = k
          · have zp := CR'.1 hroot
            have dz : decide ((0 : Int) < (z : Int)) = true := by simp; omega
            have dz' : decide (0 < z) = true := by simp; omega
            rw [if_pos hroot, ← hrt] at NC
            clear CR' hroot hrt
            rcases Nat.lt_or_ge mx z with hm | hm
            · have dm : decide ((mx : Int) < (z : Int)) = true := by simp; omega
              have dm' : decide (mx < z) = true := by simp; omega
              rw [show max mx z = z by omega] at NM
              have R1 := heap_setCell_same wo r 1 _ _ (.int .i64 (rt1 : Int)) HRR.out
              have R2 := heap_setCell_same _ r 0 _ _ (.int .i64 (z : Int)) R1
              have R3 := hide (heap_setCell_same _ r 2 _ _ (.int .i64 (t : Int)) R2)
              have K3 := hide (((HKK.out.set_new (Nat.le_of_lt HZR.out) 1 (.int .i64 (rt1 : Int))).set_new (Nat.le_of_lt HZR.out) 0 (.int .i64 (z : Int))).set_new (Nat.le_of_lt HZR.out) 2 (.int .i64 (t : Int)))
              have Q3 := hide ((Kp.set (o := [r]) _ ⟨r, 2, none⟩ (.int .i64 (t : Int)) (by simp)).blk ((Kp.set (o := [r]) _ ⟨r, 0, none⟩ (.int .i64 (z : Int)) (by simp)).blk ((Kp.set (o := [r]) wo ⟨r, 1, none⟩ (.int .i64 (rt1 : Int)) (by simp)).blk HQ.out (by have := HZR.out; simp; omega)) (by have := HZR.out; simp; omega)) (by have := HZR.out; simp; omega))
              clear R1 R2 hm
              go_wp2_with fail
              go_roundw
              case rel => exact ⟨k + 1, by omega, by first | rfl | go_num, K3, by rw [NM.out, NC.out, NS.out]; exact R3, Q3⟩
              case measure => simp [intOf]; omega
            · have dm : decide ((mx : Int) < (z : Int)) = false := by simp; omega
              have dm' : decide (mx < z) = false := by simp; omega
              rw [show max mx z = mx by omega] at NM
              have R1 := heap_setCell_same wo r 1 _ _ (.int .i64 (rt1 : Int)) HRR.out
              have R3 := hide (heap_setCell_same _ r 2 _ _ (.int .i64 (t : Int)) R1)
              have K3 := hide ((HKK.out.set_new (Nat.le_of_lt HZR.out) 1 (.int .i64 (rt1 : Int))).set_new (Nat.le_of_lt HZR.out) 2 (.int .i64 (t : Int)))
              have Q3 := hide ((Kp.set (o := [r]) _ ⟨r, 2, none⟩ (.int .i64 (t : Int)) (by simp)).blk ((Kp.set (o := [r]) wo ⟨r, 1, none⟩ (.int .i64 (rt1 : Int)) (by simp)).blk HQ.out (by have := HZR.out; simp; omega)) (by have := HZR.out; simp; omega))
              clear R1 hm
              go_wp2_with fail
              go_roundw
              case rel => exact ⟨k + 1, by omega, by first | rfl | go_num, K3, by rw [NM.out, NC.out, NS.out]; exact R3, Q3⟩
              case measure => simp [intOf]; omega
          · have zp := CR'.2 hroot
            have dz : decide ((0 : Int) < (z : Int)) = false := by simp; omega
            have dz' : decide (0 < z) = false := by simp; omega
            have dm : decide ((mx : Int) < (z : Int)) = false := by simp; omega
            have dm' : decide (mx < z) = false := by simp; omega
            rw [if_neg hroot] at NC
            rw [show max mx z = mx by omega] at NM
            have R3 := hide (heap_setCell_same wo r 2 _ _ (.int .i64 (t : Int)) HRR.out)
            have K3 := hide (HKK.out.set_new (Nat.le_of_lt HZR.out) 2 (.int .i64 (t : Int)))
            have Q3 := hide ((Kp.set (o := [r]) wo ⟨r, 2, none⟩ (.int .i64 (t : Int)) (by simp)).blk HQ.out (by have := HZR.out; simp; omega))
            clear CR' hroot zp hrt ac wc
            go_wp2_with fail
            go_roundw
            case rel => exact ⟨k + 1, by omega, by first | rfl | go_num, K3, by rw [NM.out, NC.out, NS.out]; exact R3, Q3⟩
            case measure => simp [intOf]; omega
    · have : k = n := by omega
      subst this
      have dk : decide ((k : Int) < (k : Int)) = false := by simp
      have dk' : decide (k < k) = false := by simp
      have r0 : wr.cell? ⟨r, 0, none⟩ = some (.int .i64 ((maxTo (fun i => cnt L i k) k : Nat) : Int)) := by simp [cell_of_blk hR.out]
      have r1 : wr.cell? ⟨r, 1, none⟩ = some (.int .i64 ((roots L k : Nat) : Int)) := by simp [cell_of_blk hR.out]
      have r2 : wr.cell? ⟨r, 2, none⟩ = some (.int .i64 ((sumTo (fun i => cnt L i k * cnt L i k) k : Nat) : Int)) := by simp [cell_of_blk hR.out]
      have z0 : wr.cell? ⟨w.heap.size, 0, none⟩ = some (.int .i64 0) := by simp [cell_of_blk hQ.out]
      have z1 : wr.cell? ⟨w.heap.size, 1, none⟩ = some (.int .i64 0) := by simp [cell_of_blk hQ.out]
      have z2 : wr.cell? ⟨w.heap.size, 2, none⟩ = some (.int .i64 0) := by simp [cell_of_blk hQ.out]
      have y0 : wr.frozen? ⟨w.heap.size, 0, none⟩ = false := free_of_blk hQ.out 0
      have y1 : wr.frozen? ⟨w.heap.size, 1, none⟩ = false := free_of_blk hQ.out 1
      have y2 : wr.frozen? ⟨w.heap.size, 2, none⟩ = false := free_of_blk hQ.out 2
      go_wp2_with fail
      rw [HE.out]
      refine bodyPost_ret (v := .agg #[.int .i64 ((maxTo (fun i => cnt L i k) k : Nat) : Int), .int .i64 ((roots L k : Nat) : Int), .int .i64 ((sumTo (fun i => cnt L i k * cnt L i k) k : Nat) : Int)]) (by simp [results, Try.results44, go_sem, z0, z1, z2]) rfl ⟨rfl, ?_⟩
      exact ((hK.out.set_new (Nat.le_refl _) _ _).set_new (Nat.le_refl _) _ _).set_new (Nat.le_refl _) _ _
end Go.Proofs.Ytfjmnidenoojhaa
