/- check for any list, Sort and Perm. -/
import Derived.Test.YtiebmjdclicheaaMI
import Derived.Test.YtiebmjdclicheaaMJ
import Derived.Test.YtiebmjdclicheaaMS
import Derived.Test.YtiebmjdclicheaaFv
set_option linter.unusedVariables false
set_option linter.unusedSimpArgs false
namespace Go.Proofs.Ytiebmjdclicheaa
open Go.RowKit

def KOK (k : Int) : Prop := k = 1 ∨ k = 2 ∨ k = 3
instance (k : Int) : Decidable (KOK k) := by unfold KOK; exact inferInstance
/-- the error of a call with n records -/
def chk (n : Nat) (k : Int) : Int := if KOK k then (if n ≤ 65536 then 0 else 16) else 2
theorem chk_ok {n : Nat} {k : Int} (h : KOK k) (hn : n ≤ 65536) : chk n k = 0 := by unfold chk; rw [if_pos h, if_pos hn]
theorem chk_zero {n : Nat} {k : Int} (h : chk n k = 0) : KOK k ∧ n ≤ 65536 := by
  unfold chk at h
  split at h
  · next h1 => split at h
               · next h2 => exact ⟨h1, h2⟩
               · cases h
  · cases h
theorem check_t (n : Nat) (k : Int) (w : World) : Calls Try.prog 29 #[.int .i64 (n : Int), .int .i64 k] w fun e w' => e = .returned (.int .i64 (chk n k)) ∧ w = w' := by
  by_cases hk : KOK k
  · by_cases hn : n ≤ 65536
    · rw [chk_ok hk hn]; exact check_ok n k hn hk w
    · have e : chk n k = 16 := by unfold chk; rw [if_pos hk, if_neg hn]
      rw [e]
      have d : decide ((65536 : Int) < (n : Int)) = true := by simp; omega
      rcases hk with rfl | rfl | rfl
      all_goals
        clear hn e
        go_enter Try.func29, Try.ntmps29
        go_wp2_with fail
        go_ret
        exact ⟨rfl, rfl⟩
  · have e : chk n k = 2 := by unfold chk; rw [if_neg hk]
    rw [e]
    exact check_arg n k hk w
/-- the records in order, or none -/
def sortA (k : Int) (l : List R4) : List R4 := if chk l.length k = 0 then (srt (bef k) l.length l).1 else []
theorem sortA_ok {k : Int} {l : List R4} (h : chk l.length k = 0) : sortA k l = (srt (bef k) l.length l).1 := by unfold sortA; rw [if_pos h]
theorem sortA_no {k : Int} {l : List R4} (h : chk l.length k ≠ 0) : sortA k l = [] := by unfold sortA; rw [if_neg h]
theorem neq0 {z : Int} (h : z ≠ 0) : (z != 0) = true := by simpa using h
set_option maxRecDepth 100000 in
set_option maxHeartbeats 4000000 in
theorem sortP_t {w : World} {p : Option Addr} {c : Nat} {l : List R4} {k : Int} (hc : l.length ≤ c ∧ c ≤ maxLen) (hr : RdR w p l) :
    Calls Try.prog 16 #[.slice p l.length c, .int .i64 k] w fun e w' => ∃ v, e = .returned (.tuple #[v, .int .i64 (chk l.length k)]) ∧ w'.ownsRow w.heap.size 24 4 v (sortA k l).length (rows (sortA k l)) ∧ Kp [] w w' := by
  have CH := hide (check_t l.length k w)
  by_cases h0 : chk l.length k = 0
  · obtain ⟨hk, hn⟩ := chk_zero h0
    rw [sortA_ok h0, srt_len]
    rw [h0] at CH ⊢
    have RC := hide (records_t k w)
    have SO := hide (fun (kb : Nat) (w1 : World) (hb : w1.heap[kb]? = some (.cells #[.int .i64 k] 25 (0, 0))) (k1 : Kp [] w w1) =>
      sortR_t (bf := bef k) (w0 := w1) (k := 44) (cap := #[.pointer (some ⟨kb, 0, none⟩)]) (l0 := l) enters_r (fun W kW x y _ _ => recs1_t y x k (kW.blk hb (by simp))) l.length l w1 p c (Nat.le_refl _) hn hc.1 hc.2 (fun x hx => hx) (Kp.refl _ _) (hr.below k1))
    generalize l.length = n at *
    clear hk hn hc hr h0
    go_enter Try.func16, Try.ntmps16
    go_wp2_with fail
    refine CH.out.mono ?_
    rintro e w' ⟨rfl, rfl⟩
    go_wp2_with fail
    refine RC.out.mono ?_
    rintro e w1 ⟨kb, rfl, hb, k1⟩
    have S1 := hide (SO.out kb w1 hb k1)
    have K1 := hide k1
    clear hb k1 SO RC CH
    go_wp2_with fail
    refine S1.out.mono ?_
    rintro e w2 ⟨v, rfl, r, k2⟩
    have K2 := hide (K1.out.trans0 k2)
    have R2 := hide (row_mono r K1.out.size)
    clear k2 S1 r
    go_wp2_with fail
    go_ret2
    exact ⟨_, rfl, R2.out, K2.out⟩
  · rw [sortA_no h0]
    have d := neq0 h0
    generalize chk l.length k = z at *
    generalize l.length = n at *
    clear hc hr h0
    go_enter Try.func16, Try.ntmps16
    go_wp2_with fail
    refine CH.out.mono ?_
    rintro e w' ⟨rfl, rfl⟩
    go_wp2_with fail
    go_ret2
    exact ⟨_, rfl, World.ownsRow_nil _ _ _ _, Kp.refl _ _⟩
def zz : R4 := ⟨0, 0, 0, 0⟩
/-- which of two indexes is before the other -/
def bfI (k : Int) (l : List R4) (i j : Int) : Bool := bef k (l.getD i.toNat zz) (l.getD j.toNat zz)
def idx (n : Nat) : List Int := (List.range n).map fun i : Nat => (i : Int)
theorem idx_len (n : Nat) : (idx n).length = n := by simp [idx]
theorem idx_row (n : Nat) : (idx n).map encI = rowV n (fun i => .int .i64 (i : Int)) := by simp [idx, rowV, encI, Function.comp_def]
theorem idx_mem {n : Nat} {x : Int} (h : x ∈ idx n) : ∃ i : Nat, i < n ∧ x = (i : Int) := by
  simp [idx] at h
  obtain ⟨i, hi, rfl⟩ := h
  exact ⟨i, hi, rfl⟩
def permA (k : Int) (l : List R4) : List Int := if chk l.length k = 0 then (srt (bfI k l) l.length (idx l.length)).1 else []
theorem permA_ok {k : Int} {l : List R4} (h : chk l.length k = 0) : permA k l = (srt (bfI k l) l.length (idx l.length)).1 := by unfold permA; rw [if_pos h]
theorem permA_no {k : Int} {l : List R4} (h : chk l.length k ≠ 0) : permA k l = [] := by unfold permA; rw [if_neg h]
def idk (k i : Nat) : Value := .int .i64 (if i < k then (i : Int) else 0)
theorem idk_next (n k : Nat) : rowV n (updV (idk k) k (.int .i64 (k : Int))) = rowV n (idk (k + 1)) := rowV_congr fun i _ => by
  unfold updV idk
  by_cases h : i = k
  · subst h; simp
  · rw [if_neg h]; congr 1; split <;> split <;> omega
set_option maxRecDepth 100000 in
set_option maxHeartbeats 8000000 in
theorem permP_t {w : World} {p : Option Addr} {c : Nat} {l : List R4} {k : Int} (hc : l.length ≤ c ∧ c ≤ maxLen) (hr : RdR w p l) :
    Calls Try.prog 18 #[.slice p l.length c, .int .i64 k] w fun e w' => ∃ v, e = .returned (.tuple #[v, .int .i64 (chk l.length k)]) ∧ w'.ownsRow w.heap.size 3 1 v (permA k l).length ((permA k l).map encI) ∧ Kp [] w w' := by
  have CH := hide (check_t l.length k)
  by_cases h0 : chk l.length k = 0
  · obtain ⟨hk, hn⟩ := chk_zero h0
    rw [permA_ok h0, srt_len, idx_len]
    rw [h0] at CH ⊢
    have hm : ∀ w : World, (Instr.makeSlice 35 (.int .i64 (l.length : Int)) (.int .i64 (l.length : Int))).run Try.prog w = .ok (.slice (some ⟨w.heap.size, 0, none⟩) l.length l.length) (w.alloc (.cells (madeCells #[.int .i64 0] l.length) 3)) :=
      fun w => run_make_row' 35 3 (.int .i64 0) 8 Try.underlying35 infoN rfl .i64 .i64 l.length (by omega) (by omega) w
    have hmf : ∀ (fn : Fn) (first cap : Array Value) (w : World), (Instr.makeFunc fn first cap).run Try.prog w = .ok (.func fn first cap) w := fun _ _ _ _ => rfl
    have SO := hide (fun (W : World) (kW : Kp [] w W) (lb kb : Nat) (hlb : W.heap[lb]? = some (.cells #[.slice p l.length c] 31 (0, 0))) (hkb : W.heap[kb]? = some (.cells #[.int .i64 k] 25 (0, 0))) (q : Addr) (hq : RdL W (some q) (idx l.length)) =>
      sortI_t (bf := bfI k l) (w0 := W) (k := 36) (cap := #[.pointer (some ⟨lb, 0, none⟩), .pointer (some ⟨kb, 0, none⟩)]) (l0 := idx l.length) enters_p (fun W1 k1 x y hx hy => by
        obtain ⟨i, hi, rfl⟩ := idx_mem hx
        obtain ⟨j, hj, rfl⟩ := idx_mem hy
        rcases hr.below kW with h | ⟨b, off, rfl, hb, hcell⟩
        · rw [h] at hi; simp at hi
        · have at4 : ∀ (i : Nat), i < l.length → ∀ W', Kp [] W1 W' → At4 W' b (off + i * 4) (l.getD i zz) := fun i hi W' k' => by
            have hg : l[i]? = some (l.getD i zz) := by simp [List.getD, hi]
            obtain ⟨a1, a2, a3, a4⟩ := hcell i _ hg
            have kk := k1.trans0 k'
            exact ⟨(kk.at hb _).trans a1, (kk.at hb _).trans a2, (kk.at hb _).trans a3, (kk.at hb _).trans a4⟩
          exact perm1_t (l.getD j zz) (l.getD i zz) k j i hj hi (k1.blk hlb (by simp)) (k1.blk hkb (by simp)) (at4 j hj) (at4 i hi)) l.length (idx l.length) W (some q) l.length (by rw [idx_len]; exact Nat.le_refl _) (by rw [idx_len]; exact hn) (by rw [idx_len]; exact Nat.le_refl _) (by unfold maxLen; omega) (fun x hx => hx) (Kp.refl _ _) hq)
    rw [idx_len] at SO
    have HN := hide hn
    have hs1 : (w.alloc (.cells #[.slice p l.length c] 31)).heap.size = w.heap.size + 1 := by simp
    have hb1 : ((w.alloc (.cells #[.slice p l.length c] 31)).alloc (.cells #[.int .i64 k] 25)).heap[w.heap.size]? = some (.cells #[.slice p l.length c] 31 (0, 0)) := (Kp.alloc _ _).blk (heap_alloc_new _ _) (by simp)
    have hb2 : ((w.alloc (.cells #[.slice p l.length c] 31)).alloc (.cells #[.int .i64 k] 25)).heap[w.heap.size + 1]? = some (.cells #[.int .i64 k] 25 (0, 0)) := by rw [← hs1]; exact heap_alloc_new _ _
    have k2 := (Kp.alloc w (.cells #[.slice p l.length c] 31)).allocK (.cells #[.int .i64 k] 25)
    have hs2 : ((w.alloc (.cells #[.slice p l.length c] 31)).alloc (.cells #[.int .i64 k] 25)).heap.size = w.heap.size + 1 + 1 := by simp
    have HB := hide (And.intro hb1 (And.intro hb2 (And.intro k2 hs2)))
    have HC := hide hc
    clear hk hn hc hr h0 hs1 hb1 hb2 k2 hs2
    generalize l.length = n at *
    go_enter Try.func18, Try.ntmps18
    go_wp2_with fail
    refine (CH.out _).mono ?_
    rintro e w' ⟨rfl, rfl⟩
    go_wp2_with fail
    generalize (w.alloc (.cells #[.slice p n c] 31)).alloc (.cells #[.int .i64 k] 25) = W0 at *
    obtain ⟨hb1, hb2, k2, hs2⟩ := HB.out
    have hN := HN.out
    have R0 := hide (made_full W0 (B := w.heap.size) (by rw [hs2]; omega) n (by unfold maxLen; omega) (.int .i64 0) 3)
    rw [hs2, rowV_congr (g := idk 0) (fun i _ => by simp [idk])] at R0
    have B1 := hide ((Kp.alloc W0 (.cells (madeCells #[.int .i64 0] n) 3)).blk hb1 (by simp))
    have B2 := hide ((Kp.alloc W0 (.cells (madeCells #[.int .i64 0] n) 3)).blk hb2 (by simp))
    have K0 := hide (k2.allocK (.cells (madeCells #[.int .i64 0] n) 3))
    clear hb1 hb2 k2 hs2 HB hN
    generalize W0.alloc (.cells (madeCells #[.int .i64 0] n) 3) = W1 at *
    obtain ⟨gb, hgb⟩ : ∃ g, g = w.heap.size + 1 + 1 := ⟨_, rfl⟩
    obtain ⟨kb, hkb⟩ : ∃ g, g = w.heap.size + 1 := ⟨_, rfl⟩
    have G := hide (show w.heap.size ≤ gb ∧ w.heap.size ≠ gb ∧ kb ≠ gb by omega)
    rw [← hgb, ← hkb]
    rw [← hgb] at R0
    rw [← hkb] at B2
    clear hgb hkb
    go_loopw [23] (fun i wr => ∃ K : Nat, K ≤ n ∧ i = .int .i64 (K : Int) ∧ Hid (wr.ownsRow w.heap.size 3 1 (.slice (some ⟨gb, 0, none⟩) n n) n (rowV n (idk K))) ∧ Hid (wr.heap[w.heap.size]? = some (.cells #[.slice p n c] 31 (0, 0))) ∧ Hid (wr.heap[kb]? = some (.cells #[.int .i64 k] 25 (0, 0))) ∧ Hid (Kp [] w wr)) (fun i _ => n - (intOf i).toNat)
    case atStart => exact ⟨0, Nat.zero_le _, rfl, R0, B1, B2, K0⟩
    case round =>
      obtain ⟨K, hk, rfl, hR, h1, h2, hK⟩ := hrel
      by_cases hlt : K < n
      · have dk : decide ((K : Int) < (n : Int)) = true := by simpa using hlt
        have dk' : decide (K < n) = true := by simpa using hlt
        have wK : IntKind.i64.wrap ((K : Int) + 1) = (K : Int) + 1 := by have := HN.out; rw [IntKind.wrap_i64]; omega
        obtain ⟨_, hpp, e1, f1, _⟩ := row_cell hR.out hlt
        injection hpp with hpp; injection hpp with hpp; subst hpp
        rw [rowV_get _ hlt] at e1
        have N1 := hide (row_putV hR.out K (.int .i64 (K : Int)))
        rw [idk_next] at N1
        have N2 := hide (blk_set (j := K) (u := .int .i64 (K : Int)) h1.out G.out.2.1)
        have N3 := hide (blk_set (j := K) (u := .int .i64 (K : Int)) h2.out G.out.2.2)
        have N4 := hide (hK.out.put gb K (.int .i64 (K : Int)) (.inr G.out.1))
        clear hR h1 h2 hK
        go_wp2_with fail
        go_roundw
        case rel => exact ⟨K + 1, by omega, by go_num, N1, N2, N3, N4⟩
        case measure => simp [intOf]; omega
      · have hK' : K = n := by omega
        subst hK'
        have dk : decide ((K : Int) < (K : Int)) = false := by simp
        have dk' : decide (K < K) = false := by simp
        have R1 := hR.out
        rw [rowV_congr (g := fun i => .int .i64 (i : Int)) (fun i hi => by simp [idk, hi]), ← idx_row] at R1
        have S1 := hide (SO.out wr hK.out w.heap.size kb h1.out h2.out ⟨gb, 0, none⟩ (RdL.row R1).1)
        clear R1 SO h1 h2 hR
        go_wp2_with fail
        refine S1.out.mono ?_
        rintro e w2 ⟨v, rfl, r, k2⟩
        have K2 := hide (hK.out.trans0 k2)
        have R2 := hide (row_mono r hK.out.size)
        clear k2 S1 r
        go_wp2_with fail
        go_ret2
        exact ⟨_, rfl, R2.out, K2.out⟩
  · rw [permA_no h0]
    have d := neq0 h0
    have K2 := hide ((Kp.alloc w (.cells #[.slice p l.length c] 31)).allocK (.cells #[.int .i64 k] 25))
    generalize chk l.length k = z at *
    generalize l.length = n at *
    clear hc hr h0
    go_enter Try.func18, Try.ntmps18
    go_wp2_with fail
    refine (CH.out _).mono ?_
    rintro e w' ⟨rfl, rfl⟩
    go_wp2_with fail
    go_ret2
    exact ⟨_, rfl, World.ownsRow_nil _ _ _ _, K2.out⟩
end Go.Proofs.Ytiebmjdclicheaa
