/- The order is a weak one; inOrder, Sorted, Merge; the law's examples. -/
import Derived.Test.YtiebmjdclicheaaMK
set_option linter.unusedVariables false
set_option linter.unusedSimpArgs false
namespace Go.Proofs.Ytiebmjdclicheaa
open Go.RowKit

theorem bef_iff (k : Int) (a b : R4) : bef k a b = true ↔ (if k = 1 then a.w < b.w else if k = 2 then a.t < b.t else mn a.u a.v < mn b.u b.v ∨ (mn a.u a.v = mn b.u b.v ∧ mx a.u a.v < mx b.u b.v)) := by
  by_cases h1 : k = 1
  · rw [if_pos h1]; unfold bef cmpF; rw [if_pos h1, sgn_neg]; simp
  · rw [if_neg h1]
    by_cases h2 : k = 2
    · rw [if_pos h2]; unfold bef cmpF; rw [if_neg h1, if_pos h2, sgn_neg]; simp
    · rw [if_neg h2, bef_pair h1 h2]; simp
theorem bef_no (k : Int) (a b : R4) : bef k a b = false ↔ ¬ (if k = 1 then a.w < b.w else if k = 2 then a.t < b.t else mn a.u a.v < mn b.u b.v ∨ (mn a.u a.v = mn b.u b.v ∧ mx a.u a.v < mx b.u b.v)) := by
  rw [← bef_iff]; simp
theorem bef_weak (k : Int) : Weak (bef k) where
  asym a b h := by
    rw [bef_iff] at h; rw [bef_no]
    by_cases h1 : k = 1
    · simp only [if_pos h1] at h ⊢; omega
    · by_cases h2 : k = 2
      · simp only [if_neg h1, if_pos h2] at h ⊢; omega
      · simp only [if_neg h1, if_neg h2] at h ⊢; omega
  nt a b c h g := by
    rw [bef_no] at h g ⊢
    by_cases h1 : k = 1
    · simp only [if_pos h1] at h g ⊢; omega
    · by_cases h2 : k = 2
      · simp only [if_neg h1, if_pos h2] at h g ⊢; omega
      · simp only [if_neg h1, if_neg h2] at h g ⊢; omega
theorem Weak.pull {α β : Type} {bf : α → α → Bool} (h : Weak bf) (g : β → α) : Weak fun i j => bf (g i) (g j) := ⟨fun a b => h.asym _ _, fun a b c => h.nt _ _ _⟩
theorem bfI_weak (k : Int) (l : List R4) : Weak (bfI k l) := (bef_weak k).pull fun i : Int => l.getD i.toNat zz
/-- are the records in order -/
def inO (k : Int) (l : List R4) : Bool := inv (bef k) l == 0
theorem inO_iff {k : Int} {l : List R4} : inO k l = true ↔ Orr (bef k) l := by rw [← inv_ord]; simp [inO]
theorem rdr_at {w : World} {p : Option Addr} {l : List R4} (h : RdR w p l) (h0 : l ≠ []) : ∃ b off, p = some ⟨b, off, none⟩ ∧ b < w.heap.size ∧ ∀ i, i < l.length → At4 w b (off + i * 4) (l.getD i zz) := by
  rcases h with h | ⟨b, off, rfl, hb, hc⟩
  · exact absurd h h0
  · exact ⟨b, off, rfl, hb, fun i hi => hc i _ (by simp [List.getD, hi])⟩
set_option maxRecDepth 100000 in
set_option maxHeartbeats 8000000 in
theorem inOrder_t {w : World} {p : Option Addr} {c : Nat} {l : List R4} {k : Int} (hn : l.length ≤ 65536) (hr : RdR w p l) :
    Calls Try.prog 38 #[.slice p l.length c, .int .i64 k] w fun e w' => e = .returned (.bool (inO k l)) ∧ Kp [] w w' := by
  have BW := hide (bef_weak k)
  have HN := hide hn
  have HR := hide hr
  obtain ⟨n, hnn⟩ : ∃ n, n = l.length := ⟨_, rfl⟩
  have HNN := hide hnn
  have CQ := hide (fun a b => compare_t a b k)
  rw [← hnn]
  clear hn hr hnn
  go_enter Try.func38, Try.ntmps38
  go_wp2_with fail
  go_loopw [5] (fun i wr => ∃ K : Nat, 1 ≤ K ∧ i = .int .i64 (K : Int) ∧ Hid (∀ j a b, j + 1 < K → l[j]? = some a → l[j + 1]? = some b → bef k b a = false) ∧ Hid (Kp [] w wr)) (fun i _ => n - (intOf i).toNat)
  case atStart => exact ⟨1, Nat.le_refl _, rfl, fun j a b h => absurd h (by omega), Kp.refl _ _⟩
  case round =>
    obtain ⟨K, hk, rfl, hO, hK⟩ := hrel
    by_cases hlt : K < n
    · have dk : decide ((K : Int) < (n : Int)) = true := by simpa using hlt
      have dk' : decide (K < n) = true := by simpa using hlt
      have wK : IntKind.i64.wrap ((K : Int) + 1) = (K : Int) + 1 := by have := HN.out; have := HNN.out; rw [IntKind.wrap_i64]; omega
      obtain ⟨J, hJ⟩ : ∃ J, K = J + 1 := ⟨K - 1, by omega⟩
      have wJ : IntKind.i64.wrap ((K : Int) - 1) = (J : Int) := by have := HN.out; have := HNN.out; rw [IntKind.wrap_i64]; omega
      have bK : (K : Int) < (n : Int) := by omega
      have bJ : (J : Int) < (n : Int) := by omega
      have lK : K < n := hlt
      have lJ : J < n := by omega
      obtain ⟨b, off, rfl, hb, hat⟩ := rdr_at (HR.out.below hK.out) (by intro e; rw [e] at HNN; have := HNN.out; simp at this; omega)
      have gK : l[K]? = some (l.getD K zz) := by have := HNN.out; simp [List.getD, show K < l.length by omega]
      have gJ : l[J]? = some (l.getD J zz) := by have := HNN.out; simp [List.getD, show J < l.length by omega]
      have aK := hat K (by rw [← HNN.out]; omega)
      have aJ := hat J (by rw [← HNN.out]; omega)
      obtain ⟨x, hx⟩ : ∃ x, x = l.getD K zz := ⟨_, rfl⟩
      obtain ⟨y, hy⟩ : ∃ y, y = l.getD J zz := ⟨_, rfl⟩
      rw [← hx] at gK aK
      rw [← hy] at gJ aJ
      have HGK := hide gK
      have HGJ := hide gJ
      have HJ := hide hJ
      obtain ⟨w2, hw2⟩ : ∃ w2 : World, w2 = wr.drew := ⟨_, rfl⟩
      have k0 : Kp [] wr w2 := by rw [hw2]; exact Kp.drewN [] wr 1
      have hw2' : ({ wr with drawn := wr.drawn + 1 } : World) = w2 := hw2.symm
      obtain ⟨a1, a2, a3, a4⟩ : At4 w2 b (off + K * 4) x := by rw [hw2]; exact aK
      obtain ⟨b1, b2, b3, b4⟩ : At4 w2 b (off + J * 4) y := by rw [hw2]; exact aJ
      have K0 := hide (hK.out.trans0 k0)
      clear aK aJ gK gJ hx hy hw2 k0 hat hb hlt hJ
      have CC := hide (fun W => CQ.out x y W)
      unfold R4.val at CC
      by_cases hbf : bef k x y = true
      · have F := hide (show inO k l = false by
          cases e : inO k l with
          | false => rfl
          | true => have q := ord_at (inO_iff.1 e) (show J < K by have := HJ.out; omega) HGJ.out HGK.out; rw [hbf] at q; exact q)
        unfold bef at hbf
        generalize cmpF k x y = z at *
        go_wp2_with fail
        refine wp_region_still_tail 10 (by kernel_rfl) (by kernel_rfl) ?_
        simp only [List.take_succ_cons, List.take_zero, List.drop_succ_cons, List.drop_zero]
        rw [hw2']
        clear hw2'
        repeat still_step
        refine wpStill_nil ?_
        go_wp2_with fail
        refine (CC.out _).mono ?_
        rintro e w3 ⟨rfl, k1⟩
        have K1 := hide (K0.out.trans0 k1)
        clear k1 a1 a2 a3 a4 b1 b2 b3 b4
        go_wp2_with fail
        go_ret
        exact ⟨by rw [F.out] <;> rfl, K1.out⟩
      · have hbf' : bef k x y = false := by simpa using hbf
        have F := hide hbf'
        unfold bef at hbf'
        clear hbf
        generalize cmpF k x y = z at *
        go_wp2_with fail
        refine wp_region_still_tail 10 (by kernel_rfl) (by kernel_rfl) ?_
        simp only [List.take_succ_cons, List.take_zero, List.drop_succ_cons, List.drop_zero]
        rw [hw2']
        clear hw2'
        repeat still_step
        refine wpStill_nil ?_
        go_wp2_with fail
        refine (CC.out _).mono ?_
        rintro e w3 ⟨rfl, k1⟩
        have K1 := hide (K0.out.trans0 k1)
        clear k1 a1 a2 a3 a4 b1 b2 b3 b4
        go_wp2_with fail
        go_roundw
        case rel => exact ⟨K + 1, by omega, by go_num, fun j a b hj ha hb => by
          by_cases e : j + 1 < K
          · exact hO.out j a b e ha hb
          · have e1 : j = J := by have := HJ.out; omega
            have e2 : j + 1 = K := by have := HJ.out; omega
            subst e1
            rw [e2] at hb
            rw [HGJ.out] at ha
            rw [HGK.out] at hb
            cases ha; cases hb
            exact F.out, K1.out⟩
        case measure => simp [intOf]; omega
    · have dk : decide ((K : Int) < (n : Int)) = false := by simpa using hlt
      have dk' : decide (K < n) = false := by simpa using hlt
      have F := hide (show inO k l = true by
        rw [inO_iff]
        refine ord_next BW.out l fun i a b ha hb => hO.out i a b ?_ ha hb
        have := (List.getElem?_eq_some_iff.1 hb).1
        have := HNN.out
        omega)
      go_wp2_with fail
      go_ret
      exact ⟨by rw [F.out] <;> rfl, hK.out⟩
def sorE (k : Int) (l : List R4) : Bool := if chk l.length k = 0 then inO k l else false
set_option maxRecDepth 100000 in
set_option maxHeartbeats 4000000 in
theorem sortedP_t {w : World} {p : Option Addr} {c : Nat} {l : List R4} {k : Int} (hr : RdR w p l) :
    Calls Try.prog 23 #[.slice p l.length c, .int .i64 k] w fun e w' => e = .returned (.tuple #[.bool (sorE k l), .int .i64 (chk l.length k)]) ∧ Kp [] w w' := by
  have CH := hide (check_t l.length k w)
  unfold sorE
  by_cases h0 : chk l.length k = 0
  · have IO := hide (inOrder_t (c := c) (k := k) (chk_zero h0).2 hr)
    rw [h0] at CH ⊢
    rw [if_pos rfl]
    generalize l.length = n at *
    clear h0 hr
    go_enter Try.func23, Try.ntmps23
    go_wp2_with fail
    refine CH.out.mono ?_
    rintro e w' ⟨rfl, rfl⟩
    go_wp2_with fail
    refine IO.out.mono ?_
    rintro e w1 ⟨rfl, k1⟩
    have K1 := hide k1
    clear k1 IO CH
    go_wp2_with fail
    go_ret2
    exact ⟨rfl, K1.out⟩
  · rw [if_neg h0]
    have d := neq0 h0
    generalize chk l.length k = z at *
    generalize l.length = n at *
    clear hr h0
    go_enter Try.func23, Try.ntmps23
    go_wp2_with fail
    refine CH.out.mono ?_
    rintro e w' ⟨rfl, rfl⟩
    go_wp2_with fail
    go_ret2
    exact ⟨rfl, Kp.refl _ _⟩
end Go.Proofs.Ytiebmjdclicheaa
