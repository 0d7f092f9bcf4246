/- The specification's Quantile; both filled. -/
import Derived.Test.YtenoalfjobghnaaHU
import Derived.Test.YtenoalfjobghnaaS12
set_option linter.unusedVariables false
set_option linter.unusedSimpArgs false
namespace Go.Proofs.Ytenoalfjobghnaa
open Go.RowKit

theorem ceil_le {s n tot : Int} {d : Nat} (hd : 1 ≤ d) : -((-n * tot) / (d : Int)) ≤ s ↔ n * tot ≤ s * (d : Int) := by
  rw [Int.neg_mul]
  have h := Int.le_ediv_iff_mul_le (a := -s) (b := -(n * tot)) (c := (d : Int)) (by omega)
  rw [Int.neg_mul] at h
  generalize -(n * tot) / (d : Int) = Z at h ⊢
  generalize s * (d : Int) = P at h ⊢
  generalize n * tot = Q at h ⊢
  constructor
  · intro q; have := h.1 (by omega); omega
  · intro q; have := h.2 (by omega); omega
section
variable {S : Nat} {w : World} {a : Id} {m : Nat} {V C : Nat → Int} (G : RI S w a m V C)
include G
theorem rquantile_arg (n d : Int) (no : n < 0 ∨ d < 1 ∨ d < n) :
    Calls Try.prog 24 #[.pointer (some ⟨a.b, 0, none⟩), .int .i64 n, .int .i64 d] w fun e w' => e = .returned (.tuple #[.int .i64 0, .int .i64 2]) ∧ Kp [] w w' := by
  have H := hide (rvalid_t G.M.c.1)
  clear G
  by_cases h1 : n < 0
  · have e1 : decide (n < 0) = true := by simpa using h1
    clear no h1
    go_enter Try.func24, Try.ntmps24
    go_wp2_with fail
    refine H.out.mono ?_
    rintro e w' ⟨rfl, rfl⟩
    go_wp2_with fail
    go_ret2
    exact ⟨rfl, Kp.refl _ _⟩
  · have e1 : decide (n < 0) = false := by simpa using h1
    by_cases h2 : d < 1
    · have e2 : decide (d < 1) = true := by simpa using h2
      clear no h1 h2
      go_enter Try.func24, Try.ntmps24
      go_wp2_with fail
      refine H.out.mono ?_
      rintro e w' ⟨rfl, rfl⟩
      go_wp2_with fail
      go_ret2
      exact ⟨rfl, Kp.refl _ _⟩
    · have e2 : decide (d < 1) = false := by simpa using h2
      have e3 : decide (d < n) = true := by simp; omega
      clear no h1 h2
      go_enter Try.func24, Try.ntmps24
      go_wp2_with fail
      refine H.out.mono ?_
      rintro e w' ⟨rfl, rfl⟩
      go_wp2_with fail
      go_ret2
      exact ⟨rfl, Kp.refl _ _⟩
theorem rquantile_none (n d : Int) (n0 : 0 ≤ n) (d0 : 1 ≤ d) (nd : n ≤ d) (z : sumI C (m + 1) = 0) :
    Calls Try.prog 24 #[.pointer (some ⟨a.b, 0, none⟩), .int .i64 n, .int .i64 d] w fun e w' => e = .returned (.tuple #[.int .i64 0, .int .i64 5]) ∧ Kp [] w w' := by
  have H := hide (rvalid_t G.M.c.1)
  have T := hide (rtotal_t G.M G.hm G.nn G.top)
  rw [z] at T
  have e1 : decide (n < 0) = false := by simp; omega
  have e2 : decide (d < 1) = false := by simp; omega
  have e3 : decide (d < n) = false := by simp; omega
  clear G z n0 d0 nd
  go_enter Try.func24, Try.ntmps24
  go_wp2_with fail
  refine H.out.mono ?_
  rintro e w' ⟨rfl, rfl⟩
  go_wp2_with fail
  refine T.out.mono ?_
  rintro e w' ⟨rfl, rfl⟩
  go_wp2_with fail
  go_ret2
  exact ⟨rfl, Kp.refl _ _⟩
set_option maxRecDepth 100000 in
set_option maxHeartbeats 4000000 in
theorem rquantile_t {n d : Int} (n0 : 0 ≤ n) (d0 : 1 ≤ d) (nd : n ≤ d) (n1 : I64 n) (d1 : I64 d) (tp : sumI C (m + 1) ≠ 0) {r : Nat} (hq : Qt C m n d r) :
    Calls Try.prog 24 #[.pointer (some ⟨a.b, 0, none⟩), .int .i64 n, .int .i64 d] w fun e w' => e = .returned (.tuple #[.int .i64 (r : Int), .int .i64 0]) ∧ Kp [] w w' := by
  have HG' := hide G
  have HQ := hide hq
  have H := hide (rvalid_t G.M.c.1)
  have T := hide (rtotal_t G.M G.hm G.nn G.top)
  obtain ⟨dn, rfl⟩ := Int.eq_ofNat_of_zero_le (show 0 ≤ d by omega)
  have s0 := sumI_nn G.nn (m + 1) (Nat.le_refl _)
  have s1 := G.top
  obtain ⟨tot, ht⟩ : ∃ t, t = sumI C (m + 1) := ⟨_, rfl⟩
  rw [← ht] at T tp s0 s1
  have HT := hide ht
  unfold I64 at n1 d1
  have e1 : decide (n < 0) = false := by simp; omega
  have e2 : decide ((dn : Int) < 1) = false := by simp; omega
  have e3 : decide ((dn : Int) < n) = false := by simp; omega
  have e4 : (tot == 0) = false := by simpa using tp
  have wn : IntKind.i64.wrap (-n) = -n := by rw [IntKind.wrap_i64]; omega
  -- the document's need
  obtain ⟨q, hqq⟩ : ∃ q, q = -n * tot / (dn : Int) := ⟨_, rfl⟩
  have MD := hide (fun W => ref_muldiv (-n) tot (by unfold I64; omega) (by unfold I64; omega) dn (by omega) (by omega) W)
  rw [← hqq] at MD
  have hle : ∀ s, -q ≤ s ↔ n * tot ≤ s * (dn : Int) := fun s => by rw [hqq]; exact ceil_le (by omega)
  have q1 : -q ≤ tot := (hle tot).2 (by rw [Int.mul_comm tot]; exact Int.mul_le_mul_of_nonneg_right nd s0)
  have q2 : 0 ≤ -q := by
    have : ¬ (-q ≤ -1) := fun h => by
      have h2 := (hle (-1)).1 h
      have h3 : 0 ≤ n * tot := Int.mul_nonneg n0 s0
      omega
    omega
  have iq := hide (show I64 q by unfold I64; omega)
  have HLE := hide hle
  have wq : IntKind.i64.wrap (-q) = -q := by rw [IntKind.wrap_i64]; omega
  obtain ⟨nq, hnq⟩ : ∃ x, x = -q := ⟨_, rfl⟩
  have wq' : IntKind.i64.wrap (-q) = nq := by rw [hnq]; exact wq
  have HNQ := hide hnq
  clear G hq ht tp n0 d0 nd n1 d1 s0 s1 hqq hle q1 q2 wq hnq
  go_enter Try.func24, Try.ntmps24
  go_wp2_with fail
  refine H.out.mono ?_
  rintro e w' ⟨rfl, rfl⟩
  go_wp2_with fail
  refine T.out.mono ?_
  rintro e w' ⟨rfl, rfl⟩
  go_wp2_with fail
  refine (MD.out _).mono ?_
  rintro e w1 ⟨⟨_, rfl⟩ | ⟨h, _⟩, bw⟩
  case inr => exact absurd iq.out h
  have K1 : Hid (Kp [] w w1) := Kp.of_below bw
  have G1 := hide (HG'.out.keep0 K1.out)
  obtain ⟨b, vB, vC⟩ := a
  have M1 : RM S w1 b vB vC m V C := G1.out.M
  obtain ⟨g, c, rfl⟩ := M1.C_at
  have R1 := hide M1.rC
  have hp := ptrR
  have c1 := M1.c.2.2
  obtain ⟨m1, hm1⟩ : ∃ m1, m1 = m + 1 := ⟨_, rfl⟩
  have HM1 := hide hm1
  rw [← hm1] at c1 R1
  clear bw M1 hm1 MD T H
  go_wp2_with fail
  go_loop [11, 12] (fun z i => ∃ k : Nat, k ≤ m1 ∧ i = .int .i64 (k : Int) ∧ z = .int .i64 (sumI C k) ∧ Hid (∀ j, j < k → ¬ nq ≤ sumI C (j + 1))) (fun _ i => m1 - (intOf i).toNat)
  case atStart => exact ⟨0, Nat.zero_le _, rfl, rfl, fun j hj => absurd hj (by omega)⟩
  case round =>
    obtain ⟨k, hk, rfl, rfl, hno⟩ := hrel
    by_cases hlt : k < m1
    · have dk : decide ((k : Int) < (m1 : Int)) = true := by simp; omega
      have dk' : decide (k < m1) = true := by simp; omega
      have ww : IntKind.i64.wrap ((k : Int) + 1) = ((k + 1 : Nat) : Int) := by have := HG'.out.hm; have := HM1.out; rw [IntKind.wrap_i64]; omega
      have b1 : (k : Int) < (m1 : Int) := by omega
      obtain ⟨g', hg, x1, _, _⟩ := row_cell R1.out hlt
      injection hg with hg; injection hg with hg; subst hg
      rw [intsI_get _ hlt] at x1
      have t1 := sumI_mono HG'.out.nn (m + 1) (k + 1) (by have := HM1.out; omega) (Nat.le_refl _)
      have t2 := sumI_nn HG'.out.nn (k + 1) (by have := HM1.out; omega)
      have t3 := HG'.out.top
      have NS := hide (show sumI C (k + 1) = sumI C k + C k from rfl)
      have wa : IntKind.i64.wrap (sumI C k + C k) = sumI C (k + 1) := by rw [IntKind.wrap_i64, ← NS.out]; omega
      by_cases en : nq ≤ sumI C (k + 1)
      · have de : decide (nq ≤ sumI C (k + 1)) = true := by simpa using en
        have EQ : Hid (k = r) := by
          have h1 : Qt C m n (dn : Int) k := ⟨by have := HM1.out; omega, by rw [← HT.out]; exact (HLE.out _).1 (by rw [← HNQ.out]; exact en), fun i hi => by
            have := hno.out i hi
            have h2 := (HLE.out (sumI C (i + 1)))
            rw [← HNQ.out] at h2
            rw [← HT.out]
            exact Int.not_le.1 (fun h => this (h2.2 h))⟩
          exact h1.unique HQ.out
        clear t1 t2 t3 NS en
        generalize sumI C k = z at *
        generalize sumI C (k + 1) = z' at *
        generalize C k = y at *
        go_wp2_with fail
        go_ret2
        exact ⟨by rw [EQ.out]; rfl, K1.out⟩
      · have de : decide (nq ≤ sumI C (k + 1)) = false := by simpa using en
        have HNO := hide (show ∀ j, j < k + 1 → ¬ nq ≤ sumI C (j + 1) from fun j hj => by
          by_cases e : j = k
          · subst e; exact en
          · exact hno.out j (by omega))
        clear t1 t2 t3 NS en hno
        generalize hz : sumI C k = z at *
        generalize C k = y at *
        obtain ⟨z', hz'⟩ : ∃ z', z' = sumI C (k + 1) := ⟨_, rfl⟩
        have HZ := hide hz'
        rw [← hz'] at wa de
        clear hz hz'
        go_wp2_with fail
        go_round
        case rel => exact ⟨k + 1, by omega, by first | rfl | go_num, by rw [HZ.out], HNO.out⟩
        case measure => simp [intOf]; omega
    · exfalso
      have h1 := HQ.out.1
      have h2 := HQ.out.2.1
      have h3 := hno.out r (by have := HM1.out; omega)
      rw [← HT.out] at h2
      have h4 := (HLE.out (sumI C (r + 1))).2 h2
      rw [← HNQ.out] at h4
      exact h3 h4
end
theorem rquantile_n (w : World) (n d : Int) : Calls Try.prog 24 #[.pointer none, .int .i64 n, .int .i64 d] w fun e w' => e = .returned (.tuple #[.int .i64 0, .int .i64 1]) ∧ Kp [] w w' := by
  have v0 := rvalid_n w
  go_enter Try.func24, Try.ntmps24
  go_wp2_with (go_at_call 40; refine v0.mono ?_; rintro e w' ⟨rfl, rfl⟩)
  go_ret2
  exact ⟨rfl, Kp.refl _ _⟩
/-- what Quantile answers -/
def QR (ok : Bool) (C : Nat → Int) (m : Nat) (n d v e : Int) : Prop :=
  (ok = false ∧ v = 0 ∧ e = 1) ∨ (ok = true ∧ (n < 0 ∨ d < 1 ∨ d < n) ∧ v = 0 ∧ e = 2) ∨ (ok = true ∧ (0 ≤ n ∧ 1 ≤ d ∧ n ≤ d) ∧ sumI C (m + 1) = 0 ∧ v = 0 ∧ e = 5) ∨
  (ok = true ∧ (0 ≤ n ∧ 1 ≤ d ∧ n ≤ d) ∧ sumI C (m + 1) ≠ 0 ∧ e = 0 ∧ ∃ r : Nat, Qt C m n d r ∧ v = (r : Int))
theorem quantile_b {ok : Bool} {S : Nat} {w : World} {a : Id} {m : Nat} {V C : Nat → Int} {p : Option Addr} (h : HB ok S w a m V C p) (n d : Int) (n1 : I64 n) (d1 : I64 d) :
    Calls Try.prog 23 #[.pointer p, .int .i64 n, .int .i64 d] w fun e w' => ∃ v er, e = .returned (.tuple #[.int .i64 v, .int .i64 er]) ∧ QR ok C m n d v er ∧ Kp [] w w' := by
  rcases h with ⟨rfl, rfl, G⟩ | ⟨rfl, rfl⟩
  · by_cases no : n < 0 ∨ d < 1 ∨ d < n
    · refine (quantile_arg G.M n d no).mono ?_
      rintro e w' ⟨rfl, k⟩
      exact ⟨_, _, rfl, .inr (.inl ⟨rfl, no, rfl, rfl⟩), k⟩
    · have yes : 0 ≤ n ∧ 1 ≤ d ∧ n ≤ d := by omega
      by_cases z : sumI C (m + 1) = 0
      · refine (quantile_none G.M G.hm G.nn n d yes.1 yes.2.1 yes.2.2 z).mono ?_
        rintro e w' ⟨rfl, k⟩
        exact ⟨_, _, rfl, .inr (.inr (.inl ⟨rfl, yes, z, rfl, rfl⟩)), k⟩
      · refine (quantile_g G yes.1 yes.2.1 yes.2.2 n1 d1 (by have := sumI_nn G.nn (m + 1) (Nat.le_refl _); omega)).mono ?_
        rintro e w' ⟨r, rfl, hq, k⟩
        exact ⟨_, _, rfl, .inr (.inr (.inr ⟨rfl, yes, z, rfl, r, hq, rfl⟩)), k⟩
  · refine (quantile_f none w (.inl rfl) n d).mono ?_
    rintro e w' ⟨rfl, k⟩
    exact ⟨_, _, rfl, .inl ⟨rfl, rfl, rfl⟩, k⟩
theorem rquantile_b {ok : Bool} {S : Nat} {w : World} {a : Id} {m : Nat} {V C : Nat → Int} {p : Option Addr} (h : RB ok S w a m V C p) (n d : Int) (n1 : I64 n) (d1 : I64 d) {v er : Int} (q : QR ok C m n d v er) :
    Calls Try.prog 24 #[.pointer p, .int .i64 n, .int .i64 d] w fun e w' => e = .returned (.tuple #[.int .i64 v, .int .i64 er]) ∧ Kp [] w w' := by
  rcases h with ⟨rfl, rfl, G⟩ | ⟨rfl, rfl⟩
  · rcases q with ⟨h, _⟩ | ⟨_, no, rfl, rfl⟩ | ⟨_, yes, z, rfl, rfl⟩ | ⟨_, yes, z, rfl, r, hq, rfl⟩
    · cases h
    · exact rquantile_arg G n d no
    · exact rquantile_none G n d yes.1 yes.2.1 yes.2.2 z
    · exact rquantile_t G yes.1 yes.2.1 yes.2.2 n1 d1 z hq
  · rcases q with ⟨_, rfl, rfl⟩ | ⟨h, _⟩ | ⟨h, _⟩ | ⟨h, _⟩
    · exact rquantile_n w n d
    · cases h
    · cases h
    · cases h
set_option maxRecDepth 100000 in
set_option maxHeartbeats 8000000 in
theorem filled_t {w : World} {s0 s1 : Option Addr} {len0 cap0 len1 cap1 : Nat} {V X T : Nat → Int} (R : Rd1 w s0 len0 V) (ST : StepsAt w s1 len1 X T) (hl1 : len1 ≤ 200) :
    Calls Try.prog 22 #[.slice s0 len0 cap0, .slice s1 len1 cap1] w fun e w' => ∃ (ok : Bool) (a b : Id) (p q : Option Addr) (C : Nat → Int), e = .returned (.tuple #[.pointer p, .pointer q]) ∧ HB ok w.heap.size w' a len0 V C p ∧ RB ok w.heap.size w' b len0 V C q ∧ (ok = true → dis a b) ∧ Kp [] w w' := by
  obtain ⟨ok, hok⟩ : ∃ ok : Bool, ok = true ↔ okN len0 V := by
    by_cases h : okN len0 V
    · exact ⟨true, by simp [h]⟩
    · exact ⟨false, by simp [h]⟩
  have HOK := hide hok
  have HR := hide R
  have HST := hide ST
  have HL1 := hide hl1
  have N := hide (new_b (c := cap0) R ok hok)
  have N2 := hide (fun W (k : Kp [] w W) => rnew_b (c := cap0) (HR.out.below k) ok HOK.out)
  generalize (if ok = true then (0 : Int) else 2) = er at N N2
  clear R ST hl1 hok
  go_enter Try.func22, Try.ntmps22
  go_wp2_with fail
  refine N.out.mono ?_
  rintro e w1 ⟨ia, p, rfl, g1, k1⟩
  have G1 := hide g1
  have K1 := hide k1
  have N3 := hide (N2.out _ k1)
  clear g1 k1 N N2
  go_wp2_with fail
  refine N3.out.mono ?_
  rintro e w2 ⟨ib, q, rfl, g2, k2⟩
  have dAB := hide (disB G1.out g2 (Nat.le_refl _))
  have dBA := hide (fun e => dis_symm (dAB.out e))
  have G2 := hide (G1.out.keep0 k2)
  have R2 := hide (g2.base K1.out.size)
  have K2 := hide (K1.out.trans0 k2)
  clear g2 k2 N3 G1 K1
  go_wp2_with fail
  go_loopw [10] (fun i wr => ∃ k : Nat, i = .int .i64 (k : Int) ∧ Hid (k ≤ len1) ∧ Hid (∃ C, HB ok w.heap.size wr ia len0 V C p ∧ RB ok w.heap.size wr ib len0 V C q) ∧ Hid (Kp [] w wr)) (fun i _ => len1 - (intOf i).toNat)
  case atStart => exact ⟨0, rfl, Nat.zero_le _, ⟨_, G2.out, R2.out⟩, K2.out⟩
  case round =>
    obtain ⟨k, rfl, hk, hC, hK⟩ := hrel
    obtain ⟨C, hG, hR⟩ := hC.out
    have HG' := hide hG
    have HR' := hide (hR.keep0 (Kp.drewN [] wr 1))
    have HRx := hide hR
    clear hG hR hC
    by_cases hlt : k < len1
    · have dk : decide (k < len1) = true := by simpa using hlt
      have dk2 : decide ((k : Int) < (len1 : Int)) = true := by simpa using hlt
      have ww : IntKind.i64.wrap ((k : Int) + 1) = (k : Int) + 1 := by have := HL1.out; rw [IntKind.wrap_i64]; omega
      have b1 : (k : Int) < (len1 : Int) := by omega
      rcases HST.out with h0 | ⟨bb, off, rfl, hbb, hcc⟩
      · omega
      have cx := hcc k hlt
      have CX : Hid (∀ w', Kp [] w w' → w'.cell? ⟨bb, off + k * 2, none⟩ = some (.int .i64 (X k)) ∧ w'.cell? ⟨bb, off + k * 2 + 1, none⟩ = some (.int .i64 (T k))) := fun w' k' => ⟨(k'.at hbb _).trans cx.1, (k'.at hbb _).trans cx.2.1⟩
      have IT := hide cx.2.2.2
      have HLT := hide hlt
      have AD := hide (add_b (HG'.out.keep0 (Kp.drewN [] wr 1)) (X k) (T k) IT.out)
      have RA := hide (fun W (h : RB ok w.heap.size W ib len0 V C q) => radd_b h (X k) (T k) IT.out)
      clear hcc cx hbb HST hlt HRx
      generalize adE ok C len0 (T k) = f at AD RA
      generalize adF ok V len0 C (X k) (T k) = C' at AD RA
      generalize X k = x at *
      generalize T k = t at *
      have K0 : wr.drew.cell? ⟨bb, off + k * 2, none⟩ = some (.int .i64 x) ∧ wr.drew.cell? ⟨bb, off + k * 2 + 1, none⟩ = some (.int .i64 t) := CX.out _ (hK.out.trans0 (Kp.drewN [] _ 1))
      go_wp2_with fail
      go_region_held3 (fun w' => w'.cell? ⟨bb, off + k * 2, none⟩ = some (.int .i64 x) ∧ w'.cell? ⟨bb, off + k * 2 + 1, none⟩ = some (.int .i64 t))
        (with_reducible assumption)
        (first
          | (go_at_call 18; refine AD.out.mono ?_; rintro e w3 ⟨rfl, g3, k3⟩; have K3 := hide (Kp.outer (hK.out.trans0 (Kp.drewN [] _ 1)) k3 HG'.out.ge); have C3 : w3.cell? ⟨bb, off + k * 2, none⟩ = some (.int .i64 x) ∧ w3.cell? ⟨bb, off + k * 2 + 1, none⟩ = some (.int .i64 t) := CX.out w3 K3.out; have G3 := hide g3; have R3 := hide (HR'.out.keep k3 dBA.out); clear g3 k3))
      all_goals
        have K4 := hide (K3.out.trans0 (Kp.drewN [] w3 1))
        have R4 := hide (R3.out.keep0 (Kp.drewN [] w3 1))
        have G4 := hide (G3.out.keep0 (Kp.drewN [] w3 1))
        have C4 : w3.drew.cell? ⟨bb, off + k * 2, none⟩ = some (.int .i64 x) ∧ w3.drew.cell? ⟨bb, off + k * 2 + 1, none⟩ = some (.int .i64 t) := CX.out _ K4.out
        clear C3 K0
        go_wp2_with fail
        go_region_held3 (fun w' => w'.cell? ⟨bb, off + k * 2, none⟩ = some (.int .i64 x) ∧ w'.cell? ⟨bb, off + k * 2 + 1, none⟩ = some (.int .i64 t))
          (with_reducible assumption)
          (first
            | (go_at_call 19; refine (RA.out _ R4.out).mono ?_; rintro e w5 ⟨rfl, g5, k5⟩; have K5 := hide (Kp.outer K4.out k5 R4.out.ge); have C5 : w5.cell? ⟨bb, off + k * 2, none⟩ = some (.int .i64 x) ∧ w5.cell? ⟨bb, off + k * 2 + 1, none⟩ = some (.int .i64 t) := CX.out w5 K5.out; have R5 := hide g5; have G5 := hide (G4.out.keep k5 dAB.out); clear g5 k5))
        all_goals
          go_wp2_with fail
          go_roundw
          case rel => exact ⟨k + 1, by go_num, by have := HLT.out; show k + 1 ≤ len1; omega, ⟨_, G5.out, R5.out⟩, K5.out⟩
          case measure => have := HLT.out; simp [intOf]; omega
    · have dk : decide (k < len1) = false := by simpa using hlt
      have dk2 : decide ((k : Int) < (len1 : Int)) = false := by simpa using hlt
      clear hlt
      go_wp2_with fail
      go_ret2
      exact ⟨ok, ia, ib, p, q, C, rfl, HG'.out, HRx.out, dAB.out, hK.out⟩
end Go.Proofs.Ytenoalfjobghnaa
