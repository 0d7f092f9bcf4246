/- ClockPlays holds: after every step of a script, its result and all that the clock shows are those of the document. -/
import Derived.Test.YtimjkkamfgafoaaF
import Derived.Test.YtimjkkamfgafoaaOp
import Derived.Test.YtimjkkamfgafoaaRows
import Derived.Deep.CutRange
set_option linter.unusedVariables false
set_option linter.unusedSimpArgs false
namespace Go.Proofs.Ytimjkkamfgafoaa
open Go.RowKit
theorem rowsI_two {w : World} {s : Option Addr} {k k2 : IntKind} {n : Nat} {V : Nat → Nat → Int} (h : RowsI w s [k, k2] n V) {i : Nat} (hi : i < n) :
    ∃ b off, s = some ⟨b, off, none⟩ ∧ b < w.heap.size ∧ w.cell? ⟨b, off + i * 2, none⟩ = some (.int k (V i 0)) ∧ w.cell? ⟨b, off + i * 2 + 1, none⟩ = some (.int k2 (V i 1)) ∧ (Lit.int k2 (V i 1)).wf = true := by
  rcases h with h | ⟨b, off, rfl, hb, hc⟩
  · omega
  · have h0 := hc i hi 0 k rfl
    have h1 := hc i hi 1 k2 rfl
    simp at h0 h1
    exact ⟨b, off, rfl, hb, h0.1, h1.1, by simpa using h1.2⟩
theorem Cl.i64 {w : World} {b : Nat} {n t : Int} (h : Cl w b n t) : I64 t := by have := h.t0; have := h.tn; have := h.n1; unfold I64; omega
namespace lawPlays
open Go.ChangeShapes Go.WideShapes Go.ChangeAt Go.RowKit Go.Joins
theorem walk_long (a0 : Int) (s1 : Option Addr) (len1 cap1 : Nat) (a2 a3 : Int) (w : World) (hs : 200 < len1) : Calls Try.prog 4 #[.int .i64 a0, .slice s1 len1 cap1, .int .i64 a2, .int .i64 a3] w fun e w' => e = .returned (.bool true) ∧ Below w.heap.size w w' := by
  have d0 : decide ((200 : Int) < (len1 : Int)) = true := by simp; omega
  clear hs
  go_enter Try.func4, Try.ntmps4
  go_wp2_with fail
  refine (works _).mono ?_
  rintro e w2 ⟨rfl, bw⟩
  go_wp2_with fail
  go_ret
  exact ⟨rfl, bw⟩
set_option maxRecDepth 100000 in
set_option maxHeartbeats 32000000 in
theorem walk_no (a0 : Int) (s1 : Option Addr) (len1 cap1 : Nat) (V1 : Nat → Nat → Int) (a2 a3 : Int) (w : World) (hs : len1 ≤ 200) (b0 : I64 a0) (hr1 : RowsI w s1 [.i64, .i64] len1 V1) (b2 : I64 a2) (b3 : I64 a3) (hn : a0 < 1) : Calls Try.prog 4 #[.int .i64 a0, .slice s1 len1 cap1, .int .i64 a2, .int .i64 a3] w fun e w' => e = .returned (.bool true) ∧ Below w.heap.size w w' := by
  have d0 : decide ((200 : Int) < (len1 : Int)) = false := by simp; omega
  have HR := hide hr1
  have B2 := hide b2
  have B3 := hide b3
  have N1 := fun W => hide (new_f a0 W hn)
  have N2 := fun W => hide (rnew_f a0 W hn)
  clear b0 hr1 b2 b3 hn
  go_enter Try.func4, Try.ntmps4
  go_wp2_with fail
  refine (N1 _).out.mono ?_
  rintro e w' ⟨rfl, rfl⟩
  go_wp2_with fail
  refine (N2 _).out.mono ?_
  rintro e w' ⟨rfl, rfl⟩
  clear N1 N2
  go_wp2_with fail
  go_loopw [9, 11, 13] (fun c r i wr => ∃ (k : Nat), k ≤ len1 ∧ i = .int .i64 (k : Int) ∧ c = .pointer none ∧ r = .pointer none ∧ Hid (Below w.heap.size w wr)) (fun _ _ i _ => len1 - (intOf i).toNat)
  case atStart => exact ⟨0, by omega, rfl, rfl, rfl, hide (Below.refl _ _)⟩
  case round =>
    obtain ⟨k, hk, rfl, rfl, rfl, hB⟩ := hrel
    by_cases hlt : k < len1
    · have dk : decide ((k : Int) < (len1 : Int)) = true := by simp; omega
      obtain ⟨bs, off, rfl, hbs, hc0, hc1, hwf⟩ := rowsI_two HR.out hlt
      have HY := hide (wf_I64 hwf)
      have c0 : wr.cell? ⟨bs, off + k * 2, none⟩ = some (.int .i64 (V1 k 0)) := by rw [(bcell hB.out).1 _ _ hbs]; exact hc0
      have c1 : wr.cell? ⟨bs, off + k * 2 + 1, none⟩ = some (.int .i64 (V1 k 1)) := by rw [(bcell hB.out).1 _ _ hbs]; exact hc1
      clear hc0 hc1 hwf
      generalize V1 k 0 = x at *
      generalize V1 k 1 = y at *
      rcases (show x = 0 ∨ x = 1 ∨ x = 2 ∨ (x ≠ 0 ∧ x ≠ 1 ∧ x ≠ 2) by omega) with hx | hx | hx | hx
      · have d1 : (x == 0) = true := by simp [hx]
        clear hx
        go_wp2_with fail
        refine (advance_f none wr (.inl rfl) y).mono ?_
        rintro e w' ⟨rfl, rfl⟩
        go_wp2_with fail
        refine (radvance_n wr y).mono ?_
        rintro e w' ⟨rfl, rfl⟩
        go_wp2_with fail
        refine (agree_n wr a2).mono ?_
        rintro e w2 ⟨rfl, bb⟩
        have K0 := hide (hB.out.trans (bb.mono hB.out.size))
        clear bb
        go_wp2_with fail
        refine (agree_n w2 a3).mono ?_
        rintro e w3 ⟨rfl, bb⟩
        have K1 := hide (K0.out.trans (bb.mono K0.out.size))
        clear bb
        go_wp2_with fail
        refine (agree_n w3 y).mono ?_
        rintro e w4 ⟨rfl, bb⟩
        have K2 := hide (K1.out.trans (bb.mono K1.out.size))
        clear bb
        go_wp2_with fail
        refine (rnow_n w4).mono ?_
        rintro e w' ⟨rfl, rfl⟩
        go_wp2_with fail
        refine (agree_n w4 0).mono ?_
        rintro e w5 ⟨rfl, bb⟩
        have K3 := hide (K2.out.trans (bb.mono K2.out.size))
        clear bb c0 c1
        go_wp2_with fail
        go_roundw
        case rel => exact ⟨k + 1, by omega, by go_num, rfl, rfl, K3⟩
        case measure => simp [intOf]; omega
      · have d1 : (x == 0) = false := by simp [hx]
        have d2 : (x == 1) = true := by simp [hx]
        clear hx
        go_wp2_with fail
        refine (check_f none wr (.inl rfl) y).mono ?_
        rintro e w' ⟨rfl, rfl⟩
        go_wp2_with fail
        refine (rcheck_n wr y).mono ?_
        rintro e w' ⟨rfl, rfl⟩
        go_wp2_with fail
        refine (agree_n wr a2).mono ?_
        rintro e w2 ⟨rfl, bb⟩
        have K0 := hide (hB.out.trans (bb.mono hB.out.size))
        clear bb
        go_wp2_with fail
        refine (agree_n w2 a3).mono ?_
        rintro e w3 ⟨rfl, bb⟩
        have K1 := hide (K0.out.trans (bb.mono K0.out.size))
        clear bb
        go_wp2_with fail
        refine (agree_n w3 y).mono ?_
        rintro e w4 ⟨rfl, bb⟩
        have K2 := hide (K1.out.trans (bb.mono K1.out.size))
        clear bb
        go_wp2_with fail
        refine (rnow_n w4).mono ?_
        rintro e w' ⟨rfl, rfl⟩
        go_wp2_with fail
        refine (agree_n w4 0).mono ?_
        rintro e w5 ⟨rfl, bb⟩
        have K3 := hide (K2.out.trans (bb.mono K2.out.size))
        clear bb c0 c1
        go_wp2_with fail
        go_roundw
        case rel => exact ⟨k + 1, by omega, by go_num, rfl, rfl, K3⟩
        case measure => simp [intOf]; omega
      · have d1 : (x == 0) = false := by simp [hx]
        have d2 : (x == 1) = false := by simp [hx]
        have d3 : (x == 2) = true := by simp [hx]
        clear hx
        go_wp2_with fail
        refine (copy_f none wr (.inl rfl)).mono ?_
        rintro e w' ⟨rfl, rfl⟩
        go_wp2_with fail
        refine (rcopy_n wr).mono ?_
        rintro e w' ⟨rfl, rfl⟩
        go_wp2_with fail
        refine (advance_f none wr (.inl rfl) y).mono ?_
        rintro e w' ⟨rfl, rfl⟩
        go_wp2_with fail
        refine (agree_n wr a2).mono ?_
        rintro e w2 ⟨rfl, bb⟩
        have K0 := hide (hB.out.trans (bb.mono hB.out.size))
        clear bb
        go_wp2_with fail
        refine (agree_n w2 a3).mono ?_
        rintro e w3 ⟨rfl, bb⟩
        have K1 := hide (K0.out.trans (bb.mono K0.out.size))
        clear bb
        go_wp2_with fail
        refine (agree_n w3 y).mono ?_
        rintro e w4 ⟨rfl, bb⟩
        have K2 := hide (K1.out.trans (bb.mono K1.out.size))
        clear bb
        go_wp2_with fail
        refine (rnow_n w4).mono ?_
        rintro e w' ⟨rfl, rfl⟩
        go_wp2_with fail
        refine (agree_n w4 0).mono ?_
        rintro e w5 ⟨rfl, bb⟩
        have K3 := hide (K2.out.trans (bb.mono K2.out.size))
        clear bb c0 c1
        go_wp2_with fail
        go_roundw
        case rel => exact ⟨k + 1, by omega, by go_num, rfl, rfl, K3⟩
        case measure => simp [intOf]; omega
      · have d1 : (x == 0) = false := by simp [hx]
        have d2 : (x == 1) = false := by simp [hx]
        have d3 : (x == 2) = false := by simp [hx]
        clear hx
        go_wp2_with fail
        refine (agree_n wr a2).mono ?_
        rintro e w2 ⟨rfl, bb⟩
        have K0 := hide (hB.out.trans (bb.mono hB.out.size))
        clear bb
        go_wp2_with fail
        refine (agree_n w2 a3).mono ?_
        rintro e w3 ⟨rfl, bb⟩
        have K1 := hide (K0.out.trans (bb.mono K0.out.size))
        clear bb
        go_wp2_with fail
        refine (agree_n w3 y).mono ?_
        rintro e w4 ⟨rfl, bb⟩
        have K2 := hide (K1.out.trans (bb.mono K1.out.size))
        clear bb
        go_wp2_with fail
        refine (rnow_n w4).mono ?_
        rintro e w' ⟨rfl, rfl⟩
        go_wp2_with fail
        refine (agree_n w4 0).mono ?_
        rintro e w5 ⟨rfl, bb⟩
        have K3 := hide (K2.out.trans (bb.mono K2.out.size))
        clear bb c0 c1
        go_wp2_with fail
        go_roundw
        case rel => exact ⟨k + 1, by omega, by go_num, rfl, rfl, K3⟩
        case measure => simp [intOf]; omega
    · have : k = len1 := by omega
      subst this
      have dk : decide ((k : Int) < (k : Int)) = false := by simp
      go_wp2_with fail
      refine (works _).mono ?_
      rintro e w9 ⟨rfl, bw⟩
      have HW := hide bw
      clear bw
      go_wp2_with fail
      go_ret
      exact ⟨rfl, hB.out.trans (HW.out.mono hB.out.size)⟩
set_option maxRecDepth 100000 in
set_option maxHeartbeats 32000000 in
theorem walk_ok (a0 : Int) (s1 : Option Addr) (len1 cap1 : Nat) (V1 : Nat → Nat → Int) (a2 a3 : Int) (w : World) (hs : len1 ≤ 200) (b0 : I64 a0) (hr1 : RowsI w s1 [.i64, .i64] len1 V1) (b2 : I64 a2) (b3 : I64 a3) (hn : 1 ≤ a0) : Calls Try.prog 4 #[.int .i64 a0, .slice s1 len1 cap1, .int .i64 a2, .int .i64 a3] w fun e w' => e = .returned (.bool true) ∧ Below w.heap.size w w' := by
  have d0 : decide ((200 : Int) < (len1 : Int)) = false := by simp; omega
  have HR := hide hr1
  have B2 := hide b2
  have B3 := hide b3
  have N1 := fun W => hide (new_t a0 W hn b0.2)
  have N2 := fun W => hide (rnew_t a0 W hn b0.2)
  clear b0 hr1 b2 b3 hn
  go_enter Try.func4, Try.ntmps4
  go_wp2_with fail
  refine (N1 _).out.mono ?_
  rintro e w1 ⟨rfl, C, k1⟩
  have HC := hide C
  have K1 := hide k1
  clear C k1 N1
  go_wp2_with fail
  refine (N2 _).out.mono ?_
  rintro e w2 ⟨rfl, G, k2⟩
  have HC2 := hide (HC.out.below k2 HC.out.lt)
  have HG2 := hide G
  have K2 := hide (K1.out.trans (k2.mono K1.out.size))
  have AB := hide (And.intro (Nat.le_refl w.heap.size) (And.intro K1.out.size (show w.heap.size ≠ w1.heap.size by have := HC.out.lt; omega)))
  clear G k2 N2 HC K1
  go_wp2_with fail
  go_loopw [9, 11, 13] (fun c r i wr => ∃ (k b d : Nat) (t : Int), k ≤ len1 ∧ i = .int .i64 (k : Int) ∧ c = .pointer (some ⟨b, 0, none⟩) ∧ r = .pointer (some ⟨d, 0, none⟩) ∧ Hid (w.heap.size ≤ b ∧ w.heap.size ≤ d ∧ b ≠ d) ∧ Hid (Cl wr b a0 t) ∧ Hid (Rl wr d a0 t) ∧ Hid (Below w.heap.size w wr)) (fun _ _ i _ => len1 - (intOf i).toNat)
  case atStart => exact ⟨0, _, _, 0, by omega, rfl, rfl, rfl, AB, HC2, HG2, K2⟩
  case round =>
    obtain ⟨k, b, d, t, hk, rfl, rfl, rfl, hD, hC, hG, hB⟩ := hrel
    by_cases hlt : k < len1
    · have dk : decide ((k : Int) < (len1 : Int)) = true := by simp; omega
      obtain ⟨bs, off, rfl, hbs, hc0, hc1, hwf⟩ := rowsI_two HR.out hlt
      have HY := hide (wf_I64 hwf)
      have c0 : wr.cell? ⟨bs, off + k * 2, none⟩ = some (.int .i64 (V1 k 0)) := by rw [(bcell hB.out).1 _ _ hbs]; exact hc0
      have c1 : wr.cell? ⟨bs, off + k * 2 + 1, none⟩ = some (.int .i64 (V1 k 1)) := by rw [(bcell hB.out).1 _ _ hbs]; exact hc1
      clear hc0 hc1 hwf
      generalize V1 k 0 = x at *
      generalize V1 k 1 = y at *
      rcases (show x = 0 ∨ x = 1 ∨ x = 2 ∨ (x ≠ 0 ∧ x ≠ 1 ∧ x ≠ 2) by omega) with hx | hx | hx | hx
      · have d1 : (x == 0) = true := by simp [hx]
        clear hx
        have Q := hide (advance_t hC.out y HY.out)
        go_wp2_with fail
        refine Q.out.mono ?_
        rintro e w1 ⟨rfl, C, K⟩
        have C1 := hide C
        have G1 := hide (hG.out.keep K (by simpa using (Ne.symm hD.out.2.2)))
        have B1 := hide (hB.out.trans (K.below (by simpa using hD.out.1) hB.out.size))
        have R := hide (radvance_t G1.out y HY.out)
        clear Q C K c0 c1
        generalize ck a0 t y = q at *
        generalize nx a0 t y = t2 at *
        go_wp2_with fail
        refine R.out.mono ?_
        rintro e w2 ⟨rfl, G, K⟩
        have C2 := hide (C1.out.keep K (by simpa using hD.out.2.2))
        have G2 := hide G
        have BB2 := hide (B1.out.trans (K.below (by simpa using hD.out.2.1) B1.out.size))
        clear R G K C1 G1 B1
        have Q := hide (agree_t C2.out G2.out a2 B2.out)
        go_wp2_with fail
        refine Q.out.mono ?_
        rintro e v0 ⟨rfl, bb⟩
        have CC0 := hide (C2.out.below bb C2.out.lt)
        have GG0 := hide (G2.out.below bb G2.out.lt)
        have KK0 := hide (BB2.out.trans (bb.mono BB2.out.size))
        clear Q bb
        have Q := hide (agree_t CC0.out GG0.out a3 B3.out)
        go_wp2_with fail
        refine Q.out.mono ?_
        rintro e v1 ⟨rfl, bb⟩
        have CC1 := hide (CC0.out.below bb CC0.out.lt)
        have GG1 := hide (GG0.out.below bb GG0.out.lt)
        have KK1 := hide (KK0.out.trans (bb.mono KK0.out.size))
        clear Q bb
        have Q := hide (agree_t CC1.out GG1.out y HY.out)
        go_wp2_with fail
        refine Q.out.mono ?_
        rintro e v2 ⟨rfl, bb⟩
        have CC2 := hide (CC1.out.below bb CC1.out.lt)
        have GG2 := hide (GG1.out.below bb GG1.out.lt)
        have KK2 := hide (KK1.out.trans (bb.mono KK1.out.size))
        clear Q bb
        have Q := hide (rnow_t GG2.out)
        go_wp2_with fail
        refine Q.out.mono ?_
        rintro e w' ⟨rfl, rfl⟩
        have R := hide (agree_t CC2.out GG2.out t2 CC2.out.i64)
        go_wp2_with fail
        refine R.out.mono ?_
        rintro e v3 ⟨rfl, bb⟩
        have CC3 := hide (CC2.out.below bb CC2.out.lt)
        have GG3 := hide (GG2.out.below bb GG2.out.lt)
        have KK3 := hide (KK2.out.trans (bb.mono KK2.out.size))
        clear Q R bb
        go_wp2_with fail
        go_roundw
        case rel => exact ⟨k + 1, _, _, t2, by omega, by go_num, rfl, rfl, hD, CC3, GG3, KK3⟩
        case measure => simp [intOf]; omega
      · have d1 : (x == 0) = false := by simp [hx]
        have d2 : (x == 1) = true := by simp [hx]
        clear hx
        have Q := hide (check_t hC.out y HY.out)
        have R := hide (rcheck_t hG.out y HY.out)
        generalize ck a0 t y = q at *
        go_wp2_with fail
        refine Q.out.mono ?_
        rintro e w' ⟨rfl, rfl⟩
        go_wp2_with fail
        refine R.out.mono ?_
        rintro e w2 ⟨rfl, bb⟩
        have C2 := hide (hC.out.below bb hC.out.lt)
        have G2 := hide (hG.out.below bb hG.out.lt)
        have BB2 := hide (hB.out.trans (bb.mono hB.out.size))
        clear Q R bb c0 c1
        have Q := hide (agree_t C2.out G2.out a2 B2.out)
        go_wp2_with fail
        refine Q.out.mono ?_
        rintro e v0 ⟨rfl, bb⟩
        have CC0 := hide (C2.out.below bb C2.out.lt)
        have GG0 := hide (G2.out.below bb G2.out.lt)
        have KK0 := hide (BB2.out.trans (bb.mono BB2.out.size))
        clear Q bb
        have Q := hide (agree_t CC0.out GG0.out a3 B3.out)
        go_wp2_with fail
        refine Q.out.mono ?_
        rintro e v1 ⟨rfl, bb⟩
        have CC1 := hide (CC0.out.below bb CC0.out.lt)
        have GG1 := hide (GG0.out.below bb GG0.out.lt)
        have KK1 := hide (KK0.out.trans (bb.mono KK0.out.size))
        clear Q bb
        have Q := hide (agree_t CC1.out GG1.out y HY.out)
        go_wp2_with fail
        refine Q.out.mono ?_
        rintro e v2 ⟨rfl, bb⟩
        have CC2 := hide (CC1.out.below bb CC1.out.lt)
        have GG2 := hide (GG1.out.below bb GG1.out.lt)
        have KK2 := hide (KK1.out.trans (bb.mono KK1.out.size))
        clear Q bb
        have Q := hide (rnow_t GG2.out)
        go_wp2_with fail
        refine Q.out.mono ?_
        rintro e w' ⟨rfl, rfl⟩
        have R := hide (agree_t CC2.out GG2.out t CC2.out.i64)
        go_wp2_with fail
        refine R.out.mono ?_
        rintro e v3 ⟨rfl, bb⟩
        have CC3 := hide (CC2.out.below bb CC2.out.lt)
        have GG3 := hide (GG2.out.below bb GG2.out.lt)
        have KK3 := hide (KK2.out.trans (bb.mono KK2.out.size))
        clear Q R bb
        go_wp2_with fail
        go_roundw
        case rel => exact ⟨k + 1, _, _, t, by omega, by go_num, rfl, rfl, hD, CC3, GG3, KK3⟩
        case measure => simp [intOf]; omega
      · have d1 : (x == 0) = false := by simp [hx]
        have d2 : (x == 1) = false := by simp [hx]
        have d3 : (x == 2) = true := by simp [hx]
        clear hx
        have Q := hide (copy_t hC.out)
        go_wp2_with fail
        refine Q.out.mono ?_
        rintro e w1 ⟨rfl, C, K⟩
        have C0 := hide (hC.out.below K hC.out.lt)
        have C1 := hide C
        have G1 := hide (hG.out.below K hG.out.lt)
        have B1 := hide (hB.out.trans (K.mono hB.out.size))
        have ne1 := hide (show wr.heap.size ≠ b by have := hC.out.lt; omega)
        have lt1 := hide C.lt
        have R := hide (rcopy_t G1.out)
        clear Q C K c0 c1
        go_wp2_with fail
        refine R.out.mono ?_
        rintro e w2 ⟨rfl, G, K⟩
        have Z0 := hide (C0.out.below K C0.out.lt)
        have Z1 := hide (C1.out.below K C1.out.lt)
        have Z2 := hide G
        have Z3 := hide (B1.out.trans (K.mono B1.out.size))
        have ne2 := hide (show w1.heap.size ≠ b by have := C0.out.lt; omega)
        have D2 := hide (show w.heap.size ≤ wr.heap.size ∧ w.heap.size ≤ w1.heap.size ∧ wr.heap.size ≠ w1.heap.size by have := hB.out.size; have := lt1.out; omega)
        have Q := hide (advance_t Z0.out y HY.out)
        clear R G K C0 C1 G1 B1
        go_wp2_with fail
        refine Q.out.mono ?_
        rintro e w3 ⟨rfl, C, K⟩
        have C2 := hide (Z1.out.keep K (by simpa using ne1.out))
        have G2 := hide (Z2.out.keep K (by simpa using ne2.out))
        have BB2 := hide (Z3.out.trans (K.below (by simpa using hD.out.1) Z3.out.size))
        clear Q C K Z0 Z1 Z2 Z3
        have Q := hide (agree_t C2.out G2.out a2 B2.out)
        go_wp2_with fail
        refine Q.out.mono ?_
        rintro e v0 ⟨rfl, bb⟩
        have CC0 := hide (C2.out.below bb C2.out.lt)
        have GG0 := hide (G2.out.below bb G2.out.lt)
        have KK0 := hide (BB2.out.trans (bb.mono BB2.out.size))
        clear Q bb
        have Q := hide (agree_t CC0.out GG0.out a3 B3.out)
        go_wp2_with fail
        refine Q.out.mono ?_
        rintro e v1 ⟨rfl, bb⟩
        have CC1 := hide (CC0.out.below bb CC0.out.lt)
        have GG1 := hide (GG0.out.below bb GG0.out.lt)
        have KK1 := hide (KK0.out.trans (bb.mono KK0.out.size))
        clear Q bb
        have Q := hide (agree_t CC1.out GG1.out y HY.out)
        go_wp2_with fail
        refine Q.out.mono ?_
        rintro e v2 ⟨rfl, bb⟩
        have CC2 := hide (CC1.out.below bb CC1.out.lt)
        have GG2 := hide (GG1.out.below bb GG1.out.lt)
        have KK2 := hide (KK1.out.trans (bb.mono KK1.out.size))
        clear Q bb
        have Q := hide (rnow_t GG2.out)
        go_wp2_with fail
        refine Q.out.mono ?_
        rintro e w' ⟨rfl, rfl⟩
        have R := hide (agree_t CC2.out GG2.out t CC2.out.i64)
        go_wp2_with fail
        refine R.out.mono ?_
        rintro e v3 ⟨rfl, bb⟩
        have CC3 := hide (CC2.out.below bb CC2.out.lt)
        have GG3 := hide (GG2.out.below bb GG2.out.lt)
        have KK3 := hide (KK2.out.trans (bb.mono KK2.out.size))
        clear Q R bb
        go_wp2_with fail
        go_roundw
        case rel => exact ⟨k + 1, _, _, t, by omega, by go_num, rfl, rfl, D2, CC3, GG3, KK3⟩
        case measure => simp [intOf]; omega
      · have d1 : (x == 0) = false := by simp [hx]
        have d2 : (x == 1) = false := by simp [hx]
        have d3 : (x == 2) = false := by simp [hx]
        clear hx
        have Q := hide (agree_t hC.out hG.out a2 B2.out)
        go_wp2_with fail
        refine Q.out.mono ?_
        rintro e v0 ⟨rfl, bb⟩
        have CC0 := hide (hC.out.below bb hC.out.lt)
        have GG0 := hide (hG.out.below bb hG.out.lt)
        have KK0 := hide (hB.out.trans (bb.mono hB.out.size))
        clear Q bb
        have Q := hide (agree_t CC0.out GG0.out a3 B3.out)
        go_wp2_with fail
        refine Q.out.mono ?_
        rintro e v1 ⟨rfl, bb⟩
        have CC1 := hide (CC0.out.below bb CC0.out.lt)
        have GG1 := hide (GG0.out.below bb GG0.out.lt)
        have KK1 := hide (KK0.out.trans (bb.mono KK0.out.size))
        clear Q bb
        have Q := hide (agree_t CC1.out GG1.out y HY.out)
        go_wp2_with fail
        refine Q.out.mono ?_
        rintro e v2 ⟨rfl, bb⟩
        have CC2 := hide (CC1.out.below bb CC1.out.lt)
        have GG2 := hide (GG1.out.below bb GG1.out.lt)
        have KK2 := hide (KK1.out.trans (bb.mono KK1.out.size))
        clear Q bb
        have Q := hide (rnow_t GG2.out)
        go_wp2_with fail
        refine Q.out.mono ?_
        rintro e w' ⟨rfl, rfl⟩
        have R := hide (agree_t CC2.out GG2.out t CC2.out.i64)
        go_wp2_with fail
        refine R.out.mono ?_
        rintro e v3 ⟨rfl, bb⟩
        have CC3 := hide (CC2.out.below bb CC2.out.lt)
        have GG3 := hide (GG2.out.below bb GG2.out.lt)
        have KK3 := hide (KK2.out.trans (bb.mono KK2.out.size))
        clear Q R bb
        go_wp2_with fail
        go_roundw
        case rel => exact ⟨k + 1, _, _, t, by omega, by go_num, rfl, rfl, hD, CC3, GG3, KK3⟩
        case measure => simp [intOf]; omega
    · have : k = len1 := by omega
      subst this
      have dk : decide ((k : Int) < (k : Int)) = false := by simp
      go_wp2_with fail
      refine (works _).mono ?_
      rintro e w9 ⟨rfl, bw⟩
      have HW := hide bw
      clear bw
      go_wp2_with fail
      go_ret
      exact ⟨rfl, hB.out.trans (HW.out.mono hB.out.size)⟩
theorem walk (a0 : Int) (s1 : Option Addr) (len1 cap1 : Nat) (V1 : Nat → Nat → Int) (a2 a3 : Int) (w : World) (b0 : I64 a0) (hc1 : len1 ≤ cap1 ∧ cap1 ≤ maxLen) (hr1 : RowsI w s1 [.i64, .i64] len1 V1) (b2 : I64 a2) (b3 : I64 a3) : Calls Try.prog 4 #[.int .i64 a0, .slice s1 len1 cap1, .int .i64 a2, .int .i64 a3] w fun e w' => e = .returned (.bool true) ∧ Below w.heap.size w w' := by
  by_cases hs : 200 < len1
  · exact walk_long a0 s1 len1 cap1 a2 a3 w hs
  · by_cases hn : 1 ≤ a0
    · exact walk_ok a0 s1 len1 cap1 V1 a2 a3 w (by omega) b0 hr1 b2 b3 hn
    · exact walk_no a0 s1 len1 cap1 V1 a2 a3 w (by omega) b0 hr1 b2 b3 (by omega)
theorem own : ownKnob Try.prog.godebug = none := by kernel_rfl
theorem laidOut : laidOutB Try.prog = true := by kernel_rfl
set_option maxRecDepth 100000 in
theorem lifted (os : Os) (started : os.Started) (H : Type) (enc : TypeId × Value → H) :
    ReturnsInHanded {} Try.checked os 4 .any (Rows.clockPlaysSpec.pre6 enc Try.prog Try.f4 Rows.clockPlaysRow.domain false) (Rows.clockPlaysSpec.post enc Try.prog Try.f4 false true false false) := by
  refine returnsInHanded_of_change (C := Try.checked) own started (by kernel_rfl) Try.func4
    (ChangeSpec.witness6 (enc := enc) (C := Try.checked) false ⟨#[], #[.int .i64 0, .slice none 0 0, .int .i64 0, .int .i64 0], []⟩ 8 (by kernel_rfl) (by kernel_rfl) (by kernel_rfl) (by kernel_rfl)) ?_
  intro W base args ds gs before hval0 hW hcnd _
  have hval : ∀ (j : Nat) t v, Try.f4.params[j]? = some t → args[j]? = some v → Value.okWide Try.prog W .any base t v := hval0
  have hW' := hW
  obtain ⟨p, q, hA0, hV, rfl, hfz, hnd⟩ := hW
  have hA : DataW.TrodAll enc Try.prog W 0 (fun _ => true) true Try.f4.params.toList args.toList ds p := hA0
  rw [Try.params4] at hA hval
  obtain ⟨v0, vs0, d0, ds0, p0, q0, hargs, rfl, rfl, h0, r0⟩ := trodAll_cons hA
  obtain ⟨v1, vs1, d1, ds1, p1, q1, rfl, rfl, rfl, h1, r1⟩ := trodAll_cons r0
  obtain ⟨v2, vs2, d2, ds2, p2, q2, rfl, rfl, rfl, h2, r2⟩ := trodAll_cons r1
  obtain ⟨v3, vs3, d3, ds3, p3, q3, rfl, rfl, rfl, h3, r3⟩ := trodAll_cons r2
  obtain ⟨rfl, rfl, rfl⟩ := trodAll_nil r3
  obtain rfl : args = #[v0, v1, v2, v3] := by cases args; simp_all
  obtain ⟨rfl, rfl⟩ := trodVars_none hV
  have k0 := h0
  have lt0 : ∀ x ∈ p0, x.block < W.heap.size := by obtain ⟨m, hm⟩ := k0; exact DataW.trod_lt m _ _ _ hm
  have k1 := h1
  have lt1 : ∀ x ∈ p1, x.block < W.heap.size := by obtain ⟨m, hm⟩ := k1; exact DataW.trod_lt m _ _ _ hm
  have k2 := h2
  have lt2 : ∀ x ∈ p2, x.block < W.heap.size := by obtain ⟨m, hm⟩ := k2; exact DataW.trod_lt m _ _ _ hm
  have k3 := h3
  have lt3 : ∀ x ∈ p3, x.block < W.heap.size := by obtain ⟨m, hm⟩ := k3; exact DataW.trod_lt m _ _ _ hm
  obtain ⟨a0, rfl, _, _, w0⟩ := open_int Try.underlying2 (hval 0 2 v0 rfl rfl) h0
  obtain ⟨s1, len1, cap1, rfl⟩ := okWide_slice Try.underlying32 (hval 1 32 v1 rfl rfl)
  obtain ⟨V1, hc1, hr1⟩ := rows_in Try.underlying32 (flat_struct (ks := [.i64, .i64]) Try.underlying34 (by kernel_rfl) (by kernel_rfl)) (by decide) h1
  obtain ⟨a2, rfl, _, _, w2⟩ := open_int Try.underlying2 (hval 2 2 v2 rfl rfl) h2
  obtain ⟨a3, rfl, _, _, w3⟩ := open_int Try.underlying2 (hval 3 2 v3 rfl rfl) h3
  clear hA0 hval0
  refine (walk a0 s1 len1 cap1 V1 a2 a3 W (bounds_i64 w0) hc1 hr1 (bounds_i64 w2) (bounds_i64 w3)).mono fun e W' ⟨he, bel⟩ => ?_
  subst he
  exact ⟨_, rfl, _, _, _, [], _, [], hW', trodAll_mk1 (shut_bool Try.underlying4 _), (trodAll_cons_mk (Below.trod laidOut (by kernel_rfl) (of_decide_eq_true (by kernel_rfl)) k0 bel lt0) (trodAll_cons_mk (Below.trod laidOut (by kernel_rfl) (of_decide_eq_true (by kernel_rfl)) k1 bel lt1) (trodAll_cons_mk (Below.trod laidOut (by kernel_rfl) (of_decide_eq_true (by kernel_rfl)) k2 bel lt2) (trodAll_cons_mk (Below.trod laidOut (by kernel_rfl) (of_decide_eq_true (by kernel_rfl)) k3 bel lt3) trodAll_mk0)))), rfl, bel.frame _, fun h => by cases h⟩
theorem holds : Rows.clockPlaysRow.holds Try.pinned (OpenSpec.ofChange Rows.clockPlaysSpec) :=
  OpenClaim.holds_of_wide 4 Try.f4 rfl rfl rfl rfl rfl rfl rfl ⟨rfl, rfl, rfl, rfl, rfl⟩ rfl rfl rfl rfl rfl (by kernel_rfl) Try.func4 (by kernel_rfl)
    (of_decide_eq_true (by kernel_rfl)) (by unfold Func.isWrapper; first | (rw [if_pos (by decide +kernel)]; kernel_rfl) | (rw [if_neg (by decide +kernel)]; exact ⟨rfl, rfl⟩))
    (fun os started H enc _ => lifted os started H enc)
theorem proved : Rows.ClockPlaysSaid := holds
end lawPlays
end Go.Proofs.Ytimjkkamfgafoaa
