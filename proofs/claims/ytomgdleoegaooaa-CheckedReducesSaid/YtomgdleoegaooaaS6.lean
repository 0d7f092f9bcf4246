/- The specification's magnitude and Reduce. -/
import Derived.Test.YtomgdleoegaooaaG2
set_option linter.unusedVariables false
set_option linter.unusedSimpArgs false
namespace Go.Proofs.Ytomgdleoegaooaa
open Go.RowKit

theorem mag_eq {x : Int} {s : Bool} {c0 c1 c2 c3 c4 c5 : Nat} (hx : I64 x) (h : Rep x s c0 c1 c2 c3 c4 c5) : c1 * 4294967296 + c0 = x.natAbs ∧ x.natAbs < 18446744073709551616 := by
  obtain ⟨⟨h0, h1, h2, h3, h4, h5⟩, rfl⟩ := h
  have := i64_abs hx
  rw [vz_abs] at *
  unfold n6 at *
  omega
set_option maxRecDepth 100000 in
set_option maxHeartbeats 1000000 in
theorem magnitude (x : Int) (hx : I64 x) (w : World) : Calls Try.prog 42 #[.int .i64 x] w fun e w' => e = .returned (.int .u64 (x.natAbs : Int)) ∧ Below w.heap.size w w' := by
  have F := hide (from_ x hx)
  have HX := hide hx
  clear hx
  go_enter Try.func42, Try.ntmps42
  go_wp2_with fail
  refine (F.out _).mono ?_
  rintro e w1 ⟨s, c0, c1, c2, c3, c4, c5, rfl, hr, bz⟩
  obtain ⟨e1, e2⟩ := mag_eq HX.out hr
  have E : IntKind.u64.wrap (IntKind.u64.wrap ((c1 : Int) * 4294967296) + (c0 : Int)) = (x.natAbs : Int) := by
    rw [← e1]; simp only [IntKind.wrap_u64]; omega
  clear hr e1 e2
  obtain ⟨m, hm⟩ : ∃ m, m = x.natAbs := ⟨_, rfl⟩
  rw [← hm] at E
  have HM := hide hm
  clear hm
  go_wp2_with fail
  go_ret
  exact ⟨ret1 (by rw [HM.out]), bz.alloc bz.size _⟩

/-- what Reduce returns: the code's, and the specification's -/
def DPost (n d : Int) (w : World) (e : Ending) (w' : World) : Prop :=
  (d = 0 ∧ e = .returned (.tuple #[.agg #[.int .i64 0, .int .i64 0], .int .i64 2]) ∨
   d ≠ 0 ∧ I64 (rN n d) ∧ I64 (rD n d) ∧ e = .returned (.tuple #[.agg #[.int .i64 (rN n d), .int .i64 (rD n d)], .int .i64 0]) ∨
   d ≠ 0 ∧ ¬ (I64 (rN n d) ∧ I64 (rD n d)) ∧ e = .returned (.tuple #[.agg #[.int .i64 0, .int .i64 0], .int .i64 7])) ∧ Below w.heap.size w w'
theorem d_red (n d : Int) (hn : I64 n) (hd : I64 d) (w : World) : Calls Try.prog 24 #[.int .i64 n, .int .i64 d] w (DPost n d w) := by
  by_cases h : d = 0
  · subst h
    exact (red_arg n w).mono fun e w' hh => ⟨.inl ⟨rfl, hh.1⟩, hh.2⟩
  · by_cases h2 : I64 (rN n d) ∧ I64 (rD n d)
    · exact (red_ok n d hn hd h h2.1 h2.2 w).mono fun e w' hh => ⟨.inr (.inl ⟨h, h2.1, h2.2, hh.1⟩), hh.2⟩
    · exact (red_no n d hn hd h (by rcases Classical.em (I64 (rN n d)) with g | g; exact .inr fun k => h2 ⟨g, k⟩; exact .inl g) w).mono fun e w' hh => ⟨.inr (.inr ⟨h, h2, hh.1⟩), hh.2⟩

theorem rep_top {n d : Int} {a g : Nat} (ha : a / g < 18446744073709551616) (e : rN n d = vz (!decide (n < 0) == decide (d < 0)) (a / g)) : Rep (rN n d) (!decide (n < 0) == decide (d < 0)) ((a / g) % 4294967296) ((a / g) / 4294967296) 0 0 0 0 := by
  refine ⟨⟨by omega, by omega, by decide, by decide, by decide, by decide⟩, ?_⟩
  rw [e]
  congr 1
  unfold n6; omega
set_option maxRecDepth 100000 in
set_option maxHeartbeats 2000000 in
theorem ref_reduce (n d : Int) (hn : I64 n) (hd : I64 d) (h : d ≠ 0) (w : World) : Calls Try.prog 25 #[.int .i64 n, .int .i64 d] w (DPost n d w) := by
  have hd0 : (d == 0) = false := by simpa using h
  have MA := hide (magnitude n hn)
  have MB := hide (magnitude d hd)
  have ha : n.natAbs < 18446744073709551616 := by have := i64_abs hn; omega
  have hb : d.natAbs < 18446744073709551616 := by have := i64_abs hd; omega
  have EN := hide (show rN n d = vz (!decide (n < 0) == decide (d < 0)) (n.natAbs / Nat.gcd n.natAbs d.natAbs) by rw [← bx]; rfl)
  have ED := hide (show rD n d = ((d.natAbs / Nat.gcd n.natAbs d.natAbs : Nat) : Int) from rfl)
  have hg1 : 1 ≤ Nat.gcd n.natAbs d.natAbs := Nat.gcd_pos_of_pos_right _ (by omega)
  generalize n.natAbs = a at *
  generalize d.natAbs = b at *
  have W0 : Hid (Below w.heap.size w (w.alloc (.cells #[.int .i64 0, .int .i64 0] 34))) := (Below.refl _ _).alloc (Nat.le_refl _) _
  have HA := hide ha
  have HB := hide hb
  clear hn hd
  go_enter Try.func25, Try.ntmps25
  go_wp2_with fail
  refine (MA.out _).mono ?_
  rintro e w1 ⟨rfl, b1⟩
  go_wp2_with fail
  refine (MB.out _).mono ?_
  rintro e w2 ⟨rfl, b2⟩
  have B2 := hide (b1.trans (b2.mono b1.size))
  clear b1 b2
  go_wp2_with fail
  go_loopw [8, 9] (fun x y wr => ∃ c k : Nat, x = .int .u64 c ∧ y = .int .u64 k ∧ Hid (Nat.gcd c k = Nat.gcd a b) ∧ c < 18446744073709551616 ∧ k < 18446744073709551616 ∧ Hid (Below (w.alloc (.cells #[.int .i64 0, .int .i64 0] 34)).heap.size (w.alloc (.cells #[.int .i64 0, .int .i64 0] 34)) wr)) (fun _ y _ => (intOf y).toNat)
  case atStart => exact ⟨a, b, rfl, rfl, rfl, ha, hb, B2⟩
  case round =>
    obtain ⟨c, k, rfl, rfl, hg, hc, hk, hbel⟩ := hrel
    by_cases h0 : k = 0
    · subst h0
      have hgc : Nat.gcd a b = c := by rw [← hg.out, Nat.gcd_zero_right]
      rw [hgc] at EN ED hg1
      have hci : (1 : Int) ≤ c := by omega
      have QA := uw_div (g := c) ha
      have QB := uw_div (g := c) hb
      have hpa : a / c < 18446744073709551616 := Nat.lt_of_le_of_lt (Nat.div_le_self _ _) ha
      have RP := hide (rep_top hpa EN.out)
      have hqb : b / c < 18446744073709551616 := Nat.lt_of_le_of_lt (Nat.div_le_self _ _) hb
      have Q0 : ((a / c : Nat) : Int) % 4294967296 = ((a / c % 4294967296 : Nat) : Int) := by omega
      have Q1 : ((a / c : Nat) : Int) / 4294967296 = ((a / c / 4294967296 : Nat) : Int) := by omega
      have ED2 : Hid (rD n d = ((b / c : Nat) : Int)) := ED.out
      have IN := hide (fun w => int_ _ _ _ _ 0 0 0 0 RP.out w)
      generalize a / c % 4294967296 = t0 at *
      generalize a / c / 4294967296 = t1 at *
      generalize a / c = p at *
      generalize b / c = q at *
      clear hg hgc EN ED RP
      have BB := hbel.out
      have e0 : (w.alloc (.cells #[.int .i64 0, .int .i64 0] 34)).heap.size = w.heap.size + 1 := by simp
      go_wp2_with fail
      go_quiet (fail)
      clear QA QB
      have B3 := hide (below_drewN BB nq)
      have S3 := hide (show w.heap.size < (wr.drewN nq).heap.size by have := B3.out.size; rw [e0] at this; omega)
      generalize wr.drewN nq = wq at *
      clear BB hbel
      go_wp2_with fail
      refine (IN.out _).mono ?_
      rintro e w3 ⟨hi, b3⟩
      have B4 := hide ((B3.out.alloc (by rw [e0]; have := S3.out; omega) _).trans (b3.mono (by rw [e0]; have := S3.out; simp; omega)))
      have hc0 : w3.cell? ⟨w.heap.size, 0, none⟩ = some (.int .i64 0) := by rw [(bcell B4.out).1 _ _ (by rw [e0]; omega)]; simp [go_sem]
      have hc1 : w3.cell? ⟨w.heap.size, 1, none⟩ = some (.int .i64 0) := by rw [(bcell B4.out).1 _ _ (by rw [e0]; omega)]; simp [go_sem]
      have hf0 : w3.frozen? ⟨w.heap.size, 0, none⟩ = false := by rw [(bcell B4.out).2 _ _ (by rw [e0]; omega)]; simp [go_sem]
      have hf1 : w3.frozen? ⟨w.heap.size, 1, none⟩ = false := by rw [(bcell B4.out).2 _ _ (by rw [e0]; omega)]; simp [go_sem]
      have bel : Below w.heap.size w w3 := W0.out.trans (B4.out.mono (by rw [e0]; omega))
      have H0 := hide h
      clear b3 B3 S3 B4 e0 W0 h Q0 Q1 hpa
      rcases hi with ⟨hN, rfl⟩ | ⟨hN, rfl⟩
      · have HN := hide hN
        by_cases hq : q ≤ 9223372036854775807
        · have t : decide ((9223372036854775807 : Int) < (q : Int)) = false := by simp; omega
          have HD : Hid (I64 (rD n d)) := by unfold Hid; rw [ED2.out]; unfold I64; omega
          have hq2 : (q : Int) ≤ 9223372036854775807 := by omega
          obtain ⟨N, eN⟩ : ∃ N, N = rN n d := ⟨_, rfl⟩
          have EE := hide eN
          rw [← eN]
          clear hN hq eN
          go_wp2_with fail
          refine bodyPost_ret (v := .tuple #[.agg #[.int .i64 N, .int .i64 (q : Int)], .int .i64 0]) (by simp [results, Try.results25, go_sem, hc0, hc1]) rfl ⟨.inr (.inl ⟨H0.out, ?_, HD.out, ?_⟩), (bel.setCell (Nat.le_refl _) _).setCell (Nat.le_refl _) _⟩
          · exact HN.out
          · rw [ED2.out, EE.out]
        · have t : decide ((9223372036854775807 : Int) < (q : Int)) = true := by simp; omega
          have HD : Hid (¬ I64 (rD n d)) := by unfold Hid; rw [ED2.out]; unfold I64; omega
          obtain ⟨N, eN⟩ : ∃ N, N = rN n d := ⟨_, rfl⟩
          have EE := hide eN
          rw [← eN]
          clear hN hq eN
          go_wp2_with fail
          refine bodyPost_ret (v := .tuple #[.agg #[.int .i64 0, .int .i64 0], .int .i64 7]) (by simp [results, Try.results25, go_sem, hc0, hc1]) rfl ⟨.inr (.inr ⟨H0.out, fun k => HD.out k.2, rfl⟩), (bel.setCell (Nat.le_refl _) _).setCell (Nat.le_refl _) _⟩
      · have HN := hide hN
        obtain ⟨N, eN⟩ : ∃ N, N = rN n d := ⟨_, rfl⟩
        have EE := hide eN
        clear hN eN
        go_wp2_with fail
        refine bodyPost_ret (v := .tuple #[.agg #[.int .i64 0, .int .i64 0], .int .i64 7]) (by simp [results, Try.results25, go_sem, hc0, hc1]) rfl ⟨.inr (.inr ⟨H0.out, fun k => HN.out k.1, rfl⟩), (bel.setCell (Nat.le_refl _) _).setCell (Nat.le_refl _) _⟩
    · have hne : ((k : Int) != 0) = true := by rw [bne_iff_ne]; omega
      have hm : ((c % k : Nat) : Int) < k := by have := Nat.mod_lt c (Nat.pos_of_ne_zero h0); omega
      have hd1 : (1 : Int) ≤ k := by omega
      have hcm : ((c % k : Nat) : Int) ≤ c := by have := Nat.mod_le c k; omega
      have hcast := hide (Int.natCast_emod c k)
      go_wp2_with fail
      go_quiet (fail)
      go_wp2_with fail
      go_roundw
      case rel => exact ⟨k, c % k, rfl, by rw [hcast.out], by unfold Hid; rw [← hg.out, Nat.gcd_comm k, ← Nat.gcd_rec, Nat.gcd_comm], hk, by omega, below_drewN hbel.out _⟩
      case measure => simp only [intOf]; rw [← hcast.out]; omega
end Go.Proofs.Ytomgdleoegaooaa
