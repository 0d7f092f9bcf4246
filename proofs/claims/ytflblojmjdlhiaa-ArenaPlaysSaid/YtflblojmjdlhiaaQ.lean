/- play, walked: the flags are what is used. -/
import Derived.Test.YtflblojmjdlhiaaP
import Derived.Deep.CutRange
set_option linter.unusedVariables false
set_option linter.unusedSimpArgs false
namespace Go.Proofs.Ytflblojmjdlhiaa
open Go.RowKit

theorem at_block {P : Program} {i} {c : Code} {Q : Exit → Act → World → Prop} {a : Act} {w : World} (h : Code.wp P (.block i (.loop c)) Q a w) : Code.wp P (.block i (.loop c)) Q a w := h
theorem outs_new (n : Nat) : outs ⟨n, [], []⟩ n = List.replicate n (.bool false) := by
  apply List.ext_getElem
  · simp [outs]
  · intro i h1 h2
    simp [outs, Ar.used]
theorem PlayI.same {w wr w2 : World} {b n g : Nat} {A : Ar} {al fr : Nat} (h : PlayI w wr b n g A al fr) (h2 : Has w.heap.size w w2 b A [g]) (s : Same [g] wr w2) : PlayI w w2 b n g A al fr :=
  ⟨h2, h.cap, s.row h.row (fun k hk => by simp [Value.ownBlock] at hk; simp [hk]), h.cnt, h.sum⟩
theorem PlayI.drewN {w wr : World} {b n g : Nat} {A : Ar} {al fr : Nat} (h : PlayI w wr b n g A al fr) (q : Nat) : PlayI w (wr.drewN q) b n g A al fr := by
  obtain ⟨h1, h2⟩ := h.has.step h.g (Kp.drewN [] wr q)
  exact h.same h1 h2

set_option maxRecDepth 100000 in
set_option maxHeartbeats 8000000 in
theorem play_t (a : Nat) (ha : a < 256) (s : Option Addr) (len cap : Nat) (V : Nat → Nat → Int) (w : World) (hr : RowsI w s [.u8] len V) :
    Calls Try.prog 29 #[.int .u8 (a : Int), .slice s len cap] w fun e w' => ∃ b A al fr, e = .returned (.tuple #[.pointer (some ⟨b, 0, none⟩), .int .i64 ((al : Nat) : Int), .int .i64 ((fr : Nat) : Int), .bool true]) ∧ Has w.heap.size w w' b A [] ∧ A.cap = 1 + a % 40 ∧ A.len + fr = al ∧ isum A.T = (al : Int) ∧ al ≤ 500 := by
  have hp := up22
  have w1 : IntKind.i64.wrap (a : Int) = (a : Int) := by rw [IntKind.wrap_i64]; omega
  obtain ⟨n, hn⟩ : ∃ n, n = 1 + a % 40 := ⟨_, rfl⟩
  have e1 : (1 : Int) + (a : Int) % 40 = (n : Int) := by omega
  have w3 : IntKind.i64.wrap (n : Int) = (n : Int) := by rw [IntKind.wrap_i64]; omega
  rw [← hn]
  have HN := hide (show 0 < n ∧ n ≤ 40 by omega)
  have HR := hide hr
  clear hn hr
  go_enter Try.func29, Try.ntmps29
  go_wp2_with fail
  refine (h_new (O := []) n (by have := HN.out; omega) (Nat.le_refl _) (Below.refl _ _) (by simp)).mono ?_
  rintro e w1 ⟨b, rfl, h1, _⟩
  have H1 := hide h1
  obtain ⟨i0, hi, hz0, hz1, hz2⟩ := info_parts info4
  have HI := hide (And.intro hi (And.intro hz0 (And.intro hz1 hz2)))
  clear h1 e1 w3 ha hi hz0 hz1 hz2
  go_wp2_with (at_make; refine wpList_make_full _ rfl _ _ 65 rfl w.heap.size 4 i0 (.bool false) 1 Try.underlying65 HI.out.1 HI.out.2.1 HI.out.2.2.1 .i64 .i64 (n : Int) (n : Int) n rfl rfl rfl rfl (by have := HI.out.2.2.2; have := HN.out; rw [‹i0.bytes = 1›]; omega) (by have := HN.out; unfold maxLen; omega) H1.out.below.size ?_)
  intro w2 hown hgrow
  obtain ⟨g, hg⟩ : ∃ g, g = w1.heap.size := ⟨_, rfl⟩
  rw [← hg] at hown ⊢
  have PI : Hid (PlayI w w2 b n g ⟨n, [], []⟩ 0 0) := by
    refine ⟨?_, rfl, ?_, rfl, rfl⟩
    · exact H1.out.names ⟨hgrow.os, hgrow.tape, hgrow.output, hgrow.size, fun k hk _ => hgrow.block k hk (by simp)⟩ (fun x hx => by simp at hx; subst hx; exact .inr (by omega))
    · rw [outs_new]
      try rw [Nat.mul_one] at hown
      have := toList_madeCells_one (.bool false) n
      rw [← this]
      exact hown
  clear hown hgrow hg H1 HI
  repeat ((fail_if_success (with_reducible refine at_block ?_)); (first | go_values | go_skip | go_guarded | go_step | go_upon | go_back | go_simp))
  go_cut [4, 5, 6] from 16 (fun p al fr wr => ∃ (A : Ar) (i j : Nat), p = .pointer (some ⟨b, 0, none⟩) ∧ al = .int .i64 (i : Int) ∧ fr = .int .i64 (j : Int) ∧ Hid (i ≤ 500) ∧ Hid (PlayI w wr b n g A i j))
  case first =>
    go_wp2_with fail
    go_loopw [4, 5, 6, 11] (fun p al fr k wr => ∃ (A : Ar) (i j q : Nat), p = .pointer (some ⟨b, 0, none⟩) ∧ al = .int .i64 (i : Int) ∧ fr = .int .i64 (j : Int) ∧ k = .int .i64 (q : Int) ∧ Hid (i ≤ q ∧ j ≤ q ∧ q ≤ 500) ∧ Hid (PlayI w wr b n g A i j)) (fun _ _ _ k _ => 500 - (intOf k).toNat)
    case atStart => exact ⟨⟨n, [], []⟩, 0, 0, 0, rfl, rfl, rfl, rfl, ⟨Nat.le_refl _, Nat.le_refl _, by omega⟩, PI⟩
    case round =>
      obtain ⟨A, i, j, q, rfl, rfl, rfl, rfl, hB, hP⟩ := hrel
      by_cases hc : q < len ∧ q < 500
      · obtain ⟨c1, c2⟩ := hc
        obtain ⟨bb, off, hs, hbb, hcell, hwf⟩ := rowsI_one HR.out c1
        obtain ⟨z, hz⟩ : ∃ z : Nat, V q 0 = (z : Int) := ⟨(V q 0).toNat, by have := bounds_u8 hwf; omega⟩
        rw [hz] at hcell
        have hz2 : z ≤ 255 := by have := bounds_u8 hwf; omega
        have cell : wr.cell? ⟨bb, off + q, none⟩ = some (.int .u8 (z : Int)) := by
          rw [hP.out.has.below.cell (p := ⟨bb, off + q, none⟩) hbb]; exact hcell
        have d1 : decide (q < len) = true := by simpa using c1
        have d2 : decide ((q : Int) < 500) = true := by simp; omega
        have ww : IntKind.i64.wrap ((q : Int) + 1) = (q : Int) + 1 := by rw [IntKind.wrap_i64]; omega
        have K2 := hide c2
        subst hs
        clear hz hwf hcell hbb c2
        by_cases h128 : z < 128
        · have dz : decide ((z : Int) < 128) = true := by simp; omega
          clear hz2 h128
          rcases hnx : A.next with _ | x
          · have ea : allocV A = .tuple #[.int .i64 0, .int .i64 4] := by unfold allocV; rw [hnx]
            have eb : A.alloc' = A := by unfold Ar.alloc'; rw [hnx]
            have EA := hide ea
            have EB := hide eb
            clear ea eb hnx
            go_wp2_with (go_at_call 16; refine (h_alloc hP.out.has hP.out.g _ _ EA.out EB.out).mono ?_; rintro e w3 ⟨rfl, h3, s3⟩; have P3 := hide (hP.out.same h3 s3); clear h3 s3)
            go_roundw
            case rel => exact ⟨A, i, j, q + 1, rfl, rfl, rfl, by go_num, by have := hB.out; have := K2.out; exact ⟨by omega, by omega, by omega⟩, P3⟩
            case measure => have := K2.out; simp [intOf]; omega
          · have ea : allocV A = .tuple #[.int .i64 (x : Int), .int .i64 0] := by unfold allocV; rw [hnx]
            obtain ⟨f0, f1, f2, f3, f4, f5, f6⟩ := alloc_facts hP.out.has.ok hnx
            have hxn : x < n := by have := hP.out.cap; omega
            have f7 := f6 (by have := hP.out.sum; have := hB.out; omega)
            have EA := hide ea
            have EB := hide f0
            have EU := hide f1
            have EF := hide (And.intro f3 (And.intro f4 (And.intro f5 f7)))
            have dx : decide (n ≤ x) = false := by simp; omega
            have dx0 : decide ((x : Int) < 0) = false := by simp
            have wi : IntKind.i64.wrap ((i : Int) + 1) = (i : Int) + 1 := by have := hB.out; rw [IntKind.wrap_i64]; omega
            clear ea f0 f1 f2 f3 f4 f5 f6 f7 hnx
            go_wp2_with (go_at_call 16; refine (h_alloc hP.out.has hP.out.g _ _ EA.out EB.out).mono ?_; rintro e w3 ⟨rfl, h3, s3⟩; have C3 := hP.out.cell s3 hxn; rw [EU.out] at C3; obtain ⟨C3, C4⟩ := C3; have P3 : Hid (PlayI w (w3.setCell ⟨g, x, none⟩ (.bool true)) b n g A.alloc (i + 1) j) := (hP.out.put h3 s3 hxn EF.out.1 EF.out.2.2.1 (by have := EF.out.2.1; have := hP.out.cnt; omega) (by rw [EF.out.2.2.2, hP.out.sum]; omega)); clear h3 s3)
            go_roundw
            case rel => exact ⟨A.alloc, i + 1, j, q + 1, rfl, by go_num, rfl, by go_num, by have := hB.out; have := K2.out; exact ⟨by omega, by omega, by omega⟩, P3⟩
            case measure => have := K2.out; simp [intOf]; omega
        · have dz : decide ((z : Int) < 128) = false := by simp; omega
          obtain ⟨x, hx⟩ : ∃ x, x = z % n := ⟨_, rfl⟩
          have ex : (z : Int) % (n : Int) = (x : Int) := by rw [hx]; norm_cast
          have hxn : x < n := by rw [hx]; exact Nat.mod_lt _ HN.out.1
          have wz : IntKind.i64.wrap (z : Int) = (z : Int) := by rw [IntKind.wrap_i64]; omega
          have m0 : ¬ (n : Int) = 0 := by have := HN.out; omega
          have m1 : ¬ n = 0 := by have := HN.out; omega
          obtain ⟨fe, ff⟩ := freeE_facts (A := A) (x := x) (by have := hP.out.cap; omega)
          clear hz2 h128 hx
          cases hu : A.used x with
          | false =>
            rw [hu] at fe ff
            have FE := hide fe
            have FF := hide ff
            clear fe ff hu
            go_wp2_with (go_at_call 18; refine (h_free hP.out.has hP.out.g _ _ _ FE.out FF.out).mono ?_; rintro e w3 ⟨rfl, h3, s3⟩; have P3 := hide (hP.out.same h3 s3); clear h3 s3)
            go_roundw
            case rel => exact ⟨A, i, j, q + 1, rfl, rfl, rfl, by go_num, by have := hB.out; have := K2.out; exact ⟨by omega, by omega, by omega⟩, P3⟩
            case measure => have := K2.out; simp [intOf]; omega
          | true =>
            rw [hu] at fe ff
            obtain ⟨g1, g2, g3⟩ := free_facts hP.out.has.ok hu
            have FE := hide fe
            have FF := hide ff
            have EU := hide hu
            have EF := hide (And.intro g1 g2)
            have wj : IntKind.i64.wrap ((j : Int) + 1) = (j : Int) + 1 := by have := hB.out; rw [IntKind.wrap_i64]; omega
            clear fe ff hu g1 g2 g3
            go_wp2_with (go_at_call 18; refine (h_free hP.out.has hP.out.g _ _ _ FE.out FF.out).mono ?_; rintro e w3 ⟨rfl, h3, s3⟩; have C3 := hP.out.cell s3 hxn; rw [EU.out] at C3; obtain ⟨C3, C4⟩ := C3; have P3 : Hid (PlayI w (w3.setCell ⟨g, x, none⟩ (.bool false)) b n g (A.free x) i (j + 1)) := (hP.out.put h3 s3 hxn EF.out.1 rfl (by have := EF.out.2; have := hP.out.cnt; omega) hP.out.sum); clear h3 s3)
            go_roundw
            case rel => exact ⟨A.free x, i, j + 1, q + 1, rfl, rfl, by go_num, by go_num, by have := hB.out; have := K2.out; exact ⟨by omega, by omega, by omega⟩, P3⟩
            case measure => have := K2.out; simp [intOf]; omega
      · have hcc : q ≥ len ∨ (q < len ∧ q ≥ 500) := by omega
        clear hc
        rcases hcc with h | ⟨h, h'⟩
        · have d1 : decide (q < len) = false := by simp; omega
          clear h
          go_wp2_with fail
          go_meet
          case rel => exact ⟨A, i, j, rfl, rfl, rfl, by have := hB.out; show i ≤ 500; omega, hP⟩
        · have d1 : decide (q < len) = true := by simpa using h
          have d2 : decide ((q : Int) < 500) = false := by simp; omega
          clear h h'
          go_wp2_with fail
          go_meet
          case rel => exact ⟨A, i, j, rfl, rfl, rfl, by have := hB.out; show i ≤ 500; omega, hP⟩
  case rest =>
    obtain ⟨A, i, j, rfl, rfl, rfl, hi5, hP⟩ := hcut
    go_wp2_with fail
    go_loopw [4, 5, 6, 15] (fun p al fr k wr => ∃ q : Nat, p = .pointer (some ⟨b, 0, none⟩) ∧ al = .int .i64 (i : Int) ∧ fr = .int .i64 (j : Int) ∧ k = .int .i64 (q : Int) ∧ Hid (q ≤ n) ∧ Hid (PlayI w wr b n g A i j)) (fun _ _ _ k _ => n - (intOf k).toNat)
    case atStart => exact ⟨0, rfl, rfl, rfl, rfl, Nat.zero_le _, hP⟩
    case round =>
      obtain ⟨q, rfl, rfl, rfl, rfl, hq, hP⟩ := hrel
      by_cases hlt : q < n
      · have dk : decide (q < n) = true := by simpa using hlt
        have ww : IntKind.i64.wrap ((q : Int) + 1) = (q : Int) + 1 := by have := HN.out; rw [IntKind.wrap_i64]; omega
        obtain ⟨C3, _⟩ := hP.out.cell (Same.refl _ _) hlt
        have H2 := hide hlt
        cases hu : A.used q with
        | false =>
          rw [hu] at C3
          have EU := hide hu
          clear hu
          go_wp2_with fail
          go_quiet (first | (go_at_call 23; exact Calls.quiet_of_same ((h_used (hP.out.drewN _).has _ _ EU.out).mono fun _ _ h => ⟨h.1, h.2.symm⟩)))
          go_wp2_with fail
          go_roundw
          case rel => exact ⟨q + 1, rfl, rfl, rfl, by go_num, by have := H2.out; show q + 1 ≤ n; omega, hP.out.drewN _⟩
          case measure => have := H2.out; simp [intOf]; omega
        | true =>
          rw [hu] at C3
          have EU := hide hu
          clear hu
          go_wp2_with fail
          go_quiet (first | (go_at_call 23; exact Calls.quiet_of_same ((h_used (hP.out.drewN _).has _ _ EU.out).mono fun _ _ h => ⟨h.1, h.2.symm⟩)))
          go_wp2_with fail
          go_roundw
          case rel => exact ⟨q + 1, rfl, rfl, rfl, by go_num, by have := H2.out; show q + 1 ≤ n; omega, hP.out.drewN _⟩
          case measure => have := H2.out; simp [intOf]; omega
      · have dk : decide (q < n) = false := by simp; omega
        clear hlt
        go_wp2_with fail
        (try simp only [Exit.inBlock, Exit.then])
        refine bodyPost_ret (results_tmp4 rfl _ _ _) rfl ?_
        exact ⟨b, A, i, j, rfl, hP.out.has.sub (fun x hx => by cases hx), hP.out.cap, hP.out.cnt, hP.out.sum, hi5.out⟩
end Go.Proofs.Ytflblojmjdlhiaa
