/- ArenaFills: the law answers true at every argument: an arena gives out its slots from 0 on, each once, and then none. No condition. -/
import Derived.Test.YtflblojmjdlhiaaW
import Derived.Test.YtflblojmjdlhiaaM
import Derived.Test.YtflblojmjdlhiaaOp
import Derived.Test.YtflblojmjdlhiaaRows
set_option linter.unusedVariables false
set_option linter.unusedSimpArgs false
namespace Go.Proofs.Ytflblojmjdlhiaa
open Go.RowKit
namespace lawFills
open Go.ChangeShapes Go.WideShapes Go.ChangeAt Go.RowKit Go.Joins
set_option maxRecDepth 100000 in
set_option maxHeartbeats 4000000 in
theorem walk (a0 : Int) (w : World) (b0 : 0 ≤ a0 ∧ a0 ≤ 65535) : Calls Try.prog 6 #[.int .u16 a0] w fun e w' => e = .returned (.bool true) ∧ Below w.heap.size w w' := by
  obtain ⟨s, rfl⟩ : ∃ s : Nat, a0 = (s : Int) := ⟨a0.toNat, by omega⟩
  have hp := up22
  have mt := made_t s 0 (by omega) (by omega) w
  obtain ⟨n, hn⟩ : ∃ n, n = 1 + s % 300 := ⟨_, rfl⟩
  rw [← hn] at mt
  have HN := hide (show 0 < n ∧ n ≤ 300 by omega)
  rw [Nat.zero_mod] at mt
  have MT := hide mt
  clear hn b0 mt
  go_enter Try.func6, Try.ntmps6
  go_wp2_with fail
  refine MT.out.mono ?_
  rintro e w1 ⟨b, rfl, h1⟩
  have H1 := hide h1
  clear h1
  go_wp2_with fail
  go_loopw [6] (fun i wr => ∃ k : Nat, i = .int .i64 (k : Int) ∧ Hid (k ≤ n) ∧ Hid (Has w.heap.size w wr b ⟨n, List.replicate k 1, []⟩ [])) (fun i _ => n - (intOf i).toNat)
  case atStart => exact ⟨0, rfl, Nat.zero_le _, H1⟩
  case round =>
    obtain ⟨k, rfl, hk, hH⟩ := hrel
    by_cases hlt : k < n
    · have dk : decide (k < n) = true := by simp; omega
      have hlt2 := hide hlt
      have ww : IntKind.i64.wrap ((k : Int) + 1) = (k : Int) + 1 := by have := HN.out; rw [IntKind.wrap_i64]; omega
      obtain ⟨ea, eb⟩ := rep_alloc n k hlt
      have EA := hide ea
      have EB := hide eb
      have EU : Hid ((Ar.mk n (List.replicate (k + 1) 1) []).used (k : Int) = true) := (used_iff _ k).2 ⟨by simp, by simp⟩
      have ET : Hid ((Ar.mk n (List.replicate (k + 1) 1) []).times (k : Int) = 1) := by
        show Ar.times _ _ = _
        unfold Ar.times
        rw [if_pos (by simp; omega)]
        simp [List.getD]
      clear ea eb hlt
      go_wp2_with (first | (go_at_call 16; refine (h_alloc hH.out (by simp) _ _ EA.out EB.out).mono ?_; rintro e w2 ⟨rfl, h2, _⟩; have H2 := hide h2; clear h2) | (go_at_call 23; refine (h_used H2.out _ _ EU.out).mono ?_; rintro e w' ⟨rfl, rfl⟩) | (go_at_call 24; refine (h_times H2.out _ _ ET.out).mono ?_; rintro e w' ⟨rfl, rfl⟩))
      go_roundw
      case rel => exact ⟨k + 1, by go_num, by have := hlt2.out; show k + 1 ≤ n; omega, H2⟩
      case measure => have := hlt2.out; simp [intOf]; omega
    · have dk : decide (k < n) = false := by simp; omega
      have he : k = n := by have := hk.out; omega
      rw [he] at hH
      obtain ⟨fa, fb, fc⟩ := rep_full n
      have FA := hide fa
      have FB := hide fb
      have FC := hide fc
      have EL : Hid ((((Ar.mk n (List.replicate n 1) []).len : Nat) : Int) = (n : Int)) := by
        show (((Ar.mk n (List.replicate n 1) []).len : Nat) : Int) = (n : Int)
        simp [Ar.len]
      have EI : Hid ((Ar.mk n (List.replicate n 1) []).list.length = n) := by
        show (Ar.mk n (List.replicate n 1) []).list.length = n
        have : (Ar.mk n (List.replicate n 1) []).list = List.range n := by
          unfold Ar.list Ar.upto
          simp only [List.length_replicate]
          rw [List.filter_eq_self]
          intro i hi
          rw [used_iff]
          simp at hi
          exact ⟨by simpa using hi, by simp⟩
        rw [this]; simp
      clear fa fb fc he
      go_wp2_with (first | (go_at_call 16; refine (h_alloc hH.out (by simp) _ _ FA.out FB.out).mono ?_; rintro e w2 ⟨rfl, h2, _⟩; have H2 := hide h2; clear h2) | (go_at_call 22; refine (h_next H2.out (by simp) _ FC.out).mono ?_; rintro e w3 ⟨rfl, h3, _⟩; have H3 := hide h3; clear h3) | (go_at_call 25; refine (h_len H3.out _ EL.out).mono ?_; rintro e w' ⟨rfl, rfl⟩) | (go_at_call 27; refine (h_list H3.out (by simp) _ rfl).mono ?_; rintro e w4 ⟨p, c, rfl, o4, h4, _⟩; have H4 := hide h4.below; have el := EI.out; rw [el]; clear h4 o4 el) | (go_at_call 15; refine (works _).mono ?_; rintro e w5 ⟨rfl, b5⟩; have H5 := hide b5; clear b5))
      go_ret
      exact ⟨by simp, H4.out.trans (H5.out.mono H4.out.size)⟩
theorem own : ownKnob Try.prog.godebug = none := by kernel_rfl
theorem laidOut : laidOutB Try.prog = true := by kernel_rfl
set_option maxRecDepth 100000 in
theorem lifted (os : Os) (started : os.Started) (H : Type) (enc : TypeId × Value → H) :
    ReturnsInHanded {} Try.checked os 6 .any (Rows.arenaFillsSpec.pre6 enc Try.prog Try.f6 Rows.arenaFillsRow.domain false) (Rows.arenaFillsSpec.post enc Try.prog Try.f6 false true false false) := by
  refine returnsInHanded_of_change (C := Try.checked) own started (by kernel_rfl) Try.func6
    (ChangeSpec.witness6 (enc := enc) (C := Try.checked) false ⟨#[], #[.int .u16 0], []⟩ 8 (by kernel_rfl) (by kernel_rfl) (by kernel_rfl) (by kernel_rfl)) ?_
  intro W base args ds gs before hval0 hW hcnd _
  have hval : ∀ (j : Nat) t v, Try.f6.params[j]? = some t → args[j]? = some v → Value.okWide Try.prog W .any base t v := hval0
  have hW' := hW
  obtain ⟨p, q, hA0, hV, rfl, hfz, hnd⟩ := hW
  have hA : DataW.TrodAll enc Try.prog W 0 (fun _ => true) true Try.f6.params.toList args.toList ds p := hA0
  rw [Try.params6] at hA hval
  obtain ⟨v0, vs0, d0, ds0, p0, q0, hargs, rfl, rfl, h0, r0⟩ := trodAll_cons hA
  obtain ⟨rfl, rfl, rfl⟩ := trodAll_nil r0
  obtain rfl : args = #[v0] := by cases args; simp_all
  obtain ⟨rfl, rfl⟩ := trodVars_none hV
  have k0 := h0
  have lt0 : ∀ x ∈ p0, x.block < W.heap.size := by obtain ⟨m, hm⟩ := k0; exact DataW.trod_lt m _ _ _ hm
  obtain ⟨a0, rfl, _, _, w0⟩ := open_int Try.underlying53 (hval 0 53 v0 rfl rfl) h0
  clear hA0 hval0
  refine (walk a0 W (bounds_u16 w0)).mono fun e W' ⟨he, bel⟩ => ?_
  subst he
  exact ⟨_, rfl, _, _, _, [], _, [], hW', trodAll_mk1 (shut_bool Try.underlying4 _), (trodAll_cons_mk (Below.trod laidOut (by kernel_rfl) (of_decide_eq_true (by kernel_rfl)) k0 bel lt0) trodAll_mk0), rfl, bel.frame _, fun h => by cases h⟩
theorem holds : Rows.arenaFillsRow.holds Try.pinned (OpenSpec.ofChange Rows.arenaFillsSpec) :=
  OpenClaim.holds_of_wide 6 Try.f6 rfl rfl rfl rfl rfl rfl rfl ⟨rfl, rfl, rfl, rfl, rfl⟩ rfl rfl rfl rfl rfl (by kernel_rfl) Try.func6 (by kernel_rfl)
    (of_decide_eq_true (by kernel_rfl)) (by unfold Func.isWrapper; first | (rw [if_pos (by decide +kernel)]; kernel_rfl) | (rw [if_neg (by decide +kernel)]; exact ⟨rfl, rfl⟩))
    (fun os started H enc _ => lifted os started H enc)
theorem proved : Rows.ArenaFillsSaid := holds
end lawFills
end Go.Proofs.Ytflblojmjdlhiaa
