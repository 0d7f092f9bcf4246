/- A clock and the document's agree. -/
import Derived.Test.YtimjkkamfgafoaaE
set_option linter.unusedVariables false
set_option linter.unusedSimpArgs false
namespace Go.Proofs.Ytimjkkamfgafoaa
open Go.RowKit

section
variable (p : Option Addr) (w : World) (h : bad w p)
include h
theorem expiry_f (x : Int) : Calls Try.prog 25 #[.pointer p, .int .i64 x] w fun e w' => e = .returned (.tuple #[.int .i64 0, .int .i64 1]) ∧ w = w' := by
  have v0 := valid_f p w h
  go_enter Try.func25, Try.ntmps25
  go_wp2_with (go_at_call 30; refine v0.mono ?_; rintro e w' ⟨rfl, rfl⟩)
  go_ret2
  exact ⟨rfl, rfl⟩
theorem check_f (x : Int) : Calls Try.prog 17 #[.pointer p, .int .i64 x] w fun e w' => e = .returned (.int .i64 1) ∧ w = w' := by
  have v0 := valid_f p w h
  go_enter Try.func17, Try.ntmps17
  go_wp2_with (go_at_call 30; refine v0.mono ?_; rintro e w' ⟨rfl, rfl⟩)
  go_ret
  exact ⟨rfl, rfl⟩
theorem advance_f (x : Int) : Calls Try.prog 15 #[.pointer p, .int .i64 x] w fun e w' => e = .returned (.int .i64 1) ∧ w = w' := by
  have v0 := check_f p w h x
  go_enter Try.func15, Try.ntmps15
  go_wp2_with (go_at_call 17; refine v0.mono ?_; rintro e w' ⟨rfl, rfl⟩)
  go_ret
  exact ⟨rfl, rfl⟩
theorem live_f (x : Int) : Calls Try.prog 26 #[.pointer p, .int .i64 x] w fun e w' => e = .returned (.bool false) ∧ w = w' := by
  have v0 := expiry_f p w h x
  go_enter Try.func26, Try.ntmps26
  go_wp2_with (go_at_call 25; refine v0.mono ?_; rintro e w' ⟨rfl, rfl⟩)
  go_ret
  exact ⟨rfl, rfl⟩
theorem now_f : Calls Try.prog 23 #[.pointer p] w fun e w' => e = .returned (.int .i64 0) ∧ w = w' := by
  have v0 := valid_f p w h
  go_enter Try.func23, Try.ntmps23
  go_wp2_with (go_at_call 30; refine v0.mono ?_; rintro e w' ⟨rfl, rfl⟩)
  go_ret
  exact ⟨rfl, rfl⟩
theorem window_f : Calls Try.prog 24 #[.pointer p] w fun e w' => e = .returned (.int .i64 0) ∧ w = w' := by
  have v0 := valid_f p w h
  go_enter Try.func24, Try.ntmps24
  go_wp2_with (go_at_call 30; refine v0.mono ?_; rintro e w' ⟨rfl, rfl⟩)
  go_ret
  exact ⟨rfl, rfl⟩
theorem copy_f : Calls Try.prog 19 #[.pointer p] w fun e w' => e = .returned (.pointer none) ∧ w = w' := by
  have v0 := valid_f p w h
  go_enter Try.func19, Try.ntmps19
  go_wp2_with (go_at_call 30; refine v0.mono ?_; rintro e w' ⟨rfl, rfl⟩)
  go_ret
  exact ⟨rfl, rfl⟩
end
theorem agree_n (w : World) (x : Int) : Calls Try.prog 13 #[.pointer none, .pointer none, .int .i64 x] w fun e w' => e = .returned (.bool true) ∧ Below w.heap.size w w' := by
  have A1 := hide (expiry_f none w (.inl rfl) x)
  have A2 := hide (now_f none w (.inl rfl))
  have A3 := hide (window_f none w (.inl rfl))
  have A4 := hide (live_f none w (.inl rfl) x)
  have A5 := hide (check_f none w (.inl rfl) x)
  have R1 := hide (rexpiry_n w x)
  have R2 := hide (rnow_n w)
  have R3 := hide (rwindow_n w)
  have R4 := hide (rlive_n w x)
  have R5 := hide (rcheck_n w x)
  go_enter Try.func13, Try.ntmps13
  go_wp2_with (first | (go_at_call 25; refine A1.out.mono ?_; rintro e w' ⟨rfl, rfl⟩) | (go_at_call 27; refine R1.out.mono ?_; rintro e w' ⟨rfl, rfl⟩) | (go_at_call 23; refine A2.out.mono ?_; rintro e w' ⟨rfl, rfl⟩) | (go_at_call 21; refine R2.out.mono ?_; rintro e w' ⟨rfl, rfl⟩) | (go_at_call 24; refine A3.out.mono ?_; rintro e w' ⟨rfl, rfl⟩) | (go_at_call 28; refine R3.out.mono ?_; rintro e w' ⟨rfl, rfl⟩) | (go_at_call 26; refine A4.out.mono ?_; rintro e w' ⟨rfl, rfl⟩) | (go_at_call 29; refine R4.out.mono ?_; rintro e w' ⟨rfl, rfl⟩) | (go_at_call 17; refine A5.out.mono ?_; rintro e w' ⟨rfl, rfl⟩) | (go_at_call 18; refine R5.out.mono ?_; rintro e w' ⟨rfl, rfl⟩))
  go_ret
  exact ⟨rfl, Below.refl _ _⟩
set_option maxHeartbeats 4000000 in
theorem agree_t {w : World} {b c : Nat} {n t : Int} (h : Cl w b n t) (g : Rl w c n t) (x : Int) (hx : I64 x) : Calls Try.prog 13 #[.pointer (some ⟨b, 0, none⟩), .pointer (some ⟨c, 0, none⟩), .int .i64 x] w fun e w' => e = .returned (.bool true) ∧ Below w.heap.size w w' := by
  have hb := h.lt
  have hc := g.lt
  have X := hide hx
  have H := hide h
  have G := hide g
  have A1 := hide (expiry_t h x hx)
  have R1 := hide (rexpiry_t g x hx)
  clear h g hx
  generalize hv : gv (x + n) = v at *
  generalize he : ge (x + n) = er at *
  clear hv he
  go_enter Try.func13, Try.ntmps13
  go_wp2_with fail
  refine A1.out.mono ?_
  rintro e w' ⟨rfl, rfl⟩
  go_wp2_with fail
  refine R1.out.mono ?_
  rintro e w1 ⟨rfl, bb⟩
  have B1 := hide bb
  have H1 := hide (H.out.below bb hb)
  have G1 := hide (G.out.below bb hc)
  have A2 := hide (now_t H1.out)
  have A3 := hide (window_t H1.out)
  have A4 := hide (live_t H1.out x X.out)
  have R2 := hide (rnow_t G1.out)
  have R3 := hide (rwindow_t G1.out)
  have R4 := hide (rlive_t G1.out x X.out)
  have hb1 := H1.out.lt
  have hc1 := G1.out.lt
  clear bb A1 R1
  generalize hl : lv n t x = l at *
  clear hl
  go_wp2_with fail
  refine A2.out.mono ?_
  rintro e w' ⟨rfl, rfl⟩
  go_wp2_with fail
  refine R2.out.mono ?_
  rintro e w' ⟨rfl, rfl⟩
  go_wp2_with fail
  refine A3.out.mono ?_
  rintro e w' ⟨rfl, rfl⟩
  go_wp2_with fail
  refine R3.out.mono ?_
  rintro e w' ⟨rfl, rfl⟩
  go_wp2_with fail
  refine A4.out.mono ?_
  rintro e w' ⟨rfl, rfl⟩
  go_wp2_with fail
  refine R4.out.mono ?_
  rintro e w2 ⟨rfl, bb⟩
  have B2 := hide (B1.out.trans (bb.mono B1.out.size))
  have A5 := hide (check_t (H1.out.below bb hb1) x X.out)
  have R5 := hide (rcheck_t (G1.out.below bb hc1) x X.out)
  clear bb A2 A3 A4 R2 R3 R4 hb hc hb1 hc1
  generalize hk : ck n t x = k at *
  clear hk
  go_wp2_with fail
  refine A5.out.mono ?_
  rintro e w' ⟨rfl, rfl⟩
  go_wp2_with fail
  refine R5.out.mono ?_
  rintro e w3 ⟨rfl, bb⟩
  have B3 := hide (B2.out.trans (bb.mono B2.out.size))
  clear bb
  go_wp2_with fail
  go_ret
  exact ⟨rfl, B3.out⟩
end Go.Proofs.Ytimjkkamfgafoaa
