/- CheckedOrders: for any two lists of numbers the law answers true: a sum does not depend on the order, and sums of lists add up. No condition. -/
import Derived.Test.YtomgdleoegaooaaAp
set_option linter.unusedVariables false
set_option linter.unusedSimpArgs false
namespace Go.Proofs.Ytomgdleoegaooaa.lawOrders
open Go.ChangeShapes Go.WideShapes Go.ChangeAt Go.RowKit

/-- what has been appended backwards: the numbers from place k on -/
def Rev (W : World) (zz : List Int) (k : Nat) (v : Value) (wr : World) : Prop :=
  wr.ownsRow W.heap.size 2 1 v (zz.drop k).reverse.length ((zz.drop k).reverse.map (Value.int .i64)) ∧ Below W.heap.size W wr
theorem rev_start (W : World) (zz : List Int) : Rev W zz zz.length (.slice none 0 0) W := by
  refine ⟨?_, Below.refl _ _⟩
  rw [List.drop_length]
  exact World.ownsRow_nil _ _ _ _
theorem rev_list {zz : List Int} {j : Nat} (h : j < zz.length) : (zz.drop j).reverse = (zz.drop (j + 1)).reverse ++ [zz.getD j 0] := by
  rw [List.drop_eq_getElem_cons h, List.reverse_cons]
  simp [List.getD, h]
theorem rev_step {W : World} {zz : List Int} {j : Nat} {v v' : Value} {wr w1 : World} (hj : j < zz.length) (h : Rev W zz (j + 1) v wr) (x : Int) (hx : x = zz.getD j 0)
    (o : w1.ownsRow W.heap.size 2 1 v' ((zz.drop (j + 1)).reverse.length + [x].length) ((zz.drop (j + 1)).reverse.map (Value.int .i64) ++ [x].map (Value.int .i64)))
    (g : (wr.alloc (.cells #[.int .i64 x] 2)).grownBy w1 v.ownBlock) : Rev W zz j v' w1 := by
  obtain ⟨ho, hb⟩ := h
  subst hx
  refine ⟨?_, (hb.alloc hb.size _).grown g (by have := hb.size; simp; omega) (fun k hk => (World.ownsRow.lt ho k hk).1)⟩
  rw [rev_list hj, List.map_append, List.length_append]
  exact o
theorem rev_src (wr : World) (x : Int) : Src (wr.alloc (.cells #[.int .i64 x] 2)) (some ⟨wr.heap.size, 0, none⟩) [x] 1 := by
  refine .inr ⟨_, rfl, fun _ => by simp, fun j u hj => ?_⟩
  rcases j with _ | j
  · simp at hj
    subst hj
    have e : (⟨wr.heap.size, 0, none⟩ : Addr).add 0 = ⟨wr.heap.size, 0, none⟩ := by unfold Addr.add; simp
    rw [e]; simp [go_sem]
  · simp at hj
theorem lsum_reverse (l : List Int) : lsum l.reverse = lsum l := by
  induction l with
  | nil => rfl
  | cons x r ih => rw [List.reverse_cons, lsum_append, ih]; simp only [lsum]; omega

set_option maxRecDepth 100000 in
set_option maxHeartbeats 1000000 in
theorem walk (s0 : Option Addr) (z0 : List Int) (c0 : Nat) (s1 : Option Addr) (z1 : List Int) (c1 : Nat) (w : World)
    (h0 : Src w s0 z0 c0) (h1 : Src w s1 z1 c1) (k0 : Ints w s0 z0) (k1 : Ints w s1 z1) (al0 : allI z0) (al1 : allI z1) (hl0 : z0.length ≤ 200) (hl1 : z1.length ≤ 200) :
    Calls Try.prog 9 #[.slice s0 z0.length c0, .slice s1 z1.length c1] w fun e w' => e = .returned (.bool true) ∧ Below w.heap.size w w' := by
  have d0 : decide ((200 : Int) < z0.length) = false := by simp; omega
  have d1 : decide ((200 : Int) < z1.length) = false := by simp; omega
  have H0 := hide h0
  have H1 := hide h1
  have bA : Below w.heap.size w (w.alloc (.cells #[] 2)) := (Below.refl _ _).alloc (Nat.le_refl _) _
  have oA := hide (World.ownsRow_made (base := w.heap.size) (e := 2) (size := 1) w #[] 0 (Nat.le_refl _) (Nat.zero_le _) rfl)
  have K0 := hide k0
  have K1 := hide k1
  have AL0 := hide al0
  have AL1 := hide al1
  clear h0 h1 k0 k1 al0 al1
  obtain ⟨zz, hzz⟩ : ∃ zz, zz = z0 ++ z1 := ⟨_, rfl⟩
  have hlz : zz.length ≤ 400 := by rw [hzz]; simp; omega
  have HZ := hide hzz
  clear hzz
  go_enter Try.func9, Try.ntmps9
  go_wp2_with (first
    | (at_builtin; refine append_src rfl (.tmp 26) (.tmp 27) rfl w.heap.size (.slice (some ⟨w.heap.size, 0, none⟩) 0 0) 0 [] rfl oA.out s0 z0 c0 rfl (H0.out.below bA) (by omega) bA.size ?_; intro v1 w1 hown1 hg1; rw [Nat.zero_add, List.nil_append] at hown1; have O1 := hide hown1; have bB : Below w.heap.size w w1 := bA.grown hg1 bA.size (fun k hk => by cases hk; exact Nat.le_refl _); clear hown1 hg1)
    | (at_builtin; refine append_src rfl (.tmp 28) (.tmp 29) rfl w.heap.size v1 z0.length (z0.map (Value.int .i64)) rfl O1.out s1 z1 c1 rfl (H1.out.below bB) (by omega) bB.size ?_; intro v2 w2 hown2 hg2; rw [← List.map_append, ← List.length_append, ← HZ.out] at hown2; have bC : Below w.heap.size w w2 := bB.grown hg2 bB.size (fun k hk => (World.ownsRow.lt O1.out k hk).1); obtain ⟨a2, c2, rfl, i2, l2⟩ := owned_ints hown2; have I2 := hide i2; have L2 := hide l2; clear hown2 hg2 i2 l2 O1))
  clear oA bA bB
  go_loopw [6, 7] (fun v i wr => ∃ n : Int, -1 ≤ n ∧ n + 1 ≤ zz.length ∧ i = .int .i64 n ∧ Hid (Rev w2 zz (n + 1).toNat v wr)) (fun _ i _ => (intOf i + 1).toNat)
  case atStart => exact ⟨_, by omega, by omega, rfl, by rw [show ((zz.length : Int) - 1 + 1).toNat = zz.length by omega]; exact rev_start w2 zz⟩
  case round =>
    obtain ⟨n, hn0, hn1, rfl, hR⟩ := hrel
    by_cases hge : 0 ≤ n
    · obtain ⟨j, rfl⟩ := Int.eq_ofNat_of_zero_le hge
      have hj : j < zz.length := by omega
      have hcell : ∃ b off, a2 = some ⟨b, off, none⟩ ∧ wr.cell? ⟨b, off + j, none⟩ = some (.int .i64 (zz.getD j 0)) := by
        rcases I2.out with h | ⟨b, off, h1, h2, h3⟩
        · rw [h] at hj; simp at hj
        · exact ⟨b, off, h1, by rw [(bcell hR.out.2).1 _ _ h2]; exact h3 j hj⟩
      obtain ⟨b, off, rfl, hc⟩ := hcell
      rw [show ((j : Int) + 1).toNat = j + 1 by omega] at hR
      obtain ⟨x, hx⟩ : ∃ x, x = zz.getD j 0 := ⟨_, rfl⟩
      rw [← hx] at hc
      have HX := hide hx
      clear hx
      have hl : (zz.drop (j + 1)).reverse.length + 1 ≤ 1099511627776 := by simp; omega
      have HL := hide hl
      have hb := hide (show w2.heap.size ≤ (wr.alloc (.cells #[.int .i64 x] 2)).heap.size by have := hR.out.2.size; simp; omega)
      clear hl
      go_wp2_with (at_builtin; refine append_src rfl (.tmp 38) (.tmp 43) rfl w2.heap.size _ (zz.drop (j + 1)).reverse.length ((zz.drop (j + 1)).reverse.map (Value.int .i64)) rfl (hR.out.1.alloc _) (some ⟨wr.heap.size, 0, none⟩) [x] 1 rfl (rev_src wr x) HL.out hb.out ?_; intro v3 w3 hown3 hg3; have R3 := hide (rev_step hj hR.out x HX.out hown3 hg3); clear hown3 hg3)
      go_roundw
      case rel => exact ⟨(j : Int) - 1, by omega, by omega, rfl, by rw [show ((j : Int) - 1 + 1).toNat = j by omega]; exact R3⟩
      case measure => simp only [intOf]; omega
    · have hn : n = -1 := by omega
      subst hn
      rw [show ((-1 : Int) + 1).toNat = 0 by omega] at hR
      obtain ⟨a3, c3, rfl, i3, _⟩ := owned_ints hR.out.1
      have I3 := hide i3
      have bR := hR.out.2
      have bD : Below w.heap.size w wr := bC.trans (bR.mono bC.size)
      have ALZ : Hid (allI zz) := by
        unfold Hid; rw [HZ.out]
        intro x hx
        rcases List.mem_append.1 hx with h | h
        · exact AL0.out x h
        · exact AL1.out x h
      have HS : Hid (lsum zz = lsum z0 + lsum z1) := by unfold Hid; rw [HZ.out, lsum_append]
      have S1 : Hid (∀ W, Below w2.heap.size w2 W → Calls Try.prog 20 #[.slice a2 zz.length c2] W fun e w' => e = .returned (.tuple #[.int .i64 (gv (lsum zz)), .int .i64 (ge (lsum zz))]) ∧ Below W.heap.size W w') := fun W hW => sum_any a2 zz c2 W (I2.out.below hW (Nat.le_refl _)) ALZ.out (by omega)
      have S2 : Hid (∀ W, Below wr.heap.size wr W → Calls Try.prog 20 #[.slice a3 (zz.drop 0).reverse.length c3] W fun e w' => e = .returned (.tuple #[.int .i64 (gv (lsum zz)), .int .i64 (ge (lsum zz))]) ∧ Below W.heap.size W w') := fun W hW => by
        have := sum_any a3 (zz.drop 0).reverse c3 W (I3.out.below hW (Nat.le_refl _)) (fun x hx => ALZ.out x (by simpa using hx)) (by rw [List.length_reverse, List.drop_zero]; omega)
        rw [show lsum (zz.drop 0).reverse = lsum zz by rw [List.drop_zero, lsum_reverse]] at this
        exact this
      have S3 : Hid (∀ W, Below w.heap.size w W → Calls Try.prog 20 #[.slice s0 z0.length c0] W fun e w' => e = .returned (.tuple #[.int .i64 (gv (lsum z0)), .int .i64 (ge (lsum z0))]) ∧ Below W.heap.size W w') := fun W hW => sum_any s0 z0 c0 W (K0.out.below hW (Nat.le_refl _)) AL0.out (by omega)
      have S4 : Hid (∀ W, Below w.heap.size w W → Calls Try.prog 20 #[.slice s1 z1.length c1] W fun e w' => e = .returned (.tuple #[.int .i64 (gv (lsum z1)), .int .i64 (ge (lsum z1))]) ∧ Below W.heap.size W w') := fun W hW => sum_any s1 z1 c1 W (K1.out.below hW (Nat.le_refl _)) AL1.out (by omega)
      obtain ⟨rl, hrl⟩ : ∃ rl, rl = (zz.drop 0).reverse.length := ⟨_, rfl⟩
      rw [← hrl] at S2 ⊢
      clear hrl i3 d0 d1 hn0 hn1 hge
      go_wp2_with fail
      refine (S1.out _ bR).mono ?_
      rintro e w3 ⟨rfl, b3⟩
      have bE := bD.trans (b3.mono bD.size)
      go_wp2_with fail
      refine (S2.out _ b3).mono ?_
      rintro e w4 ⟨rfl, b4⟩
      have bF := bE.trans (b4.mono bE.size)
      clear b3 b4
      go_wp2_with fail
      refine (S3.out _ bF).mono ?_
      rintro e w5 ⟨rfl, b5⟩
      have bG := bF.trans (b5.mono bF.size)
      clear b5
      go_wp2_with fail
      refine (S4.out _ bG).mono ?_
      rintro e w6 ⟨rfl, b6⟩
      have bH := bG.trans (b6.mono bG.size)
      clear b6
      by_cases y0 : I64 (lsum z0)
      · by_cases y1 : I64 (lsum z1)
        · rw [gv_ok y0, ge_ok y0, gv_ok y1, ge_ok y1]
          have A := hide (add_any (lsum z0) (lsum z1) w6 y0 y1)
          rw [← HS.out] at A
          generalize gv (lsum zz) = x at *
          generalize ge (lsum zz) = xe at *
          generalize lsum z0 = p at *
          generalize lsum z1 = q at *
          clear y0 y1 S1 S2 S3 S4
          go_wp2_with fail
          refine A.out.mono ?_
          rintro e w' ⟨rfl, rfl⟩
          go_wp2_with fail
          refine (works _).mono ?_
          rintro e w7 ⟨rfl, b7⟩
          go_wp2_with fail
          go_ret
          exact ⟨rfl, bH.trans (b7.mono bH.size)⟩
        · rw [gv_no y1, ge_no y1]
          clear y0 y1 S1 S2 S3 S4
          generalize ge (lsum z0) = xe at *
          go_wp2_with fail
          all_goals
            refine (works _).mono ?_
            rintro e w7 ⟨rfl, b7⟩
            go_wp2_with fail
            go_ret
            exact ⟨rfl, bH.trans (b7.mono bH.size)⟩
      · rw [gv_no y0, ge_no y0]
        clear y0 S1 S2 S3 S4
        go_wp2_with fail
        refine (works _).mono ?_
        rintro e w7 ⟨rfl, b7⟩
        go_wp2_with fail
        go_ret
        exact ⟨rfl, bH.trans (b7.mono bH.size)⟩

theorem walk_long (s0 : Option Addr) (z0 : List Int) (c0 : Nat) (s1 : Option Addr) (z1 : List Int) (c1 : Nat) (w : World) (h : 200 < z0.length ∨ 200 < z1.length) :
    Calls Try.prog 9 #[.slice s0 z0.length c0, .slice s1 z1.length c1] w fun e w' => e = .returned (.bool true) ∧ Below w.heap.size w w' := by
  by_cases h1 : 200 < z0.length
  · have d0 : decide ((200 : Int) < z0.length) = true := by simp; omega
    clear h
    go_enter Try.func9, Try.ntmps9
    go_wp2_with fail
    go_ret
    exact ⟨rfl, Below.refl _ _⟩
  · have d0 : decide ((200 : Int) < z0.length) = false := by simp; omega
    have d1 : decide ((200 : Int) < z1.length) = true := by simp; omega
    clear h
    go_enter Try.func9, Try.ntmps9
    go_wp2_with fail
    go_ret
    exact ⟨rfl, Below.refl _ _⟩
theorem walk_all (s0 : Option Addr) (z0 : List Int) (c0 : Nat) (s1 : Option Addr) (z1 : List Int) (c1 : Nat) (w : World)
    (h0 : Src w s0 z0 c0) (h1 : Src w s1 z1 c1) (k0 : Ints w s0 z0) (k1 : Ints w s1 z1) (al0 : allI z0) (al1 : allI z1) :
    Calls Try.prog 9 #[.slice s0 z0.length c0, .slice s1 z1.length c1] w fun e w' => e = .returned (.bool true) ∧ Below w.heap.size w w' := by
  by_cases g0 : 200 < z0.length
  · exact walk_long s0 z0 c0 s1 z1 c1 w (.inl g0)
  by_cases g1 : 200 < z1.length
  · exact walk_long s0 z0 c0 s1 z1 c1 w (.inr g1)
  exact walk s0 z0 c0 s1 z1 c1 w h0 h1 k0 k1 al0 al1 (by omega) (by omega)
open Go.ChangeShapes Go.WideShapes Go.ChangeAt Go.RowKit Go.Joins
theorem own : ownKnob Try.prog.godebug = none := by kernel_rfl
theorem laidOut : laidOutB Try.prog = true := by kernel_rfl
set_option maxRecDepth 100000 in
theorem lifted (os : Os) (started : os.Started) (H : Type) (enc : TypeId × Value → H) :
    ReturnsInHanded {} Try.checked os 9 .any (Rows.checkedOrdersSpec.pre6 enc Try.prog Try.f9 Rows.checkedOrdersRow.domain false) (Rows.checkedOrdersSpec.post enc Try.prog Try.f9 false true false false) := by
  refine returnsInHanded_of_change (C := Try.checked) own started (by kernel_rfl) Try.func9
    (ChangeSpec.witness6 (enc := enc) (C := Try.checked) false ⟨#[], #[.slice none 0 0, .slice none 0 0], []⟩ 8 (by kernel_rfl) (by kernel_rfl) (by kernel_rfl) (by kernel_rfl)) ?_
  intro W base args ds gs before hval0 hW hcnd _
  have hval : ∀ (j : Nat) t v, Try.f9.params[j]? = some t → args[j]? = some v → Value.okWide Try.prog W .any base t v := hval0
  have hW' := hW
  obtain ⟨p, q, hA0, hV, rfl, hfz, hnd⟩ := hW
  have hA : DataW.TrodAll enc Try.prog W 0 (fun _ => true) true Try.f9.params.toList args.toList ds p := hA0
  rw [Try.params9] at hA hval
  obtain ⟨v0, vs0, d0, ds0, p0, q0, hargs, rfl, rfl, h0, r0⟩ := trodAll_cons hA
  obtain ⟨v1, vs1, d1, ds1, p1, q1, rfl, rfl, rfl, h1, r1⟩ := trodAll_cons r0
  obtain ⟨rfl, rfl, rfl⟩ := trodAll_nil r1
  obtain rfl : args = #[v0, v1] := by cases args; simp_all
  obtain ⟨rfl, rfl⟩ := trodVars_none hV
  have k0 := h0
  have lt0 : ∀ x ∈ p0, x.block < W.heap.size := by obtain ⟨m, hm⟩ := k0; exact DataW.trod_lt m _ _ _ hm
  have k1 := h1
  have lt1 : ∀ x ∈ p1, x.block < W.heap.size := by obtain ⟨m, hm⟩ := k1; exact DataW.trod_lt m _ _ _ hm
  obtain ⟨s0, len0, cap0, rfl⟩ := okWide_slice Try.underlying27 (hval 0 27 v0 rfl rfl)
  obtain ⟨z0, hl0, hc0, hi0, hr0, hs0⟩ := ints_in2 Try.underlying27 Try.underlying2 (by kernel_rfl) h0
  subst hl0
  obtain ⟨s1, len1, cap1, rfl⟩ := okWide_slice Try.underlying27 (hval 1 27 v1 rfl rfl)
  obtain ⟨z1, hl1, hc1, hi1, hr1, hs1⟩ := ints_in2 Try.underlying27 Try.underlying2 (by kernel_rfl) h1
  subst hl1
  clear hA0 hval0
  refine (walk_all s0 z0 cap0 s1 z1 cap1 W hs0 hs1 hi0 hi1 hr0 hr1).mono fun e W' ⟨he, bel⟩ => ?_
  subst he
  exact ⟨_, rfl, _, _, _, [], _, [], hW', trodAll_mk1 (shut_bool Try.underlying4 _), (trodAll_cons_mk (Below.trod laidOut (by kernel_rfl) (of_decide_eq_true (by kernel_rfl)) k0 bel lt0) (trodAll_cons_mk (Below.trod laidOut (by kernel_rfl) (of_decide_eq_true (by kernel_rfl)) k1 bel lt1) trodAll_mk0)), rfl, bel.frame _, fun h => by cases h⟩
theorem holds : Rows.checkedOrdersRow.holds Try.pinned (OpenSpec.ofChange Rows.checkedOrdersSpec) :=
  OpenClaim.holds_of_wide 9 Try.f9 rfl rfl rfl rfl rfl rfl rfl ⟨rfl, rfl, rfl, rfl, rfl⟩ rfl rfl rfl rfl rfl (by kernel_rfl) Try.func9 (by kernel_rfl)
    (of_decide_eq_true (by kernel_rfl)) (by unfold Func.isWrapper; first | (rw [if_pos (by decide +kernel)]; kernel_rfl) | (rw [if_neg (by decide +kernel)]; exact ⟨rfl, rfl⟩))
    (fun os started H enc _ => lifted os started H enc)
theorem proved : Rows.CheckedOrdersSaid := holds
end Go.Proofs.Ytomgdleoegaooaa.lawOrders
