/- Uniting two sets. -/
import Derived.Test.YtfjmnidenoojhaaE
set_option linter.unusedVariables false
set_option linter.unusedSimpArgs false
namespace Go.Proofs.Ytfjmnidenoojhaa
open Go.RowKit

theorem info_parts' : True := trivial
set_option maxRecDepth 100000 in
set_option maxHeartbeats 16000000 in
theorem unite_join {B : Nat} {w : World} {b n : Nat} {P Z R L : Nat → Nat} {G : List Nat} {vP vS vG : Value} (M : UM B w b vP vS vG n P Z G) (u : UI n P Z R L G) (x y : Nat) (hx : x < n) (hy : y < n) (he : R x ≠ R y) (hn : n ≤ 65536) (own : List Nat) (hown : own = b :: (vP.ownBlock.toList ++ (vS.ownBlock.toList ++ vG.ownBlock.toList))) (hB : B ≤ w.heap.size) :
    Calls Try.prog 38 #[.pointer (some ⟨b, 0, none⟩), .int .i64 (x : Int), .int .i64 (y : Int)] w fun e w' => e = .returned (.bool true) ∧
      ∃ a c v', ((a = R x ∧ c = R y) ∨ (a = R y ∧ c = R x)) ∧ Z c ≤ Z a ∧ UM B w' b vP vS v' n (upd P c a) (upd Z a (Z a + Z c)) (G ++ [c]) ∧ Kp own w w' ∧ ∀ q, v'.ownBlock = some q → vG.ownBlock = some q ∨ w.heap.size ≤ q := by
  have R1 := hide (root_m M u x hx)
  have R2 := hide (root_m M u y hy)
  have lx := u.rl x hx
  have ly := u.rl y hy
  have znx := u.zn _ lx
  have zny := u.zn _ ly
  have rrx := u.rr x hx
  have rry := u.rr y hy
  have zs : Z (R x) + Z (R y) ≤ n := by
    rw [u.zc _ lx rrx, u.zc _ ly rry, ← cnt_mv he]
    exact cnt_le _ _ _
  have gl := u.len
  generalize R x = rx at *
  generalize R y = ry at *
  have hne : ((rx : Int) == (ry : Int)) = false := by simp; omega
  obtain ⟨pP, cP, rfl⟩ := row_slice M.P
  obtain ⟨pS, cS, rfl⟩ := row_slice M.S
  obtain ⟨pG, cG, rfl⟩ := row_slice M.G
  obtain ⟨gP, rfl, ex, fx, _⟩ := row_cell M.P lx
  obtain ⟨_, hpp, ey, fy, _⟩ := row_cell M.P ly
  injection hpp with hpp; injection hpp with hpp; subst hpp
  obtain ⟨gS, rfl, sx, ux, _⟩ := row_cell M.S lx
  obtain ⟨_, hss, sy, uy, _⟩ := row_cell M.S ly
  injection hss with hss; injection hss with hss; subst hss
  rw [intsF_get P lx] at ex
  rw [intsF_get P ly] at ey
  rw [intsF_get Z lx] at sx
  rw [intsF_get Z ly] at sy
  obtain ⟨c0, c1, c2, c3⟩ := M.c
  have n1 : gP ≠ b := M.ap.ra gP rfl
  have n2 : gS ≠ b := M.ap.rb gS rfl
  have n3 : gP ≠ gS := fun e => M.ap.ab gP rfl (by rw [e]; rfl)
  have n1' := Ne.symm n1
  have n2' := Ne.symm n2
  have n3' := Ne.symm n3
  have HM := hide M
  have HO := hide hown
  have HB := hide hB
  have HN := hide (And.intro hn gl)
  have hp := upPtr
  obtain ⟨i0, hi, hz0, hz1, hz2⟩ := info_parts info3
  have HI := hide (And.intro hi (And.intro hz0 (And.intro hz1 hz2)))
  clear M u hx hy he hown hB c0 gl hi hz0 hz1 hz2 rrx rry
  rcases Nat.lt_or_ge (Z rx) (Z ry) with hlt | hge
  · have dl : decide ((Z rx : Int) < (Z ry : Int)) = true := by simp; omega
    have dl' : decide (Z rx < Z ry) = true := by simp; omega
    have HZ := hide (show Z rx ≤ Z ry by omega)
    clear hlt
    have zt0 : ∃ z, z = Z ry + Z rx := ⟨_, rfl⟩
    obtain ⟨zt, hzt⟩ := zt0
    have ezt : ((Z ry : Nat) : Int) + ((Z rx : Nat) : Int) = (zt : Int) := by omega
    have wzt : IntKind.i64.wrap (zt : Int) = (zt : Int) := by rw [IntKind.wrap_i64]; omega
    have HZT := hide hzt
    clear hzt zs
    go_enter Try.func38, Try.ntmps38
    go_wp2_with fail
    refine R1.out.mono ?_
    rintro e w' ⟨rfl, rfl⟩
    go_wp2_with fail
    refine R2.out.mono ?_
    rintro e w' ⟨rfl, rfl⟩
    go_wp2_with fail
    go_quiet (fail)
    go_wp2_with fail
    have M1 := hide ((HM.out.keep (Kp.drewN [] w nq) (by simp)).setP rx ry)
    have KX : Hid (Kp own w ((w.drewN nq).setCell ⟨gP, rx, none⟩ (.int .i64 (ry : Int)))) := (Kp.drewN own w nq).trans (Kp.set (o := own) _ _ _ (by rw [HO.out]; simp [Value.ownBlock])) (fun z hz => .inl hz)
    generalize (w.drewN nq).setCell ⟨gP, rx, none⟩ (.int .i64 (ry : Int)) = X at *
    clear HM ex ey fx fy sx sy ux uy c1 c2 c3 R1 R2
    refine wp_region_still_tail 16 (by kernel_rfl) (by kernel_rfl) ?_
    simp only [List.take_succ_cons, List.take_zero, List.drop_succ_cons, List.drop_zero]
    generalize hwd : ({ X with drawn := X.drawn + 1 } : World) = wd
    have KD : Kp [] X wd := by rw [← hwd]; exact ⟨rfl, rfl, rfl, Nat.le_refl _, fun _ _ _ => rfl⟩
    have M2 := M1.out.keep KD (by simp)
    have KY := hide (KX.out.trans KD (by simp))
    have c2 := M2.c.2.2.1
    obtain ⟨_, hss, z1, y1, _⟩ := row_cell M2.S ly
    injection hss with hss; injection hss with hss; subst hss
    obtain ⟨_, hss, z2, y2, _⟩ := row_cell M2.S lx
    injection hss with hss; injection hss with hss; subst hss
    rw [intsF_get Z ly] at z1
    rw [intsF_get Z lx] at z2
    have M3 := hide (M2.setS ry zt)
    have c3 : (wd.setCell ⟨gS, ry, none⟩ (.int .i64 (zt : Int))).cell? ⟨b, 3, none⟩ = some (.slice pG G.length cG) := M3.out.c.2.2.2
    have SN := hide (src_new (wd.setCell ⟨gS, ry, none⟩ (.int .i64 (zt : Int))) wd.heap.size (by simp) [.int .i64 (rx : Int)] 3)
    have HBX := hide (show B ≤ wd.heap.size by have := KY.out.size; have := HB.out; omega)
    have HW := hide KY.out.size
    have KZ : Hid (Kp own w (wd.setCell ⟨gS, ry, none⟩ (.int .i64 (zt : Int)))) := KY.out.trans (Kp.set (o := own) _ _ _ (by rw [HO.out]; simp [Value.ownBlock])) (fun z hz => .inl hz)
    clear hwd KD M2 KX M1
    repeat still_step
    refine wpStill_nil ?_
    go_wp2_with (at_builtin; refine wpList_append_new _ rfl _ _ 49 rfl B 3 i0 (.int .i64 0) 1 8 Try.underlying49 HI.out.1 HI.out.2.1 HI.out.2.2.1 HI.out.2.2.2 rfl (by decide) (.slice pG G.length cG) G.length (ints G) rfl (M3.out.G.alloc _) ⟨wd.heap.size, 0, none⟩ 1 1 [.int .i64 (rx : Int)] rfl rfl SN.out (by intro u hu; simp at hu; subst hu; rfl) (by have := HN.out; unfold maxLen; omega) (by have := HN.out; omega) (by have := HBX.out; simp; omega) ?_; intro v' w4 r1 g1 o1; obtain ⟨p9, d9, rfl⟩ := row_slice r1; have SP := hide (M3.out.log r1 g1 o1); have f1 : w4.frozen? ⟨b, 3, none⟩ = false := free_of_blk (blk_grown M3.out.blk g1 (fun e => M3.out.ap.rc _ e.symm rfl)) _; have e1 : w4.cell? ⟨b, 3, none⟩ = some (.slice pG G.length cG) := (by simp [cell_of_blk (blk_grown M3.out.blk g1 (fun e => M3.out.ap.rc _ e.symm rfl))]); clear r1 g1 o1)
    go_ret
    refine ⟨rfl, ry, rx, .inr ⟨rfl, rfl⟩, HZ.out, _, by rw [← HZT.out]; exact SP.out.1, KZ.out.trans SP.out.2.1 (fun z hz => .inl ?_), fun q hq => ?_⟩
    · rw [HO.out]; simp [Value.ownBlock] at hz ⊢; rcases hz with hz | hz <;> simp [hz]
    · rcases SP.out.2.2 q hq with h | h
      · exact .inl h
      · right; have := HW.out; simp at h; omega
  · have dl : decide ((Z rx : Int) < (Z ry : Int)) = false := by simp; omega
    have dl' : decide (Z rx < Z ry) = false := by simp; omega
    have HZ := hide (show Z ry ≤ Z rx by omega)
    clear hge
    have zt0 : ∃ z, z = Z rx + Z ry := ⟨_, rfl⟩
    obtain ⟨zt, hzt⟩ := zt0
    have ezt : ((Z rx : Nat) : Int) + ((Z ry : Nat) : Int) = (zt : Int) := by omega
    have wzt : IntKind.i64.wrap (zt : Int) = (zt : Int) := by rw [IntKind.wrap_i64]; omega
    have HZT := hide hzt
    clear hzt zs
    go_enter Try.func38, Try.ntmps38
    go_wp2_with fail
    refine R1.out.mono ?_
    rintro e w' ⟨rfl, rfl⟩
    go_wp2_with fail
    refine R2.out.mono ?_
    rintro e w' ⟨rfl, rfl⟩
    go_wp2_with fail
    go_quiet (fail)
    go_wp2_with fail
    have M1 := hide ((HM.out.keep (Kp.drewN [] w nq) (by simp)).setP ry rx)
    have KX : Hid (Kp own w ((w.drewN nq).setCell ⟨gP, ry, none⟩ (.int .i64 (rx : Int)))) := (Kp.drewN own w nq).trans (Kp.set (o := own) _ _ _ (by rw [HO.out]; simp [Value.ownBlock])) (fun z hz => .inl hz)
    generalize (w.drewN nq).setCell ⟨gP, ry, none⟩ (.int .i64 (rx : Int)) = X at *
    clear HM ex ey fx fy sx sy ux uy c1 c2 c3 R1 R2
    refine wp_region_still_tail 16 (by kernel_rfl) (by kernel_rfl) ?_
    simp only [List.take_succ_cons, List.take_zero, List.drop_succ_cons, List.drop_zero]
    generalize hwd : ({ X with drawn := X.drawn + 1 } : World) = wd
    have KD : Kp [] X wd := by rw [← hwd]; exact ⟨rfl, rfl, rfl, Nat.le_refl _, fun _ _ _ => rfl⟩
    have M2 := M1.out.keep KD (by simp)
    have KY := hide (KX.out.trans KD (by simp))
    have c2 := M2.c.2.2.1
    obtain ⟨_, hss, z1, y1, _⟩ := row_cell M2.S lx
    injection hss with hss; injection hss with hss; subst hss
    obtain ⟨_, hss, z2, y2, _⟩ := row_cell M2.S ly
    injection hss with hss; injection hss with hss; subst hss
    rw [intsF_get Z lx] at z1
    rw [intsF_get Z ly] at z2
    have M3 := hide (M2.setS rx zt)
    have c3 : (wd.setCell ⟨gS, rx, none⟩ (.int .i64 (zt : Int))).cell? ⟨b, 3, none⟩ = some (.slice pG G.length cG) := M3.out.c.2.2.2
    have SN := hide (src_new (wd.setCell ⟨gS, rx, none⟩ (.int .i64 (zt : Int))) wd.heap.size (by simp) [.int .i64 (ry : Int)] 3)
    have HBX := hide (show B ≤ wd.heap.size by have := KY.out.size; have := HB.out; omega)
    have HW := hide KY.out.size
    have KZ : Hid (Kp own w (wd.setCell ⟨gS, rx, none⟩ (.int .i64 (zt : Int)))) := KY.out.trans (Kp.set (o := own) _ _ _ (by rw [HO.out]; simp [Value.ownBlock])) (fun z hz => .inl hz)
    clear hwd KD M2 KX M1
    repeat still_step
    refine wpStill_nil ?_
    go_wp2_with (at_builtin; refine wpList_append_new _ rfl _ _ 49 rfl B 3 i0 (.int .i64 0) 1 8 Try.underlying49 HI.out.1 HI.out.2.1 HI.out.2.2.1 HI.out.2.2.2 rfl (by decide) (.slice pG G.length cG) G.length (ints G) rfl (M3.out.G.alloc _) ⟨wd.heap.size, 0, none⟩ 1 1 [.int .i64 (ry : Int)] rfl rfl SN.out (by intro u hu; simp at hu; subst hu; rfl) (by have := HN.out; unfold maxLen; omega) (by have := HN.out; omega) (by have := HBX.out; simp; omega) ?_; intro v' w4 r1 g1 o1; obtain ⟨p9, d9, rfl⟩ := row_slice r1; have SP := hide (M3.out.log r1 g1 o1); have f1 : w4.frozen? ⟨b, 3, none⟩ = false := free_of_blk (blk_grown M3.out.blk g1 (fun e => M3.out.ap.rc _ e.symm rfl)) _; have e1 : w4.cell? ⟨b, 3, none⟩ = some (.slice pG G.length cG) := (by simp [cell_of_blk (blk_grown M3.out.blk g1 (fun e => M3.out.ap.rc _ e.symm rfl))]); clear r1 g1 o1)
    go_ret
    refine ⟨rfl, rx, ry, .inl ⟨rfl, rfl⟩, HZ.out, _, by rw [← HZT.out]; exact SP.out.1, KZ.out.trans SP.out.2.1 (fun z hz => .inl ?_), fun q hq => ?_⟩
    · rw [HO.out]; simp [Value.ownBlock] at hz ⊢; rcases hz with hz | hz <;> simp [hz]
    · rcases SP.out.2.2 q hq with h | h
      · exact .inl h
      · right; have := HW.out; simp at h; omega
end Go.Proofs.Ytfjmnidenoojhaa
