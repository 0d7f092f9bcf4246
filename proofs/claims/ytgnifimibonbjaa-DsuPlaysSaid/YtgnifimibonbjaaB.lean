/- The root of an element; Union. -/
import Derived.Test.YtgnifimibonbjaaA
import Derived.WalkMore
import Derived.StillTailTactics
set_option linter.unusedVariables false
set_option linter.unusedSimpArgs false
namespace Go.Proofs.Ytgnifimibonbjaa
open Go.RowKit

set_option maxRecDepth 100000 in
set_option maxHeartbeats 4000000 in
theorem root_m {B : Nat} {w : World} {b n : Nat} {own : List Nat} {L : Nat → Nat} {vP vS : Value} {P Z : Nat → Nat} (M : DM B w b vP vS n (roots L n) P Z) (g : Good n P L) (hown : own = b :: (vP.ownBlock.toList ++ vS.ownBlock.toList)) (a : Nat) (ha : a < n) :
    Calls Try.prog 32 #[.pointer (some ⟨b, 0, none⟩), .int .i64 (a : Int)] w fun e w' => e = .returned (.int .i64 ((L a : Nat) : Int)) ∧ (∃ P', DM B w' b vP vS n (roots L n) P' Z ∧ Good n P' L) ∧ Kp own w w' := by
  obtain ⟨p, c, rfl⟩ := row_slice M.P
  have HM := hide (And.intro M g)
  have HO := hide hown
  have HA := hide ha
  clear M g hown ha
  go_enter Try.func32, Try.ntmps32
  go_wp2_with fail
  go_step3
  go_wp2_with fail
  go_step3
  go_wp2_with fail
  go_loopw [1] (fun x wr => ∃ (k : Nat) (P : Nat → Nat), x = .int .i64 (k : Int) ∧ Hid (k < n ∧ L k = L a) ∧ Hid (DM B wr b (.slice p n c) vS n (roots L n) P Z ∧ Good n P L) ∧ Hid (Kp own w wr)) (fun x _ => (intOf x).toNat)
  case atStart => exact ⟨a, P, rfl, ⟨HA.out, rfl⟩, HM, Kp.refl _ _⟩
  case round =>
    obtain ⟨k, P, rfl, hk, hM, hK⟩ := hrel
    obtain ⟨M, g⟩ := hM.out
    obtain ⟨hkn, hkl⟩ := hk.out
    obtain ⟨c0, c1, c2, c3⟩ := M.c
    obtain ⟨gP, rfl, e1, f1, _⟩ := row_cell M.P hkn
    rw [intsF_get P hkn] at e1
    have l1 := g.le k hkn
    have hu : P k < n := by omega
    have e2 := M.P.cellAt (P k) (by omega)
    rw [intsF_get P hu] at e2
    have l2 := g.le (P k) hu
    have q1 := g.lp k hkn
    have q2 := g.fix (P k) hu
    have GH := hide (g.halve hkn)
    have RS := hide (row_put M.P k (.int .i64 ((P (P k) : Nat) : Int)))
    rw [intsF_set] at RS
    have MM := hide M
    generalize hU : P k = u at *
    generalize hT : P u = t at *
    by_cases et : t = u
    · have fin : Hid ((u : Int) = ((L a : Nat) : Int)) := by
        have := q2 et
        show (u : Int) = _
        omega
      subst et
      have HT := hide hT
      have HU := hide hU
      clear M g c0 c1 c3 l1 l2 q1 q2 hT hU hkl GH RS
      go_wp2_with fail
      try rw [Exit.noGoto_ret]
      go_ret
      refine ⟨by have e := fin.out; rw [← e]; rfl, ?_, hK.out⟩
      exact ⟨P, hM.out.1, hM.out.2⟩
    · have dt : ((t : Int) == (u : Int)) = false := by simp; omega
      have NK := hide (show t < n ∧ L t = L a by
        have h3 := (hM.out.2).lp u (by omega)
        rw [hT] at h3
        exact ⟨by omega, by rw [h3, q1, hkl]⟩)
      have ML := hide (show t < k by omega)
      have NM : Hid (DM B (wr.setCell ⟨gP, k, none⟩ (.int .i64 (t : Int))) b (.slice (some ⟨gP, 0, none⟩) n c) vS n (roots L n) (upd P k t) Z ∧ Good n (upd P k t) L) := by
        refine ⟨⟨?_, RS.out, row_side M.S (fun x hx e => M.ap.ab gP rfl (by rw [hx, e])) _ _, M.ge, M.ap⟩, GH.out⟩
        rw [heap_setCell_other _ _ _ _ (by have := M.ap.ra gP rfl; simpa using Ne.symm this)]
        exact M.blk
      have NKp : Hid (Kp own w (wr.setCell ⟨gP, k, none⟩ (.int .i64 (t : Int)))) := hK.out.trans (Kp.set (o := own) _ _ _ (by rw [HO.out]; simp [Value.ownBlock])) (fun x hx => .inl hx)
      clear M g c0 c1 c3 l1 l2 q1 q2 hT hU hkl GH RS et MM
      go_wp2_with fail
      go_roundw
      case rel => exact ⟨t, upd P k t, rfl, NK, NM, NKp⟩
      case measure => have := ML.out; simp [intOf]; omega
theorem root_t {B : Nat} {w : World} {b n : Nat} {own : List Nat} {L : Nat → Nat} (h : DAt B w b own n L) (a : Nat) (ha : a < n) :
    Calls Try.prog 32 #[.pointer (some ⟨b, 0, none⟩), .int .i64 (a : Int)] w fun e w' => e = .returned (.int .i64 ((L a : Nat) : Int)) ∧ DAt B w' b own n L ∧ Kp own w w' := by
  obtain ⟨vP, vS, P, Z, M, g, hn, hz, hown⟩ := h
  refine (root_m M g hown a ha).mono ?_
  rintro e w' ⟨rfl, ⟨P', M', g'⟩, k⟩
  exact ⟨rfl, ⟨vP, vS, P', Z, M', g', hn, hz, hown⟩, k⟩
theorem blk_off {w : World} {g b : Nat} {x : Obj} (h : w.heap[b]? = some x) (n : g ≠ b) (j : Nat) (u : Value) : (w.setCell ⟨g, j, none⟩ u).heap[b]? = some x := by
  rw [heap_setCell_other _ _ _ _ (by simpa using Ne.symm n)]; exact h
theorem roots_le (L : Nat → Nat) : ∀ m, roots L m ≤ m := by
  intro m
  induction m with
  | zero => simp [roots]
  | succ m ih => simp only [roots]; split <;> omega
theorem DAt.row {B : Nat} {w : World} {b n : Nat} {own : List Nat} {L : Nat → Nat} (h : DAt B w b own n L) : b ∈ own := h.mem
noncomputable def unionV (n : Nat) (L : Nat → Nat) (x y : Int) : Value := @ite _ (inr n x ∧ inr n y) (Classical.propDecidable _) (if L x.toNat = L y.toNat then .tuple #[.bool false, .int .i64 0] else .tuple #[.bool true, .int .i64 0]) (.tuple #[.bool false, .int .i64 3])
noncomputable def unionL (n : Nat) (L : Nat → Nat) (x y : Int) : Nat → Nat := @ite _ (inr n x ∧ inr n y) (Classical.propDecidable _) (if L x.toNat = L y.toNat then L else jn L (L x.toNat) (L y.toNat)) L

set_option maxRecDepth 100000 in
set_option maxHeartbeats 4000000 in
theorem union_out {B : Nat} {w : World} {b n : Nat} {own : List Nat} {L : Nat → Nat} (h : DAt B w b own n L) (x y : Int) (ho : ¬ (inr n x ∧ inr n y)) :
    Calls Try.prog 21 #[.pointer (some ⟨b, 0, none⟩), .int .i64 x, .int .i64 y] w fun e w' => e = .returned (.tuple #[.bool false, .int .i64 3]) ∧ w = w' := by
  have v0 : Calls Try.prog 30 #[.pointer (some ⟨b, 0, none⟩)] w fun e w' => e = .returned (.bool true) ∧ w = w' := by
    obtain ⟨vP, vS, P, Z, M, _⟩ := h
    exact valid_t b w M.c.1
  have hx := has_t h x
  have hy := has_t h y
  unfold inr at ho
  by_cases h1 : 0 ≤ x ∧ x < (n : Int)
  · have d1 : decide (0 ≤ x ∧ x < (n : Int)) = true := by simpa using h1
    have d2 : decide (0 ≤ y ∧ y < (n : Int)) = false := by simp; omega
    rw [d1] at hx
    rw [d2] at hy
    clear ho h1 d1 d2 h
    go_enter Try.func21, Try.ntmps21
    go_wp2_with fail
    refine v0.mono ?_
    rintro e w' ⟨rfl, rfl⟩
    go_wp2_with fail
    refine hx.mono ?_
    rintro e w' ⟨rfl, rfl⟩
    go_wp2_with fail
    refine hy.mono ?_
    rintro e w' ⟨rfl, rfl⟩
    go_wp2_with fail
    go_ret2
    exact ⟨rfl, rfl⟩
  · have d1 : decide (0 ≤ x ∧ x < (n : Int)) = false := by simp; omega
    rw [d1] at hx
    clear ho h1 d1 h hy
    go_enter Try.func21, Try.ntmps21
    go_wp2_with (first | (go_at_call 30; refine v0.mono ?_; rintro e w' ⟨rfl, rfl⟩) | (go_at_call 31; refine hx.mono ?_; rintro e w' ⟨rfl, rfl⟩))
    go_ret2
    exact ⟨rfl, rfl⟩
set_option maxRecDepth 100000 in
set_option maxHeartbeats 4000000 in
theorem union_same {B : Nat} {w : World} {b n : Nat} {own : List Nat} {L : Nat → Nat} (h : DAt B w b own n L) (x y : Nat) (hx : x < n) (hy : y < n) (he : L x = L y) :
    Calls Try.prog 21 #[.pointer (some ⟨b, 0, none⟩), .int .i64 (x : Int), .int .i64 (y : Int)] w fun e w' => e = .returned (.tuple #[.bool false, .int .i64 0]) ∧ DAt B w' b own n L ∧ Kp own w w' := by
  have v0 : Calls Try.prog 30 #[.pointer (some ⟨b, 0, none⟩)] w fun e w' => e = .returned (.bool true) ∧ w = w' := by
    obtain ⟨vP, vS, P, Z, M, _⟩ := h
    exact valid_t b w M.c.1
  have h1 := has_t h (x : Int)
  have h2 := has_t h (y : Int)
  rw [show decide (0 ≤ (x : Int) ∧ (x : Int) < (n : Int)) = true by simp; omega] at h1
  rw [show decide (0 ≤ (y : Int) ∧ (y : Int) < (n : Int)) = true by simp; omega] at h2
  have H := hide h
  have HX := hide hx
  have HY := hide hy
  have RX := fun (w : World) (h : DAt B w b own n L) => root_t h x HX.out
  have RY := fun (w : World) (h : DAt B w b own n L) => root_t h y HY.out
  rw [← he] at RY
  generalize L x = l at *
  have R1 := hide RX
  have R2 := hide RY
  clear h hx hy he RX RY
  go_enter Try.func21, Try.ntmps21
  go_wp2_with fail
  refine v0.mono ?_
  rintro e w' ⟨rfl, rfl⟩
  go_wp2_with fail
  refine h1.mono ?_
  rintro e w' ⟨rfl, rfl⟩
  go_wp2_with fail
  refine h2.mono ?_
  rintro e w' ⟨rfl, rfl⟩
  go_wp2_with fail
  refine (R1.out _ H.out).mono ?_
  rintro e w1 ⟨rfl, g1, k1⟩
  have G1 := hide g1
  have K1 := hide k1
  clear g1 k1
  go_wp2_with fail
  refine (R2.out _ G1.out).mono ?_
  rintro e w2 ⟨rfl, g2, k2⟩
  have G2 := hide g2
  have K2 := hide k2
  clear g2 k2
  go_wp2_with fail
  go_ret2
  exact ⟨rfl, G2.out, K1.out.trans K2.out (fun x hx => .inl hx)⟩
set_option maxRecDepth 100000 in
set_option maxHeartbeats 8000000 in
theorem union_join {B : Nat} {w : World} {b n : Nat} {own : List Nat} {L : Nat → Nat} (h : DAt B w b own n L) (x y : Nat) (hx : x < n) (hy : y < n) (he : L x ≠ L y) :
    Calls Try.prog 21 #[.pointer (some ⟨b, 0, none⟩), .int .i64 (x : Int), .int .i64 (y : Int)] w fun e w' => e = .returned (.tuple #[.bool true, .int .i64 0]) ∧ DAt B w' b own n (jn L (L x) (L y)) ∧ Kp own w w' := by
  have v0 : Calls Try.prog 30 #[.pointer (some ⟨b, 0, none⟩)] w fun e w' => e = .returned (.bool true) ∧ w = w' := by
    obtain ⟨vP, vS, P, Z, M, _⟩ := h
    exact valid_t b w M.c.1
  have h1 := has_t h (x : Int)
  have h2 := has_t h (y : Int)
  rw [show decide (0 ≤ (x : Int) ∧ (x : Int) < (n : Int)) = true by simp; omega] at h1
  rw [show decide (0 ≤ (y : Int) ∧ (y : Int) < (n : Int)) = true by simp; omega] at h2
  have H := hide h
  have HX := hide hx
  have HY := hide hy
  have R1 := hide (fun (w : World) (h : DAt B w b own n L) => root_t h x HX.out)
  have R2 := hide (fun (w : World) (h : DAt B w b own n L) => root_t h y HY.out)
  have HE := hide he
  have de : (((L x : Nat) : Int) == ((L y : Nat) : Int)) = false := by simp; omega
  clear h hx hy he
  generalize hlx : L x = lx at *
  generalize hly : L y = ly at *
  have HLX := hide hlx
  have HLY := hide hly
  clear hlx hly
  go_enter Try.func21, Try.ntmps21
  go_wp2_with fail
  refine v0.mono ?_
  rintro e w' ⟨rfl, rfl⟩
  go_wp2_with fail
  refine h1.mono ?_
  rintro e w' ⟨rfl, rfl⟩
  go_wp2_with fail
  refine h2.mono ?_
  rintro e w' ⟨rfl, rfl⟩
  go_wp2_with fail
  refine (R1.out _ H.out).mono ?_
  rintro e w1 ⟨rfl, g1, k1⟩
  have G1 := hide g1
  have K1 := hide k1
  clear g1 k1
  go_wp2_with fail
  refine (R2.out _ G1.out).mono ?_
  rintro e w2 ⟨rfl, g2, k2⟩
  have G2 := hide g2
  have K2 := hide k2
  clear g2 k2
  obtain ⟨vP, vS, P, Z, M, g, hn, hz, hown⟩ := G2.out
  obtain ⟨c0, c1, c2, c3⟩ := M.c
  obtain ⟨pP, cP, rfl⟩ := row_slice M.P
  obtain ⟨pS, cS, rfl⟩ := row_slice M.S
  have qx : lx < n ∧ L lx = lx := by
    have a1 := g.ll x HX.out
    have a2 := g.idem x HX.out
    have a3 := HX.out
    rw [HLX.out] at a1 a2
    exact ⟨by omega, a2⟩
  have qy : ly < n ∧ L ly = ly := by
    have a1 := g.ll y HY.out
    have a2 := g.idem y HY.out
    have a3 := HY.out
    rw [HLY.out] at a1 a2
    exact ⟨by omega, a2⟩
  have zx := hz lx qx.1 qx.2
  have zy := hz ly qy.1 qy.2
  have bx := cnt_le L lx n
  have by' := cnt_le L ly n
  have rj := roots_join g HX.out HY.out (by rw [HLX.out, HLY.out]; exact HE.out)
  rw [HLX.out, HLY.out] at rj
  have gj := g.unite HX.out HY.out (by rw [HLX.out, HLY.out]; exact HE.out)
  rw [HLX.out, HLY.out] at gj
  have hne := HE.out
  obtain ⟨gP, rfl, ex, fx, _⟩ := row_cell M.P qx.1
  obtain ⟨_, hpp, ey, fy, _⟩ := row_cell M.P qy.1
  injection hpp with hpp; injection hpp with hpp; subst hpp
  obtain ⟨gS, rfl, sx, ux, _⟩ := row_cell M.S qx.1
  obtain ⟨_, hss, sy, uy, _⟩ := row_cell M.S qy.1
  injection hss with hss; injection hss with hss; subst hss
  rw [intsF_get P qx.1] at ex
  rw [intsF_get P qy.1] at ey
  rw [intsF_get Z qx.1] at sx
  rw [intsF_get Z qy.1] at sy
  have n1 : gP ≠ b := M.ap.ra gP rfl
  have n2 : gS ≠ b := M.ap.rb gS rfl
  have n3 : gP ≠ gS := fun e => M.ap.ab gP rfl (by rw [e]; rfl)
  have n1' := Ne.symm n1
  have n2' := Ne.symm n2
  have n3' := Ne.symm n3
  have fb := free_of_blk M.blk 1
  have GJ := hide gj
  have RJ := hide rj
  have MM := hide M
  have HN := hide hn
  have HZ := hide hz
  have HO := hide hown
  have GG := hide g
  have wrr : IntKind.i64.wrap (((roots L n : Nat) : Int) - 1) = ((roots (jn L lx ly) n : Nat) : Int) := by
    have h3 : roots L n ≤ n := roots_le L n
    rw [IntKind.wrap_i64]; omega
  rcases Nat.lt_or_ge lx ly with hlt | hge
  · have hle : lx ≤ ly := by omega
    have hnl : ¬ ly ≤ lx := by omega
    have dl : decide (lx < ly) = true := by simpa using hlt
    have dl2 : decide (ly < lx) = false := by simp; omega
    have dl3 : decide (lx ≤ ly) = true := by simpa using hle
    have dl4 : decide (ly ≤ lx) = false := by simp; omega
    have ws : IntKind.i64.wrap (((Z lx : Nat) : Int) + ((Z ly : Nat) : Int)) = ((Z lx + Z ly : Nat) : Int) := by rw [IntKind.wrap_i64]; omega
    rw [Nat.max_eq_right (by omega), Nat.min_eq_left (by omega)] at gj
    have GK := hide gj
    have JN := hide (show ∀ i, i < n → jn L lx ly i = i → (upd Z lx (Z lx + Z ly)) i = cnt (jn L lx ly) i n by
      intro i hi he
      by_cases e : i = lx
      · subst e
        rw [upd_same]
        have := cnt_join (L := L) hne n
        rw [Nat.min_eq_left (by omega)] at this
        omega
      · rw [upd_far e]
        have eo : i ≠ ly := by
          intro e2
          subst e2
          unfold jn at he
          rw [Nat.max_eq_right (by omega), Nat.min_eq_left (by omega)] at he
          rw [if_pos qy.2] at he
          exact e he.symm
        have e3 : L i = i := by
          unfold jn at he
          rw [Nat.max_eq_right (by omega), Nat.min_eq_left (by omega)] at he
          split at he
          · exact absurd he.symm e
          · exact he
        rw [cnt_other (by exact e) (by exact eo) n]
        exact hz i hi e3)
    clear c0 gj rj hz g M zx zy bx by' hn hown G2 G1 R1 R2 v0 h1 h2
    go_wp2_with fail
    refine wp_region_still_tail 16 (by kernel_rfl) (by kernel_rfl) ?_
    simp only [List.take_succ_cons, List.take_zero, List.drop_succ_cons, List.drop_zero]
    generalize hwd : ({ (w2.setCell ⟨gP, ly, none⟩ (.int .i64 (lx : Int))) with drawn := (w2.setCell ⟨gP, ly, none⟩ (.int .i64 (lx : Int))).drawn + 1 } : World) = wd
    have hh : wd.heap = (w2.setCell ⟨gP, ly, none⟩ (.int .i64 (lx : Int))).heap := by rw [← hwd]
    have KD : Kp [] (w2.setCell ⟨gP, ly, none⟩ (.int .i64 (lx : Int))) wd := by rw [← hwd]; exact ⟨rfl, rfl, rfl, Nat.le_refl _, fun _ _ _ => rfl⟩
    have e1 : wd.cell? ⟨b, 1, none⟩ = some (.int .i64 ((roots L n : Nat) : Int)) := by rw [World.cell?_of_block (w := w2.setCell ⟨gP, ly, none⟩ (.int .i64 (lx : Int))) (by rw [hh]), cell_far (by simp [n1'])]; exact c1
    have e3 : wd.cell? ⟨b, 3, none⟩ = some (.slice (some ⟨gS, 0, none⟩) n cS) := by rw [World.cell?_of_block (w := w2.setCell ⟨gP, ly, none⟩ (.int .i64 (lx : Int))) (by rw [hh]), cell_far (by simp [n1'])]; exact c3
    have z1 : wd.cell? ⟨gS, lx, none⟩ = some (.int .i64 ((Z lx : Nat) : Int)) := by rw [World.cell?_of_block (w := w2.setCell ⟨gP, ly, none⟩ (.int .i64 (lx : Int))) (by rw [hh]), cell_far (by simp [n3'])]; exact sx
    have z2 : wd.cell? ⟨gS, ly, none⟩ = some (.int .i64 ((Z ly : Nat) : Int)) := by rw [World.cell?_of_block (w := w2.setCell ⟨gP, ly, none⟩ (.int .i64 (lx : Int))) (by rw [hh]), cell_far (by simp [n3'])]; exact sy
    have y1 : wd.frozen? ⟨b, 1, none⟩ = false := by rw [World.frozen?_of_block (w := w2.setCell ⟨gP, ly, none⟩ (.int .i64 (lx : Int))) (by rw [hh]), World.frozen?_setCell]; exact fb
    have y2 : wd.frozen? ⟨gS, lx, none⟩ = false := by rw [World.frozen?_of_block (w := w2.setCell ⟨gP, ly, none⟩ (.int .i64 (lx : Int))) (by rw [hh]), World.frozen?_setCell]; exact ux
    have KK := hide KD
    have l1 := qx.1
    have l2 := qy.1
    clear hwd hh KD c1 c2 c3 ex ey sx sy fx fy ux uy fb
    repeat still_step
    refine wpStill_nil ?_
    go_wp2_with fail
    go_ret2
    have M := MM.out
    have kd := KK.out
    have b1 := kd.blk (blk_off M.blk n1 ly (.int .i64 (lx : Int))) (by simp)
    have b2 := blk_off b1 n2 lx (.int .i64 ((Z lx + Z ly : Nat) : Int))
    have b3 := heap_setCell_same _ _ 1 _ _ (.int .i64 ((roots (jn L lx ly) n : Nat) : Int)) b2
    have p1 := row_put M.P ly (.int .i64 (lx : Int))
    rw [intsF_set] at p1
    have p2 := row_side (row_side (kd.row p1 (by simp)) (b := gS) (fun k hk e => M.ap.ab gP rfl (by simp [Value.ownBlock] at hk ⊢; omega)) lx (.int .i64 ((Z lx + Z ly : Nat) : Int))) (b := b) (fun k hk => M.ap.ra k hk) 1 (.int .i64 ((roots (jn L lx ly) n : Nat) : Int))
    have s1 := row_put (kd.row (row_side M.S (b := gP) (fun k hk e => M.ap.ab gP rfl (by rw [hk, e])) ly (.int .i64 (lx : Int))) (by simp)) lx (.int .i64 ((Z lx + Z ly : Nat) : Int))
    rw [intsF_set] at s1
    have s2 := row_side s1 (b := b) (fun k hk => M.ap.rb k hk) 1 (.int .i64 ((roots (jn L lx ly) n : Nat) : Int))
    simp only [Int.natCast_add] at b3 p2 s2
    have ho := HO.out
    have mP : gP ∈ own := by rw [ho]; simp [Value.ownBlock]
    have mS : gS ∈ own := by rw [ho]; simp [Value.ownBlock]
    have mb : b ∈ own := by rw [ho]; simp
    refine ⟨rfl, ⟨_, _, _, _, ⟨?_, p2, s2, M.ge, M.ap⟩, GK.out, HN.out, JN.out, ho⟩, ?_⟩
    · rw [b3]; simp
    · exact ((((K1.out.trans K2.out (fun x hx => .inl hx)).trans (Kp.set (o := own) _ _ _ mP) (fun x hx => .inl hx)).trans (kd.mono (by simp)) (fun x hx => .inl hx)).trans (Kp.set (o := own) _ _ _ mS) (fun x hx => .inl hx)).trans (Kp.set (o := own) _ _ _ mb) (fun x hx => .inl hx)
  · have hlt : ly < lx := by omega
    have hle : ly ≤ lx := by omega
    have hnl : ¬ lx ≤ ly := by omega
    have dl : decide (ly < lx) = true := by simpa using hlt
    have dl2 : decide (lx < ly) = false := by simp; omega
    have dl3 : decide (ly ≤ lx) = true := by simpa using hle
    have dl4 : decide (lx ≤ ly) = false := by simp; omega
    have ws : IntKind.i64.wrap (((Z ly : Nat) : Int) + ((Z lx : Nat) : Int)) = ((Z ly + Z lx : Nat) : Int) := by rw [IntKind.wrap_i64]; omega
    rw [Nat.max_eq_left (by omega), Nat.min_eq_right (by omega)] at gj
    have GK := hide gj
    have JN := hide (show ∀ i, i < n → jn L lx ly i = i → (upd Z ly (Z ly + Z lx)) i = cnt (jn L lx ly) i n by
      intro i hi he
      by_cases e : i = ly
      · subst e
        rw [upd_same]
        have := cnt_join (L := L) hne n
        rw [Nat.min_eq_right (by omega)] at this
        omega
      · rw [upd_far e]
        have eo : i ≠ lx := by
          intro e2
          subst e2
          unfold jn at he
          rw [Nat.max_eq_left (by omega), Nat.min_eq_right (by omega)] at he
          rw [if_pos qx.2] at he
          exact e he.symm
        have e3 : L i = i := by
          unfold jn at he
          rw [Nat.max_eq_left (by omega), Nat.min_eq_right (by omega)] at he
          split at he
          · exact absurd he.symm e
          · exact he
        rw [cnt_other (by exact eo) (by exact e) n]
        exact hz i hi e3)
    clear c0 gj rj hz g M zx zy bx by' hn hown G2 G1 R1 R2 v0 h1 h2
    go_wp2_with fail
    refine wp_region_still_tail 16 (by kernel_rfl) (by kernel_rfl) ?_
    simp only [List.take_succ_cons, List.take_zero, List.drop_succ_cons, List.drop_zero]
    generalize hwd : ({ (w2.setCell ⟨gP, lx, none⟩ (.int .i64 (ly : Int))) with drawn := (w2.setCell ⟨gP, lx, none⟩ (.int .i64 (ly : Int))).drawn + 1 } : World) = wd
    have hh : wd.heap = (w2.setCell ⟨gP, lx, none⟩ (.int .i64 (ly : Int))).heap := by rw [← hwd]
    have KD : Kp [] (w2.setCell ⟨gP, lx, none⟩ (.int .i64 (ly : Int))) wd := by rw [← hwd]; exact ⟨rfl, rfl, rfl, Nat.le_refl _, fun _ _ _ => rfl⟩
    have e1 : wd.cell? ⟨b, 1, none⟩ = some (.int .i64 ((roots L n : Nat) : Int)) := by rw [World.cell?_of_block (w := w2.setCell ⟨gP, lx, none⟩ (.int .i64 (ly : Int))) (by rw [hh]), cell_far (by simp [n1'])]; exact c1
    have e3 : wd.cell? ⟨b, 3, none⟩ = some (.slice (some ⟨gS, 0, none⟩) n cS) := by rw [World.cell?_of_block (w := w2.setCell ⟨gP, lx, none⟩ (.int .i64 (ly : Int))) (by rw [hh]), cell_far (by simp [n1'])]; exact c3
    have z1 : wd.cell? ⟨gS, ly, none⟩ = some (.int .i64 ((Z ly : Nat) : Int)) := by rw [World.cell?_of_block (w := w2.setCell ⟨gP, lx, none⟩ (.int .i64 (ly : Int))) (by rw [hh]), cell_far (by simp [n3'])]; exact sy
    have z2 : wd.cell? ⟨gS, lx, none⟩ = some (.int .i64 ((Z lx : Nat) : Int)) := by rw [World.cell?_of_block (w := w2.setCell ⟨gP, lx, none⟩ (.int .i64 (ly : Int))) (by rw [hh]), cell_far (by simp [n3'])]; exact sx
    have y1 : wd.frozen? ⟨b, 1, none⟩ = false := by rw [World.frozen?_of_block (w := w2.setCell ⟨gP, lx, none⟩ (.int .i64 (ly : Int))) (by rw [hh]), World.frozen?_setCell]; exact fb
    have y2 : wd.frozen? ⟨gS, ly, none⟩ = false := by rw [World.frozen?_of_block (w := w2.setCell ⟨gP, lx, none⟩ (.int .i64 (ly : Int))) (by rw [hh]), World.frozen?_setCell]; exact uy
    have KK := hide KD
    have l1 := qx.1
    have l2 := qy.1
    clear hwd hh KD c1 c2 c3 ex ey sx sy fx fy ux uy fb
    repeat still_step
    refine wpStill_nil ?_
    go_wp2_with fail
    go_ret2
    have M := MM.out
    have kd := KK.out
    have b1 := kd.blk (blk_off M.blk n1 lx (.int .i64 (ly : Int))) (by simp)
    have b2 := blk_off b1 n2 ly (.int .i64 ((Z ly + Z lx : Nat) : Int))
    have b3 := heap_setCell_same _ _ 1 _ _ (.int .i64 ((roots (jn L lx ly) n : Nat) : Int)) b2
    have p1 := row_put M.P lx (.int .i64 (ly : Int))
    rw [intsF_set] at p1
    have p2 := row_side (row_side (kd.row p1 (by simp)) (b := gS) (fun k hk e => M.ap.ab gP rfl (by simp [Value.ownBlock] at hk ⊢; omega)) ly (.int .i64 ((Z ly + Z lx : Nat) : Int))) (b := b) (fun k hk => M.ap.ra k hk) 1 (.int .i64 ((roots (jn L lx ly) n : Nat) : Int))
    have s1 := row_put (kd.row (row_side M.S (b := gP) (fun k hk e => M.ap.ab gP rfl (by rw [hk, e])) lx (.int .i64 (ly : Int))) (by simp)) ly (.int .i64 ((Z ly + Z lx : Nat) : Int))
    rw [intsF_set] at s1
    have s2 := row_side s1 (b := b) (fun k hk => M.ap.rb k hk) 1 (.int .i64 ((roots (jn L lx ly) n : Nat) : Int))
    simp only [Int.natCast_add] at b3 p2 s2
    have ho := HO.out
    have mP : gP ∈ own := by rw [ho]; simp [Value.ownBlock]
    have mS : gS ∈ own := by rw [ho]; simp [Value.ownBlock]
    have mb : b ∈ own := by rw [ho]; simp
    refine ⟨rfl, ⟨_, _, _, _, ⟨?_, p2, s2, M.ge, M.ap⟩, GK.out, HN.out, JN.out, ho⟩, ?_⟩
    · rw [b3]; simp
    · exact ((((K1.out.trans K2.out (fun x hx => .inl hx)).trans (Kp.set (o := own) _ _ _ mP) (fun x hx => .inl hx)).trans (kd.mono (by simp)) (fun x hx => .inl hx)).trans (Kp.set (o := own) _ _ _ mS) (fun x hx => .inl hx)).trans (Kp.set (o := own) _ _ _ mb) (fun x hx => .inl hx)
end Go.Proofs.Ytgnifimibonbjaa
