/- DsuCounts: the law answers true at every number and every list of pairs (at most 300 of each; else the example alone). -/
import Derived.Test.YtgnifimibonbjaaN
import Derived.Test.YtgnifimibonbjaaGen
import Derived.Test.YtgnifimibonbjaaOp
import Derived.Test.YtgnifimibonbjaaRows
import Derived.Deep.CutRange
set_option linter.unusedVariables false
set_option linter.unusedSimpArgs false
namespace Go.Proofs.Ytgnifimibonbjaa
open Go.RowKit
theorem same_any {B : Nat} {w : World} {b n : Nat} {own : List Nat} {L : Nat → Nat} (h : DAt B w b own n L) (x y : Int) :
    Calls Try.prog 24 #[.pointer (some ⟨b, 0, none⟩), .int .i64 x, .int .i64 y] w fun e w' => ∃ r : Bool, e = .returned (.bool r) ∧ (r = true ↔ inr n x ∧ inr n y ∧ L x.toNat = L y.toNat) ∧ DAt B w' b own n L ∧ Kp own w w' := by
  by_cases hx : inr n x
  · by_cases hy : inr n y
    · obtain ⟨a, rfl⟩ : ∃ a : Nat, x = (a : Int) := ⟨x.toNat, by unfold inr at hx; omega⟩
      obtain ⟨c, rfl⟩ : ∃ c : Nat, y = (c : Int) := ⟨y.toNat, by unfold inr at hy; omega⟩
      refine (same_in h a c (by unfold inr at hx; omega) (by unfold inr at hy; omega)).mono ?_
      rintro e w' ⟨rfl, hd, hk⟩
      exact ⟨_, rfl, by simp [hx, hy], hd, hk⟩
    · have h1 := has_t h x
      have h2 := has_t h y
      rw [show decide (0 ≤ x ∧ x < (n : Int)) = true by simp; exact hx] at h1
      rw [show decide (0 ≤ y ∧ y < (n : Int)) = false by simp; intro h0; unfold inr at hy; omega] at h2
      have fin : ∀ w' : World, w = w' → (∃ r : Bool, (Ending.returned (.bool false)) = .returned (.bool r) ∧ (r = true ↔ inr n x ∧ inr n y ∧ L x.toNat = L y.toNat) ∧ DAt B w' b own n L ∧ Kp own w w') := by
        rintro w' rfl
        exact ⟨false, rfl, by simp [hy], h, Kp.refl _ _⟩
      have HF := hide fin
      clear fin hx hy h
      go_enter Try.func24, Try.ntmps24
      go_wp2_with fail
      refine h1.mono ?_
      rintro e w' ⟨rfl, rfl⟩
      go_wp2_with fail
      refine h2.mono ?_
      rintro e w' ⟨rfl, rfl⟩
      go_wp2_with fail
      go_ret
      exact HF.out _ rfl
  · have h1 := has_t h x
    rw [show decide (0 ≤ x ∧ x < (n : Int)) = false by simp; intro h0; unfold inr at hx; omega] at h1
    have fin : ∀ w' : World, w = w' → (∃ r : Bool, (Ending.returned (.bool false)) = .returned (.bool r) ∧ (r = true ↔ inr n x ∧ inr n y ∧ L x.toNat = L y.toNat) ∧ DAt B w' b own n L ∧ Kp own w w') := by
      rintro w' rfl
      exact ⟨false, rfl, by simp [hx], h, Kp.refl _ _⟩
    have HF := hide fin
    clear fin hx h
    go_enter Try.func24, Try.ntmps24
    go_wp2_with fail
    refine h1.mono ?_
    rintro e w' ⟨rfl, rfl⟩
    go_wp2_with fail
    go_ret
    exact HF.out _ rfl
theorem Rd2.bnd {B : Nat} {w : World} {b off n c i : Nat} {ll : List (List Nat)} {l : List Nat} (h : Rd2 B w (.slice (some ⟨b, off, none⟩) n c) ll) (hi : ll[i]? = some l) : B ≤ b ∧ b < w.heap.size := by
  obtain ⟨p', c', he, h⟩ := h
  injection he with h1 h2 h3
  rcases h with rfl | ⟨b', off', h4, h5, h6, _⟩
  · simp at hi
  · rw [h4] at h1; injection h1 with h1; injection h1 with h1; omega
theorem RdI.bnd {B : Nat} {w : World} {b off n c i x : Nat} {l : List Nat} (h : RdI B w (.slice (some ⟨b, off, none⟩) n c) l) (hi : l[i]? = some x) : B ≤ b ∧ b < w.heap.size := by
  obtain ⟨p', c', he, h⟩ := h
  injection he with h1 h2 h3
  rcases h with rfl | ⟨b', off', h4, h5, h6, _⟩
  · simp at hi
  · rw [h4] at h1; injection h1 with h1; injection h1 with h1; omega
def sumL (ll : List (List Nat)) : Nat := (ll.map List.length).sum
theorem sumL_append (a b : List (List Nat)) : sumL (a ++ b) = sumL a + sumL b := by simp [sumL]
theorem sumL_roots (L : Nat → Nat) (n : Nat) : ∀ m, sumL ((rts L m).map fun r => memb L r n) = st L n m := by
  intro m
  induction m with
  | zero => rfl
  | succ m ih =>
    rw [rts_succ, List.map_append, sumL_append, ih]
    simp only [st]
    by_cases h : L m = m
    · rw [if_pos h, if_pos h]; simp [sumL, memb_len]
    · rw [if_neg h, if_neg h]; simp [sumL]
theorem sumL_all {L : Nat → Nat} {n : Nat} (idem : ∀ i, i < n → L (L i) = L i) (le : ∀ i, i < n → L i ≤ i) : sumL (grp L n) = n := by
  unfold grp
  rw [sumL_roots, st_all idem le]
theorem sumL_take {ll : List (List Nat)} {i : Nat} {l : List Nat} (h : ll[i]? = some l) : sumL (ll.take (i + 1)) = sumL (ll.take i) + l.length := by
  obtain ⟨hl, he⟩ := List.getElem?_eq_some_iff.1 h
  rw [List.take_succ_eq_append_getElem hl, sumL_append, he]
  simp [sumL]
theorem sumL_take_le {ll : List (List Nat)} (i : Nat) : sumL (ll.take i) ≤ sumL ll := by
  have := sumL_append (ll.take i) (ll.drop i)
  rw [List.take_append_drop] at this
  omega
theorem grp_at {L : Nat → Nat} {n i : Nat} {l : List Nat} (le : ∀ i, i < n → L i ≤ i) (h : (grp L n)[i]? = some l) : ∃ r, r < n ∧ L r = r ∧ l.length = cnt L r n ∧ l[0]? = some r := by
  unfold grp at h
  rw [List.getElem?_map] at h
  obtain ⟨r, hr, rfl⟩ := Option.map_eq_some_iff.1 h
  obtain ⟨h1, h2⟩ := rts_mem.1 (List.mem_of_getElem? hr)
  exact ⟨r, h1, h2, memb_len _ _ _, memb_head h2 h1 le⟩
theorem DAt.join {B : Nat} {w : World} {b n : Nat} {own : List Nat} {L : Nat → Nat} (h : DAt B w b own n L) {x y : Int} (hx : inr n x) (hy : inr n y) (hne : L x.toNat ≠ L y.toNat) : roots (jn L (L x.toNat) (L y.toNat)) n + 1 = roots L n := by
  obtain ⟨vP, vS, P, Z, M, g, _⟩ := h
  unfold inr at hx hy
  exact roots_join g (by omega) (by omega) hne
theorem jn_same {L : Nat → Nat} (x y : Nat) : jn L (L x) (L y) x = jn L (L x) (L y) y := by
  unfold jn
  rcases Nat.le_total (L x) (L y) with h | h
  · rw [Nat.max_eq_right h, Nat.min_eq_left h]
    by_cases e : L x = L y
    · rw [if_pos e, if_pos rfl]
    · rw [if_neg e, if_pos rfl]
  · rw [Nat.max_eq_left h, Nat.min_eq_right h]
    by_cases e : L y = L x
    · rw [if_pos rfl, if_pos e]
    · rw [if_pos rfl, if_neg e]
namespace lawCounts
open Go.ChangeShapes Go.WideShapes Go.ChangeAt Go.RowKit Go.Joins
set_option maxRecDepth 100000 in
set_option maxHeartbeats 16000000 in
theorem walk (a0 : Int) (s1 : Option Addr) (len1 cap1 : Nat) (V1 : Nat → Nat → Int) (w : World) (b0 : -9223372036854775808 ≤ a0 ∧ a0 ≤ 9223372036854775807) (hc1 : len1 ≤ cap1 ∧ cap1 ≤ maxLen) (hr1 : RowsI w s1 [.i64, .i64] len1 V1) : Calls Try.prog 7 #[.int .i64 a0, .slice s1 len1 cap1] w fun e w' => e = .returned (.bool true) ∧ Below w.heap.size w w' := by
  have SM := small_t a0 s1 len1 cap1 w (by omega)
  by_cases hs : 0 ≤ a0 ∧ a0 ≤ 300 ∧ len1 ≤ 300
  · rw [show decide (0 ≤ a0 ∧ a0 ≤ 300 ∧ len1 ≤ 300) = true by simpa using hs] at SM
    obtain ⟨n, rfl⟩ : ∃ n : Nat, a0 = (n : Int) := ⟨a0.toNat, by omega⟩
    have HN := hide (show n ≤ 300 by omega)
    have HL := hide (show len1 ≤ 300 by omega)
    have HR1 := hide hr1
    have NW := hide (new_t (B := w.heap.size) n (by omega) w (Nat.le_refl _))
    clear hs b0 hc1 hr1
    go_enter Try.func7, Try.ntmps7
    go_wp2_with fail
    refine SM.mono ?_
    rintro e w' ⟨rfl, rfl⟩
    go_wp2_with fail
    clear SM
    refine NW.out.mono ?_
    rintro e w1 ⟨b, own, rfl, h1, ho, k1⟩
    have H1 := hide h1
    have HO := hide ho
    have K1 := hide k1
    clear h1 ho k1 NW
    go_wp2_with fail
    go_loopw [7, 8] (fun z x wr => ∃ (k : Nat) (L : Nat → Nat), k ≤ len1 ∧ x = .int .i64 (k : Int) ∧ z = .int .i64 ((roots L n : Nat) : Int) ∧ Hid (DAt w.heap.size wr b own n L) ∧ Hid (Kp [] w wr)) (fun _ x _ => len1 - (intOf x).toNat)
    case atStart => exact ⟨0, fun i => i, by omega, rfl, by rw [roots_id], H1, K1⟩
    case round =>
      obtain ⟨k, L, hk, rfl, rfl, hD, hK⟩ := hrel
      by_cases hkn : k < len1
      · have dk : decide ((k : Int) < (len1 : Int)) = true := by simp; omega
        have ww : IntKind.i64.wrap ((k : Int) + 1) = ((k + 1 : Nat) : Int) := by have := HL.out; rw [IntKind.wrap_i64]; omega
        obtain ⟨bb, off, rfl, hbb, cD, cI⟩ := rowsI_two HR1.out hkn
        have HBB := hide hbb
        go_wp2_with fail
        refine wp_region_still_tail 11 (by kernel_rfl) (by kernel_rfl) ?_
        simp only [List.take_succ_cons, List.take_zero, List.drop_succ_cons, List.drop_zero]
        generalize hwd : ({ wr with drawn := wr.drawn + 1 } : World) = wd
        have KD : Kp [] wr wd := by rw [← hwd]; exact ⟨rfl, rfl, rfl, Nat.le_refl _, fun _ _ _ => rfl⟩
        have KW := hide (hK.out.trans KD (by simp))
        have CX : Hid (∀ w', Kp [] w w' → w'.cell? ⟨bb, off + k * 2, none⟩ = some (.int .i64 (V1 k 0)) ∧ w'.cell? ⟨bb, off + k * 2 + 1, none⟩ = some (.int .i64 (V1 k 1))) := by
          intro w' kk
          exact ⟨by rw [World.cell?_of_block (w := w) (kk.block bb hbb (by simp))]; exact cD, by rw [World.cell?_of_block (w := w) (kk.block bb hbb (by simp))]; exact cI⟩
        obtain ⟨cD1, cI1⟩ := CX.out wd KW.out
        have SA := hide (same_any (hD.out.keep KD (by simp)) (V1 k 0) (V1 k 1))
        have HD0 := hide (hD.out.keep KD (by simp))
        clear cD cI hwd KD hD hK hbb
        generalize V1 k 0 = x at *
        generalize V1 k 1 = y at *
        repeat still_step
        refine wpStill_nil ?_
        go_wp2_with fail
        refine SA.out.mono ?_
        rintro e w2 ⟨r, rfl, hr, h2, k2⟩
        have H2 := hide h2
        have HR := hide hr
        have K2 := hide (KW.out.trans k2 (fun z hz => .inr (HO.out z hz)))
        clear hr h2 k2 SA HD0 cD1 cI1 KW
        go_wp2_with fail
        have KW := hide (K2.out.trans (Kp.drewN [] w2 1) (by simp))
        have K0 : w2.drew.cell? ⟨bb, off + k * 2, none⟩ = some (.int .i64 x) ∧ w2.drew.cell? ⟨bb, off + k * 2 + 1, none⟩ = some (.int .i64 y) := CX.out w2.drew KW.out
        have U := hide (union_t H2.out.drew x y)
        have HJ := hide H2.out
        clear K2
        go_region_held3 (fun w' => w'.cell? ⟨bb, off + k * 2, none⟩ = some (.int .i64 x) ∧ w'.cell? ⟨bb, off + k * 2 + 1, none⟩ = some (.int .i64 y))
          (with_reducible assumption)
          (first | (go_at_call 21; refine U.out.mono ?_; rintro e w3 ⟨u, er, L', rfl, h3, k3, hc⟩; have K3 := hide (KW.out.trans k3 (fun z hz => .inr (HO.out z hz))); have C3 : w3.cell? ⟨bb, off + k * 2, none⟩ = some (.int .i64 x) ∧ w3.cell? ⟨bb, off + k * 2 + 1, none⟩ = some (.int .i64 y) := CX.out w3 K3.out; have H3 := hide h3; have HC := hide hc; clear h3 k3 hc))
        have RB := hide (show ∀ M : Nat → Nat, roots M n ≤ 300 from fun M => by have := roots_le M n; have := HN.out; omega)
        have K3d := hide (K3.out.trans (Kp.drewN [] w3 1) (by simp))
        have K0' : w3.drew.cell? ⟨bb, off + k * 2, none⟩ = some (.int .i64 x) ∧ w3.drew.cell? ⟨bb, off + k * 2 + 1, none⟩ = some (.int .i64 y) := CX.out w3.drew K3d.out
        clear K0 C3
        rcases HC.out with ⟨hc1, rfl, rfl, rfl⟩ | ⟨hc1, hc2, hc3, rfl, rfl, rfl⟩ | ⟨hc1, hc2, hc3, rfl, rfl, rfl⟩
        · have CT : ∀ m, Hid (Calls Try.prog 13 #[.pointer (some ⟨b, 0, none⟩)] (w3.drewN m) fun e w' => e = .returned (.int .i64 ((roots L' n : Nat) : Int)) ∧ w' = w3.drewN m) := fun m => (count_t (H3.out.keep (Kp.drewN [] w3 m) (by simp))).mono fun _ _ ⟨h, k⟩ => ⟨h, k.symm⟩
          clear HR HC hc1 U HJ K0'
          go_wp2_with fail
          go_quiet ((go_at_call 13; exact Calls.quiet_of_same (CT _).out))
          go_wp2_with fail
          go_roundw
          case rel => exact ⟨k + 1, L', by omega, rfl, rfl, H3.out.keep (Kp.drewN [] w3 _) (by simp), K3.out.trans (Kp.drewN [] w3 _) (by simp)⟩
          case measure => simp [intOf]; omega
        · have er : r = true := HR.out.2 ⟨hc1, hc2, hc3⟩
          subst er
          have SA := hide (same_any H3.out.drew x y)
          have HY := hide (And.intro hc1 (And.intro hc2 hc3))
          clear HR HC hc1 hc2 hc3 U HJ
          go_wp2_with fail
          go_region_held3 (fun w' => w'.cell? ⟨bb, off + k * 2, none⟩ = some (.int .i64 x) ∧ w'.cell? ⟨bb, off + k * 2 + 1, none⟩ = some (.int .i64 y))
            (with_reducible assumption)
            (first
              | (go_at_call 24; refine SA.out.mono ?_; rintro e w4 ⟨r4, rfl, hr4, h4, k4⟩; have e4 : r4 = true := hr4.2 HY.out; subst e4; have K4 := hide (K3d.out.trans k4 (fun z hz => .inr (HO.out z hz))); have C4 : w4.cell? ⟨bb, off + k * 2, none⟩ = some (.int .i64 x) ∧ w4.cell? ⟨bb, off + k * 2 + 1, none⟩ = some (.int .i64 y) := CX.out w4 K4.out; have H4 := hide h4; clear hr4 h4 k4)
              | (go_at_call 13; refine (count_t H4.out).mono ?_; rintro e w5 ⟨rfl, rfl⟩))
          go_wp2_with fail
          go_roundw
          case rel => exact ⟨k + 1, L', by omega, rfl, rfl, H4, K4⟩
          case measure => simp [intOf]; omega
        · have er : r = false := by cases r; rfl; exact absurd (HR.out.1 rfl).2.2 hc3
          subst er
          have hj := HJ.out.join hc1 hc2 hc3
          rw [← hj]
          have js := jn_same (L := L) x.toNat y.toNat
          have rb := RB.out (jn L (L x.toNat) (L y.toNat))
          have SA := hide (same_any H3.out.drew x y)
          have HY := hide (And.intro hc1 (And.intro hc2 js))
          clear HR HC hc1 hc2 hc3 U HJ hj js
          generalize hJ : jn L (L x.toNat) (L y.toNat) = M at *
          have HJ := hide hJ
          clear hJ
          obtain ⟨m, hm⟩ : ∃ m, m = roots M n := ⟨_, rfl⟩
          have HM := hide hm
          rw [← hm] at rb ⊢
          have CT := fun W (h : DAt w.heap.size W b own n M) => hide (show Calls Try.prog 13 #[.pointer (some ⟨b, 0, none⟩)] W fun e w' => e = .returned (.int .i64 (m : Int)) ∧ W = w' by rw [hm]; exact count_t h)
          have wm : IntKind.i64.wrap (((m + 1 : Nat) : Int) - 1) = (m : Int) := by rw [IntKind.wrap_i64]; omega
          clear hm
          go_wp2_with fail
          go_region_held3 (fun w' => w'.cell? ⟨bb, off + k * 2, none⟩ = some (.int .i64 x) ∧ w'.cell? ⟨bb, off + k * 2 + 1, none⟩ = some (.int .i64 y))
            (with_reducible assumption)
            (first
              | (go_at_call 24; refine SA.out.mono ?_; rintro e w4 ⟨r4, rfl, hr4, h4, k4⟩; have e4 : r4 = true := hr4.2 HY.out; subst e4; have K4 := hide (K3d.out.trans k4 (fun z hz => .inr (HO.out z hz))); have C4 : w4.cell? ⟨bb, off + k * 2, none⟩ = some (.int .i64 x) ∧ w4.cell? ⟨bb, off + k * 2 + 1, none⟩ = some (.int .i64 y) := CX.out w4 K4.out; have H4 := hide h4; clear hr4 h4 k4)
              | (go_at_call 13; refine (CT _ H4.out).out.mono ?_; rintro e w5 ⟨rfl, rfl⟩))
          go_wp2_with fail
          go_roundw
          case rel => exact ⟨k + 1, M, by omega, rfl, by rw [← HM.out], H4, K4⟩
          case measure => simp [intOf]; omega
      · have : k = len1 := by omega
        subst this
        have dk : decide ((k : Int) < (k : Int)) = false := by simp
        obtain ⟨wo, rfl⟩ : ∃ wo : World, wo = wr := ⟨_, rfl⟩
        have GT := hide (groups_t hD.out)
        have HOL := hide (fun x hx => (hD.out.lt x hx).2)
        have SA := hide (sumL_all hD.out.good.2.2 hD.out.good.2.1)
        have LE := hide hD.out.good.2.1
        have RL := hide (show (grp L n).length = roots L n from grp_len L n)
        go_wp2_with fail
        refine GT.out.mono ?_
        rintro e w2 ⟨vg, rfl, g2, d2, k2⟩
        obtain ⟨pg, cg, rfl⟩ := g2.slice
        have G2 := hide g2
        have D2 := hide d2
        have K2 := hide (hK.out.trans k2 (fun z hz => .inr (HO.out z hz)))
        clear g2 d2 k2 GT hD hK
        generalize hR : roots L n = R at *
        rw [RL.out]
        have HR2 := hide hR
        clear hR
        go_wp2_with fail
        go_loopw [13, 14] (fun z x wq => ∃ i : Nat, i ≤ R ∧ x = .int .i64 (i : Int) ∧ z = .int .i64 ((sumL ((grp L n).take i) : Nat) : Int) ∧ Hid (DAt w.heap.size wq b own n L) ∧ Hid (Rd2 wo.heap.size wq (.slice pg R cg) (grp L n)) ∧ Hid (Kp [] w wq)) (fun _ x _ => R - (intOf x).toNat)
        case atStart => exact ⟨0, by omega, rfl, rfl, D2, by rw [RL.out] at G2; exact G2, K2⟩
        case round =>
          obtain ⟨i, hi, rfl, rfl, hD, hG, hK⟩ := hrel
          by_cases hiR : i < R
          · have dk : decide (i < R) = true := by simp; omega
            have dki : decide ((i : Int) < (R : Int)) = true := by simp; omega
            have wi : IntKind.i64.wrap ((i : Int) + 1) = ((i + 1 : Nat) : Int) := by have := HR2.out; have := roots_le L n; have := HN.out; rw [IntKind.wrap_i64]; omega
            obtain ⟨l, hl⟩ : ∃ l, (grp L n)[i]? = some l := ⟨_, List.getElem?_eq_getElem (by rw [RL.out]; exact hiR)⟩
            obtain ⟨r, hr1, hr2, hr3, hr4⟩ := grp_at LE.out hl
            obtain ⟨bg, og, u, rfl, e1, ru⟩ := hG.out.at hl
            obtain ⟨pu, cu, rfl⟩ := ru.slice
            obtain ⟨bu, ou, rfl, e2⟩ := ru.at hr4
            rw [Nat.add_zero] at e2
            have HQ := hide (And.intro (hG.out.bnd hl) (ru.bnd hr4))
            have ST := hide (sumL_take hl)
            have SB : sumL ((grp L n).take i) ≤ n := by have := sumL_take_le (ll := grp L n) i; have := SA.out; omega
            have SB2 : sumL ((grp L n).take i) + l.length ≤ n := by have := sumL_take_le (ll := grp L n) (i + 1); have := SA.out; have := ST.out; omega
            have lpos : l.length ≠ 0 := by
              have := (List.getElem?_eq_some_iff.1 hr4).1
              omega
            have SZ := size_in hD.out.drew r hr1
            rw [hr2, ← hr3] at SZ
            have nb : n ≤ 300 := HN.out
            generalize sumL ((grp L n).take i) = sm at *
            generalize l.length = ln at *
            have HSZ := hide SZ
            have le0 : ((ln : Int) == 0) = false := by simp; omega
            have lp0 : 0 < ln := by omega
            have lp1 : (0 : Int) < (ln : Int) := by omega
            have CK : Hid (∀ w', Kp own wr.drew w' → w'.cell? ⟨bg, og + i, none⟩ = some (.slice (some ⟨bu, ou, none⟩) ln cu) ∧ w'.cell? ⟨bu, ou, none⟩ = some (.int .i64 (r : Int))) := by
              intro w' kk
              have n1 : bg ∉ own := fun hm => by have := HOL.out bg hm; have := HQ.out.1.1; omega
              have n2 : bu ∉ own := fun hm => by have := HOL.out bu hm; have := HQ.out.2.1; omega
              exact ⟨by rw [World.cell?_of_block (w := wr.drew) (kk.block bg HQ.out.1.2 n1)]; exact e1, by rw [World.cell?_of_block (w := wr.drew) (kk.block bu HQ.out.2.2 n2)]; exact e2⟩
            have K0 : wr.drew.cell? ⟨bg, og + i, none⟩ = some (.slice (some ⟨bu, ou, none⟩) ln cu) ∧ wr.drew.cell? ⟨bu, ou, none⟩ = some (.int .i64 (r : Int)) := CK.out _ (Kp.refl _ _)
            clear hr1 hr2 hr3 hr4 ru SZ hl
            go_wp2_with fail
            go_region_held3 (fun w' => w'.cell? ⟨bg, og + i, none⟩ = some (.slice (some ⟨bu, ou, none⟩) ln cu) ∧ w'.cell? ⟨bu, ou, none⟩ = some (.int .i64 (r : Int)))
              (with_reducible assumption)
              (first | (go_at_call 14; refine HSZ.out.mono ?_; rintro e w6 ⟨rfl, h6, k6⟩; have C6 : w6.cell? ⟨bg, og + i, none⟩ = some (.slice (some ⟨bu, ou, none⟩) ln cu) ∧ w6.cell? ⟨bu, ou, none⟩ = some (.int .i64 (r : Int)) := CK.out w6 k6; have H6 := hide h6; have K6 := hide ((hK.out.trans (Kp.drewN [] wr 1) (by simp)).trans k6 (fun z hz => .inr (HO.out z hz))); have G6 := hide ((hG.out.drewN 1).keep k6 (fun x hx => HOL.out x hx)); clear h6 k6))
            go_wp2_with fail
            go_roundw
            case rel => exact ⟨i + 1, by omega, rfl, by rw [ST.out]; simp, H6, G6, K6⟩
            case measure => simp [intOf]; omega
          · have : i = R := by omega
            subst this
            have dk : decide (i < i) = false := by simp
            have dki : decide ((i : Int) < (i : Int)) = false := by simp
            have es : sumL ((grp L n).take i) = n := by rw [← RL.out, List.take_length]; exact SA.out
            rw [es]
            clear es
            have LN := hide (len_t hD.out)
            go_wp2_with fail
            refine LN.out.mono ?_
            rintro e w7 ⟨rfl, rfl⟩
            go_wp2_with fail
            refine (works _).mono ?_
            rintro e w9 ⟨rfl, bw⟩
            have HW := hide bw
            clear bw
            go_wp2_with fail
            go_ret
            exact ⟨rfl, (hK.out.below (by simp) (Nat.le_refl _)).trans (HW.out.mono hK.out.size)⟩
  · rw [show decide (0 ≤ a0 ∧ a0 ≤ 300 ∧ len1 ≤ 300) = false by simpa using hs] at SM
    have wk := works w
    clear hs b0 hc1 hr1
    go_enter Try.func7, Try.ntmps7
    go_wp2_with fail
    refine SM.mono ?_
    rintro e w' ⟨rfl, rfl⟩
    go_wp2_with fail
    refine wk.mono ?_
    rintro e w2 ⟨rfl, bw⟩
    go_wp2_with fail
    go_ret
    exact ⟨rfl, bw⟩
theorem own : ownKnob Try.prog.godebug = none := by kernel_rfl
theorem laidOut : laidOutB Try.prog = true := by kernel_rfl
set_option maxRecDepth 100000 in
theorem lifted (os : Os) (started : os.Started) (H : Type) (enc : TypeId × Value → H) :
    ReturnsInHanded {} Try.checked os 7 .any (Rows.dsuCountsSpec.pre6 enc Try.prog Try.f7 Rows.dsuCountsRow.domain false) (Rows.dsuCountsSpec.post enc Try.prog Try.f7 false true false false) := by
  refine returnsInHanded_of_change (C := Try.checked) own started (by kernel_rfl) Try.func7
    (ChangeSpec.witness6 (enc := enc) (C := Try.checked) false ⟨#[], #[.int .i64 0, .slice none 0 0], []⟩ 8 (by kernel_rfl) (by kernel_rfl) (by kernel_rfl) (by kernel_rfl)) ?_
  intro W base args ds gs before hval0 hW hcnd _
  have hval : ∀ (j : Nat) t v, Try.f7.params[j]? = some t → args[j]? = some v → Value.okWide Try.prog W .any base t v := hval0
  have hW' := hW
  obtain ⟨p, q, hA0, hV, rfl, hfz, hnd⟩ := hW
  have hA : DataW.TrodAll enc Try.prog W 0 (fun _ => true) true Try.f7.params.toList args.toList ds p := hA0
  rw [Try.params7] at hA hval
  obtain ⟨v0, vs0, d0, ds0, p0, q0, hargs, rfl, rfl, h0, r0⟩ := trodAll_cons hA
  obtain ⟨v1, vs1, d1, ds1, p1, q1, rfl, rfl, rfl, h1, r1⟩ := trodAll_cons r0
  obtain ⟨rfl, rfl, rfl⟩ := trodAll_nil r1
  obtain rfl : args = #[v0, v1] := by cases args; simp_all
  obtain ⟨rfl, rfl⟩ := trodVars_none hV
  have k0 := h0
  have lt0 : ∀ x ∈ p0, x.block < W.heap.size := by obtain ⟨m, hm⟩ := k0; exact DataW.trod_lt m _ _ _ hm
  have k1 := h1
  have lt1 : ∀ x ∈ p1, x.block < W.heap.size := by obtain ⟨m, hm⟩ := k1; exact DataW.trod_lt m _ _ _ hm
  obtain ⟨a0, rfl, _, _, w0⟩ := open_int Try.underlying3 (hval 0 3 v0 rfl rfl) h0
  obtain ⟨s1, len1, cap1, rfl⟩ := okWide_slice Try.underlying37 (hval 1 37 v1 rfl rfl)
  obtain ⟨V1, hc1, hr1⟩ := rows_in Try.underlying37 (flat_array Try.underlying40 Try.underlying3 (by kernel_rfl) (by kernel_rfl) : FlatI Try.prog 40 [.i64, .i64]) (by decide) h1
  clear hA0 hval0
  refine (walk a0 s1 len1 cap1 V1 W (bounds_i64 w0) hc1 hr1).mono fun e W' ⟨he, bel⟩ => ?_
  subst he
  exact ⟨_, rfl, _, _, _, [], _, [], hW', trodAll_mk1 (shut_bool Try.underlying4 _), (trodAll_cons_mk (Below.trod laidOut (by kernel_rfl) (of_decide_eq_true (by kernel_rfl)) k0 bel lt0) (trodAll_cons_mk (Below.trod laidOut (by kernel_rfl) (of_decide_eq_true (by kernel_rfl)) k1 bel lt1) trodAll_mk0)), rfl, bel.frame _, fun h => by cases h⟩
theorem holds : Rows.dsuCountsRow.holds Try.pinned (OpenSpec.ofChange Rows.dsuCountsSpec) :=
  OpenClaim.holds_of_wide 7 Try.f7 rfl rfl rfl rfl rfl rfl rfl ⟨rfl, rfl, rfl, rfl, rfl⟩ rfl rfl rfl rfl rfl (by kernel_rfl) Try.func7 (by kernel_rfl)
    (of_decide_eq_true (by kernel_rfl)) (by unfold Func.isWrapper; first | (rw [if_pos (by decide +kernel)]; kernel_rfl) | (rw [if_neg (by decide +kernel)]; exact ⟨rfl, rfl⟩))
    (fun os started H enc _ => lifted os started H enc)
theorem proved : Rows.DsuCountsSaid := holds
end lawCounts
end Go.Proofs.Ytgnifimibonbjaa
