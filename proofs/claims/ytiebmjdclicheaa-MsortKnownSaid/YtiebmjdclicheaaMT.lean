/- The specification's check and Perm. -/
import Derived.Test.YtiebmjdclicheaaML
import Derived.BigRegion
set_option linter.unusedVariables false
set_option linter.unusedSimpArgs false
namespace Go.Proofs.Ytiebmjdclicheaa
open Go.RowKit

theorem rcheck_t (n : Nat) (k : Int) (w : World) : Calls Try.prog 37 #[.int .i64 (n : Int), .int .i64 k] w fun e w' => e = .returned (.int .i64 (chk n k)) ∧ w = w' := by
  have CK := hide (known_t k)
  by_cases hk : KOK k
  · rw [show decide (k = 1 ∨ k = 2 ∨ k = 3) = true by simpa [KOK] using hk] at CK
    by_cases hn : n ≤ 65536
    · rw [chk_ok hk hn]
      have d : decide ((65536 : Int) < (n : Int)) = false := by simp; omega
      clear hk hn
      go_enter Try.func37, Try.ntmps37
      go_wp2_with fail
      refine (CK.out _).mono ?_
      rintro e w1 ⟨rfl, rfl⟩
      go_wp2_with fail
      go_ret
      exact ⟨rfl, rfl⟩
    · have e : chk n k = 16 := by unfold chk; rw [if_pos hk, if_neg hn]
      rw [e]
      have d : decide ((65536 : Int) < (n : Int)) = true := by simp; omega
      clear hk hn e
      go_enter Try.func37, Try.ntmps37
      go_wp2_with fail
      refine (CK.out _).mono ?_
      rintro e w1 ⟨rfl, rfl⟩
      go_wp2_with fail
      go_ret
      exact ⟨rfl, rfl⟩
  · rw [show decide (k = 1 ∨ k = 2 ∨ k = 3) = false by simpa [KOK] using hk] at CK
    have e : chk n k = 2 := by unfold chk; rw [if_neg hk]
    rw [e]
    clear hk e
    go_enter Try.func37, Try.ntmps37
    go_wp2_with fail
    refine (CK.out _).mono ?_
    rintro e w1 ⟨rfl, rfl⟩
    go_wp2_with fail
    go_ret
    exact ⟨rfl, rfl⟩
theorem idx_succ (n : Nat) : idx (n + 1) = idx n ++ [(n : Int)] := by simp [idx, List.range_succ]
theorem St.mem {α : Type} {bf : α → α → Bool} (h : Weak bf) {s l : List α} (a : St bf s l) {x : α} (hx : x ∈ s) : x ∈ l := by
  have : x ∈ s.filter (eqv bf x) := List.mem_filter.2 ⟨hx, eqv_self h x⟩
  rw [a.2] at this
  exact (List.mem_filter.1 this).1
theorem rdr_get {w : World} {p : Option Addr} {l : List R4} (h : RdR w p l) {i : Nat} (hi : i < l.length) : ∃ b off, p = some ⟨b, off, none⟩ ∧ b < w.heap.size ∧ ∀ i, i < l.length → At4 w b (off + i * 4) (l.getD i zz) := rdr_at h (by intro e; rw [e] at hi; simp at hi)
theorem swap_list (A B : List Int) (m I : Int) {J K : Nat} (hK : K = A.length) (hJ : J = K + 1) : ((((A ++ [m]) ++ I :: B).map encI).set J (.int .i64 m)).set K (.int .i64 I) = (A ++ I :: (m :: B)).map encI := by
  subst hJ; subst hK
  have e : ∀ x : Int, (Value.int .i64 x) = encI x := fun _ => rfl
  rw [e, e, ← List.map_set, ← List.map_set]
  congr 1
  rw [List.append_assoc, List.set_append_right _ _ (by omega), List.set_append_right _ _ (by omega)]
  simp
set_option maxRecDepth 100000 in
set_option maxHeartbeats 16000000 in
theorem permR_t {w : World} {p : Option Addr} {c : Nat} {l : List R4} {k : Int} (hr : RdR w p l) :
    Calls Try.prog 19 #[.slice p l.length c, .int .i64 k] w fun e w' => ∃ v, e = .returned (.tuple #[v, .int .i64 (chk l.length k)]) ∧ w'.ownsRow w.heap.size 3 1 v (permA k l).length ((permA k l).map encI) ∧ Kp [] w w' := by
  have CH := hide (rcheck_t l.length k w)
  by_cases h0 : chk l.length k = 0
  · have HN := hide (chk_zero h0).2
    have HR := hide hr
    have BW := hide (bfI_weak k l)
    have E0 := hide (show permA k l = (srt (bfI k l) l.length (idx l.length)).1 from permA_ok h0)
    have EL := hide (show (permA k l).length = l.length by rw [permA_ok h0, srt_len, idx_len])
    rw [h0] at CH ⊢
    obtain ⟨n, hnn⟩ : ∃ n, n = l.length := ⟨_, rfl⟩
    have HNN := hide hnn
    have CQ := hide (fun a b => before_t a b k)
    obtain ⟨i0, hi, hz0, hz1, hz2⟩ := infoParts infoN
    have HI := hide (And.intro hi (And.intro hz0 (And.intro hz1 hz2)))
    have m1 := fun (x : Int) W => litN x W
    rw [← hnn] at CH ⊢
    clear hr hnn h0 hi hz0 hz1 hz2
    go_enter Try.func19, Try.ntmps19
    go_wp2_with fail
    refine CH.out.mono ?_
    rintro e w1 ⟨rfl, rfl⟩
    go_wp2_with fail
    go_loopw [7, 8] (fun o i wr => ∃ (I : Nat) (out : List Int), I ≤ n ∧ i = .int .i64 (I : Int) ∧ Hid (out.length = I) ∧ Hid (St (bfI k l) out (idx I)) ∧ Hid (wr.ownsRow w.heap.size 3 1 o I (out.map encI)) ∧ Hid (Kp [] w wr)) (fun _ i _ => n - (intOf i).toNat)
    case atStart => exact ⟨0, [], Nat.zero_le _, rfl, rfl, ⟨List.Pairwise.nil, fun _ => rfl⟩, World.ownsRow_nil _ _ _ _, Kp.refl _ _⟩
    case round =>
      obtain ⟨I, out, hI, rfl, hol, hSt, hRow, hK⟩ := hrel
      by_cases hlt : I < n
      · have dk : decide ((I : Int) < (n : Int)) = true := by simpa using hlt
        have dk' : decide (I < n) = true := by simpa using hlt
        have wI : IntKind.i64.wrap ((I : Int) + 1) = (I : Int) + 1 := by have := HN.out; have := HNN.out; rw [IntKind.wrap_i64]; omega
        have HSZ := hide hK.out.size
        have R1' := hide ((Kp.alloc (w := wr) (.cells #[.int .i64 (I : Int)] 3)).row hRow.out (by simp))
        have my := m1 (I : Int)
        have HLT := hide hlt
        have HLI := hide (show I ≤ 65536 by have := HN.out; have := HNN.out; omega)
        clear hlt
        go_wp2_with (at_builtin; refine wpList_append_own _ rfl _ _ 35 rfl w.heap.size 3 i0 (.int .i64 0) 1 8 Try.underlying35 HI.out.1 HI.out.2.1 HI.out.2.2.1 HI.out.2.2.2 rfl (by decide) _ I (out.map encI) rfl R1'.out ⟨wr.heap.size, 0, none⟩ 1 1 [.int .i64 (I : Int)] rfl rfl (one_src wr (.int .i64 (I : Int)) 3) (by simp [Value.oneCell']) (by have := HLI.out; unfold maxLen; omega) (by have := HLI.out; omega) (by have := HSZ.out; simp; omega) ?_)
        intro v' w' ho hg _
        rw [← mapI_snoc] at ho
        obtain ⟨p7, c7, rfl⟩ := row_slice ho
        have HO := hide ho
        have HK2 := hide ((hK.out.allocK (.cells #[.int .i64 (I : Int)] 3)).grown hg (fun z hz => (R1'.out.lt z hz).1))
        clear ho hg
        obtain ⟨g, hp7⟩ : ∃ g, p7 = some ⟨g, 0, none⟩ := by
          obtain ⟨g, hg, _⟩ := row_cell HO.out (k := I) (by omega)
          exact ⟨g, hg⟩
        subst hp7
        have HG := hide (show w.heap.size ≤ g from (HO.out.lt g rfl).1)
        generalize hw0 : w' = w0 at *
        clear hw0
        go_wp2_with fail
        go_loopw [9] (fun j wr => ∃ A B : List Int, j = .int .i64 (A.length : Int) ∧ Hid (A ++ B = out) ∧ Hid (∀ z ∈ B, bfI k l (I : Int) z = true) ∧ Hid (wr.ownsRow w.heap.size 3 1 (.slice (some ⟨g, 0, none⟩) (I + 1) c7) (I + 1) ((A ++ (I : Int) :: B).map encI)) ∧ Hid (Kp [] w wr)) (fun j _ => (intOf j).toNat)
        case atStart => exact ⟨out, [], by rw [hol.out] <;> rfl, List.append_nil _, fun z hz => (List.not_mem_nil hz).elim, HO.out, HK2.out⟩
        case round =>
          obtain ⟨A, B, rfl, hAB, hB, hR2, hK3⟩ := hrel
          rcases List.eq_nil_or_concat A with rfl | ⟨A', a, rfl⟩
          · have d0 : decide ((0 : Int) < 0) = false := by simp
            have F := hide (show St (bfI k l) ([] ++ (I : Int) :: B) (idx (I + 1)) by rw [idx_succ]; exact St.ins BW.out (by rw [hAB.out]; exact hSt.out) hB.out (.inl rfl))
            have FL := hide (show ([] ++ (I : Int) :: B).length = I + 1 by have := congrArg List.length hAB.out; have := hol.out; simp at *; omega)
            simp only [List.length_nil, Int.natCast_zero]
            clear hAB hB hSt
            go_wp2_with fail
            go_quiet (fail)
            go_wp2_with fail
            go_roundw
            case rel => exact ⟨I + 1, [] ++ (I : Int) :: B, by have := HLT.out; omega, by go_num, FL, F, (Kp.drewN [] _ _).row hR2.out (by simp), hK3.out.trans0 (Kp.drewN [] _ _)⟩
            case measure => have := HLT.out; simp [intOf]; omega
          · rw [List.concat_eq_append] at *
            obtain ⟨m, hm, rfl⟩ := idx_mem (St.mem BW.out hSt.out (x := a) (by rw [← hAB.out]; simp))
            obtain ⟨K, hKK⟩ : ∃ K, K = A'.length := ⟨_, rfl⟩
            obtain ⟨J, hJJ⟩ : ∃ J, J = (A' ++ [(m : Int)]).length := ⟨_, rfl⟩
            have hJK : J = K + 1 := by rw [hJJ, hKK]; simp
            have hJI : J ≤ I := by have := congrArg List.length hAB.out; rw [hol.out, List.length_append, ← hJJ] at this; omega
            have HJK := hide (And.intro hJK (And.intro hKK (And.intro hJJ hJI)))
            obtain ⟨_, hpp, e1, f1, _⟩ := row_cell hR2.out (k := J) (by omega)
            injection hpp with hpp; injection hpp with hpp; subst hpp
            obtain ⟨_, hpp, e2, f2, _⟩ := row_cell hR2.out (k := K) (by omega)
            injection hpp with hpp; injection hpp with hpp; subst hpp
            rw [show (((A' ++ [(m : Int)]) ++ (I : Int) :: B).map encI)[J]? = some (.int .i64 (I : Int)) by rw [List.getElem?_map, List.getElem?_append_right (by omega), hJJ, Nat.sub_self]; rfl] at e1
            have E1 := hide (show (((A' ++ [(m : Int)]) ++ (I : Int) :: B).map encI)[J]? = some (.int .i64 (I : Int)) by rw [List.getElem?_map, List.getElem?_append_right (by omega), hJJ, Nat.sub_self]; rfl)
            have E2 := hide (show (((A' ++ [(m : Int)]) ++ (I : Int) :: B).map encI)[K]? = some (.int .i64 (m : Int)) by rw [List.getElem?_map, List.append_assoc, List.getElem?_append_right (by omega), hKK, Nat.sub_self]; rfl)
            rw [show (((A' ++ [(m : Int)]) ++ (I : Int) :: B).map encI)[K]? = some (.int .i64 (m : Int)) by rw [List.getElem?_map, List.append_assoc, List.getElem?_append_right (by omega), hKK, Nat.sub_self]; rfl] at e2
            have hmn : m < l.length := by have := HLT.out; have := HNN.out; omega
            have hIn : I < l.length := by have := HLT.out; have := HNN.out; omega
            obtain ⟨b, off, rfl, hb, hat⟩ := rdr_get (HR.out.below hK3.out) hmn
            have aI := hat I hIn
            have am := hat m hmn
            have hbb : bfI k l (I : Int) (m : Int) = bef k (l.getD I zz) (l.getD m zz) := by simp [bfI]
            obtain ⟨x, hx⟩ : ∃ x, x = l.getD I zz := ⟨_, rfl⟩
            obtain ⟨y, hy⟩ : ∃ y, y = l.getD m zz := ⟨_, rfl⟩
            rw [← hx] at aI hbb
            rw [← hy] at am hbb
            have HBB := hide hbb
            have bI : (I : Int) < (n : Int) := by have := HLT.out; omega
            have bm : (m : Int) < (n : Int) := by have := HLT.out; omega
            have lI : I < n := HLT.out
            have lm : m < n := by have := HLT.out; omega
            have jI : (J : Int) < (I : Int) + 1 := by omega
            have kI : (K : Int) < (I : Int) + 1 := by omega
            have jI' : J < I + 1 := by omega
            have kI' : K < I + 1 := by omega
            have jp : decide ((0 : Int) < (J : Int)) = true := by simp; omega
            have jp' : decide (0 < J) = true := by simp; omega
            have wJ : IntKind.i64.wrap ((J : Int) - 1) = (K : Int) := by have := HLI.out; rw [IntKind.wrap_i64]; omega
            obtain ⟨w2, hw2⟩ : ∃ w2 : World, w2 = wr.drew := ⟨_, rfl⟩
            have k0 : Kp [] wr w2 := by rw [hw2]; exact Kp.drewN [] wr 1
            have hw2' : ({ wr with drawn := wr.drawn + 1 } : World) = w2 := hw2.symm
            obtain ⟨a1, a2, a3, a4⟩ : At4 w2 b (off + I * 4) x := by rw [hw2]; exact aI
            obtain ⟨b1, b2, b3, b4⟩ : At4 w2 b (off + m * 4) y := by rw [hw2]; exact am
            have e1' : w2.cell? ⟨g, J, none⟩ = some (.int .i64 (I : Int)) := by rw [hw2]; exact e1
            have e2' : w2.cell? ⟨g, K, none⟩ = some (.int .i64 (m : Int)) := by rw [hw2]; exact e2
            have K0 := hide k0
            have R20 := hide (k0.row hR2.out (by simp))
            have CC := hide (fun W => CQ.out x y W)
            unfold R4.val at CC
            rw [show (((A' ++ [(m : Int)]).length : Nat) : Int) = (J : Int) by rw [hJJ]]
            clear aI am hx hy hw2 k0 hat hb hJK hJI hKK hJJ hbb hmn hIn e1 e2 f1 f2 hm
            by_cases hbf : bef k x y = true
            · have F := hide hbf
              clear hbf
              go_wp2_with fail
              refine wp_region_still_tail 19 (by kernel_rfl) (by kernel_rfl) ?_
              simp only [List.take_succ_cons, List.take_zero, List.drop_succ_cons, List.drop_zero]
              rw [hw2']
              clear hw2'
              repeat still_step
              refine wpStill_nil ?_
              go_wp2_with fail
              refine (CC.out _).mono ?_
              rintro e w3 ⟨rfl, k1⟩
              rw [F.out]
              have R3 := hide (k1.row R20.out (by simp))
              have K3 := hide ((hK3.out.trans0 K0.out).trans0 k1)
              clear k1 a1 a2 a3 a4 b1 b2 b3 b4 e1' e2'
              obtain ⟨_, hpp, e1, f1, _⟩ := row_cell R3.out (k := J) jI'
              injection hpp with hpp; injection hpp with hpp; subst hpp
              obtain ⟨_, hpp, e2, f2, _⟩ := row_cell R3.out (k := K) kI'
              injection hpp with hpp; injection hpp with hpp; subst hpp
              rw [E1.out] at e1
              rw [E2.out] at e2
              have e3 : (w3.setCell ⟨g, J, none⟩ (.int .i64 (m : Int))).cell? ⟨g, K, none⟩ = some (.int .i64 (m : Int)) := by rw [cell_far (by intro h; injection h with _ h _; have := HJK.out.1; omega)]; exact e2
              have R4 := hide (row_put (row_put R3.out J (.int .i64 (m : Int))) K (.int .i64 (I : Int)))
              rw [swap_list A' B _ _ HJK.out.2.1 HJK.out.1] at R4
              have K4 := hide ((K3.out.put g J (.int .i64 (m : Int)) (.inr HG.out)).put g K (.int .i64 (I : Int)) (.inr HG.out))
              clear R3 K3
              go_wp2_with fail
              go_region
              generalize ((w3.setCell ⟨g, J, none⟩ (.int .i64 (m : Int))).setCell ⟨g, K, none⟩ (.int .i64 (I : Int))) = w4 at *
              clear e1 e2 e3 f1 f2
              go_wp2_with fail
              go_roundw
              case rel => exact ⟨A', (m : Int) :: B, by rw [← HJK.out.2.1] <;> rfl, by have := hAB.out; show A' ++ (m : Int) :: B = out; simpa using this, fun z hz => by
                rcases List.mem_cons.1 hz with rfl | hz
                · rw [HBB.out]; exact F.out
                · exact hB.out z hz, (Kp.drewN [] _ 1).row R4.out (by simp), K4.out.trans0 (Kp.drewN [] _ 1)⟩
              case measure => have := HJK.out; simp [intOf]; omega
            · have hbf' : bef k x y = false := by simpa using hbf
              have F := hide (show St (bfI k l) ((A' ++ [(m : Int)]) ++ (I : Int) :: B) (idx (I + 1)) by
                rw [idx_succ]
                exact St.ins BW.out (by rw [hAB.out]; exact hSt.out) hB.out (.inr ⟨A', _, rfl, by rw [HBB.out]; exact hbf'⟩))
              have FL := hide (show ((A' ++ [(m : Int)]) ++ (I : Int) :: B).length = I + 1 by have := congrArg List.length hAB.out; have := hol.out; simp at *; omega)
              rw [hbf'] at CC
              clear hbf hbf'
              go_wp2_with fail
              refine wp_region_still_tail 19 (by kernel_rfl) (by kernel_rfl) ?_
              simp only [List.take_succ_cons, List.take_zero, List.drop_succ_cons, List.drop_zero]
              rw [hw2']
              clear hw2'
              repeat still_step
              refine wpStill_nil ?_
              go_wp2_with fail
              refine (CC.out _).mono ?_
              rintro e w3 ⟨rfl, k1⟩
              have R3 := hide (k1.row R20.out (by simp))
              have K3 := hide ((hK3.out.trans0 K0.out).trans0 k1)
              clear k1 a1 a2 a3 a4 b1 b2 b3 b4 e1' e2'
              go_wp2_with fail
              go_roundw
              case rel => exact ⟨I + 1, (A' ++ [(m : Int)]) ++ (I : Int) :: B, by have := HLT.out; omega, by go_num, FL, F, R3.out, K3.out⟩
              case measure => have := HLT.out; simp [intOf]; omega
      · have hK' : I = n := by omega
        have dk : decide ((I : Int) < (n : Int)) = false := by simp; omega
        have dk' : decide (I < n) = false := by simp; omega
        have F := hide (show out = permA k l by rw [E0.out]; exact hSt.out.uniq BW.out (by rw [hK', HNN.out]; exact srt_st BW.out _ _ (by rw [idx_len]; exact Nat.le_refl _)))
        have HK' := hide hK'
        clear hK' hlt
        go_wp2_with fail
        go_ret2
        refine ⟨_, rfl, ?_, hK.out⟩
        have q := hRow.out
        rw [F.out] at q
        rw [EL.out, ← HNN.out, ← HK'.out]
        exact q
  · rw [permA_no h0]
    have d := neq0 h0
    generalize chk l.length k = z at *
    generalize l.length = n at *
    clear hr h0
    go_enter Try.func19, Try.ntmps19
    go_wp2_with fail
    refine CH.out.mono ?_
    rintro e w' ⟨rfl, rfl⟩
    go_wp2_with fail
    go_ret2
    exact ⟨_, rfl, World.ownsRow_nil _ _ _ _, Kp.refl _ _⟩
end Go.Proofs.Ytiebmjdclicheaa
