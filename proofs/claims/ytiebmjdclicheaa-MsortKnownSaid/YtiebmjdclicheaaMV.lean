/- The functions over lists of records, in one form each; the law's own functions. -/
import Derived.Test.YtiebmjdclicheaaMU
import Derived.Test.YtiebmjdclicheaaMW
set_option linter.unusedVariables false
set_option linter.unusedSimpArgs false
namespace Go.Proofs.Ytiebmjdclicheaa
open Go.RowKit

/-- the value is a slice of these records -/
def HR (w : World) (v : Value) (l : List R4) : Prop := ∃ p c, v = .slice p l.length c ∧ (l.length ≤ c ∧ c ≤ maxLen) ∧ RdR w p l
/-- nil with no room, or at a plain place -/
def HP (v : Value) : Prop := ∃ p n c, v = .slice p n c ∧ ((p = none ∧ c = 0) ∨ ∃ b off, p = some ⟨b, off, none⟩)
theorem HR.keep {w w' : World} {v : Value} {l : List R4} (h : HR w v l) (k : Kp [] w w') : HR w' v l := by
  obtain ⟨p, c, h1, h2, h3⟩ := h
  exact ⟨p, c, h1, h2, h3.below k⟩
theorem HR.row {w : World} {B n : Nat} {v : Value} {l : List R4} (h : w.ownsRow B 24 4 v n (rows l)) : HR w v l ∧ HP v := by
  obtain ⟨p, c, rfl⟩ := row_slice h
  obtain ⟨h1, h2, h3, h4, h5⟩ := RdR.row h
  subst h2
  exact ⟨⟨p, c, rfl, ⟨h3, h4⟩, h1⟩, ⟨p, _, c, rfl, h5⟩⟩
def HL (w : World) (v : Value) (l : List Int) : Prop := ∃ p c, v = .slice p l.length c ∧ RdL w p l
theorem HL.keep {w w' : World} {v : Value} {l : List Int} (h : HL w v l) (k : Kp [] w w') : HL w' v l := by
  obtain ⟨p, c, h1, h3⟩ := h
  exact ⟨p, c, h1, h3.below k⟩
theorem HL.row {w : World} {B n : Nat} {v : Value} {l : List Int} (h : w.ownsRow B 3 1 v n (l.map encI)) : HL w v l := by
  obtain ⟨p, c, rfl⟩ := row_slice h
  obtain ⟨h1, h2, h3, h4, h5⟩ := RdL.row h
  subst h2
  exact ⟨p, c, rfl, h1⟩
theorem sort_h {w : World} {v : Value} {l : List R4} {k : Int} (h : HR w v l) :
    Calls Try.prog 16 #[v, .int .i64 k] w fun e w' => ∃ v', e = .returned (.tuple #[v', .int .i64 (chk l.length k)]) ∧ HR w' v' (sortA k l) ∧ HP v' ∧ Kp [] w w' := by
  obtain ⟨p, c, rfl, hc, hr⟩ := h
  refine (sortP_t hc hr).mono ?_
  rintro e w' ⟨v', rfl, r, k⟩
  exact ⟨v', rfl, (HR.row r).1, (HR.row r).2, k⟩
theorem perm_h {w : World} {v : Value} {l : List R4} {k : Int} (h : HR w v l) :
    Calls Try.prog 18 #[v, .int .i64 k] w fun e w' => ∃ v', e = .returned (.tuple #[v', .int .i64 (chk l.length k)]) ∧ HL w' v' (permA k l) ∧ Kp [] w w' := by
  obtain ⟨p, c, rfl, hc, hr⟩ := h
  refine (permP_t hc hr).mono ?_
  rintro e w' ⟨v', rfl, r, k⟩
  exact ⟨v', rfl, HL.row r, k⟩
theorem rperm_h {w : World} {v : Value} {l : List R4} {k : Int} (h : HR w v l) :
    Calls Try.prog 19 #[v, .int .i64 k] w fun e w' => ∃ v', e = .returned (.tuple #[v', .int .i64 (chk l.length k)]) ∧ HL w' v' (permA k l) ∧ Kp [] w w' := by
  obtain ⟨p, c, rfl, hc, hr⟩ := h
  refine (permR_t hr).mono ?_
  rintro e w' ⟨v', rfl, r, k⟩
  exact ⟨v', rfl, HL.row r, k⟩
theorem inv_h {w : World} {v : Value} {l : List R4} {k : Int} (h : HR w v l) :
    Calls Try.prog 25 #[v, .int .i64 k] w fun e w' => e = .returned (.tuple #[.int .i64 (invA k l : Int), .int .i64 (chk l.length k)]) ∧ Kp [] w w' := by
  obtain ⟨p, c, rfl, hc, hr⟩ := h
  exact invP_t hc hr
theorem rinv_h {w : World} {v : Value} {l : List R4} {k : Int} (h : HR w v l) :
    Calls Try.prog 26 #[v, .int .i64 k] w fun e w' => e = .returned (.tuple #[.int .i64 (invA k l : Int), .int .i64 (chk l.length k)]) ∧ Kp [] w w' := by
  obtain ⟨p, c, rfl, hc, hr⟩ := h
  exact invR_t hr
theorem sorted_h {w : World} {v : Value} {l : List R4} {k : Int} (h : HR w v l) :
    Calls Try.prog 23 #[v, .int .i64 k] w fun e w' => e = .returned (.tuple #[.bool (sorE k l), .int .i64 (chk l.length k)]) ∧ Kp [] w w' := by
  obtain ⟨p, c, rfl, hc, hr⟩ := h
  exact sortedP_t hr
theorem rsorted_h {w : World} {v : Value} {l : List R4} {k : Int} (h : HR w v l) :
    Calls Try.prog 24 #[v, .int .i64 k] w fun e w' => e = .returned (.tuple #[.bool (sorE k l), .int .i64 (chk l.length k)]) ∧ Kp [] w w' := by
  obtain ⟨p, c, rfl, hc, hr⟩ := h
  exact sortedR_t hr
/-- one append of a whole list of records -/
theorem wpList_app {w : World} {ops : Array Oper} {rest : List Oper} {o : Oper} {a : Act} {Q : Exit → Act → World → Prop} (hgd : o.guard = none) (s x : Operand)
    (ho : o.op = .call { callee := .builtin .append, args := #[s, x], argTypes := #[31, 31] }) (B : Nat) (v u : Value) (l m : List R4) (hs : a.eval s = v) (hx : a.eval x = u)
    (hv : w.ownsRow B 24 4 v l.length (rows l)) (hu : HR w u m) (hn : l.length + m.length ≤ 1000000) (hB : B ≤ w.heap.size)
    (h : ∀ v' w', w'.ownsRow B 24 4 v' (l ++ m).length (rows (l ++ m)) → w.grownBy w' v.ownBlock → wpList Try.prog ops Q rest (a.put o.dst v') w') : wpList Try.prog ops Q (o :: rest) a w := by
  obtain ⟨i0, hi, hz0, hz1, hz2⟩ := infoParts infoR
  obtain ⟨p, c, rfl, hc, hr⟩ := hu
  rcases p with _ | ad
  · have hz : m = [] := by
      rcases hr with h | ⟨b, off, hp, _⟩
      · exact h
      · cases hp
    subst hz
    refine wpList_append_none hgd s x 31 ho B 24 i0 4 Try.underlying31 hi v l.length (rows l) hs hv c (by rw [hx]; rfl) ?_
    exact h v w (by rw [List.append_nil]; exact hv) ⟨rfl, rfl, rfl, Nat.le_refl _, fun _ _ _ => rfl⟩
  · have hsrc : ∀ (j : Nat) (u : Value), (rows m)[j]? = some u → w.cell? (ad.add j) = some u := by
      intro j u hj
      rcases hr with h0 | ⟨b, off, hp, hb, hc⟩
      · rw [h0] at hj; simp [rows] at hj
      · have hp := Option.some.inj hp
        subst hp
        rw [Addr.add_lit]
        exact rows_at hc j u hj
    refine wpList_append_own w hgd s x 31 ho B 24 i0 zR 4 32 Try.underlying31 hi hz0 hz1 hz2 rfl (by decide) v l.length (rows l) hs hv ad m.length c (rows m) hx (rows_len m) hsrc (rows_one m) (by unfold maxLen; omega) (by omega) hB fun v' w' h2 h3 _ => ?_
    refine h v' w' ?_ h3
    rw [List.length_append, show rows (l ++ m) = rows l ++ rows m by simp [rows]]
    exact h2
set_option maxRecDepth 100000 in
set_option maxHeartbeats 2000000 in
theorem copied_h {w : World} {v : Value} {l : List R4} (h : HR w v l) (hn : l.length ≤ 65536) :
    Calls Try.prog 15 #[v] w fun e w' => ∃ v', e = .returned v' ∧ HR w' v' l ∧ HP v' ∧ Kp [] w w' := by
  have H := hide (h.keep (Kp.alloc w (.cells #[] 24)))
  have HN := hide hn
  have R0 := hide (World.ownsRow_made (base := w.heap.size) (e := 24) (size := 4) w #[] 0 (Nat.le_refl _) (Nat.zero_le _) rfl)
  clear h hn
  go_enter Try.func15, Try.ntmps15
  go_wp2_with (first | refine wpList_mkzS rfl rfl ?_ | (refine wpList_app rfl _ _ rfl w.heap.size (.slice (some ⟨w.heap.size, 0, none⟩) 0 0) v [] l rfl rfl R0.out H.out (by have := HN.out; simp; omega) (by simp) ?_))
  intro v' w' ho hg
  have HO := hide (HR.row ho)
  have HK : Hid (Kp [] w w') := (Kp.alloc w (.cells #[] 24)).grown hg (fun x hx => by simp [Value.ownBlock] at hx; omega)
  clear ho hg
  go_wp2_with fail
  go_ret
  exact ⟨_, rfl, HO.out.1, HO.out.2, HK.out⟩
set_option maxRecDepth 100000 in
set_option maxHeartbeats 4000000 in
theorem same_h {w : World} {v1 v2 : Value} {l : List R4} (h1 : HR w v1 l) (h2 : HR w v2 l) (hl : l.length ≤ 1000000) :
    Calls Try.prog 20 #[v1, v2] w fun e w' => e = .returned (.bool true) ∧ Kp [] w w' := by
  obtain ⟨p, c, rfl, _, r1⟩ := h1
  obtain ⟨q, d, rfl, _, r2⟩ := h2
  have H1 := hide r1
  have H2 := hide r2
  have HL := hide hl
  clear r1 r2 hl
  obtain ⟨n, hn⟩ : ∃ n, n = l.length := ⟨_, rfl⟩
  have HN := hide hn
  rw [← hn]
  clear hn
  go_enter Try.func20, Try.ntmps20
  go_wp2_with fail
  go_loopw [5] (fun i wr => ∃ k : Nat, i = .int .i64 (k : Int) ∧ Hid (k ≤ n) ∧ Hid (Kp [] w wr)) (fun i _ => n - (intOf i).toNat)
  case atStart => exact ⟨0, rfl, Nat.zero_le _, Kp.refl _ _⟩
  case round =>
    obtain ⟨k, rfl, hk, hq⟩ := hrel
    by_cases hlt : k < n
    · have dk : decide (k < n) = true := by simpa using hlt
      have dk' : decide ((k : Int) < (n : Int)) = true := by simpa using hlt
      have bk : (k : Int) < (n : Int) := by omega
      have ww : IntKind.i64.wrap ((k : Int) + 1) = (k : Int) + 1 := by have := HL.out; have := HN.out; rw [IntKind.wrap_i64]; omega
      have hlk : k < l.length := by have := HN.out; omega
      obtain ⟨b1, o1, rfl, _, c1⟩ := rdr_get (H1.out.below hq.out) hlk
      obtain ⟨b2, o2, rfl, _, c2⟩ := rdr_get (H2.out.below hq.out) hlk
      obtain ⟨e1, e2, e3, e4⟩ := c1 k hlk
      obtain ⟨f1, f2, f3, f4⟩ := c2 k hlk
      generalize l.getD k zz = x at *
      obtain ⟨xu, xv, xw, xt⟩ := x
      dsimp only at e1 e2 e3 e4 f1 f2 f3 f4
      have HK := hide hlt
      clear c1 c2 hlk
      go_wp2_with fail
      go_quiet (fail)
      go_wp2_with fail
      go_roundw
      case rel => exact ⟨k + 1, by go_num, by have := HK.out; show k + 1 ≤ n; omega, hq.out.trans0 (Kp.drewN [] _ _)⟩
      case measure => have := HK.out; simp [intOf]; omega
    · have dk : decide (k < n) = false := by simp; omega
      have dk' : decide ((k : Int) < (n : Int)) = false := by simp; omega
      clear hlt
      go_wp2_with fail
      go_ret
      exact ⟨rfl, hq.out⟩
/-- a law's records -/
def lR (n : Nat) (V : Nat → Nat → Int) : List R4 := (List.range n).map fun i => ⟨V i 0, V i 1, V i 2, V i 3⟩
theorem lR_len (n : Nat) (V : Nat → Nat → Int) : (lR n V).length = n := by simp [lR]
theorem hr_arg {w : World} {s : Option Addr} {len cap : Nat} {V : Nat → Nat → Int} (hc : len ≤ cap ∧ cap ≤ maxLen) (r : RowsI w s [.u64, .u64, .i64, .i64] len V) : HR w (.slice s len cap) (lR len V) := by
  refine ⟨s, cap, by rw [lR_len], by rw [lR_len]; exact hc, ?_⟩
  rcases r with h | ⟨b, off, rfl, hb, hcell⟩
  · subst h; exact .inl rfl
  · refine .inr ⟨b, off, rfl, hb, fun i x hx => ?_⟩
    have hi : i < len := by have := (List.getElem?_eq_some_iff.1 hx).1; rwa [lR_len] at this
    have e : x = ⟨V i 0, V i 1, V i 2, V i 3⟩ := by simp [lR, hi] at hx; exact hx.symm
    subst e
    exact ⟨(hcell i hi 0 _ rfl).1, (hcell i hi 1 _ rfl).1, (hcell i hi 2 _ rfl).1, (hcell i hi 3 _ rfl).1⟩
theorem l_idx (l : List R4) : (idx l.length).map (fun i : Int => l.getD i.toNat zz) = l := by
  apply List.ext_getElem?
  intro i
  by_cases hi : i < l.length
  · simp [idx, hi, List.getD]
  · rw [List.getElem?_eq_none (by simp [idx]; omega), List.getElem?_eq_none (by omega)]
theorem sort_perm {k : Int} {l : List R4} : sortA k l = (permA k l).map (fun i : Int => l.getD i.toNat zz) := by
  by_cases h : chk l.length k = 0
  · rw [sortA_ok h, permA_ok h]
    have := srt_map (bf := bef k) (fun i : Int => l.getD i.toNat zz) l.length (idx l.length)
    rw [l_idx] at this
    rw [this]
    rfl
  · rw [sortA_no h, permA_no h]; rfl
theorem permA_len {k : Int} {l : List R4} (h : chk l.length k = 0) : (permA k l).length = l.length := by rw [permA_ok h, srt_len, idx_len]
theorem permA_lt {k : Int} {l : List R4} {x : Int} (h : x ∈ permA k l) : ∃ i : Nat, i < l.length ∧ x = (i : Int) := by
  by_cases h0 : chk l.length k = 0
  · rw [permA_ok h0] at h
    exact idx_mem (srt_mem _ _ _ _ h)
  · rw [permA_no h0] at h; cases h
set_option maxRecDepth 100000 in
set_option maxHeartbeats 8000000 in
theorem rsort_h {w : World} {v : Value} {l : List R4} {k : Int} (h : HR w v l) :
    Calls Try.prog 17 #[v, .int .i64 k] w fun e w' => ∃ v', e = .returned (.tuple #[v', .int .i64 (chk l.length k)]) ∧ HR w' v' (sortA k l) ∧ HP v' ∧ Kp [] w w' := by
  have PE := hide (rperm_h (k := k) h)
  by_cases h0 : chk l.length k = 0
  · have HN := hide (chk_zero h0).2
    have PL := hide (permA_len h0)
    rw [h0] at PE ⊢
    obtain ⟨p0, c0, rfl, _, hr⟩ := h
    have HR0 := hide hr
    obtain ⟨S, hS⟩ : ∃ S, S = sortA k l := ⟨_, rfl⟩
    have SG := hide (fun (I j : Nat) (h : (permA k l)[I]? = some (j : Int)) => show S[I]? = some (l.getD j zz) by rw [hS, sort_perm, List.getElem?_map, h]; rfl)
    have SL := hide (show S.length = (permA k l).length by rw [hS, sort_perm, List.length_map])
    rw [← hS]
    clear hS
    have PM := hide (fun x => permA_lt (k := k) (l := l) (x := x))
    obtain ⟨n, hnn⟩ : ∃ n, n = l.length := ⟨_, rfl⟩
    have HNN := hide hnn
    obtain ⟨i0, hi, hz0, hz1, hz2⟩ := infoParts infoR
    have HI := hide (And.intro hi (And.intro hz0 (And.intro hz1 hz2)))
    rw [← hnn] at PE ⊢
    clear hr hnn h0 hi hz0 hz1 hz2
    go_enter Try.func17, Try.ntmps17
    go_wp2_with fail
    refine PE.out.mono ?_
    rintro e w1 ⟨v', rfl, hl, k1⟩
    obtain ⟨pp, cp, rfl, rp⟩ := hl
    have RP := hide rp
    have K1 := hide k1
    clear rp k1 PE
    obtain ⟨m, hm⟩ : ∃ m, m = (permA k l).length := ⟨_, rfl⟩
    rw [← hm]
    have HM := hide hm
    have HMN := hide (show m = n by rw [hm, PL.out, HNN.out])
    clear hm
    go_wp2_with fail
    go_loopw [8, 9] (fun o i wr => ∃ (I : Nat), I ≤ m ∧ i = .int .i64 (I : Int) ∧ Hid (wr.ownsRow w1.heap.size 24 4 o I (rows (S.take I))) ∧ Hid (Kp [] w1 wr)) (fun _ i _ => m - (intOf i).toNat)
    case atStart => exact ⟨0, Nat.zero_le _, rfl, World.ownsRow_nil _ _ _ _, Kp.refl _ _⟩
    case round =>
      obtain ⟨I, hI, rfl, hRow, hK⟩ := hrel
      by_cases hlt : I < m
      · have dk : decide ((I : Int) < (m : Int)) = true := by simpa using hlt
        have dk' : decide (I < m) = true := by simpa using hlt
        have wI : IntKind.i64.wrap ((I : Int) + 1) = (I : Int) + 1 := by have := HN.out; have := HMN.out; have := HNN.out; rw [IntKind.wrap_i64]; omega
        have bI : (I : Int) < (m : Int) := by omega
        have hgI : (permA k l)[I]? = some ((permA k l).getD I 0) := by simp [List.getD, show I < (permA k l).length by rw [← HM.out]; exact hlt]
        obtain ⟨j, hj, hje⟩ := PM.out _ (List.mem_of_getElem? hgI)
        rw [hje] at hgI
        have hjm : (j : Int) < (n : Int) := by have := HNN.out; omega
        have hjm' : j < n := by have := HNN.out; omega
        have F := hide (show S.take (I + 1) = S.take I ++ [l.getD j zz] from take_next (SG.out I j hgI))
        rcases RP.out.below hK.out with h0 | ⟨b, off, rfl, _, hc⟩
        · rw [h0] at hgI; simp at hgI
        have e1 : wr.cell? ⟨b, off + I, none⟩ = some (.int .i64 (j : Int)) := hc I _ hgI
        obtain ⟨b2, o2, rfl, _, c2⟩ := rdr_get ((HR0.out.below K1.out).below hK.out) hj
        obtain ⟨f1, f2, f3, f4⟩ := c2 j hj
        have HSZ := hide hK.out.size
        have HS1 := hide K1.out.size
        generalize l.getD j zz = x at *
        have m1 := fun W => litR x.u x.v x.w x.t W
        have R1' := hide ((Kp.alloc (w := wr) (.cells #[.int .u64 x.u, .int .u64 x.v, .int .i64 x.w, .int .i64 x.t] 24)).row hRow.out (by simp))
        have HLT := hide hlt
        have HLL := hide (show I ≤ 65536 by have := HN.out; have := HMN.out; have := HNN.out; omega)
        clear hlt hc c2 hgI hj hje
        go_wp2_with (at_builtin; refine wpList_append_own _ rfl _ _ 31 rfl w1.heap.size 24 i0 zR 4 32 Try.underlying31 HI.out.1 HI.out.2.1 HI.out.2.2.1 HI.out.2.2.2 rfl (by decide) _ I (rows (S.take I)) rfl R1'.out ⟨wr.heap.size, 0, none⟩ 1 1 x.cells rfl rfl (cells_src wr x) (rows_one1 x) (by have := HLL.out; unfold maxLen; omega) (by have := HLL.out; omega) (by have := HSZ.out; simp; omega) ?_)
        intro v' w' ho hg _
        rw [← rows_snoc, ← F.out] at ho
        have HO := hide ho
        have HK2 := hide ((hK.out.allocK (.cells #[.int .u64 x.u, .int .u64 x.v, .int .i64 x.w, .int .i64 x.t] 24)).grown hg (fun z hz => (hRow.out.lt z hz).1))
        clear ho hg
        go_wp2_with fail
        go_roundw
        case rel => exact ⟨I + 1, by have := HLT.out; omega, by go_num, HO.out, HK2.out⟩
        case measure => have := HLT.out; simp [intOf]; omega
      · have hIm : I = m := by omega
        have dk : decide ((I : Int) < (m : Int)) = false := by simp; omega
        have dk' : decide (I < m) = false := by simp; omega
        have q := hRow.out
        rw [hIm, HM.out, ← SL.out, List.take_length] at q
        have Q := hide (HR.row q)
        clear q hIm hlt
        go_wp2_with fail
        go_ret2
        exact ⟨_, rfl, Q.out.1, Q.out.2, K1.out.trans0 hK.out⟩
  · rw [sortA_no h0]
    have d := neq0 h0
    rw [permA_no h0] at PE
    generalize chk l.length k = z at *
    clear h h0
    go_enter Try.func17, Try.ntmps17
    go_wp2_with fail
    refine PE.out.mono ?_
    rintro e w1 ⟨v', rfl, hl, k1⟩
    have K1 := hide k1
    clear hl k1
    go_wp2_with fail
    go_ret2
    exact ⟨.slice none 0 0, rfl, (HR.row (l := []) (World.ownsRow_nil w1 0 _ _)).1, (HR.row (l := []) (World.ownsRow_nil w1 0 _ _)).2, K1.out⟩
end Go.Proofs.Ytiebmjdclicheaa
