/- DsuPaths: the law answers true at every number, list of pairs and element (at most 100 of each; else the example alone). -/
import Derived.Test.YtpidkfkjfcjniaaH
import Derived.Test.YtpidkfkjfcjniaaOp
import Derived.Test.YtpidkfkjfcjniaaRows
import Derived.Deep.CutRange
set_option linter.unusedVariables false
set_option linter.unusedSimpArgs false
namespace Go.Proofs.Ytpidkfkjfcjniaa
open Go.RowKit
theorem bad_case (a0 a2 : Int) (s1 : Option Addr) (len1 cap1 : Nat) (w : World) (hc1 : len1 ≤ maxLen) (hs : ¬ (0 ≤ a0 ∧ a0 ≤ 100 ∧ len1 ≤ 100 ∧ 0 ≤ a2 ∧ a2 < a0)) : Calls Try.prog 9 #[.int .i64 a0, .slice s1 len1 cap1, .int .i64 a2] w fun e w' => e = .returned (.bool true) ∧ Below w.heap.size w w' := by
  have wk := works w
  by_cases h1 : a0 < 0
  · have d1 : decide (a0 < 0) = true := by simpa using h1
    clear hs
    go_enter Try.func9, Try.ntmps9
    go_wp2_with fail
    refine wk.mono ?_
    rintro e w2 ⟨rfl, bw⟩
    go_wp2_with fail
    go_ret
    exact ⟨rfl, bw⟩
  have d1 : decide (a0 < 0) = false := by simpa using h1
  by_cases h2 : 100 < a0
  · have d2 : decide (100 < a0) = true := by simpa using h2
    clear hs
    go_enter Try.func9, Try.ntmps9
    go_wp2_with fail
    refine wk.mono ?_
    rintro e w2 ⟨rfl, bw⟩
    go_wp2_with fail
    go_ret
    exact ⟨rfl, bw⟩
  have d2 : decide (100 < a0) = false := by simpa using h2
  by_cases h3 : 100 < len1
  · have d3 : decide (100 < len1) = true := by simpa using h3
    clear hs
    go_enter Try.func9, Try.ntmps9
    go_wp2_with fail
    refine wk.mono ?_
    rintro e w2 ⟨rfl, bw⟩
    go_wp2_with fail
    go_ret
    exact ⟨rfl, bw⟩
  have d3 : decide (100 < len1) = false := by simpa using h3
  by_cases h4 : a2 < 0
  · have d4 : decide (a2 < 0) = true := by simpa using h4
    clear hs
    go_enter Try.func9, Try.ntmps9
    go_wp2_with fail
    refine wk.mono ?_
    rintro e w2 ⟨rfl, bw⟩
    go_wp2_with fail
    go_ret
    exact ⟨rfl, bw⟩
  have d4 : decide (a2 < 0) = false := by simpa using h4
  have h5 : a0 ≤ a2 := by omega
  have d5 : decide (a0 ≤ a2) = true := by simpa using h5
  clear hs
  go_enter Try.func9, Try.ntmps9
  go_wp2_with fail
  refine wk.mono ?_
  rintro e w2 ⟨rfl, bw⟩
  go_wp2_with fail
  go_ret
  exact ⟨rfl, bw⟩
theorem begin_seen (n : Nat) (V : Nat → Nat → Int) (len : Nat) (L : Nat → Nat) (f : Nat) (hfn : f < n) : sb (fun _ => false) f f = true ∧ (∀ i, i < n → sb (fun _ => false) f i = true → L i = L f) ∧ Prog n V len (sb (fun _ => false) f) 0 := by
  refine ⟨sb_at _ _, fun i hi h => ?_, .inr (by rw [cb_sb rfl, if_pos hfn]; omega)⟩
  rcases sb_of h with h | h
  · rw [h]
  · cases h
namespace lawPaths
open Go.ChangeShapes Go.WideShapes Go.ChangeAt Go.RowKit Go.Joins
set_option maxRecDepth 100000 in
set_option maxHeartbeats 32000000 in
theorem walk (a0 : Int) (s1 : Option Addr) (len1 cap1 : Nat) (V1 : Nat → Nat → Int) (a2 : Int) (w : World) (b0 : -9223372036854775808 ≤ a0 ∧ a0 ≤ 9223372036854775807) (hc1 : len1 ≤ cap1 ∧ cap1 ≤ maxLen) (hr1 : RowsI w s1 [.i64, .i64] len1 V1) (b2 : -9223372036854775808 ≤ a2 ∧ a2 ≤ 9223372036854775807) : Calls Try.prog 9 #[.int .i64 a0, .slice s1 len1 cap1, .int .i64 a2] w fun e w' => e = .returned (.bool true) ∧ Below w.heap.size w w' := by
  by_cases hs : 0 ≤ a0 ∧ a0 ≤ 100 ∧ len1 ≤ 100 ∧ 0 ≤ a2 ∧ a2 < a0
  case neg => exact bad_case a0 a2 s1 len1 cap1 w (by omega) hs
  obtain ⟨n, rfl⟩ : ∃ n : Nat, a0 = (n : Int) := ⟨a0.toNat, by omega⟩
  obtain ⟨f, rfl⟩ : ∃ f : Nat, a2 = (f : Int) := ⟨a2.toNat, by omega⟩
  have hfn : f < n := by omega
  have hn1 : n ≤ 100 := by omega
  have hl1 : len1 ≤ 100 := by omega
  have HN := hide hn1
  have HL := hide hl1
  have HF := hide hfn
  have UT := hide (united_t n (by omega) s1 len1 cap1 V1 w hr1 (by omega))
  have HR := hide hr1
  have d0 : decide ((n : Int) < 0) = false := by simp
  have d1 : decide (100 < (n : Int)) = false := by simp; omega
  have d1' : decide (100 < n) = false := by simp; omega
  have d2 : decide (100 < len1) = false := by simp; omega
  have d3 : decide ((f : Int) < 0) = false := by simp
  have d4 : decide ((n : Int) ≤ (f : Int)) = false := by simp; omega
  have d4' : decide (n ≤ f) = false := by simp; omega
  have hmk : ∀ w : World, (Instr.makeSlice 54 (.int .i64 (n : Int)) (.int .i64 (n : Int))).run Try.prog w = .ok (.slice (some ⟨w.heap.size, 0, none⟩) n n) (w.alloc (.cells (madeCells #[.bool false] n) 4)) :=
    fun w => run_make_row' 54 4 (.bool false) 1 Try.underlying54 info4 rfl .i64 .i64 n (by omega) (by omega) w
  clear hs b0 hc1 hr1 b2
  go_enter Try.func9, Try.ntmps9
  go_wp2_with fail
  refine UT.out.mono ?_
  rintro e w1 ⟨b, own, L, rfl, h1, hU, ho, k1⟩
  have HU := hide hU
  have HG := hide (show w1.heap.size ∉ own ∧ w.heap.size ≤ w1.heap.size from ⟨fun hm => by have := (h1.lt _ hm).2; omega, k1.size⟩)
  have HO := hide ho
  have r1 := made_bools w1 (Nat.le_refl _) n (by omega)
  have H1 := hide (h1.keep (Kp.alloc (o := []) w1 (.cells (madeCells #[.bool false] n) 4)) (by simp))
  have K1 := hide (k1.trans (Kp.alloc (o := []) w1 (.cells (madeCells #[.bool false] n) 4)) (by simp))
  obtain ⟨_, hpp, e1, f1, _⟩ := row_cell r1 hfn
  injection hpp with hpp; injection hpp with hpp; subst hpp
  rw [boolsF_get _ hfn] at e1
  have q1 := row_put r1 f (.bool true)
  rw [boolsF_set] at q1
  have H2 := hide (H1.out.keep (Kp.set (o := [w1.heap.size]) _ ⟨w1.heap.size, f, none⟩ (.bool true) (by simp)) (fun x hx hm => by simp at hm; subst hm; exact HG.out.1 hx))
  have K2 := hide (K1.out.trans (Kp.set (o := [w1.heap.size]) _ ⟨w1.heap.size, f, none⟩ (.bool true) (by simp)) (fun x hx => .inr (by simp at hx; subst hx; exact HG.out.2)))
  have R2 := hide q1
  clear h1 hU ho k1 r1 q1 H1 K1 UT
  go_wp2_with fail
  have EW : (w1.alloc (.cells (madeCells #[.bool false] n) 4)).setCell ⟨w1.heap.size, f, none⟩ (.bool true) = w1.alloc (.cells ((madeCells #[.bool false] n).setIfInBounds f (.bool true)) 4) := by simp [go_sem]
  rw [EW] at H2 K2 R2
  clear EW
  generalize hW : w1.alloc (.cells ((madeCells #[.bool false] n).setIfInBounds f (.bool true)) 4) = W at *
  clear hW e1 f1 hmk
  generalize w1.heap.size = g at *
  have INI := hide (begin_seen n V1 len1 L f hfn)
  generalize sb (fun _ => false) f = S0 at *
  clear hfn
  go_loopw [9] (fun x wr => ∃ (r : Nat) (S : Nat → Bool), r ≤ n ∧ x = .int .i64 (r : Int) ∧ Hid (S f = true ∧ (∀ i, i < n → S i = true → L i = L f) ∧ Prog n V1 len1 S r) ∧ Hid (DAt w.heap.size wr b own n L) ∧ Hid (wr.ownsRow g 4 1 (.slice (some ⟨g, 0, none⟩) n n) n (boolsF n S)) ∧ Hid (Kp [] w wr)) (fun x _ => n - (intOf x).toNat)
  case atStart => exact ⟨0, S0, by omega, rfl, INI, H2, R2, K2⟩
  case round =>
    obtain ⟨r, S, hr, rfl, hI, hD, hR, hK⟩ := hrel
    by_cases hrn : r < n
    · have dr : decide ((r : Int) < (n : Int)) = true := by simp; omega
      have wr1 : IntKind.i64.wrap ((r : Int) + 1) = ((r + 1 : Nat) : Int) := by rw [IntKind.wrap_i64]; omega
      have MI := hide (show S f = true ∧ (∀ i, i < n → S i = true → L i = L f) ∧ Mid n V1 len1 S S 0 from ⟨hI.out.1, hI.out.2.1, Mid.start _ _ _ _⟩)
      have PR := hide hI.out.2.2
      clear hI
      go_wp2_with fail
      go_loopw [10] (fun x wr => ∃ (k : Nat) (T : Nat → Bool), k ≤ len1 ∧ x = .int .i64 (k : Int) ∧ Hid (T f = true ∧ (∀ i, i < n → T i = true → L i = L f) ∧ Mid n V1 len1 S T k) ∧ Hid (DAt w.heap.size wr b own n L) ∧ Hid (wr.ownsRow g 4 1 (.slice (some ⟨g, 0, none⟩) n n) n (boolsF n T)) ∧ Hid (Kp [] w wr)) (fun x _ => len1 - (intOf x).toNat)
      case atStart => exact ⟨0, S, by omega, rfl, MI, hD, hR, hK⟩
      case round =>
        obtain ⟨k, T, hk, rfl, hM, hD, hR, hK⟩ := hrel
        by_cases hkn : k < len1
        · have dk : decide ((k : Int) < (len1 : Int)) = true := by simp; omega
          have wk1 : IntKind.i64.wrap ((k : Int) + 1) = ((k + 1 : Nat) : Int) := by rw [IntKind.wrap_i64]; omega
          obtain ⟨bb, off, rfl, hbb, cD, cI⟩ := rowsI_two HR.out hkn
          have cD1 : wr.cell? ⟨bb, off + k * 2, none⟩ = some (.int .i64 (V1 k 0)) := by rw [World.cell?_of_block (w := w) (hK.out.block bb hbb (by simp))]; exact cD
          have cI1 : wr.cell? ⟨bb, off + k * 2 + 1, none⟩ = some (.int .i64 (V1 k 1)) := by rw [World.cell?_of_block (w := w) (hK.out.block bb hbb (by simp))]; exact cI
          have SK : Hid (pok n V1 T k → Mid n V1 len1 S T (k + 1)) := fun e => hM.out.2.2.skip e
          have MK : Hid (inr n (V1 k 0) → inr n (V1 k 1) → (T (V1 k 0).toNat = true ∨ T (V1 k 1).toNat = true) → Mid n V1 len1 S (sb (sb T (V1 k 0).toNat) (V1 k 1).toNat) (k + 1)) := fun a c h => hM.out.2.2.mark hkn a c h
          have EQ : Hid (inr n (V1 k 0) → inr n (V1 k 1) → L (V1 k 0).toNat = L (V1 k 1).toNat) := HU.out.eq k hkn
          have PD : Hid (pok n V1 T k ↔ (inr n (V1 k 0) → inr n (V1 k 1) → T (V1 k 0).toNat = T (V1 k 1).toNat)) := Iff.rfl
          clear cD cI hbb
          generalize V1 k 0 = x at *
          generalize V1 k 1 = y at *
          by_cases x1 : x < 0
          · have dx : decide (x < 0) = true := by simpa using x1
            have NO := hide x1
            clear x1
            go_wp2_with fail
            go_roundw
            case rel => exact ⟨k + 1, T, by omega, rfl, ⟨hM.out.1, hM.out.2.1, SK.out (PD.out.2 (fun a c => absurd NO.out (by unfold inr at a c; omega)))⟩, hD, hR, hK⟩
            case measure => simp [intOf]; omega
          have dx1 : decide (x < 0) = false := by simpa using x1
          by_cases x2 : (n : Int) ≤ x
          · have dx : decide ((n : Int) ≤ x) = true := by simpa using x2
            have NO := hide x2
            clear x1 x2
            go_wp2_with fail
            go_roundw
            case rel => exact ⟨k + 1, T, by omega, rfl, ⟨hM.out.1, hM.out.2.1, SK.out (PD.out.2 (fun a c => absurd NO.out (by unfold inr at a c; omega)))⟩, hD, hR, hK⟩
            case measure => simp [intOf]; omega
          have dx2 : decide ((n : Int) ≤ x) = false := by simpa using x2
          by_cases y1 : y < 0
          · have dx : decide (y < 0) = true := by simpa using y1
            have NO := hide y1
            clear x1 x2 y1
            go_wp2_with fail
            go_roundw
            case rel => exact ⟨k + 1, T, by omega, rfl, ⟨hM.out.1, hM.out.2.1, SK.out (PD.out.2 (fun a c => absurd NO.out (by unfold inr at a c; omega)))⟩, hD, hR, hK⟩
            case measure => simp [intOf]; omega
          have dy1 : decide (y < 0) = false := by simpa using y1
          by_cases y2 : (n : Int) ≤ y
          · have dx : decide ((n : Int) ≤ y) = true := by simpa using y2
            have NO := hide y2
            clear x1 x2 y1 y2
            go_wp2_with fail
            go_roundw
            case rel => exact ⟨k + 1, T, by omega, rfl, ⟨hM.out.1, hM.out.2.1, SK.out (PD.out.2 (fun a c => absurd NO.out (by unfold inr at a c; omega)))⟩, hD, hR, hK⟩
            case measure => simp [intOf]; omega
          have dy2 : decide ((n : Int) ≤ y) = false := by simpa using y2
          obtain ⟨a, rfl⟩ : ∃ a : Nat, x = (a : Int) := ⟨x.toNat, by omega⟩
          obtain ⟨c, rfl⟩ : ∃ c : Nat, y = (c : Int) := ⟨y.toNat, by omega⟩
          have ha : a < n := by omega
          have hc : c < n := by omega
          have ix : inr n (a : Int) := by unfold inr; omega
          have iy : inr n (c : Int) := by unfold inr; omega
          simp only [Int.toNat_natCast] at MK EQ PD
          have EL := EQ.out ix iy
          have dx3 : decide (n ≤ a) = false := by simp; omega
          have dy3 : decide (n ≤ c) = false := by simp; omega
          have r0 := hR.out
          obtain ⟨_, hpp, e1, f1, _⟩ := row_cell r0 ha
          injection hpp with hpp; injection hpp with hpp; subst hpp
          obtain ⟨_, hpp, e2, _, _⟩ := row_cell r0 hc
          injection hpp with hpp; injection hpp with hpp; subst hpp
          rw [boolsF_get _ ha] at e1
          rw [boolsF_get _ hc] at e2
          have p1 := row_put r0 a (.bool true)
          rw [boolsF_set] at p1
          obtain ⟨_, hpp, e3, f3, _⟩ := row_cell p1 hc
          injection hpp with hpp; injection hpp with hpp; subst hpp
          rw [boolsF_get _ hc] at e3
          have p2 := row_put p1 c (.bool true)
          rw [boolsF_set] at p2
          have NR := hide p2
          have NK := hide ((hK.out.trans (Kp.set (o := [g]) wr ⟨g, a, none⟩ (.bool true) (by simp)) (fun x hx => .inr (by simp at hx; subst hx; exact HG.out.2))).trans (Kp.set (o := [g]) _ ⟨g, c, none⟩ (.bool true) (by simp)) (fun x hx => .inr (by simp at hx; subst hx; exact HG.out.2)))
          have ND := hide ((hD.out.keep (Kp.set (o := [g]) wr ⟨g, a, none⟩ (.bool true) (by simp)) (fun x hx hm => by simp at hm; subst hm; exact HG.out.1 hx)).keep (Kp.set (o := [g]) _ ⟨g, c, none⟩ (.bool true) (by simp)) (fun x hx hm => by simp at hm; subst hm; exact HG.out.1 hx))
          have NI : Hid ((T a = true ∨ T c = true) → sb (sb T a) c f = true ∧ (∀ i, i < n → sb (sb T a) c i = true → L i = L f) ∧ Mid n V1 len1 S (sb (sb T a) c) (k + 1)) := by
            intro h
            have hLa : L a = L f := by
              rcases h with h | h
              · exact hM.out.2.1 a ha h
              · rw [EL]; exact hM.out.2.1 c hc h
            refine ⟨?_, fun i hi hs => ?_, MK.out ix iy h⟩
            · have := hM.out.1
              unfold sb
              split
              · rfl
              · split
                · rfl
                · exact this
            · rcases sb_of hs with h2 | h2
              · rw [h2, ← EL]; exact hLa
              · rcases sb_of h2 with h3 | h3
                · rw [h3]; exact hLa
                · exact hM.out.2.1 i hi h3
          have HEL := hide EL
          clear x1 x2 y1 y2 r0 p1 p2 ix iy EL MK EQ
          cases ta : T a with
          | true =>
            rw [ta] at e1
            have TT := hide ta
            clear ta
            go_wp2_with fail
            go_roundw
            case rel => exact ⟨k + 1, _, by omega, rfl, NI.out (.inl TT.out), ND, NR, NK⟩
            case measure => simp [intOf]; omega
          | false =>
            rw [ta] at e1
            cases tc : T c with
            | true =>
              rw [tc] at e2
              have TT := hide tc
              clear ta tc
              go_wp2_with fail
              go_roundw
              case rel => exact ⟨k + 1, _, by omega, rfl, NI.out (.inr TT.out), ND, NR, NK⟩
              case measure => simp [intOf]; omega
            | false =>
              rw [tc] at e2
              have TT := hide (ta.trans tc.symm)
              clear ta tc e3 f3 f1
              go_wp2_with fail
              go_roundw
              case rel => exact ⟨k + 1, T, by omega, rfl, ⟨hM.out.1, hM.out.2.1, SK.out (PD.out.2 (fun _ _ => TT.out))⟩, hD, hR, hK⟩
              case measure => simp [intOf]; omega
        · have : k = len1 := by omega
          subst this
          have dk : decide ((k : Int) < (k : Int)) = false := by simp
          go_wp2_with fail
          go_roundw
          case rel => exact ⟨r + 1, T, by omega, rfl, ⟨hM.out.1, hM.out.2.1, PR.out.next hM.out.2.2⟩, hD, hR, hK⟩
          case measure => simp [intOf]; omega
    · have : n = r := by omega
      subst this
      have dr : decide ((n : Int) < (n : Int)) = false := by simp
      have SE := hide (seen_all HU.out hI.out.2.2.done HF.out hI.out.1 hI.out.2.1)
      clear hI
      go_wp2_with fail
      go_loopw [13, 14] (fun zv x wr => ∃ i : Nat, i ≤ n ∧ x = .int .i64 (i : Int) ∧ zv = .int .i64 ((cnt L (L f) i : Nat) : Int) ∧ Hid (DAt w.heap.size wr b own n L) ∧ Hid (wr.ownsRow g 4 1 (.slice (some ⟨g, 0, none⟩) n n) n (boolsF n S)) ∧ Hid (Kp [] w wr)) (fun _ x _ => n - (intOf x).toNat)
      case atStart => exact ⟨0, by omega, rfl, rfl, hD, hR, hK⟩
      case round =>
        obtain ⟨i, hi, rfl, rfl, hD, hR, hK⟩ := hrel
        by_cases hin : i < n
        · have di : decide ((i : Int) < (n : Int)) = true := by simp; omega
          have wi : IntKind.i64.wrap ((i : Int) + 1) = (i : Int) + 1 := by rw [IntKind.wrap_i64]; omega
          have SA := same_in hD.out.drew f i HF.out hin
          obtain ⟨_, hpp, e1, _, _⟩ := row_cell hR.out hin
          injection hpp with hpp; injection hpp with hpp; subst hpp
          rw [boolsF_get _ hin] at e1
          have CE : Hid (∀ w', Kp own wr.drew w' → w'.cell? ⟨g, i, none⟩ = some (.bool (S i))) := by
            intro w' kk
            have hlt : g < wr.drew.heap.size := (hR.out.lt g (by simp [Value.ownBlock])).2
            rw [World.cell?_of_block (w := wr.drew) (kk.block g hlt HG.out.1)]; exact e1
          have C0 : wr.drew.cell? ⟨g, i, none⟩ = some (.bool (S i)) := e1
          cases si : S i
          · have li : ¬ L i = L f := fun e => by rw [(SE.out i hin).2 e] at si; cases si
            have cn : cnt L (L f) (i + 1) = cnt L (L f) i := by simp [cnt, li]
            rw [si] at C0 CE
            rw [show decide (L f = L i) = false by simp; exact fun e => li e.symm] at SA
            have CN := hide cn
            have SA2 := hide SA
            have CL := hide (cnt_le L (L f) i)
            clear SA li cn si e1
            generalize cnt L (L f) i = z at *
            skip
            go_wp2_with fail
            go_region_held3 (fun w' => w'.cell? ⟨g, i, none⟩ = some (.bool false))
              (with_reducible assumption)
              (first | (go_at_call 24; refine SA2.out.mono ?_; rintro e w6 ⟨rfl, h6, k6⟩; have C6 : w6.cell? ⟨g, i, none⟩ = some (.bool false) := CE.out w6 k6; have H6 := hide h6; have K6 := hide k6; clear h6 k6))
            go_wp2_with fail
            go_roundw
            case rel => exact ⟨i + 1, by omega, rfl, by rw [CN.out], H6, K6.out.row (show wr.drew.ownsRow _ _ _ _ _ _ from hR.out) (fun x hx => by simp [Value.ownBlock] at hx; subst hx; exact HG.out.1), (hK.out.trans (Kp.drewN [] wr 1) (by simp)).trans K6.out (fun z hz => .inr (HO.out z hz))⟩
            case measure => simp [intOf]; omega
          · have li : L i = L f := (SE.out i hin).1 si
            have cn : cnt L (L f) (i + 1) = cnt L (L f) i + 1 := by simp [cnt, li]
            rw [si] at C0 CE
            rw [show decide (L f = L i) = true by simp; exact li.symm] at SA
            have CN := hide cn
            have SA2 := hide SA
            have CL := hide (cnt_le L (L f) i)
            clear SA li cn si e1
            generalize cnt L (L f) i = z at *
            have wz : IntKind.i64.wrap ((z : Int) + 1) = (z : Int) + 1 := by have := CL.out; rw [IntKind.wrap_i64]; omega
            go_wp2_with fail
            go_region_held3 (fun w' => w'.cell? ⟨g, i, none⟩ = some (.bool true))
              (with_reducible assumption)
              (first | (go_at_call 24; refine SA2.out.mono ?_; rintro e w6 ⟨rfl, h6, k6⟩; have C6 : w6.cell? ⟨g, i, none⟩ = some (.bool true) := CE.out w6 k6; have H6 := hide h6; have K6 := hide k6; clear h6 k6))
            go_wp2_with fail
            go_roundw
            case rel => exact ⟨i + 1, by omega, rfl, by rw [CN.out]; rfl, H6, K6.out.row (show wr.drew.ownsRow _ _ _ _ _ _ from hR.out) (fun x hx => by simp [Value.ownBlock] at hx; subst hx; exact HG.out.1), (hK.out.trans (Kp.drewN [] wr 1) (by simp)).trans K6.out (fun z hz => .inr (HO.out z hz))⟩
            case measure => simp [intOf]; omega
        · have : n = i := by omega
          subst this
          have di : decide ((n : Int) < (n : Int)) = false := by simp
          have SZ := hide (size_in hD.out f HF.out)
          generalize cnt L (L f) n = z at *
          clear hD
          go_wp2_with fail
          refine SZ.out.mono ?_
          rintro e w7 ⟨rfl, h7, k7⟩
          have K7 := hide (hK.out.trans k7 (fun z hz => .inr (HO.out z hz)))
          clear h7 k7
          go_wp2_with fail
          refine (works _).mono ?_
          rintro e w9 ⟨rfl, bw⟩
          have HW := hide bw
          clear bw
          go_wp2_with fail
          go_ret
          exact ⟨rfl, (K7.out.below (by simp) (Nat.le_refl _)).trans (HW.out.mono K7.out.size)⟩
theorem own : ownKnob Try.prog.godebug = none := by kernel_rfl
theorem laidOut : laidOutB Try.prog = true := by kernel_rfl
set_option maxRecDepth 100000 in
theorem lifted (os : Os) (started : os.Started) (H : Type) (enc : TypeId × Value → H) :
    ReturnsInHanded {} Try.checked os 9 .any (Rows.dsuPathsSpec.pre6 enc Try.prog Try.f9 Rows.dsuPathsRow.domain false) (Rows.dsuPathsSpec.post enc Try.prog Try.f9 false true false false) := by
  refine returnsInHanded_of_change (C := Try.checked) own started (by kernel_rfl) Try.func9
    (ChangeSpec.witness6 (enc := enc) (C := Try.checked) false ⟨#[], #[.int .i64 0, .slice none 0 0, .int .i64 0], []⟩ 8 (by kernel_rfl) (by kernel_rfl) (by kernel_rfl) (by kernel_rfl)) ?_
  intro W base args ds gs before hval0 hW hcnd _
  have hval : ∀ (j : Nat) t v, Try.f9.params[j]? = some t → args[j]? = some v → Value.okWide Try.prog W .any base t v := hval0
  have hW' := hW
  obtain ⟨p, q, hA0, hV, rfl, hfz, hnd⟩ := hW
  have hA : DataW.TrodAll enc Try.prog W 0 (fun _ => true) true Try.f9.params.toList args.toList ds p := hA0
  rw [Try.params9] at hA hval
  obtain ⟨v0, vs0, d0, ds0, p0, q0, hargs, rfl, rfl, h0, r0⟩ := trodAll_cons hA
  obtain ⟨v1, vs1, d1, ds1, p1, q1, rfl, rfl, rfl, h1, r1⟩ := trodAll_cons r0
  obtain ⟨v2, vs2, d2, ds2, p2, q2, rfl, rfl, rfl, h2, r2⟩ := trodAll_cons r1
  obtain ⟨rfl, rfl, rfl⟩ := trodAll_nil r2
  obtain rfl : args = #[v0, v1, v2] := by cases args; simp_all
  obtain ⟨rfl, rfl⟩ := trodVars_none hV
  have k0 := h0
  have lt0 : ∀ x ∈ p0, x.block < W.heap.size := by obtain ⟨m, hm⟩ := k0; exact DataW.trod_lt m _ _ _ hm
  have k1 := h1
  have lt1 : ∀ x ∈ p1, x.block < W.heap.size := by obtain ⟨m, hm⟩ := k1; exact DataW.trod_lt m _ _ _ hm
  have k2 := h2
  have lt2 : ∀ x ∈ p2, x.block < W.heap.size := by obtain ⟨m, hm⟩ := k2; exact DataW.trod_lt m _ _ _ hm
  obtain ⟨a0, rfl, _, _, w0⟩ := open_int Try.underlying3 (hval 0 3 v0 rfl rfl) h0
  obtain ⟨s1, len1, cap1, rfl⟩ := okWide_slice Try.underlying37 (hval 1 37 v1 rfl rfl)
  obtain ⟨V1, hc1, hr1⟩ := rows_in Try.underlying37 (flat_array Try.underlying40 Try.underlying3 (by kernel_rfl) (by kernel_rfl) : FlatI Try.prog 40 [.i64, .i64]) (by decide) h1
  obtain ⟨a2, rfl, _, _, w2⟩ := open_int Try.underlying3 (hval 2 3 v2 rfl rfl) h2
  clear hA0 hval0
  refine (walk a0 s1 len1 cap1 V1 a2 W (bounds_i64 w0) hc1 hr1 (bounds_i64 w2)).mono fun e W' ⟨he, bel⟩ => ?_
  subst he
  exact ⟨_, rfl, _, _, _, [], _, [], hW', trodAll_mk1 (shut_bool Try.underlying4 _), (trodAll_cons_mk (Below.trod laidOut (by kernel_rfl) (of_decide_eq_true (by kernel_rfl)) k0 bel lt0) (trodAll_cons_mk (Below.trod laidOut (by kernel_rfl) (of_decide_eq_true (by kernel_rfl)) k1 bel lt1) (trodAll_cons_mk (Below.trod laidOut (by kernel_rfl) (of_decide_eq_true (by kernel_rfl)) k2 bel lt2) trodAll_mk0))), rfl, bel.frame _, fun h => by cases h⟩
theorem holds : Rows.dsuPathsRow.holds Try.pinned (OpenSpec.ofChange Rows.dsuPathsSpec) :=
  OpenClaim.holds_of_wide 9 Try.f9 rfl rfl rfl rfl rfl rfl rfl ⟨rfl, rfl, rfl, rfl, rfl⟩ rfl rfl rfl rfl rfl (by kernel_rfl) Try.func9 (by kernel_rfl)
    (of_decide_eq_true (by kernel_rfl)) (by unfold Func.isWrapper; first | (rw [if_pos (by decide +kernel)]; kernel_rfl) | (rw [if_neg (by decide +kernel)]; exact ⟨rfl, rfl⟩))
    (fun os started H enc _ => lifted os started H enc)
theorem proved : Rows.DsuPathsSaid := holds
end lawPaths
end Go.Proofs.Ytpidkfkjfcjniaa
