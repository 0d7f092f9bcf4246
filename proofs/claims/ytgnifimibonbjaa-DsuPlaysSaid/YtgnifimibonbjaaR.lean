/- The specification's sets: Union, New. -/
import Derived.Test.YtgnifimibonbjaaQ
set_option linter.unusedVariables false
set_option linter.unusedSimpArgs false
namespace Go.Proofs.Ytgnifimibonbjaa
open Go.RowKit

def mixL (L : Nat → Nat) (hi lo k : Nat) : Nat → Nat := fun i => if i < k then (if L i = hi then lo else L i) else L i
theorem mixL_put {n : Nat} {L : Nat → Nat} {x y k : Nat} (h : L k = x) : intsF n (upd (mixL L x y k) k y) = intsF n (mixL L x y (k + 1)) := by
  apply intsF_congr
  intro i hi
  unfold upd mixL
  by_cases e : i = k
  · subst e; simp [h]
  · have : i < k ↔ i < k + 1 := by omega
    simp [e, this]
theorem mixL_same {n : Nat} {L : Nat → Nat} {x y k : Nat} (h : L k ≠ x) : intsF n (mixL L x y k) = intsF n (mixL L x y (k + 1)) := by
  apply intsF_congr
  intro i hi
  unfold mixL
  by_cases e : i = k
  · subst e; simp [h]
  · have : i < k ↔ i < k + 1 := by omega
    simp [this]
theorem jn_mix {n : Nat} {L : Nat → Nat} {a b hi lo : Nat} (h1 : max a b = hi) (h2 : min a b = lo) : intsF n (mixL L hi lo n) = intsF n (jn L a b) := by
  apply intsF_congr
  intro i hi
  unfold mixL jn
  rw [if_pos hi, h1, h2]
set_option maxRecDepth 100000 in
set_option maxHeartbeats 8000000 in
theorem sunion_out {B : Nat} {w : World} {b n : Nat} {own : List Nat} {L : Nat → Nat} (h : SAt B w b own n L) (x y : Int) (ho : ¬ (inr n x ∧ inr n y)) :
    Calls Try.prog 22 #[.pointer (some ⟨b, 0, none⟩), .int .i64 x, .int .i64 y] w fun e w' => e = .returned (.tuple #[.bool false, .int .i64 3]) ∧ w = w' := by
  have V0 : Calls Try.prog 39 #[.pointer (some ⟨b, 0, none⟩)] w fun e w' => e = .returned (.bool true) ∧ w = w' := by
    obtain ⟨v, M, _⟩ := h; exact svalid_t b w M.c.1
  have H0 := shas_any h x
  have H1 := shas_any h y
  by_cases hx : inr n x
  · have hy : ¬ inr n y := fun hy => ho ⟨hx, hy⟩
    rw [inB_t hx] at H0
    rw [inB_f hy] at H1
    clear h hx hy ho
    go_enter Try.func22, Try.ntmps22
    go_wp2_with fail
    refine V0.mono ?_
    rintro e w' ⟨rfl, rfl⟩
    go_wp2_with fail
    refine H0.mono ?_
    rintro e w' ⟨rfl, rfl⟩
    go_wp2_with fail
    refine H1.mono ?_
    rintro e w' ⟨rfl, rfl⟩
    go_wp2_with fail
    go_ret2
    exact ⟨rfl, rfl⟩
  · rw [inB_f hx] at H0
    clear h hx ho H1
    go_enter Try.func22, Try.ntmps22
    go_wp2_with fail
    refine V0.mono ?_
    rintro e w' ⟨rfl, rfl⟩
    go_wp2_with fail
    refine H0.mono ?_
    rintro e w' ⟨rfl, rfl⟩
    go_wp2_with fail
    go_ret2
    exact ⟨rfl, rfl⟩
set_option maxRecDepth 100000 in
set_option maxHeartbeats 8000000 in
theorem sunion_in {B : Nat} {w : World} {b n : Nat} {own : List Nat} {L : Nat → Nat} (h : SAt B w b own n L) (x y : Nat) (hx : x < n) (hy : y < n) :
    Calls Try.prog 22 #[.pointer (some ⟨b, 0, none⟩), .int .i64 (x : Int), .int .i64 (y : Int)] w fun e w' => e = .returned (.tuple #[.bool (decide (L x ≠ L y)), .int .i64 0]) ∧ SAt B w' b own n (if L x = L y then L else jn L (L x) (L y)) ∧ Kp own w w' := by
  have H0 := shas_any h (x : Int)
  have H1 := shas_any h (y : Int)
  rw [inB_t (show inr n (x : Int) from ⟨by omega, by omega⟩)] at H0
  rw [inB_t (show inr n (y : Int) from ⟨by omega, by omega⟩)] at H1
  obtain ⟨v, M, hn, hown⟩ := h
  obtain ⟨c0, c1⟩ := M.c
  have V0 := svalid_t b w c0
  obtain ⟨p, c, rfl⟩ := row_slice M.row
  obtain ⟨g, rfl, -, -, -⟩ := row_cell M.row hx
  have cx : w.cell? ⟨g, x, none⟩ = some (.int .i64 ((L x : Nat) : Int)) := by rw [M.row.cellAt x (by omega), intsF_get _ hx]
  have cy : w.cell? ⟨g, y, none⟩ = some (.int .i64 ((L y : Nat) : Int)) := by rw [M.row.cellAt y (by omega), intsF_get _ hy]
  have HM := hide M
  have HN := hide hn
  have HO := hide hown
  by_cases e : L x = L y
  · rw [if_pos e]
    have d : decide (L x ≠ L y) = false := by simp [e]
    rw [d]
    rw [e] at cx
    have HE := hide e
    generalize L y = l at *
    clear M c0 hn hown e d
    go_enter Try.func22, Try.ntmps22
    go_wp2_with fail
    refine V0.mono ?_
    rintro e w' ⟨rfl, rfl⟩
    go_wp2_with fail
    refine H0.mono ?_
    rintro e w' ⟨rfl, rfl⟩
    go_wp2_with fail
    refine H1.mono ?_
    rintro e w' ⟨rfl, rfl⟩
    go_wp2_with fail
    go_ret2
    exact ⟨rfl, ⟨_, HM.out, HN.out, HO.out⟩, Kp.refl _ _⟩
  · rw [if_neg e]
    have d : decide (L x ≠ L y) = true := by simp [e]
    rw [d]
    clear d c0 hn hown
    have key : ∀ hi lo : Nat, lo < hi → max (L x) (L y) = hi → min (L x) (L y) = lo → ((L x = lo ∧ L y = hi) ∨ (L x = hi ∧ L y = lo)) → Calls Try.prog 22 #[.pointer (some ⟨b, 0, none⟩), .int .i64 (x : Int), .int .i64 (y : Int)] w fun e w' => e = .returned (.tuple #[.bool true, .int .i64 0]) ∧ SAt B w' b own n (jn L (L x) (L y)) ∧ Kp own w w' := by
      intro hi lo hlt hmx hmn hcase
      have HJ := hide (jn_mix (n := n) (L := L) hmx hmn)
      have S0 := hide (show SM B w b (.slice (some ⟨g, 0, none⟩) n c) n (mixL L hi lo 0) by
        rw [show mixL L hi lo 0 = L from funext fun i => by simp [mixL]]; exact M)
      have HPOST : Hid (∀ w', SM B w' b (.slice (some ⟨g, 0, none⟩) n c) n (mixL L hi lo n) → SAt B w' b own n (jn L (L x) (L y))) := by
        intro w' m
        exact ⟨_, ⟨m.blk, by rw [← HJ.out]; exact m.row, m.ge, m.ap⟩, HN.out, HO.out⟩
      generalize jn L (L x) (L y) = J at *
      clear M HJ hmx hmn e
      have hne : ((lo : Int) == (hi : Int)) = false := by simp; omega
      have hne2 : ((hi : Int) == (lo : Int)) = false := by simp; omega
      have hlt2 : (lo : Int) < (hi : Int) := by omega
      have HL := hide (show ∀ k, L k = L k from fun _ => rfl)
      rcases hcase with ⟨e1, e2⟩ | ⟨e1, e2⟩
      all_goals
        rw [e1] at cx
        rw [e2] at cy
        clear e1 e2
        go_enter Try.func22, Try.ntmps22
        go_wp2_with fail
        refine V0.mono ?_
        rintro e w' ⟨rfl, rfl⟩
        go_wp2_with fail
        refine H0.mono ?_
        rintro e w' ⟨rfl, rfl⟩
        go_wp2_with fail
        refine H1.mono ?_
        rintro e w' ⟨rfl, rfl⟩
        go_wp2_with fail
        clear V0 H0 H1 c1 cx cy
        go_loopw [10] (fun z wr => ∃ k : Nat, k ≤ n ∧ z = .int .i64 (k : Int) ∧ Hid (SM B wr b (.slice (some ⟨g, 0, none⟩) n c) n (mixL L hi lo k)) ∧ Hid (Kp own w wr)) (fun z _ => n - (intOf z).toNat)
        case atStart => exact ⟨0, by omega, rfl, S0, Kp.refl _ _⟩
        case round =>
          obtain ⟨k, hk, rfl, hM, hK⟩ := hrel
          have c1 := hM.out.c.2
          by_cases hkn : k < n
          · have dk : decide (k < n) = true := by simp; omega
            have dki : decide ((k : Int) < (n : Int)) = true := by simp; omega
            have wk : IntKind.i64.wrap ((k : Int) + 1) = ((k + 1 : Nat) : Int) := by have := HN.out; rw [IntKind.wrap_i64]; omega
            obtain ⟨_, hpp, e1, f1, -⟩ := row_cell hM.out.row hkn
            injection hpp with hpp; injection hpp with hpp; subst hpp
            rw [intsF_get _ hkn, show mixL L hi lo k k = L k by simp [mixL]] at e1
            have nb : g ≠ b := hM.out.ap g rfl
            by_cases em : L k = hi
            · rw [em] at e1
              have NM := hide (show SM B (wr.setCell ⟨g, k, none⟩ (.int .i64 (lo : Int))) b (.slice (some ⟨g, 0, none⟩) n c) n (mixL L hi lo (k + 1)) by
                refine ⟨blk_off hM.out.blk nb k _, ?_, hM.out.ge, hM.out.ap⟩
                have q := row_put hM.out.row k (.int .i64 (lo : Int))
                rw [intsF_set, mixL_put em] at q
                exact q)
              have NK := hide (hK.out.trans (Kp.set (o := own) wr ⟨g, k, none⟩ (.int .i64 (lo : Int)) (by rw [HO.out]; simp [Value.ownBlock])) (fun z hz => .inl hz))
              clear hM hK em
              go_wp2_with fail
              go_roundw
              case rel => exact ⟨k + 1, by omega, rfl, NM, NK⟩
              case measure => simp [intOf]; omega
            · have NM := hide (show SM B wr b (.slice (some ⟨g, 0, none⟩) n c) n (mixL L hi lo (k + 1)) by
                refine ⟨hM.out.blk, ?_, hM.out.ge, hM.out.ap⟩
                rw [← mixL_same em]
                exact hM.out.row)
              have dm : (((L k : Nat) : Int) == (hi : Int)) = false := by
                have : ¬ ((L k : Nat) : Int) = (hi : Int) := fun hh => em (by omega)
                simpa using this
              clear hM em
              generalize L k = lk at *
              go_wp2_with fail
              go_roundw
              case rel => exact ⟨k + 1, by omega, rfl, NM, hK⟩
              case measure => simp [intOf]; omega
          · have : k = n := by omega
            subst this
            have dk : decide (k < k) = false := by simp
            have dki : decide ((k : Int) < (k : Int)) = false := by simp
            go_wp2_with fail
            go_ret2
            exact ⟨rfl, HPOST.out _ hM.out, hK.out⟩
    rcases Nat.lt_or_ge (L x) (L y) with hl | hl
    · exact key (L y) (L x) hl (by omega) (by omega) (.inl ⟨rfl, rfl⟩)
    · exact key (L x) (L y) (by omega) (by omega) (by omega) (.inr ⟨rfl, rfl⟩)
end Go.Proofs.Ytgnifimibonbjaa
