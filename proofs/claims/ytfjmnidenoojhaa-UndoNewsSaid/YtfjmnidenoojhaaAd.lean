/- Uniting by lists of small numbers. -/
import Derived.Test.YtfjmnidenoojhaaWk
set_option linter.unusedVariables false
set_option linter.unusedSimpArgs false
namespace Go.Proofs.Ytfjmnidenoojhaa
open Go.RowKit

theorem rowsI_u8 {w : World} {s : Option Addr} {n : Nat} {V : Nat → Nat → Int} (h : RowsI w s [.u8, .u8] n V) {i : Nat} (hi : i < n) :
    ∃ b off x y, s = some ⟨b, off, none⟩ ∧ b < w.heap.size ∧ w.cell? ⟨b, off + i * 2, none⟩ = some (.int .u8 (x : Nat)) ∧ w.cell? ⟨b, off + i * 2 + 1, none⟩ = some (.int .u8 (y : Nat)) ∧ x ≤ 255 ∧ y ≤ 255 ∧ x = (V i 0).toNat ∧ y = (V i 1).toNat := by
  rcases h with h | ⟨b, off, rfl, hb, hc⟩
  · omega
  · have h0 := hc i hi 0 .u8 rfl
    have h1 := hc i hi 1 .u8 rfl
    simp at h0 h1
    have w0 := bounds_u8 h0.2
    have w1 := bounds_u8 h1.2
    refine ⟨b, off, (V i 0).toNat, (V i 1).toNat, rfl, hb, ?_, ?_, by omega, by omega, rfl, rfl⟩
    · rw [h0.1]; congr 2; omega
    · rw [h1.1]; congr 2; omega
def X50 (V : Nat → Nat → Int) (k : Nat) : Nat := (V k 0).toNat % 50
def Y50 (V : Nat → Nat → Int) (k : Nat) : Nat := (V k 1).toNat % 50
set_option maxRecDepth 100000 in
set_option maxHeartbeats 16000000 in
theorem add_t {B : Nat} {w : World} {b : Nat} {own : List Nat} {L : Nat → Nat} {H : List (Nat → Nat)} (h : US B w b own 50 L H) {s : Option Addr} {len cap : Nat} {V : Nat → Nat → Int} (hr : RowsI w s [.u8, .u8] len V) (hlen : len ≤ 100) (hB : B ≤ w.heap.size) (hs : ∀ bb off sp, 0 < len → s = some ⟨bb, off, sp⟩ → bb ∉ own) :
    Calls Try.prog 27 #[.pointer (some ⟨b, 0, none⟩), .slice s len cap] w fun e w' => e = .returned (.bool true) ∧ ∃ own', US B w' b own' 50 (tr L H (X50 V) (Y50 V) len).1 (tr L H (X50 V) (Y50 V) len).2 ∧ Kp own w w' ∧ ∀ q ∈ own', q ∈ own ∨ w.heap.size ≤ q := by
  have HH := hide h
  have HR := hide hr
  have HL := hide hlen
  have HB := hide hB
  have HS := hide hs
  have lt := hide h.lt
  have O0 := hide (show ∀ q ∈ own, q ∈ own ∨ w.heap.size ≤ q from fun q hq => .inl hq)
  have K0 := hide (Kp.refl own w)
  clear h hr hlen hB hs
  go_enter Try.func27, Try.ntmps27
  go_wp2_with fail
  go_loopw [5] (fun i wr => ∃ (k : Nat) (own' : List Nat), k ≤ len ∧ i = .int .i64 (k : Int) ∧ Hid (US B wr b own' 50 (tr L H (X50 V) (Y50 V) k).1 (tr L H (X50 V) (Y50 V) k).2) ∧ Hid (Kp own w wr) ∧ Hid (∀ q ∈ own', q ∈ own ∨ w.heap.size ≤ q)) (fun i _ => len - (intOf i).toNat)
  case atStart => exact ⟨0, own, Nat.zero_le _, rfl, HH, K0, O0⟩
  case round =>
    obtain ⟨k, own', hk, rfl, hU, hK, hO⟩ := hrel
    by_cases hlt : k < len
    · have dk : decide ((k : Int) < (len : Int)) = true := by simp; omega
      have dk' : decide (k < len) = true := by simp; omega
      obtain ⟨bb, off, x, y, rfl, hbb, cD, cI, hx, hy, ex, ey⟩ := rowsI_u8 HR.out hlt
      have nb := HS.out _ _ _ (by omega) rfl
      have M0 := hide (mark_u hU.out)
      have ww : IntKind.i64.wrap ((k : Int) + 1) = ((k + 1 : Nat) : Int) := by have := HL.out; rw [IntKind.wrap_i64]; omega
      obtain ⟨xq, hxq⟩ : ∃ q, q = x % 50 := ⟨_, rfl⟩
      obtain ⟨yq, hyq⟩ : ∃ q, q = y % 50 := ⟨_, rfl⟩
      have xl : xq < 50 := by omega
      have yl : yq < 50 := by omega
      have fx : (x : Int).tmod 50 = (xq : Int) := by rw [Int.tmod_eq_emod_of_nonneg (by omega)]; omega
      have fy : (y : Int).tmod 50 = (yq : Int) := by rw [Int.tmod_eq_emod_of_nonneg (by omega)]; omega
      have gx : IntKind.i64.wrap (xq : Int) = (xq : Int) := by rw [IntKind.wrap_i64]; omega
      have gy : IntKind.i64.wrap (yq : Int) = (yq : Int) := by rw [IntKind.wrap_i64]; omega
      have ux : IntKind.u8.wrap (xq : Int) = (xq : Int) := by rw [IntKind.wrap_u8]; omega
      have uy : IntKind.u8.wrap (yq : Int) = (yq : Int) := by rw [IntKind.wrap_u8]; omega
      have TE := hide (show tr L H (X50 V) (Y50 V) (k + 1) = (uL (tr L H (X50 V) (Y50 V) k).1 xq yq, uH (tr L H (X50 V) (Y50 V) k).1 (tr L H (X50 V) (Y50 V) k).2 xq yq) by rw [hxq, hyq, ex, ey]; rfl)
      have CX : Hid (∀ w', Kp own w w' → w'.cell? ⟨bb, off + k * 2, none⟩ = some (.int .u8 (x : Int)) ∧ w'.cell? ⟨bb, off + k * 2 + 1, none⟩ = some (.int .u8 (y : Int))) := by
        intro w' kk
        exact ⟨by rw [World.cell?_of_block (w := w) (kk.block bb hbb nb)]; exact cD, by rw [World.cell?_of_block (w := w) (kk.block bb hbb nb)]; exact cI⟩
      clear cD cI ex ey hxq hyq hbb nb
      generalize hl : (tr L H (X50 V) (Y50 V) k).1 = l at *
      generalize hh : (tr L H (X50 V) (Y50 V) k).2 = hs at *
      clear hl hh
      go_wp2_with fail
      refine M0.out.mono ?_
      rintro e w' ⟨rfl, rfl⟩
      go_wp2_with fail
      have KD : Kp [] wr wr.drew := Kp.drewN [] wr 1
      have KW := hide (hK.out.trans KD (by simp))
      have K0' : wr.drew.cell? ⟨bb, off + k * 2, none⟩ = some (.int .u8 (x : Int)) ∧ wr.drew.cell? ⟨bb, off + k * 2 + 1, none⟩ = some (.int .u8 (y : Int)) := CX.out wr.drew KW.out
      have UD := hU.out.keep KD (by simp)
      have U1 := hide (union_u UD xq yq xl yl (by have := KW.out.size; have := HB.out; omega))
      have hl1 : (uH l hs xq yq).length = if l xq = l yq then hs.length else hs.length + 1 := by unfold uH; split <;> simp
      have HLL := hide hl1
      have lenb := hide (show hs.length ≤ 50 by obtain ⟨_, _, _, G, _, _, _, _, u, _, _⟩ := UD; have := u.inv.len; have := u.hlen; omega)
      clear KD UD hU hK hl1 M0
      go_region_held3 (fun w' => w'.cell? ⟨bb, off + k * 2, none⟩ = some (.int .u8 (x : Int)) ∧ w'.cell? ⟨bb, off + k * 2 + 1, none⟩ = some (.int .u8 (y : Int))) (with_reducible assumption)
        (first | (go_at_call 15; (with_reducible refine U1.out.mono ?_); rintro e w2 ⟨rfl, own2, U2, k2, n2⟩; have K2' : w2.cell? ⟨bb, off + k * 2, none⟩ = some (.int .u8 (x : Int)) ∧ w2.cell? ⟨bb, off + k * 2 + 1, none⟩ = some (.int .u8 (y : Int)) := CX.out w2 (KW.out.trans k2 (fun z hz => hO.out z hz)); have UU := hide (And.intro U2 (And.intro k2 n2)); clear U2 k2 n2))
      obtain ⟨U2, k2, n2⟩ := UU.out
      have T1 : Hid (US B w2 b own2 50 (tr L H (X50 V) (Y50 V) (k + 1)).1 (tr L H (X50 V) (Y50 V) (k + 1)).2) := by rw [TE.out]; exact U2
      have T2 := hide (KW.out.trans k2 (fun z hz => hO.out z hz))
      have T3 : Hid (∀ q ∈ own2, q ∈ own ∨ w.heap.size ≤ q) := fun q hq => by
        rcases n2 q hq with h1 | h1
        · exact hO.out q h1
        · right; have := KW.out.size; omega
      have M2 := hide (mark_u U2)
      rw [HLL.out] at M2
      have wl : IntKind.i64.wrap ((hs.length : Int) + 1) = ((hs.length + 1 : Nat) : Int) := by have := lenb.out; rw [IntKind.wrap_i64]; omega
      clear U2 k2 n2 UU U1 TE K0' K2'
      by_cases he : l xq = l yq
      · have d1 : decide (l xq = l yq) = true := by simp [he]
        rw [if_pos he] at M2
        clear HLL
        generalize hs.length = m at *
        have ne : ((m : Int) == ((m + 1 : Nat) : Int)) = false := by simp; omega
        have hB1 : (!decide (l xq = l yq)) = false := by simp [he]
        rw [hB1]
        clear he d1 hB1
        obtain ⟨m1, hm1⟩ : ∃ m1, m1 = m + 1 := ⟨_, rfl⟩
        rw [← hm1] at wl ne
        go_wp2_with fail
        refine M2.out.mono ?_
        rintro e w' ⟨rfl, rfl⟩
        go_wp2_with fail
        refine M2.out.mono ?_
        rintro e w' ⟨rfl, rfl⟩
        go_wp2_with fail
        go_roundw
        case rel => exact ⟨k + 1, own2, by omega, rfl, T1, T2, T3⟩
        case measure => simp [intOf]; omega
      · rw [if_neg he] at M2
        have hB1 : (!decide (l xq = l yq)) = true := by simp [he]
        rw [hB1]
        clear HLL he hB1
        generalize hs.length = m at *
        obtain ⟨m1, hm1⟩ : ∃ m1, m1 = m + 1 := ⟨_, rfl⟩
        rw [← hm1] at wl M2
        clear hm1
        go_wp2_with fail
        refine M2.out.mono ?_
        rintro e w' ⟨rfl, rfl⟩
        go_wp2_with fail
        go_roundw
        case rel => exact ⟨k + 1, own2, by omega, rfl, T1, T2, T3⟩
        case measure => simp [intOf]; omega
    · have : k = len := by omega
      subst this
      have dk : decide ((k : Int) < (k : Int)) = false := by simp
      have dk' : decide (k < k) = false := by simp
      go_wp2_with fail
      go_ret
      exact ⟨rfl, own', hU.out, hK.out, hO.out⟩
set_option maxRecDepth 100000 in
set_option maxHeartbeats 4000000 in
theorem made_t (w : World) {s : Option Addr} {len cap : Nat} {V : Nat → Nat → Int} (hr : RowsI w s [.u8, .u8] len V) (hlen : len ≤ 100) :
    Calls Try.prog 23 #[.slice s len cap] w fun e w' => ∃ b own, e = .returned (.pointer (some ⟨b, 0, none⟩)) ∧ US w.heap.size w' b own 50 (tr (fun i => i) [] (X50 V) (Y50 V) len).1 (tr (fun i => i) [] (X50 V) (Y50 V) len).2 ∧ (∀ x ∈ own, w.heap.size ≤ x) ∧ Kp [] w w' := by
  have HR := hide hr
  have HL := hide hlen
  clear hr hlen
  go_enter Try.func23, Try.ntmps23
  go_wp2_with fail
  refine (new_u 50 (by omega) _).mono ?_
  rintro e w1 ⟨b, own, rfl, U, lo, k⟩
  have HO := hide lo
  have HK := hide k
  have A := hide (add_t U (cap := cap) (HR.out.below (k.below (B := w.heap.size) (by simp) (Nat.le_refl _)) (Nat.le_refl _)) HL.out k.size (fun bb off sp hl e hm => by
    subst e
    have h1 := lo bb hm
    rcases HR.out with h0 | ⟨b', off', e', hb', _⟩
    · omega
    · injection e' with e'; injection e' with e'; omega))
  clear U lo k
  go_wp2_with fail
  refine A.out.mono ?_
  rintro e w2 ⟨rfl, own2, U2, k2, n2⟩
  have HF := hide (And.intro U2 (And.intro (show ∀ x ∈ own2, w.heap.size ≤ x from fun x hx => by rcases n2 x hx with h | h; exact HO.out x h; exact Nat.le_trans HK.out.size h) (HK.out.trans k2 (fun z hz => .inr (HO.out z hz)))))
  clear U2 k2 n2 A
  go_wp2_with fail
  go_ret
  exact ⟨b, own2, rfl, HF.out.1, HF.out.2.1, HF.out.2.2⟩
end Go.Proofs.Ytfjmnidenoojhaa
