/- Undoing leads back to the sets ahead of a union. -/
import Derived.Test.YtfjmnidenoojhaaRd
set_option linter.unusedVariables false
set_option linter.unusedSimpArgs false
namespace Go.Proofs.Ytfjmnidenoojhaa
open Go.RowKit Go.Shelf

def zc (Z : Nat → Nat) : Nat → Int := fun i => (Z i : Int)
theorem updZ_cast (Z : Nat → Nat) (a v : Nat) : updZ (zc Z) a (v : Int) = zc (upd Z a v) := by
  funext i
  unfold updZ zc upd
  split <;> rfl
/-- the labels when m unions are in force -/
def atL (L : Nat → Nat) (H : List (Nat → Nat)) (m : Nat) : Nat → Nat := (H[m]?).getD L
theorem atL_last {L : Nat → Nat} {H : List (Nat → Nat)} {m : Nat} (h : H.length ≤ m) : atL L H m = L := by
  unfold atL; rw [List.getElem?_eq_none h]; rfl
theorem atL_take {L L0 : Nat → Nat} {H : List (Nat → Nat)} {m : Nat} (h : m < H.length) (e : H.take (m + 1) = H.take m ++ [L0]) : atL L H m = L0 := by
  unfold atL
  have : (H.take (m + 1))[m]? = some L0 := by rw [e, List.getElem?_append_right (by simp; omega)]; simp [Nat.min_eq_left (Nat.le_of_lt h)]
  rw [List.getElem?_take_of_lt (by omega)] at this
  rw [this]; rfl
theorem uPZ_back {n : Nat} {P Z R L : Nat → Nat} {G : List Nat} {H : List (Nat → Nat)} (u : UF n P Z R L G H) (hn : n ≤ 65536) (m : Nat) (hm : m ≤ G.length) :
    ∀ k, k ≤ G.length - m → ∃ P' Z' R', UF n P' Z' R' (atL L H (G.length - k)) (G.take (G.length - k)) (H.take (G.length - k)) ∧ uPZ P (zc Z) G m k = (P', zc Z') := by
  have hl := u.hlen
  intro k
  induction k with
  | zero =>
    intro _
    refine ⟨P, Z, R, ?_, rfl⟩
    rw [Nat.sub_zero, List.take_length, atL_last (by omega), ← hl, List.take_length]
    exact u
  | succ k ih =>
    intro hk
    obtain ⟨P', Z', R', u', e⟩ := ih (by omega)
    obtain ⟨q, hq⟩ : ∃ q, G.length - k = q + 1 := ⟨G.length - k - 1, by omega⟩
    have hq2 : G.length - (k + 1) = q := by omega
    have hqg : q < G.length := by omega
    rw [hq] at u'
    rw [hq2]
    have hr : uR G m k = G[q] := by
      unfold uR
      rw [show m + (G.length - m - 1 - k) = q by omega, List.getElem?_eq_getElem hqg]; rfl
    have hg : G.take (q + 1) = G.take q ++ [G[q]] := List.take_succ_eq_append_getElem hqg
    rw [hg] at u'
    obtain ⟨P0, Z0, R0, L0, H0, a, u0, ha, hb, pa, hne, hz, z0, p0, hh⟩ := u'.back
    have zi := u'.inv.zn a ha
    have hH : H0 = H.take q ∧ atL L H q = L0 := by
      have hqh : q < H.length := by omega
      have e1 : H.take (q + 1) = H.take q ++ [H[q]] := List.take_succ_eq_append_getElem hqh
      rw [e1] at hh
      have := List.append_inj' hh rfl
      simp at this
      refine ⟨this.1.symm, ?_⟩
      unfold atL
      rw [List.getElem?_eq_getElem hqh]
      exact this.2
    refine ⟨P0, Z0, R0, ?_, ?_⟩
    · rw [hH.2, ← hH.1]; exact u0
    · show (upd (uPZ P (zc Z) G m k).1 (uR G m k) (uR G m k), updZ (uPZ P (zc Z) G m k).2 ((uPZ P (zc Z) G m k).1 (uR G m k)) (wrap64 ((uPZ P (zc Z) G m k).2 ((uPZ P (zc Z) G m k).1 (uR G m k)) - (uPZ P (zc Z) G m k).2 (uR G m k)))) = (P0, zc Z0)
      rw [e, hr]
      simp only
      rw [pa, p0, z0, ← updZ_cast]
      have hw : wrap64 (zc Z' a - zc Z' G[q]) = ((Z' a - Z' G[q] : Nat) : Int) := by
        unfold zc wrap64
        omega
      rw [hw]
theorem RM.of_UM {B : Nat} {w : World} {b n gP gS cP cS : Nat} {P Z : Nat → Nat} {G : List Nat} {vG : Value} (M : UM B w b (.slice (some ⟨gP, 0, none⟩) n cP) (.slice (some ⟨gS, 0, none⟩) n cS) vG n P Z G) (pl : ∀ i, i < n → P i < n) :
    RM B w b gP gS cP cS vG n P (zc Z) G := ⟨M.blk, M.P, M.S, M.G, pl⟩
theorem RM.to_UM {B : Nat} {w : World} {b n gP gS cP cS : Nat} {P Z : Nat → Nat} {G : List Nat} {vG : Value} (M : RM B w b gP gS cP cS vG n P (zc Z) G) (ge : B ≤ b) (ap : Apart b (some gP) (some gS) vG.ownBlock) :
    UM B w b (.slice (some ⟨gP, 0, none⟩) n cP) (.slice (some ⟨gS, 0, none⟩) n cS) vG n P Z G := ⟨M.blk, M.rP, M.rS, M.rG, ge, ap⟩
theorem row_some {w : World} {B e size n : Nat} {v : Value} {xs : List Value} (h : w.ownsRow B e size v n xs) (hn : 1 ≤ n) : ∃ g c, v = .slice (some ⟨g, 0, none⟩) n c := by
  rcases h.2 with ⟨_, h0⟩ | ⟨g, c, cur, rfl, _⟩
  · omega
  · exact ⟨g, c, rfl⟩
end Go.Proofs.Ytfjmnidenoojhaa
