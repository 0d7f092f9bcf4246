/- Both sides answer alike. -/
import Derived.Test.YtgcnccfmfnifbaaFV
set_option linter.unusedVariables false
set_option linter.unusedSimpArgs false
namespace Go.Proofs.Ytgcnccfmfnifbaa
open Go.RowKit

theorem find_det {C : Nat → Int} (h : ∀ i, 0 ≤ C i) (n : Nat) (x : Int) : ∃ (i : Int) (b : Bool), ∀ e, FindA C n x e → e = .returned (.tuple #[.int .i64 i, .bool b]) := by
  by_cases g : ∃ e, FindA C n x e
  · obtain ⟨e0, f0⟩ := g
    rcases f0 with ⟨a1, a2, i, hi, a3, a4, _⟩ | ⟨hn, _⟩
    · exact ⟨i, true, fun e f => find_yes f h hi a3 a4⟩
    · exact ⟨0, false, fun e f => find_no f hn⟩
  · exact ⟨0, false, fun e f => (g ⟨e, f⟩).elim⟩
/-- both sides, by the counters -/
theorem both {B B' : Nat} {w : World} {b b' n : Nat} {own : List Nat} {v : Value} {C : Nat → Int} (h : FAt B w b n own C) (r : RA B' w b' n v C) : ∃ fi fo g pr rg t l,
    Ans 20 21 22 23 24 25 w (some ⟨b, 0, none⟩) fi fo g pr rg t l ∧ Ans 27 28 29 30 31 32 w (some ⟨b', 0, none⟩) fi fo g pr rg t l := by
  have D : ∃ (fi : Int → Int) (fo : Int → Bool), ∀ x e, FindA C n x e → e = .returned (.tuple #[.int .i64 (fi x), .bool (fo x)]) := by
    refine ⟨fun x => (find_det h.nn n x).choose, fun x => (find_det h.nn n x).choose_spec.choose, fun x => (find_det h.nn n x).choose_spec.choose_spec⟩
  obtain ⟨fi, fo, hf⟩ := D
  refine ⟨fi, fo, getV C n, fun k => sumS C (clipN k n), rngV C n, sumS C n, n, ⟨?_, ?_, ?_, ?_, ?_, ?_⟩, ⟨?_, ?_, ?_, ?_, ?_, ?_⟩⟩
  · exact fun W k x _ => (find_t (h.keep0 k) x).mono fun e w' q => ⟨hf x e q.1, q.2⟩
  · exact fun W k x => get_t (h.keep0 k) x
  · exact fun W k x => prefix_t (h.keep0 k) x
  · exact fun W k x y => range_t (h.keep0 k) x y
  · exact fun W k => (total_t (h.keep0 k)).mono fun e w' q => ⟨q.1, q.2 ▸ Kp.refl _ _⟩
  · exact fun W k => (len_t (h.keep0 k)).mono fun e w' q => ⟨q.1, q.2 ▸ Kp.refl _ _⟩
  · exact fun W k x hx => (rfind_t (r.keep0 k) x hx).mono fun e w' q => ⟨hf x e q.1, q.2 ▸ Kp.refl _ _⟩
  · exact fun W k x => (rget_t (r.keep0 k) x).mono fun e w' q => ⟨q.1, q.2 ▸ Kp.refl _ _⟩
  · exact fun W k x => (rprefix_t (r.keep0 k) x).mono fun e w' q => ⟨q.1, q.2 ▸ Kp.refl _ _⟩
  · exact fun W k x y => (rrange_t (r.keep0 k) x y).mono fun e w' q => ⟨q.1, q.2 ▸ Kp.refl _ _⟩
  · exact fun W k => (rtotal_t (r.keep0 k)).mono fun e w' q => ⟨q.1, q.2 ▸ Kp.refl _ _⟩
  · exact fun W k => (rlen_t (r.keep0 k)).mono fun e w' q => ⟨q.1, q.2 ▸ Kp.refl _ _⟩
/-- both sides of what is nil -/
theorem none_both (w : World) : Ans 20 21 22 23 24 25 w none (fun _ => 0) (fun _ => false) (fun _ => 0) (fun _ => 0) (fun _ _ => 0) 0 0 ∧ Ans 27 28 29 30 31 32 w none (fun _ => 0) (fun _ => false) (fun _ => 0) (fun _ => 0) (fun _ _ => 0) 0 0 := by
  refine ⟨⟨?_, ?_, ?_, ?_, ?_, ?_⟩, ⟨?_, ?_, ?_, ?_, ?_, ?_⟩⟩
  · exact fun W k x _ => find_f none W (.inl rfl) x
  · exact fun W k x => (get_f none W (.inl rfl) x).mono fun e w' q => ⟨q.1, q.2 ▸ Kp.refl _ _⟩
  · exact fun W k x => prefix_f none W (.inl rfl) x
  · exact fun W k x y => range_f none W (.inl rfl) x y
  · exact fun W k => (total_f none W (.inl rfl)).mono fun e w' q => ⟨q.1, q.2 ▸ Kp.refl _ _⟩
  · exact fun W k => (len_f none W (.inl rfl)).mono fun e w' q => ⟨q.1, q.2 ▸ Kp.refl _ _⟩
  · exact fun W k x _ => (rfind_n W x).mono fun e w' q => ⟨q.1, q.2 ▸ Kp.refl _ _⟩
  · exact fun W k x => (rget_n W x).mono fun e w' q => ⟨q.1, q.2 ▸ Kp.refl _ _⟩
  · exact fun W k x => (rprefix_n W x).mono fun e w' q => ⟨q.1, q.2 ▸ Kp.refl _ _⟩
  · exact fun W k x y => (rrange_n W x y).mono fun e w' q => ⟨q.1, q.2 ▸ Kp.refl _ _⟩
  · exact fun W k => (rtotal_n W).mono fun e w' q => ⟨q.1, q.2 ▸ Kp.refl _ _⟩
  · exact fun W k => (rlen_n W).mono fun e w' q => ⟨q.1, q.2 ▸ Kp.refl _ _⟩
end Go.Proofs.Ytgcnccfmfnifbaa
