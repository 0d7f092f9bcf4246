import Derived.Test.YtomgdleoegaooaaK
import Derived.ProofKit
import Derived.OpenShut
import Derived.ChangeOld
import Derived.Lib.SmallJoins
set_option linter.unusedVariables false
set_option linter.unusedSimpArgs false
namespace Go.Proofs.Ytomgdleoegaooaa
open Go.ChangeShapes Go.WideShapes Go.ChangeAt Go.RowKit

theorem wf_I64 {n : Int} (h : (Lit.int .i64 n).wf = true) : I64 n := by
  have := bounds_i64 h; unfold I64; omega

theorem ints_in {H : Type} {enc : TypeId × Value → H} {P : Program} {W : World} {t e : TypeId} {s : Option Addr} {len cap : Nat} {d : DataW H} {p : List MemPlace}
    (ht : P.underlying t = some (.slice e)) (he : P.underlying e = some (.int .i64)) (hc : P.cellsOf e = 1)
    (h : DataW.Trod enc P W 0 (fun _ => true) true t (.slice s len cap) d p) : ∃ zs : List Int, len = zs.length ∧ (zs.length ≤ cap ∧ cap ≤ maxLen) ∧ Ints W s zs ∧ allI zs := by
  have k := h
  have lt : ∀ x ∈ p, x.block < W.heap.size := by obtain ⟨m, hm⟩ := k; exact DataW.trod_lt m _ _ _ hm
  obtain ⟨fuel, hf⟩ := h
  rcases open_ints ht he hc hf with ⟨hcs, _⟩ | ⟨x, l, c, zs, hcs, _, hl, hm, hz, hx, hcell, hwz⟩
  · simp [Value.cells] at hcs
    obtain ⟨rfl, rfl, rfl⟩ := hcs
    exact ⟨[], rfl, ⟨Nat.le_refl _, Nat.zero_le _⟩, .inl rfl, fun x hx => by cases hx⟩
  · simp [Value.cells] at hcs
    obtain ⟨rfl, rfl, rfl⟩ := hcs
    have hz2 : zs.length = cap := by simpa using hz
    have hlen : (zs.take len).length = len := by simp; omega
    refine ⟨zs.take len, hlen.symm, ⟨by omega, hm⟩, ?_, fun y hy => wf_I64 (hwz y (List.mem_of_mem_take hy))⟩
    by_cases h0 : len = 0
    · left; simp [h0]
    right
    obtain ⟨b, off, spot⟩ := x
    have hc0 := hcell 0 (by omega)
    have hspot : spot = none := by simpa [Addr.add] using World.cell?_spot hc0
    subst hspot
    refine ⟨b, off, rfl, ?_, fun i hi => ?_⟩
    · have := lt (.cell b off) (by
        have hp := congrArg Prod.snd hx
        simp only at hp
        rw [hp, MemPlace.row, List.mem_map]
        exact ⟨0, by simp; omega, by simp [Addr.add]⟩)
      exact this
    · rw [hlen] at hi
      have := hcell i (by omega)
      have ea : (Addr.add ⟨b, off, none⟩ i) = ⟨b, off + i, none⟩ := by unfold Addr.add; split <;> simp_all
      rw [ea] at this
      rw [this]
      simp [List.getD, List.getElem?_take, hi]

/-- a block of two cells -/
def At (B : Nat) (x y : Value) (w : World) : Prop := w.cell? ⟨B, 0, none⟩ = some x ∧ w.cell? ⟨B, 1, none⟩ = some y ∧ B < w.heap.size
theorem At.new (w : World) (x y : Value) (t : TypeId) : At w.heap.size x y (w.alloc (.cells #[x, y] t)) := ⟨by simp [go_sem], by simp [go_sem], by simp⟩
theorem At.alloc {B : Nat} {x y : Value} {w : World} (h : At B x y w) (c : Array Value) (t : TypeId) : At B x y (w.alloc (.cells c t)) := by
  obtain ⟨h0, h1, h2⟩ := h
  have k := (bcell ((Below.refl w.heap.size w).alloc (Nat.le_refl _) (.cells c t))).1
  exact ⟨by rw [k _ _ h2, h0], by rw [k _ _ h2, h1], by simp; omega⟩
theorem At.step {B : Nat} {x y : Value} {w w' : World} (h : At B x y w) (b : Below w.heap.size w w') : At B x y w' := by
  obtain ⟨h0, h1, h2⟩ := h
  exact ⟨by rw [(bcell b).1 _ _ h2, h0], by rw [(bcell b).1 _ _ h2, h1], by have := b.size; omega⟩
end Go.Proofs.Ytomgdleoegaooaa
