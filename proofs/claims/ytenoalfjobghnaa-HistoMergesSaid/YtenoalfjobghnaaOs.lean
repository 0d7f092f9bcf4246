/- A struct of slices, as a law's argument. Free of any one program. -/
import Derived.Test.YtenoalfjobghnaaOp
set_option linter.unusedVariables false
set_option linter.unusedSimpArgs false
namespace Go.Proofs.Ytenoalfjobghnaa
open Go.ChangeShapes Go.WideShapes Go.ChangeAt Go.RowKit

theorem slice_in {H : Type} {enc : TypeId × Value → H} {P : Program} {W : World} {t e : TypeId} {ks : List IntKind} {fuel : Nat} {cs : List Value} {x : DataW H × List MemPlace}
    (ht : P.underlying t = some (.slice e)) (hf : FlatI P e ks) (h0 : 0 < ks.length)
    (h : DataW.trod enc P W 0 (fun _ => true) true fuel t cs = some x) : ∃ (s : Option Addr) (len cap : Nat) (V : Nat → Nat → Int), cs = [.slice s len cap] ∧ (len ≤ cap ∧ cap ≤ maxLen) ∧ RowsI W s ks len V := by
  obtain ⟨d, p⟩ := x
  rcases Go.Deep.open_slice ht h with ⟨rfl, _⟩ | ⟨a, l, c, m, n, D, Pl, rfl, _, _, _, _, _, _⟩
  · obtain ⟨V, h1, h2⟩ := rows_in (W := W) (s := none) (len := 0) (cap := 0) ht hf h0 (show DataW.Trod enc P W 0 (fun _ => true) true t (.slice none 0 0) d p from ⟨fuel, by simpa [Value.cells] using h⟩)
    exact ⟨_, _, _, V, rfl, h1, h2⟩
  · obtain ⟨V, h1, h2⟩ := rows_in (W := W) (s := some a) (len := l) (cap := c) ht hf h0 (show DataW.Trod enc P W 0 (fun _ => true) true t (.slice (some a) l c) d p from ⟨fuel, by simpa [Value.cells] using h⟩)
    exact ⟨_, _, _, V, rfl, h1, h2⟩
/-- the fields of a struct whose fields are one cell each -/
theorem fields_in {H : Type} {enc : TypeId × Value → H} {P : Program} {w : World} {t : TypeId} {fs : Array Field} {base : Nat} {sp : Nat → Bool} {held : Bool} {cs : Array Value} {d : DataW H} {p : List MemPlace}
    (ht : P.underlying t = some (.struct fs)) (h : DataW.Trod enc P w base sp held t (.agg cs) d p) {j : Nat} {f : Field} (hj : fs[j]? = some f) (ho : f.offset = j) (hc : P.cellsOf f.type = 1) (hs : j < cs.size) :
    ∃ (v : Value) (fuel : Nat) (y : DataW H × List MemPlace), cs[j]? = some v ∧ DataW.trod enc P w base sp held fuel f.type [v] = some y := by
  obtain ⟨fuel, hfu⟩ := h
  obtain ⟨xs, n, _, _, hl, hlen, hfs⟩ := DataW.trod_struct ht hfu
  have h5 := hfs j f hj
  have hlt : j < fs.size := (Array.getElem?_eq_some_iff.1 hj).1
  rw [ho, hc, List.getElem?_eq_getElem (show j < xs.length by omega)] at h5
  have e : ((Value.cells (.agg cs)).toList.drop j).take 1 = [cs[j]] := by
    have : (Value.cells (.agg cs)) = cs := rfl
    rw [this]
    apply List.ext_getElem?
    intro i
    cases i with
    | zero => simp [hs]
    | succ i => simp [List.getElem?_take]
  rw [e] at h5
  exact ⟨cs[j], n, _, Array.getElem?_eq_getElem hs, h5⟩
theorem arr4 {cs : Array Value} {a b c d : Value} (hs : cs.size = 4) (h0 : cs[0]? = some a) (h1 : cs[1]? = some b) (h2 : cs[2]? = some c) (h3 : cs[3]? = some d) : cs = #[a, b, c, d] := by
  apply Array.ext_getElem?
  intro i
  rcases (show i = 0 ∨ i = 1 ∨ i = 2 ∨ i = 3 ∨ 4 ≤ i by omega) with rfl | rfl | rfl | rfl | h
  · rw [h0]; rfl
  · rw [h1]; rfl
  · rw [h2]; rfl
  · rw [h3]; rfl
  · rw [Array.getElem?_eq_none (by omega), Array.getElem?_eq_none (by simpa using h)]
end Go.Proofs.Ytenoalfjobghnaa
