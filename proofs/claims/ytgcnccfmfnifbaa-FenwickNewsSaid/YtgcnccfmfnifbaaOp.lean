/- Slices whose elements are numbers, arrays of numbers or structs of numbers, as a law's arguments: what their cells hold. Free of any one program. -/
import Derived.ProofKit
import Derived.OpenShut
import Derived.ChangeOld
import Derived.Deep.Slices
import Derived.Lib.SmallJoins
set_option linter.unusedVariables false
set_option linter.unusedSimpArgs false
namespace Go.Proofs.Ytgcnccfmfnifbaa
open Go.ChangeShapes Go.WideShapes Go.ChangeAt Go.RowKit

/-- all cells of a type's values are numbers of these kinds -/
def FlatI (P : Program) (e : TypeId) (ks : List IntKind) : Prop :=
  P.cellsOf e = ks.length ∧ ∀ {H : Type} (enc : TypeId × Value → H) (w : World) (base : Nat) (sp : Nat → Bool) (held : Bool) (fuel : Nat) (cs : List Value) (x : DataW H × List MemPlace), DataW.trod enc P w base sp held fuel e cs = some x →
    cs.length = ks.length ∧ ∀ (j : Nat) (k : IntKind), ks[j]? = some k → ∃ z : Int, cs[j]? = some (Value.int k z) ∧ (Lit.int k z).wf = true

theorem one_cell {cs : List Value} {j : Nat} {v : Value} (h : (cs.drop j).take 1 = [v]) : cs[j]? = some v := by
  have := congrArg (·[0]?) h
  simpa [List.getElem?_take, List.getElem?_drop] using this

theorem flat_int {P : Program} {e : TypeId} {k : IntKind} (ht : P.underlying e = some (.int k)) (hc : P.cellsOf e = 1) : FlatI P e [k] := by
  refine ⟨hc, fun enc w base sp held fuel cs x h => ?_⟩
  obtain ⟨z, rfl, _, hw⟩ := DataW.trod_int ht h
  refine ⟨rfl, fun j k' hk => ?_⟩
  match j, hk with
  | 0, hk => simp at hk; subst hk; exact ⟨z, rfl, hw⟩

/-- the check of a struct's fields -/
def flatB (P : Program) (fs : Array Field) (ks : List IntKind) : Bool :=
  fs.size == ks.length && (List.range ks.length).all fun j => match fs[j]?, ks[j]? with
    | some f, some k => f.offset == j && P.cellsOf f.type == 1 && (match P.underlying f.type with | some (.int k') => decide (k' = k) | _ => false)
    | _, _ => false
theorem flatB_at {P : Program} {fs : Array Field} {ks : List IntKind} (h : flatB P fs ks = true) {j : Nat} {k : IntKind} (hj : ks[j]? = some k) : ∃ f, fs[j]? = some f ∧ f.offset = j ∧ P.cellsOf f.type = 1 ∧ P.underlying f.type = some (.int k) := by
  unfold flatB at h
  rw [Bool.and_eq_true, List.all_eq_true] at h
  have hlt : j < ks.length := (List.getElem?_eq_some_iff.1 hj).1
  have := h.2 j (List.mem_range.2 hlt)
  rw [hj] at this
  cases hf : fs[j]? with
  | none => rw [hf] at this; simp at this
  | some f =>
    rw [hf] at this
    simp only [Bool.and_eq_true, beq_iff_eq] at this
    obtain ⟨⟨h1, h2⟩, h3⟩ := this
    refine ⟨f, rfl, h1, h2, ?_⟩
    split at h3
    · rename_i k' hu
      have := of_decide_eq_true h3
      subst this
      exact hu
    · cases h3
theorem flat_struct {P : Program} {e : TypeId} {fs : Array Field} {ks : List IntKind} (ht : P.underlying e = some (.struct fs)) (hc : P.cellsOf e = ks.length) (hf : flatB P fs ks = true) : FlatI P e ks := by
  refine ⟨hc, fun enc w base sp held fuel cs x h => ?_⟩
  obtain ⟨xs, n, _, rfl, hl, hlen, hfs⟩ := DataW.trod_struct ht h
  refine ⟨by rw [hl, hc], fun j k hk => ?_⟩
  obtain ⟨f, h1, h2, h3, h4⟩ := flatB_at hf hk
  have h5 := hfs j f h1
  have hj : j < xs.length := by rw [hlen]; exact (Array.getElem?_eq_some_iff.1 h1).1
  rw [List.getElem?_eq_getElem hj, h2, h3] at h5
  obtain ⟨z, hz, _, hw⟩ := DataW.trod_int h4 h5
  exact ⟨z, one_cell hz, hw⟩
theorem flat_array {P : Program} {e q : TypeId} {n : Nat} {k : IntKind} (ht : P.underlying e = some (.array n q)) (hq : P.underlying q = some (.int k)) (hcq : P.cellsOf q = 1) (hc : P.cellsOf e = n) : FlatI P e (List.replicate n k) := by
  refine ⟨by simp [hc], fun enc w base sp held fuel cs x h => ?_⟩
  obtain ⟨xs, m, _, rfl, hl, hlen, hfs⟩ := DataW.trod_array ht h
  refine ⟨by simp [hl, hc], fun j k' hk => ?_⟩
  rw [List.getElem?_replicate] at hk
  split at hk
  · rename_i hj
    cases hk
    have h5 := hfs j hj
    rw [List.getElem?_eq_getElem (by omega), hcq, Nat.mul_one] at h5
    obtain ⟨z, hz, _, hw⟩ := DataW.trod_int hq h5
    exact ⟨z, one_cell hz, hw⟩
  · cases hk

/-- a slice of such elements in memory: the number in cell j of element i is V i j -/
def RowsI (w : World) (a : Option Addr) (ks : List IntKind) (n : Nat) (V : Nat → Nat → Int) : Prop :=
  n = 0 ∨ ∃ b off, a = some ⟨b, off, none⟩ ∧ b < w.heap.size ∧ ∀ i : Nat, i < n → ∀ (j : Nat) (k : IntKind), ks[j]? = some k → w.cell? ⟨b, off + i * ks.length + j, none⟩ = some (.int k (V i j)) ∧ (Lit.int k (V i j)).wf = true
theorem RowsI.below {w w' : World} {a : Option Addr} {ks : List IntKind} {n : Nat} {V : Nat → Nat → Int} (h : RowsI w a ks n V) {B : Nat} (hb : Below B w w') (hB : w.heap.size ≤ B) : RowsI w' a ks n V := by
  rcases h with h | ⟨b, off, rfl, hlt, hc⟩
  · exact .inl h
  · exact .inr ⟨b, off, rfl, by have := hb.size; omega, fun i hi j k hj => ⟨by rw [hb.cell (show b < B by omega)]; exact (hc i hi j k hj).1, (hc i hi j k hj).2⟩⟩

theorem rows_in {H : Type} {enc : TypeId × Value → H} {P : Program} {W : World} {t e : TypeId} {ks : List IntKind} {s : Option Addr} {len cap : Nat} {d : DataW H} {p : List MemPlace}
    (ht : P.underlying t = some (.slice e)) (hf : FlatI P e ks) (h0 : 0 < ks.length)
    (h : DataW.Trod enc P W 0 (fun _ => true) true t (.slice s len cap) d p) : ∃ V : Nat → Nat → Int, (len ≤ cap ∧ cap ≤ maxLen) ∧ RowsI W s ks len V := by
  have k := h
  have lt : ∀ x ∈ p, x.block < W.heap.size := by obtain ⟨m, hm⟩ := k; exact DataW.trod_lt m _ _ _ hm
  obtain ⟨fuel, hfu⟩ := h
  rcases Go.Deep.open_slice ht hfu with ⟨hcs, _⟩ | ⟨a, l, c, m, n, D, Pl, hcs, _, hl, hm, hmm, hx, hel⟩
  · simp [Value.cells] at hcs
    obtain ⟨rfl, rfl, rfl⟩ := hcs
    exact ⟨fun _ _ => 0, ⟨Nat.le_refl _, Nat.zero_le _⟩, .inl rfl⟩
  · simp [Value.cells] at hcs
    obtain ⟨rfl, rfl, rfl⟩ := hcs
    have hmc : m = cap := by simpa using hmm
    subst hmc
    have each : ∀ i, i < len → ∃ f : Nat → Int, ∀ (j : Nat) (k : IntKind), ks[j]? = some k → W.cell? (a.add (i * ks.length + j)) = some (.int k (f j)) ∧ (Lit.int k (f j)).wf = true := by
      intro i hi
      obtain ⟨cs', h1, h2⟩ := hel i (by omega)
      obtain ⟨hcl, hcells⟩ := hf.2 enc W 0 _ _ n cs' _ h2
      obtain ⟨_, hlen, hcell⟩ := World.cells?_some h1
      rw [hf.1] at hcell
      obtain ⟨f, hfz⟩ := Go.Deep.choose_lt (n := ks.length) (p := fun j z => ∀ k, ks[j]? = some k → W.cell? (a.add (i * ks.length + j)) = some (.int k z) ∧ (Lit.int k z).wf = true) (fun j hj => by
        obtain ⟨z, hz, hw⟩ := hcells j ks[j] (List.getElem?_eq_getElem hj)
        refine ⟨z, fun k hk => ?_⟩
        rw [List.getElem?_eq_getElem hj] at hk
        cases hk
        have := hcell j hj
        rw [Go.Deep.add_add, hz] at this
        exact ⟨this, hw⟩)
      exact ⟨f, fun j k hk => hfz j (List.getElem?_eq_some_iff.1 hk).1 k hk⟩
    obtain ⟨V, hV⟩ := Go.Deep.choose_lt each
    refine ⟨V, ⟨hl, hm⟩, ?_⟩
    by_cases hz : len = 0
    · exact .inl hz
    right
    obtain ⟨b, off, spot⟩ := a
    have hk0 : ks[0]? = some ks[0] := List.getElem?_eq_getElem h0
    have hc0 := (hV 0 (by omega) 0 _ hk0).1
    have hspot : spot = none := by simpa [Addr.add] using World.cell?_spot hc0
    subst hspot
    refine ⟨b, off, rfl, ?_, fun i hi j k hj => ?_⟩
    · have := lt (.cell b off) (by
        have hp := congrArg Prod.snd hx
        simp only at hp
        rw [hp, MemPlace.row]
        refine List.mem_append_left _ (List.mem_map.2 ⟨0, ?_, by simp [Addr.add]⟩)
        rw [List.mem_range, hf.1]
        exact Nat.mul_pos (by omega) h0)
      exact this
    · have := hV i hi j k hj
      rw [add_plain, ← Nat.add_assoc] at this
      exact this
/-- the values of a flat struct or array -/
def aggOf : List IntKind → (Nat → Int) → List Value
  | [], _ => []
  | k :: r, Z => .int k (Z 0) :: aggOf r (fun j => Z (j + 1))
theorem aggOf_len (ks : List IntKind) : ∀ Z, (aggOf ks Z).length = ks.length := by
  induction ks with
  | nil => intro Z; rfl
  | cons k r ih => intro Z; simp [aggOf, ih]
theorem aggOf_get (ks : List IntKind) : ∀ (Z : Nat → Int) (j : Nat) (k : IntKind), ks[j]? = some k → (aggOf ks Z)[j]? = some (.int k (Z j)) := by
  induction ks with
  | nil => intro Z j k h; simp at h
  | cons k0 r ih =>
    intro Z j k h
    cases j with
    | zero => simp at h; subst h; rfl
    | succ j => simpa [aggOf] using ih (fun j => Z (j + 1)) j k (by simpa using h)
theorem okWide_arr {P : Program} {w : World} {r : Reach} {b0 n : Nat} {t e : TypeId} {v : Value} (ht : P.underlying t = some (.array n e)) (h : Value.okWide P w r b0 t v) : ∃ cs, v = .agg cs ∧ cs.size = P.cellsOf t := by
  simp only [Value.okWide, ht] at h
  obtain ⟨cs, h1, h2, _⟩ := h
  exact ⟨cs, h1, h2⟩
theorem agg_in {H : Type} {enc : TypeId × Value → H} {P : Program} {w : World} {t : TypeId} {ks : List IntKind} {v : Value} {d : DataW H} {p : List MemPlace} {base : Nat} {sp : Nat → Bool} {held : Bool}
    (hf : FlatI P t ks) (hv : ∃ cs, v = .agg cs ∧ cs.size = P.cellsOf t) (h : DataW.Trod enc P w base sp held t v d p) :
    ∃ Z : Nat → Int, v = .agg (aggOf ks Z).toArray ∧ ∀ (j : Nat) (k : IntKind), ks[j]? = some k → (Lit.int k (Z j)).wf = true := by
  obtain ⟨cs, rfl, hsz⟩ := hv
  obtain ⟨fuel, hfu⟩ := h
  obtain ⟨hl, hc⟩ := hf.2 enc w base sp held fuel _ _ hfu
  obtain ⟨Z, hZ⟩ := Go.Deep.choose_lt (n := ks.length) (p := fun j z => ∀ k, ks[j]? = some k → (Value.cells (.agg cs)).toList[j]? = some (Value.int k z) ∧ (Lit.int k z).wf = true) (fun j hj => by
    obtain ⟨z, hz, hw⟩ := hc j ks[j] (List.getElem?_eq_getElem hj)
    refine ⟨z, fun k hk => ?_⟩
    rw [List.getElem?_eq_getElem hj] at hk
    cases hk
    exact ⟨hz, hw⟩)
  refine ⟨Z, ?_, fun j k hk => (hZ j (List.getElem?_eq_some_iff.1 hk).1 k hk).2⟩
  have e : (Value.cells (.agg cs)).toList = aggOf ks Z := by
    apply List.ext_getElem?
    intro j
    by_cases hj : j < ks.length
    · rw [(hZ j hj ks[j] (List.getElem?_eq_getElem hj)).1, aggOf_get ks Z j ks[j] (List.getElem?_eq_getElem hj)]
    · rw [List.getElem?_eq_none (by omega), List.getElem?_eq_none (by rw [aggOf_len]; omega)]
  have e2 : cs.toList = aggOf ks Z := by simpa [Value.cells] using e
  rw [← e2]
end Go.Proofs.Ytgcnccfmfnifbaa
