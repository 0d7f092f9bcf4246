/- Appending whole slices of numbers to a slice of the call's own: one law for a source that is nil and one that is not. -/
import Derived.Test.YtomgdleoegaooaaFr
import Derived.OwnWalk
import Derived.Laws.AppendOwnNone
import Derived.Laws.OwnMore
set_option linter.unusedVariables false
set_option linter.unusedSimpArgs false
namespace Go.Proofs.Ytomgdleoegaooaa
open Go.RowKit

theorem info2 : (Try.prog.info? 2).map (fun i => (i.zero, i.size, i.bytes)) = some (some (.int .i64 0), 1, 8) := by kernel_rfl

/-- where a slice's elements lie, for an append's source -/
def Src (w : World) (a : Option Addr) (zs : List Int) (cap : Nat) : Prop :=
  (a = none ∧ zs = [] ∧ cap = 0) ∨ ∃ ad, a = some ad ∧ (0 < zs.length → ad.block < w.heap.size) ∧ ∀ j u, (zs.map (Value.int .i64))[j]? = some u → w.cell? (ad.add j) = some u

theorem Src.below {w w' : World} {a : Option Addr} {zs : List Int} {cap : Nat} (h : Src w a zs cap) (b : Below w.heap.size w w') : Src w' a zs cap := by
  rcases h with h | ⟨ad, rfl, hlt, hc⟩
  · exact .inl h
  · refine .inr ⟨ad, rfl, fun h => by have := hlt h; have := b.size; omega, fun j u hj => ?_⟩
    have hz : 0 < zs.length := by
      rcases zs with _ | ⟨x, r⟩
      · simp at hj
      · simp
    have e : (ad.add j).block = ad.block := by unfold Addr.add; split <;> rfl
    rw [b.cell (by rw [e]; exact hlt hz)]
    exact hc j u hj

theorem append_src {w : World} {ops : Array Oper} {rest : List Oper} {o : Oper} {a : Act} {Q : Exit → Act → World → Prop} (hgd : o.guard = none) (s x : Operand)
    (ho : o.op = .call { callee := .builtin .append, args := #[s, x], argTypes := #[27, 27] })
    (base : Nat) (v : Value) (n : Nat) (xs : List Value) (hs : a.eval s = v) (hown : w.ownsRow base 2 1 v n xs)
    (ad : Option Addr) (zs : List Int) (c : Nat) (hx : a.eval x = .slice ad zs.length c) (hsrc : Src w ad zs c)
    (hb : n + zs.length ≤ 1099511627776) (hbase : base ≤ w.heap.size)
    (h : ∀ v' w', w'.ownsRow base 2 1 v' (n + zs.length) (xs ++ zs.map (Value.int .i64)) → w.grownBy w' v.ownBlock → wpList Try.prog ops Q rest (a.put o.dst v') w') : wpList Try.prog ops Q (o :: rest) a w := by
  obtain ⟨i0, hi, hz0, hz1, hz2⟩ := info_parts info2
  rcases hsrc with ⟨rfl, rfl, rfl⟩ | ⟨p, rfl, hlt, hc⟩
  · refine wpList_append_own_none hgd s x 27 ho base 2 i0 1 Try.underlying27 hi v n xs hs hown (by simpa using hx) ?_
    have := h v w (by simpa using hown) ⟨rfl, rfl, rfl, Nat.le_refl _, fun _ _ _ => rfl⟩
    exact this
  · refine wpList_append_own w hgd s x 27 ho base 2 i0 (.int .i64 0) 1 8 Try.underlying27 hi hz0 hz1 hz2 rfl (by decide) v n xs hs hown p zs.length c (zs.map (Value.int .i64)) hx (by simp) hc (fun u hu => ?_) (by unfold maxLen; omega) (by omega) hbase fun v' w' h1 h2 _ => h v' w' h1 h2
    obtain ⟨y, _, rfl⟩ := List.mem_map.1 hu
    rfl

/-- what is owned can be read -/
theorem owned_ints {w : World} {base : Nat} {v : Value} {zs : List Int} (h : w.ownsRow base 2 1 v zs.length (zs.map (Value.int .i64))) :
    ∃ a c, v = .slice a zs.length c ∧ Ints w a zs ∧ (∀ k, v.ownBlock = some k → base ≤ k ∧ k < w.heap.size) := by
  have hlt := h.lt
  obtain ⟨_, h0 | ⟨g, cap, cur, rfl, hg, hh, hn, hm, hsz, ht⟩⟩ := h
  · obtain ⟨rfl, hz⟩ := h0
    have hz2 : zs = [] := List.eq_nil_of_length_eq_zero hz
    subst hz2
    exact ⟨none, 0, rfl, .inl rfl, hlt⟩
  · refine ⟨_, cap, rfl, .inr ⟨g, 0, rfl, (hlt g rfl).2, fun i hi => ?_⟩, hlt⟩
    have hcells := World.ownsRow.cells (w := w) (base := base) (e := 2) (size := 1) (v := .slice (some ⟨g, 0, none⟩) zs.length cap) (n := zs.length) (xs := zs.map (Value.int .i64)) ⟨by simp, .inr ⟨g, cap, cur, rfl, hg, hh, hn, hm, hsz, ht⟩⟩ (g := g) rfl i (.int .i64 (zs.getD i 0)) (by simp [List.getD, hi])
    have e : (⟨g, 0, none⟩ : Addr).add i = ⟨g, 0 + i, none⟩ := by unfold Addr.add; split <;> simp_all
    rw [e] at hcells
    exact hcells

/-- the value and the error of a result that may not fit -/
noncomputable def gv (n : Int) : Int := @ite _ (I64 n) (Classical.propDecidable _) n 0
noncomputable def ge (n : Int) : Int := @ite _ (I64 n) (Classical.propDecidable _) 0 7
theorem gv_ok {n : Int} (h : I64 n) : gv n = n := if_pos h
theorem ge_ok {n : Int} (h : I64 n) : ge n = 0 := if_pos h
theorem gv_no {n : Int} (h : ¬ I64 n) : gv n = 0 := if_neg h
theorem ge_no {n : Int} (h : ¬ I64 n) : ge n = 7 := if_neg h
theorem sum_any (a : Option Addr) (zs : List Int) (c : Nat) (w : World) (hz : Ints w a zs) (hi : allI zs) (hl : zs.length ≤ 1099511627776) :
    Calls Try.prog 20 #[.slice a zs.length c] w fun e w' => e = .returned (.tuple #[.int .i64 (gv (lsum zs)), .int .i64 (ge (lsum zs))]) ∧ Below w.heap.size w w' := by
  by_cases h : I64 (lsum zs)
  · rw [gv_ok h, ge_ok h]; exact sum_ok a zs c w hz hi hl h
  · rw [gv_no h, ge_no h]; exact sum_no a zs c w hz hi hl h
theorem add_any (a b : Int) (w : World) (ha : I64 a) (hb : I64 b) :
    Calls Try.prog 13 #[.int .i64 a, .int .i64 b] w fun e w' => e = .returned (.tuple #[.int .i64 (gv (a + b)), .int .i64 (ge (a + b))]) ∧ w = w' := by
  by_cases h : I64 (a + b)
  · rw [gv_ok h, ge_ok h]; exact add_ok a b w ha hb h
  · rw [gv_no h, ge_no h]; exact add_no a b w ha hb h

open Go.ChangeShapes Go.WideShapes Go.ChangeAt
theorem ints_in2 {H : Type} {enc : TypeId × Value → H} {P : Program} {W : World} {t e : TypeId} {s : Option Addr} {len cap : Nat} {d : DataW H} {p : List MemPlace}
    (ht : P.underlying t = some (.slice e)) (he : P.underlying e = some (.int .i64)) (hc : P.cellsOf e = 1)
    (h : DataW.Trod enc P W 0 (fun _ => true) true t (.slice s len cap) d p) : ∃ zs : List Int, len = zs.length ∧ (zs.length ≤ cap ∧ cap ≤ maxLen) ∧ Ints W s zs ∧ allI zs ∧ Src W s zs cap := by
  have k := h
  obtain ⟨zs, h1, h2, h3, h4⟩ := ints_in ht he hc h
  refine ⟨zs, h1, h2, h3, h4, ?_⟩
  obtain ⟨fuel, hf⟩ := k
  rcases open_ints ht he hc hf with ⟨hcs, _⟩ | ⟨x, l, c, ys, hcs, _, hl, hm, hz, hx, hcell, hwz⟩
  · simp [Value.cells] at hcs
    obtain ⟨rfl, rfl, rfl⟩ := hcs
    exact .inl ⟨rfl, List.eq_nil_of_length_eq_zero h1.symm, rfl⟩
  · simp [Value.cells] at hcs
    obtain ⟨rfl, rfl, rfl⟩ := hcs
    refine .inr ⟨x, rfl, fun hp => ?_, fun j u hj => ?_⟩
    · rcases h3 with rfl | ⟨b, off, hb, hlt, _⟩
      · simp at hp
      · cases hb; exact hlt
    · have hjl : j < zs.length := by
        rcases Nat.lt_or_ge j zs.length with h | h
        · exact h
        · rw [List.getElem?_eq_none (by simpa using h)] at hj; cases hj
      rcases h3 with rfl | ⟨b, off, hb, _, hc3⟩
      · simp at hjl
      · cases hb
        have e : (⟨b, off, none⟩ : Addr).add j = ⟨b, off + j, none⟩ := by unfold Addr.add; split <;> simp_all
        rw [e, hc3 j hjl]
        simp [hjl] at hj
        rw [← hj]
        simp [List.getD, hjl]
end Go.Proofs.Ytomgdleoegaooaa
