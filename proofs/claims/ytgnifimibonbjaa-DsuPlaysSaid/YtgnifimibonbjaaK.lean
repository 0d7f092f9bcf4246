/- What the groups are: lists of lists, and how they lie in memory. -/
import Derived.Test.YtgnifimibonbjaaJ
import Derived.Test.YtgnifimibonbjaaG
set_option linter.unusedVariables false
set_option linter.unusedSimpArgs false
namespace Go.Proofs.Ytgnifimibonbjaa
open Go.RowKit

/-- the numbers below n with this label -/
def memb (L : Nat → Nat) (r n : Nat) : List Nat := (List.range n).filter fun i => decide (L i = r)
theorem memb_succ (L : Nat → Nat) (r n : Nat) : memb L r (n + 1) = memb L r n ++ if L n = r then [n] else [] := by
  unfold memb
  rw [List.range_succ, List.filter_append]
  by_cases h : L n = r <;> simp [h]
theorem memb_len (L : Nat → Nat) (r : Nat) : ∀ n, (memb L r n).length = cnt L r n := by
  intro n
  induction n with
  | zero => rfl
  | succ n ih => rw [memb_succ, List.length_append, ih]; simp only [cnt]; split <;> rfl
theorem memb_at {L : Nat → Nat} {r : Nat} : ∀ {n i j : Nat}, (memb L r n)[i]? = some j → j < n ∧ L j = r ∧ cnt L r j = i := by
  intro n
  induction n with
  | zero => intro i j h; simp [memb] at h
  | succ n ih =>
    intro i j h
    rw [memb_succ] at h
    by_cases hi : i < cnt L r n
    · rw [List.getElem?_append_left (by rw [memb_len]; exact hi)] at h
      obtain ⟨h1, h2, h3⟩ := ih h
      exact ⟨by omega, h2, h3⟩
    · rw [List.getElem?_append_right (by rw [memb_len]; omega), memb_len] at h
      by_cases e : L n = r
      · rw [if_pos e] at h
        have : i - cnt L r n = 0 := by
          have := (List.getElem?_eq_some_iff.1 h).1
          simp at this; omega
        rw [this] at h
        simp at h
        subst h
        exact ⟨by omega, e, by omega⟩
      · rw [if_neg e] at h; simp at h
theorem memb_head {L : Nat → Nat} {r n : Nat} (hr : L r = r) (hn : r < n) (ll : ∀ i, i < n → L i ≤ i) : (memb L r n)[0]? = some r := by
  have hpos : 0 < cnt L r n := by
    have := cnt_room (L := L) (n := n) (i := r) hn
    rw [hr] at this; omega
  have hlt : 0 < (memb L r n).length := by rw [memb_len]; exact hpos
  obtain ⟨h1, h2, h3⟩ := memb_at (List.getElem?_eq_getElem hlt)
  rw [List.getElem?_eq_getElem hlt]
  generalize (memb L r n)[0] = j at *
  congr 1
  have h4 := ll j h1
  rcases Nat.lt_or_ge r j with h | h
  · have h5 := cnt_lt (L := L) (i := j) (j := r) h
    rw [hr] at h5; omega
  · omega
/-- the roots below n -/
def rts (L : Nat → Nat) (n : Nat) : List Nat := (List.range n).filter fun i => decide (L i = i)
theorem rts_succ (L : Nat → Nat) (n : Nat) : rts L (n + 1) = rts L n ++ if L n = n then [n] else [] := by
  unfold rts
  rw [List.range_succ, List.filter_append]
  by_cases h : L n = n <;> simp [h]
theorem rts_len (L : Nat → Nat) : ∀ n, (rts L n).length = roots L n := by
  intro n
  induction n with
  | zero => rfl
  | succ n ih => rw [rts_succ, List.length_append, ih]; simp only [roots]; split <;> rfl
theorem rts_mem {L : Nat → Nat} {n r : Nat} : r ∈ rts L n ↔ r < n ∧ L r = r := by simp [rts]
theorem gvs_map (gl : Nat) (L : Nat → Nat) (n k : Nat) : ∀ m, gvs gl L n k m = (rts L m).map (gv gl L n k) := by
  intro m
  induction m with
  | zero => rfl
  | succ m ih => simp only [gvs, rts_succ, List.map_append, ih]; split <;> rfl
/-- the sets, by their least elements -/
def grp (L : Nat → Nat) (n : Nat) : List (List Nat) := (rts L n).map fun r => memb L r n
theorem grp_len (L : Nat → Nat) (n : Nat) : (grp L n).length = roots L n := by simp [grp, rts_len]

/-- a slice that reads as a list of numbers, in a block from B on -/
def RdI (B : Nat) (w : World) (v : Value) (l : List Nat) : Prop := ∃ p c, v = .slice p l.length c ∧ (l = [] ∨ ∃ b off, p = some ⟨b, off, none⟩ ∧ B ≤ b ∧ b < w.heap.size ∧ ∀ (i x : Nat), l[i]? = some x → w.cell? ⟨b, off + i, none⟩ = some (.int .i64 (x : Int)))
theorem RdI.keep {B : Nat} {w w' : World} {v : Value} {l : List Nat} {o : List Nat} (h : RdI B w v l) (k : Kp o w w') (d : ∀ x ∈ o, x < B) : RdI B w' v l := by
  obtain ⟨p, c, rfl, h⟩ := h
  refine ⟨p, c, rfl, ?_⟩
  rcases h with h | ⟨b, off, rfl, hB, hb, hc⟩
  · exact .inl h
  · refine .inr ⟨b, off, rfl, hB, Nat.lt_of_lt_of_le hb k.size, fun i x hi => ?_⟩
    rw [World.cell?_of_block (w := w) (k.block b hb (fun ho => by have := d b ho; omega))]
    exact hc i x hi
theorem RdI.low {B B' : Nat} {w : World} {v : Value} {l : List Nat} (h : RdI B w v l) (hB : B' ≤ B) : RdI B' w v l := by
  obtain ⟨p, c, rfl, h⟩ := h
  refine ⟨p, c, rfl, ?_⟩
  rcases h with h | ⟨b, off, rfl, hb, hc⟩
  · exact .inl h
  · exact .inr ⟨b, off, rfl, by omega, hc⟩
theorem RdI.of_row {w : World} {B n : Nat} {v : Value} {l : List Nat} (h : w.ownsRow B 3 1 v n (ints l)) : RdI B w v l := by
  have hn : l.length = n := by have := h.1; simpa [ints] using this
  obtain ⟨p, c, rfl⟩ := row_slice h
  subst hn
  refine ⟨p, c, rfl, ?_⟩
  by_cases hl : l = []
  · exact .inl hl
  · have h0 : 0 < l.length := List.length_pos_iff.2 hl
    obtain ⟨g, rfl, _, _, _⟩ := row_cell h h0
    have hlt := h.lt g (by simp [Value.ownBlock])
    refine .inr ⟨g, 0, rfl, hlt.1, hlt.2, fun i x hi => ?_⟩
    have hlt := (List.getElem?_eq_some_iff.1 hi).1
    rw [Nat.zero_add, h.cellAt i (by simp [ints]; omega)]
    simp [ints, hi]
/-- a slice that reads as a list of lists, in blocks from B on -/
def Rd2 (B : Nat) (w : World) (v : Value) (ll : List (List Nat)) : Prop := ∃ p c, v = .slice p ll.length c ∧ (ll = [] ∨ ∃ b off, p = some ⟨b, off, none⟩ ∧ B ≤ b ∧ b < w.heap.size ∧ ∀ i l, ll[i]? = some l → ∃ u, w.cell? ⟨b, off + i, none⟩ = some u ∧ RdI B w u l)
theorem Rd2.keep {B : Nat} {w w' : World} {v : Value} {ll : List (List Nat)} {o : List Nat} (h : Rd2 B w v ll) (k : Kp o w w') (d : ∀ x ∈ o, x < B) : Rd2 B w' v ll := by
  obtain ⟨p, c, rfl, h⟩ := h
  refine ⟨p, c, rfl, ?_⟩
  rcases h with h | ⟨b, off, rfl, hB, hb, hc⟩
  · exact .inl h
  · refine .inr ⟨b, off, rfl, hB, Nat.lt_of_lt_of_le hb k.size, fun i l hi => ?_⟩
    obtain ⟨u, h1, h2⟩ := hc i l hi
    refine ⟨u, ?_, h2.keep k d⟩
    rw [World.cell?_of_block (w := w) (k.block b hb (fun ho => by have := d b ho; omega))]
    exact h1
theorem Rd2.drewN {B : Nat} {w : World} {v : Value} {ll : List (List Nat)} (h : Rd2 B w v ll) (n : Nat) : Rd2 B (w.drewN n) v ll := h.keep (Kp.drewN [] w n) (by simp)
theorem Rd2.low {B B' : Nat} {w : World} {v : Value} {ll : List (List Nat)} (h : Rd2 B w v ll) (hB : B' ≤ B) : Rd2 B' w v ll := by
  obtain ⟨p, c, rfl, h⟩ := h
  refine ⟨p, c, rfl, ?_⟩
  rcases h with h | ⟨b, off, rfl, h1, h2, hc⟩
  · exact .inl h
  · refine .inr ⟨b, off, rfl, by omega, h2, fun i l hi => ?_⟩
    obtain ⟨u, h3, h4⟩ := hc i l hi
    exact ⟨u, h3, h4.low hB⟩
/-- the groups of all elements, as they lie in the list -/
theorem rd_groups {w : World} {L : Nat → Nat} {n gl gg c : Nat} {F : Nat → Nat} {B : Nat} (idem : ∀ i, i < n → L (L i) = L i)
    (h1 : w.ownsRow B 42 1 (.slice (some ⟨gg, 0, none⟩) (roots L n) c) (roots L n) (gvs gl L n n n)) (h2 : w.ownsRow B 3 1 (.slice (some ⟨gl, 0, none⟩) n n) n (intsF n F)) (f : Fill L n n F) :
    Rd2 B w (.slice (some ⟨gg, 0, none⟩) (roots L n) c) (grp L n) := by
  refine ⟨_, _, by rw [grp_len], .inr ⟨gg, 0, rfl, (h1.lt gg (by simp [Value.ownBlock])).1, (h1.lt gg (by simp [Value.ownBlock])).2, fun i l hi => ?_⟩⟩
  have hlt : i < roots L n := by have := (List.getElem?_eq_some_iff.1 hi).1; rwa [grp_len] at this
  rw [Nat.zero_add, h1.cellAt i (by omega), gvs_map]
  unfold grp at hi
  rw [List.getElem?_map] at hi
  obtain ⟨r, hr, rfl⟩ := Option.map_eq_some_iff.1 hi
  obtain ⟨hrn, hrr⟩ := rts_mem.1 (List.mem_of_getElem? hr)
  refine ⟨gv gl L n n r, by rw [List.getElem?_map, hr]; rfl, ⟨some ⟨gl, st L n r, none⟩, cnt L r n, by rw [memb_len]; rfl, .inr ⟨gl, st L n r, rfl, (h2.lt gl (by simp [Value.ownBlock])).1, (h2.lt gl (by simp [Value.ownBlock])).2, fun i x hx => ?_⟩⟩⟩
  obtain ⟨hx1, hx2, hx3⟩ := memb_at hx
  have e := f x hx1
  rw [hx2, hx3] at e
  have hroom := st_room (n := n) idem hrr
  have hc := cnt_room (L := L) (n := n) (i := x) hx1
  rw [hx2, hx3] at hc
  rw [h2.cellAt _ (by omega), intsF_get _ (by omega), e]
end Go.Proofs.Ytgnifimibonbjaa
