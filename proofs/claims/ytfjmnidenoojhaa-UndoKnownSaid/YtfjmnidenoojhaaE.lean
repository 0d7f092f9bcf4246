/- Uniting two sets: what it does to memory. -/
import Derived.Test.YtfjmnidenoojhaaN
import Derived.Test.YtfjmnidenoojhaaGen
set_option linter.unusedVariables false
set_option linter.unusedSimpArgs false
namespace Go.Proofs.Ytfjmnidenoojhaa
open Go.RowKit

theorem Kp.of_grown {o : List Nat} {X w' : World} {row : Option Nat} (g : X.grownBy w' row) (h : ∀ k, row = some k → k ∈ o) : Kp o X w' :=
  ⟨g.os, g.tape, g.output, g.size, fun i hi ho => g.block i hi (fun e => ho (h i e.symm))⟩
theorem UM.setP {B : Nat} {w : World} {b n c gP : Nat} {P Z : Nat → Nat} {G : List Nat} {vS vG : Value} (M : UM B w b (.slice (some ⟨gP, 0, none⟩) n c) vS vG n P Z G) (i v : Nat) :
    UM B (w.setCell ⟨gP, i, none⟩ (.int .i64 (v : Int))) b (.slice (some ⟨gP, 0, none⟩) n c) vS vG n (upd P i v) Z G := by
  have q := row_put M.P i (.int .i64 (v : Int))
  rw [intsF_set] at q
  exact ⟨blk_off M.blk (M.ap.ra gP rfl) _ _, q, row_side M.S (fun x hx e => M.ap.ab gP rfl (by rw [hx, e])) _ _, row_side M.G (fun x hx e => M.ap.ac gP rfl (by rw [hx, e])) _ _, M.ge, M.ap⟩
theorem UM.setS {B : Nat} {w : World} {b n c gS : Nat} {P Z : Nat → Nat} {G : List Nat} {vP vG : Value} (M : UM B w b vP (.slice (some ⟨gS, 0, none⟩) n c) vG n P Z G) (i v : Nat) :
    UM B (w.setCell ⟨gS, i, none⟩ (.int .i64 (v : Int))) b vP (.slice (some ⟨gS, 0, none⟩) n c) vG n P (upd Z i v) G := by
  have q := row_put M.S i (.int .i64 (v : Int))
  rw [intsF_set] at q
  exact ⟨blk_off M.blk (M.ap.rb gS rfl) _ _, row_side M.P (fun x hx e => M.ap.ab x hx (by rw [e]; rfl)) _ _, q, row_side M.G (fun x hx e => M.ap.bc gS rfl (by rw [hx, e])) _ _, M.ge, M.ap⟩
theorem ints_snoc (l : List Nat) (x : Nat) : ints (l ++ [x]) = ints l ++ [.int .i64 (x : Int)] := by simp [ints]
/-- the log after an append, put into the field -/
theorem UM.log {B : Nat} {wr w' : World} {b n x : Nat} {P Z : Nat → Nat} {G : List Nat} {vP vS v v' : Value} {o : Obj} (M : UM B wr b vP vS v n P Z G)
    (h2 : w'.ownsRow B 3 1 v' (G.length + 1) (ints G ++ [.int .i64 (x : Int)])) (g : (wr.alloc o).grownBy w' v.ownBlock) (hb : v'.ownBlock = v.ownBlock ∨ ∃ q, v'.ownBlock = some q ∧ (wr.alloc o).heap.size ≤ q) :
    UM B (w'.setCell ⟨b, 3, none⟩ v') b vP vS v' n P Z (G ++ [x]) ∧ Kp (b :: v.ownBlock.toList) wr (w'.setCell ⟨b, 3, none⟩ v') ∧ (∀ q, v'.ownBlock = some q → v.ownBlock = some q ∨ wr.heap.size ≤ q) := by
  have hlt := lt_of_blk M.blk
  have e1 := blk_grown M.blk g (fun e => M.ap.rc b e.symm rfl)
  have new : ∀ q, v'.ownBlock = some q → v.ownBlock = some q ∨ wr.heap.size ≤ q := by
    intro q hq
    rcases hb with h | ⟨q', h, hs⟩
    · exact .inl (by rw [← h]; exact hq)
    · rw [hq] at h; injection h with h; subst h; simp at hs; exact .inr (by omega)
  have ne : ∀ k, v'.ownBlock = some k → k ≠ b := by
    intro q hq
    rcases new q hq with h | h
    · exact M.ap.rc q h
    · omega
  have far : ∀ {u : Value} {xs : List Value} {m : Nat}, wr.ownsRow B 3 1 u m xs → (∀ k, u.ownBlock = some k → v.ownBlock ≠ some k) → (∀ k, u.ownBlock = some k → k ≠ b) → (w'.setCell ⟨b, 3, none⟩ v').ownsRow B 3 1 u m xs := by
    intro u xs m hr h1 h2
    exact row_side (fresh_row ((Kp.alloc (o := []) wr o).row hr (by simp)) g h1) (fun k hk => h2 k hk) 3 v'
  have apn : ∀ {u : Value} {xs : List Value} {m : Nat}, wr.ownsRow B 3 1 u m xs → (∀ k, u.ownBlock = some k → v.ownBlock ≠ some k) → ∀ k, u.ownBlock = some k → v'.ownBlock ≠ some k := by
    intro u xs m hr h1 k hk e
    rcases new k e with h | h
    · exact h1 k hk h
    · have := (hr.lt k hk).2; omega
  refine ⟨⟨?_, far M.P M.ap.ac M.ap.ra, far M.S M.ap.bc M.ap.rb, ?_, M.ge, ⟨M.ap.ra, M.ap.rb, ne, M.ap.ab, apn M.P M.ap.ac, apn M.S M.ap.bc⟩⟩, ?_, new⟩
  · rw [heap_setCell_same _ _ _ _ _ _ e1]; rfl
  · rw [ints_snoc, List.length_append]
    exact row_side h2 (fun q hq => ne q hq) 3 v'
  · have k1 : Kp (b :: v.ownBlock.toList) wr (wr.alloc o) := Kp.alloc _ _
    have k2 : Kp (b :: v.ownBlock.toList) (wr.alloc o) w' := Kp.of_grown g (fun k hk => by simp [hk])
    have k3 : Kp (b :: v.ownBlock.toList) w' (w'.setCell ⟨b, 3, none⟩ v') := Kp.set _ _ _ (by simp)
    exact (k1.trans k2 (fun x hx => .inl hx)).trans k3 (fun x hx => .inl hx)
set_option maxHeartbeats 1000000 in
theorem unite_same {B : Nat} {w : World} {b n : Nat} {P Z R L : Nat → Nat} {G : List Nat} {vP vS vG : Value} (M : UM B w b vP vS vG n P Z G) (u : UI n P Z R L G) (x y : Nat) (hx : x < n) (hy : y < n) (he : R x = R y) :
    Calls Try.prog 38 #[.pointer (some ⟨b, 0, none⟩), .int .i64 (x : Int), .int .i64 (y : Int)] w fun e w' => e = .returned (.bool false) ∧ w = w' := by
  have R1 := hide (root_m M u x hx)
  have R2 := hide (root_m M u y hy)
  rw [← he] at R2
  clear M u hx hy he
  generalize R x = r at *
  go_enter Try.func38, Try.ntmps38
  go_wp2_with fail
  refine R1.out.mono ?_
  rintro e w' ⟨rfl, rfl⟩
  go_wp2_with fail
  refine R2.out.mono ?_
  rintro e w' ⟨rfl, rfl⟩
  go_wp2_with fail
  go_ret
  exact ⟨rfl, rfl⟩
end Go.Proofs.Ytfjmnidenoojhaa
