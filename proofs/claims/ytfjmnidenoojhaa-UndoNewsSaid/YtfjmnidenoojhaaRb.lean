/- Undoing: what stands between two rounds. -/
import Derived.Test.YtfjmnidenoojhaaBk
import Derived.Test.YtfjmnidenoojhaaNf
import Derived.BigRegionIn
set_option linter.unusedVariables false
set_option linter.unusedSimpArgs false
namespace Go.Proofs.Ytfjmnidenoojhaa
open Go.RowKit Go.Shelf

attribute [local go_sem] Oper.semAt_some

def intsZ (n : Nat) (f : Nat → Int) : List Value := (List.range n).map fun i : Nat => Value.int .i64 (f i)
theorem intsZ_get {n : Nat} (f : Nat → Int) {i : Nat} (hi : i < n) : (intsZ n f)[i]? = some (.int .i64 (f i)) := by simp [intsZ, hi]
def updZ (f : Nat → Int) (a : Nat) (v : Int) : Nat → Int := fun i => if i = a then v else f i
theorem intsZ_set {n : Nat} (f : Nat → Int) (a : Nat) (v : Int) : (intsZ n f).set a (.int .i64 v) = intsZ n (updZ f a v) := by
  apply List.ext_getElem
  · simp [intsZ]
  · intro j h1 h2
    rw [List.getElem_set]
    simp [intsZ, updZ]
    by_cases e : a = j
    · subst e; simp
    · have e2 : ¬ j = a := Ne.symm e
      simp [e, e2]
theorem intsZ_of (n : Nat) (f : Nat → Nat) : intsZ n (fun i => (f i : Int)) = intsF n f := rfl
/-- the rows during an undo: the parents in range, whatever the sizes -/
structure RM (B : Nat) (w : World) (b : Nat) (gP gS cP cS : Nat) (vG : Value) (n : Nat) (P : Nat → Nat) (Z : Nat → Int) (G : List Nat) : Prop where
  blk : w.heap[b]? = some (.cells #[.bool true, .slice (some ⟨gP, 0, none⟩) n cP, .slice (some ⟨gS, 0, none⟩) n cS, vG] 60 (0, 0))
  rP : w.ownsRow B 3 1 (.slice (some ⟨gP, 0, none⟩) n cP) n (intsF n P)
  rS : w.ownsRow B 3 1 (.slice (some ⟨gS, 0, none⟩) n cS) n (intsZ n Z)
  rG : w.ownsRow B 3 1 vG G.length (ints G)
  pl : ∀ i, i < n → P i < n
theorem RM.keep {B : Nat} {w w' : World} {b gP gS cP cS n : Nat} {vG : Value} {P : Nat → Nat} {Z : Nat → Int} {G : List Nat} {o : List Nat} (M : RM B w b gP gS cP cS vG n P Z G) (k : Kp o w w') (d : ∀ x ∈ b :: gP :: gS :: vG.ownBlock.toList, x ∉ o) : RM B w' b gP gS cP cS vG n P Z G :=
  ⟨k.blk M.blk (d b (by simp)), k.row M.rP (fun x hx => by simp [Value.ownBlock] at hx; subst hx; exact d _ (by simp)), k.row M.rS (fun x hx => by simp [Value.ownBlock] at hx; subst hx; exact d _ (by simp)), k.row M.rG (fun x hx => d x (by simp [hx])), M.pl⟩
theorem RM.setP {B : Nat} {w : World} {b gP gS cP cS n : Nat} {vG : Value} {P : Nat → Nat} {Z : Nat → Int} {G : List Nat} (M : RM B w b gP gS cP cS vG n P Z G) (ap : Apart b (some gP) (some gS) vG.ownBlock) (i v : Nat) (hv : v < n) :
    RM B (w.setCell ⟨gP, i, none⟩ (.int .i64 (v : Int))) b gP gS cP cS vG n (upd P i v) Z G := by
  have q := row_put M.rP i (.int .i64 (v : Int))
  rw [intsF_set] at q
  refine ⟨blk_off M.blk (ap.ra gP rfl) _ _, q, row_side M.rS (fun x hx e => ap.ab gP rfl (by simp [Value.ownBlock] at hx; rw [hx, e])) _ _, row_side M.rG (fun x hx e => ap.ac gP rfl (by rw [hx, e])) _ _, ?_⟩
  intro j hj
  by_cases e : j = i
  · subst e; rw [upd_same]; exact hv
  · rw [upd_far e]; exact M.pl j hj
theorem RM.setS {B : Nat} {w : World} {b gP gS cP cS n : Nat} {vG : Value} {P : Nat → Nat} {Z : Nat → Int} {G : List Nat} (M : RM B w b gP gS cP cS vG n P Z G) (ap : Apart b (some gP) (some gS) vG.ownBlock) (i : Nat) (v : Int) :
    RM B (w.setCell ⟨gS, i, none⟩ (.int .i64 v)) b gP gS cP cS vG n P (updZ Z i v) G := by
  have q := row_put M.rS i (.int .i64 v)
  rw [intsZ_set] at q
  exact ⟨blk_off M.blk (ap.rb gS rfl) _ _, row_side M.rP (fun x hx e => ap.ab gP rfl (by simp [Value.ownBlock] at hx; rw [hx, e])) _ _, q, row_side M.rG (fun x hx e => ap.bc gS rfl (by rw [hx, e])) _ _, M.pl⟩
end Go.Proofs.Ytfjmnidenoojhaa
