/- Sets whose unions can be undone, in memory; what reads them. -/
import Derived.Test.YtfjmnidenoojhaaPu
set_option linter.unusedVariables false
set_option linter.unusedSimpArgs false
namespace Go.Proofs.Ytfjmnidenoojhaa
open Go.RowKit

def intsF (n : Nat) (f : Nat → Nat) : List Value := (List.range n).map fun i : Nat => Value.int .i64 ((f i : Nat) : Int)
theorem intsF_get {n : Nat} (f : Nat → Nat) {i : Nat} (hi : i < n) : (intsF n f)[i]? = some (.int .i64 ((f i : Nat) : Int)) := by simp [intsF, hi]
theorem intsF_len (n : Nat) (f : Nat → Nat) : (intsF n f).length = n := by simp [intsF]
theorem intsF_set {n : Nat} (f : Nat → Nat) {a : Nat} (v : Nat) : (intsF n f).set a (.int .i64 (v : Int)) = intsF n (upd f a v) := by
  apply List.ext_getElem
  · simp [intsF]
  · intro j h1 h2
    rw [List.getElem_set]
    simp [intsF]
    by_cases e : a = j
    · subst e; simp [upd]
    · rw [if_neg e, upd_far (Ne.symm e)]
theorem intsF_one (n : Nat) (f : Nat → Nat) : ∀ u ∈ intsF n f, u.oneCell' = true := by
  intro u hu
  simp [intsF] at hu
  obtain ⟨i, _, rfl⟩ := hu
  rfl
theorem intsF_congr {n : Nat} {f g : Nat → Nat} (h : ∀ i, i < n → f i = g i) : intsF n f = intsF n g := by
  unfold intsF
  apply List.map_congr_left
  intro i hi
  simp at hi
  rw [h i hi]

structure UM (B : Nat) (w : World) (b : Nat) (vP vS vG : Value) (n : Nat) (P Z : Nat → Nat) (G : List Nat) : Prop where
  blk : w.heap[b]? = some (.cells #[.bool true, vP, vS, vG] 60 (0, 0))
  P : w.ownsRow B 3 1 vP n (intsF n P)
  S : w.ownsRow B 3 1 vS n (intsF n Z)
  G : w.ownsRow B 3 1 vG G.length (ints G)
  ge : B ≤ b
  ap : Apart b vP.ownBlock vS.ownBlock vG.ownBlock
/-- the sets at block b, which owns these blocks: n elements with the labels L, the unions G in force -/
def UAt (B : Nat) (w : World) (b : Nat) (own : List Nat) (n : Nat) (P Z R L : Nat → Nat) (G : List Nat) (H : List (Nat → Nat)) : Prop :=
  ∃ vP vS vG, UM B w b vP vS vG n P Z G ∧ UF n P Z R L G H ∧ n ≤ 65536 ∧ own = b :: (vP.ownBlock.toList ++ (vS.ownBlock.toList ++ vG.ownBlock.toList))
theorem UM.c {B : Nat} {w : World} {b : Nat} {vP vS vG : Value} {n : Nat} {P Z : Nat → Nat} {G : List Nat} (h : UM B w b vP vS vG n P Z G) :
    w.cell? ⟨b, 0, none⟩ = some (.bool true) ∧ w.cell? ⟨b, 1, none⟩ = some vP ∧ w.cell? ⟨b, 2, none⟩ = some vS ∧ w.cell? ⟨b, 3, none⟩ = some vG := by
  simp [cell_of_blk h.blk]
theorem UM.keep {B : Nat} {w w' : World} {b : Nat} {vP vS vG : Value} {n : Nat} {P Z : Nat → Nat} {G : List Nat} {o : List Nat} (M : UM B w b vP vS vG n P Z G) (k : Kp o w w') (d : ∀ x ∈ b :: (vP.ownBlock.toList ++ (vS.ownBlock.toList ++ vG.ownBlock.toList)), x ∉ o) : UM B w' b vP vS vG n P Z G :=
  ⟨k.blk M.blk (d b (by simp)), k.row M.P (fun x hx => d x (by simp [hx])), k.row M.S (fun x hx => d x (by simp [hx])), k.row M.G (fun x hx => d x (by simp [hx])), M.ge, M.ap⟩
theorem UAt.keep {B : Nat} {w w' : World} {b n : Nat} {own o : List Nat} {P Z R L : Nat → Nat} {G : List Nat} {H : List (Nat → Nat)} (h : UAt B w b own n P Z R L G H) (k : Kp o w w') (d : ∀ x ∈ own, x ∉ o) : UAt B w' b own n P Z R L G H := by
  obtain ⟨vP, vS, vG, M, u, hn, rfl⟩ := h
  exact ⟨vP, vS, vG, M.keep k d, u, hn, rfl⟩
theorem UAt.lt {B : Nat} {w : World} {b n : Nat} {own : List Nat} {P Z R L : Nat → Nat} {G : List Nat} {H : List (Nat → Nat)} (h : UAt B w b own n P Z R L G H) : ∀ x ∈ own, B ≤ x ∧ x < w.heap.size := by
  obtain ⟨vP, vS, vG, M, u, hn, rfl⟩ := h
  intro x hx
  simp at hx
  rcases hx with rfl | hx | hx | hx
  · exact ⟨M.ge, lt_of_blk M.blk⟩
  · exact M.P.lt x hx
  · exact M.S.lt x hx
  · exact M.G.lt x hx
theorem UAt.mem {B : Nat} {w : World} {b n : Nat} {own : List Nat} {P Z R L : Nat → Nat} {G : List Nat} {H : List (Nat → Nat)} (h : UAt B w b own n P Z R L G H) : b ∈ own := by
  obtain ⟨vP, vS, vG, M, u, hn, rfl⟩ := h
  simp
theorem upPtr : Try.prog.pointee 23 = 60 := by kernel_rfl
theorem info3 : (Try.prog.info? 3).map (fun i => (i.zero, i.size, i.bytes)) = some (some (.int .i64 0), 1, 8) := by kernel_rfl
set_option maxHeartbeats 400000 in
theorem valid_t (b : Nat) (w : World) (h : w.cell? ⟨b, 0, none⟩ = some (.bool true)) :
    Calls Try.prog 36 #[.pointer (some ⟨b, 0, none⟩)] w fun e w' => e = .returned (.bool true) ∧ w = w' := by
  have hp := upPtr
  go_enter Try.func36, Try.ntmps36
  go_wp2_with fail
  go_ret
  exact ⟨rfl, rfl⟩
/-- no sets: nil, or never made -/
def bad (w : World) (p : Option Addr) : Prop := p = none ∨ ∃ b, p = some ⟨b, 0, none⟩ ∧ w.cell? ⟨b, 0, none⟩ = some (.bool false)
set_option maxHeartbeats 400000 in
theorem valid_f (p : Option Addr) (w : World) (h : bad w p) :
    Calls Try.prog 36 #[.pointer p] w fun e w' => e = .returned (.bool false) ∧ w = w' := by
  have hp := upPtr
  rcases h with rfl | ⟨b, rfl, h⟩
  · go_enter Try.func36, Try.ntmps36
    go_wp2_with fail
    go_ret
    exact ⟨rfl, rfl⟩
  · go_enter Try.func36, Try.ntmps36
    go_wp2_with fail
    go_ret
    exact ⟨rfl, rfl⟩
set_option maxHeartbeats 1000000 in
theorem has_m {B : Nat} {w : World} {b n : Nat} {P Z : Nat → Nat} {G : List Nat} {vP vS vG : Value} (M : UM B w b vP vS vG n P Z G) (i : Int) :
    Calls Try.prog 37 #[.pointer (some ⟨b, 0, none⟩), .int .i64 i] w fun e w' => e = .returned (.bool (decide (0 ≤ i ∧ i < (n : Int)))) ∧ w = w' := by
  obtain ⟨c0, c1, c2, c3⟩ := M.c
  obtain ⟨p, c, rfl⟩ := row_slice M.P
  have v0 := valid_t b w c0
  clear M c0 c2 c3
  by_cases h1 : 0 ≤ i
  · by_cases h2 : i < (n : Int)
    · have d : decide (0 ≤ i ∧ i < (n : Int)) = true := by simp; omega
      rw [d]
      go_enter Try.func37, Try.ntmps37
      go_wp2_with (go_at_call 36; refine v0.mono ?_; rintro e w' ⟨rfl, rfl⟩)
      go_ret
      exact ⟨rfl, rfl⟩
    · have d : decide (0 ≤ i ∧ i < (n : Int)) = false := by simp; omega
      rw [d]
      go_enter Try.func37, Try.ntmps37
      go_wp2_with (go_at_call 36; refine v0.mono ?_; rintro e w' ⟨rfl, rfl⟩)
      go_ret
      exact ⟨by simp; omega, rfl⟩
  · have d : decide (0 ≤ i ∧ i < (n : Int)) = false := by simp; omega
    rw [d]
    go_enter Try.func37, Try.ntmps37
    go_wp2_with (go_at_call 36; refine v0.mono ?_; rintro e w' ⟨rfl, rfl⟩)
    go_ret
    exact ⟨rfl, rfl⟩
theorem has_f (p : Option Addr) (i : Int) (w : World) (h : bad w p) :
    Calls Try.prog 37 #[.pointer p, .int .i64 i] w fun e w' => e = .returned (.bool false) ∧ w = w' := by
  have v0 := valid_f p w h
  go_enter Try.func37, Try.ntmps37
  go_wp2_with (go_at_call 36; refine v0.mono ?_; rintro e w' ⟨rfl, rfl⟩)
  go_ret
  exact ⟨rfl, rfl⟩
set_option maxRecDepth 100000 in
set_option maxHeartbeats 4000000 in
theorem root_m {B : Nat} {w : World} {b n : Nat} {P Z R L : Nat → Nat} {G : List Nat} {vP vS vG : Value} (M : UM B w b vP vS vG n P Z G) (u : UI n P Z R L G) (a : Nat) (ha : a < n) :
    Calls Try.prog 46 #[.pointer (some ⟨b, 0, none⟩), .int .i64 (a : Int)] w fun e w' => e = .returned (.int .i64 ((R a : Nat) : Int)) ∧ w = w' := by
  obtain ⟨c0, c1, c2, c3⟩ := M.c
  obtain ⟨p, c, rfl⟩ := row_slice M.P
  have MP := hide M.P
  have HU := hide u
  have HA := hide ha
  clear M u ha c0 c2 c3
  have hp := upPtr
  go_enter Try.func46, Try.ntmps46
  go_wp2_with fail
  go_loop [1] (fun x => ∃ k : Nat, x = .int .i64 (k : Int) ∧ Hid (k < n ∧ R k = R a)) (fun x => n - Z (intOf x).toNat)
  case atStart => exact ⟨a, rfl, HA.out, rfl⟩
  case round =>
    obtain ⟨k, rfl, hk⟩ := hrel
    obtain ⟨hkn, hkr⟩ := hk.out
    obtain ⟨gP, rfl, e1, f1, _⟩ := row_cell MP.out hkn
    rw [intsF_get P hkn] at e1
    by_cases ef : P k = k
    · rw [ef] at e1
      have hr := HU.out.fix k hkn ef
      have ee : k = R a := by omega
      have EE := hide ee
      clear ee hr hkr ef
      go_wp2_with fail
      go_ret
      exact ⟨by have := EE.out; rw [← this]; rfl, rfl⟩
    · have ne : ((P k : Int) == (k : Int)) = false := by simp; omega
      have ne2 : ((P k : Int) != (k : Int)) = true := by simp; omega
      have NX := hide (And.intro (HU.out.pl k hkn) ((HU.out.rp k hkn).trans hkr))
      have UP := hide (And.intro (HU.out.up k hkn ef) (HU.out.zn (P k) (HU.out.pl k hkn)))
      clear ef hkr
      generalize P k = pk at *
      go_wp2_with fail
      go_round
      case rel => exact ⟨pk, rfl, NX.out⟩
      case measure => have := UP.out; simp [intOf]; omega
end Go.Proofs.Ytfjmnidenoojhaa
