/- The edges of a grid. -/
import Derived.Test.YthgeccmphnppgaaD
set_option linter.unusedVariables false
set_option linter.unusedSimpArgs false
namespace Go.Proofs.Ythgeccmphnppgaa
open Go.RowKit

def edgeAt (w h : Nat) (wx wy : Bool) (v : Nat) (d : Nat × Nat) : List E3 :=
  if ((ahd (v % w) d.1 w wx).2 && (ahd (v / w) d.2 h wy).2) = true then [((v : Int), (((ahd (v / w) d.2 h wy).1 : Nat) : Int) * (w : Int) + (((ahd (v % w) d.1 w wx).1 : Nat) : Int), 0)] else []
def gE (w h : Nat) (wx wy : Bool) (ds : List (Nat × Nat)) : Nat → List E3
  | 0 => []
  | k + 1 => gE w h wx wy ds k ++ ds.flatMap (edgeAt w h wx wy k)
theorem edgeAt_len (w h : Nat) (wx wy : Bool) (v : Nat) (d : Nat × Nat) : (edgeAt w h wx wy v d).length ≤ 1 := by unfold edgeAt; split <;> simp
theorem flat_len (w h : Nat) (wx wy : Bool) (v : Nat) : ∀ ds : List (Nat × Nat), (ds.flatMap (edgeAt w h wx wy v)).length ≤ ds.length := by
  intro ds
  induction ds with
  | nil => simp
  | cons d ds ih => simp only [List.flatMap_cons, List.length_append, List.length_cons]; have := edgeAt_len w h wx wy v d; omega
theorem gE_len (w h : Nat) (wx wy : Bool) (ds : List (Nat × Nat)) : ∀ k, (gE w h wx wy ds k).length ≤ k * ds.length := by
  intro k
  induction k with
  | zero => simp [gE]
  | succ k ih => simp only [gE, List.length_append, Nat.add_mul, Nat.one_mul]; have := flat_len w h wx wy k ds; omega
noncomputable def gridR (w h : Int) (wx wy : Bool) (ds : List (Nat × Nat)) : Int × Int × List E3 := @ite _ (gridP w h) (Classical.propDecidable _) (w * h, 0, gE w.toNat h.toNat wx wy ds (w * h).toNat) (0, 2, [])
/-- what a function over a grid leaves -/
def GRes (r : Int × Int × List E3) (W : World) (e : Ending) (w' : World) : Prop := ∃ v, e = .returned (.tuple #[.int .i64 r.1, v, .int .i64 r.2.1]) ∧ RdE w' v r.2.2 ∧ Below W.heap.size W w'
theorem take_next {α : Type} {l : List α} {j : Nat} {x : α} (h : l[j]? = some x) : l.take (j + 1) = l.take j ++ [x] := by
  obtain ⟨hl, he⟩ := List.getElem?_eq_some_iff.1 h
  rw [List.take_succ_eq_append_getElem hl, he]
set_option maxRecDepth 100000 in
set_option maxHeartbeats 8000000 in
theorem grid_no (w h : Int) (wx wy : Bool) (g : ¬ gridP w h) (W : World) (bd c n : Nat) :
    Calls Try.prog 33 #[.int .i64 w, .int .i64 h, .bool wx, .bool wy, .slice (some ⟨bd, 0, none⟩) n c] W fun e w' => e = .returned (.tuple #[.int .i64 0, .slice none 0 0, .int .i64 2]) ∧ Below W.heap.size W w' := by
  have G := fun W' => isGrid_n w h g W'
  clear g
  go_enter Try.func33, Try.ntmps33
  go_wp2_with (go_at_call 35; refine (G _).mono ?_; rintro e w' ⟨rfl, rfl⟩)
  go_ret3
  exact ⟨rfl, ((((Below.refl _ _).alloc (Nat.le_refl _) _).alloc (by simp) _).alloc (by simp; try omega) _).alloc (by simp; try omega) _⟩
set_option maxRecDepth 100000 in
set_option maxHeartbeats 8000000 in
theorem grid_yes (w h : Nat) (wx wy : Bool) (g : gridP w h) (ds : List (Nat × Nat)) (hds : ds.length ≤ 3 ∧ ∀ d ∈ ds, d.1 ≤ 1 ∧ d.2 ≤ 1) (W : World) (bd c : Nat) (hbd : bd < W.heap.size)
    (hc : ∀ j d, ds[j]? = some d → W.cell? ⟨bd, j * 2, none⟩ = some (.int .i64 ((d.1 : Nat) : Int)) ∧ W.cell? ⟨bd, j * 2 + 1, none⟩ = some (.int .i64 ((d.2 : Nat) : Int))) :
    Calls Try.prog 33 #[.int .i64 (w : Int), .int .i64 (h : Int), .bool wx, .bool wy, .slice (some ⟨bd, 0, none⟩) ds.length c] W (GRes ((w * h : Nat), 0, gE w h wx wy ds (w * h)) W) := by
  have G := fun W' => isGrid_y w h g W'
  have hw : 1 ≤ w := by have := g.1; omega
  have hh : 1 ≤ h := by have := g.2.1; omega
  have hp : w * h ≤ 4096 := by have := g.2.2; rw [← Int.natCast_mul] at this; omega
  obtain ⟨W4, hW4⟩ : ∃ W4, W4 = (((W.alloc (.cells #[.int .i64 (w : Int)] 3)).alloc (.cells #[.int .i64 (h : Int)] 3)).alloc (.cells #[.bool wx] 4)).alloc (.cells #[.bool wy] 4) := ⟨_, rfl⟩
  have bel : Below W.heap.size W W4 := by rw [hW4]; exact ((((Below.refl _ _).alloc (Nat.le_refl _) _).alloc (by simp) _).alloc (by simp; try omega) _).alloc (by simp; try omega) _
  have cc : W4.cell? ⟨W.heap.size, 0, none⟩ = some (.int .i64 (w : Int)) ∧ W4.cell? ⟨W.heap.size + 1, 0, none⟩ = some (.int .i64 (h : Int)) ∧ W4.cell? ⟨W.heap.size + 1 + 1, 0, none⟩ = some (.bool wx) ∧ W4.cell? ⟨W.heap.size + 1 + 1 + 1, 0, none⟩ = some (.bool wy) := by
    rw [hW4]; simp [go_sem]
  have sz : W4.heap.size = W.heap.size + 4 := by rw [hW4]; simp
  obtain ⟨m, hm⟩ : ∃ m, m = w * h := ⟨_, rfl⟩
  have mulc : (w : Int) * (h : Int) = (m : Int) := by rw [hm, Int.natCast_mul]
  have wmm : IntKind.i64.wrap (m : Int) = (m : Int) := wrapN (by omega)
  have CW : Hid (∀ w', Kp [] W4 w' → w'.cell? ⟨W.heap.size, 0, none⟩ = some (.int .i64 (w : Int)) ∧ w'.cell? ⟨W.heap.size + 1, 0, none⟩ = some (.int .i64 (h : Int)) ∧ w'.cell? ⟨W.heap.size + 1 + 1, 0, none⟩ = some (.bool wx) ∧ w'.cell? ⟨W.heap.size + 1 + 1 + 1, 0, none⟩ = some (.bool wy)) := by
    intro w' k
    obtain ⟨q1, q2, q3, q4⟩ := cc
    refine ⟨?_, ?_, ?_, ?_⟩
    · rw [World.cell?_of_block (w := W4) (k.block W.heap.size (by omega) (by simp))]; exact q1
    · rw [World.cell?_of_block (w := W4) (k.block (W.heap.size + 1) (by omega) (by simp))]; exact q2
    · rw [World.cell?_of_block (w := W4) (k.block (W.heap.size + 1 + 1) (by omega) (by simp))]; exact q3
    · rw [World.cell?_of_block (w := W4) (k.block (W.heap.size + 1 + 1 + 1) (by omega) (by simp))]; exact q4
  have CD : Hid (∀ w', Kp [] W4 w' → ∀ j d, ds[j]? = some d → w'.cell? ⟨bd, j * 2, none⟩ = some (.int .i64 ((d.1 : Nat) : Int)) ∧ w'.cell? ⟨bd, j * 2 + 1, none⟩ = some (.int .i64 ((d.2 : Nat) : Int))) := by
    intro w' k j d hd
    have e : ∀ i, w'.cell? ⟨bd, i, none⟩ = W.cell? ⟨bd, i, none⟩ := fun i => by
      rw [World.cell?_of_block (w := W4) (k.block bd (by omega) (by simp)), World.cell?_of_block (w := W) (bel.block bd hbd)]
    rw [e, e]
    exact hc j d hd
  obtain ⟨pw, hpw⟩ : ∃ pw, pw = W.heap.size := ⟨_, rfl⟩
  obtain ⟨ph, hph⟩ : ∃ ph, ph = W.heap.size + 1 := ⟨_, rfl⟩
  obtain ⟨px, hpx⟩ : ∃ px, px = W.heap.size + 1 + 1 := ⟨_, rfl⟩
  obtain ⟨py, hpy⟩ : ∃ py, py = W.heap.size + 1 + 1 + 1 := ⟨_, rfl⟩
  have HP := hide (show w * h ≤ 4096 from hp)
  have HWH := hide (And.intro hw hh)
  have HM := hide hm
  have HDS := hide hds
  have HBEL := hide bel
  obtain ⟨c1, c2, c3, c4⟩ := cc
  rw [hW4] at c1 c2
  obtain ⟨nd, hnd⟩ : ∃ nd, nd = ds.length := ⟨_, rfl⟩
  have HND := hide hnd
  rw [← hnd]
  have HG : Hid (∀ e w', GRes ((m : Nat), 0, gE w h wx wy ds m) W e w' → GRes ((w * h : Nat), 0, gE w h wx wy ds (w * h)) W e w') := by rw [hm]; exact fun _ _ h => h
  refine Calls.mono (P := Try.prog) ?_ (fun e w' hh => HG.out e w' hh)
  clear g hw hh hp hm hds bel hc hbd c3 c4 hnd HG
  go_enter Try.func33, Try.ntmps33
  go_wp2_with (go_at_call 35; refine (G _).mono ?_; rintro e w' ⟨rfl, rfl⟩)
  rw [← hW4, ← hpy, ← hpx, ← hph, ← hpw]
  rw [← hpy, ← hpx, ← hph, ← hpw] at CW
  clear c1 c2 G
  have bd50 := build50
  have SZ := hide sz
  have HPS := hide (show pw = W.heap.size from hpw)
  clear hpw hph hpx hpy hW4 sz mulc wmm
  go_loopw [11, 27] (fun v x wr => ∃ k : Nat, k ≤ m ∧ x = .int .i64 (k : Int) ∧ Hid (wr.ownsRow W4.heap.size 50 3 v (gE w h wx wy ds k).length (ecs (gE w h wx wy ds k))) ∧ Hid (Kp [] W4 wr)) (fun _ x _ => m - (intOf x).toNat)
  case atStart => exact ⟨0, by omega, rfl, World.ownsRow_nil _ _ _ _, Kp.refl _ _⟩
  case round =>
    obtain ⟨k, hk, rfl, hR, hK⟩ := hrel
    by_cases hkm : k < m
    · have dk : decide (k < m) = true := by simp; omega
      have dki : decide ((k : Int) < (m : Int)) = true := by simp; omega
      have wk : IntKind.i64.wrap ((k : Int) + 1) = ((k + 1 : Nat) : Int) := by have := HP.out; have := HM.out; rw [IntKind.wrap_i64]; omega
      obtain ⟨wo, hwo⟩ : ∃ wo : World, wo = wr := ⟨_, rfl⟩
      rw [← hwo] at hR hK ⊢
      clear hwo
      go_wp2_with fail
      go_loopw [11, 32] (fun v x wr => ∃ j : Nat, j ≤ nd ∧ x = .int .i64 (j : Int) ∧ Hid (wr.ownsRow W4.heap.size 50 3 v (gE w h wx wy ds k ++ (ds.take j).flatMap (edgeAt w h wx wy k)).length (ecs (gE w h wx wy ds k ++ (ds.take j).flatMap (edgeAt w h wx wy k)))) ∧ Hid (Kp [] W4 wr)) (fun _ x _ => nd - (intOf x).toNat)
      case atStart => exact ⟨0, by omega, rfl, by rw [List.take_zero, List.flatMap_nil, List.append_nil]; exact hR, hK⟩
      case round =>
        obtain ⟨j, hj, rfl, hR, hK⟩ := hrel
        by_cases hjd : j < nd
        · have dj : decide (j < nd) = true := by simp; omega
          have dji : decide ((j : Int) < (nd : Int)) = true := by simp; omega
          have wj : IntKind.i64.wrap ((j : Int) + 1) = ((j + 1 : Nat) : Int) := by have := HDS.out; have := HND.out; rw [IntKind.wrap_i64]; omega
          obtain ⟨d, hd⟩ : ∃ d, ds[j]? = some d := ⟨_, List.getElem?_eq_getElem (by rw [← HND.out]; exact hjd)⟩
          obtain ⟨cd0, cd1⟩ := CD.out wr hK.out j d hd
          have HD := hide hd
          clear hd
          generalize hd0 : d.1 = d0 at *
          generalize hd1 : d.2 = d1 at *
          have HD0 := hide hd0
          have HD1 := hide hd1
          clear hd0 hd1
          have KA : Kp [] W4 (wr.alloc (.cells #[.int .i64 (d0 : Int), .int .i64 (d1 : Int)] 56)) := hK.out.trans (Kp.of_below (o := []) ((Below.refl _ _).alloc (Nat.le_refl _) _)) (by simp)
          obtain ⟨q1, q2, q3, q4⟩ := CW.out _ KA
          have hdd : d ∈ ds := List.mem_of_getElem? HD.out
          have BS := beside_t w h k d0 d1 wx wy HWH.out.1 HWH.out.2 HP.out (by rw [← HM.out]; exact hkm) (by have := HDS.out.2 d hdd; rw [HD0.out] at this; exact this.1) (by have := HDS.out.2 d hdd; rw [HD1.out] at this; exact this.2) (wr.alloc (.cells #[.int .i64 (d0 : Int), .int .i64 (d1 : Int)] 56)) pw px ph py q1 q3 q2 q4
          have ED : edgeAt w h wx wy k d = if ((ahd (k % w) d0 w wx).2 && (ahd (k / w) d1 h wy).2) = true then [((k : Int), (((ahd (k / w) d1 h wy).1 : Nat) : Int) * (w : Int) + (((ahd (k % w) d0 w wx).1 : Nat) : Int), 0)] else [] := by unfold edgeAt; rw [HD0.out, HD1.out]
          have TN := hide (take_next HD.out)
          have KL := hide (show (gE w h wx wy ds k ++ (ds.take j).flatMap (edgeAt w h wx wy k)).length ≤ 20000000 by
            have a := gE_len w h wx wy ds k
            have b := flat_len w h wx wy k (ds.take j)
            have c : k * ds.length ≤ 4096 * 3 := Nat.mul_le_mul (by have := HP.out; have := HM.out; omega) HDS.out.1
            rw [List.length_append]
            have := List.length_take_le j ds
            have := HND.out
            have := HDS.out.1
            omega)
          have HKA := hide KA
          clear q1 q2 q3 q4 hdd KA
          generalize ((ahd (k % w) d0 w wx).2 && (ahd (k / w) d1 h wy).2) = bb at BS ED
          generalize (((ahd (k / w) d1 h wy).1 : Nat) : Int) * (w : Int) + (((ahd (k % w) d0 w wx).1 : Nat) : Int) = oo at BS ED
          have HBS := hide BS
          have HED := hide ED
          clear BS ED
          go_wp2_with fail
          refine HBS.out.mono ?_
          rintro e w1 ⟨rfl, bw⟩
          have KB := hide (HKA.out.trans (Kp.of_below (o := []) bw) (by simp))
          have RW := hide (show w1.ownsRow W4.heap.size 50 3 u11 (gE w h wx wy ds k ++ (ds.take j).flatMap (edgeAt w h wx wy k)).length (ecs (gE w h wx wy ds k ++ (ds.take j).flatMap (edgeAt w h wx wy k))) from
            ((Kp.of_below ((Below.refl _ _).alloc (Nat.le_refl _) _) : Kp [] wr _).trans (Kp.of_below (o := []) bw) (by simp)).row hR.out (by simp))
          clear bw HBS HKA hR hK cd0 cd1
          cases bb
          · have NX := hide (show w1.ownsRow W4.heap.size 50 3 u11 (gE w h wx wy ds k ++ (ds.take (j + 1)).flatMap (edgeAt w h wx wy k)).length (ecs (gE w h wx wy ds k ++ (ds.take (j + 1)).flatMap (edgeAt w h wx wy k))) by
              rw [TN.out, List.flatMap_append, List.flatMap_cons, List.flatMap_nil, HED.out]
              simpa using RW.out)
            clear RW TN HED
            go_wp2_with fail
            go_roundw
            case rel => exact ⟨j + 1, by omega, rfl, NX, KB⟩
            case measure => simp [intOf]; omega
          · generalize hl : gE w h wx wy ds k ++ (ds.take j).flatMap (edgeAt w h wx wy k) = ll at *
            have HL := hide hl
            clear hl
            go_wp2_with (at_builtin; refine wpList_push _ rfl _ _ rfl W4.heap.size u11 ll ((k : Int), oo, 0) rfl rfl RW.out KL.out KB.out.size ?_)
            intro v' w' hr hk2
            have NX := hide (show w'.ownsRow W4.heap.size 50 3 v' (gE w h wx wy ds k ++ (ds.take (j + 1)).flatMap (edgeAt w h wx wy k)).length (ecs (gE w h wx wy ds k ++ (ds.take (j + 1)).flatMap (edgeAt w h wx wy k))) by
              rw [TN.out, List.flatMap_append, List.flatMap_cons, List.flatMap_nil, HED.out, ← List.append_assoc, HL.out]
              simpa using hr)
            have KC := hide (hk2 W4 KB.out (Nat.le_refl _))
            clear hr hk2 RW TN HED KB
            go_wp2_with fail
            go_roundw
            case rel => exact ⟨j + 1, by omega, rfl, NX, KC⟩
            case measure => simp [intOf]; omega
        · have : j = nd := by omega
          subst this
          have dj : decide (j < j) = false := by simp
          have dji : decide ((j : Int) < (j : Int)) = false := by simp
          go_wp2_with fail
          go_roundw
          case rel => exact ⟨k + 1, by omega, rfl, by have := hR.out; rw [HND.out, List.take_length] at this; exact this, hK⟩
          case measure => simp [intOf]; omega
    · have : k = m := by omega
      subst this
      have dk : decide (k < k) = false := by simp
      have dki : decide ((k : Int) < (k : Int)) = false := by simp
      have CE := CW.out wr hK.out
      obtain ⟨ce1, ce2, -, -⟩ := CE
      have mulc : (w : Int) * (h : Int) = (k : Int) := by have := HM.out; rw [this, Int.natCast_mul]
      have wmm : IntKind.i64.wrap (k : Int) = (k : Int) := wrapN (by have := HP.out; have := HM.out; omega)
      go_wp2_with fail
      go_ret3
      exact ⟨_, rfl, RdE.of_row hR.out, HBEL.out.trans (hK.out.below (by simp) HBEL.out.size)⟩
end Go.Proofs.Ythgeccmphnppgaa
