/- Degrees: no edge twice, how many there are, how many are at each vertex. -/
import Derived.Test.YthgeccmphnppgaaX
set_option linter.unusedVariables false
set_option linter.unusedSimpArgs false
namespace Go.Proofs.Ythgeccmphnppgaa
open Go.RowKit

def un (t : E3) : Nat := t.1.toNat
def vn (t : E3) : Nat := t.2.1.toNat
theorem un_c (a b : Nat) (c : Int) : un ((a : Int), (b : Int), c) = a := Int.toNat_natCast a
theorem vn_c (a b : Nat) (c : Int) : vn ((a : Int), (b : Int), c) = b := Int.toNat_natCast b
theorem ahd_inj {x d e z : Nat} {c : Bool} (hx : x < z) (hd : d ≤ 1) (he : e ≤ 1) (p : (ahd x d z c).2 = true) (q : (ahd x e z c).2 = true) (h : (ahd x d z c).1 = (ahd x e z c).1) : d = e := by
  unfold ahd at *
  by_cases a : x + d < z <;> by_cases b : x + e < z <;> simp [a, b] at p q h <;> omega
theorem ahd_zero {x z : Nat} {c : Bool} (hx : x < z) : ahd x 0 z c = (x, true) := by unfold ahd; simp [hx]
theorem ahd_back {x y d e z : Nat} {c : Bool} (hx : x < z) (hd : d ≤ 1) (he : e ≤ 1) (p : (ahd x d z c).2 = true) (hy : (ahd x d z c).1 = y) (q : (ahd y e z c).2 = true) (h : (ahd y e z c).1 = x) : d = 0 := by
  unfold ahd at *
  by_cases a : x + d < z <;> by_cases b : y + e < z <;> simp [a, b] at p q h hy <;> omega
/-- where an edge of v leads -/
def tg (w h : Nat) (wx wy : Bool) (v : Nat) (d : Nat × Nat) : Nat := (ahd (v / w) d.2 h wy).1 * w + (ahd (v % w) d.1 w wx).1
theorem edge_mem {w h : Nat} {wx wy : Bool} {v : Nat} {d : Nat × Nat} {t : E3} (ht : t ∈ edgeAt w h wx wy v d) : t = ((v : Int), ((tg w h wx wy v d : Nat) : Int), 0) ∧ (ahd (v % w) d.1 w wx).2 = true ∧ (ahd (v / w) d.2 h wy).2 = true := by
  unfold edgeAt at ht
  split at ht
  · rename_i hh
    simp at ht hh
    exact ⟨by rw [ht]; simp [tg], hh⟩
  · simp at ht
theorem tg_x {w h : Nat} (wx wy : Bool) (v : Nat) (d : Nat × Nat) (hw : 1 ≤ w) : tg w h wx wy v d % w = (ahd (v % w) d.1 w wx).1 := by
  unfold tg
  rw [Nat.add_comm, Nat.add_mul_mod_self_right, Nat.mod_eq_of_lt (ahd_lt (by omega))]
theorem tg_y {w h : Nat} (wx wy : Bool) (v : Nat) (d : Nat × Nat) (hw : 1 ≤ w) : tg w h wx wy v d / w = (ahd (v / w) d.2 h wy).1 := by
  unfold tg
  rw [Nat.add_comm, Nat.add_mul_div_right _ _ (by omega), Nat.div_eq_of_lt (ahd_lt (by omega)), Nat.zero_add]
theorem tg_lt {w h : Nat} (wx wy : Bool) (v : Nat) (d : Nat × Nat) (hw : 1 ≤ w) (hh : 1 ≤ h) : tg w h wx wy v d < w * h := by
  rw [Nat.mul_comm, ← Nat.div_lt_iff_lt_mul (by omega), tg_y _ _ _ _ hw]
  exact ahd_lt (by omega)
def okd (d : Nat × Nat) : Prop := d.1 ≤ 1 ∧ d.2 ≤ 1 ∧ 1 ≤ d.1 + d.2
theorem dOf_okd (t : Bool) : ∀ d ∈ dOf t, okd d := by
  intro d hd
  unfold okd
  cases t
  · simp [dOf, dsq] at hd
    rcases hd with rfl | rfl <;> simp
  · simp [dOf, dtri] at hd
    rcases hd with rfl | rfl | rfl <;> simp
theorem dOf_pw (t : Bool) : (dOf t).Pairwise (fun a b => a ≠ b) := by
  cases t
  · simp [dOf, dsq]
  · simp [dOf, dtri]
def alike (s t : E3) : Prop := (un s = un t ∧ vn s = vn t) ∨ (un s = vn t ∧ vn s = un t)
theorem yless {v w h : Nat} (hw : 1 ≤ w) (hv : v < w * h) : v / w < h := by rw [Nat.div_lt_iff_lt_mul (by omega), Nat.mul_comm]; exact hv
theorem coord {w a b : Nat} (h1 : a % w = b % w) (h2 : a / w = b / w) : a = b := by rw [← Nat.div_add_mod a w, ← Nat.div_add_mod b w, h1, h2]
theorem edges_apart {w h v v' : Nat} {wx wy : Bool} {d d' : Nat × Nat} (hw : 1 ≤ w) (hh : 1 ≤ h) (hv : v < w * h) (hv' : v' < w * h) (ok : okd d) (ok' : okd d') {s t : E3} (hs : s ∈ edgeAt w h wx wy v d) (ht : t ∈ edgeAt w h wx wy v' d') (al : alike s t) : v = v' ∧ d = d' := by
  obtain ⟨rfl, s1, s2⟩ := edge_mem hs
  obtain ⟨rfl, t1, t2⟩ := edge_mem ht
  have x1 : v % w < w := Nat.mod_lt _ (by omega)
  have y1 := yless hw hv
  obtain ⟨o1, o2, o3⟩ := ok
  obtain ⟨q1, q2, q3⟩ := ok'
  rcases al with ⟨a1, a2⟩ | ⟨a1, a2⟩
  · simp only [un_c, vn_c] at a1 a2
    subst a1
    refine ⟨rfl, ?_⟩
    have e1 := congrArg (· % w) a2
    have e2 := congrArg (· / w) a2
    simp only [tg_x _ _ _ _ hw, tg_y _ _ _ _ hw] at e1 e2
    exact Prod.ext (ahd_inj x1 o1 q1 s1 t1 e1) (ahd_inj y1 o2 q2 s2 t2 e2)
  · simp only [un_c, vn_c] at a1 a2
    exfalso
    have e1 := congrArg (· % w) a1
    have e2 := congrArg (· / w) a1
    have e3 := congrArg (· % w) a2
    have e4 := congrArg (· / w) a2
    simp only [tg_x _ _ _ _ hw, tg_y _ _ _ _ hw] at e1 e2 e3 e4
    have r1 := ahd_back x1 o1 q1 s1 e3 t1 e1.symm
    have r2 := ahd_back y1 o2 q2 s2 e4 t2 e2.symm
    omega
theorem edge_loop {w h v : Nat} {wx wy : Bool} {d : Nat × Nat} (hw : 1 ≤ w) (hh : 1 ≤ h) (hv : v < w * h) (ok : okd d) {s : E3} (hs : s ∈ edgeAt w h wx wy v d) : un s < w * h ∧ vn s < w * h ∧ un s ≠ vn s ∧ s = ((un s : Int), (vn s : Int), 0) := by
  obtain ⟨rfl, s1, s2⟩ := edge_mem hs
  have x1 : v % w < w := Nat.mod_lt _ (by omega)
  have y1 := yless hw hv
  obtain ⟨o1, o2, o3⟩ := ok
  rw [un_c, vn_c]
  refine ⟨hv, tg_lt wx wy v d hw hh, ?_, rfl⟩
  intro e
  have e1 := congrArg (· % w) e
  have e2 := congrArg (· / w) e
  simp only [tg_x _ _ _ _ hw, tg_y _ _ _ _ hw] at e1 e2
  have z1 := ahd_zero (c := wx) x1
  have z2 := ahd_zero (c := wy) y1
  have r1 := ahd_inj x1 o1 (Nat.zero_le 1) s1 (by rw [z1]) (by rw [z1]; exact e1.symm)
  have r2 := ahd_inj y1 o2 (Nat.zero_le 1) s2 (by rw [z2]) (by rw [z2]; exact e2.symm)
  omega
theorem flat_pw {w h v : Nat} {wx wy : Bool} (hw : 1 ≤ w) (hh : 1 ≤ h) (hv : v < w * h) : ∀ {ds : List (Nat × Nat)}, (∀ d ∈ ds, okd d) → ds.Pairwise (fun a b => a ≠ b) → (ds.flatMap (edgeAt w h wx wy v)).Pairwise (fun s t => ¬ alike s t) := by
  intro ds
  induction ds with
  | nil => intro _ _; simp
  | cons d ds ih =>
    intro hd hp
    rw [List.flatMap_cons, List.pairwise_append]
    rw [List.pairwise_cons] at hp
    refine ⟨?_, ih (fun x hx => hd x (by simp [hx])) hp.2, ?_⟩
    · unfold edgeAt
      split <;> simp
    · intro s hs t ht al
      rw [List.mem_flatMap] at ht
      obtain ⟨d', hd', ht⟩ := ht
      exact hp.1 d' hd' (edges_apart hw hh hv hv (hd d (by simp)) (hd d' (by simp [hd'])) hs ht al).2
theorem gE_mem {w h : Nat} {wx wy : Bool} {ds : List (Nat × Nat)} : ∀ {n : Nat} {t : E3}, t ∈ gE w h wx wy ds n → ∃ v d, v < n ∧ d ∈ ds ∧ t ∈ edgeAt w h wx wy v d := by
  intro n
  induction n with
  | zero => intro t ht; simp [gE] at ht
  | succ n ih =>
    intro t ht
    unfold gE at ht
    rw [List.mem_append, List.mem_flatMap] at ht
    rcases ht with ht | ⟨d, hd, ht⟩
    · obtain ⟨v, d, h1, h2⟩ := ih ht
      exact ⟨v, d, by omega, h2⟩
    · exact ⟨n, d, by omega, hd, ht⟩
theorem gE_pw {w h : Nat} {wx wy : Bool} (hw : 1 ≤ w) (hh : 1 ≤ h) {ds : List (Nat × Nat)} (hd : ∀ d ∈ ds, okd d) (hp : ds.Pairwise (fun a b => a ≠ b)) : ∀ n, n ≤ w * h → (gE w h wx wy ds n).Pairwise (fun s t => ¬ alike s t) := by
  intro n
  induction n with
  | zero => intro _; simp [gE]
  | succ n ih =>
    intro hn
    unfold gE
    rw [List.pairwise_append]
    refine ⟨ih (by omega), flat_pw hw hh (by omega) hd hp, ?_⟩
    intro s hs t ht al
    obtain ⟨v, d, h1, h2, h3⟩ := gE_mem hs
    rw [List.mem_flatMap] at ht
    obtain ⟨d', hd', ht⟩ := ht
    have := (edges_apart hw hh (by omega) (by omega) (hd d h2) (hd d' hd') h3 ht al).1
    omega
theorem gE_ok {w h : Nat} {wx wy : Bool} (hw : 1 ≤ w) (hh : 1 ≤ h) {ds : List (Nat × Nat)} (hd : ∀ d ∈ ds, okd d) {t : E3} (ht : t ∈ gE w h wx wy ds (w * h)) : un t < w * h ∧ vn t < w * h ∧ un t ≠ vn t ∧ t = ((un t : Int), (vn t : Int), 0) := by
  obtain ⟨v, d, h1, h2, h3⟩ := gE_mem ht
  exact edge_loop hw hh h1 (hd d h2) h3
end Go.Proofs.Ythgeccmphnppgaa
