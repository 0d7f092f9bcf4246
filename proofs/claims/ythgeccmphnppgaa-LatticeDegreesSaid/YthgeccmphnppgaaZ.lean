/- Degrees: what is counted. -/
import Derived.Test.YthgeccmphnppgaaY
set_option linter.unusedVariables false
set_option linter.unusedSimpArgs false
namespace Go.Proofs.Ythgeccmphnppgaa
open Go.RowKit

def bk (b d z : Nat) : Nat := if d ≤ b then b - d else z - 1
theorem ahd_bk {a b d z : Nat} (ha : a < z) (hb : b < z) (hd : d ≤ 1) (hz : 3 ≤ z) : (ahd a d z true).2 = true ∧ ((ahd a d z true).1 = b ↔ a = bk b d z) := by
  unfold ahd bk
  by_cases q : a + d < z
  · by_cases p : d ≤ b
    · simp [p, q]; omega
    · simp [p, q]; omega
  · by_cases p : d ≤ b
    · simp [p, q, hz]; omega
    · simp [p, q, hz]; omega
theorem bk_lt {b d z : Nat} (hb : b < z) : bk b d z < z := by unfold bk; split <;> omega
def src (w h i : Nat) (d : Nat × Nat) : Nat := bk (i / w) d.2 h * w + bk (i % w) d.1 w
theorem src_lt {w h i : Nat} {d : Nat × Nat} (hw : 1 ≤ w) (hi : i < w * h) : src w h i d < w * h := by
  have x1 : i % w < w := Nat.mod_lt _ (by omega)
  have y1 := yless hw hi
  have b1 := bk_lt (d := d.1) x1
  have b2 := bk_lt (d := d.2) y1
  unfold src
  have := Nat.mul_le_mul_right w (show bk (i / w) d.2 h + 1 ≤ h by omega)
  rw [Nat.add_mul, Nat.one_mul, Nat.mul_comm h w] at this
  omega
theorem tg_src {w h v i : Nat} {d : Nat × Nat} (hw : 3 ≤ w) (hh : 3 ≤ h) (hv : v < w * h) (hi : i < w * h) (ok : okd d) :
    edgeAt w h true true v d = [((v : Int), ((tg w h true true v d : Nat) : Int), 0)] ∧ (tg w h true true v d = i ↔ v = src w h i d) := by
  have hw1 : 1 ≤ w := by omega
  have x1 : v % w < w := Nat.mod_lt _ (by omega)
  have x2 : i % w < w := Nat.mod_lt _ (by omega)
  have y1 := yless hw1 hv
  have y2 := yless hw1 hi
  obtain ⟨o1, o2, o3⟩ := ok
  obtain ⟨p1, p2⟩ := ahd_bk x1 x2 o1 hw
  obtain ⟨q1, q2⟩ := ahd_bk y1 y2 o2 hh
  have b1 := bk_lt (d := d.1) x2
  refine ⟨?_, ?_⟩
  · unfold edgeAt
    rw [if_pos (by rw [p1, q1]; rfl)]
    simp [tg]
  · have s1 : src w h i d % w = bk (i % w) d.1 w := by unfold src; rw [Nat.add_comm, Nat.add_mul_mod_self_right, Nat.mod_eq_of_lt b1]
    have s2 : src w h i d / w = bk (i / w) d.2 h := by unfold src; rw [Nat.add_comm, Nat.add_mul_div_right _ _ (by omega), Nat.div_eq_of_lt b1, Nat.zero_add]
    constructor
    · intro e
      refine coord (w := w) ?_ ?_
      · rw [s1]; refine p2.1 ?_; rw [← tg_x true true v d hw1, e]
      · rw [s2]; refine q2.1 ?_; rw [← tg_y true true v d hw1, e]
    · intro e
      refine coord (w := w) ?_ ?_
      · rw [tg_x _ _ _ _ hw1]; refine p2.2 ?_; rw [e, s1]
      · rw [tg_y _ _ _ _ hw1]; refine q2.2 ?_; rw [e, s2]
theorem flat_v {w h v i : Nat} (hw : 3 ≤ w) (hh : 3 ≤ h) (hv : v < w * h) (hi : i < w * h) : ∀ {ds : List (Nat × Nat)}, (∀ d ∈ ds, okd d) →
    (ds.flatMap (edgeAt w h true true v)).countP (fun t => vn t == i) = (ds.map (fun d => if v = src w h i d then 1 else 0)).sum := by
  intro ds
  induction ds with
  | nil => intro _; rfl
  | cons d ds ih =>
    intro hd
    obtain ⟨e1, e2⟩ := tg_src hw hh hv hi (hd d (by simp))
    rw [List.flatMap_cons, List.countP_append, ih (fun x hx => hd x (by simp [hx])), List.map_cons, List.sum_cons, e1]
    congr 1
    simp only [List.countP_cons, List.countP_nil, vn_c, beq_iff_eq, Nat.zero_add]
    by_cases q : v = src w h i d
    · rw [if_pos q, if_pos (e2.2 q)]
    · rw [if_neg q, if_neg (fun p => q (e2.1 p))]
theorem sum_step (f : Nat × Nat → Nat) (k : Nat) : ∀ ds : List (Nat × Nat), (ds.map (fun d => if f d < k then 1 else 0)).sum + (ds.map (fun d => if k = f d then 1 else 0)).sum = (ds.map (fun d => if f d < k + 1 then 1 else 0)).sum := by
  intro ds
  induction ds with
  | nil => rfl
  | cons d ds ih =>
    simp only [List.map_cons, List.sum_cons]
    rw [← ih]
    have : (if f d < k then 1 else 0) + (if k = f d then 1 else 0) = (if f d < k + 1 then 1 else 0 : Nat) := by
      by_cases a : f d < k
      · rw [if_pos a, if_neg (by omega), if_pos (by omega)]
      · by_cases b : k = f d
        · rw [if_neg a, if_pos b, if_pos (by omega)]
        · rw [if_neg a, if_neg b, if_neg (by omega)]
    omega
theorem sum_zero (f : Nat × Nat → Nat) : ∀ ds : List (Nat × Nat), (ds.map (fun d => if f d < 0 then 1 else 0)).sum = 0 := by
  intro ds
  induction ds with
  | nil => rfl
  | cons d ds ih => simp only [List.map_cons, List.sum_cons]; rw [ih]; simp
theorem gE_succ (w h : Nat) (wx wy : Bool) (ds : List (Nat × Nat)) (k : Nat) : gE w h wx wy ds (k + 1) = gE w h wx wy ds k ++ ds.flatMap (edgeAt w h wx wy k) := rfl
theorem cnt_v {w h i : Nat} (hw : 3 ≤ w) (hh : 3 ≤ h) (hi : i < w * h) {ds : List (Nat × Nat)} (hd : ∀ d ∈ ds, okd d) : ∀ k, k ≤ w * h →
    (gE w h true true ds k).countP (fun t => vn t == i) = (ds.map (fun d => if src w h i d < k then 1 else 0)).sum := by
  intro k
  induction k with
  | zero => intro _; rw [sum_zero]; simp [gE]
  | succ k ih =>
    intro hk
    unfold gE
    rw [List.countP_append, ih (by omega), flat_v hw hh (by omega) hi hd, sum_step]
theorem flat_u {w h v i : Nat} (hw : 3 ≤ w) (hh : 3 ≤ h) (hv : v < w * h) (hi : i < w * h) : ∀ {ds : List (Nat × Nat)}, (∀ d ∈ ds, okd d) →
    (ds.flatMap (edgeAt w h true true v)).countP (fun t => un t == i) = if v = i then ds.length else 0 := by
  intro ds
  induction ds with
  | nil => intro _; simp
  | cons d ds ih =>
    intro hd
    obtain ⟨e1, e2⟩ := tg_src hw hh hv hi (hd d (by simp))
    rw [List.flatMap_cons, List.countP_append, ih (fun x hx => hd x (by simp [hx])), e1]
    simp only [List.countP_cons, List.countP_nil, un_c, beq_iff_eq, Nat.zero_add]
    by_cases q : v = i
    · simp [q]; omega
    · simp [q]
theorem cnt_u {w h i : Nat} (hw : 3 ≤ w) (hh : 3 ≤ h) (hi : i < w * h) {ds : List (Nat × Nat)} (hd : ∀ d ∈ ds, okd d) : ∀ k, k ≤ w * h →
    (gE w h true true ds k).countP (fun t => un t == i) = if i < k then ds.length else 0 := by
  intro k
  induction k with
  | zero => intro _; simp [gE]
  | succ k ih =>
    intro hk
    unfold gE
    rw [List.countP_append, ih (by omega), flat_u hw hh (by omega) hi hd]
    by_cases a : i < k
    · rw [if_pos a, if_neg (by omega), if_pos (by omega), Nat.add_zero]
    · by_cases b : k = i
      · rw [if_neg a, if_pos b, if_pos (by omega), Nat.zero_add]
      · rw [if_neg a, if_neg b, if_neg (by omega)]
theorem sum_all (f : Nat × Nat → Nat) (k : Nat) : ∀ ds : List (Nat × Nat), (∀ d ∈ ds, f d < k) → (ds.map (fun d => if f d < k then 1 else 0)).sum = ds.length := by
  intro ds
  induction ds with
  | nil => intro _; rfl
  | cons d ds ih =>
    intro hd
    simp only [List.map_cons, List.sum_cons, List.length_cons]
    rw [ih (fun x hx => hd x (by simp [hx])), if_pos (hd d (by simp))]
    omega
/-- how many edges are at a vertex -/
def deg (l : List E3) (i : Nat) : Nat := l.countP (fun t => un t == i) + l.countP (fun t => vn t == i)
theorem deg_closed {w h i : Nat} (hw : 3 ≤ w) (hh : 3 ≤ h) (hi : i < w * h) {ds : List (Nat × Nat)} (hd : ∀ d ∈ ds, okd d) : deg (gE w h true true ds (w * h)) i = 2 * ds.length := by
  unfold deg
  rw [cnt_u hw hh hi hd _ (Nat.le_refl _), cnt_v hw hh hi hd _ (Nat.le_refl _), if_pos hi, sum_all _ _ _ (fun d _ => src_lt (by omega) hi)]
  omega
theorem deg_next {l : List E3} {k : Nat} {t : E3} (h : l[k]? = some t) (i : Nat) : deg (l.take (k + 1)) i = deg (l.take k) i + (if un t = i then 1 else 0) + (if vn t = i then 1 else 0) := by
  unfold deg
  rw [take_next h, List.countP_append, List.countP_append]
  simp only [List.countP_cons, List.countP_nil, beq_iff_eq]
  omega
def seen (n : Nat) (l : List E3) (p : Nat) : Bool := l.any (fun t => (un t * n + vn t == p) || (vn t * n + un t == p))
theorem seen_next {n : Nat} {l : List E3} {k : Nat} {t : E3} (h : l[k]? = some t) (p : Nat) : seen n (l.take (k + 1)) p = (seen n (l.take k) p || ((un t * n + vn t == p) || (vn t * n + un t == p))) := by
  unfold seen
  rw [take_next h, List.any_append]
  simp
theorem pair_eq {n a b c d : Nat} (hb : b < n) (hd : d < n) (h : a * n + b = c * n + d) : a = c ∧ b = d := by
  have e1 : (a * n + b) % n = b := by rw [Nat.add_comm, Nat.add_mul_mod_self_right, Nat.mod_eq_of_lt hb]
  have e2 : (c * n + d) % n = d := by rw [Nat.add_comm, Nat.add_mul_mod_self_right, Nat.mod_eq_of_lt hd]
  have e3 : (a * n + b) / n = a := by rw [Nat.add_comm, Nat.add_mul_div_right _ _ (by omega), Nat.div_eq_of_lt hb, Nat.zero_add]
  have e4 : (c * n + d) / n = c := by rw [Nat.add_comm, Nat.add_mul_div_right _ _ (by omega), Nat.div_eq_of_lt hd, Nat.zero_add]
  rw [h] at e1 e3
  exact ⟨by rw [← e3, e4], by rw [← e1, e2]⟩
theorem seen_fresh {n : Nat} {l : List E3} (hok : ∀ t ∈ l, un t < n ∧ vn t < n) (hp : l.Pairwise (fun s t => ¬ alike s t)) {k : Nat} {t : E3} (h : l[k]? = some t) : seen n (l.take k) (un t * n + vn t) = false := by
  unfold seen
  rw [List.any_eq_false]
  intro s hs
  have ht := hok t (List.mem_of_getElem? h)
  have hs2 := hok s (List.mem_of_mem_take hs)
  obtain ⟨j, hj, rfl⟩ := List.getElem_of_mem hs
  obtain ⟨hk, rfl⟩ := List.getElem?_eq_some_iff.1 h
  have hjk : j < k := by simp at hj; omega
  have al := (List.pairwise_iff_getElem.1 hp) j k (by omega) hk hjk
  simp only [List.getElem_take] at hs2 ⊢
  simp only [Bool.or_eq_true, beq_iff_eq, not_or]
  refine ⟨fun e => al (.inl ?_), fun e => al (.inr ?_)⟩
  · exact pair_eq hs2.2 ht.2 e
  · have := pair_eq hs2.1 ht.2 e; exact ⟨this.2, this.1⟩
theorem row_len (w h : Nat) (t : Bool) (hw : 1 ≤ w) (r : Nat) (hr : r < h) : ∀ j, j ≤ w → (gE w h false false (dOf t) (r * w + j)).length = (gE w h false false (dOf t) (r * w)).length + min j (w - 1) + (if r + 1 < h then j else 0) + (if t = true ∧ r + 1 < h then min j (w - 1) else 0) := by
  intro j
  induction j with
  | zero => intro _; simp
  | succ j ih =>
    intro hj
    have e1 : (r * w + j) % w = j := by rw [Nat.add_comm, Nat.add_mul_mod_self_right, Nat.mod_eq_of_lt (by omega)]
    have e2 : (r * w + j) / w = r := by rw [Nat.add_comm, Nat.add_mul_div_right _ _ (by omega), Nat.div_eq_of_lt (by omega), Nat.zero_add]
    rw [← Nat.add_assoc, gE_succ, List.length_append, ih (by omega)]
    have el : ∀ d, (edgeAt w h false false (r * w + j) d).length = if j + d.1 < w ∧ r + d.2 < h then 1 else 0 := by
      intro d
      unfold edgeAt ahd
      rw [e1, e2]
      by_cases a : j + d.1 < w <;> by_cases b : r + d.2 < h <;> simp [a, b]
    have hjw : j < w := by omega
    clear ih
    generalize (gE w h false false (dOf t) (r * w)).length = G
    cases t
    · simp only [dOf, dsq, if_neg (show ¬ false = true by simp), List.flatMap_cons, List.flatMap_nil, List.length_append, List.length_nil, el]
      by_cases a : j + 1 < w <;> by_cases b : r + 1 < h <;> simp [a, b, hr, hjw] <;> omega
    · simp only [dOf, dtri, if_true, List.flatMap_cons, List.flatMap_nil, List.length_append, List.length_nil, el]
      by_cases a : j + 1 < w <;> by_cases b : r + 1 < h <;> simp [a, b, hr, hjw] <;> omega
theorem all_len (w h : Nat) (t : Bool) (hw : 1 ≤ w) : ∀ r, r ≤ h → (gE w h false false (dOf t) (r * w)).length = r * (w - 1) + min r (h - 1) * w + (if t = true then min r (h - 1) * (w - 1) else 0) := by
  intro r
  induction r with
  | zero => intro _; simp [gE]
  | succ r ih =>
    intro hr
    have e : (r + 1) * w = r * w + w := by rw [Nat.add_mul, Nat.one_mul]
    rw [e, row_len w h t hw r (by omega) w (Nat.le_refl _), ih (by omega)]
    have e2 : (r + 1) * (w - 1) = r * (w - 1) + (w - 1) := by rw [Nat.add_mul, Nat.one_mul]
    rw [e2]
    by_cases b : r + 1 < h
    · rw [show min r (h - 1) = r by omega, show min (r + 1) (h - 1) = r + 1 by omega, e, e2, show min w (w - 1) = w - 1 by omega]
      cases t <;> simp [b] <;> omega
    · rw [show min r (h - 1) = r by omega, show min (r + 1) (h - 1) = r by omega, show min w (w - 1) = w - 1 by omega]
      cases t <;> simp [b] <;> omega
theorem open_len (w h : Nat) (t : Bool) (hw : 1 ≤ w) (hh : 1 ≤ h) : (gE w h false false (dOf t) (w * h)).length = w * (h - 1) + h * (w - 1) + (if t = true then (w - 1) * (h - 1) else 0) := by
  rw [Nat.mul_comm w h, all_len w h t hw h (Nat.le_refl _), show min h (h - 1) = h - 1 by omega, Nat.mul_comm (h - 1) w, Nat.mul_comm (h - 1) (w - 1)]
  omega
end Go.Proofs.Ythgeccmphnppgaa
