/- Plain numbers: a real within the range comes back within one step. No conditions but those that are named. -/
import Derived.Test.YtjdappmapkagjaaCalMath
namespace Go.Proofs.Ytjdappmapkagjaa
namespace Qt
/-- near is within a half. -/
theorem near_half {x d : Int} (hd : 0 < d) : -d ≤ 2 * (x - near x d true * d) ∧ 2 * (x - near x d true * d) ≤ d := by
  obtain ⟨e1, e2, e3⟩ := ediv_facts (x := x) hd
  unfold near
  split
  · rename_i h
    rw [Int.add_mul, Int.one_mul]
    generalize x / d * d = p at *
    rcases h with h | ⟨h, _⟩ <;> omega
  · rename_i h
    have h2 : ¬ d < 2 * (x % d) := fun h3 => h (Or.inl h3)
    generalize x / d * d = p at *
    omega
theorem backR_near {k n x : Int} (hx : -1000000000 ≤ x ∧ x ≤ 1000000000) (h : -n ≤ x - k * n ∧ x - k * n ≤ n) : -n ≤ x - clamp (k * n) (-1000000000) 1000000000 ∧ x - clamp (k * n) (-1000000000) 1000000000 ≤ n := by
  generalize k * n = p at *
  unfold clamp
  repeat' split
  all_goals omega
theorem errR_le {x n z k : Int} (hx : -1000000000 ≤ x ∧ x ≤ 1000000000) (hk : inSc x n z - z = k) (h : -n ≤ x - k * n ∧ x - k * n ≤ n) : errR x n z ≤ n := by
  have hb := backR_near hx h
  unfold errR backR
  rw [hk]
  omega
theorem upD_mul {x d : Int} (hd : 0 < d) : x ≤ upD x d * d ∧ upD x d * d < x + d := by
  obtain ⟨e1, e2, e3⟩ := ediv_facts (x := x + d - 1) hd
  unfold upD
  generalize (x + d - 1) / d * d = p at *
  omega
theorem lt_of_mul {a b d : Int} (hd : 0 < d) (h : a * d < b * d) : a < b := by
  by_cases h1 : a < b
  · exact h1
  · have := Int.mul_le_mul_of_nonneg_right (show b ≤ a by omega) (show 0 ≤ d by omega); omega
theorem numF_mul {w s : Int} (hs : 0 < s) : w ≤ numF w s * s := by
  have h1 := (upD_mul (x := w) hs).1
  have h2 : upD w s ≤ numF w s := by unfold numF; omega
  have := Int.mul_le_mul_of_nonneg_right h2 (show 0 ≤ s by omega)
  omega
/-- ScaleFor's: the zero, and the error of each real of the range. -/
theorem scale_err {l q n u x : Int} (hn : 1 ≤ n) (hl : -1000000000 ≤ l ∧ l ≤ 0) (hq : 0 ≤ q ∧ q ≤ 1000000000) (hw : q - l ≤ n * 255) (hu : u = upD (-l) n) (hx : l ≤ x ∧ x ≤ q) : 0 ≤ u ∧ u ≤ 255 ∧ errR x n (-128 + u) ≤ n := by
  obtain ⟨a1, a2⟩ := upD_mul (x := -l) (d := n) (by omega)
  rw [← hu] at a1 a2
  have hu0 : 0 ≤ u := by have h1 : (-1) * n < u * n := by omega
                         have := lt_of_mul (by omega) h1; omega
  have hu1 : u ≤ 255 := by have h1 : u * n < 256 * n := by omega
                           have := lt_of_mul (by omega) h1; omega
  refine ⟨hu0, hu1, ?_⟩
  obtain ⟨c1, c2⟩ := near_half (x := x) (d := n) (by omega)
  obtain ⟨k, hk⟩ : ∃ k, near x n true = k := ⟨_, rfl⟩
  rw [hk] at c1 c2
  have hlow : -u ≤ k := by
    have h1 : (-u - 1) * n < k * n := by rw [Int.sub_mul, Int.neg_mul]; omega
    have := lt_of_mul (by omega) h1; omega
  by_cases hc : k ≤ 255 - u
  · refine errR_le (k := k) (by omega) ?_ (by omega)
    unfold inSc; rw [hk, sat8_id (by omega)]; omega
  · have hp : (256 - u) * n ≤ k * n := Int.mul_le_mul_of_nonneg_right (by omega) (by omega)
    rw [Int.sub_mul] at hp
    refine errR_le (k := 255 - u) (by omega) ?_ ?_
    · unfold inSc; rw [hk]
      have : sat8 (k + (-128 + u)) = 127 := by unfold sat8; exact clamp_hi (by omega) (by omega) (by omega)
      rw [this]; omega
    · rw [Int.sub_mul]; omega
theorem sym_err {m n x : Int} (hn : 1 ≤ n) (hm : m ≤ n * 127) (hx : -m ≤ x ∧ x ≤ m) (hb : -1000000000 ≤ x ∧ x ≤ 1000000000) : errR x n 0 ≤ n := by
  obtain ⟨c1, c2⟩ := near_half (x := x) (d := n) (by omega)
  obtain ⟨k, hk⟩ : ∃ k, near x n true = k := ⟨_, rfl⟩
  rw [hk] at c1 c2
  have h1 : k < 128 := lt_of_mul (d := n) (by omega) (by omega)
  have h2 : -128 < k := lt_of_mul (d := n) (by omega) (by omega)
  refine errR_le (k := k) hb ?_ (by omega)
  unfold inSc; rw [hk, sat8_id (by omega)]; omega
theorem worst_le (xs : List Int) (n z : Int) (hn : 0 ≤ n) (h : ∀ x ∈ xs, errR x n z ≤ n) : worstR xs n z ≤ n := by
  have : ∀ (xs : List Int) (a : Int), a ≤ n → (∀ x ∈ xs, errR x n z ≤ n) → xs.foldl (fun a x => max a (errR x n z)) a ≤ n := by
    intro xs
    induction xs with
    | nil => intro a ha _; exact ha
    | cons x t ih =>
      intro a ha hx
      exact ih _ (by have := hx x (List.mem_cons_self ..); dsimp only; omega) (fun y hy => hx y (List.mem_cons_of_mem _ hy))
  exact this xs 0 hn h
theorem fold_min_le (xs : List Int) : ∀ (a : Int), (xs.foldl min a ≤ a) ∧ ∀ x ∈ xs, xs.foldl min a ≤ x := by
  induction xs with
  | nil => intro a; exact ⟨Int.le_refl _, fun x hx => by cases hx⟩
  | cons y t ih =>
    intro a
    obtain ⟨h1, h2⟩ := ih (min a y)
    refine ⟨by simp only [List.foldl_cons]; omega, fun x hx => ?_⟩
    simp only [List.foldl_cons]
    rcases List.mem_cons.1 hx with rfl | hx
    · omega
    · exact h2 x hx
theorem fold_max_le (xs : List Int) : ∀ (a : Int), (a ≤ xs.foldl max a) ∧ ∀ x ∈ xs, x ≤ xs.foldl max a := by
  induction xs with
  | nil => intro a; exact ⟨Int.le_refl _, fun x hx => by cases hx⟩
  | cons y t ih =>
    intro a
    obtain ⟨h1, h2⟩ := ih (max a y)
    refine ⟨by simp only [List.foldl_cons]; omega, fun x hx => ?_⟩
    simp only [List.foldl_cons]
    rcases List.mem_cons.1 hx with rfl | hx
    · omega
    · exact h2 x hx
theorem zero_back (n z : Int) (hs : scB n z = true) : toI8 0 n z = z ∧ fromI8 z n z = 0 := by
  obtain ⟨h1, h2, h3, h4⟩ := scB_iff.1 hs
  constructor
  · rw [toI8_c (by decide) hs]
    unfold inSc near
    have h0 : ¬ (n < 2 * (0 % n) ∨ n = 2 * (0 % n) ∧ (true = false ∨ (0 : Int) < 0)) := by simp; omega
    rw [if_neg h0]
    simp
    exact sat8_id ⟨h3, h4⟩
  · rw [fromI8_b hs, sat8_id ⟨h3, h4⟩]
    unfold backR
    rw [Int.sub_self, Int.zero_mul]
    decide
/-- All that FnScales asks of a list that is a range. -/
theorem scales_all {xs : List Int} (h : rngB xs = true) :
    scB (scNum xs) (scZero xs) = true ∧ scB (symNum xs) 0 = true ∧ worstA xs (scNum xs) (scZero xs) ≤ scNum xs ∧ 0 ≤ worstA xs (scNum xs) (scZero xs) ∧ worstA xs (symNum xs) 0 ≤ symNum xs := by
  have hall := allR_mem (rngB_yes h).2
  have hl := leastR_bd hall
  have hq := mostR_bd hall
  have hmin := fold_min_le xs 0
  have hmax := fold_max_le xs 0
  have e1 : scNum xs = numF (mostR xs - leastR xs) 255 := by simp [scNum, h]
  have e2 : scZero xs = sat8 (-128 + upD (-leastR xs) (numF (mostR xs - leastR xs) 255)) := by simp [scZero, h]
  have e3 : symNum xs = numF (max (-leastR xs) (mostR xs)) 127 := by simp [symNum, h]
  rw [← e1] at e2
  have n1 := numF_le (w := mostR xs - leastR xs) (s := 255) (B := 7843138) (by omega) (by omega) (by omega)
  have n2 := (numF_bd (w := mostR xs - leastR xs) (s := 255) (by omega) (by omega) (by omega)).1
  have n3 := numF_mul (w := mostR xs - leastR xs) (s := 255) (by omega)
  have m1 := numF_le (w := max (-leastR xs) (mostR xs)) (s := 127) (B := 7874016) (by omega) (by omega) (by omega)
  have m2 := (numF_bd (w := max (-leastR xs) (mostR xs)) (s := 127) (by omega) (by omega) (by omega)).1
  have m3 := numF_mul (w := max (-leastR xs) (mostR xs)) (s := 127) (by omega)
  rw [← e1] at n1 n2 n3
  rw [← e3] at m1 m2 m3
  have hu := scale_err (l := leastR xs) (q := mostR xs) (n := scNum xs) (u := upD (-leastR xs) (scNum xs)) (x := 0) n2 hl hq n3 rfl (by omega)
  have e4 : scZero xs = -128 + upD (-leastR xs) (scNum xs) := by rw [e2]; exact sat8_id (by omega)
  have s1 : scB (scNum xs) (scZero xs) = true := scB_iff.2 ⟨n2, by omega, by omega, by omega⟩
  have s2 : scB (symNum xs) 0 = true := scB_iff.2 ⟨m2, by omega, by omega, by omega⟩
  have w1 : worstA xs (scNum xs) (scZero xs) = worstR xs (scNum xs) (scZero xs) := by simp [worstA, h, s1]
  have w2 : worstA xs (symNum xs) 0 = worstR xs (symNum xs) 0 := by simp [worstA, h, s2]
  refine ⟨s1, s2, ?_, ?_, ?_⟩
  · rw [w1]
    refine worst_le xs _ _ (by omega) (fun x hx => ?_)
    rw [e4]
    exact (scale_err n2 hl hq n3 rfl ⟨hmin.2 x hx, hmax.2 x hx⟩).2.2
  · rw [w1]; exact (worstR_bd xs _ _ (fun x hx => inB_iff.2 (hall x hx))).1
  · rw [w2]
    refine worst_le xs _ _ (by omega) (fun x hx => ?_)
    have a1 := hmin.2 x hx
    have a2 := hmax.2 x hx
    have b1 : leastR xs ≤ x := a1
    have b2 : x ≤ mostR xs := a2
    exact sym_err m2 m3 (by omega) (hall x hx)
end Qt
end Go.Proofs.Ytjdappmapkagjaa
