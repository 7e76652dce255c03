/- What BestSpan (of the program and of its model) gives when it is called. Conditions: the slice reads as the list that is named. -/
import Derived.Test.YtfihjehpkpminaaBestS
namespace Go.Proofs.Ytfihjehpkpminaa
open Go.RowKit Go.Sort
set_option linter.unusedSimpArgs false
set_option linter.unusedVariables false
namespace Qt
def bestA (xs : List Int) (k : Int) : Int := if jobsB xs && (decide (xs.length ≤ 8) && inB 1 3 k) then bspan xs (List.replicate k.toNat 0) else -1
theorem bestA_a {xs : List Int} {k : Int} (h : jobsB xs = false) : bestA xs k = -1 := by simp [bestA, h]
theorem bestA_b {xs : List Int} {k : Int} (h : ¬ xs.length ≤ 8) : bestA xs k = -1 := by simp [bestA, h]
theorem bestA_c {xs : List Int} {k : Int} (h : inB 1 3 k = false) : bestA xs k = -1 := by simp [bestA, h]
theorem bestA_d {xs : List Int} {k : Int} (h : jobsB xs = true) (h2 : xs.length ≤ 8) (h3 : inB 1 3 k = true) : bestA xs k = bspan xs (List.replicate k.toNat 0) := by simp [bestA, h, h2, h3]
theorem capL_zero (n : Nat) : capL (List.replicate n 0) 0 := fun x hx => by rw [List.eq_of_mem_replicate hx]; omega
theorem lc_made (n : Nat) (hn : 1 ≤ n ∧ n ≤ 3) : madeCells #[.int .i64 0] n = Lc (List.replicate n 0) := by
  apply Array.toList_inj.1
  rw [toList_madeCells_one]
  simp [Lc]
theorem bk_made (n : Nat) (hn : 1 ≤ n ∧ n ≤ 3) (W : World) : Bk (W.alloc (.cells (madeCells #[.int .i64 0] n) 3)) W.heap.size 3 (Lc (List.replicate n 0)) := by
  rw [← lc_made n hn]; exact Bk.new W _ _
theorem Bk.rdL0 {w : World} {g n : Nat} (h : Bk w g 3 (Lc (List.replicate n 0))) : RdI w (some ⟨g, 0, none⟩) n (List.replicate n 0) :=
  ⟨by simp, fun _ => ⟨g, 0, rfl, h.lt, fun j hj => by
    have := h.cell j (Lc_get (L := List.replicate n 0) (by simpa using hj))
    simpa using this⟩⟩
set_option maxRecDepth 10000 in
set_option maxHeartbeats 1000000 in
theorem bestSpanI (A : Option Addr) (n p : Nat) (xs : List Int) (wk : Int) (W : World) (hr : RdI W A n xs) (hp : n ≤ p) (hn : n ≤ 1048576) :
    Calls Try.prog 37 #[.slice A n p, .int .i64 wk] W fun e W' => e = .returned (.int .i64 (bestA xs wk)) ∧ Below W.heap.size W W' := by
  obtain ⟨R, hR⟩ : ∃ R, R = bestA xs wk := ⟨_, rfl⟩
  rw [← hR]
  have HR := Lib.hid hR
  have RA := Lib.hid hr
  have HN := Lib.hid hn
  have HLN := Lib.hid hr.1
  have Bl := Lib.hid (Below.refl W.heap.size W)
  have hn1 : (n : Int) ≤ 1048576 := by omega
  clear hR hr hn
  go_enter Try.func37, Try.ntmps37
  go_wp2_with fail
  refine (jobsOkI A n p xs _ RA.out HN.out).mono ?_
  rintro e w1 ⟨rfl, bb⟩
  replace RA := Lib.hid (RA.out.of_below bb)
  replace Bl := Lib.hid (Bl.out.trans (bb.mono Bl.out.size))
  clear bb
  rcases hj : jobsB xs with _ | _
  · obtain rfl : R = -1 := by rw [HR.out]; exact bestA_a hj
    clear hj
    go_wp2_with fail
    go_ret
    exact ⟨rfl, Bl.out⟩
  have HJ := Lib.hid hj
  clear hj
  by_cases hl : n ≤ 8
  case neg =>
    obtain rfl : R = -1 := by rw [HR.out]; exact bestA_b (by rw [HLN.out]; exact hl)
    have hl2 : (8 : Int) < (n : Int) := by omega
    clear hl
    go_wp2_with fail
    go_ret
    exact ⟨rfl, Bl.out⟩
  have hl2 : (n : Int) ≤ 8 := by omega
  go_wp2_with fail
  refine (inside1I 1 3 wk _ _ _ (Bk.new w1 3 #[.int .i64 wk])).mono ?_
  rintro e w2 ⟨rfl, bb⟩
  replace RA := Lib.hid (RA.out.of_below (after1 bb))
  replace Bl := Lib.hid (Bl.out.trans ((after1 bb).mono Bl.out.size))
  clear bb
  rcases hk : inB 1 3 wk with _ | _
  · obtain rfl : R = -1 := by rw [HR.out]; exact bestA_c hk
    clear hk
    go_wp2_with fail
    go_ret
    exact ⟨rfl, Bl.out⟩
  have HRR := Lib.hid (HR.out.trans (bestA_d HJ.out (by rw [HLN.out]; exact hl) hk))
  have hk2 := inB_iff.1 hk
  obtain ⟨K, rfl⟩ : ∃ K : Nat, wk = K := ⟨wk.toNat, by omega⟩
  have hK : 1 ≤ K ∧ K ≤ 3 := by omega
  have hmk := makeI K (by omega) w2
  clear hk
  go_wp2_with fail
  clear hmk
  have KB := bk_made K hK w2
  have hgl := RA.out
  have hal := (Below.refl w2.heap.size w2).alloc (Nat.le_refl _) (.cells (madeCells #[.int .i64 0] K) 3)
  have HB := bestI xs A n p (List.replicate K 0) w2.heap.size 0 _ (RA.out.of_below hal) hp hl (jobsB_mem HJ.out) (by simpa using hK) (capL_zero K) (by omega) KB (fun h0 a ha => by
    intro hb
    obtain ⟨b, off, e, hlt, _⟩ := RA.out.2 h0
    rw [e] at ha; cases ha
    simp only at hb
    omega)
  rw [List.length_replicate] at HB
  have HBB := Lib.hid HB
  have Bl2 := Lib.hid (Bl.out.trans (hal.mono Bl.out.size))
  clear HB KB hgl
  refine HBB.out.mono ?_
  rintro e w3 ⟨rfl, bb⟩
  have Bl3 := Lib.hid (Bl2.out.trans (bb.mono Bl2.out.size))
  clear bb hal HBB Bl Bl2
  go_wp2_with fail
  go_ret
  exact ⟨ret_int HRR.out.symm, Bl3.out⟩
set_option maxRecDepth 10000 in
set_option maxHeartbeats 1000000 in
theorem bestSpanS (A : Option Addr) (n p : Nat) (xs : List Int) (wk : Int) (W : World) (hr : RdI W A n xs) (hn : n ≤ 1048576) :
    Calls Try.prog 36 #[.slice A n p, .int .i64 wk] W fun e W' => e = .returned (.int .i64 (bestA xs wk)) ∧ Below W.heap.size W W' := by
  obtain ⟨R, hR⟩ : ∃ R, R = bestA xs wk := ⟨_, rfl⟩
  rw [← hR]
  have HR := Lib.hid hR
  have RA := Lib.hid hr
  have HN := Lib.hid hn
  have HLN := Lib.hid hr.1
  have Bl := Lib.hid (Below.refl W.heap.size W)
  have hn1 : (n : Int) ≤ 1048576 := by omega
  clear hR hr hn
  go_enter Try.func36, Try.ntmps36
  go_wp2_with fail
  refine (jobsOkSB A n p xs _ RA.out HN.out).mono ?_
  rintro e w1 ⟨rfl, bb⟩
  replace RA := Lib.hid (RA.out.of_below bb)
  replace Bl := Lib.hid (Bl.out.trans (bb.mono Bl.out.size))
  clear bb
  rcases hj : jobsB xs with _ | _
  · obtain rfl : R = -1 := by rw [HR.out]; exact bestA_a hj
    clear hj
    go_wp2_with fail
    go_ret
    exact ⟨rfl, Bl.out⟩
  have HJ := Lib.hid hj
  clear hj
  by_cases hl : n ≤ 8
  case neg =>
    obtain rfl : R = -1 := by rw [HR.out]; exact bestA_b (by rw [HLN.out]; exact hl)
    have hl2 : (8 : Int) < (n : Int) := by omega
    clear hl
    go_wp2_with fail
    go_ret
    exact ⟨rfl, Bl.out⟩
  have hl2 : (n : Int) ≤ 8 := by omega
  go_wp2_with fail
  refine (inS 1 3 wk _).mono ?_
  rintro e w2 ⟨rfl, rfl⟩
  rcases hk : inB 1 3 wk with _ | _
  · obtain rfl : R = -1 := by rw [HR.out]; exact bestA_c hk
    clear hk
    go_wp2_with fail
    go_ret
    exact ⟨rfl, Bl.out⟩
  have HRR := Lib.hid (HR.out.trans (bestA_d HJ.out (by rw [HLN.out]; exact hl) hk))
  have hk2 := inB_iff.1 hk
  obtain ⟨K, rfl⟩ : ∃ K : Nat, wk = K := ⟨wk.toNat, by omega⟩
  have hK : 1 ≤ K ∧ K ≤ 3 := by omega
  have hmk := makeI K (by omega) w1
  clear hk
  go_wp2_with fail
  clear hmk
  have KB := bk_made K hK w1
  have hgl := RA.out
  have hal := (Below.refl w1.heap.size w1).alloc (Nat.le_refl _) (.cells (madeCells #[.int .i64 0] K) 3)
  have HB := bestS n xs 0 A n p (some ⟨w1.heap.size, 0, none⟩) K K (List.replicate K 0) 0 _ (RA.out.of_below hal) (by omega) hl (jobsB_mem HJ.out) KB.rdL0 hK (goodL_zero K) (capL_zero K) (by omega)
  rw [List.drop_zero] at HB
  have HBB := Lib.hid HB
  have Bl2 := Lib.hid (Bl.out.trans (hal.mono Bl.out.size))
  clear HB KB hgl
  refine HBB.out.mono ?_
  rintro e w3 ⟨rfl, bb⟩
  have Bl3 := Lib.hid (Bl2.out.trans (bb.mono Bl2.out.size))
  clear bb hal HBB Bl Bl2
  go_wp2_with fail
  go_ret
  exact ⟨ret_int HRR.out.symm, Bl3.out⟩
end Qt
end Go.Proofs.Ytfihjehpkpminaa
