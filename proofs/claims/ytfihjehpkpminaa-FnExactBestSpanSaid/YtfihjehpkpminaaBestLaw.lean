/- The law of BestSpan returns true and writes nothing that was there, when its slice reads as a list. -/
import Derived.Test.YtfihjehpkpminaaBestA
namespace Go.Proofs.Ytfihjehpkpminaa
open Go.RowKit Go.Sort
set_option linter.unusedSimpArgs false
set_option linter.unusedVariables false
namespace Qt
set_option maxHeartbeats 1000000 in
theorem bestLaw (A : Option Addr) (n p : Nat) (xs : List Int) (wk : Int) (W : World) (hr : RdI W A n xs) :
    Calls Try.prog 9 #[.slice A n p, .int .i64 wk] W fun e W' => e = .returned (.bool true) ∧ Below W.heap.size W W' := by
  have RA := Lib.hid hr
  have Bl := Lib.hid (Below.refl W.heap.size W)
  clear hr
  go_enter Try.func9, Try.ntmps9
  by_cases h0 : (1048576 : Int) < (n : Int)
  · go_wp2_with fail
    go_ret
    exact ⟨rfl, Below.refl _ _⟩
  have HN : Hid (n ≤ 1048576) := Lib.hid (by omega)
  go_wp2_with fail
  refine (toIntS_any _ _ _ xs _ RA.out HN.out).mono ?_
  rintro e u1 ⟨ga, rfl, r1, bb⟩
  replace RA := Lib.hid (RA.out.of_below bb)
  replace Bl := Lib.hid (Bl.out.trans (bb.mono Bl.out.size))
  have Ra := Lib.hid r1
  clear r1
  clear bb
  go_wp2_with fail
  have HS := fun w h => bestSpanS (some ⟨ga, 0, none⟩) n n xs wk w h HN.out
  have HI := fun g w h => bestSpanI (some ⟨g, 0, none⟩) n n xs wk w h (Nat.le_refl _) HN.out
  generalize bestA xs wk = b at HS HI
  have HS := Lib.hid HS; have HI := Lib.hid HI
  refine (HS.out _ Ra.out).mono ?_
  rintro e u2 ⟨rfl, bb⟩
  replace RA := Lib.hid (RA.out.of_below bb)
  replace Ra := Lib.hid (Ra.out.of_below bb)
  replace Bl := Lib.hid (Bl.out.trans (bb.mono Bl.out.size))
  clear bb
  go_wp2_with fail
  clear Ra HS
  refine (toIntS_any _ _ _ xs _ RA.out HN.out).mono ?_
  rintro e u3 ⟨gb, rfl, r1, bb⟩
  replace RA := Lib.hid (RA.out.of_below bb)
  replace Bl := Lib.hid (Bl.out.trans (bb.mono Bl.out.size))
  have Rb := Lib.hid r1
  clear r1
  clear bb
  go_wp2_with fail
  refine (HI.out _ _ Rb.out).mono ?_
  rintro e u4 ⟨rfl, bb⟩
  replace RA := Lib.hid (RA.out.of_below bb)
  replace Rb := Lib.hid (Rb.out.of_below bb)
  replace Bl := Lib.hid (Bl.out.trans (bb.mono Bl.out.size))
  clear bb
  go_wp2_with fail
  refine (toIntS_any _ _ _ xs _ RA.out HN.out).mono ?_
  rintro e u5 ⟨gc, rfl, r1, bb⟩
  replace RA := Lib.hid (RA.out.of_below bb)
  replace Rb := Lib.hid (Rb.out.of_below bb)
  replace Bl := Lib.hid (Bl.out.trans (bb.mono Bl.out.size))
  have Rc := Lib.hid r1
  clear r1
  clear bb
  go_wp2_with fail
  refine (eqIntS_same _ _ _ _ _ xs _ Rb.out Rc.out HN.out).mono ?_
  rintro e u6 ⟨rfl, mm, hmm⟩
  have bb := below_drewN (Below.refl u5.heap.size u5) mm
  rw [← hmm] at bb
  clear hmm
  replace RA := Lib.hid (RA.out.of_below bb)
  replace Rb := Lib.hid (Rb.out.of_below bb)
  replace Rc := Lib.hid (Rc.out.of_below bb)
  replace Bl := Lib.hid (Bl.out.trans (bb.mono Bl.out.size))
  clear bb
  go_wp2_with fail
  go_ret
  exact ⟨rfl, Bl.out⟩
end Qt
end Go.Proofs.Ytfihjehpkpminaa
