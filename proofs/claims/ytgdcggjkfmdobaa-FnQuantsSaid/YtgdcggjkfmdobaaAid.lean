/- Small helpers of every law: whether its bytes are many, one byte of them, and that they can still be read behind other calls. -/
import Derived.Test.YtgdcggjkfmdobaaNew
namespace Go.Proofs.Ytgdcggjkfmdobaa
open Go.RowKit
namespace Qt
theorem bigC (A : Option Addr) (n c : Nat) (w : World) : Calls Try.prog 4 #[.slice A n c] w fun e w' => e = .returned (.bool (decide ((1048576 : Int) < (n : Int)))) ∧ w = w' := by
  go_enter Try.func4, Try.ntmps4
  go_wp2
  go_ret
  exact ⟨rfl, rfl⟩
theorem RdB.more {w w' : World} {B B' : Nat} {A : Option Addr} {n : Nat} (h : RdB w B A n) (hb : Below B w w') (hB : B ≤ B') : RdB w' B' A n := fun hn => by
  obtain ⟨b, off, e, hlt, hc⟩ := (h.of_block (w' := w') hb.block) hn
  exact ⟨b, off, e, by omega, hc⟩
/-- One byte, or a number made of the place where there is none. -/
theorem atC (A : Option Addr) (n c : Nat) (I : Int) (w : World) (hr : RdB w w.heap.size A n) (hn : n ≤ 1048577) (h0 : 0 ≤ I) (h64 : I ≤ 64) :
    Calls Try.prog 14 #[.slice A n c, .int .i64 I] w fun e w' => (∃ x : Int, (0 ≤ x ∧ x ≤ 255) ∧ e = .returned (.int .i64 x)) ∧ w = w' := by
  obtain ⟨i, rfl⟩ : ∃ i : Nat, I = i := ⟨I.toNat, by omega⟩
  by_cases hlt : i < n
  · obtain ⟨b, off, rfl, hbg, hcell⟩ := hr (by omega)
    obtain ⟨u, u1, u2, hu⟩ := hcell i hlt
    clear hcell hr hn h0
    go_enter Try.func14, Try.ntmps14
    go_wp2
    go_ret
    exact ⟨⟨u, ⟨u1, u2⟩, rfl⟩, rfl⟩
  · have hd : ¬ ((i : Int) < (n : Int)) := by omega
    have h1 : (n : Int) ≤ 1048577 := by omega
    clear hr hn hlt h0
    go_enter Try.func14, Try.ntmps14
    go_wp2
    go_ret
    exact ⟨⟨_, ⟨Int.emod_nonneg _ (by omega), by have := Int.emod_lt_of_pos ((i : Int) * 13 + (n : Int) * 5) (show (0 : Int) < 256 by omega); omega⟩, rfl⟩, rfl⟩
end Qt
end Go.Proofs.Ytgdcggjkfmdobaa
