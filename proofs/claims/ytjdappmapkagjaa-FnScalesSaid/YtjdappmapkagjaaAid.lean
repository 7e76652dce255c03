/- Small helpers of every law: whether its bytes are many, one byte of them, and that they can still be read behind other calls. -/
import Derived.Test.YtjdappmapkagjaaNew
namespace Go.Proofs.Ytjdappmapkagjaa
open Go.RowKit
namespace Qt
theorem bigC (A : Option Addr) (n c : Nat) (w : World) : Calls Try.prog 15 #[.slice A n c] w fun e w' => e = .returned (.bool (decide ((1048576 : Int) < (n : Int)))) ∧ w = w' := by
  go_enter Try.func15, Try.ntmps15
  go_wp2
  go_ret
  exact ⟨rfl, rfl⟩
theorem RdB.more {w w' : World} {B B' : Nat} {A : Option Addr} {n : Nat} (h : RdB w B A n) (hb : Below B w w') (hB : B ≤ B') : RdB w' B' A n := fun hn => by
  obtain ⟨b, off, e, hlt, hc⟩ := (h.of_block (w' := w') hb.block) hn
  exact ⟨b, off, e, by omega, hc⟩
end Qt
end Go.Proofs.Ytjdappmapkagjaa
