/- The law of SameModel returns true and writes nothing that was there. Conditions: the slices of layers read as the lists that are named. -/
import Derived.Test.YtklefnmhknlilaaQBaseD
import Derived.Test.YtklefnmhknlilaaQSameMod
namespace Go.Proofs.Ytklefnmhknlilaa
open Go.RowKit Go.Sort
set_option linter.unusedSimpArgs false
set_option linter.unusedVariables false
namespace Qt
/-- The two models that came in. -/
structure J2 (h w c : Int) (A : Option Addr) (n p : Nat) (l1 : List Lay) (h2 w2 c2 : Int) (A2 : Option Addr) (n2 p2 : Nat) (l2 : List Lay) (gA gB : Nat) (u : World) : Prop where
  a : Bk u gA 26 #[.int .i64 h, .int .i64 w, .int .i64 c, .slice A n p]
  b : Bk u gB 26 #[.int .i64 h2, .int .i64 w2, .int .i64 c2, .slice A2 n2 p2]
  ra : RdL u A n l1
  rb : RdL u A2 n2 l2
theorem J2.st {h w c : Int} {A : Option Addr} {n p : Nat} {l1 : List Lay} {h2 w2 c2 : Int} {A2 : Option Addr} {n2 p2 : Nat} {l2 : List Lay} {gA gB : Nat} : ∀ u u', J2 h w c A n p l1 h2 w2 c2 A2 n2 p2 l2 gA gB u → Below u.heap.size u u' → J2 h w c A n p l1 h2 w2 c2 A2 n2 p2 l2 gA gB u' := fun _ _ q hb => ⟨q.a.below hb, q.b.below hb, q.ra.of_below hb, q.rb.of_below hb⟩
/-- .. and copies of them. -/
structure J4 (h w c : Int) (A : Option Addr) (n p : Nat) (l1 : List Lay) (h2 w2 c2 : Int) (A2 : Option Addr) (n2 p2 : Nat) (l2 : List Lay) (gA gB gx gX gy gY : Nat) (u : World) : Prop where
  j : J2 h w c A n p l1 h2 w2 c2 A2 n2 p2 l2 gA gB u
  x : Bk u gX 32 #[.int .i64 h, .int .i64 w, .int .i64 c, .slice (some ⟨gx, 0, none⟩) n n]
  y : Bk u gY 32 #[.int .i64 h2, .int .i64 w2, .int .i64 c2, .slice (some ⟨gy, 0, none⟩) n2 n2]
  rx : RdL u (some ⟨gx, 0, none⟩) n l1
  ry : RdL u (some ⟨gy, 0, none⟩) n2 l2
theorem J4.st {h w c : Int} {A : Option Addr} {n p : Nat} {l1 : List Lay} {h2 w2 c2 : Int} {A2 : Option Addr} {n2 p2 : Nat} {l2 : List Lay} {gA gB gx gX gy gY : Nat} : ∀ u u', J4 h w c A n p l1 h2 w2 c2 A2 n2 p2 l2 gA gB gx gX gy gY u → Below u.heap.size u u' → J4 h w c A n p l1 h2 w2 c2 A2 n2 p2 l2 gA gB gx gX gy gY u' := fun _ _ q hb => ⟨J2.st _ _ q.j hb, q.x.below hb, q.y.below hb, q.rx.of_below hb, q.ry.of_below hb⟩
theorem J2.cells {h w c : Int} {A : Option Addr} {n p : Nat} {l1 : List Lay} {h2 w2 c2 : Int} {A2 : Option Addr} {n2 p2 : Nat} {l2 : List Lay} {gA gB : Nat} {u : World} (q : J2 h w c A n p l1 h2 w2 c2 A2 n2 p2 l2 gA gB u) : u.cell? ⟨gA, 0, none⟩ = some (.int .i64 h) ∧ u.cell? ⟨gA, 1, none⟩ = some (.int .i64 w) ∧ u.cell? ⟨gA, 2, none⟩ = some (.int .i64 c) ∧ u.cell? ⟨gA, 3, none⟩ = some (.slice A n p) ∧ u.cell? ⟨gB, 0, none⟩ = some (.int .i64 h2) ∧ u.cell? ⟨gB, 1, none⟩ = some (.int .i64 w2) ∧ u.cell? ⟨gB, 2, none⟩ = some (.int .i64 c2) ∧ u.cell? ⟨gB, 3, none⟩ = some (.slice A2 n2 p2) := by
  obtain ⟨a0, a1, a2, a3⟩ := q.a.cell4
  obtain ⟨b0, b1, b2, b3⟩ := q.b.cell4
  exact ⟨a0, a1, a2, a3, b0, b1, b2, b3⟩
theorem J4.cellsA {h w c : Int} {A : Option Addr} {n p : Nat} {l1 : List Lay} {h2 w2 c2 : Int} {A2 : Option Addr} {n2 p2 : Nat} {l2 : List Lay} {gA gB gx gX gy gY : Nat} {u : World} (q : J4 h w c A n p l1 h2 w2 c2 A2 n2 p2 l2 gA gB gx gX gy gY u) : u.cell? ⟨gX, 0, none⟩ = some (.int .i64 h) ∧ u.cell? ⟨gX, 1, none⟩ = some (.int .i64 w) ∧ u.cell? ⟨gX, 2, none⟩ = some (.int .i64 c) ∧ u.cell? ⟨gX, 3, none⟩ = some (.slice (some ⟨gx, 0, none⟩) n n) ∧ u.cell? ⟨gA, 0, none⟩ = some (.int .i64 h) ∧ u.cell? ⟨gA, 1, none⟩ = some (.int .i64 w) ∧ u.cell? ⟨gA, 2, none⟩ = some (.int .i64 c) ∧ u.cell? ⟨gA, 3, none⟩ = some (.slice A n p) := by
  obtain ⟨a0, a1, a2, a3⟩ := q.x.cell4
  obtain ⟨b0, b1, b2, b3⟩ := q.j.a.cell4
  exact ⟨a0, a1, a2, a3, b0, b1, b2, b3⟩
theorem J4.cellsB {h w c : Int} {A : Option Addr} {n p : Nat} {l1 : List Lay} {h2 w2 c2 : Int} {A2 : Option Addr} {n2 p2 : Nat} {l2 : List Lay} {gA gB gx gX gy gY : Nat} {u : World} (q : J4 h w c A n p l1 h2 w2 c2 A2 n2 p2 l2 gA gB gx gX gy gY u) : u.cell? ⟨gY, 0, none⟩ = some (.int .i64 h2) ∧ u.cell? ⟨gY, 1, none⟩ = some (.int .i64 w2) ∧ u.cell? ⟨gY, 2, none⟩ = some (.int .i64 c2) ∧ u.cell? ⟨gY, 3, none⟩ = some (.slice (some ⟨gy, 0, none⟩) n2 n2) ∧ u.cell? ⟨gB, 0, none⟩ = some (.int .i64 h2) ∧ u.cell? ⟨gB, 1, none⟩ = some (.int .i64 w2) ∧ u.cell? ⟨gB, 2, none⟩ = some (.int .i64 c2) ∧ u.cell? ⟨gB, 3, none⟩ = some (.slice A2 n2 p2) := by
  obtain ⟨a0, a1, a2, a3⟩ := q.y.cell4
  obtain ⟨b0, b1, b2, b3⟩ := q.j.b.cell4
  exact ⟨a0, a1, a2, a3, b0, b1, b2, b3⟩
set_option maxRecDepth 100000 in
set_option maxHeartbeats 8000000 in
theorem sameModelLaw (h w c : Int) (A : Option Addr) (n p : Nat) (l1 : List Lay) (h2 w2 c2 : Int) (A2 : Option Addr) (n2 p2 : Nat) (l2 : List Lay) (W : World) (hr : RdLT W A n l1) (hr2 : RdLT W A2 n2 l2) :
    Calls Try.prog 8 #[.agg #[.int .i64 h, .int .i64 w, .int .i64 c, .slice A n p], .agg #[.int .i64 h2, .int .i64 w2, .int .i64 c2, .slice A2 n2 p2]] W fun e W' => e = .returned (.bool true) ∧ Below W.heap.size W W' := by
  obtain ⟨hra, hma⟩ := hr
  obtain ⟨hrb, hmb⟩ := hr2
  have b0 := ((Below.refl _ W).alloc (Nat.le_refl _) (.cells #[.int .i64 h, .int .i64 w, .int .i64 c, .slice A n p] 26)).alloc (by simp) (.cells #[.int .i64 h2, .int .i64 w2, .int .i64 c2, .slice A2 n2 p2] 26)
  have k0 := (Bk.new W 26 #[.int .i64 h, .int .i64 w, .int .i64 c, .slice A n p]).alloc (.cells #[.int .i64 h2, .int .i64 w2, .int .i64 c2, .slice A2 n2 p2] 26)
  have k1 := Bk.new (W.alloc (.cells #[.int .i64 h, .int .i64 w, .int .i64 c, .slice A n p] 26)) 26 #[.int .i64 h2, .int .i64 w2, .int .i64 c2, .slice A2 n2 p2]
  rw [World.size_alloc] at k1
  have P : Hid (KJ W (J2 h w c A n p l1 h2 w2 c2 A2 n2 p2 l2 W.heap.size (W.heap.size + 1)) ((W.alloc (.cells #[.int .i64 h, .int .i64 w, .int .i64 c, .slice A n p] 26)).alloc (.cells #[.int .i64 h2, .int .i64 w2, .int .i64 c2, .slice A2 n2 p2] 26))) := Lib.hid ⟨J2.st, ⟨k0, k1, hra.of_below b0, hrb.of_below b0⟩, b0⟩
  have HMA := Lib.hid hma
  have HMB := Lib.hid hmb
  clear hra hma hrb hmb b0 k0 k1
  go_enter Try.func8, Try.ntmps8
  go_wp2_with fail
  generalize (W.alloc (.cells #[.int .i64 h, .int .i64 w, .int .i64 c, .slice A n p] 26)).alloc (.cells #[.int .i64 h2, .int .i64 w2, .int .i64 c2, .slice A2 n2 p2] 26) = v0 at P ⊢
  generalize hgB : W.heap.size + 1 = gB at P ⊢
  clear hgB
  by_cases hn : (n : Int) + big l1 ≤ 1048576
  case neg =>
    with_reducible refine (szModel_no h w c A n p l1 1048576 _ (rdLT_mk P.out.j.ra HMA.out) (by omega) (by omega) (by omega)).mono ?_
    rintro e u1 ⟨rfl, b1⟩
    replace P := KJ.below P b1
    clear b1
    go_wp2
    go_ret
    exact ⟨rfl, P.out.b⟩
  with_reducible refine (szModel_yes h w c A n p l1 1048576 _ (rdLT_mk P.out.j.ra HMA.out) (by omega) (by omega) hn).mono ?_
  rintro e u1 ⟨rfl, b1⟩
  replace P := KJ.below P b1
  clear b1
  have HN : Hid (n + big l1 ≤ 1048576) := Lib.hid (by omega)
  have hleft : 0 ≤ 1048576 - (n : Int) - big l1 := by omega
  have hleft2 : 1048576 - (n : Int) - big l1 ≤ 1048576 := by omega
  clear hn HMA
  generalize 1048576 - (n : Int) - big l1 = left at hleft hleft2 ⊢
  obtain ⟨a0, a1, a2, a3⟩ := P.out.j.b.cell4
  go_wp2_with fail
  clear a0 a1 a2 a3
  by_cases hn : (n2 : Int) + big l2 ≤ left
  case neg =>
    with_reducible refine (szModel_no h2 w2 c2 A2 n2 p2 l2 left _ (rdLT_mk P.out.j.rb HMB.out) hleft hleft2 (by omega)).mono ?_
    rintro e u1 ⟨rfl, b1⟩
    replace P := KJ.below P b1
    clear b1
    go_wp2
    go_ret
    exact ⟨rfl, P.out.b⟩
  with_reducible refine (szModel_yes h2 w2 c2 A2 n2 p2 l2 left _ (rdLT_mk P.out.j.rb HMB.out) hleft hleft2 hn).mono ?_
  rintro e u2 ⟨rfl, b2⟩
  replace P := KJ.below P b2
  clear b2
  have HN2 : Hid (n2 + big l2 ≤ 1048576) := Lib.hid (by omega)
  have hleft3 : 0 ≤ left - (n2 : Int) - big l2 := by omega
  clear hn HMB
  obtain ⟨r, hR⟩ : ∃ r, sameM h w c l1 h2 w2 c2 l2 = r := ⟨_, rfl⟩
  have HRR := Lib.hid hR
  clear hR
  go_wp2_with fail
  clear hleft hleft2 hleft3
  have Q1 := KJ.drew P
  have SS1 := Q1.out.j.cells
  go_region_held3 (fun w' => w'.cell? ⟨W.heap.size, 0, none⟩ = some (.int .i64 h) ∧ w'.cell? ⟨W.heap.size, 1, none⟩ = some (.int .i64 w) ∧ w'.cell? ⟨W.heap.size, 2, none⟩ = some (.int .i64 c) ∧ w'.cell? ⟨W.heap.size, 3, none⟩ = some (.slice A n p) ∧ w'.cell? ⟨gB, 0, none⟩ = some (.int .i64 h2) ∧ w'.cell? ⟨gB, 1, none⟩ = some (.int .i64 w2) ∧ w'.cell? ⟨gB, 2, none⟩ = some (.int .i64 c2) ∧ w'.cell? ⟨gB, 3, none⟩ = some (.slice A2 n2 p2))
    (first
      | with_reducible exact SS
      | with_reducible exact SS1)
    (first
      | (go_at_call 14; (with_reducible refine (toModelO h w c A n p l1 _ Q1.out.j.ra HN.out).mono ?_); rintro e uq ⟨gy, rfl, _, ry, bb⟩; have RY := Lib.hid ry.rdL; clear ry; have PP := KJ.below Q1 bb; have SS := PP.out.j.cells)
      | (go_at_call 14; (with_reducible refine (toModelO h2 w2 c2 A2 n2 p2 l2 _ PP.out.j.rb HN2.out).mono ?_); rintro e uz ⟨gz, rfl, _, rz, bc⟩; have RZ := Lib.hid rz.rdL; have RY2 := Lib.hid (RY.out.of_below bc); clear rz; have PQ := KJ.below PP bc; have SS := PQ.out.j.cells)
      | (go_at_call 32; (with_reducible refine (sameModelS h w c _ n n l1 h2 w2 c2 _ n2 n2 l2 _ RY2.out RZ.out HN.out HN2.out).mono ?_); rw [HRR.out]; rintro e uf ⟨rfl, bd⟩; have PF := KJ.below PQ bd; have SS := PF.out.j.cells))
  replace P := PF
  clear PF PP PQ RY RZ RY2 SS SS1 Q1 bb bc bd
  obtain ⟨a0, a1, a2, a3⟩ := P.out.j.a.cell4
  go_wp2_with fail
  clear a0 a1 a2 a3
  with_reducible refine (toModelO h w c A n p l1 _ P.out.j.ra HN.out).mono ?_
  rintro e u4 ⟨gx, rfl, _, r4, b4⟩
  replace P := KJ.below P b4
  have R4 := Lib.hid r4.rdL
  clear r4 b4
  have ba := (Below.refl _ u4).alloc (Nat.le_refl _) (.cells #[.int .i64 h, .int .i64 w, .int .i64 c, .slice (some ⟨gx, 0, none⟩) n n] 32)
  have KX := Lib.hid (Bk.new u4 32 #[.int .i64 h, .int .i64 w, .int .i64 c, .slice (some ⟨gx, 0, none⟩) n n])
  have RX := Lib.hid (R4.out.of_below ba)
  replace P := KJ.below P ba
  obtain ⟨a0, a1, a2, a3⟩ := P.out.j.b.cell4
  clear ba R4
  go_wp2_with fail
  clear a0 a1 a2 a3
  generalize u4.alloc (.cells #[.int .i64 h, .int .i64 w, .int .i64 c, .slice (some ⟨gx, 0, none⟩) n n] 32) = u5 at P KX RX ⊢
  generalize u4.heap.size = gX at KX ⊢
  with_reducible refine (toModelO h2 w2 c2 A2 n2 p2 l2 _ P.out.j.rb HN2.out).mono ?_
  rintro e u6 ⟨gy, rfl, _, r6, b6⟩
  replace P := KJ.below P b6
  have R6 := Lib.hid r6.rdL
  have KX6 := Lib.hid (KX.out.below b6)
  have RX6 := Lib.hid (RX.out.of_below b6)
  clear r6 b6 KX RX
  have ba := (Below.refl _ u6).alloc (Nat.le_refl _) (.cells #[.int .i64 h2, .int .i64 w2, .int .i64 c2, .slice (some ⟨gy, 0, none⟩) n2 n2] 32)
  have Q : Hid (KJ W (J4 h w c A n p l1 h2 w2 c2 A2 n2 p2 l2 W.heap.size gB gx gX gy u6.heap.size) (u6.alloc (.cells #[.int .i64 h2, .int .i64 w2, .int .i64 c2, .slice (some ⟨gy, 0, none⟩) n2 n2] 32))) := Lib.hid ⟨J4.st, ⟨J2.st _ _ P.out.j ba, KX6.out.below ba, Bk.new u6 _ _, RX6.out.of_below ba, R6.out.of_below ba⟩, P.out.b.alloc P.out.b.size _⟩
  obtain ⟨a0, a1, a2, a3⟩ := Q.out.j.x.cell4
  have hxl := KX6.out.lt
  clear ba
  obtain ⟨c0, c1, c2', c3⟩ := KX6.out.cell4
  go_wp2_with fail
  clear a0 a1 a2 a3 c0 c1 c2' c3 hxl P KX6 RX6 R6
  generalize u6.alloc (.cells #[.int .i64 h2, .int .i64 w2, .int .i64 c2, .slice (some ⟨gy, 0, none⟩) n2 n2] 32) = u7 at Q ⊢
  generalize u6.heap.size = gY at Q ⊢
  with_reducible refine (sameModelI h w c _ n n l1 h2 w2 c2 _ n2 n2 l2 _ Q.out.j.rx Q.out.j.ry HN.out HN2.out).mono ?_
  rw [HRR.out]
  rintro e u8 ⟨rfl, b8⟩
  replace Q := KJ.below Q b8
  clear b8
  have hrr : (r != r) = false := by simp
  go_wp2_with fail
  clear hrr
  have Q1 := KJ.drew Q
  have SS1 := Q1.out.j.cellsA
  go_region_held3 (fun w' => w'.cell? ⟨gX, 0, none⟩ = some (.int .i64 h) ∧ w'.cell? ⟨gX, 1, none⟩ = some (.int .i64 w) ∧ w'.cell? ⟨gX, 2, none⟩ = some (.int .i64 c) ∧ w'.cell? ⟨gX, 3, none⟩ = some (.slice (some ⟨gx, 0, none⟩) n n) ∧ w'.cell? ⟨W.heap.size, 0, none⟩ = some (.int .i64 h) ∧ w'.cell? ⟨W.heap.size, 1, none⟩ = some (.int .i64 w) ∧ w'.cell? ⟨W.heap.size, 2, none⟩ = some (.int .i64 c) ∧ w'.cell? ⟨W.heap.size, 3, none⟩ = some (.slice A n p))
    (first
      | with_reducible exact SS
      | with_reducible exact SS1)
    (first
      | (go_at_call 14; (with_reducible refine (toModelO h w c A n p l1 _ Q1.out.j.j.ra HN.out).mono ?_); rintro e uq ⟨gz, rfl, _, ry, bb⟩; have RY := Lib.hid ry.rdL; clear ry; have PP := KJ.below Q1 bb; have SS := PP.out.j.cellsA)
      | (go_at_call 16; (with_reducible refine (eqModel_same h w c _ _ n _ _ l1 _ PP.out.j.rx RY.out HN.out).mono ?_); rintro e uq2 ⟨rfl, bb2⟩; have PF := KJ.below PP bb2; have SS := PF.out.j.cellsA))
  replace Q := PF
  clear PF PP RY SS SS1 Q1 bb bb2
  go_wp2_with fail
  have Q1 := KJ.drew Q
  have SS1 := Q1.out.j.cellsB
  go_region_held3 (fun w' => w'.cell? ⟨gY, 0, none⟩ = some (.int .i64 h2) ∧ w'.cell? ⟨gY, 1, none⟩ = some (.int .i64 w2) ∧ w'.cell? ⟨gY, 2, none⟩ = some (.int .i64 c2) ∧ w'.cell? ⟨gY, 3, none⟩ = some (.slice (some ⟨gy, 0, none⟩) n2 n2) ∧ w'.cell? ⟨gB, 0, none⟩ = some (.int .i64 h2) ∧ w'.cell? ⟨gB, 1, none⟩ = some (.int .i64 w2) ∧ w'.cell? ⟨gB, 2, none⟩ = some (.int .i64 c2) ∧ w'.cell? ⟨gB, 3, none⟩ = some (.slice A2 n2 p2))
    (first
      | with_reducible exact SS
      | with_reducible exact SS1)
    (first
      | (go_at_call 14; (with_reducible refine (toModelO h2 w2 c2 A2 n2 p2 l2 _ Q1.out.j.j.rb HN2.out).mono ?_); rintro e uq ⟨gz, rfl, _, ry, bb⟩; have RY := Lib.hid ry.rdL; clear ry; have PP := KJ.below Q1 bb; have SS := PP.out.j.cellsB)
      | (go_at_call 16; (with_reducible refine (eqModel_same h2 w2 c2 _ _ n2 _ _ l2 _ PP.out.j.ry RY.out HN2.out).mono ?_); rintro e uq2 ⟨rfl, bb2⟩; have PF := KJ.below PP bb2; have SS := PF.out.j.cellsB))
  go_wp2
  go_ret
  exact ⟨rfl, PF.out.b⟩
end Qt
end Go.Proofs.Ytklefnmhknlilaa
