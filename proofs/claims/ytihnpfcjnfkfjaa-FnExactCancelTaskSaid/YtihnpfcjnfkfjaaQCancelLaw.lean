/- The law of CancelTask returns true and writes nothing that was there, when its slice reads as a list of tasks. -/
import Derived.Test.YtihnpfcjnfkfjaaQCancel
import Derived.Test.YtihnpfcjnfkfjaaQSchAns
namespace Go.Proofs.Ytihnpfcjnfkfjaa
open Go.RowKit Go.Sort
set_option linter.unusedSimpArgs false
set_option linter.unusedVariables false
namespace Qt
theorem cancelSw (nw sk ag : Int) (A : Option Addr) (n p : Nat) (ss : List Tsk) (rn lf tu nx id : Int) (W : World) (hr : RdC W A n ss) (hn : n + bigTsk ss ≤ 1048576) (_ : (Lit.int .i64 rn).wf = true) (_ : (Lit.int .i64 id).wf = true) :
    Calls Try.prog 37 #[.agg #[.int .i64 nw, .int .i64 sk, .int .i64 ag, .slice A n p, .int .i64 rn, .int .i64 lf, .int .i64 tu, .int .i64 nx], .int .i64 id] W (SchB W nw sk ag (canT nw sk ag ss rn lf tu nx id) (canR nw sk ag ss rn lf tu nx id) (canL nw sk ag ss rn lf tu nx id) tu nx (canB nw sk ag ss rn lf tu nx id)) := cancelS nw sk ag A n p ss rn lf tu nx id W hr.1 hn
theorem can_len (nw sk ag : Int) (ss : List Tsk) (rn lf tu nx id : Int) : (canT nw sk ag ss rn lf tu nx id).length ≤ ss.length ∧ bigTsk (canT nw sk ag ss rn lf tu nx id) ≤ bigTsk ss := by
  unfold canT
  split
  · exact ⟨off_len _ _, big_off _ _⟩
  · exact ⟨Nat.le_refl _, Nat.le_refl _⟩
set_option maxHeartbeats 10000000 in
set_option maxRecDepth 100000 in
theorem cancelLaw (nw sk ag : Int) (A : Option Addr) (n p : Nat) (ss : List Tsk) (rn lf tu nx : Int) (id : Int) (W : World) (hr : RdTskT W A n ss) (hw : (Lit.int .i64 rn).wf = true) (hwi : (Lit.int .i64 id).wf = true) :
    Calls Try.prog 11 #[.agg #[.int .i64 nw, .int .i64 sk, .int .i64 ag, .slice A n p, .int .i64 rn, .int .i64 lf, .int .i64 tu, .int .i64 nx], .int .i64 id] W fun e W' => e = .returned (.bool true) ∧ Below W.heap.size W W' := by
  have b0 := (Below.refl _ W).alloc (Nat.le_refl _) (.cells #[.int .i64 nw, .int .i64 sk, .int .i64 ag, .slice A n p, .int .i64 rn, .int .i64 lf, .int .i64 tu, .int .i64 nx] 24)
  have KT := Lib.hid (Bk.new W 24 #[.int .i64 nw, .int .i64 sk, .int .i64 ag, .slice A n p, .int .i64 rn, .int .i64 lf, .int .i64 tu, .int .i64 nx])
  have HT : Hid (RdTskT (W.alloc (.cells #[.int .i64 nw, .int .i64 sk, .int .i64 ag, .slice A n p, .int .i64 rn, .int .i64 lf, .int .i64 tu, .int .i64 nx] 24)) A n ss) := Lib.hid ⟨hr.1.of_below b0, hr.2⟩
  have RA := Lib.hid (hr.1.of_below b0)
  have Bl := Lib.hid b0
  have HW := Lib.hid hw
  have HWI := Lib.hid hwi
  clear hr b0 hw hwi
  go_enter Try.func11, Try.ntmps11
  go_wp2_with fail
  generalize W.alloc (.cells #[.int .i64 nw, .int .i64 sk, .int .i64 ag, .slice A n p, .int .i64 rn, .int .i64 lf, .int .i64 tu, .int .i64 nx] 24) = v0 at KT HT RA Bl ⊢
  generalize hgT : W.heap.size = gT at KT ⊢
  clear hgT
  with_reducible refine (szSchL nw sk ag rn lf tu nx A n p ss 1048576 _ HT.out (by omega) (by omega)).mono ?_
  rintro e u0 ⟨rfl, bb⟩
  replace RA := Lib.hid (RA.out.of_below bb)
  replace KT := Lib.hid (KT.out.below bb)
  replace Bl := Lib.hid (Bl.out.trans (bb.mono Bl.out.size))
  clear bb HT
  by_cases hn : (n : Int) + bigTsk ss ≤ 1048576
  case neg =>
    have hR : szRTsk 1048576 n ss = -1 := if_neg hn
    rw [hR]
    clear hR
    go_wp2_with fail
    go_ret
    exact ⟨rfl, Bl.out⟩
  have HN : Hid (n + bigTsk ss ≤ 1048576) := Lib.hid (by omega)
  have hR : szRTsk 1048576 n ss = 1048576 - n - bigTsk ss := if_pos hn
  rw [hR]
  have hleft : ¬ 1048576 - (n : Int) - bigTsk ss < 0 := by omega
  clear hR
  have c0 := KT.out.cell 0 rfl
  have c1 := KT.out.cell 1 rfl
  have c2 := KT.out.cell 2 rfl
  have c3 := KT.out.cell 3 rfl
  have c4 := KT.out.cell 4 rfl
  have c5 := KT.out.cell 5 rfl
  have c6 := KT.out.cell 6 rfl
  have c7 := KT.out.cell 7 rfl
  go_wp2_with fail
  clear hleft hn
  clear c0 c1 c2 c3 c4 c5 c6 c7
  refine (toSchO nw sk ag rn lf tu nx A n p ss _ RA.out HN.out).mono ?_
  rintro e u1 ⟨ga, rfl, oa, bb⟩
  replace RA := Lib.hid (RA.out.of_below bb)
  replace KT := Lib.hid (KT.out.below bb)
  replace Bl := Lib.hid (Bl.out.trans (bb.mono Bl.out.size))
  have Ra := Lib.hid oa.rdc
  clear oa bb
  go_wp2_with fail
  have HNO : (canT nw sk ag ss rn lf tu nx id).length + bigTsk (canT nw sk ag ss rn lf tu nx id) ≤ 1048576 := by have h0 := can_len nw sk ag ss rn lf tu nx id; have h1 := RA.out.1; have h2 := HN.out; omega
  have HS := fun w (h : RdC w (some ⟨ga, 0, none⟩) n ss) => cancelSw nw sk ag (some ⟨ga, 0, none⟩) n n ss rn lf tu nx id w h HN.out HW.out HWI.out
  have HI := fun x w (h : RdC w (some ⟨x, 0, none⟩) n ss) => cancelI nw sk ag (some ⟨x, 0, none⟩) n n ss rn lf tu nx id w h HN.out HW.out HWI.out
  obtain ⟨nwo, hnwo⟩ : ∃ q, nw = q := ⟨_, rfl⟩
  obtain ⟨sko, hsko⟩ : ∃ q, sk = q := ⟨_, rfl⟩
  obtain ⟨ago, hago⟩ : ∃ q, ag = q := ⟨_, rfl⟩
  obtain ⟨sso, hsso⟩ : ∃ q, canT nw sk ag ss rn lf tu nx id = q := ⟨_, rfl⟩
  obtain ⟨rno, hrno⟩ : ∃ q, canR nw sk ag ss rn lf tu nx id = q := ⟨_, rfl⟩
  obtain ⟨lfo, hlfo⟩ : ∃ q, canL nw sk ag ss rn lf tu nx id = q := ⟨_, rfl⟩
  obtain ⟨tuo, htuo⟩ : ∃ q, tu = q := ⟨_, rfl⟩
  obtain ⟨nxo, hnxo⟩ : ∃ q, nx = q := ⟨_, rfl⟩
  obtain ⟨x0, hx0⟩ : ∃ q, canB nw sk ag ss rn lf tu nx id = q := ⟨_, rfl⟩
  simp only [hsso, hrno, hlfo, hx0] at HS HI HNO
  subst hnwo
  subst hsko
  subst hago
  subst htuo
  subst hnxo
  clear hsso hrno hlfo hx0
  have HNO := Lib.hid HNO
  have HNO2 := HNO
  replace HS := Lib.hid HS
  replace HI := Lib.hid HI
  refine (HS.out _ Ra.out).mono ?_
  clear HS
  rintro e v1 ⟨V0, Ps0, rfl, h0, bb⟩
  obtain ⟨A0, cap0, rfl, -⟩ := h0.value
  have ba := (Below.refl v1.heap.size v1).alloc (Nat.le_refl _) (.cells #[.int .i64 nw, .int .i64 sk, .int .i64 ag, .slice A0 sso.length cap0, .int .i64 rno, .int .i64 lfo, .int .i64 tu, .int .i64 nx] 29)
  have R0 := Lib.hid ((h0.of_below ba).rd.2)
  have KW := Lib.hid (Bk.new v1 29 #[.int .i64 nw, .int .i64 sk, .int .i64 ag, .slice A0 sso.length cap0, .int .i64 rno, .int .i64 lfo, .int .i64 tu, .int .i64 nx])
  have bb := bb.trans (ba.mono bb.size)
  replace RA := Lib.hid (RA.out.of_below bb)
  replace KT := Lib.hid (KT.out.below bb)
  replace Bl := Lib.hid (Bl.out.trans (bb.mono Bl.out.size))
  clear h0 bb Ra ba
  have c0 := KT.out.cell 0 rfl
  have c1 := KT.out.cell 1 rfl
  have c2 := KT.out.cell 2 rfl
  have c3 := KT.out.cell 3 rfl
  have c4 := KT.out.cell 4 rfl
  have c5 := KT.out.cell 5 rfl
  have c6 := KT.out.cell 6 rfl
  have c7 := KT.out.cell 7 rfl
  go_wp2_with fail
  clear c0 c1 c2 c3 c4 c5 c6 c7
  generalize v1.alloc (.cells #[.int .i64 nw, .int .i64 sk, .int .i64 ag, .slice A0 sso.length cap0, .int .i64 rno, .int .i64 lfo, .int .i64 tu, .int .i64 nx] 29) = v at RA KT Bl R0 KW ⊢
  generalize v1.heap.size = gW at KW ⊢
  have HRV := Lib.hid RA.out
  have HKV := Lib.hid KT.out
  have HWV := Lib.hid KW.out
  have HOV := Lib.hid R0.out
  refine (toSchO nw sk ag rn lf tu nx A n p ss _ RA.out HN.out).mono ?_
  rintro e u4 ⟨gx, rfl, ox, bb⟩
  have ba := (Below.refl _ u4).alloc (Nat.le_refl _) (.cells #[.int .i64 nw, .int .i64 sk, .int .i64 ag, .slice (some ⟨gx, 0, none⟩) n n, .int .i64 rn, .int .i64 lf, .int .i64 tu, .int .i64 nx] 29)
  have HB0 : Hid (v.heap.size ≤ u4.heap.size) := Lib.hid bb.size
  have P : Hid (SK v u4.heap.size gT u4.heap.size gx nw sk ag A n p ss rn lf tu nx (fun w => Bk w gW 29 #[.int .i64 nw, .int .i64 sk, .int .i64 ag, .slice A0 sso.length cap0, .int .i64 rno, .int .i64 lfo, .int .i64 tu, .int .i64 nx] ∧ RdTsk w A0 sso.length sso) (u4.alloc (.cells #[.int .i64 nw, .int .i64 sk, .int .i64 ag, .slice (some ⟨gx, 0, none⟩) n n, .int .i64 rn, .int .i64 lf, .int .i64 tu, .int .i64 nx] 29))) := Lib.hid ⟨bb.trans (ba.mono bb.size), (KT.out.below bb).below ba, (RA.out.of_below bb).of_below ba, Bk.new u4 _ _, ox.rdc.of_below ba, (ox.mar (C := u4.heap.size) (Nat.le_refl _)).of_below ba, fun _ _ h hb => ⟨h.1.below hb, h.2.of_below hb⟩, ⟨(KW.out.below bb).below ba, (R0.out.of_below bb).of_below ba⟩⟩
  clear ox bb ba RA KT KW R0
  go_wp2_with fail
  have HC0 : Hid (u4.heap.size < (u4.alloc (.cells #[.int .i64 nw, .int .i64 sk, .int .i64 ag, .slice (some ⟨gx, 0, none⟩) n n, .int .i64 rn, .int .i64 lf, .int .i64 tu, .int .i64 nx] 29)).heap.size) := Lib.hid (by simp)
  generalize u4.alloc (.cells #[.int .i64 nw, .int .i64 sk, .int .i64 ag, .slice (some ⟨gx, 0, none⟩) n n, .int .i64 rn, .int .i64 lf, .int .i64 tu, .int .i64 nx] 29) = v5 at P HC0 ⊢
  generalize u4.heap.size = C at P HC0 HB0 ⊢
  refine (HI.out _ _ P.out.rx).mono ?_
  rintro e w6 ⟨V1, Ps1, rfl, hg1, bb⟩
  obtain ⟨A1, cap1, rfl, -⟩ := hg1.value
  have ba := (Below.refl w6.heap.size w6).alloc (Nat.le_refl _) (.cells #[.int .i64 nw, .int .i64 sk, .int .i64 ag, .slice A1 sso.length cap1, .int .i64 rno, .int .i64 lfo, .int .i64 tu, .int .i64 nx] 29)
  have HRX : Hid ((Value.slice A1 sso.length cap1).ownBlock ≠ some w6.heap.size) := Lib.hid (fun e => by have := (hg1.lt e).2; omega)
  have HLX : Hid (∀ P ∈ Ps1, 0 < P.n → ∀ a, P.A = some a → a.block ≠ w6.heap.size) := Lib.hid (fun P hP hn a hA => Nat.ne_of_lt (hg1.lists P hP hn a hA).2)
  have P := SK.below (SK.below P bb) ba
  have P := SK.with P (J' := GJ C gW w6.heap.size #[.int .i64 nw, .int .i64 sk, .int .i64 ag, .slice A0 sso.length cap0, .int .i64 rno, .int .i64 lfo, .int .i64 tu, .int .i64 nx] #[.int .i64 nw, .int .i64 sk, .int .i64 ag, .slice A1 sso.length cap1, .int .i64 rno, .int .i64 lfo, .int .i64 tu, .int .i64 nx] A0 A1 cap1 sso Ps1) GJ.st ⟨P.out.j.1, Bk.new w6 _ _, P.out.j.2, (hg1.of_below ba).base (Nat.le_of_lt HC0.out)⟩
  have HCG : Hid (C ≤ w6.heap.size) := Lib.hid (Nat.le_trans (Nat.le_of_lt HC0.out) bb.size)
  clear hg1 bb ba HC0
  have KG := Lib.hid P.out.j.kg
  have KW := Lib.hid P.out.j.kw
  have g0 := KG.out.cell 0 rfl
  have g1 := KG.out.cell 1 rfl
  have g2 := KG.out.cell 2 rfl
  have g3 := KG.out.cell 3 rfl
  have g4 := KG.out.cell 4 rfl
  have g5 := KG.out.cell 5 rfl
  have g6 := KG.out.cell 6 rfl
  have g7 := KG.out.cell 7 rfl
  have h0 := KW.out.cell 0 rfl
  have h1 := KW.out.cell 1 rfl
  have h2 := KW.out.cell 2 rfl
  have h3 := KW.out.cell 3 rfl
  have h4 := KW.out.cell 4 rfl
  have h5 := KW.out.cell 5 rfl
  have h6 := KW.out.cell 6 rfl
  have h7 := KW.out.cell 7 rfl
  have htt : True := trivial
  have hxx0 : (x0 != x0) = false := by simp
  go_wp2_with fail
  clear g0 g1 g2 g3 g4 g5 g6 g7
  clear h0 h1 h2 h3 h4 h5 h6 h7
  clear htt hxx0
  generalize w6.alloc (.cells #[.int .i64 nw, .int .i64 sk, .int .i64 ag, .slice A1 sso.length cap1, .int .i64 rno, .int .i64 lfo, .int .i64 tu, .int .i64 nx] 29) = w7 at P KG KW ⊢
  generalize w6.heap.size = gG at P KG HRX HLX HCG ⊢
  clear KG KW
  with_reducible refine (eqSch_same nw sk ag rno lfo tu nx A1 A0 sso.length cap1 cap0 sso _ P.out.j.g.rd.2 P.out.j.r0 HNO2.out).mono ?_
  rintro e w8 ⟨rfl, bb⟩
  replace P := SK.below P bb
  clear bb
  have htt : True := trivial
  have hxx0 : (x0 != x0) = false := by simp
  go_wp2_with fail
  clear htt hxx0
  have P1 := SK.drew P
  have SS1 := SK.cells P1
  go_region_held3 (fun w' => w'.cell? ⟨C, 0, none⟩ = some (.int .i64 nw) ∧ w'.cell? ⟨C, 1, none⟩ = some (.int .i64 sk) ∧ w'.cell? ⟨C, 2, none⟩ = some (.int .i64 ag) ∧ w'.cell? ⟨C, 3, none⟩ = some (.slice (some ⟨gx, 0, none⟩) n n) ∧ w'.cell? ⟨C, 4, none⟩ = some (.int .i64 rn) ∧ w'.cell? ⟨C, 5, none⟩ = some (.int .i64 lf) ∧ w'.cell? ⟨C, 6, none⟩ = some (.int .i64 tu) ∧ w'.cell? ⟨C, 7, none⟩ = some (.int .i64 nx) ∧ w'.cell? ⟨gT, 0, none⟩ = some (.int .i64 nw) ∧ w'.cell? ⟨gT, 1, none⟩ = some (.int .i64 sk) ∧ w'.cell? ⟨gT, 2, none⟩ = some (.int .i64 ag) ∧ w'.cell? ⟨gT, 3, none⟩ = some (.slice A n p) ∧ w'.cell? ⟨gT, 4, none⟩ = some (.int .i64 rn) ∧ w'.cell? ⟨gT, 5, none⟩ = some (.int .i64 lf) ∧ w'.cell? ⟨gT, 6, none⟩ = some (.int .i64 tu) ∧ w'.cell? ⟨gT, 7, none⟩ = some (.int .i64 nx))
    (first
      | with_reducible exact SS
      | with_reducible exact SS1)
    (first
      | (go_at_call 16; (with_reducible refine (toSchO nw sk ag rn lf tu nx A n p ss _ P1.out.r HN.out).mono ?_); rintro e uq ⟨gy, rfl, oy, bb⟩; have RY := Lib.hid oy.rd; have P2 := SK.below P1 bb; have SS := SK.cells P2)
      | (go_at_call 18; (with_reducible refine (eqSch_same nw sk ag rn lf tu nx _ _ n _ _ ss _ P2.out.rx.rd RY.out HN.out).mono ?_); rintro e uq2 ⟨rfl, bb2⟩; have P3 := SK.below P2 bb2; have SS := SK.cells P3)
      | fail)
  have J := Lib.hid P3.out.j
  have M := Lib.hid P3.out.m
  have KX := Lib.hid P3.out.x
  have Bv := Lib.hid P3.out.b
  clear SS1 P1 P2 P RY bb bb2 oy
  clear P3 SS
  have c0 := KX.out.cell 0 rfl
  have c1 := KX.out.cell 1 rfl
  have c2 := KX.out.cell 2 rfl
  have c3 := KX.out.cell 3 rfl
  have c4 := KX.out.cell 4 rfl
  have c5 := KX.out.cell 5 rfl
  have c6 := KX.out.cell 6 rfl
  have c7 := KX.out.cell 7 rfl
  go_wp2_with fail
  clear c0 c1 c2 c3 c4 c5 c6 c7
  with_reducible refine (markSchL nw sk ag rn lf tu nx gx n n v.heap.size C ss _ 1 M.out HN.out (by omega) (by omega)).mono ?_
  rintro e u9 ⟨rfl, hr⟩
  have G := Lib.hid (J.out.g.touch hr.t (Nat.le_refl _))
  have KG := Lib.hid (hr.t.bk J.out.kg (.inr HCG.out))
  replace Bv := Lib.hid (Bv.out.trans (hr.t.isBelow Bv.out.size))
  have KW := Lib.hid (HWV.out.belowN Bv.out HWV.out.lt)
  clear hr M KX J
  have hkk : ¬ (1 + 4 * (n : Int) + bigTsk ss < 0) := by omega
  have g0 := KG.out.cell 0 rfl
  have g1 := KG.out.cell 1 rfl
  have g2 := KG.out.cell 2 rfl
  have g3 := KG.out.cell 3 rfl
  have g4 := KG.out.cell 4 rfl
  have g5 := KG.out.cell 5 rfl
  have g6 := KG.out.cell 6 rfl
  have g7 := KG.out.cell 7 rfl
  have h0 := KW.out.cell 0 rfl
  have h1 := KW.out.cell 1 rfl
  have h2 := KW.out.cell 2 rfl
  have h3 := KW.out.cell 3 rfl
  have h4 := KW.out.cell 4 rfl
  have h5 := KW.out.cell 5 rfl
  have h6 := KW.out.cell 6 rfl
  have h7 := KW.out.cell 7 rfl
  go_wp2_with fail
  clear hkk
  clear g0 g1 g2 g3 g4 g5 g6 g7
  clear h0 h1 h2 h3 h4 h5 h6 h7
  with_reducible refine (eqSch_same nw sk ag rno lfo tu nx A1 A0 sso.length cap1 cap0 sso _ G.out.rd.2 (HOV.out.of_below Bv.out) HNO2.out).mono ?_
  rintro e u10 ⟨rfl, bb⟩
  replace G := Lib.hid (G.out.of_below bb)
  replace KG := Lib.hid (KG.out.below bb)
  replace Bv := Lib.hid (Bv.out.trans (bb.mono Bv.out.size))
  clear bb KW
  have htt : True := trivial
  have hxx0 : (x0 != x0) = false := by simp
  have g0 := KG.out.cell 0 rfl
  have g1 := KG.out.cell 1 rfl
  have g2 := KG.out.cell 2 rfl
  have g3 := KG.out.cell 3 rfl
  have g4 := KG.out.cell 4 rfl
  have g5 := KG.out.cell 5 rfl
  have g6 := KG.out.cell 6 rfl
  have g7 := KG.out.cell 7 rfl
  go_wp2_with fail
  clear g0 g1 g2 g3 g4 g5 g6 g7
  clear htt hxx0
  have hno3 : 4 * sso.length + bigTsk sso ≤ 10000000 := by have := HNO.out; omega
  with_reducible refine (markSchG nw sk ag rno lfo tu nx A1 sso.length cap1 C sso Ps1 _ 1 G.out (Nat.le_trans HCG.out (Nat.le_of_lt KG.out.lt)) hno3 (by omega) (by omega)).mono ?_
  rintro e u11 ⟨rfl, ht, hm, hu⟩
  have KG2 := Lib.hid (show Bk u11 gG 29 #[.int .i64 nw, .int .i64 sk, .int .i64 ag, .slice A1 sso.length cap1, .int .i64 rno, .int .i64 lfo, .int .i64 tu, .int .i64 nx] from (hu gG KG.out.lt HRX.out HLX.out).trans KG.out)
  have M := Lib.hid hm
  replace Bv := Lib.hid (Bv.out.trans (ht.mono HB0.out))
  clear ht hm hu G KG
  obtain ⟨m, hm⟩ : ∃ m, 4 * sso.length + bigTsk sso = m := ⟨_, rfl⟩
  rw [hm] at M hno3 ⊢
  clear hm
  have g0 := KG2.out.cell 0 rfl
  have g1 := KG2.out.cell 1 rfl
  have g2 := KG2.out.cell 2 rfl
  have g3 := KG2.out.cell 3 rfl
  have g4 := KG2.out.cell 4 rfl
  have g5 := KG2.out.cell 5 rfl
  have g6 := KG2.out.cell 6 rfl
  have g7 := KG2.out.cell 7 rfl
  go_wp2_with fail
  clear g0 g1 g2 g3 g4 g5 g6 g7
  with_reducible refine (heldSchA nw sk ag rno lfo tu nx A1 sso.length cap1 m _ 1 M.out (by omega) (by omega)).mono ?_
  rintro e u12 ⟨rfl, bb⟩
  have hq1 : ¬ (1 + (m : Int) < 0) := by omega
  have hq2 : ((1 + (m : Int)) != (1 + (m : Int))) = false := by simp
  replace M := Lib.hid (M.out.of_below bb)
  replace KG2 := Lib.hid (KG2.out.below bb)
  replace Bv := Lib.hid (Bv.out.trans (bb.mono Bv.out.size))
  have KT := Lib.hid (HKV.out.belowN Bv.out HKV.out.lt)
  clear bb
  have c0 := KT.out.cell 0 rfl
  have c1 := KT.out.cell 1 rfl
  have c2 := KT.out.cell 2 rfl
  have c3 := KT.out.cell 3 rfl
  have c4 := KT.out.cell 4 rfl
  have c5 := KT.out.cell 5 rfl
  have c6 := KT.out.cell 6 rfl
  have c7 := KT.out.cell 7 rfl
  go_wp2_with fail
  clear hq1 hq2
  clear c0 c1 c2 c3 c4 c5 c6 c7
  refine (toSchO nw sk ag rn lf tu nx A n p ss _ (HRV.out.of_below Bv.out) HN.out).mono ?_
  rintro e u13 ⟨gz, rfl, oz, bb⟩
  have Rz := Lib.hid oz.rdc
  clear oz
  replace M := Lib.hid (M.out.of_below bb)
  replace KG2 := Lib.hid (KG2.out.below bb)
  replace Bv := Lib.hid (Bv.out.trans (bb.mono Bv.out.size))
  clear bb KT
  go_wp2_with fail
  refine (HI.out _ _ Rz.out).mono ?_
  rintro e u14 ⟨V2, Ps2, rfl, h2, bb⟩
  obtain ⟨A2, cap2, rfl, -⟩ := h2.value
  have ba := (Below.refl u14.heap.size u14).alloc (Nat.le_refl _) (.cells #[.int .i64 nw, .int .i64 sk, .int .i64 ag, .slice A2 sso.length cap2, .int .i64 rno, .int .i64 lfo, .int .i64 tu, .int .i64 nx] 29)
  have KH := Lib.hid (Bk.new u14 29 #[.int .i64 nw, .int .i64 sk, .int .i64 ag, .slice A2 sso.length cap2, .int .i64 rno, .int .i64 lfo, .int .i64 tu, .int .i64 nx])
  have R2 := Lib.hid ((h2.of_below ba).rd.2)
  have bb := bb.trans (ba.mono bb.size)
  replace M := Lib.hid (M.out.of_below bb)
  replace KG2 := Lib.hid (KG2.out.below bb)
  replace Bv := Lib.hid (Bv.out.trans (bb.mono Bv.out.size))
  have KW := Lib.hid (HWV.out.belowN Bv.out HWV.out.lt)
  clear h2 bb ba Rz
  have g0 := KH.out.cell 0 rfl
  have g1 := KH.out.cell 1 rfl
  have g2 := KH.out.cell 2 rfl
  have g3 := KH.out.cell 3 rfl
  have g4 := KH.out.cell 4 rfl
  have g5 := KH.out.cell 5 rfl
  have g6 := KH.out.cell 6 rfl
  have g7 := KH.out.cell 7 rfl
  have h0 := KW.out.cell 0 rfl
  have h1 := KW.out.cell 1 rfl
  have h2 := KW.out.cell 2 rfl
  have h3 := KW.out.cell 3 rfl
  have h4 := KW.out.cell 4 rfl
  have h5 := KW.out.cell 5 rfl
  have h6 := KW.out.cell 6 rfl
  have h7 := KW.out.cell 7 rfl
  go_wp2_with fail
  clear g0 g1 g2 g3 g4 g5 g6 g7
  clear h0 h1 h2 h3 h4 h5 h6 h7
  generalize u14.alloc (.cells #[.int .i64 nw, .int .i64 sk, .int .i64 ag, .slice A2 sso.length cap2, .int .i64 rno, .int .i64 lfo, .int .i64 tu, .int .i64 nx] 29) = u15 at M KG2 Bv R2 ⊢
  clear KH KW
  with_reducible refine (eqSch_same nw sk ag rno lfo tu nx A2 A0 sso.length cap2 cap0 sso _ R2.out (HOV.out.of_below Bv.out) HNO2.out).mono ?_
  rintro e u16 ⟨rfl, bb⟩
  replace M := Lib.hid (M.out.of_below bb)
  replace KG2 := Lib.hid (KG2.out.below bb)
  replace Bv := Lib.hid (Bv.out.trans (bb.mono Bv.out.size))
  clear bb R2
  have htt : True := trivial
  have hxx0 : (x0 != x0) = false := by simp
  have g0 := KG2.out.cell 0 rfl
  have g1 := KG2.out.cell 1 rfl
  have g2 := KG2.out.cell 2 rfl
  have g3 := KG2.out.cell 3 rfl
  have g4 := KG2.out.cell 4 rfl
  have g5 := KG2.out.cell 5 rfl
  have g6 := KG2.out.cell 6 rfl
  have g7 := KG2.out.cell 7 rfl
  go_wp2_with fail
  clear g0 g1 g2 g3 g4 g5 g6 g7
  clear htt hxx0
  with_reducible refine (heldSchA nw sk ag rno lfo tu nx A1 sso.length cap1 m _ 1 M.out (by omega) (by omega)).mono ?_
  rintro e u17 ⟨rfl, bb⟩
  have hq1 : ¬ (1 + (m : Int) < 0) := by omega
  have hq2 : ((1 + (m : Int)) != (1 + (m : Int))) = false := by simp
  replace Bv := Lib.hid (Bv.out.trans (bb.mono Bv.out.size))
  clear bb M KG2
  go_wp2_with fail
  go_ret
  exact ⟨rfl, Bl.out.trans (Bv.out.mono Bl.out.size)⟩
end Qt
end Go.Proofs.Ytihnpfcjnfkfjaa
