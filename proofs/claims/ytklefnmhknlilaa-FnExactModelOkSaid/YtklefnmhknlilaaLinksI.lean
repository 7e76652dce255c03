/- What the program's linksOf gives when it is called: nil, or a chain of the model's layers. Conditions: the slice of layers reads as the list that is named. -/
import Derived.Test.YtklefnmhknlilaaLinks
import Derived.Test.YtklefnmhknlilaaOutX
import Derived.Test.YtklefnmhknlilaaRight
import Derived.Deep.RegionHeld3
import Derived.Deep.DeepCutAuto
import Derived.Outline
namespace Go.Proofs.Ytklefnmhknlilaa
open Go.RowKit Go.Sort
set_option linter.unusedSimpArgs false
set_option linter.unusedVariables false
namespace Qt
/-- How linksOf ends. -/
def LnR (W : World) (ls : List Lay) (r : Option (List Sh × Sh)) (e : Ending) (W' : World) : Prop := Below W.heap.size W W' ∧ match r with
  | none => e = .returned (.pointer none)
  | some (ss, _) => ∃ g gs, e = .returned (.pointer (some ⟨g, 0, none⟩)) ∧ Chain W (W.heap.size + 1) W' (g :: gs) ls ss
theorem LnR.none {W W' : World} {ls : List Lay} {r : Option (List Sh × Sh)} (hb : Below W.heap.size W W') (hr : r = Option.none) : LnR W ls r (.returned (.pointer Option.none)) W' := ⟨hb, by subst hr; rfl⟩
theorem LnR.some {W W' : World} {ls : List Lay} {r : Option (List Sh × Sh)} {ss : List Sh} {e : Sh} {g : Nat} {gs : List Nat} (hb : Below W.heap.size W W') (hr : r = Option.some (ss, e)) (hc : Chain W (W.heap.size + 1) W' (g :: gs) ls ss) : LnR W ls r (.returned (.pointer (Option.some ⟨g, 0, Option.none⟩))) W' := ⟨hb, by subst hr; exact ⟨g, gs, rfl, hc⟩⟩
/-- What is known in a round: the links so far, and the layer at hand. -/
structure RndL (W : World) (h w c : Int) (A : Option Addr) (n p GF GI : Nat) (gs : List Nat) (ls : List Lay) (ss : List Sh) (x y v : Int) (gl : Nat) (k o s t m f z : Int) (A' : Option Addr) (n' p' : Nat) (B' : Option Addr) (q' r' : Nat) (xs ys : List Int) (u : World) : Prop where
  L : LinkW W h w c A n p GF GI gs ls ss (x, y, v) u
  bl : Bk u gl 62 #[.int .i64 k, .int .i64 o, .int .i64 s, .int .i64 t, .int .i64 m, .int .i64 f, .int .i64 z, .slice A' n' p', .slice B' q' r']
  r1 : RdI u A' n' xs
  r2 : RdI u B' q' ys
theorem RndL.st {W : World} {h w c : Int} {A : Option Addr} {n p GF GI : Nat} {gs : List Nat} {ls : List Lay} {ss : List Sh} {x y v : Int} {gl : Nat} {k o s t m f z : Int} {A' : Option Addr} {n' p' : Nat} {B' : Option Addr} {q' r' : Nat} {xs ys : List Int} : ∀ u u', RndL W h w c A n p GF GI gs ls ss x y v gl k o s t m f z A' n' p' B' q' r' xs ys u → Below u.heap.size u u' → RndL W h w c A n p GF GI gs ls ss x y v gl k o s t m f z A' n' p' B' q' r' xs ys u' :=
  fun _ _ h hb => ⟨LinkW.st _ _ h.L hb, h.bl.below hb, h.r1.of_below hb, h.r2.of_below hb⟩
set_option maxRecDepth 100000 in
set_option maxHeartbeats 4000000 in
theorem linksOfI (h w c : Int) (A : Option Addr) (n p : Nat) (ls : List Lay) (W : World) (hr : RdL W A n ls) (hn : n + big ls ≤ 1048576) :
    Calls Try.prog 45 #[.agg #[.int .i64 h, .int .i64 w, .int .i64 c, .slice A n p]] W (LnR W ls (modW (h, w, c) ls)) := by
  obtain ⟨R, hR⟩ : ∃ R, modW (h, w, c) ls = R := ⟨_, rfl⟩
  rw [hR]
  have HRR := Lib.hid hR
  clear hR
  have HR := Lib.hid hr
  have HN := Lib.hid hn
  have hn1 : (n : Int) ≤ 1048576 := by omega
  clear hr hn
  have km := (Bk.new W 32 #[.int .i64 h, .int .i64 w, .int .i64 c, .slice A n p]).alloc (.cells #[.int .i64 n] 3)
  have bm := ((Below.refl _ W).alloc (Nat.le_refl _) (.cells #[.int .i64 h, .int .i64 w, .int .i64 c, .slice A n p] 32)).alloc (by simp) (.cells #[.int .i64 n] 3)
  have rm := RdI.one (W.alloc (.cells #[.int .i64 h, .int .i64 w, .int .i64 c, .slice A n p] 32)) n 3
  rw [World.size_alloc] at rm
  have KM := Lib.hid km
  have BM := Lib.hid bm
  have RM := Lib.hid rm
  clear km bm rm
  go_enter Try.func45, Try.ntmps45
  go_wp2_with fail
  generalize (W.alloc (.cells #[.int .i64 h, .int .i64 w, .int .i64 c, .slice A n p] 32)).alloc (.cells #[.int .i64 n] 3) = u0 at KM BM RM ⊢
  with_reducible refine (insideB 1 6 _ 1 _ [(n : Int)] _ RM.out (by omega)).mono ?_
  rw [allIn_one]
  rintro e u1 ⟨rfl, b1⟩
  replace KM := Lib.hid (KM.out.below b1)
  replace BM := Lib.hid (BM.out.trans (b1.mono BM.out.size))
  clear b1 RM
  rcases hin : inB 1 6 n with _ | _
  · have hRN : Hid (R = none) := Lib.hid (by
      rw [← HRR.out]
      unfold modW
      have := inB_no hin
      have h1 := HR.out.1
      rw [if_neg (by omega)])
    clear hin
    go_wp2_with fail
    go_ret
    exact LnR.none BM.out hRN.out
  have hin2 := inB_yes hin
  have hRW : Hid (R = way (h, w, c) ls) := Lib.hid (by
    rw [← HRR.out]
    unfold modW
    have h1 := HR.out.1
    rw [if_pos (by omega)])
  have hn6 : (n : Int) ≤ 6 := hin2.2
  have hn0 : (1 : Int) ≤ n := hin2.1
  clear hin hin2
  obtain ⟨k0, k1, k2, k3⟩ := KM.out.cell4
  have hlt := KM.out.lt
  go_wp2_with fail
  have L0 : LinkW W h w c A n p u1.heap.size (u1.heap.size + 1) [] (ls.take 0) [(h, w, c)] (h, w, c) ((u1.alloc (.cells #[.pointer none] 56)).alloc (.cells #[.int .i64 h, .int .i64 w, .int .i64 c] 29)) :=
    ⟨(KM.out.alloc _).alloc _, (Bk.new u1 56 #[.pointer none]).alloc _, by
      have := Bk.new (u1.alloc (.cells #[.pointer none] 56)) 29 #[.int .i64 h, .int .i64 w, .int .i64 c]
      rw [World.size_alloc] at this
      exact this, ⟨by simp, fun j g l hg => by simp at hg, fun j g hg => by simp at hg, fun i j g g' _ hg => by simp at hg⟩, hlt, by omega⟩
  have b2 := (BM.out.alloc BM.out.size (.cells #[.pointer none] 56)).alloc (by rw [World.size_alloc]; have := BM.out.size; omega) (.cells #[.int .i64 h, .int .i64 w, .int .i64 c] 29)
  have B2 := Lib.hid b2
  have LL := Lib.hid L0
  clear b2 L0 k0 k1 k2 k3 hlt KM BM
  generalize (u1.alloc (.cells #[.pointer none] 56)).alloc (.cells #[.int .i64 h, .int .i64 w, .int .i64 c] 29) = u2 at LL B2 ⊢
  generalize hGI : u1.heap.size + 1 = GI at LL ⊢
  generalize hGF : u1.heap.size = GF at LL ⊢
  clear hGI hGF
  go_loopw [5, 21] (fun en i wr => ∃ (k : Nat) (gs : List Nat) (ss : List Sh) (e : Sh) (eb eo : Nat), k ≤ n ∧ i = .int .i64 k ∧ en = .pointer (some ⟨eb, eo, none⟩) ∧ Hid (endAt GF gs = (eb, eo)) ∧ Hid (way (h, w, c) (ls.take k) = some (ss, e)) ∧ Hid (LinkW W h w c A n p GF GI gs (ls.take k) ss e wr) ∧ Hid (Below W.heap.size W wr)) (fun _ i _ => n - (intOf i).toNat)
  case atStart => exact ⟨0, [], _, _, GF, 0, Nat.zero_le _, rfl, rfl, Lib.hid rfl, Lib.hid (by rw [List.take_zero]; exact way_nil _), LL, B2⟩
  case round =>
    clear LL B2
    obtain ⟨k, gs, ss, ⟨x, y, v⟩, eb, eo, hk, rfl, rfl, HE, WY, LL, BV⟩ := hrel
    by_cases hlt : k < n
    · obtain ⟨b, off, k', o, s, t, m, f, z, A', n', p', B', q', r', xs, ys, rfl, hbs, hj, hat0⟩ := HR.out.at hlt
      have hat := hat0.of_below hbs BV.out
      obtain ⟨c0, c1, c2, c3, c4, c5, c6, c7, c8⟩ := hat.cells9
      have hik : (k : Int) < (n : Int) := by omega
      obtain ⟨i0, i1, i2⟩ := LL.out.bi.cell3
      have hbig := big_at9 hj
      have hle := hat.lens
      have HN2 : Hid (n' ≤ 1048576) := Lib.hid (by have := HN.out; omega)
      have HQ2 : Hid (q' ≤ 1048576) := Lib.hid (by have := HN.out; omega)
      have hIl := LL.out.bi.lt
      have hbl : b < wr.heap.size := Nat.lt_of_lt_of_le hbs BV.out.size
      have HAT0 := Lib.hid hat0
      have HJ := Lib.hid hj
      have P : Hid (KJ W (RndL W h w c (some ⟨b, off, none⟩) n p GF GI gs (ls.take k) ss x y v wr.heap.size k' o s t m f z A' n' p' B' q' r' xs ys) (wr.alloc (.cells #[.int .i64 k', .int .i64 o, .int .i64 s, .int .i64 t, .int .i64 m, .int .i64 f, .int .i64 z, .slice A' n' p', .slice B' q' r'] 62))) := Lib.hid ⟨RndL.st, ⟨LinkW.st _ _ LL.out ((Below.refl _ wr).alloc (Nat.le_refl _) _), Bk.new wr _ _, hat.rds.1.of_below ((Below.refl _ wr).alloc (Nat.le_refl _) _), hat.rds.2.of_below ((Below.refl _ wr).alloc (Nat.le_refl _) _)⟩, BV.out.alloc BV.out.size _⟩
      obtain ⟨x2, y2, v2, ok, hO⟩ : ∃ x2 y2 v2 ok, outV (outL x y v k' o s t m f z xs ys) = .tuple #[.agg #[.int .i64 x2, .int .i64 y2, .int .i64 v2], .bool ok] := by
        rcases outL x y v k' o s t m f z xs ys with _ | ⟨a, b, d⟩
        · exact ⟨0, 0, 0, false, rfl⟩
        · exact ⟨a, b, d, true, rfl⟩
      have HO := Lib.hid hO
      clear hat hat0 hj hbig hle hbs hO
      go_wp2_with fail
      clear c0 c1 c2 c3 c4 c5 c6 c7 c8 i0 i1 i2 hIl hbl LL BV
      generalize wr.alloc (.cells #[.int .i64 k', .int .i64 o, .int .i64 s, .int .i64 t, .int .i64 m, .int .i64 f, .int .i64 z, .slice A' n' p', .slice B' q' r'] 62) = w2 at P ⊢
      generalize wr.heap.size = gl at P ⊢
      with_reducible refine (outIy x y v k' o s t m f z _ _ _ xs _ _ _ ys _ x2 y2 v2 ok HO.out P.out.j.r1 P.out.j.r2 HN2.out HQ2.out).mono ?_
      rintro e w3 ⟨rfl, bb⟩
      replace P := KJ.below P bb
      clear bb
      go_upto_region 9 with fail
      have hET : eb < w3.heap.size ∧ GI < w3.heap.size := ⟨(P.out.j.L.atEnd HE.out).2.2.1, P.out.j.L.bi.lt⟩
      have D := KJ.laid P 29 #[.int .i64 x2, .int .i64 y2, .int .i64 v2]
      generalize w3.alloc (.cells #[.int .i64 x2, .int .i64 y2, .int .i64 v2] 29) = w4 at D ⊢
      generalize w3.heap.size = gT at D hET ⊢
      have HET := Lib.hid hET
      clear hET
      clear P
      rcases hy : outY (x, y, v) ⟨k', o, s, t, m, f, z, xs, ys⟩ with _ | ⟨xa, xb, xd⟩
      · have e1 := outV_none hy
        rw [HO.out] at e1
        simp only [Value.tuple.injEq, Array.mk.injEq, List.cons.injEq, Value.bool.injEq, Value.agg.injEq, Value.int.injEq, true_and, and_true] at e1
        obtain ⟨_, rfl⟩ := e1
        have hRN : Hid (R = none) := Lib.hid (by rw [hRW.out]; exact way_bad HJ.out WY.out hy)
        clear hy HO
        go_wp2_with fail
        go_ret
        exact LnR.none D.out.k.b hRN.out
      · have e1 := outV_some hy
        rw [HO.out] at e1
        simp only [Value.tuple.injEq, Array.mk.injEq, List.cons.injEq, Value.bool.injEq, Value.agg.injEq, Value.int.injEq, true_and, and_true] at e1
        obtain ⟨⟨rfl, rfl, rfl⟩, rfl⟩ := e1
        have WN := Lib.hid (way_go HJ.out WY.out hy)
        clear hy HO
        obtain ⟨s0, s1, s2⟩ := D.out.z.cell3
        obtain ⟨i0, i1, i2⟩ := D.out.k.j.L.bi.cell3
        obtain ⟨j0, j1, j2⟩ := D.out.k.j.L.bi.free3
        obtain ⟨c0, c1, c2, c3, c4, c5, c6, c7, c8⟩ := D.out.k.j.bl.cell9
        obtain ⟨q1, q2, q3, q4, q5⟩ := D.out.k.j.L.atEnd HE.out
        have hIl := D.out.k.j.L.bi.lt
        have hTl := D.out.z.lt
        have hgl := D.out.k.j.bl.lt
        go_upto_region 12 with fail
        have hu5 : (w4.setCell ⟨eb, eo, none⟩ (.pointer (some ⟨w4.heap.size, 0, none⟩))).alloc (.cells #[.int .i64 k', .int .i64 o, .int .i64 s, .int .i64 t, .int .i64 m, .int .i64 f, .int .i64 z, .slice A' n' p', .slice B' q' r', .int .i64 x, .int .i64 y, .int .i64 v, .int .i64 x2, .int .i64 y2, .int .i64 v2, .pointer none] 64) = (w4.alloc (.cells #[.int .i64 k', .int .i64 o, .int .i64 s, .int .i64 t, .int .i64 m, .int .i64 f, .int .i64 z, .slice A' n' p', .slice B' q' r', .int .i64 x, .int .i64 y, .int .i64 v, .int .i64 x2, .int .i64 y2, .int .i64 v2, .pointer none] 64)).setCell ⟨eb, eo, none⟩ (.pointer (some ⟨w4.heap.size, 0, none⟩)) := (World.setCell_alloc_past _ _ _ _ q3).symm
        have HU := Lib.hid hu5
        clear hu5 c0 c1 c2 c3 c4 c5 c6 c7 c8 i0 i1 i2 j0 j1 j2 s0 s1 s2
        generalize hu : (w4.setCell ⟨eb, eo, none⟩ (.pointer (some ⟨w4.heap.size, 0, none⟩))).alloc (.cells #[.int .i64 k', .int .i64 o, .int .i64 s, .int .i64 t, .int .i64 m, .int .i64 f, .int .i64 z, .slice A' n' p', .slice B' q' r', .int .i64 x, .int .i64 y, .int .i64 v, .int .i64 x2, .int .i64 y2, .int .i64 v2, .pointer none] 64) = u5 at HU ⊢
        clear hu
        have hbT : Bk u5 gT 29 #[.int .i64 x2, .int .i64 y2, .int .i64 v2] := by
          rw [HU.out]; exact (D.out.z.alloc _).far (p := ⟨eb, eo, none⟩) (by have := HET.out; show gT ≠ eb; omega) _
        have hbI : Bk u5 GI 29 #[.int .i64 x, .int .i64 y, .int .i64 v] := by
          rw [HU.out]; exact (D.out.k.j.L.bi.alloc _).far (p := ⟨eb, eo, none⟩) (by show GI ≠ eb; omega) _
        have he1 : u5.cell? ⟨eb, eo, none⟩ = some (.pointer (some ⟨w4.heap.size, 0, none⟩)) := by
          rw [HU.out]
          have q0 : (w4.alloc (.cells #[.int .i64 k', .int .i64 o, .int .i64 s, .int .i64 t, .int .i64 m, .int .i64 f, .int .i64 z, .slice A' n' p', .slice B' q' r', .int .i64 x, .int .i64 y, .int .i64 v, .int .i64 x2, .int .i64 y2, .int .i64 v2, .pointer none] 64)).cell? ⟨eb, eo, none⟩ = some (.pointer none) := by
            rw [Below.cell ((Below.refl _ w4).alloc (Nat.le_refl _) _) (p := ⟨eb, eo, none⟩) q3]; exact q1
          exact World.cell?_setCell_same _ _ _ q0
        obtain ⟨s0, s1, s2⟩ := hbT.cell3
        obtain ⟨i0, i1, i2⟩ := hbI.cell3
        obtain ⟨j0, j1, j2⟩ := hbI.free3
        have hne1 : gT ≠ GI := by have := HET.out; omega
        have hlk : (ls.take k).length = k := by rw [List.length_take]; have := HR.out.1; omega
        have hwf := way_facts WY.out
        have htk : ls.take (k + 1) = ls.take k ++ [⟨k', o, s, t, m, f, z, xs, ys⟩] := by rw [List.take_add_one, HJ.out]; rfl
        have LN : LinkW W h w c (some ⟨b, off, none⟩) n p GF GI (gs ++ [w4.heap.size]) (ls.take (k + 1)) (ss ++ [(x2, y2, v2)]) (x2, y2, v2) ((((u5.setCell ⟨GI, 0, none⟩ (.int .i64 x2)).setCell ⟨GI, 1, none⟩ (.int .i64 y2)).setCell ⟨GI, 2, none⟩ (.int .i64 v2)).drew) := by
          rw [htk]
          refine LinkW.grow D.out.k.j.L HE.out hwf.1 hwf.2.2.1 ⟨k', o, s, t, m, f, z, xs, ys⟩ ⟨A', n', p', B', q', r'⟩ (x2, y2, v2) HAT0.out.2 w4.heap.size rfl u5 HU.out _ ?_ hbI.set3
          intro q hq hq2
          have hq' : q ≠ GI := hq
          exact ((Below.heap_setCell _ ⟨GI, 2, none⟩ _ q hq').trans (Below.heap_setCell _ ⟨GI, 1, none⟩ _ q hq')).trans (Below.heap_setCell _ ⟨GI, 0, none⟩ _ q hq')
        have b5 : Below W.heap.size W u5 := by rw [HU.out]; exact (D.out.k.b.alloc D.out.k.b.size _).setCell (p := ⟨eb, eo, none⟩) (Nat.le_of_lt q5) _
        have b6 : Below W.heap.size W ((((u5.setCell ⟨GI, 0, none⟩ (.int .i64 x2)).setCell ⟨GI, 1, none⟩ (.int .i64 y2)).setCell ⟨GI, 2, none⟩ (.int .i64 v2)).drew) := (below_set3 b5 (by have := D.out.k.j.L.f1; have := D.out.k.j.L.f2; omega) _ _ _).drew
        have LL := Lib.hid LN
        have B6 := Lib.hid b6
        have HE2 := Lib.hid (endAt_snoc GF gs w4.heap.size)
        clear LN b5 b6 hwf htk hlk hbT hbI D HAT0 HU q1 q2
        go_region
        go_wp2_with fail
        go_roundw
        case rel => exact ⟨k + 1, _, _, _, _, _, by omega, by go_num, rfl, HE2, WN, LL, B6⟩
        case measure => simp [intOf]; omega
    · obtain rfl : k = n := by omega
      have hRS : Hid (R = some (ss, (x, y, v))) := Lib.hid (by
        rw [hRW.out, ← WY.out, List.take_of_length_le (by rw [HR.out.1]; exact Nat.le_refl _)])
      have hlk : ls.take k = ls := List.take_of_length_le (by rw [HR.out.1]; exact Nat.le_refl _)
      rw [hlk] at LL
      obtain ⟨g, gs', hgs⟩ : ∃ g gs', gs = g :: gs' := by
        cases gs with
        | nil => have h1 := LL.out.ch.len; have h2 := HR.out.1; simp at h1; omega
        | cons g gs' => exact ⟨g, gs', rfl⟩
      subst hgs
      have hb0 : wr.cell? ⟨GF, 0, none⟩ = some (.pointer (some ⟨g, 0, none⟩)) := LL.out.bf.cell 0 rfl
      go_wp2_with fail
      go_ret
      have hc := LL.out.ch
      exact LnR.some BV.out hRS.out ⟨hc.len, hc.node, fun j g hg => by have := hc.lo j g hg; have := LL.out.f1; have := LL.out.f2; omega, hc.inc⟩
end Qt
end Go.Proofs.Ytklefnmhknlilaa
