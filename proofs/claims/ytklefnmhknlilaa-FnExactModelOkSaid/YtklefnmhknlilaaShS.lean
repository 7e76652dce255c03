/- What the model's own helper l04Shapes, its ModelOk and its ShapesOf give when they are called. Conditions: the slice of layers reads as the list that is named. -/
import Derived.Test.YtklefnmhknlilaaOutX
import Derived.Test.YtklefnmhknlilaaKept
import Derived.Deep.RegionHeld3
import Derived.Deep.DeepCutAuto
import Derived.Outline
namespace Go.Proofs.Ytklefnmhknlilaa
open Go.RowKit Go.Sort
set_option linter.unusedSimpArgs false
set_option linter.unusedVariables false
namespace Qt
/-- What is known in a round: the model's block, the layer at hand, the shapes so far. -/
structure RndS (W : World) (h w c : Int) (A : Option Addr) (n p b off k : Nat) (k' o s t m f z : Int) (A' : Option Addr) (n' p' : Nat) (B' : Option Addr) (q' r' : Nat) (xs ys : List Int) (gO : Nat) (x y v : Int) (out : Value) (cs : List Value) (u : World) : Prop where
  bm : Bk u W.heap.size 32 #[.int .i64 h, .int .i64 w, .int .i64 c, .slice A n p]
  bl : LayAt u b (off + k * 9) ⟨k', o, s, t, m, f, z, xs, ys⟩ ⟨A', n', p', B', q', r'⟩
  lt : b < u.heap.size
  bo : u.ownsRow (W.heap.size + 1) 29 3 out (k + 1) cs
  gl : gO < u.heap.size
  bc : u.cell? ⟨gO, k * 3, none⟩ = some (.int .i64 x) ∧ u.cell? ⟨gO, k * 3 + 1, none⟩ = some (.int .i64 y) ∧ u.cell? ⟨gO, k * 3 + 2, none⟩ = some (.int .i64 v)
theorem RndS.st {W : World} {h w c : Int} {A : Option Addr} {n p b off k : Nat} {k' o s t m f z : Int} {A' : Option Addr} {n' p' : Nat} {B' : Option Addr} {q' r' : Nat} {xs ys : List Int} {gO : Nat} {x y v : Int} {out : Value} {cs : List Value} : ∀ u u', RndS W h w c A n p b off k k' o s t m f z A' n' p' B' q' r' xs ys gO x y v out cs u → Below u.heap.size u u' → RndS W h w c A n p b off k k' o s t m f z A' n' p' B' q' r' xs ys gO x y v out cs u' := fun u u' h hb =>
  ⟨h.bm.below hb, h.bl.of_below h.lt hb, Nat.lt_of_lt_of_le h.lt hb.size, ownsRow_below h.bo hb, Nat.lt_of_lt_of_le h.gl hb.size,
    (hb.cell (p := ⟨gO, k * 3, none⟩) h.gl).trans h.bc.1, (hb.cell (p := ⟨gO, k * 3 + 1, none⟩) h.gl).trans h.bc.2.1, (hb.cell (p := ⟨gO, k * 3 + 2, none⟩) h.gl).trans h.bc.2.2⟩
theorem RndS.cells {W : World} {h w c : Int} {A : Option Addr} {n p b off k : Nat} {k' o s t m f z : Int} {A' : Option Addr} {n' p' : Nat} {B' : Option Addr} {q' r' : Nat} {xs ys : List Int} {gO : Nat} {x y v : Int} {out : Value} {cs : List Value} {u : World} (h : RndS W h w c A n p b off k k' o s t m f z A' n' p' B' q' r' xs ys gO x y v out cs u) : u.cell? ⟨gO, k * 3, none⟩ = some (.int .i64 x) ∧ u.cell? ⟨gO, k * 3 + 1, none⟩ = some (.int .i64 y) ∧ u.cell? ⟨gO, k * 3 + 2, none⟩ = some (.int .i64 v) ∧ u.cell? ⟨W.heap.size, 3, none⟩ = some (.slice A n p) ∧ u.cell? ⟨b, off + k * 9, none⟩ = some (.int .i64 k') ∧ u.cell? ⟨b, off + k * 9 + 1, none⟩ = some (.int .i64 o) ∧ u.cell? ⟨b, off + k * 9 + 2, none⟩ = some (.int .i64 s) ∧ u.cell? ⟨b, off + k * 9 + 3, none⟩ = some (.int .i64 t) ∧ u.cell? ⟨b, off + k * 9 + 4, none⟩ = some (.int .i64 m) ∧ u.cell? ⟨b, off + k * 9 + 5, none⟩ = some (.int .i64 f) ∧ u.cell? ⟨b, off + k * 9 + 6, none⟩ = some (.int .i64 z) ∧ u.cell? ⟨b, off + k * 9 + 7, none⟩ = some (.slice A' n' p') ∧ u.cell? ⟨b, off + k * 9 + 8, none⟩ = some (.slice B' q' r') := by
  obtain ⟨d0, d1, d2, d3, d4, d5, d6, d7, d8⟩ := h.bl.cells9
  exact ⟨h.bc.1, h.bc.2.1, h.bc.2.2, h.bm.cell 3 rfl, d0, d1, d2, d3, d4, d5, d6, d7, d8⟩
/-- How l04Shapes ends. -/
def ShR (W : World) (n : Nat) (r : Option (List Sh × Sh)) (e : Ending) (W' : World) : Prop := Below W.heap.size W W' ∧ match r with
  | none => e = .returned (.tuple #[.slice none 0 0, .bool false])
  | some (ss, _) => ∃ V, e = .returned (.tuple #[V, .bool true]) ∧ W'.ownsRow W.heap.size 29 3 V (n + 1) (shC ss)
theorem infoS3 : (Try.prog.info? 29).map (fun i => (i.zero, i.size, i.bytes)) = some (some (.agg #[.int .i64 0, .int .i64 0, .int .i64 0]), 3, 24) := by kernel_rfl
set_option maxRecDepth 100000 in
set_option maxHeartbeats 4000000 in
theorem l04ShapesS (h w c : Int) (A : Option Addr) (n p : Nat) (ls : List Lay) (W : World) (hr : RdL W A n ls) (hn : n + big ls ≤ 1048576) :
    Calls Try.prog 42 #[.agg #[.int .i64 h, .int .i64 w, .int .i64 c, .slice A n p]] W (ShR W n (modW (h, w, c) ls)) := by
  obtain ⟨i0, hi, hz0, hz1, hz2⟩ := info_parts infoS3
  obtain ⟨R, hR⟩ : ∃ R, modW (h, w, c) ls = R := ⟨_, rfl⟩
  rw [hR]
  have HRR := Lib.hid hR
  clear hR
  have kv := (Bk.new W 32 #[.int .i64 h, .int .i64 w, .int .i64 c, .slice A n p]).alloc (.cells #[.int .i64 h, .int .i64 w, .int .i64 c] 29)
  have bv := ((Below.refl _ W).alloc (Nat.le_refl _) (.cells #[.int .i64 h, .int .i64 w, .int .i64 c, .slice A n p] 32)).alloc (by simp) (.cells #[.int .i64 h, .int .i64 w, .int .i64 c] 29)
  have ov := World.ownsRow_lit (w := W.alloc (.cells #[.int .i64 h, .int .i64 w, .int .i64 c, .slice A n p] 32)) (base := W.heap.size + 1) (e := 29) (size := 3) #[.int .i64 h, .int .i64 w, .int .i64 c] 1 (by simp) (by decide) rfl
  rw [World.size_alloc] at ov
  have KV := Lib.hid kv
  have BV := Lib.hid bv
  have OV := Lib.hid ov
  clear kv bv ov
  have HR := Lib.hid hr
  have HN := Lib.hid hn
  have hn1 : (n : Int) ≤ 1048576 := by omega
  clear hr hn
  rcases hs : shOk h w c with _ | _
  · have HS := Lib.hid hs
    clear hs
    go_enter Try.func42, Try.ntmps42
    go_wp2_with fail
    generalize (W.alloc (.cells #[.int .i64 h, .int .i64 w, .int .i64 c, .slice A n p] 32)).alloc (.cells #[.int .i64 h, .int .i64 w, .int .i64 c] 29) = u0 at KV BV OV ⊢
    with_reducible refine (shapeOkS h w c false HS.out _).mono ?_
    rintro e w1 ⟨rfl, b2⟩
    have B1 := Lib.hid (BV.out.trans (b2.mono BV.out.size))
    clear b2
    have hRN : Hid (R = none) := Lib.hid (by
      rw [← HRR.out]
      unfold modW
      split
      · rename_i hlen
        exact way_noSh HS.out hlen.1
      · rfl)
    go_wp2_with fail
    refine bodyPost_ret (v := .tuple #[.slice none 0 0, .bool false]) (by simp [results, Try.results42, go_sem]) rfl ⟨B1.out, ?_⟩
    rw [hRN.out]
  · have HS := Lib.hid hs
    clear hs
    go_enter Try.func42, Try.ntmps42
    go_wp2_with fail
    generalize hu0 : (W.alloc (.cells #[.int .i64 h, .int .i64 w, .int .i64 c, .slice A n p] 32)).alloc (.cells #[.int .i64 h, .int .i64 w, .int .i64 c] 29) = u0 at KV BV OV ⊢
    clear hu0
    with_reducible refine (shapeOkS h w c true HS.out _).mono ?_
    rintro e w1 ⟨rfl, b2⟩
    replace KV := Lib.hid (KV.out.below b2)
    replace OV := Lib.hid (ownsRow_below OV.out b2)
    replace BV := Lib.hid (BV.out.trans (b2.mono BV.out.size))
    clear b2
    obtain ⟨k0, k1, k2, k3⟩ := KV.out.cell4
    go_wp2_with fail
    with_reducible refine (inS 1 6 n _).mono ?_
    rintro e w2 ⟨rfl, rfl⟩
    rcases hin : inB 1 6 n with _ | _
    · have hRN : Hid (R = none) := Lib.hid (by
        rw [← HRR.out]
        unfold modW
        have := inB_no hin
        have h1 := HR.out.1
        rw [if_neg (by omega)])
      clear k0 k1 k2 k3 hin
      go_wp2_with fail
      refine bodyPost_ret (v := .tuple #[.slice none 0 0, .bool false]) (by simp [results, Try.results42, go_sem]) rfl ⟨BV.out, ?_⟩
      rw [hRN.out]
    · have hin2 := inB_yes hin
      have hRW : Hid (R = way (h, w, c) ls) := Lib.hid (by
        rw [← HRR.out]
        unfold modW
        have h1 := HR.out.1
        rw [if_pos (by omega)])
      have hn6 : (n : Int) ≤ 6 := hin2.2
      have hn0 : (1 : Int) ≤ n := hin2.1
      clear k0 k1 k2 k3 hin hin2
      go_wp2_with fail
      go_loopw [4, 5] (fun out i wr => ∃ (k : Nat) (ss : List Sh) (e : Sh), k ≤ n ∧ i = .int .i64 k ∧ Hid (way (h, w, c) (ls.take k) = some (ss, e)) ∧ Hid (wr.ownsRow (W.heap.size + 1) 29 3 out (k + 1) (shC ss)) ∧ Hid (Bk wr W.heap.size 32 #[.int .i64 h, .int .i64 w, .int .i64 c, .slice A n p]) ∧ Hid (Below W.heap.size W wr)) (fun _ i _ => n - (intOf i).toNat)
      case atStart => exact ⟨0, [(h, w, c)], (h, w, c), Nat.zero_le _, rfl, Lib.hid (by rw [List.take_zero]; exact way_nil _), OV, KV, BV⟩
      case round =>
        clear KV OV BV
        obtain ⟨k, ss, ⟨x, y, v⟩, hk, rfl, WY, OV, KV, BV⟩ := hrel
        by_cases hlt : k < n
        · obtain ⟨b, off, k', o, s, t, m, f, z, A', n', p', B', q', r', xs, ys, rfl, hbs, hj, hat⟩ := (HR.out.of_below BV.out).at hlt
          have hik : (k : Int) < (n : Int) := by omega
          obtain ⟨k0, k1, k2, k3⟩ := KV.out.cell4
          obtain ⟨gO, cap, rfl, hgB, hgl⟩ := ownsRow_some OV.out (Nat.succ_pos k)
          have hlk : (ls.take k).length = k := by rw [List.length_take]; have := HR.out.1; omega
          have hss := (way_facts WY.out).2.2.1
          rw [hlk] at hss
          have hsl := (way_facts WY.out).1
          obtain ⟨q0, q1, q2⟩ := shC_at hss
          have P : Hid (KJ W (RndS W h w c (some ⟨b, off, none⟩) n p b off k k' o s t m f z A' n' p' B' q' r' xs ys gO x y v (.slice (some ⟨gO, 0, none⟩) (k + 1) cap) (shC ss)) wr) := Lib.hid ⟨RndS.st, ⟨KV.out, hat, hbs, OV.out, hgl, (OV.out.cellAt (k * 3) (by omega)).trans q0, (OV.out.cellAt (k * 3 + 1) (by omega)).trans q1, (OV.out.cellAt (k * 3 + 2) (by omega)).trans q2⟩, BV.out⟩
          have hbig := big_at9 hj
          have hle := hat.lens
          have HN2 : Hid (n' ≤ 1048576) := Lib.hid (by have := HN.out; omega)
          have HQ2 : Hid (q' ≤ 1048576) := Lib.hid (by have := HN.out; omega)
          have HSL := Lib.hid hsl
          rw [hlk] at HSL
          obtain ⟨x2, y2, v2, ok, hO⟩ : ∃ x2 y2 v2 ok, outV (outL x y v k' o s t m f z xs ys) = .tuple #[.agg #[.int .i64 x2, .int .i64 y2, .int .i64 v2], .bool ok] := by
            rcases outL x y v k' o s t m f z xs ys with _ | ⟨a, b, d⟩
            · exact ⟨0, 0, 0, false, rfl⟩
            · exact ⟨a, b, d, true, rfl⟩
          have HO := Lib.hid hO
          have HJ := Lib.hid hj
          have hkb : (k : Int) < (k : Int) + 1 := by omega
          clear hj hat hbs hbig hle hsl hss q0 q1 q2 hgB hgl hO hlk KV OV BV
          go_upto_region 7 with fail
          go_cut [6, 7] (fun q6 q7 wx => ∃ gS, q6 = .pointer (some ⟨gS, 0, none⟩) ∧ q7 = .bool ok ∧ Hid (KD W (RndS W h w c (some ⟨b, off, none⟩) n p b off k k' o s t m f z A' n' p' B' q' r' xs ys gO x y v (.slice (some ⟨gO, 0, none⟩) (k + 1) cap) (shC ss)) gS 29 #[.int .i64 x2, .int .i64 y2, .int .i64 v2] wx))
          case first =>
            have P1 := KJ.drew P
            have PZ1 := KZ.below (KJ.lay P 29 #[.int .i64 0, .int .i64 0, .int .i64 0]) (Below.refl _ _).drew
            have SS1 := RndS.cells P1.out.j
            have SA1 := fun o => RndS.cells (KJ.drew (KJ.alloc P o)).out.j
            go_region_held3 (fun w' => w'.cell? ⟨gO, k * 3, none⟩ = some (.int .i64 x) ∧ w'.cell? ⟨gO, k * 3 + 1, none⟩ = some (.int .i64 y) ∧ w'.cell? ⟨gO, k * 3 + 2, none⟩ = some (.int .i64 v) ∧ w'.cell? ⟨W.heap.size, 3, none⟩ = some (.slice (some ⟨b, off, none⟩) n p) ∧ w'.cell? ⟨b, off + k * 9, none⟩ = some (.int .i64 k') ∧ w'.cell? ⟨b, off + k * 9 + 1, none⟩ = some (.int .i64 o) ∧ w'.cell? ⟨b, off + k * 9 + 2, none⟩ = some (.int .i64 s) ∧ w'.cell? ⟨b, off + k * 9 + 3, none⟩ = some (.int .i64 t) ∧ w'.cell? ⟨b, off + k * 9 + 4, none⟩ = some (.int .i64 m) ∧ w'.cell? ⟨b, off + k * 9 + 5, none⟩ = some (.int .i64 f) ∧ w'.cell? ⟨b, off + k * 9 + 6, none⟩ = some (.int .i64 z) ∧ w'.cell? ⟨b, off + k * 9 + 7, none⟩ = some (.slice A' n' p') ∧ w'.cell? ⟨b, off + k * 9 + 8, none⟩ = some (.slice B' q' r'))
              (first
                | with_reducible exact SS
                | with_reducible exact SA _
                | with_reducible exact SZ _ _ _
                | with_reducible exact SS1
                | with_reducible exact SA1 _)
              (first
                | (go_at_call 67; (with_reducible refine (outSy x y v k' o s t m f z _ _ _ xs _ _ _ ys _ x2 y2 v2 ok HO.out (by first | with_reducible exact P1.out.j.bl.rds.1 | with_reducible exact (KZ.kj PZ1).out.j.bl.rds.1) (by first | with_reducible exact P1.out.j.bl.rds.2 | with_reducible exact (KZ.kj PZ1).out.j.bl.rds.2) HN2.out HQ2.out).mono ?_); rintro e uq ⟨rfl, bb⟩; (first | (with_reducible have PQ := KZ.below PZ1 bb; obtain ⟨e0, e1, e2, g0, g1, g2⟩ := KZ.zf PQ; have SS := RndS.cells (KZ.kj PQ).out.j; have SZ := fun x y z => RndS.cells (KZ.kj3 PQ x y z).out.j) | (with_reducible have PP := KJ.below P1 bb; have SS := RndS.cells PP.out.j; have SA := fun o => RndS.cells (KJ.alloc PP o).out.j)))
                | fail)
            all_goals go_wp2
            all_goals go_meet
            all_goals first | exact ⟨_, rfl, rfl, KZ.done3 PQ _ _ _⟩ | exact ⟨_, rfl, rfl, KJ.laid PP _ _⟩
          case rest =>
            obtain ⟨gS, rfl, rfl, D⟩ := hcut
            rcases hy : outY (x, y, v) ⟨k', o, s, t, m, f, z, xs, ys⟩ with _ | ⟨xa, xb, xd⟩
            · have e1 := outV_none hy
              rw [HO.out] at e1
              simp only [Value.tuple.injEq, Array.mk.injEq, List.cons.injEq, Value.bool.injEq, Value.agg.injEq, Value.int.injEq, true_and, and_true] at e1
              obtain ⟨_, rfl⟩ := e1
              have hRN : Hid (R = none) := Lib.hid (by rw [hRW.out]; exact way_bad HJ.out WY.out hy)
              clear hy HO
              go_wp2_with fail
              refine bodyPost_ret (v := .tuple #[.slice none 0 0, .bool false]) (by simp [results, Try.results42, go_sem]) rfl ⟨D.out.k.b, ?_⟩
              rw [hRN.out]
            · have e1 := outV_some hy
              rw [HO.out] at e1
              simp only [Value.tuple.injEq, Array.mk.injEq, List.cons.injEq, Value.bool.injEq, Value.agg.injEq, Value.int.injEq, true_and, and_true] at e1
              obtain ⟨⟨rfl, rfl, rfl⟩, rfl⟩ := e1
              have WN := Lib.hid (way_go HJ.out WY.out hy)
              clear hy HO k0 k1 k2 k3
              obtain ⟨s0, s1, s2⟩ := D.out.z.cell3
              have hwl := D.out.k.b.size
              go_wp2_with (at_builtin; go_loud (refine wpList_append_own _ rfl _ _ 36 rfl (W.heap.size + 1) 29 i0 (.agg #[.int .i64 0, .int .i64 0, .int .i64 0]) 3 24 Try.underlying36 hi hz0 hz1 hz2 rfl (by decide) _ _ _ rfl (D.out.k.j.bo.alloc _) _ 1 1 [.int .i64 x2, .int .i64 y2, .int .i64 v2] rfl rfl ?c1 ?c2 ?c3 ?c4 ?c5 ?_))
              case c1 =>
                intro j u hj
                match j, hj with
                | 0, hj => simp at hj; subst hj; simp [Addr.add]
                | 1, hj => simp at hj; subst hj; simp [Addr.add]
                | 2, hj => simp at hj; subst hj; simp [Addr.add]
              case c2 => intro u hu; simp at hu; rcases hu with rfl | rfl | rfl <;> rfl
              case c3 => unfold maxLen; omega
              case c4 => omega
              case c5 => simp; omega
              intro v' w1 hown' hgrow _
              have hD := D.out
              have hB1 : Below W.heap.size W w1 := (hD.k.b.alloc hD.k.b.size _).grown hgrow (by simp; omega) (fun r hr => by have := (hD.k.j.bo.lt r hr).1; omega)
              have hK1 : Bk w1 W.heap.size 32 #[.int .i64 h, .int .i64 w, .int .i64 c, .slice (some ⟨b, off, none⟩) n p] := (hD.k.j.bm.alloc _).grown hgrow (fun e => by have := (hD.k.j.bo.lt _ e.symm).1; omega)
              have hO1 : w1.ownsRow (W.heap.size + 1) 29 3 v' (k + 1 + 1) (shC (ss ++ [(x2, y2, v2)])) := by rw [shC_append]; exact hown'
              have HB1 := Lib.hid hB1
              have HK1 := Lib.hid hK1
              have HO1 := Lib.hid hO1
              clear hown' hgrow hB1 hK1 hO1 hD s0 s1 s2 hwl D
              go_wp2_with fail
              go_roundw
              case rel => exact ⟨k + 1, _, _, by omega, by go_num, WN, HO1, HK1, HB1⟩
              case measure => simp [intOf]; omega
        · obtain rfl : k = n := by omega
          have hRS : Hid (R = some (ss, (x, y, v))) := Lib.hid (by
            rw [hRW.out, ← WY.out, List.take_of_length_le (by rw [HR.out.1]; exact Nat.le_refl _)])
          obtain ⟨k0, k1, k2, k3⟩ := KV.out.cell4
          go_wp2_with fail
          refine bodyPost_ret (v := .tuple #[_, .bool true]) (by simp [results, Try.results42, go_sem]; rfl) rfl ⟨BV.out, ?_⟩
          rw [hRS.out]
          exact ⟨_, rfl, ownsRow_base OV.out (by omega)⟩
end Qt
end Go.Proofs.Ytklefnmhknlilaa
