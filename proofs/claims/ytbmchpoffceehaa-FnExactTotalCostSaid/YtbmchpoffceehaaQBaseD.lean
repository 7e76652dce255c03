/- Plain numbers: the shapes behind the layers of a model. No conditions. -/
import Derived.Test.YtbmchpoffceehaaQBaseB
import Derived.Test.YtbmchpoffceehaaQBaseC
import Derived.Test.YtbmchpoffceehaaQOutI
import Derived.Deep.RegionHeld3
import Derived.Deep.DeepCutAuto
import Derived.Outline
namespace Go.Proofs.Ytbmchpoffceehaa
open Go.RowKit
namespace Qt
abbrev Sh := Int × Int × Int
def outY (s : Sh) (l : Lay) : Option Sh := outL s.1 s.2.1 s.2.2 l.k l.o l.s l.t l.m l.f l.z l.xs l.ys
def wayStep (a : Option (List Sh × Sh)) (l : Lay) : Option (List Sh × Sh) := match a with
  | none => none
  | some (ss, s) => match outY s l with
    | none => none
    | some s' => some (ss ++ [s'], s')
/-- The shapes, the first one and the one behind each layer, and the last of them; nothing where a layer is not right. -/
def way (s : Sh) (ls : List Lay) : Option (List Sh × Sh) := ls.foldl wayStep (some ([s], s))
def modW (s : Sh) (ls : List Lay) : Option (List Sh × Sh) := if 1 ≤ ls.length ∧ ls.length ≤ 6 then way s ls else none
theorem way_nil (s : Sh) : way s [] = some ([s], s) := rfl
theorem fold_none (ls : List Lay) : ls.foldl wayStep none = none := by
  induction ls with
  | nil => rfl
  | cons l r ih => simpa [wayStep] using ih
theorem way_snoc (s : Sh) (ls : List Lay) (l : Lay) : way s (ls ++ [l]) = wayStep (way s ls) l := by simp [way, List.foldl_append]
theorem way_take {s : Sh} {ls : List Lay} {j : Nat} {l : Lay} (h : ls[j]? = some l) : way s (ls.take (j + 1)) = wayStep (way s (ls.take j)) l := by
  rw [List.take_add_one, h]
  exact way_snoc s _ l
theorem way_stop {s : Sh} {ls : List Lay} {j : Nat} (h : way s (ls.take j) = none) : way s ls = none := by
  conv => lhs; rw [← List.take_append_drop j ls]
  unfold way at *
  rw [List.foldl_append, h, fold_none]
theorem way_go {s : Sh} {ls : List Lay} {j : Nat} {l : Lay} {ss : List Sh} {e e' : Sh} (h : ls[j]? = some l) (hw : way s (ls.take j) = some (ss, e)) (ho : outY e l = some e') : way s (ls.take (j + 1)) = some (ss ++ [e'], e') := by
  rw [way_take h, hw]
  simp [wayStep, ho]
theorem way_bad {s : Sh} {ls : List Lay} {j : Nat} {l : Lay} {ss : List Sh} {e : Sh} (h : ls[j]? = some l) (hw : way s (ls.take j) = some (ss, e)) (ho : outY e l = none) : way s ls = none := by
  refine way_stop (j := j + 1) ?_
  rw [way_take h, hw]
  simp [wayStep, ho]
theorem wayStep_some {a : Option (List Sh × Sh)} {l : Lay} {r : List Sh × Sh} (h : wayStep a l = some r) : ∃ ss e e', a = some (ss, e) ∧ outY e l = some e' ∧ r = (ss ++ [e'], e') := by
  rcases a with _ | ⟨ss, e⟩
  · simp [wayStep] at h
  · simp only [wayStep] at h
    split at h
    · cases h
    · rename_i e' he
      exact ⟨ss, e, e', rfl, he, by cases h; rfl⟩
/-- How the shapes stand to the layers: as many and one more, each is what the layer gives for the one ahead, the last is the last. -/
theorem way_facts {s : Sh} {ls : List Lay} {ss : List Sh} {e : Sh} (h : way s ls = some (ss, e)) :
    ss.length = ls.length + 1 ∧ ss[0]? = some s ∧ ss[ls.length]? = some e ∧ ∀ j l, ls[j]? = some l → ∃ a b, ss[j]? = some a ∧ ss[j + 1]? = some b ∧ outY a l = some b := by
  obtain ⟨r, hr⟩ : ∃ r, r = ls.reverse := ⟨_, rfl⟩
  obtain rfl : ls = r.reverse := by rw [hr, List.reverse_reverse]
  clear hr
  induction r generalizing ss e with
  | nil => simp [way] at h; obtain ⟨rfl, rfl⟩ := h; simp
  | cons l r ih =>
    rw [List.reverse_cons, way_snoc] at h
    obtain ⟨ss1, e1, e2, h1, h2, h3⟩ := wayStep_some h
    cases h3
    obtain ⟨k1, k2, k3, k4⟩ := ih h1
    rw [List.reverse_cons]
    simp only [List.length_append, List.length_cons, List.length_nil]
    refine ⟨by omega, ?_, ?_, ?_⟩
    · rw [List.getElem?_append_left (by omega)]; exact k2
    · rw [show r.reverse.length + (0 + 1) = ss1.length by omega, List.getElem?_append_right (Nat.le_refl _)]; simp
    · intro j l' hj
      by_cases hlt : j < r.reverse.length
      · rw [List.getElem?_append_left hlt] at hj
        obtain ⟨a, b, q1, q2, q3⟩ := k4 j l' hj
        exact ⟨a, b, by rw [List.getElem?_append_left (by omega)]; exact q1, by rw [List.getElem?_append_left (by omega)]; exact q2, q3⟩
      · have hj2 : j = r.reverse.length := by have := (List.getElem?_eq_some_iff.1 hj).1; simp at this hlt ⊢; omega
        subst hj2
        rw [List.getElem?_append_right (Nat.le_refl _)] at hj
        simp only [Nat.sub_self, List.getElem?_cons_zero, Option.some.injEq] at hj
        subst hj
        refine ⟨e1, e, ?_, ?_, h2⟩
        · rw [List.getElem?_append_left (by omega)]; exact k3
        · rw [show r.reverse.length + 1 = ss1.length by omega, List.getElem?_append_right (Nat.le_refl _)]; simp
theorem outY_sh {s e : Sh} {l : Lay} (h : outY s l = some e) : shOk s.1 s.2.1 s.2.2 = true := by
  rcases hs : shOk s.1 s.2.1 s.2.2 with _ | _
  · simp [outY, outL, hs] at h
  · rfl
theorem way_noSh {s : Sh} {ls : List Lay} (hs : shOk s.1 s.2.1 s.2.2 = false) (hl : 1 ≤ ls.length) : way s ls = none := by
  have hj : ls[0]? = some (ls[0]'(by omega)) := List.getElem?_eq_getElem _
  refine way_bad (j := 0) hj (by rw [List.take_zero]; exact way_nil s) ?_
  simp [outY, outL, hs]
/-- The cells of a list of shapes, one behind the other. -/
def shC : List Sh → List Value
  | [] => []
  | (a, b, c) :: r => .int .i64 a :: .int .i64 b :: .int .i64 c :: shC r
theorem shC_append (x y : List Sh) : shC (x ++ y) = shC x ++ shC y := by
  induction x with
  | nil => rfl
  | cons a r ih => obtain ⟨a, b, c⟩ := a; simp [shC, ih]
theorem shC_length (x : List Sh) : (shC x).length = x.length * 3 := by
  induction x with
  | nil => rfl
  | cons a r ih => obtain ⟨a, b, c⟩ := a; simp [shC, ih]; omega
theorem shC_at {x : List Sh} {j : Nat} {a b c : Int} (h : x[j]? = some (a, b, c)) : (shC x)[j * 3]? = some (.int .i64 a) ∧ (shC x)[j * 3 + 1]? = some (.int .i64 b) ∧ (shC x)[j * 3 + 2]? = some (.int .i64 c) := by
  induction x generalizing j with
  | nil => simp at h
  | cons e r ih =>
    obtain ⟨x, y, z⟩ := e
    cases j with
    | zero => simp at h; obtain ⟨rfl, rfl, rfl⟩ := h; exact ⟨rfl, rfl, rfl⟩
    | succ j =>
      simp at h
      obtain ⟨h1, h2, h3⟩ := ih h
      rw [show (j + 1) * 3 = j * 3 + 3 by omega]
      exact ⟨h1, h2, h3⟩
end Qt
end Go.Proofs.Ytbmchpoffceehaa

namespace Go.Proofs.Ytbmchpoffceehaa
open Go.RowKit Go.Sort
namespace Qt
theorem outSy (h w c k o s t m f z : Int) (A : Option Addr) (n p : Nat) (xs : List Int) (B : Option Addr) (q r : Nat) (ys : List Int) (W : World) (x y v : Int) (ok : Bool) (hO : outV (outL h w c k o s t m f z xs ys) = .tuple #[.agg #[.int .i64 x, .int .i64 y, .int .i64 v], .bool ok]) (hr : RdI W A n xs) (hr2 : RdI W B q ys) (hn : n ≤ 1048576) (hq : q ≤ 1048576) :
    Calls Try.prog 83 #[.agg #[.int .i64 h, .int .i64 w, .int .i64 c], .agg #[.int .i64 k, .int .i64 o, .int .i64 s, .int .i64 t, .int .i64 m, .int .i64 f, .int .i64 z, .slice A n p, .slice B q r]] W fun e W' => e = .returned (.tuple #[.agg #[.int .i64 x, .int .i64 y, .int .i64 v], .bool ok]) ∧ Below W.heap.size W W' := by
  have := outSS h w c k o s t m f z A n p xs B q r ys W hr hr2 hn hq
  rw [hO] at this
  exact this
theorem outIy (h w c k o s t m f z : Int) (A : Option Addr) (n p : Nat) (xs : List Int) (B : Option Addr) (q r : Nat) (ys : List Int) (W : World) (x y v : Int) (ok : Bool) (hO : outV (outL h w c k o s t m f z xs ys) = .tuple #[.agg #[.int .i64 x, .int .i64 y, .int .i64 v], .bool ok]) (hr : RdI W A n xs) (hr2 : RdI W B q ys) (hn : n ≤ 1048576) (hq : q ≤ 1048576) :
    Calls Try.prog 96 #[.agg #[.int .i64 h, .int .i64 w, .int .i64 c], .agg #[.int .i64 k, .int .i64 o, .int .i64 s, .int .i64 t, .int .i64 m, .int .i64 f, .int .i64 z, .slice A n p, .slice B q r]] W fun e W' => e = .returned (.tuple #[.agg #[.int .i64 x, .int .i64 y, .int .i64 v], .bool ok]) ∧ Below W.heap.size W W' := by
  have := outII h w c k o s t m f z A n p xs B q r ys W hr hr2 hn hq
  rw [hO] at this
  exact this
theorem outV_some {h w c k o s t m f z x y v : Int} {xs ys : List Int} (ho : outY (h, w, c) ⟨k, o, s, t, m, f, z, xs, ys⟩ = some (x, y, v)) : outV (outL h w c k o s t m f z xs ys) = .tuple #[.agg #[.int .i64 x, .int .i64 y, .int .i64 v], .bool true] := by
  have : outL h w c k o s t m f z xs ys = some (x, y, v) := ho
  rw [this]; rfl
theorem outV_none {h w c k o s t m f z : Int} {xs ys : List Int} (ho : outY (h, w, c) ⟨k, o, s, t, m, f, z, xs, ys⟩ = none) : outV (outL h w c k o s t m f z xs ys) = .tuple #[.agg #[.int .i64 0, .int .i64 0, .int .i64 0], .bool false] := by
  have : outL h w c k o s t m f z xs ys = none := ho
  rw [this]; rfl
end Qt
end Go.Proofs.Ytbmchpoffceehaa

namespace Go.Proofs.Ytbmchpoffceehaa
open Go.RowKit Go.Sort
set_option linter.unusedSimpArgs false
set_option linter.unusedVariables false
namespace Qt
/-- What is known in a round: the model's block, the layer at hand, the shapes so far. -/
structure RndS (W : World) (h w c : Int) (A : Option Addr) (n p b off k : Nat) (k' o s t m f z : Int) (A' : Option Addr) (n' p' : Nat) (B' : Option Addr) (q' r' : Nat) (xs ys : List Int) (gO : Nat) (x y v : Int) (out : Value) (cs : List Value) (u : World) : Prop where
  bm : Bk u W.heap.size 37 #[.int .i64 h, .int .i64 w, .int .i64 c, .slice A n p]
  bl : LayAt u b (off + k * 9) ⟨k', o, s, t, m, f, z, xs, ys⟩ ⟨A', n', p', B', q', r'⟩
  lt : b < u.heap.size
  bo : u.ownsRow (W.heap.size + 1) 34 3 out (k + 1) cs
  gl : gO < u.heap.size
  bc : u.cell? ⟨gO, k * 3, none⟩ = some (.int .i64 x) ∧ u.cell? ⟨gO, k * 3 + 1, none⟩ = some (.int .i64 y) ∧ u.cell? ⟨gO, k * 3 + 2, none⟩ = some (.int .i64 v)
theorem RndS.st {W : World} {h w c : Int} {A : Option Addr} {n p b off k : Nat} {k' o s t m f z : Int} {A' : Option Addr} {n' p' : Nat} {B' : Option Addr} {q' r' : Nat} {xs ys : List Int} {gO : Nat} {x y v : Int} {out : Value} {cs : List Value} : ∀ u u', RndS W h w c A n p b off k k' o s t m f z A' n' p' B' q' r' xs ys gO x y v out cs u → Below u.heap.size u u' → RndS W h w c A n p b off k k' o s t m f z A' n' p' B' q' r' xs ys gO x y v out cs u' := fun u u' h hb =>
  ⟨h.bm.below hb, h.bl.of_below h.lt hb, Nat.lt_of_lt_of_le h.lt hb.size, ownsRow_below h.bo hb, Nat.lt_of_lt_of_le h.gl hb.size,
    (hb.cell (p := ⟨gO, k * 3, none⟩) h.gl).trans h.bc.1, (hb.cell (p := ⟨gO, k * 3 + 1, none⟩) h.gl).trans h.bc.2.1, (hb.cell (p := ⟨gO, k * 3 + 2, none⟩) h.gl).trans h.bc.2.2⟩
theorem RndS.cells {W : World} {h w c : Int} {A : Option Addr} {n p b off k : Nat} {k' o s t m f z : Int} {A' : Option Addr} {n' p' : Nat} {B' : Option Addr} {q' r' : Nat} {xs ys : List Int} {gO : Nat} {x y v : Int} {out : Value} {cs : List Value} {u : World} (h : RndS W h w c A n p b off k k' o s t m f z A' n' p' B' q' r' xs ys gO x y v out cs u) : u.cell? ⟨gO, k * 3, none⟩ = some (.int .i64 x) ∧ u.cell? ⟨gO, k * 3 + 1, none⟩ = some (.int .i64 y) ∧ u.cell? ⟨gO, k * 3 + 2, none⟩ = some (.int .i64 v) ∧ u.cell? ⟨W.heap.size, 3, none⟩ = some (.slice A n p) ∧ u.cell? ⟨b, off + k * 9, none⟩ = some (.int .i64 k') ∧ u.cell? ⟨b, off + k * 9 + 1, none⟩ = some (.int .i64 o) ∧ u.cell? ⟨b, off + k * 9 + 2, none⟩ = some (.int .i64 s) ∧ u.cell? ⟨b, off + k * 9 + 3, none⟩ = some (.int .i64 t) ∧ u.cell? ⟨b, off + k * 9 + 4, none⟩ = some (.int .i64 m) ∧ u.cell? ⟨b, off + k * 9 + 5, none⟩ = some (.int .i64 f) ∧ u.cell? ⟨b, off + k * 9 + 6, none⟩ = some (.int .i64 z) ∧ u.cell? ⟨b, off + k * 9 + 7, none⟩ = some (.slice A' n' p') ∧ u.cell? ⟨b, off + k * 9 + 8, none⟩ = some (.slice B' q' r') := by
  obtain ⟨d0, d1, d2, d3, d4, d5, d6, d7, d8⟩ := h.bl.cells9
  exact ⟨h.bc.1, h.bc.2.1, h.bc.2.2, h.bm.cell 3 rfl, d0, d1, d2, d3, d4, d5, d6, d7, d8⟩
/-- How l04Shapes ends. -/
def ShR (W : World) (n : Nat) (r : Option (List Sh × Sh)) (e : Ending) (W' : World) : Prop := Below W.heap.size W W' ∧ match r with
  | none => e = .returned (.tuple #[.slice none 0 0, .bool false])
  | some (ss, _) => ∃ V, e = .returned (.tuple #[V, .bool true]) ∧ W'.ownsRow W.heap.size 34 3 V (n + 1) (shC ss)
theorem infoS3 : (Try.prog.info? 34).map (fun i => (i.zero, i.size, i.bytes)) = some (some (.agg #[.int .i64 0, .int .i64 0, .int .i64 0]), 3, 24) := by kernel_rfl
set_option maxRecDepth 100000 in
set_option maxHeartbeats 4000000 in
theorem l04ShapesS (h w c : Int) (A : Option Addr) (n p : Nat) (ls : List Lay) (W : World) (hr : RdL W A n ls) (hn : n + big ls ≤ 1048576) :
    Calls Try.prog 50 #[.agg #[.int .i64 h, .int .i64 w, .int .i64 c, .slice A n p]] W (ShR W n (modW (h, w, c) ls)) := by
  obtain ⟨i0, hi, hz0, hz1, hz2⟩ := info_parts infoS3
  obtain ⟨R, hR⟩ : ∃ R, modW (h, w, c) ls = R := ⟨_, rfl⟩
  rw [hR]
  have HRR := Lib.hid hR
  clear hR
  have kv := (Bk.new W 37 #[.int .i64 h, .int .i64 w, .int .i64 c, .slice A n p]).alloc (.cells #[.int .i64 h, .int .i64 w, .int .i64 c] 34)
  have bv := ((Below.refl _ W).alloc (Nat.le_refl _) (.cells #[.int .i64 h, .int .i64 w, .int .i64 c, .slice A n p] 37)).alloc (by simp) (.cells #[.int .i64 h, .int .i64 w, .int .i64 c] 34)
  have ov := World.ownsRow_lit (w := W.alloc (.cells #[.int .i64 h, .int .i64 w, .int .i64 c, .slice A n p] 37)) (base := W.heap.size + 1) (e := 34) (size := 3) #[.int .i64 h, .int .i64 w, .int .i64 c] 1 (by simp) (by decide) rfl
  rw [World.size_alloc] at ov
  have KV := Lib.hid kv
  have BV := Lib.hid bv
  have OV := Lib.hid ov
  clear kv bv ov
  have HR := Lib.hid hr
  have HN := Lib.hid hn
  have hn1 : (n : Int) ≤ 1048576 := by omega
  clear hr hn
  rcases hs : shOk h w c with _ | _
  · have HS := Lib.hid hs
    clear hs
    go_enter Try.func50, Try.ntmps50
    go_wp2_with fail
    generalize (W.alloc (.cells #[.int .i64 h, .int .i64 w, .int .i64 c, .slice A n p] 37)).alloc (.cells #[.int .i64 h, .int .i64 w, .int .i64 c] 34) = u0 at KV BV OV ⊢
    with_reducible refine (shapeOkS h w c false HS.out _).mono ?_
    rintro e w1 ⟨rfl, b2⟩
    have B1 := Lib.hid (BV.out.trans (b2.mono BV.out.size))
    clear b2
    have hRN : Hid (R = none) := Lib.hid (by
      rw [← HRR.out]
      unfold modW
      split
      · rename_i hlen
        exact way_noSh HS.out hlen.1
      · rfl)
    go_wp2_with fail
    refine bodyPost_ret (v := .tuple #[.slice none 0 0, .bool false]) (by simp [results, Try.results50, go_sem]) rfl ⟨B1.out, ?_⟩
    rw [hRN.out]
  · have HS := Lib.hid hs
    clear hs
    go_enter Try.func50, Try.ntmps50
    go_wp2_with fail
    generalize hu0 : (W.alloc (.cells #[.int .i64 h, .int .i64 w, .int .i64 c, .slice A n p] 37)).alloc (.cells #[.int .i64 h, .int .i64 w, .int .i64 c] 34) = u0 at KV BV OV ⊢
    clear hu0
    with_reducible refine (shapeOkS h w c true HS.out _).mono ?_
    rintro e w1 ⟨rfl, b2⟩
    replace KV := Lib.hid (KV.out.below b2)
    replace OV := Lib.hid (ownsRow_below OV.out b2)
    replace BV := Lib.hid (BV.out.trans (b2.mono BV.out.size))
    clear b2
    obtain ⟨k0, k1, k2, k3⟩ := KV.out.cell4
    go_wp2_with fail
    with_reducible refine (inS 1 6 n _).mono ?_
    rintro e w2 ⟨rfl, rfl⟩
    rcases hin : inB 1 6 n with _ | _
    · have hRN : Hid (R = none) := Lib.hid (by
        rw [← HRR.out]
        unfold modW
        have := inB_no hin
        have h1 := HR.out.1
        rw [if_neg (by omega)])
      clear k0 k1 k2 k3 hin
      go_wp2_with fail
      refine bodyPost_ret (v := .tuple #[.slice none 0 0, .bool false]) (by simp [results, Try.results50, go_sem]) rfl ⟨BV.out, ?_⟩
      rw [hRN.out]
    · have hin2 := inB_yes hin
      have hRW : Hid (R = way (h, w, c) ls) := Lib.hid (by
        rw [← HRR.out]
        unfold modW
        have h1 := HR.out.1
        rw [if_pos (by omega)])
      have hn6 : (n : Int) ≤ 6 := hin2.2
      have hn0 : (1 : Int) ≤ n := hin2.1
      clear k0 k1 k2 k3 hin hin2
      go_wp2_with fail
      go_loopw [4, 5] (fun out i wr => ∃ (k : Nat) (ss : List Sh) (e : Sh), k ≤ n ∧ i = .int .i64 k ∧ Hid (way (h, w, c) (ls.take k) = some (ss, e)) ∧ Hid (wr.ownsRow (W.heap.size + 1) 34 3 out (k + 1) (shC ss)) ∧ Hid (Bk wr W.heap.size 37 #[.int .i64 h, .int .i64 w, .int .i64 c, .slice A n p]) ∧ Hid (Below W.heap.size W wr)) (fun _ i _ => n - (intOf i).toNat)
      case atStart => exact ⟨0, [(h, w, c)], (h, w, c), Nat.zero_le _, rfl, Lib.hid (by rw [List.take_zero]; exact way_nil _), OV, KV, BV⟩
      case round =>
        clear KV OV BV
        obtain ⟨k, ss, ⟨x, y, v⟩, hk, rfl, WY, OV, KV, BV⟩ := hrel
        by_cases hlt : k < n
        · obtain ⟨b, off, k', o, s, t, m, f, z, A', n', p', B', q', r', xs, ys, rfl, hbs, hj, hat⟩ := (HR.out.of_below BV.out).at hlt
          have hik : (k : Int) < (n : Int) := by omega
          obtain ⟨k0, k1, k2, k3⟩ := KV.out.cell4
          obtain ⟨gO, cap, rfl, hgB, hgl⟩ := ownsRow_some OV.out (Nat.succ_pos k)
          have hlk : (ls.take k).length = k := by rw [List.length_take]; have := HR.out.1; omega
          have hss := (way_facts WY.out).2.2.1
          rw [hlk] at hss
          have hsl := (way_facts WY.out).1
          obtain ⟨q0, q1, q2⟩ := shC_at hss
          have P : Hid (KJ W (RndS W h w c (some ⟨b, off, none⟩) n p b off k k' o s t m f z A' n' p' B' q' r' xs ys gO x y v (.slice (some ⟨gO, 0, none⟩) (k + 1) cap) (shC ss)) wr) := Lib.hid ⟨RndS.st, ⟨KV.out, hat, hbs, OV.out, hgl, (OV.out.cellAt (k * 3) (by omega)).trans q0, (OV.out.cellAt (k * 3 + 1) (by omega)).trans q1, (OV.out.cellAt (k * 3 + 2) (by omega)).trans q2⟩, BV.out⟩
          have hbig := big_at9 hj
          have hle := hat.lens
          have HN2 : Hid (n' ≤ 1048576) := Lib.hid (by have := HN.out; omega)
          have HQ2 : Hid (q' ≤ 1048576) := Lib.hid (by have := HN.out; omega)
          have HSL := Lib.hid hsl
          rw [hlk] at HSL
          obtain ⟨x2, y2, v2, ok, hO⟩ : ∃ x2 y2 v2 ok, outV (outL x y v k' o s t m f z xs ys) = .tuple #[.agg #[.int .i64 x2, .int .i64 y2, .int .i64 v2], .bool ok] := by
            rcases outL x y v k' o s t m f z xs ys with _ | ⟨a, b, d⟩
            · exact ⟨0, 0, 0, false, rfl⟩
            · exact ⟨a, b, d, true, rfl⟩
          have HO := Lib.hid hO
          have HJ := Lib.hid hj
          have hkb : (k : Int) < (k : Int) + 1 := by omega
          clear hj hat hbs hbig hle hsl hss q0 q1 q2 hgB hgl hO hlk KV OV BV
          go_upto_region 7 with fail
          go_cut [6, 7] (fun q6 q7 wx => ∃ gS, q6 = .pointer (some ⟨gS, 0, none⟩) ∧ q7 = .bool ok ∧ Hid (KD W (RndS W h w c (some ⟨b, off, none⟩) n p b off k k' o s t m f z A' n' p' B' q' r' xs ys gO x y v (.slice (some ⟨gO, 0, none⟩) (k + 1) cap) (shC ss)) gS 34 #[.int .i64 x2, .int .i64 y2, .int .i64 v2] wx))
          case first =>
            have P1 := KJ.drew P
            have PZ1 := KZ.below (KJ.lay P 34 #[.int .i64 0, .int .i64 0, .int .i64 0]) (Below.refl _ _).drew
            have SS1 := RndS.cells P1.out.j
            have SA1 := fun o => RndS.cells (KJ.drew (KJ.alloc P o)).out.j
            go_region_held3 (fun w' => w'.cell? ⟨gO, k * 3, none⟩ = some (.int .i64 x) ∧ w'.cell? ⟨gO, k * 3 + 1, none⟩ = some (.int .i64 y) ∧ w'.cell? ⟨gO, k * 3 + 2, none⟩ = some (.int .i64 v) ∧ w'.cell? ⟨W.heap.size, 3, none⟩ = some (.slice (some ⟨b, off, none⟩) n p) ∧ w'.cell? ⟨b, off + k * 9, none⟩ = some (.int .i64 k') ∧ w'.cell? ⟨b, off + k * 9 + 1, none⟩ = some (.int .i64 o) ∧ w'.cell? ⟨b, off + k * 9 + 2, none⟩ = some (.int .i64 s) ∧ w'.cell? ⟨b, off + k * 9 + 3, none⟩ = some (.int .i64 t) ∧ w'.cell? ⟨b, off + k * 9 + 4, none⟩ = some (.int .i64 m) ∧ w'.cell? ⟨b, off + k * 9 + 5, none⟩ = some (.int .i64 f) ∧ w'.cell? ⟨b, off + k * 9 + 6, none⟩ = some (.int .i64 z) ∧ w'.cell? ⟨b, off + k * 9 + 7, none⟩ = some (.slice A' n' p') ∧ w'.cell? ⟨b, off + k * 9 + 8, none⟩ = some (.slice B' q' r'))
              (first
                | with_reducible exact SS
                | with_reducible exact SA _
                | with_reducible exact SZ _ _ _
                | with_reducible exact SS1
                | with_reducible exact SA1 _)
              (first
                | (go_at_call 83; (with_reducible refine (outSy x y v k' o s t m f z _ _ _ xs _ _ _ ys _ x2 y2 v2 ok HO.out (by first | with_reducible exact P1.out.j.bl.rds.1 | with_reducible exact (KZ.kj PZ1).out.j.bl.rds.1) (by first | with_reducible exact P1.out.j.bl.rds.2 | with_reducible exact (KZ.kj PZ1).out.j.bl.rds.2) HN2.out HQ2.out).mono ?_); rintro e uq ⟨rfl, bb⟩; (first | (with_reducible have PQ := KZ.below PZ1 bb; obtain ⟨e0, e1, e2, g0, g1, g2⟩ := KZ.zf PQ; have SS := RndS.cells (KZ.kj PQ).out.j; have SZ := fun x y z => RndS.cells (KZ.kj3 PQ x y z).out.j) | (with_reducible have PP := KJ.below P1 bb; have SS := RndS.cells PP.out.j; have SA := fun o => RndS.cells (KJ.alloc PP o).out.j)))
                | fail)
            all_goals go_wp2
            all_goals go_meet
            all_goals first | exact ⟨_, rfl, rfl, KZ.done3 PQ _ _ _⟩ | exact ⟨_, rfl, rfl, KJ.laid PP _ _⟩
          case rest =>
            obtain ⟨gS, rfl, rfl, D⟩ := hcut
            rcases hy : outY (x, y, v) ⟨k', o, s, t, m, f, z, xs, ys⟩ with _ | ⟨xa, xb, xd⟩
            · have e1 := outV_none hy
              rw [HO.out] at e1
              simp only [Value.tuple.injEq, Array.mk.injEq, List.cons.injEq, Value.bool.injEq, Value.agg.injEq, Value.int.injEq, true_and, and_true] at e1
              obtain ⟨_, rfl⟩ := e1
              have hRN : Hid (R = none) := Lib.hid (by rw [hRW.out]; exact way_bad HJ.out WY.out hy)
              clear hy HO
              go_wp2_with fail
              refine bodyPost_ret (v := .tuple #[.slice none 0 0, .bool false]) (by simp [results, Try.results50, go_sem]) rfl ⟨D.out.k.b, ?_⟩
              rw [hRN.out]
            · have e1 := outV_some hy
              rw [HO.out] at e1
              simp only [Value.tuple.injEq, Array.mk.injEq, List.cons.injEq, Value.bool.injEq, Value.agg.injEq, Value.int.injEq, true_and, and_true] at e1
              obtain ⟨⟨rfl, rfl, rfl⟩, rfl⟩ := e1
              have WN := Lib.hid (way_go HJ.out WY.out hy)
              clear hy HO k0 k1 k2 k3
              obtain ⟨s0, s1, s2⟩ := D.out.z.cell3
              have hwl := D.out.k.b.size
              go_wp2_with (at_builtin; go_loud (refine wpList_append_own _ rfl _ _ 79 rfl (W.heap.size + 1) 34 i0 (.agg #[.int .i64 0, .int .i64 0, .int .i64 0]) 3 24 Try.underlying79 hi hz0 hz1 hz2 rfl (by decide) _ _ _ rfl (D.out.k.j.bo.alloc _) _ 1 1 [.int .i64 x2, .int .i64 y2, .int .i64 v2] rfl rfl ?c1 ?c2 ?c3 ?c4 ?c5 ?_))
              case c1 =>
                intro j u hj
                match j, hj with
                | 0, hj => simp at hj; subst hj; simp [Addr.add]
                | 1, hj => simp at hj; subst hj; simp [Addr.add]
                | 2, hj => simp at hj; subst hj; simp [Addr.add]
              case c2 => intro u hu; simp at hu; rcases hu with rfl | rfl | rfl <;> rfl
              case c3 => unfold maxLen; omega
              case c4 => omega
              case c5 => simp; omega
              intro v' w1 hown' hgrow _
              have hD := D.out
              have hB1 : Below W.heap.size W w1 := (hD.k.b.alloc hD.k.b.size _).grown hgrow (by simp; omega) (fun r hr => by have := (hD.k.j.bo.lt r hr).1; omega)
              have hK1 : Bk w1 W.heap.size 37 #[.int .i64 h, .int .i64 w, .int .i64 c, .slice (some ⟨b, off, none⟩) n p] := (hD.k.j.bm.alloc _).grown hgrow (fun e => by have := (hD.k.j.bo.lt _ e.symm).1; omega)
              have hO1 : w1.ownsRow (W.heap.size + 1) 34 3 v' (k + 1 + 1) (shC (ss ++ [(x2, y2, v2)])) := by rw [shC_append]; exact hown'
              have HB1 := Lib.hid hB1
              have HK1 := Lib.hid hK1
              have HO1 := Lib.hid hO1
              clear hown' hgrow hB1 hK1 hO1 hD s0 s1 s2 hwl D
              go_wp2_with fail
              go_roundw
              case rel => exact ⟨k + 1, _, _, by omega, by go_num, WN, HO1, HK1, HB1⟩
              case measure => simp [intOf]; omega
        · obtain rfl : k = n := by omega
          have hRS : Hid (R = some (ss, (x, y, v))) := Lib.hid (by
            rw [hRW.out, ← WY.out, List.take_of_length_le (by rw [HR.out.1]; exact Nat.le_refl _)])
          obtain ⟨k0, k1, k2, k3⟩ := KV.out.cell4
          go_wp2_with fail
          refine bodyPost_ret (v := .tuple #[_, .bool true]) (by simp [results, Try.results50, go_sem]; rfl) rfl ⟨BV.out, ?_⟩
          rw [hRS.out]
          exact ⟨_, rfl, ownsRow_base OV.out (by omega)⟩
end Qt
end Go.Proofs.Ytbmchpoffceehaa

namespace Go.Proofs.Ytbmchpoffceehaa
open Go.RowKit Go.Sort
set_option linter.unusedVariables false
namespace Qt
def linkA (l : Lay) (P : Pos) (a b : Sh) (nx : Option Addr) : Array Value := #[.int .i64 l.k, .int .i64 l.o, .int .i64 l.s, .int .i64 l.t, .int .i64 l.m, .int .i64 l.f, .int .i64 l.z, .slice P.A P.n P.p, .slice P.B P.q P.r, .int .i64 a.1, .int .i64 a.2.1, .int .i64 a.2.2, .int .i64 b.1, .int .i64 b.2.1, .int .i64 b.2.2, .pointer nx]
def ptrAt (gs : List Nat) (j : Nat) : Option Addr := gs[j]?.map fun g => ⟨g, 0, none⟩
/-- The links gs, one behind the other, hold these layers and shapes; the slices are those that lay in the world W. -/
structure Chain (W : World) (B : Nat) (w : World) (gs : List Nat) (ls : List Lay) (ss : List Sh) : Prop where
  len : gs.length = ls.length
  node : ∀ (j g : Nat) (l : Lay), gs[j]? = some g → ls[j]? = some l → ∃ P a b, ss[j]? = some a ∧ ss[j + 1]? = some b ∧ Bk w g 132 (linkA l P a b (ptrAt gs (j + 1))) ∧ RdY W l P
  lo : ∀ (j g : Nat), gs[j]? = some g → B ≤ g
  inc : ∀ (i j g g' : Nat), i < j → gs[i]? = some g → gs[j]? = some g' → g < g'
/-- Where the next link is to be hung. -/
def endAt (GF : Nat) (gs : List Nat) : Nat × Nat := match gs.getLast? with
  | none => (GF, 0)
  | some g => (g, 15)
/-- What linksOf keeps while it hangs the layers together. -/
structure LinkW (W : World) (h w c : Int) (A : Option Addr) (n p GF GI : Nat) (gs : List Nat) (ls : List Lay) (ss : List Sh) (e : Sh) (u : World) : Prop where
  bm : Bk u W.heap.size 37 #[.int .i64 h, .int .i64 w, .int .i64 c, .slice A n p]
  bf : Bk u GF 68 #[.pointer (ptrAt gs 0)]
  bi : Bk u GI 34 #[.int .i64 e.1, .int .i64 e.2.1, .int .i64 e.2.2]
  ch : Chain W (GI + 1) u gs ls ss
  f1 : W.heap.size < GF
  f2 : GF < GI
section
variable {W u u' : World} {h w c : Int} {A : Option Addr} {n p GF GI B : Nat} {gs : List Nat} {ls : List Lay} {ss : List Sh} {e : Sh}
theorem Chain.keep (hc : Chain W B u gs ls ss) (hk : ∀ (j g : Nat) cs, gs[j]? = some g → Bk u g 132 cs → Bk u' g 132 cs) : Chain W B u' gs ls ss :=
  ⟨hc.len, fun j g l hg hl => by
    obtain ⟨P, a, b, h1, h2, h3, h4⟩ := hc.node j g l hg hl
    exact ⟨P, a, b, h1, h2, hk j g _ hg h3, h4⟩, hc.lo, hc.inc⟩
theorem Chain.below (hc : Chain W B u gs ls ss) (hb : Below u.heap.size u u') : Chain W B u' gs ls ss := hc.keep fun _ _ _ _ h => h.below hb
theorem LinkW.st : ∀ u u', LinkW W h w c A n p GF GI gs ls ss e u → Below u.heap.size u u' → LinkW W h w c A n p GF GI gs ls ss e u' := fun u u' h hb =>
  ⟨h.bm.below hb, h.bf.below hb, h.bi.below hb, h.ch.below hb, h.f1, h.f2⟩
theorem endAt_nil (GF : Nat) : endAt GF [] = (GF, 0) := rfl
theorem endAt_snoc (GF : Nat) (gs : List Nat) (g : Nat) : endAt GF (gs ++ [g]) = (g, 15) := by simp [endAt]
/-- What stands at the end: nothing yet. -/
theorem LinkW.atEnd (hL : LinkW W h w c A n p GF GI gs ls ss e u) {eb eo : Nat} (he : endAt GF gs = (eb, eo)) :
    u.cell? ⟨eb, eo, none⟩ = some (.pointer none) ∧ u.frozen? ⟨eb, eo, none⟩ = false ∧ eb < u.heap.size ∧ eb ≠ GI ∧ W.heap.size < eb := by
  unfold endAt at he
  rcases hl : gs.getLast? with _ | g
  · have hg : gs = [] := List.getLast?_eq_none_iff.1 hl
    subst hg
    rw [hl] at he
    cases he
    have := hL.bf
    exact ⟨this.cell 0 rfl, this.frozen 0, this.lt, Nat.ne_of_lt hL.f2, hL.f1⟩
  · rw [hl] at he
    cases he
    have hne : gs ≠ [] := by intro h; subst h; simp at hl
    have hlen : 0 < gs.length := List.length_pos_iff.2 hne
    have hj : gs[gs.length - 1]? = some eb := by rw [← List.getLast?_eq_getElem?]; exact hl
    have hjl : ls[gs.length - 1]? = some (ls[gs.length - 1]'(by rw [← hL.ch.len]; omega)) := List.getElem?_eq_getElem _
    obtain ⟨P, a, b, _, _, h3, _⟩ := hL.ch.node _ _ _ hj hjl
    have hlo := hL.ch.lo _ _ hj
    have hnx : ptrAt gs (gs.length - 1 + 1) = none := by unfold ptrAt; rw [List.getElem?_eq_none (by omega)]; rfl
    rw [hnx] at h3
    have f1 := hL.f1
    have f2 := hL.f2
    exact ⟨h3.cell 15 rfl, h3.frozen 15, h3.lt, by omega, by omega⟩
/-- One link more. -/
theorem LinkW.grow (hL : LinkW W h w c A n p GF GI gs ls ss e u) {eb eo : Nat} (he : endAt GF gs = (eb, eo)) (hss : ss.length = ls.length + 1) (hse : ss[ls.length]? = some e) (l : Lay) (P : Pos) (e' : Sh) (hy : RdY W l P) (g : Nat) (hg : g = u.heap.size) (u1 : World)
    (hu : u1 = (u.alloc (.cells (linkA l P e e' none) 132)).setCell ⟨eb, eo, none⟩ (.pointer (some ⟨g, 0, none⟩))) (u2 : World)
    (hu2 : ∀ k, k ≠ GI → k < u1.heap.size → u2.heap[k]? = u1.heap[k]?) (hi : Bk u2 GI 34 #[.int .i64 e'.1, .int .i64 e'.2.1, .int .i64 e'.2.2]) :
    LinkW W h w c A n p GF GI (gs ++ [g]) (ls ++ [l]) (ss ++ [e']) e' u2 := by
  obtain ⟨_, _, q3, q4, q5⟩ := hL.atEnd he
  subst hg
  have hf1 := hL.f1
  have hf2 := hL.f2
  have hGI := hL.bi.lt
  have hs1 : u1.heap.size = u.heap.size + 1 := by rw [hu, World.size_setCell, World.size_alloc]
  -- what is not at the end lies as it lay
  have old : ∀ {t : TypeId} {x : Nat} {cs : Array Value}, Bk u x t cs → x ≠ eb → x ≠ GI → Bk u2 x t cs := by
    intro t x cs hb hne hnI
    have h1 : Bk u1 x t cs := by rw [hu]; exact (hb.alloc _).far (p := ⟨eb, eo, none⟩) hne _
    exact (hu2 x hnI h1.lt).trans h1
  have new : Bk u2 u.heap.size 132 (linkA l P e e' none) := by
    have h1 : Bk u1 u.heap.size 132 (linkA l P e e' none) := by rw [hu]; exact (Bk.new u _ _).far (p := ⟨eb, eo, none⟩) (by show u.heap.size ≠ eb; omega) _
    exact (hu2 _ (by omega) h1.lt).trans h1
  have hlt : ∀ (j x : Nat), gs[j]? = some x → x < u.heap.size := by
    intro j x hx
    have hjl : ls[j]? = some (ls[j]'(by rw [← hL.ch.len]; exact (List.getElem?_eq_some_iff.1 hx).1)) := List.getElem?_eq_getElem _
    obtain ⟨_, _, _, _, _, h3, _⟩ := hL.ch.node _ _ _ hx hjl
    exact h3.lt
  refine ⟨old hL.bm (by omega) (by omega), ?_, hi, ⟨by simp [hL.ch.len], ?_, ?_, ?_⟩, hf1, hf2⟩
  · -- the first
    by_cases hg : gs = []
    · subst hg
      cases he
      have h1 : Bk u1 GF 68 #[.pointer (some ⟨u.heap.size, 0, none⟩)] := by
        rw [hu]
        have := (hL.bf.alloc (.cells (linkA l P e e' none) 132)).set 0 (.pointer (some ⟨u.heap.size, 0, none⟩))
        simpa using this
      exact (hu2 GF (by omega) h1.lt).trans h1
    · have hp : ptrAt (gs ++ [u.heap.size]) 0 = ptrAt gs 0 := by
        unfold ptrAt; rw [List.getElem?_append_left (List.length_pos_iff.2 hg)]
      rw [hp]
      refine old hL.bf ?_ (by omega)
      unfold endAt at he
      rcases hl : gs.getLast? with _ | g
      · exact absurd (List.getLast?_eq_none_iff.1 hl) hg
      · rw [hl] at he
        cases he
        have hj : gs[gs.length - 1]? = some eb := by rw [← List.getLast?_eq_getElem?]; exact hl
        have hlo := hL.ch.lo _ _ hj
        omega
  · intro j x l' hx hl'
    by_cases hj : j < gs.length
    · rw [List.getElem?_append_left hj] at hx
      rw [List.getElem?_append_left (by rw [← hL.ch.len]; exact hj)] at hl'
      obtain ⟨P', a, b, h1, h2, h3, h4⟩ := hL.ch.node j x l' hx hl'
      have hlo := hL.ch.lo _ _ hx
      refine ⟨P', a, b, by rw [List.getElem?_append_left (by rw [hss, ← hL.ch.len]; omega)]; exact h1, by rw [List.getElem?_append_left (by rw [hss, ← hL.ch.len]; omega)]; exact h2, ?_, h4⟩
      by_cases hj1 : j + 1 < gs.length
      · have hp : ptrAt (gs ++ [u.heap.size]) (j + 1) = ptrAt gs (j + 1) := by unfold ptrAt; rw [List.getElem?_append_left hj1]
        rw [hp]
        refine old h3 ?_ (by omega)
        have hgl : gs.getLast? = some (gs[gs.length - 1]'(by omega)) := by rw [List.getLast?_eq_getElem?]; exact List.getElem?_eq_getElem _
        unfold endAt at he
        rw [hgl] at he
        have heb : gs[gs.length - 1]'(by omega) = eb := congrArg Prod.fst he
        have := hL.ch.inc j (gs.length - 1) x _ (by omega) hx (List.getElem?_eq_getElem (by omega))
        omega
      · have hjl : j = gs.length - 1 := by omega
        have hgl : gs.getLast? = some x := by rw [List.getLast?_eq_getElem?, ← hjl]; exact hx
        unfold endAt at he
        rw [hgl] at he
        obtain rfl : eo = 15 := (congrArg Prod.snd he).symm
        have hxe : eb = x := (congrArg Prod.fst he).symm
        rw [hxe] at hu
        have hp0 : ptrAt gs (j + 1) = none := by unfold ptrAt; rw [List.getElem?_eq_none (by omega)]; rfl
        have hp1 : ptrAt (gs ++ [u.heap.size]) (j + 1) = some ⟨u.heap.size, 0, none⟩ := by unfold ptrAt; rw [show j + 1 = gs.length by omega, List.getElem?_append_right (Nat.le_refl _)]; simp
        rw [hp1]
        rw [hp0] at h3
        have h5 : Bk u1 x 132 (linkA l' P' a b (some ⟨u.heap.size, 0, none⟩)) := by
          rw [hu]
          have := (h3.alloc (.cells (linkA l P e e' none) 132)).set 15 (.pointer (some ⟨u.heap.size, 0, none⟩))
          simpa [linkA] using this
        exact (hu2 x (by omega) h5.lt).trans h5
    · have hjl : j = gs.length := by have := (List.getElem?_eq_some_iff.1 hx).1; simp at this; omega
      subst hjl
      rw [List.getElem?_append_right (Nat.le_refl _)] at hx
      rw [hL.ch.len, List.getElem?_append_right (Nat.le_refl _)] at hl'
      simp at hx hl'
      subst hx hl'
      have hp : ptrAt (gs ++ [u.heap.size]) (gs.length + 1) = none := by unfold ptrAt; rw [List.getElem?_eq_none (by simp)]; rfl
      rw [hp]
      refine ⟨P, e, e', ?_, ?_, new, hy⟩
      · rw [hL.ch.len, List.getElem?_append_left (by omega)]; exact hse
      · rw [hL.ch.len, ← hss, List.getElem?_append_right (Nat.le_refl _)]; simp
  · intro j x hx
    by_cases hj : j < gs.length
    · rw [List.getElem?_append_left hj] at hx
      exact hL.ch.lo j x hx
    · have hjl : j = gs.length := by have := (List.getElem?_eq_some_iff.1 hx).1; simp at this; omega
      subst hjl
      rw [List.getElem?_append_right (Nat.le_refl _)] at hx
      simp at hx
      omega
  · intro i j x y hij hx hy'
    by_cases hj : j < gs.length
    · rw [List.getElem?_append_left (by omega)] at hx
      rw [List.getElem?_append_left hj] at hy'
      exact hL.ch.inc i j x y hij hx hy'
    · have hjl : j = gs.length := by have := (List.getElem?_eq_some_iff.1 hy').1; simp at this; omega
      subst hjl
      rw [List.getElem?_append_right (Nat.le_refl _)] at hy'
      rw [List.getElem?_append_left hij] at hx
      simp at hy'
      have := hlt i x hx
      omega
end
end Qt
end Go.Proofs.Ytbmchpoffceehaa

namespace Go.Proofs.Ytbmchpoffceehaa
open Go.RowKit Go.Sort
set_option linter.unusedSimpArgs false
set_option linter.unusedVariables false
namespace Qt
/-- How linksOf ends. -/
def LnR (W : World) (ls : List Lay) (r : Option (List Sh × Sh)) (e : Ending) (W' : World) : Prop := Below W.heap.size W W' ∧ match r with
  | none => e = .returned (.pointer none)
  | some (ss, _) => ∃ g gs, e = .returned (.pointer (some ⟨g, 0, none⟩)) ∧ Chain W (W.heap.size + 1) W' (g :: gs) ls ss
theorem LnR.none {W W' : World} {ls : List Lay} {r : Option (List Sh × Sh)} (hb : Below W.heap.size W W') (hr : r = Option.none) : LnR W ls r (.returned (.pointer Option.none)) W' := ⟨hb, by subst hr; rfl⟩
theorem LnR.some {W W' : World} {ls : List Lay} {r : Option (List Sh × Sh)} {ss : List Sh} {e : Sh} {g : Nat} {gs : List Nat} (hb : Below W.heap.size W W') (hr : r = Option.some (ss, e)) (hc : Chain W (W.heap.size + 1) W' (g :: gs) ls ss) : LnR W ls r (.returned (.pointer (Option.some ⟨g, 0, Option.none⟩))) W' := ⟨hb, by subst hr; exact ⟨g, gs, rfl, hc⟩⟩
/-- What is known in a round: the links so far, and the layer at hand. -/
structure RndL (W : World) (h w c : Int) (A : Option Addr) (n p GF GI : Nat) (gs : List Nat) (ls : List Lay) (ss : List Sh) (x y v : Int) (gl : Nat) (k o s t m f z : Int) (A' : Option Addr) (n' p' : Nat) (B' : Option Addr) (q' r' : Nat) (xs ys : List Int) (u : World) : Prop where
  L : LinkW W h w c A n p GF GI gs ls ss (x, y, v) u
  bl : Bk u gl 104 #[.int .i64 k, .int .i64 o, .int .i64 s, .int .i64 t, .int .i64 m, .int .i64 f, .int .i64 z, .slice A' n' p', .slice B' q' r']
  r1 : RdI u A' n' xs
  r2 : RdI u B' q' ys
theorem RndL.st {W : World} {h w c : Int} {A : Option Addr} {n p GF GI : Nat} {gs : List Nat} {ls : List Lay} {ss : List Sh} {x y v : Int} {gl : Nat} {k o s t m f z : Int} {A' : Option Addr} {n' p' : Nat} {B' : Option Addr} {q' r' : Nat} {xs ys : List Int} : ∀ u u', RndL W h w c A n p GF GI gs ls ss x y v gl k o s t m f z A' n' p' B' q' r' xs ys u → Below u.heap.size u u' → RndL W h w c A n p GF GI gs ls ss x y v gl k o s t m f z A' n' p' B' q' r' xs ys u' :=
  fun _ _ h hb => ⟨LinkW.st _ _ h.L hb, h.bl.below hb, h.r1.of_below hb, h.r2.of_below hb⟩
set_option maxRecDepth 100000 in
set_option maxHeartbeats 4000000 in
theorem linksOfI (h w c : Int) (A : Option Addr) (n p : Nat) (ls : List Lay) (W : World) (hr : RdL W A n ls) (hn : n + big ls ≤ 1048576) :
    Calls Try.prog 75 #[.agg #[.int .i64 h, .int .i64 w, .int .i64 c, .slice A n p]] W (LnR W ls (modW (h, w, c) ls)) := by
  obtain ⟨R, hR⟩ : ∃ R, modW (h, w, c) ls = R := ⟨_, rfl⟩
  rw [hR]
  have HRR := Lib.hid hR
  clear hR
  have HR := Lib.hid hr
  have HN := Lib.hid hn
  have hn1 : (n : Int) ≤ 1048576 := by omega
  clear hr hn
  have km := (Bk.new W 37 #[.int .i64 h, .int .i64 w, .int .i64 c, .slice A n p]).alloc (.cells #[.int .i64 n] 3)
  have bm := ((Below.refl _ W).alloc (Nat.le_refl _) (.cells #[.int .i64 h, .int .i64 w, .int .i64 c, .slice A n p] 37)).alloc (by simp) (.cells #[.int .i64 n] 3)
  have rm := RdI.one (W.alloc (.cells #[.int .i64 h, .int .i64 w, .int .i64 c, .slice A n p] 37)) n 3
  rw [World.size_alloc] at rm
  have KM := Lib.hid km
  have BM := Lib.hid bm
  have RM := Lib.hid rm
  clear km bm rm
  go_enter Try.func75, Try.ntmps75
  go_wp2_with fail
  generalize (W.alloc (.cells #[.int .i64 h, .int .i64 w, .int .i64 c, .slice A n p] 37)).alloc (.cells #[.int .i64 n] 3) = u0 at KM BM RM ⊢
  with_reducible refine (insideB 1 6 _ 1 _ [(n : Int)] _ RM.out (by omega)).mono ?_
  rw [allIn_one]
  rintro e u1 ⟨rfl, b1⟩
  replace KM := Lib.hid (KM.out.below b1)
  replace BM := Lib.hid (BM.out.trans (b1.mono BM.out.size))
  clear b1 RM
  rcases hin : inB 1 6 n with _ | _
  · have hRN : Hid (R = none) := Lib.hid (by
      rw [← HRR.out]
      unfold modW
      have := inB_no hin
      have h1 := HR.out.1
      rw [if_neg (by omega)])
    clear hin
    go_wp2_with fail
    go_ret
    exact LnR.none BM.out hRN.out
  have hin2 := inB_yes hin
  have hRW : Hid (R = way (h, w, c) ls) := Lib.hid (by
    rw [← HRR.out]
    unfold modW
    have h1 := HR.out.1
    rw [if_pos (by omega)])
  have hn6 : (n : Int) ≤ 6 := hin2.2
  have hn0 : (1 : Int) ≤ n := hin2.1
  clear hin hin2
  obtain ⟨k0, k1, k2, k3⟩ := KM.out.cell4
  have hlt := KM.out.lt
  go_wp2_with fail
  have L0 : LinkW W h w c A n p u1.heap.size (u1.heap.size + 1) [] (ls.take 0) [(h, w, c)] (h, w, c) ((u1.alloc (.cells #[.pointer none] 68)).alloc (.cells #[.int .i64 h, .int .i64 w, .int .i64 c] 34)) :=
    ⟨(KM.out.alloc _).alloc _, (Bk.new u1 68 #[.pointer none]).alloc _, by
      have := Bk.new (u1.alloc (.cells #[.pointer none] 68)) 34 #[.int .i64 h, .int .i64 w, .int .i64 c]
      rw [World.size_alloc] at this
      exact this, ⟨by simp, fun j g l hg => by simp at hg, fun j g hg => by simp at hg, fun i j g g' _ hg => by simp at hg⟩, hlt, by omega⟩
  have b2 := (BM.out.alloc BM.out.size (.cells #[.pointer none] 68)).alloc (by rw [World.size_alloc]; have := BM.out.size; omega) (.cells #[.int .i64 h, .int .i64 w, .int .i64 c] 34)
  have B2 := Lib.hid b2
  have LL := Lib.hid L0
  clear b2 L0 k0 k1 k2 k3 hlt KM BM
  generalize (u1.alloc (.cells #[.pointer none] 68)).alloc (.cells #[.int .i64 h, .int .i64 w, .int .i64 c] 34) = u2 at LL B2 ⊢
  generalize hGI : u1.heap.size + 1 = GI at LL ⊢
  generalize hGF : u1.heap.size = GF at LL ⊢
  clear hGI hGF
  go_loopw [5, 21] (fun en i wr => ∃ (k : Nat) (gs : List Nat) (ss : List Sh) (e : Sh) (eb eo : Nat), k ≤ n ∧ i = .int .i64 k ∧ en = .pointer (some ⟨eb, eo, none⟩) ∧ Hid (endAt GF gs = (eb, eo)) ∧ Hid (way (h, w, c) (ls.take k) = some (ss, e)) ∧ Hid (LinkW W h w c A n p GF GI gs (ls.take k) ss e wr) ∧ Hid (Below W.heap.size W wr)) (fun _ i _ => n - (intOf i).toNat)
  case atStart => exact ⟨0, [], _, _, GF, 0, Nat.zero_le _, rfl, rfl, Lib.hid rfl, Lib.hid (by rw [List.take_zero]; exact way_nil _), LL, B2⟩
  case round =>
    clear LL B2
    obtain ⟨k, gs, ss, ⟨x, y, v⟩, eb, eo, hk, rfl, rfl, HE, WY, LL, BV⟩ := hrel
    by_cases hlt : k < n
    · obtain ⟨b, off, k', o, s, t, m, f, z, A', n', p', B', q', r', xs, ys, rfl, hbs, hj, hat0⟩ := HR.out.at hlt
      have hat := hat0.of_below hbs BV.out
      obtain ⟨c0, c1, c2, c3, c4, c5, c6, c7, c8⟩ := hat.cells9
      have hik : (k : Int) < (n : Int) := by omega
      obtain ⟨i0, i1, i2⟩ := LL.out.bi.cell3
      have hbig := big_at9 hj
      have hle := hat.lens
      have HN2 : Hid (n' ≤ 1048576) := Lib.hid (by have := HN.out; omega)
      have HQ2 : Hid (q' ≤ 1048576) := Lib.hid (by have := HN.out; omega)
      have hIl := LL.out.bi.lt
      have hbl : b < wr.heap.size := Nat.lt_of_lt_of_le hbs BV.out.size
      have HAT0 := Lib.hid hat0
      have HJ := Lib.hid hj
      have P : Hid (KJ W (RndL W h w c (some ⟨b, off, none⟩) n p GF GI gs (ls.take k) ss x y v wr.heap.size k' o s t m f z A' n' p' B' q' r' xs ys) (wr.alloc (.cells #[.int .i64 k', .int .i64 o, .int .i64 s, .int .i64 t, .int .i64 m, .int .i64 f, .int .i64 z, .slice A' n' p', .slice B' q' r'] 104))) := Lib.hid ⟨RndL.st, ⟨LinkW.st _ _ LL.out ((Below.refl _ wr).alloc (Nat.le_refl _) _), Bk.new wr _ _, hat.rds.1.of_below ((Below.refl _ wr).alloc (Nat.le_refl _) _), hat.rds.2.of_below ((Below.refl _ wr).alloc (Nat.le_refl _) _)⟩, BV.out.alloc BV.out.size _⟩
      obtain ⟨x2, y2, v2, ok, hO⟩ : ∃ x2 y2 v2 ok, outV (outL x y v k' o s t m f z xs ys) = .tuple #[.agg #[.int .i64 x2, .int .i64 y2, .int .i64 v2], .bool ok] := by
        rcases outL x y v k' o s t m f z xs ys with _ | ⟨a, b, d⟩
        · exact ⟨0, 0, 0, false, rfl⟩
        · exact ⟨a, b, d, true, rfl⟩
      have HO := Lib.hid hO
      clear hat hat0 hj hbig hle hbs hO
      go_wp2_with fail
      clear c0 c1 c2 c3 c4 c5 c6 c7 c8 i0 i1 i2 hIl hbl LL BV
      generalize wr.alloc (.cells #[.int .i64 k', .int .i64 o, .int .i64 s, .int .i64 t, .int .i64 m, .int .i64 f, .int .i64 z, .slice A' n' p', .slice B' q' r'] 104) = w2 at P ⊢
      generalize wr.heap.size = gl at P ⊢
      with_reducible refine (outIy x y v k' o s t m f z _ _ _ xs _ _ _ ys _ x2 y2 v2 ok HO.out P.out.j.r1 P.out.j.r2 HN2.out HQ2.out).mono ?_
      rintro e w3 ⟨rfl, bb⟩
      replace P := KJ.below P bb
      clear bb
      go_upto_region 9 with fail
      have hET : eb < w3.heap.size ∧ GI < w3.heap.size := ⟨(P.out.j.L.atEnd HE.out).2.2.1, P.out.j.L.bi.lt⟩
      have D := KJ.laid P 34 #[.int .i64 x2, .int .i64 y2, .int .i64 v2]
      generalize w3.alloc (.cells #[.int .i64 x2, .int .i64 y2, .int .i64 v2] 34) = w4 at D ⊢
      generalize w3.heap.size = gT at D hET ⊢
      have HET := Lib.hid hET
      clear hET
      clear P
      rcases hy : outY (x, y, v) ⟨k', o, s, t, m, f, z, xs, ys⟩ with _ | ⟨xa, xb, xd⟩
      · have e1 := outV_none hy
        rw [HO.out] at e1
        simp only [Value.tuple.injEq, Array.mk.injEq, List.cons.injEq, Value.bool.injEq, Value.agg.injEq, Value.int.injEq, true_and, and_true] at e1
        obtain ⟨_, rfl⟩ := e1
        have hRN : Hid (R = none) := Lib.hid (by rw [hRW.out]; exact way_bad HJ.out WY.out hy)
        clear hy HO
        go_wp2_with fail
        go_ret
        exact LnR.none D.out.k.b hRN.out
      · have e1 := outV_some hy
        rw [HO.out] at e1
        simp only [Value.tuple.injEq, Array.mk.injEq, List.cons.injEq, Value.bool.injEq, Value.agg.injEq, Value.int.injEq, true_and, and_true] at e1
        obtain ⟨⟨rfl, rfl, rfl⟩, rfl⟩ := e1
        have WN := Lib.hid (way_go HJ.out WY.out hy)
        clear hy HO
        obtain ⟨s0, s1, s2⟩ := D.out.z.cell3
        obtain ⟨i0, i1, i2⟩ := D.out.k.j.L.bi.cell3
        obtain ⟨j0, j1, j2⟩ := D.out.k.j.L.bi.free3
        obtain ⟨c0, c1, c2, c3, c4, c5, c6, c7, c8⟩ := D.out.k.j.bl.cell9
        obtain ⟨q1, q2, q3, q4, q5⟩ := D.out.k.j.L.atEnd HE.out
        have hIl := D.out.k.j.L.bi.lt
        have hTl := D.out.z.lt
        have hgl := D.out.k.j.bl.lt
        go_upto_region 12 with fail
        have hu5 : (w4.setCell ⟨eb, eo, none⟩ (.pointer (some ⟨w4.heap.size, 0, none⟩))).alloc (.cells #[.int .i64 k', .int .i64 o, .int .i64 s, .int .i64 t, .int .i64 m, .int .i64 f, .int .i64 z, .slice A' n' p', .slice B' q' r', .int .i64 x, .int .i64 y, .int .i64 v, .int .i64 x2, .int .i64 y2, .int .i64 v2, .pointer none] 132) = (w4.alloc (.cells #[.int .i64 k', .int .i64 o, .int .i64 s, .int .i64 t, .int .i64 m, .int .i64 f, .int .i64 z, .slice A' n' p', .slice B' q' r', .int .i64 x, .int .i64 y, .int .i64 v, .int .i64 x2, .int .i64 y2, .int .i64 v2, .pointer none] 132)).setCell ⟨eb, eo, none⟩ (.pointer (some ⟨w4.heap.size, 0, none⟩)) := (World.setCell_alloc_past _ _ _ _ q3).symm
        have HU := Lib.hid hu5
        clear hu5 c0 c1 c2 c3 c4 c5 c6 c7 c8 i0 i1 i2 j0 j1 j2 s0 s1 s2
        generalize hu : (w4.setCell ⟨eb, eo, none⟩ (.pointer (some ⟨w4.heap.size, 0, none⟩))).alloc (.cells #[.int .i64 k', .int .i64 o, .int .i64 s, .int .i64 t, .int .i64 m, .int .i64 f, .int .i64 z, .slice A' n' p', .slice B' q' r', .int .i64 x, .int .i64 y, .int .i64 v, .int .i64 x2, .int .i64 y2, .int .i64 v2, .pointer none] 132) = u5 at HU ⊢
        clear hu
        have hbT : Bk u5 gT 34 #[.int .i64 x2, .int .i64 y2, .int .i64 v2] := by
          rw [HU.out]; exact (D.out.z.alloc _).far (p := ⟨eb, eo, none⟩) (by have := HET.out; show gT ≠ eb; omega) _
        have hbI : Bk u5 GI 34 #[.int .i64 x, .int .i64 y, .int .i64 v] := by
          rw [HU.out]; exact (D.out.k.j.L.bi.alloc _).far (p := ⟨eb, eo, none⟩) (by show GI ≠ eb; omega) _
        have he1 : u5.cell? ⟨eb, eo, none⟩ = some (.pointer (some ⟨w4.heap.size, 0, none⟩)) := by
          rw [HU.out]
          have q0 : (w4.alloc (.cells #[.int .i64 k', .int .i64 o, .int .i64 s, .int .i64 t, .int .i64 m, .int .i64 f, .int .i64 z, .slice A' n' p', .slice B' q' r', .int .i64 x, .int .i64 y, .int .i64 v, .int .i64 x2, .int .i64 y2, .int .i64 v2, .pointer none] 132)).cell? ⟨eb, eo, none⟩ = some (.pointer none) := by
            rw [Below.cell ((Below.refl _ w4).alloc (Nat.le_refl _) _) (p := ⟨eb, eo, none⟩) q3]; exact q1
          exact World.cell?_setCell_same _ _ _ q0
        obtain ⟨s0, s1, s2⟩ := hbT.cell3
        obtain ⟨i0, i1, i2⟩ := hbI.cell3
        obtain ⟨j0, j1, j2⟩ := hbI.free3
        have hne1 : gT ≠ GI := by have := HET.out; omega
        have hlk : (ls.take k).length = k := by rw [List.length_take]; have := HR.out.1; omega
        have hwf := way_facts WY.out
        have htk : ls.take (k + 1) = ls.take k ++ [⟨k', o, s, t, m, f, z, xs, ys⟩] := by rw [List.take_add_one, HJ.out]; rfl
        have LN : LinkW W h w c (some ⟨b, off, none⟩) n p GF GI (gs ++ [w4.heap.size]) (ls.take (k + 1)) (ss ++ [(x2, y2, v2)]) (x2, y2, v2) ((((u5.setCell ⟨GI, 0, none⟩ (.int .i64 x2)).setCell ⟨GI, 1, none⟩ (.int .i64 y2)).setCell ⟨GI, 2, none⟩ (.int .i64 v2)).drew) := by
          rw [htk]
          refine LinkW.grow D.out.k.j.L HE.out hwf.1 hwf.2.2.1 ⟨k', o, s, t, m, f, z, xs, ys⟩ ⟨A', n', p', B', q', r'⟩ (x2, y2, v2) HAT0.out.2 w4.heap.size rfl u5 HU.out _ ?_ hbI.set3
          intro q hq hq2
          have hq' : q ≠ GI := hq
          exact ((Below.heap_setCell _ ⟨GI, 2, none⟩ _ q hq').trans (Below.heap_setCell _ ⟨GI, 1, none⟩ _ q hq')).trans (Below.heap_setCell _ ⟨GI, 0, none⟩ _ q hq')
        have b5 : Below W.heap.size W u5 := by rw [HU.out]; exact (D.out.k.b.alloc D.out.k.b.size _).setCell (p := ⟨eb, eo, none⟩) (Nat.le_of_lt q5) _
        have b6 : Below W.heap.size W ((((u5.setCell ⟨GI, 0, none⟩ (.int .i64 x2)).setCell ⟨GI, 1, none⟩ (.int .i64 y2)).setCell ⟨GI, 2, none⟩ (.int .i64 v2)).drew) := (below_set3 b5 (by have := D.out.k.j.L.f1; have := D.out.k.j.L.f2; omega) _ _ _).drew
        have LL := Lib.hid LN
        have B6 := Lib.hid b6
        have HE2 := Lib.hid (endAt_snoc GF gs w4.heap.size)
        clear LN b5 b6 hwf htk hlk hbT hbI D HAT0 HU q1 q2
        go_region
        go_wp2_with fail
        go_roundw
        case rel => exact ⟨k + 1, _, _, _, _, _, by omega, by go_num, rfl, HE2, WN, LL, B6⟩
        case measure => simp [intOf]; omega
    · obtain rfl : k = n := by omega
      have hRS : Hid (R = some (ss, (x, y, v))) := Lib.hid (by
        rw [hRW.out, ← WY.out, List.take_of_length_le (by rw [HR.out.1]; exact Nat.le_refl _)])
      have hlk : ls.take k = ls := List.take_of_length_le (by rw [HR.out.1]; exact Nat.le_refl _)
      rw [hlk] at LL
      obtain ⟨g, gs', hgs⟩ : ∃ g gs', gs = g :: gs' := by
        cases gs with
        | nil => have h1 := LL.out.ch.len; have h2 := HR.out.1; simp at h1; omega
        | cons g gs' => exact ⟨g, gs', rfl⟩
      subst hgs
      have hb0 : wr.cell? ⟨GF, 0, none⟩ = some (.pointer (some ⟨g, 0, none⟩)) := LL.out.bf.cell 0 rfl
      go_wp2_with fail
      go_ret
      have hc := LL.out.ch
      exact LnR.some BV.out hRS.out ⟨hc.len, hc.node, fun j g hg => by have := hc.lo j g hg; have := LL.out.f1; have := LL.out.f2; omega, hc.inc⟩
end Qt
end Go.Proofs.Ytbmchpoffceehaa

namespace Go.Proofs.Ytbmchpoffceehaa
open Go.RowKit Go.Sort
set_option linter.unusedSimpArgs false
set_option linter.unusedVariables false
namespace Qt
def okM (s : Sh) (ls : List Lay) : Bool := (modW s ls).isSome
theorem modelOkS (h w c : Int) (A : Option Addr) (n p : Nat) (ls : List Lay) (W : World) (hr : RdL W A n ls) (hn : n + big ls ≤ 1048576) :
    Calls Try.prog 66 #[.agg #[.int .i64 h, .int .i64 w, .int .i64 c, .slice A n p]] W fun e W' => e = .returned (.bool (okM (h, w, c) ls)) ∧ Below W.heap.size W W' := by
  have b0 := (Below.refl _ W).alloc (Nat.le_refl _) (.cells #[.int .i64 h, .int .i64 w, .int .i64 c, .slice A n p] 37)
  have HC := Lib.hid (l04ShapesS h w c A n p ls _ (hr.of_below b0) hn)
  have B0 := Lib.hid b0
  clear b0 hr
  go_enter Try.func66, Try.ntmps66
  go_wp2_with fail
  refine HC.out.mono ?_
  rintro e w1 ⟨b1, he⟩
  have B1 := Lib.hid (B0.out.trans (b1.mono B0.out.size))
  clear b1
  rcases hm : modW (h, w, c) ls with _ | ⟨ss, l⟩
  · rw [hm] at he
    have hb : Hid (okM (h, w, c) ls = false) := Lib.hid (by rw [okM, hm]; rfl)
    clear hm
    subst he
    go_wp2_with fail
    go_ret
    exact ⟨by rw [hb.out]; rfl, B1.out⟩
  · rw [hm] at he
    have hb : Hid (okM (h, w, c) ls = true) := Lib.hid (by rw [okM, hm]; rfl)
    clear hm
    obtain ⟨V, rfl, _⟩ := he
    go_wp2_with fail
    go_ret
    exact ⟨by rw [hb.out]; rfl, B1.out⟩
theorem modelOkI (h w c : Int) (A : Option Addr) (n p : Nat) (ls : List Lay) (W : World) (hr : RdL W A n ls) (hn : n + big ls ≤ 1048576) :
    Calls Try.prog 68 #[.agg #[.int .i64 h, .int .i64 w, .int .i64 c, .slice A n p]] W fun e W' => e = .returned (.bool (okM (h, w, c) ls)) ∧ Below W.heap.size W W' := by
  have b0 := (Below.refl _ W).alloc (Nat.le_refl _) (.cells #[.int .i64 h, .int .i64 w, .int .i64 c, .slice A n p] 37)
  have HC := Lib.hid (linksOfI h w c A n p ls _ (hr.of_below b0) hn)
  have B0 := Lib.hid b0
  clear b0 hr
  go_enter Try.func68, Try.ntmps68
  go_wp2_with fail
  refine HC.out.mono ?_
  rintro e w1 ⟨b1, he⟩
  have B1 := Lib.hid (B0.out.trans (b1.mono B0.out.size))
  clear b1
  rcases hm : modW (h, w, c) ls with _ | ⟨ss, l⟩
  · rw [hm] at he
    have hb : Hid (okM (h, w, c) ls = false) := Lib.hid (by rw [okM, hm]; rfl)
    clear hm
    subst he
    go_wp2_with fail
    go_ret
    exact ⟨by rw [hb.out]; rfl, B1.out⟩
  · rw [hm] at he
    have hb : Hid (okM (h, w, c) ls = true) := Lib.hid (by rw [okM, hm]; rfl)
    clear hm
    obtain ⟨g, gs, rfl, _⟩ := he
    go_wp2_with fail
    go_ret
    exact ⟨by rw [hb.out]; rfl, B1.out⟩
end Qt
end Go.Proofs.Ytbmchpoffceehaa

namespace Go.Proofs.Ytbmchpoffceehaa
open Go.RowKit Go.Sort
set_option linter.unusedSimpArgs false
set_option linter.unusedVariables false
namespace Qt
theorem rdLT_mk {w : World} {A : Option Addr} {n : Nat} {ls : List Lay} (h : RdL w A n ls) (hm : (n : Int) ≤ 9223372036854775807 ∧ ∀ l ∈ ls, (l.xs.length : Int) ≤ 9223372036854775807 ∧ (l.ys.length : Int) ≤ 9223372036854775807) : RdLT w A n ls := ⟨h, hm⟩
/-- The model that came in. -/
structure JM (h w c : Int) (A : Option Addr) (n p : Nat) (ls : List Lay) (gM : Nat) (u : World) : Prop where
  b : Bk u gM 26 #[.int .i64 h, .int .i64 w, .int .i64 c, .slice A n p]
  r : RdL u A n ls
theorem JM.st {h w c : Int} {A : Option Addr} {n p : Nat} {ls : List Lay} {gM : Nat} : ∀ u u', JM h w c A n p ls gM u → Below u.heap.size u u' → JM h w c A n p ls gM u' := fun _ _ h hb => ⟨h.b.below hb, h.r.of_below hb⟩
/-- .. and a copy of it. -/
structure JX (h w c : Int) (A : Option Addr) (n p : Nat) (ls : List Lay) (gM gx gX : Nat) (u : World) : Prop where
  m : JM h w c A n p ls gM u
  b : Bk u gX 37 #[.int .i64 h, .int .i64 w, .int .i64 c, .slice (some ⟨gx, 0, none⟩) n n]
  r : RdL u (some ⟨gx, 0, none⟩) n ls
theorem JX.st {h w c : Int} {A : Option Addr} {n p : Nat} {ls : List Lay} {gM gx gX : Nat} : ∀ u u', JX h w c A n p ls gM gx gX u → Below u.heap.size u u' → JX h w c A n p ls gM gx gX u' := fun _ _ h hb => ⟨JM.st _ _ h.m hb, h.b.below hb, h.r.of_below hb⟩
theorem JX.cells {h w c : Int} {A : Option Addr} {n p : Nat} {ls : List Lay} {gM gx gX : Nat} {u : World} (hx : JX h w c A n p ls gM gx gX u) : u.cell? ⟨gX, 0, none⟩ = some (.int .i64 h) ∧ u.cell? ⟨gX, 1, none⟩ = some (.int .i64 w) ∧ u.cell? ⟨gX, 2, none⟩ = some (.int .i64 c) ∧ u.cell? ⟨gX, 3, none⟩ = some (.slice (some ⟨gx, 0, none⟩) n n) ∧ u.cell? ⟨gM, 0, none⟩ = some (.int .i64 h) ∧ u.cell? ⟨gM, 1, none⟩ = some (.int .i64 w) ∧ u.cell? ⟨gM, 2, none⟩ = some (.int .i64 c) ∧ u.cell? ⟨gM, 3, none⟩ = some (.slice A n p) := by
  obtain ⟨a0, a1, a2, a3⟩ := hx.b.cell4
  obtain ⟨b0, b1, b2, b3⟩ := hx.m.b.cell4
  exact ⟨a0, a1, a2, a3, b0, b1, b2, b3⟩
end Qt
end Go.Proofs.Ytbmchpoffceehaa
