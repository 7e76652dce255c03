/- What tensorOf of the program gives when it is called with a block: a new tensor with the same numbers. Conditions: the items read as the list that is named, and each fits eight bits. -/
import Derived.Test.YtebldedmkpdgcaaArgMax
import Derived.Deep.RegionHeld3
import Derived.Deep.DeepCutAuto
namespace Go.Proofs.Ytebldedmkpdgcaa
open Go.RowKit Go.Shelf Go.Sort
namespace Qt
attribute [local go_sem] Oper.semAt_some

/-- A row of whole numbers of the call's own. -/
def Row (w : World) (g : Nat) (ys : List Int) : Prop := Bk w g 3 (ys.map (Value.int .i64)).toArray
theorem Row.cell {w : World} {g : Nat} {ys : List Int} (h : Row w g ys) (j : Nat) (hj : j < ys.length) : w.cell? ⟨g, j, none⟩ = some (.int .i64 (ys[j]?.getD 0)) :=
  Bk.cell h j (by simp [hj])
theorem Row.rdI {w : World} {g n : Nat} {ys : List Int} (h : Row w g ys) (hl : ys.length = n) : RdI w (some ⟨g, 0, none⟩) n ys :=
  ⟨hl, fun _ => ⟨g, 0, rfl, Bk.lt h, fun j hj => by rw [Nat.zero_add, h.cell j (by omega)]; simp [List.getD_eq_getElem?_getD]⟩⟩
theorem Row.set {w : World} {g n k : Nat} {xs : List Int} (h : Row w g (vals xs n k)) (hl : xs.length = n) (hk : k < n) : Row (w.setCell ⟨g, k, none⟩ (.int .i64 (xs[k]?.getD 0))) g (vals xs n (k + 1)) := by
  have := Bk.set h k (.int .i64 (xs[k]?.getD 0))
  unfold Row
  have e : (vals xs n (k + 1)).map (Value.int .i64) = ((vals xs n k).map (Value.int .i64)).set k (.int .i64 (xs[k]?.getD 0)) := by
    have := vals_map_set xs n k hl hk
    simpa [List.getD_eq_getElem?_getD] using this.symm
  rw [e]
  simpa using this

theorem madeRow (W : World) (n : Nat) : Row (W.alloc (.cells (madeCells #[.int .i64 0] n) 3)) W.heap.size (List.replicate n 0) := by
  have := Bk.new W 3 (madeCells #[.int .i64 0] n)
  unfold Row
  have e : (madeCells #[.int .i64 0] n) = ((List.replicate n 0).map (Value.int .i64)).toArray := by
    rw [← Array.toArray_toList (xs := madeCells _ _), toList_madeCells_one]
    simp
  rw [← e]; exact this

theorem RdI.of_belowN {w w' : World} {B b n : Nat} {xs : List Int} (h : RdI w (some ⟨b, 0, none⟩) n xs) (hb : Below B w w') (hlt : b < B) : RdI w' (some ⟨b, 0, none⟩) n xs :=
  ⟨h.1, fun hn => by
    obtain ⟨b', off, e, hl, hc⟩ := h.2 hn
    cases e
    exact ⟨b, 0, rfl, World.block_lt_of_cell? w' ⟨b, 0 + 0, none⟩ ((hb.cell (p := ⟨b, 0 + 0, none⟩) hlt).trans (hc 0 hn)), fun j hj => (hb.cell (p := ⟨b, 0 + j, none⟩) hlt).trans (hc j hj)⟩⟩
theorem makeI (n : Nat) (hn : n ≤ 1048576) (W : World) : (Instr.makeSlice 24 (.int .i64 (n : Int)) (.int .i64 (n : Int))).run Try.prog W = .ok (.slice (some ⟨W.heap.size, 0, none⟩) n n) (W.alloc (.cells (madeCells #[.int .i64 0] n) 3)) := by
  obtain ⟨i0, hi, hz0, hz1, hz2⟩ := info_parts info3
  have := run_makeSlice (P := Try.prog) W 24 3 i0 (.int .i64 0) Try.underlying24 hi hz0 .i64 .i64 (n : Int) (n : Int) (Int.natCast_nonneg n) (Int.le_refl _) (by rw [hz1]; simp; omega) (by rw [hz2]; omega) (by omega)
  rw [this]
  simp [hz1, Value.cells]

/-- What is known where a new tensor with a row of noughts has been laid behind the world v. -/
def Laid (v : World) (h w c : Int) (N g3 gr : Nat) (wx : World) : Prop :=
  Bk wx g3 68 #[.int .i64 h, .int .i64 w, .int .i64 c, .slice (some ⟨gr, 0, none⟩) N N] ∧ Row wx gr (List.replicate N 0) ∧ Below v.heap.size v wx ∧ v.heap.size ≤ g3 ∧ v.heap.size ≤ gr ∧ gr ≠ g3
section
variable {v u : World} {h w c : Int} {N : Nat}
theorem below_a (hb : Below v.drew.heap.size v.drew u) : Below v.heap.size v u := (Below.refl _ v).drew.trans hb
theorem below_b {o : Obj} (hb : Below (v.alloc o).drew.heap.size (v.alloc o).drew u) : Below v.heap.size v u := ((Below.refl _ v).alloc (Nat.le_refl _) o).drew.trans (hb.mono (by simp))
theorem below_c {o o' : Obj} (hb : Below ((v.alloc o).alloc o').drew.heap.size ((v.alloc o).alloc o').drew u) : Below v.heap.size v u := (((Below.refl _ v).alloc (Nat.le_refl _) o).alloc (by simp) o').drew.trans (hb.mono (by simp; omega))
theorem laid1 (hb : Below v.drew.heap.size v.drew u) : Laid v h w c N (u.heap.size + 1) u.heap.size ((u.alloc (.cells (madeCells #[.int .i64 0] N) 3)).alloc (.cells #[.int .i64 h, .int .i64 w, .int .i64 c, .slice (some ⟨u.heap.size, 0, none⟩) N N] 68)) := by
  have hs := (below_a hb).size
  refine ⟨?_, (madeRow u N).alloc _, (((below_a hb).alloc hs _).alloc (by simp; omega) _), by omega, by omega, by omega⟩
  have := Bk.new (u.alloc (.cells (madeCells #[.int .i64 0] N) 3)) 68 #[.int .i64 h, .int .i64 w, .int .i64 c, .slice (some ⟨u.heap.size, 0, none⟩) N N]
  simpa using this
theorem laid2 (hb : Below v.drew.heap.size v.drew u) : Laid v h w c N u.heap.size (u.heap.size + 1) ((u.alloc (.cells #[.int .i64 h, .int .i64 w, .int .i64 c, .slice (some ⟨u.heap.size + 1, 0, none⟩) N N] 68)).alloc (.cells (madeCells #[.int .i64 0] N) 3)) := by
  have hs := (below_a hb).size
  refine ⟨(Bk.new u _ _).alloc _, ?_, (((below_a hb).alloc hs _).alloc (by simp; omega) _), by omega, by omega, by omega⟩
  have := madeRow (u.alloc (.cells #[.int .i64 h, .int .i64 w, .int .i64 c, .slice (some ⟨u.heap.size + 1, 0, none⟩) N N] 68)) N
  simpa using this
theorem laid3 (hb : Below (v.alloc (.cells (madeCells #[.int .i64 0] N) 3)).drew.heap.size (v.alloc (.cells (madeCells #[.int .i64 0] N) 3)).drew u) : Laid v h w c N u.heap.size v.heap.size (u.alloc (.cells #[.int .i64 h, .int .i64 w, .int .i64 c, .slice (some ⟨v.heap.size, 0, none⟩) N N] 68)) := by
  have hs : v.heap.size + 1 ≤ u.heap.size := by have := hb.size; simpa using this
  have hrow : Row u v.heap.size (List.replicate N 0) := Bk.below (w := (v.alloc (.cells (madeCells #[.int .i64 0] N) 3)).drew) (madeRow v N) hb
  exact ⟨Bk.new u _ _, hrow.alloc _, (below_b hb).alloc (below_b hb).size _, by omega, by omega, by omega⟩
theorem laid4 (hb : Below (v.alloc (.cells #[.int .i64 0, .int .i64 0, .int .i64 0, .slice none 0 0] 68)).drew.heap.size (v.alloc (.cells #[.int .i64 0, .int .i64 0, .int .i64 0, .slice none 0 0] 68)).drew u) : Laid v h w c N v.heap.size u.heap.size (((((u.setCell ⟨v.heap.size, 0, none⟩ (.int .i64 h)).setCell ⟨v.heap.size, 1, none⟩ (.int .i64 w)).setCell ⟨v.heap.size, 2, none⟩ (.int .i64 c)).setCell ⟨v.heap.size, 3, none⟩ (.slice (some ⟨u.heap.size, 0, none⟩) N N)).alloc (.cells (madeCells #[.int .i64 0] N) 3)) := by
  have hs : v.heap.size + 1 ≤ u.heap.size := by have := hb.size; simpa using this
  have hk : Bk u v.heap.size 68 #[.int .i64 0, .int .i64 0, .int .i64 0, .slice none 0 0] := Bk.below (w := (v.alloc (.cells #[.int .i64 0, .int .i64 0, .int .i64 0, .slice none 0 0] 68)).drew) (Bk.new v _ _) hb
  refine ⟨hk.set4.alloc _, ?_, (below_set4 (below_b hb) (Nat.le_refl _) _ _ _ _).alloc (by simp only [World.size_setCell]; omega) _, by omega, by omega, by omega⟩
  have := madeRow ((((u.setCell ⟨v.heap.size, 0, none⟩ (.int .i64 h)).setCell ⟨v.heap.size, 1, none⟩ (.int .i64 w)).setCell ⟨v.heap.size, 2, none⟩ (.int .i64 c)).setCell ⟨v.heap.size, 3, none⟩ (.slice (some ⟨u.heap.size, 0, none⟩) N N)) N
  simpa using this
theorem laid5 (hb : Below ((v.alloc (.cells (madeCells #[.int .i64 0] N) 3)).alloc (.cells #[.int .i64 0, .int .i64 0, .int .i64 0, .slice none 0 0] 68)).drew.heap.size ((v.alloc (.cells (madeCells #[.int .i64 0] N) 3)).alloc (.cells #[.int .i64 0, .int .i64 0, .int .i64 0, .slice none 0 0] 68)).drew u) : Laid v h w c N (v.heap.size + 1) v.heap.size ((((u.setCell ⟨v.heap.size + 1, 0, none⟩ (.int .i64 h)).setCell ⟨v.heap.size + 1, 1, none⟩ (.int .i64 w)).setCell ⟨v.heap.size + 1, 2, none⟩ (.int .i64 c)).setCell ⟨v.heap.size + 1, 3, none⟩ (.slice (some ⟨v.heap.size, 0, none⟩) N N)) := by
  have hk0 := Bk.new (v.alloc (.cells (madeCells #[.int .i64 0] N) 3)) 68 #[.int .i64 0, .int .i64 0, .int .i64 0, .slice none 0 0]
  simp only [World.size_alloc] at hk0
  have hk : Bk u (v.heap.size + 1) 68 #[.int .i64 0, .int .i64 0, .int .i64 0, .slice none 0 0] := Bk.below (w := ((v.alloc (.cells (madeCells #[.int .i64 0] N) 3)).alloc (.cells #[.int .i64 0, .int .i64 0, .int .i64 0, .slice none 0 0] 68)).drew) hk0 hb
  have hrow : Row u v.heap.size (List.replicate N 0) := Bk.below (w := ((v.alloc (.cells (madeCells #[.int .i64 0] N) 3)).alloc (.cells #[.int .i64 0, .int .i64 0, .int .i64 0, .slice none 0 0] 68)).drew) ((madeRow v N).alloc _) hb
  exact ⟨hk.set4, hrow.far4 (by omega) _ _ _ _, below_set4 (below_c hb) (by omega) _ _ _ _, by omega, by omega, by omega⟩
theorem laid6 (hb : Below ((v.alloc (.cells #[.int .i64 0, .int .i64 0, .int .i64 0, .slice none 0 0] 68)).alloc (.cells (madeCells #[.int .i64 0] N) 3)).drew.heap.size ((v.alloc (.cells #[.int .i64 0, .int .i64 0, .int .i64 0, .slice none 0 0] 68)).alloc (.cells (madeCells #[.int .i64 0] N) 3)).drew u) : Laid v h w c N v.heap.size (v.heap.size + 1) ((((u.setCell ⟨v.heap.size, 0, none⟩ (.int .i64 h)).setCell ⟨v.heap.size, 1, none⟩ (.int .i64 w)).setCell ⟨v.heap.size, 2, none⟩ (.int .i64 c)).setCell ⟨v.heap.size, 3, none⟩ (.slice (some ⟨v.heap.size + 1, 0, none⟩) N N)) := by
  have hk : Bk u v.heap.size 68 #[.int .i64 0, .int .i64 0, .int .i64 0, .slice none 0 0] := Bk.below (w := ((v.alloc (.cells #[.int .i64 0, .int .i64 0, .int .i64 0, .slice none 0 0] 68)).alloc (.cells (madeCells #[.int .i64 0] N) 3)).drew) ((Bk.new v _ _).alloc _) hb
  have hr0 := madeRow (v.alloc (.cells #[.int .i64 0, .int .i64 0, .int .i64 0, .slice none 0 0] 68)) N
  simp only [World.size_alloc] at hr0
  have hrow : Row u (v.heap.size + 1) (List.replicate N 0) := Bk.below (w := ((v.alloc (.cells #[.int .i64 0, .int .i64 0, .int .i64 0, .slice none 0 0] 68)).alloc (.cells (madeCells #[.int .i64 0] N) 3)).drew) hr0 hb
  exact ⟨hk.set4, hrow.far4 (by omega) _ _ _ _, below_set4 (below_c hb) (Nat.le_refl _) _ _ _ _, by omega, by omega, by omega⟩
theorem zed_b (hb : Below (v.alloc (.cells #[.int .i64 0, .int .i64 0, .int .i64 0, .slice none 0 0] 68)).drew.heap.size (v.alloc (.cells #[.int .i64 0, .int .i64 0, .int .i64 0, .slice none 0 0] 68)).drew u) : u.cell? ⟨v.heap.size, 0, none⟩ = some (.int .i64 0) ∧ u.cell? ⟨v.heap.size, 1, none⟩ = some (.int .i64 0) ∧ u.cell? ⟨v.heap.size, 2, none⟩ = some (.int .i64 0) ∧ u.cell? ⟨v.heap.size, 3, none⟩ = some (.slice none 0 0) ∧ u.frozen? ⟨v.heap.size, 0, none⟩ = false ∧ u.frozen? ⟨v.heap.size, 1, none⟩ = false ∧ u.frozen? ⟨v.heap.size, 2, none⟩ = false ∧ u.frozen? ⟨v.heap.size, 3, none⟩ = false ∧ v.heap.size < u.heap.size := by
  have hk : Bk u v.heap.size 68 #[.int .i64 0, .int .i64 0, .int .i64 0, .slice none 0 0] := Bk.below (w := (v.alloc (.cells #[.int .i64 0, .int .i64 0, .int .i64 0, .slice none 0 0] 68)).drew) (Bk.new v _ _) hb
  exact ⟨hk.cell 0 rfl, hk.cell 1 rfl, hk.cell 2 rfl, hk.cell 3 rfl, hk.frozen 0, hk.frozen 1, hk.frozen 2, hk.frozen 3, hk.lt⟩
theorem zed_c (hb : Below ((v.alloc (.cells (madeCells #[.int .i64 0] N) 3)).alloc (.cells #[.int .i64 0, .int .i64 0, .int .i64 0, .slice none 0 0] 68)).drew.heap.size ((v.alloc (.cells (madeCells #[.int .i64 0] N) 3)).alloc (.cells #[.int .i64 0, .int .i64 0, .int .i64 0, .slice none 0 0] 68)).drew u) : u.cell? ⟨v.heap.size + 1, 0, none⟩ = some (.int .i64 0) ∧ u.cell? ⟨v.heap.size + 1, 1, none⟩ = some (.int .i64 0) ∧ u.cell? ⟨v.heap.size + 1, 2, none⟩ = some (.int .i64 0) ∧ u.cell? ⟨v.heap.size + 1, 3, none⟩ = some (.slice none 0 0) ∧ u.frozen? ⟨v.heap.size + 1, 0, none⟩ = false ∧ u.frozen? ⟨v.heap.size + 1, 1, none⟩ = false ∧ u.frozen? ⟨v.heap.size + 1, 2, none⟩ = false ∧ u.frozen? ⟨v.heap.size + 1, 3, none⟩ = false := by
  have hk0 := Bk.new (v.alloc (.cells (madeCells #[.int .i64 0] N) 3)) 68 #[.int .i64 0, .int .i64 0, .int .i64 0, .slice none 0 0]
  simp only [World.size_alloc] at hk0
  have hk : Bk u (v.heap.size + 1) 68 #[.int .i64 0, .int .i64 0, .int .i64 0, .slice none 0 0] := Bk.below (w := ((v.alloc (.cells (madeCells #[.int .i64 0] N) 3)).alloc (.cells #[.int .i64 0, .int .i64 0, .int .i64 0, .slice none 0 0] 68)).drew) hk0 hb
  exact ⟨hk.cell 0 rfl, hk.cell 1 rfl, hk.cell 2 rfl, hk.cell 3 rfl, hk.frozen 0, hk.frozen 1, hk.frozen 2, hk.frozen 3⟩
theorem zed_d (hb : Below ((v.alloc (.cells #[.int .i64 0, .int .i64 0, .int .i64 0, .slice none 0 0] 68)).alloc (.cells (madeCells #[.int .i64 0] N) 3)).drew.heap.size ((v.alloc (.cells #[.int .i64 0, .int .i64 0, .int .i64 0, .slice none 0 0] 68)).alloc (.cells (madeCells #[.int .i64 0] N) 3)).drew u) : u.cell? ⟨v.heap.size, 0, none⟩ = some (.int .i64 0) ∧ u.cell? ⟨v.heap.size, 1, none⟩ = some (.int .i64 0) ∧ u.cell? ⟨v.heap.size, 2, none⟩ = some (.int .i64 0) ∧ u.cell? ⟨v.heap.size, 3, none⟩ = some (.slice none 0 0) ∧ u.frozen? ⟨v.heap.size, 0, none⟩ = false ∧ u.frozen? ⟨v.heap.size, 1, none⟩ = false ∧ u.frozen? ⟨v.heap.size, 2, none⟩ = false ∧ u.frozen? ⟨v.heap.size, 3, none⟩ = false := by
  have hk : Bk u v.heap.size 68 #[.int .i64 0, .int .i64 0, .int .i64 0, .slice none 0 0] := Bk.below (w := ((v.alloc (.cells #[.int .i64 0, .int .i64 0, .int .i64 0, .slice none 0 0] 68)).alloc (.cells (madeCells #[.int .i64 0] N) 3)).drew) ((Bk.new v _ _).alloc _) hb
  exact ⟨hk.cell 0 rfl, hk.cell 1 rfl, hk.cell 2 rfl, hk.cell 3 rfl, hk.frozen 0, hk.frozen 1, hk.frozen 2, hk.frozen 3⟩
theorem Laid.below {g3 gr : Nat} {wx : World} (hl : Laid v h w c N g3 gr wx) : Below v.heap.size v wx := hl.2.2.1
theorem below_1 (o : Obj) : Below v.heap.size v (v.alloc o).drew := ((Below.refl _ v).alloc (Nat.le_refl _) o).drew
theorem below_2 (o o' : Obj) : Below v.heap.size v ((v.alloc o).alloc o').drew := (((Below.refl _ v).alloc (Nat.le_refl _) o).alloc (by simp) o').drew
theorem below_3 (h : Below v.heap.size v u) (o : Obj) : Below v.heap.size v (u.alloc o) := h.alloc h.size o
theorem below_4 (h : Below v.heap.size v u) (o o' : Obj) : Below v.heap.size v ((u.alloc o).alloc o') := below_3 (below_3 h o) o'
theorem keepv {g : Nat} {x y z t : Value} (hb : Below v.heap.size v u) (h0 : v.cell? ⟨g, 0, none⟩ = some x) (h1 : v.cell? ⟨g, 1, none⟩ = some y) (h2 : v.cell? ⟨g, 2, none⟩ = some z) (h3 : v.cell? ⟨g, 3, none⟩ = some t) :
    u.cell? ⟨g, 0, none⟩ = some x ∧ u.cell? ⟨g, 1, none⟩ = some y ∧ u.cell? ⟨g, 2, none⟩ = some z ∧ u.cell? ⟨g, 3, none⟩ = some t := ⟨keep hb h0, keep hb h1, keep hb h2, keep hb h3⟩
end

theorem shapeA {g : Nat} {A : Option Addr} {p : Nat} {v : World} (h w c : Int) (N : Nat) (c0 : v.cell? ⟨g, 0, none⟩ = some (.int .i64 h)) (c1 : v.cell? ⟨g, 1, none⟩ = some (.int .i64 w)) (c2 : v.cell? ⟨g, 2, none⟩ = some (.int .i64 c)) (c3 : v.cell? ⟨g, 3, none⟩ = some (.slice A N p)) :
    Calls Try.prog 158 #[.agg #[.int .i64 h, .int .i64 w, .int .i64 c]] v.drew fun e u => e = .returned (.agg #[.int .i64 h, .int .i64 w, .int .i64 c]) ∧ (u.cell? ⟨g, 0, none⟩ = some (.int .i64 h) ∧ u.cell? ⟨g, 1, none⟩ = some (.int .i64 w) ∧ u.cell? ⟨g, 2, none⟩ = some (.int .i64 c) ∧ u.cell? ⟨g, 3, none⟩ = some (.slice A N p)) ∧ Hid ((Laid v h w c N (u.heap.size + 1) u.heap.size ((u.alloc (.cells (madeCells #[.int .i64 0] N) 3)).alloc (.cells #[.int .i64 h, .int .i64 w, .int .i64 c, .slice (some ⟨u.heap.size, 0, none⟩) N N] 68)) ∧ ((u.alloc (.cells (madeCells #[.int .i64 0] N) 3)).alloc (.cells #[.int .i64 h, .int .i64 w, .int .i64 c, .slice (some ⟨u.heap.size, 0, none⟩) N N] 68)).cell? ⟨g, 0, none⟩ = some (.int .i64 h) ∧ ((u.alloc (.cells (madeCells #[.int .i64 0] N) 3)).alloc (.cells #[.int .i64 h, .int .i64 w, .int .i64 c, .slice (some ⟨u.heap.size, 0, none⟩) N N] 68)).cell? ⟨g, 1, none⟩ = some (.int .i64 w) ∧ ((u.alloc (.cells (madeCells #[.int .i64 0] N) 3)).alloc (.cells #[.int .i64 h, .int .i64 w, .int .i64 c, .slice (some ⟨u.heap.size, 0, none⟩) N N] 68)).cell? ⟨g, 2, none⟩ = some (.int .i64 c) ∧ ((u.alloc (.cells (madeCells #[.int .i64 0] N) 3)).alloc (.cells #[.int .i64 h, .int .i64 w, .int .i64 c, .slice (some ⟨u.heap.size, 0, none⟩) N N] 68)).cell? ⟨g, 3, none⟩ = some (.slice A N p)) ∧ (Laid v h w c N u.heap.size (u.heap.size + 1) ((u.alloc (.cells #[.int .i64 h, .int .i64 w, .int .i64 c, .slice (some ⟨u.heap.size + 1, 0, none⟩) N N] 68)).alloc (.cells (madeCells #[.int .i64 0] N) 3)) ∧ ((u.alloc (.cells #[.int .i64 h, .int .i64 w, .int .i64 c, .slice (some ⟨u.heap.size + 1, 0, none⟩) N N] 68)).alloc (.cells (madeCells #[.int .i64 0] N) 3)).cell? ⟨g, 0, none⟩ = some (.int .i64 h) ∧ ((u.alloc (.cells #[.int .i64 h, .int .i64 w, .int .i64 c, .slice (some ⟨u.heap.size + 1, 0, none⟩) N N] 68)).alloc (.cells (madeCells #[.int .i64 0] N) 3)).cell? ⟨g, 1, none⟩ = some (.int .i64 w) ∧ ((u.alloc (.cells #[.int .i64 h, .int .i64 w, .int .i64 c, .slice (some ⟨u.heap.size + 1, 0, none⟩) N N] 68)).alloc (.cells (madeCells #[.int .i64 0] N) 3)).cell? ⟨g, 2, none⟩ = some (.int .i64 c) ∧ ((u.alloc (.cells #[.int .i64 h, .int .i64 w, .int .i64 c, .slice (some ⟨u.heap.size + 1, 0, none⟩) N N] 68)).alloc (.cells (madeCells #[.int .i64 0] N) 3)).cell? ⟨g, 3, none⟩ = some (.slice A N p))) :=
  (shapeI h w c _).mono fun _ _ ⟨he, hb⟩ => ⟨he, keepv (below_a hb) c0 c1 c2 c3, ⟨⟨laid1 hb, keepv (Laid.below (h := h) (w := w) (c := c) (N := N) (laid1 hb)) c0 c1 c2 c3⟩, ⟨laid2 hb, keepv (Laid.below (h := h) (w := w) (c := c) (N := N) (laid2 hb)) c0 c1 c2 c3⟩⟩⟩
theorem shapeB {g : Nat} {A : Option Addr} {p : Nat} {v : World} (h w c : Int) (N : Nat) (c0 : v.cell? ⟨g, 0, none⟩ = some (.int .i64 h)) (c1 : v.cell? ⟨g, 1, none⟩ = some (.int .i64 w)) (c2 : v.cell? ⟨g, 2, none⟩ = some (.int .i64 c)) (c3 : v.cell? ⟨g, 3, none⟩ = some (.slice A N p)) :
    Calls Try.prog 158 #[.agg #[.int .i64 h, .int .i64 w, .int .i64 c]] (v.alloc (.cells (madeCells #[.int .i64 0] N) 3)).drew fun e u => e = .returned (.agg #[.int .i64 h, .int .i64 w, .int .i64 c]) ∧ (u.cell? ⟨g, 0, none⟩ = some (.int .i64 h) ∧ u.cell? ⟨g, 1, none⟩ = some (.int .i64 w) ∧ u.cell? ⟨g, 2, none⟩ = some (.int .i64 c) ∧ u.cell? ⟨g, 3, none⟩ = some (.slice A N p)) ∧ Hid ((Laid v h w c N u.heap.size v.heap.size (u.alloc (.cells #[.int .i64 h, .int .i64 w, .int .i64 c, .slice (some ⟨v.heap.size, 0, none⟩) N N] 68)) ∧ (u.alloc (.cells #[.int .i64 h, .int .i64 w, .int .i64 c, .slice (some ⟨v.heap.size, 0, none⟩) N N] 68)).cell? ⟨g, 0, none⟩ = some (.int .i64 h) ∧ (u.alloc (.cells #[.int .i64 h, .int .i64 w, .int .i64 c, .slice (some ⟨v.heap.size, 0, none⟩) N N] 68)).cell? ⟨g, 1, none⟩ = some (.int .i64 w) ∧ (u.alloc (.cells #[.int .i64 h, .int .i64 w, .int .i64 c, .slice (some ⟨v.heap.size, 0, none⟩) N N] 68)).cell? ⟨g, 2, none⟩ = some (.int .i64 c) ∧ (u.alloc (.cells #[.int .i64 h, .int .i64 w, .int .i64 c, .slice (some ⟨v.heap.size, 0, none⟩) N N] 68)).cell? ⟨g, 3, none⟩ = some (.slice A N p))) :=
  (shapeI h w c _).mono fun _ _ ⟨he, hb⟩ => ⟨he, keepv (below_b hb) c0 c1 c2 c3, ⟨laid3 hb, keepv (Laid.below (h := h) (w := w) (c := c) (N := N) (laid3 hb)) c0 c1 c2 c3⟩⟩
theorem shapeC {g : Nat} {A : Option Addr} {p : Nat} {v : World} (h w c : Int) (N : Nat) (c0 : v.cell? ⟨g, 0, none⟩ = some (.int .i64 h)) (c1 : v.cell? ⟨g, 1, none⟩ = some (.int .i64 w)) (c2 : v.cell? ⟨g, 2, none⟩ = some (.int .i64 c)) (c3 : v.cell? ⟨g, 3, none⟩ = some (.slice A N p)) :
    Calls Try.prog 158 #[.agg #[.int .i64 h, .int .i64 w, .int .i64 c]] (v.alloc (.cells #[.int .i64 0, .int .i64 0, .int .i64 0, .slice none 0 0] 68)).drew fun e u => e = .returned (.agg #[.int .i64 h, .int .i64 w, .int .i64 c]) ∧ (u.cell? ⟨g, 0, none⟩ = some (.int .i64 h) ∧ u.cell? ⟨g, 1, none⟩ = some (.int .i64 w) ∧ u.cell? ⟨g, 2, none⟩ = some (.int .i64 c) ∧ u.cell? ⟨g, 3, none⟩ = some (.slice A N p)) ∧ (u.cell? ⟨v.heap.size, 0, none⟩ = some (.int .i64 0) ∧ u.cell? ⟨v.heap.size, 1, none⟩ = some (.int .i64 0) ∧ u.cell? ⟨v.heap.size, 2, none⟩ = some (.int .i64 0) ∧ u.cell? ⟨v.heap.size, 3, none⟩ = some (.slice none 0 0) ∧ u.frozen? ⟨v.heap.size, 0, none⟩ = false ∧ u.frozen? ⟨v.heap.size, 1, none⟩ = false ∧ u.frozen? ⟨v.heap.size, 2, none⟩ = false ∧ u.frozen? ⟨v.heap.size, 3, none⟩ = false ∧ v.heap.size < u.heap.size) ∧ Hid ((Laid v h w c N v.heap.size u.heap.size (((((u.setCell ⟨v.heap.size, 0, none⟩ (.int .i64 h)).setCell ⟨v.heap.size, 1, none⟩ (.int .i64 w)).setCell ⟨v.heap.size, 2, none⟩ (.int .i64 c)).setCell ⟨v.heap.size, 3, none⟩ (.slice (some ⟨u.heap.size, 0, none⟩) N N)).alloc (.cells (madeCells #[.int .i64 0] N) 3)) ∧ (((((u.setCell ⟨v.heap.size, 0, none⟩ (.int .i64 h)).setCell ⟨v.heap.size, 1, none⟩ (.int .i64 w)).setCell ⟨v.heap.size, 2, none⟩ (.int .i64 c)).setCell ⟨v.heap.size, 3, none⟩ (.slice (some ⟨u.heap.size, 0, none⟩) N N)).alloc (.cells (madeCells #[.int .i64 0] N) 3)).cell? ⟨g, 0, none⟩ = some (.int .i64 h) ∧ (((((u.setCell ⟨v.heap.size, 0, none⟩ (.int .i64 h)).setCell ⟨v.heap.size, 1, none⟩ (.int .i64 w)).setCell ⟨v.heap.size, 2, none⟩ (.int .i64 c)).setCell ⟨v.heap.size, 3, none⟩ (.slice (some ⟨u.heap.size, 0, none⟩) N N)).alloc (.cells (madeCells #[.int .i64 0] N) 3)).cell? ⟨g, 1, none⟩ = some (.int .i64 w) ∧ (((((u.setCell ⟨v.heap.size, 0, none⟩ (.int .i64 h)).setCell ⟨v.heap.size, 1, none⟩ (.int .i64 w)).setCell ⟨v.heap.size, 2, none⟩ (.int .i64 c)).setCell ⟨v.heap.size, 3, none⟩ (.slice (some ⟨u.heap.size, 0, none⟩) N N)).alloc (.cells (madeCells #[.int .i64 0] N) 3)).cell? ⟨g, 2, none⟩ = some (.int .i64 c) ∧ (((((u.setCell ⟨v.heap.size, 0, none⟩ (.int .i64 h)).setCell ⟨v.heap.size, 1, none⟩ (.int .i64 w)).setCell ⟨v.heap.size, 2, none⟩ (.int .i64 c)).setCell ⟨v.heap.size, 3, none⟩ (.slice (some ⟨u.heap.size, 0, none⟩) N N)).alloc (.cells (madeCells #[.int .i64 0] N) 3)).cell? ⟨g, 3, none⟩ = some (.slice A N p))) :=
  (shapeI h w c _).mono fun _ _ ⟨he, hb⟩ => ⟨he, keepv (below_b hb) c0 c1 c2 c3, zed_b hb, ⟨laid4 hb, keepv (Laid.below (h := h) (w := w) (c := c) (N := N) (laid4 hb)) c0 c1 c2 c3⟩⟩
theorem shapeD {g : Nat} {A : Option Addr} {p : Nat} {v : World} (h w c : Int) (N : Nat) (c0 : v.cell? ⟨g, 0, none⟩ = some (.int .i64 h)) (c1 : v.cell? ⟨g, 1, none⟩ = some (.int .i64 w)) (c2 : v.cell? ⟨g, 2, none⟩ = some (.int .i64 c)) (c3 : v.cell? ⟨g, 3, none⟩ = some (.slice A N p)) :
    Calls Try.prog 158 #[.agg #[.int .i64 h, .int .i64 w, .int .i64 c]] ((v.alloc (.cells (madeCells #[.int .i64 0] N) 3)).alloc (.cells #[.int .i64 0, .int .i64 0, .int .i64 0, .slice none 0 0] 68)).drew fun e u => e = .returned (.agg #[.int .i64 h, .int .i64 w, .int .i64 c]) ∧ (u.cell? ⟨g, 0, none⟩ = some (.int .i64 h) ∧ u.cell? ⟨g, 1, none⟩ = some (.int .i64 w) ∧ u.cell? ⟨g, 2, none⟩ = some (.int .i64 c) ∧ u.cell? ⟨g, 3, none⟩ = some (.slice A N p)) ∧ (u.cell? ⟨v.heap.size + 1, 0, none⟩ = some (.int .i64 0) ∧ u.cell? ⟨v.heap.size + 1, 1, none⟩ = some (.int .i64 0) ∧ u.cell? ⟨v.heap.size + 1, 2, none⟩ = some (.int .i64 0) ∧ u.cell? ⟨v.heap.size + 1, 3, none⟩ = some (.slice none 0 0) ∧ u.frozen? ⟨v.heap.size + 1, 0, none⟩ = false ∧ u.frozen? ⟨v.heap.size + 1, 1, none⟩ = false ∧ u.frozen? ⟨v.heap.size + 1, 2, none⟩ = false ∧ u.frozen? ⟨v.heap.size + 1, 3, none⟩ = false) ∧ Hid ((Laid v h w c N (v.heap.size + 1) v.heap.size ((((u.setCell ⟨v.heap.size + 1, 0, none⟩ (.int .i64 h)).setCell ⟨v.heap.size + 1, 1, none⟩ (.int .i64 w)).setCell ⟨v.heap.size + 1, 2, none⟩ (.int .i64 c)).setCell ⟨v.heap.size + 1, 3, none⟩ (.slice (some ⟨v.heap.size, 0, none⟩) N N)) ∧ ((((u.setCell ⟨v.heap.size + 1, 0, none⟩ (.int .i64 h)).setCell ⟨v.heap.size + 1, 1, none⟩ (.int .i64 w)).setCell ⟨v.heap.size + 1, 2, none⟩ (.int .i64 c)).setCell ⟨v.heap.size + 1, 3, none⟩ (.slice (some ⟨v.heap.size, 0, none⟩) N N)).cell? ⟨g, 0, none⟩ = some (.int .i64 h) ∧ ((((u.setCell ⟨v.heap.size + 1, 0, none⟩ (.int .i64 h)).setCell ⟨v.heap.size + 1, 1, none⟩ (.int .i64 w)).setCell ⟨v.heap.size + 1, 2, none⟩ (.int .i64 c)).setCell ⟨v.heap.size + 1, 3, none⟩ (.slice (some ⟨v.heap.size, 0, none⟩) N N)).cell? ⟨g, 1, none⟩ = some (.int .i64 w) ∧ ((((u.setCell ⟨v.heap.size + 1, 0, none⟩ (.int .i64 h)).setCell ⟨v.heap.size + 1, 1, none⟩ (.int .i64 w)).setCell ⟨v.heap.size + 1, 2, none⟩ (.int .i64 c)).setCell ⟨v.heap.size + 1, 3, none⟩ (.slice (some ⟨v.heap.size, 0, none⟩) N N)).cell? ⟨g, 2, none⟩ = some (.int .i64 c) ∧ ((((u.setCell ⟨v.heap.size + 1, 0, none⟩ (.int .i64 h)).setCell ⟨v.heap.size + 1, 1, none⟩ (.int .i64 w)).setCell ⟨v.heap.size + 1, 2, none⟩ (.int .i64 c)).setCell ⟨v.heap.size + 1, 3, none⟩ (.slice (some ⟨v.heap.size, 0, none⟩) N N)).cell? ⟨g, 3, none⟩ = some (.slice A N p))) :=
  (shapeI h w c _).mono fun _ _ ⟨he, hb⟩ => ⟨he, keepv (below_c hb) c0 c1 c2 c3, zed_c hb, ⟨laid5 hb, keepv (Laid.below (h := h) (w := w) (c := c) (N := N) (laid5 hb)) c0 c1 c2 c3⟩⟩
theorem shapeE {g : Nat} {A : Option Addr} {p : Nat} {v : World} (h w c : Int) (N : Nat) (c0 : v.cell? ⟨g, 0, none⟩ = some (.int .i64 h)) (c1 : v.cell? ⟨g, 1, none⟩ = some (.int .i64 w)) (c2 : v.cell? ⟨g, 2, none⟩ = some (.int .i64 c)) (c3 : v.cell? ⟨g, 3, none⟩ = some (.slice A N p)) :
    Calls Try.prog 158 #[.agg #[.int .i64 h, .int .i64 w, .int .i64 c]] ((v.alloc (.cells #[.int .i64 0, .int .i64 0, .int .i64 0, .slice none 0 0] 68)).alloc (.cells (madeCells #[.int .i64 0] N) 3)).drew fun e u => e = .returned (.agg #[.int .i64 h, .int .i64 w, .int .i64 c]) ∧ (u.cell? ⟨g, 0, none⟩ = some (.int .i64 h) ∧ u.cell? ⟨g, 1, none⟩ = some (.int .i64 w) ∧ u.cell? ⟨g, 2, none⟩ = some (.int .i64 c) ∧ u.cell? ⟨g, 3, none⟩ = some (.slice A N p)) ∧ (u.cell? ⟨v.heap.size, 0, none⟩ = some (.int .i64 0) ∧ u.cell? ⟨v.heap.size, 1, none⟩ = some (.int .i64 0) ∧ u.cell? ⟨v.heap.size, 2, none⟩ = some (.int .i64 0) ∧ u.cell? ⟨v.heap.size, 3, none⟩ = some (.slice none 0 0) ∧ u.frozen? ⟨v.heap.size, 0, none⟩ = false ∧ u.frozen? ⟨v.heap.size, 1, none⟩ = false ∧ u.frozen? ⟨v.heap.size, 2, none⟩ = false ∧ u.frozen? ⟨v.heap.size, 3, none⟩ = false) ∧ Hid ((Laid v h w c N v.heap.size (v.heap.size + 1) ((((u.setCell ⟨v.heap.size, 0, none⟩ (.int .i64 h)).setCell ⟨v.heap.size, 1, none⟩ (.int .i64 w)).setCell ⟨v.heap.size, 2, none⟩ (.int .i64 c)).setCell ⟨v.heap.size, 3, none⟩ (.slice (some ⟨v.heap.size + 1, 0, none⟩) N N)) ∧ ((((u.setCell ⟨v.heap.size, 0, none⟩ (.int .i64 h)).setCell ⟨v.heap.size, 1, none⟩ (.int .i64 w)).setCell ⟨v.heap.size, 2, none⟩ (.int .i64 c)).setCell ⟨v.heap.size, 3, none⟩ (.slice (some ⟨v.heap.size + 1, 0, none⟩) N N)).cell? ⟨g, 0, none⟩ = some (.int .i64 h) ∧ ((((u.setCell ⟨v.heap.size, 0, none⟩ (.int .i64 h)).setCell ⟨v.heap.size, 1, none⟩ (.int .i64 w)).setCell ⟨v.heap.size, 2, none⟩ (.int .i64 c)).setCell ⟨v.heap.size, 3, none⟩ (.slice (some ⟨v.heap.size + 1, 0, none⟩) N N)).cell? ⟨g, 1, none⟩ = some (.int .i64 w) ∧ ((((u.setCell ⟨v.heap.size, 0, none⟩ (.int .i64 h)).setCell ⟨v.heap.size, 1, none⟩ (.int .i64 w)).setCell ⟨v.heap.size, 2, none⟩ (.int .i64 c)).setCell ⟨v.heap.size, 3, none⟩ (.slice (some ⟨v.heap.size + 1, 0, none⟩) N N)).cell? ⟨g, 2, none⟩ = some (.int .i64 c) ∧ ((((u.setCell ⟨v.heap.size, 0, none⟩ (.int .i64 h)).setCell ⟨v.heap.size, 1, none⟩ (.int .i64 w)).setCell ⟨v.heap.size, 2, none⟩ (.int .i64 c)).setCell ⟨v.heap.size, 3, none⟩ (.slice (some ⟨v.heap.size + 1, 0, none⟩) N N)).cell? ⟨g, 3, none⟩ = some (.slice A N p))) :=
  (shapeI h w c _).mono fun _ _ ⟨he, hb⟩ => ⟨he, keepv (below_c hb) c0 c1 c2 c3, zed_d hb, ⟨laid6 hb, keepv (Laid.below (h := h) (w := w) (c := c) (N := N) (laid6 hb)) c0 c1 c2 c3⟩⟩
set_option maxHeartbeats 1000000 in
/-- A new tensor whose numbers stand in a row of its own. -/
def NewTR (W : World) (h w c : Int) (n : Nat) (xs : List Int) (e : Ending) (W' : World) : Prop :=
  ∃ g, e = .returned (.agg #[.int .i64 h, .int .i64 w, .int .i64 c, .slice (some ⟨g, 0, none⟩) n n]) ∧ W.heap.size ≤ g ∧ Row W' g xs ∧ Below W.heap.size W W'
theorem tensorOfI (h w c : Int) (A : Option Addr) (N p : Nat) (xs : List Int) (W : World) (hr : RdS W A N xs) (hpos : 0 < N) (hN : N ≤ 1048576) (hfit : ∀ j, j < N → -128 ≤ xs[j]?.getD 0 ∧ xs[j]?.getD 0 ≤ 127) :
    Calls Try.prog 115 #[.agg #[.int .i64 h, .int .i64 w, .int .i64 c, .slice A N p]] W (NewTR W h w c N xs) := by
  have hlen := hr.1
  have HAB : Hid (∀ b off, A = some ⟨b, off, none⟩ → b < W.heap.size) := Lib.hid (fun b off e => by obtain ⟨b', off', e', hlt, _⟩ := hr.2 hpos; rw [e] at e'; cases e'; exact hlt)
  have hn0 : (0 : Int) ≤ N := Int.natCast_nonneg N
  have hn1 : (N : Int) ≤ 1048576 := by omega
  have hmk := makeI N hN
  have HF := Lib.hid hfit
  have HR := Lib.hid hr
  have HL := Lib.hid hlen
  clear hfit hr hlen hN hpos
  refine (callsIn_wide (n := 8)).1 ?_
  refine callsIn_of_wp_marks Try.func115 rfl trivial ?_ rfl
  simp only [Try.ntmps115, List.size_toArray, List.length_cons, List.length_nil, Nat.reduceAdd, Nat.reduceSub, Array.replicate_succ, Array.replicate_zero, List.push_toArray, List.append_toArray, List.nil_append, List.cons_append]
  refine wpIn_wide.2 ?_
  go_upto_region 1 with fail
  have k1 := (Bk.new W 129 #[.int .i64 h, .int .i64 w, .int .i64 c, .slice A N p]).alloc (.cells #[.int .i64 0, .int .i64 0, .int .i64 0, .slice none 0 0] 68)
  have k2 := Bk.new (W.alloc (.cells #[.int .i64 h, .int .i64 w, .int .i64 c, .slice A N p] 129)) 68 #[.int .i64 0, .int .i64 0, .int .i64 0, .slice none 0 0]
  have a1 : Below W.heap.size W ((W.alloc (.cells #[.int .i64 h, .int .i64 w, .int .i64 c, .slice A N p] 129)).alloc (.cells #[.int .i64 0, .int .i64 0, .int .i64 0, .slice none 0 0] 68)) := ((Below.refl _ W).alloc (Nat.le_refl _) _).alloc (by simp) _
  have r1 := HR.out.of_below a1
  simp only [World.size_alloc] at k2
  generalize (W.alloc (.cells #[.int .i64 h, .int .i64 w, .int .i64 c, .slice A N p] 129)).alloc (.cells #[.int .i64 0, .int .i64 0, .int .i64 0, .slice none 0 0] 68) = v at k1 k2 a1 r1 ⊢
  have i2 : W.heap.size ≤ W.heap.size + 1 := by omega
  generalize W.heap.size + 1 = g2 at k2 i2 ⊢
  have K1 := Lib.hid k1
  have K2 := Lib.hid k2
  have A1 := Lib.hid a1
  have R1 := Lib.hid r1
  have I2 := Lib.hid i2
  obtain ⟨c0, c1, c2, c3⟩ := k1.cell4
  clear k1 k2 a1 r1 i2
  go_cut [3] from 6 to 13 (fun q wx => ∃ g3 gr, q = .pointer (some ⟨g3, 0, none⟩) ∧ Laid v h w c N g3 gr wx)
  case first =>
    have n0 := World.block_lt_of_cell? v _ c0
    have n1 : W.heap.size ≠ v.heap.size := Nat.ne_of_lt n0
    have n2 : W.heap.size ≠ v.heap.size + 1 := Nat.ne_of_lt (Nat.lt_succ_of_lt n0)
    clear HF HR HL HAB K1 K2 A1 R1 I2 n0
    go_region_held3 (fun w' => w'.cell? ⟨W.heap.size, 0, none⟩ = some (.int .i64 h) ∧ w'.cell? ⟨W.heap.size, 1, none⟩ = some (.int .i64 w) ∧ w'.cell? ⟨W.heap.size, 2, none⟩ = some (.int .i64 c) ∧ w'.cell? ⟨W.heap.size, 3, none⟩ = some (.slice A N p))
      (first
        | (with_reducible exact ⟨c0, c1, c2, c3⟩)
        | (with_reducible exact ss)
        | (with_reducible exact hl.out.1.2)
        | (with_reducible exact hl.out.2.2)
        | (with_reducible exact hl.out.2)
        | go_keep)
      (first
        | (go_at_call 158; ((with_reducible refine (shapeA h w c N c0 c1 c2 c3).mono ?_)); rintro e u1 ⟨rfl, ss, hl⟩)
        | (go_at_call 158; ((with_reducible refine (shapeB h w c N c0 c1 c2 c3).mono ?_)); rintro e u1 ⟨rfl, ss, hl⟩)
        | (go_at_call 158; ((with_reducible refine (shapeC h w c N c0 c1 c2 c3).mono ?_)); rintro e u1 ⟨rfl, ss, zz, hl⟩)
        | (go_at_call 158; ((with_reducible refine (shapeD h w c N c0 c1 c2 c3).mono ?_)); rintro e u1 ⟨rfl, ss, zz, hl⟩)
        | (go_at_call 158; ((with_reducible refine (shapeE h w c N c0 c1 c2 c3).mono ?_)); rintro e u1 ⟨rfl, ss, zz, hl⟩))
    all_goals go_wp2
    all_goals go_meet
    all_goals first
      | (with_reducible exact ⟨_, _, rfl, hl.out.1.1⟩)
      | (with_reducible exact ⟨_, _, rfl, hl.out.2.1⟩)
      | (with_reducible exact ⟨_, _, rfl, hl.out.1⟩)
  case rest =>
    obtain ⟨g3, gr, rfl, k3, kr, hb, l3, lr, hne⟩ := hcut
    have k1 := K1.out.below hb
    have k2 := K2.out.below hb
    have i1 : W.heap.size < v.heap.size := K1.out.lt
    have i2 : g2 < v.heap.size := K2.out.lt
    have i3 : W.heap.size ≤ g2 := I2.out
    have rr := R1.out.of_below hb
    have HBv := Lib.hid (A1.out.trans (hb.mono A1.out.size))
    obtain ⟨e0, e1, e2, e3⟩ := k1.cell4
    clear K1 K2 A1 R1 I2 HR hb c0 c1 c2 c3
    have q3 := k3.lt
    have HNN : Hid (N ≤ 1048576) := Lib.hid (by omega)
    go_wp2_with fail
    clear e0 e1 e2 e3
    refine (wpIn_wide (n := 8)).1 ?_
    refine wpIn_rangeMethod rfl (by omega) (gf := 104) (recv := .agg #[.int .i64 h, .int .i64 w, .int .i64 c, .slice A N p]) rfl trivial (enters_of Try.func104 (by kernel_rfl) rfl) (n0 := v.heap.size) (by omega)
      (walk_gives Fence.wide _ trivial rfl (by omega) h w c A N p v.heap.size xs wc rr (fun b off e => Nat.lt_trans (HAB.out b off e) i1) (by omega) HNN.out) (fun _ => rfl)
      (fun k W' => Bk W' g3 68 #[.int .i64 h, .int .i64 w, .int .i64 c, .slice (some ⟨gr, 0, none⟩) N N] ∧ Row W' gr (vals xs N k) ∧ Below v.heap.size wc W')
      (OwnFrom.and (bk_own _ _ _ (fun _ => #[.int .i64 h, .int .i64 w, .int .i64 c, .slice (some ⟨gr, 0, none⟩) N N])) (OwnFrom.and (bk_own _ _ _ (fun k => ((vals xs N k).map (Value.int .i64)).toArray)) (ownFrom_below (by omega) (by omega))))
      ⟨k3, by rw [vals_zero]; exact kr, Below.refl _ _⟩
      (fun k => { tmps := #[.agg #[.int .i64 h, .int .i64 w, .int .i64 c, .slice A N p], .pointer (some ⟨W.heap.size, 0, none⟩), .pointer (some ⟨g2, 0, none⟩), .pointer (some ⟨g3, 0, none⟩), .int .i64 (k : Int), .int .i8 (xs[k]?.getD 0), u6, u7, u8, u9, u10, u11, u12, u13, .agg #[.int .i64 h, .int .i64 w, .int .i64 c, .slice A N p], .func (.func 104) #[.agg #[.int .i64 h, .int .i64 w, .int .i64 c, .slice A N p]] #[],
        .int .i64 (k : Int), .int .i8 (xs[k]?.getD 0), undef, undef, undef, undef, undef, undef, undef], defers := [] }) ?assign ?body ?done
    case assign =>
      intro l k W' K hK
      gi_wp2
      exact hK
    case body =>
      rintro l k W' ⟨hk3, hkr, hB⟩ hk
      have hki : (k : Int) < (N : Int) := by omega
      have hk0 : (0 : Int) ≤ (k : Int) := Int.natCast_nonneg k
      have e3 := hk3.cell 3 rfl
      have er := hkr.cell k (by have := HL.out; simp [vals]; omega)
      have fr := Bk.frozen hkr k
      have q1 := HF.out k hk
      have HK3 := Lib.hid hk3
      have HKR := Lib.hid hkr
      have HBW := Lib.hid hB
      clear hk3 hkr hB k1 k2 k3 kr rr
      gi_wp2
      refine ⟨(KeepsOthers.setCell _ _ _).from _, (Below.refl v.heap.size W').setCell (p := ⟨gr, k, none⟩) lr _, HK3.out.far (p := ⟨gr, k, none⟩) (Ne.symm hne) _, HKR.out.set HL.out hk, HBW.out.setCell (p := ⟨gr, k, none⟩) lr _⟩
    case done =>
      rintro D W' hD ⟨hk3, hkr, hB⟩ hd
      rw [vals_all xs N HL.out] at hkr
      have hk2 := k2.belowN hB i2
      have hgr : gr < wc.heap.size := Bk.lt kr
      obtain ⟨e0, e1, e2, e3⟩ := hk3.cell4
      obtain ⟨j0, j1, j2, j3⟩ := hk2.cell4
      obtain ⟨f0, f1, f2, f3⟩ := hk2.free4
      have HR9 : Hid (Row _ gr xs) := Lib.hid (Bk.far4 hkr (b := g2) (by omega) (.int .i64 h) (.int .i64 w) (.int .i64 c) (.slice (some ⟨gr, 0, none⟩) N N))
      have HK9 := Lib.hid (hk2.set4 (x := .int .i64 h) (y := .int .i64 w) (z := .int .i64 c) (u := .slice (some ⟨gr, 0, none⟩) N N))
      have HB9 := Lib.hid (below_set4 (HBv.out.trans (hB.mono (by omega))) i3 (.int .i64 h) (.int .i64 w) (.int .i64 c) (.slice (some ⟨gr, 0, none⟩) N N))
      have HD9 : Hid ((((((W'.setCell ⟨g2, 0, none⟩ (.int .i64 h)).setCell ⟨g2, 1, none⟩ (.int .i64 w)).setCell ⟨g2, 2, none⟩ (.int .i64 c)).setCell ⟨g2, 3, none⟩ (.slice (some ⟨gr, 0, none⟩) N N))).heap[D]? = some (.deferred (some []))) := Lib.hid (by
        have : g2 < D := by omega
        rw [Below.heap_setCell _ _ _ _ (by show D ≠ g2; omega), Below.heap_setCell _ _ _ _ (by show D ≠ g2; omega), Below.heap_setCell _ _ _ _ (by show D ≠ g2; omega), Below.heap_setCell _ _ _ _ (by show D ≠ g2; omega)]
        exact hd)
      clear hk3 hkr hB k1 k2 k3 kr rr hk2 hd
      go_wp2
      have hd9 := HD9.out
      have r9 := HR9.out
      have k9 := HK9.out
      have b9 := HB9.out
      clear HD9 HR9 HK9 HB9 e0 e1 e2 e3 j0 j1 j2 j3 f0 f1 f2 f3
      generalize (((W'.setCell { block := g2, off := 0 } (.int .i64 h)).setCell { block := g2, off := 1 } (.int .i64 w)).setCell { block := g2, off := 2 } (.int .i64 c)).setCell { block := g2, off := 3 } (.slice (some { block := gr, off := 0 }) N N) = w9 at hd9 r9 k9 b9 ⊢
      refine ⟨by simp, .inl ⟨_, _, rfl, run_takeDeferred hd9, ?_⟩⟩
      have hq := belowK_b (w := wc) (Nat.le_refl _) w9 D _ (.deferred none) hD hd9 rfl rfl
      have r10 : Row _ gr xs := Bk.belowN r9 hq hgr
      obtain ⟨z0, z1, z2, z3⟩ := (k9.belowN hq (by omega)).cell4
      refine ⟨.agg #[.int .i64 h, .int .i64 w, .int .i64 c, .slice (some ⟨gr, 0, none⟩) N N], ?_, gr, rfl, by omega, r10, b9.trans (hq.mono (by omega))⟩
      clear r9 k9 b9 r10 hd9 hq
      generalize w9.putObj D (.deferred none) = w10 at z0 z1 z2 z3 ⊢
      simp [results, Try.f115, go_sem, z0, z1, z2, z3]
end Qt
end Go.Proofs.Ytebldedmkpdgcaa
