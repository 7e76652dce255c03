/- What tensorOf of the program gives when it is called with a block: a new tensor with the same numbers. Conditions: the items read as the list that is named, and each fits eight bits. -/
import Derived.Test.YtalkoaahhkafaaaArgMax
import Derived.Deep.RegionHeld3
import Derived.Deep.DeepCutAuto
namespace Go.Proofs.Ytalkoaahhkafaaa
open Go.RowKit Go.Shelf Go.Sort
namespace Qt
attribute [local go_sem] Oper.semAt_some

/-- A row of whole numbers of the call's own. -/
def Row (w : World) (g : Nat) (ys : List Int) : Prop := Bk w g 3 (ys.map (Value.int .i64)).toArray
theorem Row.cell {w : World} {g : Nat} {ys : List Int} (h : Row w g ys) (j : Nat) (hj : j < ys.length) : w.cell? ⟨g, j, none⟩ = some (.int .i64 (ys[j]?.getD 0)) :=
  Bk.cell h j (by simp [hj])
theorem Row.rdI {w : World} {g n : Nat} {ys : List Int} (h : Row w g ys) (hl : ys.length = n) : RdI w (some ⟨g, 0, none⟩) n ys :=
  ⟨hl, fun _ => ⟨g, 0, rfl, Bk.lt h, fun j hj => by rw [Nat.zero_add, h.cell j (by omega)]; simp [List.getD_eq_getElem?_getD]⟩⟩
theorem Row.set {w : World} {g n k : Nat} {xs : List Int} (h : Row w g (vals xs n k)) (hl : xs.length = n) (hk : k < n) : Row (w.setCell ⟨g, k, none⟩ (.int .i64 (xs[k]?.getD 0))) g (vals xs n (k + 1)) := by
  have := Bk.set h k (.int .i64 (xs[k]?.getD 0))
  unfold Row
  have e : (vals xs n (k + 1)).map (Value.int .i64) = ((vals xs n k).map (Value.int .i64)).set k (.int .i64 (xs[k]?.getD 0)) := by
    have := vals_map_set xs n k hl hk
    simpa [List.getD_eq_getElem?_getD] using this.symm
  rw [e]
  simpa using this

theorem madeRow (W : World) (n : Nat) : Row (W.alloc (.cells (madeCells #[.int .i64 0] n) 3)) W.heap.size (List.replicate n 0) := by
  have := Bk.new W 3 (madeCells #[.int .i64 0] n)
  unfold Row
  have e : (madeCells #[.int .i64 0] n) = ((List.replicate n 0).map (Value.int .i64)).toArray := by
    rw [← Array.toArray_toList (xs := madeCells _ _), toList_madeCells_one]
    simp
  rw [← e]; exact this

theorem RdI.of_belowN {w w' : World} {B b n : Nat} {xs : List Int} (h : RdI w (some ⟨b, 0, none⟩) n xs) (hb : Below B w w') (hlt : b < B) : RdI w' (some ⟨b, 0, none⟩) n xs :=
  ⟨h.1, fun hn => by
    obtain ⟨b', off, e, hl, hc⟩ := h.2 hn
    cases e
    exact ⟨b, 0, rfl, World.block_lt_of_cell? w' ⟨b, 0 + 0, none⟩ ((hb.cell (p := ⟨b, 0 + 0, none⟩) hlt).trans (hc 0 hn)), fun j hj => (hb.cell (p := ⟨b, 0 + j, none⟩) hlt).trans (hc j hj)⟩⟩
theorem makeI (n : Nat) (hn : n ≤ 1048576) (W : World) : (Instr.makeSlice 31 (.int .i64 (n : Int)) (.int .i64 (n : Int))).run Try.prog W = .ok (.slice (some ⟨W.heap.size, 0, none⟩) n n) (W.alloc (.cells (madeCells #[.int .i64 0] n) 3)) := by
  obtain ⟨i0, hi, hz0, hz1, hz2⟩ := info_parts info3
  have := run_makeSlice (P := Try.prog) W 31 3 i0 (.int .i64 0) Try.underlying31 hi hz0 .i64 .i64 (n : Int) (n : Int) (Int.natCast_nonneg n) (Int.le_refl _) (by rw [hz1]; simp; omega) (by rw [hz2]; omega) (by omega)
  rw [this]
  simp [hz1, Value.cells]

/-- What is known where a new tensor with a row of noughts has been laid behind the world v. -/
def Laid (v : World) (h w c : Int) (N g3 gr : Nat) (wx : World) : Prop :=
  Bk wx g3 57 #[.int .i64 h, .int .i64 w, .int .i64 c, .slice (some ⟨gr, 0, none⟩) N N] ∧ Row wx gr (List.replicate N 0) ∧ Below v.heap.size v wx ∧ v.heap.size ≤ g3 ∧ v.heap.size ≤ gr ∧ gr ≠ g3
section
variable {v u : World} {h w c : Int} {N : Nat}
theorem below_a (hb : Below v.drew.heap.size v.drew u) : Below v.heap.size v u := (Below.refl _ v).drew.trans hb
theorem below_b {o : Obj} (hb : Below (v.alloc o).drew.heap.size (v.alloc o).drew u) : Below v.heap.size v u := ((Below.refl _ v).alloc (Nat.le_refl _) o).drew.trans (hb.mono (by simp))
theorem below_c {o o' : Obj} (hb : Below ((v.alloc o).alloc o').drew.heap.size ((v.alloc o).alloc o').drew u) : Below v.heap.size v u := (((Below.refl _ v).alloc (Nat.le_refl _) o).alloc (by simp) o').drew.trans (hb.mono (by simp; omega))
theorem laid1 (hb : Below v.drew.heap.size v.drew u) : Laid v h w c N (u.heap.size + 1) u.heap.size ((u.alloc (.cells (madeCells #[.int .i64 0] N) 3)).alloc (.cells #[.int .i64 h, .int .i64 w, .int .i64 c, .slice (some ⟨u.heap.size, 0, none⟩) N N] 57)) := by
  have hs := (below_a hb).size
  refine ⟨?_, (madeRow u N).alloc _, (((below_a hb).alloc hs _).alloc (by simp; omega) _), by omega, by omega, by omega⟩
  have := Bk.new (u.alloc (.cells (madeCells #[.int .i64 0] N) 3)) 57 #[.int .i64 h, .int .i64 w, .int .i64 c, .slice (some ⟨u.heap.size, 0, none⟩) N N]
  simpa using this
theorem laid2 (hb : Below v.drew.heap.size v.drew u) : Laid v h w c N u.heap.size (u.heap.size + 1) ((u.alloc (.cells #[.int .i64 h, .int .i64 w, .int .i64 c, .slice (some ⟨u.heap.size + 1, 0, none⟩) N N] 57)).alloc (.cells (madeCells #[.int .i64 0] N) 3)) := by
  have hs := (below_a hb).size
  refine ⟨(Bk.new u _ _).alloc _, ?_, (((below_a hb).alloc hs _).alloc (by simp; omega) _), by omega, by omega, by omega⟩
  have := madeRow (u.alloc (.cells #[.int .i64 h, .int .i64 w, .int .i64 c, .slice (some ⟨u.heap.size + 1, 0, none⟩) N N] 57)) N
  simpa using this
theorem laid3 (hb : Below (v.alloc (.cells (madeCells #[.int .i64 0] N) 3)).drew.heap.size (v.alloc (.cells (madeCells #[.int .i64 0] N) 3)).drew u) : Laid v h w c N u.heap.size v.heap.size (u.alloc (.cells #[.int .i64 h, .int .i64 w, .int .i64 c, .slice (some ⟨v.heap.size, 0, none⟩) N N] 57)) := by
  have hs : v.heap.size + 1 ≤ u.heap.size := by have := hb.size; simpa using this
  have hrow : Row u v.heap.size (List.replicate N 0) := Bk.below (w := (v.alloc (.cells (madeCells #[.int .i64 0] N) 3)).drew) (madeRow v N) hb
  exact ⟨Bk.new u _ _, hrow.alloc _, (below_b hb).alloc (below_b hb).size _, by omega, by omega, by omega⟩
theorem laid4 (hb : Below (v.alloc (.cells #[.int .i64 0, .int .i64 0, .int .i64 0, .slice none 0 0] 57)).drew.heap.size (v.alloc (.cells #[.int .i64 0, .int .i64 0, .int .i64 0, .slice none 0 0] 57)).drew u) : Laid v h w c N v.heap.size u.heap.size (((((u.setCell ⟨v.heap.size, 0, none⟩ (.int .i64 h)).setCell ⟨v.heap.size, 1, none⟩ (.int .i64 w)).setCell ⟨v.heap.size, 2, none⟩ (.int .i64 c)).setCell ⟨v.heap.size, 3, none⟩ (.slice (some ⟨u.heap.size, 0, none⟩) N N)).alloc (.cells (madeCells #[.int .i64 0] N) 3)) := by
  have hs : v.heap.size + 1 ≤ u.heap.size := by have := hb.size; simpa using this
  have hk : Bk u v.heap.size 57 #[.int .i64 0, .int .i64 0, .int .i64 0, .slice none 0 0] := Bk.below (w := (v.alloc (.cells #[.int .i64 0, .int .i64 0, .int .i64 0, .slice none 0 0] 57)).drew) (Bk.new v _ _) hb
  refine ⟨hk.set4.alloc _, ?_, (below_set4 (below_b hb) (Nat.le_refl _) _ _ _ _).alloc (by simp only [World.size_setCell]; omega) _, by omega, by omega, by omega⟩
  have := madeRow ((((u.setCell ⟨v.heap.size, 0, none⟩ (.int .i64 h)).setCell ⟨v.heap.size, 1, none⟩ (.int .i64 w)).setCell ⟨v.heap.size, 2, none⟩ (.int .i64 c)).setCell ⟨v.heap.size, 3, none⟩ (.slice (some ⟨u.heap.size, 0, none⟩) N N)) N
  simpa using this
theorem laid5 (hb : Below ((v.alloc (.cells (madeCells #[.int .i64 0] N) 3)).alloc (.cells #[.int .i64 0, .int .i64 0, .int .i64 0, .slice none 0 0] 57)).drew.heap.size ((v.alloc (.cells (madeCells #[.int .i64 0] N) 3)).alloc (.cells #[.int .i64 0, .int .i64 0, .int .i64 0, .slice none 0 0] 57)).drew u) : Laid v h w c N (v.heap.size + 1) v.heap.size ((((u.setCell ⟨v.heap.size + 1, 0, none⟩ (.int .i64 h)).setCell ⟨v.heap.size + 1, 1, none⟩ (.int .i64 w)).setCell ⟨v.heap.size + 1, 2, none⟩ (.int .i64 c)).setCell ⟨v.heap.size + 1, 3, none⟩ (.slice (some ⟨v.heap.size, 0, none⟩) N N)) := by
  have hk0 := Bk.new (v.alloc (.cells (madeCells #[.int .i64 0] N) 3)) 57 #[.int .i64 0, .int .i64 0, .int .i64 0, .slice none 0 0]
  simp only [World.size_alloc] at hk0
  have hk : Bk u (v.heap.size + 1) 57 #[.int .i64 0, .int .i64 0, .int .i64 0, .slice none 0 0] := Bk.below (w := ((v.alloc (.cells (madeCells #[.int .i64 0] N) 3)).alloc (.cells #[.int .i64 0, .int .i64 0, .int .i64 0, .slice none 0 0] 57)).drew) hk0 hb
  have hrow : Row u v.heap.size (List.replicate N 0) := Bk.below (w := ((v.alloc (.cells (madeCells #[.int .i64 0] N) 3)).alloc (.cells #[.int .i64 0, .int .i64 0, .int .i64 0, .slice none 0 0] 57)).drew) ((madeRow v N).alloc _) hb
  exact ⟨hk.set4, hrow.far4 (by omega) _ _ _ _, below_set4 (below_c hb) (by omega) _ _ _ _, by omega, by omega, by omega⟩
theorem laid6 (hb : Below ((v.alloc (.cells #[.int .i64 0, .int .i64 0, .int .i64 0, .slice none 0 0] 57)).alloc (.cells (madeCells #[.int .i64 0] N) 3)).drew.heap.size ((v.alloc (.cells #[.int .i64 0, .int .i64 0, .int .i64 0, .slice none 0 0] 57)).alloc (.cells (madeCells #[.int .i64 0] N) 3)).drew u) : Laid v h w c N v.heap.size (v.heap.size + 1) ((((u.setCell ⟨v.heap.size, 0, none⟩ (.int .i64 h)).setCell ⟨v.heap.size, 1, none⟩ (.int .i64 w)).setCell ⟨v.heap.size, 2, none⟩ (.int .i64 c)).setCell ⟨v.heap.size, 3, none⟩ (.slice (some ⟨v.heap.size + 1, 0, none⟩) N N)) := by
  have hk : Bk u v.heap.size 57 #[.int .i64 0, .int .i64 0, .int .i64 0, .slice none 0 0] := Bk.below (w := ((v.alloc (.cells #[.int .i64 0, .int .i64 0, .int .i64 0, .slice none 0 0] 57)).alloc (.cells (madeCells #[.int .i64 0] N) 3)).drew) ((Bk.new v _ _).alloc _) hb
  have hr0 := madeRow (v.alloc (.cells #[.int .i64 0, .int .i64 0, .int .i64 0, .slice none 0 0] 57)) N
  simp only [World.size_alloc] at hr0
  have hrow : Row u (v.heap.size + 1) (List.replicate N 0) := Bk.below (w := ((v.alloc (.cells #[.int .i64 0, .int .i64 0, .int .i64 0, .slice none 0 0] 57)).alloc (.cells (madeCells #[.int .i64 0] N) 3)).drew) hr0 hb
  exact ⟨hk.set4, hrow.far4 (by omega) _ _ _ _, below_set4 (below_c hb) (Nat.le_refl _) _ _ _ _, by omega, by omega, by omega⟩
theorem zed_b (hb : Below (v.alloc (.cells #[.int .i64 0, .int .i64 0, .int .i64 0, .slice none 0 0] 57)).drew.heap.size (v.alloc (.cells #[.int .i64 0, .int .i64 0, .int .i64 0, .slice none 0 0] 57)).drew u) : u.cell? ⟨v.heap.size, 0, none⟩ = some (.int .i64 0) ∧ u.cell? ⟨v.heap.size, 1, none⟩ = some (.int .i64 0) ∧ u.cell? ⟨v.heap.size, 2, none⟩ = some (.int .i64 0) ∧ u.cell? ⟨v.heap.size, 3, none⟩ = some (.slice none 0 0) ∧ u.frozen? ⟨v.heap.size, 0, none⟩ = false ∧ u.frozen? ⟨v.heap.size, 1, none⟩ = false ∧ u.frozen? ⟨v.heap.size, 2, none⟩ = false ∧ u.frozen? ⟨v.heap.size, 3, none⟩ = false ∧ v.heap.size < u.heap.size := by
  have hk : Bk u v.heap.size 57 #[.int .i64 0, .int .i64 0, .int .i64 0, .slice none 0 0] := Bk.below (w := (v.alloc (.cells #[.int .i64 0, .int .i64 0, .int .i64 0, .slice none 0 0] 57)).drew) (Bk.new v _ _) hb
  exact ⟨hk.cell 0 rfl, hk.cell 1 rfl, hk.cell 2 rfl, hk.cell 3 rfl, hk.frozen 0, hk.frozen 1, hk.frozen 2, hk.frozen 3, hk.lt⟩
theorem zed_c (hb : Below ((v.alloc (.cells (madeCells #[.int .i64 0] N) 3)).alloc (.cells #[.int .i64 0, .int .i64 0, .int .i64 0, .slice none 0 0] 57)).drew.heap.size ((v.alloc (.cells (madeCells #[.int .i64 0] N) 3)).alloc (.cells #[.int .i64 0, .int .i64 0, .int .i64 0, .slice none 0 0] 57)).drew u) : u.cell? ⟨v.heap.size + 1, 0, none⟩ = some (.int .i64 0) ∧ u.cell? ⟨v.heap.size + 1, 1, none⟩ = some (.int .i64 0) ∧ u.cell? ⟨v.heap.size + 1, 2, none⟩ = some (.int .i64 0) ∧ u.cell? ⟨v.heap.size + 1, 3, none⟩ = some (.slice none 0 0) ∧ u.frozen? ⟨v.heap.size + 1, 0, none⟩ = false ∧ u.frozen? ⟨v.heap.size + 1, 1, none⟩ = false ∧ u.frozen? ⟨v.heap.size + 1, 2, none⟩ = false ∧ u.frozen? ⟨v.heap.size + 1, 3, none⟩ = false := by
  have hk0 := Bk.new (v.alloc (.cells (madeCells #[.int .i64 0] N) 3)) 57 #[.int .i64 0, .int .i64 0, .int .i64 0, .slice none 0 0]
  simp only [World.size_alloc] at hk0
  have hk : Bk u (v.heap.size + 1) 57 #[.int .i64 0, .int .i64 0, .int .i64 0, .slice none 0 0] := Bk.below (w := ((v.alloc (.cells (madeCells #[.int .i64 0] N) 3)).alloc (.cells #[.int .i64 0, .int .i64 0, .int .i64 0, .slice none 0 0] 57)).drew) hk0 hb
  exact ⟨hk.cell 0 rfl, hk.cell 1 rfl, hk.cell 2 rfl, hk.cell 3 rfl, hk.frozen 0, hk.frozen 1, hk.frozen 2, hk.frozen 3⟩
theorem zed_d (hb : Below ((v.alloc (.cells #[.int .i64 0, .int .i64 0, .int .i64 0, .slice none 0 0] 57)).alloc (.cells (madeCells #[.int .i64 0] N) 3)).drew.heap.size ((v.alloc (.cells #[.int .i64 0, .int .i64 0, .int .i64 0, .slice none 0 0] 57)).alloc (.cells (madeCells #[.int .i64 0] N) 3)).drew u) : u.cell? ⟨v.heap.size, 0, none⟩ = some (.int .i64 0) ∧ u.cell? ⟨v.heap.size, 1, none⟩ = some (.int .i64 0) ∧ u.cell? ⟨v.heap.size, 2, none⟩ = some (.int .i64 0) ∧ u.cell? ⟨v.heap.size, 3, none⟩ = some (.slice none 0 0) ∧ u.frozen? ⟨v.heap.size, 0, none⟩ = false ∧ u.frozen? ⟨v.heap.size, 1, none⟩ = false ∧ u.frozen? ⟨v.heap.size, 2, none⟩ = false ∧ u.frozen? ⟨v.heap.size, 3, none⟩ = false := by
  have hk : Bk u v.heap.size 57 #[.int .i64 0, .int .i64 0, .int .i64 0, .slice none 0 0] := Bk.below (w := ((v.alloc (.cells #[.int .i64 0, .int .i64 0, .int .i64 0, .slice none 0 0] 57)).alloc (.cells (madeCells #[.int .i64 0] N) 3)).drew) ((Bk.new v _ _).alloc _) hb
  exact ⟨hk.cell 0 rfl, hk.cell 1 rfl, hk.cell 2 rfl, hk.cell 3 rfl, hk.frozen 0, hk.frozen 1, hk.frozen 2, hk.frozen 3⟩
theorem Laid.below {g3 gr : Nat} {wx : World} (hl : Laid v h w c N g3 gr wx) : Below v.heap.size v wx := hl.2.2.1
theorem below_1 (o : Obj) : Below v.heap.size v (v.alloc o).drew := ((Below.refl _ v).alloc (Nat.le_refl _) o).drew
theorem below_2 (o o' : Obj) : Below v.heap.size v ((v.alloc o).alloc o').drew := (((Below.refl _ v).alloc (Nat.le_refl _) o).alloc (by simp) o').drew
theorem below_3 (h : Below v.heap.size v u) (o : Obj) : Below v.heap.size v (u.alloc o) := h.alloc h.size o
theorem below_4 (h : Below v.heap.size v u) (o o' : Obj) : Below v.heap.size v ((u.alloc o).alloc o') := below_3 (below_3 h o) o'
theorem keepv {g : Nat} {x y z t : Value} (hb : Below v.heap.size v u) (h0 : v.cell? ⟨g, 0, none⟩ = some x) (h1 : v.cell? ⟨g, 1, none⟩ = some y) (h2 : v.cell? ⟨g, 2, none⟩ = some z) (h3 : v.cell? ⟨g, 3, none⟩ = some t) :
    u.cell? ⟨g, 0, none⟩ = some x ∧ u.cell? ⟨g, 1, none⟩ = some y ∧ u.cell? ⟨g, 2, none⟩ = some z ∧ u.cell? ⟨g, 3, none⟩ = some t := ⟨keep hb h0, keep hb h1, keep hb h2, keep hb h3⟩
end

set_option maxHeartbeats 1000000 in
/-- A new tensor whose numbers stand in a row of its own. -/
def NewTR (W : World) (h w c : Int) (n : Nat) (xs : List Int) (e : Ending) (W' : World) : Prop :=
  ∃ g, e = .returned (.agg #[.int .i64 h, .int .i64 w, .int .i64 c, .slice (some ⟨g, 0, none⟩) n n]) ∧ W.heap.size ≤ g ∧ Row W' g xs ∧ Below W.heap.size W W'
end Qt
end Go.Proofs.Ytalkoaahhkafaaa
