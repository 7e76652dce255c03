/- slices.Sorted of maps.Keys at a map of tasks by their Ids: the shelf's contracts laid at this program. Conditions: the map is one of the call's own or of the input, no larger than the model's bounds. -/
import Derived.Test.YtihnpfcjnfkfjaaQSchC
import Derived.Shelf.SlIterI.Nil
import Derived.Shelf.SortM.Plain
import Derived.Shelf.SortM.SortNone
import Derived.Ground.GgzProg
import Derived.Ground.SlgmProg
import Derived.Shelf.AbstractIn
namespace Go.Proofs.Ytihnpfcjnfkfjaa
open Go.RowKit Go.Maps Go.Sort Go.Shelf
shelf_lay_g SlLaysZI.n7 Ggz 7 at Try 78 as Try.keysA
shelf_lay_g SlLaysZI.n6 Ggz 6 at Try 77 as Try.sortedA
shelf_lay_g SlLaysM.n5 Slgm 5 at Try 88 as Try.sortA
namespace Qt
/-- slices.Sort's two contracts, at the fence that asks nothing. -/
theorem sortsA (m : Nat) : AnyZI.SortsIn Try.prog Try.sortedA_ren Fence.wide m :=
  ⟨fun blk off cap ss W hH hblk hsz => callsIn_wide.2 (AnyM.slices_Sort_int Try.sortA blk off cap ss W hH hblk hsz),
   fun p cap W => callsIn_wide.2 (AnyM.slices_Sort_int_none Try.sortA p cap W)⟩
theorem keysC (mb : Option Nat) (W : World) :
    Calls Try.prog 78 #[.map mb] W fun e w' => e = .returned (.func (.func 89) #[] #[.pointer (some ⟨W.heap.size, 0, none⟩)]) ∧ w' = W.alloc (.cells #[.map mb] 56) :=
  (callsIn_wide (n := 5)).1 (AnyZI.keys_in Try.keysA Fence.wide 5 trivial rfl mb W)
theorem sortedC {b nn : Nat} {D0 : DataW Value} {w : World} (hown : w.ownsMap Try.prog 3 asV b nn D0) (hmax : Maps.size D0 ≤ maxLen) (hbytes : Maps.size D0 * 8 ≤ 140737488355328) :
    Calls Try.prog 77 #[.func (.func 89) #[] #[.pointer (some ⟨w.heap.size, 0, none⟩)]] (w.alloc (.cells #[.map (some b)] 56)) fun e w' => ∃ (v : Value) (ss : List Int), e = .returned v ∧ ss.Perm (intKeys D0) ∧
      w'.ownsRow (w.heap.size + 1) 3 1 v ss.length ((ss.mergeSort (fun x y => decide (x ≤ y))).map encZ) ∧ (v = .slice none 0 0 ↔ ss = []) ∧ Below (w.heap.size + 1) (w.alloc (.cells #[.map (some b)] 56)) w' := by
  refine (callsIn_wide (n := 5)).1 ?_
  have hbl := hown.lt
  have hseq : SeqGives Fence.wide 2 Try.prog 89 #[.pointer (some ⟨w.heap.size, 0, none⟩)] encZ (fun ss => ss.Perm (intKeys D0)) (Maps.size D0) (w.alloc (.cells #[.map (some b)] 56)) :=
    AnyZI.keys_gives (ρ := Try.keysA_ren) { Try.keysA with } Fence.wide _ trivial rfl (by omega) w.heap.size b nn D0 _ (by simp) (by simp) (by
      obtain ⟨es, clock, hb, Ft, hs, hD⟩ := hown
      exact ⟨es, clock, (Below.heap_alloc _ _ b hbl).trans hb, Ft, hs, hD⟩)
  have cS := AnyZI.sorted_in Try.sortedA Fence.wide 5 trivial trivial trivial trivial rfl (by omega) (sortsA _) (enters_of Try.func88 (by kernel_rfl) rfl) 89 #[.pointer (some ⟨w.heap.size, 0, none⟩)] trivial (enters_of Try.func89 (by kernel_rfl) rfl) _ _ hmax hbytes _ hseq
  change CallsIn _ _ Try.prog 77 _ _ _ at cS
  refine cS.mono ?_
  rintro e w' ⟨v, ss, rfl, hS, hrow, hnil, hb⟩
  refine ⟨v, ss, rfl, hS, ?_, hnil, ?_⟩
  · rw [World.size_alloc] at hrow; exact hrow
  · simpa using hb
/-- .. at the nil map: nil. -/
theorem nilC (w : World) : Calls Try.prog 77 #[.func (.func 89) #[] #[.pointer (some ⟨w.heap.size, 0, none⟩)]] (w.alloc (.cells #[.map none] 56)) fun e w' => e = .returned (.slice none 0 0) ∧ Below (w.heap.size + 1) (w.alloc (.cells #[.map none] 56)) w' := by
  refine (callsIn_wide (n := 5)).1 ?_
  have hseq : SeqGives Fence.wide 2 Try.prog 89 #[.pointer (some ⟨w.heap.size, 0, none⟩)] encZ (fun ss : List Int => ss = []) 0 (w.alloc (.cells #[.map none] 56)) :=
    AnyZI.keys_gives_nil (ρ := Try.keysA_ren) { Try.keysA with } Fence.wide _ trivial rfl w.heap.size _ (by simp) (by simp)
  have cS := AnyZI.sorted_in Try.sortedA Fence.wide 5 trivial trivial trivial trivial rfl (by omega) (sortsA _) (enters_of Try.func88 (by kernel_rfl) rfl) 89 #[.pointer (some ⟨w.heap.size, 0, none⟩)] trivial (enters_of Try.func89 (by kernel_rfl) rfl) _ 0 (Nat.zero_le _) (by omega) _ hseq
  change CallsIn _ _ Try.prog 77 _ _ _ at cS
  refine cS.mono ?_
  rintro e w' ⟨v, ss, rfl, rfl, hrow, hnil, hb⟩
  obtain rfl : v = .slice none 0 0 := hnil.2 rfl
  exact ⟨rfl, by simpa using hb⟩
/-- A list that rises is sorted. -/
theorem sort_rise {ss : List Tsk} (hp : ss.Pairwise (fun s t => s.ti < t.ti)) {ids : List Int} (h : ids.Perm (ss.map Tsk.ti)) : ids.mergeSort (fun x y => decide (x ≤ y)) = ss.map Tsk.ti := by
  have e := mergeSort_of_perm_i h
  rw [show (leI : Int → Int → Bool) = (fun x y => decide (x ≤ y)) from rfl] at e
  rw [e]
  apply List.mergeSort_of_pairwise
  rw [List.pairwise_map]
  exact hp.imp (fun h => by simp; omega)
/-- The keys of the roster's map are the Ids. -/
theorem keys_ids {ss : List Tsk} {w w0 : World} {es : List (Int × Value)} {b n : Nat} (hm : w.ownsMap Try.prog 3 asV b n (mapOf es)) (he : Ent w0 ss es) (hd : ss.Pairwise (fun s t => s.ti < t.ti)) : (ss.map Tsk.ti).Perm (intKeys (mapOf es)) := by
  refine CollectedI.perm (left := fun _ => false) ⟨?_, fun x => ⟨fun hx => ⟨?_, rfl⟩, fun h => ?_⟩⟩ hm keyI Try.underlying3 (fun _ => rfl)
  · rw [List.nodup_iff_pairwise_ne, List.pairwise_map]
    exact hd.imp (fun h => by omega)
  · obtain ⟨t, ht, rfl⟩ := List.mem_map.1 hx
    obtain ⟨i, hi, e⟩ := List.getElem_of_mem ht
    have hi' : ss[i]? = some t := by rw [List.getElem?_eq_getElem hi, e]
    obtain ⟨P, hes, _⟩ := he.2 i t hi'
    exact (mapOf_hit (he.apart hd) (List.mem_of_getElem? hes)).1
  · apply Classical.byContradiction
    intro hno
    have := (mapOf_miss (es := es) (id := x) (fun p hp e => hno (by obtain ⟨t, ht, h2⟩ := he.mem hp; exact List.mem_map.2 ⟨t, ht, by rw [← e]; exact h2.symm⟩))).1
    rw [h.1] at this
    cases this
/-- What the sorted keys of the roster's map are: the Ids as they rise, in a slice of the call's own. -/
theorem idsC {b n : Nat} {ss : List Tsk} {es : List (Int × Value)} {w w0 : World} (hm : w.ownsMap Try.prog 3 asV b n (mapOf es)) (he : Ent w0 ss es) (hd : ss.Pairwise (fun s t => s.ti < t.ti)) (hn : n ≤ 1000) :
    Calls Try.prog 77 #[.func (.func 89) #[] #[.pointer (some ⟨w.heap.size, 0, none⟩)]] (w.alloc (.cells #[.map (some b)] 56)) fun e w' => ∃ v : Value, e = .returned v ∧
      w'.ownsRow (w.heap.size + 1) 3 1 v ss.length ((ss.map Tsk.ti).map (Value.int .i64)) ∧ Below (w.heap.size + 1) (w.alloc (.cells #[.map (some b)] 56)) w' := by
  have hsz := hm.size_le
  refine (sortedC hm (by unfold maxLen; omega) (by omega)).mono ?_
  rintro e w' ⟨v, ids, rfl, hS, hrow, _, hb⟩
  have hp := (hS.trans (keys_ids hm he hd).symm)
  rw [sort_rise hd hp, hp.length_eq, List.length_map] at hrow
  exact ⟨v, rfl, hrow, hb⟩
end Qt
end Go.Proofs.Ytihnpfcjnfkfjaa
