/-
  The library's Sort, Compact, Contains at rows of the call's own.
-/
import Derived.Test.YtnggajehngemmaaGreatDoorApp
import Derived.Test.YtnggajehngemmaaGreatDoorShelf
import Derived.Sort.OwnSortedInts
import Derived.Laws.StructEq
import Derived.Test.YtnggajehngemmaaGreatDoorR6
import Derived.Lib.SlicesCompact
import Derived.Test.YtnggajehngemmaaGreatDoorLf
namespace Go.Proofs.YtnggajehngemmaaGreatDoor
open Go.RowKit Go.Sort Go.Shelf Go.Lib
theorem sort_own {w : World} {base : Nat} {v : Value} {L : List Int} (h : OwnI w base v L) (hl : L.length ≤ 1000000) :
    Calls Tryz.prog 50 #[v] w fun e w' => e = .returned (.tuple #[]) ∧ OwnI w' base v (L.mergeSort fun x y => decide (x ≤ y)) ∧ ∀ B b, B ≤ base → Exc B b w w' := by
  have hlen : (L.mergeSort fun x y => decide (x ≤ y)).length = L.length := List.length_mergeSort _
  rcases h.2 with ⟨rfl, hn⟩ | ⟨g, cap, cur, rfl, hb, hg, h1, h2, h3, h4⟩
  · obtain rfl : L = [] := List.eq_nil_of_length_eq_zero hn
    refine (Tryz.slices_Sort_int_none none 0 w).mono ?_
    rintro e w' ⟨rfl, rfl⟩
    exact ⟨rfl, by simpa using OwnI.nil _ base, fun B b _ => Exc.refl _ _ _⟩
  · have hH := holds_of_blockI (ss := L) hg (by simpa using h4)
    refine (Tryz.slices_Sort_int g 0 cap L w hH (Array.getElem?_eq_some_iff.1 hg).1 (by omega)).mono ?_
    rintro e w' ⟨rfl, n, os, rfl⟩
    refine ⟨rfl, ?_, fun B b hB => exc_grown (v := .slice (some ⟨g, 0, none⟩) L.length cap) (grownBy_sortedI _) (fun g' hg' => by cases hg'; exact Nat.le_trans hB hb) (by have := (Array.getElem?_eq_some_iff.1 hg).1; omega)⟩
    unfold OwnI
    rw [hlen]
    exact ownsRow_sortedI hlen hb hg h1 h2 h3
theorem compact_own {w : World} {base : Nat} {v : Value} {L : List Int} (h : OwnI w base v L) (hl : L.length ≤ 1000000) :
    Calls Tryz.prog 51 #[v] w fun e w' => ∃ v', e = .returned v' ∧ OwnI w' base v' (Lib.compact L) ∧ ∀ B b, B ≤ base → Exc B b w w' := by
  rcases h.2 with ⟨rfl, hn⟩ | ⟨g, cap, cur, rfl, hb, hg, h1, h2, h3, h4⟩
  · obtain rfl : L = [] := List.eq_nil_of_length_eq_zero hn
    refine (Tryz.slices_Compact_int_empty none 0 w).mono ?_
    rintro e w' ⟨rfl, rfl⟩
    exact ⟨_, rfl, OwnI.nil _ base, fun B b _ => Exc.refl _ _ _⟩
  · have hH := holds_of_blockI (ss := L) hg (by simpa using h4)
    have hle := Lib.compact_length_le L
    refine (Tryz.slices_Compact_int g 0 cap L w hH (by omega) h1).mono ?_
    rintro e w' ⟨rfl, n, rfl⟩
    have hts : (Lib.compact L ++ List.replicate (L.length - (Lib.compact L).length) 0).length = L.length := by simp; omega
    have gb := grownBy_sortedI (w := w) (g := g) (n := n) (os := #[]) (Lib.compact L ++ List.replicate (L.length - (Lib.compact L).length) 0).toArray
    have hp := heap_sortedI (n := n) (os := #[]) (Lib.compact L ++ List.replicate (L.length - (Lib.compact L).length) 0).toArray hg
    rw [grow_empty] at gb hp
    refine ⟨_, rfl, ⟨by simp, .inr ⟨g, cap, _, rfl, hb, hp, by omega, h2, by simp [putCells, h3], ?_⟩⟩, fun B b hB => exc_grown (v := .slice (some ⟨g, 0, none⟩) L.length cap) gb (fun g' hg' => by cases hg'; exact Nat.le_trans hB hb) (by have := (Array.getElem?_eq_some_iff.1 hg).1; omega)⟩
    have ht := take_putCellsI cur (Lib.compact L ++ List.replicate (L.length - (Lib.compact L).length) 0) (by rw [hts]; omega)
    have ht2 := congrArg (List.take (Lib.compact L).length) ht
    rw [List.take_take, hts, Nat.min_eq_left hle, List.map_append] at ht2
    rw [Nat.mul_one, ht2]
    simp
theorem contains_own {w : World} {base : Nat} {v : Value} {L : List Int} (x : Int) (h : OwnI w base v L) (hl : L.length ≤ 1000000) :
    Calls Tryz.prog 20 #[v, .int .i64 x] w fun e w' => e = .returned (.bool (L.contains x)) ∧ w' = w := by
  rcases h.2 with ⟨rfl, hn⟩ | ⟨g, cap, cur, rfl, hb, hg, h1, h2, h3, h4⟩
  · obtain rfl : L = [] := List.eq_nil_of_length_eq_zero hn
    exact Tryz.slices_Contains_int_empty none 0 x w
  · have hH := holds_of_blockI (ss := L) hg (by simpa using h4)
    have := Tryz.slices_Contains_int g 0 L.length cap L x w (Nat.le_refl _) (by omega) (fun j hj => by
      have := (hH j (by simpa using hj)).1
      rw [this]
      simp [hj])
    rwa [List.take_length] at this
def encN (x : Int × Int) : List Value := [.int .i64 x.1, .int .i64 x.2]
theorem eqN : EqlAt Tryz.prog 51 (fun x => .agg (encN x).toArray) (fun x y => x.1 == y.1 && x.2 == y.2) := by
  refine ⟨fun x y w => ?_, GuardAt.agg _ (by kernel_rfl)⟩
  have u3 := Tryz.underlying3
  have a3 := Tryz.isAgg3
  have z3 := Tryz.sizeOf3
  have hS : Tryz.prog.underlying 51 = some (.struct (Tryz.prog.fieldsOf 51)) := by kernel_rfl
  have hp : Tryz.prog.stoodInHeld 51 = false := by kernel_rfl
  simp only [encN]
  rw [run_eql_struct, show (10000 : Nat) = 9999 + 1 from rfl, run_equalIn_agg w 9999 51 _ _ hS hp]
  simp only [Program.fieldsOf, Tryz.underlying51]
  go_simp
  by_cases h1 : x.fst = y.fst <;> by_cases h2 : x.snd = y.snd <;> simp [h1, h2]
end Go.Proofs.YtnggajehngemmaaGreatDoor
/-
  Weekdays in rows of the call's own: the library's Contains and SortFunc (with the law's closure).
-/
namespace Go.Proofs.YtnggajehngemmaaGreatDoor
open Go.RowKit Go.Sort Go.Shelf Go.Lib
/-- a weekday as the law makes it -/
abbrev Wk : Type := { p : Int × Int // -53 ≤ p.1 ∧ p.1 ≤ 53 ∧ 0 ≤ p.2 ∧ p.2 ≤ 6 }
instance : Inhabited Wk := ⟨⟨(0, 0), by decide⟩⟩
def encW (x : Wk) : List Value := encN x.1
def cfW (x y : Wk) : Int := (x.1.1 - y.1.1) * 100 + x.1.2 - y.1.2
theorem ltW (x y : Wk) : ltOf cfW x y = decide (x.1.1 < y.1.1 ∨ (x.1.1 = y.1.1 ∧ x.1.2 < y.1.2)) := by
  have hx := x.2
  have hy := y.2
  rw [Bool.eq_iff_iff]
  simp only [ltOf, decide_eq_true_eq]
  unfold cfW
  omega
theorem swoW : SWO (ltOf cfW) where
  irrefl x := by rw [ltW]; simp
  trans x y z h1 h2 := by rw [ltW] at *; simp only [decide_eq_true_eq] at *; omega
  ntrans x y z h1 h2 := by rw [ltW] at *; simp only [decide_eq_false_iff_not] at *; omega
theorem totW (x y : Wk) (h1 : ltOf cfW x y = false) (h2 : ltOf cfW y x = false) : x = y := by
  rw [ltW] at h1 h2
  simp only [decide_eq_false_iff_not] at h1 h2
  obtain ⟨⟨a, b⟩, hx⟩ := x
  obtain ⟨⟨c, d⟩, hy⟩ := y
  simp only at h1 h2
  have e1 : a = c := by omega
  have e2 : b = d := by omega
  subst e1
  subst e2
  rfl
set_option maxHeartbeats 1000000 in
theorem closureW (x y : Wk) (W : World) : Calls Tryz.prog 54 #[.agg #[.int .i64 x.1.1, .int .i64 x.1.2], .agg #[.int .i64 y.1.1, .int .i64 y.1.2]] W fun e w' => e = .returned (.int .i64 (cfW x y)) ∧ ∃ q os', w' = grow (W.drewN q) os' := by
  obtain ⟨⟨a, b⟩, hx⟩ := x
  obtain ⟨⟨c, d⟩, hy⟩ := y
  simp only [cfW]
  simp only at hx hy
  obtain ⟨x1, x2, x3, x4⟩ := hx
  obtain ⟨y1, y2, y3, y4⟩ := hy
  go_enter Tryz.func54, Tryz.ntmps54
  go_wp2
  go_ret
  exact ⟨rfl, 0, _, by rw [alloc_eq_grow, alloc_eq_grow, grow_grow]; rfl⟩
theorem flat_len (L : List (Int × Int)) : (L.flatMap fun x => [Value.int .i64 x.1, .int .i64 x.2]).length = L.length * 2 := by
  induction L with
  | nil => rfl
  | cons x L ih => rw [List.flatMap_cons, List.length_append, ih]; simp; omega
theorem flat_at (L : List Wk) : (flatK encW 2 L.toArray).toList = (L.map (·.1)).flatMap fun x => [Value.int .i64 x.1, .int .i64 x.2] := by
  have hlen : ((L.map (·.1)).flatMap fun x => [Value.int .i64 x.1, .int .i64 x.2]).length = L.length * 2 := by
    rw [flat_len]
    simp
  apply List.ext_getElem
  · simp [hlen]
  · intro t h1 h2
    have ht : t < L.length * 2 := by simpa using h1
    obtain ⟨f1, f2⟩ := flat_get (L := L.map (·.1)) (t / 2) (by simp; omega)
    rw [List.getElem?_eq_getElem (by rw [hlen]; omega)] at f1 
    have e : (flatK encW 2 L.toArray)[t]! = (encW L.toArray[t / 2]!)[t % 2]! := get_flatK encW 2 L.toArray t (by simpa using ht)
    have el : L.toArray[t / 2]! = L[t / 2]'(by omega) := by
      rw [getElem!_pos _ _ (by simp; omega)]
      simp
    rw [getElem!_pos _ _ (by simpa using h1), el] at e
    rw [Array.getElem_toList, e]
    rcases Nat.mod_two_eq_zero_or_one t with hm | hm
    · rw [hm]
      have et : t = t / 2 * 2 := by omega
      have := Option.some.inj f1
      simp only [← et] at this
      rw [this]
      simp [encW, encN]
    · rw [hm]
      have et : t = t / 2 * 2 + 1 := by omega
      rw [List.getElem?_eq_getElem (by rw [hlen]; omega)] at f2
      have := Option.some.inj f2
      simp only [← et] at this
      rw [this]
      simp [encW, encN]
theorem heap_put {w : World} {g n : Nat} {os : Array Obj} {cur : Array Value} {e : TypeId} {fr : Nat × Nat} (d : Array Value) (hb : w.heap[g]? = some (.cells cur e fr)) :
    (grow (putRow id (Sort.ahead w n) g 0 d) os).heap[g]? = some (.cells (putCells id 0 d cur) e fr) := by
  have hg : g < w.heap.size := (Array.getElem?_eq_some_iff.1 hb).1
  rw [heap_grow_old _ _ (by simpa using hg)]
  simp [putRow, mapBlock, Sort.ahead, Array.getElem?_modify, hb, onCells]
theorem grown_put {w : World} {g n : Nat} {os : Array Obj} (d : Array Value) : w.grownBy (grow (putRow id (Sort.ahead w n) g 0 d) os) (some g) := by
  refine ⟨rfl, rfl, rfl, by simp, fun k hk hne => ?_⟩
  rw [heap_grow_old _ _ (by simpa using hk)]
  have : g ≠ k := fun e => hne (by rw [e])
  simp [putRow, mapBlock, Sort.ahead, Array.getElem?_modify, this]
theorem take_put (cur F : Array Value) (h : F.size ≤ cur.size) : (putCells id 0 F cur).toList.take F.size = F.toList := by
  apply List.ext_getElem?
  intro j
  by_cases hj : j < F.size
  · rw [List.getElem?_take_of_lt hj, Array.getElem?_toList]
    simp [putCells, hj, show j < cur.size by omega]
  · rw [List.getElem?_take_eq_none (by omega), List.getElem?_eq_none (by simp; omega)]
theorem sortW_own {w : World} {base : Nat} {v : Value} {L : List Wk} (h : OwnN w base v (L.map (·.1))) (hl : L.length ≤ 1000000) :
    Calls Tryz.prog 53 #[v, .func (.func 54) #[] #[]] w fun e w' => e = .returned (.tuple #[]) ∧ OwnN w' base v ((L.mergeSort fun x y => !ltOf cfW y x).map (·.1)) ∧ ∀ B b, B ≤ base → Exc B b w w' := by
  have hlen : (L.mergeSort fun x y => !ltOf cfW y x).length = L.length := List.length_mergeSort _
  rcases h.2 with ⟨rfl, hn⟩ | ⟨g, cap, cur, rfl, hb, hg, h1, h2, h3, h4⟩
  · obtain rfl : L = [] := List.eq_nil_of_length_eq_zero (by simpa using hn)
    have hc := AnyF.slices_SortFunc_none (P := Tryz.prog) Tryz.sortN none 0 (.func (.func 54) #[] #[]) w
    change Calls Tryz.prog 53 _ _ _ at hc
    refine hc.mono ?_
    rintro e w' ⟨rfl, rfl⟩
    exact ⟨rfl, by simpa using OwnN.nil _ base, fun B b _ => Exc.refl _ _ _⟩
  · have hsz : L.toArray.size = L.length := by simp
    simp only [List.length_map] at h1 h4 ⊢
    have hH : HoldsK encW 2 w g 0 L.toArray := by
      intro j hj
      have hB : Blk w g _ cur := hg
      have hj' : j < L.length * 2 := by simpa using hj
      refine ⟨?_, hB.frozen _⟩
      rw [Nat.zero_add, hB.cell j, ← Array.getElem?_toList]
      have : (cur.toList.take (L.length * 2))[j]? = (flatK encW 2 L.toArray).toList[j]? := by rw [h4, flat_at]
      rw [List.getElem?_take_of_lt hj'] at this
      rw [this, Array.getElem?_toList, Array.getElem?_eq_getElem hj, getElem!_pos (flatK encW 2 L.toArray) j hj]
      rfl
    have eg : ∀ args w, (callFunc 54 args).run Tryz.prog w = .ok (.enter 54 args) w := enters_of Tryz.func54 (by kernel_rfl) rfl
    have hc := AnyQ.slices_SortFunc_total Tryz.sortN 2 Tryz.isAgg51 Tryz.sizeOf51 encW (fun _ => rfl) (fun x v hv => by simp [encW, encN] at hv; rcases hv with rfl | rfl <;> rfl) cfW swoW 54 #[] g 0 cap L.toArray w eg (fun _ _ _ _ x y => closureW x y _) hH (Array.getElem?_eq_some_iff.1 hg).1 (by rw [hsz]; omega) totW
    change Calls Tryz.prog 53 _ _ _ at hc
    rw [hsz] at hc
    refine hc.mono ?_
    rintro e w' ⟨rfl, n, os, rfl⟩
    refine ⟨rfl, ?_, fun B b hB => exc_grown (v := .slice (some ⟨g, 0, none⟩) L.length cap) (grown_put _) (fun g' hg' => by cases hg'; exact Nat.le_trans hB hb) (by have := (Array.getElem?_eq_some_iff.1 hg).1; omega)⟩
    refine ⟨by rw [flat_len], .inr ⟨g, cap, _, by simp, hb, heap_put _ hg, by simpa using h1, h2, by simp [putCells, h3], ?_⟩⟩
    have ht := take_put cur (flatK encW 2 (L.mergeSort fun x y => !ltOf cfW y x).toArray) (by simp; omega)
    rw [flat_at] at ht
    simpa using ht
theorem indexN_nil (x y : Int) (c : Nat) (w : World) : Calls Tryz.prog 58 #[.slice none 0 c, .agg #[.int .i64 x, .int .i64 y]] w fun e w' => e = .returned (.int .i64 (-1)) ∧ Below w.heap.size w w' := by
  go_enter Tryz.func58, Tryz.ntmps58
  go_wp2_with fail
  go_loop [8] (fun k => k = .int .i64 0) (fun _ => 0)
  case atStart => rfl
  case round =>
    subst hrel
    go_wp2
    go_ret
    exact ⟨rfl, (Below.refl _ _).alloc (Nat.le_refl _) _⟩
theorem containsN_nil (x y : Int) (c : Nat) (w : World) : Calls Tryz.prog 36 #[.slice none 0 c, .agg #[.int .i64 x, .int .i64 y]] w fun e w' => e = .returned (.bool false) ∧ Below w.heap.size w w' := by
  have hB : ∀ o, Below w.heap.size w (w.alloc o) := fun o => (Below.refl _ _).alloc (Nat.le_refl _) _
  go_enter Tryz.func36, Tryz.ntmps36
  go_wp2_with fail
  refine (indexN_nil _ _ _ _).mono ?_
  rintro e w' ⟨rfl, b⟩
  go_wp2
  go_ret
  exact ⟨rfl, (hB _).trans (b.mono (hB _).size)⟩
theorem containsW_own {w : World} {base : Nat} {v : Value} {L : List (Int × Int)} (x : Int × Int) (h : OwnN w base v L) (hl : L.length ≤ 1000000) :
    Calls Tryz.prog 36 #[v, .agg #[.int .i64 x.1, .int .i64 x.2]] w fun e w' => e = .returned (.bool (L.contains x)) ∧ Below w.heap.size w w' := by
  rcases h.2 with ⟨rfl, hn⟩ | ⟨g, cap, cur, rfl, hb, hg, h1, h2, h3, h4⟩
  · obtain rfl : L = [] := List.eq_nil_of_length_eq_zero hn
    exact containsN_nil x.1 x.2 0 w
  · have hc := AnyQ.slices_Contains Tryz.containsN 2 Tryz.isAgg51 Tryz.sizeOf51 encN (fun _ => rfl) (fun x y => x.1 == y.1 && x.2 == y.2) eqN g 0 L.length cap L x w (Nat.le_refl _) (by omega)
      (fun j hj i v hv => by
        have hB : Blk w g _ cur := hg
        obtain ⟨f1, f2⟩ := flat_get (L := L) j hj
        rw [← h4, List.getElem?_take_of_lt (by omega)] at f1 f2
        have ej : L[j]! = L[j] := getElem!_pos L j hj
        rw [ej] at hv
        match i with
        | 0 => obtain rfl : Value.int .i64 L[j].1 = v := by simpa [encN] using hv
               rw [hB.cell, show 0 + j * 2 + 0 = j * 2 by omega, ← Array.getElem?_toList]
               exact f1
        | 1 => obtain rfl : Value.int .i64 L[j].2 = v := by simpa [encN] using hv
               rw [hB.cell, show 0 + j * 2 + 1 = j * 2 + 1 by omega, ← Array.getElem?_toList]
               exact f2
        | i + 2 => simp [encN] at hv)
    change Calls Tryz.prog 36 _ _ _ at hc
    rw [List.take_length] at hc
    have e : (L.any fun y => x.1 == y.1 && x.2 == y.2) = L.contains x := by
      rw [List.contains_eq_any_beq]
      rfl
    rw [e] at hc
    exact hc
end Go.Proofs.YtnggajehngemmaaGreatDoor
/-
  What the law's Make makes, as plain functions.
-/
namespace Go.Proofs.YtnggajehngemmaaGreatDoor.Mk
open Go.RowKit Go.Sort
/-- one number more, unless it is 0 or there already -/
def put (out : List Int) (k : Int) : List Int := if (k != 0) && !(out.contains k) then out ++ [k] else out
def fewOut (most : Int) (l : List Int) : List Int := l.foldl (fun out n => put out (n.tmod (most + 1))) []
def few (most : Int) (l : List Int) : List Int := (fewOut most l).mergeSort fun x y => decide (x ≤ y)
theorem put_len (out : List Int) (k : Int) : (put out k).length ≤ out.length + 1 := by
  unfold put; split <;> simp
theorem fewOut_take {most : Int} {l : List Int} {i : Nat} (h : i < l.length) : fewOut most (l.take (i + 1)) = put (fewOut most (l.take i)) (l[i].tmod (most + 1)) := by
  unfold fewOut
  rw [List.take_succ_eq_append_getElem h, List.foldl_append]
  rfl
theorem fewOut_len (most : Int) (l : List Int) (i : Nat) (h : i ≤ l.length) : (fewOut most (l.take i)).length ≤ i := by
  induction i with
  | zero => simp [fewOut]
  | succ i ih =>
    rw [fewOut_take (by omega)]
    have := put_len (fewOut most (l.take i)) ((l[i]'(by omega)).tmod (most + 1))
    have := ih (by omega)
    omega
theorem few_len (most : Int) (l : List Int) : (few most l).length ≤ l.length := by
  unfold few
  rw [List.length_mergeSort]
  have := fewOut_len most l l.length (Nat.le_refl _)
  rwa [List.take_length] at this
end Go.Proofs.YtnggajehngemmaaGreatDoor.Mk
namespace Go.Proofs.YtnggajehngemmaaGreatDoor
open Go.RowKit Go.Sort
namespace Mk
def monOut (l : List Int) : List Int := l.map fun m => 1 + m.tmod 12
def mon (l : List Int) : List Int := Lib.compact ((monOut l).mergeSort fun x y => decide (x ≤ y))
theorem monOut_take {l : List Int} {i : Nat} (h : i < l.length) : monOut (l.take (i + 1)) = monOut (l.take i) ++ [1 + l[i].tmod 12] := by
  unfold monOut
  rw [List.take_succ_eq_append_getElem h, List.map_append]
  rfl
theorem monOut_len {l : List Int} {i : Nat} (h : i ≤ l.length) : (monOut (l.take i)).length = i := by
  unfold monOut
  simp; omega
def mkW (most : Int) (p : Int × Int) : Wk := if h : -53 ≤ p.1.tmod (most + 1) ∧ p.1.tmod (most + 1) ≤ 53 ∧ 0 ≤ p.2.tmod 7 ∧ p.2.tmod 7 ≤ 6 then ⟨(p.1.tmod (most + 1), p.2.tmod 7), h⟩ else default
theorem tmod_bd (n : Int) {m : Int} (h : 0 < m) : -m < n.tmod m ∧ n.tmod m < m := ⟨Int.lt_tmod_of_pos n h, Int.tmod_lt_of_pos n h⟩
theorem mkW_val {most : Int} {p : Int × Int} (h0 : 0 ≤ most) (h1 : most ≤ 53) (hp : 0 ≤ p.2) : (mkW most p).1 = (p.1.tmod (most + 1), p.2.tmod 7) := by
  have e1 := tmod_bd p.1 (m := most + 1) (by omega)
  have e2 : p.2.tmod 7 = p.2 % 7 := Int.tmod_eq_emod_of_nonneg hp
  unfold mkW
  rw [dif_pos (by rw [e2]; omega)]
def wput (out : List Wk) (x : Wk) : List Wk := if (out.map (·.1)).contains x.1 then out else out ++ [x]
def weekOut (most : Int) (l : List (Int × Int)) : List Wk := l.foldl (fun out p => wput out (mkW most p)) []
def weeks (most : Int) (l : List (Int × Int)) : List Wk := (weekOut most l).mergeSort fun x y => !ltOf cfW y x
theorem weekOut_take {most : Int} {l : List (Int × Int)} {i : Nat} (h : i < l.length) : weekOut most (l.take (i + 1)) = wput (weekOut most (l.take i)) (mkW most l[i]) := by
  unfold weekOut
  rw [List.take_succ_eq_append_getElem h, List.foldl_append]
  rfl
theorem wput_len (out : List Wk) (x : Wk) : (wput out x).length ≤ out.length + 1 := by
  unfold wput; split <;> simp
theorem weekOut_len (most : Int) (l : List (Int × Int)) (i : Nat) (h : i ≤ l.length) : (weekOut most (l.take i)).length ≤ i := by
  induction i with
  | zero => simp [weekOut]
  | succ i ih =>
    rw [weekOut_take (by omega)]
    have := wput_len (weekOut most (l.take i)) (mkW most (l[i]'(by omega)))
    have := ih (by omega)
    omega
end Mk
/-- the argument's weekdays lie at an address -/
def WksIn (w : World) (A : Option Addr) (l : List (Int × Int)) : Prop :=
  ∀ k (h : k < l.length), ∃ ad : Addr, A = some ad ∧ ad.block < w.heap.size ∧ w.cell? (ad.add (k * 2)) = some (.int .i8 l[k].1) ∧ w.cell? ((ad.add (k * 2)).add 1) = some (.int .u8 l[k].2)
theorem WksIn.below {w w' : World} {A : Option Addr} {l : List (Int × Int)} (h : WksIn w A l) (hb : Below w.heap.size w w') : WksIn w' A l := fun k hk => by
  obtain ⟨ad, rfl, hlt, hc, hd⟩ := h k hk
  exact ⟨ad, rfl, Nat.lt_of_lt_of_le hlt hb.size, (hb.cell (p := ad.add (k * 2)) (by rw [block_add]; exact hlt)).trans hc, (hb.cell (p := (ad.add (k * 2)).add 1) (by rw [block_add, block_add]; exact hlt)).trans hd⟩
theorem OwnI.base {w : World} {b b' : Nat} {v : Value} {L : List Int} (h : OwnI w b v L) (hb : b' ≤ b) : OwnI w b' v L := by
  refine ⟨h.1, ?_⟩
  rcases h.2 with hn | ⟨g, cap, cur, e, h1, rest⟩
  · exact .inl hn
  · exact .inr ⟨g, cap, cur, e, by omega, rest⟩
theorem OwnN.base {w : World} {b b' : Nat} {v : Value} {L : List (Int × Int)} (h : OwnN w b v L) (hb : b' ≤ b) : OwnN w b' v L := by
  refine ⟨h.1, ?_⟩
  rcases h.2 with hn | ⟨g, cap, cur, e, h1, rest⟩
  · exact .inl hn
  · exact .inr ⟨g, cap, cur, e, by omega, rest⟩
theorem OwnI.below {w w' : World} {b : Nat} {v : Value} {L : List Int} (h : OwnI w b v L) (e : Below w.heap.size w w') : OwnI w' b v L :=
  h.exc (Exc.of (b := w.heap.size) e) (fun g hg => by have := (h.lt g hg).2; omega)
theorem OwnN.below {w w' : World} {b : Nat} {v : Value} {L : List (Int × Int)} (h : OwnN w b v L) (e : Below w.heap.size w w') : OwnN w' b v L :=
  h.exc (Exc.of (b := w.heap.size) e) (fun g hg => by have := (h.lt g hg).2; omega)
/-- a cell below, at an address that lies in another block than the one that is written -/
theorem Exc.cell {B b : Nat} {w w' : World} (e : Exc B b w w') {p : Addr} (h1 : p.block < B) (h2 : p.block ≠ b) : w'.cell? p = w.cell? p := World.cell?_of_block (e.block p.block h1 h2)
end Go.Proofs.YtnggajehngemmaaGreatDoor
/-
  The law's Awake (chapter 2's example).
-/
namespace Go.Proofs.YtnggajehngemmaaGreatDoor
open Go.RowKit

theorem ints_nil (w : World) (A : Option Addr) : IntsIn w A [] := fun k h => absurd h (Nat.not_lt_zero k)
theorem nths_nil (w : World) (A : Option Addr) : NthsIn w A [] := fun k h => absurd h (Nat.not_lt_zero k)
theorem chk_a : Rul.check 1 1 0 0 [] [1] [] [] = 6 := by
  have e0 : ∀ {α : Type} (p : α → Bool) (c : α → α → Int), Rul.chkL p c [] = 0 := fun p c => by simp [Rul.chkL, Rul.step_end]
  have e1 : Rul.chkL Rul.inD Rul.cmpI [1] = 0 := by
    rw [Rul.chkL_short (by simp), Rul.step_first (by simp) (by decide), Rul.step_end (by simp)]
  simp [Rul.check, Rul.noFreq, Rul.nums, Rul.badNum, Rul.btw, Rul.lists, Rul.odd, e0, e1]
theorem chk_b : Rul.check 0 1 0 0 [] [] [] [] = 0 := by
  have e0 : ∀ {α : Type} (p : α → Bool) (c : α → α → Int), Rul.chkL p c [] = 0 := fun p c => by simp [Rul.chkL, Rul.step_end]
  simp [Rul.check, Rul.noFreq, Rul.nums, Rul.badNum, Rul.btw, Rul.lists, Rul.odd, e0]
theorem lists_nil (w : World) : ListsIn w none none none none [] [] [] [] :=
  ⟨ints_nil _ _, ints_nil _ _, nths_nil _ _, ints_nil _ _, by decide, by decide, by decide, by decide⟩
theorem lists_one (w : World) (b : Nat) (x : Int) (hb : b < w.heap.size) (hc : w.cell? ⟨b, 0, none⟩ = some (.int .i64 x)) : ListsIn w none (some ⟨b, 0, none⟩) none none [] [x] [] [] :=
  ⟨ints_nil _ _, fun k h => by
    obtain rfl : k = 0 := by simpa using h
    exact ⟨_, rfl, hb, hc⟩, nths_nil _ _, ints_nil _ _, by decide, by simp [maxLen], by decide, by decide⟩

set_option maxHeartbeats 1000000 in
theorem awake2 (w : World) (hM : Months w) : Calls Tryz.prog 47 #[] w fun e w' => e = .returned (.bool true) ∧ Below w.heap.size w w' := by
  go_enter Tryz.func47, Tryz.ntmps47
  go_wp2_with fail
  refine (awake _ hM).mono ?_
  rintro e w1 ⟨rfl, b1⟩
  go_wp2_with fail
  refine (check_any 1 1 0 0 none (some ⟨w1.heap.size, 0, none⟩) none none 0 1 0 0 [] [1] [] [] _ ?hl).mono ?_
  case hl =>
    refine lists_one _ _ 1 ?_ ?_
    · simp; omega
    · first | (simp; done) | (go_simp; done)
  rintro e w2 ⟨rfl, b2⟩
  rw [chk_a]
  have B2 : Below w1.heap.size w1 w2 := ((((Below.refl _ _).alloc (Nat.le_refl _) _).alloc (by simp) _).alloc (by simp; omega) _).trans (b2.mono (by simp; omega))
  have cs : ∀ i, w2.cell? ⟨w1.heap.size + 1 + 1, i, none⟩ = _ := fun i => b2.cell (p := ⟨w1.heap.size + 1 + 1, i, none⟩) (by simp)
  clear b2
  go_wp2_with fail
  refine (check_any 0 1 0 0 none none none none 0 0 0 0 [] [] [] [] _ (lists_nil _)).mono ?_
  rintro e w3 ⟨rfl, b3⟩
  rw [chk_b]
  go_wp2
  go_ret
  exact ⟨rfl, b1.trans ((B2.trans (b3.mono B2.size)).mono b1.size)⟩
end Go.Proofs.YtnggajehngemmaaGreatDoor
/-
  A rule in a block of the call's own: made, stored whole, loaded; calls known by their text.
-/
namespace Go.Proofs.YtnggajehngemmaaGreatDoor
open Go.RowKit
theorem Blk.rule {w : World} {b : Nat} {f iv c u : Int} {sM sD sW sP : Value} (h : Blk w b 36 #[.int .i64 f, .int .i64 iv, .int .i64 c, .int .i64 u, sM, sD, sW, sP]) : RuleAt w b f iv c u sM sD sW sP :=
  ⟨h.lt, h.cell 0, h.cell 1, h.cell 2, h.cell 3, h.cell 4, h.cell 5, h.cell 6, h.cell 7⟩
theorem Blk.setRow {w : World} {b : Nat} {t : TypeId} {old cs : Array Value} (h : Blk w b t old) : Blk (w.setRow b cs) b t cs := setRow_heap w b old cs t _ h
theorem exc_setRow (w : World) (b : Nat) (cs : Array Value) (B : Nat) : Exc B b w (w.setRow b cs) :=
  ⟨rfl, rfl, rfl, by simp, fun k _ hk => setRow_other w b k _ hk⟩
section
variable {w : World} {ρ : Operand → Value} {o : Oper} {x y z : Operand} {b : Nat} {v u : Value}
theorem k_allocR (ho : o.op = .alloc 36) :
    (execOp ρ o).run Tryz.prog w = .ok (.value (.pointer (some ⟨w.heap.size, 0, none⟩))) (w.alloc (.cells #[.int .i64 0, .int .i64 0, .int .i64 0, .int .i64 0, .slice none 0 0, .slice none 0 0, .slice none 0 0, .slice none 0 0] 36)) := by
  simp only [execOp, ho]
  go_simp
theorem k_storeR {old cs : Array Value} (ho : o.op = .store 36 x y) (hx : ρ x = .pointer (some ⟨b, 0, none⟩)) (hy : ρ y = .agg cs) (hb : Blk w b 36 old) (h8 : cs.size = 8) (ho8 : old.size = 8) (h1 : cs.all (·.oneCell') = true) :
    (execOp ρ o).run Tryz.prog w = .ok .skip (w.setRow b cs) := by
  have hr := run_storeVar_row (P := Tryz.prog) w b 36 36 old cs hb (by rw [h8]; kernel_rfl) (by rw [ho8, h8]) h1
  simp only [execOp, ho, hx, hy, Instr.storeAt, Instr.sureAddr, Sem.run_bind, Sem.run_pure, Result.andThen_ok, hr]
theorem k_buildR3 {f iv : Int} {A : Option Addr} {n c : Nat} (ho : o.op = .build 36 #[(0, x), (1, y), (4, z)]) (hx : ρ x = .int .i64 f) (hy : ρ y = .int .i64 iv) (hz : ρ z = .slice A n c) :
    (execOp ρ o).run Tryz.prog w = .ok (.value (.agg #[.int .i64 f, .int .i64 iv, .int .i64 0, .int .i64 0, .slice A n c, .slice none 0 0, .slice none 0 0, .slice none 0 0])) w := by
  simp only [execOp, ho]
  go_simp
theorem k_buildR2 {f iv : Int} (ho : o.op = .build 36 #[(0, x), (1, y)]) (hx : ρ x = .int .i64 f) (hy : ρ y = .int .i64 iv) :
    (execOp ρ o).run Tryz.prog w = .ok (.value (.agg #[.int .i64 f, .int .i64 iv, .int .i64 0, .int .i64 0, .slice none 0 0, .slice none 0 0, .slice none 0 0, .slice none 0 0])) w := by
  simp only [execOp, ho]
  go_simp
theorem k_callAwake (ho : o.op = .call ⟨.value (.func 47), #[], #[]⟩) (hf : ρ (.func 47) = .func (.func 47) #[] #[]) : (execOp ρ o).run Tryz.prog w = .ok (.enter 47 #[]) w := by
  simp only [execOp, ho]
  go_simp
end
theorem wrap_small {n : Int} (h1 : -9223372036854775808 ≤ n) (h2 : n ≤ 9223372036854775807) : IntKind.i64.wrap n = n := by
  unfold IntKind.wrap
  simp [IntKind.bits, IntKind.signed]
  omega
theorem awake2' (w : World) (hM : Months w) : Calls Tryz.prog 47 #[] w fun e w' => ∃ v, e = .returned v ∧ v = .bool true ∧ Below w.heap.size w w' :=
  (awake2 w hM).mono fun _ _ h => ⟨_, h.1, rfl, h.2⟩
end Go.Proofs.YtnggajehngemmaaGreatDoor
/-
  Operations on numbers, known by their text: what each answers.
-/
namespace Go.Proofs.YtnggajehngemmaaGreatDoor
open Go.RowKit
section
variable {w : World} {ρ : Operand → Value} {o : Oper} {x y : Operand} {n m r : Int} {q : Bool}
theorem o_addI (ho : o.op = .binOp .add 3 x y 3) (hx : ρ x = .int .i64 n) (hy : ρ y = .int .i64 m) (hr : IntKind.i64.wrap (n + m) = r) : (execOp ρ o).run Tryz.prog w = .ok (.value (.int .i64 r)) w := by
  subst hr
  simp only [execOp, ho, hx, hy]
  go_simp
theorem o_subI (ho : o.op = .binOp .sub 3 x y 3) (hx : ρ x = .int .i64 n) (hy : ρ y = .int .i64 m) (hr : IntKind.i64.wrap (n - m) = r) : (execOp ρ o).run Tryz.prog w = .ok (.value (.int .i64 r)) w := by
  subst hr
  simp only [execOp, ho, hx, hy]
  go_simp
theorem o_mulI (ho : o.op = .binOp .mul 3 x y 3) (hx : ρ x = .int .i64 n) (hy : ρ y = .int .i64 m) (hr : IntKind.i64.wrap (n * m) = r) : (execOp ρ o).run Tryz.prog w = .ok (.value (.int .i64 r)) w := by
  subst hr
  simp only [execOp, ho, hx, hy]
  go_simp
theorem o_addU (ho : o.op = .binOp .add 32 x y 32) (hx : ρ x = .int .i64 n) (hy : ρ y = .int .i64 m) (hr : IntKind.i64.wrap (n + m) = r) : (execOp ρ o).run Tryz.prog w = .ok (.value (.int .i64 r)) w := by
  subst hr
  simp only [execOp, ho, hx, hy]
  go_simp
theorem o_remI (ho : o.op = .binOp .rem 3 x y 3) (hx : ρ x = .int .i64 n) (hy : ρ y = .int .i64 m) (hm : m ≠ 0) (hr : n.tmod m = r) : (execOp ρ o).run Tryz.prog w = .ok (.value (.int .i64 r)) w := by
  subst hr
  simp only [execOp, ho, hx, hy]
  go_simp
theorem o_quoI (ho : o.op = .binOp .quo 3 x y 3) (hx : ρ x = .int .i64 n) (hy : ρ y = .int .i64 m) (hm : m ≠ 0) (hr : IntKind.i64.wrap (n.tdiv m) = r) : (execOp ρ o).run Tryz.prog w = .ok (.value (.int .i64 r)) w := by
  subst hr
  simp only [execOp, ho, hx, hy]
  go_simp
theorem o_remB (ho : o.op = .binOp .rem 5 x y 5) (hx : ρ x = .int .u8 n) (hy : ρ y = .int .u8 m) (hm : m ≠ 0) (hr : n.tmod m = r) : (execOp ρ o).run Tryz.prog w = .ok (.value (.int .u8 r)) w := by
  subst hr
  simp only [execOp, ho, hx, hy]
  go_simp
theorem o_remQ (ho : o.op = .binOp .rem 23 x y 23) (hx : ρ x = .int .u32 n) (hy : ρ y = .int .u32 m) (hm : m ≠ 0) (hr : n.tmod m = r) : (execOp ρ o).run Tryz.prog w = .ok (.value (.int .u32 r)) w := by
  subst hr
  simp only [execOp, ho, hx, hy]
  go_simp
theorem o_ltI (ho : o.op = .binOp .lss 3 x y 3) (hx : ρ x = .int .i64 n) (hy : ρ y = .int .i64 m) (hr : (decide (n < m)) = q) : (execOp ρ o).run Tryz.prog w = .ok (.value (.bool q)) w := by
  subst hr
  simp only [execOp, ho, hx, hy]
  go_simp
theorem o_gtI (ho : o.op = .binOp .gtr 3 x y 3) (hx : ρ x = .int .i64 n) (hy : ρ y = .int .i64 m) (hr : (decide (m < n)) = q) : (execOp ρ o).run Tryz.prog w = .ok (.value (.bool q)) w := by
  subst hr
  simp only [execOp, ho, hx, hy]
  go_simp
theorem o_eqI (ho : o.op = .binOp .eql 3 x y 3) (hx : ρ x = .int .i64 n) (hy : ρ y = .int .i64 m) (hr : (n == m) = q) : (execOp ρ o).run Tryz.prog w = .ok (.value (.bool q)) w := by
  subst hr
  simp only [execOp, ho, hx, hy]
  go_simp
theorem o_neI (ho : o.op = .binOp .neq 3 x y 3) (hx : ρ x = .int .i64 n) (hy : ρ y = .int .i64 m) (hr : (n != m) = q) : (execOp ρ o).run Tryz.prog w = .ok (.value (.bool q)) w := by
  subst hr
  simp only [execOp, ho, hx, hy]
  go_simp
theorem o_ltB (ho : o.op = .binOp .lss 5 x y 5) (hx : ρ x = .int .u8 n) (hy : ρ y = .int .u8 m) (hr : (decide (n < m)) = q) : (execOp ρ o).run Tryz.prog w = .ok (.value (.bool q)) w := by
  subst hr
  simp only [execOp, ho, hx, hy]
  go_simp
theorem o_gtB (ho : o.op = .binOp .gtr 5 x y 5) (hx : ρ x = .int .u8 n) (hy : ρ y = .int .u8 m) (hr : (decide (m < n)) = q) : (execOp ρ o).run Tryz.prog w = .ok (.value (.bool q)) w := by
  subst hr
  simp only [execOp, ho, hx, hy]
  go_simp
theorem o_eqB (ho : o.op = .binOp .eql 5 x y 5) (hx : ρ x = .int .u8 n) (hy : ρ y = .int .u8 m) (hr : (n == m) = q) : (execOp ρ o).run Tryz.prog w = .ok (.value (.bool q)) w := by
  subst hr
  simp only [execOp, ho, hx, hy]
  go_simp
theorem o_neB (ho : o.op = .binOp .neq 5 x y 5) (hx : ρ x = .int .u8 n) (hy : ρ y = .int .u8 m) (hr : (n != m) = q) : (execOp ρ o).run Tryz.prog w = .ok (.value (.bool q)) w := by
  subst hr
  simp only [execOp, ho, hx, hy]
  go_simp
theorem o_ltF (ho : o.op = .binOp .lss 31 x y 31) (hx : ρ x = .int .i64 n) (hy : ρ y = .int .i64 m) (hr : (decide (n < m)) = q) : (execOp ρ o).run Tryz.prog w = .ok (.value (.bool q)) w := by
  subst hr
  simp only [execOp, ho, hx, hy]
  go_simp
theorem o_gtF (ho : o.op = .binOp .gtr 31 x y 31) (hx : ρ x = .int .i64 n) (hy : ρ y = .int .i64 m) (hr : (decide (m < n)) = q) : (execOp ρ o).run Tryz.prog w = .ok (.value (.bool q)) w := by
  subst hr
  simp only [execOp, ho, hx, hy]
  go_simp
theorem o_eqF (ho : o.op = .binOp .eql 31 x y 31) (hx : ρ x = .int .i64 n) (hy : ρ y = .int .i64 m) (hr : (n == m) = q) : (execOp ρ o).run Tryz.prog w = .ok (.value (.bool q)) w := by
  subst hr
  simp only [execOp, ho, hx, hy]
  go_simp
theorem o_neF (ho : o.op = .binOp .neq 31 x y 31) (hx : ρ x = .int .i64 n) (hy : ρ y = .int .i64 m) (hr : (n != m) = q) : (execOp ρ o).run Tryz.prog w = .ok (.value (.bool q)) w := by
  subst hr
  simp only [execOp, ho, hx, hy]
  go_simp
theorem o_convBI (ho : o.op = .convert 5 3 x) (hx : ρ x = .int .u8 n) (hr : IntKind.i64.wrap n = r) : (execOp ρ o).run Tryz.prog w = .ok (.value (.int .i64 r)) w := by
  subst hr
  simp only [execOp, ho, hx]
  go_simp
theorem o_convBF (ho : o.op = .convert 5 31 x) (hx : ρ x = .int .u8 n) (hr : IntKind.i64.wrap n = r) : (execOp ρ o).run Tryz.prog w = .ok (.value (.int .i64 r)) w := by
  subst hr
  simp only [execOp, ho, hx]
  go_simp
theorem o_convHI (ho : o.op = .convert 22 3 x) (hx : ρ x = .int .u16 n) (hr : IntKind.i64.wrap n = r) : (execOp ρ o).run Tryz.prog w = .ok (.value (.int .i64 r)) w := by
  subst hr
  simp only [execOp, ho, hx]
  go_simp
theorem o_convQU (ho : o.op = .convert 23 32 x) (hx : ρ x = .int .u32 n) (hr : IntKind.i64.wrap n = r) : (execOp ρ o).run Tryz.prog w = .ok (.value (.int .i64 r)) w := by
  subst hr
  simp only [execOp, ho, hx]
  go_simp
theorem o_convCI (ho : o.op = .convert 57 3 x) (hx : ρ x = .int .i8 n) (hr : IntKind.i64.wrap n = r) : (execOp ρ o).run Tryz.prog w = .ok (.value (.int .i64 r)) w := by
  subst hr
  simp only [execOp, ho, hx]
  go_simp
theorem o_convSI (ho : o.op = .convert 80 3 x) (hx : ρ x = .int .i16 n) (hr : IntKind.i64.wrap n = r) : (execOp ρ o).run Tryz.prog w = .ok (.value (.int .i64 r)) w := by
  subst hr
  simp only [execOp, ho, hx]
  go_simp
theorem o_not {b : Bool} (ho : o.op = .unOp .not 4 x) (hx : ρ x = .bool b) (hr : (!b) = q) : (execOp ρ o).run Tryz.prog w = .ok (.value (.bool q)) w := by
  subst hr
  simp only [execOp, ho, hx]
  go_simp
end
end Go.Proofs.YtnggajehngemmaaGreatDoor
namespace Go.Proofs.YtnggajehngemmaaGreatDoor
open Go.RowKit
section
variable {w : World} {ρ : Operand → Value} {o : Oper} {x y : Operand} {v u : Value}
theorem c_Contains (ho : o.op = .call ⟨.value (.func 20), #[x, y], #[33, 3]⟩) (hf : ρ (.func 20) = .func (.func 20) #[] #[]) (hx : ρ x = v) (hy : ρ y = u) : (execOp ρ o).run Tryz.prog w = .ok (.enter 20 #[v, u]) w := by
  simp only [execOp, ho]
  go_simp
theorem c_Sort (ho : o.op = .call ⟨.value (.func 50), #[x], #[33]⟩) (hf : ρ (.func 50) = .func (.func 50) #[] #[]) (hx : ρ x = v) : (execOp ρ o).run Tryz.prog w = .ok (.enter 50 #[v]) w := by
  simp only [execOp, ho]
  go_simp
theorem c_Compact (ho : o.op = .call ⟨.value (.func 51), #[x], #[33]⟩) (hf : ρ (.func 51) = .func (.func 51) #[] #[]) (hx : ρ x = v) : (execOp ρ o).run Tryz.prog w = .ok (.enter 51 #[v]) w := by
  simp only [execOp, ho]
  go_simp
theorem c_Few (ho : o.op = .call ⟨.value (.func 52), #[x, y], #[33, 3]⟩) (hf : ρ (.func 52) = .func (.func 52) #[] #[]) (hx : ρ x = v) (hy : ρ y = u) : (execOp ρ o).run Tryz.prog w = .ok (.enter 52 #[v, u]) w := by
  simp only [execOp, ho]
  go_simp
theorem c_ContainsN (ho : o.op = .call ⟨.value (.func 36), #[x, y], #[34, 51]⟩) (hf : ρ (.func 36) = .func (.func 36) #[] #[]) (hx : ρ x = v) (hy : ρ y = u) : (execOp ρ o).run Tryz.prog w = .ok (.enter 36 #[v, u]) w := by
  simp only [execOp, ho]
  go_simp
theorem c_SortN (ho : o.op = .call ⟨.value (.func 53), #[x, y], #[34, 65]⟩) (hf : ρ (.func 53) = .func (.func 53) #[] #[]) (hx : ρ x = v) (hy : ρ y = u) : (execOp ρ o).run Tryz.prog w = .ok (.enter 53 #[v, u]) w := by
  simp only [execOp, ho]
  go_simp
theorem c_Make (ho : o.op = .call ⟨.value (.func 29), #[x], #[29]⟩) (hf : ρ (.func 29) = .func (.func 29) #[] #[]) (hx : ρ x = v) : (execOp ρ o).run Tryz.prog w = .ok (.enter 29 #[v]) w := by
  simp only [execOp, ho]
  go_simp
theorem c_Light (ho : o.op = .call ⟨.value (.func 8), #[x], #[29]⟩) (hf : ρ (.func 8) = .func (.func 8) #[] #[]) (hx : ρ x = v) : (execOp ρ o).run Tryz.prog w = .ok (.enter 8 #[v]) w := by
  simp only [execOp, ho]
  go_simp
theorem c_Lists (ho : o.op = .call ⟨.value (.func 44), #[x], #[36]⟩) (hf : ρ (.func 44) = .func (.func 44) #[] #[]) (hx : ρ x = v) : (execOp ρ o).run Tryz.prog w = .ok (.enter 44 #[v]) w := by
  simp only [execOp, ho]
  go_simp
end
end Go.Proofs.YtnggajehngemmaaGreatDoor
