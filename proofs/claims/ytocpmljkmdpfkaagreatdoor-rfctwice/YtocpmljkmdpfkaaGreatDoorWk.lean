/-
  Weekdays in rows of the call's own: the library's Contains and SortFunc (with the law's closure).
-/
import Derived.Test.YtocpmljkmdpfkaaGreatDoorSrt
namespace Go.Proofs.YtocpmljkmdpfkaaGreatDoor
open Go.RowKit Go.Sort Go.Shelf Go.Lib
/-- a weekday as the law makes it -/
abbrev Wk : Type := { p : Int × Int // -53 ≤ p.1 ∧ p.1 ≤ 53 ∧ 0 ≤ p.2 ∧ p.2 ≤ 6 }
instance : Inhabited Wk := ⟨⟨(0, 0), by decide⟩⟩
def encW (x : Wk) : List Value := encN x.1
def cfW (x y : Wk) : Int := (x.1.1 - y.1.1) * 100 + x.1.2 - y.1.2
theorem ltW (x y : Wk) : ltOf cfW x y = decide (x.1.1 < y.1.1 ∨ (x.1.1 = y.1.1 ∧ x.1.2 < y.1.2)) := by
  have hx := x.2
  have hy := y.2
  rw [Bool.eq_iff_iff]
  simp only [ltOf, decide_eq_true_eq]
  unfold cfW
  omega
theorem swoW : SWO (ltOf cfW) where
  irrefl x := by rw [ltW]; simp
  trans x y z h1 h2 := by rw [ltW] at *; simp only [decide_eq_true_eq] at *; omega
  ntrans x y z h1 h2 := by rw [ltW] at *; simp only [decide_eq_false_iff_not] at *; omega
theorem totW (x y : Wk) (h1 : ltOf cfW x y = false) (h2 : ltOf cfW y x = false) : x = y := by
  rw [ltW] at h1 h2
  simp only [decide_eq_false_iff_not] at h1 h2
  obtain ⟨⟨a, b⟩, hx⟩ := x
  obtain ⟨⟨c, d⟩, hy⟩ := y
  simp only at h1 h2
  have e1 : a = c := by omega
  have e2 : b = d := by omega
  subst e1
  subst e2
  rfl
set_option maxHeartbeats 1000000 in
theorem closureW (x y : Wk) (W : World) : Calls Tryz.prog 26 #[.agg #[.int .i64 x.1.1, .int .i64 x.1.2], .agg #[.int .i64 y.1.1, .int .i64 y.1.2]] W fun e w' => e = .returned (.int .i64 (cfW x y)) ∧ ∃ q os', w' = grow (W.drewN q) os' := by
  obtain ⟨⟨a, b⟩, hx⟩ := x
  obtain ⟨⟨c, d⟩, hy⟩ := y
  simp only [cfW]
  simp only at hx hy
  obtain ⟨x1, x2, x3, x4⟩ := hx
  obtain ⟨y1, y2, y3, y4⟩ := hy
  go_enter Tryz.func26, Tryz.ntmps26
  go_wp2
  go_ret
  exact ⟨rfl, 0, _, by rw [alloc_eq_grow, alloc_eq_grow, grow_grow]; rfl⟩
theorem flat_len (L : List (Int × Int)) : (L.flatMap fun x => [Value.int .i64 x.1, .int .i64 x.2]).length = L.length * 2 := by
  induction L with
  | nil => rfl
  | cons x L ih => rw [List.flatMap_cons, List.length_append, ih]; simp; omega
theorem flat_at (L : List Wk) : (flatK encW 2 L.toArray).toList = (L.map (·.1)).flatMap fun x => [Value.int .i64 x.1, .int .i64 x.2] := by
  have hlen : ((L.map (·.1)).flatMap fun x => [Value.int .i64 x.1, .int .i64 x.2]).length = L.length * 2 := by
    rw [flat_len]
    simp
  apply List.ext_getElem
  · simp [hlen]
  · intro t h1 h2
    have ht : t < L.length * 2 := by simpa using h1
    obtain ⟨f1, f2⟩ := flat_get (L := L.map (·.1)) (t / 2) (by simp; omega)
    rw [List.getElem?_eq_getElem (by rw [hlen]; omega)] at f1 
    have e : (flatK encW 2 L.toArray)[t]! = (encW L.toArray[t / 2]!)[t % 2]! := get_flatK encW 2 L.toArray t (by simpa using ht)
    have el : L.toArray[t / 2]! = L[t / 2]'(by omega) := by
      rw [getElem!_pos _ _ (by simp; omega)]
      simp
    rw [getElem!_pos _ _ (by simpa using h1), el] at e
    rw [Array.getElem_toList, e]
    rcases Nat.mod_two_eq_zero_or_one t with hm | hm
    · rw [hm]
      have et : t = t / 2 * 2 := by omega
      have := Option.some.inj f1
      simp only [← et] at this
      rw [this]
      simp [encW, encN]
    · rw [hm]
      have et : t = t / 2 * 2 + 1 := by omega
      rw [List.getElem?_eq_getElem (by rw [hlen]; omega)] at f2
      have := Option.some.inj f2
      simp only [← et] at this
      rw [this]
      simp [encW, encN]
theorem heap_put {w : World} {g n : Nat} {os : Array Obj} {cur : Array Value} {e : TypeId} {fr : Nat × Nat} (d : Array Value) (hb : w.heap[g]? = some (.cells cur e fr)) :
    (grow (putRow id (Sort.ahead w n) g 0 d) os).heap[g]? = some (.cells (putCells id 0 d cur) e fr) := by
  have hg : g < w.heap.size := (Array.getElem?_eq_some_iff.1 hb).1
  rw [heap_grow_old _ _ (by simpa using hg)]
  simp [putRow, mapBlock, Sort.ahead, Array.getElem?_modify, hb, onCells]
theorem grown_put {w : World} {g n : Nat} {os : Array Obj} (d : Array Value) : w.grownBy (grow (putRow id (Sort.ahead w n) g 0 d) os) (some g) := by
  refine ⟨rfl, rfl, rfl, by simp, fun k hk hne => ?_⟩
  rw [heap_grow_old _ _ (by simpa using hk)]
  have : g ≠ k := fun e => hne (by rw [e])
  simp [putRow, mapBlock, Sort.ahead, Array.getElem?_modify, this]
theorem take_put (cur F : Array Value) (h : F.size ≤ cur.size) : (putCells id 0 F cur).toList.take F.size = F.toList := by
  apply List.ext_getElem?
  intro j
  by_cases hj : j < F.size
  · rw [List.getElem?_take_of_lt hj, Array.getElem?_toList]
    simp [putCells, hj, show j < cur.size by omega]
  · rw [List.getElem?_take_eq_none (by omega), List.getElem?_eq_none (by simp; omega)]
theorem sortW_own {w : World} {base : Nat} {v : Value} {L : List Wk} (h : OwnN w base v (L.map (·.1))) (hl : L.length ≤ 1000000) :
    Calls Tryz.prog 25 #[v, .func (.func 26) #[] #[]] w fun e w' => e = .returned (.tuple #[]) ∧ OwnN w' base v ((L.mergeSort fun x y => !ltOf cfW y x).map (·.1)) ∧ ∀ B b, B ≤ base → Exc B b w w' := by
  have hlen : (L.mergeSort fun x y => !ltOf cfW y x).length = L.length := List.length_mergeSort _
  rcases h.2 with ⟨rfl, hn⟩ | ⟨g, cap, cur, rfl, hb, hg, h1, h2, h3, h4⟩
  · obtain rfl : L = [] := List.eq_nil_of_length_eq_zero (by simpa using hn)
    have hc := AnyF.slices_SortFunc_none (P := Tryz.prog) Tryz.sortN none 0 (.func (.func 26) #[] #[]) w
    change Calls Tryz.prog 25 _ _ _ at hc
    refine hc.mono ?_
    rintro e w' ⟨rfl, rfl⟩
    exact ⟨rfl, by simpa using OwnN.nil _ base, fun B b _ => Exc.refl _ _ _⟩
  · have hsz : L.toArray.size = L.length := by simp
    simp only [List.length_map] at h1 h4 ⊢
    have hH : HoldsK encW 2 w g 0 L.toArray := by
      intro j hj
      have hB : Blk w g _ cur := hg
      have hj' : j < L.length * 2 := by simpa using hj
      refine ⟨?_, hB.frozen _⟩
      rw [Nat.zero_add, hB.cell j, ← Array.getElem?_toList]
      have : (cur.toList.take (L.length * 2))[j]? = (flatK encW 2 L.toArray).toList[j]? := by rw [h4, flat_at]
      rw [List.getElem?_take_of_lt hj'] at this
      rw [this, Array.getElem?_toList, Array.getElem?_eq_getElem hj, getElem!_pos (flatK encW 2 L.toArray) j hj]
      rfl
    have eg : ∀ args w, (callFunc 26 args).run Tryz.prog w = .ok (.enter 26 args) w := enters_of Tryz.func26 (by kernel_rfl) rfl
    have hc := AnyQ.slices_SortFunc_total Tryz.sortN 2 Tryz.isAgg55 Tryz.sizeOf55 encW (fun _ => rfl) (fun x v hv => by simp [encW, encN] at hv; rcases hv with rfl | rfl <;> rfl) cfW swoW 26 #[] g 0 cap L.toArray w eg (fun _ _ _ _ x y => closureW x y _) hH (Array.getElem?_eq_some_iff.1 hg).1 (by rw [hsz]; omega) totW
    change Calls Tryz.prog 25 _ _ _ at hc
    rw [hsz] at hc
    refine hc.mono ?_
    rintro e w' ⟨rfl, n, os, rfl⟩
    refine ⟨rfl, ?_, fun B b hB => exc_grown (v := .slice (some ⟨g, 0, none⟩) L.length cap) (grown_put _) (fun g' hg' => by cases hg'; exact Nat.le_trans hB hb) (by have := (Array.getElem?_eq_some_iff.1 hg).1; omega)⟩
    refine ⟨by rw [flat_len], .inr ⟨g, cap, _, by simp, hb, heap_put _ hg, by simpa using h1, h2, by simp [putCells, h3], ?_⟩⟩
    have ht := take_put cur (flatK encW 2 (L.mergeSort fun x y => !ltOf cfW y x).toArray) (by simp; omega)
    rw [flat_at] at ht
    simpa using ht
theorem indexN_nil (x y : Int) (c : Nat) (w : World) : Calls Tryz.prog 51 #[.slice none 0 c, .agg #[.int .i64 x, .int .i64 y]] w fun e w' => e = .returned (.int .i64 (-1)) ∧ Below w.heap.size w w' := by
  go_enter Tryz.func51, Tryz.ntmps51
  go_wp2_with fail
  go_loop [8] (fun k => k = .int .i64 0) (fun _ => 0)
  case atStart => rfl
  case round =>
    subst hrel
    go_wp2
    go_ret
    exact ⟨rfl, (Below.refl _ _).alloc (Nat.le_refl _) _⟩
theorem containsN_nil (x y : Int) (c : Nat) (w : World) : Calls Tryz.prog 24 #[.slice none 0 c, .agg #[.int .i64 x, .int .i64 y]] w fun e w' => e = .returned (.bool false) ∧ Below w.heap.size w w' := by
  have hB : ∀ o, Below w.heap.size w (w.alloc o) := fun o => (Below.refl _ _).alloc (Nat.le_refl _) _
  go_enter Tryz.func24, Tryz.ntmps24
  go_wp2_with fail
  refine (indexN_nil _ _ _ _).mono ?_
  rintro e w' ⟨rfl, b⟩
  go_wp2
  go_ret
  exact ⟨rfl, (hB _).trans (b.mono (hB _).size)⟩
theorem containsW_own {w : World} {base : Nat} {v : Value} {L : List (Int × Int)} (x : Int × Int) (h : OwnN w base v L) (hl : L.length ≤ 1000000) :
    Calls Tryz.prog 24 #[v, .agg #[.int .i64 x.1, .int .i64 x.2]] w fun e w' => e = .returned (.bool (L.contains x)) ∧ Below w.heap.size w w' := by
  rcases h.2 with ⟨rfl, hn⟩ | ⟨g, cap, cur, rfl, hb, hg, h1, h2, h3, h4⟩
  · obtain rfl : L = [] := List.eq_nil_of_length_eq_zero hn
    exact containsN_nil x.1 x.2 0 w
  · have hc := AnyQ.slices_Contains Tryz.containsN 2 Tryz.isAgg55 Tryz.sizeOf55 encN (fun _ => rfl) (fun x y => x.1 == y.1 && x.2 == y.2) eqN g 0 L.length cap L x w (Nat.le_refl _) (by omega)
      (fun j hj i v hv => by
        have hB : Blk w g _ cur := hg
        obtain ⟨f1, f2⟩ := flat_get (L := L) j hj
        rw [← h4, List.getElem?_take_of_lt (by omega)] at f1 f2
        have ej : L[j]! = L[j] := getElem!_pos L j hj
        rw [ej] at hv
        match i with
        | 0 => obtain rfl : Value.int .i64 L[j].1 = v := by simpa [encN] using hv
               rw [hB.cell, show 0 + j * 2 + 0 = j * 2 by omega, ← Array.getElem?_toList]
               exact f1
        | 1 => obtain rfl : Value.int .i64 L[j].2 = v := by simpa [encN] using hv
               rw [hB.cell, show 0 + j * 2 + 1 = j * 2 + 1 by omega, ← Array.getElem?_toList]
               exact f2
        | i + 2 => simp [encN] at hv)
    change Calls Tryz.prog 24 _ _ _ at hc
    rw [List.take_length] at hc
    have e : (L.any fun y => x.1 == y.1 && x.2 == y.2) = L.contains x := by
      rw [List.contains_eq_any_beq]
      rfl
    rw [e] at hc
    exact hc
end Go.Proofs.YtocpmljkmdpfkaaGreatDoor
