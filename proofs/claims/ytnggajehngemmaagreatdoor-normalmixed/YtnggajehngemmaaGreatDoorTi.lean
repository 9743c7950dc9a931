/-
  The library's SortFunc with Order, with Compare, at lists of the call's own; normal's tidyList at lists that rise already.
-/
import Derived.Test.YtnggajehngemmaaGreatDoorKop
import Derived.Test.YtnggajehngemmaaGreatDoorNc
import Derived.Test.YtnggajehngemmaaGreatDoorNe
import Derived.Test.YtnggajehngemmaaGreatDoorOn4
namespace Go.Proofs.YtnggajehngemmaaGreatDoor
open Go.RowKit Go.Sort Go.Shelf Go.Lib
theorem ltO (x y : Int × Int) : ltOf Rul.cmpN x y = decide (x.1 < y.1 ∨ (x.1 = y.1 ∧ x.2 < y.2)) := by
  rw [Bool.eq_iff_iff]
  simp only [ltOf, decide_eq_true_eq]
  exact Rul.cmpN_neg
theorem swoO : SWO (ltOf Rul.cmpN) where
  irrefl x := by rw [ltO]; simp
  trans x y z h1 h2 := by rw [ltO] at *; simp only [decide_eq_true_eq] at *; omega
  ntrans x y z h1 h2 := by rw [ltO] at *; simp only [decide_eq_false_iff_not] at *; omega
theorem totO (x y : Int × Int) (h1 : ltOf Rul.cmpN x y = false) (h2 : ltOf Rul.cmpN y x = false) : x = y := by
  rw [ltO] at h1 h2
  simp only [decide_eq_false_iff_not] at h1 h2
  obtain ⟨a, b⟩ := x
  obtain ⟨c, d⟩ := y
  simp only at h1 h2
  have e1 : a = c := by omega
  have e2 : b = d := by omega
  rw [e1, e2]
set_option maxHeartbeats 1000000 in
theorem orderG (x y : Int × Int) (W : World) : Calls Tryz.prog 34 #[.agg #[.int .i64 x.1, .int .i64 x.2], .agg #[.int .i64 y.1, .int .i64 y.2]] W fun e w' => e = .returned (.int .i64 (Rul.cmpN x y)) ∧ ∃ q os', w' = grow (W.drewN q) os' := by
  obtain ⟨a, b⟩ := x
  obtain ⟨c, d⟩ := y
  by_cases h : Rul.cmpI a c = 0
  · have E := Lib.hid (show Rul.cmpN (a, b) (c, d) = Rul.cmpI b d by simp [Rul.cmpN, h])
    have Z := Lib.hid h
    clear h
    go_enter Tryz.func34, Tryz.ntmps34
    go_wp2_with fail
    refine (compare_int _ _ _).mono ?_
    rintro e w' ⟨rfl, rfl⟩
    rw [Z.out]
    go_wp2_with fail
    refine (compare_int _ _ _).mono ?_
    rintro e w' ⟨rfl, rfl⟩
    go_wp2
    go_ret
    exact ⟨ret_int E.out.symm, 0, _, by rw [alloc_eq_grow, alloc_eq_grow, grow_grow]; rfl⟩
  · have E := Lib.hid (show Rul.cmpN (a, b) (c, d) = Rul.cmpI a c by simp [Rul.cmpN, h])
    have h' : (Rul.cmpI a c != 0) = true := by simpa using h
    clear h
    go_enter Tryz.func34, Tryz.ntmps34
    go_wp2_with fail
    refine (compare_int _ _ _).mono ?_
    rintro e w' ⟨rfl, rfl⟩
    go_wp2
    go_ret
    exact ⟨ret_int E.out.symm, 0, _, by rw [alloc_eq_grow, alloc_eq_grow, grow_grow]; rfl⟩
/-- weekdays in order -/
def srtN (L : List (Int × Int)) : List (Int × Int) := L.mergeSort fun x y => !ltOf Rul.cmpN y x
theorem flat_atN (L : List (Int × Int)) : (flatK encN 2 L.toArray).toList = L.flatMap fun x => [Value.int .i64 x.1, .int .i64 x.2] := by
  have hlen : (L.flatMap fun x => [Value.int .i64 x.1, .int .i64 x.2]).length = L.length * 2 := flat_len L
  apply List.ext_getElem
  · simp [hlen]
  · intro t h1 h2
    have ht : t < L.length * 2 := by simpa using h1
    obtain ⟨f1, f2⟩ := flat_get (L := L) (t / 2) (by omega)
    rw [List.getElem?_eq_getElem (by rw [hlen]; omega)] at f1 
    have e : (flatK encN 2 L.toArray)[t]! = (encN L.toArray[t / 2]!)[t % 2]! := get_flatK encN 2 L.toArray t (by simpa using ht)
    have el : L.toArray[t / 2]! = L[t / 2]'(by omega) := by
      rw [getElem!_pos _ _ (by simp; omega)]
      simp
    rw [getElem!_pos _ _ (by simpa using h1), el] at e
    rw [Array.getElem_toList, e]
    rcases Nat.mod_two_eq_zero_or_one t with hm | hm
    · rw [hm]
      have et : t = t / 2 * 2 := by omega
      have := Option.some.inj f1
      simp only [← et] at this
      rw [this]
      simp [encN]
    · rw [hm]
      have et : t = t / 2 * 2 + 1 := by omega
      rw [List.getElem?_eq_getElem (by rw [hlen]; omega)] at f2
      have := Option.some.inj f2
      simp only [← et] at this
      rw [this]
      simp [encN]
theorem sortN_own {w : World} {base : Nat} {v : Value} {L : List (Int × Int)} (h : OwnN w base v L) (hl : L.length ≤ 1000000) :
    Calls Tryz.prog 53 #[v, .func (.func 34) #[] #[]] w fun e w' => e = .returned (.tuple #[]) ∧ OwnN w' base v (srtN L) ∧ ∀ B b, B ≤ base → Exc B b w w' := by
  have hlen : (srtN L).length = L.length := List.length_mergeSort _
  rcases h.2 with ⟨rfl, hn⟩ | ⟨g, cap, cur, rfl, hb, hg, h1, h2, h3, h4⟩
  · obtain rfl : L = [] := List.eq_nil_of_length_eq_zero hn
    have hc := AnyF.slices_SortFunc_none (P := Tryz.prog) Tryz.sortN none 0 (.func (.func 34) #[] #[]) w
    change Calls Tryz.prog 53 _ _ _ at hc
    refine hc.mono ?_
    rintro e w' ⟨rfl, rfl⟩
    exact ⟨rfl, by simpa [srtN] using OwnN.nil _ base, fun B b _ => Exc.refl _ _ _⟩
  · have hsz : L.toArray.size = L.length := by simp
    have hH : HoldsK encN 2 w g 0 L.toArray := by
      intro j hj
      have hB : Blk w g _ cur := hg
      have hj' : j < L.length * 2 := by simpa using hj
      refine ⟨?_, hB.frozen _⟩
      rw [Nat.zero_add, hB.cell j, ← Array.getElem?_toList]
      have : (cur.toList.take (L.length * 2))[j]? = (flatK encN 2 L.toArray).toList[j]? := by rw [h4, flat_atN]
      rw [List.getElem?_take_of_lt hj'] at this
      rw [this, Array.getElem?_toList, Array.getElem?_eq_getElem hj, getElem!_pos (flatK encN 2 L.toArray) j hj]
      rfl
    have eg : ∀ args w, (callFunc 34 args).run Tryz.prog w = .ok (.enter 34 args) w := enters_of Tryz.func34 (by kernel_rfl) rfl
    have hc := AnyQ.slices_SortFunc_total Tryz.sortN 2 Tryz.isAgg51 Tryz.sizeOf51 encN (fun _ => rfl) (fun x v hv => by simp [encN] at hv; rcases hv with rfl | rfl <;> rfl) Rul.cmpN swoO 34 #[] g 0 cap L.toArray w eg (fun _ _ _ _ x y => orderG x y _) hH (Array.getElem?_eq_some_iff.1 hg).1 (by rw [hsz]; omega) totO
    change Calls Tryz.prog 53 _ _ _ at hc
    rw [hsz] at hc
    refine hc.mono ?_
    rintro e w' ⟨rfl, n, os, rfl⟩
    refine ⟨rfl, ?_, fun B b hB => exc_grown (v := .slice (some ⟨g, 0, none⟩) L.length cap) (grown_put _) (fun g' hg' => by cases hg'; exact Nat.le_trans hB hb) (by have := (Array.getElem?_eq_some_iff.1 hg).1; omega)⟩
    refine ⟨by rw [flat_len], .inr ⟨g, cap, _, by rw [hlen], hb, heap_put _ hg, by rw [hlen]; exact h1, h2, by simp [putCells, h3], ?_⟩⟩
    have ht := take_put cur (flatK encN 2 (srtN L).toArray) (by simp [hlen]; omega)
    rw [flat_atN, show (flatK encN 2 (srtN L).toArray).size = (srtN L).length * 2 by simp] at ht
    exact ht
theorem ltI (x y : Int) : ltOf Rul.cmpI x y = decide (x < y) := by
  rw [Bool.eq_iff_iff]
  simp only [ltOf, decide_eq_true_eq]
  rcases Int.lt_trichotomy x y with h | h | h
  · rw [Rul.cmpI_lt h]; omega
  · subst h; rw [Rul.cmpI_eq]; omega
  · rw [Rul.cmpI_gt h]; omega
theorem swoI : SWO (ltOf Rul.cmpI) where
  irrefl x := by rw [ltI]; simp
  trans x y z h1 h2 := by rw [ltI] at *; simp only [decide_eq_true_eq] at *; omega
  ntrans x y z h1 h2 := by rw [ltI] at *; simp only [decide_eq_false_iff_not] at *; omega
theorem sortF_own {w : World} {base : Nat} {v : Value} {L : List Int} (h : OwnI w base v L) (hl : L.length ≤ 1000000) :
    Calls Tryz.prog 55 #[v, .func (.func 32) #[] #[]] w fun e w' => e = .returned (.tuple #[]) ∧ OwnI w' base v (L.mergeSort fun x y => decide (x ≤ y)) ∧ ∀ B b, B ≤ base → Exc B b w w' := by
  have hlen : (L.mergeSort fun x y => decide (x ≤ y)).length = L.length := List.length_mergeSort _
  rcases h.2 with ⟨rfl, hn⟩ | ⟨g, cap, cur, rfl, hb, hg, h1, h2, h3, h4⟩
  · obtain rfl : L = [] := List.eq_nil_of_length_eq_zero hn
    refine (Tryz.slices_SortFunc_none (α := Int) none 0 (.func (.func 32) #[] #[]) w).mono ?_
    rintro e w' ⟨rfl, rfl⟩
    exact ⟨rfl, by simpa using OwnI.nil _ base, fun B b _ => Exc.refl _ _ _⟩
  · have hH := holds_of_blockI (ss := L) hg (by simpa using h4)
    have eg : ∀ args w, (callFunc 32 args).run Tryz.prog w = .ok (.enter 32 args) w := enters_of Tryz.func32 (by kernel_rfl) rfl
    have hc := Tryz.slices_SortFunc_total (Value.int .i64) (fun _ => rfl) Rul.cmpI swoI 32 #[] g 0 cap L.toArray w eg (fun _ _ _ _ x y => (compare_int x y _).mono fun e w' p => ⟨p.1, 0, #[], by rw [grow_empty]; exact p.2.symm⟩) hH (Array.getElem?_eq_some_iff.1 hg).1 (by simp; omega) (fun x y h1 h2 => by rw [ltI] at h1 h2; simp only [decide_eq_false_iff_not] at h1 h2; omega)
    have hs : (L.mergeSort fun x y => !(ltOf Rul.cmpI) y x) = L.mergeSort fun x y => decide (x ≤ y) := by
      congr 1
      funext x y
      rw [ltI, Bool.eq_iff_iff]
      simp
    rw [List.size_toArray, hs] at hc
    refine hc.mono ?_
    rintro e w' ⟨rfl, n, os, rfl⟩
    unfold sortWorld
    refine ⟨rfl, ?_, fun B b hB => exc_grown (v := .slice (some ⟨g, 0, none⟩) L.length cap) (grownBy_sortedI _) (fun g' hg' => by cases hg'; exact Nat.le_trans hB hb) (by have := (Array.getElem?_eq_some_iff.1 hg).1; omega)⟩
    unfold OwnI
    rw [hlen]
    exact ownsRow_sortedI hlen hb hg h1 h2 h3
end Go.Proofs.YtnggajehngemmaaGreatDoor
/-
  normal.tidyList: its contracts.
-/
namespace Go.Proofs.YtnggajehngemmaaGreatDoor
open Go.RowKit Go.Sort Go.Shelf Go.Lib
theorem own_new {w w' : World} {t z N : Nat} {vs : List Value} {u : Value} (h : w'.ownsRow w.heap.size t z u N vs) : ∃ bs, NewL w.heap.size w' t z N vs u bs ∧ bs.Nodup ∧ ∀ b ∈ bs, w.heap.size ≤ b := by
  obtain ⟨bs, h1, h2, h3⟩ := NewL.of h (Nat.le_refl _)
  refine ⟨bs, h1, h2, fun b hb => ?_⟩
  rcases h1 with ⟨rfl, hn, rfl⟩ | ⟨b', k, y, rfl, rfl, hB, -⟩
  · cases hb
  · rw [List.mem_singleton.1 hb]
    exact hB
theorem kepV_below {w w' : World} {B t z N : Nat} {v : Value} {vs : List Value} (h : w.ownsRow B t z v N vs) (hB : B ≤ w.heap.size) (k : Kp (kepV w v) w w') : Below B w w' := by
  rcases h.2 with ⟨rfl, -⟩ | ⟨g, cap, cur, rfl, hb, hg, -⟩
  · exact ⟨k.os, k.tape, k.output, k.size, fun j hj => k.block j (Nat.lt_of_lt_of_le hj hB)⟩
  · exact ⟨k.os, k.tape, k.output, k.size, fun j hj => k.block j ⟨Nat.lt_of_lt_of_le hj hB, show j ≠ g by omega⟩⟩
set_option maxHeartbeats 1000000 in
theorem tidyI : TidyI := by
  intro w v L h hl
  have hs : (L.mergeSort fun x y => decide (x ≤ y)).length = L.length := List.length_mergeSort _
  go_enter Tryz.func31, Tryz.ntmps31
  go_wp2_with fail
  refine (cloneI_any h hl).mono ?_
  rintro e w1 ⟨v1, rfl, o1, b1⟩
  go_wp2_with fail
  refine (sortF_own o1 hl).mono ?_
  rintro e w2 ⟨rfl, o2, x2⟩
  go_wp2_with fail
  refine (compact_own o2 (by omega)).mono ?_
  rintro e w3 ⟨v3, rfl, o3, x3⟩
  go_wp2
  go_ret
  obtain ⟨bs, q1, q2, q3⟩ := own_new o3
  exact ⟨v3, bs, rfl, (b1.trans ((x2 w.heap.size w.heap.size (Nat.le_refl _)).below (Nat.le_refl _))).trans ((x3 w.heap.size w.heap.size (Nat.le_refl _)).below (Nat.le_refl _)), q1, q2, q3⟩
set_option maxHeartbeats 1000000 in
theorem tidyN : TidyN := by
  intro w v L h hl
  have hs : (srtN L).length = L.length := List.length_mergeSort _
  go_enter Tryz.func33, Tryz.ntmps33
  go_wp2_with fail
  refine (cloneN_any h hl).mono ?_
  rintro e w1 ⟨v1, rfl, o1, b1⟩
  go_wp2_with fail
  refine (sortN_own o1 hl).mono ?_
  rintro e w2 ⟨rfl, o2, x2⟩
  go_wp2_with fail
  refine (compactN_any o2 (by omega)).mono ?_
  rintro e w3 ⟨A, c, rfl, rfl, o3, k3⟩
  go_wp2
  go_ret
  have b2 := b1.trans ((x2 w.heap.size w.heap.size (Nat.le_refl _)).below (Nat.le_refl _))
  obtain ⟨bs, q1, q2, q3⟩ := own_new o3
  exact ⟨_, bs, rfl, b2.trans (kepV_below o2 b2.size k3), q1, q2, q3⟩
end Go.Proofs.YtnggajehngemmaaGreatDoor
