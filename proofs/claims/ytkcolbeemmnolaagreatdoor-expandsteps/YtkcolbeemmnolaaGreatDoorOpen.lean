/-
  Arguments opened: structs of one-cell fields, slices of numbers, slices of weekdays, a rule; and the last step of every law: what the arguments read as stays, where only new memory is written.
-/
import Derived.Test.YtkcolbeemmnolaaGreatDoorBase
import Derived.Test.YtkcolbeemmnolaaGreatDoorR5
import Derived.ChangeSlices
import Derived.Deep.Slices
import Derived.Deep.Fields
import Derived.WideKeyArgs
import Derived.Below
namespace Go.Proofs.YtkcolbeemmnolaaGreatDoor
open Go.ChangeShapes Go.WideShapes Go.ChangeAt Go.RowKit Go.Deep

theorem laidOut : laidOutB Tryz.prog = true := by kernel_rfl
section
variable {H : Type} {enc : TypeId × Value → H}
theorem trodAll_stays {W W' : World} {sp : Nat → Bool} : ∀ (ts : List TypeId) (vs : List Value) (ds : List (DataW H)) (ps : List MemPlace), (∀ t ∈ ts, Tryz.prog.readableRec t = true ∧ t < Tryz.prog.types.size) →
    DataW.TrodAll enc Tryz.prog W 0 (fun _ => true) true ts vs ds ps → (∀ p ∈ ps, W.sameAt W' p) → (∀ p ∈ ps, sp p.block = true) → DataW.TrodAll enc Tryz.prog W' 0 sp true ts vs ds ps
  | [], _, _, _, _, h, _, _ => by
    obtain ⟨rfl, rfl, rfl⟩ := trodAll_nil h
    exact trodAll_mk0
  | t :: ts, _, _, _, ht, h, hs, hp => by
    obtain ⟨v, vs', d, ds', p, q, rfl, rfl, rfl, h1, h2⟩ := trodAll_cons h
    have hr := ht t (List.mem_cons_self)
    exact trodAll_cons_mk (WideElems.Trod_stays laidOut hr.1 hr.2 h1 (fun p hp' => hs p (List.mem_append_left _ hp')) (fun x hx => hp x (List.mem_append_left _ hx)))
      (trodAll_stays ts vs' ds' q (fun u hu => ht u (List.mem_cons_of_mem _ hu)) h2 (fun x hx => hs x (List.mem_append_right _ hx)) (fun x hx => hp x (List.mem_append_right _ hx)))

/-- THE LAST STEP of every law: true; new memory alone. -/
theorem law_all {f : Func} {s : ChangeSpec} {W W' : World} {args : Array Value} {v : Value} {ds : List (DataW H)} {before : List MemPlace}
    (hW : DataW.Whole enc Tryz.prog f.params.toList s.vars false W args.toList ds [] before) (hv : s.vars = [])
    (hr0 : (f.params.toList.all fun t => Tryz.prog.readableRec t && decide (t < Tryz.prog.types.size)) = true)
    (hres : DataW.TrodAll enc Tryz.prog W' W.heap.size (fun _ => false) false f.resultTypes.toList (v.resultList f.resultTypes.size) (s.fn H (ds ++ [])).results [])
    (ha : (s.fn H (ds ++ [])).args = ds) (hg : (s.fn H (ds ++ [])).vars = []) (hb : Below W.heap.size W W') :
    s.post enc Tryz.prog f false true false false W args v W' := by
  have hr : ∀ t ∈ f.params.toList, Tryz.prog.readableRec t = true ∧ t < Tryz.prog.types.size := fun t ht => by
    have := List.all_eq_true.1 hr0 t ht
    simpa using this
  have hW' := hW
  have hlt := hW.lt
  obtain ⟨p, q, hA, hV, rfl, -, -⟩ := hW
  refine ⟨ds, [], p ++ q, [], p, [], hW', hres, ?_, ?_, hb.frame _, fun h => by cases h⟩
  · rw [ha]
    exact trodAll_stays _ _ _ _ hr hA (fun x hx => hb.same (hlt x (List.mem_append_left _ hx))) (fun x hx => by simpa using hlt x (List.mem_append_left _ hx))
  · rw [hv, hg]
    rfl

/-- a struct of one-cell fields, by value -/
theorem fields_of {P : Program} {w : World} {base : Nat} {spare : Nat → Bool} {held : Bool} {r : Reach} {b0 : Nat} {t : TypeId} {fs : Array Field} {v : Value} {d : DataW H} {p : List MemPlace} (hs : P.underlying t = some (.struct fs)) (hone : oneCellFields P fs = true) (hC : P.cellsOf t = fs.size)
    (hv : Value.okWide P w r b0 t v) (h : DataW.Trod enc P w base spare held t v d p) :
    ∃ (cs : Array Value) (n : Nat), v = .agg cs ∧ cs.size = fs.size ∧ ∀ (i : Nat) (f : Field), fs[i]? = some f → ∃ (c : Value) (y : DataW H × List MemPlace), cs[i]? = some c ∧ DataW.trod enc P w base spare held n f.type [c] = some y := by
  obtain ⟨cs, rfl, hsz⟩ := okWide_struct hs hv
  obtain ⟨fuel, hf⟩ := h
  obtain ⟨xs, n, -, -, -, hlen, hg⟩ := DataW.trod_struct hs hf
  refine ⟨cs, n, rfl, hsz.trans hC, fun i f hi => ?_⟩
  obtain ⟨ho, hk⟩ := hone_of hone i f hi
  have hil : i < fs.size := (Array.getElem?_eq_some_iff.1 hi).1
  have hic : i < cs.size := by omega
  have hx : xs[i]? = some (xs[i]'(by omega)) := List.getElem?_eq_getElem (by omega)
  have h1 := hg i f hi
  rw [ho, hk, hx] at h1
  have e : (((Value.agg cs).cells.toList).drop i).take 1 = [cs[i]] := by
    show (cs.toList.drop i).take 1 = [cs[i]]
    rw [List.drop_eq_getElem_cons (by simpa using hic)]
    simp
  rw [e] at h1
  exact ⟨cs[i], _, Array.getElem?_eq_getElem hic, h1⟩

/-- numbers of one kind lie at an address -/
def NumsIn (k : IntKind) (w : World) (A : Option Addr) (l : List Int) : Prop :=
  ∀ i (h : i < l.length), ∃ ad : Addr, A = some ad ∧ ad.block < w.heap.size ∧ w.cell? (ad.add i) = some (.int k l[i])
theorem NumsIn.below {k : IntKind} {w w' : World} {A : Option Addr} {l : List Int} (h : NumsIn k w A l) (hb : Below w.heap.size w w') : NumsIn k w' A l := fun i hi => by
  obtain ⟨ad, rfl, hlt, hc⟩ := h i hi
  exact ⟨ad, rfl, Nat.lt_of_lt_of_le hlt hb.size, (hb.cell (p := ad.add i) (by rw [block_add]; exact hlt)).trans hc⟩
theorem nums_of {W : World} {k : IntKind} {t e : TypeId} {n : Nat} {v : Value} {y : DataW H × List MemPlace} (ht : Tryz.prog.underlying t = some (.slice e)) (he : Tryz.prog.underlying e = some (.int k)) (hc : Tryz.prog.cellsOf e = 1)
    (h : DataW.trod enc Tryz.prog W 0 (fun _ => true) true n t [v] = some y) :
    ∃ (A : Option Addr) (L : List Int) (cap : Nat), v = .slice A L.length cap ∧ L.length ≤ maxLen ∧ (∀ x ∈ L, (Lit.int k x).wf = true) ∧ NumsIn k W A L := by
  rcases open_ints ht he hc h with ⟨h0, -⟩ | ⟨a, len, cap, zs, h0, -, hl, hm, hz, -, hcell, hwf⟩
  · obtain rfl : v = _ := (List.cons.inj h0).1
    exact ⟨none, [], 0, rfl, Nat.zero_le _, fun x hx => (by cases hx), fun i hi => absurd hi (Nat.not_lt_zero i)⟩
  · obtain rfl : v = _ := (List.cons.inj h0).1
    simp only [if_true] at hz
    have hlen : (zs.take len).length = len := by rw [List.length_take]; omega
    refine ⟨some a, zs.take len, cap, by rw [hlen], by omega, fun x hx => hwf x (List.mem_of_mem_take hx), fun i hi => ?_⟩
    have hi' : i < zs.length := by omega
    have hce := hcell i hi'
    have hg : zs.getD i 0 = (zs.take len)[i] := by simp [List.getD, hi']
    rw [hg] at hce
    have hb := World.block_lt_of_cell? _ _ hce
    rw [block_add] at hb
    exact ⟨a, rfl, hb, hce⟩
theorem addr_zero (a : Addr) : a.add 0 = a := by
  unfold Addr.add
  cases a
  split <;> simp_all
theorem list_of {α : Type} {p : Nat → α → Prop} : ∀ n : Nat, (∀ i, i < n → ∃ x, p i x) → ∃ L : List α, L.length = n ∧ ∀ i (h : i < L.length), p i L[i]
  | 0, _ => ⟨[], rfl, fun i h => absurd h (Nat.not_lt_zero i)⟩
  | n + 1, h => by
    obtain ⟨L, hl, hp⟩ := list_of n (fun i hi => h i (by omega))
    obtain ⟨x, hx⟩ := h n (by omega)
    refine ⟨L ++ [x], by simp [hl], fun i hi => ?_⟩
    by_cases e : i < L.length
    · rw [List.getElem_append_left e]
      exact hp i e
    · obtain rfl : i = L.length := by simp at hi; omega
      simpa [hl] using hx
set_option maxRecDepth 100000 in
theorem nths_of {W : World} {n : Nat} {v : Value} {y : DataW H × List MemPlace}
    (h : DataW.trod enc Tryz.prog W 0 (fun _ => true) true n 34 [v] = some y) :
    ∃ (A : Option Addr) (L : List (Int × Int)) (cap : Nat), v = .slice A L.length cap ∧ L.length ≤ maxLen ∧ (∀ x ∈ L, (Lit.int .i64 x.1).wf = true ∧ (Lit.int .i64 x.2).wf = true) ∧ NthsIn W A L := by
  rcases open_slice Tryz.underlying34 h with ⟨h0, -⟩ | ⟨a, len, cap, m, n', D, Pl, h0, -, hl, hm, hz, -, hi⟩
  · obtain rfl : v = _ := (List.cons.inj h0).1
    exact ⟨none, [], 0, rfl, Nat.zero_le _, fun x hx => (by cases hx), fun i hi => absurd hi (Nat.not_lt_zero i)⟩
  · obtain rfl : v = _ := (List.cons.inj h0).1
    simp only [if_true] at hz
    have hc2 : Tryz.prog.cellsOf 60 = 2 := by kernel_rfl
    have each : ∀ i, i < len → ∃ x : Int × Int, (Lit.int .i64 x.1).wf = true ∧ (Lit.int .i64 x.2).wf = true ∧ W.cell? (a.add (i * 2)) = some (.int .i64 x.1) ∧ W.cell? ((a.add (i * 2)).add 1) = some (.int .i64 x.2) := by
      intro i hi'
      obtain ⟨cs', hc, htr⟩ := hi i (by omega)
      rw [hc2] at hc
      obtain ⟨-, hcl, hat⟩ := World.cells?_some hc
      obtain ⟨xs, n2, -, -, -, hxl, hg⟩ := DataW.trod_struct Tryz.underlying60 htr
      match cs', hcl with
      | [c0, c1], _ =>
        have g0 := hg 0 _ rfl
        have g1 := hg 1 _ rfl
        have hx0 : xs[0]? = some (xs[0]'(by rw [hxl]; decide)) := List.getElem?_eq_getElem _
        have hx1 : xs[1]? = some (xs[1]'(by rw [hxl]; decide)) := List.getElem?_eq_getElem _
        rw [hx0] at g0
        rw [hx1] at g1
        obtain ⟨n0, e0, -, w0⟩ := DataW.trod_int Tryz.underlying3 g0
        obtain ⟨m0, e1, -, w1⟩ := DataW.trod_int Tryz.underlying3 g1
        have k1 : Tryz.prog.cellsOf 3 = 1 := cellsInt
        simp [k1] at e0 e1
        have z0 := hat 0 (by omega)
        have z1 := hat 1 (by omega)
        refine ⟨(n0, m0), w0, w1, ?_, ?_⟩
        · rw [addr_zero] at z0
          simpa [e0] using z0
        · simpa [e1] using z1
    obtain ⟨L, hL, hp⟩ := list_of len each
    refine ⟨some a, L, cap, by rw [hL], by omega, fun x hx => ?_, fun i hi' => ?_⟩
    · obtain ⟨i, hi', rfl⟩ := List.getElem_of_mem hx
      exact ⟨(hp i hi').1, (hp i hi').2.1⟩
    · obtain ⟨-, -, q1, q2⟩ := hp i hi'
      have hb := World.block_lt_of_cell? _ _ q1
      rw [block_add] at hb
      exact ⟨a, rfl, hb, q1, q2⟩
end
end Go.Proofs.YtkcolbeemmnolaaGreatDoor
