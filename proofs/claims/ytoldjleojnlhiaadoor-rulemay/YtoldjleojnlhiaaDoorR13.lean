/-
  The law's Check: the regions about one weekday (20 to 22), over a frame that is a letter; a map of numbers that the call makes.
-/
import Derived.Test.YtoldjleojnlhiaaDoorR11
import Derived.WideMake
import Derived.Carry
namespace Go.Proofs.YtoldjleojnlhiaaDoor
open Go.RowKit
noncomputable def ops20 : Array Oper := (Tryd.f14.body.bind (regOf 20)).getD #[]
set_option maxRecDepth 100000 in
set_option maxHeartbeats 1000000 in
theorem reg20 (a : Act) (w : World) (Q : Exit → Act → World → Prop) (ad : Addr) (b n cap i : Nat) (x y : Int) (hs : a.tmps.size = 236) (h1 : a.tmps.getD 1 undef = .pointer (some ⟨b, 0, none⟩)) (h6 : a.tmps.getD 6 undef = .int .i64 i)
    (hbox : w.cell? ⟨b, 6, none⟩ = some (.slice (some ad) n cap)) (hi : i < n) (hc1 : w.cell? (ad.add (i * 2)) = some (.int .i64 x)) (hc2 : w.cell? ⟨(ad.add (i * 2)).block, (ad.add (i * 2)).off + 1, none⟩ = some (.int .i64 y))
    (hR : ∀ t, Keep 98 102 9 a.tmps t → t.getD 9 undef = .pointer (some ⟨w.heap.size, 0, none⟩) → Q .normal ⟨t, a.defers⟩ (w.alloc (.cells #[.int .i64 x, .int .i64 y] 31))) :
    (Code.region 20 ops20 false).wp Tryd.prog Q a w := by
  have g1 := getD_at h1
  have g6 := getD_at h6
  conv => arg 2; arg 2; whnf
  go_wp2_with fail
  refine hR _ ?_ (set_get (by simp [hs]))
  repeat (with_reducible refine Keep.set ?_ _ _ (by decide))
  with_reducible exact Keep.refl _ _ _ _

section
variable {P : Program}
theorem push_set {α : Type} (xs : Array α) (x y : α) : (xs.push x).setIfInBounds xs.size y = xs.push y := by
  apply Array.ext'
  simp
theorem alloc_set (w : World) (o o' : Obj) : ({ (w.alloc o) with heap := (w.alloc o).heap.setIfInBounds w.heap.size o' } : World) = w.alloc o' := by
  show World.mk _ _ _ _ _ = World.mk _ _ _ _ _
  congr 1
  exact push_set _ _ _
theorem run_ins_new (T kt et : TypeId) (k : Int) (val : Value) (es : Array MapEntry) (c : Nat) (hm : P.underlying T = some (.map kt et)) (hk : P.underlying kt = some (.int .i64))
    (hf : Instr.findNow (.int .i64) (.int .i64 k) es.toList 0 = some none) (w : World) :
    (Instr.mapUpdate T (.map (some w.heap.size)) (.int .i64 k) val).run P (w.alloc (.map es c)) = .ok () (w.alloc (.map (es.push { key := .int .i64 k, val := val, born := c }) (c + 1))) := by
  have hb : (w.alloc (.map es c)).heap[w.heap.size]? = some (.map es c) := heap_alloc_new w _
  have hc : (Instr.checkKey false 10000 kt (.int .i64 k)).run P (w.alloc (.map es c)) = .ok () (w.alloc (.map es c)) := MapKept.run_checkKey (k := .int .i64 k) hk (by simp [MapKept.IsKey]) false 9999
  simp [Instr.mapUpdate, run_underlying hm, MapKept.run_getObj_map hb, hc, MapKept.run_findKey hk hf, MapKept.run_setObj_map _ hb, Result.andThen]
  exact alloc_set w _ _
theorem run_look_new (T kt et : TypeId) (k : Int) (v : Value) (es : Array MapEntry) (c : Nat) (hm : P.underlying T = some (.map kt et)) (hk : P.underlying kt = some (.int .i64))
    (hf : (∃ i, Instr.findNow (.int .i64) (.int .i64 k) es.toList 0 = some (some (i, v))) ∨ (Instr.findNow (.int .i64) (.int .i64 k) es.toList 0 = some none ∧ ∀ w, (zeroValue et).run P w = .ok v w)) (w : World) :
    (Instr.lookup T (.map (some w.heap.size)) (.int .i64 k) false).run P (w.alloc (.map es c)) = .ok v (w.alloc (.map es c)) := by
  have hb : (w.alloc (.map es c)).heap[w.heap.size]? = some (.map es c) := heap_alloc_new w _
  have hc : ∀ e, (Instr.checkKey e 10000 kt (.int .i64 k)).run P (w.alloc (.map es c)) = .ok () (w.alloc (.map es c)) := fun e => MapKept.run_checkKey (k := .int .i64 k) hk (by simp [MapKept.IsKey]) e 9999
  rcases hf with ⟨i, hf⟩ | ⟨hf, hz⟩
  · simp [Instr.lookup, run_underlying hm, MapKept.run_getObj_map hb, hc, MapKept.run_findKey hk hf, Result.andThen]
  · simp [Instr.lookup, run_underlying hm, MapKept.run_getObj_map hb, hc, MapKept.run_findKey hk hf, Result.andThen, hz]
end
theorem zero_int : ∀ w, (zeroValue 3).run Tryd.prog w = .ok (.int .i64 0) w := by
  intro w
  simp [go_sem]
noncomputable def ops21 : Array Oper := (Tryd.f14.body.bind (regOf 21)).getD #[]
theorem mapType : Tryd.prog.underlying 63 = some (.map 33 3) := by kernel_rfl
theorem keyType : Tryd.prog.underlying 33 = some (.int .i64) := by kernel_rfl
def theMap : Array MapEntry := #[{ key := .int .i64 2, val := .int .i64 5, born := 0 }, { key := .int .i64 3, val := .int .i64 53, born := 1 }]
set_option maxRecDepth 100000 in
set_option maxHeartbeats 1000000 in
theorem reg21 (a : Act) (w : World) (Q : Exit → Act → World → Prop) (b : Nat) (f : Int) (hs : a.tmps.size = 236) (h1 : a.tmps.getD 1 undef = .pointer (some ⟨b, 0, none⟩)) (hf0 : 0 ≤ f) (hf4 : f < 4)
    (hbox : w.cell? ⟨b, 0, none⟩ = some (.int .i64 f)) (hb : b < w.heap.size)
    (hR : ∀ t w', Keep 103 107 10 a.tmps t → t.getD 10 undef = .int .i64 (Rul.most f) → Below w.heap.size w w' → Q .normal ⟨t, a.defers⟩ w') :
    (Code.region 21 ops21 false).wp Tryd.prog Q a w := by
  have g1 := getD_at h1
  have hbx : ∀ o, (w.alloc o).cell? ⟨b, 0, none⟩ = some (.int .i64 f) := fun o => (World.cell?_alloc_lt w o _ hb).trans hbox
  have hbl : ∀ o, Below w.heap.size w (w.alloc o) := fun o => (Below.refl _ _).alloc (Nat.le_refl _) _
  have m0 := fun W => run_makeMap (P := Tryd.prog) 63 W
  have m1 := run_ins_new (P := Tryd.prog) 63 _ _ 2 (.int .i64 5) #[] 0 mapType keyType rfl
  have m2 := run_ins_new (P := Tryd.prog) 63 _ _ 3 (.int .i64 53) #[{ key := .int .i64 2, val := .int .i64 5, born := 0 }] 1 mapType keyType rfl
  have hf : f = 0 ∨ f = 1 ∨ f = 2 ∨ f = 3 := by omega
  have HR := Lib.hid hR
  clear hR hbox
  rcases hf with rfl | rfl | rfl | rfl
  · have m3 := run_look_new (P := Tryd.prog) 63 _ _ 0 (.int .i64 0) theMap 2 mapType keyType (.inr ⟨rfl, zero_int⟩)
    unfold theMap at m3
    conv => arg 2; arg 2; whnf
    go_wp2_with fail
    refine HR.out _ _ ?_ (set_get (by simp [hs])) (hbl _)
    repeat (with_reducible refine Keep.set ?_ _ _ (by decide))
    with_reducible exact Keep.refl _ _ _ _
  · have m3 := run_look_new (P := Tryd.prog) 63 _ _ 1 (.int .i64 0) theMap 2 mapType keyType (.inr ⟨rfl, zero_int⟩)
    unfold theMap at m3
    conv => arg 2; arg 2; whnf
    go_wp2_with fail
    refine HR.out _ _ ?_ (set_get (by simp [hs])) (hbl _)
    repeat (with_reducible refine Keep.set ?_ _ _ (by decide))
    with_reducible exact Keep.refl _ _ _ _
  · have m3 := run_look_new (P := Tryd.prog) 63 _ _ 2 (.int .i64 5) theMap 2 mapType keyType (.inl ⟨0, rfl⟩)
    unfold theMap at m3
    conv => arg 2; arg 2; whnf
    go_wp2_with fail
    refine HR.out _ _ ?_ (set_get (by simp [hs])) (hbl _)
    repeat (with_reducible refine Keep.set ?_ _ _ (by decide))
    with_reducible exact Keep.refl _ _ _ _
  · have m3 := run_look_new (P := Tryd.prog) 63 _ _ 3 (.int .i64 53) theMap 2 mapType keyType (.inl ⟨1, rfl⟩)
    unfold theMap at m3
    conv => arg 2; arg 2; whnf
    go_wp2_with fail
    refine HR.out _ _ ?_ (set_get (by simp [hs])) (hbl _)
    repeat (with_reducible refine Keep.set ?_ _ _ (by decide))
    with_reducible exact Keep.refl _ _ _ _
noncomputable def ops22 : Array Oper := (Tryd.f14.body.bind (regOf 22)).getD #[]
theorem inW_of {f x y : Int} : Rul.inW f (x, y) = !(decide (y < 0) || decide (6 < y) || (decide (x ≠ 0) && out x (Rul.most f))) := by
  have hm := Rul.most_bd f
  rw [Bool.eq_iff_iff]
  simp [Rul.inW, Rul.btw, out]
  omega
set_option maxRecDepth 100000 in
set_option maxHeartbeats 1000000 in
theorem reg22 (a : Act) (w : World) (Q : Exit → Act → World → Prop) (b : Nat) (f x y : Int) (hs : a.tmps.size = 236) (h9 : a.tmps.getD 9 undef = .pointer (some ⟨b, 0, none⟩)) (h10 : a.tmps.getD 10 undef = .int .i64 (Rul.most f))
    (hc1 : w.cell? ⟨b, 0, none⟩ = some (.int .i64 x)) (hc2 : w.cell? ⟨b, 1, none⟩ = some (.int .i64 y))
    (hR : ∀ t, Keep 108 126 7 a.tmps t → t.getD 7 undef = .bool (!(Rul.inW f (x, y))) → Q .normal ⟨t, a.defers⟩ w) :
    (Code.region 22 ops22 false).wp Tryd.prog Q a w := by
  have g9 := getD_at h9
  have g10 := getD_at h10
  have hm := Rul.most_bd f
  by_cases y0 : y < 0 ∨ 6 < y
  · have E : Rul.inW f (x, y) = false := by rw [inW_of]; simp; omega
    rw [E] at hR
    have HR := Lib.hid hR
    clear hR E
    by_cases y1 : y < 0
    all_goals
      first | (have y2 : 6 < y := by omega) | skip
      clear y0
      conv => arg 2; arg 2; whnf
      go_wp2_with fail
      all_goals first
        | (refine HR.out _ ?_ (set_get (by simp [hs]))
           repeat (with_reducible refine Keep.set ?_ _ _ (by decide))
           with_reducible exact Keep.refl _ _ _ _)
        | (exfalso; rename_i hh _ _ _; exact absurd hh (by simp [undef]))
  · have y1 : ¬ y < 0 := by omega
    have y2 : ¬ 6 < y := by omega
    clear y0
    by_cases x0 : x = 0
    · subst x0
      have E : Rul.inW f (0, y) = true := by rw [inW_of]; simp; omega
      rw [E] at hR
      have HR := Lib.hid hR
      clear hR E
      conv => arg 2; arg 2; whnf
      go_wp2_with fail
      refine HR.out _ ?_ (set_get (by simp [hs]))
      repeat (with_reducible refine Keep.set ?_ _ _ (by decide))
      with_reducible exact Keep.refl _ _ _ _
    · have x1 : (x != 0) = true := by simpa using x0
      have E : Rul.inW f (x, y) = !(out x (Rul.most f)) := by rw [inW_of]; simp [y1, y2, x0]
      rw [E] at hR
      have HR := Lib.hid hR
      clear hR E x0
      conv => arg 2; arg 2; whnf
      go_wp2_with (go_at_call 28; refine (outside_any _ _ _ (by omega) (by omega)).mono ?_; rintro e w' ⟨rfl, rfl⟩)
      refine HR.out _ ?_ ?_
      · repeat (with_reducible refine Keep.set ?_ _ _ (by decide))
        with_reducible exact Keep.refl _ _ _ _
      · rw [set_get (by simp [hs])]; simp
end Go.Proofs.YtoldjleojnlhiaaDoor
