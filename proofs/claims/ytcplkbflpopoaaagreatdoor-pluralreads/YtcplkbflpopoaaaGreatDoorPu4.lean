/-
  Contracts of plural's endsInTeen, isFew, Form, over letters.
-/
import Derived.Test.YtcplkbflpopoaaaGreatDoorEvT
import Derived.Test.YtcplkbflpopoaaaGreatDoorPl4
import Derived.Test.YtcplkbflpopoaaaGreatDoorShelf
import Derived.Lib.ItoaLen
import Derived.WalkLawsBesides
import Derived.Lib.SmallJoins
import Derived.Lib.Hide
namespace Go.Proofs.YtcplkbflpopoaaaGreatDoor
open Go Go.RowKit
theorem teen_any (n : Nat) (h : n ≤ 9223372036854775807) (w : World) : Calls Tryz.prog 38 #[.int .i64 n] w fun e w' => e = .returned (.bool (decide (n / 10 % 10 = 1))) ∧ Below w.heap.size w w' := by
  have key : ∀ b : Bool, Sym [binE .quo (Lt 0) (.int .i64 10) (Lt 1), binE .rem (Lt 1) (.int .i64 10) (Lt 2), binE .eql (Lt 2) (.int .i64 1) (.bool b)] [] 30 38 [Lt 0] (.bool b) := by
    intro b; cases b <;> (delta Sym; show _ = _; kernel_rfl)
  let _ : Ltr := ltrL [.int .i64 n, .int .i64 (n / 10 : Nat), .int .i64 (n / 10 % 10 : Nat)]
  exact symF [.int .i64 n, .int .i64 (n / 10 : Nat), .int .i64 (n / 10 % 10 : Nat)] 30
    (ac (binE_num (is_ltr rfl) (is_flat rfl) (x_quo (m := 10) h (by omega)) (to_ltr rfl rfl)) (ac (binE_num (is_ltr rfl) (is_flat rfl) (x_rem (m := 10) (by omega)) (to_ltr rfl rfl)) (ac (binE_num (is_ltr rfl) (is_flat rfl) (x_eq (m := 1) rfl) (to_flat rfl)) an)))
    an (.cons (.ltr rfl rfl) .nil) rfl (key _)
/-- a call of one letter, known by its contract -/
theorem pe_one [Ltr] {X : Kep} {base : Nat} {f : FuncId} {i : Nat} {u r : Value} (hi : Ltr.v i = some u) (hr : flat r = true) (h : ∀ w, (∀ b, X b → w.heap[b]? = X.ob b) → Calls Tryz.prog f #[u] w fun e w' => e = .returned r ∧ Below w.heap.size w w') : PEOk Tryz.prog X base (f, patP [([Lt i], r)]) :=
  patP_ok (ac (fun E w args' k ha => by
    cases ha with
    | cons h1 t1 =>
      cases t1
      rw [is_ltr hi E _ h1]
      exact (h w k).mono fun e w' p => ⟨_, p.1, .same hr, p.2⟩) an)
end Go.Proofs.YtcplkbflpopoaaaGreatDoor
/-
  The law's Form, over letters: Itoa and HasSuffix by the shelf's contracts.
-/
namespace Go.Proofs.YtcplkbflpopoaaaGreatDoor
open Go Go.RowKit
/-- the table that Itoa reads -/
def Pow (w : World) : Prop := Lib.TabIs Tryz.prog w "internal/strconv.uint64pow10" .u64 Lib.pow10Tab
theorem Pow.keep {w w' : World} (h : Pow w) (k : ∀ b, (kep w) b → w'.heap[b]? = (kep w).ob b) : Pow w' := by
  unfold Pow Lib.TabIs World.var? at *
  cases hg : Tryz.prog.globalNamed "internal/strconv.uint64pow10" with
  | none => simp [hg] at h
  | some g =>
    simp only [hg, Option.bind_some] at h ⊢
    have hlt : g < w.heap.size := by
      rcases Nat.lt_or_ge g w.heap.size with h' | h'
      · exact h'
      · rw [Array.getElem?_eq_none h'] at h; simp at h
    rw [show w'.heap[g]? = w.heap[g]? from k g hlt]
    exact h
theorem dd_len (n : Nat) (h : n ≤ 9223372036854775807) : (Lib.decDigits n).length ≤ 21 := by
  have := Lib.itoa_length_le (n : Int) (by omega) (by omega)
  rwa [Lib.itoa_nonneg] at this
section
variable {X : Kep} {base : Nat}
theorem grow_below {w w' : World} (h : ∃ k os, w' = Go.Sort.grow (w.drewN k) os) : Below w.heap.size w w' := by
  obtain ⟨k, os, rfl⟩ := h
  exact ⟨rfl, rfl, rfl, by simp, fun i hi => Go.Sort.heap_grow_old _ _ (by simpa using hi)⟩
/-- Itoa of a letter -/
theorem pe_itoa [Ltr] {l : List (Nat × Nat)} (hl : ∀ p ∈ l, ∃ n : Nat, n ≤ 9223372036854775807 ∧ Ltr.v p.1 = some (.int .i64 n) ∧ Ltr.v p.2 = some (.string ⟨⟨Lib.decDigits n⟩⟩)) (hP : ∀ w : World, (∀ b, X b → w.heap[b]? = X.ob b) → Pow w) : PEOk Tryz.prog X base (22, patP (l.map fun p => ([Lt p.1], Lt p.2))) :=
  patP_ok fun p hp E w args' k ha => by
    obtain ⟨q, hq, rfl⟩ := List.mem_map.1 hp
    obtain ⟨n, hn, h1, h2⟩ := hl q hq
    cases ha with
    | cons r1 t1 =>
      cases t1
      rw [is_ltr h1 E _ r1]
      refine (Tryz.strconv_Itoa n (by omega) (by omega) w (hP w k)).mono fun e w' p => ⟨_, p.1, ?_, grow_below p.2⟩
      rw [Lib.itoa_nonneg]
      exact .ltr h2 rfl
/-- HasSuffix of a letter and a text -/
theorem pe_suf [Ltr] {i : Nat} {s : List UInt8} (hi : Ltr.v i = some (.string ⟨⟨s⟩⟩)) (hs : s.length ≤ 100) {l : List (List UInt8 × Bool)} (hl : ∀ p ∈ l, Lib.hasSuffix s p.1 = p.2) : PEOk Tryz.prog X base (23, patP (l.map fun p => ([Lt i, .string ⟨⟨p.1⟩⟩], .bool p.2))) :=
  patP_ok fun p hp E w args' k ha => by
    obtain ⟨q, hq, rfl⟩ := List.mem_map.1 hp
    cases ha with
    | cons r1 t1 =>
      cases t1 with
      | cons r2 t2 =>
        cases t2
        rw [is_ltr hi E _ r1, is_flat rfl E _ r2]
        refine (Tryz.strings_HasSuffix ⟨⟨s⟩⟩ ⟨⟨q.1⟩⟩ w (by show s.length ≤ _; omega)).mono fun e w' p => ⟨_, p.1, ?_, by rw [p.2]; exact Below.refl _ _⟩
        rw [show Lib.hasSuffix (⟨⟨s⟩⟩ : ByteArray).data.toList (⟨⟨q.1⟩⟩ : ByteArray).data.toList = q.2 from hl q hq]
        exact .same rfl
end
/-- two texts: the same? -/
theorem s_eq [Ltr] {i : Nat} {s t : List UInt8} {b : Bool} (hi : Ltr.v i = some (.string ⟨⟨s⟩⟩)) (h : decide (s = t) = b) : OEOk Tryz.prog (binT .eql 9 9 (Lt i) (.string ⟨⟨t⟩⟩) (.bool b)) :=
  binT_ok fun o ρ x y E w ho hx hy => by
    have e1 := is_ltr hi E _ hx
    have e2 := is_flat rfl E _ hy
    refine ⟨.bool b, ?_, .same rfl⟩
    subst h
    simp only [execOp, ho, e1, e2]
    go_simp
    rw [Bool.eq_iff_iff]
    simp
end Go.Proofs.YtcplkbflpopoaaaGreatDoor
/-
  Contracts of plural's ending and Ordinal, and of the law's Ordinal, over letters.
-/
namespace Go.Proofs.YtcplkbflpopoaaaGreatDoor
open Go Go.RowKit
theorem eng_any (n : Nat) (h : n ≤ 9223372036854775807) (w : World) : Calls Tryz.prog 41 #[.int .i64 n] w fun e w' => e = .returned (.string ⟨⟨Plu.eng n⟩⟩) ∧ Below w.heap.size w w' := by
  have key : ∀ t a b c : Bool, Sym [binE .rem (Lt 0) (.int .i64 10) (Lt 1), binE .eql (Lt 1) (.int .i64 1) (.bool a), binE .eql (Lt 1) (.int .i64 2) (.bool b), binE .eql (Lt 1) (.int .i64 3) (.bool c)] [(38, patP [([Lt 0], .bool t)])] 30 41 [Lt 0]
      (.string ⟨⟨bif t then [116, 104] else bif a then [115, 116] else bif b then [110, 100] else bif c then [114, 100] else [116, 104]⟩⟩) := by
    intro t a b c; cases t <;> cases a <;> cases b <;> cases c <;> (delta Sym; show _ = _; kernel_rfl)
  let _ : Ltr := ltrL [.int .i64 n, .int .i64 (n % 10 : Nat)]
  refine (symJ 30
    (ac (binE_num (is_ltr rfl) (is_flat rfl) (x_rem (m := 10) (by omega)) (to_ltr rfl rfl)) (ac (binE_num (is_ltr rfl) (is_flat rfl) (x_eq (m := 1) rfl) (to_flat rfl)) (ac (binE_num (is_ltr rfl) (is_flat rfl) (x_eq (m := 2) rfl) (to_flat rfl)) (ac (binE_num (is_ltr rfl) (is_flat rfl) (x_eq (m := 3) rfl) (to_flat rfl)) an))))
    (ac (pe_one rfl rfl fun w' _ => teen_any n h w') an) (.cons (.ltr rfl rfl) .nil) rfl (key _ _ _ _)).mono fun e w' p => ⟨p.1.trans ?_, p.2⟩
  unfold Plu.eng
  by_cases h0 : n / 10 % 10 = 1 <;> by_cases h1 : n % 10 = 1 <;> by_cases h2 : n % 10 = 2 <;> by_cases h3 : n % 10 = 3 <;> simp [h0, h1, h2, h3]
/-- a call of one letter, answered by a letter -/
theorem pe_oneL [Ltr] {X : Kep} {base : Nat} {f : FuncId} {i j : Nat} {u r : Value} (hi : Ltr.v i = some u) (hj : Ltr.v j = some r) (hr : sgl r = true) (h : ∀ w, (∀ b, X b → w.heap[b]? = X.ob b) → Calls Tryz.prog f #[u] w fun e w' => e = .returned r ∧ Below w.heap.size w w') : PEOk Tryz.prog X base (f, patP [([Lt i], Lt j)]) :=
  patP_ok (ac (fun E w args' k ha => by
    cases ha with
    | cons h1 t1 =>
      cases t1
      rw [is_ltr hi E _ h1]
      exact (h w k).mono fun e w' p => ⟨_, p.1, .ltr hj hr, p.2⟩) an)
/-- .. of a number and a letter -/
theorem pat_two [Ltr] {X : Kep} {f : FuncId} {k i j : Nat} {n : Nat} {u : Value} (hi : Ltr.v i = some (.int .i64 n)) (hj : Ltr.v j = some u) (hu : sgl u = true) (h : ∀ w : World, (∀ b, X b → w.heap[b]? = X.ob b) → Calls Tryz.prog f #[.int .i64 k, .int .i64 n] w fun e w' => e = .returned u ∧ Below w.heap.size w w') :
    ∀ (E : Ren) (w : World) (args' : List Value), (∀ b, X b → w.heap[b]? = X.ob b) → RelL E [.int .i64 k, Lt i] args' → Calls Tryz.prog f ⟨args'⟩ w fun e w' => ∃ v', e = .returned v' ∧ Rel E (Lt j) v' ∧ Below w.heap.size w w' := fun E w args' k ha => by
  cases ha with
  | cons r1 t1 =>
    cases t1 with
    | cons r2 t2 =>
      cases t2
      rw [is_flat rfl E _ r1, is_ltr hi E _ r2]
      exact (h w k).mono fun e w' p => ⟨_, p.1, .ltr hj hu, p.2⟩
theorem ending_any (s n : Nat) (hs : s < 3) (h : n ≤ 9223372036854775807) (w : World) : Calls Tryz.prog 24 #[.int .i64 s, .int .i64 n] w fun e w' => e = .returned (.string ⟨⟨Plu.endg s n⟩⟩) ∧ Below w.heap.size w w' := by
  have e : s = 0 ∨ s = 1 ∨ s = 2 := by omega
  rcases e with rfl | rfl | rfl
  · let _ : Ltr := ltrL [.int .i64 n, .string ⟨⟨Plu.eng n⟩⟩]
    exact symL [.int .i64 n, .string ⟨⟨Plu.eng n⟩⟩] 30 (O := []) (l := [(41, patP [([Lt 0], Lt 1)])]) (i := 1) (args := [.int .i64 (0 : Nat), Lt 0]) an (ac (pe_oneL rfl rfl rfl fun w' _ => eng_any n h w') an) (.cons (.same rfl) (.cons (.ltr rfl rfl) .nil)) rfl (by delta Sym; show _ = _; kernel_rfl)
  · have key : ∀ a : Bool, Sym [binE .eql (Lt 0) (.int .i64 1) (.bool a)] [] 30 24 [.int .i64 (1 : Nat), Lt 0] (.string ⟨⟨bif a then [101, 114] else [101]⟩⟩) := by
      intro a; cases a <;> (delta Sym; show _ = _; kernel_rfl)
    let _ : Ltr := ltrL [.int .i64 n]
    refine (symJ 30 (ac (binE_num (is_ltr rfl) (is_flat rfl) (x_eq (m := 1) rfl) (to_flat rfl)) an) an (.cons (.same rfl) (.cons (.ltr rfl rfl) .nil)) rfl (key _)).mono fun e w' p => ⟨p.1.trans ?_, p.2⟩
    unfold Plu.endg
    by_cases h1 : n = 1 <;> simp [h1]
  · let _ : Ltr := ltrL [.int .i64 n]
    exact symJ 30 (O := []) (l := []) (args := [.int .i64 (2 : Nat), Lt 0]) an an (.cons (.same rfl) (.cons (.ltr rfl rfl) .nil)) rfl (by delta Sym; show _ = _; kernel_rfl)
/-- two texts, one behind the other -/
theorem s_add [Ltr] {x y : Value} {j : Nat} {s t u : List UInt8} (hx : ∀ (E : Ren) z, Rel E x z → z = .string ⟨⟨s⟩⟩) (hy : ∀ (E : Ren) z, Rel E y z → z = .string ⟨⟨t⟩⟩) (hj : Ltr.v j = some (.string ⟨⟨u⟩⟩)) (hu : s ++ t = u) (hl : s.length + t.length ≤ 1000000) : OEOk Tryz.prog (binT .add 9 9 x y (Lt j)) :=
  binT_ok fun o ρ a b E w ho ha hb => by
    have e1 := hx E _ ha
    have e2 := hy E _ hb
    subst hu
    refine ⟨.string ⟨⟨s ++ t⟩⟩, ?_, .ltr hj rfl⟩
    have h1 : (⟨⟨s⟩⟩ : ByteArray) ++ ⟨⟨t⟩⟩ = ⟨⟨s ++ t⟩⟩ := by
      apply ByteArray.ext
      simp [ByteArray.data_append]
    have h2 : (⟨⟨s⟩⟩ : ByteArray).size + (⟨⟨t⟩⟩ : ByteArray).size ≤ 1000000 := hl
    rw [← h1]
    simp only [execOp, ho, e1, e2]
    go_simp
    omega
theorem ord_any (s n : Nat) (hs : s < 3) (h : n ≤ 9223372036854775807) (w : World) (hP : Pow w) : Calls Tryz.prog 12 #[.int .i64 s, .int .i64 n] w fun e w' => e = .returned (.string ⟨⟨Plu.ord s n⟩⟩) ∧ Below w.heap.size w w' := by
  have key : ∀ s : Nat, s < 3 → Sym [binT .add 9 9 (Lt 1) (Lt 2) (Lt 3)] [(22, patP ([(0, 1)].map fun p => ([Lt p.1], Lt p.2))), (24, patP [([.int .i64 s, Lt 0], Lt 2)])] 30 12 [.int .i64 s, Lt 0] (Lt 3) := by
    intro s hs
    have e : s = 0 ∨ s = 1 ∨ s = 2 := by omega
    clear hs
    rcases e with rfl | rfl | rfl <;> (delta Sym; show _ = _; kernel_rfl)
  let L : List Value := [.int .i64 n, .string ⟨⟨Lib.decDigits n⟩⟩, .string ⟨⟨Plu.endg s n⟩⟩, .string ⟨⟨Plu.ord s n⟩⟩]
  let _ : Ltr := ltrL L
  have l1 := dd_len n h
  have l2 := Plu.endg_len s n
  exact symL L 30 (ac (s_add (is_ltr rfl) (is_ltr rfl) rfl rfl (by omega)) an) (ac (pe_itoa (ac ⟨n, h, rfl, rfl⟩ an) fun w' k => hP.keep k) (ac (patP_ok (ac (pat_two rfl rfl rfl fun w' _ => ending_any s n hs h w') an)) an)) (.cons (.same rfl) (.cons (.ltr rfl rfl) .nil)) rfl (key s hs)
/-- Itoa of letters and numbers -/
theorem pe_itoa2 [Ltr] {X : Kep} {base : Nat} {l : List (Value × Value)} (hl : ∀ p ∈ l, ∃ n : Nat, n ≤ 9223372036854775807 ∧ (∀ (E : Ren) z, Rel E p.1 z → z = .int .i64 n) ∧ ∀ E : Ren, Rel E p.2 (.string ⟨⟨Lib.decDigits n⟩⟩)) (hP : ∀ w : World, (∀ b, X b → w.heap[b]? = X.ob b) → Pow w) : PEOk Tryz.prog X base (22, patP (l.map fun p => ([p.1], p.2))) :=
  patP_ok fun p hp E w args' k ha => by
    obtain ⟨q, hq, rfl⟩ := List.mem_map.1 hp
    obtain ⟨n, hn, h1, h2⟩ := hl q hq
    cases ha with
    | cons r1 t1 =>
      cases t1
      rw [h1 E _ r1]
      refine (Tryz.strconv_Itoa n (by omega) (by omega) w (hP w k)).mono fun e w' p => ⟨_, p.1, ?_, grow_below p.2⟩
      rw [Lib.itoa_nonneg]
      exact h2 E
theorem small_it [Ltr] (d : Nat) (hd : d < 10) : ∃ n : Nat, n ≤ 9223372036854775807 ∧ (∀ (E : Ren) z, Rel E (.int .i64 d) z → z = .int .i64 n) ∧ ∀ E : Ren, Rel E (.string ⟨⟨[UInt8.ofNat (48 + d)]⟩⟩) (.string ⟨⟨Lib.decDigits n⟩⟩) :=
  ⟨d, by omega, is_flat rfl, fun E => by rw [Lib.decDigits_one hd]; exact .same rfl⟩
theorem lord_any (s n : Nat) (hs : s < 3) (h : n ≤ 9223372036854775807) (w : World) (hP : Pow w) : Calls Tryz.prog 14 #[.int .i64 s, .int .i64 n] w fun e w' => e = .returned (.string ⟨⟨Plu.ord s n⟩⟩) ∧ Below w.heap.size w w' := by
  let L : List Value := [.int .i64 n, .string ⟨⟨Lib.decDigits n⟩⟩, .string ⟨⟨Lib.decDigits n ++ [46]⟩⟩, .string ⟨⟨Lib.decDigits n ++ [101]⟩⟩, .string ⟨⟨Lib.decDigits n ++ [115, 116]⟩⟩, .string ⟨⟨Lib.decDigits n ++ [110, 100]⟩⟩, .string ⟨⟨Lib.decDigits n ++ [114, 100]⟩⟩, .string ⟨⟨Lib.decDigits n ++ [116, 104]⟩⟩]
  let _ : Ltr := ltrL L
  have l1 := dd_len n h
  have e : s = 0 ∨ s = 1 ∨ s = 2 := by omega
  rcases e with rfl | rfl | rfl
  · have key : ∀ d : Nat, d < 4 → ∀ t : Bool, Sym [binT .add 9 9 (Lt 1) (.string ⟨⟨[115, 116]⟩⟩) (Lt 4), binT .add 9 9 (Lt 1) (.string ⟨⟨[110, 100]⟩⟩) (Lt 5), binT .add 9 9 (Lt 1) (.string ⟨⟨[114, 100]⟩⟩) (Lt 6), binT .add 9 9 (Lt 1) (.string ⟨⟨[116, 104]⟩⟩) (Lt 7)]
        [(22, patP ([(Lt 0, Lt 1), (.int .i64 (1 : Nat), .string ⟨⟨[UInt8.ofNat (48 + 1)]⟩⟩), (.int .i64 (2 : Nat), .string ⟨⟨[UInt8.ofNat (48 + 2)]⟩⟩), (.int .i64 (3 : Nat), .string ⟨⟨[UInt8.ofNat (48 + 3)]⟩⟩)].map fun p => ([p.1], p.2))),
          (23, patP ([([49], Nat.beq d 1), ([50], Nat.beq d 2), ([51], Nat.beq d 3), ([49, 49], Nat.beq d 1 && t), ([49, 50], Nat.beq d 2 && t), ([49, 51], Nat.beq d 3 && t)].map fun p => ([Lt 1, .string ⟨⟨p.1⟩⟩], .bool p.2)))]
        60 14 [.int .i64 (0 : Nat), Lt 0] (Lt (4 + Plu.eno d t)) := by
      intro d hd t
      have e' : d = 0 ∨ d = 1 ∨ d = 2 ∨ d = 3 := by omega
      clear hd
      rcases e' with rfl | rfl | rfl | rfl <;> cases t <;> (delta Sym; show _ = _; kernel_rfl)
    have d1 := Plu.suf_digit n 1 (by omega)
    have d2 := Plu.suf_digit n 2 (by omega)
    have d3 := Plu.suf_digit n 3 (by omega)
    have t1 := Plu.suf_teen n 1 (by omega)
    have t2 := Plu.suf_teen n 2 (by omega)
    have t3 := Plu.suf_teen n 3 (by omega)
    rw [Plu.dgo_1] at d1 t1
    rw [Plu.dgo_2] at d2 t2
    rw [Plu.dgo_3] at d3 t3
    refine symL L 60 (u := .string ⟨⟨Plu.ord 0 n⟩⟩) (ac (s_add (is_ltr rfl) (is_flat rfl) rfl rfl (by simp; omega)) (ac (s_add (is_ltr rfl) (is_flat rfl) rfl rfl (by simp; omega)) (ac (s_add (is_ltr rfl) (is_flat rfl) rfl rfl (by simp; omega)) (ac (s_add (is_ltr rfl) (is_flat rfl) rfl rfl (by simp; omega)) an))))
      (ac (pe_itoa2 (ac ⟨n, h, is_ltr rfl, to_ltr rfl rfl⟩ (ac (small_it 1 (by omega)) (ac (small_it 2 (by omega)) (ac (small_it 3 (by omega)) an)))) fun w' k => hP.keep k) (ac (pe_suf rfl (Nat.le_trans l1 (by omega)) (ac d1 (ac d2 (ac d3 (ac t1 (ac t2 (ac t3 an))))))) an))
      (.cons (.same rfl) (.cons (.ltr rfl rfl) .nil)) ?_ (key (Plu.dgo n) (Plu.dgo_lt n) (decide (n / 10 % 10 = 1)))
    show L[4 + Plu.eno (Plu.dgo n) (decide (n / 10 % 10 = 1))]? = some (.string ⟨⟨Lib.decDigits n ++ Plu.eng n⟩⟩)
    rw [Plu.eng_eno n]
    have hd := Plu.dgo_lt n
    generalize decide (n / 10 % 10 = 1) = t
    generalize Plu.dgo n = d at hd
    have e' : d = 0 ∨ d = 1 ∨ d = 2 ∨ d = 3 := by omega
    rcases e' with rfl | rfl | rfl | rfl <;> cases t <;> rfl
  · by_cases h1 : n = 1
    · refine (symJ 60 (O := [binT .eql 9 9 (Lt 1) (.string ⟨⟨[49]⟩⟩) (.bool true)]) (l := [(22, patP ([(0, 1)].map fun p => ([Lt p.1], Lt p.2)))]) (args := [.int .i64 (1 : Nat), Lt 0]) (v := .string ⟨⟨[49, 101, 114]⟩⟩) (ac (s_eq rfl (decide_eq_true ((Plu.dd_is n 1 (by omega)).2 h1))) an) (ac (pe_itoa (ac ⟨n, h, rfl, rfl⟩ an) fun w' k => hP.keep k) an) (.cons (.same rfl) (.cons (.ltr rfl rfl) .nil)) rfl (by delta Sym; show _ = _; kernel_rfl)).mono fun e w' p => ⟨p.1.trans ?_, p.2⟩
      have := (Plu.dd_is n 1 (by omega)).2 h1
      unfold Plu.ord
      rw [this, h1]
      rfl
    · refine symL L 60 (O := [binT .eql 9 9 (Lt 1) (.string ⟨⟨[49]⟩⟩) (.bool false), binT .add 9 9 (Lt 1) (.string ⟨⟨[101]⟩⟩) (Lt 3)]) (l := [(22, patP ([(0, 1)].map fun p => ([Lt p.1], Lt p.2)))]) (args := [.int .i64 (1 : Nat), Lt 0]) (i := 3)
        (ac (s_eq rfl (decide_eq_false fun e => h1 ((Plu.dd_is n 1 (by omega)).1 e))) (ac (s_add (is_ltr rfl) (is_flat rfl) rfl rfl (by simp; omega)) an)) (ac (pe_itoa (ac ⟨n, h, rfl, rfl⟩ an) fun w' k => hP.keep k) an) (.cons (.same rfl) (.cons (.ltr rfl rfl) .nil)) ?_ (by delta Sym; show _ = _; kernel_rfl)
      simp [L, Plu.ord, Plu.endg, h1]
  · exact symL L 60 (O := [binT .add 9 9 (Lt 1) (.string ⟨⟨[46]⟩⟩) (Lt 2)]) (l := [(22, patP ([(0, 1)].map fun p => ([Lt p.1], Lt p.2)))]) (args := [.int .i64 (2 : Nat), Lt 0]) (i := 2)
      (ac (s_add (is_ltr rfl) (is_flat rfl) rfl rfl (by simp; omega)) an) (ac (pe_itoa (ac ⟨n, h, rfl, rfl⟩ an) fun w' k => hP.keep k) an) (.cons (.same rfl) (.cons (.ltr rfl rfl) .nil)) rfl (by delta Sym; show _ = _; kernel_rfl)
end Go.Proofs.YtcplkbflpopoaaaGreatDoor
/-
  Contract of plural's digits: how many digits a text begins with.
-/
namespace Go.Proofs.YtcplkbflpopoaaaGreatDoor
open Go.RowKit
set_option maxHeartbeats 1000000 in
theorem lead_any (s : ByteArray) (w : World) (hs : s.size ≤ 1000000) : Calls Tryz.prog 25 #[.string s] w fun e w' => e = .returned (.int .i64 (Plu.lead s.data.toList)) ∧ w = w' := by
  have hl : Plu.lead s.data.toList ≤ s.size := Plu.lead_le _
  have HA := Lib.hid (fun (k : Nat) (h : k < Plu.lead s.data.toList) (h' : k < s.size) => (show 48 ≤ s[k].toNat ∧ s[k].toNat ≤ 57 by
    have : Plu.isd s[k] = true := Plu.lead_at h h'
    simp only [Plu.isd, Bool.and_eq_true, decide_eq_true_eq] at this
    exact this))
  have HE := Lib.hid (fun (h : Plu.lead s.data.toList < s.size) => (show ¬ (48 ≤ s[Plu.lead s.data.toList].toNat ∧ s[Plu.lead s.data.toList].toNat ≤ 57) by
    have := Plu.lead_end (l := s.data.toList) h
    intro hh
    have e : Plu.isd s[Plu.lead s.data.toList] = true := by simp [Plu.isd, hh.1, hh.2]
    rw [show s[Plu.lead s.data.toList] = s.data.toList[Plu.lead s.data.toList]'h from rfl, this] at e
    cases e))
  generalize Plu.lead s.data.toList = m at *
  go_enter Tryz.func25, Tryz.ntmps25
  go_wp2
  go_loop [3] (fun i => ∃ k : Nat, k ≤ m ∧ i = .int .i64 k) (fun i => m - (intOf i).toNat)
  case atStart => exact ⟨0, Nat.zero_le _, rfl⟩
  case round =>
    obtain ⟨k, hk, rfl⟩ := hrel
    by_cases hlt : k < m
    · have hks : k < s.size := by omega
      obtain ⟨c1, c2⟩ := HA.out k hlt hks
      go_wp2
      go_round
      case rel => exact ⟨k + 1, by omega, by go_num⟩
      case measure => simp [intOf]; omega
    · obtain rfl : k = m := by omega
      by_cases hks : k < s.size
      · have hn := HE.out hks
        by_cases c1 : 48 ≤ s[k].toNat
        · have c2 : 57 < s[k].toNat := by omega
          clear hn
          go_wp2
          go_ret
          exact ⟨rfl, rfl⟩
        · clear hn
          go_wp2
          go_ret
          exact ⟨rfl, rfl⟩
      · go_wp2
        go_ret
        exact ⟨rfl, rfl⟩
open Go
/-- a text's beginning, as long as a letter says -/
theorem s_take [Ltr] {i j k d : Nat} {t : List UInt8} (hi : Ltr.v i = some (.string ⟨⟨t⟩⟩)) (hk : Ltr.v k = some (.int .i64 d)) (hj : Ltr.v j = some (.string ⟨⟨t.take d⟩⟩)) (h : d ≤ t.length) : OEOk Tryz.prog (cutE 9 (Lt i) (Lt k) (Lt j)) :=
  cutE_ok fun o ρ a b E w ho ha hb => by
    have e1 := is_ltr hi E _ ha
    have e2 := is_ltr hk E _ hb
    refine ⟨.string ⟨⟨t.take d⟩⟩, ?_, .ltr hj rfl⟩
    have e : (⟨⟨t⟩⟩ : ByteArray).extract 0 d = ⟨⟨t.take d⟩⟩ := by
      have h := Lib.extract_from_zero ⟨⟨t⟩⟩ d
      apply ByteArray.ext
      apply Array.ext'
      rw [h]
    have hz : d ≤ (⟨⟨t⟩⟩ : ByteArray).size := h
    rw [← e]
    simp only [execOp, ho, e1]
    go_simp
theorem s_ne [Ltr] {i j : Nat} {s t : List UInt8} {b : Bool} (hi : Ltr.v i = some (.string ⟨⟨s⟩⟩)) (hj : Ltr.v j = some (.string ⟨⟨t⟩⟩)) (h : decide (s ≠ t) = b) : OEOk Tryz.prog (binT .neq 9 9 (Lt i) (Lt j) (.bool b)) :=
  binT_ok fun o ρ x y E w ho hx hy => by
    have e1 := is_ltr hi E _ hx
    have e2 := is_ltr hj E _ hy
    refine ⟨.bool b, ?_, .same rfl⟩
    subst h
    simp only [execOp, ho, e1, e2]
    go_simp
    rw [Bool.eq_iff_iff]
    simp
/-- what Read answers where the digits are a number -/
def rdv (s v most : Nat) (t : List UInt8) : Value := bif decide (v < 1) || decide (most < v) || decide (Plu.ord s v ≠ t) then .tuple ⟨[.int .i64 0, .bool false]⟩ else .tuple ⟨[.int .i64 v, .bool true]⟩
theorem read_ok (s : Nat) (t : List UInt8) (v most : Nat) (hs : s < 3) (ht : t.length ≤ 1000) (hv : Lib.atoiAll (t.take (Plu.lead t)) = .ok (v : Int)) (_hm : most ≤ 9223372036854775807) (w : World) (hP : Pow w) : Calls Tryz.prog 13 #[.int .i64 s, .string ⟨⟨t⟩⟩, .int .i64 most] w fun e w' => e = .returned (rdv s v most t) ∧ Below w.heap.size w w' := by
  have key : ∀ s : Nat, s < 3 → ∀ a b c : Bool, Sym [cutE 9 (Lt 0) (Lt 1) (Lt 2), binE .lss (Lt 3) (.int .i64 1) (.bool a), binE .gtr (Lt 3) (Lt 4) (.bool b), binT .neq 9 9 (Lt 5) (Lt 0) (.bool c)]
      [(25, patP [([Lt 0], Lt 1)]), (15, patP [([Lt 2], .tuple ⟨[Lt 3, .nilIface]⟩)]), (12, patP [([.int .i64 s, Lt 3], Lt 5)])] 40 13 [.int .i64 s, Lt 0, Lt 4]
      (bif a || b || c then .tuple ⟨[.int .i64 0, .bool false]⟩ else .tuple ⟨[Lt 3, .bool true]⟩) := by
    intro s hs a b c
    have e : s = 0 ∨ s = 1 ∨ s = 2 := by omega
    clear hs
    rcases e with rfl | rfl | rfl <;> cases a <;> cases b <;> cases c <;> (delta Sym; show _ = _; kernel_rfl)
  have hvm := Lib.atoiAll_bounds hv
  have hl := Plu.lead_le t
  let L : List Value := [.string ⟨⟨t⟩⟩, .int .i64 (Plu.lead t), .string ⟨⟨t.take (Plu.lead t)⟩⟩, .int .i64 v, .int .i64 most, .string ⟨⟨Plu.ord s v⟩⟩]
  let _ : Ltr := ltrL L
  refine (symI (n := 40) (ac (s_take rfl rfl rfl hl) (ac (binE_num (is_ltr rfl) (is_flat rfl) (x_lt (m := 1) rfl) (to_flat rfl)) (ac (binE_num (is_ltr rfl) (is_ltr rfl) (x_gt rfl) (to_flat rfl)) (ac (s_ne rfl rfl rfl) an))))
    (ac (pe_oneL rfl rfl rfl fun w' _ => (lead_any ⟨⟨t⟩⟩ w' (by show t.length ≤ _; omega)).mono fun e w2 p => ⟨p.1, by rw [← p.2]; exact Below.refl _ _⟩)
      (ac (patP_ok (ac (fun E w' args' k ha => ?_) an)) (ac (patP_ok (ac (pat_two rfl rfl rfl fun w' k => ord_any s v hs (by omega) w' (hP.keep k)) an)) an)))
    (.cons (.same rfl) (.cons (.ltr rfl rfl) (.cons (.ltr rfl rfl) .nil))) (key s hs _ _ _)).mono fun e w' p => ?_
  · cases ha with
    | cons r1 t1 =>
      cases t1
      rw [is_ltr (u := .string ⟨⟨t.take (Plu.lead t)⟩⟩) rfl E _ r1]
      refine (Tryz.strconv_Atoi_ok ⟨⟨t.take (Plu.lead t)⟩⟩ (by show (t.take _).length ≤ _; simp; omega) v hv w').mono fun e w2 p => ⟨_, p.1, .tuple (.cons (.ltr rfl rfl) (.cons (.same rfl) .nil)), ?_⟩
      rcases p.2 with rfl | ⟨t, rfl⟩
      · exact Below.refl _ _
      · exact Go.Joins.below_bytesWorld _ _ _ _ (Nat.le_refl _)
  · obtain ⟨v', F, rfl, r, b⟩ := p
    refine ⟨?_, b⟩
    unfold rdv
    generalize (decide (v < 1) || decide (most < v) || decide (Plu.ord s v ≠ t)) = q at r ⊢
    cases q with
    | true => rw [fl3_eq rfl r]; rfl
    | false =>
      have r' : Rel F (.tuple ⟨[Lt 3, .bool true]⟩) v' := r
      cases r' with
      | same hf => cases hf
      | tuple h =>
        cases h with
        | cons h1 t1 =>
          cases t1 with
          | cons h2 t2 =>
            cases t2
            rw [is_ltr (u := .int .i64 v) rfl F _ h1, h2.bool]
            rfl
end Go.Proofs.YtcplkbflpopoaaaGreatDoor
