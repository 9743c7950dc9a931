/-
  Contracts of plural's ending and Ordinal, and of the law's Ordinal, over letters.
-/
import Derived.Test.YtcplkbflpopoaaaGreatDoorPu2
import Derived.Test.YtcplkbflpopoaaaGreatDoorPl2
namespace Go.Proofs.YtcplkbflpopoaaaGreatDoor
open Go Go.RowKit
theorem eng_any (n : Nat) (h : n ≤ 9223372036854775807) (w : World) : Calls Tryz.prog 41 #[.int .i64 n] w fun e w' => e = .returned (.string ⟨⟨Plu.eng n⟩⟩) ∧ Below w.heap.size w w' := by
  have key : ∀ t a b c : Bool, Sym [binE .rem (Lt 0) (.int .i64 10) (Lt 1), binE .eql (Lt 1) (.int .i64 1) (.bool a), binE .eql (Lt 1) (.int .i64 2) (.bool b), binE .eql (Lt 1) (.int .i64 3) (.bool c)] [(38, patP [([Lt 0], .bool t)])] 30 41 [Lt 0]
      (.string ⟨⟨bif t then [116, 104] else bif a then [115, 116] else bif b then [110, 100] else bif c then [114, 100] else [116, 104]⟩⟩) := by
    intro t a b c; cases t <;> cases a <;> cases b <;> cases c <;> (delta Sym; show _ = _; kernel_rfl)
  let _ : Ltr := ltrL [.int .i64 n, .int .i64 (n % 10 : Nat)]
  refine (symJ 30
    (ac (binE_num (is_ltr rfl) (is_flat rfl) (x_rem (m := 10) (by omega)) (to_ltr rfl rfl)) (ac (binE_num (is_ltr rfl) (is_flat rfl) (x_eq (m := 1) rfl) (to_flat rfl)) (ac (binE_num (is_ltr rfl) (is_flat rfl) (x_eq (m := 2) rfl) (to_flat rfl)) (ac (binE_num (is_ltr rfl) (is_flat rfl) (x_eq (m := 3) rfl) (to_flat rfl)) an))))
    (ac (pe_one rfl rfl fun w' _ => teen_any n h w') an) (.cons (.ltr rfl rfl) .nil) rfl (key _ _ _ _)).mono fun e w' p => ⟨p.1.trans ?_, p.2⟩
  unfold Plu.eng
  by_cases h0 : n / 10 % 10 = 1 <;> by_cases h1 : n % 10 = 1 <;> by_cases h2 : n % 10 = 2 <;> by_cases h3 : n % 10 = 3 <;> simp [h0, h1, h2, h3]
/-- a call of one letter, answered by a letter -/
theorem pe_oneL [Ltr] {X : Kep} {base : Nat} {f : FuncId} {i j : Nat} {u r : Value} (hi : Ltr.v i = some u) (hj : Ltr.v j = some r) (hr : sgl r = true) (h : ∀ w, (∀ b, X b → w.heap[b]? = X.ob b) → Calls Tryz.prog f #[u] w fun e w' => e = .returned r ∧ Below w.heap.size w w') : PEOk Tryz.prog X base (f, patP [([Lt i], Lt j)]) :=
  patP_ok (ac (fun E w args' k ha => by
    cases ha with
    | cons h1 t1 =>
      cases t1
      rw [is_ltr hi E _ h1]
      exact (h w k).mono fun e w' p => ⟨_, p.1, .ltr hj hr, p.2⟩) an)
/-- .. of a number and a letter -/
theorem pat_two [Ltr] {X : Kep} {f : FuncId} {k i j : Nat} {n : Nat} {u : Value} (hi : Ltr.v i = some (.int .i64 n)) (hj : Ltr.v j = some u) (hu : sgl u = true) (h : ∀ w : World, (∀ b, X b → w.heap[b]? = X.ob b) → Calls Tryz.prog f #[.int .i64 k, .int .i64 n] w fun e w' => e = .returned u ∧ Below w.heap.size w w') :
    ∀ (E : Ren) (w : World) (args' : List Value), (∀ b, X b → w.heap[b]? = X.ob b) → RelL E [.int .i64 k, Lt i] args' → Calls Tryz.prog f ⟨args'⟩ w fun e w' => ∃ v', e = .returned v' ∧ Rel E (Lt j) v' ∧ Below w.heap.size w w' := fun E w args' k ha => by
  cases ha with
  | cons r1 t1 =>
    cases t1 with
    | cons r2 t2 =>
      cases t2
      rw [is_flat rfl E _ r1, is_ltr hi E _ r2]
      exact (h w k).mono fun e w' p => ⟨_, p.1, .ltr hj hu, p.2⟩
theorem ending_any (s n : Nat) (hs : s < 3) (h : n ≤ 9223372036854775807) (w : World) : Calls Tryz.prog 24 #[.int .i64 s, .int .i64 n] w fun e w' => e = .returned (.string ⟨⟨Plu.endg s n⟩⟩) ∧ Below w.heap.size w w' := by
  have e : s = 0 ∨ s = 1 ∨ s = 2 := by omega
  rcases e with rfl | rfl | rfl
  · let _ : Ltr := ltrL [.int .i64 n, .string ⟨⟨Plu.eng n⟩⟩]
    exact symL [.int .i64 n, .string ⟨⟨Plu.eng n⟩⟩] 30 (O := []) (l := [(41, patP [([Lt 0], Lt 1)])]) (i := 1) (args := [.int .i64 (0 : Nat), Lt 0]) an (ac (pe_oneL rfl rfl rfl fun w' _ => eng_any n h w') an) (.cons (.same rfl) (.cons (.ltr rfl rfl) .nil)) rfl (by delta Sym; show _ = _; kernel_rfl)
  · have key : ∀ a : Bool, Sym [binE .eql (Lt 0) (.int .i64 1) (.bool a)] [] 30 24 [.int .i64 (1 : Nat), Lt 0] (.string ⟨⟨bif a then [101, 114] else [101]⟩⟩) := by
      intro a; cases a <;> (delta Sym; show _ = _; kernel_rfl)
    let _ : Ltr := ltrL [.int .i64 n]
    refine (symJ 30 (ac (binE_num (is_ltr rfl) (is_flat rfl) (x_eq (m := 1) rfl) (to_flat rfl)) an) an (.cons (.same rfl) (.cons (.ltr rfl rfl) .nil)) rfl (key _)).mono fun e w' p => ⟨p.1.trans ?_, p.2⟩
    unfold Plu.endg
    by_cases h1 : n = 1 <;> simp [h1]
  · let _ : Ltr := ltrL [.int .i64 n]
    exact symJ 30 (O := []) (l := []) (args := [.int .i64 (2 : Nat), Lt 0]) an an (.cons (.same rfl) (.cons (.ltr rfl rfl) .nil)) rfl (by delta Sym; show _ = _; kernel_rfl)
/-- two texts, one behind the other -/
theorem s_add [Ltr] {x y : Value} {j : Nat} {s t u : List UInt8} (hx : ∀ (E : Ren) z, Rel E x z → z = .string ⟨⟨s⟩⟩) (hy : ∀ (E : Ren) z, Rel E y z → z = .string ⟨⟨t⟩⟩) (hj : Ltr.v j = some (.string ⟨⟨u⟩⟩)) (hu : s ++ t = u) (hl : s.length + t.length ≤ 1000000) : OEOk Tryz.prog (binT .add 9 9 x y (Lt j)) :=
  binT_ok fun o ρ a b E w ho ha hb => by
    have e1 := hx E _ ha
    have e2 := hy E _ hb
    subst hu
    refine ⟨.string ⟨⟨s ++ t⟩⟩, ?_, .ltr hj rfl⟩
    have h1 : (⟨⟨s⟩⟩ : ByteArray) ++ ⟨⟨t⟩⟩ = ⟨⟨s ++ t⟩⟩ := by
      apply ByteArray.ext
      simp [ByteArray.data_append]
    have h2 : (⟨⟨s⟩⟩ : ByteArray).size + (⟨⟨t⟩⟩ : ByteArray).size ≤ 1000000 := hl
    rw [← h1]
    simp only [execOp, ho, e1, e2]
    go_simp
    omega
theorem ord_any (s n : Nat) (hs : s < 3) (h : n ≤ 9223372036854775807) (w : World) (hP : Pow w) : Calls Tryz.prog 12 #[.int .i64 s, .int .i64 n] w fun e w' => e = .returned (.string ⟨⟨Plu.ord s n⟩⟩) ∧ Below w.heap.size w w' := by
  have key : ∀ s : Nat, s < 3 → Sym [binT .add 9 9 (Lt 1) (Lt 2) (Lt 3)] [(22, patP ([(0, 1)].map fun p => ([Lt p.1], Lt p.2))), (24, patP [([.int .i64 s, Lt 0], Lt 2)])] 30 12 [.int .i64 s, Lt 0] (Lt 3) := by
    intro s hs
    have e : s = 0 ∨ s = 1 ∨ s = 2 := by omega
    clear hs
    rcases e with rfl | rfl | rfl <;> (delta Sym; show _ = _; kernel_rfl)
  let L : List Value := [.int .i64 n, .string ⟨⟨Lib.decDigits n⟩⟩, .string ⟨⟨Plu.endg s n⟩⟩, .string ⟨⟨Plu.ord s n⟩⟩]
  let _ : Ltr := ltrL L
  have l1 := dd_len n h
  have l2 := Plu.endg_len s n
  exact symL L 30 (ac (s_add (is_ltr rfl) (is_ltr rfl) rfl rfl (by omega)) an) (ac (pe_itoa (ac ⟨n, h, rfl, rfl⟩ an) fun w' k => hP.keep k) (ac (patP_ok (ac (pat_two rfl rfl rfl fun w' _ => ending_any s n hs h w') an)) an)) (.cons (.same rfl) (.cons (.ltr rfl rfl) .nil)) rfl (key s hs)
/-- Itoa of letters and numbers -/
theorem pe_itoa2 [Ltr] {X : Kep} {base : Nat} {l : List (Value × Value)} (hl : ∀ p ∈ l, ∃ n : Nat, n ≤ 9223372036854775807 ∧ (∀ (E : Ren) z, Rel E p.1 z → z = .int .i64 n) ∧ ∀ E : Ren, Rel E p.2 (.string ⟨⟨Lib.decDigits n⟩⟩)) (hP : ∀ w : World, (∀ b, X b → w.heap[b]? = X.ob b) → Pow w) : PEOk Tryz.prog X base (22, patP (l.map fun p => ([p.1], p.2))) :=
  patP_ok fun p hp E w args' k ha => by
    obtain ⟨q, hq, rfl⟩ := List.mem_map.1 hp
    obtain ⟨n, hn, h1, h2⟩ := hl q hq
    cases ha with
    | cons r1 t1 =>
      cases t1
      rw [h1 E _ r1]
      refine (Tryz.strconv_Itoa n (by omega) (by omega) w (hP w k)).mono fun e w' p => ⟨_, p.1, ?_, grow_below p.2⟩
      rw [Lib.itoa_nonneg]
      exact h2 E
theorem small_it [Ltr] (d : Nat) (hd : d < 10) : ∃ n : Nat, n ≤ 9223372036854775807 ∧ (∀ (E : Ren) z, Rel E (.int .i64 d) z → z = .int .i64 n) ∧ ∀ E : Ren, Rel E (.string ⟨⟨[UInt8.ofNat (48 + d)]⟩⟩) (.string ⟨⟨Lib.decDigits n⟩⟩) :=
  ⟨d, by omega, is_flat rfl, fun E => by rw [Lib.decDigits_one hd]; exact .same rfl⟩
theorem lord_any (s n : Nat) (hs : s < 3) (h : n ≤ 9223372036854775807) (w : World) (hP : Pow w) : Calls Tryz.prog 14 #[.int .i64 s, .int .i64 n] w fun e w' => e = .returned (.string ⟨⟨Plu.ord s n⟩⟩) ∧ Below w.heap.size w w' := by
  let L : List Value := [.int .i64 n, .string ⟨⟨Lib.decDigits n⟩⟩, .string ⟨⟨Lib.decDigits n ++ [46]⟩⟩, .string ⟨⟨Lib.decDigits n ++ [101]⟩⟩, .string ⟨⟨Lib.decDigits n ++ [115, 116]⟩⟩, .string ⟨⟨Lib.decDigits n ++ [110, 100]⟩⟩, .string ⟨⟨Lib.decDigits n ++ [114, 100]⟩⟩, .string ⟨⟨Lib.decDigits n ++ [116, 104]⟩⟩]
  let _ : Ltr := ltrL L
  have l1 := dd_len n h
  have e : s = 0 ∨ s = 1 ∨ s = 2 := by omega
  rcases e with rfl | rfl | rfl
  · have key : ∀ d : Nat, d < 4 → ∀ t : Bool, Sym [binT .add 9 9 (Lt 1) (.string ⟨⟨[115, 116]⟩⟩) (Lt 4), binT .add 9 9 (Lt 1) (.string ⟨⟨[110, 100]⟩⟩) (Lt 5), binT .add 9 9 (Lt 1) (.string ⟨⟨[114, 100]⟩⟩) (Lt 6), binT .add 9 9 (Lt 1) (.string ⟨⟨[116, 104]⟩⟩) (Lt 7)]
        [(22, patP ([(Lt 0, Lt 1), (.int .i64 (1 : Nat), .string ⟨⟨[UInt8.ofNat (48 + 1)]⟩⟩), (.int .i64 (2 : Nat), .string ⟨⟨[UInt8.ofNat (48 + 2)]⟩⟩), (.int .i64 (3 : Nat), .string ⟨⟨[UInt8.ofNat (48 + 3)]⟩⟩)].map fun p => ([p.1], p.2))),
          (23, patP ([([49], Nat.beq d 1), ([50], Nat.beq d 2), ([51], Nat.beq d 3), ([49, 49], Nat.beq d 1 && t), ([49, 50], Nat.beq d 2 && t), ([49, 51], Nat.beq d 3 && t)].map fun p => ([Lt 1, .string ⟨⟨p.1⟩⟩], .bool p.2)))]
        60 14 [.int .i64 (0 : Nat), Lt 0] (Lt (4 + Plu.eno d t)) := by
      intro d hd t
      have e' : d = 0 ∨ d = 1 ∨ d = 2 ∨ d = 3 := by omega
      clear hd
      rcases e' with rfl | rfl | rfl | rfl <;> cases t <;> (delta Sym; show _ = _; kernel_rfl)
    have d1 := Plu.suf_digit n 1 (by omega)
    have d2 := Plu.suf_digit n 2 (by omega)
    have d3 := Plu.suf_digit n 3 (by omega)
    have t1 := Plu.suf_teen n 1 (by omega)
    have t2 := Plu.suf_teen n 2 (by omega)
    have t3 := Plu.suf_teen n 3 (by omega)
    rw [Plu.dgo_1] at d1 t1
    rw [Plu.dgo_2] at d2 t2
    rw [Plu.dgo_3] at d3 t3
    refine symL L 60 (u := .string ⟨⟨Plu.ord 0 n⟩⟩) (ac (s_add (is_ltr rfl) (is_flat rfl) rfl rfl (by simp; omega)) (ac (s_add (is_ltr rfl) (is_flat rfl) rfl rfl (by simp; omega)) (ac (s_add (is_ltr rfl) (is_flat rfl) rfl rfl (by simp; omega)) (ac (s_add (is_ltr rfl) (is_flat rfl) rfl rfl (by simp; omega)) an))))
      (ac (pe_itoa2 (ac ⟨n, h, is_ltr rfl, to_ltr rfl rfl⟩ (ac (small_it 1 (by omega)) (ac (small_it 2 (by omega)) (ac (small_it 3 (by omega)) an)))) fun w' k => hP.keep k) (ac (pe_suf rfl (Nat.le_trans l1 (by omega)) (ac d1 (ac d2 (ac d3 (ac t1 (ac t2 (ac t3 an))))))) an))
      (.cons (.same rfl) (.cons (.ltr rfl rfl) .nil)) ?_ (key (Plu.dgo n) (Plu.dgo_lt n) (decide (n / 10 % 10 = 1)))
    show L[4 + Plu.eno (Plu.dgo n) (decide (n / 10 % 10 = 1))]? = some (.string ⟨⟨Lib.decDigits n ++ Plu.eng n⟩⟩)
    rw [Plu.eng_eno n]
    have hd := Plu.dgo_lt n
    generalize decide (n / 10 % 10 = 1) = t
    generalize Plu.dgo n = d at hd
    have e' : d = 0 ∨ d = 1 ∨ d = 2 ∨ d = 3 := by omega
    rcases e' with rfl | rfl | rfl | rfl <;> cases t <;> rfl
  · by_cases h1 : n = 1
    · refine (symJ 60 (O := [binT .eql 9 9 (Lt 1) (.string ⟨⟨[49]⟩⟩) (.bool true)]) (l := [(22, patP ([(0, 1)].map fun p => ([Lt p.1], Lt p.2)))]) (args := [.int .i64 (1 : Nat), Lt 0]) (v := .string ⟨⟨[49, 101, 114]⟩⟩) (ac (s_eq rfl (decide_eq_true ((Plu.dd_is n 1 (by omega)).2 h1))) an) (ac (pe_itoa (ac ⟨n, h, rfl, rfl⟩ an) fun w' k => hP.keep k) an) (.cons (.same rfl) (.cons (.ltr rfl rfl) .nil)) rfl (by delta Sym; show _ = _; kernel_rfl)).mono fun e w' p => ⟨p.1.trans ?_, p.2⟩
      have := (Plu.dd_is n 1 (by omega)).2 h1
      unfold Plu.ord
      rw [this, h1]
      rfl
    · refine symL L 60 (O := [binT .eql 9 9 (Lt 1) (.string ⟨⟨[49]⟩⟩) (.bool false), binT .add 9 9 (Lt 1) (.string ⟨⟨[101]⟩⟩) (Lt 3)]) (l := [(22, patP ([(0, 1)].map fun p => ([Lt p.1], Lt p.2)))]) (args := [.int .i64 (1 : Nat), Lt 0]) (i := 3)
        (ac (s_eq rfl (decide_eq_false fun e => h1 ((Plu.dd_is n 1 (by omega)).1 e))) (ac (s_add (is_ltr rfl) (is_flat rfl) rfl rfl (by simp; omega)) an)) (ac (pe_itoa (ac ⟨n, h, rfl, rfl⟩ an) fun w' k => hP.keep k) an) (.cons (.same rfl) (.cons (.ltr rfl rfl) .nil)) ?_ (by delta Sym; show _ = _; kernel_rfl)
      simp [L, Plu.ord, Plu.endg, h1]
  · exact symL L 60 (O := [binT .add 9 9 (Lt 1) (.string ⟨⟨[46]⟩⟩) (Lt 2)]) (l := [(22, patP ([(0, 1)].map fun p => ([Lt p.1], Lt p.2)))]) (args := [.int .i64 (2 : Nat), Lt 0]) (i := 2)
      (ac (s_add (is_ltr rfl) (is_flat rfl) rfl rfl (by simp; omega)) an) (ac (pe_itoa (ac ⟨n, h, rfl, rfl⟩ an) fun w' k => hP.keep k) an) (.cons (.same rfl) (.cons (.ltr rfl rfl) .nil)) rfl (by delta Sym; show _ = _; kernel_rfl)
end Go.Proofs.YtcplkbflpopoaaaGreatDoor
