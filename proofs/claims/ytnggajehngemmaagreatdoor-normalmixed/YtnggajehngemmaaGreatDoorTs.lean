/-
  kalendslaw04's NormalKeeps$1: no element of a list lacks in another.
-/
import Derived.Test.YtnggajehngemmaaGreatDoorOn4
import Derived.Test.YtnggajehngemmaaGreatDoorKop
import Derived.Test.YtnggajehngemmaaGreatDoorEk
import Derived.Test.YtnggajehngemmaaGreatDoorMk1
import Derived.Test.YtnggajehngemmaaGreatDoorOpenX
namespace Go.Proofs.YtnggajehngemmaaGreatDoor
open Go Go.RowKit
abbrev nkF : FuncId := 17
abbrev nkG : FuncId := 19
abbrev nkI : FuncId := 45
abbrev nkK : Value := .func (.func nkG) ⟨[]⟩ ⟨[.pointer (some ⟨64, 0, none⟩)]⟩
noncomputable def nkB : Code := inLoop (loopOf Tryz.prog nkI 0)
noncomputable def nkS : St := ⟨fr 19 [(0, Lt 0), (1, nkK), (7, Lt 2), (8, Lt 3)], ⟨65, [(64, .row [Lt 1] 33)]⟩, []⟩
noncomputable def nkX : St := ⟨fr 19 [], ⟨65, [(64, .row [Lt 1] 33)]⟩, []⟩
noncomputable def nkC : CE := ⟨.loop nkB, traL [(.int .i64 0, Lt 3), (Lt 0, Lt 0), (Lt 1, Lt 1), (Lt 2, Lt 2)] [] [], 65, [], nkS, .exit 0, nkX⟩
def nkO : List OE := [binE .lss (Lt 3) (Lt 2) (.bool true), iaE 33 (Lt 0) (Lt 3) (Lt 4), ldE 3 (Lt 4) (Lt 5), binE .add (Lt 3) (.int .i64 (1 : Nat)) (Lt 6)]
def nkP : List PE := [(20, patP [([Lt 1, Lt 5], .bool true)])]
theorem nk_on : ComG nkO [] [] nkP 60 nkB nkS .normal (traL [(Lt 6, Lt 3), (Lt 0, Lt 0), (Lt 1, Lt 1), (Lt 2, Lt 2)] [] []) 65 [] nkS := by show _ = _; kernel_rfl
theorem nk_out : ComG [binE .lss (Lt 3) (Lt 2) (.bool false)] [] [] [] 60 nkB nkS (.exit 0) (traL [(Lt 1, Lt 1)] [] []) 65 [] nkX := by show _ = _; kernel_rfl
theorem nk_run : SymG [lenE 33 (Lt 0) (Lt 2)] [] [nkC] [] 60 nkF [Lt 0, Lt 1] (.bool false) := by delta SymG; show _ = _; kernel_rfl
/-- a list's address, j elements on -/
def elA (s : Value) (j : Nat) : Addr := match s with
  | .slice (some a) _ _ => a.add j
  | _ => ⟨0, 0, none⟩
theorem own_el {w : World} {B : Nat} {v : Value} {A : List Int} (h : OwnI w B v A) : ∃ P c, v = .slice P A.length c ∧ ∀ j (hj : j < A.length), ∃ a : Addr, P = some a ∧ elA v j = a.add j ∧ w.cell? (a.add j) = some (.int .i64 A[j]) := by
  rcases h.2 with ⟨rfl, hn⟩ | ⟨g, cap, cur, rfl, hb, hg, h1, h2, h3, h4⟩
  · exact ⟨none, 0, by rw [hn], fun j hj => absurd hj (by omega)⟩
  · refine ⟨_, cap, rfl, fun j hj => ⟨_, rfl, rfl, ?_⟩⟩
    have hB : Blk w g _ cur := hg
    have e : ((⟨g, 0, none⟩ : Addr).add j) = ⟨g, j, none⟩ := by rw [Addr.add_lit, Nat.zero_add]
    rw [e, hB.cell, ← Array.getElem?_toList]
    have h4 : cur.toList.take (A.length * 1) = A.map (Value.int .i64) := h4
    have := congrArg (fun l => l[j]?) h4
    simp only [List.getElem?_take_of_lt (show j < A.length * 1 by omega)] at this
    rw [this]
    simp [hj]
abbrev nkL (va vb : Value) (A : List Int) (k : Nat) : Ltr := ltrL [va, vb, .int .i64 A.length, .int .i64 k, .pointer (some (elA va k)), .int .i64 (A.getD k 0), .int .i64 (k + 1 : Nat)]
theorem ia_int [Ltr] {i j k n c d : Nat} {A : Addr} (hi : Ltr.v i = some (.slice (some A) n c)) (hk : Ltr.v k = some (.int .i64 d)) (hj : Ltr.v j = some (.pointer (some (A.add d)))) (h : d < n) : OEOk Tryz.prog (iaE 33 (Lt i) (Lt k) (Lt j)) :=
  iaE_ok fun o ρ a b E w ho ha hb => by
    have e1 := is_ltr hi E _ ha
    have e2 := is_ltr hk E _ hb
    refine ⟨.pointer (some (A.add d)), ?_, .ltr hj rfl⟩
    simp only [execOp, ho, e1]
    go_simp
theorem len_int [Ltr] {i j n c : Nat} {A : Option Addr} (hi : Ltr.v i = some (.slice A n c)) (hj : Ltr.v j = some (.int .i64 n)) : OEOk Tryz.prog (lenE 33 (Lt i) (Lt j)) :=
  lenE_ok fun o ρ a E w ho ha => by
    have e1 := is_ltr hi E _ ha
    refine ⟨.int .i64 n, ?_, .ltr hj rfl⟩
    simp only [execOp, ho]
    go_simp
theorem nk_ce {w : World} {va vb : Value} {A B : List Int} (ha : OwnI w 0 va A) (hb : OwnI w 0 vb B) (la : A.length ≤ 1000000) (lb : B.length ≤ 1000000) (hs : ∀ x ∈ A, x ∈ B) : @CEOk (nkL va vb A 0) Tryz.prog 64 (kep w) 64 nkC := by
  obtain ⟨P, c, hv, hel⟩ := own_el ha
  refine @ce_of Tryz.prog 64 (kep w) 64 (nkL va vb A 0) Nat (fun j => nkL va vb A j) (fun _ => nkS) (fun j => A.length - j) (fun j => j ≤ A.length) nkC nkB rfl ?_ 0 (Nat.zero_le _) rfl (traL_ok (ac (fl_go rfl rfl rfl) (ac (lt_go rfl) (ac (lt_go rfl) (ac (lt_go rfl) an)))) an an) an
  rintro j hj ro k E a w' h
  have hj : j ≤ A.length := hj
  let L : Ltr := nkL va vb A j
  by_cases hlt : j < A.length
  · obtain ⟨ad, hP, he, hcell⟩ := hel j hlt
    have hgd : A.getD j 0 = A[j] := by simp [hlt]
    have h0 : L.v 0 = some (.slice (some ad) A.length c) := by show some va = _; rw [hv, hP]
    have h4 : L.v 4 = some (.pointer (some (ad.add j))) := by show some (Value.pointer (some (elA va j))) = _; rw [he]
    have h5 : L.v 5 = some (.int .i64 A[j]) := by show some (Value.int .i64 (A.getD j 0)) = _; rw [hgd]
    have hO : ∀ e ∈ nkO, @OEOkX L Tryz.prog (kep w) e := ac (@bll L _ _ _ _ _ _ _ rfl rfl (xk_lt (decide_eq_true hlt)) (@to_flat L _ rfl)).x (ac (@ia_int L 0 4 3 _ _ _ _ h0 rfl h4 hlt).x (ac (@ld_ok L (kep w) 3 4 _ (.int .i64 A[j]) (Lt 5) (by kernel_rfl) h4 (@to_ltr L 5 _ h5 rfl) fun w2 k => cell_keep hcell k) (ac (@bl L _ _ _ _ _ _ rfl rfl (x_add (n := j) (m := 1) (by omega)) (@to_ltr L 6 _ rfl rfl)).x an)))
    have hp : ∀ e ∈ nkP, @PEOk L Tryz.prog (kep w) 64 e := ac (@p2 L (kep w) 64 _ 1 5 vb (.int .i64 A[j]) (.bool true) rfl h5 rfl fun w2 k => by
      refine (contains_own A[j] (own_keep hb k) lb).mono fun e w3 p => ⟨?_, by rw [p.2]; exact Below.refl _ _⟩
      rw [p.1, show B.contains A[j] = true by simpa using hs _ (List.getElem_mem hlt)]) an
    refine r_on (j + 1) (toldG L hO an an hp (traL_ok ?_ an an) an nk_on h) (show j + 1 ≤ A.length by omega) (by show A.length - (j + 1) < A.length - j; omega)
    exact ac (lt_go rfl) (ac (lt_go rfl) (ac (lt_go rfl) (ac (lt_go rfl) an)))
  · exact r_out (by intro h; cases h) (toldG L (ac (@bll L _ _ _ _ _ _ _ rfl rfl (xk_lt (decide_eq_false hlt)) (@to_flat L _ rfl)).x an) an an an (traL_ok (ac (lt_go (L := L) (L' := nkL va vb A 0) (i := 1) (j := 1) rfl) an) an an) an nk_out h)
theorem keep_any {w : World} {va vb : Value} {A B : List Int} (ha : OwnI w 0 va A) (hb : OwnI w 0 vb B) (la : A.length ≤ 1000000) (lb : B.length ≤ 1000000) (hs : ∀ x ∈ A, x ∈ B) : Calls Tryz.prog nkF #[va, vb] w fun e w' => e = .returned (.bool false) ∧ Below w.heap.size w w' := by
  let L : Ltr := nkL va vb A 0
  obtain ⟨P, c, hv, -⟩ := own_el ha
  obtain ⟨P', c', hv', -⟩ := own_el hb
  exact symGF L 60 (ac (@len_int L 0 2 A.length c P (by show some va = _; rw [hv]) rfl).x an) an (ac (nk_ce ha hb la lb hs) an) an (.cons (.ltr rfl (by rw [hv]; rfl)) (.cons (.ltr rfl (by rw [hv']; rfl)) .nil)) rfl nk_run
end Go.Proofs.YtnggajehngemmaaGreatDoor
/-
  Numbers as they lie in memory, at plain addresses; the library's Equal at them.
-/
namespace Go.Proofs.YtnggajehngemmaaGreatDoor
open Go.RowKit Go.Shelf Go.Lib
/-- numbers lie at a plain address -/
def PlainI (w : World) (A : Option Addr) (L : List Int) : Prop := (A = none ∧ L = []) ∨ ∃ b o, A = some ⟨b, o, none⟩ ∧ b < w.heap.size ∧ ∀ j (h : j < L.length), w.cell? ⟨b, o + j, none⟩ = some (.int .i64 L[j])
/-- weekdays lie at a plain address -/
def PlainN (w : World) (A : Option Addr) (L : List (Int × Int)) : Prop := (A = none ∧ L = []) ∨ ∃ b o, A = some ⟨b, o, none⟩ ∧ b < w.heap.size ∧ ∀ j (h : j < L.length), w.cell? ⟨b, o + j * 2, none⟩ = some (.int .i64 L[j].1) ∧ w.cell? ⟨b, o + j * 2 + 1, none⟩ = some (.int .i64 L[j].2)
theorem addr_lit (g o k : Nat) : (⟨g, o, none⟩ : Addr).add k = ⟨g, o + k, none⟩ := by simp [Addr.add]
theorem PlainI.below {w w' : World} {A : Option Addr} {L : List Int} (h : PlainI w A L) (b : Below w.heap.size w w') : PlainI w' A L := by
  rcases h with h | ⟨g, o, rfl, h1, h2⟩
  · exact .inl h
  · exact .inr ⟨g, o, rfl, Nat.lt_of_lt_of_le h1 b.size, fun j hj => (b.cell (p := ⟨g, o + j, none⟩) h1).trans (h2 j hj)⟩
theorem PlainN.below {w w' : World} {A : Option Addr} {L : List (Int × Int)} (h : PlainN w A L) (b : Below w.heap.size w w') : PlainN w' A L := by
  rcases h with h | ⟨g, o, rfl, h1, h2⟩
  · exact .inl h
  · exact .inr ⟨g, o, rfl, Nat.lt_of_lt_of_le h1 b.size, fun j hj => ⟨(b.cell (p := ⟨g, o + j * 2, none⟩) h1).trans (h2 j hj).1, (b.cell (p := ⟨g, o + j * 2 + 1, none⟩) h1).trans (h2 j hj).2⟩⟩
theorem PlainI.ints {w : World} {A : Option Addr} {L : List Int} (h : PlainI w A L) : IntsIn w A L := fun k hk => by
  rcases h with ⟨-, rfl⟩ | ⟨g, o, rfl, h1, h2⟩
  · exact absurd hk (Nat.not_lt_zero k)
  · exact ⟨_, rfl, h1, by rw [addr_lit]; exact h2 k hk⟩
theorem PlainN.nths {w : World} {A : Option Addr} {L : List (Int × Int)} (h : PlainN w A L) : NthsIn w A L := fun k hk => by
  rcases h with ⟨-, rfl⟩ | ⟨g, o, rfl, h1, h2⟩
  · exact absurd hk (Nat.not_lt_zero k)
  · exact ⟨_, rfl, h1, by rw [addr_lit]; exact (h2 k hk).1, by rw [addr_lit, addr_lit]; exact (h2 k hk).2⟩
theorem OwnI.plain {w : World} {base c : Nat} {A : Option Addr} {L : List Int} (h : OwnI w base (.slice A L.length c) L) : PlainI w A L := by
  rcases h.2 with ⟨e, hn⟩ | ⟨g, cap, cur, e, hb, hg, h1, h2, h3, h4⟩
  · obtain ⟨rfl, -, -⟩ := Value.slice.inj e
    exact .inl ⟨rfl, List.eq_nil_of_length_eq_zero hn⟩
  · obtain ⟨rfl, -, -⟩ := Value.slice.inj e
    obtain ⟨A', cap', e', -, -, hi⟩ := h.ints
    obtain ⟨rfl, -, -⟩ := Value.slice.inj e'
    refine .inr ⟨g, 0, rfl, (Array.getElem?_eq_some_iff.1 hg).1, fun j hj => ?_⟩
    obtain ⟨ad, e, -, hc⟩ := hi j hj
    obtain rfl := Option.some.inj e
    rw [addr_lit] at hc
    exact hc
theorem OwnN.plain {w : World} {base c : Nat} {A : Option Addr} {L : List (Int × Int)} (h : OwnN w base (.slice A L.length c) L) : PlainN w A L := by
  rcases h.2 with ⟨e, hn⟩ | ⟨g, cap, cur, e, hb, hg, h1, h2, h3, h4⟩
  · obtain ⟨rfl, -, -⟩ := Value.slice.inj e
    exact .inl ⟨rfl, List.eq_nil_of_length_eq_zero hn⟩
  · obtain ⟨rfl, -, -⟩ := Value.slice.inj e
    obtain ⟨A', cap', e', -, -, hi⟩ := h.nths
    obtain ⟨rfl, -, -⟩ := Value.slice.inj e'
    refine .inr ⟨g, 0, rfl, (Array.getElem?_eq_some_iff.1 hg).1, fun j hj => ?_⟩
    obtain ⟨ad, e, -, hc, hd⟩ := hi j hj
    obtain rfl := Option.some.inj e
    rw [addr_lit] at hc
    rw [addr_lit, addr_lit] at hd
    exact ⟨hc, hd⟩
theorem below_drewN' {w : World} (n : Nat) : Below w.heap.size w (w.drewN n) := below_drewN (Below.refl _ _) n
theorem eqI_any (A B : Option Addr) (c d : Nat) (L K : List Int) (w : World) (hA : PlainI w A L) (hB : PlainI w B K) (lL : L.length ≤ maxLen) (lK : K.length ≤ maxLen) :
    Calls Tryz.prog 21 #[.slice A L.length c, .slice B K.length d] w fun e w' => ∃ v, e = .returned v ∧ v = .bool (L == K) ∧ Below w.heap.size w w' := by
  unfold maxLen at lL lK
  by_cases h0 : L.length = 0
  · obtain rfl : L = [] := List.eq_nil_of_length_eq_zero h0
    refine (Tryz.slices_Equal_int_empty A B c K.length d w (by omega)).mono ?_
    rintro e w' ⟨rfl, rfl⟩
    refine ⟨_, rfl, ?_, Below.refl _ _⟩
    cases K <;> simp
  · by_cases hn : L.length = K.length
    · rcases hA with ⟨-, rfl⟩ | ⟨b1, o1, rfl, -, hc1⟩
      · exact absurd rfl h0
      · rcases hB with ⟨-, rfl⟩ | ⟨b2, o2, rfl, -, hc2⟩
        · exact absurd hn h0
        · refine (Tryz.slices_Equal_int b1 o1 L.length c b2 o2 K.length d L K w (Nat.le_refl _) (Nat.le_refl _) (by omega) (by omega) (fun j hj => by rw [hc1 j hj]; simp [hj]) (fun j hj => by rw [hc2 j hj]; simp [hj])).mono ?_
          rintro e w' ⟨rfl, q, rfl⟩
          refine ⟨_, rfl, ?_, below_drewN' q⟩
          rw [List.take_length, List.take_length]
    · refine (Tryz.slices_Equal_int_lens A B L.length c K.length d w hn).mono ?_
      rintro e w' ⟨rfl, rfl⟩
      refine ⟨_, rfl, ?_, Below.refl _ _⟩
      have : (L == K) = false := by
        rw [beq_eq_false_iff_ne]
        intro e
        exact hn (by rw [e])
      rw [this]
end Go.Proofs.YtnggajehngemmaaGreatDoor
/-
  Tidy lists: those that rise stay; what stays was there.
-/
namespace Go.Proofs.YtnggajehngemmaaGreatDoor
open Go Go.RowKit
theorem compact_mem {zs : List Int} {x : Int} (h : x ∈ Lib.compact zs) : x ∈ zs := by
  unfold Lib.compact Lib.compactUpTo at h
  obtain ⟨j, hj, rfl⟩ := List.mem_map.1 h
  have hj := List.mem_range.1 ((List.mem_filter.1 hj).1)
  show zs.toArray[j]! ∈ zs
  rw [getElem!_pos _ _ (by simpa using hj)]
  simp
theorem tidI_mem {L : List Int} {x : Int} (h : x ∈ tidI L) : x ∈ L := (List.mergeSort_perm _ _).mem_iff.1 (compact_mem h)
theorem tidI_id {L : List Int} (h : L.Pairwise fun x y => x < y) : tidI L = L := by
  unfold tidI
  rw [List.mergeSort_of_pairwise (h.imp fun {x y} h => by simp; omega)]
  refine Lib.compact_all L fun j hj => ?_
  unfold Lib.keeps
  rw [decide_eq_true_eq]
  by_cases h0 : j = 0
  · exact .inl h0
  · refine .inr fun e => ?_
    rw [getElem!_pos _ _ (by simpa using hj), getElem!_pos _ _ (by simp; omega)] at e
    have := List.pairwise_iff_getElem.1 h (j - 1) j (by omega) hj (by omega)
    simp only [List.getElem_toArray] at e
    omega
theorem D_up (F : Int) (ld : List Int) : (Mk.D F ld).Pairwise fun x y => x < y := by
  unfold Mk.D
  split
  · exact (Mk.few_up (by omega) ld).1
  · exact List.Pairwise.nil
theorem P_up (F : Int) (lm ld : List Int) (lw : List (Int × Int)) (lp : List Int) : (Mk.P F lm ld lw lp).Pairwise fun x y => x < y := by
  unfold Mk.P
  split
  · exact (Mk.few_up (by omega) lp).1
  · exact List.Pairwise.nil
theorem ofM_mem {f : Int} {M D : List Int} {W : List (Int × Int)} {P : List Int} {x : Int} (h : x ∈ ofM f M D W P) : x ∈ M := by
  unfold ofM at h
  cases hb : ofDrop f M D W P with
  | true => rw [hb] at h; cases h
  | false => rw [hb] at h; exact h
theorem ofM_len (f : Int) (M D : List Int) (W : List (Int × Int)) (P : List Int) : (ofM f M D W P).length ≤ M.length := by
  unfold ofM
  cases ofDrop f M D W P with
  | true => exact Nat.zero_le _
  | false => exact Nat.le_refl _
theorem ofW_len (f : Int) (M D : List Int) (W : List (Int × Int)) (P : List Int) : (ofW f M D W P).length ≤ W.length := by
  unfold ofW
  cases ofDropW f M D W P with
  | true => exact Nat.zero_le _
  | false => exact List.length_filter_le _ _
end Go.Proofs.YtnggajehngemmaaGreatDoor
