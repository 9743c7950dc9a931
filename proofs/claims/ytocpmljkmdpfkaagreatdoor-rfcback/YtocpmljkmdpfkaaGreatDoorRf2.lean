/-
  Lists as texts, commas between.
-/
import Derived.Test.YtocpmljkmdpfkaaGreatDoorRf1
namespace Go.Proofs.YtocpmljkmdpfkaaGreatDoor
open Go.RowKit
def row {α : Type} (tx : α → List UInt8) (l : List α) (i : Nat) : Array Value := ((l.take i).map (fun x => Value.string ⟨(tx x).toArray⟩) ++ List.replicate (l.length - i) (Value.string ⟨#[]⟩)).toArray
theorem row_size {α : Type} {tx : α → List UInt8} {l : List α} {i : Nat} (h : i ≤ l.length) : (row tx l i).size = l.length := by simp [row]; omega
theorem row_start {α : Type} (tx : α → List UInt8) (l : List α) : row tx l 0 = Array.replicate l.length (.string ⟨#[]⟩) := by simp [row]
theorem row_set {α : Type} (tx : α → List UInt8) (l : List α) (i : Nat) (h : i < l.length) : (row tx l i).setIfInBounds i (.string ⟨(tx l[i]).toArray⟩) = row tx l (i + 1) := by
  apply Array.ext'
  unfold row
  rw [show l.length - i = (l.length - (i + 1)) + 1 by omega, List.replicate_succ, List.take_succ_eq_append_getElem h, List.map_append]
  rw [Array.toList_setIfInBounds]
  have e : ((l.take i).map fun x => Value.string ⟨(tx x).toArray⟩).length = i := by simp; omega
  rw [List.set_append_right _ _ (by rw [e]; exact Nat.le_refl _), e]
  simp
theorem row_end {α : Type} (tx : α → List UInt8) (l : List α) (j : Nat) (h : j < l.length) : (row tx l l.length)[j]? = some (.string ⟨(tx l[j]).toArray⟩) := by
  simp [row, h]
theorem join_any (g c : Nat) (l : List (List UInt8)) (sp : UInt8) (w : World) (hg : g < w.heap.size) (hc : l.length ≤ c) (hl : l.length ≤ 1000) (hx : ∀ x ∈ l, x.length ≤ 30000) (hcell : ∀ j (h : j < l.length), w.cell? ⟨g, j, none⟩ = some (.string ⟨l[j].toArray⟩)) :
    Calls Tryz.prog 16 #[.slice (some ⟨g, 0, none⟩) l.length c, .string ⟨#[sp]⟩] w fun e w' => ∃ v, e = .returned v ∧ v = .string ⟨(Lib.join l [sp]).toArray⟩ ∧ Below w.heap.size w w' := by
  have hm : (l.map fun x => (⟨x.toArray⟩ : ByteArray)).map (·.data.toList) = l := by
    rw [List.map_map]
    exact (List.map_congr_left (fun x _ => by simp)).trans (List.map_id l)
  have hj := join_len sp 30000 l hx
  have h := Tryz.strings_Join g 0 c (l.map fun x => (⟨x.toArray⟩ : ByteArray)) ⟨#[sp]⟩ w (fun j x hj => by
      rw [List.getElem?_map] at hj
      obtain ⟨y, hy, rfl⟩ := Option.map_eq_some_iff.1 hj
      obtain ⟨hlt, rfl⟩ := List.getElem?_eq_some_iff.1 hy
      rw [Nat.zero_add]
      exact hcell j hlt) hg (by simp; omega) (by simpa using hc) (by
      rw [hm]
      have : (Lib.join l [sp]).length ≤ 1000 * 30001 := Nat.le_trans hj (Nat.mul_le_mul_right _ hl)
      show (Lib.join l [sp]).length ≤ _
      omega)
  rw [hm, List.length_map] at h
  exact h.mono fun e w' ⟨he, hb⟩ => ⟨_, he, rfl, hb⟩

structure LpI (w0 : World) (A : Option Addr) (c : Nat) (l : List (Int)) (i : Nat) (a : Act) (w : World) : Prop where
  d : a.defers = []
  z : a.tmps.size = 27
  s1 : a.tmps.getD 1 undef = .func (.func 34) #[] #[]
  s5 : a.tmps.getD 5 undef = .slice (some ⟨w0.heap.size, 0, none⟩) l.length l.length
  s11 : a.tmps.getD 11 undef = .slice A l.length c
  s12 : a.tmps.getD 12 undef = .int .i64 l.length
  s13 : a.tmps.getD 13 undef = .int .i64 i
  iN : i ≤ l.length
  B : Blk w w0.heap.size 9 (row Lib.itoa l i)
  b : Below w0.heap.size w0 w
noncomputable def plIBody : Code := Tryz.f59.body.getD .skip
noncomputable def plIRound : Code := (Tryz.f59.body.bind loopOf).getD .skip

set_option maxRecDepth 100000 in
set_option maxHeartbeats 1000000 in
theorem plI_round (w0 : World) (A : Option Addr) (c : Nat) (l : List (Int)) (hT : Tabs w0) (hL0 : IntsIn w0 A l) (hl : l.length ≤ 1000) (hx : ∀ x ∈ l, -9223372036854775808 ≤ x ∧ x ≤ 9223372036854775807) (i : Nat) (a : Act) (w : World) (Q : Exit → Act → World → Prop) (J : LpI w0 A c l i a w) (hlt : i < l.length) :
    plIRound.wp Tryz.prog (Exit.then (fun a' w' => (∃ i, LpI w0 A c l i a' w') ∧ (l.length - intOf (a'.tmps.getD 13 undef)).toNat < (l.length - intOf (a.tmps.getD 13 undef)).toNat) Q) a w := by
  obtain ⟨hd, hs, h1, h5, h11, h12, h13, hi, hB, hb⟩ := J
  have hL := hL0.below hb
  obtain ⟨ad, hA, -, hc⟩ := hL i hlt
  subst hA
  have hxi := hx l[i] (List.getElem_mem hlt)
  have e13 := h13
  rw [e13]
  clear e13
  unfold plIRound
  conv => arg 2; whnf
  refine wp_seq ?_
  refine wp_region (show wpOps _ _ _ [0] _ _ from ?_)
  refine opL 0 14 (v := .bool true) (w' := w) (by kernel_rfl) (frZ hs) ?_ ?_
  · exact frY rfl (o_ltI rfl (ev_tmp h13) (ev_tmp h12) (decide_eq_true (by omega)))
  refine frN5 hs hd h1 h5 h11 h12 h13 ?_; clear hs hd h1 h5 h11 h12 h13; intro a hs hd h1 h5 h11 h12 h13 h14
  refine wp_seq ?_
  refine wp_cond_true (ev_tmp h14) ?_
  clear h14
  refine wp_skip ?_
  refine wp_seq ?_
  refine wp_block ?_
  refine wp_seq ?_
  refine wp_region (show wpOps _ _ _ [0, 1, 2, 3, 4] _ _ from ?_)
  refine opL 0 15 (v := .int .i64 i) (w' := w) (by kernel_rfl) (frZ hs) ?_ ?_
  · exact frY rfl (k_move rfl (ev_tmp h13))
  revert hs hd h1 h5 h11 h12 h13; refine frM5 ?_; intro a hs hd h1 h5 h11 h12 h13 h15
  refine opL 1 16 (v := .pointer (some (ad.add i))) (w' := w) (by kernel_rfl) (frZ hs) ?_ ?_
  · exact frY rfl (k_atI rfl (ev_tmp h11) (ev_tmp h13) hlt)
  revert hs hd h1 h5 h11 h12 h13 h15; refine frM6 ?_; intro a hs hd h1 h5 h11 h12 h13 h15 h16
  refine opL 2 17 (v := .int .i64 l[i]) (w' := w) (by kernel_rfl) (frZ hs) ?_ ?_
  · exact frY rfl (k_loadI rfl (ev_tmp h16) hc)
  clear h16; revert hs hd h1 h5 h11 h12 h13 h15; refine frM6 ?_; intro a hs hd h1 h5 h11 h12 h13 h15 h17
  refine opL 3 6 (v := .int .i64 i) (w' := w) (by kernel_rfl) (frZ hs) ?_ ?_
  · exact frY rfl (k_assign rfl (ev_tmp h15))
  clear h15; revert hs hd h1 h5 h11 h12 h13 h17; refine frM6 ?_; intro a hs hd h1 h5 h11 h12 h13 h17 h6
  refine opL 4 7 (v := .int .i64 l[i]) (w' := w) (by kernel_rfl) (frZ hs) ?_ ?_
  · exact frY rfl (k_assign rfl (ev_tmp h17))
  clear h17; revert hs hd h1 h5 h11 h12 h13 h6; refine frM6 ?_; intro a hs hd h1 h5 h11 h12 h13 h6 h7
  refine wp_region (show wpOps _ _ _ [0, 1, 2, 3, 4, 5, 6] _ _ from ?_)
  refine opL 0 18 (v := .slice (some ⟨w0.heap.size, 0, none⟩) l.length l.length) (w' := w) (by kernel_rfl) (frZ hs) ?_ ?_
  · exact frY rfl (k_move rfl (ev_tmp h5))
  revert hs hd h1 h5 h11 h12 h13 h6 h7; refine frM7 ?_; intro a hs hd h1 h5 h11 h12 h13 h6 h7 h18
  refine opL 1 19 (v := .int .i64 i) (w' := w) (by kernel_rfl) (frZ hs) ?_ ?_
  · exact frY rfl (k_move rfl (ev_tmp h6))
  revert hs hd h1 h5 h11 h12 h13 h6 h7 h18; refine frM8 ?_; intro a hs hd h1 h5 h11 h12 h13 h6 h7 h18 h19
  refine opL 2 20 (v := .func (.func 34) #[] #[]) (w' := w) (by kernel_rfl) (frZ hs) ?_ ?_
  · exact frY rfl (k_move rfl (ev_tmp h1))
  revert hs hd h1 h5 h11 h12 h13 h6 h7 h18 h19; refine frM9 ?_; intro a hs hd h1 h5 h11 h12 h13 h6 h7 h18 h19 h20
  refine opL 3 21 (v := .int .i64 l[i]) (w' := w) (by kernel_rfl) (frZ hs) ?_ ?_
  · exact frY rfl (k_move rfl (ev_tmp h7))
  revert hs hd h1 h5 h11 h12 h13 h6 h7 h18 h19 h20; refine frM10 ?_; intro a hs hd h1 h5 h11 h12 h13 h6 h7 h18 h19 h20 h21
  have hc := itoa_any l[i] w (hT.below hb) hxi
  have hx := fun ops Q rest d a i h1 h2 h3 => opL_call (P := Tryz.prog) (ops := ops) (Q := Q) (a := a) (w := w) (rest := rest) i d h1 h2 h3 hc
  refine hx _ _ _ 22 _ 4 ?z47a ?z47b ?z47 ?z48
  case z47a => kernel_rfl
  case z47b => (rw [hs]; decide)
  case z47 => exact frY rfl (c_valItoa rfl (ev_tmp h20) (ev_tmp h21))
  case z48 =>
  rintro _ w2 a ⟨rfl, l2⟩ F0
  replace hs := F0.z.trans hs
  replace hd := F0.e.trans hd
  replace h1 := (F0.n 1 (by decide)).trans h1
  replace h5 := (F0.n 5 (by decide)).trans h5
  replace h11 := (F0.n 11 (by decide)).trans h11
  replace h12 := (F0.n 12 (by decide)).trans h12
  replace h13 := (F0.n 13 (by decide)).trans h13
  replace h6 := (F0.n 6 (by decide)).trans h6
  replace h7 := (F0.n 7 (by decide)).trans h7
  replace h18 := (F0.n 18 (by decide)).trans h18
  replace h19 := (F0.n 19 (by decide)).trans h19
  clear h20
  clear h21
  have h22 := F0.s
  clear F0
  clear hx hc
  replace hB := hB.below l2 hB.lt
  replace hb := hb.trans (l2.mono hb.size)
  refine opL 5 23 (v := .pointer (some ⟨w0.heap.size, i, none⟩)) (w' := w2) (by kernel_rfl) (frZ hs) ?_ ?_
  · exact frY rfl (k_atS' rfl (ev_tmp h18) (ev_tmp h19) hlt)
  refine frN8 hs hd h1 h5 h11 h12 h13 h6 h7 h22 ?_; clear hs hd h1 h5 h11 h12 h13 h6 h7 h22 h18 h19; intro a hs hd h1 h5 h11 h12 h13 h6 h7 h22 h23
  refine opL_store 6 (w' := (w2.setCell ⟨w0.heap.size, i, none⟩ (.string ⟨(Lib.itoa l[i]).toArray⟩))) (by kernel_rfl) ?_ ?_
  · exact frY rfl (k_storeStr rfl (ev_tmp h23) (ev_tmp h22) hB (by rw [row_size (by omega)]; exact hlt))
  clear h22
  clear h23
  obtain ⟨w3, hw3⟩ : ∃ wn, wn = w2.setCell ⟨w0.heap.size, i, none⟩ (.string ⟨(Lib.itoa l[i]).toArray⟩) := ⟨_, rfl⟩
  rw [← hw3]
  have hB3 : Blk w3 w0.heap.size 9 (row Lib.itoa l (i + 1)) := by rw [hw3, ← row_set Lib.itoa l i hlt]; exact hB.set i _
  replace hb : Below w0.heap.size w0 w3 := by rw [hw3]; exact hb.trans ((exc_set w2 w0.heap.size i _ w0.heap.size).below (Nat.le_refl _))
  clear hw3
  refine wp_region (show wpOps _ _ _ [0, 1] _ _ from ?_)
  refine opL 0 24 (v := .int .i64 (i + 1 : Nat)) (w' := w3) (by kernel_rfl) (frZ hs) ?_ ?_
  · exact frY rfl (o_addI rfl (ev_tmp h13) rfl (wrap_small (n := (i : Int) + 1) (by omega) (by omega)))
  refine frN7 hs hd h1 h5 h11 h12 h13 h6 h7 ?_; clear hs hd h1 h5 h11 h12 h13 h6 h7; intro a hs hd h1 h5 h11 h12 h13 h6 h7 h24
  refine opL 1 13 (v := .int .i64 (i + 1 : Nat)) (w' := w3) (by kernel_rfl) (frZ hs) ?_ ?_
  · exact frY rfl (k_move rfl (ev_tmp h24))
  clear h13 h24; revert hs hd h1 h5 h11 h12 h6 h7; refine frM6 ?_; intro a hs hd h1 h5 h11 h12 h6 h7 h13
  refine ⟨⟨i + 1, hd, hs, h1, h5, h11, h12, h13, hlt, hB3, hb⟩, ?_⟩
  rw [h13]
  simp only [intOf]
  omega

set_option maxRecDepth 100000 in
set_option maxHeartbeats 1000000 in
theorem plI_any (A : Option Addr) (c : Nat) (l : List (Int)) (w : World) (hT : Tabs w) (hL : IntsIn w A l) (hl : l.length ≤ 1000) (hx : ∀ x ∈ l, -9223372036854775808 ≤ x ∧ x ≤ 9223372036854775807) :
    Calls Tryz.prog 59 #[.slice A l.length c, .func (.func 34) #[] #[]] w fun e w' => ∃ v, e = .returned v ∧ v = .string ⟨(Rfc.nums l).toArray⟩ ∧ Below w.heap.size w w' := by
  refine calls_of_wp Tryz.func59 (show Tryz.f59.body = some plIBody from rfl) ?_
  generalize hAA : (Act.mk (#[.slice A l.length c, .func (.func 34) #[] #[]] ++ Array.replicate (Tryz.f59.ntmps - (#[.slice A l.length c, .func (.func 34) #[] #[]] : Array Value).size) undef) []) = a
  have hs : a.tmps.size = 27 := by rw [← hAA]; simp [Tryz.ntmps59]
  have hd : a.defers = [] := by rw [← hAA]
  have h0 : a.tmps.getD 0 undef = .slice A l.length c := by rw [← hAA]; simp
  have h1 : a.tmps.getD 1 undef = .func (.func 34) #[] #[] := by rw [← hAA]; simp
  clear hAA
  refine Code.wp_mono NoPanic.imp ?_
  have hQ : Blind (NoPanic (bodyPost Tryz.prog Tryz.f59 fun e w' => ∃ v, e = .returned v ∧ v = .string ⟨(Rfc.nums l).toArray⟩ ∧ Below w.heap.size w w')) := fun _ _ _ _ q => q.elim
  have hfin : ∀ (a' : Act) (w' : World), a'.defers = [] → a'.tmps.getD 4 undef = .string ⟨(Rfc.nums l).toArray⟩ → Below w.heap.size w w' → NoPanic (bodyPost Tryz.prog Tryz.f59 fun e w' => ∃ v, e = .returned v ∧ v = .string ⟨(Rfc.nums l).toArray⟩ ∧ Below w.heap.size w w') .ret a' w' := by
    intro a' w' k1 k2 k3
    exact ⟨k1, _, results_tmp rfl _ _ _, _, rfl, k2, k3⟩
  generalize NoPanic (bodyPost Tryz.prog Tryz.f59 fun e w' => ∃ v, e = .returned v ∧ v = .string ⟨(Rfc.nums l).toArray⟩ ∧ Below w.heap.size w w') = Q at hQ hfin
  unfold plIBody
  conv => arg 2; whnf
  refine wp_seq ?_
  refine wp_region (show wpOps _ _ _ [0] _ _ from ?_)
  refine opL 0 4 (v := .string ⟨#[]⟩) (w' := w) (by kernel_rfl) (frZ hs) ?_ ?_
  · exact frY rfl (k_assign rfl rfl)
  refine frN2 hs hd h0 h1 ?_; clear hs hd h0 h1; intro a hs hd h0 h1 h4
  refine wp_seq ?_
  refine wp_region (show wpOps _ _ _ [0, 1, 2, 3] _ _ from ?_)
  refine opL 0 8 (v := .slice A l.length c) (w' := w) (by kernel_rfl) (frZ hs) ?_ ?_
  · exact frY rfl (k_move rfl (ev_tmp h0))
  revert hs hd h0 h1 h4; refine frM3 ?_; intro a hs hd h0 h1 h4 h8
  refine opL 1 9 (v := .int .i64 l.length) (w' := w) (by kernel_rfl) (frZ hs) ?_ ?_
  · exact frY rfl (k_lenL rfl (ev_tmp h8))
  clear h8; revert hs hd h0 h1 h4; refine frM3 ?_; intro a hs hd h0 h1 h4 h9
  refine opL 2 10 (v := .slice (some ⟨w.heap.size, 0, none⟩) l.length l.length) (w' := (w.alloc (.cells (Array.replicate l.length (.string ⟨#[]⟩)) 9))) (by kernel_rfl) (frZ hs) ?_ ?_
  · exact frY rfl (k_makeStr rfl (ev_tmp h9) hl)
  clear h9; revert hs hd h0 h1 h4; refine frM3 ?_; intro a hs hd h0 h1 h4 h10
  obtain ⟨w1, hw1⟩ : ∃ wn, wn = w.alloc (.cells (Array.replicate l.length (.string ⟨#[]⟩)) 9) := ⟨_, rfl⟩
  rw [← hw1]
  have q1 : Blk w1 w.heap.size 9 (Array.replicate l.length (.string ⟨#[]⟩)) := by rw [hw1]; exact Blk.alloc _ _ _
  have l1 : Below w.heap.size w w1 := by rw [hw1]; exact (Below.refl _ _).alloc (Nat.le_refl _) _
  clear hw1
  refine opL 3 5 (v := .slice (some ⟨w.heap.size, 0, none⟩) l.length l.length) (w' := w1) (by kernel_rfl) (frZ hs) ?_ ?_
  · exact frY rfl (k_assign rfl (ev_tmp h10))
  refine frN3 hs hd h0 h1 h4 ?_; clear hs hd h0 h1 h4 h10; intro a hs hd h0 h1 h4 h5
  refine wp_seq ?_
  refine wp_seq ?_
  refine wp_region (show wpOps _ _ _ [0, 1, 2] _ _ from ?_)
  refine opL 0 11 (v := .slice A l.length c) (w' := w1) (by kernel_rfl) (frZ hs) ?_ ?_
  · exact frY rfl (k_move rfl (ev_tmp h0))
  revert hs hd h0 h1 h4 h5; refine frM4 ?_; intro a hs hd h0 h1 h4 h5 h11
  refine opL 1 12 (v := .int .i64 l.length) (w' := w1) (by kernel_rfl) (frZ hs) ?_ ?_
  · exact frY rfl (k_lenL rfl (ev_tmp h11))
  revert hs hd h0 h1 h4 h5 h11; refine frM5 ?_; intro a hs hd h0 h1 h4 h5 h11 h12
  refine opL 2 13 (v := .int .i64 0) (w' := w1) (by kernel_rfl) (frZ hs) ?_ ?_
  · exact frY rfl (k_move rfl rfl)
  revert hs hd h0 h1 h4 h5 h11 h12; refine frM6 ?_; intro a hs hd h0 h1 h4 h5 h11 h12 h13
  refine wp_block ?_
  refine wp_loop (fun a wx => ∃ i, LpI w A c l i a wx) (fun a _ => (l.length - intOf (a.tmps.getD 13 undef)).toNat) ⟨0, ⟨hd, hs, h1, h5, h11, h12, h13, Nat.zero_le _, by rw [row_start]; exact q1, l1⟩⟩ ?_
  clear hs hd q1 l1 h0 h1 h4 h5 h11 h12 h13 a
  rintro a wx ⟨i, J⟩
  by_cases hlt : i < l.length
  · exact plI_round w A c l hT hL hl hx i a wx _ J hlt
  obtain ⟨hd, hs, h1, h5, h11, h12, h13, hi, hB, hb⟩ := J
  obtain rfl : i = l.length := by omega
  clear h1 h11
  refine wp_seq ?_
  refine wp_region (show wpOps _ _ _ [0] _ _ from ?_)
  refine opL 0 14 (v := .bool false) (w' := wx) (by kernel_rfl) (frZ hs) ?_ ?_
  · exact frY rfl (o_ltI rfl (ev_tmp h13) (ev_tmp h12) (decide_eq_false (by omega)))
  refine frN3 hs hd h5 h12 h13 ?_; clear hs hd h5 h12 h13; intro a hs hd h5 h12 h13 h14
  refine wp_seq ?_
  refine wp_cond_false (ev_tmp h14) ?_
  refine wp_exit ?_
  change Code.wp _ _ _ _ _
  refine wp_seq ?_
  refine wp_region (show wpOps _ _ _ [0, 1, 2] _ _ from ?_)
  refine opL 0 25 (v := .slice (some ⟨w.heap.size, 0, none⟩) l.length l.length) (w' := wx) (by kernel_rfl) (frZ hs) ?_ ?_
  · exact frY rfl (k_move rfl (ev_tmp h5))
  refine frN3 hs hd h5 h12 h13 ?_; clear hs hd h5 h12 h13 h14; intro a hs hd h5 h12 h13 h25
  have hc := join_any w.heap.size l.length (l.map Lib.itoa) 44 wx hB.lt (by simp) (by simpa using hl) (fun x hx' => by obtain ⟨y, hy, rfl⟩ := List.mem_map.1 hx'; exact Nat.le_trans (Lib.itoa_length_le y (hx y hy).1 (hx y hy).2) (by omega)) (fun j hj => by rw [hB.cell j, row_end Lib.itoa l j (by simpa using hj)]; simp)
  rw [List.length_map] at hc
  have hx0 := fun ops Q rest d a i h1 h2 h3 => opL_call (P := Tryz.prog) (ops := ops) (Q := Q) (a := a) (w := wx) (rest := rest) i d h1 h2 h3 hc
  refine hx0 _ _ _ 26 _ 1 ?z77a ?z77b ?z77 ?z78
  case z77a => kernel_rfl
  case z77b => (rw [hs]; decide)
  case z77 => exact frY rfl (c_Join rfl rfl (ev_tmp h25) rfl)
  case z78 =>
  rintro _ w9 a ⟨rfl, l9⟩ F0
  replace hs := F0.z.trans hs
  replace hd := F0.e.trans hd
  replace h5 := (F0.n 5 (by decide)).trans h5
  replace h12 := (F0.n 12 (by decide)).trans h12
  replace h13 := (F0.n 13 (by decide)).trans h13
  clear h25
  have h26 := F0.s
  clear F0
  clear hx0 hc
  refine opL 2 4 (v := .string ⟨(Rfc.nums l).toArray⟩) (w' := w9) (by kernel_rfl) (frZ hs) ?_ ?_
  · exact frY rfl (k_assign rfl (ev_tmp h26))
  refine frN3 hs hd h5 h12 h13 ?_; clear hs hd h5 h12 h13 h26; intro a hs hd h5 h12 h13 h4
  refine wp_ret ?_
  exact hfin a _ hd h4 (hb.trans (l9.mono hb.size))

structure LpN (w0 : World) (A : Option Addr) (c : Nat) (l : List (Int × Int)) (i : Nat) (a : Act) (w : World) : Prop where
  d : a.defers = []
  z : a.tmps.size = 27
  s1 : a.tmps.getD 1 undef = .func (.func 61) #[] #[]
  s5 : a.tmps.getD 5 undef = .slice (some ⟨w0.heap.size, 0, none⟩) l.length l.length
  s11 : a.tmps.getD 11 undef = .slice A l.length c
  s12 : a.tmps.getD 12 undef = .int .i64 l.length
  s13 : a.tmps.getD 13 undef = .int .i64 i
  iN : i ≤ l.length
  B : Blk w w0.heap.size 9 (row Rfc.day l i)
  b : Below w0.heap.size w0 w
noncomputable def plNBody : Code := Tryz.f60.body.getD .skip
noncomputable def plNRound : Code := (Tryz.f60.body.bind loopOf).getD .skip

set_option maxRecDepth 100000 in
set_option maxHeartbeats 1000000 in
theorem plN_round (w0 : World) (A : Option Addr) (c : Nat) (l : List (Int × Int)) (hT : Tabs w0) (hL0 : NthsIn w0 A l) (hl : l.length ≤ 1000) (hx : ∀ x ∈ l, (-9223372036854775808 ≤ x.1 ∧ x.1 ≤ 9223372036854775807) ∧ (0 ≤ x.2 ∧ x.2 ≤ 6)) (i : Nat) (a : Act) (w : World) (Q : Exit → Act → World → Prop) (J : LpN w0 A c l i a w) (hlt : i < l.length) :
    plNRound.wp Tryz.prog (Exit.then (fun a' w' => (∃ i, LpN w0 A c l i a' w') ∧ (l.length - intOf (a'.tmps.getD 13 undef)).toNat < (l.length - intOf (a.tmps.getD 13 undef)).toNat) Q) a w := by
  obtain ⟨hd, hs, h1, h5, h11, h12, h13, hi, hB, hb⟩ := J
  have hL := hL0.below hb
  obtain ⟨ad, hA, -, hc, hc2⟩ := hL i hlt
  subst hA
  have hxi := hx l[i] (List.getElem_mem hlt)
  have e13 := h13
  rw [e13]
  clear e13
  unfold plNRound
  conv => arg 2; whnf
  refine wp_seq ?_
  refine wp_region (show wpOps _ _ _ [0] _ _ from ?_)
  refine opL 0 14 (v := .bool true) (w' := w) (by kernel_rfl) (frZ hs) ?_ ?_
  · exact frY rfl (o_ltI rfl (ev_tmp h13) (ev_tmp h12) (decide_eq_true (by omega)))
  refine frN5 hs hd h1 h5 h11 h12 h13 ?_; clear hs hd h1 h5 h11 h12 h13; intro a hs hd h1 h5 h11 h12 h13 h14
  refine wp_seq ?_
  refine wp_cond_true (ev_tmp h14) ?_
  clear h14
  refine wp_skip ?_
  refine wp_seq ?_
  refine wp_block ?_
  refine wp_seq ?_
  refine wp_region (show wpOps _ _ _ [0, 1, 2, 3, 4, 5] _ _ from ?_)
  refine opL 0 15 (v := .int .i64 i) (w' := w) (by kernel_rfl) (frZ hs) ?_ ?_
  · exact frY rfl (k_move rfl (ev_tmp h13))
  revert hs hd h1 h5 h11 h12 h13; refine frM5 ?_; intro a hs hd h1 h5 h11 h12 h13 h15
  refine opL 1 16 (v := .pointer (some (ad.add (i * 2)))) (w' := w) (by kernel_rfl) (frZ hs) ?_ ?_
  · exact frY rfl (k_atN rfl (ev_tmp h11) (ev_tmp h13) hlt)
  revert hs hd h1 h5 h11 h12 h13 h15; refine frM6 ?_; intro a hs hd h1 h5 h11 h12 h13 h15 h16
  refine opL 2 17 (v := .agg #[.int .i64 l[i].1, .int .i64 l[i].2]) (w' := w) (by kernel_rfl) (frZ hs) ?_ ?_
  · exact frY rfl (k_loadN2 rfl (ev_tmp h16) hc hc2)
  clear h16; revert hs hd h1 h5 h11 h12 h13 h15; refine frM6 ?_; intro a hs hd h1 h5 h11 h12 h13 h15 h17
  refine opL 3 7 (v := .pointer (some ⟨w.heap.size, 0, none⟩)) (w' := (w.alloc (.cells #[.int .i64 0, .int .i64 0] 55))) (by kernel_rfl) (frZ hs) ?_ ?_
  · exact frY rfl (k_allocN rfl)
  revert hs hd h1 h5 h11 h12 h13 h15 h17; refine frM7 ?_; intro a hs hd h1 h5 h11 h12 h13 h15 h17 h7
  obtain ⟨wa, hwa⟩ : ∃ wn, wn = w.alloc (.cells #[.int .i64 0, .int .i64 0] 55) := ⟨_, rfl⟩
  rw [← hwa]
  have qa : Blk wa w.heap.size 55 #[.int .i64 0, .int .i64 0] := by rw [hwa]; exact Blk.alloc _ _ _
  have la : Below w.heap.size w wa := by rw [hwa]; exact (Below.refl _ _).alloc (Nat.le_refl _) _
  clear hwa
  refine opL 4 6 (v := .int .i64 i) (w' := wa) (by kernel_rfl) (frZ hs) ?_ ?_
  · exact frY rfl (k_assign rfl (ev_tmp h15))
  refine frN7 hs hd h1 h5 h11 h12 h13 h17 h7 ?_; clear hs hd h1 h5 h11 h12 h13 h17 h7 h15; intro a hs hd h1 h5 h11 h12 h13 h17 h7 h6
  refine opL_store 5 (w' := (wa.setRow w.heap.size #[.int .i64 l[i].1, .int .i64 l[i].2])) (by kernel_rfl) ?_ ?_
  · exact frY rfl (k_storeS2 rfl (ev_tmp h7) (ev_tmp h17) qa (by kernel_rfl) rfl rfl (by simp [Value.oneCell']))
  clear h17
  obtain ⟨wb, hwb⟩ : ∃ wn, wn = wa.setRow w.heap.size #[.int .i64 l[i].1, .int .i64 l[i].2] := ⟨_, rfl⟩
  rw [← hwb]
  have qb : Blk wb w.heap.size 55 #[.int .i64 l[i].1, .int .i64 l[i].2] := by rw [hwb]; exact qa.setRow
  have lb : Below w.heap.size w wb := by rw [hwb]; exact la.trans ((exc_setRow wa w.heap.size #[.int .i64 l[i].1, .int .i64 l[i].2] w.heap.size).below (Nat.le_refl _))
  clear hwb qa la
  replace hB := hB.below lb hB.lt
  replace hb := hb.trans (lb.mono hb.size)
  refine wp_region (show wpOps _ _ _ [0, 1, 2, 3, 4, 5, 6] _ _ from ?_)
  refine opL 0 18 (v := .slice (some ⟨w0.heap.size, 0, none⟩) l.length l.length) (w' := wb) (by kernel_rfl) (frZ hs) ?_ ?_
  · exact frY rfl (k_move rfl (ev_tmp h5))
  refine frN7 hs hd h1 h5 h11 h12 h13 h7 h6 ?_; clear hs hd h1 h5 h11 h12 h13 h7 h6; intro a hs hd h1 h5 h11 h12 h13 h7 h6 h18
  refine opL 1 19 (v := .int .i64 i) (w' := wb) (by kernel_rfl) (frZ hs) ?_ ?_
  · exact frY rfl (k_move rfl (ev_tmp h6))
  revert hs hd h1 h5 h11 h12 h13 h7 h6 h18; refine frM8 ?_; intro a hs hd h1 h5 h11 h12 h13 h7 h6 h18 h19
  refine opL 2 20 (v := .func (.func 61) #[] #[]) (w' := wb) (by kernel_rfl) (frZ hs) ?_ ?_
  · exact frY rfl (k_move rfl (ev_tmp h1))
  revert hs hd h1 h5 h11 h12 h13 h7 h6 h18 h19; refine frM9 ?_; intro a hs hd h1 h5 h11 h12 h13 h7 h6 h18 h19 h20
  refine opL 3 21 (v := .agg #[.int .i64 l[i].1, .int .i64 l[i].2]) (w' := wb) (by kernel_rfl) (frZ hs) ?_ ?_
  · exact frY rfl (k_loadNs rfl (ev_tmp h7) qb)
  revert hs hd h1 h5 h11 h12 h13 h7 h6 h18 h19 h20; refine frM10 ?_; intro a hs hd h1 h5 h11 h12 h13 h7 h6 h18 h19 h20 h21
  have hc := wday_any l[i].1 l[i].2 wb (hT.below hb) hxi.1 hxi.2
  have hx := fun ops Q rest d a i h1 h2 h3 => opL_call (P := Tryz.prog) (ops := ops) (Q := Q) (a := a) (w := wb) (rest := rest) i d h1 h2 h3 hc
  refine hx _ _ _ 22 _ 4 ?z103a ?z103b ?z103 ?z104
  case z103a => kernel_rfl
  case z103b => (rw [hs]; decide)
  case z103 => exact frY rfl (c_valDay rfl (ev_tmp h20) (ev_tmp h21))
  case z104 =>
  rintro _ w2 a ⟨rfl, l2⟩ F0
  replace hs := F0.z.trans hs
  replace hd := F0.e.trans hd
  replace h1 := (F0.n 1 (by decide)).trans h1
  replace h5 := (F0.n 5 (by decide)).trans h5
  replace h11 := (F0.n 11 (by decide)).trans h11
  replace h12 := (F0.n 12 (by decide)).trans h12
  replace h13 := (F0.n 13 (by decide)).trans h13
  replace h7 := (F0.n 7 (by decide)).trans h7
  replace h6 := (F0.n 6 (by decide)).trans h6
  replace h18 := (F0.n 18 (by decide)).trans h18
  replace h19 := (F0.n 19 (by decide)).trans h19
  clear h20
  clear h21
  have h22 := F0.s
  clear F0
  clear hx hc
  replace hB := hB.below l2 hB.lt
  replace hb := hb.trans (l2.mono hb.size)
  refine opL 5 23 (v := .pointer (some ⟨w0.heap.size, i, none⟩)) (w' := w2) (by kernel_rfl) (frZ hs) ?_ ?_
  · exact frY rfl (k_atS' rfl (ev_tmp h18) (ev_tmp h19) hlt)
  refine frN8 hs hd h1 h5 h11 h12 h13 h7 h6 h22 ?_; clear hs hd h1 h5 h11 h12 h13 h7 h6 h22 h18 h19; intro a hs hd h1 h5 h11 h12 h13 h7 h6 h22 h23
  refine opL_store 6 (w' := (w2.setCell ⟨w0.heap.size, i, none⟩ (.string ⟨(Rfc.day l[i]).toArray⟩))) (by kernel_rfl) ?_ ?_
  · exact frY rfl (k_storeStr rfl (ev_tmp h23) (ev_tmp h22) hB (by rw [row_size (by omega)]; exact hlt))
  clear h22
  clear h23
  obtain ⟨w3, hw3⟩ : ∃ wn, wn = w2.setCell ⟨w0.heap.size, i, none⟩ (.string ⟨(Rfc.day l[i]).toArray⟩) := ⟨_, rfl⟩
  rw [← hw3]
  have hB3 : Blk w3 w0.heap.size 9 (row Rfc.day l (i + 1)) := by rw [hw3, ← row_set Rfc.day l i hlt]; exact hB.set i _
  replace hb : Below w0.heap.size w0 w3 := by rw [hw3]; exact hb.trans ((exc_set w2 w0.heap.size i _ w0.heap.size).below (Nat.le_refl _))
  clear hw3
  refine wp_region (show wpOps _ _ _ [0, 1] _ _ from ?_)
  refine opL 0 24 (v := .int .i64 (i + 1 : Nat)) (w' := w3) (by kernel_rfl) (frZ hs) ?_ ?_
  · exact frY rfl (o_addI rfl (ev_tmp h13) rfl (wrap_small (n := (i : Int) + 1) (by omega) (by omega)))
  refine frN7 hs hd h1 h5 h11 h12 h13 h7 h6 ?_; clear hs hd h1 h5 h11 h12 h13 h7 h6; intro a hs hd h1 h5 h11 h12 h13 h7 h6 h24
  refine opL 1 13 (v := .int .i64 (i + 1 : Nat)) (w' := w3) (by kernel_rfl) (frZ hs) ?_ ?_
  · exact frY rfl (k_move rfl (ev_tmp h24))
  clear h13 h24; revert hs hd h1 h5 h11 h12 h7 h6; refine frM6 ?_; intro a hs hd h1 h5 h11 h12 h7 h6 h13
  refine ⟨⟨i + 1, hd, hs, h1, h5, h11, h12, h13, hlt, hB3, hb⟩, ?_⟩
  rw [h13]
  simp only [intOf]
  omega

set_option maxRecDepth 100000 in
set_option maxHeartbeats 1000000 in
theorem plN_any (A : Option Addr) (c : Nat) (l : List (Int × Int)) (w : World) (hT : Tabs w) (hL : NthsIn w A l) (hl : l.length ≤ 1000) (hx : ∀ x ∈ l, (-9223372036854775808 ≤ x.1 ∧ x.1 ≤ 9223372036854775807) ∧ (0 ≤ x.2 ∧ x.2 ≤ 6)) :
    Calls Tryz.prog 60 #[.slice A l.length c, .func (.func 61) #[] #[]] w fun e w' => ∃ v, e = .returned v ∧ v = .string ⟨(Rfc.days l).toArray⟩ ∧ Below w.heap.size w w' := by
  refine calls_of_wp Tryz.func60 (show Tryz.f60.body = some plNBody from rfl) ?_
  generalize hAA : (Act.mk (#[.slice A l.length c, .func (.func 61) #[] #[]] ++ Array.replicate (Tryz.f60.ntmps - (#[.slice A l.length c, .func (.func 61) #[] #[]] : Array Value).size) undef) []) = a
  have hs : a.tmps.size = 27 := by rw [← hAA]; simp [Tryz.ntmps60]
  have hd : a.defers = [] := by rw [← hAA]
  have h0 : a.tmps.getD 0 undef = .slice A l.length c := by rw [← hAA]; simp
  have h1 : a.tmps.getD 1 undef = .func (.func 61) #[] #[] := by rw [← hAA]; simp
  clear hAA
  refine Code.wp_mono NoPanic.imp ?_
  have hQ : Blind (NoPanic (bodyPost Tryz.prog Tryz.f60 fun e w' => ∃ v, e = .returned v ∧ v = .string ⟨(Rfc.days l).toArray⟩ ∧ Below w.heap.size w w')) := fun _ _ _ _ q => q.elim
  have hfin : ∀ (a' : Act) (w' : World), a'.defers = [] → a'.tmps.getD 4 undef = .string ⟨(Rfc.days l).toArray⟩ → Below w.heap.size w w' → NoPanic (bodyPost Tryz.prog Tryz.f60 fun e w' => ∃ v, e = .returned v ∧ v = .string ⟨(Rfc.days l).toArray⟩ ∧ Below w.heap.size w w') .ret a' w' := by
    intro a' w' k1 k2 k3
    exact ⟨k1, _, results_tmp rfl _ _ _, _, rfl, k2, k3⟩
  generalize NoPanic (bodyPost Tryz.prog Tryz.f60 fun e w' => ∃ v, e = .returned v ∧ v = .string ⟨(Rfc.days l).toArray⟩ ∧ Below w.heap.size w w') = Q at hQ hfin
  unfold plNBody
  conv => arg 2; whnf
  refine wp_seq ?_
  refine wp_region (show wpOps _ _ _ [0] _ _ from ?_)
  refine opL 0 4 (v := .string ⟨#[]⟩) (w' := w) (by kernel_rfl) (frZ hs) ?_ ?_
  · exact frY rfl (k_assign rfl rfl)
  refine frN2 hs hd h0 h1 ?_; clear hs hd h0 h1; intro a hs hd h0 h1 h4
  refine wp_seq ?_
  refine wp_region (show wpOps _ _ _ [0, 1, 2, 3] _ _ from ?_)
  refine opL 0 8 (v := .slice A l.length c) (w' := w) (by kernel_rfl) (frZ hs) ?_ ?_
  · exact frY rfl (k_move rfl (ev_tmp h0))
  revert hs hd h0 h1 h4; refine frM3 ?_; intro a hs hd h0 h1 h4 h8
  refine opL 1 9 (v := .int .i64 l.length) (w' := w) (by kernel_rfl) (frZ hs) ?_ ?_
  · exact frY rfl (k_lenW rfl (ev_tmp h8))
  clear h8; revert hs hd h0 h1 h4; refine frM3 ?_; intro a hs hd h0 h1 h4 h9
  refine opL 2 10 (v := .slice (some ⟨w.heap.size, 0, none⟩) l.length l.length) (w' := (w.alloc (.cells (Array.replicate l.length (.string ⟨#[]⟩)) 9))) (by kernel_rfl) (frZ hs) ?_ ?_
  · exact frY rfl (k_makeStr rfl (ev_tmp h9) hl)
  clear h9; revert hs hd h0 h1 h4; refine frM3 ?_; intro a hs hd h0 h1 h4 h10
  obtain ⟨w1, hw1⟩ : ∃ wn, wn = w.alloc (.cells (Array.replicate l.length (.string ⟨#[]⟩)) 9) := ⟨_, rfl⟩
  rw [← hw1]
  have q1 : Blk w1 w.heap.size 9 (Array.replicate l.length (.string ⟨#[]⟩)) := by rw [hw1]; exact Blk.alloc _ _ _
  have l1 : Below w.heap.size w w1 := by rw [hw1]; exact (Below.refl _ _).alloc (Nat.le_refl _) _
  clear hw1
  refine opL 3 5 (v := .slice (some ⟨w.heap.size, 0, none⟩) l.length l.length) (w' := w1) (by kernel_rfl) (frZ hs) ?_ ?_
  · exact frY rfl (k_assign rfl (ev_tmp h10))
  refine frN3 hs hd h0 h1 h4 ?_; clear hs hd h0 h1 h4 h10; intro a hs hd h0 h1 h4 h5
  refine wp_seq ?_
  refine wp_seq ?_
  refine wp_region (show wpOps _ _ _ [0, 1, 2] _ _ from ?_)
  refine opL 0 11 (v := .slice A l.length c) (w' := w1) (by kernel_rfl) (frZ hs) ?_ ?_
  · exact frY rfl (k_move rfl (ev_tmp h0))
  revert hs hd h0 h1 h4 h5; refine frM4 ?_; intro a hs hd h0 h1 h4 h5 h11
  refine opL 1 12 (v := .int .i64 l.length) (w' := w1) (by kernel_rfl) (frZ hs) ?_ ?_
  · exact frY rfl (k_lenW rfl (ev_tmp h11))
  revert hs hd h0 h1 h4 h5 h11; refine frM5 ?_; intro a hs hd h0 h1 h4 h5 h11 h12
  refine opL 2 13 (v := .int .i64 0) (w' := w1) (by kernel_rfl) (frZ hs) ?_ ?_
  · exact frY rfl (k_move rfl rfl)
  revert hs hd h0 h1 h4 h5 h11 h12; refine frM6 ?_; intro a hs hd h0 h1 h4 h5 h11 h12 h13
  refine wp_block ?_
  refine wp_loop (fun a wx => ∃ i, LpN w A c l i a wx) (fun a _ => (l.length - intOf (a.tmps.getD 13 undef)).toNat) ⟨0, ⟨hd, hs, h1, h5, h11, h12, h13, Nat.zero_le _, by rw [row_start]; exact q1, l1⟩⟩ ?_
  clear hs hd q1 l1 h0 h1 h4 h5 h11 h12 h13 a
  rintro a wx ⟨i, J⟩
  by_cases hlt : i < l.length
  · exact plN_round w A c l hT hL hl hx i a wx _ J hlt
  obtain ⟨hd, hs, h1, h5, h11, h12, h13, hi, hB, hb⟩ := J
  obtain rfl : i = l.length := by omega
  clear h1 h11
  refine wp_seq ?_
  refine wp_region (show wpOps _ _ _ [0] _ _ from ?_)
  refine opL 0 14 (v := .bool false) (w' := wx) (by kernel_rfl) (frZ hs) ?_ ?_
  · exact frY rfl (o_ltI rfl (ev_tmp h13) (ev_tmp h12) (decide_eq_false (by omega)))
  refine frN3 hs hd h5 h12 h13 ?_; clear hs hd h5 h12 h13; intro a hs hd h5 h12 h13 h14
  refine wp_seq ?_
  refine wp_cond_false (ev_tmp h14) ?_
  refine wp_exit ?_
  change Code.wp _ _ _ _ _
  refine wp_seq ?_
  refine wp_region (show wpOps _ _ _ [0, 1, 2] _ _ from ?_)
  refine opL 0 25 (v := .slice (some ⟨w.heap.size, 0, none⟩) l.length l.length) (w' := wx) (by kernel_rfl) (frZ hs) ?_ ?_
  · exact frY rfl (k_move rfl (ev_tmp h5))
  refine frN3 hs hd h5 h12 h13 ?_; clear hs hd h5 h12 h13 h14; intro a hs hd h5 h12 h13 h25
  have hc := join_any w.heap.size l.length (l.map Rfc.day) 44 wx hB.lt (by simp) (by simpa using hl) (fun x hx' => by obtain ⟨y, hy, rfl⟩ := List.mem_map.1 hx'; exact Nat.le_trans (day_len y (hx y hy).1) (by omega)) (fun j hj => by rw [hB.cell j, row_end Rfc.day l j (by simpa using hj)]; simp)
  rw [List.length_map] at hc
  have hx0 := fun ops Q rest d a i h1 h2 h3 => opL_call (P := Tryz.prog) (ops := ops) (Q := Q) (a := a) (w := wx) (rest := rest) i d h1 h2 h3 hc
  refine hx0 _ _ _ 26 _ 1 ?z133a ?z133b ?z133 ?z134
  case z133a => kernel_rfl
  case z133b => (rw [hs]; decide)
  case z133 => exact frY rfl (c_Join rfl rfl (ev_tmp h25) rfl)
  case z134 =>
  rintro _ w9 a ⟨rfl, l9⟩ F0
  replace hs := F0.z.trans hs
  replace hd := F0.e.trans hd
  replace h5 := (F0.n 5 (by decide)).trans h5
  replace h12 := (F0.n 12 (by decide)).trans h12
  replace h13 := (F0.n 13 (by decide)).trans h13
  clear h25
  have h26 := F0.s
  clear F0
  clear hx0 hc
  refine opL 2 4 (v := .string ⟨(Rfc.days l).toArray⟩) (w' := w9) (by kernel_rfl) (frZ hs) ?_ ?_
  · exact frY rfl (k_assign rfl (ev_tmp h26))
  refine frN3 hs hd h5 h12 h13 ?_; clear hs hd h5 h12 h13 h26; intro a hs hd h5 h12 h13 h4
  refine wp_ret ?_
  exact hfin a _ hd h4 (hb.trans (l9.mono hb.size))
end Go.Proofs.YtocpmljkmdpfkaaGreatDoor
