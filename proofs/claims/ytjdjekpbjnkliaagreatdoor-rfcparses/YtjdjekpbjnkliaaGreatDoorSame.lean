/-
  The law's own Parse, whole.
-/
import Derived.Test.YtjdjekpbjnkliaaGreatDoorRf2
import Derived.Test.YtjdjekpbjnkliaaGreatDoorRbi
import Derived.Test.YtjdjekpbjnkliaaGreatDoorEql
namespace Go.Proofs.YtjdjekpbjnkliaaGreatDoor
open Go.RowKit
def LawCk : Prop := ∀ (f iv c u : Int) (AM AD AW AP : Option Addr) (cM cD cW cP : Nat) (M D : List Int) (W : List (Int × Int)) (P : List Int) (w : World), ListsIn w AM AD AW AP M D W P →
    Calls Tryz.prog 24 #[.agg #[.int .i64 f, .int .i64 iv, .int .i64 c, .int .i64 u, .slice AM M.length cM, .slice AD D.length cD, .slice AW W.length cW, .slice AP P.length cP]] w fun e w' => ∃ v, e = .returned v ∧ v = .int .i64 (Rul.check f iv c u M D W P) ∧ Below w.heap.size w w'
theorem k_names {w : World} {a : Act} {o : Oper} (ho : o.op = .buildSlice 42 8 #[(0, .const (.string ⟨#[70, 82, 69, 81]⟩)), (1, .const (.string ⟨#[73, 78, 84, 69, 82, 86, 65, 76]⟩)), (2, .const (.string ⟨#[67, 79, 85, 78, 84]⟩)), (3, .const (.string ⟨#[85, 78, 84, 73, 76]⟩)), (4, .const (.string ⟨#[66, 89, 77, 79, 78, 84, 72]⟩)), (5, .const (.string ⟨#[66, 89, 77, 79, 78, 84, 72, 68, 65, 89]⟩)), (6, .const (.string ⟨#[66, 89, 68, 65, 89]⟩)), (7, .const (.string ⟨#[66, 89, 83, 69, 84, 80, 79, 83]⟩))]) : (execOp a.eval o).run Tryz.prog w = .ok (.value (.slice (some ⟨w.heap.size, 0, none⟩) 8 8)) (w.alloc (.cells #[.string ⟨#[70, 82, 69, 81]⟩, .string ⟨#[73, 78, 84, 69, 82, 86, 65, 76]⟩, .string ⟨#[67, 79, 85, 78, 84]⟩, .string ⟨#[85, 78, 84, 73, 76]⟩, .string ⟨#[66, 89, 77, 79, 78, 84, 72]⟩, .string ⟨#[66, 89, 77, 79, 78, 84, 72, 68, 65, 89]⟩, .string ⟨#[66, 89, 68, 65, 89]⟩, .string ⟨#[66, 89, 83, 69, 84, 80, 79, 83]⟩] 9)) := by
  simp only [execOp, ho]
  go_simp
theorem results_lpa {tmps : Array Value} {w : World} {b : Nat} {f iv c u : Int} {sM sD sW sP r : Value} (hd : tmps.getD 2 undef = .pointer (some ⟨b, 0, none⟩)) (h : RuleAt w b f iv c u sM sD sW sP) (h3 : tmps.getD 3 undef = r) :
    (results Tryz.f7 tmps).run Tryz.prog w = .ok (.tuple #[.agg #[.int .i64 f, .int .i64 iv, .int .i64 c, .int .i64 u, sM, sD, sW, sP], r]) w := by
  obtain ⟨-, c0, c1, c2, c3, c4, c5, c6, c7⟩ := h
  have hr : tmps[2]?.getD undef = .pointer (some ⟨b, 0, none⟩) := by simpa using hd
  have hr3 : tmps[3]?.getD undef = r := by simpa using h3
  have hl : (loadVar 28 ⟨b, 0, none⟩).run Tryz.prog w = .ok (.agg #[.int .i64 f, .int .i64 iv, .int .i64 c, .int .i64 u, sM, sD, sW, sP]) w := by go_simp
  simp [results, hr, hr3, asAddr, hl]

set_option maxRecDepth 100000 in
set_option maxHeartbeats 1000000 in
theorem lparse_long (s : List UInt8) (w : World) (hl : 4096 < s.length) :
    Calls Tryz.prog 7 #[.string ⟨s.toArray⟩] w fun e w' => ∃ v, e = .returned v ∧ Out w' (Rfc.parse s) v ∧ Below w.heap.size w w' := by
  refine calls_of_wp Tryz.func7 (show Tryz.f7.body = some lpaBody from rfl) ?_
  generalize hAA : (Act.mk (#[.string ⟨s.toArray⟩] ++ Array.replicate (Tryz.f7.ntmps - (#[.string ⟨s.toArray⟩] : Array Value).size) undef) []) = a
  have hs : a.tmps.size = 71 := by rw [← hAA]; simp [Tryz.ntmps7]
  have hd : a.defers = [] := by rw [← hAA]
  have h0 : a.tmps.getD 0 undef = .string ⟨s.toArray⟩ := by rw [← hAA]; simp
  clear hAA
  have kk := (kn hs hd).p h0; clear hs hd h0
  refine Code.wp_mono NoPanic.imp ?_
  have hQ : Blind (NoPanic (bodyPost Tryz.prog Tryz.f7 fun e w' => ∃ v, e = .returned v ∧ Out w' (Rfc.parse s) v ∧ Below w.heap.size w w')) := fun _ _ _ _ q => q.elim
  have hfin : ∀ (a' : Act) (w' : World) (n : Int), a'.defers = [] → a'.tmps.getD 2 undef = .pointer (some ⟨w.heap.size, 0, none⟩) → Blk w' w.heap.size 28 #[.int .i64 0, .int .i64 0, .int .i64 0, .int .i64 0, .slice none 0 0, .slice none 0 0, .slice none 0 0, .slice none 0 0] → a'.tmps.getD 3 undef = .int .i64 n → Rfc.parse s = .bad n → Below w.heap.size w w' → NoPanic (bodyPost Tryz.prog Tryz.f7 fun e w' => ∃ v, e = .returned v ∧ Out w' (Rfc.parse s) v ∧ Below w.heap.size w w') .ret a' w' := by
    intro a' w' n k1 k2 k3 k4 k5 k6
    exact ⟨k1, _, results_lpa k2 k3.rule k4, _, rfl, by rw [k5]; exact rfl, k6⟩
  generalize NoPanic (bodyPost Tryz.prog Tryz.f7 fun e w' => ∃ v, e = .returned v ∧ Out w' (Rfc.parse s) v ∧ Below w.heap.size w w') = Q at hQ hfin
  clear hQ
  unfold lpaBody
  conv => arg 2; whnf
  refine wp_seq ?_
  refine wpr 2 ?_
  refine opk 0 2 (v := .pointer (some ⟨w.heap.size, 0, none⟩)) (w' := (w.alloc (.cells #[.int .i64 0, .int .i64 0, .int .i64 0, .int .i64 0, .slice none 0 0, .slice none 0 0, .slice none 0 0, .slice none 0 0] 28))) kk (frY rfl (k_allocR rfl)) ?_; clear kk; intro a kk
  obtain ⟨w1, hw1⟩ : ∃ wn, wn = w.alloc (.cells #[.int .i64 0, .int .i64 0, .int .i64 0, .int .i64 0, .slice none 0 0, .slice none 0 0, .slice none 0 0, .slice none 0 0] 28) := ⟨_, rfl⟩
  rw [← hw1]
  have q1 : Blk w1 w.heap.size 28 #[.int .i64 0, .int .i64 0, .int .i64 0, .int .i64 0, .slice none 0 0, .slice none 0 0, .slice none 0 0, .slice none 0 0] := by rw [hw1]; exact Blk.alloc _ _ _
  have l1 : Below w.heap.size w w1 := by rw [hw1]; exact (Below.refl _ _).alloc (Nat.le_refl _) _
  clear hw1
  refine opk 1 3 (v := .int .i64 0) kk (frY rfl (k_assign rfl rfl)) ?_; clear kk; intro a kk
  refine wp_seq ?_
  refine wp_seq ?_
  refine wpr 3 ?_
  refine opk 0 11 kk (frY rfl (k_move rfl (kk.e 0 rfl))) ?_; clear kk; intro a kk
  refine opk 1 12 (v := .int .i64 (⟨s.toArray⟩ : ByteArray).size) kk (frY rfl (k_lenT rfl (kk.e 11 rfl))) ?_; clear kk; intro a kk
  refine opk 2 13 (v := .bool true) kk (frY rfl (o_gtI rfl (kk.e 12 rfl) rfl (decide_eq_true (by rw [ba_size]; omega)))) ?_; clear kk; intro a kk
  refine wp_cond_true (kk.e 13 rfl) ?_
  refine wp_seq ?_
  refine wpr 3 ?_
  refine opk 0 14 (v := .agg #[.int .i64 0, .int .i64 0, .int .i64 0, .int .i64 0, .slice none 0 0, .slice none 0 0, .slice none 0 0, .slice none 0 0]) kk (frY rfl (k_buildR0 rfl)) ?_; clear kk; intro a kk
  refine opL_store 1 (w' := (w1.setRow w.heap.size #[.int .i64 0, .int .i64 0, .int .i64 0, .int .i64 0, .slice none 0 0, .slice none 0 0, .slice none 0 0, .slice none 0 0])) (by kernel_rfl) ?_ ?_
  · exact frY rfl (k_storeR rfl (kk.e 2 rfl) (kk.e 14 rfl) q1 rfl rfl (by simp [Value.oneCell']))
  have Qe := q1.setRow (cs := #[.int .i64 0, .int .i64 0, .int .i64 0, .int .i64 0, .slice none 0 0, .slice none 0 0, .slice none 0 0, .slice none 0 0])
  have le := (exc_setRow w1 w.heap.size #[.int .i64 0, .int .i64 0, .int .i64 0, .int .i64 0, .slice none 0 0, .slice none 0 0, .slice none 0 0, .slice none 0 0] w.heap.size).below (Nat.le_refl _)
  replace kk := kk.keep [13, 2, 0] rfl
  refine opk 2 3 (v := .int .i64 2) (w' := (w1.setRow w.heap.size #[.int .i64 0, .int .i64 0, .int .i64 0, .int .i64 0, .slice none 0 0, .slice none 0 0, .slice none 0 0, .slice none 0 0])) kk (frY rfl (k_assign rfl rfl)) ?_; clear kk; intro a kk
  refine wp_ret ?_
  exact hfin a _ 2 kk.d (kk.g 2 rfl) Qe (kk.g 3 rfl) (by unfold Rfc.parse; rw [if_pos hl]) (l1.trans le)

set_option maxRecDepth 100000 in
set_option maxHeartbeats 2000000 in
theorem lparse_some (hck0 : LawCk) (s : List UInt8) (w : World) (hT : Tabs3 w) (hl : s.length ≤ 4096) :
    Calls Tryz.prog 7 #[.string ⟨s.toArray⟩] w fun e w' => ∃ v, e = .returned v ∧ Out w' (Rfc.parse s) v ∧ Below w.heap.size w w' := by
  refine calls_of_wp Tryz.func7 (show Tryz.f7.body = some lpaBody from rfl) ?_
  generalize hAA : (Act.mk (#[.string ⟨s.toArray⟩] ++ Array.replicate (Tryz.f7.ntmps - (#[.string ⟨s.toArray⟩] : Array Value).size) undef) []) = a
  have hs : a.tmps.size = 71 := by rw [← hAA]; simp [Tryz.ntmps7]
  have hd : a.defers = [] := by rw [← hAA]
  have h0 : a.tmps.getD 0 undef = .string ⟨s.toArray⟩ := by rw [← hAA]; simp
  clear hAA
  have kk := (kn hs hd).p h0; clear hs hd h0
  refine Code.wp_mono NoPanic.imp ?_
  have hQ : Blind (NoPanic (bodyPost Tryz.prog Tryz.f7 fun e w' => ∃ v, e = .returned v ∧ Out w' (Rfc.parse s) v ∧ Below w.heap.size w w')) := fun _ _ _ _ q => q.elim
  have hfin : ∀ (a' : Act) (w' : World) (n : Int), a'.defers = [] → a'.tmps.getD 2 undef = .pointer (some ⟨w.heap.size, 0, none⟩) → Blk w' w.heap.size 28 #[.int .i64 0, .int .i64 0, .int .i64 0, .int .i64 0, .slice none 0 0, .slice none 0 0, .slice none 0 0, .slice none 0 0] → a'.tmps.getD 3 undef = .int .i64 n → Rfc.parse s = .bad n → Below w.heap.size w w' → NoPanic (bodyPost Tryz.prog Tryz.f7 fun e w' => ∃ v, e = .returned v ∧ Out w' (Rfc.parse s) v ∧ Below w.heap.size w w') .ret a' w' := by
    intro a' w' n k1 k2 k3 k4 k5 k6
    exact ⟨k1, _, results_lpa k2 k3.rule k4, _, rfl, by rw [k5]; exact rfl, k6⟩
  have hyes : ∀ (a' : Act) (w' : World) (r : Rfc.Ru) (g : List Bool) (A1 A2 A3 A4 : Option Addr) (c1 c2 c3 c4 : Nat), a'.defers = [] → a'.tmps.getD 2 undef = .pointer (some ⟨w.heap.size, 0, none⟩) → Blk w' w.heap.size 28 #[.int .i64 r.f, .int .i64 r.iv, .int .i64 r.c, .int .i64 r.u, .slice A1 r.M.length c1, .slice A2 r.D.length c2, .slice A3 r.K.length c3, .slice A4 r.P.length c4] → a'.tmps.getD 3 undef = .int .i64 0 → Rfc.parse s = .go r g → PlainR w' A1 A2 A3 A4 r.M r.D r.K r.P → Rul.check r.f r.iv r.c r.u r.M r.D r.K r.P = 0 → Below w.heap.size w w' → NoPanic (bodyPost Tryz.prog Tryz.f7 fun e w' => ∃ v, e = .returned v ∧ Out w' (Rfc.parse s) v ∧ Below w.heap.size w w') .ret a' w' := by
    intro a' w' r g A1 A2 A3 A4 c1 c2 c3 c4 k1 k2 k3 k4 k5 k6 k7 k8
    exact ⟨k1, _, results_lpa k2 k3.rule k4, _, rfl, by rw [k5]; exact ⟨A1, A2, A3, A4, c1, c2, c3, c4, rfl, k6, k7⟩, k8⟩
  generalize NoPanic (bodyPost Tryz.prog Tryz.f7 fun e w' => ∃ v, e = .returned v ∧ Out w' (Rfc.parse s) v ∧ Below w.heap.size w w') = Q at hQ hfin hyes
  unfold lpaBody
  conv => arg 2; whnf
  refine wp_seq ?_
  refine wpr 2 ?_
  refine opk 0 2 (v := .pointer (some ⟨w.heap.size, 0, none⟩)) (w' := (w.alloc (.cells #[.int .i64 0, .int .i64 0, .int .i64 0, .int .i64 0, .slice none 0 0, .slice none 0 0, .slice none 0 0, .slice none 0 0] 28))) kk (frY rfl (k_allocR rfl)) ?_; clear kk; intro a kk
  obtain ⟨w1, hw1⟩ : ∃ wn, wn = w.alloc (.cells #[.int .i64 0, .int .i64 0, .int .i64 0, .int .i64 0, .slice none 0 0, .slice none 0 0, .slice none 0 0, .slice none 0 0] 28) := ⟨_, rfl⟩
  rw [← hw1]
  have q1 : Blk w1 w.heap.size 28 #[.int .i64 0, .int .i64 0, .int .i64 0, .int .i64 0, .slice none 0 0, .slice none 0 0, .slice none 0 0, .slice none 0 0] := by rw [hw1]; exact Blk.alloc _ _ _
  have l1 : Below w.heap.size w w1 := by rw [hw1]; exact (Below.refl _ _).alloc (Nat.le_refl _) _
  clear hw1
  refine opk 1 3 (v := .int .i64 0) kk (frY rfl (k_assign rfl rfl)) ?_; clear kk; intro a kk
  refine wp_seq ?_
  refine wp_seq ?_
  refine wpr 3 ?_
  refine opk 0 11 kk (frY rfl (k_move rfl (kk.e 0 rfl))) ?_; clear kk; intro a kk
  refine opk 1 12 (v := .int .i64 (⟨s.toArray⟩ : ByteArray).size) kk (frY rfl (k_lenT rfl (kk.e 11 rfl))) ?_; clear kk; intro a kk
  refine opk 2 13 (v := .bool false) kk (frY rfl (o_gtI rfl (kk.e 12 rfl) rfl (decide_eq_false (by rw [ba_size]; omega)))) ?_; clear kk; intro a kk
  refine wp_cond_false (kk.e 13 rfl) ?_
  refine wp_skip ?_
  refine wp_seq ?_
  refine wpr 2 ?_
  refine opk 0 15 (v := .slice (some ⟨w1.heap.size, 0, none⟩) 8 8) (w' := (w1.alloc (.cells #[.string ⟨#[70, 82, 69, 81]⟩, .string ⟨#[73, 78, 84, 69, 82, 86, 65, 76]⟩, .string ⟨#[67, 79, 85, 78, 84]⟩, .string ⟨#[85, 78, 84, 73, 76]⟩, .string ⟨#[66, 89, 77, 79, 78, 84, 72]⟩, .string ⟨#[66, 89, 77, 79, 78, 84, 72, 68, 65, 89]⟩, .string ⟨#[66, 89, 68, 65, 89]⟩, .string ⟨#[66, 89, 83, 69, 84, 80, 79, 83]⟩] 9))) kk (frY rfl (k_names rfl)) ?_; clear kk; intro a kk
  obtain ⟨w2, hw2⟩ : ∃ wn, wn = w1.alloc (.cells #[.string ⟨#[70, 82, 69, 81]⟩, .string ⟨#[73, 78, 84, 69, 82, 86, 65, 76]⟩, .string ⟨#[67, 79, 85, 78, 84]⟩, .string ⟨#[85, 78, 84, 73, 76]⟩, .string ⟨#[66, 89, 77, 79, 78, 84, 72]⟩, .string ⟨#[66, 89, 77, 79, 78, 84, 72, 68, 65, 89]⟩, .string ⟨#[66, 89, 68, 65, 89]⟩, .string ⟨#[66, 89, 83, 69, 84, 80, 79, 83]⟩] 9) := ⟨_, rfl⟩
  rw [← hw2]
  have q2 : Blk w2 w1.heap.size 9 #[.string ⟨#[70, 82, 69, 81]⟩, .string ⟨#[73, 78, 84, 69, 82, 86, 65, 76]⟩, .string ⟨#[67, 79, 85, 78, 84]⟩, .string ⟨#[85, 78, 84, 73, 76]⟩, .string ⟨#[66, 89, 77, 79, 78, 84, 72]⟩, .string ⟨#[66, 89, 77, 79, 78, 84, 72, 68, 65, 89]⟩, .string ⟨#[66, 89, 68, 65, 89]⟩, .string ⟨#[66, 89, 83, 69, 84, 80, 79, 83]⟩] := by rw [hw2]; exact Blk.alloc _ _ _
  have l2 : Below w1.heap.size w1 w2 := by rw [hw2]; exact (Below.refl _ _).alloc (Nat.le_refl _) _
  clear hw2
  have ha := q1.lt
  replace q1 := q1.below l2 q1.lt
  replace l1 := l1.trans (l2.mono l1.size)
  clear l2
  refine opk 1 4 kk (frY rfl (k_assign rfl (kk.e 15 rfl))) ?_; clear kk; intro a kk
  refine wp_seq ?_
  refine wpr 3 ?_
  refine opk 0 16 (v := .agg #[.int .i64 0, .int .i64 1, .int .i64 0, .int .i64 0, .slice none 0 0, .slice none 0 0, .slice none 0 0, .slice none 0 0]) kk (frY rfl (k_buildR1 rfl rfl)) ?_; clear kk; intro a kk
  refine opk 1 5 (v := .pointer (some ⟨w2.heap.size, 0, none⟩)) (w' := (w2.alloc (.cells #[.int .i64 0, .int .i64 0, .int .i64 0, .int .i64 0, .slice none 0 0, .slice none 0 0, .slice none 0 0, .slice none 0 0] 28))) kk (frY rfl (k_allocR rfl)) ?_; clear kk; intro a kk
  obtain ⟨w3, hw3⟩ : ∃ wn, wn = w2.alloc (.cells #[.int .i64 0, .int .i64 0, .int .i64 0, .int .i64 0, .slice none 0 0, .slice none 0 0, .slice none 0 0, .slice none 0 0] 28) := ⟨_, rfl⟩
  rw [← hw3]
  have q3 : Blk w3 w2.heap.size 28 #[.int .i64 0, .int .i64 0, .int .i64 0, .int .i64 0, .slice none 0 0, .slice none 0 0, .slice none 0 0, .slice none 0 0] := by rw [hw3]; exact Blk.alloc _ _ _
  have l3 : Below w2.heap.size w2 w3 := by rw [hw3]; exact (Below.refl _ _).alloc (Nat.le_refl _) _
  clear hw3
  have hb2 := q2.lt
  replace q1 := q1.below l3 q1.lt
  replace q2 := q2.below l3 q2.lt
  replace l1 := l1.trans (l3.mono l1.size)
  clear l3
  refine opL_store 2 (w' := (w3.setRow w2.heap.size #[.int .i64 0, .int .i64 1, .int .i64 0, .int .i64 0, .slice none 0 0, .slice none 0 0, .slice none 0 0, .slice none 0 0])) (by kernel_rfl) ?_ ?_
  · exact frY rfl (k_storeR rfl (kk.e 5 rfl) (kk.e 16 rfl) q3 rfl rfl (by simp [Value.oneCell']))
  obtain ⟨w4, hw4⟩ : ∃ wn, wn = w3.setRow w2.heap.size #[.int .i64 0, .int .i64 1, .int .i64 0, .int .i64 0, .slice none 0 0, .slice none 0 0, .slice none 0 0, .slice none 0 0] := ⟨_, rfl⟩
  rw [← hw4]
  have q4 : Blk w4 w2.heap.size 28 #[.int .i64 0, .int .i64 1, .int .i64 0, .int .i64 0, .slice none 0 0, .slice none 0 0, .slice none 0 0, .slice none 0 0] := by rw [hw4]; exact q3.setRow
  have e4 : ∀ B, Exc B w2.heap.size w3 w4 := by rw [hw4]; exact exc_setRow w3 w2.heap.size #[.int .i64 0, .int .i64 1, .int .i64 0, .int .i64 0, .slice none 0 0, .slice none 0 0, .slice none 0 0, .slice none 0 0]
  clear hw4 q3
  replace q1 := q1.exc (e4 w3.heap.size) q1.lt (by omega)
  replace q2 := q2.exc (e4 w3.heap.size) q2.lt (by omega)
  replace l1 := l1.trans ((e4 w.heap.size).below (by omega))
  refine wp_seq ?_
  refine wpr 1 ?_
  refine opk 0 6 (v := .slice none 0 0) kk (frY rfl (k_assign rfl rfl)) ?_; clear kk; intro a kk
  refine wp_seq ?_
  refine wp_seq ?_
  refine wpr 4 ?_
  refine opk 0 17 kk (frY rfl (k_move rfl (kk.e 0 rfl))) ?_; clear kk; intro a kk
  have hc := split_any s 59 w4 (hT.t.below l1) (by omega)
  refine opkc 1 18 kk hc (frY rfl (c_Split rfl rfl (kk.e 17 rfl) rfl)) ?_; clear kk hc
  rintro _ w5 a ⟨⟨rfl, q5⟩, l5⟩ F0
  have kk := F0; clear F0
  have hc4 := q4.lt
  have hc5 := q5.lt
  replace q1 := q1.below l5 q1.lt
  replace q2 := q2.below l5 q2.lt
  replace q4 := q4.below l5 q4.lt
  replace l1 := l1.trans (l5.mono l1.size)
  refine opk 2 19 (v := .int .i64 (Rfc.spl s 59).length) kk (frY rfl (k_lenStr rfl (kk.e 18 rfl))) ?_; clear kk; intro a kk
  refine opk 3 20 (v := .int .i64 0) kk (frY rfl (k_move rfl rfl)) ?_; clear kk; intro a kk
  refine wp_block ?_
  refine wp_loop (fun a wx => ∃ i r g SN A cap, LpP w w1.heap.size w2.heap.size w4.heap.size w5.heap.size s i r g SN A cap a wx) (fun a _ => ((Rfc.spl s 59).length - intOf (a.tmps.getD 20 undef)).toNat) ⟨0, (⟨0, 1, 0, 0, [], [], [], []⟩ : Rfc.Ru), (List.replicate 8 false), [], none, 0, ⟨kk.d, kk.z, (kk.g 2 rfl), (kk.g 4 rfl), (kk.g 5 rfl), (kk.g 6 rfl), (kk.g 18 rfl), (kk.g 19 rfl), (kk.g 20 rfl), Nat.zero_le _, rfl, rfl, q1, ⟨none, none, none, none, 0, 0, 0, 0, q4, InI.nil _ _, InI.nil _ _, InN.nil _ _, InI.nil _ _, (fun _ => ⟨rfl, rfl, rfl⟩), (fun _ e => by cases e), (fun _ e => by cases e), (fun _ e => by cases e), (fun _ e => by cases e)⟩, q2, q5, Rfc.Seen.nil, OwnS.nil _ _, Nat.le_refl _, ⟨by omega, by omega, by omega, by omega, Nat.le_refl _⟩, l1⟩⟩ ?_
  clear kk q1 q2 q4 q5 l5 l1 a
  rintro a wx ⟨i, r, g, SN, A, cap, J⟩
  by_cases hlt : i < (Rfc.spl s 59).length
  · by_cases hix : Lib.indexByte ((Rfc.spl s 59)[i]) 61 < 0
    · exact pr_noeq w _ _ _ _ s hl i r g SN A cap a wx _ J hlt hix (fun a' w' n k1 k2 k3 k4 k5 k6 => hfin a' w' n k1 k2 k3 k4 (by unfold Rfc.parse; rw [if_neg (by omega), k5]; rfl) k6)
    ·
      obtain ⟨k, hix⟩ : ∃ k : Nat, Lib.indexByte ((Rfc.spl s 59)[i]) 61 = (k : Int) := ⟨(Lib.indexByte ((Rfc.spl s 59)[i]) 61).toNat, by omega⟩
      cases hk : Rfc.part (((Rfc.spl s 59)[i]).take k) with
      | none => exact pr_unknown w _ _ _ _ s hl i r g SN A cap a wx _ J hlt k hix hk (fun a' w' n k1 k2 k3 k4 k5 k6 => hfin a' w' n k1 k2 k3 k4 (by unfold Rfc.parse; rw [if_neg (by omega), k5]; rfl) k6)
      | some p =>
        cases hgp : g.getD p false
        · cases hv : Rfc.setF p (((Rfc.spl s 59)[i]).drop (k + 1)) r with
          | none => exact pr_badval w _ _ _ _ s hT hl i r g SN A cap a wx _ (by repeat (first | exact hQ | refine blind_then ?_ | refine blind_block ?_)) J hlt k hix p hk hgp hv (fun a' w' n k1 k2 k3 k4 k5 k6 => hfin a' w' n k1 k2 k3 k4 (by unfold Rfc.parse; rw [if_neg (by omega), k5]; rfl) k6)
          | some r' => exact pr_ok w _ _ _ _ s hT hl i r g SN A cap a wx _ (by repeat (first | exact hQ | refine blind_then ?_ | refine blind_block ?_)) J hlt k hix p hk hgp r' hv
        · exact pr_twice w _ _ _ _ s hl i r g SN A cap a wx _ J hlt k hix p hk hgp (fun a' w' n k1 k2 k3 k4 k5 k6 => hfin a' w' n k1 k2 k3 k4 (by unfold Rfc.parse; rw [if_neg (by omega), k5]; rfl) k6)
  obtain ⟨hd, hs, h2, h4, h5, h6, h18, h19, h20, hi, hm, g8, Q2, hR, hN, hS, hsn0, oS, lS, oo, hb⟩ := J
  have kk := (((((((kn hs hd).p h2).p h4).p h5).p h6).p h18).p h19).p h20; clear hs hd h2 h4 h5 h6 h18 h19 h20
  obtain rfl : i = (Rfc.spl s 59).length := by omega
  rw [List.drop_length] at hm
  clear hS hN
  refine wp_seq ?_
  refine wpr 1 ?_
  refine opk 0 21 (v := .bool false) kk (frY rfl (o_ltI rfl (kk.e 20 rfl) (kk.e 19 rfl) (decide_eq_false (by omega)))) ?_; clear kk; intro a kk
  refine wp_seq ?_
  refine wp_cond_false (kk.e 21 rfl) ?_
  refine wp_exit ?_
  change Code.wp _ _ _ _ _
  have hspl : SN.length ≤ 100001 := by
    have hcb := Lib.countB_le ⟨#[59]⟩ (Nat.le_refl 1) _ ⟨s.toArray⟩ (Nat.le_refl _)
    rw [spl_len] at lS
    rw [ba_size] at hcb
    omega
  have hpe : Rfc.parse s = Rfc.endP (.go r g) := by unfold Rfc.parse; rw [if_neg (by omega), hm]; rfl
  have hfq := hsn0 0 (by omega)
  obtain ⟨A1, A2, A3, A4, c1, c2, c3, c4, hB, i1, i2, i3, i4, -, -, -, -, -⟩ := hR
  have hPl : PlainR wx A1 A2 A3 A4 r.M r.D r.K r.P := ⟨i1.plain, i2.plain, i3.plain, i4.plain, i1.1, i2.1, i3.1, i4.1⟩
  cases hgf : g.getD 0 false
  ·
    have hsn : Rfc.nm 0 ∉ SN := fun h => by have := hfq.1 h; rw [hgf] at this; cases this
    refine wp_seq ?_
    refine wp_seq ?_
    refine wpr 3 ?_
    refine opk 0 60 kk (frY rfl (k_move rfl (kk.e 6 rfl))) ?_; clear kk; intro a kk
    have hc := lcontains_any A cap SN (Rfc.nm 0) wx oS.strs (by omega)
    refine opkc 1 61 kk hc (frY rfl (c_CoS rfl rfl (kk.e 60 rfl) rfl)) ?_; clear kk hc
    rintro _ w6 a ⟨rfl, hw6⟩ F0
    rw [decide_eq_false hsn] at F0
    have kk := F0; clear F0
    replace hw6 := hw6.symm
    subst hw6
    refine opk 2 62 (v := .bool true) kk (frY rfl (o_not rfl (kk.e 61 rfl) rfl)) ?_; clear kk; intro a kk
    refine wp_cond_true (kk.e 62 rfl) ?_
    refine wp_seq ?_
    refine wpr 3 ?_
    refine opk 0 63 (v := .agg #[.int .i64 0, .int .i64 0, .int .i64 0, .int .i64 0, .slice none 0 0, .slice none 0 0, .slice none 0 0, .slice none 0 0]) kk (frY rfl (k_buildR0 rfl)) ?_; clear kk; intro a kk
    refine opL_store 1 (w' := (w6.setRow w.heap.size #[.int .i64 0, .int .i64 0, .int .i64 0, .int .i64 0, .slice none 0 0, .slice none 0 0, .slice none 0 0, .slice none 0 0])) (by kernel_rfl) ?_ ?_
    · exact frY rfl (k_storeR rfl (kk.e 2 rfl) (kk.e 63 rfl) Q2 rfl rfl (by simp [Value.oneCell']))
    have Qe := Q2.setRow (cs := #[.int .i64 0, .int .i64 0, .int .i64 0, .int .i64 0, .slice none 0 0, .slice none 0 0, .slice none 0 0, .slice none 0 0])
    have le := (exc_setRow w6 w.heap.size #[.int .i64 0, .int .i64 0, .int .i64 0, .int .i64 0, .slice none 0 0, .slice none 0 0, .slice none 0 0, .slice none 0 0] w.heap.size).below (Nat.le_refl _)
    refine opk 2 3 (v := .int .i64 1) (w' := (w6.setRow w.heap.size #[.int .i64 0, .int .i64 0, .int .i64 0, .int .i64 0, .slice none 0 0, .slice none 0 0, .slice none 0 0, .slice none 0 0])) kk (frY rfl (k_assign rfl rfl)) ?_; clear kk; intro a kk
    refine wp_ret ?_
    exact hfin a _ 1 kk.d (kk.g 2 rfl) Qe (kk.g 3 rfl) (by rw [hpe]; unfold Rfc.endP; dsimp only; rw [if_pos hgf]) (hb.trans le)
  by_cases hck : Rul.check r.f r.iv r.c r.u r.M r.D r.K r.P = 0
  ·
    have hsn : Rfc.nm 0 ∈ SN := hfq.2 hgf
    refine wp_seq ?_
    refine wp_seq ?_
    refine wpr 3 ?_
    refine opk 0 60 kk (frY rfl (k_move rfl (kk.e 6 rfl))) ?_; clear kk; intro a kk
    have hc := lcontains_any A cap SN (Rfc.nm 0) wx oS.strs (by omega)
    refine opkc 1 61 kk hc (frY rfl (c_CoS rfl rfl (kk.e 60 rfl) rfl)) ?_; clear kk hc
    rintro _ w6 a ⟨rfl, hw6⟩ F0
    rw [decide_eq_true hsn] at F0
    have kk := F0; clear F0
    replace hw6 := hw6.symm
    subst hw6
    refine opk 2 62 (v := .bool false) kk (frY rfl (o_not rfl (kk.e 61 rfl) rfl)) ?_; clear kk; intro a kk
    refine wp_cond_false (kk.e 62 rfl) ?_
    refine wp_skip ?_
    refine wp_seq ?_
    refine wp_seq ?_
    refine wpr 3 ?_
    refine opk 0 64 (v := .agg #[.int .i64 r.f, .int .i64 r.iv, .int .i64 r.c, .int .i64 r.u, .slice A1 r.M.length c1, .slice A2 r.D.length c2, .slice A3 r.K.length c3, .slice A4 r.P.length c4]) kk (frY rfl (k_loadR rfl (kk.e 5 rfl) hB.rule)) ?_; clear kk; intro a kk
    have hc := hck0 r.f r.iv r.c r.u A1 A2 A3 A4 c1 c2 c3 c4 r.M r.D r.K r.P w6 hPl.lists
    refine opkc 1 65 kk hc (frY rfl (k_callLaw rfl rfl (kk.e 64 rfl))) ?_; clear kk hc
    rintro _ w7 a ⟨rfl, l7⟩ F0
    rw [hck] at F0
    have kk := F0; clear F0
    have Q7 := Q2.below l7 Q2.lt
    have B7 := hB.below l7 hB.lt
    have b7 := hb.trans (l7.mono hb.size)
    refine opk 2 10 kk (frY rfl (k_assign rfl (kk.e 65 rfl))) ?_; clear kk; intro a kk
    refine wp_seq ?_
    refine wpr 2 ?_
    refine opk 0 66 kk (frY rfl (k_move rfl (kk.e 10 rfl))) ?_; clear kk; intro a kk
    refine opk 1 67 (v := .bool false) kk (frY rfl (o_neE rfl (kk.e 66 rfl) rfl rfl)) ?_; clear kk; intro a kk
    refine wp_cond_false (kk.e 67 rfl) ?_
    refine wp_skip ?_
    refine wp_seq ?_
    refine wpr 3 ?_
    refine opk 0 70 (v := .agg #[.int .i64 r.f, .int .i64 r.iv, .int .i64 r.c, .int .i64 r.u, .slice A1 r.M.length c1, .slice A2 r.D.length c2, .slice A3 r.K.length c3, .slice A4 r.P.length c4]) kk (frY rfl (k_loadR rfl (kk.e 5 rfl) B7.rule)) ?_; clear kk; intro a kk
    refine opL_store 1 (w' := (w7.setRow w.heap.size #[.int .i64 r.f, .int .i64 r.iv, .int .i64 r.c, .int .i64 r.u, .slice A1 r.M.length c1, .slice A2 r.D.length c2, .slice A3 r.K.length c3, .slice A4 r.P.length c4])) (by kernel_rfl) ?_ ?_
    · exact frY rfl (k_storeR rfl (kk.e 2 rfl) (kk.e 70 rfl) Q7 rfl rfl (by simp [Value.oneCell']))
    have Qe := Q7.setRow (cs := #[.int .i64 r.f, .int .i64 r.iv, .int .i64 r.c, .int .i64 r.u, .slice A1 r.M.length c1, .slice A2 r.D.length c2, .slice A3 r.K.length c3, .slice A4 r.P.length c4])
    have ee := exc_setRow w7 w.heap.size #[.int .i64 r.f, .int .i64 r.iv, .int .i64 r.c, .int .i64 r.u, .slice A1 r.M.length c1, .slice A2 r.D.length c2, .slice A3 r.K.length c3, .slice A4 r.P.length c4]
    have le := (ee w.heap.size).below (Nat.le_refl _)
    refine opk 2 3 (v := .int .i64 0) (w' := (w7.setRow w.heap.size #[.int .i64 r.f, .int .i64 r.iv, .int .i64 r.c, .int .i64 r.u, .slice A1 r.M.length c1, .slice A2 r.D.length c2, .slice A3 r.K.length c3, .slice A4 r.P.length c4])) kk (frY rfl (k_assign rfl rfl)) ?_; clear kk; intro a kk
    refine wp_ret ?_
    have i7 := (i1.exc (Exc.of (b := w.heap.size) l7) (by omega)).exc (ee w7.heap.size) (by omega)
    have j7 := (i2.exc (Exc.of (b := w.heap.size) l7) (by omega)).exc (ee w7.heap.size) (by omega)
    have k7 := (i3.exc (Exc.of (b := w.heap.size) l7) (by omega)).exc (ee w7.heap.size) (by omega)
    have m7 := (i4.exc (Exc.of (b := w.heap.size) l7) (by omega)).exc (ee w7.heap.size) (by omega)
    exact hyes a _ r g A1 A2 A3 A4 c1 c2 c3 c4 kk.d (kk.g 2 rfl) Qe (kk.g 3 rfl) (by rw [hpe]; unfold Rfc.endP; dsimp only; rw [if_neg (by rw [hgf]; decide), if_neg (by simpa using hck)]) ⟨i7.plain, j7.plain, k7.plain, m7.plain, i1.1, i2.1, i3.1, i4.1⟩ hck (b7.trans le)
  ·
    have hsn : Rfc.nm 0 ∈ SN := hfq.2 hgf
    refine wp_seq ?_
    refine wp_seq ?_
    refine wpr 3 ?_
    refine opk 0 60 kk (frY rfl (k_move rfl (kk.e 6 rfl))) ?_; clear kk; intro a kk
    have hc := lcontains_any A cap SN (Rfc.nm 0) wx oS.strs (by omega)
    refine opkc 1 61 kk hc (frY rfl (c_CoS rfl rfl (kk.e 60 rfl) rfl)) ?_; clear kk hc
    rintro _ w6 a ⟨rfl, hw6⟩ F0
    rw [decide_eq_true hsn] at F0
    have kk := F0; clear F0
    replace hw6 := hw6.symm
    subst hw6
    refine opk 2 62 (v := .bool false) kk (frY rfl (o_not rfl (kk.e 61 rfl) rfl)) ?_; clear kk; intro a kk
    refine wp_cond_false (kk.e 62 rfl) ?_
    refine wp_skip ?_
    refine wp_seq ?_
    refine wp_seq ?_
    refine wpr 3 ?_
    refine opk 0 64 (v := .agg #[.int .i64 r.f, .int .i64 r.iv, .int .i64 r.c, .int .i64 r.u, .slice A1 r.M.length c1, .slice A2 r.D.length c2, .slice A3 r.K.length c3, .slice A4 r.P.length c4]) kk (frY rfl (k_loadR rfl (kk.e 5 rfl) hB.rule)) ?_; clear kk; intro a kk
    have hc := hck0 r.f r.iv r.c r.u A1 A2 A3 A4 c1 c2 c3 c4 r.M r.D r.K r.P w6 hPl.lists
    refine opkc 1 65 kk hc (frY rfl (k_callLaw rfl rfl (kk.e 64 rfl))) ?_; clear kk hc
    rintro _ w7 a ⟨rfl, l7⟩ F0
    have kk := F0; clear F0
    have Q7 := Q2.below l7 Q2.lt
    have B7 := hB.below l7 hB.lt
    have b7 := hb.trans (l7.mono hb.size)
    refine opk 2 10 kk (frY rfl (k_assign rfl (kk.e 65 rfl))) ?_; clear kk; intro a kk
    refine wp_seq ?_
    refine wpr 2 ?_
    refine opk 0 66 kk (frY rfl (k_move rfl (kk.e 10 rfl))) ?_; clear kk; intro a kk
    refine opk 1 67 (v := .bool true) kk (frY rfl (o_neE rfl (kk.e 66 rfl) rfl (by simpa using hck))) ?_; clear kk; intro a kk
    refine wp_cond_true (kk.e 67 rfl) ?_
    refine wp_seq ?_
    refine wpr 4 ?_
    refine opk 0 68 (v := .agg #[.int .i64 0, .int .i64 0, .int .i64 0, .int .i64 0, .slice none 0 0, .slice none 0 0, .slice none 0 0, .slice none 0 0]) kk (frY rfl (k_buildR0 rfl)) ?_; clear kk; intro a kk
    refine opk 1 69 kk (frY rfl (k_move rfl (kk.e 10 rfl))) ?_; clear kk; intro a kk
    refine opL_store 2 (w' := (w7.setRow w.heap.size #[.int .i64 0, .int .i64 0, .int .i64 0, .int .i64 0, .slice none 0 0, .slice none 0 0, .slice none 0 0, .slice none 0 0])) (by kernel_rfl) ?_ ?_
    · exact frY rfl (k_storeR rfl (kk.e 2 rfl) (kk.e 68 rfl) Q7 rfl rfl (by simp [Value.oneCell']))
    have Qe := Q7.setRow (cs := #[.int .i64 0, .int .i64 0, .int .i64 0, .int .i64 0, .slice none 0 0, .slice none 0 0, .slice none 0 0, .slice none 0 0])
    have le := (exc_setRow w7 w.heap.size #[.int .i64 0, .int .i64 0, .int .i64 0, .int .i64 0, .slice none 0 0, .slice none 0 0, .slice none 0 0, .slice none 0 0] w.heap.size).below (Nat.le_refl _)
    refine opk 3 3 (w' := (w7.setRow w.heap.size #[.int .i64 0, .int .i64 0, .int .i64 0, .int .i64 0, .slice none 0 0, .slice none 0 0, .slice none 0 0, .slice none 0 0])) kk (frY rfl (k_assign rfl (kk.e 69 rfl))) ?_; clear kk; intro a kk
    refine wp_ret ?_
    exact hfin a _ _ kk.d (kk.g 2 rfl) Qe (kk.g 3 rfl) (by rw [hpe]; unfold Rfc.endP; dsimp only; rw [if_neg (by rw [hgf]; decide), if_pos hck]) (b7.trans le)

theorem lparse_any (hck0 : LawCk) (s : List UInt8) (w : World) (hT : Tabs3 w) :
    Calls Tryz.prog 7 #[.string ⟨s.toArray⟩] w fun e w' => ∃ v, e = .returned v ∧ Out w' (Rfc.parse s) v ∧ Below w.heap.size w w' := by
  by_cases hl : s.length ≤ 4096
  · exact lparse_some hck0 s w hT hl
  · exact lparse_long s w (by omega)
noncomputable def sameBody : Code := Tryz.f8.body.getD .skip
set_option maxRecDepth 100000 in
set_option maxHeartbeats 1000000 in
theorem same_any (f iv c u f' iv' c' u' : Int) (A1 A2 A3 A4 B1 B2 B3 B4 : Option Addr) (c1 c2 c3 c4 d1 d2 d3 d4 : Nat) (M D M' D' : List Int) (K K' : List (Int × Int)) (P P' : List Int) (w : World) (hA : PlainR w A1 A2 A3 A4 M D K P) (hB : PlainR w B1 B2 B3 B4 M' D' K' P') :
    Calls Tryz.prog 8 #[.agg #[.int .i64 f, .int .i64 iv, .int .i64 c, .int .i64 u, .slice A1 M.length c1, .slice A2 D.length c2, .slice A3 K.length c3, .slice A4 P.length c4], .agg #[.int .i64 f', .int .i64 iv', .int .i64 c', .int .i64 u', .slice B1 M'.length d1, .slice B2 D'.length d2, .slice B3 K'.length d3, .slice B4 P'.length d4]] w fun e w' => ∃ v, e = .returned v ∧ v = .bool (sameB f iv c u M D K P f' iv' c' u' M' D' K' P') ∧ Below w.heap.size w w' := by
  refine calls_of_wp Tryz.func8 (show Tryz.f8.body = some sameBody from rfl) ?_
  generalize hAA : (Act.mk (#[.agg #[.int .i64 f, .int .i64 iv, .int .i64 c, .int .i64 u, .slice A1 M.length c1, .slice A2 D.length c2, .slice A3 K.length c3, .slice A4 P.length c4], .agg #[.int .i64 f', .int .i64 iv', .int .i64 c', .int .i64 u', .slice B1 M'.length d1, .slice B2 D'.length d2, .slice B3 K'.length d3, .slice B4 P'.length d4]] ++ Array.replicate (Tryz.f8.ntmps - (#[.agg #[.int .i64 f, .int .i64 iv, .int .i64 c, .int .i64 u, .slice A1 M.length c1, .slice A2 D.length c2, .slice A3 K.length c3, .slice A4 P.length c4], .agg #[.int .i64 f', .int .i64 iv', .int .i64 c', .int .i64 u', .slice B1 M'.length d1, .slice B2 D'.length d2, .slice B3 K'.length d3, .slice B4 P'.length d4]] : Array Value).size) undef) []) = a
  have hs : a.tmps.size = 59 := by rw [← hAA]; simp [Tryz.ntmps8]
  have hd : a.defers = [] := by rw [← hAA]
  have h0 : a.tmps.getD 0 undef = .agg #[.int .i64 f, .int .i64 iv, .int .i64 c, .int .i64 u, .slice A1 M.length c1, .slice A2 D.length c2, .slice A3 K.length c3, .slice A4 P.length c4] := by rw [← hAA]; simp
  have h1 : a.tmps.getD 1 undef = .agg #[.int .i64 f', .int .i64 iv', .int .i64 c', .int .i64 u', .slice B1 M'.length d1, .slice B2 D'.length d2, .slice B3 K'.length d3, .slice B4 P'.length d4] := by rw [← hAA]; simp
  clear hAA
  have hfin : ∀ (a' : Act) (w' : World), a'.defers = [] → a'.tmps.getD 4 undef = .bool (sameB f iv c u M D K P f' iv' c' u' M' D' K' P') → Below w.heap.size w w' → (bodyPost Tryz.prog Tryz.f8 fun e w' => ∃ v, e = .returned v ∧ v = .bool (sameB f iv c u M D K P f' iv' c' u' M' D' K' P') ∧ Below w.heap.size w w') .ret a' w' := by
    intro a' w' k1 k2 k3
    exact ⟨k1, _, results_tmp rfl _ _ _, _, rfl, k2, k3⟩
  generalize (bodyPost Tryz.prog Tryz.f8 fun e w' => ∃ v, e = .returned v ∧ v = .bool (sameB f iv c u M D K P f' iv' c' u' M' D' K' P') ∧ Below w.heap.size w w') = Q at hfin
  unfold sameBody
  conv => arg 2; whnf
  refine wp_seq ?_
  refine wp_region (show wpOps _ _ _ [0, 1, 2] _ _ from ?_)
  refine opL 0 2 (v := .pointer (some ⟨w.heap.size, 0, none⟩)) (w' := (w.alloc (.cells #[.int .i64 f, .int .i64 iv, .int .i64 c, .int .i64 u, .slice A1 M.length c1, .slice A2 D.length c2, .slice A3 K.length c3, .slice A4 P.length c4] 28))) (by kernel_rfl) (frZ hs) ?_ ?_
  · exact frY rfl (k_boxR rfl (ev_tmp h0))
  refine frN1 hs hd h1 ?_; clear hs hd h1 h0; intro a hs hd h1 h2
  obtain ⟨w1, hw1⟩ : ∃ wn, wn = w.alloc (.cells #[.int .i64 f, .int .i64 iv, .int .i64 c, .int .i64 u, .slice A1 M.length c1, .slice A2 D.length c2, .slice A3 K.length c3, .slice A4 P.length c4] 28) := ⟨_, rfl⟩
  rw [← hw1]
  have q1 : Blk w1 w.heap.size 28 #[.int .i64 f, .int .i64 iv, .int .i64 c, .int .i64 u, .slice A1 M.length c1, .slice A2 D.length c2, .slice A3 K.length c3, .slice A4 P.length c4] := by rw [hw1]; exact Blk.alloc _ _ _
  have l1 : Below w.heap.size w w1 := by rw [hw1]; exact (Below.refl _ _).alloc (Nat.le_refl _) _
  clear hw1
  refine opL 1 3 (v := .pointer (some ⟨w1.heap.size, 0, none⟩)) (w' := (w1.alloc (.cells #[.int .i64 f', .int .i64 iv', .int .i64 c', .int .i64 u', .slice B1 M'.length d1, .slice B2 D'.length d2, .slice B3 K'.length d3, .slice B4 P'.length d4] 28))) (by kernel_rfl) (frZ hs) ?_ ?_
  · exact frY rfl (k_boxR rfl (ev_tmp h1))
  refine frN1 hs hd h2 ?_; clear hs hd h2 h1; intro a hs hd h2 h3
  obtain ⟨w2, hw2⟩ : ∃ wn, wn = w1.alloc (.cells #[.int .i64 f', .int .i64 iv', .int .i64 c', .int .i64 u', .slice B1 M'.length d1, .slice B2 D'.length d2, .slice B3 K'.length d3, .slice B4 P'.length d4] 28) := ⟨_, rfl⟩
  rw [← hw2]
  have q2 : Blk w2 w1.heap.size 28 #[.int .i64 f', .int .i64 iv', .int .i64 c', .int .i64 u', .slice B1 M'.length d1, .slice B2 D'.length d2, .slice B3 K'.length d3, .slice B4 P'.length d4] := by rw [hw2]; exact Blk.alloc _ _ _
  have l2 : Below w1.heap.size w1 w2 := by rw [hw2]; exact (Below.refl _ _).alloc (Nat.le_refl _) _
  clear hw2
  have Bp := q1.below l2 q1.lt
  have Bq := q2
  have lz := l1.trans (l2.mono l1.size)
  replace hA := (hA.below l1).below l2
  replace hB := (hB.below l1).below l2
  clear q1 q2 l1 l2
  refine opL 2 4 (v := .bool false) (w' := w2) (by kernel_rfl) (frZ hs) ?_ ?_
  · exact frY rfl (k_assign rfl rfl)
  refine frN2 hs hd h2 h3 ?_; clear hs hd h2 h3; intro a hs hd h2 h3 h4
  refine wp_seq ?_
  refine wp_region (show wpOps _ _ _ [0, 1, 2, 3, 4, 5, 6, 7, 8, 9, 10, 11, 12, 13, 14, 15, 16, 17, 18, 19, 20, 21, 22, 23, 24, 25, 26, 27, 28, 29, 30, 31, 32, 33, 34, 35, 36, 37, 38, 39, 40, 41, 42, 43, 44, 45, 46, 47, 48, 49, 50, 51, 52, 53, 54] _ _ from ?_)
  refine opL 0 5 (v := .pointer (some ⟨w.heap.size, 0, none⟩)) (w' := w2) (by kernel_rfl) (frZ hs) ?_ ?_
  · exact frY rfl (k_field0 rfl (ev_tmp h2))
  revert hs hd h2 h3 h4; refine frM3 ?_; intro a hs hd h2 h3 h4 h5
  refine opL 1 6 (v := .int .i64 f) (w' := w2) (by kernel_rfl) (frZ hs) ?_ ?_
  · exact frY rfl (k_loadF rfl (ev_tmp h5) (Bp.cell 0))
  clear h5; revert hs hd h2 h3 h4; refine frM3 ?_; intro a hs hd h2 h3 h4 h6
  refine opL 2 7 (v := .pointer (some ⟨w1.heap.size, 0, none⟩)) (w' := w2) (by kernel_rfl) (frZ hs) ?_ ?_
  · exact frY rfl (k_field0 rfl (ev_tmp h3))
  revert hs hd h2 h3 h4 h6; refine frM4 ?_; intro a hs hd h2 h3 h4 h6 h7
  refine opL 3 8 (v := .int .i64 f') (w' := w2) (by kernel_rfl) (frZ hs) ?_ ?_
  · exact frY rfl (k_loadF rfl (ev_tmp h7) (Bq.cell 0))
  clear h7; revert hs hd h2 h3 h4 h6; refine frM4 ?_; intro a hs hd h2 h3 h4 h6 h8
  refine opL 4 9 (v := .bool (f == f')) (w' := w2) (by kernel_rfl) (frZ hs) ?_ ?_
  · exact frY rfl (o_eqF rfl (ev_tmp h6) (ev_tmp h8) rfl)
  clear h6 h8; revert hs hd h2 h3 h4; refine frM3 ?_; intro a hs hd h2 h3 h4 h9
  refine opL 5 10 (v := .bool (f == f')) (w' := w2) (by kernel_rfl) (frZ hs) ?_ ?_
  · exact frY rfl (k_move rfl (ev_tmp h9))
  clear h9; revert hs hd h2 h3 h4; refine frM3 ?_; intro a hs hd h2 h3 h4 h10
  refine opG 6 11 (f == f') (v := .pointer (some ⟨w.heap.size, 1, none⟩)) (by kernel_rfl) (frZ hs) ?z19 ?z20
  case z19 => (intro o ho; obtain rfl := Option.some.inj ho; exact ⟨wanted_is rfl (by kernel_rfl) h10, fun hb => k_field1 rfl (ev_tmp h2)⟩)
  case z20 =>
  refine frN4 hs hd h2 h3 h4 h10 ?_; clear hs hd h2 h3 h4 h10; intro a hs hd h2 h3 h4 h10 h11
  refine opG 7 12 (f == f') (v := .int .i64 iv) (by kernel_rfl) (frZ hs) ?z21 ?z22
  case z21 => (intro o ho; obtain rfl := Option.some.inj ho; exact ⟨wanted_is rfl (by kernel_rfl) h10, fun hb => k_loadI rfl (ev_tmp (bif_at h11 hb)) (Bp.cell 1)⟩)
  case z22 =>
  refine frN4 hs hd h2 h3 h4 h10 ?_; clear hs hd h2 h3 h4 h10 h11; intro a hs hd h2 h3 h4 h10 h12
  refine opG 8 13 (f == f') (v := .pointer (some ⟨w1.heap.size, 1, none⟩)) (by kernel_rfl) (frZ hs) ?z23 ?z24
  case z23 => (intro o ho; obtain rfl := Option.some.inj ho; exact ⟨wanted_is rfl (by kernel_rfl) h10, fun hb => k_field1 rfl (ev_tmp h3)⟩)
  case z24 =>
  refine frN5 hs hd h2 h3 h4 h10 h12 ?_; clear hs hd h2 h3 h4 h10 h12; intro a hs hd h2 h3 h4 h10 h12 h13
  refine opG 9 14 (f == f') (v := .int .i64 iv') (by kernel_rfl) (frZ hs) ?z25 ?z26
  case z25 => (intro o ho; obtain rfl := Option.some.inj ho; exact ⟨wanted_is rfl (by kernel_rfl) h10, fun hb => k_loadI rfl (ev_tmp (bif_at h13 hb)) (Bq.cell 1)⟩)
  case z26 =>
  refine frN5 hs hd h2 h3 h4 h10 h12 ?_; clear hs hd h2 h3 h4 h10 h12 h13; intro a hs hd h2 h3 h4 h10 h12 h14
  refine opG 10 15 (f == f') (v := .bool (iv == iv')) (by kernel_rfl) (frZ hs) ?z27 ?z28
  case z27 => (intro o ho; obtain rfl := Option.some.inj ho; exact ⟨wanted_is rfl (by kernel_rfl) h10, fun hb => o_eqI rfl (ev_tmp (bif_at h12 hb)) (ev_tmp (bif_at h14 hb)) rfl⟩)
  case z28 =>
  refine frN4 hs hd h2 h3 h4 h10 ?_; clear hs hd h2 h3 h4 h10 h12 h14; intro a hs hd h2 h3 h4 h10 h15
  refine opL 11 16 (v := .bool (f == f' && iv == iv')) (w' := w2) (by kernel_rfl) (frZ hs) ?_ ?_
  · exact frY rfl (k_pick_and rfl (ev_tmp h10) (ev_tmp h15) rfl)
  clear h10 h15; revert hs hd h2 h3 h4; refine frM3 ?_; intro a hs hd h2 h3 h4 h16
  refine opL 12 17 (v := .bool (f == f' && iv == iv')) (w' := w2) (by kernel_rfl) (frZ hs) ?_ ?_
  · exact frY rfl (k_move rfl (ev_tmp h16))
  clear h16; revert hs hd h2 h3 h4; refine frM3 ?_; intro a hs hd h2 h3 h4 h17
  refine opG 13 18 (f == f' && iv == iv') (v := .pointer (some ⟨w.heap.size, 2, none⟩)) (by kernel_rfl) (frZ hs) ?z33 ?z34
  case z33 => (intro o ho; obtain rfl := Option.some.inj ho; exact ⟨wanted_is rfl (by kernel_rfl) h17, fun hb => k_field2 rfl (ev_tmp h2)⟩)
  case z34 =>
  refine frN4 hs hd h2 h3 h4 h17 ?_; clear hs hd h2 h3 h4 h17; intro a hs hd h2 h3 h4 h17 h18
  refine opG 14 19 (f == f' && iv == iv') (v := .int .i64 c) (by kernel_rfl) (frZ hs) ?z35 ?z36
  case z35 => (intro o ho; obtain rfl := Option.some.inj ho; exact ⟨wanted_is rfl (by kernel_rfl) h17, fun hb => k_loadI rfl (ev_tmp (bif_at h18 hb)) (Bp.cell 2)⟩)
  case z36 =>
  refine frN4 hs hd h2 h3 h4 h17 ?_; clear hs hd h2 h3 h4 h17 h18; intro a hs hd h2 h3 h4 h17 h19
  refine opG 15 20 (f == f' && iv == iv') (v := .pointer (some ⟨w1.heap.size, 2, none⟩)) (by kernel_rfl) (frZ hs) ?z37 ?z38
  case z37 => (intro o ho; obtain rfl := Option.some.inj ho; exact ⟨wanted_is rfl (by kernel_rfl) h17, fun hb => k_field2 rfl (ev_tmp h3)⟩)
  case z38 =>
  refine frN5 hs hd h2 h3 h4 h17 h19 ?_; clear hs hd h2 h3 h4 h17 h19; intro a hs hd h2 h3 h4 h17 h19 h20
  refine opG 16 21 (f == f' && iv == iv') (v := .int .i64 c') (by kernel_rfl) (frZ hs) ?z39 ?z40
  case z39 => (intro o ho; obtain rfl := Option.some.inj ho; exact ⟨wanted_is rfl (by kernel_rfl) h17, fun hb => k_loadI rfl (ev_tmp (bif_at h20 hb)) (Bq.cell 2)⟩)
  case z40 =>
  refine frN5 hs hd h2 h3 h4 h17 h19 ?_; clear hs hd h2 h3 h4 h17 h19 h20; intro a hs hd h2 h3 h4 h17 h19 h21
  refine opG 17 22 (f == f' && iv == iv') (v := .bool (c == c')) (by kernel_rfl) (frZ hs) ?z41 ?z42
  case z41 => (intro o ho; obtain rfl := Option.some.inj ho; exact ⟨wanted_is rfl (by kernel_rfl) h17, fun hb => o_eqI rfl (ev_tmp (bif_at h19 hb)) (ev_tmp (bif_at h21 hb)) rfl⟩)
  case z42 =>
  refine frN4 hs hd h2 h3 h4 h17 ?_; clear hs hd h2 h3 h4 h17 h19 h21; intro a hs hd h2 h3 h4 h17 h22
  refine opL 18 23 (v := .bool (f == f' && iv == iv' && c == c')) (w' := w2) (by kernel_rfl) (frZ hs) ?_ ?_
  · exact frY rfl (k_pick_and rfl (ev_tmp h17) (ev_tmp h22) rfl)
  clear h17 h22; revert hs hd h2 h3 h4; refine frM3 ?_; intro a hs hd h2 h3 h4 h23
  refine opL 19 24 (v := .bool (f == f' && iv == iv' && c == c')) (w' := w2) (by kernel_rfl) (frZ hs) ?_ ?_
  · exact frY rfl (k_move rfl (ev_tmp h23))
  clear h23; revert hs hd h2 h3 h4; refine frM3 ?_; intro a hs hd h2 h3 h4 h24
  refine opG 20 25 (f == f' && iv == iv' && c == c') (v := .pointer (some ⟨w.heap.size, 3, none⟩)) (by kernel_rfl) (frZ hs) ?z47 ?z48
  case z47 => (intro o ho; obtain rfl := Option.some.inj ho; exact ⟨wanted_is rfl (by kernel_rfl) h24, fun hb => k_field3 rfl (ev_tmp h2)⟩)
  case z48 =>
  refine frN4 hs hd h2 h3 h4 h24 ?_; clear hs hd h2 h3 h4 h24; intro a hs hd h2 h3 h4 h24 h25
  refine opG 21 26 (f == f' && iv == iv' && c == c') (v := .int .i64 u) (by kernel_rfl) (frZ hs) ?z49 ?z50
  case z49 => (intro o ho; obtain rfl := Option.some.inj ho; exact ⟨wanted_is rfl (by kernel_rfl) h24, fun hb => k_loadU rfl (ev_tmp (bif_at h25 hb)) (Bp.cell 3)⟩)
  case z50 =>
  refine frN4 hs hd h2 h3 h4 h24 ?_; clear hs hd h2 h3 h4 h24 h25; intro a hs hd h2 h3 h4 h24 h26
  refine opG 22 27 (f == f' && iv == iv' && c == c') (v := .pointer (some ⟨w1.heap.size, 3, none⟩)) (by kernel_rfl) (frZ hs) ?z51 ?z52
  case z51 => (intro o ho; obtain rfl := Option.some.inj ho; exact ⟨wanted_is rfl (by kernel_rfl) h24, fun hb => k_field3 rfl (ev_tmp h3)⟩)
  case z52 =>
  refine frN5 hs hd h2 h3 h4 h24 h26 ?_; clear hs hd h2 h3 h4 h24 h26; intro a hs hd h2 h3 h4 h24 h26 h27
  refine opG 23 28 (f == f' && iv == iv' && c == c') (v := .int .i64 u') (by kernel_rfl) (frZ hs) ?z53 ?z54
  case z53 => (intro o ho; obtain rfl := Option.some.inj ho; exact ⟨wanted_is rfl (by kernel_rfl) h24, fun hb => k_loadU rfl (ev_tmp (bif_at h27 hb)) (Bq.cell 3)⟩)
  case z54 =>
  refine frN5 hs hd h2 h3 h4 h24 h26 ?_; clear hs hd h2 h3 h4 h24 h26 h27; intro a hs hd h2 h3 h4 h24 h26 h28
  refine opG 24 29 (f == f' && iv == iv' && c == c') (v := .bool (u == u')) (by kernel_rfl) (frZ hs) ?z55 ?z56
  case z55 => (intro o ho; obtain rfl := Option.some.inj ho; exact ⟨wanted_is rfl (by kernel_rfl) h24, fun hb => o_eqU rfl (ev_tmp (bif_at h26 hb)) (ev_tmp (bif_at h28 hb)) rfl⟩)
  case z56 =>
  refine frN4 hs hd h2 h3 h4 h24 ?_; clear hs hd h2 h3 h4 h24 h26 h28; intro a hs hd h2 h3 h4 h24 h29
  refine opL 25 30 (v := .bool (f == f' && iv == iv' && c == c' && u == u')) (w' := w2) (by kernel_rfl) (frZ hs) ?_ ?_
  · exact frY rfl (k_pick_and rfl (ev_tmp h24) (ev_tmp h29) rfl)
  clear h24 h29; revert hs hd h2 h3 h4; refine frM3 ?_; intro a hs hd h2 h3 h4 h30
  refine opL 26 31 (v := .bool (f == f' && iv == iv' && c == c' && u == u')) (w' := w2) (by kernel_rfl) (frZ hs) ?_ ?_
  · exact frY rfl (k_move rfl (ev_tmp h30))
  clear h30; revert hs hd h2 h3 h4; refine frM3 ?_; intro a hs hd h2 h3 h4 h31
  refine opG 27 32 (f == f' && iv == iv' && c == c' && u == u') (v := .pointer (some ⟨w.heap.size, 4, none⟩)) (by kernel_rfl) (frZ hs) ?z61 ?z62
  case z61 => (intro o ho; obtain rfl := Option.some.inj ho; exact ⟨wanted_is rfl (by kernel_rfl) h31, fun hb => k_field4 rfl (ev_tmp h2)⟩)
  case z62 =>
  refine frN4 hs hd h2 h3 h4 h31 ?_; clear hs hd h2 h3 h4 h31; intro a hs hd h2 h3 h4 h31 h32
  refine opG 28 33 (f == f' && iv == iv' && c == c' && u == u') (v := .slice A1 M.length c1) (by kernel_rfl) (frZ hs) ?z63 ?z64
  case z63 => (intro o ho; obtain rfl := Option.some.inj ho; exact ⟨wanted_is rfl (by kernel_rfl) h31, fun hb => k_loadL rfl (ev_tmp (bif_at h32 hb)) (Bp.cell 4)⟩)
  case z64 =>
  refine frN4 hs hd h2 h3 h4 h31 ?_; clear hs hd h2 h3 h4 h31 h32; intro a hs hd h2 h3 h4 h31 h33
  refine opG 29 34 (f == f' && iv == iv' && c == c' && u == u') (v := .pointer (some ⟨w1.heap.size, 4, none⟩)) (by kernel_rfl) (frZ hs) ?z65 ?z66
  case z65 => (intro o ho; obtain rfl := Option.some.inj ho; exact ⟨wanted_is rfl (by kernel_rfl) h31, fun hb => k_field4 rfl (ev_tmp h3)⟩)
  case z66 =>
  refine frN5 hs hd h2 h3 h4 h31 h33 ?_; clear hs hd h2 h3 h4 h31 h33; intro a hs hd h2 h3 h4 h31 h33 h34
  refine opG 30 35 (f == f' && iv == iv' && c == c' && u == u') (v := .slice B1 M'.length d1) (by kernel_rfl) (frZ hs) ?z67 ?z68
  case z67 => (intro o ho; obtain rfl := Option.some.inj ho; exact ⟨wanted_is rfl (by kernel_rfl) h31, fun hb => k_loadL rfl (ev_tmp (bif_at h34 hb)) (Bq.cell 4)⟩)
  case z68 =>
  refine frN5 hs hd h2 h3 h4 h31 h33 ?_; clear hs hd h2 h3 h4 h31 h33 h34; intro a hs hd h2 h3 h4 h31 h33 h35
  have hc := eqI_any A1 B1 c1 d1 M M' w2 hA.m hB.m hA.lm hB.lm
  refine opG_call 31 36 (f == f' && iv == iv' && c == c' && u == u') (by kernel_rfl) (frZ hs) ?z69 hc ?z70
  case z69 => (intro o ho; obtain rfl := Option.some.inj ho; exact ⟨wanted_is rfl (by kernel_rfl) h31, fun hb => c_EqualI rfl rfl (ev_tmp (bif_at h33 hb)) (ev_tmp (bif_at h35 hb))⟩)
  case z70 =>
  clear hc
  intro v4 a l4 F0
  replace hs := F0.z.trans hs
  replace hd := F0.e.trans hd
  replace h2 := (F0.n 2 (by decide)).trans h2
  replace h3 := (F0.n 3 (by decide)).trans h3
  replace h4 := (F0.n 4 (by decide)).trans h4
  replace h31 := (F0.n 31 (by decide)).trans h31
  clear h33
  clear h35
  have h36 := F0.s
  clear F0
  replace Bp := Bp.below l4 Bp.lt
  replace Bq := Bq.below l4 Bq.lt
  replace hA := hA.below l4
  replace hB := hB.below l4
  replace lz := lz.trans (l4.mono lz.size)
  clear l4
  refine opL 32 37 (v := .bool (f == f' && iv == iv' && c == c' && u == u' && M == M')) (w' := v4) (by kernel_rfl) (frZ hs) ?_ ?_
  · exact frY rfl (k_pick_and rfl (ev_tmp h31) (ev_tmp h36) rfl)
  refine frN3 hs hd h2 h3 h4 ?_; clear hs hd h2 h3 h4 h31 h36; intro a hs hd h2 h3 h4 h37
  refine opL 33 38 (v := .bool (f == f' && iv == iv' && c == c' && u == u' && M == M')) (w' := v4) (by kernel_rfl) (frZ hs) ?_ ?_
  · exact frY rfl (k_move rfl (ev_tmp h37))
  clear h37; revert hs hd h2 h3 h4; refine frM3 ?_; intro a hs hd h2 h3 h4 h38
  refine opG 34 39 (f == f' && iv == iv' && c == c' && u == u' && M == M') (v := .pointer (some ⟨w.heap.size, 5, none⟩)) (by kernel_rfl) (frZ hs) ?z75 ?z76
  case z75 => (intro o ho; obtain rfl := Option.some.inj ho; exact ⟨wanted_is rfl (by kernel_rfl) h38, fun hb => k_field5 rfl (ev_tmp h2)⟩)
  case z76 =>
  refine frN4 hs hd h2 h3 h4 h38 ?_; clear hs hd h2 h3 h4 h38; intro a hs hd h2 h3 h4 h38 h39
  refine opG 35 40 (f == f' && iv == iv' && c == c' && u == u' && M == M') (v := .slice A2 D.length c2) (by kernel_rfl) (frZ hs) ?z77 ?z78
  case z77 => (intro o ho; obtain rfl := Option.some.inj ho; exact ⟨wanted_is rfl (by kernel_rfl) h38, fun hb => k_loadL rfl (ev_tmp (bif_at h39 hb)) (Bp.cell 5)⟩)
  case z78 =>
  refine frN4 hs hd h2 h3 h4 h38 ?_; clear hs hd h2 h3 h4 h38 h39; intro a hs hd h2 h3 h4 h38 h40
  refine opG 36 41 (f == f' && iv == iv' && c == c' && u == u' && M == M') (v := .pointer (some ⟨w1.heap.size, 5, none⟩)) (by kernel_rfl) (frZ hs) ?z79 ?z80
  case z79 => (intro o ho; obtain rfl := Option.some.inj ho; exact ⟨wanted_is rfl (by kernel_rfl) h38, fun hb => k_field5 rfl (ev_tmp h3)⟩)
  case z80 =>
  refine frN5 hs hd h2 h3 h4 h38 h40 ?_; clear hs hd h2 h3 h4 h38 h40; intro a hs hd h2 h3 h4 h38 h40 h41
  refine opG 37 42 (f == f' && iv == iv' && c == c' && u == u' && M == M') (v := .slice B2 D'.length d2) (by kernel_rfl) (frZ hs) ?z81 ?z82
  case z81 => (intro o ho; obtain rfl := Option.some.inj ho; exact ⟨wanted_is rfl (by kernel_rfl) h38, fun hb => k_loadL rfl (ev_tmp (bif_at h41 hb)) (Bq.cell 5)⟩)
  case z82 =>
  refine frN5 hs hd h2 h3 h4 h38 h40 ?_; clear hs hd h2 h3 h4 h38 h40 h41; intro a hs hd h2 h3 h4 h38 h40 h42
  have hc := eqI_any A2 B2 c2 d2 D D' v4 hA.d hB.d hA.ld hB.ld
  refine opG_call 38 43 (f == f' && iv == iv' && c == c' && u == u' && M == M') (by kernel_rfl) (frZ hs) ?z83 hc ?z84
  case z83 => (intro o ho; obtain rfl := Option.some.inj ho; exact ⟨wanted_is rfl (by kernel_rfl) h38, fun hb => c_EqualI rfl rfl (ev_tmp (bif_at h40 hb)) (ev_tmp (bif_at h42 hb))⟩)
  case z84 =>
  clear hc
  intro v5 a l5 F0
  replace hs := F0.z.trans hs
  replace hd := F0.e.trans hd
  replace h2 := (F0.n 2 (by decide)).trans h2
  replace h3 := (F0.n 3 (by decide)).trans h3
  replace h4 := (F0.n 4 (by decide)).trans h4
  replace h38 := (F0.n 38 (by decide)).trans h38
  clear h40
  clear h42
  have h43 := F0.s
  clear F0
  replace Bp := Bp.below l5 Bp.lt
  replace Bq := Bq.below l5 Bq.lt
  replace hA := hA.below l5
  replace hB := hB.below l5
  replace lz := lz.trans (l5.mono lz.size)
  clear l5
  refine opL 39 44 (v := .bool (f == f' && iv == iv' && c == c' && u == u' && M == M' && D == D')) (w' := v5) (by kernel_rfl) (frZ hs) ?_ ?_
  · exact frY rfl (k_pick_and rfl (ev_tmp h38) (ev_tmp h43) rfl)
  refine frN3 hs hd h2 h3 h4 ?_; clear hs hd h2 h3 h4 h38 h43; intro a hs hd h2 h3 h4 h44
  refine opL 40 45 (v := .bool (f == f' && iv == iv' && c == c' && u == u' && M == M' && D == D')) (w' := v5) (by kernel_rfl) (frZ hs) ?_ ?_
  · exact frY rfl (k_move rfl (ev_tmp h44))
  clear h44; revert hs hd h2 h3 h4; refine frM3 ?_; intro a hs hd h2 h3 h4 h45
  refine opG 41 46 (f == f' && iv == iv' && c == c' && u == u' && M == M' && D == D') (v := .pointer (some ⟨w.heap.size, 6, none⟩)) (by kernel_rfl) (frZ hs) ?z89 ?z90
  case z89 => (intro o ho; obtain rfl := Option.some.inj ho; exact ⟨wanted_is rfl (by kernel_rfl) h45, fun hb => k_field6 rfl (ev_tmp h2)⟩)
  case z90 =>
  refine frN4 hs hd h2 h3 h4 h45 ?_; clear hs hd h2 h3 h4 h45; intro a hs hd h2 h3 h4 h45 h46
  refine opG 42 47 (f == f' && iv == iv' && c == c' && u == u' && M == M' && D == D') (v := .slice A3 K.length c3) (by kernel_rfl) (frZ hs) ?z91 ?z92
  case z91 => (intro o ho; obtain rfl := Option.some.inj ho; exact ⟨wanted_is rfl (by kernel_rfl) h45, fun hb => k_loadW rfl (ev_tmp (bif_at h46 hb)) (Bp.cell 6)⟩)
  case z92 =>
  refine frN4 hs hd h2 h3 h4 h45 ?_; clear hs hd h2 h3 h4 h45 h46; intro a hs hd h2 h3 h4 h45 h47
  refine opG 43 48 (f == f' && iv == iv' && c == c' && u == u' && M == M' && D == D') (v := .pointer (some ⟨w1.heap.size, 6, none⟩)) (by kernel_rfl) (frZ hs) ?z93 ?z94
  case z93 => (intro o ho; obtain rfl := Option.some.inj ho; exact ⟨wanted_is rfl (by kernel_rfl) h45, fun hb => k_field6 rfl (ev_tmp h3)⟩)
  case z94 =>
  refine frN5 hs hd h2 h3 h4 h45 h47 ?_; clear hs hd h2 h3 h4 h45 h47; intro a hs hd h2 h3 h4 h45 h47 h48
  refine opG 44 49 (f == f' && iv == iv' && c == c' && u == u' && M == M' && D == D') (v := .slice B3 K'.length d3) (by kernel_rfl) (frZ hs) ?z95 ?z96
  case z95 => (intro o ho; obtain rfl := Option.some.inj ho; exact ⟨wanted_is rfl (by kernel_rfl) h45, fun hb => k_loadW rfl (ev_tmp (bif_at h48 hb)) (Bq.cell 6)⟩)
  case z96 =>
  refine frN5 hs hd h2 h3 h4 h45 h47 ?_; clear hs hd h2 h3 h4 h45 h47 h48; intro a hs hd h2 h3 h4 h45 h47 h49
  have hc := eqN_any A3 B3 c3 d3 K K' v5 hA.k hB.k hA.lk hB.lk
  refine opG_call 45 50 (f == f' && iv == iv' && c == c' && u == u' && M == M' && D == D') (by kernel_rfl) (frZ hs) ?z97 hc ?z98
  case z97 => (intro o ho; obtain rfl := Option.some.inj ho; exact ⟨wanted_is rfl (by kernel_rfl) h45, fun hb => c_EqualN rfl rfl (ev_tmp (bif_at h47 hb)) (ev_tmp (bif_at h49 hb))⟩)
  case z98 =>
  clear hc
  intro v6 a l6 F0
  replace hs := F0.z.trans hs
  replace hd := F0.e.trans hd
  replace h2 := (F0.n 2 (by decide)).trans h2
  replace h3 := (F0.n 3 (by decide)).trans h3
  replace h4 := (F0.n 4 (by decide)).trans h4
  replace h45 := (F0.n 45 (by decide)).trans h45
  clear h47
  clear h49
  have h50 := F0.s
  clear F0
  replace Bp := Bp.below l6 Bp.lt
  replace Bq := Bq.below l6 Bq.lt
  replace hA := hA.below l6
  replace hB := hB.below l6
  replace lz := lz.trans (l6.mono lz.size)
  clear l6
  refine opL 46 51 (v := .bool (f == f' && iv == iv' && c == c' && u == u' && M == M' && D == D' && K == K')) (w' := v6) (by kernel_rfl) (frZ hs) ?_ ?_
  · exact frY rfl (k_pick_and rfl (ev_tmp h45) (ev_tmp h50) rfl)
  refine frN3 hs hd h2 h3 h4 ?_; clear hs hd h2 h3 h4 h45 h50; intro a hs hd h2 h3 h4 h51
  refine opL 47 52 (v := .bool (f == f' && iv == iv' && c == c' && u == u' && M == M' && D == D' && K == K')) (w' := v6) (by kernel_rfl) (frZ hs) ?_ ?_
  · exact frY rfl (k_move rfl (ev_tmp h51))
  clear h51; revert hs hd h2 h3 h4; refine frM3 ?_; intro a hs hd h2 h3 h4 h52
  refine opG 48 53 (f == f' && iv == iv' && c == c' && u == u' && M == M' && D == D' && K == K') (v := .pointer (some ⟨w.heap.size, 7, none⟩)) (by kernel_rfl) (frZ hs) ?z103 ?z104
  case z103 => (intro o ho; obtain rfl := Option.some.inj ho; exact ⟨wanted_is rfl (by kernel_rfl) h52, fun hb => k_field7 rfl (ev_tmp h2)⟩)
  case z104 =>
  refine frN4 hs hd h2 h3 h4 h52 ?_; clear hs hd h2 h3 h4 h52; intro a hs hd h2 h3 h4 h52 h53
  refine opG 49 54 (f == f' && iv == iv' && c == c' && u == u' && M == M' && D == D' && K == K') (v := .slice A4 P.length c4) (by kernel_rfl) (frZ hs) ?z105 ?z106
  case z105 => (intro o ho; obtain rfl := Option.some.inj ho; exact ⟨wanted_is rfl (by kernel_rfl) h52, fun hb => k_loadL rfl (ev_tmp (bif_at h53 hb)) (Bp.cell 7)⟩)
  case z106 =>
  refine frN4 hs hd h2 h3 h4 h52 ?_; clear hs hd h2 h3 h4 h52 h53; intro a hs hd h2 h3 h4 h52 h54
  refine opG 50 55 (f == f' && iv == iv' && c == c' && u == u' && M == M' && D == D' && K == K') (v := .pointer (some ⟨w1.heap.size, 7, none⟩)) (by kernel_rfl) (frZ hs) ?z107 ?z108
  case z107 => (intro o ho; obtain rfl := Option.some.inj ho; exact ⟨wanted_is rfl (by kernel_rfl) h52, fun hb => k_field7 rfl (ev_tmp h3)⟩)
  case z108 =>
  refine frN5 hs hd h2 h3 h4 h52 h54 ?_; clear hs hd h2 h3 h4 h52 h54; intro a hs hd h2 h3 h4 h52 h54 h55
  refine opG 51 56 (f == f' && iv == iv' && c == c' && u == u' && M == M' && D == D' && K == K') (v := .slice B4 P'.length d4) (by kernel_rfl) (frZ hs) ?z109 ?z110
  case z109 => (intro o ho; obtain rfl := Option.some.inj ho; exact ⟨wanted_is rfl (by kernel_rfl) h52, fun hb => k_loadL rfl (ev_tmp (bif_at h55 hb)) (Bq.cell 7)⟩)
  case z110 =>
  refine frN5 hs hd h2 h3 h4 h52 h54 ?_; clear hs hd h2 h3 h4 h52 h54 h55; intro a hs hd h2 h3 h4 h52 h54 h56
  have hc := eqI_any A4 B4 c4 d4 P P' v6 hA.p hB.p hA.lp hB.lp
  refine opG_call 52 57 (f == f' && iv == iv' && c == c' && u == u' && M == M' && D == D' && K == K') (by kernel_rfl) (frZ hs) ?z111 hc ?z112
  case z111 => (intro o ho; obtain rfl := Option.some.inj ho; exact ⟨wanted_is rfl (by kernel_rfl) h52, fun hb => c_EqualI rfl rfl (ev_tmp (bif_at h54 hb)) (ev_tmp (bif_at h56 hb))⟩)
  case z112 =>
  clear hc
  intro v7 a l7 F0
  replace hs := F0.z.trans hs
  replace hd := F0.e.trans hd
  replace h2 := (F0.n 2 (by decide)).trans h2
  replace h3 := (F0.n 3 (by decide)).trans h3
  replace h4 := (F0.n 4 (by decide)).trans h4
  replace h52 := (F0.n 52 (by decide)).trans h52
  clear h54
  clear h56
  have h57 := F0.s
  clear F0
  replace Bp := Bp.below l7 Bp.lt
  replace Bq := Bq.below l7 Bq.lt
  replace hA := hA.below l7
  replace hB := hB.below l7
  replace lz := lz.trans (l7.mono lz.size)
  clear l7
  refine opL 53 58 (v := .bool (f == f' && iv == iv' && c == c' && u == u' && M == M' && D == D' && K == K' && P == P')) (w' := v7) (by kernel_rfl) (frZ hs) ?_ ?_
  · exact frY rfl (k_pick_and rfl (ev_tmp h52) (ev_tmp h57) rfl)
  refine frN3 hs hd h2 h3 h4 ?_; clear hs hd h2 h3 h4 h52 h57; intro a hs hd h2 h3 h4 h58
  refine opL 54 4 (v := .bool (f == f' && iv == iv' && c == c' && u == u' && M == M' && D == D' && K == K' && P == P')) (w' := v7) (by kernel_rfl) (frZ hs) ?_ ?_
  · exact frY rfl (k_assign rfl (ev_tmp h58))
  clear h4 h58; revert hs hd h2 h3; refine frM2 ?_; intro a hs hd h2 h3 h4
  refine wp_ret ?_
  exact hfin a _ hd h4 lz
end Go.Proofs.YtjdjekpbjnkliaaGreatDoor
