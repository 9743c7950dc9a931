/-
  A rule's values as texts: rfc.printValue.
-/
import Derived.Test.YtocpmljkmdpfkaaGreatDoorRf2
namespace Go.Proofs.YtocpmljkmdpfkaaGreatDoor
open Go.RowKit
/-- a rule that may be printed -/
structure Okay (f iv c u : Int) (t : List UInt8) (M D : List Int) (K : List (Int × Int)) (P : List Int) : Prop where
  f : 0 ≤ f ∧ f ≤ 3
  iv : -9223372036854775808 ≤ iv ∧ iv ≤ 9223372036854775807
  c : -9223372036854775808 ≤ c ∧ c ≤ 9223372036854775807
  u : Rfc.Un u t
  lm : M.length ≤ 1000
  ld : D.length ≤ 1000
  lk : K.length ≤ 1000
  lp : P.length ≤ 1000
  m : ∀ x ∈ M, -9223372036854775808 ≤ x ∧ x ≤ 9223372036854775807
  d : ∀ x ∈ D, -9223372036854775808 ≤ x ∧ x ≤ 9223372036854775807
  k : ∀ x ∈ K, (-9223372036854775808 ≤ x.1 ∧ x.1 ≤ 9223372036854775807) ∧ (0 ≤ x.2 ∧ x.2 ≤ 6)
  p : ∀ x ∈ P, -9223372036854775808 ≤ x ∧ x ≤ 9223372036854775807
-- what ReplaceAll makes of a date
theorem idx_hit {c : UInt8} {a b : List UInt8} (h : c ∉ a) : Lib.index (a ++ c :: b) [c] = a.length := by
  refine Lib.index_first (by simp) (by simp [Lib.occAt, List.isPrefixOf]) (fun j hj => ?_)
  have e : (a ++ c :: b).drop j = a[j] :: (a.drop (j + 1) ++ c :: b) := by
    rw [List.drop_append_of_le_length (by omega), List.drop_eq_getElem_cons hj]
    rfl
  have ne : c ≠ a[j] := fun e => h (by rw [e]; exact List.getElem_mem hj)
  unfold Lib.occAt
  rw [e]
  simp [List.isPrefixOf, ne]
theorem split_at {c : UInt8} : ∀ {s : List UInt8}, c ∈ s → ∃ a b, s = a ++ c :: b ∧ c ∉ a
  | [], h => by cases h
  | x :: s, h => by
    by_cases e : c = x
    · exact ⟨[], s, by rw [e]; rfl, by simp⟩
    · obtain ⟨a, b, h1, h2⟩ := split_at (List.mem_of_ne_of_mem e h)
      exact ⟨x :: a, b, by rw [h1]; rfl, by simp [e, h2]⟩
theorem replaceK_drop {c : UInt8} : ∀ (k : Nat) (s : List UInt8), s.count c = k → Lib.replaceK [c] [] k s = s.filter (· != c)
  | 0, s, h => by
    have : c ∉ s := List.count_eq_zero.1 h
    rw [Lib.replaceK, List.filter_eq_self.2]
    intro x hx
    simp
    exact fun e => this (e ▸ hx)
  | k + 1, s, h => by
    obtain ⟨a, b, rfl, ha⟩ := split_at (s := s) (c := c) (List.count_pos_iff.1 (by omega))
    have hb : b.count c = k := by
      rw [List.count_append, List.count_eq_zero.2 ha, List.count_cons_self] at h
      omega
    rw [Lib.replaceK_hit [c] [] k _ a.length (idx_hit ha)]
    have e1 : (a ++ c :: b).take a.length = a := by simp
    have e2 : (a ++ c :: b).drop (a.length + [c].length) = b := by
      rw [show a.length + [c].length = (a ++ [c]).length by simp, show a ++ c :: b = (a ++ [c]) ++ b by simp, List.drop_left]
    rw [e1, e2, replaceK_drop k b hb, List.filter_append, List.filter_cons]
    have e3 : a.filter (· != c) = a := List.filter_eq_self.2 (fun x hx => by simp; exact fun e => ha (e ▸ hx))
    rw [e3]
    simp
theorem replaceAll_drop (c : UInt8) (s : List UInt8) : Lib.replaceAll s [c] [] = s.filter (· != c) := by
  unfold Lib.replaceAll Lib.replace
  rw [if_neg (by simp)]
  unfold Lib.replaceNum
  rw [if_pos (.inl (by decide)), Lib.count_one]
  exact replaceK_drop _ s rfl
theorem date_of (y m d : Int) : Lib.replaceAll (txt y m d).data.toList [45] [] = Rfc.date y m d := by
  rw [replaceAll_drop]
  have ne : ∀ n : Int, (dig n != 45) = true := fun n => by
    have h := dig_toNat n
    rw [bne_iff_ne]
    intro e
    rw [e] at h
    have : (45 : UInt8).toNat = 45 := rfl
    omega
  show List.filter (· != 45) [dig (y / 1000), dig (y / 100), dig (y / 10), dig y, 45, dig (m / 10), dig m, 45, dig (d / 10), dig d] = _
  simp only [List.filter_cons, ne, if_true, List.filter_nil]
  rfl
theorem textU_any (u : Int) (t : List UInt8) (w : World) (hT : Tabs w) (hu : Rfc.Un u t) : Calls Tryz.prog 58 #[.int .i64 u] w fun e w' => ∃ v, e = .returned v ∧ (∃ b : ByteArray, v = .string b ∧ b.size ≤ 10 ∧ Lib.replaceAll b.data.toList [45] [] = t) ∧ Below w.heap.size w w' := by
  rcases hu with ⟨rfl, rfl⟩ | ⟨y, m, d, h, rfl⟩
  · refine (text_no 0 w (by omega)).mono ?_
    rintro e w' ⟨rfl, rfl⟩
    exact ⟨_, rfl, ⟨_, rfl, by decide, by rw [replaceAll_drop]; rfl⟩, Below.refl _ _⟩
  · refine (text_yes u y m d w hT.mon h).mono ?_
    rintro e w' ⟨rfl, hb⟩
    exact ⟨_, rfl, ⟨_, rfl, Nat.le_refl _, date_of y m d⟩, hb⟩
theorem replace_any (b : ByteArray) (w : World) (hT : Tabs w) (hb : b.size ≤ 10) : Calls Tryz.prog 57 #[.string b, .string ⟨#[45]⟩, .string ⟨#[]⟩] w fun e w' => ∃ v, e = .returned v ∧ v = .string ⟨(Lib.replaceAll b.data.toList [45] []).toArray⟩ ∧ Below w.heap.size w w' := by
  obtain ⟨m, hm⟩ := hT.max
  exact (Tryz.strings_ReplaceAll b ⟨#[45]⟩ ⟨#[]⟩ m w (by omega) hm (by decide) (by show _ + _ * 0 ≤ _; omega)).mono fun e w' h => ⟨_, h.1, rfl, h.2⟩
section
variable {w : World} {ρ : Operand → Value} {o : Oper} {x y z : Operand} {v u r : Value} {n m : Int} {q : Bool}
theorem o_eqP (ho : o.op = .binOp .eql 69 x y 69) (hx : ρ x = .int .i64 n) (hy : ρ y = .int .i64 m) (hr : (n == m) = q) : (execOp ρ o).run Tryz.prog w = .ok (.value (.bool q)) w := by
  subst hr
  simp only [execOp, ho, hx, hy]
  go_simp
theorem c_Text (ho : o.op = .call ⟨.value (.func 58), #[x], #[32]⟩) (hf : ρ (.func 58) = .func (.func 58) #[] #[]) (hx : ρ x = v) : (execOp ρ o).run Tryz.prog w = .ok (.enter 58 #[v]) w := by
  simp only [execOp, ho]
  go_simp
theorem c_Replace (ho : o.op = .call ⟨.value (.func 57), #[x, y, z], #[9, 9, 9]⟩) (hf : ρ (.func 57) = .func (.func 57) #[] #[]) (hx : ρ x = v) (hy : ρ y = u) (hz : ρ z = r) : (execOp ρ o).run Tryz.prog w = .ok (.enter 57 #[v, u, r]) w := by
  simp only [execOp, ho]
  go_simp
theorem c_ListI (ho : o.op = .call ⟨.value (.func 59), #[x, .func 34], #[33, 79]⟩) (hf : ρ (.func 59) = .func (.func 59) #[] #[]) (hg : ρ (.func 34) = .func (.func 34) #[] #[]) (hx : ρ x = v) : (execOp ρ o).run Tryz.prog w = .ok (.enter 59 #[v, .func (.func 34) #[] #[]]) w := by
  simp only [execOp, ho]
  go_simp
theorem c_ListN (ho : o.op = .call ⟨.value (.func 60), #[x, .func 61], #[34, 108]⟩) (hf : ρ (.func 60) = .func (.func 60) #[] #[]) (hg : ρ (.func 61) = .func (.func 61) #[] #[]) (hx : ρ x = v) : (execOp ρ o).run Tryz.prog w = .ok (.enter 60 #[v, .func (.func 61) #[] #[]]) w := by
  simp only [execOp, ho]
  go_simp
theorem k_boxR3 {cs : Array Value} (ho : o.op = .box 36 x) (hx : ρ x = .agg cs) : (execOp ρ o).run Tryz.prog w = .ok (.value (.pointer (some ⟨w.heap.size, 0, none⟩))) (w.alloc (.cells cs 36)) := by
  simp only [execOp, ho, hx]
  go_simp
end
noncomputable def pvBody : Code := Tryz.f28.body.getD .skip

set_option maxRecDepth 100000 in
set_option maxHeartbeats 1000000 in
theorem pv_0 (f iv c u : Int) (t : List UInt8) (AM AD AW AP : Option Addr) (cM cD cW cP : Nat) (M D : List Int) (K : List (Int × Int)) (P : List Int) (w : World) (hT : Tabs w) (hL : ListsIn w AM AD AW AP M D K P) (hok : Okay f iv c u t M D K P) :
    Calls Tryz.prog 28 #[.agg #[.int .i64 f, .int .i64 iv, .int .i64 c, .int .i64 u, .slice AM M.length cM, .slice AD D.length cD, .slice AW K.length cW, .slice AP P.length cP], .int .i64 0] w fun e w' => ∃ v, e = .returned v ∧ v = .string ⟨(Rfc.fq f.toNat).toArray⟩ ∧ Below w.heap.size w w' := by
  refine calls_of_wp Tryz.func28 (show Tryz.f28.body = some pvBody from rfl) ?_
  generalize hAA : (Act.mk (#[.agg #[.int .i64 f, .int .i64 iv, .int .i64 c, .int .i64 u, .slice AM M.length cM, .slice AD D.length cD, .slice AW K.length cW, .slice AP P.length cP], .int .i64 0] ++ Array.replicate (Tryz.f28.ntmps - (#[.agg #[.int .i64 f, .int .i64 iv, .int .i64 c, .int .i64 u, .slice AM M.length cM, .slice AD D.length cD, .slice AW K.length cW, .slice AP P.length cP], .int .i64 0] : Array Value).size) undef) []) = a
  have hs : a.tmps.size = 48 := by rw [← hAA]; simp [Tryz.ntmps28]
  have hd : a.defers = [] := by rw [← hAA]
  have h0 : a.tmps.getD 0 undef = .agg #[.int .i64 f, .int .i64 iv, .int .i64 c, .int .i64 u, .slice AM M.length cM, .slice AD D.length cD, .slice AW K.length cW, .slice AP P.length cP] := by rw [← hAA]; simp
  have h1 : a.tmps.getD 1 undef = .int .i64 0 := by rw [← hAA]; simp
  clear hAA
  refine Code.wp_mono NoPanic.imp ?_
  have hQ : Blind (NoPanic (bodyPost Tryz.prog Tryz.f28 fun e w' => ∃ v, e = .returned v ∧ v = .string ⟨(Rfc.fq f.toNat).toArray⟩ ∧ Below w.heap.size w w')) := fun _ _ _ _ q => q.elim
  have hfin : ∀ (a' : Act) (w' : World), a'.defers = [] → a'.tmps.getD 4 undef = .string ⟨(Rfc.fq f.toNat).toArray⟩ → Below w.heap.size w w' → NoPanic (bodyPost Tryz.prog Tryz.f28 fun e w' => ∃ v, e = .returned v ∧ v = .string ⟨(Rfc.fq f.toNat).toArray⟩ ∧ Below w.heap.size w w') .ret a' w' := by
    intro a' w' k1 k2 k3
    exact ⟨k1, _, results_tmp rfl _ _ _, _, rfl, k2, k3⟩
  generalize NoPanic (bodyPost Tryz.prog Tryz.f28 fun e w' => ∃ v, e = .returned v ∧ v = .string ⟨(Rfc.fq f.toNat).toArray⟩ ∧ Below w.heap.size w w') = Q at hQ hfin
  unfold pvBody
  conv => arg 2; whnf
  refine wp_seq ?_
  refine wp_region (show wpOps _ _ _ [0, 1] _ _ from ?_)
  refine opL 0 2 (v := .pointer (some ⟨w.heap.size, 0, none⟩)) (w' := (w.alloc (.cells #[.int .i64 f, .int .i64 iv, .int .i64 c, .int .i64 u, .slice AM M.length cM, .slice AD D.length cD, .slice AW K.length cW, .slice AP P.length cP] 36))) (by kernel_rfl) (frZ hs) ?_ ?_
  · exact frY rfl (k_boxR3 rfl (ev_tmp h0))
  refine frN1 hs hd h1 ?_; clear hs hd h1 h0; intro a hs hd h1 h2
  obtain ⟨w1, hw1⟩ : ∃ wn, wn = w.alloc (.cells #[.int .i64 f, .int .i64 iv, .int .i64 c, .int .i64 u, .slice AM M.length cM, .slice AD D.length cD, .slice AW K.length cW, .slice AP P.length cP] 36) := ⟨_, rfl⟩
  rw [← hw1]
  have q1 : Blk w1 w.heap.size 36 #[.int .i64 f, .int .i64 iv, .int .i64 c, .int .i64 u, .slice AM M.length cM, .slice AD D.length cD, .slice AW K.length cW, .slice AP P.length cP] := by rw [hw1]; exact Blk.alloc _ _ _
  have l1 : Below w.heap.size w w1 := by rw [hw1]; exact (Below.refl _ _).alloc (Nat.le_refl _) _
  clear hw1
  replace hT := hT.below l1
  replace hL := hL.below l1
  refine opL 1 4 (v := .string ⟨#[]⟩) (w' := w1) (by kernel_rfl) (frZ hs) ?_ ?_
  · exact frY rfl (k_assign rfl rfl)
  refine frN2 hs hd h1 h2 ?_; clear hs hd h1 h2; intro a hs hd h1 h2 h4
  refine wp_seq ?_
  refine wp_seq ?_
  refine wp_region (show wpOps _ _ _ [0] _ _ from ?_)
  refine opL 0 5 (v := .int .i64 0) (w' := w1) (by kernel_rfl) (frZ hs) ?_ ?_
  · exact frY rfl (k_move rfl (ev_tmp h1))
  revert hs hd h1 h2 h4; refine frM3 ?_; intro a hs hd h1 h2 h4 h5
  refine wp_block ?_
  refine wp_seq ?_
  refine wp_region (show wpOps _ _ _ [0, 1] _ _ from ?_)
  refine opL 0 7 (v := .bool true) (w' := w1) (by kernel_rfl) (frZ hs) ?_ ?_
  · exact frY rfl (o_eqP rfl (ev_tmp h5) rfl rfl)
  revert hs hd h1 h2 h4 h5; refine frM4 ?_; intro a hs hd h1 h2 h4 h5 h7
  refine opL 1 6 (v := .bool true) (w' := w1) (by kernel_rfl) (frZ hs) ?_ ?_
  · exact frY rfl (k_assign rfl (ev_tmp h7))
  clear h7; revert hs hd h1 h2 h4 h5; refine frM4 ?_; intro a hs hd h1 h2 h4 h5 h6
  refine wp_cond_true (ev_tmp h6) ?_
  refine wp_seq ?_
  refine wp_region (show wpOps _ _ _ [0, 1, 2, 3, 4] _ _ from ?_)
  refine opL 0 8 (v := .pointer (some ⟨w.heap.size, 0, none⟩)) (w' := w1) (by kernel_rfl) (frZ hs) ?_ ?_
  · exact frY rfl (k_field0 rfl (ev_tmp h2))
  revert hs hd h1 h2 h4 h5 h6; refine frM5 ?_; intro a hs hd h1 h2 h4 h5 h6 h8
  refine opL 1 9 (v := .int .i64 f) (w' := w1) (by kernel_rfl) (frZ hs) ?_ ?_
  · exact frY rfl (k_loadF rfl (ev_tmp h8) (q1.cell 0))
  clear h8; revert hs hd h1 h2 h4 h5 h6; refine frM5 ?_; intro a hs hd h1 h2 h4 h5 h6 h9
  refine opL 2 10 (v := .pointer (some ⟨3, f.toNat, none⟩)) (w' := w1) (by kernel_rfl) (frZ hs) ?_ ?_
  · exact frY rfl (k_fqAt rfl rfl (ev_tmp (h9.trans (by rw [Int.toNat_of_nonneg hok.f.1]))) (by have := hok.f; omega))
  clear h9; revert hs hd h1 h2 h4 h5 h6; refine frM5 ?_; intro a hs hd h1 h2 h4 h5 h6 h10
  refine opL 3 11 (v := .string ⟨(Rfc.fq f.toNat).toArray⟩) (w' := w1) (by kernel_rfl) (frZ hs) ?_ ?_
  · exact frY rfl (k_loadStr rfl (ev_tmp h10) (hT.fq _ (by have := hok.f; omega)))
  clear h10; revert hs hd h1 h2 h4 h5 h6; refine frM5 ?_; intro a hs hd h1 h2 h4 h5 h6 h11
  refine opL 4 4 (v := .string ⟨(Rfc.fq f.toNat).toArray⟩) (w' := w1) (by kernel_rfl) (frZ hs) ?_ ?_
  · exact frY rfl (k_assign rfl (ev_tmp h11))
  clear h4 h11; revert hs hd h1 h2 h5 h6; refine frM4 ?_; intro a hs hd h1 h2 h5 h6 h4
  refine wp_ret ?_
  exact hfin a _ hd h4 l1

set_option maxRecDepth 100000 in
set_option maxHeartbeats 1000000 in
theorem pv_1 (f iv c u : Int) (t : List UInt8) (AM AD AW AP : Option Addr) (cM cD cW cP : Nat) (M D : List Int) (K : List (Int × Int)) (P : List Int) (w : World) (hT : Tabs w) (hL : ListsIn w AM AD AW AP M D K P) (hok : Okay f iv c u t M D K P) :
    Calls Tryz.prog 28 #[.agg #[.int .i64 f, .int .i64 iv, .int .i64 c, .int .i64 u, .slice AM M.length cM, .slice AD D.length cD, .slice AW K.length cW, .slice AP P.length cP], .int .i64 1] w fun e w' => ∃ v, e = .returned v ∧ v = .string ⟨(Rfc.num iv 1).toArray⟩ ∧ Below w.heap.size w w' := by
  refine calls_of_wp Tryz.func28 (show Tryz.f28.body = some pvBody from rfl) ?_
  generalize hAA : (Act.mk (#[.agg #[.int .i64 f, .int .i64 iv, .int .i64 c, .int .i64 u, .slice AM M.length cM, .slice AD D.length cD, .slice AW K.length cW, .slice AP P.length cP], .int .i64 1] ++ Array.replicate (Tryz.f28.ntmps - (#[.agg #[.int .i64 f, .int .i64 iv, .int .i64 c, .int .i64 u, .slice AM M.length cM, .slice AD D.length cD, .slice AW K.length cW, .slice AP P.length cP], .int .i64 1] : Array Value).size) undef) []) = a
  have hs : a.tmps.size = 48 := by rw [← hAA]; simp [Tryz.ntmps28]
  have hd : a.defers = [] := by rw [← hAA]
  have h0 : a.tmps.getD 0 undef = .agg #[.int .i64 f, .int .i64 iv, .int .i64 c, .int .i64 u, .slice AM M.length cM, .slice AD D.length cD, .slice AW K.length cW, .slice AP P.length cP] := by rw [← hAA]; simp
  have h1 : a.tmps.getD 1 undef = .int .i64 1 := by rw [← hAA]; simp
  clear hAA
  refine Code.wp_mono NoPanic.imp ?_
  have hQ : Blind (NoPanic (bodyPost Tryz.prog Tryz.f28 fun e w' => ∃ v, e = .returned v ∧ v = .string ⟨(Rfc.num iv 1).toArray⟩ ∧ Below w.heap.size w w')) := fun _ _ _ _ q => q.elim
  have hfin : ∀ (a' : Act) (w' : World), a'.defers = [] → a'.tmps.getD 4 undef = .string ⟨(Rfc.num iv 1).toArray⟩ → Below w.heap.size w w' → NoPanic (bodyPost Tryz.prog Tryz.f28 fun e w' => ∃ v, e = .returned v ∧ v = .string ⟨(Rfc.num iv 1).toArray⟩ ∧ Below w.heap.size w w') .ret a' w' := by
    intro a' w' k1 k2 k3
    exact ⟨k1, _, results_tmp rfl _ _ _, _, rfl, k2, k3⟩
  generalize NoPanic (bodyPost Tryz.prog Tryz.f28 fun e w' => ∃ v, e = .returned v ∧ v = .string ⟨(Rfc.num iv 1).toArray⟩ ∧ Below w.heap.size w w') = Q at hQ hfin
  unfold pvBody
  conv => arg 2; whnf
  refine wp_seq ?_
  refine wp_region (show wpOps _ _ _ [0, 1] _ _ from ?_)
  refine opL 0 2 (v := .pointer (some ⟨w.heap.size, 0, none⟩)) (w' := (w.alloc (.cells #[.int .i64 f, .int .i64 iv, .int .i64 c, .int .i64 u, .slice AM M.length cM, .slice AD D.length cD, .slice AW K.length cW, .slice AP P.length cP] 36))) (by kernel_rfl) (frZ hs) ?_ ?_
  · exact frY rfl (k_boxR3 rfl (ev_tmp h0))
  refine frN1 hs hd h1 ?_; clear hs hd h1 h0; intro a hs hd h1 h2
  obtain ⟨w1, hw1⟩ : ∃ wn, wn = w.alloc (.cells #[.int .i64 f, .int .i64 iv, .int .i64 c, .int .i64 u, .slice AM M.length cM, .slice AD D.length cD, .slice AW K.length cW, .slice AP P.length cP] 36) := ⟨_, rfl⟩
  rw [← hw1]
  have q1 : Blk w1 w.heap.size 36 #[.int .i64 f, .int .i64 iv, .int .i64 c, .int .i64 u, .slice AM M.length cM, .slice AD D.length cD, .slice AW K.length cW, .slice AP P.length cP] := by rw [hw1]; exact Blk.alloc _ _ _
  have l1 : Below w.heap.size w w1 := by rw [hw1]; exact (Below.refl _ _).alloc (Nat.le_refl _) _
  clear hw1
  replace hT := hT.below l1
  replace hL := hL.below l1
  refine opL 1 4 (v := .string ⟨#[]⟩) (w' := w1) (by kernel_rfl) (frZ hs) ?_ ?_
  · exact frY rfl (k_assign rfl rfl)
  refine frN2 hs hd h1 h2 ?_; clear hs hd h1 h2; intro a hs hd h1 h2 h4
  refine wp_seq ?_
  refine wp_seq ?_
  refine wp_region (show wpOps _ _ _ [0] _ _ from ?_)
  refine opL 0 5 (v := .int .i64 1) (w' := w1) (by kernel_rfl) (frZ hs) ?_ ?_
  · exact frY rfl (k_move rfl (ev_tmp h1))
  revert hs hd h1 h2 h4; refine frM3 ?_; intro a hs hd h1 h2 h4 h5
  refine wp_block ?_
  refine wp_seq ?_
  refine wp_region (show wpOps _ _ _ [0, 1] _ _ from ?_)
  refine opL 0 7 (v := .bool false) (w' := w1) (by kernel_rfl) (frZ hs) ?_ ?_
  · exact frY rfl (o_eqP rfl (ev_tmp h5) rfl rfl)
  revert hs hd h1 h2 h4 h5; refine frM4 ?_; intro a hs hd h1 h2 h4 h5 h7
  refine opL 1 6 (v := .bool false) (w' := w1) (by kernel_rfl) (frZ hs) ?_ ?_
  · exact frY rfl (k_assign rfl (ev_tmp h7))
  clear h7; revert hs hd h1 h2 h4 h5; refine frM4 ?_; intro a hs hd h1 h2 h4 h5 h6
  refine wp_cond_false (ev_tmp h6) ?_
  refine wp_seq ?_
  refine wp_region (show wpOps _ _ _ [0, 1] _ _ from ?_)
  refine opL 0 13 (v := .bool true) (w' := w1) (by kernel_rfl) (frZ hs) ?_ ?_
  · exact frY rfl (o_eqP rfl (ev_tmp h5) rfl rfl)
  revert hs hd h1 h2 h4 h5 h6; refine frM5 ?_; intro a hs hd h1 h2 h4 h5 h6 h13
  refine opL 1 12 (v := .bool true) (w' := w1) (by kernel_rfl) (frZ hs) ?_ ?_
  · exact frY rfl (k_assign rfl (ev_tmp h13))
  clear h13; revert hs hd h1 h2 h4 h5 h6; refine frM5 ?_; intro a hs hd h1 h2 h4 h5 h6 h12
  refine wp_cond_true (ev_tmp h12) ?_
  refine wp_seq ?_
  refine wp_region (show wpOps _ _ _ [0, 1, 2, 3] _ _ from ?_)
  refine opL 0 14 (v := .pointer (some ⟨w.heap.size, 1, none⟩)) (w' := w1) (by kernel_rfl) (frZ hs) ?_ ?_
  · exact frY rfl (k_field1 rfl (ev_tmp h2))
  revert hs hd h1 h2 h4 h5 h6 h12; refine frM6 ?_; intro a hs hd h1 h2 h4 h5 h6 h12 h14
  refine opL 1 15 (v := .int .i64 iv) (w' := w1) (by kernel_rfl) (frZ hs) ?_ ?_
  · exact frY rfl (k_loadI rfl (ev_tmp h14) (q1.cell 1))
  clear h14; revert hs hd h1 h2 h4 h5 h6 h12; refine frM6 ?_; intro a hs hd h1 h2 h4 h5 h6 h12 h15
  have hc := unless_any iv 1 w1 hT hok.iv
  have hx := fun ops Q rest d a i h1 h2 h3 => opL_call (P := Tryz.prog) (ops := ops) (Q := Q) (a := a) (w := w1) (rest := rest) i d h1 h2 h3 hc
  refine hx _ _ _ 16 _ 2 ?z65a ?z65b ?z65 ?z66
  case z65a => kernel_rfl
  case z65b => (rw [hs]; decide)
  case z65 => exact frY rfl (c_Unless rfl rfl (ev_tmp h15) rfl)
  case z66 =>
  rintro _ w2 a ⟨rfl, l2⟩ F0
  replace hs := F0.z.trans hs
  replace hd := F0.e.trans hd
  replace h1 := (F0.n 1 (by decide)).trans h1
  replace h2 := (F0.n 2 (by decide)).trans h2
  replace h4 := (F0.n 4 (by decide)).trans h4
  replace h5 := (F0.n 5 (by decide)).trans h5
  replace h6 := (F0.n 6 (by decide)).trans h6
  replace h12 := (F0.n 12 (by decide)).trans h12
  clear h15
  have h16 := F0.s
  clear F0
  clear hx hc
  refine opL 3 4 (v := .string ⟨(Rfc.num iv 1).toArray⟩) (w' := w2) (by kernel_rfl) (frZ hs) ?_ ?_
  · exact frY rfl (k_assign rfl (ev_tmp h16))
  refine frN5 hs hd h1 h2 h5 h6 h12 ?_; clear hs hd h1 h2 h5 h6 h12 h4 h16; intro a hs hd h1 h2 h5 h6 h12 h4
  refine wp_ret ?_
  exact hfin a _ hd h4 (l1.trans (l2.mono l1.size))

set_option maxRecDepth 100000 in
set_option maxHeartbeats 1000000 in
theorem pv_2 (f iv c u : Int) (t : List UInt8) (AM AD AW AP : Option Addr) (cM cD cW cP : Nat) (M D : List Int) (K : List (Int × Int)) (P : List Int) (w : World) (hT : Tabs w) (hL : ListsIn w AM AD AW AP M D K P) (hok : Okay f iv c u t M D K P) :
    Calls Tryz.prog 28 #[.agg #[.int .i64 f, .int .i64 iv, .int .i64 c, .int .i64 u, .slice AM M.length cM, .slice AD D.length cD, .slice AW K.length cW, .slice AP P.length cP], .int .i64 2] w fun e w' => ∃ v, e = .returned v ∧ v = .string ⟨(Rfc.num c 0).toArray⟩ ∧ Below w.heap.size w w' := by
  refine calls_of_wp Tryz.func28 (show Tryz.f28.body = some pvBody from rfl) ?_
  generalize hAA : (Act.mk (#[.agg #[.int .i64 f, .int .i64 iv, .int .i64 c, .int .i64 u, .slice AM M.length cM, .slice AD D.length cD, .slice AW K.length cW, .slice AP P.length cP], .int .i64 2] ++ Array.replicate (Tryz.f28.ntmps - (#[.agg #[.int .i64 f, .int .i64 iv, .int .i64 c, .int .i64 u, .slice AM M.length cM, .slice AD D.length cD, .slice AW K.length cW, .slice AP P.length cP], .int .i64 2] : Array Value).size) undef) []) = a
  have hs : a.tmps.size = 48 := by rw [← hAA]; simp [Tryz.ntmps28]
  have hd : a.defers = [] := by rw [← hAA]
  have h0 : a.tmps.getD 0 undef = .agg #[.int .i64 f, .int .i64 iv, .int .i64 c, .int .i64 u, .slice AM M.length cM, .slice AD D.length cD, .slice AW K.length cW, .slice AP P.length cP] := by rw [← hAA]; simp
  have h1 : a.tmps.getD 1 undef = .int .i64 2 := by rw [← hAA]; simp
  clear hAA
  refine Code.wp_mono NoPanic.imp ?_
  have hQ : Blind (NoPanic (bodyPost Tryz.prog Tryz.f28 fun e w' => ∃ v, e = .returned v ∧ v = .string ⟨(Rfc.num c 0).toArray⟩ ∧ Below w.heap.size w w')) := fun _ _ _ _ q => q.elim
  have hfin : ∀ (a' : Act) (w' : World), a'.defers = [] → a'.tmps.getD 4 undef = .string ⟨(Rfc.num c 0).toArray⟩ → Below w.heap.size w w' → NoPanic (bodyPost Tryz.prog Tryz.f28 fun e w' => ∃ v, e = .returned v ∧ v = .string ⟨(Rfc.num c 0).toArray⟩ ∧ Below w.heap.size w w') .ret a' w' := by
    intro a' w' k1 k2 k3
    exact ⟨k1, _, results_tmp rfl _ _ _, _, rfl, k2, k3⟩
  generalize NoPanic (bodyPost Tryz.prog Tryz.f28 fun e w' => ∃ v, e = .returned v ∧ v = .string ⟨(Rfc.num c 0).toArray⟩ ∧ Below w.heap.size w w') = Q at hQ hfin
  unfold pvBody
  conv => arg 2; whnf
  refine wp_seq ?_
  refine wp_region (show wpOps _ _ _ [0, 1] _ _ from ?_)
  refine opL 0 2 (v := .pointer (some ⟨w.heap.size, 0, none⟩)) (w' := (w.alloc (.cells #[.int .i64 f, .int .i64 iv, .int .i64 c, .int .i64 u, .slice AM M.length cM, .slice AD D.length cD, .slice AW K.length cW, .slice AP P.length cP] 36))) (by kernel_rfl) (frZ hs) ?_ ?_
  · exact frY rfl (k_boxR3 rfl (ev_tmp h0))
  refine frN1 hs hd h1 ?_; clear hs hd h1 h0; intro a hs hd h1 h2
  obtain ⟨w1, hw1⟩ : ∃ wn, wn = w.alloc (.cells #[.int .i64 f, .int .i64 iv, .int .i64 c, .int .i64 u, .slice AM M.length cM, .slice AD D.length cD, .slice AW K.length cW, .slice AP P.length cP] 36) := ⟨_, rfl⟩
  rw [← hw1]
  have q1 : Blk w1 w.heap.size 36 #[.int .i64 f, .int .i64 iv, .int .i64 c, .int .i64 u, .slice AM M.length cM, .slice AD D.length cD, .slice AW K.length cW, .slice AP P.length cP] := by rw [hw1]; exact Blk.alloc _ _ _
  have l1 : Below w.heap.size w w1 := by rw [hw1]; exact (Below.refl _ _).alloc (Nat.le_refl _) _
  clear hw1
  replace hT := hT.below l1
  replace hL := hL.below l1
  refine opL 1 4 (v := .string ⟨#[]⟩) (w' := w1) (by kernel_rfl) (frZ hs) ?_ ?_
  · exact frY rfl (k_assign rfl rfl)
  refine frN2 hs hd h1 h2 ?_; clear hs hd h1 h2; intro a hs hd h1 h2 h4
  refine wp_seq ?_
  refine wp_seq ?_
  refine wp_region (show wpOps _ _ _ [0] _ _ from ?_)
  refine opL 0 5 (v := .int .i64 2) (w' := w1) (by kernel_rfl) (frZ hs) ?_ ?_
  · exact frY rfl (k_move rfl (ev_tmp h1))
  revert hs hd h1 h2 h4; refine frM3 ?_; intro a hs hd h1 h2 h4 h5
  refine wp_block ?_
  refine wp_seq ?_
  refine wp_region (show wpOps _ _ _ [0, 1] _ _ from ?_)
  refine opL 0 7 (v := .bool false) (w' := w1) (by kernel_rfl) (frZ hs) ?_ ?_
  · exact frY rfl (o_eqP rfl (ev_tmp h5) rfl rfl)
  revert hs hd h1 h2 h4 h5; refine frM4 ?_; intro a hs hd h1 h2 h4 h5 h7
  refine opL 1 6 (v := .bool false) (w' := w1) (by kernel_rfl) (frZ hs) ?_ ?_
  · exact frY rfl (k_assign rfl (ev_tmp h7))
  clear h7; revert hs hd h1 h2 h4 h5; refine frM4 ?_; intro a hs hd h1 h2 h4 h5 h6
  refine wp_cond_false (ev_tmp h6) ?_
  refine wp_seq ?_
  refine wp_region (show wpOps _ _ _ [0, 1] _ _ from ?_)
  refine opL 0 13 (v := .bool false) (w' := w1) (by kernel_rfl) (frZ hs) ?_ ?_
  · exact frY rfl (o_eqP rfl (ev_tmp h5) rfl rfl)
  revert hs hd h1 h2 h4 h5 h6; refine frM5 ?_; intro a hs hd h1 h2 h4 h5 h6 h13
  refine opL 1 12 (v := .bool false) (w' := w1) (by kernel_rfl) (frZ hs) ?_ ?_
  · exact frY rfl (k_assign rfl (ev_tmp h13))
  clear h13; revert hs hd h1 h2 h4 h5 h6; refine frM5 ?_; intro a hs hd h1 h2 h4 h5 h6 h12
  refine wp_cond_false (ev_tmp h12) ?_
  refine wp_seq ?_
  refine wp_region (show wpOps _ _ _ [0, 1] _ _ from ?_)
  refine opL 0 18 (v := .bool true) (w' := w1) (by kernel_rfl) (frZ hs) ?_ ?_
  · exact frY rfl (o_eqP rfl (ev_tmp h5) rfl rfl)
  revert hs hd h1 h2 h4 h5 h6 h12; refine frM6 ?_; intro a hs hd h1 h2 h4 h5 h6 h12 h18
  refine opL 1 17 (v := .bool true) (w' := w1) (by kernel_rfl) (frZ hs) ?_ ?_
  · exact frY rfl (k_assign rfl (ev_tmp h18))
  clear h18; revert hs hd h1 h2 h4 h5 h6 h12; refine frM6 ?_; intro a hs hd h1 h2 h4 h5 h6 h12 h17
  refine wp_cond_true (ev_tmp h17) ?_
  refine wp_seq ?_
  refine wp_region (show wpOps _ _ _ [0, 1, 2, 3] _ _ from ?_)
  refine opL 0 19 (v := .pointer (some ⟨w.heap.size, 2, none⟩)) (w' := w1) (by kernel_rfl) (frZ hs) ?_ ?_
  · exact frY rfl (k_field2 rfl (ev_tmp h2))
  revert hs hd h1 h2 h4 h5 h6 h12 h17; refine frM7 ?_; intro a hs hd h1 h2 h4 h5 h6 h12 h17 h19
  refine opL 1 20 (v := .int .i64 c) (w' := w1) (by kernel_rfl) (frZ hs) ?_ ?_
  · exact frY rfl (k_loadI rfl (ev_tmp h19) (q1.cell 2))
  clear h19; revert hs hd h1 h2 h4 h5 h6 h12 h17; refine frM7 ?_; intro a hs hd h1 h2 h4 h5 h6 h12 h17 h20
  have hc := unless_any c 0 w1 hT hok.c
  have hx := fun ops Q rest d a i h1 h2 h3 => opL_call (P := Tryz.prog) (ops := ops) (Q := Q) (a := a) (w := w1) (rest := rest) i d h1 h2 h3 hc
  refine hx _ _ _ 21 _ 2 ?z91a ?z91b ?z91 ?z92
  case z91a => kernel_rfl
  case z91b => (rw [hs]; decide)
  case z91 => exact frY rfl (c_Unless rfl rfl (ev_tmp h20) rfl)
  case z92 =>
  rintro _ w2 a ⟨rfl, l2⟩ F0
  replace hs := F0.z.trans hs
  replace hd := F0.e.trans hd
  replace h1 := (F0.n 1 (by decide)).trans h1
  replace h2 := (F0.n 2 (by decide)).trans h2
  replace h4 := (F0.n 4 (by decide)).trans h4
  replace h5 := (F0.n 5 (by decide)).trans h5
  replace h6 := (F0.n 6 (by decide)).trans h6
  replace h12 := (F0.n 12 (by decide)).trans h12
  replace h17 := (F0.n 17 (by decide)).trans h17
  clear h20
  have h21 := F0.s
  clear F0
  clear hx hc
  refine opL 3 4 (v := .string ⟨(Rfc.num c 0).toArray⟩) (w' := w2) (by kernel_rfl) (frZ hs) ?_ ?_
  · exact frY rfl (k_assign rfl (ev_tmp h21))
  refine frN6 hs hd h1 h2 h5 h6 h12 h17 ?_; clear hs hd h1 h2 h5 h6 h12 h17 h4 h21; intro a hs hd h1 h2 h5 h6 h12 h17 h4
  refine wp_ret ?_
  exact hfin a _ hd h4 (l1.trans (l2.mono l1.size))

set_option maxRecDepth 100000 in
set_option maxHeartbeats 1000000 in
theorem pv_3 (f iv c u : Int) (t : List UInt8) (AM AD AW AP : Option Addr) (cM cD cW cP : Nat) (M D : List Int) (K : List (Int × Int)) (P : List Int) (w : World) (hT : Tabs w) (hL : ListsIn w AM AD AW AP M D K P) (hok : Okay f iv c u t M D K P) :
    Calls Tryz.prog 28 #[.agg #[.int .i64 f, .int .i64 iv, .int .i64 c, .int .i64 u, .slice AM M.length cM, .slice AD D.length cD, .slice AW K.length cW, .slice AP P.length cP], .int .i64 3] w fun e w' => ∃ v, e = .returned v ∧ v = .string ⟨(t).toArray⟩ ∧ Below w.heap.size w w' := by
  refine calls_of_wp Tryz.func28 (show Tryz.f28.body = some pvBody from rfl) ?_
  generalize hAA : (Act.mk (#[.agg #[.int .i64 f, .int .i64 iv, .int .i64 c, .int .i64 u, .slice AM M.length cM, .slice AD D.length cD, .slice AW K.length cW, .slice AP P.length cP], .int .i64 3] ++ Array.replicate (Tryz.f28.ntmps - (#[.agg #[.int .i64 f, .int .i64 iv, .int .i64 c, .int .i64 u, .slice AM M.length cM, .slice AD D.length cD, .slice AW K.length cW, .slice AP P.length cP], .int .i64 3] : Array Value).size) undef) []) = a
  have hs : a.tmps.size = 48 := by rw [← hAA]; simp [Tryz.ntmps28]
  have hd : a.defers = [] := by rw [← hAA]
  have h0 : a.tmps.getD 0 undef = .agg #[.int .i64 f, .int .i64 iv, .int .i64 c, .int .i64 u, .slice AM M.length cM, .slice AD D.length cD, .slice AW K.length cW, .slice AP P.length cP] := by rw [← hAA]; simp
  have h1 : a.tmps.getD 1 undef = .int .i64 3 := by rw [← hAA]; simp
  clear hAA
  refine Code.wp_mono NoPanic.imp ?_
  have hQ : Blind (NoPanic (bodyPost Tryz.prog Tryz.f28 fun e w' => ∃ v, e = .returned v ∧ v = .string ⟨(t).toArray⟩ ∧ Below w.heap.size w w')) := fun _ _ _ _ q => q.elim
  have hfin : ∀ (a' : Act) (w' : World), a'.defers = [] → a'.tmps.getD 4 undef = .string ⟨(t).toArray⟩ → Below w.heap.size w w' → NoPanic (bodyPost Tryz.prog Tryz.f28 fun e w' => ∃ v, e = .returned v ∧ v = .string ⟨(t).toArray⟩ ∧ Below w.heap.size w w') .ret a' w' := by
    intro a' w' k1 k2 k3
    exact ⟨k1, _, results_tmp rfl _ _ _, _, rfl, k2, k3⟩
  generalize NoPanic (bodyPost Tryz.prog Tryz.f28 fun e w' => ∃ v, e = .returned v ∧ v = .string ⟨(t).toArray⟩ ∧ Below w.heap.size w w') = Q at hQ hfin
  unfold pvBody
  conv => arg 2; whnf
  refine wp_seq ?_
  refine wp_region (show wpOps _ _ _ [0, 1] _ _ from ?_)
  refine opL 0 2 (v := .pointer (some ⟨w.heap.size, 0, none⟩)) (w' := (w.alloc (.cells #[.int .i64 f, .int .i64 iv, .int .i64 c, .int .i64 u, .slice AM M.length cM, .slice AD D.length cD, .slice AW K.length cW, .slice AP P.length cP] 36))) (by kernel_rfl) (frZ hs) ?_ ?_
  · exact frY rfl (k_boxR3 rfl (ev_tmp h0))
  refine frN1 hs hd h1 ?_; clear hs hd h1 h0; intro a hs hd h1 h2
  obtain ⟨w1, hw1⟩ : ∃ wn, wn = w.alloc (.cells #[.int .i64 f, .int .i64 iv, .int .i64 c, .int .i64 u, .slice AM M.length cM, .slice AD D.length cD, .slice AW K.length cW, .slice AP P.length cP] 36) := ⟨_, rfl⟩
  rw [← hw1]
  have q1 : Blk w1 w.heap.size 36 #[.int .i64 f, .int .i64 iv, .int .i64 c, .int .i64 u, .slice AM M.length cM, .slice AD D.length cD, .slice AW K.length cW, .slice AP P.length cP] := by rw [hw1]; exact Blk.alloc _ _ _
  have l1 : Below w.heap.size w w1 := by rw [hw1]; exact (Below.refl _ _).alloc (Nat.le_refl _) _
  clear hw1
  replace hT := hT.below l1
  replace hL := hL.below l1
  refine opL 1 4 (v := .string ⟨#[]⟩) (w' := w1) (by kernel_rfl) (frZ hs) ?_ ?_
  · exact frY rfl (k_assign rfl rfl)
  refine frN2 hs hd h1 h2 ?_; clear hs hd h1 h2; intro a hs hd h1 h2 h4
  refine wp_seq ?_
  refine wp_seq ?_
  refine wp_region (show wpOps _ _ _ [0] _ _ from ?_)
  refine opL 0 5 (v := .int .i64 3) (w' := w1) (by kernel_rfl) (frZ hs) ?_ ?_
  · exact frY rfl (k_move rfl (ev_tmp h1))
  revert hs hd h1 h2 h4; refine frM3 ?_; intro a hs hd h1 h2 h4 h5
  refine wp_block ?_
  refine wp_seq ?_
  refine wp_region (show wpOps _ _ _ [0, 1] _ _ from ?_)
  refine opL 0 7 (v := .bool false) (w' := w1) (by kernel_rfl) (frZ hs) ?_ ?_
  · exact frY rfl (o_eqP rfl (ev_tmp h5) rfl rfl)
  revert hs hd h1 h2 h4 h5; refine frM4 ?_; intro a hs hd h1 h2 h4 h5 h7
  refine opL 1 6 (v := .bool false) (w' := w1) (by kernel_rfl) (frZ hs) ?_ ?_
  · exact frY rfl (k_assign rfl (ev_tmp h7))
  clear h7; revert hs hd h1 h2 h4 h5; refine frM4 ?_; intro a hs hd h1 h2 h4 h5 h6
  refine wp_cond_false (ev_tmp h6) ?_
  refine wp_seq ?_
  refine wp_region (show wpOps _ _ _ [0, 1] _ _ from ?_)
  refine opL 0 13 (v := .bool false) (w' := w1) (by kernel_rfl) (frZ hs) ?_ ?_
  · exact frY rfl (o_eqP rfl (ev_tmp h5) rfl rfl)
  revert hs hd h1 h2 h4 h5 h6; refine frM5 ?_; intro a hs hd h1 h2 h4 h5 h6 h13
  refine opL 1 12 (v := .bool false) (w' := w1) (by kernel_rfl) (frZ hs) ?_ ?_
  · exact frY rfl (k_assign rfl (ev_tmp h13))
  clear h13; revert hs hd h1 h2 h4 h5 h6; refine frM5 ?_; intro a hs hd h1 h2 h4 h5 h6 h12
  refine wp_cond_false (ev_tmp h12) ?_
  refine wp_seq ?_
  refine wp_region (show wpOps _ _ _ [0, 1] _ _ from ?_)
  refine opL 0 18 (v := .bool false) (w' := w1) (by kernel_rfl) (frZ hs) ?_ ?_
  · exact frY rfl (o_eqP rfl (ev_tmp h5) rfl rfl)
  revert hs hd h1 h2 h4 h5 h6 h12; refine frM6 ?_; intro a hs hd h1 h2 h4 h5 h6 h12 h18
  refine opL 1 17 (v := .bool false) (w' := w1) (by kernel_rfl) (frZ hs) ?_ ?_
  · exact frY rfl (k_assign rfl (ev_tmp h18))
  clear h18; revert hs hd h1 h2 h4 h5 h6 h12; refine frM6 ?_; intro a hs hd h1 h2 h4 h5 h6 h12 h17
  refine wp_cond_false (ev_tmp h17) ?_
  refine wp_seq ?_
  refine wp_region (show wpOps _ _ _ [0, 1] _ _ from ?_)
  refine opL 0 23 (v := .bool true) (w' := w1) (by kernel_rfl) (frZ hs) ?_ ?_
  · exact frY rfl (o_eqP rfl (ev_tmp h5) rfl rfl)
  revert hs hd h1 h2 h4 h5 h6 h12 h17; refine frM7 ?_; intro a hs hd h1 h2 h4 h5 h6 h12 h17 h23
  refine opL 1 22 (v := .bool true) (w' := w1) (by kernel_rfl) (frZ hs) ?_ ?_
  · exact frY rfl (k_assign rfl (ev_tmp h23))
  clear h23; revert hs hd h1 h2 h4 h5 h6 h12 h17; refine frM7 ?_; intro a hs hd h1 h2 h4 h5 h6 h12 h17 h22
  refine wp_cond_true (ev_tmp h22) ?_
  refine wp_seq ?_
  refine wp_region (show wpOps _ _ _ [0, 1, 2, 3, 4] _ _ from ?_)
  refine opL 0 24 (v := .pointer (some ⟨w.heap.size, 3, none⟩)) (w' := w1) (by kernel_rfl) (frZ hs) ?_ ?_
  · exact frY rfl (k_field3 rfl (ev_tmp h2))
  revert hs hd h1 h2 h4 h5 h6 h12 h17 h22; refine frM8 ?_; intro a hs hd h1 h2 h4 h5 h6 h12 h17 h22 h24
  refine opL 1 25 (v := .int .i64 u) (w' := w1) (by kernel_rfl) (frZ hs) ?_ ?_
  · exact frY rfl (k_loadU rfl (ev_tmp h24) (q1.cell 3))
  clear h24; revert hs hd h1 h2 h4 h5 h6 h12 h17 h22; refine frM8 ?_; intro a hs hd h1 h2 h4 h5 h6 h12 h17 h22 h25
  have hc := textU_any u t w1 hT hok.u
  have hx := fun ops Q rest d a i h1 h2 h3 => opL_call (P := Tryz.prog) (ops := ops) (Q := Q) (a := a) (w := w1) (rest := rest) i d h1 h2 h3 hc
  refine hx _ _ _ 26 _ 2 ?z121a ?z121b ?z121 ?z122
  case z121a => kernel_rfl
  case z121b => (rw [hs]; decide)
  case z121 => exact frY rfl (c_Text rfl rfl (ev_tmp h25))
  case z122 =>
  rintro _ w2 a ⟨⟨b, rfl, hbs, hbt⟩, l2⟩ F0
  replace hs := F0.z.trans hs
  replace hd := F0.e.trans hd
  replace h1 := (F0.n 1 (by decide)).trans h1
  replace h2 := (F0.n 2 (by decide)).trans h2
  replace h4 := (F0.n 4 (by decide)).trans h4
  replace h5 := (F0.n 5 (by decide)).trans h5
  replace h6 := (F0.n 6 (by decide)).trans h6
  replace h12 := (F0.n 12 (by decide)).trans h12
  replace h17 := (F0.n 17 (by decide)).trans h17
  replace h22 := (F0.n 22 (by decide)).trans h22
  clear h25
  have h26 := F0.s
  clear F0
  clear hx hc
  have hc := replace_any b w2 (hT.below l2) hbs
  have hx := fun ops Q rest d a i h1 h2 h3 => opL_call (P := Tryz.prog) (ops := ops) (Q := Q) (a := a) (w := w2) (rest := rest) i d h1 h2 h3 hc
  refine hx _ _ _ 27 _ 3 ?z123a ?z123b ?z123 ?z124
  case z123a => kernel_rfl
  case z123b => (rw [hs]; decide)
  case z123 => exact frY rfl (c_Replace rfl rfl (ev_tmp h26) rfl rfl)
  case z124 =>
  rintro _ w3 a ⟨rfl, l3⟩ F0
  rw [hbt] at F0
  replace hs := F0.z.trans hs
  replace hd := F0.e.trans hd
  replace h1 := (F0.n 1 (by decide)).trans h1
  replace h2 := (F0.n 2 (by decide)).trans h2
  replace h4 := (F0.n 4 (by decide)).trans h4
  replace h5 := (F0.n 5 (by decide)).trans h5
  replace h6 := (F0.n 6 (by decide)).trans h6
  replace h12 := (F0.n 12 (by decide)).trans h12
  replace h17 := (F0.n 17 (by decide)).trans h17
  replace h22 := (F0.n 22 (by decide)).trans h22
  clear h26
  have h27 := F0.s
  clear F0
  clear hx hc
  refine opL 4 4 (v := .string ⟨(t).toArray⟩) (w' := w3) (by kernel_rfl) (frZ hs) ?_ ?_
  · exact frY rfl (k_assign rfl (ev_tmp h27))
  refine frN7 hs hd h1 h2 h5 h6 h12 h17 h22 ?_; clear hs hd h1 h2 h5 h6 h12 h17 h22 h4 h27; intro a hs hd h1 h2 h5 h6 h12 h17 h22 h4
  refine wp_ret ?_
  exact hfin a _ hd h4 ((l1.trans (l2.mono l1.size)).trans (l3.mono (Nat.le_trans l1.size l2.size)))

set_option maxRecDepth 100000 in
set_option maxHeartbeats 1000000 in
theorem pv_4 (f iv c u : Int) (t : List UInt8) (AM AD AW AP : Option Addr) (cM cD cW cP : Nat) (M D : List Int) (K : List (Int × Int)) (P : List Int) (w : World) (hT : Tabs w) (hL : ListsIn w AM AD AW AP M D K P) (hok : Okay f iv c u t M D K P) :
    Calls Tryz.prog 28 #[.agg #[.int .i64 f, .int .i64 iv, .int .i64 c, .int .i64 u, .slice AM M.length cM, .slice AD D.length cD, .slice AW K.length cW, .slice AP P.length cP], .int .i64 4] w fun e w' => ∃ v, e = .returned v ∧ v = .string ⟨(Rfc.nums M).toArray⟩ ∧ Below w.heap.size w w' := by
  refine calls_of_wp Tryz.func28 (show Tryz.f28.body = some pvBody from rfl) ?_
  generalize hAA : (Act.mk (#[.agg #[.int .i64 f, .int .i64 iv, .int .i64 c, .int .i64 u, .slice AM M.length cM, .slice AD D.length cD, .slice AW K.length cW, .slice AP P.length cP], .int .i64 4] ++ Array.replicate (Tryz.f28.ntmps - (#[.agg #[.int .i64 f, .int .i64 iv, .int .i64 c, .int .i64 u, .slice AM M.length cM, .slice AD D.length cD, .slice AW K.length cW, .slice AP P.length cP], .int .i64 4] : Array Value).size) undef) []) = a
  have hs : a.tmps.size = 48 := by rw [← hAA]; simp [Tryz.ntmps28]
  have hd : a.defers = [] := by rw [← hAA]
  have h0 : a.tmps.getD 0 undef = .agg #[.int .i64 f, .int .i64 iv, .int .i64 c, .int .i64 u, .slice AM M.length cM, .slice AD D.length cD, .slice AW K.length cW, .slice AP P.length cP] := by rw [← hAA]; simp
  have h1 : a.tmps.getD 1 undef = .int .i64 4 := by rw [← hAA]; simp
  clear hAA
  refine Code.wp_mono NoPanic.imp ?_
  have hQ : Blind (NoPanic (bodyPost Tryz.prog Tryz.f28 fun e w' => ∃ v, e = .returned v ∧ v = .string ⟨(Rfc.nums M).toArray⟩ ∧ Below w.heap.size w w')) := fun _ _ _ _ q => q.elim
  have hfin : ∀ (a' : Act) (w' : World), a'.defers = [] → a'.tmps.getD 4 undef = .string ⟨(Rfc.nums M).toArray⟩ → Below w.heap.size w w' → NoPanic (bodyPost Tryz.prog Tryz.f28 fun e w' => ∃ v, e = .returned v ∧ v = .string ⟨(Rfc.nums M).toArray⟩ ∧ Below w.heap.size w w') .ret a' w' := by
    intro a' w' k1 k2 k3
    exact ⟨k1, _, results_tmp rfl _ _ _, _, rfl, k2, k3⟩
  generalize NoPanic (bodyPost Tryz.prog Tryz.f28 fun e w' => ∃ v, e = .returned v ∧ v = .string ⟨(Rfc.nums M).toArray⟩ ∧ Below w.heap.size w w') = Q at hQ hfin
  unfold pvBody
  conv => arg 2; whnf
  refine wp_seq ?_
  refine wp_region (show wpOps _ _ _ [0, 1] _ _ from ?_)
  refine opL 0 2 (v := .pointer (some ⟨w.heap.size, 0, none⟩)) (w' := (w.alloc (.cells #[.int .i64 f, .int .i64 iv, .int .i64 c, .int .i64 u, .slice AM M.length cM, .slice AD D.length cD, .slice AW K.length cW, .slice AP P.length cP] 36))) (by kernel_rfl) (frZ hs) ?_ ?_
  · exact frY rfl (k_boxR3 rfl (ev_tmp h0))
  refine frN1 hs hd h1 ?_; clear hs hd h1 h0; intro a hs hd h1 h2
  obtain ⟨w1, hw1⟩ : ∃ wn, wn = w.alloc (.cells #[.int .i64 f, .int .i64 iv, .int .i64 c, .int .i64 u, .slice AM M.length cM, .slice AD D.length cD, .slice AW K.length cW, .slice AP P.length cP] 36) := ⟨_, rfl⟩
  rw [← hw1]
  have q1 : Blk w1 w.heap.size 36 #[.int .i64 f, .int .i64 iv, .int .i64 c, .int .i64 u, .slice AM M.length cM, .slice AD D.length cD, .slice AW K.length cW, .slice AP P.length cP] := by rw [hw1]; exact Blk.alloc _ _ _
  have l1 : Below w.heap.size w w1 := by rw [hw1]; exact (Below.refl _ _).alloc (Nat.le_refl _) _
  clear hw1
  replace hT := hT.below l1
  replace hL := hL.below l1
  refine opL 1 4 (v := .string ⟨#[]⟩) (w' := w1) (by kernel_rfl) (frZ hs) ?_ ?_
  · exact frY rfl (k_assign rfl rfl)
  refine frN2 hs hd h1 h2 ?_; clear hs hd h1 h2; intro a hs hd h1 h2 h4
  refine wp_seq ?_
  refine wp_seq ?_
  refine wp_region (show wpOps _ _ _ [0] _ _ from ?_)
  refine opL 0 5 (v := .int .i64 4) (w' := w1) (by kernel_rfl) (frZ hs) ?_ ?_
  · exact frY rfl (k_move rfl (ev_tmp h1))
  revert hs hd h1 h2 h4; refine frM3 ?_; intro a hs hd h1 h2 h4 h5
  refine wp_block ?_
  refine wp_seq ?_
  refine wp_region (show wpOps _ _ _ [0, 1] _ _ from ?_)
  refine opL 0 7 (v := .bool false) (w' := w1) (by kernel_rfl) (frZ hs) ?_ ?_
  · exact frY rfl (o_eqP rfl (ev_tmp h5) rfl rfl)
  revert hs hd h1 h2 h4 h5; refine frM4 ?_; intro a hs hd h1 h2 h4 h5 h7
  refine opL 1 6 (v := .bool false) (w' := w1) (by kernel_rfl) (frZ hs) ?_ ?_
  · exact frY rfl (k_assign rfl (ev_tmp h7))
  clear h7; revert hs hd h1 h2 h4 h5; refine frM4 ?_; intro a hs hd h1 h2 h4 h5 h6
  refine wp_cond_false (ev_tmp h6) ?_
  refine wp_seq ?_
  refine wp_region (show wpOps _ _ _ [0, 1] _ _ from ?_)
  refine opL 0 13 (v := .bool false) (w' := w1) (by kernel_rfl) (frZ hs) ?_ ?_
  · exact frY rfl (o_eqP rfl (ev_tmp h5) rfl rfl)
  revert hs hd h1 h2 h4 h5 h6; refine frM5 ?_; intro a hs hd h1 h2 h4 h5 h6 h13
  refine opL 1 12 (v := .bool false) (w' := w1) (by kernel_rfl) (frZ hs) ?_ ?_
  · exact frY rfl (k_assign rfl (ev_tmp h13))
  clear h13; revert hs hd h1 h2 h4 h5 h6; refine frM5 ?_; intro a hs hd h1 h2 h4 h5 h6 h12
  refine wp_cond_false (ev_tmp h12) ?_
  refine wp_seq ?_
  refine wp_region (show wpOps _ _ _ [0, 1] _ _ from ?_)
  refine opL 0 18 (v := .bool false) (w' := w1) (by kernel_rfl) (frZ hs) ?_ ?_
  · exact frY rfl (o_eqP rfl (ev_tmp h5) rfl rfl)
  revert hs hd h1 h2 h4 h5 h6 h12; refine frM6 ?_; intro a hs hd h1 h2 h4 h5 h6 h12 h18
  refine opL 1 17 (v := .bool false) (w' := w1) (by kernel_rfl) (frZ hs) ?_ ?_
  · exact frY rfl (k_assign rfl (ev_tmp h18))
  clear h18; revert hs hd h1 h2 h4 h5 h6 h12; refine frM6 ?_; intro a hs hd h1 h2 h4 h5 h6 h12 h17
  refine wp_cond_false (ev_tmp h17) ?_
  refine wp_seq ?_
  refine wp_region (show wpOps _ _ _ [0, 1] _ _ from ?_)
  refine opL 0 23 (v := .bool false) (w' := w1) (by kernel_rfl) (frZ hs) ?_ ?_
  · exact frY rfl (o_eqP rfl (ev_tmp h5) rfl rfl)
  revert hs hd h1 h2 h4 h5 h6 h12 h17; refine frM7 ?_; intro a hs hd h1 h2 h4 h5 h6 h12 h17 h23
  refine opL 1 22 (v := .bool false) (w' := w1) (by kernel_rfl) (frZ hs) ?_ ?_
  · exact frY rfl (k_assign rfl (ev_tmp h23))
  clear h23; revert hs hd h1 h2 h4 h5 h6 h12 h17; refine frM7 ?_; intro a hs hd h1 h2 h4 h5 h6 h12 h17 h22
  refine wp_cond_false (ev_tmp h22) ?_
  refine wp_seq ?_
  refine wp_region (show wpOps _ _ _ [0, 1] _ _ from ?_)
  refine opL 0 29 (v := .bool true) (w' := w1) (by kernel_rfl) (frZ hs) ?_ ?_
  · exact frY rfl (o_eqP rfl (ev_tmp h5) rfl rfl)
  revert hs hd h1 h2 h4 h5 h6 h12 h17 h22; refine frM8 ?_; intro a hs hd h1 h2 h4 h5 h6 h12 h17 h22 h29
  refine opL 1 28 (v := .bool true) (w' := w1) (by kernel_rfl) (frZ hs) ?_ ?_
  · exact frY rfl (k_assign rfl (ev_tmp h29))
  clear h29; revert hs hd h1 h2 h4 h5 h6 h12 h17 h22; refine frM8 ?_; intro a hs hd h1 h2 h4 h5 h6 h12 h17 h22 h28
  refine wp_cond_true (ev_tmp h28) ?_
  refine wp_seq ?_
  refine wp_region (show wpOps _ _ _ [0, 1, 2, 3] _ _ from ?_)
  refine opL 0 30 (v := .pointer (some ⟨w.heap.size, 4, none⟩)) (w' := w1) (by kernel_rfl) (frZ hs) ?_ ?_
  · exact frY rfl (k_field4 rfl (ev_tmp h2))
  revert hs hd h1 h2 h4 h5 h6 h12 h17 h22 h28; refine frM9 ?_; intro a hs hd h1 h2 h4 h5 h6 h12 h17 h22 h28 h30
  refine opL 1 31 (v := .slice AM M.length cM) (w' := w1) (by kernel_rfl) (frZ hs) ?_ ?_
  · exact frY rfl (k_loadL rfl (ev_tmp h30) (q1.cell 4))
  clear h30; revert hs hd h1 h2 h4 h5 h6 h12 h17 h22 h28; refine frM9 ?_; intro a hs hd h1 h2 h4 h5 h6 h12 h17 h22 h28 h31
  have hc := plI_any AM cM M w1 hT hL.m hok.lm hok.m
  have hx := fun ops Q rest d a i h1 h2 h3 => opL_call (P := Tryz.prog) (ops := ops) (Q := Q) (a := a) (w := w1) (rest := rest) i d h1 h2 h3 hc
  refine hx _ _ _ 32 _ 2 ?z157a ?z157b ?z157 ?z158
  case z157a => kernel_rfl
  case z157b => (rw [hs]; decide)
  case z157 => exact frY rfl (c_ListI rfl rfl rfl (ev_tmp h31))
  case z158 =>
  rintro _ w2 a ⟨rfl, l2⟩ F0
  replace hs := F0.z.trans hs
  replace hd := F0.e.trans hd
  replace h1 := (F0.n 1 (by decide)).trans h1
  replace h2 := (F0.n 2 (by decide)).trans h2
  replace h4 := (F0.n 4 (by decide)).trans h4
  replace h5 := (F0.n 5 (by decide)).trans h5
  replace h6 := (F0.n 6 (by decide)).trans h6
  replace h12 := (F0.n 12 (by decide)).trans h12
  replace h17 := (F0.n 17 (by decide)).trans h17
  replace h22 := (F0.n 22 (by decide)).trans h22
  replace h28 := (F0.n 28 (by decide)).trans h28
  clear h31
  have h32 := F0.s
  clear F0
  clear hx hc
  refine opL 3 4 (v := .string ⟨(Rfc.nums M).toArray⟩) (w' := w2) (by kernel_rfl) (frZ hs) ?_ ?_
  · exact frY rfl (k_assign rfl (ev_tmp h32))
  refine frN8 hs hd h1 h2 h5 h6 h12 h17 h22 h28 ?_; clear hs hd h1 h2 h5 h6 h12 h17 h22 h28 h4 h32; intro a hs hd h1 h2 h5 h6 h12 h17 h22 h28 h4
  refine wp_ret ?_
  exact hfin a _ hd h4 (l1.trans (l2.mono l1.size))

set_option maxRecDepth 100000 in
set_option maxHeartbeats 1000000 in
theorem pv_5 (f iv c u : Int) (t : List UInt8) (AM AD AW AP : Option Addr) (cM cD cW cP : Nat) (M D : List Int) (K : List (Int × Int)) (P : List Int) (w : World) (hT : Tabs w) (hL : ListsIn w AM AD AW AP M D K P) (hok : Okay f iv c u t M D K P) :
    Calls Tryz.prog 28 #[.agg #[.int .i64 f, .int .i64 iv, .int .i64 c, .int .i64 u, .slice AM M.length cM, .slice AD D.length cD, .slice AW K.length cW, .slice AP P.length cP], .int .i64 5] w fun e w' => ∃ v, e = .returned v ∧ v = .string ⟨(Rfc.nums D).toArray⟩ ∧ Below w.heap.size w w' := by
  refine calls_of_wp Tryz.func28 (show Tryz.f28.body = some pvBody from rfl) ?_
  generalize hAA : (Act.mk (#[.agg #[.int .i64 f, .int .i64 iv, .int .i64 c, .int .i64 u, .slice AM M.length cM, .slice AD D.length cD, .slice AW K.length cW, .slice AP P.length cP], .int .i64 5] ++ Array.replicate (Tryz.f28.ntmps - (#[.agg #[.int .i64 f, .int .i64 iv, .int .i64 c, .int .i64 u, .slice AM M.length cM, .slice AD D.length cD, .slice AW K.length cW, .slice AP P.length cP], .int .i64 5] : Array Value).size) undef) []) = a
  have hs : a.tmps.size = 48 := by rw [← hAA]; simp [Tryz.ntmps28]
  have hd : a.defers = [] := by rw [← hAA]
  have h0 : a.tmps.getD 0 undef = .agg #[.int .i64 f, .int .i64 iv, .int .i64 c, .int .i64 u, .slice AM M.length cM, .slice AD D.length cD, .slice AW K.length cW, .slice AP P.length cP] := by rw [← hAA]; simp
  have h1 : a.tmps.getD 1 undef = .int .i64 5 := by rw [← hAA]; simp
  clear hAA
  refine Code.wp_mono NoPanic.imp ?_
  have hQ : Blind (NoPanic (bodyPost Tryz.prog Tryz.f28 fun e w' => ∃ v, e = .returned v ∧ v = .string ⟨(Rfc.nums D).toArray⟩ ∧ Below w.heap.size w w')) := fun _ _ _ _ q => q.elim
  have hfin : ∀ (a' : Act) (w' : World), a'.defers = [] → a'.tmps.getD 4 undef = .string ⟨(Rfc.nums D).toArray⟩ → Below w.heap.size w w' → NoPanic (bodyPost Tryz.prog Tryz.f28 fun e w' => ∃ v, e = .returned v ∧ v = .string ⟨(Rfc.nums D).toArray⟩ ∧ Below w.heap.size w w') .ret a' w' := by
    intro a' w' k1 k2 k3
    exact ⟨k1, _, results_tmp rfl _ _ _, _, rfl, k2, k3⟩
  generalize NoPanic (bodyPost Tryz.prog Tryz.f28 fun e w' => ∃ v, e = .returned v ∧ v = .string ⟨(Rfc.nums D).toArray⟩ ∧ Below w.heap.size w w') = Q at hQ hfin
  unfold pvBody
  conv => arg 2; whnf
  refine wp_seq ?_
  refine wp_region (show wpOps _ _ _ [0, 1] _ _ from ?_)
  refine opL 0 2 (v := .pointer (some ⟨w.heap.size, 0, none⟩)) (w' := (w.alloc (.cells #[.int .i64 f, .int .i64 iv, .int .i64 c, .int .i64 u, .slice AM M.length cM, .slice AD D.length cD, .slice AW K.length cW, .slice AP P.length cP] 36))) (by kernel_rfl) (frZ hs) ?_ ?_
  · exact frY rfl (k_boxR3 rfl (ev_tmp h0))
  refine frN1 hs hd h1 ?_; clear hs hd h1 h0; intro a hs hd h1 h2
  obtain ⟨w1, hw1⟩ : ∃ wn, wn = w.alloc (.cells #[.int .i64 f, .int .i64 iv, .int .i64 c, .int .i64 u, .slice AM M.length cM, .slice AD D.length cD, .slice AW K.length cW, .slice AP P.length cP] 36) := ⟨_, rfl⟩
  rw [← hw1]
  have q1 : Blk w1 w.heap.size 36 #[.int .i64 f, .int .i64 iv, .int .i64 c, .int .i64 u, .slice AM M.length cM, .slice AD D.length cD, .slice AW K.length cW, .slice AP P.length cP] := by rw [hw1]; exact Blk.alloc _ _ _
  have l1 : Below w.heap.size w w1 := by rw [hw1]; exact (Below.refl _ _).alloc (Nat.le_refl _) _
  clear hw1
  replace hT := hT.below l1
  replace hL := hL.below l1
  refine opL 1 4 (v := .string ⟨#[]⟩) (w' := w1) (by kernel_rfl) (frZ hs) ?_ ?_
  · exact frY rfl (k_assign rfl rfl)
  refine frN2 hs hd h1 h2 ?_; clear hs hd h1 h2; intro a hs hd h1 h2 h4
  refine wp_seq ?_
  refine wp_seq ?_
  refine wp_region (show wpOps _ _ _ [0] _ _ from ?_)
  refine opL 0 5 (v := .int .i64 5) (w' := w1) (by kernel_rfl) (frZ hs) ?_ ?_
  · exact frY rfl (k_move rfl (ev_tmp h1))
  revert hs hd h1 h2 h4; refine frM3 ?_; intro a hs hd h1 h2 h4 h5
  refine wp_block ?_
  refine wp_seq ?_
  refine wp_region (show wpOps _ _ _ [0, 1] _ _ from ?_)
  refine opL 0 7 (v := .bool false) (w' := w1) (by kernel_rfl) (frZ hs) ?_ ?_
  · exact frY rfl (o_eqP rfl (ev_tmp h5) rfl rfl)
  revert hs hd h1 h2 h4 h5; refine frM4 ?_; intro a hs hd h1 h2 h4 h5 h7
  refine opL 1 6 (v := .bool false) (w' := w1) (by kernel_rfl) (frZ hs) ?_ ?_
  · exact frY rfl (k_assign rfl (ev_tmp h7))
  clear h7; revert hs hd h1 h2 h4 h5; refine frM4 ?_; intro a hs hd h1 h2 h4 h5 h6
  refine wp_cond_false (ev_tmp h6) ?_
  refine wp_seq ?_
  refine wp_region (show wpOps _ _ _ [0, 1] _ _ from ?_)
  refine opL 0 13 (v := .bool false) (w' := w1) (by kernel_rfl) (frZ hs) ?_ ?_
  · exact frY rfl (o_eqP rfl (ev_tmp h5) rfl rfl)
  revert hs hd h1 h2 h4 h5 h6; refine frM5 ?_; intro a hs hd h1 h2 h4 h5 h6 h13
  refine opL 1 12 (v := .bool false) (w' := w1) (by kernel_rfl) (frZ hs) ?_ ?_
  · exact frY rfl (k_assign rfl (ev_tmp h13))
  clear h13; revert hs hd h1 h2 h4 h5 h6; refine frM5 ?_; intro a hs hd h1 h2 h4 h5 h6 h12
  refine wp_cond_false (ev_tmp h12) ?_
  refine wp_seq ?_
  refine wp_region (show wpOps _ _ _ [0, 1] _ _ from ?_)
  refine opL 0 18 (v := .bool false) (w' := w1) (by kernel_rfl) (frZ hs) ?_ ?_
  · exact frY rfl (o_eqP rfl (ev_tmp h5) rfl rfl)
  revert hs hd h1 h2 h4 h5 h6 h12; refine frM6 ?_; intro a hs hd h1 h2 h4 h5 h6 h12 h18
  refine opL 1 17 (v := .bool false) (w' := w1) (by kernel_rfl) (frZ hs) ?_ ?_
  · exact frY rfl (k_assign rfl (ev_tmp h18))
  clear h18; revert hs hd h1 h2 h4 h5 h6 h12; refine frM6 ?_; intro a hs hd h1 h2 h4 h5 h6 h12 h17
  refine wp_cond_false (ev_tmp h17) ?_
  refine wp_seq ?_
  refine wp_region (show wpOps _ _ _ [0, 1] _ _ from ?_)
  refine opL 0 23 (v := .bool false) (w' := w1) (by kernel_rfl) (frZ hs) ?_ ?_
  · exact frY rfl (o_eqP rfl (ev_tmp h5) rfl rfl)
  revert hs hd h1 h2 h4 h5 h6 h12 h17; refine frM7 ?_; intro a hs hd h1 h2 h4 h5 h6 h12 h17 h23
  refine opL 1 22 (v := .bool false) (w' := w1) (by kernel_rfl) (frZ hs) ?_ ?_
  · exact frY rfl (k_assign rfl (ev_tmp h23))
  clear h23; revert hs hd h1 h2 h4 h5 h6 h12 h17; refine frM7 ?_; intro a hs hd h1 h2 h4 h5 h6 h12 h17 h22
  refine wp_cond_false (ev_tmp h22) ?_
  refine wp_seq ?_
  refine wp_region (show wpOps _ _ _ [0, 1] _ _ from ?_)
  refine opL 0 29 (v := .bool false) (w' := w1) (by kernel_rfl) (frZ hs) ?_ ?_
  · exact frY rfl (o_eqP rfl (ev_tmp h5) rfl rfl)
  revert hs hd h1 h2 h4 h5 h6 h12 h17 h22; refine frM8 ?_; intro a hs hd h1 h2 h4 h5 h6 h12 h17 h22 h29
  refine opL 1 28 (v := .bool false) (w' := w1) (by kernel_rfl) (frZ hs) ?_ ?_
  · exact frY rfl (k_assign rfl (ev_tmp h29))
  clear h29; revert hs hd h1 h2 h4 h5 h6 h12 h17 h22; refine frM8 ?_; intro a hs hd h1 h2 h4 h5 h6 h12 h17 h22 h28
  refine wp_cond_false (ev_tmp h28) ?_
  refine wp_seq ?_
  refine wp_region (show wpOps _ _ _ [0, 1] _ _ from ?_)
  refine opL 0 34 (v := .bool true) (w' := w1) (by kernel_rfl) (frZ hs) ?_ ?_
  · exact frY rfl (o_eqP rfl (ev_tmp h5) rfl rfl)
  revert hs hd h1 h2 h4 h5 h6 h12 h17 h22 h28; refine frM9 ?_; intro a hs hd h1 h2 h4 h5 h6 h12 h17 h22 h28 h34
  refine opL 1 33 (v := .bool true) (w' := w1) (by kernel_rfl) (frZ hs) ?_ ?_
  · exact frY rfl (k_assign rfl (ev_tmp h34))
  clear h34; revert hs hd h1 h2 h4 h5 h6 h12 h17 h22 h28; refine frM9 ?_; intro a hs hd h1 h2 h4 h5 h6 h12 h17 h22 h28 h33
  refine wp_cond_true (ev_tmp h33) ?_
  refine wp_seq ?_
  refine wp_region (show wpOps _ _ _ [0, 1, 2, 3] _ _ from ?_)
  refine opL 0 35 (v := .pointer (some ⟨w.heap.size, 5, none⟩)) (w' := w1) (by kernel_rfl) (frZ hs) ?_ ?_
  · exact frY rfl (k_field5 rfl (ev_tmp h2))
  revert hs hd h1 h2 h4 h5 h6 h12 h17 h22 h28 h33; refine frM10 ?_; intro a hs hd h1 h2 h4 h5 h6 h12 h17 h22 h28 h33 h35
  refine opL 1 36 (v := .slice AD D.length cD) (w' := w1) (by kernel_rfl) (frZ hs) ?_ ?_
  · exact frY rfl (k_loadL rfl (ev_tmp h35) (q1.cell 5))
  clear h35; revert hs hd h1 h2 h4 h5 h6 h12 h17 h22 h28 h33; refine frM10 ?_; intro a hs hd h1 h2 h4 h5 h6 h12 h17 h22 h28 h33 h36
  have hc := plI_any AD cD D w1 hT hL.d hok.ld hok.d
  have hx := fun ops Q rest d a i h1 h2 h3 => opL_call (P := Tryz.prog) (ops := ops) (Q := Q) (a := a) (w := w1) (rest := rest) i d h1 h2 h3 hc
  refine hx _ _ _ 37 _ 2 ?z195a ?z195b ?z195 ?z196
  case z195a => kernel_rfl
  case z195b => (rw [hs]; decide)
  case z195 => exact frY rfl (c_ListI rfl rfl rfl (ev_tmp h36))
  case z196 =>
  rintro _ w2 a ⟨rfl, l2⟩ F0
  replace hs := F0.z.trans hs
  replace hd := F0.e.trans hd
  replace h1 := (F0.n 1 (by decide)).trans h1
  replace h2 := (F0.n 2 (by decide)).trans h2
  replace h4 := (F0.n 4 (by decide)).trans h4
  replace h5 := (F0.n 5 (by decide)).trans h5
  replace h6 := (F0.n 6 (by decide)).trans h6
  replace h12 := (F0.n 12 (by decide)).trans h12
  replace h17 := (F0.n 17 (by decide)).trans h17
  replace h22 := (F0.n 22 (by decide)).trans h22
  replace h28 := (F0.n 28 (by decide)).trans h28
  replace h33 := (F0.n 33 (by decide)).trans h33
  clear h36
  have h37 := F0.s
  clear F0
  clear hx hc
  refine opL 3 4 (v := .string ⟨(Rfc.nums D).toArray⟩) (w' := w2) (by kernel_rfl) (frZ hs) ?_ ?_
  · exact frY rfl (k_assign rfl (ev_tmp h37))
  refine frN9 hs hd h1 h2 h5 h6 h12 h17 h22 h28 h33 ?_; clear hs hd h1 h2 h5 h6 h12 h17 h22 h28 h33 h4 h37; intro a hs hd h1 h2 h5 h6 h12 h17 h22 h28 h33 h4
  refine wp_ret ?_
  exact hfin a _ hd h4 (l1.trans (l2.mono l1.size))

set_option maxRecDepth 100000 in
set_option maxHeartbeats 1000000 in
theorem pv_6 (f iv c u : Int) (t : List UInt8) (AM AD AW AP : Option Addr) (cM cD cW cP : Nat) (M D : List Int) (K : List (Int × Int)) (P : List Int) (w : World) (hT : Tabs w) (hL : ListsIn w AM AD AW AP M D K P) (hok : Okay f iv c u t M D K P) :
    Calls Tryz.prog 28 #[.agg #[.int .i64 f, .int .i64 iv, .int .i64 c, .int .i64 u, .slice AM M.length cM, .slice AD D.length cD, .slice AW K.length cW, .slice AP P.length cP], .int .i64 6] w fun e w' => ∃ v, e = .returned v ∧ v = .string ⟨(Rfc.days K).toArray⟩ ∧ Below w.heap.size w w' := by
  refine calls_of_wp Tryz.func28 (show Tryz.f28.body = some pvBody from rfl) ?_
  generalize hAA : (Act.mk (#[.agg #[.int .i64 f, .int .i64 iv, .int .i64 c, .int .i64 u, .slice AM M.length cM, .slice AD D.length cD, .slice AW K.length cW, .slice AP P.length cP], .int .i64 6] ++ Array.replicate (Tryz.f28.ntmps - (#[.agg #[.int .i64 f, .int .i64 iv, .int .i64 c, .int .i64 u, .slice AM M.length cM, .slice AD D.length cD, .slice AW K.length cW, .slice AP P.length cP], .int .i64 6] : Array Value).size) undef) []) = a
  have hs : a.tmps.size = 48 := by rw [← hAA]; simp [Tryz.ntmps28]
  have hd : a.defers = [] := by rw [← hAA]
  have h0 : a.tmps.getD 0 undef = .agg #[.int .i64 f, .int .i64 iv, .int .i64 c, .int .i64 u, .slice AM M.length cM, .slice AD D.length cD, .slice AW K.length cW, .slice AP P.length cP] := by rw [← hAA]; simp
  have h1 : a.tmps.getD 1 undef = .int .i64 6 := by rw [← hAA]; simp
  clear hAA
  refine Code.wp_mono NoPanic.imp ?_
  have hQ : Blind (NoPanic (bodyPost Tryz.prog Tryz.f28 fun e w' => ∃ v, e = .returned v ∧ v = .string ⟨(Rfc.days K).toArray⟩ ∧ Below w.heap.size w w')) := fun _ _ _ _ q => q.elim
  have hfin : ∀ (a' : Act) (w' : World), a'.defers = [] → a'.tmps.getD 4 undef = .string ⟨(Rfc.days K).toArray⟩ → Below w.heap.size w w' → NoPanic (bodyPost Tryz.prog Tryz.f28 fun e w' => ∃ v, e = .returned v ∧ v = .string ⟨(Rfc.days K).toArray⟩ ∧ Below w.heap.size w w') .ret a' w' := by
    intro a' w' k1 k2 k3
    exact ⟨k1, _, results_tmp rfl _ _ _, _, rfl, k2, k3⟩
  generalize NoPanic (bodyPost Tryz.prog Tryz.f28 fun e w' => ∃ v, e = .returned v ∧ v = .string ⟨(Rfc.days K).toArray⟩ ∧ Below w.heap.size w w') = Q at hQ hfin
  unfold pvBody
  conv => arg 2; whnf
  refine wp_seq ?_
  refine wp_region (show wpOps _ _ _ [0, 1] _ _ from ?_)
  refine opL 0 2 (v := .pointer (some ⟨w.heap.size, 0, none⟩)) (w' := (w.alloc (.cells #[.int .i64 f, .int .i64 iv, .int .i64 c, .int .i64 u, .slice AM M.length cM, .slice AD D.length cD, .slice AW K.length cW, .slice AP P.length cP] 36))) (by kernel_rfl) (frZ hs) ?_ ?_
  · exact frY rfl (k_boxR3 rfl (ev_tmp h0))
  refine frN1 hs hd h1 ?_; clear hs hd h1 h0; intro a hs hd h1 h2
  obtain ⟨w1, hw1⟩ : ∃ wn, wn = w.alloc (.cells #[.int .i64 f, .int .i64 iv, .int .i64 c, .int .i64 u, .slice AM M.length cM, .slice AD D.length cD, .slice AW K.length cW, .slice AP P.length cP] 36) := ⟨_, rfl⟩
  rw [← hw1]
  have q1 : Blk w1 w.heap.size 36 #[.int .i64 f, .int .i64 iv, .int .i64 c, .int .i64 u, .slice AM M.length cM, .slice AD D.length cD, .slice AW K.length cW, .slice AP P.length cP] := by rw [hw1]; exact Blk.alloc _ _ _
  have l1 : Below w.heap.size w w1 := by rw [hw1]; exact (Below.refl _ _).alloc (Nat.le_refl _) _
  clear hw1
  replace hT := hT.below l1
  replace hL := hL.below l1
  refine opL 1 4 (v := .string ⟨#[]⟩) (w' := w1) (by kernel_rfl) (frZ hs) ?_ ?_
  · exact frY rfl (k_assign rfl rfl)
  refine frN2 hs hd h1 h2 ?_; clear hs hd h1 h2; intro a hs hd h1 h2 h4
  refine wp_seq ?_
  refine wp_seq ?_
  refine wp_region (show wpOps _ _ _ [0] _ _ from ?_)
  refine opL 0 5 (v := .int .i64 6) (w' := w1) (by kernel_rfl) (frZ hs) ?_ ?_
  · exact frY rfl (k_move rfl (ev_tmp h1))
  revert hs hd h1 h2 h4; refine frM3 ?_; intro a hs hd h1 h2 h4 h5
  refine wp_block ?_
  refine wp_seq ?_
  refine wp_region (show wpOps _ _ _ [0, 1] _ _ from ?_)
  refine opL 0 7 (v := .bool false) (w' := w1) (by kernel_rfl) (frZ hs) ?_ ?_
  · exact frY rfl (o_eqP rfl (ev_tmp h5) rfl rfl)
  revert hs hd h1 h2 h4 h5; refine frM4 ?_; intro a hs hd h1 h2 h4 h5 h7
  refine opL 1 6 (v := .bool false) (w' := w1) (by kernel_rfl) (frZ hs) ?_ ?_
  · exact frY rfl (k_assign rfl (ev_tmp h7))
  clear h7; revert hs hd h1 h2 h4 h5; refine frM4 ?_; intro a hs hd h1 h2 h4 h5 h6
  refine wp_cond_false (ev_tmp h6) ?_
  refine wp_seq ?_
  refine wp_region (show wpOps _ _ _ [0, 1] _ _ from ?_)
  refine opL 0 13 (v := .bool false) (w' := w1) (by kernel_rfl) (frZ hs) ?_ ?_
  · exact frY rfl (o_eqP rfl (ev_tmp h5) rfl rfl)
  revert hs hd h1 h2 h4 h5 h6; refine frM5 ?_; intro a hs hd h1 h2 h4 h5 h6 h13
  refine opL 1 12 (v := .bool false) (w' := w1) (by kernel_rfl) (frZ hs) ?_ ?_
  · exact frY rfl (k_assign rfl (ev_tmp h13))
  clear h13; revert hs hd h1 h2 h4 h5 h6; refine frM5 ?_; intro a hs hd h1 h2 h4 h5 h6 h12
  refine wp_cond_false (ev_tmp h12) ?_
  refine wp_seq ?_
  refine wp_region (show wpOps _ _ _ [0, 1] _ _ from ?_)
  refine opL 0 18 (v := .bool false) (w' := w1) (by kernel_rfl) (frZ hs) ?_ ?_
  · exact frY rfl (o_eqP rfl (ev_tmp h5) rfl rfl)
  revert hs hd h1 h2 h4 h5 h6 h12; refine frM6 ?_; intro a hs hd h1 h2 h4 h5 h6 h12 h18
  refine opL 1 17 (v := .bool false) (w' := w1) (by kernel_rfl) (frZ hs) ?_ ?_
  · exact frY rfl (k_assign rfl (ev_tmp h18))
  clear h18; revert hs hd h1 h2 h4 h5 h6 h12; refine frM6 ?_; intro a hs hd h1 h2 h4 h5 h6 h12 h17
  refine wp_cond_false (ev_tmp h17) ?_
  refine wp_seq ?_
  refine wp_region (show wpOps _ _ _ [0, 1] _ _ from ?_)
  refine opL 0 23 (v := .bool false) (w' := w1) (by kernel_rfl) (frZ hs) ?_ ?_
  · exact frY rfl (o_eqP rfl (ev_tmp h5) rfl rfl)
  revert hs hd h1 h2 h4 h5 h6 h12 h17; refine frM7 ?_; intro a hs hd h1 h2 h4 h5 h6 h12 h17 h23
  refine opL 1 22 (v := .bool false) (w' := w1) (by kernel_rfl) (frZ hs) ?_ ?_
  · exact frY rfl (k_assign rfl (ev_tmp h23))
  clear h23; revert hs hd h1 h2 h4 h5 h6 h12 h17; refine frM7 ?_; intro a hs hd h1 h2 h4 h5 h6 h12 h17 h22
  refine wp_cond_false (ev_tmp h22) ?_
  refine wp_seq ?_
  refine wp_region (show wpOps _ _ _ [0, 1] _ _ from ?_)
  refine opL 0 29 (v := .bool false) (w' := w1) (by kernel_rfl) (frZ hs) ?_ ?_
  · exact frY rfl (o_eqP rfl (ev_tmp h5) rfl rfl)
  revert hs hd h1 h2 h4 h5 h6 h12 h17 h22; refine frM8 ?_; intro a hs hd h1 h2 h4 h5 h6 h12 h17 h22 h29
  refine opL 1 28 (v := .bool false) (w' := w1) (by kernel_rfl) (frZ hs) ?_ ?_
  · exact frY rfl (k_assign rfl (ev_tmp h29))
  clear h29; revert hs hd h1 h2 h4 h5 h6 h12 h17 h22; refine frM8 ?_; intro a hs hd h1 h2 h4 h5 h6 h12 h17 h22 h28
  refine wp_cond_false (ev_tmp h28) ?_
  refine wp_seq ?_
  refine wp_region (show wpOps _ _ _ [0, 1] _ _ from ?_)
  refine opL 0 34 (v := .bool false) (w' := w1) (by kernel_rfl) (frZ hs) ?_ ?_
  · exact frY rfl (o_eqP rfl (ev_tmp h5) rfl rfl)
  revert hs hd h1 h2 h4 h5 h6 h12 h17 h22 h28; refine frM9 ?_; intro a hs hd h1 h2 h4 h5 h6 h12 h17 h22 h28 h34
  refine opL 1 33 (v := .bool false) (w' := w1) (by kernel_rfl) (frZ hs) ?_ ?_
  · exact frY rfl (k_assign rfl (ev_tmp h34))
  clear h34; revert hs hd h1 h2 h4 h5 h6 h12 h17 h22 h28; refine frM9 ?_; intro a hs hd h1 h2 h4 h5 h6 h12 h17 h22 h28 h33
  refine wp_cond_false (ev_tmp h33) ?_
  refine wp_seq ?_
  refine wp_region (show wpOps _ _ _ [0, 1] _ _ from ?_)
  refine opL 0 39 (v := .bool true) (w' := w1) (by kernel_rfl) (frZ hs) ?_ ?_
  · exact frY rfl (o_eqP rfl (ev_tmp h5) rfl rfl)
  revert hs hd h1 h2 h4 h5 h6 h12 h17 h22 h28 h33; refine frM10 ?_; intro a hs hd h1 h2 h4 h5 h6 h12 h17 h22 h28 h33 h39
  refine opL 1 38 (v := .bool true) (w' := w1) (by kernel_rfl) (frZ hs) ?_ ?_
  · exact frY rfl (k_assign rfl (ev_tmp h39))
  clear h39; revert hs hd h1 h2 h4 h5 h6 h12 h17 h22 h28 h33; refine frM10 ?_; intro a hs hd h1 h2 h4 h5 h6 h12 h17 h22 h28 h33 h38
  refine wp_cond_true (ev_tmp h38) ?_
  refine wp_seq ?_
  refine wp_region (show wpOps _ _ _ [0, 1, 2, 3] _ _ from ?_)
  refine opL 0 40 (v := .pointer (some ⟨w.heap.size, 6, none⟩)) (w' := w1) (by kernel_rfl) (frZ hs) ?_ ?_
  · exact frY rfl (k_field6 rfl (ev_tmp h2))
  revert hs hd h1 h2 h4 h5 h6 h12 h17 h22 h28 h33 h38; refine frM11 ?_; intro a hs hd h1 h2 h4 h5 h6 h12 h17 h22 h28 h33 h38 h40
  refine opL 1 41 (v := .slice AW K.length cW) (w' := w1) (by kernel_rfl) (frZ hs) ?_ ?_
  · exact frY rfl (k_loadW rfl (ev_tmp h40) (q1.cell 6))
  clear h40; revert hs hd h1 h2 h4 h5 h6 h12 h17 h22 h28 h33 h38; refine frM11 ?_; intro a hs hd h1 h2 h4 h5 h6 h12 h17 h22 h28 h33 h38 h41
  have hc := plN_any AW cW K w1 hT hL.k hok.lk hok.k
  have hx := fun ops Q rest d a i h1 h2 h3 => opL_call (P := Tryz.prog) (ops := ops) (Q := Q) (a := a) (w := w1) (rest := rest) i d h1 h2 h3 hc
  refine hx _ _ _ 42 _ 2 ?z237a ?z237b ?z237 ?z238
  case z237a => kernel_rfl
  case z237b => (rw [hs]; decide)
  case z237 => exact frY rfl (c_ListN rfl rfl rfl (ev_tmp h41))
  case z238 =>
  rintro _ w2 a ⟨rfl, l2⟩ F0
  replace hs := F0.z.trans hs
  replace hd := F0.e.trans hd
  replace h1 := (F0.n 1 (by decide)).trans h1
  replace h2 := (F0.n 2 (by decide)).trans h2
  replace h4 := (F0.n 4 (by decide)).trans h4
  replace h5 := (F0.n 5 (by decide)).trans h5
  replace h6 := (F0.n 6 (by decide)).trans h6
  replace h12 := (F0.n 12 (by decide)).trans h12
  replace h17 := (F0.n 17 (by decide)).trans h17
  replace h22 := (F0.n 22 (by decide)).trans h22
  replace h28 := (F0.n 28 (by decide)).trans h28
  replace h33 := (F0.n 33 (by decide)).trans h33
  replace h38 := (F0.n 38 (by decide)).trans h38
  clear h41
  have h42 := F0.s
  clear F0
  clear hx hc
  refine opL 3 4 (v := .string ⟨(Rfc.days K).toArray⟩) (w' := w2) (by kernel_rfl) (frZ hs) ?_ ?_
  · exact frY rfl (k_assign rfl (ev_tmp h42))
  refine frN10 hs hd h1 h2 h5 h6 h12 h17 h22 h28 h33 h38 ?_; clear hs hd h1 h2 h5 h6 h12 h17 h22 h28 h33 h38 h4 h42; intro a hs hd h1 h2 h5 h6 h12 h17 h22 h28 h33 h38 h4
  refine wp_ret ?_
  exact hfin a _ hd h4 (l1.trans (l2.mono l1.size))

set_option maxRecDepth 100000 in
set_option maxHeartbeats 1000000 in
theorem pv_7 (f iv c u : Int) (t : List UInt8) (AM AD AW AP : Option Addr) (cM cD cW cP : Nat) (M D : List Int) (K : List (Int × Int)) (P : List Int) (w : World) (hT : Tabs w) (hL : ListsIn w AM AD AW AP M D K P) (hok : Okay f iv c u t M D K P) :
    Calls Tryz.prog 28 #[.agg #[.int .i64 f, .int .i64 iv, .int .i64 c, .int .i64 u, .slice AM M.length cM, .slice AD D.length cD, .slice AW K.length cW, .slice AP P.length cP], .int .i64 7] w fun e w' => ∃ v, e = .returned v ∧ v = .string ⟨(Rfc.nums P).toArray⟩ ∧ Below w.heap.size w w' := by
  refine calls_of_wp Tryz.func28 (show Tryz.f28.body = some pvBody from rfl) ?_
  generalize hAA : (Act.mk (#[.agg #[.int .i64 f, .int .i64 iv, .int .i64 c, .int .i64 u, .slice AM M.length cM, .slice AD D.length cD, .slice AW K.length cW, .slice AP P.length cP], .int .i64 7] ++ Array.replicate (Tryz.f28.ntmps - (#[.agg #[.int .i64 f, .int .i64 iv, .int .i64 c, .int .i64 u, .slice AM M.length cM, .slice AD D.length cD, .slice AW K.length cW, .slice AP P.length cP], .int .i64 7] : Array Value).size) undef) []) = a
  have hs : a.tmps.size = 48 := by rw [← hAA]; simp [Tryz.ntmps28]
  have hd : a.defers = [] := by rw [← hAA]
  have h0 : a.tmps.getD 0 undef = .agg #[.int .i64 f, .int .i64 iv, .int .i64 c, .int .i64 u, .slice AM M.length cM, .slice AD D.length cD, .slice AW K.length cW, .slice AP P.length cP] := by rw [← hAA]; simp
  have h1 : a.tmps.getD 1 undef = .int .i64 7 := by rw [← hAA]; simp
  clear hAA
  refine Code.wp_mono NoPanic.imp ?_
  have hQ : Blind (NoPanic (bodyPost Tryz.prog Tryz.f28 fun e w' => ∃ v, e = .returned v ∧ v = .string ⟨(Rfc.nums P).toArray⟩ ∧ Below w.heap.size w w')) := fun _ _ _ _ q => q.elim
  have hfin : ∀ (a' : Act) (w' : World), a'.defers = [] → a'.tmps.getD 4 undef = .string ⟨(Rfc.nums P).toArray⟩ → Below w.heap.size w w' → NoPanic (bodyPost Tryz.prog Tryz.f28 fun e w' => ∃ v, e = .returned v ∧ v = .string ⟨(Rfc.nums P).toArray⟩ ∧ Below w.heap.size w w') .ret a' w' := by
    intro a' w' k1 k2 k3
    exact ⟨k1, _, results_tmp rfl _ _ _, _, rfl, k2, k3⟩
  generalize NoPanic (bodyPost Tryz.prog Tryz.f28 fun e w' => ∃ v, e = .returned v ∧ v = .string ⟨(Rfc.nums P).toArray⟩ ∧ Below w.heap.size w w') = Q at hQ hfin
  unfold pvBody
  conv => arg 2; whnf
  refine wp_seq ?_
  refine wp_region (show wpOps _ _ _ [0, 1] _ _ from ?_)
  refine opL 0 2 (v := .pointer (some ⟨w.heap.size, 0, none⟩)) (w' := (w.alloc (.cells #[.int .i64 f, .int .i64 iv, .int .i64 c, .int .i64 u, .slice AM M.length cM, .slice AD D.length cD, .slice AW K.length cW, .slice AP P.length cP] 36))) (by kernel_rfl) (frZ hs) ?_ ?_
  · exact frY rfl (k_boxR3 rfl (ev_tmp h0))
  refine frN1 hs hd h1 ?_; clear hs hd h1 h0; intro a hs hd h1 h2
  obtain ⟨w1, hw1⟩ : ∃ wn, wn = w.alloc (.cells #[.int .i64 f, .int .i64 iv, .int .i64 c, .int .i64 u, .slice AM M.length cM, .slice AD D.length cD, .slice AW K.length cW, .slice AP P.length cP] 36) := ⟨_, rfl⟩
  rw [← hw1]
  have q1 : Blk w1 w.heap.size 36 #[.int .i64 f, .int .i64 iv, .int .i64 c, .int .i64 u, .slice AM M.length cM, .slice AD D.length cD, .slice AW K.length cW, .slice AP P.length cP] := by rw [hw1]; exact Blk.alloc _ _ _
  have l1 : Below w.heap.size w w1 := by rw [hw1]; exact (Below.refl _ _).alloc (Nat.le_refl _) _
  clear hw1
  replace hT := hT.below l1
  replace hL := hL.below l1
  refine opL 1 4 (v := .string ⟨#[]⟩) (w' := w1) (by kernel_rfl) (frZ hs) ?_ ?_
  · exact frY rfl (k_assign rfl rfl)
  refine frN2 hs hd h1 h2 ?_; clear hs hd h1 h2; intro a hs hd h1 h2 h4
  refine wp_seq ?_
  refine wp_seq ?_
  refine wp_region (show wpOps _ _ _ [0] _ _ from ?_)
  refine opL 0 5 (v := .int .i64 7) (w' := w1) (by kernel_rfl) (frZ hs) ?_ ?_
  · exact frY rfl (k_move rfl (ev_tmp h1))
  revert hs hd h1 h2 h4; refine frM3 ?_; intro a hs hd h1 h2 h4 h5
  refine wp_block ?_
  refine wp_seq ?_
  refine wp_region (show wpOps _ _ _ [0, 1] _ _ from ?_)
  refine opL 0 7 (v := .bool false) (w' := w1) (by kernel_rfl) (frZ hs) ?_ ?_
  · exact frY rfl (o_eqP rfl (ev_tmp h5) rfl rfl)
  revert hs hd h1 h2 h4 h5; refine frM4 ?_; intro a hs hd h1 h2 h4 h5 h7
  refine opL 1 6 (v := .bool false) (w' := w1) (by kernel_rfl) (frZ hs) ?_ ?_
  · exact frY rfl (k_assign rfl (ev_tmp h7))
  clear h7; revert hs hd h1 h2 h4 h5; refine frM4 ?_; intro a hs hd h1 h2 h4 h5 h6
  refine wp_cond_false (ev_tmp h6) ?_
  refine wp_seq ?_
  refine wp_region (show wpOps _ _ _ [0, 1] _ _ from ?_)
  refine opL 0 13 (v := .bool false) (w' := w1) (by kernel_rfl) (frZ hs) ?_ ?_
  · exact frY rfl (o_eqP rfl (ev_tmp h5) rfl rfl)
  revert hs hd h1 h2 h4 h5 h6; refine frM5 ?_; intro a hs hd h1 h2 h4 h5 h6 h13
  refine opL 1 12 (v := .bool false) (w' := w1) (by kernel_rfl) (frZ hs) ?_ ?_
  · exact frY rfl (k_assign rfl (ev_tmp h13))
  clear h13; revert hs hd h1 h2 h4 h5 h6; refine frM5 ?_; intro a hs hd h1 h2 h4 h5 h6 h12
  refine wp_cond_false (ev_tmp h12) ?_
  refine wp_seq ?_
  refine wp_region (show wpOps _ _ _ [0, 1] _ _ from ?_)
  refine opL 0 18 (v := .bool false) (w' := w1) (by kernel_rfl) (frZ hs) ?_ ?_
  · exact frY rfl (o_eqP rfl (ev_tmp h5) rfl rfl)
  revert hs hd h1 h2 h4 h5 h6 h12; refine frM6 ?_; intro a hs hd h1 h2 h4 h5 h6 h12 h18
  refine opL 1 17 (v := .bool false) (w' := w1) (by kernel_rfl) (frZ hs) ?_ ?_
  · exact frY rfl (k_assign rfl (ev_tmp h18))
  clear h18; revert hs hd h1 h2 h4 h5 h6 h12; refine frM6 ?_; intro a hs hd h1 h2 h4 h5 h6 h12 h17
  refine wp_cond_false (ev_tmp h17) ?_
  refine wp_seq ?_
  refine wp_region (show wpOps _ _ _ [0, 1] _ _ from ?_)
  refine opL 0 23 (v := .bool false) (w' := w1) (by kernel_rfl) (frZ hs) ?_ ?_
  · exact frY rfl (o_eqP rfl (ev_tmp h5) rfl rfl)
  revert hs hd h1 h2 h4 h5 h6 h12 h17; refine frM7 ?_; intro a hs hd h1 h2 h4 h5 h6 h12 h17 h23
  refine opL 1 22 (v := .bool false) (w' := w1) (by kernel_rfl) (frZ hs) ?_ ?_
  · exact frY rfl (k_assign rfl (ev_tmp h23))
  clear h23; revert hs hd h1 h2 h4 h5 h6 h12 h17; refine frM7 ?_; intro a hs hd h1 h2 h4 h5 h6 h12 h17 h22
  refine wp_cond_false (ev_tmp h22) ?_
  refine wp_seq ?_
  refine wp_region (show wpOps _ _ _ [0, 1] _ _ from ?_)
  refine opL 0 29 (v := .bool false) (w' := w1) (by kernel_rfl) (frZ hs) ?_ ?_
  · exact frY rfl (o_eqP rfl (ev_tmp h5) rfl rfl)
  revert hs hd h1 h2 h4 h5 h6 h12 h17 h22; refine frM8 ?_; intro a hs hd h1 h2 h4 h5 h6 h12 h17 h22 h29
  refine opL 1 28 (v := .bool false) (w' := w1) (by kernel_rfl) (frZ hs) ?_ ?_
  · exact frY rfl (k_assign rfl (ev_tmp h29))
  clear h29; revert hs hd h1 h2 h4 h5 h6 h12 h17 h22; refine frM8 ?_; intro a hs hd h1 h2 h4 h5 h6 h12 h17 h22 h28
  refine wp_cond_false (ev_tmp h28) ?_
  refine wp_seq ?_
  refine wp_region (show wpOps _ _ _ [0, 1] _ _ from ?_)
  refine opL 0 34 (v := .bool false) (w' := w1) (by kernel_rfl) (frZ hs) ?_ ?_
  · exact frY rfl (o_eqP rfl (ev_tmp h5) rfl rfl)
  revert hs hd h1 h2 h4 h5 h6 h12 h17 h22 h28; refine frM9 ?_; intro a hs hd h1 h2 h4 h5 h6 h12 h17 h22 h28 h34
  refine opL 1 33 (v := .bool false) (w' := w1) (by kernel_rfl) (frZ hs) ?_ ?_
  · exact frY rfl (k_assign rfl (ev_tmp h34))
  clear h34; revert hs hd h1 h2 h4 h5 h6 h12 h17 h22 h28; refine frM9 ?_; intro a hs hd h1 h2 h4 h5 h6 h12 h17 h22 h28 h33
  refine wp_cond_false (ev_tmp h33) ?_
  refine wp_seq ?_
  refine wp_region (show wpOps _ _ _ [0, 1] _ _ from ?_)
  refine opL 0 39 (v := .bool false) (w' := w1) (by kernel_rfl) (frZ hs) ?_ ?_
  · exact frY rfl (o_eqP rfl (ev_tmp h5) rfl rfl)
  revert hs hd h1 h2 h4 h5 h6 h12 h17 h22 h28 h33; refine frM10 ?_; intro a hs hd h1 h2 h4 h5 h6 h12 h17 h22 h28 h33 h39
  refine opL 1 38 (v := .bool false) (w' := w1) (by kernel_rfl) (frZ hs) ?_ ?_
  · exact frY rfl (k_assign rfl (ev_tmp h39))
  clear h39; revert hs hd h1 h2 h4 h5 h6 h12 h17 h22 h28 h33; refine frM10 ?_; intro a hs hd h1 h2 h4 h5 h6 h12 h17 h22 h28 h33 h38
  refine wp_cond_false (ev_tmp h38) ?_
  refine wp_seq ?_
  refine wp_region (show wpOps _ _ _ [0, 1] _ _ from ?_)
  refine opL 0 44 (v := .bool true) (w' := w1) (by kernel_rfl) (frZ hs) ?_ ?_
  · exact frY rfl (o_eqP rfl (ev_tmp h5) rfl rfl)
  revert hs hd h1 h2 h4 h5 h6 h12 h17 h22 h28 h33 h38; refine frM11 ?_; intro a hs hd h1 h2 h4 h5 h6 h12 h17 h22 h28 h33 h38 h44
  refine opL 1 43 (v := .bool true) (w' := w1) (by kernel_rfl) (frZ hs) ?_ ?_
  · exact frY rfl (k_assign rfl (ev_tmp h44))
  clear h44; revert hs hd h1 h2 h4 h5 h6 h12 h17 h22 h28 h33 h38; refine frM11 ?_; intro a hs hd h1 h2 h4 h5 h6 h12 h17 h22 h28 h33 h38 h43
  refine wp_cond_true (ev_tmp h43) ?_
  refine wp_seq ?_
  refine wp_region (show wpOps _ _ _ [0, 1, 2, 3] _ _ from ?_)
  refine opL 0 45 (v := .pointer (some ⟨w.heap.size, 7, none⟩)) (w' := w1) (by kernel_rfl) (frZ hs) ?_ ?_
  · exact frY rfl (k_field7 rfl (ev_tmp h2))
  revert hs hd h1 h2 h4 h5 h6 h12 h17 h22 h28 h33 h38 h43; refine frM12 ?_; intro a hs hd h1 h2 h4 h5 h6 h12 h17 h22 h28 h33 h38 h43 h45
  refine opL 1 46 (v := .slice AP P.length cP) (w' := w1) (by kernel_rfl) (frZ hs) ?_ ?_
  · exact frY rfl (k_loadL rfl (ev_tmp h45) (q1.cell 7))
  clear h45; revert hs hd h1 h2 h4 h5 h6 h12 h17 h22 h28 h33 h38 h43; refine frM12 ?_; intro a hs hd h1 h2 h4 h5 h6 h12 h17 h22 h28 h33 h38 h43 h46
  have hc := plI_any AP cP P w1 hT hL.p hok.lp hok.p
  have hx := fun ops Q rest d a i h1 h2 h3 => opL_call (P := Tryz.prog) (ops := ops) (Q := Q) (a := a) (w := w1) (rest := rest) i d h1 h2 h3 hc
  refine hx _ _ _ 47 _ 2 ?z283a ?z283b ?z283 ?z284
  case z283a => kernel_rfl
  case z283b => (rw [hs]; decide)
  case z283 => exact frY rfl (c_ListI rfl rfl rfl (ev_tmp h46))
  case z284 =>
  rintro _ w2 a ⟨rfl, l2⟩ F0
  replace hs := F0.z.trans hs
  replace hd := F0.e.trans hd
  replace h1 := (F0.n 1 (by decide)).trans h1
  replace h2 := (F0.n 2 (by decide)).trans h2
  replace h4 := (F0.n 4 (by decide)).trans h4
  replace h5 := (F0.n 5 (by decide)).trans h5
  replace h6 := (F0.n 6 (by decide)).trans h6
  replace h12 := (F0.n 12 (by decide)).trans h12
  replace h17 := (F0.n 17 (by decide)).trans h17
  replace h22 := (F0.n 22 (by decide)).trans h22
  replace h28 := (F0.n 28 (by decide)).trans h28
  replace h33 := (F0.n 33 (by decide)).trans h33
  replace h38 := (F0.n 38 (by decide)).trans h38
  replace h43 := (F0.n 43 (by decide)).trans h43
  clear h46
  have h47 := F0.s
  clear F0
  clear hx hc
  refine opL 3 4 (v := .string ⟨(Rfc.nums P).toArray⟩) (w' := w2) (by kernel_rfl) (frZ hs) ?_ ?_
  · exact frY rfl (k_assign rfl (ev_tmp h47))
  refine frN11 hs hd h1 h2 h5 h6 h12 h17 h22 h28 h33 h38 h43 ?_; clear hs hd h1 h2 h5 h6 h12 h17 h22 h28 h33 h38 h43 h4 h47; intro a hs hd h1 h2 h5 h6 h12 h17 h22 h28 h33 h38 h43 h4
  refine wp_ret ?_
  exact hfin a _ hd h4 (l1.trans (l2.mono l1.size))

theorem pv_any (f iv c u : Int) (t : List UInt8) (AM AD AW AP : Option Addr) (cM cD cW cP : Nat) (M D : List Int) (K : List (Int × Int)) (P : List Int) (p : Nat) (hp : p < 8) (w : World) (hT : Tabs w) (hL : ListsIn w AM AD AW AP M D K P) (hok : Okay f iv c u t M D K P) :
    Calls Tryz.prog 28 #[.agg #[.int .i64 f, .int .i64 iv, .int .i64 c, .int .i64 u, .slice AM M.length cM, .slice AD D.length cD, .slice AW K.length cW, .slice AP P.length cP], .int .i64 p] w fun e w' => ∃ v, e = .returned v ∧ v = .string ⟨((Rfc.vals f iv c t M D K P).getD p []).toArray⟩ ∧ Below w.heap.size w w' := by
  match p, hp with
  | 0, _ => exact pv_0 f iv c u t AM AD AW AP cM cD cW cP M D K P w hT hL hok
  | 1, _ => exact pv_1 f iv c u t AM AD AW AP cM cD cW cP M D K P w hT hL hok
  | 2, _ => exact pv_2 f iv c u t AM AD AW AP cM cD cW cP M D K P w hT hL hok
  | 3, _ => exact pv_3 f iv c u t AM AD AW AP cM cD cW cP M D K P w hT hL hok
  | 4, _ => exact pv_4 f iv c u t AM AD AW AP cM cD cW cP M D K P w hT hL hok
  | 5, _ => exact pv_5 f iv c u t AM AD AW AP cM cD cW cP M D K P w hT hL hok
  | 6, _ => exact pv_6 f iv c u t AM AD AW AP cM cD cW cP M D K P w hT hL hok
  | 7, _ => exact pv_7 f iv c u t AM AD AW AP cM cD cW cP M D K P w hT hL hok
end Go.Proofs.YtocpmljkmdpfkaaGreatDoor
