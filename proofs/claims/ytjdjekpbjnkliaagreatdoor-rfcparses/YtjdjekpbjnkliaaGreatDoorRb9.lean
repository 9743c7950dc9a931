/-
  The law's own value: a part's value into a rule; its plain parts.
-/
import Derived.Test.YtjdjekpbjnkliaaGreatDoorRf2
import Derived.Test.YtjdjekpbjnkliaaGreatDoorRb8
namespace Go.Proofs.YtjdjekpbjnkliaaGreatDoor
open Go.RowKit
noncomputable def lvBody : Code := Tryz.f23.body.getD .skip
theorem k_max {w : World} {ρ : Operand → Value} {o : Oper} {x y : Operand} {n m r : Int} (ho : o.op = .call ⟨.builtin .max, #[x, y], #[3, 3]⟩) (ht : o.type = 3) (hx : ρ x = .int .i64 n) (hy : ρ y = .int .i64 m) (hr : max n m = r) : (execOp ρ o).run Tryz.prog w = .ok (.value (.int .i64 r)) w := by
  subst hr
  simp only [execOp, ho, ht]
  go_simp
theorem c_lList {w : World} {ρ : Operand → Value} {o : Oper} {x : Operand} {v : Value} (ho : o.op = .call ⟨.value (.func 60), #[x], #[9]⟩) (hf : ρ (.func 60) = .func (.func 60) #[] #[]) (hx : ρ x = v) : (execOp ρ o).run Tryz.prog w = .ok (.enter 60 #[v]) w := by
  simp only [execOp, ho]
  go_simp
theorem ix_freq {s : List UInt8} {v : Value} (h : IxO [Rfc.fq 0, Rfc.fq 1, Rfc.fq 2, Rfc.fq 3] s v) : (∃ k : Nat, v = .int .i64 k ∧ Rfc.pfreq s = some k) ∨ (v = .int .i64 (-1) ∧ Rfc.pfreq s = none) := by
  obtain ⟨n, rfl, ⟨rfl, hn⟩ | ⟨k, hk, rfl, he⟩⟩ := h
  · refine .inr ⟨rfl, ?_⟩
    simp only [List.mem_cons, List.not_mem_nil, or_false, not_or] at hn
    unfold Rfc.pfreq
    simp only [Rfc.idx]
    rw [if_neg (Ne.symm hn.1), if_neg (Ne.symm hn.2.1), if_neg (Ne.symm hn.2.2.1), if_neg (Ne.symm hn.2.2.2)]
  · refine .inl ⟨k, rfl, ?_⟩
    have e : Rfc.fq k = s := by
      rw [← he]
      have hk' : k = 0 ∨ k = 1 ∨ k = 2 ∨ k = 3 := by simp at hk; omega
      rcases hk' with rfl | rfl | rfl | rfl <;> rfl
    rw [← e]
    exact Rfc.pfreq_fq k (by simpa using hk)
theorem strs_fq {w : World} {A : Addr} (h : ∀ i, i < 4 → w.cell? (A.add i) = some (.string ⟨(Rfc.fq i).toArray⟩)) : StrsIn w (some A) [Rfc.fq 0, Rfc.fq 1, Rfc.fq 2, Rfc.fq 3] := fun k hk => by
  refine ⟨A, rfl, ?_⟩
  rw [h k hk]
  have hk' : k = 0 ∨ k = 1 ∨ k = 2 ∨ k = 3 := by simp at hk; omega
  rcases hk' with rfl | rfl | rfl | rfl <;> rfl

set_option maxRecDepth 100000 in
set_option maxHeartbeats 1000000 in
theorem lv_0 (rb : Nat) (cs : Array Value) (h8 : cs.size = 8) (s : List UInt8) (w : World) (hT : Tabs3 w) (hB : Blk w rb 28 cs) :
    Calls Tryz.prog 23 #[.pointer (some ⟨rb, 0, none⟩), .string ⟨(Rfc.nm 0).toArray⟩, .string ⟨(s).toArray⟩] w fun e w' => ∃ v, e = .returned v ∧ (v = .bool (Rfc.pfreq s).isSome ∧ (∀ y, Rfc.pfreq s = some y → Blk w' rb 28 (cs.setIfInBounds 0 (.int .i64 (y : Nat)))) ∧ Exc w.heap.size rb w w') := by
  obtain ⟨Af, cf, hgf, htab⟩ := hT.lf
  have B1 := hB
  refine calls_of_wp Tryz.func23 (show Tryz.f23.body = some lvBody from rfl) ?_
  generalize hAA : (Act.mk (#[.pointer (some ⟨rb, 0, none⟩), .string ⟨(Rfc.nm 0).toArray⟩, .string ⟨(s).toArray⟩] ++ Array.replicate (Tryz.f23.ntmps - (#[.pointer (some ⟨rb, 0, none⟩), .string ⟨(Rfc.nm 0).toArray⟩, .string ⟨(s).toArray⟩] : Array Value).size) undef) []) = a
  have hs : a.tmps.size = 217 := by rw [← hAA]; simp [Tryz.ntmps23]
  have hd : a.defers = [] := by rw [← hAA]
  have h0 : a.tmps.getD 0 undef = .pointer (some ⟨rb, 0, none⟩) := by rw [← hAA]; simp
  have h1 : a.tmps.getD 1 undef = .string ⟨(Rfc.nm 0).toArray⟩ := by rw [← hAA]; simp
  have h2 : a.tmps.getD 2 undef = .string ⟨(s).toArray⟩ := by rw [← hAA]; simp
  clear hAA
  have kk := (((kn hs hd).p h0).p h1).p h2; clear hs hd h0 h1 h2
  suffices hq : ∀ Q : Exit → Act → World → Prop, (∀ (a' : Act) (w' : World), (bodyPost Tryz.prog Tryz.f23 fun e w' => ∃ v, e = .returned v ∧ (v = .bool (Rfc.pfreq s).isSome ∧ (∀ y, Rfc.pfreq s = some y → Blk w' rb 28 (cs.setIfInBounds 0 (.int .i64 (y : Nat)))) ∧ Exc w.heap.size rb w w')) .ret a' w' → Q .ret a' w') → lvBody.wp Tryz.prog Q a w from hq _ (fun _ _ h => h)
  intro Q hfin
  unfold lvBody
  conv => arg 2; whnf
  refine wp_seq ?_
  refine wpr 1 ?_
  refine opk 0 6 (v := .bool false) kk (frY rfl (k_assign rfl rfl)) ?_; clear kk; intro a kk
  refine wp_seq ?_
  refine wpr 1 ?_
  refine opk 0 7 (v := .bool false) kk (frY rfl (k_assign rfl rfl)) ?_; clear kk; intro a kk
  refine wp_seq ?_
  refine wp_seq ?_
  refine wpr 1 ?_
  refine opk 0 21 kk (frY rfl (k_move rfl (kk.e 1 rfl))) ?_; clear kk; intro a kk
  refine wp_block ?_
  refine wp_seq ?_
  refine wpr 2 ?_
  refine opk 0 23 (v := .bool true) kk (frY rfl (o_eqStr rfl (kk.e 21 rfl) rfl (by rw [list_of_ba, list_of_ba]; decide))) ?_; clear kk; intro a kk
  refine opk 1 22 kk (frY rfl (k_assign rfl (kk.e 23 rfl))) ?_; clear kk; intro a kk
  refine wp_cond_true (kk.e 22 rfl) ?_
  refine wp_seq ?_
  refine wpr 4 ?_
  refine opk 0 24 (v := .slice (some Af) 4 cf) kk (frY rfl (k_loadSS rfl rfl hgf)) ?_; clear kk; intro a kk
  refine opk 1 25 kk (frY rfl (k_move rfl (kk.e 2 rfl))) ?_; clear kk; intro a kk
  have hc := lindex_any (some Af) cf [Rfc.fq 0, Rfc.fq 1, Rfc.fq 2, Rfc.fq 3] s w (strs_fq htab) (by simp)
  refine opkc 2 26 kk hc (frY rfl (c_Ix rfl rfl (kk.e 24 rfl) (kk.e 25 rfl))) ?_; clear kk hc
  rintro v8 w' a ⟨hv, hww⟩ F0
  subst hww
  have kk := F0; clear F0
  refine opk 3 8 kk (frY rfl (k_assign rfl (kk.e 26 rfl))) ?_; clear kk; intro a kk
  rcases ix_freq hv with ⟨k, rfl, hk⟩ | ⟨rfl, hk⟩
  · refine wp_seq ?_
    refine wpr 6 ?_
    refine opk 0 27 kk (frY rfl (k_move rfl (kk.e 0 rfl))) ?_; clear kk; intro a kk
    refine opk 1 28 kk (frY rfl (k_move rfl (kk.e 8 rfl))) ?_; clear kk; intro a kk
    refine opk 2 29 (v := .int .i64 (k : Int)) kk (frY rfl (k_max rfl rfl (kk.e 28 rfl) rfl (Int.max_eq_left (by omega)))) ?_; clear kk; intro a kk
    refine opk 3 30 (v := .pointer (some ⟨rb, 0, none⟩)) kk (frY rfl (k_nil rfl (kk.e 27 rfl))) ?_; clear kk; intro a kk
    refine opk 4 31 (v := .pointer (some ⟨rb, 0, none⟩)) kk (frY rfl (k_field0 rfl (kk.e 30 rfl))) ?_; clear kk; intro a kk
    refine opL_store 5 (w' := (w.setCell ⟨rb, 0, none⟩ (.int .i64 (k : Int)))) (by kernel_rfl) ?_ ?_
    · exact frY rfl (k_storeFr rfl (kk.e 31 rfl) (kk.e 29 rfl) B1 (by omega))
    obtain ⟨w2, hww2⟩ : ∃ wn, wn = w.setCell ⟨rb, 0, none⟩ (.int .i64 (k : Int)) := ⟨_, rfl⟩
    rw [← hww2]
    have B2 : Blk w2 rb 28 (cs.setIfInBounds 0 (.int .i64 (k : Int))) := by rw [hww2]; exact B1.set 0 _
    have e2 : ∀ B, Exc B rb w w2 := by rw [hww2]; exact exc_set w rb 0 _
    clear hww2
    refine wp_seq ?_
    refine wpr 3 ?_
    refine opk 0 32 kk (frY rfl (k_move rfl (kk.e 8 rfl))) ?_; clear kk; intro a kk
    refine opk 1 33 (v := .bool true) kk (frY rfl (o_geI rfl (kk.e 32 rfl) rfl (decide_eq_true (by omega)))) ?_; clear kk; intro a kk
    replace kk := kk.keep [33, 8, 0] rfl
    refine opk 2 6 kk (frY rfl (k_assign rfl (kk.e 33 rfl))) ?_; clear kk; intro a kk
    refine wp_ret ?_
    refine hfin a _ ?_
    exact ⟨kk.d, _, results_tmp rfl _ _ _, _, rfl, (by rw [(kk.g 6 rfl), hk]; rfl), (fun y hy => by rw [hk] at hy; cases hy; exact B2), (e2 _)⟩
  · refine wp_seq ?_
    refine wpr 6 ?_
    refine opk 0 27 kk (frY rfl (k_move rfl (kk.e 0 rfl))) ?_; clear kk; intro a kk
    refine opk 1 28 kk (frY rfl (k_move rfl (kk.e 8 rfl))) ?_; clear kk; intro a kk
    refine opk 2 29 (v := .int .i64 (0 : Int)) kk (frY rfl (k_max rfl rfl (kk.e 28 rfl) rfl rfl)) ?_; clear kk; intro a kk
    refine opk 3 30 (v := .pointer (some ⟨rb, 0, none⟩)) kk (frY rfl (k_nil rfl (kk.e 27 rfl))) ?_; clear kk; intro a kk
    refine opk 4 31 (v := .pointer (some ⟨rb, 0, none⟩)) kk (frY rfl (k_field0 rfl (kk.e 30 rfl))) ?_; clear kk; intro a kk
    refine opL_store 5 (w' := (w.setCell ⟨rb, 0, none⟩ (.int .i64 (0 : Int)))) (by kernel_rfl) ?_ ?_
    · exact frY rfl (k_storeFr rfl (kk.e 31 rfl) (kk.e 29 rfl) B1 (by omega))
    obtain ⟨w2, hww2⟩ : ∃ wn, wn = w.setCell ⟨rb, 0, none⟩ (.int .i64 (0 : Int)) := ⟨_, rfl⟩
    rw [← hww2]
    have B2 : Blk w2 rb 28 (cs.setIfInBounds 0 (.int .i64 (0 : Int))) := by rw [hww2]; exact B1.set 0 _
    have e2 : ∀ B, Exc B rb w w2 := by rw [hww2]; exact exc_set w rb 0 _
    clear hww2
    refine wp_seq ?_
    refine wpr 3 ?_
    refine opk 0 32 kk (frY rfl (k_move rfl (kk.e 8 rfl))) ?_; clear kk; intro a kk
    refine opk 1 33 (v := .bool false) kk (frY rfl (o_geI rfl (kk.e 32 rfl) rfl (decide_eq_false (by omega)))) ?_; clear kk; intro a kk
    replace kk := kk.keep [33, 8, 0] rfl
    refine opk 2 6 kk (frY rfl (k_assign rfl (kk.e 33 rfl))) ?_; clear kk; intro a kk
    refine wp_ret ?_
    refine hfin a _ ?_
    exact ⟨kk.d, _, results_tmp rfl _ _ _, _, rfl, (by rw [(kk.g 6 rfl), hk]; rfl), (fun y hy => by rw [hk] at hy; cases hy), (e2 _)⟩

set_option maxRecDepth 100000 in
set_option maxHeartbeats 1000000 in
theorem lv_1 (rb : Nat) (cs : Array Value) (h8 : cs.size = 8) (s : List UInt8) (w : World) (hB : Blk w rb 28 cs) :
    Calls Tryz.prog 23 #[.pointer (some ⟨rb, 0, none⟩), .string ⟨(Rfc.nm 1).toArray⟩, .string ⟨(s).toArray⟩] w fun e w' => ∃ v, e = .returned v ∧ (v = .bool (Rfc.pnum s).isSome ∧ (∀ y, Rfc.pnum s = some y → Blk w' rb 28 (cs.setIfInBounds 1 (.int .i64 y))) ∧ Exc w.heap.size rb w w') := by
  refine calls_of_wp Tryz.func23 (show Tryz.f23.body = some lvBody from rfl) ?_
  generalize hAA : (Act.mk (#[.pointer (some ⟨rb, 0, none⟩), .string ⟨(Rfc.nm 1).toArray⟩, .string ⟨(s).toArray⟩] ++ Array.replicate (Tryz.f23.ntmps - (#[.pointer (some ⟨rb, 0, none⟩), .string ⟨(Rfc.nm 1).toArray⟩, .string ⟨(s).toArray⟩] : Array Value).size) undef) []) = a
  have hs : a.tmps.size = 217 := by rw [← hAA]; simp [Tryz.ntmps23]
  have hd : a.defers = [] := by rw [← hAA]
  have h0 : a.tmps.getD 0 undef = .pointer (some ⟨rb, 0, none⟩) := by rw [← hAA]; simp
  have h1 : a.tmps.getD 1 undef = .string ⟨(Rfc.nm 1).toArray⟩ := by rw [← hAA]; simp
  have h2 : a.tmps.getD 2 undef = .string ⟨(s).toArray⟩ := by rw [← hAA]; simp
  clear hAA
  have kk := (((kn hs hd).p h0).p h1).p h2; clear hs hd h0 h1 h2
  suffices hq : ∀ Q : Exit → Act → World → Prop, (∀ (a' : Act) (w' : World), (bodyPost Tryz.prog Tryz.f23 fun e w' => ∃ v, e = .returned v ∧ (v = .bool (Rfc.pnum s).isSome ∧ (∀ y, Rfc.pnum s = some y → Blk w' rb 28 (cs.setIfInBounds 1 (.int .i64 y))) ∧ Exc w.heap.size rb w w')) .ret a' w' → Q .ret a' w') → lvBody.wp Tryz.prog Q a w from hq _ (fun _ _ h => h)
  intro Q hfin
  unfold lvBody
  conv => arg 2; whnf
  refine wp_seq ?_
  refine wpr 1 ?_
  refine opk 0 6 (v := .bool false) kk (frY rfl (k_assign rfl rfl)) ?_; clear kk; intro a kk
  refine wp_seq ?_
  refine wpr 1 ?_
  refine opk 0 7 (v := .bool false) kk (frY rfl (k_assign rfl rfl)) ?_; clear kk; intro a kk
  refine wp_seq ?_
  refine wp_seq ?_
  refine wpr 1 ?_
  refine opk 0 21 kk (frY rfl (k_move rfl (kk.e 1 rfl))) ?_; clear kk; intro a kk
  refine wp_block ?_
  refine wp_seq ?_
  refine wpr 2 ?_
  refine opk 0 23 (v := .bool false) kk (frY rfl (o_eqStr rfl (kk.e 21 rfl) rfl (by rw [list_of_ba, list_of_ba]; decide))) ?_; clear kk; intro a kk
  refine opk 1 22 kk (frY rfl (k_assign rfl (kk.e 23 rfl))) ?_; clear kk; intro a kk
  refine wp_cond_false (kk.e 22 rfl) ?_
  refine wp_seq ?_
  refine wpr 2 ?_
  refine opk 0 35 (v := .bool true) kk (frY rfl (o_eqStr rfl (kk.e 21 rfl) rfl (by rw [list_of_ba, list_of_ba]; decide))) ?_; clear kk; intro a kk
  refine opk 1 34 kk (frY rfl (k_assign rfl (kk.e 35 rfl))) ?_; clear kk; intro a kk
  refine wp_cond_true (kk.e 34 rfl) ?_
  refine wpr 10 ?_
  refine opk 0 37 kk (frY rfl (k_move rfl (kk.e 0 rfl))) ?_; clear kk; intro a kk
  refine opk 1 38 kk (frY rfl (k_move rfl (kk.e 2 rfl))) ?_; clear kk; intro a kk
  have hc := lnumber_any s w
  refine opkc 2 39 kk hc (frY rfl (c_lNumber rfl rfl (kk.e 38 rfl))) ?_; clear kk hc
  rintro v2 w1 a ⟨hN, l1⟩ F0
  have kk := F0; clear F0
  have B1 := hB.below l1 hB.lt
  cases hk0 : Rfc.pnum s with
  | none =>
    have hk := hk0
    obtain ⟨xx, rfl⟩ := hN.none hk0
    refine opk 3 36 kk (frY rfl (k_move rfl (kk.e 39 rfl))) ?_; clear kk; intro a kk
    refine opk 4 40 (v := .int .i64 xx) kk (frY rfl (k_extract rfl (kk.e 36 rfl) rfl)) ?_; clear kk; intro a kk
    refine opk 5 41 (v := .bool false) kk (frY rfl (k_extract rfl (kk.e 36 rfl) rfl)) ?_; clear kk; intro a kk
    refine opk 6 42 (v := .pointer (some ⟨rb, 0, none⟩)) kk (frY rfl (k_nil rfl (kk.e 37 rfl))) ?_; clear kk; intro a kk
    refine opk 7 43 (v := .pointer (some ⟨rb, 1, none⟩)) kk (frY rfl (k_field1 rfl (kk.e 42 rfl))) ?_; clear kk; intro a kk
    refine opL_store 8 (w' := (w1.setCell ⟨rb, 1, none⟩ (.int .i64 xx))) (by kernel_rfl) ?_ ?_
    · exact frY rfl (k_storeI rfl (kk.e 43 rfl) (kk.e 40 rfl) B1 (by omega))
    obtain ⟨w2, hww2⟩ : ∃ wn, wn = w1.setCell ⟨rb, 1, none⟩ (.int .i64 xx) := ⟨_, rfl⟩
    rw [← hww2]
    have B2 : Blk w2 rb 28 (cs.setIfInBounds 1 (.int .i64 xx)) := by rw [hww2]; exact B1.set 1 _
    have e2 : ∀ B, Exc B rb w1 w2 := by rw [hww2]; exact exc_set w1 rb 1 _
    clear hww2
    replace kk := kk.keep [41, 36, 6, 0] rfl
    refine opk 9 7 kk (frY rfl (k_assign rfl (kk.e 41 rfl))) ?_; clear kk; intro a kk
    change Code.wp _ _ _ _ _
    refine wp_seq ?_
    refine wpr 2 ?_
    refine opk 0 216 kk (frY rfl (k_move rfl (kk.e 7 rfl))) ?_; clear kk; intro a kk
    replace kk := kk.keep [216, 7, 36, 0] rfl
    refine opk 1 6 kk (frY rfl (k_assign rfl (kk.e 216 rfl))) ?_; clear kk; intro a kk
    refine wp_ret ?_
    refine hfin a _ ?_
    exact ⟨kk.d, _, results_tmp rfl _ _ _, _, rfl, (by rw [(kk.g 6 rfl), hk]; rfl), (fun y hy => by rw [hk] at hy; cases hy), ((Exc.of l1).trans (e2 _))⟩
  | some y =>
    have hk := hk0
    obtain rfl := hN.some hk0
    refine opk 3 36 kk (frY rfl (k_move rfl (kk.e 39 rfl))) ?_; clear kk; intro a kk
    refine opk 4 40 (v := .int .i64 y) kk (frY rfl (k_extract rfl (kk.e 36 rfl) rfl)) ?_; clear kk; intro a kk
    refine opk 5 41 (v := .bool true) kk (frY rfl (k_extract rfl (kk.e 36 rfl) rfl)) ?_; clear kk; intro a kk
    refine opk 6 42 (v := .pointer (some ⟨rb, 0, none⟩)) kk (frY rfl (k_nil rfl (kk.e 37 rfl))) ?_; clear kk; intro a kk
    refine opk 7 43 (v := .pointer (some ⟨rb, 1, none⟩)) kk (frY rfl (k_field1 rfl (kk.e 42 rfl))) ?_; clear kk; intro a kk
    refine opL_store 8 (w' := (w1.setCell ⟨rb, 1, none⟩ (.int .i64 y))) (by kernel_rfl) ?_ ?_
    · exact frY rfl (k_storeI rfl (kk.e 43 rfl) (kk.e 40 rfl) B1 (by omega))
    obtain ⟨w2, hww2⟩ : ∃ wn, wn = w1.setCell ⟨rb, 1, none⟩ (.int .i64 y) := ⟨_, rfl⟩
    rw [← hww2]
    have B2 : Blk w2 rb 28 (cs.setIfInBounds 1 (.int .i64 y)) := by rw [hww2]; exact B1.set 1 _
    have e2 : ∀ B, Exc B rb w1 w2 := by rw [hww2]; exact exc_set w1 rb 1 _
    clear hww2
    replace kk := kk.keep [41, 36, 6, 0] rfl
    refine opk 9 7 kk (frY rfl (k_assign rfl (kk.e 41 rfl))) ?_; clear kk; intro a kk
    change Code.wp _ _ _ _ _
    refine wp_seq ?_
    refine wpr 2 ?_
    refine opk 0 216 kk (frY rfl (k_move rfl (kk.e 7 rfl))) ?_; clear kk; intro a kk
    replace kk := kk.keep [216, 7, 36, 0] rfl
    refine opk 1 6 kk (frY rfl (k_assign rfl (kk.e 216 rfl))) ?_; clear kk; intro a kk
    refine wp_ret ?_
    refine hfin a _ ?_
    exact ⟨kk.d, _, results_tmp rfl _ _ _, _, rfl, (by rw [(kk.g 6 rfl), hk]; rfl), (fun y hy => by rw [hk] at hy; cases hy; exact B2), ((Exc.of l1).trans (e2 _))⟩

set_option maxRecDepth 100000 in
set_option maxHeartbeats 1000000 in
theorem lv_2 (rb : Nat) (cs : Array Value) (h8 : cs.size = 8) (s : List UInt8) (w : World) (hB : Blk w rb 28 cs) :
    Calls Tryz.prog 23 #[.pointer (some ⟨rb, 0, none⟩), .string ⟨(Rfc.nm 2).toArray⟩, .string ⟨(s).toArray⟩] w fun e w' => ∃ v, e = .returned v ∧ (v = .bool (Rfc.pnz s).isSome ∧ (∀ y, Rfc.pnz s = some y → Blk w' rb 28 (cs.setIfInBounds 2 (.int .i64 y))) ∧ Exc w.heap.size rb w w') := by
  refine calls_of_wp Tryz.func23 (show Tryz.f23.body = some lvBody from rfl) ?_
  generalize hAA : (Act.mk (#[.pointer (some ⟨rb, 0, none⟩), .string ⟨(Rfc.nm 2).toArray⟩, .string ⟨(s).toArray⟩] ++ Array.replicate (Tryz.f23.ntmps - (#[.pointer (some ⟨rb, 0, none⟩), .string ⟨(Rfc.nm 2).toArray⟩, .string ⟨(s).toArray⟩] : Array Value).size) undef) []) = a
  have hs : a.tmps.size = 217 := by rw [← hAA]; simp [Tryz.ntmps23]
  have hd : a.defers = [] := by rw [← hAA]
  have h0 : a.tmps.getD 0 undef = .pointer (some ⟨rb, 0, none⟩) := by rw [← hAA]; simp
  have h1 : a.tmps.getD 1 undef = .string ⟨(Rfc.nm 2).toArray⟩ := by rw [← hAA]; simp
  have h2 : a.tmps.getD 2 undef = .string ⟨(s).toArray⟩ := by rw [← hAA]; simp
  clear hAA
  have kk := (((kn hs hd).p h0).p h1).p h2; clear hs hd h0 h1 h2
  suffices hq : ∀ Q : Exit → Act → World → Prop, (∀ (a' : Act) (w' : World), (bodyPost Tryz.prog Tryz.f23 fun e w' => ∃ v, e = .returned v ∧ (v = .bool (Rfc.pnz s).isSome ∧ (∀ y, Rfc.pnz s = some y → Blk w' rb 28 (cs.setIfInBounds 2 (.int .i64 y))) ∧ Exc w.heap.size rb w w')) .ret a' w' → Q .ret a' w') → lvBody.wp Tryz.prog Q a w from hq _ (fun _ _ h => h)
  intro Q hfin
  unfold lvBody
  conv => arg 2; whnf
  refine wp_seq ?_
  refine wpr 1 ?_
  refine opk 0 6 (v := .bool false) kk (frY rfl (k_assign rfl rfl)) ?_; clear kk; intro a kk
  refine wp_seq ?_
  refine wpr 1 ?_
  refine opk 0 7 (v := .bool false) kk (frY rfl (k_assign rfl rfl)) ?_; clear kk; intro a kk
  refine wp_seq ?_
  refine wp_seq ?_
  refine wpr 1 ?_
  refine opk 0 21 kk (frY rfl (k_move rfl (kk.e 1 rfl))) ?_; clear kk; intro a kk
  refine wp_block ?_
  refine wp_seq ?_
  refine wpr 2 ?_
  refine opk 0 23 (v := .bool false) kk (frY rfl (o_eqStr rfl (kk.e 21 rfl) rfl (by rw [list_of_ba, list_of_ba]; decide))) ?_; clear kk; intro a kk
  refine opk 1 22 kk (frY rfl (k_assign rfl (kk.e 23 rfl))) ?_; clear kk; intro a kk
  refine wp_cond_false (kk.e 22 rfl) ?_
  refine wp_seq ?_
  refine wpr 2 ?_
  refine opk 0 35 (v := .bool false) kk (frY rfl (o_eqStr rfl (kk.e 21 rfl) rfl (by rw [list_of_ba, list_of_ba]; decide))) ?_; clear kk; intro a kk
  refine opk 1 34 kk (frY rfl (k_assign rfl (kk.e 35 rfl))) ?_; clear kk; intro a kk
  refine wp_cond_false (kk.e 34 rfl) ?_
  refine wp_seq ?_
  refine wpr 2 ?_
  refine opk 0 45 (v := .bool true) kk (frY rfl (o_eqStr rfl (kk.e 21 rfl) rfl (by rw [list_of_ba, list_of_ba]; decide))) ?_; clear kk; intro a kk
  refine opk 1 44 kk (frY rfl (k_assign rfl (kk.e 45 rfl))) ?_; clear kk; intro a kk
  refine wp_cond_true (kk.e 44 rfl) ?_
  refine wp_seq ?_
  refine wpr 10 ?_
  refine opk 0 47 kk (frY rfl (k_move rfl (kk.e 0 rfl))) ?_; clear kk; intro a kk
  refine opk 1 48 kk (frY rfl (k_move rfl (kk.e 2 rfl))) ?_; clear kk; intro a kk
  have hc := lnumber_any s w
  refine opkc 2 49 kk hc (frY rfl (c_lNumber rfl rfl (kk.e 48 rfl))) ?_; clear kk hc
  rintro v2 w1 a ⟨hN, l1⟩ F0
  have kk := F0; clear F0
  have B1 := hB.below l1 hB.lt
  cases hk0 : Rfc.pnum s with
  | none =>
    have hk : Rfc.pnz s = none := by unfold Rfc.pnz; rw [hk0]
    obtain ⟨xx, rfl⟩ := hN.none hk0
    refine opk 3 46 kk (frY rfl (k_move rfl (kk.e 49 rfl))) ?_; clear kk; intro a kk
    refine opk 4 50 (v := .int .i64 xx) kk (frY rfl (k_extract rfl (kk.e 46 rfl) rfl)) ?_; clear kk; intro a kk
    refine opk 5 51 (v := .bool false) kk (frY rfl (k_extract rfl (kk.e 46 rfl) rfl)) ?_; clear kk; intro a kk
    refine opk 6 52 (v := .pointer (some ⟨rb, 0, none⟩)) kk (frY rfl (k_nil rfl (kk.e 47 rfl))) ?_; clear kk; intro a kk
    refine opk 7 53 (v := .pointer (some ⟨rb, 2, none⟩)) kk (frY rfl (k_field2 rfl (kk.e 52 rfl))) ?_; clear kk; intro a kk
    refine opL_store 8 (w' := (w1.setCell ⟨rb, 2, none⟩ (.int .i64 xx))) (by kernel_rfl) ?_ ?_
    · exact frY rfl (k_storeI rfl (kk.e 53 rfl) (kk.e 50 rfl) B1 (by omega))
    obtain ⟨w2, hww2⟩ : ∃ wn, wn = w1.setCell ⟨rb, 2, none⟩ (.int .i64 xx) := ⟨_, rfl⟩
    rw [← hww2]
    have B2 : Blk w2 rb 28 (cs.setIfInBounds 2 (.int .i64 xx)) := by rw [hww2]; exact B1.set 2 _
    have e2 : ∀ B, Exc B rb w1 w2 := by rw [hww2]; exact exc_set w1 rb 2 _
    clear hww2
    replace kk := kk.keep [51, 46, 6, 0] rfl
    refine opk 9 7 kk (frY rfl (k_assign rfl (kk.e 51 rfl))) ?_; clear kk; intro a kk
    refine wp_seq ?_
    refine wpr 9 ?_
    refine opk 0 54 kk (frY rfl (k_move rfl (kk.e 7 rfl))) ?_; clear kk; intro a kk
    refine opk 1 55 kk (frY rfl (k_move rfl (kk.e 54 rfl))) ?_; clear kk; intro a kk
    refine opkn 2 56 kk (frX (wanted_at (b := false) (want := true) rfl (by kernel_rfl) (kk.g 55 rfl))) ?_; clear kk; intro a kk
    refine opkn 3 57 kk (frX (wanted_at (b := false) (want := true) rfl (by kernel_rfl) (kk.g 55 rfl))) ?_; clear kk; intro a kk
    refine opkn 4 58 kk (frX (wanted_at (b := false) (want := true) rfl (by kernel_rfl) (kk.g 55 rfl))) ?_; clear kk; intro a kk
    refine opkn 5 59 kk (frX (wanted_at (b := false) (want := true) rfl (by kernel_rfl) (kk.g 55 rfl))) ?_; clear kk; intro a kk
    refine opkn 6 60 kk (frX (wanted_at (b := false) (want := true) rfl (by kernel_rfl) (kk.g 55 rfl))) ?_; clear kk; intro a kk
    refine opk 7 61 (v := .bool false) kk (frY rfl (k_pick_no rfl (kk.e 55 rfl) rfl)) ?_; clear kk; intro a kk
    replace kk := kk.keep [61, 7, 0] rfl
    refine opk 8 6 kk (frY rfl (k_assign rfl (kk.e 61 rfl))) ?_; clear kk; intro a kk
    refine wp_ret ?_
    refine hfin a _ ?_
    exact ⟨kk.d, _, results_tmp rfl _ _ _, _, rfl, (by rw [(kk.g 6 rfl), hk]; rfl), (fun y hy => by rw [hk] at hy; cases hy), ((Exc.of l1).trans (e2 _))⟩
  | some y =>
    cases hne : (y != 0)
    · have hk : Rfc.pnz s = none := by unfold Rfc.pnz; rw [hk0]; simpa using hne
      obtain rfl := hN.some hk0
      refine opk 3 46 kk (frY rfl (k_move rfl (kk.e 49 rfl))) ?_; clear kk; intro a kk
      refine opk 4 50 (v := .int .i64 y) kk (frY rfl (k_extract rfl (kk.e 46 rfl) rfl)) ?_; clear kk; intro a kk
      refine opk 5 51 (v := .bool true) kk (frY rfl (k_extract rfl (kk.e 46 rfl) rfl)) ?_; clear kk; intro a kk
      refine opk 6 52 (v := .pointer (some ⟨rb, 0, none⟩)) kk (frY rfl (k_nil rfl (kk.e 47 rfl))) ?_; clear kk; intro a kk
      refine opk 7 53 (v := .pointer (some ⟨rb, 2, none⟩)) kk (frY rfl (k_field2 rfl (kk.e 52 rfl))) ?_; clear kk; intro a kk
      refine opL_store 8 (w' := (w1.setCell ⟨rb, 2, none⟩ (.int .i64 y))) (by kernel_rfl) ?_ ?_
      · exact frY rfl (k_storeI rfl (kk.e 53 rfl) (kk.e 50 rfl) B1 (by omega))
      obtain ⟨w2, hww2⟩ : ∃ wn, wn = w1.setCell ⟨rb, 2, none⟩ (.int .i64 y) := ⟨_, rfl⟩
      rw [← hww2]
      have B2 : Blk w2 rb 28 (cs.setIfInBounds 2 (.int .i64 y)) := by rw [hww2]; exact B1.set 2 _
      have e2 : ∀ B, Exc B rb w1 w2 := by rw [hww2]; exact exc_set w1 rb 2 _
      clear hww2
      replace kk := kk.keep [51, 46, 6, 0] rfl
      refine opk 9 7 kk (frY rfl (k_assign rfl (kk.e 51 rfl))) ?_; clear kk; intro a kk
      have hc2 : w2.cell? ⟨rb, 2, none⟩ = some (.int .i64 y) := by
        rw [B2.cell 2]
        simp [h8]
      refine wp_seq ?_
      refine wpr 9 ?_
      refine opk 0 54 kk (frY rfl (k_move rfl (kk.e 7 rfl))) ?_; clear kk; intro a kk
      refine opk 1 55 kk (frY rfl (k_move rfl (kk.e 54 rfl))) ?_; clear kk; intro a kk
      refine opk 2 56 kk (frY (wanted_at (b := true) (want := true) rfl (by kernel_rfl) (kk.g 55 rfl)) (k_move rfl (kk.e 0 rfl))) ?_; clear kk; intro a kk
      refine opk 3 57 (v := .pointer (some ⟨rb, 0, none⟩)) kk (frY (wanted_at (b := true) (want := true) rfl (by kernel_rfl) (kk.g 55 rfl)) (k_nil rfl (kk.e 56 rfl))) ?_; clear kk; intro a kk
      refine opk 4 58 (v := .pointer (some ⟨rb, 2, none⟩)) kk (frY (wanted_at (b := true) (want := true) rfl (by kernel_rfl) (kk.g 55 rfl)) (k_field2 rfl (kk.e 57 rfl))) ?_; clear kk; intro a kk
      refine opk 5 59 (v := .int .i64 y) kk (frY (wanted_at (b := true) (want := true) rfl (by kernel_rfl) (kk.g 55 rfl)) (k_loadI rfl (kk.e 58 rfl) hc2)) ?_; clear kk; intro a kk
      refine opk 6 60 (v := .bool false) kk (frY (wanted_at (b := true) (want := true) rfl (by kernel_rfl) (kk.g 55 rfl)) (o_neI rfl (kk.e 59 rfl) rfl hne)) ?_; clear kk; intro a kk
      refine opk 7 61 (v := .bool false) kk (frY rfl (k_pick_yes rfl (kk.e 55 rfl) (kk.e 60 rfl))) ?_; clear kk; intro a kk
      replace kk := kk.keep [61, 7, 0] rfl
      refine opk 8 6 kk (frY rfl (k_assign rfl (kk.e 61 rfl))) ?_; clear kk; intro a kk
      refine wp_ret ?_
      refine hfin a _ ?_
      exact ⟨kk.d, _, results_tmp rfl _ _ _, _, rfl, (by rw [(kk.g 6 rfl), hk]; rfl), (fun y hy => by rw [hk] at hy; cases hy), ((Exc.of l1).trans (e2 _))⟩
    · have hk : Rfc.pnz s = some y := by unfold Rfc.pnz; rw [hk0]; simpa using hne
      obtain rfl := hN.some hk0
      refine opk 3 46 kk (frY rfl (k_move rfl (kk.e 49 rfl))) ?_; clear kk; intro a kk
      refine opk 4 50 (v := .int .i64 y) kk (frY rfl (k_extract rfl (kk.e 46 rfl) rfl)) ?_; clear kk; intro a kk
      refine opk 5 51 (v := .bool true) kk (frY rfl (k_extract rfl (kk.e 46 rfl) rfl)) ?_; clear kk; intro a kk
      refine opk 6 52 (v := .pointer (some ⟨rb, 0, none⟩)) kk (frY rfl (k_nil rfl (kk.e 47 rfl))) ?_; clear kk; intro a kk
      refine opk 7 53 (v := .pointer (some ⟨rb, 2, none⟩)) kk (frY rfl (k_field2 rfl (kk.e 52 rfl))) ?_; clear kk; intro a kk
      refine opL_store 8 (w' := (w1.setCell ⟨rb, 2, none⟩ (.int .i64 y))) (by kernel_rfl) ?_ ?_
      · exact frY rfl (k_storeI rfl (kk.e 53 rfl) (kk.e 50 rfl) B1 (by omega))
      obtain ⟨w2, hww2⟩ : ∃ wn, wn = w1.setCell ⟨rb, 2, none⟩ (.int .i64 y) := ⟨_, rfl⟩
      rw [← hww2]
      have B2 : Blk w2 rb 28 (cs.setIfInBounds 2 (.int .i64 y)) := by rw [hww2]; exact B1.set 2 _
      have e2 : ∀ B, Exc B rb w1 w2 := by rw [hww2]; exact exc_set w1 rb 2 _
      clear hww2
      replace kk := kk.keep [51, 46, 6, 0] rfl
      refine opk 9 7 kk (frY rfl (k_assign rfl (kk.e 51 rfl))) ?_; clear kk; intro a kk
      have hc2 : w2.cell? ⟨rb, 2, none⟩ = some (.int .i64 y) := by
        rw [B2.cell 2]
        simp [h8]
      refine wp_seq ?_
      refine wpr 9 ?_
      refine opk 0 54 kk (frY rfl (k_move rfl (kk.e 7 rfl))) ?_; clear kk; intro a kk
      refine opk 1 55 kk (frY rfl (k_move rfl (kk.e 54 rfl))) ?_; clear kk; intro a kk
      refine opk 2 56 kk (frY (wanted_at (b := true) (want := true) rfl (by kernel_rfl) (kk.g 55 rfl)) (k_move rfl (kk.e 0 rfl))) ?_; clear kk; intro a kk
      refine opk 3 57 (v := .pointer (some ⟨rb, 0, none⟩)) kk (frY (wanted_at (b := true) (want := true) rfl (by kernel_rfl) (kk.g 55 rfl)) (k_nil rfl (kk.e 56 rfl))) ?_; clear kk; intro a kk
      refine opk 4 58 (v := .pointer (some ⟨rb, 2, none⟩)) kk (frY (wanted_at (b := true) (want := true) rfl (by kernel_rfl) (kk.g 55 rfl)) (k_field2 rfl (kk.e 57 rfl))) ?_; clear kk; intro a kk
      refine opk 5 59 (v := .int .i64 y) kk (frY (wanted_at (b := true) (want := true) rfl (by kernel_rfl) (kk.g 55 rfl)) (k_loadI rfl (kk.e 58 rfl) hc2)) ?_; clear kk; intro a kk
      refine opk 6 60 (v := .bool true) kk (frY (wanted_at (b := true) (want := true) rfl (by kernel_rfl) (kk.g 55 rfl)) (o_neI rfl (kk.e 59 rfl) rfl hne)) ?_; clear kk; intro a kk
      refine opk 7 61 (v := .bool true) kk (frY rfl (k_pick_yes rfl (kk.e 55 rfl) (kk.e 60 rfl))) ?_; clear kk; intro a kk
      replace kk := kk.keep [61, 7, 0] rfl
      refine opk 8 6 kk (frY rfl (k_assign rfl (kk.e 61 rfl))) ?_; clear kk; intro a kk
      refine wp_ret ?_
      refine hfin a _ ?_
      exact ⟨kk.d, _, results_tmp rfl _ _ _, _, rfl, (by rw [(kk.g 6 rfl), hk]; rfl), (fun y hy => by rw [hk] at hy; cases hy; exact B2), ((Exc.of l1).trans (e2 _))⟩

set_option maxRecDepth 100000 in
set_option maxHeartbeats 1000000 in
theorem lv_4 (rb : Nat) (cs : Array Value) (h8 : cs.size = 8) (s : List UInt8) (w : World) (hT : Tabs w) (hl : s.length ≤ 100000) (hB : Blk w rb 28 cs) :
    Calls Tryz.prog 23 #[.pointer (some ⟨rb, 0, none⟩), .string ⟨(Rfc.nm 4).toArray⟩, .string ⟨(s).toArray⟩] w fun e w' => ∃ v, e = .returned v ∧ (v = .bool (Rfc.plistI s).isSome ∧ (∀ y, Rfc.plistI s = some y → ∃ A cap, OwnI w' w.heap.size (.slice A y.length cap) y ∧ Blk w' rb 28 (cs.setIfInBounds 4 (.slice A y.length cap))) ∧ Exc w.heap.size rb w w') := by
  refine calls_of_wp Tryz.func23 (show Tryz.f23.body = some lvBody from rfl) ?_
  generalize hAA : (Act.mk (#[.pointer (some ⟨rb, 0, none⟩), .string ⟨(Rfc.nm 4).toArray⟩, .string ⟨(s).toArray⟩] ++ Array.replicate (Tryz.f23.ntmps - (#[.pointer (some ⟨rb, 0, none⟩), .string ⟨(Rfc.nm 4).toArray⟩, .string ⟨(s).toArray⟩] : Array Value).size) undef) []) = a
  have hs : a.tmps.size = 217 := by rw [← hAA]; simp [Tryz.ntmps23]
  have hd : a.defers = [] := by rw [← hAA]
  have h0 : a.tmps.getD 0 undef = .pointer (some ⟨rb, 0, none⟩) := by rw [← hAA]; simp
  have h1 : a.tmps.getD 1 undef = .string ⟨(Rfc.nm 4).toArray⟩ := by rw [← hAA]; simp
  have h2 : a.tmps.getD 2 undef = .string ⟨(s).toArray⟩ := by rw [← hAA]; simp
  clear hAA
  have kk := (((kn hs hd).p h0).p h1).p h2; clear hs hd h0 h1 h2
  suffices hq : ∀ Q : Exit → Act → World → Prop, (∀ (a' : Act) (w' : World), (bodyPost Tryz.prog Tryz.f23 fun e w' => ∃ v, e = .returned v ∧ (v = .bool (Rfc.plistI s).isSome ∧ (∀ y, Rfc.plistI s = some y → ∃ A cap, OwnI w' w.heap.size (.slice A y.length cap) y ∧ Blk w' rb 28 (cs.setIfInBounds 4 (.slice A y.length cap))) ∧ Exc w.heap.size rb w w')) .ret a' w' → Q .ret a' w') → lvBody.wp Tryz.prog Q a w from hq _ (fun _ _ h => h)
  intro Q hfin
  unfold lvBody
  conv => arg 2; whnf
  refine wp_seq ?_
  refine wpr 1 ?_
  refine opk 0 6 (v := .bool false) kk (frY rfl (k_assign rfl rfl)) ?_; clear kk; intro a kk
  refine wp_seq ?_
  refine wpr 1 ?_
  refine opk 0 7 (v := .bool false) kk (frY rfl (k_assign rfl rfl)) ?_; clear kk; intro a kk
  refine wp_seq ?_
  refine wp_seq ?_
  refine wpr 1 ?_
  refine opk 0 21 kk (frY rfl (k_move rfl (kk.e 1 rfl))) ?_; clear kk; intro a kk
  refine wp_block ?_
  refine wp_seq ?_
  refine wpr 2 ?_
  refine opk 0 23 (v := .bool false) kk (frY rfl (o_eqStr rfl (kk.e 21 rfl) rfl (by rw [list_of_ba, list_of_ba]; decide))) ?_; clear kk; intro a kk
  refine opk 1 22 kk (frY rfl (k_assign rfl (kk.e 23 rfl))) ?_; clear kk; intro a kk
  refine wp_cond_false (kk.e 22 rfl) ?_
  refine wp_seq ?_
  refine wpr 2 ?_
  refine opk 0 35 (v := .bool false) kk (frY rfl (o_eqStr rfl (kk.e 21 rfl) rfl (by rw [list_of_ba, list_of_ba]; decide))) ?_; clear kk; intro a kk
  refine opk 1 34 kk (frY rfl (k_assign rfl (kk.e 35 rfl))) ?_; clear kk; intro a kk
  refine wp_cond_false (kk.e 34 rfl) ?_
  refine wp_seq ?_
  refine wpr 2 ?_
  refine opk 0 45 (v := .bool false) kk (frY rfl (o_eqStr rfl (kk.e 21 rfl) rfl (by rw [list_of_ba, list_of_ba]; decide))) ?_; clear kk; intro a kk
  refine opk 1 44 kk (frY rfl (k_assign rfl (kk.e 45 rfl))) ?_; clear kk; intro a kk
  refine wp_cond_false (kk.e 44 rfl) ?_
  refine wp_seq ?_
  refine wpr 2 ?_
  refine opk 0 63 (v := .bool false) kk (frY rfl (o_eqStr rfl (kk.e 21 rfl) rfl (by rw [list_of_ba, list_of_ba]; decide))) ?_; clear kk; intro a kk
  refine opk 1 62 kk (frY rfl (k_assign rfl (kk.e 63 rfl))) ?_; clear kk; intro a kk
  refine wp_cond_false (kk.e 62 rfl) ?_
  refine wp_seq ?_
  refine wpr 2 ?_
  refine opk 0 133 (v := .bool true) kk (frY rfl (o_eqStr rfl (kk.e 21 rfl) rfl (by rw [list_of_ba, list_of_ba]; decide))) ?_; clear kk; intro a kk
  refine opk 1 132 kk (frY rfl (k_assign rfl (kk.e 133 rfl))) ?_; clear kk; intro a kk
  refine wp_cond_true (kk.e 132 rfl) ?_
  refine wpr 10 ?_
  refine opk 0 135 kk (frY rfl (k_move rfl (kk.e 0 rfl))) ?_; clear kk; intro a kk
  refine opk 1 136 kk (frY rfl (k_move rfl (kk.e 2 rfl))) ?_; clear kk; intro a kk
  have hc := llist_any s w hT hl
  refine opkc 2 137 kk hc (frY rfl (c_lList rfl rfl (kk.e 136 rfl))) ?_; clear kk hc
  rintro v0 w1 a ⟨hLv, l1⟩ F0
  have kk := F0; clear F0
  have B1 := hB.below l1 hB.lt
  unfold LI at hLv
  cases hk : Rfc.plistI s with
  | none =>
    rw [hk] at hLv
    subst hLv
    refine opk 3 134 kk (frY rfl (k_move rfl (kk.e 137 rfl))) ?_; clear kk; intro a kk
    refine opk 4 138 (v := .slice none 0 0) kk (frY rfl (k_extract rfl (kk.e 134 rfl) rfl)) ?_; clear kk; intro a kk
    refine opk 5 139 (v := .bool false) kk (frY rfl (k_extract rfl (kk.e 134 rfl) rfl)) ?_; clear kk; intro a kk
    refine opk 6 140 (v := .pointer (some ⟨rb, 0, none⟩)) kk (frY rfl (k_nil rfl (kk.e 135 rfl))) ?_; clear kk; intro a kk
    refine opk 7 141 (v := .pointer (some ⟨rb, 4, none⟩)) kk (frY rfl (k_field4 rfl (kk.e 140 rfl))) ?_; clear kk; intro a kk
    refine opL_store 8 (w' := (w1.setCell ⟨rb, 4, none⟩ (.slice none 0 0))) (by kernel_rfl) ?_ ?_
    · exact frY rfl (k_storeL rfl (kk.e 141 rfl) (kk.e 138 rfl) B1 (by omega))
    obtain ⟨w2, hww2⟩ : ∃ wn, wn = w1.setCell ⟨rb, 4, none⟩ (.slice none 0 0) := ⟨_, rfl⟩
    rw [← hww2]
    have B2 : Blk w2 rb 28 (cs.setIfInBounds 4 (.slice none 0 0)) := by rw [hww2]; exact B1.set 4 _
    have e2 : ∀ B, Exc B rb w1 w2 := by rw [hww2]; exact exc_set w1 rb 4 _
    clear hww2
    replace kk := kk.keep [139, 134, 6, 0] rfl
    refine opk 9 7 kk (frY rfl (k_assign rfl (kk.e 139 rfl))) ?_; clear kk; intro a kk
    change Code.wp _ _ _ _ _
    refine wp_seq ?_
    refine wpr 2 ?_
    refine opk 0 216 kk (frY rfl (k_move rfl (kk.e 7 rfl))) ?_; clear kk; intro a kk
    replace kk := kk.keep [216, 7, 134, 0] rfl
    refine opk 1 6 kk (frY rfl (k_assign rfl (kk.e 216 rfl))) ?_; clear kk; intro a kk
    refine wp_ret ?_
    refine hfin a _ ?_
    exact ⟨kk.d, _, results_tmp rfl _ _ _, _, rfl, (by rw [(kk.g 6 rfl), hk]; rfl), (fun y hy => by rw [hk] at hy; cases hy), ((Exc.of l1).trans (e2 _))⟩
  | some L =>
    rw [hk] at hLv
    obtain ⟨A, cap, rfl, hO⟩ := hLv
    refine opk 3 134 kk (frY rfl (k_move rfl (kk.e 137 rfl))) ?_; clear kk; intro a kk
    refine opk 4 138 (v := .slice A L.length cap) kk (frY rfl (k_extract rfl (kk.e 134 rfl) rfl)) ?_; clear kk; intro a kk
    refine opk 5 139 (v := .bool true) kk (frY rfl (k_extract rfl (kk.e 134 rfl) rfl)) ?_; clear kk; intro a kk
    refine opk 6 140 (v := .pointer (some ⟨rb, 0, none⟩)) kk (frY rfl (k_nil rfl (kk.e 135 rfl))) ?_; clear kk; intro a kk
    refine opk 7 141 (v := .pointer (some ⟨rb, 4, none⟩)) kk (frY rfl (k_field4 rfl (kk.e 140 rfl))) ?_; clear kk; intro a kk
    refine opL_store 8 (w' := (w1.setCell ⟨rb, 4, none⟩ (.slice A L.length cap))) (by kernel_rfl) ?_ ?_
    · exact frY rfl (k_storeL rfl (kk.e 141 rfl) (kk.e 138 rfl) B1 (by omega))
    obtain ⟨w2, hww2⟩ : ∃ wn, wn = w1.setCell ⟨rb, 4, none⟩ (.slice A L.length cap) := ⟨_, rfl⟩
    rw [← hww2]
    have B2 : Blk w2 rb 28 (cs.setIfInBounds 4 (.slice A L.length cap)) := by rw [hww2]; exact B1.set 4 _
    have e2 : ∀ B, Exc B rb w1 w2 := by rw [hww2]; exact exc_set w1 rb 4 _
    clear hww2
    replace kk := kk.keep [139, 134, 6, 0] rfl
    refine opk 9 7 kk (frY rfl (k_assign rfl (kk.e 139 rfl))) ?_; clear kk; intro a kk
    change Code.wp _ _ _ _ _
    refine wp_seq ?_
    refine wpr 2 ?_
    refine opk 0 216 kk (frY rfl (k_move rfl (kk.e 7 rfl))) ?_; clear kk; intro a kk
    replace kk := kk.keep [216, 7, 134, 0] rfl
    refine opk 1 6 kk (frY rfl (k_assign rfl (kk.e 216 rfl))) ?_; clear kk; intro a kk
    refine wp_ret ?_
    refine hfin a _ ?_
    exact ⟨kk.d, _, results_tmp rfl _ _ _, _, rfl, (by rw [(kk.g 6 rfl), hk]; rfl), (fun y hy => by rw [hk] at hy; cases hy; exact ⟨A, cap, hO.exc (e2 w1.heap.size) (fun g hg => ⟨(hO.lt g hg).2, by have := (hO.lt g hg).1; have := hB.lt; omega⟩), B2⟩), ((Exc.of l1).trans (e2 _))⟩

set_option maxRecDepth 100000 in
set_option maxHeartbeats 1000000 in
theorem lv_5 (rb : Nat) (cs : Array Value) (h8 : cs.size = 8) (s : List UInt8) (w : World) (hT : Tabs w) (hl : s.length ≤ 100000) (hB : Blk w rb 28 cs) :
    Calls Tryz.prog 23 #[.pointer (some ⟨rb, 0, none⟩), .string ⟨(Rfc.nm 5).toArray⟩, .string ⟨(s).toArray⟩] w fun e w' => ∃ v, e = .returned v ∧ (v = .bool (Rfc.plistI s).isSome ∧ (∀ y, Rfc.plistI s = some y → ∃ A cap, OwnI w' w.heap.size (.slice A y.length cap) y ∧ Blk w' rb 28 (cs.setIfInBounds 5 (.slice A y.length cap))) ∧ Exc w.heap.size rb w w') := by
  refine calls_of_wp Tryz.func23 (show Tryz.f23.body = some lvBody from rfl) ?_
  generalize hAA : (Act.mk (#[.pointer (some ⟨rb, 0, none⟩), .string ⟨(Rfc.nm 5).toArray⟩, .string ⟨(s).toArray⟩] ++ Array.replicate (Tryz.f23.ntmps - (#[.pointer (some ⟨rb, 0, none⟩), .string ⟨(Rfc.nm 5).toArray⟩, .string ⟨(s).toArray⟩] : Array Value).size) undef) []) = a
  have hs : a.tmps.size = 217 := by rw [← hAA]; simp [Tryz.ntmps23]
  have hd : a.defers = [] := by rw [← hAA]
  have h0 : a.tmps.getD 0 undef = .pointer (some ⟨rb, 0, none⟩) := by rw [← hAA]; simp
  have h1 : a.tmps.getD 1 undef = .string ⟨(Rfc.nm 5).toArray⟩ := by rw [← hAA]; simp
  have h2 : a.tmps.getD 2 undef = .string ⟨(s).toArray⟩ := by rw [← hAA]; simp
  clear hAA
  have kk := (((kn hs hd).p h0).p h1).p h2; clear hs hd h0 h1 h2
  suffices hq : ∀ Q : Exit → Act → World → Prop, (∀ (a' : Act) (w' : World), (bodyPost Tryz.prog Tryz.f23 fun e w' => ∃ v, e = .returned v ∧ (v = .bool (Rfc.plistI s).isSome ∧ (∀ y, Rfc.plistI s = some y → ∃ A cap, OwnI w' w.heap.size (.slice A y.length cap) y ∧ Blk w' rb 28 (cs.setIfInBounds 5 (.slice A y.length cap))) ∧ Exc w.heap.size rb w w')) .ret a' w' → Q .ret a' w') → lvBody.wp Tryz.prog Q a w from hq _ (fun _ _ h => h)
  intro Q hfin
  unfold lvBody
  conv => arg 2; whnf
  refine wp_seq ?_
  refine wpr 1 ?_
  refine opk 0 6 (v := .bool false) kk (frY rfl (k_assign rfl rfl)) ?_; clear kk; intro a kk
  refine wp_seq ?_
  refine wpr 1 ?_
  refine opk 0 7 (v := .bool false) kk (frY rfl (k_assign rfl rfl)) ?_; clear kk; intro a kk
  refine wp_seq ?_
  refine wp_seq ?_
  refine wpr 1 ?_
  refine opk 0 21 kk (frY rfl (k_move rfl (kk.e 1 rfl))) ?_; clear kk; intro a kk
  refine wp_block ?_
  refine wp_seq ?_
  refine wpr 2 ?_
  refine opk 0 23 (v := .bool false) kk (frY rfl (o_eqStr rfl (kk.e 21 rfl) rfl (by rw [list_of_ba, list_of_ba]; decide))) ?_; clear kk; intro a kk
  refine opk 1 22 kk (frY rfl (k_assign rfl (kk.e 23 rfl))) ?_; clear kk; intro a kk
  refine wp_cond_false (kk.e 22 rfl) ?_
  refine wp_seq ?_
  refine wpr 2 ?_
  refine opk 0 35 (v := .bool false) kk (frY rfl (o_eqStr rfl (kk.e 21 rfl) rfl (by rw [list_of_ba, list_of_ba]; decide))) ?_; clear kk; intro a kk
  refine opk 1 34 kk (frY rfl (k_assign rfl (kk.e 35 rfl))) ?_; clear kk; intro a kk
  refine wp_cond_false (kk.e 34 rfl) ?_
  refine wp_seq ?_
  refine wpr 2 ?_
  refine opk 0 45 (v := .bool false) kk (frY rfl (o_eqStr rfl (kk.e 21 rfl) rfl (by rw [list_of_ba, list_of_ba]; decide))) ?_; clear kk; intro a kk
  refine opk 1 44 kk (frY rfl (k_assign rfl (kk.e 45 rfl))) ?_; clear kk; intro a kk
  refine wp_cond_false (kk.e 44 rfl) ?_
  refine wp_seq ?_
  refine wpr 2 ?_
  refine opk 0 63 (v := .bool false) kk (frY rfl (o_eqStr rfl (kk.e 21 rfl) rfl (by rw [list_of_ba, list_of_ba]; decide))) ?_; clear kk; intro a kk
  refine opk 1 62 kk (frY rfl (k_assign rfl (kk.e 63 rfl))) ?_; clear kk; intro a kk
  refine wp_cond_false (kk.e 62 rfl) ?_
  refine wp_seq ?_
  refine wpr 2 ?_
  refine opk 0 133 (v := .bool false) kk (frY rfl (o_eqStr rfl (kk.e 21 rfl) rfl (by rw [list_of_ba, list_of_ba]; decide))) ?_; clear kk; intro a kk
  refine opk 1 132 kk (frY rfl (k_assign rfl (kk.e 133 rfl))) ?_; clear kk; intro a kk
  refine wp_cond_false (kk.e 132 rfl) ?_
  refine wp_seq ?_
  refine wpr 2 ?_
  refine opk 0 143 (v := .bool true) kk (frY rfl (o_eqStr rfl (kk.e 21 rfl) rfl (by rw [list_of_ba, list_of_ba]; decide))) ?_; clear kk; intro a kk
  refine opk 1 142 kk (frY rfl (k_assign rfl (kk.e 143 rfl))) ?_; clear kk; intro a kk
  refine wp_cond_true (kk.e 142 rfl) ?_
  refine wpr 10 ?_
  refine opk 0 145 kk (frY rfl (k_move rfl (kk.e 0 rfl))) ?_; clear kk; intro a kk
  refine opk 1 146 kk (frY rfl (k_move rfl (kk.e 2 rfl))) ?_; clear kk; intro a kk
  have hc := llist_any s w hT hl
  refine opkc 2 147 kk hc (frY rfl (c_lList rfl rfl (kk.e 146 rfl))) ?_; clear kk hc
  rintro v0 w1 a ⟨hLv, l1⟩ F0
  have kk := F0; clear F0
  have B1 := hB.below l1 hB.lt
  unfold LI at hLv
  cases hk : Rfc.plistI s with
  | none =>
    rw [hk] at hLv
    subst hLv
    replace kk := kk.keep [147, 145, 7, 6, 0] rfl
    refine opk 3 144 kk (frY rfl (k_move rfl (kk.e 147 rfl))) ?_; clear kk; intro a kk
    refine opk 4 148 (v := .slice none 0 0) kk (frY rfl (k_extract rfl (kk.e 144 rfl) rfl)) ?_; clear kk; intro a kk
    refine opk 5 149 (v := .bool false) kk (frY rfl (k_extract rfl (kk.e 144 rfl) rfl)) ?_; clear kk; intro a kk
    refine opk 6 150 (v := .pointer (some ⟨rb, 0, none⟩)) kk (frY rfl (k_nil rfl (kk.e 145 rfl))) ?_; clear kk; intro a kk
    refine opk 7 151 (v := .pointer (some ⟨rb, 5, none⟩)) kk (frY rfl (k_field5 rfl (kk.e 150 rfl))) ?_; clear kk; intro a kk
    refine opL_store 8 (w' := (w1.setCell ⟨rb, 5, none⟩ (.slice none 0 0))) (by kernel_rfl) ?_ ?_
    · exact frY rfl (k_storeL rfl (kk.e 151 rfl) (kk.e 148 rfl) B1 (by omega))
    obtain ⟨w2, hww2⟩ : ∃ wn, wn = w1.setCell ⟨rb, 5, none⟩ (.slice none 0 0) := ⟨_, rfl⟩
    rw [← hww2]
    have B2 : Blk w2 rb 28 (cs.setIfInBounds 5 (.slice none 0 0)) := by rw [hww2]; exact B1.set 5 _
    have e2 : ∀ B, Exc B rb w1 w2 := by rw [hww2]; exact exc_set w1 rb 5 _
    clear hww2
    replace kk := kk.keep [149, 144, 6, 0] rfl
    refine opk 9 7 kk (frY rfl (k_assign rfl (kk.e 149 rfl))) ?_; clear kk; intro a kk
    change Code.wp _ _ _ _ _
    refine wp_seq ?_
    refine wpr 2 ?_
    refine opk 0 216 kk (frY rfl (k_move rfl (kk.e 7 rfl))) ?_; clear kk; intro a kk
    replace kk := kk.keep [216, 7, 144, 0] rfl
    refine opk 1 6 kk (frY rfl (k_assign rfl (kk.e 216 rfl))) ?_; clear kk; intro a kk
    refine wp_ret ?_
    refine hfin a _ ?_
    exact ⟨kk.d, _, results_tmp rfl _ _ _, _, rfl, (by rw [(kk.g 6 rfl), hk]; rfl), (fun y hy => by rw [hk] at hy; cases hy), ((Exc.of l1).trans (e2 _))⟩
  | some L =>
    rw [hk] at hLv
    obtain ⟨A, cap, rfl, hO⟩ := hLv
    replace kk := kk.keep [147, 145, 7, 6, 0] rfl
    refine opk 3 144 kk (frY rfl (k_move rfl (kk.e 147 rfl))) ?_; clear kk; intro a kk
    refine opk 4 148 (v := .slice A L.length cap) kk (frY rfl (k_extract rfl (kk.e 144 rfl) rfl)) ?_; clear kk; intro a kk
    refine opk 5 149 (v := .bool true) kk (frY rfl (k_extract rfl (kk.e 144 rfl) rfl)) ?_; clear kk; intro a kk
    refine opk 6 150 (v := .pointer (some ⟨rb, 0, none⟩)) kk (frY rfl (k_nil rfl (kk.e 145 rfl))) ?_; clear kk; intro a kk
    refine opk 7 151 (v := .pointer (some ⟨rb, 5, none⟩)) kk (frY rfl (k_field5 rfl (kk.e 150 rfl))) ?_; clear kk; intro a kk
    refine opL_store 8 (w' := (w1.setCell ⟨rb, 5, none⟩ (.slice A L.length cap))) (by kernel_rfl) ?_ ?_
    · exact frY rfl (k_storeL rfl (kk.e 151 rfl) (kk.e 148 rfl) B1 (by omega))
    obtain ⟨w2, hww2⟩ : ∃ wn, wn = w1.setCell ⟨rb, 5, none⟩ (.slice A L.length cap) := ⟨_, rfl⟩
    rw [← hww2]
    have B2 : Blk w2 rb 28 (cs.setIfInBounds 5 (.slice A L.length cap)) := by rw [hww2]; exact B1.set 5 _
    have e2 : ∀ B, Exc B rb w1 w2 := by rw [hww2]; exact exc_set w1 rb 5 _
    clear hww2
    replace kk := kk.keep [149, 144, 6, 0] rfl
    refine opk 9 7 kk (frY rfl (k_assign rfl (kk.e 149 rfl))) ?_; clear kk; intro a kk
    change Code.wp _ _ _ _ _
    refine wp_seq ?_
    refine wpr 2 ?_
    refine opk 0 216 kk (frY rfl (k_move rfl (kk.e 7 rfl))) ?_; clear kk; intro a kk
    replace kk := kk.keep [216, 7, 144, 0] rfl
    refine opk 1 6 kk (frY rfl (k_assign rfl (kk.e 216 rfl))) ?_; clear kk; intro a kk
    refine wp_ret ?_
    refine hfin a _ ?_
    exact ⟨kk.d, _, results_tmp rfl _ _ _, _, rfl, (by rw [(kk.g 6 rfl), hk]; rfl), (fun y hy => by rw [hk] at hy; cases hy; exact ⟨A, cap, hO.exc (e2 w1.heap.size) (fun g hg => ⟨(hO.lt g hg).2, by have := (hO.lt g hg).1; have := hB.lt; omega⟩), B2⟩), ((Exc.of l1).trans (e2 _))⟩

set_option maxRecDepth 100000 in
set_option maxHeartbeats 1000000 in
theorem lv_7 (rb : Nat) (cs : Array Value) (h8 : cs.size = 8) (s : List UInt8) (w : World) (hT : Tabs w) (hl : s.length ≤ 100000) (hB : Blk w rb 28 cs) :
    Calls Tryz.prog 23 #[.pointer (some ⟨rb, 0, none⟩), .string ⟨(Rfc.nm 7).toArray⟩, .string ⟨(s).toArray⟩] w fun e w' => ∃ v, e = .returned v ∧ (v = .bool (Rfc.plistI s).isSome ∧ (∀ y, Rfc.plistI s = some y → ∃ A cap, OwnI w' w.heap.size (.slice A y.length cap) y ∧ Blk w' rb 28 (cs.setIfInBounds 7 (.slice A y.length cap))) ∧ Exc w.heap.size rb w w') := by
  refine calls_of_wp Tryz.func23 (show Tryz.f23.body = some lvBody from rfl) ?_
  generalize hAA : (Act.mk (#[.pointer (some ⟨rb, 0, none⟩), .string ⟨(Rfc.nm 7).toArray⟩, .string ⟨(s).toArray⟩] ++ Array.replicate (Tryz.f23.ntmps - (#[.pointer (some ⟨rb, 0, none⟩), .string ⟨(Rfc.nm 7).toArray⟩, .string ⟨(s).toArray⟩] : Array Value).size) undef) []) = a
  have hs : a.tmps.size = 217 := by rw [← hAA]; simp [Tryz.ntmps23]
  have hd : a.defers = [] := by rw [← hAA]
  have h0 : a.tmps.getD 0 undef = .pointer (some ⟨rb, 0, none⟩) := by rw [← hAA]; simp
  have h1 : a.tmps.getD 1 undef = .string ⟨(Rfc.nm 7).toArray⟩ := by rw [← hAA]; simp
  have h2 : a.tmps.getD 2 undef = .string ⟨(s).toArray⟩ := by rw [← hAA]; simp
  clear hAA
  have kk := (((kn hs hd).p h0).p h1).p h2; clear hs hd h0 h1 h2
  suffices hq : ∀ Q : Exit → Act → World → Prop, (∀ (a' : Act) (w' : World), (bodyPost Tryz.prog Tryz.f23 fun e w' => ∃ v, e = .returned v ∧ (v = .bool (Rfc.plistI s).isSome ∧ (∀ y, Rfc.plistI s = some y → ∃ A cap, OwnI w' w.heap.size (.slice A y.length cap) y ∧ Blk w' rb 28 (cs.setIfInBounds 7 (.slice A y.length cap))) ∧ Exc w.heap.size rb w w')) .ret a' w' → Q .ret a' w') → lvBody.wp Tryz.prog Q a w from hq _ (fun _ _ h => h)
  intro Q hfin
  unfold lvBody
  conv => arg 2; whnf
  refine wp_seq ?_
  refine wpr 1 ?_
  refine opk 0 6 (v := .bool false) kk (frY rfl (k_assign rfl rfl)) ?_; clear kk; intro a kk
  refine wp_seq ?_
  refine wpr 1 ?_
  refine opk 0 7 (v := .bool false) kk (frY rfl (k_assign rfl rfl)) ?_; clear kk; intro a kk
  refine wp_seq ?_
  refine wp_seq ?_
  refine wpr 1 ?_
  refine opk 0 21 kk (frY rfl (k_move rfl (kk.e 1 rfl))) ?_; clear kk; intro a kk
  refine wp_block ?_
  refine wp_seq ?_
  refine wpr 2 ?_
  refine opk 0 23 (v := .bool false) kk (frY rfl (o_eqStr rfl (kk.e 21 rfl) rfl (by rw [list_of_ba, list_of_ba]; decide))) ?_; clear kk; intro a kk
  refine opk 1 22 kk (frY rfl (k_assign rfl (kk.e 23 rfl))) ?_; clear kk; intro a kk
  refine wp_cond_false (kk.e 22 rfl) ?_
  refine wp_seq ?_
  refine wpr 2 ?_
  refine opk 0 35 (v := .bool false) kk (frY rfl (o_eqStr rfl (kk.e 21 rfl) rfl (by rw [list_of_ba, list_of_ba]; decide))) ?_; clear kk; intro a kk
  refine opk 1 34 kk (frY rfl (k_assign rfl (kk.e 35 rfl))) ?_; clear kk; intro a kk
  refine wp_cond_false (kk.e 34 rfl) ?_
  refine wp_seq ?_
  refine wpr 2 ?_
  refine opk 0 45 (v := .bool false) kk (frY rfl (o_eqStr rfl (kk.e 21 rfl) rfl (by rw [list_of_ba, list_of_ba]; decide))) ?_; clear kk; intro a kk
  refine opk 1 44 kk (frY rfl (k_assign rfl (kk.e 45 rfl))) ?_; clear kk; intro a kk
  refine wp_cond_false (kk.e 44 rfl) ?_
  refine wp_seq ?_
  refine wpr 2 ?_
  refine opk 0 63 (v := .bool false) kk (frY rfl (o_eqStr rfl (kk.e 21 rfl) rfl (by rw [list_of_ba, list_of_ba]; decide))) ?_; clear kk; intro a kk
  refine opk 1 62 kk (frY rfl (k_assign rfl (kk.e 63 rfl))) ?_; clear kk; intro a kk
  refine wp_cond_false (kk.e 62 rfl) ?_
  refine wp_seq ?_
  refine wpr 2 ?_
  refine opk 0 133 (v := .bool false) kk (frY rfl (o_eqStr rfl (kk.e 21 rfl) rfl (by rw [list_of_ba, list_of_ba]; decide))) ?_; clear kk; intro a kk
  refine opk 1 132 kk (frY rfl (k_assign rfl (kk.e 133 rfl))) ?_; clear kk; intro a kk
  refine wp_cond_false (kk.e 132 rfl) ?_
  refine wp_seq ?_
  refine wpr 2 ?_
  refine opk 0 143 (v := .bool false) kk (frY rfl (o_eqStr rfl (kk.e 21 rfl) rfl (by rw [list_of_ba, list_of_ba]; decide))) ?_; clear kk; intro a kk
  refine opk 1 142 kk (frY rfl (k_assign rfl (kk.e 143 rfl))) ?_; clear kk; intro a kk
  refine wp_cond_false (kk.e 142 rfl) ?_
  refine wp_seq ?_
  refine wpr 2 ?_
  refine opk 0 153 (v := .bool true) kk (frY rfl (o_eqStr rfl (kk.e 21 rfl) rfl (by rw [list_of_ba, list_of_ba]; decide))) ?_; clear kk; intro a kk
  refine opk 1 152 kk (frY rfl (k_assign rfl (kk.e 153 rfl))) ?_; clear kk; intro a kk
  refine wp_cond_true (kk.e 152 rfl) ?_
  refine wpr 10 ?_
  refine opk 0 155 kk (frY rfl (k_move rfl (kk.e 0 rfl))) ?_; clear kk; intro a kk
  refine opk 1 156 kk (frY rfl (k_move rfl (kk.e 2 rfl))) ?_; clear kk; intro a kk
  have hc := llist_any s w hT hl
  refine opkc 2 157 kk hc (frY rfl (c_lList rfl rfl (kk.e 156 rfl))) ?_; clear kk hc
  rintro v0 w1 a ⟨hLv, l1⟩ F0
  have kk := F0; clear F0
  have B1 := hB.below l1 hB.lt
  unfold LI at hLv
  cases hk : Rfc.plistI s with
  | none =>
    rw [hk] at hLv
    subst hLv
    replace kk := kk.keep [157, 155, 7, 6, 0] rfl
    refine opk 3 154 kk (frY rfl (k_move rfl (kk.e 157 rfl))) ?_; clear kk; intro a kk
    refine opk 4 158 (v := .slice none 0 0) kk (frY rfl (k_extract rfl (kk.e 154 rfl) rfl)) ?_; clear kk; intro a kk
    refine opk 5 159 (v := .bool false) kk (frY rfl (k_extract rfl (kk.e 154 rfl) rfl)) ?_; clear kk; intro a kk
    refine opk 6 160 (v := .pointer (some ⟨rb, 0, none⟩)) kk (frY rfl (k_nil rfl (kk.e 155 rfl))) ?_; clear kk; intro a kk
    refine opk 7 161 (v := .pointer (some ⟨rb, 7, none⟩)) kk (frY rfl (k_field7 rfl (kk.e 160 rfl))) ?_; clear kk; intro a kk
    refine opL_store 8 (w' := (w1.setCell ⟨rb, 7, none⟩ (.slice none 0 0))) (by kernel_rfl) ?_ ?_
    · exact frY rfl (k_storeL rfl (kk.e 161 rfl) (kk.e 158 rfl) B1 (by omega))
    obtain ⟨w2, hww2⟩ : ∃ wn, wn = w1.setCell ⟨rb, 7, none⟩ (.slice none 0 0) := ⟨_, rfl⟩
    rw [← hww2]
    have B2 : Blk w2 rb 28 (cs.setIfInBounds 7 (.slice none 0 0)) := by rw [hww2]; exact B1.set 7 _
    have e2 : ∀ B, Exc B rb w1 w2 := by rw [hww2]; exact exc_set w1 rb 7 _
    clear hww2
    replace kk := kk.keep [159, 154, 6, 0] rfl
    refine opk 9 7 kk (frY rfl (k_assign rfl (kk.e 159 rfl))) ?_; clear kk; intro a kk
    change Code.wp _ _ _ _ _
    refine wp_seq ?_
    refine wpr 2 ?_
    refine opk 0 216 kk (frY rfl (k_move rfl (kk.e 7 rfl))) ?_; clear kk; intro a kk
    replace kk := kk.keep [216, 7, 154, 0] rfl
    refine opk 1 6 kk (frY rfl (k_assign rfl (kk.e 216 rfl))) ?_; clear kk; intro a kk
    refine wp_ret ?_
    refine hfin a _ ?_
    exact ⟨kk.d, _, results_tmp rfl _ _ _, _, rfl, (by rw [(kk.g 6 rfl), hk]; rfl), (fun y hy => by rw [hk] at hy; cases hy), ((Exc.of l1).trans (e2 _))⟩
  | some L =>
    rw [hk] at hLv
    obtain ⟨A, cap, rfl, hO⟩ := hLv
    replace kk := kk.keep [157, 155, 7, 6, 0] rfl
    refine opk 3 154 kk (frY rfl (k_move rfl (kk.e 157 rfl))) ?_; clear kk; intro a kk
    refine opk 4 158 (v := .slice A L.length cap) kk (frY rfl (k_extract rfl (kk.e 154 rfl) rfl)) ?_; clear kk; intro a kk
    refine opk 5 159 (v := .bool true) kk (frY rfl (k_extract rfl (kk.e 154 rfl) rfl)) ?_; clear kk; intro a kk
    refine opk 6 160 (v := .pointer (some ⟨rb, 0, none⟩)) kk (frY rfl (k_nil rfl (kk.e 155 rfl))) ?_; clear kk; intro a kk
    refine opk 7 161 (v := .pointer (some ⟨rb, 7, none⟩)) kk (frY rfl (k_field7 rfl (kk.e 160 rfl))) ?_; clear kk; intro a kk
    refine opL_store 8 (w' := (w1.setCell ⟨rb, 7, none⟩ (.slice A L.length cap))) (by kernel_rfl) ?_ ?_
    · exact frY rfl (k_storeL rfl (kk.e 161 rfl) (kk.e 158 rfl) B1 (by omega))
    obtain ⟨w2, hww2⟩ : ∃ wn, wn = w1.setCell ⟨rb, 7, none⟩ (.slice A L.length cap) := ⟨_, rfl⟩
    rw [← hww2]
    have B2 : Blk w2 rb 28 (cs.setIfInBounds 7 (.slice A L.length cap)) := by rw [hww2]; exact B1.set 7 _
    have e2 : ∀ B, Exc B rb w1 w2 := by rw [hww2]; exact exc_set w1 rb 7 _
    clear hww2
    replace kk := kk.keep [159, 154, 6, 0] rfl
    refine opk 9 7 kk (frY rfl (k_assign rfl (kk.e 159 rfl))) ?_; clear kk; intro a kk
    change Code.wp _ _ _ _ _
    refine wp_seq ?_
    refine wpr 2 ?_
    refine opk 0 216 kk (frY rfl (k_move rfl (kk.e 7 rfl))) ?_; clear kk; intro a kk
    replace kk := kk.keep [216, 7, 154, 0] rfl
    refine opk 1 6 kk (frY rfl (k_assign rfl (kk.e 216 rfl))) ?_; clear kk; intro a kk
    refine wp_ret ?_
    refine hfin a _ ?_
    exact ⟨kk.d, _, results_tmp rfl _ _ _, _, rfl, (by rw [(kk.g 6 rfl), hk]; rfl), (fun y hy => by rw [hk] at hy; cases hy; exact ⟨A, cap, hO.exc (e2 w1.heap.size) (fun g hg => ⟨(hO.lt g hg).2, by have := (hO.lt g hg).1; have := hB.lt; omega⟩), B2⟩), ((Exc.of l1).trans (e2 _))⟩
end Go.Proofs.YtjdjekpbjnkliaaGreatDoor
