/-
  The law's own value: the part UNTIL.
-/
import Derived.Test.YtjdjekpbjnkliaaGreatDoorRf2
import Derived.Test.YtjdjekpbjnkliaaGreatDoorRb9
import Derived.Test.YtjdjekpbjnkliaaGreatDoorRbd
namespace Go.Proofs.YtjdjekpbjnkliaaGreatDoor
open Go.RowKit
theorem c_lLong {w : World} {ρ : Operand → Value} {o : Oper} {x y : Operand} {v u : Value} (ho : o.op = .call ⟨.value (.func 58), #[x, y], #[3, 3]⟩) (hf : ρ (.func 58) = .func (.func 58) #[] #[]) (hx : ρ x = v) (hy : ρ y = u) : (execOp ρ o).run Tryz.prog w = .ok (.enter 58 #[v, u]) w := by
  simp only [execOp, ho]
  go_simp
theorem c_lAhead {w : World} {ρ : Operand → Value} {o : Oper} {x : Operand} {v : Value} (ho : o.op = .call ⟨.value (.func 59), #[x], #[3]⟩) (hf : ρ (.func 59) = .func (.func 59) #[] #[]) (hx : ρ x = v) : (execOp ρ o).run Tryz.prog w = .ok (.enter 59 #[v]) w := by
  simp only [execOp, ho]
  go_simp
theorem lawLong' (y m : Int) (w : World) (y1 : 0 ≤ y) (y2 : y ≤ 100000) : Calls Tryz.prog 58 #[.int .i64 y, .int .i64 m] w fun e w' => ∃ v, e = .returned v ∧ v = .int .i64 (Cal.dim y m) ∧ w = w' :=
  (lawLong_any y m w y1 y2).mono fun _ _ h => ⟨_, h.1, rfl, h.2⟩
theorem ahead' (y : Int) (w : World) (h0 : 1 ≤ y) (h1 : y ≤ 10000) : Calls Tryz.prog 59 #[.int .i64 y] w fun e w' => ∃ v, e = .returned v ∧ v = .int .i64 (Cal.dby y) ∧ Below w.heap.size w w' :=
  (ahead_any y w h0 h1).mono fun _ _ h => ⟨_, h.1, rfl, h.2⟩
theorem dby_bd {y : Int} (h1 : 1 ≤ y) (h2 : y ≤ 9999) : 0 ≤ Cal.dby y ∧ Cal.dby y ≤ 4000000 := by unfold Cal.dby; omega
structure LpU (rb : Nat) (s : List UInt8) (g cap i : Nat) (a : Act) : Prop where
  d : a.defers = []
  z : a.tmps.size = 217
  s0 : a.tmps.getD 0 undef = .pointer (some ⟨rb, 0, none⟩)
  s2 : a.tmps.getD 2 undef = .string ⟨(s).toArray⟩
  s68 : a.tmps.getD 68 undef = .slice (some ⟨g, 0, none⟩) s.length cap
  s69 : a.tmps.getD 69 undef = .int .i64 s.length
  s70 : a.tmps.getD 70 undef = .int .i64 i
  iN : i ≤ s.length
  dg : Rfc.Dig (s.take i)
structure LpV (rb : Nat) (Y M D i : Int) (a : Act) : Prop where
  d : a.defers = []
  z : a.tmps.size = 217
  s0 : a.tmps.getD 0 undef = .pointer (some ⟨rb, 0, none⟩)
  s13 : a.tmps.getD 13 undef = .int .i64 Y
  s14 : a.tmps.getD 14 undef = .int .i64 M
  s16 : a.tmps.getD 16 undef = .int .i64 (Cal.dby Y + D + Cal.cum Y i)
  s17 : a.tmps.getD 17 undef = .int .i64 i
  iN : 1 ≤ i ∧ i ≤ M

set_option maxRecDepth 100000 in
set_option maxHeartbeats 1000000 in
theorem lv_3 (rb : Nat) (cs : Array Value) (h8 : cs.size = 8) (s : List UInt8) (w : World) (hl : s.length ≤ 100000) (hB : Blk w rb 28 cs) :
    Calls Tryz.prog 23 #[.pointer (some ⟨rb, 0, none⟩), .string ⟨(Rfc.nm 3).toArray⟩, .string ⟨(s).toArray⟩] w fun e w' => ∃ v, e = .returned v ∧ (v = .bool (Rfc.pday s).isSome ∧ (∀ y, Rfc.pday s = some y → Blk w' rb 28 (cs.setIfInBounds 3 (.int .i64 y))) ∧ Exc w.heap.size rb w w') := by
  refine calls_of_wp Tryz.func23 (show Tryz.f23.body = some lvBody from rfl) ?_
  generalize hAA : (Act.mk (#[.pointer (some ⟨rb, 0, none⟩), .string ⟨(Rfc.nm 3).toArray⟩, .string ⟨(s).toArray⟩] ++ Array.replicate (Tryz.f23.ntmps - (#[.pointer (some ⟨rb, 0, none⟩), .string ⟨(Rfc.nm 3).toArray⟩, .string ⟨(s).toArray⟩] : Array Value).size) undef) []) = a
  have hs : a.tmps.size = 217 := by rw [← hAA]; simp [Tryz.ntmps23]
  have hd : a.defers = [] := by rw [← hAA]
  have h0 : a.tmps.getD 0 undef = .pointer (some ⟨rb, 0, none⟩) := by rw [← hAA]; simp
  have h1 : a.tmps.getD 1 undef = .string ⟨(Rfc.nm 3).toArray⟩ := by rw [← hAA]; simp
  have h2 : a.tmps.getD 2 undef = .string ⟨(s).toArray⟩ := by rw [← hAA]; simp
  clear hAA
  have kk := (((kn hs hd).p h0).p h1).p h2; clear hs hd h0 h1 h2
  suffices hq : ∀ Q : Exit → Act → World → Prop, (∀ (a' : Act) (w' : World), (bodyPost Tryz.prog Tryz.f23 fun e w' => ∃ v, e = .returned v ∧ (v = .bool (Rfc.pday s).isSome ∧ (∀ y, Rfc.pday s = some y → Blk w' rb 28 (cs.setIfInBounds 3 (.int .i64 y))) ∧ Exc w.heap.size rb w w')) .ret a' w' → Q .ret a' w') → lvBody.wp Tryz.prog Q a w from hq _ (fun _ _ h => h)
  intro Q hfin
  unfold lvBody
  conv => arg 2; whnf
  refine wp_seq ?_
  refine wpr 1 ?_
  refine opk 0 6 (v := .bool false) kk (frY rfl (k_assign rfl rfl)) ?_; clear kk; intro a kk
  refine wp_seq ?_
  refine wpr 1 ?_
  refine opk 0 7 (v := .bool false) kk (frY rfl (k_assign rfl rfl)) ?_; clear kk; intro a kk
  refine wp_seq ?_
  refine wp_seq ?_
  refine wpr 1 ?_
  refine opk 0 21 kk (frY rfl (k_move rfl (kk.e 1 rfl))) ?_; clear kk; intro a kk
  refine wp_block ?_
  refine wp_seq ?_
  refine wpr 2 ?_
  refine opk 0 23 (v := .bool false) kk (frY rfl (o_eqStr rfl (kk.e 21 rfl) rfl (by rw [list_of_ba, list_of_ba]; decide))) ?_; clear kk; intro a kk
  refine opk 1 22 kk (frY rfl (k_assign rfl (kk.e 23 rfl))) ?_; clear kk; intro a kk
  refine wp_cond_false (kk.e 22 rfl) ?_
  refine wp_seq ?_
  refine wpr 2 ?_
  refine opk 0 35 (v := .bool false) kk (frY rfl (o_eqStr rfl (kk.e 21 rfl) rfl (by rw [list_of_ba, list_of_ba]; decide))) ?_; clear kk; intro a kk
  refine opk 1 34 kk (frY rfl (k_assign rfl (kk.e 35 rfl))) ?_; clear kk; intro a kk
  refine wp_cond_false (kk.e 34 rfl) ?_
  refine wp_seq ?_
  refine wpr 2 ?_
  refine opk 0 45 (v := .bool false) kk (frY rfl (o_eqStr rfl (kk.e 21 rfl) rfl (by rw [list_of_ba, list_of_ba]; decide))) ?_; clear kk; intro a kk
  refine opk 1 44 kk (frY rfl (k_assign rfl (kk.e 45 rfl))) ?_; clear kk; intro a kk
  refine wp_cond_false (kk.e 44 rfl) ?_
  refine wp_seq ?_
  refine wpr 2 ?_
  refine opk 0 63 (v := .bool true) kk (frY rfl (o_eqStr rfl (kk.e 21 rfl) rfl (by rw [list_of_ba, list_of_ba]; decide))) ?_; clear kk; intro a kk
  refine opk 1 62 kk (frY rfl (k_assign rfl (kk.e 63 rfl))) ?_; clear kk; intro a kk
  refine wp_cond_true (kk.e 62 rfl) ?_
  by_cases h8s : s.length = 8
  rotate_left
  · have hk : Rfc.pday s = none := Rfc.pday_len h8s
    refine wp_seq ?_
    refine wp_seq ?_
    refine wpr 3 ?_
    refine opk 0 64 kk (frY rfl (k_move rfl (kk.e 2 rfl))) ?_; clear kk; intro a kk
    refine opk 1 65 (v := .int .i64 ((⟨s.toArray⟩ : ByteArray).size : Nat)) kk (frY rfl (k_lenT rfl (kk.e 64 rfl))) ?_; clear kk; intro a kk
    refine opk 2 66 (v := .bool true) kk (frY rfl (o_neI rfl (kk.e 65 rfl) rfl (by rw [ba_len, bne_iff_ne]; omega))) ?_; clear kk; intro a kk
    refine wp_cond_true (kk.e 66 rfl) ?_
    refine wp_seq ?_
    refine wpr 1 ?_
    replace kk := kk.keep [2, 0] rfl
    refine opk 0 6 (v := .bool false) kk (frY rfl (k_assign rfl rfl)) ?_; clear kk; intro a kk
    refine wp_ret ?_
    refine hfin a _ ?_
    exact ⟨kk.d, _, results_tmp rfl _ _ _, _, rfl, (by rw [(kk.g 6 rfl), hk]; rfl), (fun y hy => by rw [hk] at hy; cases hy), (Exc.refl _ _ _)⟩
  refine wp_seq ?_
  refine wp_seq ?_
  refine wpr 3 ?_
  refine opk 0 64 kk (frY rfl (k_move rfl (kk.e 2 rfl))) ?_; clear kk; intro a kk
  refine opk 1 65 (v := .int .i64 ((⟨s.toArray⟩ : ByteArray).size : Nat)) kk (frY rfl (k_lenT rfl (kk.e 64 rfl))) ?_; clear kk; intro a kk
  refine opk 2 66 (v := .bool false) kk (frY rfl (o_neI rfl (kk.e 65 rfl) rfl (by rw [ba_len, h8s]; rfl))) ?_; clear kk; intro a kk
  refine wp_cond_false (kk.e 66 rfl) ?_
  refine wp_skip ?_
  refine wp_seq ?_
  refine wp_seq ?_
  refine wpr 4 ?_
  replace kk := kk.keep [2, 0] rfl
  refine opk 0 67 kk (frY rfl (k_move rfl (kk.e 2 rfl))) ?_; clear kk; intro a kk
  refine opk 1 68 (v := .slice (some ⟨w.heap.size, 0, none⟩) s.length (grownCap w s.length 0 5)) (w' := (Lib.bytesWorld w 5 ⟨s.toArray⟩)) kk (frY rfl (k_convB rfl (kk.e 67 rfl))) ?_; clear kk; intro a kk
  obtain ⟨wb, hwb⟩ : ∃ wn, wn = Lib.bytesWorld w 5 ⟨s.toArray⟩ := ⟨_, rfl⟩
  rw [← hwb]
  have l1 : Below w.heap.size w wb := by rw [hwb]; exact bytes_below' w _ _
  have hcell : ∀ j (h : j < s.length), wb.cell? ((⟨w.heap.size, 0, none⟩ : Addr).add j) = some (.int .u8 (s[j].toNat : Nat)) := fun j hj => by
    rw [addr_lit, Nat.zero_add, hwb, Lib.bytesWorld_cell _ _ _ _ (by rw [ba_len]; exact hj)]
    simp [List.getD_eq_getElem?_getD, hj]
  clear hwb
  generalize (grownCap w s.length 0 5) = cap
  refine opk 2 69 (v := .int .i64 s.length) kk (frY rfl (k_lenB rfl (kk.e 68 rfl))) ?_; clear kk; intro a kk
  refine opk 3 70 (v := .int .i64 0) kk (frY rfl (k_move rfl rfl)) ?_; clear kk; intro a kk
  refine wp_block ?_
  refine wp_loop (fun a wx => wb = wx ∧ ∃ i cap, LpU rb s w.heap.size cap i a) (fun a _ => (s.length - intOf (a.tmps.getD 70 undef)).toNat) ⟨rfl, 0, _, ⟨kk.d, kk.z, (kk.g 0 rfl), (kk.g 2 rfl), (kk.g 68 rfl), (kk.g 69 rfl), (kk.g 70 rfl), Nat.zero_le _, fun c hc => by cases hc⟩⟩ ?_
  clear kk a
  rintro a wx ⟨rfl, i, cap, ⟨hd, hs, h0, h2, h68, h69, h70, hi, dg⟩⟩
  have kk := (((((kn hs hd).p h0).p h2).p h68).p h69).p h70; clear hs hd h0 h2 h68 h69 h70
  by_cases hlt : i < s.length
  · have hce := hcell i hlt
    have e70 := (kk.g 70 rfl)
    rw [e70]
    clear e70
    by_cases hc1 : s[i].toNat < 48
    · have hk : Rfc.pday s = none := Rfc.pday_dig (fun h => by have := h s[i] (List.getElem_mem hlt); omega)
      refine wp_seq ?_
      refine wpr 1 ?_
      refine opk 0 71 (v := .bool true) kk (frY rfl (o_ltI rfl (kk.e 70 rfl) (kk.e 69 rfl) (decide_eq_true (by omega)))) ?_; clear kk; intro a kk
      refine wp_seq ?_
      refine wp_cond_true (kk.e 71 rfl) ?_
      refine wp_skip ?_
      refine wp_seq ?_
      refine wp_block ?_
      refine wp_seq ?_
      refine wpr 3 ?_
      refine opk 0 72 (v := .pointer (some ((⟨w.heap.size, 0, none⟩ : Addr).add i))) kk (frY rfl (k_atB rfl (kk.e 68 rfl) (kk.e 70 rfl) hlt)) ?_; clear kk; intro a kk
      refine opk 1 73 (v := .int .u8 (s[i].toNat : Nat)) kk (frY rfl (k_loadB rfl (kk.e 72 rfl) hce)) ?_; clear kk; intro a kk
      refine opk 2 10 kk (frY rfl (k_assign rfl (kk.e 73 rfl))) ?_; clear kk; intro a kk
      refine wp_seq ?_
      refine wpr 6 ?_
      refine opk 0 74 kk (frY rfl (k_move rfl (kk.e 10 rfl))) ?_; clear kk; intro a kk
      refine opk 1 75 (v := .bool true) kk (frY rfl (o_ltB rfl (kk.e 74 rfl) rfl (decide_eq_true (by omega)))) ?_; clear kk; intro a kk
      refine opk 2 76 kk (frY rfl (k_move rfl (kk.e 75 rfl))) ?_; clear kk; intro a kk
      refine opkn 3 77 kk (frX (wanted_at (b := true) (want := false) rfl (by kernel_rfl) (kk.g 76 rfl))) ?_; clear kk; intro a kk
      refine opkn 4 78 kk (frX (wanted_at (b := true) (want := false) rfl (by kernel_rfl) (kk.g 76 rfl))) ?_; clear kk; intro a kk
      refine opk 5 79 (v := .bool true) kk (frY rfl (k_pick_yes rfl (kk.e 76 rfl) rfl)) ?_; clear kk; intro a kk
      refine wp_cond_true (kk.e 79 rfl) ?_
      refine wp_seq ?_
      refine wpr 1 ?_
      refine opk 0 6 (v := .bool false) kk (frY rfl (k_assign rfl rfl)) ?_; clear kk; intro a kk
      refine wp_ret ?_
      refine hfin a _ ?_
      exact ⟨kk.d, _, results_tmp rfl _ _ _, _, rfl, (by rw [(kk.g 6 rfl), hk]; rfl), (fun y hy => by rw [hk] at hy; cases hy), (Exc.of l1)⟩
    by_cases hc2 : 57 < s[i].toNat
    · have hk : Rfc.pday s = none := Rfc.pday_dig (fun h => by have := h s[i] (List.getElem_mem hlt); omega)
      refine wp_seq ?_
      refine wpr 1 ?_
      refine opk 0 71 (v := .bool true) kk (frY rfl (o_ltI rfl (kk.e 70 rfl) (kk.e 69 rfl) (decide_eq_true (by omega)))) ?_; clear kk; intro a kk
      refine wp_seq ?_
      refine wp_cond_true (kk.e 71 rfl) ?_
      refine wp_skip ?_
      refine wp_seq ?_
      refine wp_block ?_
      refine wp_seq ?_
      refine wpr 3 ?_
      refine opk 0 72 (v := .pointer (some ((⟨w.heap.size, 0, none⟩ : Addr).add i))) kk (frY rfl (k_atB rfl (kk.e 68 rfl) (kk.e 70 rfl) hlt)) ?_; clear kk; intro a kk
      refine opk 1 73 (v := .int .u8 (s[i].toNat : Nat)) kk (frY rfl (k_loadB rfl (kk.e 72 rfl) hce)) ?_; clear kk; intro a kk
      refine opk 2 10 kk (frY rfl (k_assign rfl (kk.e 73 rfl))) ?_; clear kk; intro a kk
      refine wp_seq ?_
      refine wpr 6 ?_
      refine opk 0 74 kk (frY rfl (k_move rfl (kk.e 10 rfl))) ?_; clear kk; intro a kk
      refine opk 1 75 (v := .bool false) kk (frY rfl (o_ltB rfl (kk.e 74 rfl) rfl (decide_eq_false (by omega)))) ?_; clear kk; intro a kk
      refine opk 2 76 kk (frY rfl (k_move rfl (kk.e 75 rfl))) ?_; clear kk; intro a kk
      refine opk 3 77 kk (frY (wanted_at (b := false) (want := false) rfl (by kernel_rfl) (kk.g 76 rfl)) (k_move rfl (kk.e 10 rfl))) ?_; clear kk; intro a kk
      refine opk 4 78 (v := .bool true) kk (frY (wanted_at (b := false) (want := false) rfl (by kernel_rfl) (kk.g 76 rfl)) (o_gtB rfl (kk.e 77 rfl) rfl (decide_eq_true (by omega)))) ?_; clear kk; intro a kk
      refine opk 5 79 (v := .bool true) kk (frY rfl (k_pick_no rfl (kk.e 76 rfl) (kk.e 78 rfl))) ?_; clear kk; intro a kk
      refine wp_cond_true (kk.e 79 rfl) ?_
      refine wp_seq ?_
      refine wpr 1 ?_
      refine opk 0 6 (v := .bool false) kk (frY rfl (k_assign rfl rfl)) ?_; clear kk; intro a kk
      refine wp_ret ?_
      refine hfin a _ ?_
      exact ⟨kk.d, _, results_tmp rfl _ _ _, _, rfl, (by rw [(kk.g 6 rfl), hk]; rfl), (fun y hy => by rw [hk] at hy; cases hy), (Exc.of l1)⟩
    refine wp_seq ?_
    refine wpr 1 ?_
    refine opk 0 71 (v := .bool true) kk (frY rfl (o_ltI rfl (kk.e 70 rfl) (kk.e 69 rfl) (decide_eq_true (by omega)))) ?_; clear kk; intro a kk
    refine wp_seq ?_
    refine wp_cond_true (kk.e 71 rfl) ?_
    refine wp_skip ?_
    refine wp_seq ?_
    refine wp_block ?_
    refine wp_seq ?_
    refine wpr 3 ?_
    refine opk 0 72 (v := .pointer (some ((⟨w.heap.size, 0, none⟩ : Addr).add i))) kk (frY rfl (k_atB rfl (kk.e 68 rfl) (kk.e 70 rfl) hlt)) ?_; clear kk; intro a kk
    refine opk 1 73 (v := .int .u8 (s[i].toNat : Nat)) kk (frY rfl (k_loadB rfl (kk.e 72 rfl) hce)) ?_; clear kk; intro a kk
    refine opk 2 10 kk (frY rfl (k_assign rfl (kk.e 73 rfl))) ?_; clear kk; intro a kk
    refine wp_seq ?_
    refine wpr 6 ?_
    refine opk 0 74 kk (frY rfl (k_move rfl (kk.e 10 rfl))) ?_; clear kk; intro a kk
    refine opk 1 75 (v := .bool false) kk (frY rfl (o_ltB rfl (kk.e 74 rfl) rfl (decide_eq_false (by omega)))) ?_; clear kk; intro a kk
    refine opk 2 76 kk (frY rfl (k_move rfl (kk.e 75 rfl))) ?_; clear kk; intro a kk
    refine opk 3 77 kk (frY (wanted_at (b := false) (want := false) rfl (by kernel_rfl) (kk.g 76 rfl)) (k_move rfl (kk.e 10 rfl))) ?_; clear kk; intro a kk
    refine opk 4 78 (v := .bool false) kk (frY (wanted_at (b := false) (want := false) rfl (by kernel_rfl) (kk.g 76 rfl)) (o_gtB rfl (kk.e 77 rfl) rfl (decide_eq_false (by omega)))) ?_; clear kk; intro a kk
    refine opk 5 79 (v := .bool false) kk (frY rfl (k_pick_no rfl (kk.e 76 rfl) (kk.e 78 rfl))) ?_; clear kk; intro a kk
    refine wp_cond_false (kk.e 79 rfl) ?_
    refine wp_skip ?_
    refine wpr 2 ?_
    refine opk 0 80 (v := .int .i64 (i + 1 : Nat)) kk (frY rfl (o_addI rfl (kk.e 70 rfl) rfl (wrap_small (n := (i : Int) + 1) (by omega) (by omega)))) ?_; clear kk; intro a kk
    replace kk := kk.keep [80, 10, 69, 68, 2, 0] rfl
    refine opk 1 70 kk (frY rfl (k_move rfl (kk.e 80 rfl))) ?_; clear kk; intro a kk
    refine ⟨⟨rfl, i + 1, cap, kk.d, kk.z, (kk.g 0 rfl), (kk.g 2 rfl), (kk.g 68 rfl), (kk.g 69 rfl), (kk.g 70 rfl), hlt, ?_⟩, ?_⟩
    ·
      rw [List.take_succ_eq_append_getElem hlt]
      intro c hcm
      rcases List.mem_append.1 hcm with hcm | hcm
      · exact dg c hcm
      ·
        rw [List.mem_singleton.1 hcm]
        exact ⟨by omega, by omega⟩
    ·
      rw [(kk.g 70 rfl)]
      simp only [intOf]
      omega
  obtain rfl : i = s.length := by omega
  rw [List.take_length] at dg
  refine wp_seq ?_
  refine wpr 1 ?_
  refine opk 0 71 (v := .bool false) kk (frY rfl (o_ltI rfl (kk.e 70 rfl) (kk.e 69 rfl) (decide_eq_false (by omega)))) ?_; clear kk; intro a kk
  refine wp_seq ?_
  refine wp_cond_false (kk.e 71 rfl) ?_
  refine wp_exit ?_
  change Code.wp _ _ _ _ _
  obtain ⟨Y, M, D, eY, ⟨HH, eH, eM⟩, eD, bY, bM, bD, hgood, hbad⟩ := Rfc.pday_facts h8s dg
  refine wp_seq ?_
  refine wpr 7 ?_
  refine opk 0 82 kk (frY rfl (k_move rfl (kk.e 2 rfl))) ?_; clear kk; intro a kk
  have hc := atoi_ok s (Rfc.dv s : Int) wb (by omega) (Rfc.atoi_dig (by rintro rfl; cases h8s) (by omega) dg)
  refine opkc 1 83 kk hc (frY rfl (c_Atoi rfl rfl (kk.e 82 rfl))) ?_; clear kk hc
  rintro _ wc a ⟨rfl, l2⟩ F0
  have kk := F0; clear F0
  replace l1 := l1.trans (l2.mono l1.size)
  clear l2 hcell
  refine opk 2 81 kk (frY rfl (k_move rfl (kk.e 83 rfl))) ?_; clear kk; intro a kk
  refine opk 3 84 (v := .int .i64 (Rfc.dv s : Int)) kk (frY rfl (k_extract rfl (kk.e 81 rfl) rfl)) ?_; clear kk; intro a kk
  refine opk 4 85 (v := .nilIface) kk (frY rfl (k_extract rfl (kk.e 81 rfl) rfl)) ?_; clear kk; intro a kk
  refine opk 5 11 kk (frY rfl (k_assign rfl (kk.e 84 rfl))) ?_; clear kk; intro a kk
  refine opk 6 12 kk (frY rfl (k_assign rfl (kk.e 85 rfl))) ?_; clear kk; intro a kk
  refine wp_seq ?_
  refine wpr 10 ?_
  refine opk 0 86 kk (frY rfl (k_move rfl (kk.e 11 rfl))) ?_; clear kk; intro a kk
  refine opk 1 87 (v := .int .i64 Y) kk (frY rfl (o_quoI rfl (kk.e 86 rfl) rfl (by decide) eY)) ?_; clear kk; intro a kk
  refine opk 2 88 kk (frY rfl (k_move rfl (kk.e 11 rfl))) ?_; clear kk; intro a kk
  refine opk 3 89 (v := .int .i64 HH) kk (frY rfl (o_quoI rfl (kk.e 88 rfl) rfl (by decide) eH)) ?_; clear kk; intro a kk
  refine opk 4 90 (v := .int .i64 M) kk (frY rfl (o_remI rfl (kk.e 89 rfl) rfl (by decide) eM)) ?_; clear kk; intro a kk
  refine opk 5 91 kk (frY rfl (k_move rfl (kk.e 11 rfl))) ?_; clear kk; intro a kk
  replace kk := kk.keep [91, 90, 87, 0] rfl
  refine opk 6 92 (v := .int .i64 D) kk (frY rfl (o_remI rfl (kk.e 91 rfl) rfl (by decide) eD)) ?_; clear kk; intro a kk
  refine opk 7 13 kk (frY rfl (k_assign rfl (kk.e 87 rfl))) ?_; clear kk; intro a kk
  refine opk 8 14 kk (frY rfl (k_assign rfl (kk.e 90 rfl))) ?_; clear kk; intro a kk
  refine opk 9 15 kk (frY rfl (k_assign rfl (kk.e 92 rfl))) ?_; clear kk; intro a kk
  refine wp_seq ?_
  have hC : Y < 1 ∨ (1 ≤ Y ∧ M < 1) ∨ (1 ≤ Y ∧ 1 ≤ M ∧ 12 < M) ∨ (1 ≤ Y ∧ 1 ≤ M ∧ M ≤ 12 ∧ D < 1) ∨ (1 ≤ Y ∧ 1 ≤ M ∧ M ≤ 12 ∧ 1 ≤ D ∧ Cal.dim Y M < D) ∨ (1 ≤ Y ∧ 1 ≤ M ∧ M ≤ 12 ∧ 1 ≤ D ∧ D ≤ Cal.dim Y M) := by omega
  rcases hC with g | g | g | g | g | g
  · have hk : Rfc.pday s = none := hbad (by omega)
    refine wp_seq ?_
    refine wpr 21 ?_
    refine opk 0 93 kk (frY rfl (k_move rfl (kk.e 13 rfl))) ?_; clear kk; intro a kk
    refine opk 1 94 (v := .bool true) kk (frY rfl (o_ltI rfl (kk.e 93 rfl) rfl (decide_eq_true (by omega)))) ?_; clear kk; intro a kk
    refine opk 2 95 kk (frY rfl (k_move rfl (kk.e 94 rfl))) ?_; clear kk; intro a kk
    refine opkn 3 96 kk (frX (wanted_at (b := true) (want := false) rfl (by kernel_rfl) (kk.g 95 rfl))) ?_; clear kk; intro a kk
    refine opkn 4 97 kk (frX (wanted_at (b := true) (want := false) rfl (by kernel_rfl) (kk.g 95 rfl))) ?_; clear kk; intro a kk
    refine opk 5 98 (v := .bool true) kk (frY rfl (k_pick_yes rfl (kk.e 95 rfl) rfl)) ?_; clear kk; intro a kk
    refine opk 6 99 kk (frY rfl (k_move rfl (kk.e 98 rfl))) ?_; clear kk; intro a kk
    refine opkn 7 100 kk (frX (wanted_at (b := true) (want := false) rfl (by kernel_rfl) (kk.g 99 rfl))) ?_; clear kk; intro a kk
    refine opkn 8 101 kk (frX (wanted_at (b := true) (want := false) rfl (by kernel_rfl) (kk.g 99 rfl))) ?_; clear kk; intro a kk
    refine opk 9 102 (v := .bool true) kk (frY rfl (k_pick_yes rfl (kk.e 99 rfl) rfl)) ?_; clear kk; intro a kk
    refine opk 10 103 kk (frY rfl (k_move rfl (kk.e 102 rfl))) ?_; clear kk; intro a kk
    refine opkn 11 104 kk (frX (wanted_at (b := true) (want := false) rfl (by kernel_rfl) (kk.g 103 rfl))) ?_; clear kk; intro a kk
    refine opkn 12 105 kk (frX (wanted_at (b := true) (want := false) rfl (by kernel_rfl) (kk.g 103 rfl))) ?_; clear kk; intro a kk
    replace kk := kk.keep [103, 15, 14, 13, 0] rfl
    refine opk 13 106 (v := .bool true) kk (frY rfl (k_pick_yes rfl (kk.e 103 rfl) rfl)) ?_; clear kk; intro a kk
    refine opk 14 107 kk (frY rfl (k_move rfl (kk.e 106 rfl))) ?_; clear kk; intro a kk
    refine opkn 15 108 kk (frX (wanted_at (b := true) (want := false) rfl (by kernel_rfl) (kk.g 107 rfl))) ?_; clear kk; intro a kk
    refine opkn 16 109 kk (frX (wanted_at (b := true) (want := false) rfl (by kernel_rfl) (kk.g 107 rfl))) ?_; clear kk; intro a kk
    refine opkn 17 110 kk (frX (wanted_at (b := true) (want := false) rfl (by kernel_rfl) (kk.g 107 rfl))) ?_; clear kk; intro a kk
    refine opkn 18 111 kk (frX (wanted_at (b := true) (want := false) rfl (by kernel_rfl) (kk.g 107 rfl))) ?_; clear kk; intro a kk
    refine opkn 19 112 kk (frX (wanted_at (b := true) (want := false) rfl (by kernel_rfl) (kk.g 107 rfl))) ?_; clear kk; intro a kk
    refine opk 20 113 (v := .bool true) kk (frY rfl (k_pick_yes rfl (kk.e 107 rfl) rfl)) ?_; clear kk; intro a kk
    refine wp_cond_true (kk.e 113 rfl) ?_
    refine wp_seq ?_
    refine wpr 1 ?_
    refine opk 0 6 (v := .bool false) kk (frY rfl (k_assign rfl rfl)) ?_; clear kk; intro a kk
    refine wp_ret ?_
    refine hfin a _ ?_
    exact ⟨kk.d, _, results_tmp rfl _ _ _, _, rfl, (by rw [(kk.g 6 rfl), hk]; rfl), (fun y hy => by rw [hk] at hy; cases hy), (Exc.of l1)⟩
  · have hk : Rfc.pday s = none := hbad (by omega)
    refine wp_seq ?_
    refine wpr 21 ?_
    refine opk 0 93 kk (frY rfl (k_move rfl (kk.e 13 rfl))) ?_; clear kk; intro a kk
    refine opk 1 94 (v := .bool false) kk (frY rfl (o_ltI rfl (kk.e 93 rfl) rfl (decide_eq_false (by omega)))) ?_; clear kk; intro a kk
    refine opk 2 95 kk (frY rfl (k_move rfl (kk.e 94 rfl))) ?_; clear kk; intro a kk
    refine opk 3 96 kk (frY (wanted_at (b := false) (want := false) rfl (by kernel_rfl) (kk.g 95 rfl)) (k_move rfl (kk.e 14 rfl))) ?_; clear kk; intro a kk
    refine opk 4 97 (v := .bool true) kk (frY (wanted_at (b := false) (want := false) rfl (by kernel_rfl) (kk.g 95 rfl)) (o_ltI rfl (kk.e 96 rfl) rfl (decide_eq_true (by omega)))) ?_; clear kk; intro a kk
    refine opk 5 98 (v := .bool true) kk (frY rfl (k_pick_no rfl (kk.e 95 rfl) (kk.e 97 rfl))) ?_; clear kk; intro a kk
    refine opk 6 99 kk (frY rfl (k_move rfl (kk.e 98 rfl))) ?_; clear kk; intro a kk
    refine opkn 7 100 kk (frX (wanted_at (b := true) (want := false) rfl (by kernel_rfl) (kk.g 99 rfl))) ?_; clear kk; intro a kk
    refine opkn 8 101 kk (frX (wanted_at (b := true) (want := false) rfl (by kernel_rfl) (kk.g 99 rfl))) ?_; clear kk; intro a kk
    refine opk 9 102 (v := .bool true) kk (frY rfl (k_pick_yes rfl (kk.e 99 rfl) rfl)) ?_; clear kk; intro a kk
    refine opk 10 103 kk (frY rfl (k_move rfl (kk.e 102 rfl))) ?_; clear kk; intro a kk
    refine opkn 11 104 kk (frX (wanted_at (b := true) (want := false) rfl (by kernel_rfl) (kk.g 103 rfl))) ?_; clear kk; intro a kk
    refine opkn 12 105 kk (frX (wanted_at (b := true) (want := false) rfl (by kernel_rfl) (kk.g 103 rfl))) ?_; clear kk; intro a kk
    replace kk := kk.keep [103, 15, 14, 13, 0] rfl
    refine opk 13 106 (v := .bool true) kk (frY rfl (k_pick_yes rfl (kk.e 103 rfl) rfl)) ?_; clear kk; intro a kk
    refine opk 14 107 kk (frY rfl (k_move rfl (kk.e 106 rfl))) ?_; clear kk; intro a kk
    refine opkn 15 108 kk (frX (wanted_at (b := true) (want := false) rfl (by kernel_rfl) (kk.g 107 rfl))) ?_; clear kk; intro a kk
    refine opkn 16 109 kk (frX (wanted_at (b := true) (want := false) rfl (by kernel_rfl) (kk.g 107 rfl))) ?_; clear kk; intro a kk
    refine opkn 17 110 kk (frX (wanted_at (b := true) (want := false) rfl (by kernel_rfl) (kk.g 107 rfl))) ?_; clear kk; intro a kk
    refine opkn 18 111 kk (frX (wanted_at (b := true) (want := false) rfl (by kernel_rfl) (kk.g 107 rfl))) ?_; clear kk; intro a kk
    refine opkn 19 112 kk (frX (wanted_at (b := true) (want := false) rfl (by kernel_rfl) (kk.g 107 rfl))) ?_; clear kk; intro a kk
    refine opk 20 113 (v := .bool true) kk (frY rfl (k_pick_yes rfl (kk.e 107 rfl) rfl)) ?_; clear kk; intro a kk
    refine wp_cond_true (kk.e 113 rfl) ?_
    refine wp_seq ?_
    refine wpr 1 ?_
    refine opk 0 6 (v := .bool false) kk (frY rfl (k_assign rfl rfl)) ?_; clear kk; intro a kk
    refine wp_ret ?_
    refine hfin a _ ?_
    exact ⟨kk.d, _, results_tmp rfl _ _ _, _, rfl, (by rw [(kk.g 6 rfl), hk]; rfl), (fun y hy => by rw [hk] at hy; cases hy), (Exc.of l1)⟩
  · have hk : Rfc.pday s = none := hbad (by omega)
    refine wp_seq ?_
    refine wpr 21 ?_
    refine opk 0 93 kk (frY rfl (k_move rfl (kk.e 13 rfl))) ?_; clear kk; intro a kk
    refine opk 1 94 (v := .bool false) kk (frY rfl (o_ltI rfl (kk.e 93 rfl) rfl (decide_eq_false (by omega)))) ?_; clear kk; intro a kk
    refine opk 2 95 kk (frY rfl (k_move rfl (kk.e 94 rfl))) ?_; clear kk; intro a kk
    refine opk 3 96 kk (frY (wanted_at (b := false) (want := false) rfl (by kernel_rfl) (kk.g 95 rfl)) (k_move rfl (kk.e 14 rfl))) ?_; clear kk; intro a kk
    refine opk 4 97 (v := .bool false) kk (frY (wanted_at (b := false) (want := false) rfl (by kernel_rfl) (kk.g 95 rfl)) (o_ltI rfl (kk.e 96 rfl) rfl (decide_eq_false (by omega)))) ?_; clear kk; intro a kk
    refine opk 5 98 (v := .bool false) kk (frY rfl (k_pick_no rfl (kk.e 95 rfl) (kk.e 97 rfl))) ?_; clear kk; intro a kk
    refine opk 6 99 kk (frY rfl (k_move rfl (kk.e 98 rfl))) ?_; clear kk; intro a kk
    refine opk 7 100 kk (frY (wanted_at (b := false) (want := false) rfl (by kernel_rfl) (kk.g 99 rfl)) (k_move rfl (kk.e 14 rfl))) ?_; clear kk; intro a kk
    refine opk 8 101 (v := .bool true) kk (frY (wanted_at (b := false) (want := false) rfl (by kernel_rfl) (kk.g 99 rfl)) (o_gtI rfl (kk.e 100 rfl) rfl (decide_eq_true (by omega)))) ?_; clear kk; intro a kk
    refine opk 9 102 (v := .bool true) kk (frY rfl (k_pick_no rfl (kk.e 99 rfl) (kk.e 101 rfl))) ?_; clear kk; intro a kk
    refine opk 10 103 kk (frY rfl (k_move rfl (kk.e 102 rfl))) ?_; clear kk; intro a kk
    refine opkn 11 104 kk (frX (wanted_at (b := true) (want := false) rfl (by kernel_rfl) (kk.g 103 rfl))) ?_; clear kk; intro a kk
    refine opkn 12 105 kk (frX (wanted_at (b := true) (want := false) rfl (by kernel_rfl) (kk.g 103 rfl))) ?_; clear kk; intro a kk
    replace kk := kk.keep [103, 15, 14, 13, 0] rfl
    refine opk 13 106 (v := .bool true) kk (frY rfl (k_pick_yes rfl (kk.e 103 rfl) rfl)) ?_; clear kk; intro a kk
    refine opk 14 107 kk (frY rfl (k_move rfl (kk.e 106 rfl))) ?_; clear kk; intro a kk
    refine opkn 15 108 kk (frX (wanted_at (b := true) (want := false) rfl (by kernel_rfl) (kk.g 107 rfl))) ?_; clear kk; intro a kk
    refine opkn 16 109 kk (frX (wanted_at (b := true) (want := false) rfl (by kernel_rfl) (kk.g 107 rfl))) ?_; clear kk; intro a kk
    refine opkn 17 110 kk (frX (wanted_at (b := true) (want := false) rfl (by kernel_rfl) (kk.g 107 rfl))) ?_; clear kk; intro a kk
    refine opkn 18 111 kk (frX (wanted_at (b := true) (want := false) rfl (by kernel_rfl) (kk.g 107 rfl))) ?_; clear kk; intro a kk
    refine opkn 19 112 kk (frX (wanted_at (b := true) (want := false) rfl (by kernel_rfl) (kk.g 107 rfl))) ?_; clear kk; intro a kk
    refine opk 20 113 (v := .bool true) kk (frY rfl (k_pick_yes rfl (kk.e 107 rfl) rfl)) ?_; clear kk; intro a kk
    refine wp_cond_true (kk.e 113 rfl) ?_
    refine wp_seq ?_
    refine wpr 1 ?_
    refine opk 0 6 (v := .bool false) kk (frY rfl (k_assign rfl rfl)) ?_; clear kk; intro a kk
    refine wp_ret ?_
    refine hfin a _ ?_
    exact ⟨kk.d, _, results_tmp rfl _ _ _, _, rfl, (by rw [(kk.g 6 rfl), hk]; rfl), (fun y hy => by rw [hk] at hy; cases hy), (Exc.of l1)⟩
  · have hk : Rfc.pday s = none := hbad (by omega)
    refine wp_seq ?_
    refine wpr 21 ?_
    refine opk 0 93 kk (frY rfl (k_move rfl (kk.e 13 rfl))) ?_; clear kk; intro a kk
    refine opk 1 94 (v := .bool false) kk (frY rfl (o_ltI rfl (kk.e 93 rfl) rfl (decide_eq_false (by omega)))) ?_; clear kk; intro a kk
    refine opk 2 95 kk (frY rfl (k_move rfl (kk.e 94 rfl))) ?_; clear kk; intro a kk
    refine opk 3 96 kk (frY (wanted_at (b := false) (want := false) rfl (by kernel_rfl) (kk.g 95 rfl)) (k_move rfl (kk.e 14 rfl))) ?_; clear kk; intro a kk
    refine opk 4 97 (v := .bool false) kk (frY (wanted_at (b := false) (want := false) rfl (by kernel_rfl) (kk.g 95 rfl)) (o_ltI rfl (kk.e 96 rfl) rfl (decide_eq_false (by omega)))) ?_; clear kk; intro a kk
    refine opk 5 98 (v := .bool false) kk (frY rfl (k_pick_no rfl (kk.e 95 rfl) (kk.e 97 rfl))) ?_; clear kk; intro a kk
    refine opk 6 99 kk (frY rfl (k_move rfl (kk.e 98 rfl))) ?_; clear kk; intro a kk
    refine opk 7 100 kk (frY (wanted_at (b := false) (want := false) rfl (by kernel_rfl) (kk.g 99 rfl)) (k_move rfl (kk.e 14 rfl))) ?_; clear kk; intro a kk
    refine opk 8 101 (v := .bool false) kk (frY (wanted_at (b := false) (want := false) rfl (by kernel_rfl) (kk.g 99 rfl)) (o_gtI rfl (kk.e 100 rfl) rfl (decide_eq_false (by omega)))) ?_; clear kk; intro a kk
    refine opk 9 102 (v := .bool false) kk (frY rfl (k_pick_no rfl (kk.e 99 rfl) (kk.e 101 rfl))) ?_; clear kk; intro a kk
    refine opk 10 103 kk (frY rfl (k_move rfl (kk.e 102 rfl))) ?_; clear kk; intro a kk
    refine opk 11 104 kk (frY (wanted_at (b := false) (want := false) rfl (by kernel_rfl) (kk.g 103 rfl)) (k_move rfl (kk.e 15 rfl))) ?_; clear kk; intro a kk
    refine opk 12 105 (v := .bool true) kk (frY (wanted_at (b := false) (want := false) rfl (by kernel_rfl) (kk.g 103 rfl)) (o_ltI rfl (kk.e 104 rfl) rfl (decide_eq_true (by omega)))) ?_; clear kk; intro a kk
    replace kk := kk.keep [105, 103, 15, 14, 13, 0] rfl
    refine opk 13 106 (v := .bool true) kk (frY rfl (k_pick_no rfl (kk.e 103 rfl) (kk.e 105 rfl))) ?_; clear kk; intro a kk
    refine opk 14 107 kk (frY rfl (k_move rfl (kk.e 106 rfl))) ?_; clear kk; intro a kk
    refine opkn 15 108 kk (frX (wanted_at (b := true) (want := false) rfl (by kernel_rfl) (kk.g 107 rfl))) ?_; clear kk; intro a kk
    refine opkn 16 109 kk (frX (wanted_at (b := true) (want := false) rfl (by kernel_rfl) (kk.g 107 rfl))) ?_; clear kk; intro a kk
    refine opkn 17 110 kk (frX (wanted_at (b := true) (want := false) rfl (by kernel_rfl) (kk.g 107 rfl))) ?_; clear kk; intro a kk
    refine opkn 18 111 kk (frX (wanted_at (b := true) (want := false) rfl (by kernel_rfl) (kk.g 107 rfl))) ?_; clear kk; intro a kk
    refine opkn 19 112 kk (frX (wanted_at (b := true) (want := false) rfl (by kernel_rfl) (kk.g 107 rfl))) ?_; clear kk; intro a kk
    refine opk 20 113 (v := .bool true) kk (frY rfl (k_pick_yes rfl (kk.e 107 rfl) rfl)) ?_; clear kk; intro a kk
    refine wp_cond_true (kk.e 113 rfl) ?_
    refine wp_seq ?_
    refine wpr 1 ?_
    refine opk 0 6 (v := .bool false) kk (frY rfl (k_assign rfl rfl)) ?_; clear kk; intro a kk
    refine wp_ret ?_
    refine hfin a _ ?_
    exact ⟨kk.d, _, results_tmp rfl _ _ _, _, rfl, (by rw [(kk.g 6 rfl), hk]; rfl), (fun y hy => by rw [hk] at hy; cases hy), (Exc.of l1)⟩
  · have hk : Rfc.pday s = none := hbad (by omega)
    refine wp_seq ?_
    refine wpr 21 ?_
    refine opk 0 93 kk (frY rfl (k_move rfl (kk.e 13 rfl))) ?_; clear kk; intro a kk
    refine opk 1 94 (v := .bool false) kk (frY rfl (o_ltI rfl (kk.e 93 rfl) rfl (decide_eq_false (by omega)))) ?_; clear kk; intro a kk
    refine opk 2 95 kk (frY rfl (k_move rfl (kk.e 94 rfl))) ?_; clear kk; intro a kk
    refine opk 3 96 kk (frY (wanted_at (b := false) (want := false) rfl (by kernel_rfl) (kk.g 95 rfl)) (k_move rfl (kk.e 14 rfl))) ?_; clear kk; intro a kk
    refine opk 4 97 (v := .bool false) kk (frY (wanted_at (b := false) (want := false) rfl (by kernel_rfl) (kk.g 95 rfl)) (o_ltI rfl (kk.e 96 rfl) rfl (decide_eq_false (by omega)))) ?_; clear kk; intro a kk
    refine opk 5 98 (v := .bool false) kk (frY rfl (k_pick_no rfl (kk.e 95 rfl) (kk.e 97 rfl))) ?_; clear kk; intro a kk
    refine opk 6 99 kk (frY rfl (k_move rfl (kk.e 98 rfl))) ?_; clear kk; intro a kk
    refine opk 7 100 kk (frY (wanted_at (b := false) (want := false) rfl (by kernel_rfl) (kk.g 99 rfl)) (k_move rfl (kk.e 14 rfl))) ?_; clear kk; intro a kk
    refine opk 8 101 (v := .bool false) kk (frY (wanted_at (b := false) (want := false) rfl (by kernel_rfl) (kk.g 99 rfl)) (o_gtI rfl (kk.e 100 rfl) rfl (decide_eq_false (by omega)))) ?_; clear kk; intro a kk
    refine opk 9 102 (v := .bool false) kk (frY rfl (k_pick_no rfl (kk.e 99 rfl) (kk.e 101 rfl))) ?_; clear kk; intro a kk
    refine opk 10 103 kk (frY rfl (k_move rfl (kk.e 102 rfl))) ?_; clear kk; intro a kk
    refine opk 11 104 kk (frY (wanted_at (b := false) (want := false) rfl (by kernel_rfl) (kk.g 103 rfl)) (k_move rfl (kk.e 15 rfl))) ?_; clear kk; intro a kk
    refine opk 12 105 (v := .bool false) kk (frY (wanted_at (b := false) (want := false) rfl (by kernel_rfl) (kk.g 103 rfl)) (o_ltI rfl (kk.e 104 rfl) rfl (decide_eq_false (by omega)))) ?_; clear kk; intro a kk
    replace kk := kk.keep [105, 103, 15, 14, 13, 0] rfl
    refine opk 13 106 (v := .bool false) kk (frY rfl (k_pick_no rfl (kk.e 103 rfl) (kk.e 105 rfl))) ?_; clear kk; intro a kk
    refine opk 14 107 kk (frY rfl (k_move rfl (kk.e 106 rfl))) ?_; clear kk; intro a kk
    refine opk 15 108 kk (frY (wanted_at (b := false) (want := false) rfl (by kernel_rfl) (kk.g 107 rfl)) (k_move rfl (kk.e 15 rfl))) ?_; clear kk; intro a kk
    refine opk 16 109 kk (frY (wanted_at (b := false) (want := false) rfl (by kernel_rfl) (kk.g 107 rfl)) (k_move rfl (kk.e 13 rfl))) ?_; clear kk; intro a kk
    refine opk 17 110 kk (frY (wanted_at (b := false) (want := false) rfl (by kernel_rfl) (kk.g 107 rfl)) (k_move rfl (kk.e 14 rfl))) ?_; clear kk; intro a kk
    have hc := lawLong' Y M wc (by omega) (by omega)
    refine opkc 18 111 kk hc (frY (wanted_at (b := false) (want := false) rfl (by kernel_rfl) (kk.g 107 rfl)) (c_lLong rfl rfl (kk.e 109 rfl) (kk.e 110 rfl))) ?_; clear kk hc
    rintro _ w9 a ⟨rfl, hww⟩ F0
    subst hww
    have kk := F0; clear F0
    refine opk 19 112 (v := .bool true) kk (frY (wanted_at (b := false) (want := false) rfl (by kernel_rfl) (kk.g 107 rfl)) (o_gtI rfl (kk.e 108 rfl) (kk.e 111 rfl) (decide_eq_true (by omega)))) ?_; clear kk; intro a kk
    refine opk 20 113 (v := .bool true) kk (frY rfl (k_pick_no rfl (kk.e 107 rfl) (kk.e 112 rfl))) ?_; clear kk; intro a kk
    refine wp_cond_true (kk.e 113 rfl) ?_
    refine wp_seq ?_
    refine wpr 1 ?_
    refine opk 0 6 (v := .bool false) kk (frY rfl (k_assign rfl rfl)) ?_; clear kk; intro a kk
    refine wp_ret ?_
    refine hfin a _ ?_
    exact ⟨kk.d, _, results_tmp rfl _ _ _, _, rfl, (by rw [(kk.g 6 rfl), hk]; rfl), (fun y hy => by rw [hk] at hy; cases hy), (Exc.of l1)⟩
  have hk : Rfc.pday s = some (Cal.num Y M D) := hgood (by omega) (by omega) (by omega) (by omega) (by omega)
  have hdb := dby_bd (y := Y) (by omega) (by omega)
  refine wp_seq ?_
  refine wpr 21 ?_
  refine opk 0 93 kk (frY rfl (k_move rfl (kk.e 13 rfl))) ?_; clear kk; intro a kk
  refine opk 1 94 (v := .bool false) kk (frY rfl (o_ltI rfl (kk.e 93 rfl) rfl (decide_eq_false (by omega)))) ?_; clear kk; intro a kk
  refine opk 2 95 kk (frY rfl (k_move rfl (kk.e 94 rfl))) ?_; clear kk; intro a kk
  refine opk 3 96 kk (frY (wanted_at (b := false) (want := false) rfl (by kernel_rfl) (kk.g 95 rfl)) (k_move rfl (kk.e 14 rfl))) ?_; clear kk; intro a kk
  refine opk 4 97 (v := .bool false) kk (frY (wanted_at (b := false) (want := false) rfl (by kernel_rfl) (kk.g 95 rfl)) (o_ltI rfl (kk.e 96 rfl) rfl (decide_eq_false (by omega)))) ?_; clear kk; intro a kk
  refine opk 5 98 (v := .bool false) kk (frY rfl (k_pick_no rfl (kk.e 95 rfl) (kk.e 97 rfl))) ?_; clear kk; intro a kk
  refine opk 6 99 kk (frY rfl (k_move rfl (kk.e 98 rfl))) ?_; clear kk; intro a kk
  refine opk 7 100 kk (frY (wanted_at (b := false) (want := false) rfl (by kernel_rfl) (kk.g 99 rfl)) (k_move rfl (kk.e 14 rfl))) ?_; clear kk; intro a kk
  refine opk 8 101 (v := .bool false) kk (frY (wanted_at (b := false) (want := false) rfl (by kernel_rfl) (kk.g 99 rfl)) (o_gtI rfl (kk.e 100 rfl) rfl (decide_eq_false (by omega)))) ?_; clear kk; intro a kk
  refine opk 9 102 (v := .bool false) kk (frY rfl (k_pick_no rfl (kk.e 99 rfl) (kk.e 101 rfl))) ?_; clear kk; intro a kk
  refine opk 10 103 kk (frY rfl (k_move rfl (kk.e 102 rfl))) ?_; clear kk; intro a kk
  refine opk 11 104 kk (frY (wanted_at (b := false) (want := false) rfl (by kernel_rfl) (kk.g 103 rfl)) (k_move rfl (kk.e 15 rfl))) ?_; clear kk; intro a kk
  refine opk 12 105 (v := .bool false) kk (frY (wanted_at (b := false) (want := false) rfl (by kernel_rfl) (kk.g 103 rfl)) (o_ltI rfl (kk.e 104 rfl) rfl (decide_eq_false (by omega)))) ?_; clear kk; intro a kk
  replace kk := kk.keep [105, 103, 15, 14, 13, 0] rfl
  refine opk 13 106 (v := .bool false) kk (frY rfl (k_pick_no rfl (kk.e 103 rfl) (kk.e 105 rfl))) ?_; clear kk; intro a kk
  refine opk 14 107 kk (frY rfl (k_move rfl (kk.e 106 rfl))) ?_; clear kk; intro a kk
  refine opk 15 108 kk (frY (wanted_at (b := false) (want := false) rfl (by kernel_rfl) (kk.g 107 rfl)) (k_move rfl (kk.e 15 rfl))) ?_; clear kk; intro a kk
  refine opk 16 109 kk (frY (wanted_at (b := false) (want := false) rfl (by kernel_rfl) (kk.g 107 rfl)) (k_move rfl (kk.e 13 rfl))) ?_; clear kk; intro a kk
  refine opk 17 110 kk (frY (wanted_at (b := false) (want := false) rfl (by kernel_rfl) (kk.g 107 rfl)) (k_move rfl (kk.e 14 rfl))) ?_; clear kk; intro a kk
  have hc := lawLong' Y M wc (by omega) (by omega)
  refine opkc 18 111 kk hc (frY (wanted_at (b := false) (want := false) rfl (by kernel_rfl) (kk.g 107 rfl)) (c_lLong rfl rfl (kk.e 109 rfl) (kk.e 110 rfl))) ?_; clear kk hc
  rintro _ w9 a ⟨rfl, hww⟩ F0
  subst hww
  have kk := F0; clear F0
  refine opk 19 112 (v := .bool false) kk (frY (wanted_at (b := false) (want := false) rfl (by kernel_rfl) (kk.g 107 rfl)) (o_gtI rfl (kk.e 108 rfl) (kk.e 111 rfl) (decide_eq_false (by omega)))) ?_; clear kk; intro a kk
  refine opk 20 113 (v := .bool false) kk (frY rfl (k_pick_no rfl (kk.e 107 rfl) (kk.e 112 rfl))) ?_; clear kk; intro a kk
  refine wp_cond_false (kk.e 113 rfl) ?_
  refine wp_skip ?_
  refine wp_seq ?_
  refine wpr 5 ?_
  refine opk 0 114 kk (frY rfl (k_move rfl (kk.e 13 rfl))) ?_; clear kk; intro a kk
  have hc := ahead' Y wc (by omega) (by omega)
  refine opkc 1 115 kk hc (frY rfl (c_lAhead rfl rfl (kk.e 114 rfl))) ?_; clear kk hc
  rintro _ wd a ⟨rfl, l3⟩ F0
  have kk := F0; clear F0
  replace l1 := l1.trans (l3.mono l1.size)
  clear l3
  refine opk 2 116 kk (frY rfl (k_move rfl (kk.e 15 rfl))) ?_; clear kk; intro a kk
  refine opk 3 117 (v := .int .i64 (Cal.dby Y + D)) kk (frY rfl (o_addI rfl (kk.e 115 rfl) (kk.e 116 rfl) (wrap_small (by omega) (by omega)))) ?_; clear kk; intro a kk
  refine opk 4 16 kk (frY rfl (k_assign rfl (kk.e 117 rfl))) ?_; clear kk; intro a kk
  refine wp_seq ?_
  refine wp_seq ?_
  refine wpr 1 ?_
  refine opk 0 17 (v := .int .i64 1) kk (frY rfl (k_assign rfl rfl)) ?_; clear kk; intro a kk
  refine wp_block ?_
  refine wp_loop (fun a wx => wd = wx ∧ ∃ i, LpV rb Y M D i a) (fun a _ => (M - intOf (a.tmps.getD 17 undef)).toNat) ⟨rfl, 1, ⟨kk.d, kk.z, (kk.g 0 rfl), (kk.g 13 rfl), (kk.g 14 rfl), by rw [(kk.g 16 rfl), Cal.cum_one, Int.add_zero], (kk.g 17 rfl), by omega, by omega⟩⟩ ?_
  clear kk a
  rintro a wx ⟨rfl, i, ⟨hd, hs, h0, h13, h14, h16, h17, hi1, hi2⟩⟩
  have kk := (((((kn hs hd).p h0).p h13).p h14).p h16).p h17; clear hs hd h0 h13 h14 h16 h17
  have hcb := Cal.cum_bd Y i hi1 (by omega)
  by_cases hlt : i < M
  · have e17 := (kk.g 17 rfl)
    rw [e17]
    clear e17
    have hcs := Cal.cum_succ Y i hi1 (by omega)
    have hdl := Cal.dim_le Y i
    have hcb2 := Cal.cum_bd Y (i + 1) (by omega) (by omega)
    refine wp_seq ?_
    refine wp_seq ?_
    refine wpr 3 ?_
    refine opk 0 118 kk (frY rfl (k_move rfl (kk.e 17 rfl))) ?_; clear kk; intro a kk
    refine opk 1 119 kk (frY rfl (k_move rfl (kk.e 14 rfl))) ?_; clear kk; intro a kk
    refine opk 2 120 (v := .bool true) kk (frY rfl (o_ltI rfl (kk.e 118 rfl) (kk.e 119 rfl) (decide_eq_true (by omega)))) ?_; clear kk; intro a kk
    refine wp_cond_true (kk.e 120 rfl) ?_
    refine wp_skip ?_
    refine wp_seq ?_
    refine wp_block ?_
    refine wpr 6 ?_
    refine opk 0 123 kk (frY rfl (k_move rfl (kk.e 16 rfl))) ?_; clear kk; intro a kk
    refine opk 1 124 kk (frY rfl (k_move rfl (kk.e 13 rfl))) ?_; clear kk; intro a kk
    refine opk 2 125 kk (frY rfl (k_move rfl (kk.e 17 rfl))) ?_; clear kk; intro a kk
    have hc := lawLong' Y i wd (by omega) (by omega)
    refine opkc 3 126 kk hc (frY rfl (c_lLong rfl rfl (kk.e 124 rfl) (kk.e 125 rfl))) ?_; clear kk hc
    rintro _ w9 a ⟨rfl, hww⟩ F0
    subst hww
    have kk := F0; clear F0
    refine opk 4 127 (v := .int .i64 (Cal.dby Y + D + Cal.cum Y (i + 1))) kk (frY rfl (o_addI rfl (kk.e 123 rfl) (kk.e 126 rfl) ((wrap_small (by omega) (by omega)).trans (by omega)))) ?_; clear kk; intro a kk
    replace kk := kk.keep [127, 17, 14, 13, 0] rfl
    refine opk 5 16 kk (frY rfl (k_assign rfl (kk.e 127 rfl))) ?_; clear kk; intro a kk
    refine wpr 3 ?_
    refine opk 0 121 kk (frY rfl (k_move rfl (kk.e 17 rfl))) ?_; clear kk; intro a kk
    refine opk 1 122 (v := .int .i64 (i + 1)) kk (frY rfl (o_addI rfl (kk.e 121 rfl) rfl (wrap_small (by omega) (by omega)))) ?_; clear kk; intro a kk
    replace kk := kk.keep [122, 16, 14, 13, 0] rfl
    refine opk 2 17 kk (frY rfl (k_assign rfl (kk.e 122 rfl))) ?_; clear kk; intro a kk
    refine ⟨⟨rfl, i + 1, kk.d, kk.z, (kk.g 0 rfl), (kk.g 13 rfl), (kk.g 14 rfl), (kk.g 16 rfl), (kk.g 17 rfl), by omega, by omega⟩, ?_⟩
    rw [(kk.g 17 rfl)]
    simp only [intOf]
    omega
  obtain rfl : i = M := by omega
  refine wp_seq ?_
  refine wp_seq ?_
  refine wpr 3 ?_
  refine opk 0 118 kk (frY rfl (k_move rfl (kk.e 17 rfl))) ?_; clear kk; intro a kk
  refine opk 1 119 kk (frY rfl (k_move rfl (kk.e 14 rfl))) ?_; clear kk; intro a kk
  refine opk 2 120 (v := .bool false) kk (frY rfl (o_ltI rfl (kk.e 118 rfl) (kk.e 119 rfl) (decide_eq_false (by omega)))) ?_; clear kk; intro a kk
  refine wp_cond_false (kk.e 120 rfl) ?_
  refine wp_exit ?_
  change Code.wp _ _ _ _ _
  have B1 := hB.below l1 hB.lt
  have eN : Cal.dby Y + D + Cal.cum Y i = Cal.num Y i D := by unfold Cal.num; omega
  rw [eN] at kk
  refine wp_seq ?_
  refine wpr 5 ?_
  refine opk 0 128 kk (frY rfl (k_move rfl (kk.e 0 rfl))) ?_; clear kk; intro a kk
  refine opk 1 129 kk (frY rfl (k_move rfl (kk.e 16 rfl))) ?_; clear kk; intro a kk
  refine opk 2 130 (v := .pointer (some ⟨rb, 0, none⟩)) kk (frY rfl (k_nil rfl (kk.e 128 rfl))) ?_; clear kk; intro a kk
  refine opk 3 131 (v := .pointer (some ⟨rb, 3, none⟩)) kk (frY rfl (k_field3 rfl (kk.e 130 rfl))) ?_; clear kk; intro a kk
  refine opL_store 4 (w' := (wd.setCell ⟨rb, 3, none⟩ (.int .i64 (Cal.num Y i D)))) (by kernel_rfl) ?_ ?_
  · exact frY rfl (k_storeU rfl (kk.e 131 rfl) (kk.e 129 rfl) B1 (by omega))
  obtain ⟨w2, hww2⟩ : ∃ wn, wn = wd.setCell ⟨rb, 3, none⟩ (.int .i64 (Cal.num Y i D)) := ⟨_, rfl⟩
  rw [← hww2]
  have B2 : Blk w2 rb 28 (cs.setIfInBounds 3 (.int .i64 (Cal.num Y i D))) := by rw [hww2]; exact B1.set 3 _
  have e2 : ∀ B, Exc B rb wd w2 := by rw [hww2]; exact exc_set wd rb 3 _
  clear hww2
  refine wp_seq ?_
  refine wpr 1 ?_
  refine opk 0 6 (v := .bool true) kk (frY rfl (k_assign rfl rfl)) ?_; clear kk; intro a kk
  refine wp_ret ?_
  refine hfin a _ ?_
  exact ⟨kk.d, _, results_tmp rfl _ _ _, _, rfl, (by rw [(kk.g 6 rfl), hk]; rfl), (fun y hy => by rw [hk] at hy; cases hy; exact B2), ((Exc.of l1).trans (e2 _))⟩
end Go.Proofs.YtjdjekpbjnkliaaGreatDoor
