/-
  The walk of the law RfcParses.
-/
import Derived.Test.YtjdjekpbjnkliaaGreatDoorRf2
import Derived.Test.YtjdjekpbjnkliaaGreatDoorSame
import Derived.Test.YtjdjekpbjnkliaaGreatDoorAw3
import Derived.Test.YtjdjekpbjnkliaaGreatDoorCk12
namespace Go.Proofs.YtjdjekpbjnkliaaGreatDoor
open Go.RowKit
theorem o_eqE {w : World} {ρ : Operand → Value} {o : Oper} {x y : Operand} {n m : Int} {q : Bool} (ho : o.op = .binOp .eql 29 x y 29) (hx : ρ x = .int .i64 n) (hy : ρ y = .int .i64 m) (hr : (n == m) = q) : (execOp ρ o).run Tryz.prog w = .ok (.value (.bool q)) w := by
  subst hr
  simp only [execOp, ho, hx, hy]
  go_simp
def Rfc.cod : Rfc.St → Rfc.Ru × Int
  | .bad n => (⟨0, 0, 0, 0, [], [], [], []⟩, n)
  | .go r _ => (r, 0)
theorem Out.form {w : World} {o : Rfc.St} {v : Value} {r : Rfc.Ru} {n : Int} (h : Out w o v) (e : Rfc.cod o = (r, n)) : ∃ A1 A2 A3 A4 c1 c2 c3 c4, v = .tuple #[.agg #[.int .i64 r.f, .int .i64 r.iv, .int .i64 r.c, .int .i64 r.u, .slice A1 r.M.length c1, .slice A2 r.D.length c2, .slice A3 r.K.length c3, .slice A4 r.P.length c4], .int .i64 n] ∧ PlainR w A1 A2 A3 A4 r.M r.D r.K r.P := by
  cases o with
  | bad m =>
    obtain ⟨rfl, rfl⟩ := Prod.mk.inj e
    obtain rfl := h
    have i := InI.nil w 0
    have j := InN.nil w 0
    exact ⟨none, none, none, none, 0, 0, 0, 0, rfl, ⟨i.plain, i.plain, j.plain, i.plain, i.1, i.1, j.1, i.1⟩⟩
  | go r' g =>
    obtain ⟨rfl, rfl⟩ := Prod.mk.inj e
    obtain ⟨A1, A2, A3, A4, c1, c2, c3, c4, rfl, hp, -⟩ := h
    exact ⟨A1, A2, A3, A4, c1, c2, c3, c4, rfl, hp⟩
noncomputable def parsBody : Code := Tryz.f3.body.getD .skip
theorem c_Awk3 {w : World} {ρ : Operand → Value} {o : Oper} (ho : o.op = .call ⟨.value (.func 5), #[], #[]⟩) (hf : ρ (.func 5) = .func (.func 5) #[] #[]) : (execOp ρ o).run Tryz.prog w = .ok (.enter 5 #[]) w := by
  simp only [execOp, ho]
  go_simp
theorem c_Parse9 {w : World} {ρ : Operand → Value} {o : Oper} {x : Operand} {v : Value} (ho : o.op = .call ⟨.value (.func 6), #[x], #[9]⟩) (hf : ρ (.func 6) = .func (.func 6) #[] #[]) (hx : ρ x = v) : (execOp ρ o).run Tryz.prog w = .ok (.enter 6 #[v]) w := by
  simp only [execOp, ho]
  go_simp
theorem c_lParse {w : World} {ρ : Operand → Value} {o : Oper} {x : Operand} {v : Value} (ho : o.op = .call ⟨.value (.func 7), #[x], #[9]⟩) (hf : ρ (.func 7) = .func (.func 7) #[] #[]) (hx : ρ x = v) : (execOp ρ o).run Tryz.prog w = .ok (.enter 7 #[v]) w := by
  simp only [execOp, ho]
  go_simp
theorem c_Same9 {w : World} {ρ : Operand → Value} {o : Oper} {x y : Operand} {v u : Value} (ho : o.op = .call ⟨.value (.func 8), #[x, y], #[28, 28]⟩) (hf : ρ (.func 8) = .func (.func 8) #[] #[]) (hx : ρ x = v) (hy : ρ y = u) : (execOp ρ o).run Tryz.prog w = .ok (.enter 8 #[v, u]) w := by
  simp only [execOp, ho]
  go_simp

set_option maxRecDepth 100000 in
set_option maxHeartbeats 1000000 in
theorem rfcParses_long (s : List UInt8) (w : World) (hT : Tabs3 w) (hl : 5000 < s.length) : Calls Tryz.prog 3 #[.string ⟨(s).toArray⟩] w fun e w' => e = .returned (.bool true) ∧ Below w.heap.size w w' := by
  refine calls_of_wp Tryz.func3 (show Tryz.f3.body = some parsBody from rfl) ?_
  generalize hA : (Act.mk (#[.string ⟨(s).toArray⟩] ++ Array.replicate (Tryz.f3.ntmps - (#[.string ⟨(s).toArray⟩] : Array Value).size) undef) []) = a
  have hs : a.tmps.size = 30 := by rw [← hA]; simp [Tryz.ntmps3]
  have hd : a.defers = [] := by rw [← hA]
  have h0 : a.tmps.getD 0 undef = .string ⟨(s).toArray⟩ := by rw [← hA]; simp
  clear hA
  have kk := (kn hs hd).p h0; clear hs hd h0
  refine Code.wp_mono NoPanic.imp ?_
  have hQ : Blind (NoPanic (bodyPost Tryz.prog Tryz.f3 fun e w' => e = .returned (.bool true) ∧ Below w.heap.size w w')) := fun _ _ _ _ q => q.elim
  have hfin : ∀ (a' : Act) (w' : World), a'.defers = [] → a'.tmps.getD 2 undef = .bool true → Below w.heap.size w w' → NoPanic (bodyPost Tryz.prog Tryz.f3 fun e w' => e = .returned (.bool true) ∧ Below w.heap.size w w') .ret a' w' := by
    intro a' w' k1 k2 k3
    exact ⟨k1, _, results_tmp rfl _ _ _, by rw [k2], k3⟩
  generalize NoPanic (bodyPost Tryz.prog Tryz.f3 fun e w' => e = .returned (.bool true) ∧ Below w.heap.size w w') = Q at hQ hfin
  clear hQ
  unfold parsBody
  conv => arg 2; whnf
  refine wp_seq ?_
  refine wpr 1 ?_
  refine opk 0 2 (v := .bool false) kk (frY rfl (k_assign rfl rfl)) ?_; clear kk; intro a kk
  refine wp_seq ?_
  refine wp_seq ?_
  refine wpr 2 ?_
  have hc := awake3 w hT.t
  refine opkc 0 7 kk hc (frY rfl (c_Awk3 rfl rfl)) ?_; clear kk hc
  rintro _ w2 a ⟨rfl, l2⟩ F0
  have kk := F0; clear F0
  refine opk 1 8 (v := .bool false) kk (frY rfl (o_not rfl (kk.e 7 rfl) rfl)) ?_; clear kk; intro a kk
  refine wp_cond_false (kk.e 8 rfl) ?_
  refine wp_skip ?_
  refine wp_seq ?_
  refine wp_seq ?_
  refine wpr 3 ?_
  refine opk 0 9 kk (frY rfl (k_move rfl (kk.e 0 rfl))) ?_; clear kk; intro a kk
  refine opk 1 10 (v := .int .i64 (⟨s.toArray⟩ : ByteArray).size) kk (frY rfl (k_lenT rfl (kk.e 9 rfl))) ?_; clear kk; intro a kk
  refine opk 2 11 (v := .bool true) kk (frY rfl (o_gtI rfl (kk.e 10 rfl) rfl (decide_eq_true (by rw [ba_size]; omega)))) ?_; clear kk; intro a kk
  refine wp_cond_true (kk.e 11 rfl) ?_
  refine wp_seq ?_
  refine wpr 1 ?_
  replace kk := kk.keep [11, 8, 0] rfl
  refine opk 0 2 (v := .bool true) kk (frY rfl (k_assign rfl rfl)) ?_; clear kk; intro a kk
  refine wp_ret ?_
  exact hfin a _ kk.d (kk.g 2 rfl) l2

set_option maxRecDepth 100000 in
set_option maxHeartbeats 2000000 in
theorem rfcParses_short (hck0 : LawCk) (s : List UInt8) (w : World) (hT : Tabs3 w) (hl : ¬ 5000 < s.length) : Calls Tryz.prog 3 #[.string ⟨(s).toArray⟩] w fun e w' => e = .returned (.bool true) ∧ Below w.heap.size w w' := by
  refine calls_of_wp Tryz.func3 (show Tryz.f3.body = some parsBody from rfl) ?_
  generalize hA : (Act.mk (#[.string ⟨(s).toArray⟩] ++ Array.replicate (Tryz.f3.ntmps - (#[.string ⟨(s).toArray⟩] : Array Value).size) undef) []) = a
  have hs : a.tmps.size = 30 := by rw [← hA]; simp [Tryz.ntmps3]
  have hd : a.defers = [] := by rw [← hA]
  have h0 : a.tmps.getD 0 undef = .string ⟨(s).toArray⟩ := by rw [← hA]; simp
  clear hA
  have kk := (kn hs hd).p h0; clear hs hd h0
  refine Code.wp_mono NoPanic.imp ?_
  have hQ : Blind (NoPanic (bodyPost Tryz.prog Tryz.f3 fun e w' => e = .returned (.bool true) ∧ Below w.heap.size w w')) := fun _ _ _ _ q => q.elim
  have hfin : ∀ (a' : Act) (w' : World), a'.defers = [] → a'.tmps.getD 2 undef = .bool true → Below w.heap.size w w' → NoPanic (bodyPost Tryz.prog Tryz.f3 fun e w' => e = .returned (.bool true) ∧ Below w.heap.size w w') .ret a' w' := by
    intro a' w' k1 k2 k3
    exact ⟨k1, _, results_tmp rfl _ _ _, by rw [k2], k3⟩
  generalize NoPanic (bodyPost Tryz.prog Tryz.f3 fun e w' => e = .returned (.bool true) ∧ Below w.heap.size w w') = Q at hQ hfin
  clear hQ
  unfold parsBody
  conv => arg 2; whnf
  obtain ⟨⟨r, n⟩, hrn⟩ : ∃ x, Rfc.cod (Rfc.parse s) = x := ⟨_, rfl⟩
  refine wp_seq ?_
  refine wpr 1 ?_
  refine opk 0 2 (v := .bool false) kk (frY rfl (k_assign rfl rfl)) ?_; clear kk; intro a kk
  refine wp_seq ?_
  refine wp_seq ?_
  refine wpr 2 ?_
  have hc := awake3 w hT.t
  refine opkc 0 7 kk hc (frY rfl (c_Awk3 rfl rfl)) ?_; clear kk hc
  rintro _ w2 a ⟨rfl, l2⟩ F0
  have kk := F0; clear F0
  refine opk 1 8 (v := .bool false) kk (frY rfl (o_not rfl (kk.e 7 rfl) rfl)) ?_; clear kk; intro a kk
  refine wp_cond_false (kk.e 8 rfl) ?_
  refine wp_skip ?_
  refine wp_seq ?_
  refine wp_seq ?_
  refine wpr 3 ?_
  refine opk 0 9 kk (frY rfl (k_move rfl (kk.e 0 rfl))) ?_; clear kk; intro a kk
  refine opk 1 10 (v := .int .i64 (⟨s.toArray⟩ : ByteArray).size) kk (frY rfl (k_lenT rfl (kk.e 9 rfl))) ?_; clear kk; intro a kk
  refine opk 2 11 (v := .bool false) kk (frY rfl (o_gtI rfl (kk.e 10 rfl) rfl (decide_eq_false (by rw [ba_size]; omega)))) ?_; clear kk; intro a kk
  refine wp_cond_false (kk.e 11 rfl) ?_
  refine wp_skip ?_
  refine wp_seq ?_
  refine wpr 8 ?_
  refine opk 0 13 kk (frY rfl (k_move rfl (kk.e 0 rfl))) ?_; clear kk; intro a kk
  have hc := parse_any s w2 (hT.below l2).t
  refine opkc 1 14 kk hc (frY rfl (c_Parse9 rfl rfl (kk.e 13 rfl))) ?_; clear kk hc
  rintro v0 w3 a ⟨hv, lv⟩ F0
  obtain ⟨A1, A2, A3, A4, c1, c2, c3, c4, rfl, Pa⟩ := hv.form hrn
  have kk := F0; clear F0
  replace l2 := l2.trans (lv.mono l2.size)
  have zz3 := l2.size
  clear lv
  refine opk 2 12 kk (frY rfl (k_move rfl (kk.e 14 rfl))) ?_; clear kk; intro a kk
  refine opk 3 15 (v := .agg #[.int .i64 r.f, .int .i64 r.iv, .int .i64 r.c, .int .i64 r.u, .slice A1 r.M.length c1, .slice A2 r.D.length c2, .slice A3 r.K.length c3, .slice A4 r.P.length c4]) kk (frY rfl (k_extract rfl (kk.e 12 rfl) rfl)) ?_; clear kk; intro a kk
  refine opk 4 16 (v := .int .i64 n) kk (frY rfl (k_extract rfl (kk.e 12 rfl) rfl)) ?_; clear kk; intro a kk
  refine opk 5 3 (v := .pointer (some ⟨w3.heap.size, 0, none⟩)) (w' := (w3.alloc (.cells #[.int .i64 0, .int .i64 0, .int .i64 0, .int .i64 0, .slice none 0 0, .slice none 0 0, .slice none 0 0, .slice none 0 0] 28))) kk (frY rfl (k_allocR rfl)) ?_; clear kk; intro a kk
  obtain ⟨w4, hw4⟩ : ∃ wn, wn = w3.alloc (.cells #[.int .i64 0, .int .i64 0, .int .i64 0, .int .i64 0, .slice none 0 0, .slice none 0 0, .slice none 0 0, .slice none 0 0] 28) := ⟨_, rfl⟩
  rw [← hw4]
  have q4 : Blk w4 w3.heap.size 28 #[.int .i64 0, .int .i64 0, .int .i64 0, .int .i64 0, .slice none 0 0, .slice none 0 0, .slice none 0 0, .slice none 0 0] := by rw [hw4]; exact Blk.alloc _ _ _
  have l4 : Below w3.heap.size w3 w4 := by rw [hw4]; exact (Below.refl _ _).alloc (Nat.le_refl _) _
  clear hw4
  replace l2 := l2.trans (l4.mono l2.size)
  refine opL_store 6 (w' := (w4.setRow w3.heap.size #[.int .i64 r.f, .int .i64 r.iv, .int .i64 r.c, .int .i64 r.u, .slice A1 r.M.length c1, .slice A2 r.D.length c2, .slice A3 r.K.length c3, .slice A4 r.P.length c4])) (by kernel_rfl) ?_ ?_
  · exact frY rfl (k_storeR rfl (kk.e 3 rfl) (kk.e 15 rfl) q4 rfl rfl (by simp [Value.oneCell']))
  obtain ⟨w5, hws⟩ : ∃ wn, wn = w4.setRow w3.heap.size #[.int .i64 r.f, .int .i64 r.iv, .int .i64 r.c, .int .i64 r.u, .slice A1 r.M.length c1, .slice A2 r.D.length c2, .slice A3 r.K.length c3, .slice A4 r.P.length c4] := ⟨_, rfl⟩
  rw [← hws]
  have Q4 : Blk w5 w3.heap.size 28 #[.int .i64 r.f, .int .i64 r.iv, .int .i64 r.c, .int .i64 r.u, .slice A1 r.M.length c1, .slice A2 r.D.length c2, .slice A3 r.K.length c3, .slice A4 r.P.length c4] := by rw [hws]; exact q4.setRow
  have e4 : ∀ B, Exc B w3.heap.size w4 w5 := by rw [hws]; exact exc_setRow w4 w3.heap.size #[.int .i64 r.f, .int .i64 r.iv, .int .i64 r.c, .int .i64 r.u, .slice A1 r.M.length c1, .slice A2 r.D.length c2, .slice A3 r.K.length c3, .slice A4 r.P.length c4]
  clear hws q4
  have b4 := (e4 w3.heap.size).below (Nat.le_refl _)
  replace Pa := Pa.below (l4.trans b4)
  replace l2 := l2.trans (b4.mono zz3)
  refine opk 7 4 kk (frY rfl (k_assign rfl (kk.e 16 rfl))) ?_; clear kk; intro a kk
  refine wp_seq ?_
  refine wpr 8 ?_
  refine opk 0 18 kk (frY rfl (k_move rfl (kk.e 0 rfl))) ?_; clear kk; intro a kk
  have hc := lparse_any hck0 s w5 (hT.below l2)
  refine opkc 1 19 kk hc (frY rfl (c_lParse rfl rfl (kk.e 18 rfl))) ?_; clear kk hc
  rintro v0 w6 a ⟨hv, lv⟩ F0
  obtain ⟨B1, B2, B3, B4, d1, d2, d3, d4, rfl, Pb⟩ := hv.form hrn
  have kk := F0; clear F0
  replace l2 := l2.trans (lv.mono l2.size)
  replace Pa := Pa.below lv
  replace Q4 := Q4.below lv Q4.lt
  have zz6 := l2.size
  clear lv
  refine opk 2 17 kk (frY rfl (k_move rfl (kk.e 19 rfl))) ?_; clear kk; intro a kk
  refine opk 3 20 (v := .agg #[.int .i64 r.f, .int .i64 r.iv, .int .i64 r.c, .int .i64 r.u, .slice B1 r.M.length d1, .slice B2 r.D.length d2, .slice B3 r.K.length d3, .slice B4 r.P.length d4]) kk (frY rfl (k_extract rfl (kk.e 17 rfl) rfl)) ?_; clear kk; intro a kk
  refine opk 4 21 (v := .int .i64 n) kk (frY rfl (k_extract rfl (kk.e 17 rfl) rfl)) ?_; clear kk; intro a kk
  refine opk 5 5 (v := .pointer (some ⟨w6.heap.size, 0, none⟩)) (w' := (w6.alloc (.cells #[.int .i64 0, .int .i64 0, .int .i64 0, .int .i64 0, .slice none 0 0, .slice none 0 0, .slice none 0 0, .slice none 0 0] 28))) kk (frY rfl (k_allocR rfl)) ?_; clear kk; intro a kk
  obtain ⟨w7, hw7⟩ : ∃ wn, wn = w6.alloc (.cells #[.int .i64 0, .int .i64 0, .int .i64 0, .int .i64 0, .slice none 0 0, .slice none 0 0, .slice none 0 0, .slice none 0 0] 28) := ⟨_, rfl⟩
  rw [← hw7]
  have q7 : Blk w7 w6.heap.size 28 #[.int .i64 0, .int .i64 0, .int .i64 0, .int .i64 0, .slice none 0 0, .slice none 0 0, .slice none 0 0, .slice none 0 0] := by rw [hw7]; exact Blk.alloc _ _ _
  have l7 : Below w6.heap.size w6 w7 := by rw [hw7]; exact (Below.refl _ _).alloc (Nat.le_refl _) _
  clear hw7
  replace l2 := l2.trans (l7.mono l2.size)
  have zq := Q4.lt
  replace Q4 := Q4.below l7 Q4.lt
  refine opL_store 6 (w' := (w7.setRow w6.heap.size #[.int .i64 r.f, .int .i64 r.iv, .int .i64 r.c, .int .i64 r.u, .slice B1 r.M.length d1, .slice B2 r.D.length d2, .slice B3 r.K.length d3, .slice B4 r.P.length d4])) (by kernel_rfl) ?_ ?_
  · exact frY rfl (k_storeR rfl (kk.e 5 rfl) (kk.e 20 rfl) q7 rfl rfl (by simp [Value.oneCell']))
  obtain ⟨w8, hws⟩ : ∃ wn, wn = w7.setRow w6.heap.size #[.int .i64 r.f, .int .i64 r.iv, .int .i64 r.c, .int .i64 r.u, .slice B1 r.M.length d1, .slice B2 r.D.length d2, .slice B3 r.K.length d3, .slice B4 r.P.length d4] := ⟨_, rfl⟩
  rw [← hws]
  have Q7 : Blk w8 w6.heap.size 28 #[.int .i64 r.f, .int .i64 r.iv, .int .i64 r.c, .int .i64 r.u, .slice B1 r.M.length d1, .slice B2 r.D.length d2, .slice B3 r.K.length d3, .slice B4 r.P.length d4] := by rw [hws]; exact q7.setRow
  have e7 : ∀ B, Exc B w6.heap.size w7 w8 := by rw [hws]; exact exc_setRow w7 w6.heap.size #[.int .i64 r.f, .int .i64 r.iv, .int .i64 r.c, .int .i64 r.u, .slice B1 r.M.length d1, .slice B2 r.D.length d2, .slice B3 r.K.length d3, .slice B4 r.P.length d4]
  clear hws q7
  have b7 := (e7 w6.heap.size).below (Nat.le_refl _)
  have Pz := Pa.below (l7.trans b7)
  replace Pb := Pb.below (l7.trans b7)
  replace Q4 := Q4.exc (e7 w7.heap.size) Q4.lt (by omega)
  replace l2 := l2.trans (b7.mono zz6)
  refine opk 7 6 kk (frY rfl (k_assign rfl (kk.e 21 rfl))) ?_; clear kk; intro a kk
  refine wp_seq ?_
  refine wpr 9 ?_
  refine opk 0 22 kk (frY rfl (k_move rfl (kk.e 4 rfl))) ?_; clear kk; intro a kk
  refine opk 1 23 kk (frY rfl (k_move rfl (kk.e 6 rfl))) ?_; clear kk; intro a kk
  refine opk 2 24 (v := .bool true) kk (frY rfl (o_eqE rfl (kk.e 22 rfl) (kk.e 23 rfl) (by simp))) ?_; clear kk; intro a kk
  refine opk 3 25 kk (frY rfl (k_move rfl (kk.e 24 rfl))) ?_; clear kk; intro a kk
  refine opk 4 26 (v := .agg #[.int .i64 r.f, .int .i64 r.iv, .int .i64 r.c, .int .i64 r.u, .slice A1 r.M.length c1, .slice A2 r.D.length c2, .slice A3 r.K.length c3, .slice A4 r.P.length c4]) kk (frY (wanted_at (b := true) (want := true) rfl (by kernel_rfl) (kk.g 25 rfl)) (k_loadR rfl (kk.e 3 rfl) Q4.rule)) ?_; clear kk; intro a kk
  refine opk 5 27 (v := .agg #[.int .i64 r.f, .int .i64 r.iv, .int .i64 r.c, .int .i64 r.u, .slice B1 r.M.length d1, .slice B2 r.D.length d2, .slice B3 r.K.length d3, .slice B4 r.P.length d4]) kk (frY (wanted_at (b := true) (want := true) rfl (by kernel_rfl) (kk.g 25 rfl)) (k_loadR rfl (kk.e 5 rfl) Q7.rule)) ?_; clear kk; intro a kk
  have hc := same_any r.f r.iv r.c r.u r.f r.iv r.c r.u A1 A2 A3 A4 B1 B2 B3 B4 c1 c2 c3 c4 d1 d2 d3 d4 r.M r.D r.M r.D r.K r.K r.P r.P w8 Pz Pb
  refine opkc 6 28 kk hc (frY (wanted_at (b := true) (want := true) rfl (by kernel_rfl) (kk.g 25 rfl)) (c_Same9 rfl rfl (kk.e 26 rfl) (kk.e 27 rfl))) ?_; clear kk hc
  rintro _ w9 a ⟨rfl, l9⟩ F0
  rw [sameB_self] at F0
  have kk := F0; clear F0
  refine opk 7 29 (v := .bool true) kk (frY rfl (k_pick_yes rfl (kk.e 25 rfl) (kk.e 28 rfl))) ?_; clear kk; intro a kk
  replace kk := kk.keep [29, 6, 5, 4, 3, 11, 8, 0] rfl
  refine opk 8 2 kk (frY rfl (k_assign rfl (kk.e 29 rfl))) ?_; clear kk; intro a kk
  refine wp_ret ?_
  exact hfin a _ kk.d (kk.g 2 rfl) (l2.trans (l9.mono l2.size))
theorem lawCk : LawCk := fun f iv c u AM AD AW AP cM cD cW cP M D W P w hL => (Ck.check_any f iv c u AM AD AW AP cM cD cW cP M D W P w hL).mono fun _ _ p => ⟨_, p.1, rfl, p.2⟩
theorem rfcParses_walk (s : List UInt8) (w : World) (hT : Tabs3 w) : Calls Tryz.prog 3 #[.string ⟨(s).toArray⟩] w fun e w' => e = .returned (.bool true) ∧ Below w.heap.size w w' := by
  by_cases hl : 5000 < s.length
  · exact rfcParses_long s w hT hl
  · exact rfcParses_short lawCk s w hT hl
end Go.Proofs.YtjdjekpbjnkliaaGreatDoor
