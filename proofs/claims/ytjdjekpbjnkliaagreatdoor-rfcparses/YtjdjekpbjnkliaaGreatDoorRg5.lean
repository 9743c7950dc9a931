/-
  A part's value into a rule: rfc.parseValue.
-/
import Derived.Test.YtjdjekpbjnkliaaGreatDoorRf2
import Derived.Test.YtjdjekpbjnkliaaGreatDoorRg4
namespace Go.Proofs.YtjdjekpbjnkliaaGreatDoor
open Go.RowKit
namespace Rfc
structure Ru where
  f : Int
  iv : Int
  c : Int
  u : Int
  M : List Int
  D : List Int
  K : List (Int × Int)
  P : List Int
noncomputable def setF (p : Nat) (s : List UInt8) (r : Ru) : Option Ru := match p with
  | 0 => (pfreq s).map fun (k : Nat) => { r with f := (k : Int) }
  | 1 => (pnum s).map fun n => { r with iv := n }
  | 2 => (pnz s).map fun n => { r with c := n }
  | 3 => (pday s).map fun n => { r with u := n }
  | 4 => (plistI s).map fun l => { r with M := l }
  | 5 => (plistI s).map fun l => { r with D := l }
  | 6 => (plistN s).map fun l => { r with K := l }
  | _ => (plistI s).map fun l => { r with P := l }
end Rfc
def InI (w : World) (lo : Nat) (A : Option Addr) (L : List Int) : Prop := L.length ≤ maxLen ∧ ((A = none ∧ L = []) ∨ ∃ b, A = some ⟨b, 0, none⟩ ∧ lo ≤ b ∧ b < w.heap.size ∧ ∀ j (h : j < L.length), w.cell? ⟨b, j, none⟩ = some (.int .i64 L[j]))
def InN (w : World) (lo : Nat) (A : Option Addr) (L : List (Int × Int)) : Prop := L.length ≤ maxLen ∧ ((A = none ∧ L = []) ∨ ∃ b, A = some ⟨b, 0, none⟩ ∧ lo ≤ b ∧ b < w.heap.size ∧ ∀ j (h : j < L.length), w.cell? ⟨b, j * 2, none⟩ = some (.int .i64 L[j].1) ∧ w.cell? ⟨b, j * 2 + 1, none⟩ = some (.int .i64 L[j].2))
theorem InI.nil (w : World) (lo : Nat) : InI w lo none [] := ⟨Nat.zero_le _, .inl ⟨rfl, rfl⟩⟩
theorem InN.nil (w : World) (lo : Nat) : InN w lo none [] := ⟨Nat.zero_le _, .inl ⟨rfl, rfl⟩⟩
theorem InI.exc {w w' : World} {lo x : Nat} {A : Option Addr} {L : List Int} (h : InI w lo A L) (e : Exc w.heap.size x w w') (hx : x < lo) : InI w' lo A L := by
  refine ⟨h.1, ?_⟩
  rcases h.2 with h | ⟨b, rfl, h1, h2, h3⟩
  · exact .inl h
  · exact .inr ⟨b, rfl, h1, Nat.lt_of_lt_of_le h2 e.size, fun j hj => (e.cell (p := ⟨b, j, none⟩) h2 (show b ≠ x by omega)).trans (h3 j hj)⟩
theorem InN.exc {w w' : World} {lo x : Nat} {A : Option Addr} {L : List (Int × Int)} (h : InN w lo A L) (e : Exc w.heap.size x w w') (hx : x < lo) : InN w' lo A L := by
  refine ⟨h.1, ?_⟩
  rcases h.2 with h | ⟨b, rfl, h1, h2, h3⟩
  · exact .inl h
  · exact .inr ⟨b, rfl, h1, Nat.lt_of_lt_of_le h2 e.size, fun j hj => ⟨(e.cell (p := ⟨b, j * 2, none⟩) h2 (show b ≠ x by omega)).trans (h3 j hj).1, (e.cell (p := ⟨b, j * 2 + 1, none⟩) h2 (show b ≠ x by omega)).trans (h3 j hj).2⟩⟩
theorem InI.plain {w : World} {lo : Nat} {A : Option Addr} {L : List Int} (h : InI w lo A L) : PlainI w A L := by
  rcases h.2 with h | ⟨b, rfl, h1, h2, h3⟩
  · exact .inl h
  · exact .inr ⟨b, 0, rfl, h2, fun j hj => by rw [Nat.zero_add]; exact h3 j hj⟩
theorem InN.plain {w : World} {lo : Nat} {A : Option Addr} {L : List (Int × Int)} (h : InN w lo A L) : PlainN w A L := by
  rcases h.2 with h | ⟨b, rfl, h1, h2, h3⟩
  · exact .inl h
  · exact .inr ⟨b, 0, rfl, h2, fun j hj => by rw [Nat.zero_add]; exact h3 j hj⟩
theorem OwnI.inn' {w : World} {base lo c : Nat} {A : Option Addr} {L : List Int} (h : OwnI w base (.slice A L.length c) L) (hl : lo ≤ base) : InI w lo A L := by
  refine ⟨?_, ?_⟩
  · obtain ⟨A', c', e, h1, -, -⟩ := h.ints
    exact h1
  · rcases h.2 with ⟨e, hn⟩ | ⟨g, cap, cur, e, hb, hg, -⟩
    · obtain ⟨rfl, -, -⟩ := Value.slice.inj e
      exact .inl ⟨rfl, List.eq_nil_of_length_eq_zero hn⟩
    · obtain ⟨rfl, -, -⟩ := Value.slice.inj e
      obtain ⟨A', c', e', -, -, hi⟩ := h.ints
      obtain ⟨rfl, -, -⟩ := Value.slice.inj e'
      refine .inr ⟨g, rfl, by omega, (Array.getElem?_eq_some_iff.1 hg).1, fun j hj => ?_⟩
      obtain ⟨ad, ea, -, hc⟩ := hi j hj
      obtain rfl := Option.some.inj ea
      rw [addr_lit, Nat.zero_add] at hc
      exact hc
theorem OwnN.inn' {w : World} {base lo c : Nat} {A : Option Addr} {L : List (Int × Int)} (h : OwnN w base (.slice A L.length c) L) (hl : lo ≤ base) : InN w lo A L := by
  refine ⟨?_, ?_⟩
  · obtain ⟨A', c', e, h1, -, -⟩ := h.nths
    exact h1
  · rcases h.2 with ⟨e, hn⟩ | ⟨g, cap, cur, e, hb, hg, -⟩
    · obtain ⟨rfl, -, -⟩ := Value.slice.inj e
      exact .inl ⟨rfl, List.eq_nil_of_length_eq_zero hn⟩
    · obtain ⟨rfl, -, -⟩ := Value.slice.inj e
      obtain ⟨A', c', e', -, -, hi⟩ := h.nths
      obtain ⟨rfl, -, -⟩ := Value.slice.inj e'
      refine .inr ⟨g, rfl, by omega, (Array.getElem?_eq_some_iff.1 hg).1, fun j hj => ?_⟩
      obtain ⟨ad, ea, -, hc, hc'⟩ := hi j hj
      obtain rfl := Option.some.inj ea
      rw [addr_lit, Nat.zero_add] at hc
      rw [addr_lit, addr_lit, Nat.zero_add] at hc'
      exact ⟨hc, hc'⟩
def RuB (w : World) (rb lo : Nat) (r : Rfc.Ru) : Prop := ∃ A1 A2 A3 A4 c1 c2 c3 c4, Blk w rb 28 #[.int .i64 r.f, .int .i64 r.iv, .int .i64 r.c, .int .i64 r.u, .slice A1 r.M.length c1, .slice A2 r.D.length c2, .slice A3 r.K.length c3, .slice A4 r.P.length c4] ∧ InI w lo A1 r.M ∧ InI w lo A2 r.D ∧ InN w lo A3 r.K ∧ InI w lo A4 r.P
theorem RuB.exc {w w' : World} {rb lo x : Nat} {r : Rfc.Ru} (h : RuB w rb lo r) (e : Exc w.heap.size x w w') (hx : x < lo) (hr : rb ≠ x) : RuB w' rb lo r := by
  obtain ⟨A1, A2, A3, A4, c1, c2, c3, c4, hB, h1, h2, h3, h4⟩ := h
  exact ⟨A1, A2, A3, A4, c1, c2, c3, c4, hB.exc e hB.lt hr, h1.exc e hx, h2.exc e hx, h3.exc e hx, h4.exc e hx⟩
section
variable {w : World} {ρ : Operand → Value} {o : Oper} {x y : Operand} {v u : Value} {n : Int} {b i : Nat} {ad : Addr}
theorem k_nil (ho : o.op = .nilCheck x) (hx : ρ x = .pointer (some ad)) : (execOp ρ o).run Tryz.prog w = .ok (.value (.pointer (some ad))) w := by
  simp only [execOp, ho, hx]
  go_simp
theorem k_storeFr {t : TypeId} {cs : Array Value} (ho : o.op = .store 23 x y) (hx : ρ x = .pointer (some ⟨b, i, none⟩)) (hy : ρ y = .int .i64 n) (hb : Blk w b t cs) (hi : i < cs.size) :
    (execOp ρ o).run Tryz.prog w = .ok .skip (w.setCell ⟨b, i, none⟩ (.int .i64 n)) := by
  have hc := hb.cell i
  have hf := hb.frozen i
  rw [Array.getElem?_eq_getElem hi] at hc
  simp only [execOp, ho, hx, hy]
  go_simp
theorem c_pFreq (ho : o.op = .call ⟨.value (.func 44), #[x], #[9]⟩) (hf : ρ (.func 44) = .func (.func 44) #[] #[]) (hx : ρ x = v) : (execOp ρ o).run Tryz.prog w = .ok (.enter 44 #[v]) w := by
  simp only [execOp, ho]
  go_simp
theorem c_pDay8 (ho : o.op = .call ⟨.value (.func 47), #[x], #[9]⟩) (hf : ρ (.func 47) = .func (.func 47) #[] #[]) (hx : ρ x = v) : (execOp ρ o).run Tryz.prog w = .ok (.enter 47 #[v]) w := by
  simp only [execOp, ho]
  go_simp
theorem c_plI (ho : o.op = .call ⟨.value (.func 48), #[x, .func 45], #[9, 96]⟩) (hf : ρ (.func 48) = .func (.func 48) #[] #[]) (hg : ρ (.func 45) = .func (.func 45) #[] #[]) (hx : ρ x = v) : (execOp ρ o).run Tryz.prog w = .ok (.enter 48 #[v, .func (.func 45) #[] #[]]) w := by
  simp only [execOp, ho]
  go_simp
theorem c_plN (ho : o.op = .call ⟨.value (.func 49), #[x, .func 50], #[9, 103]⟩) (hf : ρ (.func 49) = .func (.func 49) #[] #[]) (hg : ρ (.func 50) = .func (.func 50) #[] #[]) (hx : ρ x = v) : (execOp ρ o).run Tryz.prog w = .ok (.enter 49 #[v, .func (.func 50) #[] #[]]) w := by
  simp only [execOp, ho]
  go_simp
end
noncomputable def svBody : Code := Tryz.f19.body.getD .skip

set_option maxRecDepth 100000 in
set_option maxHeartbeats 1000000 in
theorem sv_0 (rb : Nat) (cs : Array Value) (h8 : cs.size = 8) (s : List UInt8) (w : World) (hT : Tabs w) (hB : Blk w rb 28 cs) :
    Calls Tryz.prog 19 #[.pointer (some ⟨rb, 0, none⟩), .int .i64 0, .string ⟨s.toArray⟩] w fun e w' => ∃ v, e = .returned v ∧ (v = .bool (Rfc.pfreq s).isSome ∧ Blk w' rb 28 (cs.setIfInBounds 0 (.int .i64 ((Rfc.pfreq s).getD 0 : Nat))) ∧ Exc w.heap.size rb w w') := by
  refine calls_of_wp Tryz.func19 (show Tryz.f19.body = some svBody from rfl) ?_
  generalize hAA : (Act.mk (#[.pointer (some ⟨rb, 0, none⟩), .int .i64 0, .string ⟨s.toArray⟩] ++ Array.replicate (Tryz.f19.ntmps - (#[.pointer (some ⟨rb, 0, none⟩), .int .i64 0, .string ⟨s.toArray⟩] : Array Value).size) undef) []) = a
  have hs : a.tmps.size = 89 := by rw [← hAA]; simp [Tryz.ntmps19]
  have hd : a.defers = [] := by rw [← hAA]
  have h0 : a.tmps.getD 0 undef = .pointer (some ⟨rb, 0, none⟩) := by rw [← hAA]; simp
  have h1 : a.tmps.getD 1 undef = .int .i64 0 := by rw [← hAA]; simp
  have h2 : a.tmps.getD 2 undef = .string ⟨s.toArray⟩ := by rw [← hAA]; simp
  clear hAA
  have kk := (((kn hs hd).p h0).p h1).p h2; clear hs hd h0 h1 h2
  suffices hq : ∀ Q : Exit → Act → World → Prop, (∀ (a' : Act) (w' : World), (bodyPost Tryz.prog Tryz.f19 fun e w' => ∃ v, e = .returned v ∧ (v = .bool (Rfc.pfreq s).isSome ∧ Blk w' rb 28 (cs.setIfInBounds 0 (.int .i64 ((Rfc.pfreq s).getD 0 : Nat))) ∧ Exc w.heap.size rb w w')) .ret a' w' → Q .ret a' w') → svBody.wp Tryz.prog Q a w from hq _ (fun _ _ h => h)
  intro Q hfin
  unfold svBody
  conv => arg 2; whnf
  refine wp_seq ?_
  refine wpr 1 ?_
  refine opk 0 6 (v := .bool false) kk (frY rfl (k_assign rfl rfl)) ?_; clear kk; intro a kk
  refine wp_seq ?_
  refine wp_seq ?_
  refine wpr 1 ?_
  refine opk 0 7 kk (frY rfl (k_move rfl (kk.e 1 rfl))) ?_; clear kk; intro a kk
  refine wp_block ?_
  refine wp_seq ?_
  refine wpr 2 ?_
  refine opk 0 9 (v := .bool true) kk (frY rfl (o_eqP rfl (kk.e 7 rfl) rfl rfl)) ?_; clear kk; intro a kk
  refine opk 1 8 kk (frY rfl (k_assign rfl (kk.e 9 rfl))) ?_; clear kk; intro a kk
  refine wp_cond_true (kk.e 8 rfl) ?_
  refine wpr 10 ?_
  refine opk 0 11 kk (frY rfl (k_move rfl (kk.e 0 rfl))) ?_; clear kk; intro a kk
  refine opk 1 12 kk (frY rfl (k_move rfl (kk.e 2 rfl))) ?_; clear kk; intro a kk
  have hc := pf_any s w hT
  refine opkc 2 13 kk hc (frY rfl (c_pFreq rfl rfl (kk.e 12 rfl))) ?_; clear kk hc
  rintro _ w1 a ⟨rfl, l1⟩ F0
  have kk := F0; clear F0
  have B1 := hB.below l1 hB.lt
  refine opk 3 10 kk (frY rfl (k_move rfl (kk.e 13 rfl))) ?_; clear kk; intro a kk
  refine opk 4 14 (v := .int .i64 ((Rfc.pfreq s).getD 0 : Nat)) kk (frY rfl (k_extract rfl (kk.e 10 rfl) rfl)) ?_; clear kk; intro a kk
  refine opk 5 15 (v := .bool (Rfc.pfreq s).isSome) kk (frY rfl (k_extract rfl (kk.e 10 rfl) rfl)) ?_; clear kk; intro a kk
  refine opk 6 16 (v := .pointer (some ⟨rb, 0, none⟩)) kk (frY rfl (k_nil rfl (kk.e 11 rfl))) ?_; clear kk; intro a kk
  refine opk 7 17 (v := .pointer (some ⟨rb, 0, none⟩)) kk (frY rfl (k_field0 rfl (kk.e 16 rfl))) ?_; clear kk; intro a kk
  refine opL_store 8 (w' := (w1.setCell ⟨rb, 0, none⟩ (.int .i64 ((Rfc.pfreq s).getD 0 : Nat)))) (by kernel_rfl) ?_ ?_
  · exact frY rfl (k_storeFr rfl (kk.e 17 rfl) (kk.e 14 rfl) B1 (by omega))
  obtain ⟨w2, hw2⟩ : ∃ wn, wn = w1.setCell ⟨rb, 0, none⟩ (.int .i64 ((Rfc.pfreq s).getD 0 : Nat)) := ⟨_, rfl⟩
  rw [← hw2]
  have B2 : Blk w2 rb 28 (cs.setIfInBounds 0 (.int .i64 ((Rfc.pfreq s).getD 0 : Nat))) := by rw [hw2]; exact B1.set 0 _
  have e2 : ∀ B, Exc B rb w1 w2 := by rw [hw2]; exact exc_set w1 rb 0 _
  clear hw2
  have ee : Exc w.heap.size rb w w2 := (Exc.of l1).trans (e2 _)
  replace kk := kk.keep [15, 8, 7, 2, 1, 0] rfl
  refine opk 9 6 kk (frY rfl (k_assign rfl (kk.e 15 rfl))) ?_; clear kk; intro a kk
  refine wp_seq ?_
  refine wpr 2 ?_
  refine opk 0 88 kk (frY rfl (k_move rfl (kk.e 6 rfl))) ?_; clear kk; intro a kk
  replace kk := kk.keep [88, 8, 7, 2, 1, 0] rfl
  refine opk 1 6 kk (frY rfl (k_assign rfl (kk.e 88 rfl))) ?_; clear kk; intro a kk
  refine wp_ret ?_
  refine hfin a _ ?_
  exact ⟨kk.d, _, results_tmp rfl _ _ _, _, rfl, (kk.g 6 rfl), B2, ee⟩

set_option maxRecDepth 100000 in
set_option maxHeartbeats 1000000 in
theorem sv_1 (rb : Nat) (cs : Array Value) (h8 : cs.size = 8) (s : List UInt8) (w : World) (hT : Tabs w) (hl : s.length ≤ 100000) (hB : Blk w rb 28 cs) :
    Calls Tryz.prog 19 #[.pointer (some ⟨rb, 0, none⟩), .int .i64 1, .string ⟨s.toArray⟩] w fun e w' => ∃ v, e = .returned v ∧ (v = .bool (Rfc.pnum s).isSome ∧ Blk w' rb 28 (cs.setIfInBounds 1 (.int .i64 ((Rfc.pnum s).getD 0))) ∧ Exc w.heap.size rb w w') := by
  refine calls_of_wp Tryz.func19 (show Tryz.f19.body = some svBody from rfl) ?_
  generalize hAA : (Act.mk (#[.pointer (some ⟨rb, 0, none⟩), .int .i64 1, .string ⟨s.toArray⟩] ++ Array.replicate (Tryz.f19.ntmps - (#[.pointer (some ⟨rb, 0, none⟩), .int .i64 1, .string ⟨s.toArray⟩] : Array Value).size) undef) []) = a
  have hs : a.tmps.size = 89 := by rw [← hAA]; simp [Tryz.ntmps19]
  have hd : a.defers = [] := by rw [← hAA]
  have h0 : a.tmps.getD 0 undef = .pointer (some ⟨rb, 0, none⟩) := by rw [← hAA]; simp
  have h1 : a.tmps.getD 1 undef = .int .i64 1 := by rw [← hAA]; simp
  have h2 : a.tmps.getD 2 undef = .string ⟨s.toArray⟩ := by rw [← hAA]; simp
  clear hAA
  have kk := (((kn hs hd).p h0).p h1).p h2; clear hs hd h0 h1 h2
  suffices hq : ∀ Q : Exit → Act → World → Prop, (∀ (a' : Act) (w' : World), (bodyPost Tryz.prog Tryz.f19 fun e w' => ∃ v, e = .returned v ∧ (v = .bool (Rfc.pnum s).isSome ∧ Blk w' rb 28 (cs.setIfInBounds 1 (.int .i64 ((Rfc.pnum s).getD 0))) ∧ Exc w.heap.size rb w w')) .ret a' w' → Q .ret a' w') → svBody.wp Tryz.prog Q a w from hq _ (fun _ _ h => h)
  intro Q hfin
  unfold svBody
  conv => arg 2; whnf
  refine wp_seq ?_
  refine wpr 1 ?_
  refine opk 0 6 (v := .bool false) kk (frY rfl (k_assign rfl rfl)) ?_; clear kk; intro a kk
  refine wp_seq ?_
  refine wp_seq ?_
  refine wpr 1 ?_
  refine opk 0 7 kk (frY rfl (k_move rfl (kk.e 1 rfl))) ?_; clear kk; intro a kk
  refine wp_block ?_
  refine wp_seq ?_
  refine wpr 2 ?_
  refine opk 0 9 (v := .bool false) kk (frY rfl (o_eqP rfl (kk.e 7 rfl) rfl rfl)) ?_; clear kk; intro a kk
  refine opk 1 8 kk (frY rfl (k_assign rfl (kk.e 9 rfl))) ?_; clear kk; intro a kk
  refine wp_cond_false (kk.e 8 rfl) ?_
  refine wp_seq ?_
  refine wpr 2 ?_
  refine opk 0 19 (v := .bool true) kk (frY rfl (o_eqP rfl (kk.e 7 rfl) rfl rfl)) ?_; clear kk; intro a kk
  refine opk 1 18 kk (frY rfl (k_assign rfl (kk.e 19 rfl))) ?_; clear kk; intro a kk
  refine wp_cond_true (kk.e 18 rfl) ?_
  refine wpr 10 ?_
  refine opk 0 21 kk (frY rfl (k_move rfl (kk.e 0 rfl))) ?_; clear kk; intro a kk
  refine opk 1 22 kk (frY rfl (k_move rfl (kk.e 2 rfl))) ?_; clear kk; intro a kk
  have hc := pn_any s w hT hl
  refine opkc 2 23 kk hc (frY rfl (c_pNum rfl rfl (kk.e 22 rfl))) ?_; clear kk hc
  rintro _ w1 a ⟨rfl, l1⟩ F0
  have kk := F0; clear F0
  have B1 := hB.below l1 hB.lt
  refine opk 3 20 kk (frY rfl (k_move rfl (kk.e 23 rfl))) ?_; clear kk; intro a kk
  refine opk 4 24 (v := .int .i64 ((Rfc.pnum s).getD 0)) kk (frY rfl (k_extract rfl (kk.e 20 rfl) rfl)) ?_; clear kk; intro a kk
  refine opk 5 25 (v := .bool (Rfc.pnum s).isSome) kk (frY rfl (k_extract rfl (kk.e 20 rfl) rfl)) ?_; clear kk; intro a kk
  refine opk 6 26 (v := .pointer (some ⟨rb, 0, none⟩)) kk (frY rfl (k_nil rfl (kk.e 21 rfl))) ?_; clear kk; intro a kk
  refine opk 7 27 (v := .pointer (some ⟨rb, 1, none⟩)) kk (frY rfl (k_field1 rfl (kk.e 26 rfl))) ?_; clear kk; intro a kk
  refine opL_store 8 (w' := (w1.setCell ⟨rb, 1, none⟩ (.int .i64 ((Rfc.pnum s).getD 0)))) (by kernel_rfl) ?_ ?_
  · exact frY rfl (k_storeI rfl (kk.e 27 rfl) (kk.e 24 rfl) B1 (by omega))
  obtain ⟨w2, hw2⟩ : ∃ wn, wn = w1.setCell ⟨rb, 1, none⟩ (.int .i64 ((Rfc.pnum s).getD 0)) := ⟨_, rfl⟩
  rw [← hw2]
  have B2 : Blk w2 rb 28 (cs.setIfInBounds 1 (.int .i64 ((Rfc.pnum s).getD 0))) := by rw [hw2]; exact B1.set 1 _
  have e2 : ∀ B, Exc B rb w1 w2 := by rw [hw2]; exact exc_set w1 rb 1 _
  clear hw2
  have ee : Exc w.heap.size rb w w2 := (Exc.of l1).trans (e2 _)
  replace kk := kk.keep [25, 18, 8, 7, 2, 1, 0] rfl
  refine opk 9 6 kk (frY rfl (k_assign rfl (kk.e 25 rfl))) ?_; clear kk; intro a kk
  refine wp_seq ?_
  refine wpr 2 ?_
  refine opk 0 88 kk (frY rfl (k_move rfl (kk.e 6 rfl))) ?_; clear kk; intro a kk
  replace kk := kk.keep [88, 18, 8, 7, 2, 1, 0] rfl
  refine opk 1 6 kk (frY rfl (k_assign rfl (kk.e 88 rfl))) ?_; clear kk; intro a kk
  refine wp_ret ?_
  refine hfin a _ ?_
  exact ⟨kk.d, _, results_tmp rfl _ _ _, _, rfl, (kk.g 6 rfl), B2, ee⟩

set_option maxRecDepth 100000 in
set_option maxHeartbeats 1000000 in
theorem sv_2 (rb : Nat) (cs : Array Value) (h8 : cs.size = 8) (s : List UInt8) (w : World) (hT : Tabs w) (hl : s.length ≤ 100000) (hB : Blk w rb 28 cs) :
    Calls Tryz.prog 19 #[.pointer (some ⟨rb, 0, none⟩), .int .i64 2, .string ⟨s.toArray⟩] w fun e w' => ∃ v, e = .returned v ∧ (v = .bool (Rfc.pnz s).isSome ∧ Blk w' rb 28 (cs.setIfInBounds 2 (.int .i64 ((Rfc.pnz s).getD 0))) ∧ Exc w.heap.size rb w w') := by
  refine calls_of_wp Tryz.func19 (show Tryz.f19.body = some svBody from rfl) ?_
  generalize hAA : (Act.mk (#[.pointer (some ⟨rb, 0, none⟩), .int .i64 2, .string ⟨s.toArray⟩] ++ Array.replicate (Tryz.f19.ntmps - (#[.pointer (some ⟨rb, 0, none⟩), .int .i64 2, .string ⟨s.toArray⟩] : Array Value).size) undef) []) = a
  have hs : a.tmps.size = 89 := by rw [← hAA]; simp [Tryz.ntmps19]
  have hd : a.defers = [] := by rw [← hAA]
  have h0 : a.tmps.getD 0 undef = .pointer (some ⟨rb, 0, none⟩) := by rw [← hAA]; simp
  have h1 : a.tmps.getD 1 undef = .int .i64 2 := by rw [← hAA]; simp
  have h2 : a.tmps.getD 2 undef = .string ⟨s.toArray⟩ := by rw [← hAA]; simp
  clear hAA
  have kk := (((kn hs hd).p h0).p h1).p h2; clear hs hd h0 h1 h2
  suffices hq : ∀ Q : Exit → Act → World → Prop, (∀ (a' : Act) (w' : World), (bodyPost Tryz.prog Tryz.f19 fun e w' => ∃ v, e = .returned v ∧ (v = .bool (Rfc.pnz s).isSome ∧ Blk w' rb 28 (cs.setIfInBounds 2 (.int .i64 ((Rfc.pnz s).getD 0))) ∧ Exc w.heap.size rb w w')) .ret a' w' → Q .ret a' w') → svBody.wp Tryz.prog Q a w from hq _ (fun _ _ h => h)
  intro Q hfin
  unfold svBody
  conv => arg 2; whnf
  refine wp_seq ?_
  refine wpr 1 ?_
  refine opk 0 6 (v := .bool false) kk (frY rfl (k_assign rfl rfl)) ?_; clear kk; intro a kk
  refine wp_seq ?_
  refine wp_seq ?_
  refine wpr 1 ?_
  refine opk 0 7 kk (frY rfl (k_move rfl (kk.e 1 rfl))) ?_; clear kk; intro a kk
  refine wp_block ?_
  refine wp_seq ?_
  refine wpr 2 ?_
  refine opk 0 9 (v := .bool false) kk (frY rfl (o_eqP rfl (kk.e 7 rfl) rfl rfl)) ?_; clear kk; intro a kk
  refine opk 1 8 kk (frY rfl (k_assign rfl (kk.e 9 rfl))) ?_; clear kk; intro a kk
  refine wp_cond_false (kk.e 8 rfl) ?_
  refine wp_seq ?_
  refine wpr 2 ?_
  refine opk 0 19 (v := .bool false) kk (frY rfl (o_eqP rfl (kk.e 7 rfl) rfl rfl)) ?_; clear kk; intro a kk
  refine opk 1 18 kk (frY rfl (k_assign rfl (kk.e 19 rfl))) ?_; clear kk; intro a kk
  refine wp_cond_false (kk.e 18 rfl) ?_
  refine wp_seq ?_
  refine wpr 2 ?_
  refine opk 0 29 (v := .bool true) kk (frY rfl (o_eqP rfl (kk.e 7 rfl) rfl rfl)) ?_; clear kk; intro a kk
  refine opk 1 28 kk (frY rfl (k_assign rfl (kk.e 29 rfl))) ?_; clear kk; intro a kk
  refine wp_cond_true (kk.e 28 rfl) ?_
  refine wpr 10 ?_
  refine opk 0 31 kk (frY rfl (k_move rfl (kk.e 0 rfl))) ?_; clear kk; intro a kk
  refine opk 1 32 kk (frY rfl (k_move rfl (kk.e 2 rfl))) ?_; clear kk; intro a kk
  have hc := pz_any s w hT hl
  refine opkc 2 33 kk hc (frY rfl (c_pNz rfl rfl (kk.e 32 rfl))) ?_; clear kk hc
  rintro _ w1 a ⟨rfl, l1⟩ F0
  have kk := F0; clear F0
  have B1 := hB.below l1 hB.lt
  refine opk 3 30 kk (frY rfl (k_move rfl (kk.e 33 rfl))) ?_; clear kk; intro a kk
  refine opk 4 34 (v := .int .i64 ((Rfc.pnz s).getD 0)) kk (frY rfl (k_extract rfl (kk.e 30 rfl) rfl)) ?_; clear kk; intro a kk
  refine opk 5 35 (v := .bool (Rfc.pnz s).isSome) kk (frY rfl (k_extract rfl (kk.e 30 rfl) rfl)) ?_; clear kk; intro a kk
  refine opk 6 36 (v := .pointer (some ⟨rb, 0, none⟩)) kk (frY rfl (k_nil rfl (kk.e 31 rfl))) ?_; clear kk; intro a kk
  refine opk 7 37 (v := .pointer (some ⟨rb, 2, none⟩)) kk (frY rfl (k_field2 rfl (kk.e 36 rfl))) ?_; clear kk; intro a kk
  refine opL_store 8 (w' := (w1.setCell ⟨rb, 2, none⟩ (.int .i64 ((Rfc.pnz s).getD 0)))) (by kernel_rfl) ?_ ?_
  · exact frY rfl (k_storeI rfl (kk.e 37 rfl) (kk.e 34 rfl) B1 (by omega))
  obtain ⟨w2, hw2⟩ : ∃ wn, wn = w1.setCell ⟨rb, 2, none⟩ (.int .i64 ((Rfc.pnz s).getD 0)) := ⟨_, rfl⟩
  rw [← hw2]
  have B2 : Blk w2 rb 28 (cs.setIfInBounds 2 (.int .i64 ((Rfc.pnz s).getD 0))) := by rw [hw2]; exact B1.set 2 _
  have e2 : ∀ B, Exc B rb w1 w2 := by rw [hw2]; exact exc_set w1 rb 2 _
  clear hw2
  have ee : Exc w.heap.size rb w w2 := (Exc.of l1).trans (e2 _)
  replace kk := kk.keep [35, 28, 18, 8, 7, 2, 1, 0] rfl
  refine opk 9 6 kk (frY rfl (k_assign rfl (kk.e 35 rfl))) ?_; clear kk; intro a kk
  refine wp_seq ?_
  refine wpr 2 ?_
  refine opk 0 88 kk (frY rfl (k_move rfl (kk.e 6 rfl))) ?_; clear kk; intro a kk
  replace kk := kk.keep [88, 28, 18, 8, 7, 2, 1, 0] rfl
  refine opk 1 6 kk (frY rfl (k_assign rfl (kk.e 88 rfl))) ?_; clear kk; intro a kk
  refine wp_ret ?_
  refine hfin a _ ?_
  exact ⟨kk.d, _, results_tmp rfl _ _ _, _, rfl, (kk.g 6 rfl), B2, ee⟩

set_option maxRecDepth 100000 in
set_option maxHeartbeats 1000000 in
theorem sv_3 (rb : Nat) (cs : Array Value) (h8 : cs.size = 8) (s : List UInt8) (w : World) (hT : Tabs w) (hB : Blk w rb 28 cs) :
    Calls Tryz.prog 19 #[.pointer (some ⟨rb, 0, none⟩), .int .i64 3, .string ⟨s.toArray⟩] w fun e w' => ∃ v, e = .returned v ∧ (v = .bool (Rfc.pday s).isSome ∧ Blk w' rb 28 (cs.setIfInBounds 3 (.int .i64 ((Rfc.pday s).getD 0))) ∧ Exc w.heap.size rb w w') := by
  refine calls_of_wp Tryz.func19 (show Tryz.f19.body = some svBody from rfl) ?_
  generalize hAA : (Act.mk (#[.pointer (some ⟨rb, 0, none⟩), .int .i64 3, .string ⟨s.toArray⟩] ++ Array.replicate (Tryz.f19.ntmps - (#[.pointer (some ⟨rb, 0, none⟩), .int .i64 3, .string ⟨s.toArray⟩] : Array Value).size) undef) []) = a
  have hs : a.tmps.size = 89 := by rw [← hAA]; simp [Tryz.ntmps19]
  have hd : a.defers = [] := by rw [← hAA]
  have h0 : a.tmps.getD 0 undef = .pointer (some ⟨rb, 0, none⟩) := by rw [← hAA]; simp
  have h1 : a.tmps.getD 1 undef = .int .i64 3 := by rw [← hAA]; simp
  have h2 : a.tmps.getD 2 undef = .string ⟨s.toArray⟩ := by rw [← hAA]; simp
  clear hAA
  have kk := (((kn hs hd).p h0).p h1).p h2; clear hs hd h0 h1 h2
  suffices hq : ∀ Q : Exit → Act → World → Prop, (∀ (a' : Act) (w' : World), (bodyPost Tryz.prog Tryz.f19 fun e w' => ∃ v, e = .returned v ∧ (v = .bool (Rfc.pday s).isSome ∧ Blk w' rb 28 (cs.setIfInBounds 3 (.int .i64 ((Rfc.pday s).getD 0))) ∧ Exc w.heap.size rb w w')) .ret a' w' → Q .ret a' w') → svBody.wp Tryz.prog Q a w from hq _ (fun _ _ h => h)
  intro Q hfin
  unfold svBody
  conv => arg 2; whnf
  refine wp_seq ?_
  refine wpr 1 ?_
  refine opk 0 6 (v := .bool false) kk (frY rfl (k_assign rfl rfl)) ?_; clear kk; intro a kk
  refine wp_seq ?_
  refine wp_seq ?_
  refine wpr 1 ?_
  refine opk 0 7 kk (frY rfl (k_move rfl (kk.e 1 rfl))) ?_; clear kk; intro a kk
  refine wp_block ?_
  refine wp_seq ?_
  refine wpr 2 ?_
  refine opk 0 9 (v := .bool false) kk (frY rfl (o_eqP rfl (kk.e 7 rfl) rfl rfl)) ?_; clear kk; intro a kk
  refine opk 1 8 kk (frY rfl (k_assign rfl (kk.e 9 rfl))) ?_; clear kk; intro a kk
  refine wp_cond_false (kk.e 8 rfl) ?_
  refine wp_seq ?_
  refine wpr 2 ?_
  refine opk 0 19 (v := .bool false) kk (frY rfl (o_eqP rfl (kk.e 7 rfl) rfl rfl)) ?_; clear kk; intro a kk
  refine opk 1 18 kk (frY rfl (k_assign rfl (kk.e 19 rfl))) ?_; clear kk; intro a kk
  refine wp_cond_false (kk.e 18 rfl) ?_
  refine wp_seq ?_
  refine wpr 2 ?_
  refine opk 0 29 (v := .bool false) kk (frY rfl (o_eqP rfl (kk.e 7 rfl) rfl rfl)) ?_; clear kk; intro a kk
  refine opk 1 28 kk (frY rfl (k_assign rfl (kk.e 29 rfl))) ?_; clear kk; intro a kk
  refine wp_cond_false (kk.e 28 rfl) ?_
  refine wp_seq ?_
  refine wpr 2 ?_
  refine opk 0 39 (v := .bool true) kk (frY rfl (o_eqP rfl (kk.e 7 rfl) rfl rfl)) ?_; clear kk; intro a kk
  refine opk 1 38 kk (frY rfl (k_assign rfl (kk.e 39 rfl))) ?_; clear kk; intro a kk
  refine wp_cond_true (kk.e 38 rfl) ?_
  refine wpr 10 ?_
  refine opk 0 41 kk (frY rfl (k_move rfl (kk.e 0 rfl))) ?_; clear kk; intro a kk
  refine opk 1 42 kk (frY rfl (k_move rfl (kk.e 2 rfl))) ?_; clear kk; intro a kk
  have hc := pd_any s w hT
  refine opkc 2 43 kk hc (frY rfl (c_pDay8 rfl rfl (kk.e 42 rfl))) ?_; clear kk hc
  rintro _ w1 a ⟨rfl, l1⟩ F0
  have kk := F0; clear F0
  have B1 := hB.below l1 hB.lt
  refine opk 3 40 kk (frY rfl (k_move rfl (kk.e 43 rfl))) ?_; clear kk; intro a kk
  refine opk 4 44 (v := .int .i64 ((Rfc.pday s).getD 0)) kk (frY rfl (k_extract rfl (kk.e 40 rfl) rfl)) ?_; clear kk; intro a kk
  refine opk 5 45 (v := .bool (Rfc.pday s).isSome) kk (frY rfl (k_extract rfl (kk.e 40 rfl) rfl)) ?_; clear kk; intro a kk
  refine opk 6 46 (v := .pointer (some ⟨rb, 0, none⟩)) kk (frY rfl (k_nil rfl (kk.e 41 rfl))) ?_; clear kk; intro a kk
  refine opk 7 47 (v := .pointer (some ⟨rb, 3, none⟩)) kk (frY rfl (k_field3 rfl (kk.e 46 rfl))) ?_; clear kk; intro a kk
  refine opL_store 8 (w' := (w1.setCell ⟨rb, 3, none⟩ (.int .i64 ((Rfc.pday s).getD 0)))) (by kernel_rfl) ?_ ?_
  · exact frY rfl (k_storeU rfl (kk.e 47 rfl) (kk.e 44 rfl) B1 (by omega))
  obtain ⟨w2, hw2⟩ : ∃ wn, wn = w1.setCell ⟨rb, 3, none⟩ (.int .i64 ((Rfc.pday s).getD 0)) := ⟨_, rfl⟩
  rw [← hw2]
  have B2 : Blk w2 rb 28 (cs.setIfInBounds 3 (.int .i64 ((Rfc.pday s).getD 0))) := by rw [hw2]; exact B1.set 3 _
  have e2 : ∀ B, Exc B rb w1 w2 := by rw [hw2]; exact exc_set w1 rb 3 _
  clear hw2
  have ee : Exc w.heap.size rb w w2 := (Exc.of l1).trans (e2 _)
  replace kk := kk.keep [45, 38, 28, 18, 8, 7, 2, 1, 0] rfl
  refine opk 9 6 kk (frY rfl (k_assign rfl (kk.e 45 rfl))) ?_; clear kk; intro a kk
  refine wp_seq ?_
  refine wpr 2 ?_
  refine opk 0 88 kk (frY rfl (k_move rfl (kk.e 6 rfl))) ?_; clear kk; intro a kk
  replace kk := kk.keep [88, 38, 28, 18, 8, 7, 2, 1, 0] rfl
  refine opk 1 6 kk (frY rfl (k_assign rfl (kk.e 88 rfl))) ?_; clear kk; intro a kk
  refine wp_ret ?_
  refine hfin a _ ?_
  exact ⟨kk.d, _, results_tmp rfl _ _ _, _, rfl, (kk.g 6 rfl), B2, ee⟩

set_option maxRecDepth 100000 in
set_option maxHeartbeats 1000000 in
theorem sv_4_yes (rb : Nat) (cs : Array Value) (h8 : cs.size = 8) (s : List UInt8) (w : World) (hT : Tabs w) (hl : s.length ≤ 100000) (hB : Blk w rb 28 cs) (L : List (Int)) (hL : Rfc.plistI s = some L) :
    Calls Tryz.prog 19 #[.pointer (some ⟨rb, 0, none⟩), .int .i64 4, .string ⟨s.toArray⟩] w fun e w' => ∃ v, e = .returned v ∧ (∃ A cap, v = .bool true ∧ OwnI w' w.heap.size (.slice A L.length cap) L ∧ Blk w' rb 28 (cs.setIfInBounds 4 (.slice A L.length cap)) ∧ Exc w.heap.size rb w w') := by
  refine calls_of_wp Tryz.func19 (show Tryz.f19.body = some svBody from rfl) ?_
  generalize hAA : (Act.mk (#[.pointer (some ⟨rb, 0, none⟩), .int .i64 4, .string ⟨s.toArray⟩] ++ Array.replicate (Tryz.f19.ntmps - (#[.pointer (some ⟨rb, 0, none⟩), .int .i64 4, .string ⟨s.toArray⟩] : Array Value).size) undef) []) = a
  have hs : a.tmps.size = 89 := by rw [← hAA]; simp [Tryz.ntmps19]
  have hd : a.defers = [] := by rw [← hAA]
  have h0 : a.tmps.getD 0 undef = .pointer (some ⟨rb, 0, none⟩) := by rw [← hAA]; simp
  have h1 : a.tmps.getD 1 undef = .int .i64 4 := by rw [← hAA]; simp
  have h2 : a.tmps.getD 2 undef = .string ⟨s.toArray⟩ := by rw [← hAA]; simp
  clear hAA
  have kk := (((kn hs hd).p h0).p h1).p h2; clear hs hd h0 h1 h2
  suffices hq : ∀ Q : Exit → Act → World → Prop, (∀ (a' : Act) (w' : World), (bodyPost Tryz.prog Tryz.f19 fun e w' => ∃ v, e = .returned v ∧ (∃ A cap, v = .bool true ∧ OwnI w' w.heap.size (.slice A L.length cap) L ∧ Blk w' rb 28 (cs.setIfInBounds 4 (.slice A L.length cap)) ∧ Exc w.heap.size rb w w')) .ret a' w' → Q .ret a' w') → svBody.wp Tryz.prog Q a w from hq _ (fun _ _ h => h)
  intro Q hfin
  unfold svBody
  conv => arg 2; whnf
  refine wp_seq ?_
  refine wpr 1 ?_
  refine opk 0 6 (v := .bool false) kk (frY rfl (k_assign rfl rfl)) ?_; clear kk; intro a kk
  refine wp_seq ?_
  refine wp_seq ?_
  refine wpr 1 ?_
  refine opk 0 7 kk (frY rfl (k_move rfl (kk.e 1 rfl))) ?_; clear kk; intro a kk
  refine wp_block ?_
  refine wp_seq ?_
  refine wpr 2 ?_
  refine opk 0 9 (v := .bool false) kk (frY rfl (o_eqP rfl (kk.e 7 rfl) rfl rfl)) ?_; clear kk; intro a kk
  refine opk 1 8 kk (frY rfl (k_assign rfl (kk.e 9 rfl))) ?_; clear kk; intro a kk
  refine wp_cond_false (kk.e 8 rfl) ?_
  refine wp_seq ?_
  refine wpr 2 ?_
  refine opk 0 19 (v := .bool false) kk (frY rfl (o_eqP rfl (kk.e 7 rfl) rfl rfl)) ?_; clear kk; intro a kk
  refine opk 1 18 kk (frY rfl (k_assign rfl (kk.e 19 rfl))) ?_; clear kk; intro a kk
  refine wp_cond_false (kk.e 18 rfl) ?_
  refine wp_seq ?_
  refine wpr 2 ?_
  refine opk 0 29 (v := .bool false) kk (frY rfl (o_eqP rfl (kk.e 7 rfl) rfl rfl)) ?_; clear kk; intro a kk
  refine opk 1 28 kk (frY rfl (k_assign rfl (kk.e 29 rfl))) ?_; clear kk; intro a kk
  refine wp_cond_false (kk.e 28 rfl) ?_
  refine wp_seq ?_
  refine wpr 2 ?_
  refine opk 0 39 (v := .bool false) kk (frY rfl (o_eqP rfl (kk.e 7 rfl) rfl rfl)) ?_; clear kk; intro a kk
  refine opk 1 38 kk (frY rfl (k_assign rfl (kk.e 39 rfl))) ?_; clear kk; intro a kk
  refine wp_cond_false (kk.e 38 rfl) ?_
  refine wp_seq ?_
  refine wpr 2 ?_
  refine opk 0 49 (v := .bool true) kk (frY rfl (o_eqP rfl (kk.e 7 rfl) rfl rfl)) ?_; clear kk; intro a kk
  refine opk 1 48 kk (frY rfl (k_assign rfl (kk.e 49 rfl))) ?_; clear kk; intro a kk
  refine wp_cond_true (kk.e 48 rfl) ?_
  refine wpr 10 ?_
  refine opk 0 51 kk (frY rfl (k_move rfl (kk.e 0 rfl))) ?_; clear kk; intro a kk
  refine opk 1 52 kk (frY rfl (k_move rfl (kk.e 2 rfl))) ?_; clear kk; intro a kk
  have hc := psI_any s w hT hl
  refine opkc 2 53 kk hc (frY rfl (c_plI rfl rfl rfl (kk.e 52 rfl))) ?_; clear kk hc
  rintro v0 w1 a ⟨hLv, l1⟩ F0
  obtain ⟨A, cap, rfl, hO⟩ : ∃ A cap, v0 = .tuple #[.slice A L.length cap, .bool true] ∧ OwnI w1 w.heap.size (.slice A L.length cap) L := by
    unfold LI at hLv
    rw [hL] at hLv
    exact hLv
  clear hLv
  have kk := F0; clear F0
  have B1 := hB.below l1 hB.lt
  refine opk 3 50 kk (frY rfl (k_move rfl (kk.e 53 rfl))) ?_; clear kk; intro a kk
  refine opk 4 54 (v := .slice A L.length cap) kk (frY rfl (k_extract rfl (kk.e 50 rfl) rfl)) ?_; clear kk; intro a kk
  refine opk 5 55 (v := .bool true) kk (frY rfl (k_extract rfl (kk.e 50 rfl) rfl)) ?_; clear kk; intro a kk
  refine opk 6 56 (v := .pointer (some ⟨rb, 0, none⟩)) kk (frY rfl (k_nil rfl (kk.e 51 rfl))) ?_; clear kk; intro a kk
  refine opk 7 57 (v := .pointer (some ⟨rb, 4, none⟩)) kk (frY rfl (k_field4 rfl (kk.e 56 rfl))) ?_; clear kk; intro a kk
  refine opL_store 8 (w' := (w1.setCell ⟨rb, 4, none⟩ (.slice A L.length cap))) (by kernel_rfl) ?_ ?_
  · exact frY rfl (k_storeL rfl (kk.e 57 rfl) (kk.e 54 rfl) B1 (by omega))
  obtain ⟨w2, hw2⟩ : ∃ wn, wn = w1.setCell ⟨rb, 4, none⟩ (.slice A L.length cap) := ⟨_, rfl⟩
  rw [← hw2]
  have B2 : Blk w2 rb 28 (cs.setIfInBounds 4 (.slice A L.length cap)) := by rw [hw2]; exact B1.set 4 _
  have e2 : ∀ B, Exc B rb w1 w2 := by rw [hw2]; exact exc_set w1 rb 4 _
  clear hw2
  have ee : Exc w.heap.size rb w w2 := (Exc.of l1).trans (e2 _)
  replace kk := kk.keep [55, 48, 38, 28, 18, 8, 7, 2, 1, 0] rfl
  refine opk 9 6 kk (frY rfl (k_assign rfl (kk.e 55 rfl))) ?_; clear kk; intro a kk
  refine wp_seq ?_
  refine wpr 2 ?_
  refine opk 0 88 kk (frY rfl (k_move rfl (kk.e 6 rfl))) ?_; clear kk; intro a kk
  replace kk := kk.keep [88, 48, 38, 28, 18, 8, 7, 2, 1, 0] rfl
  refine opk 1 6 kk (frY rfl (k_assign rfl (kk.e 88 rfl))) ?_; clear kk; intro a kk
  refine wp_ret ?_
  refine hfin a _ ?_
  exact ⟨kk.d, _, results_tmp rfl _ _ _, _, rfl, A, cap, (kk.g 6 rfl), hO.exc (e2 w1.heap.size) (fun g hg => ⟨(hO.lt g hg).2, by have := (hO.lt g hg).1; have := hB.lt; omega⟩), B2, ee⟩

set_option maxRecDepth 100000 in
set_option maxHeartbeats 1000000 in
theorem sv_4_no (rb : Nat) (cs : Array Value) (h8 : cs.size = 8) (s : List UInt8) (w : World) (hT : Tabs w) (hl : s.length ≤ 100000) (hB : Blk w rb 28 cs) (hL : Rfc.plistI s = none) :
    Calls Tryz.prog 19 #[.pointer (some ⟨rb, 0, none⟩), .int .i64 4, .string ⟨s.toArray⟩] w fun e w' => ∃ v, e = .returned v ∧ (v = .bool false ∧ Blk w' rb 28 (cs.setIfInBounds 4 (.slice none 0 0)) ∧ Exc w.heap.size rb w w') := by
  refine calls_of_wp Tryz.func19 (show Tryz.f19.body = some svBody from rfl) ?_
  generalize hAA : (Act.mk (#[.pointer (some ⟨rb, 0, none⟩), .int .i64 4, .string ⟨s.toArray⟩] ++ Array.replicate (Tryz.f19.ntmps - (#[.pointer (some ⟨rb, 0, none⟩), .int .i64 4, .string ⟨s.toArray⟩] : Array Value).size) undef) []) = a
  have hs : a.tmps.size = 89 := by rw [← hAA]; simp [Tryz.ntmps19]
  have hd : a.defers = [] := by rw [← hAA]
  have h0 : a.tmps.getD 0 undef = .pointer (some ⟨rb, 0, none⟩) := by rw [← hAA]; simp
  have h1 : a.tmps.getD 1 undef = .int .i64 4 := by rw [← hAA]; simp
  have h2 : a.tmps.getD 2 undef = .string ⟨s.toArray⟩ := by rw [← hAA]; simp
  clear hAA
  have kk := (((kn hs hd).p h0).p h1).p h2; clear hs hd h0 h1 h2
  suffices hq : ∀ Q : Exit → Act → World → Prop, (∀ (a' : Act) (w' : World), (bodyPost Tryz.prog Tryz.f19 fun e w' => ∃ v, e = .returned v ∧ (v = .bool false ∧ Blk w' rb 28 (cs.setIfInBounds 4 (.slice none 0 0)) ∧ Exc w.heap.size rb w w')) .ret a' w' → Q .ret a' w') → svBody.wp Tryz.prog Q a w from hq _ (fun _ _ h => h)
  intro Q hfin
  unfold svBody
  conv => arg 2; whnf
  refine wp_seq ?_
  refine wpr 1 ?_
  refine opk 0 6 (v := .bool false) kk (frY rfl (k_assign rfl rfl)) ?_; clear kk; intro a kk
  refine wp_seq ?_
  refine wp_seq ?_
  refine wpr 1 ?_
  refine opk 0 7 kk (frY rfl (k_move rfl (kk.e 1 rfl))) ?_; clear kk; intro a kk
  refine wp_block ?_
  refine wp_seq ?_
  refine wpr 2 ?_
  refine opk 0 9 (v := .bool false) kk (frY rfl (o_eqP rfl (kk.e 7 rfl) rfl rfl)) ?_; clear kk; intro a kk
  refine opk 1 8 kk (frY rfl (k_assign rfl (kk.e 9 rfl))) ?_; clear kk; intro a kk
  refine wp_cond_false (kk.e 8 rfl) ?_
  refine wp_seq ?_
  refine wpr 2 ?_
  refine opk 0 19 (v := .bool false) kk (frY rfl (o_eqP rfl (kk.e 7 rfl) rfl rfl)) ?_; clear kk; intro a kk
  refine opk 1 18 kk (frY rfl (k_assign rfl (kk.e 19 rfl))) ?_; clear kk; intro a kk
  refine wp_cond_false (kk.e 18 rfl) ?_
  refine wp_seq ?_
  refine wpr 2 ?_
  refine opk 0 29 (v := .bool false) kk (frY rfl (o_eqP rfl (kk.e 7 rfl) rfl rfl)) ?_; clear kk; intro a kk
  refine opk 1 28 kk (frY rfl (k_assign rfl (kk.e 29 rfl))) ?_; clear kk; intro a kk
  refine wp_cond_false (kk.e 28 rfl) ?_
  refine wp_seq ?_
  refine wpr 2 ?_
  refine opk 0 39 (v := .bool false) kk (frY rfl (o_eqP rfl (kk.e 7 rfl) rfl rfl)) ?_; clear kk; intro a kk
  refine opk 1 38 kk (frY rfl (k_assign rfl (kk.e 39 rfl))) ?_; clear kk; intro a kk
  refine wp_cond_false (kk.e 38 rfl) ?_
  refine wp_seq ?_
  refine wpr 2 ?_
  refine opk 0 49 (v := .bool true) kk (frY rfl (o_eqP rfl (kk.e 7 rfl) rfl rfl)) ?_; clear kk; intro a kk
  refine opk 1 48 kk (frY rfl (k_assign rfl (kk.e 49 rfl))) ?_; clear kk; intro a kk
  refine wp_cond_true (kk.e 48 rfl) ?_
  refine wpr 10 ?_
  refine opk 0 51 kk (frY rfl (k_move rfl (kk.e 0 rfl))) ?_; clear kk; intro a kk
  refine opk 1 52 kk (frY rfl (k_move rfl (kk.e 2 rfl))) ?_; clear kk; intro a kk
  have hc := psI_any s w hT hl
  refine opkc 2 53 kk hc (frY rfl (c_plI rfl rfl rfl (kk.e 52 rfl))) ?_; clear kk hc
  rintro v0 w1 a ⟨hLv, l1⟩ F0
  obtain rfl : v0 = .tuple #[.slice none 0 0, .bool false] := by
    unfold LI at hLv
    rw [hL] at hLv
    exact hLv
  clear hLv
  have kk := F0; clear F0
  have B1 := hB.below l1 hB.lt
  refine opk 3 50 kk (frY rfl (k_move rfl (kk.e 53 rfl))) ?_; clear kk; intro a kk
  refine opk 4 54 (v := .slice none 0 0) kk (frY rfl (k_extract rfl (kk.e 50 rfl) rfl)) ?_; clear kk; intro a kk
  refine opk 5 55 (v := .bool false) kk (frY rfl (k_extract rfl (kk.e 50 rfl) rfl)) ?_; clear kk; intro a kk
  refine opk 6 56 (v := .pointer (some ⟨rb, 0, none⟩)) kk (frY rfl (k_nil rfl (kk.e 51 rfl))) ?_; clear kk; intro a kk
  refine opk 7 57 (v := .pointer (some ⟨rb, 4, none⟩)) kk (frY rfl (k_field4 rfl (kk.e 56 rfl))) ?_; clear kk; intro a kk
  refine opL_store 8 (w' := (w1.setCell ⟨rb, 4, none⟩ (.slice none 0 0))) (by kernel_rfl) ?_ ?_
  · exact frY rfl (k_storeL rfl (kk.e 57 rfl) (kk.e 54 rfl) B1 (by omega))
  obtain ⟨w2, hw2⟩ : ∃ wn, wn = w1.setCell ⟨rb, 4, none⟩ (.slice none 0 0) := ⟨_, rfl⟩
  rw [← hw2]
  have B2 : Blk w2 rb 28 (cs.setIfInBounds 4 (.slice none 0 0)) := by rw [hw2]; exact B1.set 4 _
  have e2 : ∀ B, Exc B rb w1 w2 := by rw [hw2]; exact exc_set w1 rb 4 _
  clear hw2
  have ee : Exc w.heap.size rb w w2 := (Exc.of l1).trans (e2 _)
  replace kk := kk.keep [55, 48, 38, 28, 18, 8, 7, 2, 1, 0] rfl
  refine opk 9 6 kk (frY rfl (k_assign rfl (kk.e 55 rfl))) ?_; clear kk; intro a kk
  refine wp_seq ?_
  refine wpr 2 ?_
  refine opk 0 88 kk (frY rfl (k_move rfl (kk.e 6 rfl))) ?_; clear kk; intro a kk
  replace kk := kk.keep [88, 48, 38, 28, 18, 8, 7, 2, 1, 0] rfl
  refine opk 1 6 kk (frY rfl (k_assign rfl (kk.e 88 rfl))) ?_; clear kk; intro a kk
  refine wp_ret ?_
  refine hfin a _ ?_
  exact ⟨kk.d, _, results_tmp rfl _ _ _, _, rfl, (kk.g 6 rfl), B2, ee⟩

set_option maxRecDepth 100000 in
set_option maxHeartbeats 1000000 in
theorem sv_5_yes (rb : Nat) (cs : Array Value) (h8 : cs.size = 8) (s : List UInt8) (w : World) (hT : Tabs w) (hl : s.length ≤ 100000) (hB : Blk w rb 28 cs) (L : List (Int)) (hL : Rfc.plistI s = some L) :
    Calls Tryz.prog 19 #[.pointer (some ⟨rb, 0, none⟩), .int .i64 5, .string ⟨s.toArray⟩] w fun e w' => ∃ v, e = .returned v ∧ (∃ A cap, v = .bool true ∧ OwnI w' w.heap.size (.slice A L.length cap) L ∧ Blk w' rb 28 (cs.setIfInBounds 5 (.slice A L.length cap)) ∧ Exc w.heap.size rb w w') := by
  refine calls_of_wp Tryz.func19 (show Tryz.f19.body = some svBody from rfl) ?_
  generalize hAA : (Act.mk (#[.pointer (some ⟨rb, 0, none⟩), .int .i64 5, .string ⟨s.toArray⟩] ++ Array.replicate (Tryz.f19.ntmps - (#[.pointer (some ⟨rb, 0, none⟩), .int .i64 5, .string ⟨s.toArray⟩] : Array Value).size) undef) []) = a
  have hs : a.tmps.size = 89 := by rw [← hAA]; simp [Tryz.ntmps19]
  have hd : a.defers = [] := by rw [← hAA]
  have h0 : a.tmps.getD 0 undef = .pointer (some ⟨rb, 0, none⟩) := by rw [← hAA]; simp
  have h1 : a.tmps.getD 1 undef = .int .i64 5 := by rw [← hAA]; simp
  have h2 : a.tmps.getD 2 undef = .string ⟨s.toArray⟩ := by rw [← hAA]; simp
  clear hAA
  have kk := (((kn hs hd).p h0).p h1).p h2; clear hs hd h0 h1 h2
  suffices hq : ∀ Q : Exit → Act → World → Prop, (∀ (a' : Act) (w' : World), (bodyPost Tryz.prog Tryz.f19 fun e w' => ∃ v, e = .returned v ∧ (∃ A cap, v = .bool true ∧ OwnI w' w.heap.size (.slice A L.length cap) L ∧ Blk w' rb 28 (cs.setIfInBounds 5 (.slice A L.length cap)) ∧ Exc w.heap.size rb w w')) .ret a' w' → Q .ret a' w') → svBody.wp Tryz.prog Q a w from hq _ (fun _ _ h => h)
  intro Q hfin
  unfold svBody
  conv => arg 2; whnf
  refine wp_seq ?_
  refine wpr 1 ?_
  refine opk 0 6 (v := .bool false) kk (frY rfl (k_assign rfl rfl)) ?_; clear kk; intro a kk
  refine wp_seq ?_
  refine wp_seq ?_
  refine wpr 1 ?_
  refine opk 0 7 kk (frY rfl (k_move rfl (kk.e 1 rfl))) ?_; clear kk; intro a kk
  refine wp_block ?_
  refine wp_seq ?_
  refine wpr 2 ?_
  refine opk 0 9 (v := .bool false) kk (frY rfl (o_eqP rfl (kk.e 7 rfl) rfl rfl)) ?_; clear kk; intro a kk
  refine opk 1 8 kk (frY rfl (k_assign rfl (kk.e 9 rfl))) ?_; clear kk; intro a kk
  refine wp_cond_false (kk.e 8 rfl) ?_
  refine wp_seq ?_
  refine wpr 2 ?_
  refine opk 0 19 (v := .bool false) kk (frY rfl (o_eqP rfl (kk.e 7 rfl) rfl rfl)) ?_; clear kk; intro a kk
  refine opk 1 18 kk (frY rfl (k_assign rfl (kk.e 19 rfl))) ?_; clear kk; intro a kk
  refine wp_cond_false (kk.e 18 rfl) ?_
  refine wp_seq ?_
  refine wpr 2 ?_
  refine opk 0 29 (v := .bool false) kk (frY rfl (o_eqP rfl (kk.e 7 rfl) rfl rfl)) ?_; clear kk; intro a kk
  refine opk 1 28 kk (frY rfl (k_assign rfl (kk.e 29 rfl))) ?_; clear kk; intro a kk
  refine wp_cond_false (kk.e 28 rfl) ?_
  refine wp_seq ?_
  refine wpr 2 ?_
  refine opk 0 39 (v := .bool false) kk (frY rfl (o_eqP rfl (kk.e 7 rfl) rfl rfl)) ?_; clear kk; intro a kk
  refine opk 1 38 kk (frY rfl (k_assign rfl (kk.e 39 rfl))) ?_; clear kk; intro a kk
  refine wp_cond_false (kk.e 38 rfl) ?_
  refine wp_seq ?_
  refine wpr 2 ?_
  refine opk 0 49 (v := .bool false) kk (frY rfl (o_eqP rfl (kk.e 7 rfl) rfl rfl)) ?_; clear kk; intro a kk
  refine opk 1 48 kk (frY rfl (k_assign rfl (kk.e 49 rfl))) ?_; clear kk; intro a kk
  refine wp_cond_false (kk.e 48 rfl) ?_
  refine wp_seq ?_
  refine wpr 2 ?_
  refine opk 0 59 (v := .bool true) kk (frY rfl (o_eqP rfl (kk.e 7 rfl) rfl rfl)) ?_; clear kk; intro a kk
  refine opk 1 58 kk (frY rfl (k_assign rfl (kk.e 59 rfl))) ?_; clear kk; intro a kk
  refine wp_cond_true (kk.e 58 rfl) ?_
  refine wpr 10 ?_
  refine opk 0 61 kk (frY rfl (k_move rfl (kk.e 0 rfl))) ?_; clear kk; intro a kk
  refine opk 1 62 kk (frY rfl (k_move rfl (kk.e 2 rfl))) ?_; clear kk; intro a kk
  have hc := psI_any s w hT hl
  refine opkc 2 63 kk hc (frY rfl (c_plI rfl rfl rfl (kk.e 62 rfl))) ?_; clear kk hc
  rintro v0 w1 a ⟨hLv, l1⟩ F0
  obtain ⟨A, cap, rfl, hO⟩ : ∃ A cap, v0 = .tuple #[.slice A L.length cap, .bool true] ∧ OwnI w1 w.heap.size (.slice A L.length cap) L := by
    unfold LI at hLv
    rw [hL] at hLv
    exact hLv
  clear hLv
  have kk := F0; clear F0
  have B1 := hB.below l1 hB.lt
  refine opk 3 60 kk (frY rfl (k_move rfl (kk.e 63 rfl))) ?_; clear kk; intro a kk
  refine opk 4 64 (v := .slice A L.length cap) kk (frY rfl (k_extract rfl (kk.e 60 rfl) rfl)) ?_; clear kk; intro a kk
  refine opk 5 65 (v := .bool true) kk (frY rfl (k_extract rfl (kk.e 60 rfl) rfl)) ?_; clear kk; intro a kk
  refine opk 6 66 (v := .pointer (some ⟨rb, 0, none⟩)) kk (frY rfl (k_nil rfl (kk.e 61 rfl))) ?_; clear kk; intro a kk
  refine opk 7 67 (v := .pointer (some ⟨rb, 5, none⟩)) kk (frY rfl (k_field5 rfl (kk.e 66 rfl))) ?_; clear kk; intro a kk
  refine opL_store 8 (w' := (w1.setCell ⟨rb, 5, none⟩ (.slice A L.length cap))) (by kernel_rfl) ?_ ?_
  · exact frY rfl (k_storeL rfl (kk.e 67 rfl) (kk.e 64 rfl) B1 (by omega))
  obtain ⟨w2, hw2⟩ : ∃ wn, wn = w1.setCell ⟨rb, 5, none⟩ (.slice A L.length cap) := ⟨_, rfl⟩
  rw [← hw2]
  have B2 : Blk w2 rb 28 (cs.setIfInBounds 5 (.slice A L.length cap)) := by rw [hw2]; exact B1.set 5 _
  have e2 : ∀ B, Exc B rb w1 w2 := by rw [hw2]; exact exc_set w1 rb 5 _
  clear hw2
  have ee : Exc w.heap.size rb w w2 := (Exc.of l1).trans (e2 _)
  replace kk := kk.keep [65, 58, 48, 38, 28, 18, 8, 7, 2, 1, 0] rfl
  refine opk 9 6 kk (frY rfl (k_assign rfl (kk.e 65 rfl))) ?_; clear kk; intro a kk
  refine wp_seq ?_
  refine wpr 2 ?_
  refine opk 0 88 kk (frY rfl (k_move rfl (kk.e 6 rfl))) ?_; clear kk; intro a kk
  replace kk := kk.keep [88, 58, 48, 38, 28, 18, 8, 7, 2, 1, 0] rfl
  refine opk 1 6 kk (frY rfl (k_assign rfl (kk.e 88 rfl))) ?_; clear kk; intro a kk
  refine wp_ret ?_
  refine hfin a _ ?_
  exact ⟨kk.d, _, results_tmp rfl _ _ _, _, rfl, A, cap, (kk.g 6 rfl), hO.exc (e2 w1.heap.size) (fun g hg => ⟨(hO.lt g hg).2, by have := (hO.lt g hg).1; have := hB.lt; omega⟩), B2, ee⟩

set_option maxRecDepth 100000 in
set_option maxHeartbeats 1000000 in
theorem sv_5_no (rb : Nat) (cs : Array Value) (h8 : cs.size = 8) (s : List UInt8) (w : World) (hT : Tabs w) (hl : s.length ≤ 100000) (hB : Blk w rb 28 cs) (hL : Rfc.plistI s = none) :
    Calls Tryz.prog 19 #[.pointer (some ⟨rb, 0, none⟩), .int .i64 5, .string ⟨s.toArray⟩] w fun e w' => ∃ v, e = .returned v ∧ (v = .bool false ∧ Blk w' rb 28 (cs.setIfInBounds 5 (.slice none 0 0)) ∧ Exc w.heap.size rb w w') := by
  refine calls_of_wp Tryz.func19 (show Tryz.f19.body = some svBody from rfl) ?_
  generalize hAA : (Act.mk (#[.pointer (some ⟨rb, 0, none⟩), .int .i64 5, .string ⟨s.toArray⟩] ++ Array.replicate (Tryz.f19.ntmps - (#[.pointer (some ⟨rb, 0, none⟩), .int .i64 5, .string ⟨s.toArray⟩] : Array Value).size) undef) []) = a
  have hs : a.tmps.size = 89 := by rw [← hAA]; simp [Tryz.ntmps19]
  have hd : a.defers = [] := by rw [← hAA]
  have h0 : a.tmps.getD 0 undef = .pointer (some ⟨rb, 0, none⟩) := by rw [← hAA]; simp
  have h1 : a.tmps.getD 1 undef = .int .i64 5 := by rw [← hAA]; simp
  have h2 : a.tmps.getD 2 undef = .string ⟨s.toArray⟩ := by rw [← hAA]; simp
  clear hAA
  have kk := (((kn hs hd).p h0).p h1).p h2; clear hs hd h0 h1 h2
  suffices hq : ∀ Q : Exit → Act → World → Prop, (∀ (a' : Act) (w' : World), (bodyPost Tryz.prog Tryz.f19 fun e w' => ∃ v, e = .returned v ∧ (v = .bool false ∧ Blk w' rb 28 (cs.setIfInBounds 5 (.slice none 0 0)) ∧ Exc w.heap.size rb w w')) .ret a' w' → Q .ret a' w') → svBody.wp Tryz.prog Q a w from hq _ (fun _ _ h => h)
  intro Q hfin
  unfold svBody
  conv => arg 2; whnf
  refine wp_seq ?_
  refine wpr 1 ?_
  refine opk 0 6 (v := .bool false) kk (frY rfl (k_assign rfl rfl)) ?_; clear kk; intro a kk
  refine wp_seq ?_
  refine wp_seq ?_
  refine wpr 1 ?_
  refine opk 0 7 kk (frY rfl (k_move rfl (kk.e 1 rfl))) ?_; clear kk; intro a kk
  refine wp_block ?_
  refine wp_seq ?_
  refine wpr 2 ?_
  refine opk 0 9 (v := .bool false) kk (frY rfl (o_eqP rfl (kk.e 7 rfl) rfl rfl)) ?_; clear kk; intro a kk
  refine opk 1 8 kk (frY rfl (k_assign rfl (kk.e 9 rfl))) ?_; clear kk; intro a kk
  refine wp_cond_false (kk.e 8 rfl) ?_
  refine wp_seq ?_
  refine wpr 2 ?_
  refine opk 0 19 (v := .bool false) kk (frY rfl (o_eqP rfl (kk.e 7 rfl) rfl rfl)) ?_; clear kk; intro a kk
  refine opk 1 18 kk (frY rfl (k_assign rfl (kk.e 19 rfl))) ?_; clear kk; intro a kk
  refine wp_cond_false (kk.e 18 rfl) ?_
  refine wp_seq ?_
  refine wpr 2 ?_
  refine opk 0 29 (v := .bool false) kk (frY rfl (o_eqP rfl (kk.e 7 rfl) rfl rfl)) ?_; clear kk; intro a kk
  refine opk 1 28 kk (frY rfl (k_assign rfl (kk.e 29 rfl))) ?_; clear kk; intro a kk
  refine wp_cond_false (kk.e 28 rfl) ?_
  refine wp_seq ?_
  refine wpr 2 ?_
  refine opk 0 39 (v := .bool false) kk (frY rfl (o_eqP rfl (kk.e 7 rfl) rfl rfl)) ?_; clear kk; intro a kk
  refine opk 1 38 kk (frY rfl (k_assign rfl (kk.e 39 rfl))) ?_; clear kk; intro a kk
  refine wp_cond_false (kk.e 38 rfl) ?_
  refine wp_seq ?_
  refine wpr 2 ?_
  refine opk 0 49 (v := .bool false) kk (frY rfl (o_eqP rfl (kk.e 7 rfl) rfl rfl)) ?_; clear kk; intro a kk
  refine opk 1 48 kk (frY rfl (k_assign rfl (kk.e 49 rfl))) ?_; clear kk; intro a kk
  refine wp_cond_false (kk.e 48 rfl) ?_
  refine wp_seq ?_
  refine wpr 2 ?_
  refine opk 0 59 (v := .bool true) kk (frY rfl (o_eqP rfl (kk.e 7 rfl) rfl rfl)) ?_; clear kk; intro a kk
  refine opk 1 58 kk (frY rfl (k_assign rfl (kk.e 59 rfl))) ?_; clear kk; intro a kk
  refine wp_cond_true (kk.e 58 rfl) ?_
  refine wpr 10 ?_
  refine opk 0 61 kk (frY rfl (k_move rfl (kk.e 0 rfl))) ?_; clear kk; intro a kk
  refine opk 1 62 kk (frY rfl (k_move rfl (kk.e 2 rfl))) ?_; clear kk; intro a kk
  have hc := psI_any s w hT hl
  refine opkc 2 63 kk hc (frY rfl (c_plI rfl rfl rfl (kk.e 62 rfl))) ?_; clear kk hc
  rintro v0 w1 a ⟨hLv, l1⟩ F0
  obtain rfl : v0 = .tuple #[.slice none 0 0, .bool false] := by
    unfold LI at hLv
    rw [hL] at hLv
    exact hLv
  clear hLv
  have kk := F0; clear F0
  have B1 := hB.below l1 hB.lt
  refine opk 3 60 kk (frY rfl (k_move rfl (kk.e 63 rfl))) ?_; clear kk; intro a kk
  refine opk 4 64 (v := .slice none 0 0) kk (frY rfl (k_extract rfl (kk.e 60 rfl) rfl)) ?_; clear kk; intro a kk
  refine opk 5 65 (v := .bool false) kk (frY rfl (k_extract rfl (kk.e 60 rfl) rfl)) ?_; clear kk; intro a kk
  refine opk 6 66 (v := .pointer (some ⟨rb, 0, none⟩)) kk (frY rfl (k_nil rfl (kk.e 61 rfl))) ?_; clear kk; intro a kk
  refine opk 7 67 (v := .pointer (some ⟨rb, 5, none⟩)) kk (frY rfl (k_field5 rfl (kk.e 66 rfl))) ?_; clear kk; intro a kk
  refine opL_store 8 (w' := (w1.setCell ⟨rb, 5, none⟩ (.slice none 0 0))) (by kernel_rfl) ?_ ?_
  · exact frY rfl (k_storeL rfl (kk.e 67 rfl) (kk.e 64 rfl) B1 (by omega))
  obtain ⟨w2, hw2⟩ : ∃ wn, wn = w1.setCell ⟨rb, 5, none⟩ (.slice none 0 0) := ⟨_, rfl⟩
  rw [← hw2]
  have B2 : Blk w2 rb 28 (cs.setIfInBounds 5 (.slice none 0 0)) := by rw [hw2]; exact B1.set 5 _
  have e2 : ∀ B, Exc B rb w1 w2 := by rw [hw2]; exact exc_set w1 rb 5 _
  clear hw2
  have ee : Exc w.heap.size rb w w2 := (Exc.of l1).trans (e2 _)
  replace kk := kk.keep [65, 58, 48, 38, 28, 18, 8, 7, 2, 1, 0] rfl
  refine opk 9 6 kk (frY rfl (k_assign rfl (kk.e 65 rfl))) ?_; clear kk; intro a kk
  refine wp_seq ?_
  refine wpr 2 ?_
  refine opk 0 88 kk (frY rfl (k_move rfl (kk.e 6 rfl))) ?_; clear kk; intro a kk
  replace kk := kk.keep [88, 58, 48, 38, 28, 18, 8, 7, 2, 1, 0] rfl
  refine opk 1 6 kk (frY rfl (k_assign rfl (kk.e 88 rfl))) ?_; clear kk; intro a kk
  refine wp_ret ?_
  refine hfin a _ ?_
  exact ⟨kk.d, _, results_tmp rfl _ _ _, _, rfl, (kk.g 6 rfl), B2, ee⟩

set_option maxRecDepth 100000 in
set_option maxHeartbeats 1000000 in
theorem sv_6_yes (rb : Nat) (cs : Array Value) (h8 : cs.size = 8) (s : List UInt8) (w : World) (hT : Tabs w) (hl : s.length ≤ 100000) (hB : Blk w rb 28 cs) (L : List (Int × Int)) (hL : Rfc.plistN s = some L) :
    Calls Tryz.prog 19 #[.pointer (some ⟨rb, 0, none⟩), .int .i64 6, .string ⟨s.toArray⟩] w fun e w' => ∃ v, e = .returned v ∧ (∃ A cap, v = .bool true ∧ OwnN w' w.heap.size (.slice A L.length cap) L ∧ Blk w' rb 28 (cs.setIfInBounds 6 (.slice A L.length cap)) ∧ Exc w.heap.size rb w w') := by
  refine calls_of_wp Tryz.func19 (show Tryz.f19.body = some svBody from rfl) ?_
  generalize hAA : (Act.mk (#[.pointer (some ⟨rb, 0, none⟩), .int .i64 6, .string ⟨s.toArray⟩] ++ Array.replicate (Tryz.f19.ntmps - (#[.pointer (some ⟨rb, 0, none⟩), .int .i64 6, .string ⟨s.toArray⟩] : Array Value).size) undef) []) = a
  have hs : a.tmps.size = 89 := by rw [← hAA]; simp [Tryz.ntmps19]
  have hd : a.defers = [] := by rw [← hAA]
  have h0 : a.tmps.getD 0 undef = .pointer (some ⟨rb, 0, none⟩) := by rw [← hAA]; simp
  have h1 : a.tmps.getD 1 undef = .int .i64 6 := by rw [← hAA]; simp
  have h2 : a.tmps.getD 2 undef = .string ⟨s.toArray⟩ := by rw [← hAA]; simp
  clear hAA
  have kk := (((kn hs hd).p h0).p h1).p h2; clear hs hd h0 h1 h2
  suffices hq : ∀ Q : Exit → Act → World → Prop, (∀ (a' : Act) (w' : World), (bodyPost Tryz.prog Tryz.f19 fun e w' => ∃ v, e = .returned v ∧ (∃ A cap, v = .bool true ∧ OwnN w' w.heap.size (.slice A L.length cap) L ∧ Blk w' rb 28 (cs.setIfInBounds 6 (.slice A L.length cap)) ∧ Exc w.heap.size rb w w')) .ret a' w' → Q .ret a' w') → svBody.wp Tryz.prog Q a w from hq _ (fun _ _ h => h)
  intro Q hfin
  unfold svBody
  conv => arg 2; whnf
  refine wp_seq ?_
  refine wpr 1 ?_
  refine opk 0 6 (v := .bool false) kk (frY rfl (k_assign rfl rfl)) ?_; clear kk; intro a kk
  refine wp_seq ?_
  refine wp_seq ?_
  refine wpr 1 ?_
  refine opk 0 7 kk (frY rfl (k_move rfl (kk.e 1 rfl))) ?_; clear kk; intro a kk
  refine wp_block ?_
  refine wp_seq ?_
  refine wpr 2 ?_
  refine opk 0 9 (v := .bool false) kk (frY rfl (o_eqP rfl (kk.e 7 rfl) rfl rfl)) ?_; clear kk; intro a kk
  refine opk 1 8 kk (frY rfl (k_assign rfl (kk.e 9 rfl))) ?_; clear kk; intro a kk
  refine wp_cond_false (kk.e 8 rfl) ?_
  refine wp_seq ?_
  refine wpr 2 ?_
  refine opk 0 19 (v := .bool false) kk (frY rfl (o_eqP rfl (kk.e 7 rfl) rfl rfl)) ?_; clear kk; intro a kk
  refine opk 1 18 kk (frY rfl (k_assign rfl (kk.e 19 rfl))) ?_; clear kk; intro a kk
  refine wp_cond_false (kk.e 18 rfl) ?_
  refine wp_seq ?_
  refine wpr 2 ?_
  refine opk 0 29 (v := .bool false) kk (frY rfl (o_eqP rfl (kk.e 7 rfl) rfl rfl)) ?_; clear kk; intro a kk
  refine opk 1 28 kk (frY rfl (k_assign rfl (kk.e 29 rfl))) ?_; clear kk; intro a kk
  refine wp_cond_false (kk.e 28 rfl) ?_
  refine wp_seq ?_
  refine wpr 2 ?_
  refine opk 0 39 (v := .bool false) kk (frY rfl (o_eqP rfl (kk.e 7 rfl) rfl rfl)) ?_; clear kk; intro a kk
  refine opk 1 38 kk (frY rfl (k_assign rfl (kk.e 39 rfl))) ?_; clear kk; intro a kk
  refine wp_cond_false (kk.e 38 rfl) ?_
  refine wp_seq ?_
  refine wpr 2 ?_
  refine opk 0 49 (v := .bool false) kk (frY rfl (o_eqP rfl (kk.e 7 rfl) rfl rfl)) ?_; clear kk; intro a kk
  refine opk 1 48 kk (frY rfl (k_assign rfl (kk.e 49 rfl))) ?_; clear kk; intro a kk
  refine wp_cond_false (kk.e 48 rfl) ?_
  refine wp_seq ?_
  refine wpr 2 ?_
  refine opk 0 59 (v := .bool false) kk (frY rfl (o_eqP rfl (kk.e 7 rfl) rfl rfl)) ?_; clear kk; intro a kk
  refine opk 1 58 kk (frY rfl (k_assign rfl (kk.e 59 rfl))) ?_; clear kk; intro a kk
  refine wp_cond_false (kk.e 58 rfl) ?_
  refine wp_seq ?_
  refine wpr 2 ?_
  refine opk 0 69 (v := .bool true) kk (frY rfl (o_eqP rfl (kk.e 7 rfl) rfl rfl)) ?_; clear kk; intro a kk
  refine opk 1 68 kk (frY rfl (k_assign rfl (kk.e 69 rfl))) ?_; clear kk; intro a kk
  refine wp_cond_true (kk.e 68 rfl) ?_
  refine wpr 10 ?_
  refine opk 0 71 kk (frY rfl (k_move rfl (kk.e 0 rfl))) ?_; clear kk; intro a kk
  refine opk 1 72 kk (frY rfl (k_move rfl (kk.e 2 rfl))) ?_; clear kk; intro a kk
  have hc := psN_any s w hT hl
  refine opkc 2 73 kk hc (frY rfl (c_plN rfl rfl rfl (kk.e 72 rfl))) ?_; clear kk hc
  rintro v0 w1 a ⟨hLv, l1⟩ F0
  obtain ⟨A, cap, rfl, hO⟩ : ∃ A cap, v0 = .tuple #[.slice A L.length cap, .bool true] ∧ OwnN w1 w.heap.size (.slice A L.length cap) L := by
    unfold LN at hLv
    rw [hL] at hLv
    exact hLv
  clear hLv
  have kk := F0; clear F0
  have B1 := hB.below l1 hB.lt
  refine opk 3 70 kk (frY rfl (k_move rfl (kk.e 73 rfl))) ?_; clear kk; intro a kk
  refine opk 4 74 (v := .slice A L.length cap) kk (frY rfl (k_extract rfl (kk.e 70 rfl) rfl)) ?_; clear kk; intro a kk
  refine opk 5 75 (v := .bool true) kk (frY rfl (k_extract rfl (kk.e 70 rfl) rfl)) ?_; clear kk; intro a kk
  refine opk 6 76 (v := .pointer (some ⟨rb, 0, none⟩)) kk (frY rfl (k_nil rfl (kk.e 71 rfl))) ?_; clear kk; intro a kk
  refine opk 7 77 (v := .pointer (some ⟨rb, 6, none⟩)) kk (frY rfl (k_field6 rfl (kk.e 76 rfl))) ?_; clear kk; intro a kk
  refine opL_store 8 (w' := (w1.setCell ⟨rb, 6, none⟩ (.slice A L.length cap))) (by kernel_rfl) ?_ ?_
  · exact frY rfl (k_storeW rfl (kk.e 77 rfl) (kk.e 74 rfl) B1 (by omega))
  obtain ⟨w2, hw2⟩ : ∃ wn, wn = w1.setCell ⟨rb, 6, none⟩ (.slice A L.length cap) := ⟨_, rfl⟩
  rw [← hw2]
  have B2 : Blk w2 rb 28 (cs.setIfInBounds 6 (.slice A L.length cap)) := by rw [hw2]; exact B1.set 6 _
  have e2 : ∀ B, Exc B rb w1 w2 := by rw [hw2]; exact exc_set w1 rb 6 _
  clear hw2
  have ee : Exc w.heap.size rb w w2 := (Exc.of l1).trans (e2 _)
  replace kk := kk.keep [75, 68, 58, 48, 38, 28, 18, 8, 7, 2, 1, 0] rfl
  refine opk 9 6 kk (frY rfl (k_assign rfl (kk.e 75 rfl))) ?_; clear kk; intro a kk
  refine wp_seq ?_
  refine wpr 2 ?_
  refine opk 0 88 kk (frY rfl (k_move rfl (kk.e 6 rfl))) ?_; clear kk; intro a kk
  replace kk := kk.keep [88, 68, 58, 48, 38, 28, 18, 8, 7, 2, 1, 0] rfl
  refine opk 1 6 kk (frY rfl (k_assign rfl (kk.e 88 rfl))) ?_; clear kk; intro a kk
  refine wp_ret ?_
  refine hfin a _ ?_
  exact ⟨kk.d, _, results_tmp rfl _ _ _, _, rfl, A, cap, (kk.g 6 rfl), hO.exc (e2 w1.heap.size) (fun g hg => ⟨(hO.lt g hg).2, by have := (hO.lt g hg).1; have := hB.lt; omega⟩), B2, ee⟩

set_option maxRecDepth 100000 in
set_option maxHeartbeats 1000000 in
theorem sv_6_no (rb : Nat) (cs : Array Value) (h8 : cs.size = 8) (s : List UInt8) (w : World) (hT : Tabs w) (hl : s.length ≤ 100000) (hB : Blk w rb 28 cs) (hL : Rfc.plistN s = none) :
    Calls Tryz.prog 19 #[.pointer (some ⟨rb, 0, none⟩), .int .i64 6, .string ⟨s.toArray⟩] w fun e w' => ∃ v, e = .returned v ∧ (v = .bool false ∧ Blk w' rb 28 (cs.setIfInBounds 6 (.slice none 0 0)) ∧ Exc w.heap.size rb w w') := by
  refine calls_of_wp Tryz.func19 (show Tryz.f19.body = some svBody from rfl) ?_
  generalize hAA : (Act.mk (#[.pointer (some ⟨rb, 0, none⟩), .int .i64 6, .string ⟨s.toArray⟩] ++ Array.replicate (Tryz.f19.ntmps - (#[.pointer (some ⟨rb, 0, none⟩), .int .i64 6, .string ⟨s.toArray⟩] : Array Value).size) undef) []) = a
  have hs : a.tmps.size = 89 := by rw [← hAA]; simp [Tryz.ntmps19]
  have hd : a.defers = [] := by rw [← hAA]
  have h0 : a.tmps.getD 0 undef = .pointer (some ⟨rb, 0, none⟩) := by rw [← hAA]; simp
  have h1 : a.tmps.getD 1 undef = .int .i64 6 := by rw [← hAA]; simp
  have h2 : a.tmps.getD 2 undef = .string ⟨s.toArray⟩ := by rw [← hAA]; simp
  clear hAA
  have kk := (((kn hs hd).p h0).p h1).p h2; clear hs hd h0 h1 h2
  suffices hq : ∀ Q : Exit → Act → World → Prop, (∀ (a' : Act) (w' : World), (bodyPost Tryz.prog Tryz.f19 fun e w' => ∃ v, e = .returned v ∧ (v = .bool false ∧ Blk w' rb 28 (cs.setIfInBounds 6 (.slice none 0 0)) ∧ Exc w.heap.size rb w w')) .ret a' w' → Q .ret a' w') → svBody.wp Tryz.prog Q a w from hq _ (fun _ _ h => h)
  intro Q hfin
  unfold svBody
  conv => arg 2; whnf
  refine wp_seq ?_
  refine wpr 1 ?_
  refine opk 0 6 (v := .bool false) kk (frY rfl (k_assign rfl rfl)) ?_; clear kk; intro a kk
  refine wp_seq ?_
  refine wp_seq ?_
  refine wpr 1 ?_
  refine opk 0 7 kk (frY rfl (k_move rfl (kk.e 1 rfl))) ?_; clear kk; intro a kk
  refine wp_block ?_
  refine wp_seq ?_
  refine wpr 2 ?_
  refine opk 0 9 (v := .bool false) kk (frY rfl (o_eqP rfl (kk.e 7 rfl) rfl rfl)) ?_; clear kk; intro a kk
  refine opk 1 8 kk (frY rfl (k_assign rfl (kk.e 9 rfl))) ?_; clear kk; intro a kk
  refine wp_cond_false (kk.e 8 rfl) ?_
  refine wp_seq ?_
  refine wpr 2 ?_
  refine opk 0 19 (v := .bool false) kk (frY rfl (o_eqP rfl (kk.e 7 rfl) rfl rfl)) ?_; clear kk; intro a kk
  refine opk 1 18 kk (frY rfl (k_assign rfl (kk.e 19 rfl))) ?_; clear kk; intro a kk
  refine wp_cond_false (kk.e 18 rfl) ?_
  refine wp_seq ?_
  refine wpr 2 ?_
  refine opk 0 29 (v := .bool false) kk (frY rfl (o_eqP rfl (kk.e 7 rfl) rfl rfl)) ?_; clear kk; intro a kk
  refine opk 1 28 kk (frY rfl (k_assign rfl (kk.e 29 rfl))) ?_; clear kk; intro a kk
  refine wp_cond_false (kk.e 28 rfl) ?_
  refine wp_seq ?_
  refine wpr 2 ?_
  refine opk 0 39 (v := .bool false) kk (frY rfl (o_eqP rfl (kk.e 7 rfl) rfl rfl)) ?_; clear kk; intro a kk
  refine opk 1 38 kk (frY rfl (k_assign rfl (kk.e 39 rfl))) ?_; clear kk; intro a kk
  refine wp_cond_false (kk.e 38 rfl) ?_
  refine wp_seq ?_
  refine wpr 2 ?_
  refine opk 0 49 (v := .bool false) kk (frY rfl (o_eqP rfl (kk.e 7 rfl) rfl rfl)) ?_; clear kk; intro a kk
  refine opk 1 48 kk (frY rfl (k_assign rfl (kk.e 49 rfl))) ?_; clear kk; intro a kk
  refine wp_cond_false (kk.e 48 rfl) ?_
  refine wp_seq ?_
  refine wpr 2 ?_
  refine opk 0 59 (v := .bool false) kk (frY rfl (o_eqP rfl (kk.e 7 rfl) rfl rfl)) ?_; clear kk; intro a kk
  refine opk 1 58 kk (frY rfl (k_assign rfl (kk.e 59 rfl))) ?_; clear kk; intro a kk
  refine wp_cond_false (kk.e 58 rfl) ?_
  refine wp_seq ?_
  refine wpr 2 ?_
  refine opk 0 69 (v := .bool true) kk (frY rfl (o_eqP rfl (kk.e 7 rfl) rfl rfl)) ?_; clear kk; intro a kk
  refine opk 1 68 kk (frY rfl (k_assign rfl (kk.e 69 rfl))) ?_; clear kk; intro a kk
  refine wp_cond_true (kk.e 68 rfl) ?_
  refine wpr 10 ?_
  refine opk 0 71 kk (frY rfl (k_move rfl (kk.e 0 rfl))) ?_; clear kk; intro a kk
  refine opk 1 72 kk (frY rfl (k_move rfl (kk.e 2 rfl))) ?_; clear kk; intro a kk
  have hc := psN_any s w hT hl
  refine opkc 2 73 kk hc (frY rfl (c_plN rfl rfl rfl (kk.e 72 rfl))) ?_; clear kk hc
  rintro v0 w1 a ⟨hLv, l1⟩ F0
  obtain rfl : v0 = .tuple #[.slice none 0 0, .bool false] := by
    unfold LN at hLv
    rw [hL] at hLv
    exact hLv
  clear hLv
  have kk := F0; clear F0
  have B1 := hB.below l1 hB.lt
  refine opk 3 70 kk (frY rfl (k_move rfl (kk.e 73 rfl))) ?_; clear kk; intro a kk
  refine opk 4 74 (v := .slice none 0 0) kk (frY rfl (k_extract rfl (kk.e 70 rfl) rfl)) ?_; clear kk; intro a kk
  refine opk 5 75 (v := .bool false) kk (frY rfl (k_extract rfl (kk.e 70 rfl) rfl)) ?_; clear kk; intro a kk
  refine opk 6 76 (v := .pointer (some ⟨rb, 0, none⟩)) kk (frY rfl (k_nil rfl (kk.e 71 rfl))) ?_; clear kk; intro a kk
  refine opk 7 77 (v := .pointer (some ⟨rb, 6, none⟩)) kk (frY rfl (k_field6 rfl (kk.e 76 rfl))) ?_; clear kk; intro a kk
  refine opL_store 8 (w' := (w1.setCell ⟨rb, 6, none⟩ (.slice none 0 0))) (by kernel_rfl) ?_ ?_
  · exact frY rfl (k_storeW rfl (kk.e 77 rfl) (kk.e 74 rfl) B1 (by omega))
  obtain ⟨w2, hw2⟩ : ∃ wn, wn = w1.setCell ⟨rb, 6, none⟩ (.slice none 0 0) := ⟨_, rfl⟩
  rw [← hw2]
  have B2 : Blk w2 rb 28 (cs.setIfInBounds 6 (.slice none 0 0)) := by rw [hw2]; exact B1.set 6 _
  have e2 : ∀ B, Exc B rb w1 w2 := by rw [hw2]; exact exc_set w1 rb 6 _
  clear hw2
  have ee : Exc w.heap.size rb w w2 := (Exc.of l1).trans (e2 _)
  replace kk := kk.keep [75, 68, 58, 48, 38, 28, 18, 8, 7, 2, 1, 0] rfl
  refine opk 9 6 kk (frY rfl (k_assign rfl (kk.e 75 rfl))) ?_; clear kk; intro a kk
  refine wp_seq ?_
  refine wpr 2 ?_
  refine opk 0 88 kk (frY rfl (k_move rfl (kk.e 6 rfl))) ?_; clear kk; intro a kk
  replace kk := kk.keep [88, 68, 58, 48, 38, 28, 18, 8, 7, 2, 1, 0] rfl
  refine opk 1 6 kk (frY rfl (k_assign rfl (kk.e 88 rfl))) ?_; clear kk; intro a kk
  refine wp_ret ?_
  refine hfin a _ ?_
  exact ⟨kk.d, _, results_tmp rfl _ _ _, _, rfl, (kk.g 6 rfl), B2, ee⟩

set_option maxRecDepth 100000 in
set_option maxHeartbeats 1000000 in
theorem sv_7_yes (rb : Nat) (cs : Array Value) (h8 : cs.size = 8) (s : List UInt8) (w : World) (hT : Tabs w) (hl : s.length ≤ 100000) (hB : Blk w rb 28 cs) (L : List (Int)) (hL : Rfc.plistI s = some L) :
    Calls Tryz.prog 19 #[.pointer (some ⟨rb, 0, none⟩), .int .i64 7, .string ⟨s.toArray⟩] w fun e w' => ∃ v, e = .returned v ∧ (∃ A cap, v = .bool true ∧ OwnI w' w.heap.size (.slice A L.length cap) L ∧ Blk w' rb 28 (cs.setIfInBounds 7 (.slice A L.length cap)) ∧ Exc w.heap.size rb w w') := by
  refine calls_of_wp Tryz.func19 (show Tryz.f19.body = some svBody from rfl) ?_
  generalize hAA : (Act.mk (#[.pointer (some ⟨rb, 0, none⟩), .int .i64 7, .string ⟨s.toArray⟩] ++ Array.replicate (Tryz.f19.ntmps - (#[.pointer (some ⟨rb, 0, none⟩), .int .i64 7, .string ⟨s.toArray⟩] : Array Value).size) undef) []) = a
  have hs : a.tmps.size = 89 := by rw [← hAA]; simp [Tryz.ntmps19]
  have hd : a.defers = [] := by rw [← hAA]
  have h0 : a.tmps.getD 0 undef = .pointer (some ⟨rb, 0, none⟩) := by rw [← hAA]; simp
  have h1 : a.tmps.getD 1 undef = .int .i64 7 := by rw [← hAA]; simp
  have h2 : a.tmps.getD 2 undef = .string ⟨s.toArray⟩ := by rw [← hAA]; simp
  clear hAA
  have kk := (((kn hs hd).p h0).p h1).p h2; clear hs hd h0 h1 h2
  suffices hq : ∀ Q : Exit → Act → World → Prop, (∀ (a' : Act) (w' : World), (bodyPost Tryz.prog Tryz.f19 fun e w' => ∃ v, e = .returned v ∧ (∃ A cap, v = .bool true ∧ OwnI w' w.heap.size (.slice A L.length cap) L ∧ Blk w' rb 28 (cs.setIfInBounds 7 (.slice A L.length cap)) ∧ Exc w.heap.size rb w w')) .ret a' w' → Q .ret a' w') → svBody.wp Tryz.prog Q a w from hq _ (fun _ _ h => h)
  intro Q hfin
  unfold svBody
  conv => arg 2; whnf
  refine wp_seq ?_
  refine wpr 1 ?_
  refine opk 0 6 (v := .bool false) kk (frY rfl (k_assign rfl rfl)) ?_; clear kk; intro a kk
  refine wp_seq ?_
  refine wp_seq ?_
  refine wpr 1 ?_
  refine opk 0 7 kk (frY rfl (k_move rfl (kk.e 1 rfl))) ?_; clear kk; intro a kk
  refine wp_block ?_
  refine wp_seq ?_
  refine wpr 2 ?_
  refine opk 0 9 (v := .bool false) kk (frY rfl (o_eqP rfl (kk.e 7 rfl) rfl rfl)) ?_; clear kk; intro a kk
  refine opk 1 8 kk (frY rfl (k_assign rfl (kk.e 9 rfl))) ?_; clear kk; intro a kk
  refine wp_cond_false (kk.e 8 rfl) ?_
  refine wp_seq ?_
  refine wpr 2 ?_
  refine opk 0 19 (v := .bool false) kk (frY rfl (o_eqP rfl (kk.e 7 rfl) rfl rfl)) ?_; clear kk; intro a kk
  refine opk 1 18 kk (frY rfl (k_assign rfl (kk.e 19 rfl))) ?_; clear kk; intro a kk
  refine wp_cond_false (kk.e 18 rfl) ?_
  refine wp_seq ?_
  refine wpr 2 ?_
  refine opk 0 29 (v := .bool false) kk (frY rfl (o_eqP rfl (kk.e 7 rfl) rfl rfl)) ?_; clear kk; intro a kk
  refine opk 1 28 kk (frY rfl (k_assign rfl (kk.e 29 rfl))) ?_; clear kk; intro a kk
  refine wp_cond_false (kk.e 28 rfl) ?_
  refine wp_seq ?_
  refine wpr 2 ?_
  refine opk 0 39 (v := .bool false) kk (frY rfl (o_eqP rfl (kk.e 7 rfl) rfl rfl)) ?_; clear kk; intro a kk
  refine opk 1 38 kk (frY rfl (k_assign rfl (kk.e 39 rfl))) ?_; clear kk; intro a kk
  refine wp_cond_false (kk.e 38 rfl) ?_
  refine wp_seq ?_
  refine wpr 2 ?_
  refine opk 0 49 (v := .bool false) kk (frY rfl (o_eqP rfl (kk.e 7 rfl) rfl rfl)) ?_; clear kk; intro a kk
  refine opk 1 48 kk (frY rfl (k_assign rfl (kk.e 49 rfl))) ?_; clear kk; intro a kk
  refine wp_cond_false (kk.e 48 rfl) ?_
  refine wp_seq ?_
  refine wpr 2 ?_
  refine opk 0 59 (v := .bool false) kk (frY rfl (o_eqP rfl (kk.e 7 rfl) rfl rfl)) ?_; clear kk; intro a kk
  refine opk 1 58 kk (frY rfl (k_assign rfl (kk.e 59 rfl))) ?_; clear kk; intro a kk
  refine wp_cond_false (kk.e 58 rfl) ?_
  refine wp_seq ?_
  refine wpr 2 ?_
  refine opk 0 69 (v := .bool false) kk (frY rfl (o_eqP rfl (kk.e 7 rfl) rfl rfl)) ?_; clear kk; intro a kk
  refine opk 1 68 kk (frY rfl (k_assign rfl (kk.e 69 rfl))) ?_; clear kk; intro a kk
  refine wp_cond_false (kk.e 68 rfl) ?_
  refine wp_seq ?_
  refine wpr 2 ?_
  refine opk 0 79 (v := .bool true) kk (frY rfl (o_eqP rfl (kk.e 7 rfl) rfl rfl)) ?_; clear kk; intro a kk
  refine opk 1 78 kk (frY rfl (k_assign rfl (kk.e 79 rfl))) ?_; clear kk; intro a kk
  refine wp_cond_true (kk.e 78 rfl) ?_
  refine wpr 10 ?_
  refine opk 0 81 kk (frY rfl (k_move rfl (kk.e 0 rfl))) ?_; clear kk; intro a kk
  refine opk 1 82 kk (frY rfl (k_move rfl (kk.e 2 rfl))) ?_; clear kk; intro a kk
  have hc := psI_any s w hT hl
  refine opkc 2 83 kk hc (frY rfl (c_plI rfl rfl rfl (kk.e 82 rfl))) ?_; clear kk hc
  rintro v0 w1 a ⟨hLv, l1⟩ F0
  obtain ⟨A, cap, rfl, hO⟩ : ∃ A cap, v0 = .tuple #[.slice A L.length cap, .bool true] ∧ OwnI w1 w.heap.size (.slice A L.length cap) L := by
    unfold LI at hLv
    rw [hL] at hLv
    exact hLv
  clear hLv
  have kk := F0; clear F0
  have B1 := hB.below l1 hB.lt
  refine opk 3 80 kk (frY rfl (k_move rfl (kk.e 83 rfl))) ?_; clear kk; intro a kk
  refine opk 4 84 (v := .slice A L.length cap) kk (frY rfl (k_extract rfl (kk.e 80 rfl) rfl)) ?_; clear kk; intro a kk
  refine opk 5 85 (v := .bool true) kk (frY rfl (k_extract rfl (kk.e 80 rfl) rfl)) ?_; clear kk; intro a kk
  refine opk 6 86 (v := .pointer (some ⟨rb, 0, none⟩)) kk (frY rfl (k_nil rfl (kk.e 81 rfl))) ?_; clear kk; intro a kk
  refine opk 7 87 (v := .pointer (some ⟨rb, 7, none⟩)) kk (frY rfl (k_field7 rfl (kk.e 86 rfl))) ?_; clear kk; intro a kk
  refine opL_store 8 (w' := (w1.setCell ⟨rb, 7, none⟩ (.slice A L.length cap))) (by kernel_rfl) ?_ ?_
  · exact frY rfl (k_storeL rfl (kk.e 87 rfl) (kk.e 84 rfl) B1 (by omega))
  obtain ⟨w2, hw2⟩ : ∃ wn, wn = w1.setCell ⟨rb, 7, none⟩ (.slice A L.length cap) := ⟨_, rfl⟩
  rw [← hw2]
  have B2 : Blk w2 rb 28 (cs.setIfInBounds 7 (.slice A L.length cap)) := by rw [hw2]; exact B1.set 7 _
  have e2 : ∀ B, Exc B rb w1 w2 := by rw [hw2]; exact exc_set w1 rb 7 _
  clear hw2
  have ee : Exc w.heap.size rb w w2 := (Exc.of l1).trans (e2 _)
  replace kk := kk.keep [85, 78, 68, 58, 48, 38, 28, 18, 8, 7, 2, 1, 0] rfl
  refine opk 9 6 kk (frY rfl (k_assign rfl (kk.e 85 rfl))) ?_; clear kk; intro a kk
  refine wp_seq ?_
  refine wpr 2 ?_
  refine opk 0 88 kk (frY rfl (k_move rfl (kk.e 6 rfl))) ?_; clear kk; intro a kk
  replace kk := kk.keep [88, 78, 68, 58, 48, 38, 28, 18, 8, 7, 2, 1, 0] rfl
  refine opk 1 6 kk (frY rfl (k_assign rfl (kk.e 88 rfl))) ?_; clear kk; intro a kk
  refine wp_ret ?_
  refine hfin a _ ?_
  exact ⟨kk.d, _, results_tmp rfl _ _ _, _, rfl, A, cap, (kk.g 6 rfl), hO.exc (e2 w1.heap.size) (fun g hg => ⟨(hO.lt g hg).2, by have := (hO.lt g hg).1; have := hB.lt; omega⟩), B2, ee⟩

set_option maxRecDepth 100000 in
set_option maxHeartbeats 1000000 in
theorem sv_7_no (rb : Nat) (cs : Array Value) (h8 : cs.size = 8) (s : List UInt8) (w : World) (hT : Tabs w) (hl : s.length ≤ 100000) (hB : Blk w rb 28 cs) (hL : Rfc.plistI s = none) :
    Calls Tryz.prog 19 #[.pointer (some ⟨rb, 0, none⟩), .int .i64 7, .string ⟨s.toArray⟩] w fun e w' => ∃ v, e = .returned v ∧ (v = .bool false ∧ Blk w' rb 28 (cs.setIfInBounds 7 (.slice none 0 0)) ∧ Exc w.heap.size rb w w') := by
  refine calls_of_wp Tryz.func19 (show Tryz.f19.body = some svBody from rfl) ?_
  generalize hAA : (Act.mk (#[.pointer (some ⟨rb, 0, none⟩), .int .i64 7, .string ⟨s.toArray⟩] ++ Array.replicate (Tryz.f19.ntmps - (#[.pointer (some ⟨rb, 0, none⟩), .int .i64 7, .string ⟨s.toArray⟩] : Array Value).size) undef) []) = a
  have hs : a.tmps.size = 89 := by rw [← hAA]; simp [Tryz.ntmps19]
  have hd : a.defers = [] := by rw [← hAA]
  have h0 : a.tmps.getD 0 undef = .pointer (some ⟨rb, 0, none⟩) := by rw [← hAA]; simp
  have h1 : a.tmps.getD 1 undef = .int .i64 7 := by rw [← hAA]; simp
  have h2 : a.tmps.getD 2 undef = .string ⟨s.toArray⟩ := by rw [← hAA]; simp
  clear hAA
  have kk := (((kn hs hd).p h0).p h1).p h2; clear hs hd h0 h1 h2
  suffices hq : ∀ Q : Exit → Act → World → Prop, (∀ (a' : Act) (w' : World), (bodyPost Tryz.prog Tryz.f19 fun e w' => ∃ v, e = .returned v ∧ (v = .bool false ∧ Blk w' rb 28 (cs.setIfInBounds 7 (.slice none 0 0)) ∧ Exc w.heap.size rb w w')) .ret a' w' → Q .ret a' w') → svBody.wp Tryz.prog Q a w from hq _ (fun _ _ h => h)
  intro Q hfin
  unfold svBody
  conv => arg 2; whnf
  refine wp_seq ?_
  refine wpr 1 ?_
  refine opk 0 6 (v := .bool false) kk (frY rfl (k_assign rfl rfl)) ?_; clear kk; intro a kk
  refine wp_seq ?_
  refine wp_seq ?_
  refine wpr 1 ?_
  refine opk 0 7 kk (frY rfl (k_move rfl (kk.e 1 rfl))) ?_; clear kk; intro a kk
  refine wp_block ?_
  refine wp_seq ?_
  refine wpr 2 ?_
  refine opk 0 9 (v := .bool false) kk (frY rfl (o_eqP rfl (kk.e 7 rfl) rfl rfl)) ?_; clear kk; intro a kk
  refine opk 1 8 kk (frY rfl (k_assign rfl (kk.e 9 rfl))) ?_; clear kk; intro a kk
  refine wp_cond_false (kk.e 8 rfl) ?_
  refine wp_seq ?_
  refine wpr 2 ?_
  refine opk 0 19 (v := .bool false) kk (frY rfl (o_eqP rfl (kk.e 7 rfl) rfl rfl)) ?_; clear kk; intro a kk
  refine opk 1 18 kk (frY rfl (k_assign rfl (kk.e 19 rfl))) ?_; clear kk; intro a kk
  refine wp_cond_false (kk.e 18 rfl) ?_
  refine wp_seq ?_
  refine wpr 2 ?_
  refine opk 0 29 (v := .bool false) kk (frY rfl (o_eqP rfl (kk.e 7 rfl) rfl rfl)) ?_; clear kk; intro a kk
  refine opk 1 28 kk (frY rfl (k_assign rfl (kk.e 29 rfl))) ?_; clear kk; intro a kk
  refine wp_cond_false (kk.e 28 rfl) ?_
  refine wp_seq ?_
  refine wpr 2 ?_
  refine opk 0 39 (v := .bool false) kk (frY rfl (o_eqP rfl (kk.e 7 rfl) rfl rfl)) ?_; clear kk; intro a kk
  refine opk 1 38 kk (frY rfl (k_assign rfl (kk.e 39 rfl))) ?_; clear kk; intro a kk
  refine wp_cond_false (kk.e 38 rfl) ?_
  refine wp_seq ?_
  refine wpr 2 ?_
  refine opk 0 49 (v := .bool false) kk (frY rfl (o_eqP rfl (kk.e 7 rfl) rfl rfl)) ?_; clear kk; intro a kk
  refine opk 1 48 kk (frY rfl (k_assign rfl (kk.e 49 rfl))) ?_; clear kk; intro a kk
  refine wp_cond_false (kk.e 48 rfl) ?_
  refine wp_seq ?_
  refine wpr 2 ?_
  refine opk 0 59 (v := .bool false) kk (frY rfl (o_eqP rfl (kk.e 7 rfl) rfl rfl)) ?_; clear kk; intro a kk
  refine opk 1 58 kk (frY rfl (k_assign rfl (kk.e 59 rfl))) ?_; clear kk; intro a kk
  refine wp_cond_false (kk.e 58 rfl) ?_
  refine wp_seq ?_
  refine wpr 2 ?_
  refine opk 0 69 (v := .bool false) kk (frY rfl (o_eqP rfl (kk.e 7 rfl) rfl rfl)) ?_; clear kk; intro a kk
  refine opk 1 68 kk (frY rfl (k_assign rfl (kk.e 69 rfl))) ?_; clear kk; intro a kk
  refine wp_cond_false (kk.e 68 rfl) ?_
  refine wp_seq ?_
  refine wpr 2 ?_
  refine opk 0 79 (v := .bool true) kk (frY rfl (o_eqP rfl (kk.e 7 rfl) rfl rfl)) ?_; clear kk; intro a kk
  refine opk 1 78 kk (frY rfl (k_assign rfl (kk.e 79 rfl))) ?_; clear kk; intro a kk
  refine wp_cond_true (kk.e 78 rfl) ?_
  refine wpr 10 ?_
  refine opk 0 81 kk (frY rfl (k_move rfl (kk.e 0 rfl))) ?_; clear kk; intro a kk
  refine opk 1 82 kk (frY rfl (k_move rfl (kk.e 2 rfl))) ?_; clear kk; intro a kk
  have hc := psI_any s w hT hl
  refine opkc 2 83 kk hc (frY rfl (c_plI rfl rfl rfl (kk.e 82 rfl))) ?_; clear kk hc
  rintro v0 w1 a ⟨hLv, l1⟩ F0
  obtain rfl : v0 = .tuple #[.slice none 0 0, .bool false] := by
    unfold LI at hLv
    rw [hL] at hLv
    exact hLv
  clear hLv
  have kk := F0; clear F0
  have B1 := hB.below l1 hB.lt
  refine opk 3 80 kk (frY rfl (k_move rfl (kk.e 83 rfl))) ?_; clear kk; intro a kk
  refine opk 4 84 (v := .slice none 0 0) kk (frY rfl (k_extract rfl (kk.e 80 rfl) rfl)) ?_; clear kk; intro a kk
  refine opk 5 85 (v := .bool false) kk (frY rfl (k_extract rfl (kk.e 80 rfl) rfl)) ?_; clear kk; intro a kk
  refine opk 6 86 (v := .pointer (some ⟨rb, 0, none⟩)) kk (frY rfl (k_nil rfl (kk.e 81 rfl))) ?_; clear kk; intro a kk
  refine opk 7 87 (v := .pointer (some ⟨rb, 7, none⟩)) kk (frY rfl (k_field7 rfl (kk.e 86 rfl))) ?_; clear kk; intro a kk
  refine opL_store 8 (w' := (w1.setCell ⟨rb, 7, none⟩ (.slice none 0 0))) (by kernel_rfl) ?_ ?_
  · exact frY rfl (k_storeL rfl (kk.e 87 rfl) (kk.e 84 rfl) B1 (by omega))
  obtain ⟨w2, hw2⟩ : ∃ wn, wn = w1.setCell ⟨rb, 7, none⟩ (.slice none 0 0) := ⟨_, rfl⟩
  rw [← hw2]
  have B2 : Blk w2 rb 28 (cs.setIfInBounds 7 (.slice none 0 0)) := by rw [hw2]; exact B1.set 7 _
  have e2 : ∀ B, Exc B rb w1 w2 := by rw [hw2]; exact exc_set w1 rb 7 _
  clear hw2
  have ee : Exc w.heap.size rb w w2 := (Exc.of l1).trans (e2 _)
  replace kk := kk.keep [85, 78, 68, 58, 48, 38, 28, 18, 8, 7, 2, 1, 0] rfl
  refine opk 9 6 kk (frY rfl (k_assign rfl (kk.e 85 rfl))) ?_; clear kk; intro a kk
  refine wp_seq ?_
  refine wpr 2 ?_
  refine opk 0 88 kk (frY rfl (k_move rfl (kk.e 6 rfl))) ?_; clear kk; intro a kk
  replace kk := kk.keep [88, 78, 68, 58, 48, 38, 28, 18, 8, 7, 2, 1, 0] rfl
  refine opk 1 6 kk (frY rfl (k_assign rfl (kk.e 88 rfl))) ?_; clear kk; intro a kk
  refine wp_ret ?_
  refine hfin a _ ?_
  exact ⟨kk.d, _, results_tmp rfl _ _ _, _, rfl, (kk.g 6 rfl), B2, ee⟩

theorem sv_any (p : Nat) (hp : p < 8) (rb lo : Nat) (r : Rfc.Ru) (s : List UInt8) (w : World) (hT : Tabs w) (hl : s.length ≤ 100000) (hR : RuB w rb lo r) (hlo : rb < lo ∧ lo ≤ w.heap.size) :
    Calls Tryz.prog 19 #[.pointer (some ⟨rb, 0, none⟩), .int .i64 p, .string ⟨s.toArray⟩] w fun e w' => ∃ v, e = .returned v ∧ (v = .bool (Rfc.setF p s r).isSome ∧ (∀ r', Rfc.setF p s r = some r' → RuB w' rb lo r') ∧ (∃ cs, Blk w' rb 28 cs) ∧ Exc w.heap.size rb w w') := by
  obtain ⟨A1, A2, A3, A4, c1, c2, c3, c4, hB, i1, i2, i3, i4⟩ := hR
  match p, hp with
  | 0, _ =>
    refine (sv_0 rb _ rfl s w hT hB).mono ?_
    rintro e w' ⟨v, rfl, rfl, B2, ee⟩
    refine ⟨_, rfl, ?_, fun r' hr => ?_, ⟨_, B2⟩, ee⟩
    · show Value.bool (Rfc.pfreq s).isSome = .bool (Option.map _ (Rfc.pfreq s)).isSome
      rw [Option.isSome_map]
    · obtain ⟨n, hn, rfl⟩ := Option.map_eq_some_iff.1 hr
      rw [hn] at B2
      exact ⟨A1, A2, A3, A4, c1, c2, c3, c4, B2, i1.exc ee hlo.1, i2.exc ee hlo.1, i3.exc ee hlo.1, i4.exc ee hlo.1⟩
  | 1, _ =>
    refine (sv_1 rb _ rfl s w hT hl hB).mono ?_
    rintro e w' ⟨v, rfl, rfl, B2, ee⟩
    refine ⟨_, rfl, ?_, fun r' hr => ?_, ⟨_, B2⟩, ee⟩
    · show Value.bool (Rfc.pnum s).isSome = .bool (Option.map _ (Rfc.pnum s)).isSome
      rw [Option.isSome_map]
    · obtain ⟨n, hn, rfl⟩ := Option.map_eq_some_iff.1 hr
      rw [hn] at B2
      exact ⟨A1, A2, A3, A4, c1, c2, c3, c4, B2, i1.exc ee hlo.1, i2.exc ee hlo.1, i3.exc ee hlo.1, i4.exc ee hlo.1⟩
  | 2, _ =>
    refine (sv_2 rb _ rfl s w hT hl hB).mono ?_
    rintro e w' ⟨v, rfl, rfl, B2, ee⟩
    refine ⟨_, rfl, ?_, fun r' hr => ?_, ⟨_, B2⟩, ee⟩
    · show Value.bool (Rfc.pnz s).isSome = .bool (Option.map _ (Rfc.pnz s)).isSome
      rw [Option.isSome_map]
    · obtain ⟨n, hn, rfl⟩ := Option.map_eq_some_iff.1 hr
      rw [hn] at B2
      exact ⟨A1, A2, A3, A4, c1, c2, c3, c4, B2, i1.exc ee hlo.1, i2.exc ee hlo.1, i3.exc ee hlo.1, i4.exc ee hlo.1⟩
  | 3, _ =>
    refine (sv_3 rb _ rfl s w hT hB).mono ?_
    rintro e w' ⟨v, rfl, rfl, B2, ee⟩
    refine ⟨_, rfl, ?_, fun r' hr => ?_, ⟨_, B2⟩, ee⟩
    · show Value.bool (Rfc.pday s).isSome = .bool (Option.map _ (Rfc.pday s)).isSome
      rw [Option.isSome_map]
    · obtain ⟨n, hn, rfl⟩ := Option.map_eq_some_iff.1 hr
      rw [hn] at B2
      exact ⟨A1, A2, A3, A4, c1, c2, c3, c4, B2, i1.exc ee hlo.1, i2.exc ee hlo.1, i3.exc ee hlo.1, i4.exc ee hlo.1⟩
  | 4, _ =>
    cases hL : Rfc.plistI s with
    | none =>
      refine (sv_4_no rb _ rfl s w hT hl hB hL).mono ?_
      rintro e w' ⟨v, rfl, rfl, B2, ee⟩
      refine ⟨_, rfl, ?_, fun r' hr => ?_, ⟨_, B2⟩, ee⟩
      · show Value.bool false = .bool (Option.map _ (Rfc.plistI s)).isSome
        rw [hL]
        rfl
      · obtain ⟨n, hn, -⟩ := Option.map_eq_some_iff.1 (show Option.map _ (Rfc.plistI s) = some r' from hr)
        rw [hL] at hn
        cases hn
    | some L =>
      refine (sv_4_yes rb _ rfl s w hT hl hB L hL).mono ?_
      rintro e w' ⟨v, rfl, A, cap, rfl, hO, B2, ee⟩
      refine ⟨_, rfl, ?_, fun r' hr => ?_, ⟨_, B2⟩, ee⟩
      · show Value.bool true = .bool (Option.map _ (Rfc.plistI s)).isSome
        rw [hL]
        rfl
      · obtain ⟨n, hn, rfl⟩ := Option.map_eq_some_iff.1 (show Option.map _ (Rfc.plistI s) = some r' from hr)
        rw [hL] at hn
        obtain rfl := Option.some.inj hn
        exact ⟨A, A2, A3, A4, cap, c2, c3, c4, B2, hO.inn' hlo.2, i2.exc ee hlo.1, i3.exc ee hlo.1, i4.exc ee hlo.1⟩
  | 5, _ =>
    cases hL : Rfc.plistI s with
    | none =>
      refine (sv_5_no rb _ rfl s w hT hl hB hL).mono ?_
      rintro e w' ⟨v, rfl, rfl, B2, ee⟩
      refine ⟨_, rfl, ?_, fun r' hr => ?_, ⟨_, B2⟩, ee⟩
      · show Value.bool false = .bool (Option.map _ (Rfc.plistI s)).isSome
        rw [hL]
        rfl
      · obtain ⟨n, hn, -⟩ := Option.map_eq_some_iff.1 (show Option.map _ (Rfc.plistI s) = some r' from hr)
        rw [hL] at hn
        cases hn
    | some L =>
      refine (sv_5_yes rb _ rfl s w hT hl hB L hL).mono ?_
      rintro e w' ⟨v, rfl, A, cap, rfl, hO, B2, ee⟩
      refine ⟨_, rfl, ?_, fun r' hr => ?_, ⟨_, B2⟩, ee⟩
      · show Value.bool true = .bool (Option.map _ (Rfc.plistI s)).isSome
        rw [hL]
        rfl
      · obtain ⟨n, hn, rfl⟩ := Option.map_eq_some_iff.1 (show Option.map _ (Rfc.plistI s) = some r' from hr)
        rw [hL] at hn
        obtain rfl := Option.some.inj hn
        exact ⟨A1, A, A3, A4, c1, cap, c3, c4, B2, i1.exc ee hlo.1, hO.inn' hlo.2, i3.exc ee hlo.1, i4.exc ee hlo.1⟩
  | 6, _ =>
    cases hL : Rfc.plistN s with
    | none =>
      refine (sv_6_no rb _ rfl s w hT hl hB hL).mono ?_
      rintro e w' ⟨v, rfl, rfl, B2, ee⟩
      refine ⟨_, rfl, ?_, fun r' hr => ?_, ⟨_, B2⟩, ee⟩
      · show Value.bool false = .bool (Option.map _ (Rfc.plistN s)).isSome
        rw [hL]
        rfl
      · obtain ⟨n, hn, -⟩ := Option.map_eq_some_iff.1 (show Option.map _ (Rfc.plistN s) = some r' from hr)
        rw [hL] at hn
        cases hn
    | some L =>
      refine (sv_6_yes rb _ rfl s w hT hl hB L hL).mono ?_
      rintro e w' ⟨v, rfl, A, cap, rfl, hO, B2, ee⟩
      refine ⟨_, rfl, ?_, fun r' hr => ?_, ⟨_, B2⟩, ee⟩
      · show Value.bool true = .bool (Option.map _ (Rfc.plistN s)).isSome
        rw [hL]
        rfl
      · obtain ⟨n, hn, rfl⟩ := Option.map_eq_some_iff.1 (show Option.map _ (Rfc.plistN s) = some r' from hr)
        rw [hL] at hn
        obtain rfl := Option.some.inj hn
        exact ⟨A1, A2, A, A4, c1, c2, cap, c4, B2, i1.exc ee hlo.1, i2.exc ee hlo.1, hO.inn' hlo.2, i4.exc ee hlo.1⟩
  | 7, _ =>
    cases hL : Rfc.plistI s with
    | none =>
      refine (sv_7_no rb _ rfl s w hT hl hB hL).mono ?_
      rintro e w' ⟨v, rfl, rfl, B2, ee⟩
      refine ⟨_, rfl, ?_, fun r' hr => ?_, ⟨_, B2⟩, ee⟩
      · show Value.bool false = .bool (Option.map _ (Rfc.plistI s)).isSome
        rw [hL]
        rfl
      · obtain ⟨n, hn, -⟩ := Option.map_eq_some_iff.1 (show Option.map _ (Rfc.plistI s) = some r' from hr)
        rw [hL] at hn
        cases hn
    | some L =>
      refine (sv_7_yes rb _ rfl s w hT hl hB L hL).mono ?_
      rintro e w' ⟨v, rfl, A, cap, rfl, hO, B2, ee⟩
      refine ⟨_, rfl, ?_, fun r' hr => ?_, ⟨_, B2⟩, ee⟩
      · show Value.bool true = .bool (Option.map _ (Rfc.plistI s)).isSome
        rw [hL]
        rfl
      · obtain ⟨n, hn, rfl⟩ := Option.map_eq_some_iff.1 (show Option.map _ (Rfc.plistI s) = some r' from hr)
        rw [hL] at hn
        obtain rfl := Option.some.inj hn
        exact ⟨A1, A2, A3, A, c1, c2, c3, cap, B2, i1.exc ee hlo.1, i2.exc ee hlo.1, i3.exc ee hlo.1, hO.inn' hlo.2⟩
end Go.Proofs.YtjdjekpbjnkliaaGreatDoor
